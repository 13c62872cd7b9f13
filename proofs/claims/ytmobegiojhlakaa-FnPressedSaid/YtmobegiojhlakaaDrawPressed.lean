/-
  Contract: the model's DrawPressed.
-/
import Derived.Test.YtmobegiojhlakaaDrawGameAny
import Derived.Test.YtmobegiojhlakaaDrawReach
namespace Go.Proofs.Ytmobegiojhlakaa
open Go.RowKit

/-- Some game of its own. -/
def GivesAnyGame (w : World) (m : Nat) (e : Ending) (w' : World) : Prop :=
  ∃ v O zss P, e = .returned v ∧ OwnGame w' w.heap.size w'.heap.size v O zss P ∧ O.length ≤ m ∧ zss.length ≤ m ∧ P.length ≤ m ∧ Below w.heap.size w w'

theorem fits_wrap (x : Int) : Fits (IntKind.i64.wrap x) := by
  rw [IntKind.wrap_i64]; unfold Fits; omega
theorem fits_wrap64 (x : Int) : Fits (wrap64 x) := by unfold wrap64 Fits; omega

set_option maxHeartbeats 16000000 in
set_option maxRecDepth 100000 in
theorem specDrawPressed_is {w : World} {ab : Option Addr} {cb : Nat} {bs : List Int} (hb : BytesAt w ab bs) (hl : bs.length ≤ 4096) :
    Calls Try.prog 25 #[.slice ab bs.length cb] w (GivesAnyGame w 300) := by
  obtain ⟨w0, hw0⟩ : ∃ y, y = w.alloc (.cells #[.slice none 0 0, .slice none 0 0, .slice none 0 0] 32) := ⟨_, rfl⟩
  have HW0 := Lib.hid hw0
  have hs0 : w0.heap.size = w.heap.size + 1 := by rw [hw0]; simp
  have HS0 := Lib.hid hs0
  have B0 : Hid (Below w.heap.size w w0) := by rw [hw0]; exact below1 _ _
  have R0 : Hid (Box3 w0 w.heap.size 32 (.slice none 0 0) (.slice none 0 0) (.slice none 0 0)) := by rw [hw0]; exact Box3.new _ _ _ _ _
  have HB := Lib.hid (hb.below B0.out)
  clear hw0 hb hs0
  go_enter Try.func25, Try.ntmps25
  go_wp2_with fail
  rw [← HW0.out]
  refine (l1New_is HB.out hl).mono ?_
  rintro e w1 ⟨h, rfl, hd, hb1⟩
  have B1 := Lib.hid (B0.out.trans (hb1.mono B0.out.size))
  have R1 := Lib.hid (R0.out.below hb1)
  have D1 := Lib.hid hd
  have hs1 : w0.heap.size ≤ w1.heap.size := hb1.size
  obtain ⟨p, hp⟩ : ∃ p, p = w0.heap.size := ⟨_, rfl⟩
  have HP := Lib.hid hp
  rw [← hp] at D1 ⊢
  have hwp : w.heap.size < p := by have := HS0.out; omega
  have hp1 : p < w1.heap.size := D1.out.lt
  clear hd hb1 hp
  go_wp2_with fail
  refine (l4DrawAny_is D1.out).mono ?_
  rintro e w2 ⟨v, O, zss, P, rfl, hG, hO, hZ, hP, hP1, hD⟩
  obtain ⟨a0, k0, a1, k1, a2, k2, V, rfl, x1, x2, x3, -⟩ := hG.shape6
  obtain ⟨a2', c2', hv2, -, hg2⟩ := x3.shape
  cases hv2
  obtain ⟨og, hog, hog1, hog2, -, -⟩ := hg2 (by omega)
  subst hog
  have hs2 : w1.heap.size ≤ w2.heap.size := hD.only.size
  have B2 := Lib.hid (B1.out.trans (hD.only.below (B := w.heap.size) B1.out.size (fun b hb => by omega)))
  have R2 := Lib.hid (R1.out.of_only hD.only (by omega))
  obtain ⟨i2, g2', hd2⟩ := hD.cur
  obtain ⟨w3, hw3⟩ : ∃ y, y = w2.alloc (.cells #[.slice a0 O.length k0, .slice a1 zss.length k1, .slice (some ⟨og, 0, none⟩) P.length k2] 32) := ⟨_, rfl⟩
  have HW3 := Lib.hid hw3
  have hb3 : Below w2.heap.size w2 w3 := by rw [hw3]; exact below1 _ _
  have B3 := Lib.hid (B2.out.trans (hb3.mono B2.out.size))
  have R3 := Lib.hid (R2.out.below hb3)
  have G3 := Lib.hid (hG.below hb3)
  have U3 : Hid (Box3 w3 w2.heap.size 32 (.slice a0 O.length k0) (.slice a1 zss.length k1) (.slice (some ⟨og, 0, none⟩) P.length k2)) := by rw [hw3]; exact Box3.new _ _ _ _ _
  have D3 : Hid (∃ i h, Dr w3 p p ab cb bs i h) := ⟨_, _, hd2.below hb3⟩
  have hlq : P.length = P.length := rfl
  obtain ⟨n, hn⟩ : ∃ n, n = P.length := ⟨_, rfl⟩
  have HN := Lib.hid hn
  clear hw3 hb3 hg2 x1 x2 x3 hG hD B2 R2 hd2 B1 R1 D1 B0 R0 hlq
  go_wp2
  rw [← HW3.out]
  rw [← hn] at U3 hP hP1 ⊢
  clear hn
  go_loopw [5] (fun v wr => ∃ (k : Nat) (Q : List Int), k ≤ n ∧ v = .int .i64 k ∧ Hid (Q.length = n) ∧ Hid (OwnGame wr w1.heap.size w2.heap.size (.agg #[.slice a0 O.length k0, .slice a1 zss.length k1, .slice (some ⟨og, 0, none⟩) Q.length k2]) O zss Q) ∧ Hid (Box3 wr w2.heap.size 32 (.slice a0 O.length k0) (.slice a1 zss.length k1) (.slice (some ⟨og, 0, none⟩) n k2)) ∧ Hid (∃ i h, Dr wr p p ab cb bs i h) ∧ Hid (Below w.heap.size w wr) ∧ Hid (Box3 wr w.heap.size 32 (.slice none 0 0) (.slice none 0 0) (.slice none 0 0))) (fun v _ => n - (intOf v).toNat)
  case atStart => exact ⟨0, P, Nat.zero_le _, rfl, HN.out.symm, G3, U3, D3, B3, R3⟩
  case round =>
    clear G3 U3 D3 B3 R3
    obtain ⟨k, Q, hk, rfl, HQ, HG, HU, HD, HB', HR⟩ := hrel
    have s2 := HU.out.c2
    by_cases hlt : k < n
    · have hi1 : (k : Int) < n := by omega
      have hk0 : (0 : Int) ≤ (k : Int) := by omega
      have q1 := prio_cell HG.out (j := k) (by rw [HQ.out]; exact hlt)
      obtain ⟨q, hq⟩ : ∃ q, q = nth Q k := ⟨_, rfl⟩
      rw [← hq] at q1
      have HQ0 := Lib.hid hq
      obtain ⟨i5, h5, hd5⟩ := HD.out
      have HDD := Lib.hid (hd5.below (Below.refl _ wr).drew)
      have hsr := HB'.out.size
      have hpr : p < wr.heap.size := hd5.lt
      clear hd5 hq
      go_wp2
      go_region_law (first
        | (go_simp; go_at_call 71; refine (l1Below_is (hi := 4) HDD.out (by omega) (by omega) (by omega)).mono ?_; rintro e w12 ⟨z, i6, h6, rfl, hz0', hz1', hd, ho⟩; have HO12 : Hid (Only (fun b => b = p) wr w12) := (Only.of_below (Below.refl _ _).drew).trans ho; have D12 : Hid (∃ i h, Dr w12 p p ab cb bs i h) := ⟨_, _, hd⟩; have G12 := Lib.hid (HG.out.only HO12.out (fun g hg _ e => by omega)); have U12 := Lib.hid (HU.out.of_only HO12.out (by omega)); have R12 := Lib.hid (HR.out.of_only HO12.out (by omega)); have B12 := Lib.hid (HB'.out.trans (HO12.out.below (B := w.heap.size) hsr (fun b hb => by omega))); have s12 := U12.out.c2; have c12 : w12.cell? ⟨og, k, none⟩ = some (.int .i64 q) := (by rw [HQ0.out]; exact prio_cell G12.out (j := k) (by rw [HQ.out]; exact hlt)); have f12 := prio_frozen G12.out (j := k) (by rw [HQ.out]; exact hlt); have hwx : IntKind.i64.wrap (1 + z) = 1 + z := IntWalk.i64_in _ (by omega); clear hd ho))
      all_goals (
        have hg := G12.out.setPrio (j := k) (x := wrap64 (q * (1 + z))) (by rw [HQ.out]; exact hlt) (fits_wrap64 _)
        rw [show Q.length = (Q.set k (wrap64 (q * (1 + z)))).length by simp] at hg
        have ho : Only (fun b => b = og) w12 (w12.setCell ⟨og, k, none⟩ (.int .i64 (wrap64 (q * (1 + z))))) := (Only.refl (fun b => b = og) w12).setCell (p := ⟨og, k, none⟩) rfl _
        have G13 := Lib.hid hg
        have U13 := Lib.hid (U12.out.of_only ho (by omega))
        have R13 := Lib.hid (R12.out.of_only ho (by omega))
        have B13 := Lib.hid (B12.out.trans (ho.below (B := w.heap.size) B12.out.size (fun b hb => by omega)))
        have D13 : Hid (∃ i h, Dr (w12.setCell ⟨og, k, none⟩ (.int .i64 (wrap64 (q * (1 + z))))) p p ab cb bs i h) := by
          obtain ⟨i, h, hd⟩ := D12.out
          exact ⟨i, h, hd.only ho (fun b hb => ⟨by omega, by omega⟩)⟩
        have Q13 : Hid ((Q.set k (wrap64 (q * (1 + z)))).length = n) := by rw [List.length_set]; exact HQ.out
        clear hg ho s12 c12 f12 s2 q1
        go_wp2
        go_roundw
        case rel => exact ⟨k + 1, _, by omega, by go_num, Q13, G13, U13, D13, B13, R13⟩
        case measure => simp [intOf]; omega)
    · have hi1 : ¬ (k : Int) < n := by omega
      have s0 := HU.out.c0
      have s1 := HU.out.c1
      have r0 := HR.out.c0
      have r1 := HR.out.c1
      have r2 := HR.out.c2
      have g0 := World.rowIs.frozen HR.out 0
      have g1 := World.rowIs.frozen HR.out 1
      have g2 := World.rowIs.frozen HR.out 2
      have hg := HG.out
      rw [HQ.out] at hg
      have hst := game_stored2 (n := w1.heap.size) (m := w.heap.size) HR.out hg (by omega) (Nat.le_refl _) (by omega)
      have HST := Lib.hid hst
      have BST := Lib.hid (HB'.out.trans (hst.2.2.below (B := w.heap.size) HB'.out.size (fun b hb => by omega)))
      have u0 := hst.2.1.c0
      have u1 := hst.2.1.c1
      have u2 := hst.2.1.c2
      clear hst hg
      go_wp2
      exact bodyPost_ret (v := .agg #[.slice a0 O.length k0, .slice a1 zss.length k1, .slice (some ⟨og, 0, none⟩) n k2]) (by simp [results, Try.results25, go_sem, u0, u1, u2]) rfl
        ⟨_, O, zss, Q, rfl, HST.out.1, by omega, by omega, by have := HQ.out; omega, BST.out⟩

end Go.Proofs.Ytmobegiojhlakaa
