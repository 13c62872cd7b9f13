/-
  Contract: the draws' small game (l4Draw).
-/
import Derived.Test.YtokcinhopajniaaGreatDoorParity
import Derived.Test.YtokcinhopajniaaGreatDoorDrawArena
import Derived.Test.YtokcinhopajniaaGreatDoorParity1
import Derived.Deep.RegionHeld3
namespace Go.Proofs.YtokcinhopajniaaGreatDoor
open Go.RowKit

theorem Box3.of_only {w w' : World} {g : Nat} {t : TypeId} {a b c : Value} {S : Nat → Prop} (h : Box3 w g t a b c) (hk : Only S w w') (hs : ¬ S g) : Box3 w' g t a b c := rowIs_only h hk hs

/-- The result's box takes a game. -/
theorem game_stored2 {wr : World} {t n m D : Nat} {x y z a0 a1 a2 : Value} {O P : List Int} {zss : List (List Int)} (hR : Box3 wr t 32 x y z) (h : OwnGame wr n D (.agg #[a0, a1, a2]) O zss P) (hn : m ≤ n) (_ht : m ≤ t) (htn : t < n) :
    OwnGame (((wr.setCell ⟨t, 0, none⟩ a0).setCell ⟨t, 1, none⟩ a1).setCell ⟨t, 2, none⟩ a2) m (((wr.setCell ⟨t, 0, none⟩ a0).setCell ⟨t, 1, none⟩ a1).setCell ⟨t, 2, none⟩ a2).heap.size (.agg #[a0, a1, a2]) O zss P ∧
      Box3 (((wr.setCell ⟨t, 0, none⟩ a0).setCell ⟨t, 1, none⟩ a1).setCell ⟨t, 2, none⟩ a2) t 32 a0 a1 a2 ∧ Only (fun b => b = t) wr (((wr.setCell ⟨t, 0, none⟩ a0).setCell ⟨t, 1, none⟩ a1).setCell ⟨t, 2, none⟩ a2) := by
  have hS : Only (fun b => b = t) wr (((wr.setCell ⟨t, 0, none⟩ a0).setCell ⟨t, 1, none⟩ a1).setCell ⟨t, 2, none⟩ a2) :=
    (((Only.refl (fun b => b = t) wr).setCell (p := ⟨t, 0, none⟩) rfl _).setCell (p := ⟨t, 1, none⟩) rfl _).setCell (p := ⟨t, 2, none⟩) rfl _
  refine ⟨((h.only hS (fun g hg _ e => by omega)).base hn).retop, ?_, hS⟩
  exact World.rowIs.congr (((World.rowIs.set hR 0 a0).set 1 a1).set 2 a2) fun i hi => by
    have h3 : i = 0 ∨ i = 1 ∨ i = 2 := by omega
    rcases h3 with rfl | rfl | rfl <;> simp [tri]

/-- A game by draws. -/
def RollsGame (w : World) (B p : Nat) (ab : Option Addr) (cb : Nat) (bs : List Int) (m : Nat) (e : Ending) (w' : World) : Prop :=
  ∃ v O zss P, e = .returned v ∧ OwnGame w' w.heap.size w'.heap.size v O zss P ∧ O.length ≤ m ∧ zss.length ≤ m ∧ P.length ≤ m ∧ 1 ≤ P.length ∧ Dwn w w' B p ab cb bs

variable {w : World} {B p : Nat} {ab : Option Addr} {cb : Nat} {bs : List Int} {i : Nat} {h : Int}

set_option maxHeartbeats 8000000 in
set_option maxRecDepth 100000 in
theorem l4Draw_is (d : Dr w B p ab cb bs i h) :
    Calls Tryz.prog 119 #[.pointer (some ⟨p, 0, none⟩)] w (RollsGame w B p ab cb bs 8) := by
  obtain ⟨j0, hj, hj0, hj1, hj2⟩ := info_parts info_int
  have hp := d.lt
  have hlow := d.low
  obtain ⟨w0, hw0⟩ : ∃ y, y = w.alloc (.cells #[.slice none 0 0, .slice none 0 0, .slice none 0 0] 32) := ⟨_, rfl⟩
  have HW0 := Lib.hid hw0
  have hs0 : w0.heap.size = w.heap.size + 1 := by rw [hw0]; simp
  have HS0 := Lib.hid hs0
  have D0 : Hid (Dwn w w0 B p ab cb bs) := by rw [hw0]; exact (Dwn.start d).below (below1 _ _)
  have d0 : Hid (Dr w0 B p ab cb bs i h) := by rw [hw0]; exact d.below (below1 _ _)
  have R0 : Hid (Box3 w0 w.heap.size 32 (.slice none 0 0) (.slice none 0 0) (.slice none 0 0)) := by rw [hw0]; exact Box3.new _ _ _ _ _
  clear hw0 d hs0
  go_enter Tryz.func119, Tryz.ntmps119
  go_wp2_with fail
  rw [← HW0.out]
  refine (l1Draw_is d0.out).mono ?_
  rintro e w1 ⟨v, O, zss, rfl, hA, hO1, hO8, hzO, -, hD⟩
  have HZO := Lib.hid hzO
  clear hzO
  obtain ⟨vo, vn, V, rfl, x1, x2, x3⟩ := hA
  obtain ⟨a0, k0, hvs, _, _⟩ := x1.shape
  subst hvs
  obtain ⟨a1, k1, hvs, _, _⟩ := x2.shape
  subst hvs
  have hn1 : w0.heap.size ≤ w1.heap.size := hD.only.size
  have D1 : Hid (Dwn w w1 B p ab cb bs) := ⟨hD.cur, D0.out.only.trans (hD.only), hp, hlow⟩
  have R1 := Lib.hid (R0.out.of_only hD.only (by omega))
  obtain ⟨w2, hw2⟩ : ∃ y, y = w1.alloc (.cells #[.slice a0 O.length k0, .slice a1 zss.length k1, .slice none 0 0] 32) := ⟨_, rfl⟩
  have HW2 := Lib.hid hw2
  have hb2 : Below w1.heap.size w1 w2 := by rw [hw2]; exact below1 _ _
  have D2 := Lib.hid (D1.out.below hb2)
  have R2 := Lib.hid (R1.out.below hb2)
  have HF2 : Hid (Half5 w0.heap.size w2 w1.heap.size (.slice a0 O.length k0) (.slice a1 zss.length k1) (.slice none 0 0) V O zss []) := by
    rw [hw2]
    exact ⟨hn1, tri3_new _ _ _ _ _, (x1.below (below1 _ _)).retop, (x2.below (below1 _ _)).retop, OwnInts.nil _ _ _, x3, fun _ _ _ _ hh => by simp [Value.ownBlock] at hh, fun _ _ hh => by simp [Value.ownBlock] at hh⟩
  clear hw2 hb2 x1 x2 x3 hD D1 R1 D0 d0 R0
  go_wp2_with fail
  rw [← HW2.out]
  obtain ⟨i1, h1, hd1⟩ := D2.out.cur
  refine (l1Below_is (hi := 3) hd1 (by omega) (by omega) (by omega)).mono ?_
  rintro e w3 ⟨x, i2, h2, rfl, hx0, hx1, hd, ho⟩
  have D3 := Lib.hid (D2.out.call hd ho)
  have R3 := Lib.hid (R2.out.of_only ho (by omega))
  have HF3 := Lib.hid (HF2.out.only ho (fun b hb => by have := HS0.out; omega))
  have hwr : IntKind.i64.wrap (3 + x) = 3 + x := IntWalk.i64_in _ (by omega)
  obtain ⟨tp, htp⟩ : ∃ tp, tp = 3 + x := ⟨_, rfl⟩
  have ht0 : 3 ≤ tp := by omega
  have ht1 : tp ≤ 6 := by omega
  have HTP := Lib.hid htp
  clear hd ho hd1 D2 R2 HF2
  go_wp2
  rw [← HTP.out]
  clear htp hx0 hx1 hwr
  go_loopw [5] (fun v wr => ∃ (k : Nat) (vp : Value) (P : List Int), k ≤ O.length ∧ v = .int .i64 k ∧ P.length = k ∧ Hid (Half5 w0.heap.size wr w1.heap.size (.slice a0 O.length k0) (.slice a1 zss.length k1) vp V O zss P) ∧ Hid (Dwn w wr B p ab cb bs) ∧ Hid (Box3 wr w.heap.size 32 (.slice none 0 0) (.slice none 0 0) (.slice none 0 0))) (fun v _ => O.length - (intOf v).toNat)
  case atStart => exact ⟨0, _, [], Nat.zero_le _, rfl, rfl, HF3, D3, R3⟩
  case round =>
    clear HF3 D3 R3
    obtain ⟨k, vp, P, hk, rfl, hPk, HF, HD, HR⟩ := hrel
    have s0 : wr.cell? ⟨w1.heap.size, 0, none⟩ = some (.slice a0 O.length k0) := HF.out.str.cell (i := 0) (by omega)
    by_cases hlt : k < O.length
    · have hi1 : (k : Int) < O.length := by omega
      obtain ⟨a3, c3, hvp, _, _⟩ := HF.out.prio.shape
      subst hvp
      have HOWN9 : Hid (wr.ownsRow w0.heap.size 2 1 (.slice a3 k c3) k (P.map (Value.int .i64))) := by rw [← hPk]; exact HF.out.prio.own
      have HCEL9 : Hid (∀ W' vo' vn' V' O' z', Half5 w0.heap.size W' w1.heap.size vo' vn' (.slice a3 P.length c3) V' O' z' P → W'.cell? ⟨w1.heap.size, 2, none⟩ = some (.slice a3 k c3)) := fun W' vo' vn' V' O' z' h => by
        have h0 : W'.cell? ⟨w1.heap.size, 2, none⟩ = some (.slice a3 P.length c3) := h.str.cell (i := 2) (by omega)
        rw [hPk] at h0
        exact h0
      have t9 := HCEL9.out _ _ _ _ _ _ HF.out
      have hs9 : w0.heap.size ≤ wr.heap.size := by have := HF.out.base; have := HF.out.str.lt; omega
      obtain ⟨i5, h5, hd5⟩ := HD.out.cur
      have HDD9 := Lib.hid (hd5.below (Below.refl _ wr).drew)
      have hp9 : p < w0.heap.size := by have := HS0.out; omega
      clear hd5
      go_wp2
      go_region_law (first
        | (refine step_append_lies _ (by rfl) _ _ _ (by rfl) w0.heap.size 2 j0 (.int .i64 0) 1 8 Tryz.underlying27 hj hj0 hj1 hj2 rfl (by decide) (.slice a3 k c3) k (P.map (Value.int .i64)) (by rfl) (HOWN12.out.alloc _) ⟨w12.heap.size, 0, none⟩ 1 1 [.int .i64 z] (by rfl) (by rfl) (World.news_of_block (cs := #[.int .i64 z]) (t := 2) (fr := (0, 0)) (heap_alloc_new w12 _)) (by simp [Value.oneCell']) (by omega) (by unfold maxLen; omega) (by omega) (by simp; omega) (w12.heap.size + 1) (by simp) ?_; intro g13 cap13 w13 hown13 hgrow13 hat13 hlt13; have hbx13 := game_grown (rowIs_below HH12.out.str (below1 w12 (.cells #[.int .i64 z] 2))) (HOWN12.out.alloc _) (by decide) hgrow13; have q13 : w13.cell? ⟨w1.heap.size, 2, none⟩ = some (.slice a3 P.length c3) := hbx13.cell (i := 2) (by omega); have p13 := hbx13.frozen 2)
        | (go_simp; go_at_call 76; refine (l1Below_is (hi := tp - 1) HDD9.out (by omega) (by omega) (by omega)).mono ?_; rintro e w12 ⟨z, i6, h6, rfl, hz0', hz1', hd, ho⟩; have HO12 : Hid (Only (fun b => b = p) wr w12) := (Only.of_below (Below.refl _ _).drew).trans ho; have HD12 := Lib.hid (HD.out.call hd HO12.out); have HH12 := Lib.hid (HF.out.only HO12.out (fun b hb => by omega)); have HR12 := Lib.hid (HR.out.of_only HO12.out (by omega)); have HOWN12 := Lib.hid (ownsRow_only HOWN9.out HO12.out (fun g hg e => by have := (HOWN9.out.lt g hg).1; omega)); have t12 := HCEL9.out _ _ _ _ _ _ HH12.out; have t12a := HCEL9.out _ _ _ _ _ _ (HH12.out.keep (below1 w12 (.cells #[.int .i64 z] 2))); have hlt12 : wr.heap.size ≤ w12.heap.size := HO12.out.size; clear hd ho))
      all_goals (
        have hg13 : (w12.alloc (.cells #[.int .i64 z] 2)).grownBy w13 (Value.slice a3 P.length c3).ownBlock := by rw [hPk]; exact hgrow13
        have hat14 : (Value.slice a3 P.length c3).ownBlock = some g13 ∨ (w12.alloc (.cells #[.int .i64 z] 2)).heap.size ≤ g13 := by rw [hPk]; exact hat13.imp_right fun h => by simp; omega
        have hp14 := (HH12.out.keep (below1 w12 (.cells #[.int .i64 z] 2))).prior (cap := cap13) (gg := g13) (x := z) (by omega) (by unfold Fits; omega) (by rw [hPk]; exact hown13) hg13 hat14
        rw [hPk] at hp14
        have H14 := Lib.hid hp14.1
        have D14 := Lib.hid ((HD12.out.below (below1 w12 (.cells #[.int .i64 z] 2))).new (hp14.2.mono fun b hb => by have := HS0.out; omega))
        have R14 := Lib.hid (Box3.of_only (rowIs_below HR12.out (below1 w12 (.cells #[.int .i64 z] 2))) hp14.2 (by have := HS0.out; omega))
        clear hp14 hg13 hat14 hown13 hgrow13 hat13 hbx13 q13 p13 t12 t12a t9
        go_wp2
        go_roundw
        case rel => exact ⟨k + 1, _, P ++ [z], by omega, by go_num, by simp; omega, H14, D14, R14⟩
        case measure => simp [intOf]; omega)
    · subst hPk
      have hi1 : ¬ (P.length : Int) < O.length := by omega
      have s1 : wr.cell? ⟨w1.heap.size, 1, none⟩ = some (.slice a1 zss.length k1) := HF.out.str.cell (i := 1) (by omega)
      obtain ⟨a3, c3, hvp, _, _⟩ := HF.out.prio.shape
      subst hvp
      have s2 : wr.cell? ⟨w1.heap.size, 2, none⟩ = some (.slice a3 P.length c3) := HF.out.str.cell (i := 2) (by omega)
      have r0 := HR.out.c0
      have r1 := HR.out.c1
      have r2 := HR.out.c2
      have g0 := World.rowIs.frozen HR.out 0
      have g1 := World.rowIs.frozen HR.out 1
      have g2 := World.rowIs.frozen HR.out 2
      have hst := game_stored2 (n := w0.heap.size) (m := w.heap.size) HR.out HF.out.game (by have := HS0.out; omega) (Nat.le_refl _) (by have := HS0.out; omega)
      have HST := Lib.hid hst
      have DST := Lib.hid (HD.out.new (hst.2.2.mono fun b hb => by omega))
      have u0 := hst.2.1.c0
      have u1 := hst.2.1.c1
      have u2 := hst.2.1.c2
      clear hst
      go_wp2
      exact bodyPost_ret (v := .agg #[.slice a0 O.length k0, .slice a1 zss.length k1, .slice a3 P.length c3]) (by simp [results, Tryz.results119, go_sem, u0, u1, u2]) rfl
        ⟨_, O, zss, P, rfl, HST.out.1, by omega, by have := HZO.out; omega, by omega, by omega, DST.out⟩

end Go.Proofs.YtokcinhopajniaaGreatDoor
