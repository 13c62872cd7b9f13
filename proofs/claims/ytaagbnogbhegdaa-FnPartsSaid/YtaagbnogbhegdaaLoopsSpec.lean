/-
  Contract: the model's LoopsOf.
-/
import Derived.Test.YtaagbnogbhegdaaLoops
import Derived.Test.YtaagbnogbhegdaaWalks1
namespace Go.Proofs.Ytaagbnogbhegdaa
open Go.RowKit

open Classical in
/-- What LoopsOf says. -/
noncomputable def loopsL (O : List Int) (zss : List (List Int)) (S : List Int) : List (List Int) := if ArenaP O zss ∧ setB O.length S = true then loopsS zss S else []

set_option maxHeartbeats 4000000 in
set_option maxRecDepth 100000 in
theorem specLoopsOf_is {w : World} {va : Value} {O : List Int} {zss R : List (List Int)} {aF : Option Addr} {F : List Int} (cF : Nat) (hr : loopsL O zss F = R) (h : ArenaAt w va O zss) (hF : IntsAt w aF F) :
    Calls Try.prog 17 #[va, .slice aF F.length cF] w (GivesLoops w R) := by
  have HAt := Lib.hid h
  have HFi := Lib.hid hF
  have hlF := hF.len
  obtain ⟨ao, an, co, cn, A, C, rfl, h1, h2⟩ := h
  have hlO := h1.len
  have hlN := h2.len
  have HNi := Lib.hid h2
  clear h1 h2 hF
  obtain ⟨W, hW⟩ : ∃ W, W = w.alloc (.cells #[.slice ao O.length co, .slice an zss.length cn] 27) := ⟨_, rfl⟩
  have HW := Lib.hid hW
  have BW : Hid (Below w.heap.size w W) := by rw [hW]; exact below1 _ _
  have bW : Hid (Box2 W w.heap.size 27 (.slice ao O.length co) (.slice an zss.length cn)) := by rw [hW]; exact Box2.new w _ _ _
  clear hW
  cases hA : arenaB O zss with
  | false =>
    have HE : Hid (R = []) := by rw [← hr]; unfold loopsL; rw [if_neg (fun hh => by rw [arenaB_yes hh.1] at hA; cases hA)]; rfl
    have HC := Lib.hid (specArenaOk_at hA (HAt.out.below BW.out))
    clear hA hr
    go_enter Try.func17, Try.ntmps17
    go_wp2_with fail
    rw [← HW.out]
    refine HC.out.mono ?_
    rintro e w1 ⟨rfl, hb⟩
    have B1 := Lib.hid (BW.out.trans (hb.mono BW.out.size))
    have hfin : Hid (OwnRows (w1.alloc (.cells #[] 24)) w.heap.size (w1.alloc (.cells #[] 24)).heap.size (.slice (some ⟨w1.heap.size, 0, none⟩) 0 0) (fun _ => .slice none 0 0) R ∧ Below w.heap.size w (w1.alloc (.cells #[] 24))) := by
      rw [HE.out]
      exact ⟨⟨World.ownsRow_made w1 #[] 0 B1.out.size (by unfold maxLen; omega) rfl, fun g hg => by simp [Value.ownBlock] at hg; simp; omega, by simp, fun k hk => absurd hk (by simp), fun i j hi => absurd hi (by simp)⟩, B1.out.alloc B1.out.size _⟩
    clear hb
    go_wp2
    go_ret
    exact ⟨_, _, rfl, hfin.out⟩
  | true =>
    have HP := Lib.hid (arenaB_iff.1 hA)
    have hO256 := HP.out.2.1
    have hz256 : zss.length ≤ 256 := by rw [HP.out.2.2.1]; exact hO256
    have HC := Lib.hid (specArenaOk_at hA (HAt.out.below BW.out))
    clear hA
    cases hB : setB O.length F with
    | false =>
      have HE : Hid (R = []) := by rw [← hr]; unfold loopsL; rw [if_neg (fun hh => by rw [hh.2] at hB; cases hB)]; rfl
      have HB := Lib.hid hB
      have c0' := bW.out
      clear hr hB c0'
      go_enter Try.func17, Try.ntmps17
      go_wp2_with fail
      rw [← HW.out]
      refine HC.out.mono ?_
      rintro e w1 ⟨rfl, hb⟩
      have B1 := Lib.hid (BW.out.trans (hb.mono BW.out.size))
      have c0 := (bW.out.below hb).cell0
      clear hb
      go_wp2_with fail
      refine (l1Set_is HB.out cF w1 (HFi.out.below B1.out) (Int.natCast_nonneg _) (by omega)).mono ?_
      rintro e w2 ⟨rfl, hq⟩
      have B2 := Lib.hid (below_same B1.out hq)
      have hfin : Hid (OwnRows (w2.alloc (.cells #[] 24)) w.heap.size (w2.alloc (.cells #[] 24)).heap.size (.slice (some ⟨w2.heap.size, 0, none⟩) 0 0) (fun _ => .slice none 0 0) R ∧ Below w.heap.size w (w2.alloc (.cells #[] 24))) := by
        rw [HE.out]
        exact ⟨⟨World.ownsRow_made w2 #[] 0 B2.out.size (by unfold maxLen; omega) rfl, fun g hg => by simp [Value.ownBlock] at hg; simp; omega, by simp, fun k hk => absurd hk (by simp), fun i j hi => absurd hi (by simp)⟩, B2.out.alloc B2.out.size _⟩
      clear hq c0
      go_wp2
      go_ret
      exact ⟨_, _, rfl, hfin.out⟩
    | true =>
      have HE : Hid (loopsS zss F = R) := by rw [← hr]; unfold loopsL; rw [if_pos ⟨HP.out, hB⟩]; rfl
      have HB := Lib.hid hB
      have hFl : F.length ≤ 256 := by
        have hq : (F.length : Int) ≤ (O.length : Int) := setB_len (Int.natCast_nonneg _) hB
        omega
      have HIN := Lib.hid (arena_nats HP.out)
      have HFN : Hid (∀ f ∈ F, ∃ u : Nat, f = (u : Int) ∧ u < zss.length) := by rw [HP.out.2.2.1]; exact set_nats hB
      have HL : Hid (∀ u, u < zss.length → (row zss u).length ≤ 16) := fun u hu => (HP.out.2.2.2 u (by rw [HP.out.2.2.1] at hu; exact hu)).2.2.1
      clear hr hB
      go_enter Try.func17, Try.ntmps17
      go_wp2_with fail
      rw [← HW.out]
      refine HC.out.mono ?_
      rintro e w1 ⟨rfl, hb⟩
      have B1 := Lib.hid (BW.out.trans (hb.mono BW.out.size))
      have b1 := Lib.hid (bW.out.below hb)
      have c0 := b1.out.cell0
      clear hb
      go_wp2_with fail
      refine (l1Set_is HB.out cF w1 (HFi.out.below B1.out) (Int.natCast_nonneg _) (by omega)).mono ?_
      rintro e w2 ⟨rfl, hq⟩
      have hd2 : Below w1.heap.size w1 w2 := below_same (Below.refl _ _) hq
      have B2 := Lib.hid (B1.out.trans (hd2.mono B1.out.size))
      have b2 := Lib.hid (b1.out.below hd2)
      clear hq hd2 c0
      have c1 := b2.out.cell1
      go_wp2_with fail
      refine (l1Loops_is cn cF (HNi.out.below B2.out) (HFi.out.below B2.out) hz256 hFl HL.out HFN.out HIN.out).mono ?_
      rintro e w3 ⟨v, V, rfl, hv, hb⟩
      rw [HE.out] at hv
      have HV := Lib.hid (hv.base (B' := w.heap.size) B2.out.size)
      have B3 := Lib.hid (B2.out.trans (hb.mono B2.out.size))
      clear hv hb c1
      go_wp2
      go_ret
      exact ⟨_, _, rfl, HV.out, B3.out⟩

end Go.Proofs.Ytaagbnogbhegdaa
