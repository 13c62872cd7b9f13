/-
  Contract: the model's SameParity.
-/
import Derived.Test.YtmobegiojhlakaaSpec4
import Derived.Test.YtmobegiojhlakaaSame
namespace Go.Proofs.Ytmobegiojhlakaa
open Go.RowKit

/-- Are both games valid and equal? -/
noncomputable def samePB (O : List Int) (zss : List (List Int)) (P O' : List Int) (zss' : List (List Int)) (P' : List Int) : Bool := parityB O zss P && (parityB O' zss' P' && (sameB O zss O' zss' && decide (P = P')))

set_option maxHeartbeats 4000000 in
theorem specSameParity_is {w : World} {v v' : Value} {O O' : List Int} {zss zss' : List (List Int)} {P P' : List Int} {r : Bool} (hr : samePB O zss P O' zss' P' = r) (h : GameAt w v O zss P) (h' : GameAt w v' O' zss' P') :
    Calls Try.prog 26 #[v, v'] w fun e w' => e = .returned (.bool r) ∧ Below w.heap.size w w' := by
  have HGa := Lib.hid h
  have HGb := Lib.hid h'
  obtain ⟨ao, an, ap, co, cn, cp, A, C, rfl, h1, h2, h3⟩ := h
  obtain ⟨bo, bn, bp, do', dn, dp, A', C', rfl, g1, g2, g3⟩ := h'
  obtain ⟨w0, hw0⟩ : ∃ y, y = w.alloc (.cells #[.slice ao O.length co, .slice an zss.length cn, .slice ap P.length cp] 32) := ⟨_, rfl⟩
  have hs0 : w0.heap.size = w.heap.size + 1 := by rw [hw0]; simp
  obtain ⟨w1, hw1⟩ : ∃ y, y = w0.alloc (.cells #[.slice bo O'.length do', .slice bn zss'.length dn, .slice bp P'.length dp] 32) := ⟨_, rfl⟩
  have HW0 := Lib.hid hw0
  have HW1 := Lib.hid hw1
  have hb0 : Below w.heap.size w w0 := by rw [hw0]; exact below1 _ _
  have hb1 : Below w0.heap.size w0 w1 := by rw [hw1]; exact below1 _ _
  have B1 : Hid (Below w.heap.size w w1) := hb0.trans (hb1.mono (by omega))
  have Ta1 : Hid (Box3 w1 w.heap.size 32 (.slice ao O.length co) (.slice an zss.length cn) (.slice ap P.length cp)) := Box3.below (by rw [hw0]; exact Box3.new _ _ _ _ _) hb1
  have Tb1 : Hid (Box3 w1 (w.heap.size + 1) 32 (.slice bo O'.length do') (.slice bn zss'.length dn) (.slice bp P'.length dp)) := by rw [← hs0, hw1]; exact Box3.new _ _ _ _ _
  have HAa : Hid (ArenaAt w (.agg #[.slice ao O.length co, .slice an zss.length cn]) O zss) := ⟨_, _, _, _, _, _, rfl, h1, h2⟩
  have HAb : Hid (ArenaAt w (.agg #[.slice bo O'.length do', .slice bn zss'.length dn]) O' zss') := ⟨_, _, _, _, _, _, rfl, g1, g2⟩
  have HPa := Lib.hid h3
  have HPb := Lib.hid g3
  clear hw0 hw1 hb0 hb1 hs0 h1 h2 h3 g1 g2 g3
  cases hp : parityB O zss P with
  | false =>
    have HE : Hid (r = false) := by rw [← hr]; unfold samePB; rw [hp]; rfl
    have Hhp := Lib.hid hp
    clear hr hp
    go_enter Try.func26, Try.ntmps26
    have HC := Lib.hid (specParityOk_is Hhp.out (HGa.out.below B1.out))
    go_wp2_with fail
    rw [← HW0.out, ← HW1.out]
    refine HC.out.mono ?_
    rintro e w2 ⟨rfl, hb⟩
    have B2 := Lib.hid (B1.out.trans (hb.mono B1.out.size))
    have Ta2 := Lib.hid (Ta1.out.below hb)
    have Tb2 := Lib.hid (Tb1.out.below hb)
    clear hb HC
    go_wp2
    go_ret
    exact ⟨by rw [HE.out]; rfl, B2.out⟩
  | true =>
    cases hq : parityB O' zss' P' with
    | false =>
      have HE : Hid (r = false) := by rw [← hr]; unfold samePB; rw [hp, hq]; rfl
      have Hhp := Lib.hid hp
      have Hhq := Lib.hid hq
      clear hr hp hq
      go_enter Try.func26, Try.ntmps26
      have HC := Lib.hid (specParityOk_is Hhp.out (HGa.out.below B1.out))
      go_wp2_with fail
      rw [← HW0.out, ← HW1.out]
      refine HC.out.mono ?_
      rintro e w2 ⟨rfl, hb⟩
      have B2 := Lib.hid (B1.out.trans (hb.mono B1.out.size))
      have Ta2 := Lib.hid (Ta1.out.below hb)
      have Tb2 := Lib.hid (Tb1.out.below hb)
      clear hb HC
      have ta0 := Ta2.out.c0
      have ta1 := Ta2.out.c1
      have ta2 := Ta2.out.c2
      have tb0 := Tb2.out.c0
      have tb1 := Tb2.out.c1
      have tb2 := Tb2.out.c2
      have HC := Lib.hid (specParityOk_is Hhq.out (HGb.out.below B2.out))
      go_wp2_with fail
      refine HC.out.mono ?_
      rintro e w3 ⟨rfl, hb⟩
      have B3 := Lib.hid (B2.out.trans (hb.mono B2.out.size))
      have Ta3 := Lib.hid (Ta2.out.below hb)
      have Tb3 := Lib.hid (Tb2.out.below hb)
      clear hb HC ta0 ta1 ta2 tb0 tb1 tb2
      go_wp2
      go_ret
      exact ⟨by rw [HE.out]; rfl, B3.out⟩
    | true =>
      cases hs : sameB O zss O' zss' with
      | false =>
        have HE : Hid (r = false) := by rw [← hr]; unfold samePB; rw [hp, hq, hs]; rfl
        have Hhp := Lib.hid hp
        have Hhq := Lib.hid hq
        have Hhs := Lib.hid hs
        clear hr hp hq hs
        go_enter Try.func26, Try.ntmps26
        have HC := Lib.hid (specParityOk_is Hhp.out (HGa.out.below B1.out))
        go_wp2_with fail
        rw [← HW0.out, ← HW1.out]
        refine HC.out.mono ?_
        rintro e w2 ⟨rfl, hb⟩
        have B2 := Lib.hid (B1.out.trans (hb.mono B1.out.size))
        have Ta2 := Lib.hid (Ta1.out.below hb)
        have Tb2 := Lib.hid (Tb1.out.below hb)
        clear hb HC
        have ta0 := Ta2.out.c0
        have ta1 := Ta2.out.c1
        have ta2 := Ta2.out.c2
        have tb0 := Tb2.out.c0
        have tb1 := Tb2.out.c1
        have tb2 := Tb2.out.c2
        have HC := Lib.hid (specParityOk_is Hhq.out (HGb.out.below B2.out))
        go_wp2_with fail
        refine HC.out.mono ?_
        rintro e w3 ⟨rfl, hb⟩
        have B3 := Lib.hid (B2.out.trans (hb.mono B2.out.size))
        have Ta3 := Lib.hid (Ta2.out.below hb)
        have Tb3 := Lib.hid (Tb2.out.below hb)
        clear hb HC ta0 ta1 ta2 tb0 tb1 tb2
        have ta0 := Ta3.out.c0
        have ta1 := Ta3.out.c1
        have ta2 := Ta3.out.c2
        have tb0 := Tb3.out.c0
        have tb1 := Tb3.out.c1
        have tb2 := Tb3.out.c2
        have HC := Lib.hid (specSameArena_is Hhs.out (HAa.out.below B3.out) (HAb.out.below B3.out))
        go_wp2_with fail
        refine HC.out.mono ?_
        rintro e w4 ⟨rfl, hb⟩
        have B4 := Lib.hid (B3.out.trans (hb.mono B3.out.size))
        have Ta4 := Lib.hid (Ta3.out.below hb)
        have Tb4 := Lib.hid (Tb3.out.below hb)
        clear hb HC ta0 ta1 ta2 tb0 tb1 tb2
        go_wp2
        go_ret
        exact ⟨by rw [HE.out]; rfl, B4.out⟩
      | true =>
        cases hl : decide (P = P') with
        | false =>
          have HE : Hid (r = false) := by rw [← hr]; unfold samePB; rw [hp, hq, hs, hl]; rfl
          have Hhp := Lib.hid hp
          have Hhq := Lib.hid hq
          have Hhs := Lib.hid hs
          have Hhl := Lib.hid hl
          clear hr hp hq hs hl
          go_enter Try.func26, Try.ntmps26
          have HC := Lib.hid (specParityOk_is Hhp.out (HGa.out.below B1.out))
          go_wp2_with fail
          rw [← HW0.out, ← HW1.out]
          refine HC.out.mono ?_
          rintro e w2 ⟨rfl, hb⟩
          have B2 := Lib.hid (B1.out.trans (hb.mono B1.out.size))
          have Ta2 := Lib.hid (Ta1.out.below hb)
          have Tb2 := Lib.hid (Tb1.out.below hb)
          clear hb HC
          have ta0 := Ta2.out.c0
          have ta1 := Ta2.out.c1
          have ta2 := Ta2.out.c2
          have tb0 := Tb2.out.c0
          have tb1 := Tb2.out.c1
          have tb2 := Tb2.out.c2
          have HC := Lib.hid (specParityOk_is Hhq.out (HGb.out.below B2.out))
          go_wp2_with fail
          refine HC.out.mono ?_
          rintro e w3 ⟨rfl, hb⟩
          have B3 := Lib.hid (B2.out.trans (hb.mono B2.out.size))
          have Ta3 := Lib.hid (Ta2.out.below hb)
          have Tb3 := Lib.hid (Tb2.out.below hb)
          clear hb HC ta0 ta1 ta2 tb0 tb1 tb2
          have ta0 := Ta3.out.c0
          have ta1 := Ta3.out.c1
          have ta2 := Ta3.out.c2
          have tb0 := Tb3.out.c0
          have tb1 := Tb3.out.c1
          have tb2 := Tb3.out.c2
          have HC := Lib.hid (specSameArena_is Hhs.out (HAa.out.below B3.out) (HAb.out.below B3.out))
          go_wp2_with fail
          refine HC.out.mono ?_
          rintro e w4 ⟨rfl, hb⟩
          have B4 := Lib.hid (B3.out.trans (hb.mono B3.out.size))
          have Ta4 := Lib.hid (Ta3.out.below hb)
          have Tb4 := Lib.hid (Tb3.out.below hb)
          clear hb HC ta0 ta1 ta2 tb0 tb1 tb2
          have ta0 := Ta4.out.c0
          have ta1 := Ta4.out.c1
          have ta2 := Ta4.out.c2
          have tb0 := Tb4.out.c0
          have tb1 := Tb4.out.c1
          have tb2 := Tb4.out.c2
          have HC := Lib.hid (l1Same_is Hhl.out w4 cp dp (HPa.out.below B4.out) (HPb.out.below B4.out))
          go_wp2_with fail
          refine HC.out.mono ?_
          rintro e w5 ⟨rfl, hq⟩
          have hb := below_same (Below.refl w4.heap.size w4) hq
          have B5 := Lib.hid (B4.out.trans (hb.mono B4.out.size))
          have Ta5 := Lib.hid (Ta4.out.below hb)
          have Tb5 := Lib.hid (Tb4.out.below hb)
          clear hb HC hq ta0 ta1 ta2 tb0 tb1 tb2
          go_wp2
          go_ret
          exact ⟨by rw [HE.out]; rfl, B5.out⟩
        | true =>
          have HE : Hid (r = true) := by rw [← hr]; unfold samePB; rw [hp, hq, hs, hl]; rfl
          have Hhp := Lib.hid hp
          have Hhq := Lib.hid hq
          have Hhs := Lib.hid hs
          have Hhl := Lib.hid hl
          clear hr hp hq hs hl
          go_enter Try.func26, Try.ntmps26
          have HC := Lib.hid (specParityOk_is Hhp.out (HGa.out.below B1.out))
          go_wp2_with fail
          rw [← HW0.out, ← HW1.out]
          refine HC.out.mono ?_
          rintro e w2 ⟨rfl, hb⟩
          have B2 := Lib.hid (B1.out.trans (hb.mono B1.out.size))
          have Ta2 := Lib.hid (Ta1.out.below hb)
          have Tb2 := Lib.hid (Tb1.out.below hb)
          clear hb HC
          have ta0 := Ta2.out.c0
          have ta1 := Ta2.out.c1
          have ta2 := Ta2.out.c2
          have tb0 := Tb2.out.c0
          have tb1 := Tb2.out.c1
          have tb2 := Tb2.out.c2
          have HC := Lib.hid (specParityOk_is Hhq.out (HGb.out.below B2.out))
          go_wp2_with fail
          refine HC.out.mono ?_
          rintro e w3 ⟨rfl, hb⟩
          have B3 := Lib.hid (B2.out.trans (hb.mono B2.out.size))
          have Ta3 := Lib.hid (Ta2.out.below hb)
          have Tb3 := Lib.hid (Tb2.out.below hb)
          clear hb HC ta0 ta1 ta2 tb0 tb1 tb2
          have ta0 := Ta3.out.c0
          have ta1 := Ta3.out.c1
          have ta2 := Ta3.out.c2
          have tb0 := Tb3.out.c0
          have tb1 := Tb3.out.c1
          have tb2 := Tb3.out.c2
          have HC := Lib.hid (specSameArena_is Hhs.out (HAa.out.below B3.out) (HAb.out.below B3.out))
          go_wp2_with fail
          refine HC.out.mono ?_
          rintro e w4 ⟨rfl, hb⟩
          have B4 := Lib.hid (B3.out.trans (hb.mono B3.out.size))
          have Ta4 := Lib.hid (Ta3.out.below hb)
          have Tb4 := Lib.hid (Tb3.out.below hb)
          clear hb HC ta0 ta1 ta2 tb0 tb1 tb2
          have ta0 := Ta4.out.c0
          have ta1 := Ta4.out.c1
          have ta2 := Ta4.out.c2
          have tb0 := Tb4.out.c0
          have tb1 := Tb4.out.c1
          have tb2 := Tb4.out.c2
          have HC := Lib.hid (l1Same_is Hhl.out w4 cp dp (HPa.out.below B4.out) (HPb.out.below B4.out))
          go_wp2_with fail
          refine HC.out.mono ?_
          rintro e w5 ⟨rfl, hq⟩
          have hb := below_same (Below.refl w4.heap.size w4) hq
          have B5 := Lib.hid (B4.out.trans (hb.mono B4.out.size))
          have Ta5 := Lib.hid (Ta4.out.below hb)
          have Tb5 := Lib.hid (Tb4.out.below hb)
          clear hb HC hq ta0 ta1 ta2 tb0 tb1 tb2
          go_wp2
          go_ret
          exact ⟨by rw [HE.out]; rfl, B5.out⟩
end Go.Proofs.Ytmobegiojhlakaa
