/-
  Contracts of the model: l10Vertex, l10Heavier, HeavierIn.
-/
import Derived.Test.YtihaajcmephlmaaPo04
import Derived.Test.YtihaajcmephlmaaWorthMath
namespace Go.Proofs.Ytihaajcmephlmaa
section
open Go.RowKit Go.Shelf

set_option linter.unusedSimpArgs false in
set_option maxRecDepth 100000 in
set_option maxHeartbeats 8000000 in
theorem l10Vertex_is {w : World} {v : Value} {O P : List Int} {zss : List (List Int)} {x : Int} {r : Bool} (hr : thereB P.length x = r) (h : GameAt w v O zss P) :
    Calls Try.prog 45 #[v, .int .i64 x] w fun e w' => e = .returned (.bool r) ∧ Below w.heap.size w w' := by
  have HGm := Lib.hid h
  obtain ⟨ao, an, ap, co, cn, cp, A, C, rfl, h1, h2, h3⟩ := h
  obtain ⟨w1, hw1⟩ : ∃ y, y = w.alloc (.cells #[.slice ao O.length co, .slice an zss.length cn, .slice ap P.length cp] 32) := ⟨_, rfl⟩
  have HW1 := Lib.hid hw1
  have B1 : Hid (Below w.heap.size w w1) := by rw [hw1]; exact below1 _ _
  have T1 : Hid (Box3 w1 w.heap.size 32 (.slice ao O.length co) (.slice an zss.length cn) (.slice ap P.length cp)) := by rw [hw1]; exact Box3.new _ _ _ _ _
  have hl := h3.len
  have hsub : IntKind.i64.wrap ((P.length : Int) - 1) = (P.length : Int) - 1 := by rw [IntKind.wrap_i64]; omega
  have HC := Lib.hid (l1In_is ((thereB_in P.length x).trans hr) w1)
  clear hw1 h1 h2 h3 hr
  go_enter Try.func45, Try.ntmps45
  go_wp2_with fail
  rw [← HW1.out]
  refine HC.out.mono ?_
  rintro e w2 ⟨rfl, rfl⟩
  go_wp2
  go_ret
  exact ⟨rfl, B1.out⟩

set_option linter.unusedSimpArgs false in
set_option maxRecDepth 100000 in
set_option maxHeartbeats 8000000 in
theorem l10Heavier_is {w : World} {v : Value} {O P : List Int} {zss : List (List Int)} {x y : Nat} {r : Bool} (hx : x < P.length) (hy : y < P.length) (hr : heavyB P x y = r) (h : GameAt w v O zss P) :
    Calls Try.prog 46 #[v, .int .i64 x, .int .i64 y] w fun e w' => e = .returned (.bool r) ∧ Below w.heap.size w w' := by
  have HGm := Lib.hid h
  obtain ⟨ao, an, ap, co, cn, cp, A, C, rfl, h1, h2, h3⟩ := h
  obtain ⟨w1, hw1⟩ : ∃ y, y = w.alloc (.cells #[.slice ao O.length co, .slice an zss.length cn, .slice ap P.length cp] 32) := ⟨_, rfl⟩
  have HW1 := Lib.hid hw1
  have B1 : Hid (Below w.heap.size w w1) := by rw [hw1]; exact below1 _ _
  have T1 : Hid (Box3 w1 w.heap.size 32 (.slice ao O.length co) (.slice an zss.length cn) (.slice ap P.length cp)) := by rw [hw1]; exact Box3.new _ _ _ _ _
  have hl := h3.len
  obtain ⟨pb, po, hpa, hpc⟩ := (h3.below B1.out).cell (by omega)
  have p1 := hpc x hx
  have p2 := hpc y hy
  have t2 := T1.out.c2
  have hx0 : (0 : Int) ≤ (x : Int) := by omega
  have hy0 : (0 : Int) ≤ (y : Int) := by omega
  have hx1 : (x : Int) < P.length := by omega
  have hy1 : (y : Int) < P.length := by omega
  have HRY : Hid (heavyB P x y = true → r = true) := fun h => by rw [← hr, h]
  have HRN : Hid (heavyB P x y = false → r = false) := fun h => by rw [← hr, h]
  have HHY := Lib.hid (heavyB_iff (P := P) (x := x) (y := y)).2
  have HHN := Lib.hid (heavyB_no (P := P) (x := x) (y := y)).2
  obtain ⟨p, hp⟩ : ∃ p, p = nth P x := ⟨_, rfl⟩
  obtain ⟨q, hq⟩ : ∃ q, q = nth P y := ⟨_, rfl⟩
  rw [← hp] at p1 HHY HHN
  rw [← hq] at p2 HHY HHN
  subst hpa
  rw [hw1] at p1 p2 t2
  clear hw1 h1 h2 h3 hr hp hq hpc
  by_cases hqp : q < p
  · have HE := Lib.hid (HRY.out (HHY.out (.inl hqp)))
    go_enter Try.func46, Try.ntmps46
    go_wp2_with fail
    go_quiet (fail)
    go_wp2
    go_ret
    exact ⟨ret_bool HE.out.symm, below_drewN (below1 _ _) _⟩
  · by_cases hpq : p = q
    · have heq : (p == q) = true := by simpa using hpq
      by_cases hyx : (y : Int) < (x : Int)
      · have HE := Lib.hid (HRY.out (HHY.out (.inr ⟨hpq, by omega⟩)))
        clear hpq
        go_enter Try.func46, Try.ntmps46
        go_wp2_with fail
        go_quiet (fail)
        go_wp2
        go_ret
        exact ⟨ret_bool HE.out.symm, below_drewN (below1 _ _) _⟩
      · have HE := Lib.hid (HRN.out (HHN.out (fun hh => by omega)))
        clear hpq
        go_enter Try.func46, Try.ntmps46
        go_wp2_with fail
        go_quiet (fail)
        go_wp2
        go_ret
        exact ⟨ret_bool (show _ = r by rw [HE.out]; simp; omega), below_drewN (below1 _ _) _⟩
    · have hne : (p == q) = false := by simpa using hpq
      have HE := Lib.hid (HRN.out (HHN.out (fun hh => by omega)))
      clear hpq
      go_enter Try.func46, Try.ntmps46
      go_wp2_with fail
      go_quiet (fail)
      go_wp2
      go_ret
      exact ⟨ret_bool (show _ = r by rw [HE.out]; simp; omega), below_drewN (below1 _ _) _⟩

set_option linter.unusedSimpArgs false in
set_option maxRecDepth 100000 in
set_option maxHeartbeats 8000000 in
theorem specHeavierIn_is {w : World} {v : Value} {O P : List Int} {zss : List (List Int)} {x y : Int} {r : Bool} (hr : heavierB O zss P x y = r) (h : GameAt w v O zss P) :
    Calls Try.prog 17 #[v, .int .i64 x, .int .i64 y] w fun e w' => e = .returned (.bool r) ∧ Below w.heap.size w w' := by
  have HGm := Lib.hid h
  obtain ⟨ao, an, ap, co, cn, cp, A, C, rfl, h1, h2, h3⟩ := h
  obtain ⟨w1, hw1⟩ : ∃ y, y = w.alloc (.cells #[.slice ao O.length co, .slice an zss.length cn, .slice ap P.length cp] 32) := ⟨_, rfl⟩
  have HW1 := Lib.hid hw1
  have B1 : Hid (Below w.heap.size w w1) := by rw [hw1]; exact below1 _ _
  have T1 : Hid (Box3 w1 w.heap.size 32 (.slice ao O.length co) (.slice an zss.length cn) (.slice ap P.length cp)) := by rw [hw1]; exact Box3.new _ _ _ _ _
  have HAt : Hid (ArenaAt w (.agg #[.slice ao O.length co, .slice an zss.length cn]) O zss) := ⟨ao, an, co, cn, A, C, rfl, h1, h2⟩
  have t0 := T1.out.c0
  have t1 := T1.out.c1
  have t2 := T1.out.c2
  have HS := Lib.hid (l8Small_is rfl (HGm.out.below B1.out))
  clear h1 h2 h3
  cases hs : smallB O zss P with
  | false =>
    rw [hs] at HS
    have HE : Hid (r = false) := by rw [← hr]; exact heavier_small hs
    clear hr hw1
    go_enter Try.func17, Try.ntmps17
    go_wp2_with fail
    rw [← HW1.out]
    go_wp2_with fail
    refine HS.out.mono ?_
    rintro e w2 ⟨rfl, hb⟩
    have B2 := Lib.hid (B1.out.trans (hb.mono B1.out.size))
    have T2 := Lib.hid (T1.out.below hb)
    clear hb HS t0 t1 t2
    have t0 := T2.out.c0
    have t1 := T2.out.c1
    have t2 := T2.out.c2
    go_wp2
    go_ret
    exact ⟨ret_bool HE.out.symm, B2.out⟩
  | true =>
    rw [hs] at HS
    obtain ⟨hlO, hl12⟩ := small_len hs
    have HLO := Lib.hid hlO
    clear hlO
    cases hx : thereB O.length x with
    | false =>
      have HX : Hid (thereB P.length x = false) := by rw [Hid, HLO.out]; exact hx
      have HE : Hid (r = false) := by rw [← hr]; exact heavier_x hx
      clear hr hw1
      go_enter Try.func17, Try.ntmps17
      go_wp2_with fail
      rw [← HW1.out]
      go_wp2_with fail
      refine HS.out.mono ?_
      rintro e w2 ⟨rfl, hb⟩
      have B2 := Lib.hid (B1.out.trans (hb.mono B1.out.size))
      have T2 := Lib.hid (T1.out.below hb)
      clear hb HS t0 t1 t2
      have t0 := T2.out.c0
      have t1 := T2.out.c1
      have t2 := T2.out.c2
      go_wp2_with fail
      refine (l10Vertex_is HX.out (HGm.out.below B2.out)).mono ?_
      rintro e w3 ⟨rfl, hb⟩
      have B3 := Lib.hid (B2.out.trans (hb.mono B2.out.size))
      have T3 := Lib.hid (T2.out.below hb)
      clear hb t0 t1 t2
      have t0 := T3.out.c0
      have t1 := T3.out.c1
      have t2 := T3.out.c2
      go_wp2
      go_ret
      exact ⟨ret_bool HE.out.symm, B3.out⟩
    | true =>
      have HX : Hid (thereB P.length x = true) := by rw [Hid, HLO.out]; exact hx
      cases hy : thereB O.length y with
      | false =>
        have HY : Hid (thereB P.length y = false) := by rw [Hid, HLO.out]; exact hy
        have HE : Hid (r = false) := by rw [← hr]; exact heavier_y hy
        clear hr hw1
        go_enter Try.func17, Try.ntmps17
        go_wp2_with fail
        rw [← HW1.out]
        go_wp2_with fail
        refine HS.out.mono ?_
        rintro e w2 ⟨rfl, hb⟩
        have B2 := Lib.hid (B1.out.trans (hb.mono B1.out.size))
        have T2 := Lib.hid (T1.out.below hb)
        clear hb HS t0 t1 t2
        have t0 := T2.out.c0
        have t1 := T2.out.c1
        have t2 := T2.out.c2
        go_wp2_with fail
        refine (l10Vertex_is HX.out (HGm.out.below B2.out)).mono ?_
        rintro e w3 ⟨rfl, hb⟩
        have B3 := Lib.hid (B2.out.trans (hb.mono B2.out.size))
        have T3 := Lib.hid (T2.out.below hb)
        clear hb t0 t1 t2
        have t0 := T3.out.c0
        have t1 := T3.out.c1
        have t2 := T3.out.c2
        go_wp2_with fail
        refine (l10Vertex_is HY.out (HGm.out.below B3.out)).mono ?_
        rintro e w4 ⟨rfl, hb⟩
        have B4 := Lib.hid (B3.out.trans (hb.mono B3.out.size))
        have T4 := Lib.hid (T3.out.below hb)
        clear hb t0 t1 t2
        have t0 := T4.out.c0
        have t1 := T4.out.c1
        have t2 := T4.out.c2
        go_wp2
        go_ret
        exact ⟨ret_bool HE.out.symm, B4.out⟩
      | true =>
        obtain ⟨hx0, hx1⟩ := thereB_iff.1 hx
        obtain ⟨hy0, hy1⟩ := thereB_iff.1 hy
        obtain ⟨i, rfl⟩ : ∃ i : Nat, x = (i : Int) := ⟨x.toNat, by omega⟩
        obtain ⟨j, rfl⟩ : ∃ j : Nat, y = (j : Int) := ⟨y.toNat, by omega⟩
        have HY : Hid (thereB P.length (j : Int) = true) := by rw [Hid, HLO.out]; exact hy
        have hi : i < P.length := by have := HLO.out; omega
        have hj : j < P.length := by have := HLO.out; omega
        have HE : Hid (r = heavyB P i j) := by rw [← hr]; exact heavier_yes hs hx hy
        clear hr hw1 hx0 hx1 hy0 hy1
        go_enter Try.func17, Try.ntmps17
        go_wp2_with fail
        rw [← HW1.out]
        go_wp2_with fail
        refine HS.out.mono ?_
        rintro e w2 ⟨rfl, hb⟩
        have B2 := Lib.hid (B1.out.trans (hb.mono B1.out.size))
        have T2 := Lib.hid (T1.out.below hb)
        clear hb HS t0 t1 t2
        have t0 := T2.out.c0
        have t1 := T2.out.c1
        have t2 := T2.out.c2
        go_wp2_with fail
        refine (l10Vertex_is HX.out (HGm.out.below B2.out)).mono ?_
        rintro e w3 ⟨rfl, hb⟩
        have B3 := Lib.hid (B2.out.trans (hb.mono B2.out.size))
        have T3 := Lib.hid (T2.out.below hb)
        clear hb t0 t1 t2
        have t0 := T3.out.c0
        have t1 := T3.out.c1
        have t2 := T3.out.c2
        go_wp2_with fail
        refine (l10Vertex_is HY.out (HGm.out.below B3.out)).mono ?_
        rintro e w4 ⟨rfl, hb⟩
        have B4 := Lib.hid (B3.out.trans (hb.mono B3.out.size))
        have T4 := Lib.hid (T3.out.below hb)
        clear hb t0 t1 t2
        have t0 := T4.out.c0
        have t1 := T4.out.c1
        have t2 := T4.out.c2
        go_wp2_with fail
        refine (l10Heavier_is hi hj rfl (HGm.out.below B4.out)).mono ?_
        rintro e w5 ⟨rfl, hb⟩
        have B5 := Lib.hid (B4.out.trans (hb.mono B4.out.size))
        have T5 := Lib.hid (T4.out.below hb)
        clear hb t0 t1 t2
        have t0 := T5.out.c0
        have t1 := T5.out.c1
        have t2 := T5.out.c2
        go_wp2
        go_ret
        exact ⟨ret_bool HE.out.symm, B5.out⟩
end
end Go.Proofs.Ytihaajcmephlmaa
