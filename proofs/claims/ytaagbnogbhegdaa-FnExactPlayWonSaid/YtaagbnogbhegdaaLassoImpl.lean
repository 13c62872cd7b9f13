/-
  Contract of chapter 5: the program's LassoOk.
-/
import Derived.Test.YtaagbnogbhegdaaPathImpl
import Derived.Test.YtaagbnogbhegdaaCat1
import Derived.Test.YtaagbnogbhegdaaPlayMath
import Derived.Deep.RegionHeld3
namespace Go.Proofs.Ytaagbnogbhegdaa
open Go.RowKit

theorem cat_three (X Y Z : List Int) : catK [X, Y, Z] [X, Y, Z].length = X ++ Y ++ Z := by simp [catK, row]
theorem take_one {Y : List Int} (h : 0 < Y.length) : Y.take 1 = [nth Y 0] := by
  cases Y with
  | nil => exact absurd h (by simp)
  | cons y Y => simp [nth]

set_option maxHeartbeats 8000000 in
set_option maxRecDepth 100000 in
theorem LassoOk_is {w : World} {va vl : Value} {O X Y : List Int} {zss : List (List Int)} {r : Bool} (hr : lassoB O zss X Y = r) (h : ArenaAt w va O zss) (hl : LassoC w vl X Y) :
    Calls Try.prog 28 #[va, vl] w fun e w' => e = .returned (.bool r) ∧ Below w.heap.size w w' := by
  have HAt := Lib.hid h
  obtain ⟨ao, an, co, cn, A, C, rfl, h1, h2⟩ := h
  obtain ⟨ax, ay, cx, cy, rfl, hX, hY, hcy⟩ := hl
  have hlO := h1.len
  have hlX := hX.len
  have hlY := hY.len
  have HXi := Lib.hid hX
  have HYi := Lib.hid hY
  have HCY := Lib.hid hcy
  obtain ⟨w1, hw1⟩ : ∃ y, y = (w.alloc (.cells #[.slice ao O.length co, .slice an zss.length cn] 27)).alloc (.cells #[.slice ax X.length cx, .slice ay Y.length cy] 43) := ⟨_, rfl⟩
  have HW1 := Lib.hid hw1
  have B1 : Hid (Below w.heap.size w w1) := by rw [hw1]; exact below2 _ _ _
  have hs1 : w1.heap.size = w.heap.size + 1 + 1 := by rw [hw1]; simp
  have HS1 := Lib.hid hs1
  have T1 : Hid (Box2 w1 w.heap.size 27 (.slice ao O.length co) (.slice an zss.length cn)) := by rw [hw1]; exact (Box2.new w _ _ _).alloc _
  have R1 : Hid (Box2 w1 (w.heap.size + 1) 43 (.slice ax X.length cx) (.slice ay Y.length cy)) := by rw [hw1]; exact Box2.new_at (by simp) _ _ _
  clear hw1 h1 h2 hX hY hs1 hcy
  cases hA : arenaB O zss with
  | false =>
    have HE : Hid (r = false) := by rw [← hr]; exact lassoB_no fun h => by rw [arenaB_iff.2 h.1] at hA; exact absurd hA (by decide)
    have HC := Lib.hid (ArenaOk_at hA (HAt.out.below B1.out))
    clear hr hA
    go_enter Try.func28, Try.ntmps28
    go_wp2_with fail
    rw [← HW1.out]
    refine HC.out.mono ?_
    rintro e w2 ⟨rfl, hb⟩
    have B2 := Lib.hid (B1.out.trans (hb.mono B1.out.size))
    clear hb HC
    go_wp2
    go_ret
    exact ⟨ret_bool HE.out.symm, B2.out⟩
  | true =>
    have HC := Lib.hid (ArenaOk_at hA (HAt.out.below B1.out))
    have HAP := Lib.hid (arenaB_iff.1 hA)
    have HRN : Hid (¬ (X.length ≤ 256 ∧ 1 ≤ Y.length ∧ Y.length ≤ 256) → r = false) := fun h => by rw [← hr]; exact lassoB_no fun hp => h ⟨hp.2.1, hp.2.2.1, hp.2.2.2.1⟩
    by_cases hx : (256 : Int) < X.length
    · have HE : Hid (r = false) := HRN.out fun h => by omega
      clear hr hA
      go_enter Try.func28, Try.ntmps28
      go_wp2_with fail
      rw [← HW1.out]
      refine HC.out.mono ?_
      rintro e w2 ⟨rfl, hb⟩
      have B2 := Lib.hid (B1.out.trans (hb.mono B1.out.size))
      have R2 := Lib.hid (R1.out.below hb)
      have t0 := R2.out.cell0
      clear hb HC
      go_wp2
      go_ret
      exact ⟨ret_bool HE.out.symm, B2.out⟩
    · by_cases hy : (Y.length : Int) < 1
      · have HE : Hid (r = false) := HRN.out fun h => by omega
        clear hr hA
        go_enter Try.func28, Try.ntmps28
        go_wp2_with fail
        rw [← HW1.out]
        refine HC.out.mono ?_
        rintro e w2 ⟨rfl, hb⟩
        have B2 := Lib.hid (B1.out.trans (hb.mono B1.out.size))
        have R2 := Lib.hid (R1.out.below hb)
        have t0 := R2.out.cell0
        have t1 := R2.out.cell1
        clear hb HC
        go_wp2
        go_ret
        exact ⟨ret_bool HE.out.symm, B2.out⟩
      · by_cases hz : (256 : Int) < Y.length
        · have HE : Hid (r = false) := HRN.out fun h => by omega
          clear hr hA
          go_enter Try.func28, Try.ntmps28
          go_wp2_with fail
          rw [← HW1.out]
          refine HC.out.mono ?_
          rintro e w2 ⟨rfl, hb⟩
          have B2 := Lib.hid (B1.out.trans (hb.mono B1.out.size))
          have R2 := Lib.hid (R1.out.below hb)
          have t0 := R2.out.cell0
          have t1 := R2.out.cell1
          clear hb HC
          go_wp2
          go_ret
          exact ⟨ret_bool HE.out.symm, B2.out⟩
        · have hY1 : 0 < Y.length := by omega
          have hY256 : Y.length ≤ 256 := by omega
          have hX256 : X.length ≤ 256 := by omega
          have hc0 : (0 : Int) ≤ 1 := by omega
          have hc1 : (1 : Int) ≤ (cy : Int) := by have := HCY.out; omega
          have hc2 : 1 ≤ cy := by omega
          obtain ⟨L, hL⟩ : ∃ L, L = wholeP X Y := ⟨_, rfl⟩
          have hll : L.length = X.length + Y.length + 1 := by rw [hL, wholeP_len]
          have HLL := Lib.hid hll
          have HP : Hid (pathB O zss L = r) := by
            rw [← hr]
            cases hp : pathB O zss L with
            | true => exact (lassoB_iff.2 ⟨HAP.out, hX256, by omega, hY256, by rw [← hL]; exact pathB_iff.1 hp⟩).symm
            | false =>
              refine (lassoB_no fun h => ?_).symm
              have := h.2.2.2.2
              rw [← hL] at this
              rw [pathB_iff.2 this] at hp
              exact absurd hp (by decide)
          obtain ⟨yb, yo, hya, -⟩ := HYi.out.cell hY1
          subst hya
          have HCC : Hid (∀ W, Below w.heap.size w W → Calls Try.prog 97 #[.slice (some ⟨W.heap.size, 0, none⟩) 3 3] (W.alloc (.cells #[.slice ax X.length cx, .slice (some ⟨yb, yo, none⟩) Y.length cy, .slice (some ⟨yb, yo, none⟩) 1 cy] 24)) (GivesInts (W.alloc (.cells #[.slice ax X.length cx, .slice (some ⟨yb, yo, none⟩) Y.length cy, .slice (some ⟨yb, yo, none⟩) 1 cy] 24)) L)) := fun W hb => by
            have ht := (HYi.out.below hb).takeB (i := 1) (by omega)
            rw [take_one hY1] at ht
            have h := Concat5_is (zss := [X, Y, [nth Y 0]]) 3 (rows_three (cs := cx) (ct := cy) (cu := cy) 24 (HXi.out.below hb) (HYi.out.below hb) ht) (by simp) (by simp [sumLen, row]; omega)
            rw [cat_three] at h
            rw [hL]
            exact h
          have HIP : Hid (∀ W a c, Below w.heap.size w W → IntsAt W a L → Calls Try.prog 96 #[.agg #[.slice ao O.length co, .slice an zss.length cn], .slice a L.length c] W fun e w' => e = .returned (.bool r) ∧ Below W.heap.size W w') := fun W a c hb hi => isPath_is c HP.out HAP.out (HAt.out.below hb) hi
          clear hr hA hL hll
          go_enter Try.func28, Try.ntmps28
          go_wp2_with fail
          rw [← HW1.out]
          refine HC.out.mono ?_
          rintro e w2 ⟨rfl, hb⟩
          have B2 := Lib.hid (B1.out.trans (hb.mono B1.out.size))
          have R2 := Lib.hid (R1.out.below hb)
          have T2 := Lib.hid (T1.out.below hb)
          have t0 := R2.out.cell0
          have t1 := R2.out.cell1
          have Kd : Hid (Below w2.heap.size w2 w2.drew) := (Below.refl _ _).drew
          have Ka : Hid (Below w2.heap.size w2 (w2.drew.alloc (.cells #[.slice ax X.length cx, .slice (some ⟨yb, yo, none⟩) Y.length cy, .slice (some ⟨yb, yo, none⟩) 1 cy] 24))) := Kd.out.alloc Kd.out.size _
          have HSc : Hid (∀ W, Below w2.heap.size w2 W → W.cell? ⟨w.heap.size, 0, none⟩ = some (.slice ao O.length co) ∧ W.cell? ⟨w.heap.size, 1, none⟩ = some (.slice an zss.length cn) ∧ W.cell? ⟨w.heap.size + 1, 0, none⟩ = some (.slice ax X.length cx) ∧ W.cell? ⟨w.heap.size + 1, 1, none⟩ = some (.slice (some ⟨yb, yo, none⟩) Y.length cy)) := fun W hb => ⟨(T2.out.below hb).cell0, (T2.out.below hb).cell1, (R2.out.below hb).cell0, (R2.out.below hb).cell1⟩
          have s0 := HSc.out _ Kd.out
          have HCD := Lib.hid (HCC.out _ (B2.out.trans (Kd.out.mono B2.out.size)))
          clear hb HC HCC
          go_wp2
          go_region_held3 (fun W => W.cell? ⟨w.heap.size, 0, none⟩ = some (.slice ao O.length co) ∧ W.cell? ⟨w.heap.size, 1, none⟩ = some (.slice an zss.length cn) ∧ W.cell? ⟨w.heap.size + 1, 0, none⟩ = some (.slice ax X.length cx) ∧ W.cell? ⟨w.heap.size + 1, 1, none⟩ = some (.slice (some ⟨yb, yo, none⟩) Y.length cy))
            (first
              | exact HSc.out _ Kd.out
              | exact HSc.out _ Ka.out
              | exact HSc.out _ Kx.out
              | exact HSc.out _ Ky.out)
            (first
              | (go_at_call 97; refine HCD.out.mono ?_; rintro e wx ⟨x, rfl, hx, hb⟩; obtain ⟨xa, xc, hxs, hxi, _⟩ := hx.shape; subst hxs; have X6 := Lib.hid hxi; have Kx := Lib.hid (Ka.out.trans (hb.mono Ka.out.size)); clear hx hb hxi)
              | (go_at_call 96; refine (HIP.out _ _ xc (B2.out.trans (Kx.out.mono B2.out.size)) X6.out).mono ?_; rintro e wy ⟨rfl, hb⟩; have Ky := Lib.hid (Kx.out.trans (hb.mono Kx.out.size)); clear hb))
          go_wp2
          go_ret
          exact ⟨rfl, B2.out.trans (Ky.out.mono B2.out.size)⟩

end Go.Proofs.Ytaagbnogbhegdaa
