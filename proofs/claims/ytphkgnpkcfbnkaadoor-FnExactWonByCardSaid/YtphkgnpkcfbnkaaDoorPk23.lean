/-
  Several texts in one: GameImpl, WonApi, LawWinnerAt, LaidT.
-/
import Derived.Deep.RegionHeld3
import Derived.Test.YtphkgnpkcfbnkaaDoorRows
import Derived.Lib.LaidTab
import Derived.LaidSub
import Derived.LaidHandle
import Derived.Deep.DeepHandedRow
import Derived.ProofKit
import Derived.OpenShut
import Derived.Carry
import Derived.ChangeVars
import Derived.Test.YtphkgnpkcfbnkaaDoorPk02
import Derived.Test.YtphkgnpkcfbnkaaDoorPk03
import Derived.Test.YtphkgnpkcfbnkaaDoorPk04
import Derived.Test.YtphkgnpkcfbnkaaDoorPk05
import Derived.Test.YtphkgnpkcfbnkaaDoorPk22
namespace Go.Proofs.YtphkgnpkcfbnkaaDoor
section
open Go.RowKit

theorem arenaSize_is {w : World} {va : Value} {O : List Int} {zss : List (List Int)} (h : ArenaAt w va O zss) :
    Calls Tryd.prog 64 #[va] w fun e w' => e = .returned (.int .i64 O.length) ∧ Below w.heap.size w w' := by
  obtain ⟨ao, an, co, cn, A, C, rfl, h1, h2⟩ := h
  exact (size_is ao an O.length zss.length co cn w h1.len).mono fun e w' ⟨he, hw⟩ => ⟨he, hw ▸ below1 _ _⟩

theorem min_ok {P : List Int} (hz : 0 < P.length) : 0 ≤ minN P (P.length - 1) ↔ ∀ x ∈ P, 0 ≤ x := by
  constructor
  · intro h x hx
    obtain ⟨k, hk, rfl⟩ := mem_nth.1 hx
    have := minN_le (zs := P) (k := P.length - 1) (j := k) (by omega)
    omega
  · intro h
    obtain ⟨j, hj, e⟩ := minN_at (zs := P) (P.length - 1)
    rw [← e]; exact h _ (nth_mem (by omega))
theorem max_ok {P : List Int} (hz : 0 < P.length) : maxN P (P.length - 1) ≤ 40 ↔ ∀ x ∈ P, x ≤ 40 := by
  constructor
  · intro h x hx
    obtain ⟨k, hk, rfl⟩ := mem_nth.1 hx
    have := maxN_ge (zs := P) (k := P.length - 1) (j := k) (by omega)
    omega
  · intro h
    obtain ⟨j, hj, e⟩ := maxN_at (zs := P) (P.length - 1)
    rw [← e]; exact h _ (nth_mem (by omega))

set_option maxHeartbeats 4000000 in
set_option maxRecDepth 100000 in
theorem ParityOk_is {w : World} {v : Value} {O : List Int} {zss : List (List Int)} {P : List Int} {r : Bool} (hr : parityB O zss P = r) (h : GameAt w v O zss P) :
    Calls Tryd.prog 67 #[v] w fun e w' => e = .returned (.bool r) ∧ Below w.heap.size w w' := by
  obtain ⟨ao, an, ap, co, cn, cp, A, C, rfl, h1, h2, h3⟩ := h
  have hlO := h1.len
  have hlP := h3.len
  have HP := Lib.hid h3
  obtain ⟨w1, hw1⟩ : ∃ y, y = w.alloc (.cells #[.slice ao O.length co, .slice an zss.length cn, .slice ap P.length cp] 32) := ⟨_, rfl⟩
  have HW1 := Lib.hid hw1
  have B1 : Hid (Below w.heap.size w w1) := by rw [hw1]; exact below1 _ _
  have T1 : Hid (Box3 w1 w.heap.size 32 (.slice ao O.length co) (.slice an zss.length cn) (.slice ap P.length cp)) := by rw [hw1]; exact Box3.new _ _ _ _ _
  have HA : Hid (ArenaAt w (.agg #[.slice ao O.length co, .slice an zss.length cn]) O zss) := ⟨_, _, _, _, _, _, rfl, h1, h2⟩
  clear h1 h2 h3 hw1
  have t0 := T1.out.c0
  have t1 := T1.out.c1
  have t2 := T1.out.c2
  have hd1 : Below w1.heap.size w1 w1.drew := (Below.refl _ _).drew
  have B1d := Lib.hid (B1.out.trans (hd1.mono B1.out.size))
  have T1d := Lib.hid (T1.out.below hd1)
  clear hd1
  cases hA : arenaB O zss with
  | false =>
    have HE : Hid (r = false) := by rw [← hr]; simp [parityB, hA, Hid]
    have HC := Lib.hid (ArenaOk_at hA (HA.out.below B1d.out))
    clear hA hr
    go_enter Tryd.func67, Tryd.ntmps67
    go_wp2_with fail
    rw [← HW1.out]
    first
      | go_region_law (first
          | (go_simp; go_at_call 132; refine HC.out.mono ?_; rintro e w2 ⟨rfl, hb⟩; have B2 := Lib.hid (B1d.out.trans (hb.mono B1d.out.size)); clear hb))
      | fail
    all_goals (
      go_wp2
      go_ret
      exact ⟨by rw [HE.out]; rfl, B2.out⟩)
  | true =>
    have HAP := Lib.hid (arenaB_iff.1 hA)
    have HC := Lib.hid (ArenaOk_at hA (HA.out.below B1d.out))
    by_cases hl : P.length = O.length
    · have hn0 : 0 < P.length := by have := HAP.out.1; omega
      have hne : ((P.length : Int) != (O.length : Int)) = false := by simp; omega
      have HR : Hid (priosB P = r) := by rw [← hr]; simp [parityB, hA, hl, Hid]
      have hmn := min_ok hn0
      have hmx := max_ok hn0
      obtain ⟨mn, hmnE⟩ : ∃ m, minN P (P.length - 1) = m := ⟨_, rfl⟩
      obtain ⟨mx, hmxE⟩ : ∃ m, maxN P (P.length - 1) = m := ⟨_, rfl⟩
      rw [hmnE] at hmn
      rw [hmxE] at hmx
      have HMN := Lib.hid hmn
      have HMX := Lib.hid hmx
      have HMNE := Lib.hid hmnE
      have HMXE := Lib.hid hmxE
      have HL := Lib.hid hl
      have HN0 := Lib.hid hn0
      clear hA hr hl hmn hmx hmnE hmxE hn0
      go_enter Tryd.func67, Tryd.ntmps67
      go_wp2_with fail
      rw [← HW1.out]
      go_region_held3 (fun w' => w'.cell? ⟨w.heap.size, 0, none⟩ = some (.slice ao O.length co) ∧ w'.cell? ⟨w.heap.size, 1, none⟩ = some (.slice an zss.length cn) ∧ w'.cell? ⟨w.heap.size, 2, none⟩ = some (.slice ap P.length cp))
        (first
          | go_keep
          | exact ⟨e0, e1, e2⟩
          | exact ⟨f0, f1, f2⟩)
        (first
          | (go_at_call 132; refine HC.out.mono ?_; rintro e w2 ⟨rfl, hb⟩; have B2 := Lib.hid (B1d.out.trans (hb.mono B1d.out.size)); have T2 := Lib.hid (T1d.out.below hb); have e0 := T2.out.c0; have e1 := T2.out.c1; have e2 := T2.out.c2; clear hb)
          | (go_at_call 64; refine (arenaSize_is (HA.out.below B2.out)).mono ?_; rintro e w3 ⟨rfl, hb⟩; have B3 := Lib.hid (B2.out.trans (hb.mono B2.out.size)); have T3 := Lib.hid (T2.out.below hb); have f0 := T3.out.c0; have f1 := T3.out.c1; have f2 := T3.out.c2; clear hb))
      all_goals (
        clear e0 e1 e2 t0 t1 t2
        have HMinC := Lib.hid (Min_is cp HMNE.out (HP.out.below B3.out) HN0.out)
        have HMaxC := Lib.hid (fun W hb => Max_is (w := W) cp HMXE.out (HP.out.below hb) HN0.out)
        go_wp2_with fail
        refine HMinC.out.mono ?_
        rintro e w4 ⟨rfl, rfl⟩
        clear HMinC
        by_cases h0 : 0 ≤ mn
        · have HE : Hid (decide (mx ≤ 40) = r) := by
            rw [← HR.out]
            unfold priosB Hid
            rw [decide_eq_decide]
            constructor
            · intro h x hx; exact ⟨HMN.out.1 h0 x hx, HMX.out.1 h x hx⟩
            · intro h; exact HMX.out.2 fun x hx => (h x hx).2
          go_wp2_with fail
          refine (HMaxC.out _ B3.out).mono ?_
          rintro e w5 ⟨rfl, rfl⟩
          clear HMaxC
          go_wp2
          go_ret
          exact ⟨ret_bool HE.out, B3.out⟩
        · have HE : Hid (r = false) := by
            rw [← HR.out]
            unfold priosB Hid
            refine decide_eq_false fun h => h0 (HMN.out.2 fun x hx => (h x hx).1)
          have h1 : ¬ 0 ≤ mn := h0
          go_wp2
          go_ret
          exact ⟨by rw [HE.out]; rfl, B3.out⟩)
    · have hne : ((P.length : Int) != (O.length : Int)) = true := by simp; omega
      have HE : Hid (r = false) := by rw [← hr]; simp [parityB, hl, Hid]
      clear hA hr hl
      go_enter Tryd.func67, Tryd.ntmps67
      go_wp2_with fail
      rw [← HW1.out]
      go_region_held3 (fun w' => w'.cell? ⟨w.heap.size, 0, none⟩ = some (.slice ao O.length co) ∧ w'.cell? ⟨w.heap.size, 1, none⟩ = some (.slice an zss.length cn) ∧ w'.cell? ⟨w.heap.size, 2, none⟩ = some (.slice ap P.length cp))
        (first
          | go_keep
          | exact ⟨e0, e1, e2⟩
          | exact ⟨f0, f1, f2⟩)
        (first
          | (go_at_call 132; refine HC.out.mono ?_; rintro e w2 ⟨rfl, hb⟩; have B2 := Lib.hid (B1d.out.trans (hb.mono B1d.out.size)); have T2 := Lib.hid (T1d.out.below hb); have e0 := T2.out.c0; have e1 := T2.out.c1; have e2 := T2.out.c2; clear hb)
          | (go_at_call 64; refine (arenaSize_is (HA.out.below B2.out)).mono ?_; rintro e w3 ⟨rfl, hb⟩; have B3 := Lib.hid (B2.out.trans (hb.mono B2.out.size)); have T3 := Lib.hid (T2.out.below hb); have f0 := T3.out.c0; have f1 := T3.out.c1; have f2 := T3.out.c2; clear hb))
      all_goals (
        clear e0 e1 e2 t0 t1 t2
        go_wp2
        go_ret
        exact ⟨by rw [HE.out]; rfl, B3.out⟩)
end

section
open Go.RowKit

end

section
open Go.RowKit

end

section
open Go.RowKit

end

section
open Go.RowKit

end

end Go.Proofs.YtphkgnpkcfbnkaaDoor
namespace Go.Proofs.YtphkgnpkcfbnkaaDoor
section
open Go.RowKit Go.Shelf

set_option linter.unusedSimpArgs false in
set_option maxHeartbeats 8000000 in
set_option maxRecDepth 100000 in
theorem WinnerAt_is {w : World} {v : Value} {O P : List Int} {zss : List (List Int)} {x r : Int} (hr : winnerV O zss P x = r) (h : GameAt w v O zss P) (hT : TabW w) :
    Calls Tryd.prog 45 #[v, .int .i64 x] w fun e w' => e = .returned (.int .i64 r) ∧ Below w.heap.size w w' := by
  have HT := Lib.hid hT
  clear hT
  have HGm := Lib.hid h
  obtain ⟨ao, an, ap, co, cn, cp, A, C, rfl, h1, h2, h3⟩ := h
  have hlO := h1.len
  have hlP := h3.len
  obtain ⟨w1, hw1⟩ : ∃ y, y = w.alloc (.cells #[.slice ao O.length co, .slice an zss.length cn, .slice ap P.length cp] 32) := ⟨_, rfl⟩
  have HW1 := Lib.hid hw1
  have B1 : Hid (Below w.heap.size w w1) := by rw [hw1]; exact below1 _ _
  have T1 : Hid (Box3 w1 w.heap.size 32 (.slice ao O.length co) (.slice an zss.length cn) (.slice ap P.length cp)) := by rw [hw1]; exact (Box3.new w _ _ _ _)
  have HAt : Hid (ArenaAt w (.agg #[.slice ao O.length co, .slice an zss.length cn]) O zss) := ⟨_, _, _, _, _, _, rfl, h1, h2⟩
  clear hw1 h1 h2 h3
  cases hp : parityB O zss P with
  | false =>
    have HE := Lib.hid (winner_no hr (by rw [hp]; rfl))
    clear hr
    go_enter Tryd.func45, Tryd.ntmps45
    go_wp2_with fail
    rw [← HW1.out]
    refine (ParityOk_is hp (HGm.out.below B1.out)).mono ?_
    rintro e w2 ⟨rfl, hb⟩
    have B2 := Lib.hid (B1.out.trans (hb.mono B1.out.size))
    have T2 := Lib.hid (T1.out.below hb)
    have t0 := T2.out.c0
    have t1 := T2.out.c1
    have t2 := T2.out.c2
    clear hb
    go_wp2
    go_ret
    rw [HE.out]
    exact ⟨rfl, B2.out⟩
  | true =>
    have hpy := parityB_iff.1 hp
    have HZ : Hid (zss.length = O.length) := hpy.1.2.2.1
    have hn : O.length ≤ 256 := hpy.1.2.1
    cases hx : thereB O.length x with
    | false =>
      have HE := Lib.hid (winner_no hr (by rw [hp, hx]; rfl))
      clear hr hpy
      go_enter Tryd.func45, Tryd.ntmps45
      go_wp2_with fail
      rw [← HW1.out]
      refine (ParityOk_is hp (HGm.out.below B1.out)).mono ?_
      rintro e w2 ⟨rfl, hb⟩
      have B2 := Lib.hid (B1.out.trans (hb.mono B1.out.size))
      have T2 := Lib.hid (T1.out.below hb)
      have t0 := T2.out.c0
      have t1 := T2.out.c1
      have t2 := T2.out.c2
      clear hb
      go_wp2_with fail
      refine (hasVertex_is hx (HAt.out.below B2.out)).mono ?_
      rintro e w3 ⟨rfl, hb⟩
      have B3 := Lib.hid (B2.out.trans (hb.mono B2.out.size))
      clear hb t0 t1 t2
      go_wp2
      go_ret
      rw [HE.out]
      exact ⟨rfl, B3.out⟩
    | true =>
      have HE := Lib.hid (winner_yes hr (by rw [hp, hx]; rfl))
      have hk : 0 ≤ x ∧ x < O.length := by unfold thereB at hx; simpa using hx
      obtain ⟨k, rfl⟩ : ∃ k : Nat, x = (k : Int) := ⟨x.toNat, by omega⟩
      have hkn : k < O.length := by omega
      have HW : Hid (r = if wonM zss O P 1 k = true then 1 else 0) := by
        rw [HE.out, Int.toNat_natCast]; exact wonL_one HZ.out hkn
      have HX := Lib.hid hx
      have HP := Lib.hid hp
      clear hr hpy hx hp hk HE
      go_enter Tryd.func45, Tryd.ntmps45
      go_wp2_with fail
      rw [← HW1.out]
      refine (ParityOk_is HP.out (HGm.out.below B1.out)).mono ?_
      rintro e w2 ⟨rfl, hb⟩
      have B2 := Lib.hid (B1.out.trans (hb.mono B1.out.size))
      have T2 := Lib.hid (T1.out.below hb)
      have t0 := T2.out.c0
      have t1 := T2.out.c1
      have t2 := T2.out.c2
      clear hb
      go_wp2_with fail
      refine (hasVertex_is HX.out (HAt.out.below B2.out)).mono ?_
      rintro e w3 ⟨rfl, hb⟩
      have B3 := Lib.hid (B2.out.trans (hb.mono B2.out.size))
      have T3 := Lib.hid (T2.out.below hb)
      clear hb t0 t1 t2
      have t0 := T3.out.c0
      have t1 := T3.out.c1
      have t2 := T3.out.c2
      go_wp2_with fail
      refine (outcomeOf_is (HT.out.below B3.out) (HGm.out.below B3.out) HP.out).mono ?_
      rintro e w4 ⟨rfl, hb⟩
      have B4 := Lib.hid (B3.out.trans (hb.mono B3.out.size))
      clear hb t0 t1 t2
      go_wp2_with fail
      have hwc := outcome_winner (w := w4) (wonM zss O P 0) (wonM zss O P 1) k rfl (by omega)
      rw [← HW.out] at hwc
      refine hwc.mono ?_
      rintro e w5 ⟨rfl, hb⟩
      have B5 := Lib.hid (B4.out.trans (hb.mono B4.out.size))
      clear hb hwc
      go_wp2
      go_ret
      exact ⟨rfl, B5.out⟩

theorem own_marked {W : World} {B C : Nat} {v : Value} {I : Nat → Bool} (hu : W.ownsRow C 2 1 v (markedK I 256).length ((markedK I 256).map (Value.int .i64))) (hB : B ≤ C) : OwnInts W B W.heap.size v (markedK I 256) :=
  ⟨ownsRow_base hu hB, fun g hg => (hu.lt g hg).2, by have := markedK_len I 256; omega, markedK_fits I 256 (by omega)⟩

theorem index_out0 (w : World) (I J : Nat → Bool) : (Instr.index 83 (outcV I J) (.int .i64 0)).run Tryd.prog w = .ok (maskV I) w := run_index0 w I J
theorem index_out1 (w : World) (I J : Nat → Bool) : (Instr.index 83 (outcV I J) (.int .i64 1)).run Tryd.prog w = .ok (maskV J) w := run_index1 w I J

set_option linter.unusedSimpArgs false in
set_option maxHeartbeats 8000000 in
set_option maxRecDepth 100000 in
theorem WonBy_is {w : World} {v : Value} {O P r : List Int} {zss : List (List Int)} {x : Int} (hr : wonByL O zss P x = r) (h : GameAt w v O zss P) (hT : TabW w) :
    Calls Tryd.prog 48 #[v, .int .i64 x] w (GivesInts w r) := by
  have HT := Lib.hid hT
  clear hT
  have HGm := Lib.hid h
  obtain ⟨ao, an, ap, co, cn, cp, A, C, rfl, h1, h2, h3⟩ := h
  have hlO := h1.len
  have hlP := h3.len
  obtain ⟨w1, hw1⟩ : ∃ y, y = w.alloc (.cells #[.slice ao O.length co, .slice an zss.length cn, .slice ap P.length cp] 32) := ⟨_, rfl⟩
  have HW1 := Lib.hid hw1
  have B1 : Hid (Below w.heap.size w w1) := by rw [hw1]; exact below1 _ _
  have T1 : Hid (Box3 w1 w.heap.size 32 (.slice ao O.length co) (.slice an zss.length cn) (.slice ap P.length cp)) := by rw [hw1]; exact (Box3.new w _ _ _ _)
  have HAt : Hid (ArenaAt w (.agg #[.slice ao O.length co, .slice an zss.length cn]) O zss) := ⟨_, _, _, _, _, _, rfl, h1, h2⟩
  clear hw1 h1 h2 h3
  cases hp : parityB O zss P with
  | false =>
    have HE := Lib.hid (wonBy_no hr (by rw [hp]; rfl))
    clear hr
    go_enter Tryd.func48, Tryd.ntmps48
    go_wp2_with fail
    rw [← HW1.out]
    refine (ParityOk_is hp (HGm.out.below B1.out)).mono ?_
    rintro e w2 ⟨rfl, hb⟩
    have B2 := Lib.hid (B1.out.trans (hb.mono B1.out.size))
    have T2 := Lib.hid (T1.out.below hb)
    have t0 := T2.out.c0
    have t1 := T2.out.c1
    have t2 := T2.out.c2
    clear hb
    go_wp2
    go_ret
    rw [HE.out]
    exact ⟨_, rfl, OwnInts.nil _ _ _, B2.out⟩
  | true =>
    have hpy := parityB_iff.1 hp
    have HZ : Hid (zss.length = O.length) := hpy.1.2.2.1
    have hn : O.length ≤ 256 := hpy.1.2.1
    cases hx : inB x 0 1 with
    | false =>
      have HE := Lib.hid (wonBy_no hr (by rw [hp, hx]; rfl))
      clear hr hpy
      go_enter Tryd.func48, Tryd.ntmps48
      go_wp2_with fail
      rw [← HW1.out]
      refine (ParityOk_is hp (HGm.out.below B1.out)).mono ?_
      rintro e w2 ⟨rfl, hb⟩
      have B2 := Lib.hid (B1.out.trans (hb.mono B1.out.size))
      have T2 := Lib.hid (T1.out.below hb)
      have t0 := T2.out.c0
      have t1 := T2.out.c1
      have t2 := T2.out.c2
      clear hb
      go_wp2_with fail
      refine (isPlayer_is hx w2).mono ?_
      rintro e w3 ⟨rfl, rfl⟩
      clear t0 t1 t2
      go_wp2
      go_ret
      rw [HE.out]
      exact ⟨_, rfl, OwnInts.nil _ _ _, B2.out⟩
    | true =>
      have HE := Lib.hid (wonBy_yes hr (by rw [hp, hx]; rfl))
      have hw : x = 0 ∨ x = 1 := by
        unfold inB at hx
        have : 0 ≤ x ∧ x ≤ 1 := by simpa using hx
        omega
      have HW : Hid (r = markedK (wonM zss O P x) 256) := by rw [HE.out, wonM_list HZ.out hn hw]; exact rfl
      have HX := Lib.hid hx
      have HP := Lib.hid hp
      clear hr hpy hx hp HE
      rcases hw with rfl | rfl
      · skip
        go_enter Tryd.func48, Tryd.ntmps48
        go_wp2_with fail
        rw [← HW1.out]
        refine (ParityOk_is HP.out (HGm.out.below B1.out)).mono ?_
        rintro e w2 ⟨rfl, hb⟩
        have B2 := Lib.hid (B1.out.trans (hb.mono B1.out.size))
        have T2 := Lib.hid (T1.out.below hb)
        have t0 := T2.out.c0
        have t1 := T2.out.c1
        have t2 := T2.out.c2
        clear hb
        go_wp2_with fail
        refine (isPlayer_is HX.out w2).mono ?_
        rintro e w3 ⟨rfl, rfl⟩
        go_wp2_with fail
        refine (outcomeOf_is (HT.out.below B2.out) (HGm.out.below B2.out) HP.out).mono ?_
        rintro e w4 ⟨rfl, hb⟩
        have B4 := Lib.hid (B2.out.trans (hb.mono B2.out.size))
        clear hb t0 t1 t2
        have hix := fun W => index_out0 W (wonM zss O P 0) (wonM zss O P 1)
        go_wp2_with fail
        refine (list_is (I := wonM zss O P 0) (HT.out.below B4.out)).mono ?_
        rintro e w5 ⟨u, rfl, hu, hb⟩
        have B5 := Lib.hid (B4.out.trans (hb.mono B4.out.size))
        have HU := Lib.hid (own_marked hu B4.out.size)
        clear hb hu
        go_wp2
        go_ret
        rw [HW.out]
        exact ⟨_, rfl, HU.out, B5.out⟩
      · skip
        go_enter Tryd.func48, Tryd.ntmps48
        go_wp2_with fail
        rw [← HW1.out]
        refine (ParityOk_is HP.out (HGm.out.below B1.out)).mono ?_
        rintro e w2 ⟨rfl, hb⟩
        have B2 := Lib.hid (B1.out.trans (hb.mono B1.out.size))
        have T2 := Lib.hid (T1.out.below hb)
        have t0 := T2.out.c0
        have t1 := T2.out.c1
        have t2 := T2.out.c2
        clear hb
        go_wp2_with fail
        refine (isPlayer_is HX.out w2).mono ?_
        rintro e w3 ⟨rfl, rfl⟩
        go_wp2_with fail
        refine (outcomeOf_is (HT.out.below B2.out) (HGm.out.below B2.out) HP.out).mono ?_
        rintro e w4 ⟨rfl, hb⟩
        have B4 := Lib.hid (B2.out.trans (hb.mono B2.out.size))
        clear hb t0 t1 t2
        have hix := fun W => index_out1 W (wonM zss O P 0) (wonM zss O P 1)
        go_wp2_with fail
        refine (list_is (I := wonM zss O P 1) (HT.out.below B4.out)).mono ?_
        rintro e w5 ⟨u, rfl, hu, hb⟩
        have B5 := Lib.hid (B4.out.trans (hb.mono B4.out.size))
        have HU := Lib.hid (own_marked hu B4.out.size)
        clear hb hu
        go_wp2
        go_ret
        rw [HW.out]
        exact ⟨_, rfl, HU.out, B5.out⟩

theorem WinnerAtT_is {w : World} {v : Value} {O P : List Int} {zss : List (List Int)} {x r : Int} (hT : TabW w) (hr : winnerV O zss P x = r) (h : GameAt w v O zss P) :
    Calls Tryd.prog 45 #[v, .int .i64 x] w fun e w' => e = .returned (.int .i64 r) ∧ Below w.heap.size w w' := WinnerAt_is hr h hT
theorem WonByT_is {w : World} {v : Value} {O P r : List Int} {zss : List (List Int)} {x : Int} (hT : TabW w) (hr : wonByL O zss P x = r) (h : GameAt w v O zss P) :
    Calls Tryd.prog 48 #[v, .int .i64 x] w (GivesInts w r) := WonBy_is hr h hT
end
end Go.Proofs.YtphkgnpkcfbnkaaDoor
namespace Go.Proofs.YtphkgnpkcfbnkaaDoor
open Go.RowKit

set_option maxHeartbeats 16000000 in
set_option maxRecDepth 100000 in
theorem lawWinnerAt {w : World} {v0 : Value} {O0 : List Int} {z0 : List (List Int)} {P0 : List Int} {n1 : Int} (h0 : GameAt w v0 O0 z0 P0) (hE : TabW w) :
    Calls Tryd.prog 9 #[v0, .int .i64 n1] w fun e w' => e = .returned (.bool true) ∧ Below w.heap.size w w' := by
  have HE := Lib.hid hE
  clear hE
  have H0 := Lib.hid h0
  obtain ⟨u0_0, u0_1, u0_2, d0_0, d0_1, d0_2, A0, C0, rfl, q0, q1, q2⟩ := h0
  clear q0 q1 q2
  obtain ⟨w1, hw1⟩ : ∃ y, y = (w.alloc (.cells #[.slice u0_0 O0.length d0_0, .slice u0_1 z0.length d0_1, .slice u0_2 P0.length d0_2] 62)) := ⟨_, rfl⟩
  have HW1 := Lib.hid hw1
  have B1 : Hid (Below w.heap.size w w1) := by rw [hw1]; exact below1 _ _
  have b0 : Hid (Box3 w1 (w.heap.size) 62 (.slice u0_0 O0.length d0_0) (.slice u0_1 z0.length d0_1) (.slice u0_2 P0.length d0_2)) := by rw [hw1]; exact Box3.new_at (by simp) _ _ _ _ 
  have K1 : Hid (Keep [w1, w] w1) := ⟨Below.refl _ _, B1.out, trivial⟩
  clear hw1
  by_cases hs0 : (1048576 : Int) < (sizeGame O0 z0 P0 : Int)
  · skip
    have HSn0 : Hid (∀ W, Below w.heap.size w W → Calls Tryd.prog 42 #[.agg #[.slice u0_0 O0.length d0_0, .slice u0_1 z0.length d0_1, .slice u0_2 P0.length d0_2], .int .i64 (1048576 : Int)] W fun e w' => e = .returned (.int .i64 (-1)) ∧ Below W.heap.size W w') := fun W hb => szGame_at (leftOf_no hs0) (H0.out.below hb) (by omega) (by omega)
    clear hs0
    go_enter Tryd.func9, Tryd.ntmps9
    go_wp2_with fail
    rw [← HW1.out]
    refine (HSn0.out _ K1.out.2.1).mono ?_
    rintro e w2 ⟨rfl, hb⟩
    have Kw2 : Hid (Keep [w1, w] w2) := K1.out.step hb
    clear K1
    clear hb
    go_wp2
    go_ret
    exact ⟨rfl, Kw2.out.2.1⟩
  have hle0 : (sizeGame O0 z0 P0 : Int) ≤ (1048576 : Int) := by omega
  obtain ⟨m0, hm0⟩ : ∃ m, leftOf (1048576 : Int) (sizeGame O0 z0 P0) = m := ⟨_, rfl⟩
  have hmv0 : m0 = (1048576 : Int) - (sizeGame O0 z0 P0 : Int) := by rw [← hm0]; exact leftOf_yes hle0
  have hml0 : 0 ≤ m0 := by omega
  have hmu0 : m0 ≤ 1048576 := by omega
  have HLE0 : Hid (sizeGame O0 z0 P0 ≤ 1048576) := by simp only [Hid]; omega
  have HS0 : Hid (∀ W, Below w.heap.size w W → Calls Tryd.prog 42 #[.agg #[.slice u0_0 O0.length d0_0, .slice u0_1 z0.length d0_1, .slice u0_2 P0.length d0_2], .int .i64 (1048576 : Int)] W fun e w' => e = .returned (.int .i64 m0) ∧ Below W.heap.size W w') := fun W hb => szGame_at hm0 (H0.out.below hb) (by omega) (by omega)
  have hn0 : z0.length ≤ 1048576 := by have := HLE0.out; unfold sizeGame at this; (try unfold sizeArena at this); omega
  clear hs0 hm0 hle0 hmv0
  obtain ⟨rn0, hrn0⟩ : ∃ r, winnerV O0 z0 P0 n1 = r := ⟨_, rfl⟩
  have R0 := Lib.hid hrn0
  have hnern0 : (rn0 != rn0) = false := by simp
  clear hrn0
  go_enter Tryd.func9, Tryd.ntmps9
  go_wp2_with fail
  rw [← HW1.out]
  refine (HS0.out _ K1.out.2.1).mono ?_
  rintro e w2 ⟨rfl, hb⟩
  have Kw2 : Hid (Keep [w1, w] w2) := K1.out.step hb
  clear K1
  clear hb
  have c0 := (b0.out.below Kw2.out.1).c0
  have c1 := (b0.out.below Kw2.out.1).c1
  have c2 := (b0.out.below Kw2.out.1).c2
  go_wp2_with fail
  refine (toGame_at (H0.out.below Kw2.out.2.1) hn0).mono ?_
  rintro e w3 ⟨x, rfl, hu, hb⟩
  obtain ⟨pa0_0, pc0_0, pa0_1, pc0_1, pa0_2, pc0_2, hus⟩ := hu.shape
  subst hus
  have pX0 := Lib.hid hu
  have Kw3 : Hid (Keep [w1, w] w3) := Kw2.out.step hb
  clear Kw2
  clear hu hb
  have Kaw3 : Hid (Keep [w3, w1, w] w3) := Kw3.out.add
  clear Kw3
  clear c0 c1 c2
  go_wp2_with fail
  refine (specWinnerAt_is  R0.out (pX0.out.below Kaw3.out.1).at).mono ?_
  rintro e w4 ⟨rfl, hb⟩
  have Kw4 : Hid (Keep [w3, w1, w] w4) := Kaw3.out.step hb
  clear Kaw3
  clear hb
  have Kaw4 : Hid (Keep [w4, w3, w1, w] w4) := Kw4.out.add
  clear Kw4
  have c0 := (b0.out.below Kaw4.out.2.2.1).c0
  have c1 := (b0.out.below Kaw4.out.2.2.1).c1
  have c2 := (b0.out.below Kaw4.out.2.2.1).c2
  go_wp2_with fail
  refine (toGame_at (H0.out.below Kaw4.out.2.2.2.1) hn0).mono ?_
  rintro e w5 ⟨x, rfl, hu, hb⟩
  obtain ⟨xa0_0, xc0_0, xa0_1, xc0_1, xa0_2, xc0_2, hus⟩ := hu.shape
  subst hus
  have xX0 := Lib.hid hu
  have HE0 : Hid (w4.heap.size ≤ w5.heap.size) := hb.size
  have Kw5 : Hid (Keep [w4, w3, w1, w] w5) := Kaw4.out.step hb
  clear Kaw4
  clear hu hb
  have Kaw5 : Hid (Keep [w5, w4, w3, w1, w] w5) := Kw5.out.add
  clear Kw5
  clear c0 c1 c2
  obtain ⟨w6, hw6⟩ : ∃ y, y = w5.alloc (.cells #[.slice xa0_0 O0.length xc0_0, .slice xa0_1 z0.length xc0_1, .slice xa0_2 P0.length xc0_2] 32) := ⟨_, rfl⟩
  have Hw6 := Lib.hid hw6
  have hb : Below w5.heap.size w5 w6 := by rw [hw6]; exact below1 _ _
  have xb0 : Hid (Box3 w6 w5.heap.size 32 (.slice xa0_0 O0.length xc0_0) (.slice xa0_1 z0.length xc0_1) (.slice xa0_2 P0.length xc0_2)) := by rw [hw6]; exact Box3.new _ _ _ _ _ 
  have Kw6 : Hid (Keep [w5, w4, w3, w1, w] w6) := Kaw5.out.step hb
  clear Kaw5
  clear hb
  have Kaw6 : Hid (Keep [w6, w5, w4, w3, w1, w] w6) := Kw6.out.add
  clear Kw6
  clear hw6
  have c0 := (xb0.out.below Kaw6.out.1).c0
  have c1 := (xb0.out.below Kaw6.out.1).c1
  have c2 := (xb0.out.below Kaw6.out.1).c2
  rw [Hw6.out] at c0 c1 c2
  go_wp2_with fail
  rw [← Hw6.out]
  refine (WinnerAtT_is (HE.out.below Kaw6.out.2.2.2.2.2.1)  R0.out (xX0.out.below Kaw6.out.2.1).at).mono ?_
  rintro e w7 ⟨rfl, hb⟩
  have Kw7 : Hid (Keep [w6, w5, w4, w3, w1, w] w7) := Kaw6.out.step hb
  clear Kaw6
  clear hb
  clear c0 c1 c2
  have c0 := (b0.out.below Kw7.out.2.2.2.2.1).c0
  have c1 := (b0.out.below Kw7.out.2.2.2.2.1).c1
  have c2 := (b0.out.below Kw7.out.2.2.2.2.1).c2
  have c3 := (xb0.out.below Kw7.out.1).c0
  have c4 := (xb0.out.below Kw7.out.1).c1
  have c5 := (xb0.out.below Kw7.out.1).c2
  have Kdw7 : Hid (Keep [w6, w5, w4, w3, w1, w] w7.drew) := Kw7.out.step (Below.refl _ _).drew
  go_wp2_with fail
  go_region_held3 (fun w' => w'.cell? ⟨w.heap.size, 0, none⟩ = some (.slice u0_0 O0.length d0_0) ∧ w'.cell? ⟨w.heap.size, 1, none⟩ = some (.slice u0_1 z0.length d0_1) ∧ w'.cell? ⟨w.heap.size, 2, none⟩ = some (.slice u0_2 P0.length d0_2) ∧ w'.cell? ⟨w5.heap.size, 0, none⟩ = some (.slice xa0_0 O0.length xc0_0) ∧ w'.cell? ⟨w5.heap.size, 1, none⟩ = some (.slice xa0_1 z0.length xc0_1) ∧ w'.cell? ⟨w5.heap.size, 2, none⟩ = some (.slice xa0_2 P0.length xc0_2))
    (first
      | go_keep
      | exact ⟨d0, d1, d2, d3, d4, d5⟩
      | exact ⟨f0, f1, f2, f3, f4, f5⟩)
    (first
      | (go_at_call 44; refine (toGame_at (H0.out.below Kdw7.out.2.2.2.2.2.1) hn0).mono ?_; rintro e w8 ⟨x, rfl, hu, hb⟩; obtain ⟨ya0_0, yc0_0, ya0_1, yc0_1, ya0_2, yc0_2, hus⟩ := hu.shape; subst hus; have yX0 := Lib.hid hu; have Kw8 : Hid (Keep [w6, w5, w4, w3, w1, w] w8) := Kdw7.out.step hb; have d0 := (b0.out.below Kw8.out.2.2.2.2.1).c0; have d1 := (b0.out.below Kw8.out.2.2.2.2.1).c1; have d2 := (b0.out.below Kw8.out.2.2.2.2.1).c2; have d3 := (xb0.out.below Kw8.out.1).c0; have d4 := (xb0.out.below Kw8.out.1).c1; have d5 := (xb0.out.below Kw8.out.1).c2; have Kaw8 : Hid (Keep [w8, w6, w5, w4, w3, w1, w] w8) := Kw8.out.add; clear hu hb)
      | (go_at_call 46; refine (eqGame_at (xX0.out.below Kaw8.out.2.2.1).at (yX0.out.below Kaw8.out.1).at).mono ?_; rintro e w9 ⟨rfl, hb⟩; have Kw9 : Hid (Keep [w8, w6, w5, w4, w3, w1, w] w9) := Kaw8.out.step hb; have f0 := (b0.out.below Kw9.out.2.2.2.2.2.1).c0; have f1 := (b0.out.below Kw9.out.2.2.2.2.2.1).c1; have f2 := (b0.out.below Kw9.out.2.2.2.2.2.1).c2; have f3 := (xb0.out.below Kw9.out.2.1).c0; have f4 := (xb0.out.below Kw9.out.2.1).c1; have f5 := (xb0.out.below Kw9.out.2.1).c2; clear hb))
  clear c0 d0 f0 c1 d1 f1 c2 d2 f2 c3 d3 f3 c4 d4 f4 c5 d5 f5
  have Kzw9 : Hid (Keep [w6, w5, w4, w3, w1, w] w9) := Kw9.out.2
  clear Kdw7 Kw8 Kaw8 yX0
  go_wp2
  go_ret
  exact ⟨rfl, Kzw9.out.2.2.2.2.2.1⟩

end Go.Proofs.YtphkgnpkcfbnkaaDoor
namespace Go.Proofs.YtphkgnpkcfbnkaaDoor
open Go.ChangeShapes Go.WideShapes Go.ChangeAt Go.RowKit

theorem lv_own : ownKnob Tryd.prog.godebug = none := by kernel_rfl
theorem lv_g : Tryd.prog.globalNamed "math/bits.deBruijn64tab" = some 1 := by kernel_rfl
theorem lv_t : (Tryd.prog.globals[1]?).map (·.type) = some 204 := by kernel_rfl
abbrev lvTab : String × DataW Unit := ("math/bits.deBruijn64tab", Rows.laid_math_bits_deBruijn64tab)
theorem lv_data : (Rows.laid_math_bits_deBruijn64tab : DataW Unit) = Lib.tabData .u8 (Lib.deBruijn64tab.map fun (x : Nat) => (x : Int)) := by kernel_rfl
theorem lv_tab {W : World} (h : laidMet Tryd.prog [lvTab] W) : TabW W := fun j hj => by
  unfold lvTab at h
  rw [lv_data] at h
  have h1 := Lib.tabIs_of_head lv_g lv_t (n := 64) (e := 5) (by kernel_rfl) (by kernel_rfl) (by kernel_rfl) (by kernel_rfl) h
  have h2 := h1.cell lv_g j (by simpa [Lib.deBruijn64tab] using hj)
  rw [h2]
  congr 2
  simp [List.getD, List.getElem?_map]
  cases Lib.deBruijn64tab[j]? <;> simp
theorem lv_S {W : World} (h : laidMetH Tryd.prog [lvTab] W) : laidMet Tryd.prog [lvTab] W := by
  have h2 := (laidMetH_iff.1 h).1
  rw [show ([lvTab].filter fun x => x.2.handleName?.isNone) = [lvTab] by kernel_rfl] at h2
  exact h2
/-- A world that meets the list. -/
noncomputable def lvWorld (os : Os) : World :=
  let w0 := World.holding Tryd.prog os ⟨#[], #[], []⟩
  { w0 with heap := (w0.heap.modify 1 fun
      | .cells _ t frozen => .cells #[.int .u8 0, .int .u8 1, .int .u8 56, .int .u8 2, .int .u8 57, .int .u8 49, .int .u8 28, .int .u8 3, .int .u8 61, .int .u8 58, .int .u8 42, .int .u8 50, .int .u8 38, .int .u8 29, .int .u8 17, .int .u8 4, .int .u8 62, .int .u8 47, .int .u8 59, .int .u8 36, .int .u8 45, .int .u8 43, .int .u8 51, .int .u8 22, .int .u8 53, .int .u8 39, .int .u8 33, .int .u8 30, .int .u8 24, .int .u8 18, .int .u8 12, .int .u8 5, .int .u8 63, .int .u8 55, .int .u8 48, .int .u8 27, .int .u8 60, .int .u8 41, .int .u8 37, .int .u8 16, .int .u8 46, .int .u8 35, .int .u8 44, .int .u8 21, .int .u8 52, .int .u8 32, .int .u8 23, .int .u8 11, .int .u8 54, .int .u8 26, .int .u8 40, .int .u8 15, .int .u8 34, .int .u8 20, .int .u8 31, .int .u8 10, .int .u8 25, .int .u8 14, .int .u8 19, .int .u8 9, .int .u8 13, .int .u8 8, .int .u8 7, .int .u8 6] t frozen
      | o => o) }
theorem lv_met (os : Os) (args : Array Value) : laidMet Tryd.prog [lvTab] ((lvWorld os).forCall (fun _ _ => 0) ⟨#[], args, []⟩).memory :=
  laidMet_of_run' 8 (by kernel_rfl) (by kernel_rfl)
theorem lv_metS (os : Os) (args : Array Value) : laidMetH Tryd.prog [lvTab] ((lvWorld os).forCall (fun _ _ => 0) ⟨#[], args, []⟩).memory :=
  laidMetH_of_parts (by rw [show ([lvTab].filter fun x => x.2.handleName?.isNone) = [lvTab] by kernel_rfl]; exact lv_met os args) (by kernel_rfl)
end Go.Proofs.YtphkgnpkcfbnkaaDoor
