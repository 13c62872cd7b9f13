/-
  Several texts in one: OddsSpec, MeasSpec, AtSpec, SameParity, Inside, GameImpl, OddsImpl.
-/
import Derived.Deep.RegionHeld3
import Derived.Shelf.SlicesE.DeleteFunc
import Derived.Shelf.SlicesE.Reverse
import Derived.Lib.OwnBridge
import Derived.Test.YtglbkbiphcgidaaDoorPr00
import Derived.Test.YtglbkbiphcgidaaDoorPr02
import Derived.Test.YtglbkbiphcgidaaDoorPr01
import Derived.Test.YtglbkbiphcgidaaDoorPr04
namespace Go.Proofs.YtglbkbiphcgidaaDoor
section
open Go.RowKit Go.Shelf

set_option maxHeartbeats 2000000 in
theorem l8Small_is {w : World} {v : Value} {O : List Int} {zss : List (List Int)} {P : List Int} {r : Bool} (hr : smallB O zss P = r) (h : GameAt w v O zss P) :
    Calls Tryd.prog 71 #[v] w fun e w' => e = .returned (.bool r) ∧ Below w.heap.size w w' := by
  have HGm := Lib.hid h
  obtain ⟨ao, an, ap, co, cn, cp, A, C, rfl, h1, h2, h3⟩ := h
  obtain ⟨w1, hw1⟩ : ∃ y, y = w.alloc (.cells #[.slice ao O.length co, .slice an zss.length cn, .slice ap P.length cp] 35) := ⟨_, rfl⟩
  have HW1 := Lib.hid hw1
  have B1 : Hid (Below w.heap.size w w1) := by rw [hw1]; exact below1 _ _
  have T1 : Hid (Box3 w1 w.heap.size 35 (.slice ao O.length co) (.slice an zss.length cn) (.slice ap P.length cp)) := by rw [hw1]; exact Box3.new _ _ _ _ _
  clear hw1 h1 h2 h3
  have HC := Lib.hid (specParityOk_is rfl (HGm.out.below B1.out))
  have t0 := T1.out.c0
  have t1 := T1.out.c1
  have t2 := T1.out.c2
  by_cases hlt : P.length ≤ 12
  · have hlt1 : (P.length : Int) ≤ 12 := by omega
    have HE : Hid (r = parityB O zss P) := by rw [← hr]; unfold smallB; rw [decide_eq_true hlt]; rfl
    clear hr
    go_enter Tryd.func71, Tryd.ntmps71
    go_wp2_with fail
    rw [← HW1.out]
    go_wp2_with fail
    refine HC.out.mono ?_
    rintro e w2 ⟨rfl, hb⟩
    have B2 := Lib.hid (B1.out.trans (hb.mono B1.out.size))
    clear hb HC t0 t1 t2
    go_wp2
    go_ret
    exact ⟨ret_bool HE.out.symm, B2.out⟩
  · have hlt1 : ¬ (P.length : Int) ≤ 12 := by omega
    have HE : Hid (r = false) := by rw [← hr]; unfold smallB; rw [decide_eq_false hlt]; rfl
    clear hr HC
    go_enter Tryd.func71, Tryd.ntmps71
    go_wp2_with fail
    rw [← HW1.out]
    go_wp2
    go_ret
    exact ⟨ret_bool HE.out.symm, B1.out⟩

set_option maxHeartbeats 8000000 in
set_option maxRecDepth 100000 in
theorem l8Odds_is {w : World} {v : Value} {O : List Int} {zss : List (List Int)} {P : List Int} (h : GameAt w v O zss P) :
    Calls Tryd.prog 73 #[v] w (GivesInts w (oddsL P)) := by
  obtain ⟨i0, hi, hz0, hz1, hz2⟩ := info_parts info_int
  obtain ⟨ao, an, ap, co, cn, cp, A, C, rfl, h1, h2, h3⟩ := h
  have HP := Lib.hid h3
  obtain ⟨w1, hw1⟩ : ∃ y, y = w.alloc (.cells #[.slice ao O.length co, .slice an zss.length cn, .slice ap P.length cp] 35) := ⟨_, rfl⟩
  have HW1 := Lib.hid hw1
  have hs1 : w1.heap.size = w.heap.size + 1 := by rw [hw1]; simp
  have B1 : Hid (Below w.heap.size w w1) := by rw [hw1]; exact below1 _ _
  have T1 : Hid (Box3 w1 w.heap.size 35 (.slice ao O.length co) (.slice an zss.length cn) (.slice ap P.length cp)) := by rw [hw1]; exact Box3.new _ _ _ _ _
  obtain ⟨w2, hw2⟩ : ∃ y, y = w1.alloc (.cells #[] 2) := ⟨_, rfl⟩
  have HW2 := Lib.hid hw2
  have K2 : Hid (Below w1.heap.size w1 w2) := by rw [hw2]; exact below1 _ _
  have O2 : Hid (w2.ownsRow w1.heap.size 2 1 (.slice (some ⟨w1.heap.size, 0, none⟩) 0 0) (downL P 0).length ((downL P 0).map (Value.int .i64))) := by rw [hw2]; exact World.ownsRow_made w1 #[] 0 (Nat.le_refl _) (by unfold maxLen; omega) rfl
  have HS1 := Lib.hid hs1
  clear hw1 hw2 h1 h2 h3 hs1
  go_enter Tryd.func73, Tryd.ntmps73
  go_wp2
  rw [← HW1.out, ← HS1.out, ← HW2.out]
  go_loopw [3, 4] (fun ov iv wr => ∃ k : Nat, k ≤ 20 ∧ iv = .int .i64 (39 - 2 * (k : Int)) ∧ Hid (wr.ownsRow w1.heap.size 2 1 ov (downL P k).length ((downL P k).map (Value.int .i64))) ∧ Hid (Below w1.heap.size w1 wr)) (fun _ iv _ => (intOf iv + 1).toNat)
  case atStart => exact ⟨0, Nat.zero_le _, rfl, O2, K2⟩
  case round =>
    clear K2 O2
    obtain ⟨k, hk, rfl, HO, HK⟩ := hrel
    have hfl := downL_len P k
    have B := Lib.hid (B1.out.trans (HK.out.mono B1.out.size))
    by_cases hlt : k < 20
    · have hi1 : (0 : Int) < 39 - 2 * (k : Int) := by omega
      have t2 := (T1.out.below HK.out).c2
      cases hb : hasB P (39 - 2 * (k : Int)) with
      | false =>
        have HD : Hid (downL P (k + 1) = downL P k) := downL_no hb
        have HC := Lib.hid (l7HasIn_is hb cp (HP.out.below B.out))
        clear hb
        go_wp2_with fail
        refine HC.out.mono ?_
        rintro e w3 ⟨rfl, rfl⟩
        clear HC t2
        go_wp2
        go_roundw
        case rel => exact ⟨k + 1, by omega, by go_num, by rw [HD.out]; exact HO, HK⟩
        case measure => simp [intOf]; omega
      | true =>
        have HD : Hid (downL P (k + 1) = downL P k ++ [39 - 2 * (k : Int)]) := downL_yes hb
        have HC := Lib.hid (l7HasIn_is hb cp (HP.out.below B.out))
        clear hb
        go_wp2_with fail
        refine HC.out.mono ?_
        rintro e w3 ⟨rfl, rfl⟩
        clear HC t2
        go_wp2_with (at_builtin; refine wpList_append_own_at _ rfl _ _ 22 rfl w1.heap.size 2 i0 (.int .i64 0) 1 8 Tryd.underlying22 hi hz0 hz1 hz2 rfl (by decide) _ _ _ rfl (HO.out.alloc _) ⟨wr.heap.size, 0, none⟩ 1 1 [.int .i64 (39 - 2 * (k : Int))] rfl rfl ?c1 ?c2 ?c3 ?c4 ?c5 ?_)
        try (case c1 => exact cell_one_new _ _ _)
        case c2 => first | rfl | (intro u hu; simp at hu; subst hu; rfl)
        case c3 => unfold maxLen; omega
        case c4 => omega
        case c5 => have := HK.out.size; simp; omega
        intro v' w4 hown hgrow _ _
        have hg : Only (fun b => w1.heap.size ≤ b) wr w4 := (Only.of_below (below1 wr _)).trans ((Only.of_grown hgrow).mono fun b hb => (HO.out.lt b hb).1)
        have Kn := Lib.hid (HK.out.trans (hg.below HK.out.size (fun _ h => h)))
        have HOn : Hid (w4.ownsRow w1.heap.size 2 1 v' (downL P (k + 1)).length ((downL P (k + 1)).map (Value.int .i64))) := by
          rw [HD.out, List.map_append, List.length_append]; exact hown
        clear hown hgrow hg
        go_wp2
        go_roundw
        case rel => exact ⟨k + 1, by omega, by go_num, HOn, Kn⟩
        case measure => simp [intOf]; omega
    · have hi1 : ¬ (0 : Int) < 39 - 2 * (k : Int) := by omega
      have hk20 : k = 20 := by omega
      subst hk20
      go_wp2
      go_ret
      refine ⟨_, rfl, ?_, B.out⟩
      have hl20 : (oddsL P).length ≤ 20 := downL_len P 20
      exact OwnInts.mk' (zs := oddsL P) (ownsRow_base HO.out B1.out.size) (by omega) (fun j hj => by
        obtain ⟨_, _, h3, h4⟩ := odds_mem.1 (nth_mem (zs := oddsL P) hj)
        unfold Fits
        omega)

end
end Go.Proofs.YtglbkbiphcgidaaDoor
namespace Go.Proofs.YtglbkbiphcgidaaDoor
section
open Go.RowKit Go.Shelf

set_option maxHeartbeats 4000000 in
theorem l8Many_is {w : World} {v : Value} {O P : List Int} {zss : List (List Int)} {p : Int} (h : GameAt w v O zss P) :
    Calls Tryd.prog 115 #[v, .int .i64 p] w fun e w' => e = .returned (.int .i64 (manyL P p)) ∧ Below w.heap.size w w' := by
  obtain ⟨ao, an, ap, co, cn, cp, A, C, rfl, h1, h2, h3⟩ := h
  obtain ⟨w1, hw1⟩ : ∃ y, y = w.alloc (.cells #[.slice ao O.length co, .slice an zss.length cn, .slice ap P.length cp] 35) := ⟨_, rfl⟩
  have HW1 := Lib.hid hw1
  have B1 : Hid (Below w.heap.size w w1) := by rw [hw1]; exact below1 _ _
  have T1 : Hid (Box3 w1 w.heap.size 35 (.slice ao O.length co) (.slice an zss.length cn) (.slice ap P.length cp)) := by rw [hw1]; exact Box3.new _ _ _ _ _
  have HP := Lib.hid (h3.below B1.out)
  have hlP := h3.len
  have t2 := T1.out.c2
  clear hw1 h1 h2 h3
  go_enter Tryd.func115, Tryd.ntmps115
  go_wp2
  rw [← HW1.out]
  go_loopw [5, 6] (fun nv iv wr => ∃ k : Nat, k ≤ P.length ∧ nv = .int .i64 (manyK P p k) ∧ iv = .int .i64 k ∧ w1 = wr) (fun _ iv _ => P.length - (intOf iv).toNat)
  case atStart => exact ⟨0, Nat.zero_le _, rfl, rfl, rfl⟩
  case round =>
    obtain ⟨k, hk, rfl, rfl, rfl⟩ := hrel
    by_cases hlt : k < P.length
    · have hi1 : (k : Int) < P.length := by omega
      have hk0 : (0 : Int) ≤ (k : Int) := by omega
      obtain ⟨pb, po, hpa, hpc⟩ := HP.out.cell (by omega)
      have p1 := hpc k hlt
      have hb := manyK_le P p k
      have HS := Lib.hid (manyK_succ (p := p) hlt)
      obtain ⟨z, hz⟩ : ∃ z, z = nth P k := ⟨_, rfl⟩
      obtain ⟨c, hc⟩ : ∃ c, c = manyK P p k := ⟨_, rfl⟩
      have HZ := Lib.hid hz
      have HCc := Lib.hid hc
      rw [← hz] at p1
      rw [← hc] at hb ⊢
      subst hpa
      clear hpc hz hc
      by_cases hq : z = p
      · have hqe : (z == p) = true := by simpa using hq
        have HN : Hid (manyK P p (k + 1) = c + 1) := by rw [HS.out, ← HZ.out, if_pos hq, ← HCc.out]; rfl
        clear hq
        go_wp2
        go_roundw
        case rel => exact ⟨k + 1, by omega, by (rw [HN.out]; try go_num), by go_num, by first | rfl | trivial⟩
        case measure => simp [intOf]; omega
      · have hqe : (z == p) = false := by simpa using hq
        have HN : Hid (manyK P p (k + 1) = c) := by rw [HS.out, ← HZ.out, if_neg hq, ← HCc.out]; exact Int.add_zero _
        clear hq
        go_wp2
        go_roundw
        case rel => exact ⟨k + 1, by omega, by rw [HN.out], by go_num, by first | rfl | trivial⟩
        case measure => simp [intOf]; omega
    · have hi1 : ¬ (k : Int) < P.length := by omega
      have hkl : k = P.length := by omega
      subst hkl
      go_wp2
      go_ret
      exact ⟨rfl, B1.out⟩

set_option maxHeartbeats 8000000 in
set_option maxRecDepth 100000 in
theorem l8Good_is {w : World} {v : Value} {O P m : List Int} {zss : List (List Int)} {aq am : Option Addr} {r : Bool} (cq cm : Nat) (hr : goodB P m = r) (h : GameAt w v O zss P) (ho : IntsAt w aq (oddsL P)) (hm : IntsAt w am m) :
    Calls Tryd.prog 72 #[v, .slice aq (oddsL P).length cq, .slice am m.length cm] w fun e w' => e = .returned (.bool r) ∧ Below w.heap.size w w' := by
  have HGm := Lib.hid h
  obtain ⟨ao, an, ap, co, cn, cp, A, C, rfl, h1, h2, h3⟩ := h
  obtain ⟨w1, hw1⟩ : ∃ y, y = w.alloc (.cells #[.slice ao O.length co, .slice an zss.length cn, .slice ap P.length cp] 35) := ⟨_, rfl⟩
  have HW1 := Lib.hid hw1
  have B1 : Hid (Below w.heap.size w w1) := by rw [hw1]; exact below1 _ _
  have T1 : Hid (Box3 w1 w.heap.size 35 (.slice ao O.length co) (.slice an zss.length cn) (.slice ap P.length cp)) := by rw [hw1]; exact Box3.new _ _ _ _ _
  have HM := Lib.hid (hm.below B1.out)
  have HO := Lib.hid (ho.below B1.out)
  have hml := hm.len
  have hol := downL_len P 20
  obtain ⟨lq, hlq⟩ : ∃ lq, lq = (oddsL P).length := ⟨_, rfl⟩
  have HLQ := Lib.hid hlq
  have hol : lq ≤ 20 := by rw [hlq]; exact hol
  have HR := Lib.hid hr
  rw [← hlq]
  clear hw1 h1 h2 h3 hm ho hr hlq
  by_cases hA : m.length = 1
  · have hAe : ((m.length : Int) == 1) = true := by simp; omega
    obtain ⟨mb, mo, hma, hmc⟩ := HM.out.cell (by omega)
    have m0 := hmc 0 (by omega)
    rw [Nat.add_zero, HW1.out] at m0
    by_cases h1 : nth m 0 = 1
    · have h1e : (nth m 0 == 1) = true := by rw [h1]; rfl
      have HF : Hid (r = true) := by rw [← HR.out]; exact goodB_iff.2 (.inl (one_iff.2 ⟨hA, h1⟩))
      subst hma
      clear hmc h1
      go_enter Tryd.func72, Tryd.ntmps72
      go_wp2
      go_ret
      exact ⟨ret_bool HF.out.symm, by rw [← HW1.out]; exact B1.out⟩
    · have h1e : (nth m 0 == 1) = false := by simpa using h1
      have HNO : Hid (¬ m = [1]) := fun h => h1 (one_iff.1 h).2
      subst hma
      have HMC := Lib.hid hmc
      have hA0 : 0 < m.length := by omega
      clear h1 hmc hA
      by_cases hD : m.length = lq + 1
      · have hDi : ((m.length : Int) != (lq : Int) + 1) = false := by simp; omega
        have hD1 : m.length ≤ lq + 1 := by omega
        have hD2 : lq + 1 ≤ m.length := by omega
        clear hD
        by_cases h0 : nth m 0 = 0
        · have h0e : (nth m 0 != 0) = false := by rw [h0]; rfl
          have HK0 : Hid (∀ j, j < 0 + 1 → 0 ≤ nth m j ∧ nth m j ≤ nth (mostL P) j) := fun j hj => by
            have : j = 0 := by omega
            rw [this, h0]
            exact ⟨Int.le_refl _, Int.le_refl _⟩
          clear h0
          go_enter Tryd.func72, Tryd.ntmps72
          go_wp2
          rw [← HW1.out]
          go_loopw [7] (fun iv wr => ∃ i : Nat, i ≤ lq ∧ iv = .int .i64 i ∧ Hid (∀ j, j < i + 1 → 0 ≤ nth m j ∧ nth m j ≤ nth (mostL P) j) ∧ Hid (Below w1.heap.size w1 wr)) (fun iv _ => lq - (intOf iv).toNat)
          case atStart => exact ⟨0, Nat.zero_le _, rfl, HK0, Below.refl _ _⟩
          case round =>
            clear HK0 m0 h0e
            obtain ⟨i, hi, rfl, HJ, HB⟩ := hrel
            by_cases hlt : i < lq
            · have hi1 : (i : Int) < (lq : Int) := by omega
              have hi2 : (0 : Int) ≤ (i : Int) := by omega
              have hi3 : (i : Int) + 1 < (m.length : Int) := by omega
              have hi4 : (0 : Int) ≤ (i : Int) + 1 := by omega
              have hi5 : ((i : Int) + 1).toNat = i + 1 := by omega
              have hi6 : IntKind.i64.wrap ((i : Int) + 1) = (i : Int) + 1 := by rw [IntKind.wrap_i64]; omega
              have hlo : i < (oddsL P).length := by have := HLQ.out; omega
              obtain ⟨ob, oo, hoa, hoc⟩ := HO.out.cell (by omega)
              have HOC := Lib.hid (hoc i hlo)
              subst hoa
              clear hoc
              have HST : Hid (nth (mostL P) (i + 1) = manyL P (nth (oddsL P) i)) := mostK_at hlo
              obtain ⟨y, hy⟩ : ∃ y, y = nth (oddsL P) i := ⟨_, rfl⟩
              obtain ⟨x, hx⟩ : ∃ x, x = nth m (i + 1) := ⟨_, rfl⟩
              have HY := Lib.hid hy
              have HX := Lib.hid hx
              have HSv : Hid (∀ W, Below wr.heap.size wr W → W.cell? ⟨w.heap.size, 0, none⟩ = some (.slice ao O.length co) ∧ W.cell? ⟨w.heap.size, 1, none⟩ = some (.slice an zss.length cn) ∧ W.cell? ⟨w.heap.size, 2, none⟩ = some (.slice ap P.length cp) ∧ W.cell? ⟨mb, mo + (i + 1), none⟩ = some (.int .i64 x) ∧ W.cell? ⟨ob, oo + i, none⟩ = some (.int .i64 y)) := fun W hb => by
                have hb2 := HB.out.trans (hb.mono HB.out.size)
                have c1 := HMC.out (i + 1) (by omega)
                have c2 := HOC.out
                rw [HY.out, HX.out]
                exact ⟨(T1.out.below hb2).c0, (T1.out.below hb2).c1, (T1.out.below hb2).c2, (hb2.cell (World.block_lt_of_cell? _ _ c1)).trans c1, (hb2.cell (World.block_lt_of_cell? _ _ c2)).trans c2⟩
              have Kd : Hid (Below wr.heap.size wr wr.drew) := (Below.refl _ _).drew
              have hlo2 := hlo
              clear hlo hy hx
              have h0 := HSv.out _ Kd.out
              obtain ⟨q, hq⟩ : ∃ q, q = manyL P y := ⟨_, rfl⟩
              have HMN : Hid (Calls Tryd.prog 115 #[.agg #[.slice ao O.length co, .slice an zss.length cn, .slice ap P.length cp], .int .i64 y] wr.drew fun e w' => e = .returned (.int .i64 q) ∧ Below wr.drew.heap.size wr.drew w') := by
                rw [hq]
                exact l8Many_is (HGm.out.below (B1.out.trans ((HB.out.trans (Kd.out.mono HB.out.size)).mono B1.out.size)))
              have HQ := Lib.hid hq
              clear hq hlo2
              cases hin : inB x 0 q with
              | true =>
                have HJn : Hid (∀ j, j < i + 1 + 1 → 0 ≤ nth m j ∧ nth m j ≤ nth (mostL P) j) := fun j hj => by
                  by_cases e : j = i + 1
                  · subst e
                    rw [HST.out, ← HX.out, ← HY.out, ← HQ.out]
                    exact inB_iff.1 hin
                  · exact HJ.out j (by omega)
                go_wp2
                go_region_held3 (fun W => W.cell? ⟨w.heap.size, 0, none⟩ = some (.slice ao O.length co) ∧ W.cell? ⟨w.heap.size, 1, none⟩ = some (.slice an zss.length cn) ∧ W.cell? ⟨w.heap.size, 2, none⟩ = some (.slice ap P.length cp) ∧ W.cell? ⟨mb, mo + (i + 1), none⟩ = some (.int .i64 x) ∧ W.cell? ⟨ob, oo + i, none⟩ = some (.int .i64 y))
                  (first
                    | exact HSv.out _ Kd.out
                    | exact HSv.out _ Km.out
                    | go_keep)
                  (first
                    | (go_at_call 115; refine HMN.out.mono ?_; rintro e wm ⟨rfl, hb⟩; have Km := Lib.hid (Kd.out.trans (hb.mono Kd.out.size)); clear hb)
                    | (go_at_call 79; refine (l1In_is hin _).mono ?_; rintro e wn ⟨rfl, rfl⟩))
                all_goals (
                  go_wp2
                  go_roundw
                  case rel => exact ⟨i + 1, by omega, by go_num, HJn, HB.out.trans (Km.out.mono HB.out.size)⟩
                  case measure => simp [intOf]; omega)
              | false =>
                have HF : Hid (r = false) := by
                  rw [← HR.out]
                  cases hg : goodB P m with
                  | false => rfl
                  | true =>
                    rcases goodB_iff.1 hg with h1 | ⟨_, h2⟩
                    · exact absurd h1 HNO.out
                    · have := h2 (i + 1) (by omega)
                      rw [HST.out, ← HX.out, ← HY.out, ← HQ.out] at this
                      rw [inB_iff.2 this] at hin
                      cases hin
                go_wp2
                go_region_held3 (fun W => W.cell? ⟨w.heap.size, 0, none⟩ = some (.slice ao O.length co) ∧ W.cell? ⟨w.heap.size, 1, none⟩ = some (.slice an zss.length cn) ∧ W.cell? ⟨w.heap.size, 2, none⟩ = some (.slice ap P.length cp) ∧ W.cell? ⟨mb, mo + (i + 1), none⟩ = some (.int .i64 x) ∧ W.cell? ⟨ob, oo + i, none⟩ = some (.int .i64 y))
                  (first
                    | exact HSv.out _ Kd.out
                    | exact HSv.out _ Km.out
                    | go_keep)
                  (first
                    | (go_at_call 115; refine HMN.out.mono ?_; rintro e wm ⟨rfl, hb⟩; have Km := Lib.hid (Kd.out.trans (hb.mono Kd.out.size)); clear hb)
                    | (go_at_call 79; refine (l1In_is hin _).mono ?_; rintro e wn ⟨rfl, rfl⟩))
                all_goals (
                  go_wp2
                  go_ret
                  exact ⟨ret_bool HF.out.symm, B1.out.trans ((HB.out.trans (Km.out.mono HB.out.size)).mono B1.out.size)⟩)
            · have hi1 : ¬ (i : Int) < (lq : Int) := by omega
              have hie : i = lq := by omega
              subst hie
              have HF : Hid (r = true) := by
                rw [← HR.out]
                exact goodB_iff.2 (.inr ⟨by rw [← HLQ.out]; omega, fun j hj => HJ.out j (by omega)⟩)
              go_wp2
              go_ret
              exact ⟨ret_bool HF.out.symm, B1.out.trans (HB.out.mono B1.out.size)⟩
        · have h0e : (nth m 0 != 0) = true := by simpa using h0
          have HF : Hid (r = false) := by
            rw [← HR.out]
            cases hg : goodB P m with
            | false => rfl
            | true =>
              rcases goodB_iff.1 hg with h1 | ⟨_, h2⟩
              · exact absurd h1 HNO.out
              · have := h2 0 (by omega)
                have h3 : nth (mostL P) 0 = 0 := rfl
                rw [h3] at this
                omega
          clear h0
          go_enter Tryd.func72, Tryd.ntmps72
          go_wp2
          go_ret
          exact ⟨ret_bool HF.out.symm, by rw [← HW1.out]; exact B1.out⟩
      · have hDi : ((m.length : Int) != (lq : Int) + 1) = true := by simp; omega
        have HF : Hid (r = false) := by
          rw [← HR.out]
          cases hg : goodB P m with
          | false => rfl
          | true =>
            rcases goodB_iff.1 hg with h1 | ⟨h1, _⟩
            · exact absurd h1 HNO.out
            · rw [← HLQ.out] at h1
              omega
        go_enter Tryd.func72, Tryd.ntmps72
        go_wp2
        go_ret
        exact ⟨ret_bool HF.out.symm, by rw [← HW1.out]; exact B1.out⟩
  · have hAe : ((m.length : Int) == 1) = false := by simp; omega
    have HNO : Hid (¬ m = [1]) := fun h => hA (one_iff.1 h).1
    by_cases hD : m.length = lq + 1
    · have hDi : ((m.length : Int) != (lq : Int) + 1) = false := by simp; omega
      obtain ⟨mb, mo, hma, hmc⟩ := HM.out.cell (by omega)
      have m0 := hmc 0 (by omega)
      rw [Nat.add_zero, HW1.out] at m0
      have HMC := Lib.hid hmc
      subst hma
      clear hmc
      have hD1 : m.length ≤ lq + 1 := by omega
      have hD2 : lq + 1 ≤ m.length := by omega
      clear hD
      by_cases h0 : nth m 0 = 0
      · have h0e : (nth m 0 != 0) = false := by rw [h0]; rfl
        have HK0 : Hid (∀ j, j < 0 + 1 → 0 ≤ nth m j ∧ nth m j ≤ nth (mostL P) j) := fun j hj => by
          have : j = 0 := by omega
          rw [this, h0]
          exact ⟨Int.le_refl _, Int.le_refl _⟩
        clear h0
        go_enter Tryd.func72, Tryd.ntmps72
        go_wp2
        rw [← HW1.out]
        go_loopw [7] (fun iv wr => ∃ i : Nat, i ≤ lq ∧ iv = .int .i64 i ∧ Hid (∀ j, j < i + 1 → 0 ≤ nth m j ∧ nth m j ≤ nth (mostL P) j) ∧ Hid (Below w1.heap.size w1 wr)) (fun iv _ => lq - (intOf iv).toNat)
        case atStart => exact ⟨0, Nat.zero_le _, rfl, HK0, Below.refl _ _⟩
        case round =>
          clear HK0 m0 h0e
          obtain ⟨i, hi, rfl, HJ, HB⟩ := hrel
          by_cases hlt : i < lq
          · have hi1 : (i : Int) < (lq : Int) := by omega
            have hi2 : (0 : Int) ≤ (i : Int) := by omega
            have hi3 : (i : Int) + 1 < (m.length : Int) := by omega
            have hi4 : (0 : Int) ≤ (i : Int) + 1 := by omega
            have hi5 : ((i : Int) + 1).toNat = i + 1 := by omega
            have hi6 : IntKind.i64.wrap ((i : Int) + 1) = (i : Int) + 1 := by rw [IntKind.wrap_i64]; omega
            have hlo : i < (oddsL P).length := by have := HLQ.out; omega
            obtain ⟨ob, oo, hoa, hoc⟩ := HO.out.cell (by omega)
            have HOC := Lib.hid (hoc i hlo)
            subst hoa
            clear hoc
            have HST : Hid (nth (mostL P) (i + 1) = manyL P (nth (oddsL P) i)) := mostK_at hlo
            obtain ⟨y, hy⟩ : ∃ y, y = nth (oddsL P) i := ⟨_, rfl⟩
            obtain ⟨x, hx⟩ : ∃ x, x = nth m (i + 1) := ⟨_, rfl⟩
            have HY := Lib.hid hy
            have HX := Lib.hid hx
            have HSv : Hid (∀ W, Below wr.heap.size wr W → W.cell? ⟨w.heap.size, 0, none⟩ = some (.slice ao O.length co) ∧ W.cell? ⟨w.heap.size, 1, none⟩ = some (.slice an zss.length cn) ∧ W.cell? ⟨w.heap.size, 2, none⟩ = some (.slice ap P.length cp) ∧ W.cell? ⟨mb, mo + (i + 1), none⟩ = some (.int .i64 x) ∧ W.cell? ⟨ob, oo + i, none⟩ = some (.int .i64 y)) := fun W hb => by
              have hb2 := HB.out.trans (hb.mono HB.out.size)
              have c1 := HMC.out (i + 1) (by omega)
              have c2 := HOC.out
              rw [HY.out, HX.out]
              exact ⟨(T1.out.below hb2).c0, (T1.out.below hb2).c1, (T1.out.below hb2).c2, (hb2.cell (World.block_lt_of_cell? _ _ c1)).trans c1, (hb2.cell (World.block_lt_of_cell? _ _ c2)).trans c2⟩
            have Kd : Hid (Below wr.heap.size wr wr.drew) := (Below.refl _ _).drew
            have hlo2 := hlo
            clear hlo hy hx
            have h0 := HSv.out _ Kd.out
            obtain ⟨q, hq⟩ : ∃ q, q = manyL P y := ⟨_, rfl⟩
            have HMN : Hid (Calls Tryd.prog 115 #[.agg #[.slice ao O.length co, .slice an zss.length cn, .slice ap P.length cp], .int .i64 y] wr.drew fun e w' => e = .returned (.int .i64 q) ∧ Below wr.drew.heap.size wr.drew w') := by
              rw [hq]
              exact l8Many_is (HGm.out.below (B1.out.trans ((HB.out.trans (Kd.out.mono HB.out.size)).mono B1.out.size)))
            have HQ := Lib.hid hq
            clear hq hlo2
            cases hin : inB x 0 q with
            | true =>
              have HJn : Hid (∀ j, j < i + 1 + 1 → 0 ≤ nth m j ∧ nth m j ≤ nth (mostL P) j) := fun j hj => by
                by_cases e : j = i + 1
                · subst e
                  rw [HST.out, ← HX.out, ← HY.out, ← HQ.out]
                  exact inB_iff.1 hin
                · exact HJ.out j (by omega)
              go_wp2
              go_region_held3 (fun W => W.cell? ⟨w.heap.size, 0, none⟩ = some (.slice ao O.length co) ∧ W.cell? ⟨w.heap.size, 1, none⟩ = some (.slice an zss.length cn) ∧ W.cell? ⟨w.heap.size, 2, none⟩ = some (.slice ap P.length cp) ∧ W.cell? ⟨mb, mo + (i + 1), none⟩ = some (.int .i64 x) ∧ W.cell? ⟨ob, oo + i, none⟩ = some (.int .i64 y))
                (first
                  | exact HSv.out _ Kd.out
                  | exact HSv.out _ Km.out
                  | go_keep)
                (first
                  | (go_at_call 115; refine HMN.out.mono ?_; rintro e wm ⟨rfl, hb⟩; have Km := Lib.hid (Kd.out.trans (hb.mono Kd.out.size)); clear hb)
                  | (go_at_call 79; refine (l1In_is hin _).mono ?_; rintro e wn ⟨rfl, rfl⟩))
              all_goals (
                go_wp2
                go_roundw
                case rel => exact ⟨i + 1, by omega, by go_num, HJn, HB.out.trans (Km.out.mono HB.out.size)⟩
                case measure => simp [intOf]; omega)
            | false =>
              have HF : Hid (r = false) := by
                rw [← HR.out]
                cases hg : goodB P m with
                | false => rfl
                | true =>
                  rcases goodB_iff.1 hg with h1 | ⟨_, h2⟩
                  · exact absurd h1 HNO.out
                  · have := h2 (i + 1) (by omega)
                    rw [HST.out, ← HX.out, ← HY.out, ← HQ.out] at this
                    rw [inB_iff.2 this] at hin
                    cases hin
              go_wp2
              go_region_held3 (fun W => W.cell? ⟨w.heap.size, 0, none⟩ = some (.slice ao O.length co) ∧ W.cell? ⟨w.heap.size, 1, none⟩ = some (.slice an zss.length cn) ∧ W.cell? ⟨w.heap.size, 2, none⟩ = some (.slice ap P.length cp) ∧ W.cell? ⟨mb, mo + (i + 1), none⟩ = some (.int .i64 x) ∧ W.cell? ⟨ob, oo + i, none⟩ = some (.int .i64 y))
                (first
                  | exact HSv.out _ Kd.out
                  | exact HSv.out _ Km.out
                  | go_keep)
                (first
                  | (go_at_call 115; refine HMN.out.mono ?_; rintro e wm ⟨rfl, hb⟩; have Km := Lib.hid (Kd.out.trans (hb.mono Kd.out.size)); clear hb)
                  | (go_at_call 79; refine (l1In_is hin _).mono ?_; rintro e wn ⟨rfl, rfl⟩))
              all_goals (
                go_wp2
                go_ret
                exact ⟨ret_bool HF.out.symm, B1.out.trans ((HB.out.trans (Km.out.mono HB.out.size)).mono B1.out.size)⟩)
          · have hi1 : ¬ (i : Int) < (lq : Int) := by omega
            have hie : i = lq := by omega
            subst hie
            have HF : Hid (r = true) := by
              rw [← HR.out]
              exact goodB_iff.2 (.inr ⟨by rw [← HLQ.out]; omega, fun j hj => HJ.out j (by omega)⟩)
            go_wp2
            go_ret
            exact ⟨ret_bool HF.out.symm, B1.out.trans (HB.out.mono B1.out.size)⟩
      · have h0e : (nth m 0 != 0) = true := by simpa using h0
        have HF : Hid (r = false) := by
          rw [← HR.out]
          cases hg : goodB P m with
          | false => rfl
          | true =>
            rcases goodB_iff.1 hg with h1 | ⟨_, h2⟩
            · exact absurd h1 HNO.out
            · have := h2 0 (by omega)
              have h3 : nth (mostL P) 0 = 0 := rfl
              rw [h3] at this
              omega
        clear h0
        go_enter Tryd.func72, Tryd.ntmps72
        go_wp2
        go_ret
        exact ⟨ret_bool HF.out.symm, by rw [← HW1.out]; exact B1.out⟩
    · have hDi : ((m.length : Int) != (lq : Int) + 1) = true := by simp; omega
      have HF : Hid (r = false) := by
        rw [← HR.out]
        cases hg : goodB P m with
        | false => rfl
        | true =>
          rcases goodB_iff.1 hg with h1 | ⟨h1, _⟩
          · exact absurd h1 HNO.out
          · rw [← HLQ.out] at h1
            omega
      go_enter Tryd.func72, Tryd.ntmps72
      go_wp2
      go_ret
      exact ⟨ret_bool HF.out.symm, by rw [← HW1.out]; exact B1.out⟩

set_option maxHeartbeats 8000000 in
set_option maxRecDepth 100000 in
theorem specMeasureOk_is {w : World} {v : Value} {O P m : List Int} {zss : List (List Int)} {am : Option Addr} {r : Bool} (cm : Nat) (hr : measB O zss P m = r) (h : GameAt w v O zss P) (hm : IntsAt w am m) :
    Calls Tryd.prog 27 #[v, .slice am m.length cm] w fun e w' => e = .returned (.bool r) ∧ Below w.heap.size w w' := by
  have HGm := Lib.hid h
  obtain ⟨ao, an, ap, co, cn, cp, A, C, rfl, h1, h2, h3⟩ := h
  obtain ⟨w1, hw1⟩ : ∃ y, y = w.alloc (.cells #[.slice ao O.length co, .slice an zss.length cn, .slice ap P.length cp] 35) := ⟨_, rfl⟩
  have HW1 := Lib.hid hw1
  have B1 : Hid (Below w.heap.size w w1) := by rw [hw1]; exact below1 _ _
  have T1 : Hid (Box3 w1 w.heap.size 35 (.slice ao O.length co) (.slice an zss.length cn) (.slice ap P.length cp)) := by rw [hw1]; exact Box3.new _ _ _ _ _
  have HM := Lib.hid hm
  have hml := hm.len
  have HR := Lib.hid hr
  clear hw1 h1 h2 h3 hm hr
  have HSv : Hid (∀ W, Below w1.heap.size w1 W → W.cell? ⟨w.heap.size, 0, none⟩ = some (.slice ao O.length co) ∧ W.cell? ⟨w.heap.size, 1, none⟩ = some (.slice an zss.length cn) ∧ W.cell? ⟨w.heap.size, 2, none⟩ = some (.slice ap P.length cp)) := fun W hb => ⟨(T1.out.below hb).c0, (T1.out.below hb).c1, (T1.out.below hb).c2⟩
  have Kd : Hid (Below w1.heap.size w1 w1.drew) := (Below.refl _ _).drew
  have h0 := HSv.out _ Kd.out
  cases hs : smallB O zss P with
  | false =>
    have HC := Lib.hid (l8Small_is hs (HGm.out.below (B1.out.trans (Kd.out.mono B1.out.size))))
    have HF : Hid (r = false) := by rw [← HR.out]; unfold measB; rw [hs]; rfl
    clear hs
    go_enter Tryd.func27, Tryd.ntmps27
    go_wp2
    rw [← HW1.out]
    have t0 := T1.out.c0
    have t1 := T1.out.c1
    have t2 := T1.out.c2
    first
      | go_region_law (first
          | (go_simp; go_at_call 71; refine HC.out.mono ?_; rintro e wm ⟨rfl, hb⟩; have Km := Lib.hid (Kd.out.trans (hb.mono Kd.out.size)); clear hb))
      | fail
    all_goals (
      go_wp2
      go_ret
      exact ⟨ret_bool HF.out.symm, B1.out.trans (Km.out.mono B1.out.size)⟩)
  | true =>
    have HC := Lib.hid (l8Small_is hs (HGm.out.below (B1.out.trans (Kd.out.mono B1.out.size))))
    have HOd := Lib.hid (fun (W : World) (hb : Below w1.heap.size w1 W) => l8Odds_is (HGm.out.below (B1.out.trans (hb.mono B1.out.size))))
    have HGd := Lib.hid (fun (W : World) (hb : Below w1.heap.size w1 W) (aq : Option Addr) (cq : Nat) (hq : IntsAt W aq (oddsL P)) => l8Good_is (r := goodB P m) cq cm rfl (HGm.out.below (B1.out.trans (hb.mono B1.out.size))) hq (HM.out.below (B1.out.trans (hb.mono B1.out.size))))
    obtain ⟨rg, hrg⟩ : ∃ rg, rg = goodB P m := ⟨_, rfl⟩
    have HF : Hid (r = rg) := by rw [← HR.out, hrg]; unfold measB; rw [hs]; rfl
    rw [← hrg] at HGd
    clear hs hrg
    go_enter Tryd.func27, Tryd.ntmps27
    go_wp2
    rw [← HW1.out]
    go_region_held3 (fun W => W.cell? ⟨w.heap.size, 0, none⟩ = some (.slice ao O.length co) ∧ W.cell? ⟨w.heap.size, 1, none⟩ = some (.slice an zss.length cn) ∧ W.cell? ⟨w.heap.size, 2, none⟩ = some (.slice ap P.length cp))
      (first
        | exact HSv.out _ Kd.out
        | exact HSv.out _ Km.out
        | exact HSv.out _ Kn.out
        | exact HSv.out _ Ko.out
        | go_keep)
      (first
        | (go_at_call 71; refine HC.out.mono ?_; rintro e wm ⟨rfl, hb⟩; have Km := Lib.hid (Kd.out.trans (hb.mono Kd.out.size)); clear hb)
        | (go_at_call 73; refine (HOd.out _ Km.out).mono ?_; rintro e wn ⟨u, rfl, hu, hb⟩; obtain ⟨qa, qc, hus, hqi, _⟩ := hu.shape; subst hus; have Kn := Lib.hid (Km.out.trans (hb.mono Km.out.size)); have HQ := Lib.hid hqi; clear hb hu hqi)
        | (go_at_call 72; refine (HGd.out _ Kn.out _ _ HQ.out).mono ?_; rintro e wo ⟨rfl, hb⟩; have Ko := Lib.hid (Kn.out.trans (hb.mono Kn.out.size)); clear hb))
    all_goals (
      go_wp2
      go_ret
      exact ⟨ret_bool HF.out.symm, B1.out.trans (Ko.out.mono B1.out.size)⟩)
end
end Go.Proofs.YtglbkbiphcgidaaDoor
namespace Go.Proofs.YtglbkbiphcgidaaDoor
section
open Go.RowKit Go.Shelf

theorem good_len {P m : List Int} (h : goodB P m = true) : 0 < m.length ∧ m.length ≤ (oddsL P).length + 1 := by
  by_cases hm : m = [1]
  · rw [hm]; simp
  · have := (good_top h hm).1; omega
theorem good_pair {P a b : List Int} (ha : goodB P a = true) (hb : goodB P b = true) (h0 : nth a 0 = nth b 0) : a.length = b.length := by
  by_cases h1 : a = [1]
  · by_cases h2 : b = [1]
    · rw [h1, h2]
    · have := (good_top hb h2).2
      rw [h1] at h0
      have h3 : nth [1] 0 = 1 := rfl
      omega
  · have h3 := good_top ha h1
    by_cases h2 : b = [1]
    · rw [h2] at h0
      have h4 : nth [1] 0 = 1 := rfl
      omega
    · have h4 := good_top hb h2; omega

set_option maxRecDepth 100000 in
set_option maxHeartbeats 8000000 in
theorem l8Less_is {w : World} {P a b : List Int} {aq aa ab : Option Addr} {p : Int} {r : Bool} (cq ca cb : Nat) (hga : goodB P a = true) (hgb : goodB P b = true) (hr : @decide (LessP (oddsL P) a b p) (Classical.propDecidable _) = r) (ho : IntsAt w aq (oddsL P)) (ha : IntsAt w aa a) (hb : IntsAt w ab b) :
    Calls Tryd.prog 75 #[.slice aq (oddsL P).length cq, .slice aa a.length ca, .slice ab b.length cb, .int .i64 p] w fun e w' => e = .returned (.bool r) ∧ ∃ q, w' = w.drewN q := by
  have HY : Hid (LessP (oddsL P) a b p → r = true) := fun h => by rw [← hr]; exact @decide_eq_true _ (Classical.propDecidable _) h
  have HN : Hid (¬ LessP (oddsL P) a b p → r = false) := fun h => by rw [← hr]; exact @decide_eq_false _ (Classical.propDecidable _) h
  obtain ⟨hla, hla2⟩ := good_len hga
  obtain ⟨hlb, hlb2⟩ := good_len hgb
  have HP := Lib.hid (good_pair hga hgb)
  have hal := ha.len
  have hol : (oddsL P).length ≤ 20 := downL_len P 20
  obtain ⟨mb, mo, hma, hmc⟩ := ha.cell hla
  obtain ⟨nb, no, hna, hnc⟩ := hb.cell hlb
  have HO := Lib.hid ho
  have HMC := Lib.hid hmc
  have HNC := Lib.hid hnc
  have m0 := hmc 0 hla
  have n0 := hnc 0 hlb
  rw [Nat.add_zero] at m0 n0
  subst hma
  subst hna
  have hla1 : (0 : Int) < a.length := by omega
  have hlb1 : (0 : Int) < b.length := by omega
  obtain ⟨x, hx⟩ : ∃ x, x = nth a 0 := ⟨_, rfl⟩
  obtain ⟨y, hy⟩ : ∃ y, y = nth b 0 := ⟨_, rfl⟩
  have HX := Lib.hid hx
  have HYy := Lib.hid hy
  rw [← hx] at m0
  rw [← hy] at n0
  clear hmc hnc hr ho ha hb hga hgb hx hy
  by_cases hxy : x = y
  · have hne : (x != y) = false := by simpa using hxy
    have HJ0 : Hid (∀ j, j < 1 → nth a j = nth b j) := fun j hj => by
      have : j = 0 := by omega
      rw [this, ← HX.out, ← HYy.out]; exact hxy
    have HLE : Hid (a.length = b.length) := HP.out (by rw [← HX.out, ← HYy.out]; exact hxy)
    clear hxy
    go_enter Tryd.func75, Tryd.ntmps75
    go_wp2
    go_quiet (fail)
    go_wp2
    go_loopw [9] (fun iv wr => ∃ i : Nat, 1 ≤ i ∧ i ≤ a.length ∧ iv = .int .i64 i ∧ Hid (∀ j, j < i → nth a j = nth b j) ∧ Hid (∃ q, wr = w.drewN q)) (fun iv _ => a.length - (intOf iv).toNat)
    case atStart => exact ⟨1, Nat.le_refl _, by omega, rfl, HJ0, ⟨nq, rfl⟩⟩
    case round =>
      clear HJ0 m0 n0 hne
      obtain ⟨i, hi1, hi2, rfl, HJ, HW⟩ := hrel
      have hi0 : (0 : Int) ≤ (i : Int) := by omega
      by_cases hlt : i < a.length
      · have hlt1 : (i : Int) < a.length := by omega
        have hlt2 : i < b.length := by have := HLE.out; omega
        have hlt3 : (i : Int) < b.length := by omega
        have hq0 : i - 1 < (oddsL P).length := by omega
        obtain ⟨qw, hqw⟩ := HW.out
        obtain ⟨ob, oo, hoa, hoc⟩ := HO.out.cell (by omega)
        have o1 := hoc (i - 1) hq0
        have hsub : IntKind.i64.wrap ((i : Int) - 1) = (i : Int) - 1 := by rw [IntKind.wrap_i64]; omega
        have hsb0 : (0 : Int) ≤ (i : Int) - 1 := by omega
        have hsb1 : (i : Int) - 1 < (oddsL P).length := by omega
        have hsb2 : ((i : Int) - 1).toNat = i - 1 := by omega
        obtain ⟨z, hz⟩ : ∃ z, z = nth (oddsL P) (i - 1) := ⟨_, rfl⟩
        have HZ := Lib.hid hz
        rw [← hz] at o1
        obtain ⟨u, hu⟩ : ∃ u, u = nth a i := ⟨_, rfl⟩
        obtain ⟨v, hv⟩ : ∃ v, v = nth b i := ⟨_, rfl⟩
        have HU := Lib.hid hu
        have HV := Lib.hid hv
        have m1 := HMC.out i hlt
        have n1 := HNC.out i hlt2
        rw [← hu] at m1
        rw [← hv] at n1
        have o2 : wr.cell? ⟨ob, oo + (i - 1), none⟩ = some (.int .i64 z) := by rw [hqw, World.cell?_drewN]; exact o1
        have m2 : wr.cell? ⟨mb, mo + i, none⟩ = some (.int .i64 u) := by rw [hqw, World.cell?_drewN]; exact m1
        have n2 : wr.cell? ⟨nb, no + i, none⟩ = some (.int .i64 v) := by rw [hqw, World.cell?_drewN]; exact n1
        have HO2 := Lib.hid hoa
        subst hoa
        clear hoc o1 m1 n1 hz hu hv hqw
        by_cases hpz : p ≤ z
        · by_cases huv : u = v
          · have hne : (u != v) = false := by simpa using huv
            have HJn : Hid (∀ j, j < i + 1 → nth a j = nth b j) := fun j hj => by
              by_cases e : j = i
              · rw [e, ← HU.out, ← HV.out]; exact huv
              · exact HJ.out j (by omega)
            clear huv
            go_wp2
            go_quiet (fail)
            go_wp2
            go_roundw
            case rel => exact ⟨i + 1, by omega, by omega, by go_num, HJn, by obtain ⟨q, hq⟩ := HW.out; exact ⟨q + nq, by rw [hq, World.drewN_drewN]⟩⟩
            case measure => simp [intOf]; omega
          · have hne : (u != v) = true := by simpa using huv
            by_cases hult : u < v
            · have HF : Hid (r = true) := HY.out ⟨i, hlt, .inr (by rw [← HZ.out]; exact hpz), HJ.out, by rw [← HU.out, ← HV.out]; exact hult⟩
              clear huv
              go_wp2
              go_quiet (fail)
              go_wp2
              go_quiet (fail)
              go_wp2
              go_ret
              exact ⟨ret_bool HF.out.symm, by obtain ⟨q, hq⟩ := HW.out; rw [hq, World.drewN_drewN, World.drewN_drewN]; exact ⟨_, rfl⟩⟩
            · have HF : Hid (r = false) := HN.out (LessP.no HJ.out (by rw [← HU.out, ← HV.out]; omega))
              clear huv
              go_wp2
              go_quiet (fail)
              go_wp2
              go_quiet (fail)
              go_wp2
              go_ret
              exact ⟨ret_bool ((decide_eq_false (Int.not_lt.2 hult)).trans HF.out.symm), by obtain ⟨q, hq⟩ := HW.out; rw [hq, World.drewN_drewN, World.drewN_drewN]; exact ⟨_, rfl⟩⟩
        · have HF : Hid (r = false) := HN.out (LessP.stop (by omega) hla2 HJ.out (fun h => by rw [← HZ.out] at h; exact hpz h.2))
          go_wp2
          go_ret
          exact ⟨ret_bool HF.out.symm, HW.out⟩
      · have hlt1 : ¬ (i : Int) < a.length := by omega
        have HF : Hid (r = false) := HN.out (LessP.stop (by omega) hla2 HJ.out (fun h => hlt h.1))
        go_wp2
        go_ret
        exact ⟨ret_bool HF.out.symm, HW.out⟩
  · have hne : (x != y) = true := by simpa using hxy
    by_cases hlt : x < y
    · have HF : Hid (r = true) := HY.out ⟨0, hla, .inl rfl, fun j hj => absurd hj (Nat.not_lt_zero _), by rw [← HX.out, ← HYy.out]; exact hlt⟩
      clear hxy
      go_enter Tryd.func75, Tryd.ntmps75
      go_wp2
      go_quiet (fail)
      go_wp2
      go_quiet (fail)
      go_wp2
      go_ret
      exact ⟨ret_bool HF.out.symm, by rw [World.drewN_drewN]; exact ⟨_, rfl⟩⟩
    · have HF : Hid (r = false) := HN.out (LessP.no (i := 0) (fun j hj => absurd hj (Nat.not_lt_zero _)) (by rw [← HX.out, ← HYy.out]; omega))
      clear hxy
      go_enter Tryd.func75, Tryd.ntmps75
      go_wp2
      go_quiet (fail)
      go_wp2
      go_quiet (fail)
      go_wp2
      go_ret
      exact ⟨ret_bool ((decide_eq_false (Int.not_lt.2 hlt)).trans HF.out.symm), by rw [World.drewN_drewN]; exact ⟨_, rfl⟩⟩

set_option maxRecDepth 100000 in
set_option maxHeartbeats 8000000 in
theorem specAtLeastIn_is {w : World} {v : Value} {O P a b : List Int} {zss : List (List Int)} {aa ab : Option Addr} {p : Int} {r : Bool} (ca cb : Nat) (hr : atB O zss P a b p = r) (h : GameAt w v O zss P) (ha : IntsAt w aa a) (hb : IntsAt w ab b) :
    Calls Tryd.prog 29 #[v, .slice aa a.length ca, .slice ab b.length cb, .int .i64 p] w fun e w' => e = .returned (.bool r) ∧ Below w.heap.size w w' := by
  have HGm := Lib.hid h
  obtain ⟨ao, an, ap, co, cn, cp, A, C, rfl, h1, h2, h3⟩ := h
  obtain ⟨w1, hw1⟩ : ∃ y, y = w.alloc (.cells #[.slice ao O.length co, .slice an zss.length cn, .slice ap P.length cp] 35) := ⟨_, rfl⟩
  have HW1 := Lib.hid hw1
  have B1 : Hid (Below w.heap.size w w1) := by rw [hw1]; exact below1 _ _
  have T1 : Hid (Box3 w1 w.heap.size 35 (.slice ao O.length co) (.slice an zss.length cn) (.slice ap P.length cp)) := by rw [hw1]; exact Box3.new _ _ _ _ _
  have HA := Lib.hid ha
  have HB := Lib.hid hb
  have HR := Lib.hid hr
  have t0 := T1.out.c0
  have t1 := T1.out.c1
  have t2 := T1.out.c2
  obtain ⟨ra, hra⟩ : ∃ ra, measB O zss P a = ra := ⟨_, rfl⟩
  obtain ⟨rb, hrb⟩ : ∃ rb, measB O zss P b = rb := ⟨_, rfl⟩
  have HC1 := Lib.hid (specMeasureOk_is ca hra (HGm.out.below B1.out) (HA.out.below B1.out))
  have HRA := Lib.hid hra
  have HRB := Lib.hid hrb
  clear hw1 h1 h2 h3 ha hb hr hra hrb
  cases ra with
  | false =>
    have HF : Hid (r = false) := by
      rw [← HR.out]
      have h := HRA.out
      unfold measB at h
      unfold atB
      rw [← Bool.and_assoc, h]; rfl
    go_enter Tryd.func29, Tryd.ntmps29
    go_wp2_with fail
    rw [← HW1.out]
    go_wp2_with fail
    refine HC1.out.mono ?_
    rintro e w2 ⟨rfl, hb⟩
    have B2 := Lib.hid (B1.out.trans (hb.mono B1.out.size))
    clear hb HC1 t0 t1 t2
    go_wp2
    go_ret
    exact ⟨ret_bool HF.out.symm, B2.out⟩
  | true =>
    cases rb with
    | false =>
      have HF : Hid (r = false) := by
        rw [← HR.out]
        have h := HRB.out
        unfold measB at h
        unfold atB
        cases hs : smallB O zss P with
        | false => rfl
        | true =>
          rw [hs, Bool.true_and] at h
          rw [h]
          cases goodB P a <;> rfl
      go_enter Tryd.func29, Tryd.ntmps29
      go_wp2_with fail
      rw [← HW1.out]
      go_wp2_with fail
      refine HC1.out.mono ?_
      rintro e w2 ⟨rfl, hb⟩
      have B2 := Lib.hid (B1.out.trans (hb.mono B1.out.size))
      have T2 := Lib.hid (T1.out.below hb)
      clear hb HC1 t0 t1 t2
      have t0 := T2.out.c0
      have t1 := T2.out.c1
      have t2 := T2.out.c2
      have HC2 := Lib.hid (specMeasureOk_is cb HRB.out (HGm.out.below B2.out) (HB.out.below B2.out))
      go_wp2_with fail
      refine HC2.out.mono ?_
      rintro e w3 ⟨rfl, hb⟩
      have B3 := Lib.hid (B2.out.trans (hb.mono B2.out.size))
      clear hb HC2 t0 t1 t2
      go_wp2
      go_ret
      exact ⟨ret_bool HF.out.symm, B3.out⟩
    | true =>
      have HGD : Hid (smallB O zss P = true ∧ goodB P a = true ∧ goodB P b = true) := by
        have h := HRA.out
        have h2 := HRB.out
        unfold measB at h h2
        rw [Bool.and_eq_true] at h h2
        exact ⟨h.1, h.2, h2.2⟩
      obtain ⟨l, hl⟩ : ∃ l, @decide (LessP (oddsL P) a b p) (Classical.propDecidable _) = l := ⟨_, rfl⟩
      have HF : Hid (r = !l) := by
        rw [← HR.out]
        unfold atB
        rw [HGD.out.1, HGD.out.2.1, HGD.out.2.2, hl]
        cases l <;> rfl
      have HLl := Lib.hid hl
      clear hl
      go_enter Tryd.func29, Tryd.ntmps29
      go_wp2_with fail
      rw [← HW1.out]
      go_wp2_with fail
      refine HC1.out.mono ?_
      rintro e w2 ⟨rfl, hb⟩
      have B2 := Lib.hid (B1.out.trans (hb.mono B1.out.size))
      have T2 := Lib.hid (T1.out.below hb)
      clear hb HC1 t0 t1 t2
      have t0 := T2.out.c0
      have t1 := T2.out.c1
      have t2 := T2.out.c2
      have HC2 := Lib.hid (specMeasureOk_is cb HRB.out (HGm.out.below B2.out) (HB.out.below B2.out))
      go_wp2_with fail
      refine HC2.out.mono ?_
      rintro e w3 ⟨rfl, hb⟩
      have B3 := Lib.hid (B2.out.trans (hb.mono B2.out.size))
      have T3 := Lib.hid (T2.out.below hb)
      clear hb HC2 t0 t1 t2
      have t0 := T3.out.c0
      have t1 := T3.out.c1
      have t2 := T3.out.c2
      have HC3 := Lib.hid (l8Odds_is (HGm.out.below B3.out))
      go_wp2_with fail
      refine HC3.out.mono ?_
      rintro e w4 ⟨u, rfl, hu, hb⟩
      obtain ⟨qa, qc, rfl, hq, _⟩ := hu.shape
      have B4 := Lib.hid (B3.out.trans (hb.mono B3.out.size))
      have HC4 := Lib.hid (l8Less_is qc ca cb HGD.out.2.1 HGD.out.2.2 HLl.out hq (HA.out.below B4.out) (HB.out.below B4.out))
      clear hb HC3 t0 t1 t2 hu hq
      go_wp2_with fail
      refine HC4.out.mono ?_
      rintro e w5 ⟨rfl, q5, rfl⟩
      have B5 := Lib.hid (below_drewN B4.out q5)
      clear HC4
      cases l with
      | false =>
        go_wp2
        go_ret
        exact ⟨ret_bool HF.out.symm, B5.out⟩
      | true =>
        go_wp2
        go_ret
        exact ⟨ret_bool HF.out.symm, B5.out⟩
end
end Go.Proofs.YtglbkbiphcgidaaDoor
namespace Go.Proofs.YtglbkbiphcgidaaDoor
open Go.RowKit

end Go.Proofs.YtglbkbiphcgidaaDoor
namespace Go.Proofs.YtglbkbiphcgidaaDoor
open Go.RowKit

end Go.Proofs.YtglbkbiphcgidaaDoor
namespace Go.Proofs.YtglbkbiphcgidaaDoor
section
open Go.RowKit

theorem arenaSize_is {w : World} {va : Value} {O : List Int} {zss : List (List Int)} (h : ArenaAt w va O zss) :
    Calls Tryd.prog 63 #[va] w fun e w' => e = .returned (.int .i64 O.length) ∧ Below w.heap.size w w' := by
  obtain ⟨ao, an, co, cn, A, C, rfl, h1, h2⟩ := h
  exact (size_is ao an O.length zss.length co cn w h1.len).mono fun e w' ⟨he, hw⟩ => ⟨he, hw ▸ below1 _ _⟩

theorem min_ok {P : List Int} (hz : 0 < P.length) : 0 ≤ minN P (P.length - 1) ↔ ∀ x ∈ P, 0 ≤ x := by
  constructor
  · intro h x hx
    obtain ⟨k, hk, rfl⟩ := mem_nth.1 hx
    have := minN_le (zs := P) (k := P.length - 1) (j := k) (by omega)
    omega
  · intro h
    obtain ⟨j, hj, e⟩ := minN_at (zs := P) (P.length - 1)
    rw [← e]; exact h _ (nth_mem (by omega))
theorem max_ok {P : List Int} (hz : 0 < P.length) : maxN P (P.length - 1) ≤ 40 ↔ ∀ x ∈ P, x ≤ 40 := by
  constructor
  · intro h x hx
    obtain ⟨k, hk, rfl⟩ := mem_nth.1 hx
    have := maxN_ge (zs := P) (k := P.length - 1) (j := k) (by omega)
    omega
  · intro h
    obtain ⟨j, hj, e⟩ := maxN_at (zs := P) (P.length - 1)
    rw [← e]; exact h _ (nth_mem (by omega))

set_option maxHeartbeats 4000000 in
set_option maxRecDepth 100000 in
theorem ParityOk_is {w : World} {v : Value} {O : List Int} {zss : List (List Int)} {P : List Int} {r : Bool} (hr : parityB O zss P = r) (h : GameAt w v O zss P) :
    Calls Tryd.prog 106 #[v] w fun e w' => e = .returned (.bool r) ∧ Below w.heap.size w w' := by
  obtain ⟨ao, an, ap, co, cn, cp, A, C, rfl, h1, h2, h3⟩ := h
  have hlO := h1.len
  have hlP := h3.len
  have HP := Lib.hid h3
  obtain ⟨w1, hw1⟩ : ∃ y, y = w.alloc (.cells #[.slice ao O.length co, .slice an zss.length cn, .slice ap P.length cp] 35) := ⟨_, rfl⟩
  have HW1 := Lib.hid hw1
  have B1 : Hid (Below w.heap.size w w1) := by rw [hw1]; exact below1 _ _
  have T1 : Hid (Box3 w1 w.heap.size 35 (.slice ao O.length co) (.slice an zss.length cn) (.slice ap P.length cp)) := by rw [hw1]; exact Box3.new _ _ _ _ _
  have HA : Hid (ArenaAt w (.agg #[.slice ao O.length co, .slice an zss.length cn]) O zss) := ⟨_, _, _, _, _, _, rfl, h1, h2⟩
  clear h1 h2 h3 hw1
  have t0 := T1.out.c0
  have t1 := T1.out.c1
  have t2 := T1.out.c2
  have hd1 : Below w1.heap.size w1 w1.drew := (Below.refl _ _).drew
  have B1d := Lib.hid (B1.out.trans (hd1.mono B1.out.size))
  have T1d := Lib.hid (T1.out.below hd1)
  clear hd1
  cases hA : arenaB O zss with
  | false =>
    have HE : Hid (r = false) := by rw [← hr]; simp [parityB, hA, Hid]
    have HC := Lib.hid (ArenaOk_at hA (HA.out.below B1d.out))
    clear hA hr
    go_enter Tryd.func106, Tryd.ntmps106
    go_wp2_with fail
    rw [← HW1.out]
    first
      | go_region_law (first
          | (go_simp; go_at_call 134; refine HC.out.mono ?_; rintro e w2 ⟨rfl, hb⟩; have B2 := Lib.hid (B1d.out.trans (hb.mono B1d.out.size)); clear hb))
      | fail
    all_goals (
      go_wp2
      go_ret
      exact ⟨by rw [HE.out]; rfl, B2.out⟩)
  | true =>
    have HAP := Lib.hid (arenaB_iff.1 hA)
    have HC := Lib.hid (ArenaOk_at hA (HA.out.below B1d.out))
    by_cases hl : P.length = O.length
    · have hn0 : 0 < P.length := by have := HAP.out.1; omega
      have hne : ((P.length : Int) != (O.length : Int)) = false := by simp; omega
      have HR : Hid (priosB P = r) := by rw [← hr]; simp [parityB, hA, hl, Hid]
      have hmn := min_ok hn0
      have hmx := max_ok hn0
      obtain ⟨mn, hmnE⟩ : ∃ m, minN P (P.length - 1) = m := ⟨_, rfl⟩
      obtain ⟨mx, hmxE⟩ : ∃ m, maxN P (P.length - 1) = m := ⟨_, rfl⟩
      rw [hmnE] at hmn
      rw [hmxE] at hmx
      have HMN := Lib.hid hmn
      have HMX := Lib.hid hmx
      have HMNE := Lib.hid hmnE
      have HMXE := Lib.hid hmxE
      have HL := Lib.hid hl
      have HN0 := Lib.hid hn0
      clear hA hr hl hmn hmx hmnE hmxE hn0
      go_enter Tryd.func106, Tryd.ntmps106
      go_wp2_with fail
      rw [← HW1.out]
      go_region_held3 (fun w' => w'.cell? ⟨w.heap.size, 0, none⟩ = some (.slice ao O.length co) ∧ w'.cell? ⟨w.heap.size, 1, none⟩ = some (.slice an zss.length cn) ∧ w'.cell? ⟨w.heap.size, 2, none⟩ = some (.slice ap P.length cp))
        (first
          | go_keep
          | exact ⟨e0, e1, e2⟩
          | exact ⟨f0, f1, f2⟩)
        (first
          | (go_at_call 134; refine HC.out.mono ?_; rintro e w2 ⟨rfl, hb⟩; have B2 := Lib.hid (B1d.out.trans (hb.mono B1d.out.size)); have T2 := Lib.hid (T1d.out.below hb); have e0 := T2.out.c0; have e1 := T2.out.c1; have e2 := T2.out.c2; clear hb)
          | (go_at_call 63; refine (arenaSize_is (HA.out.below B2.out)).mono ?_; rintro e w3 ⟨rfl, hb⟩; have B3 := Lib.hid (B2.out.trans (hb.mono B2.out.size)); have T3 := Lib.hid (T2.out.below hb); have f0 := T3.out.c0; have f1 := T3.out.c1; have f2 := T3.out.c2; clear hb))
      all_goals (
        clear e0 e1 e2 t0 t1 t2
        have HMinC := Lib.hid (Min_is cp HMNE.out (HP.out.below B3.out) HN0.out)
        have HMaxC := Lib.hid (fun W hb => Max_is (w := W) cp HMXE.out (HP.out.below hb) HN0.out)
        go_wp2_with fail
        refine HMinC.out.mono ?_
        rintro e w4 ⟨rfl, rfl⟩
        clear HMinC
        by_cases h0 : 0 ≤ mn
        · have HE : Hid (decide (mx ≤ 40) = r) := by
            rw [← HR.out]
            unfold priosB Hid
            rw [decide_eq_decide]
            constructor
            · intro h x hx; exact ⟨HMN.out.1 h0 x hx, HMX.out.1 h x hx⟩
            · intro h; exact HMX.out.2 fun x hx => (h x hx).2
          go_wp2_with fail
          refine (HMaxC.out _ B3.out).mono ?_
          rintro e w5 ⟨rfl, rfl⟩
          clear HMaxC
          go_wp2
          go_ret
          exact ⟨ret_bool HE.out, B3.out⟩
        · have HE : Hid (r = false) := by
            rw [← HR.out]
            unfold priosB Hid
            refine decide_eq_false fun h => h0 (HMN.out.2 fun x hx => (h x hx).1)
          have h1 : ¬ 0 ≤ mn := h0
          go_wp2
          go_ret
          exact ⟨by rw [HE.out]; rfl, B3.out⟩)
    · have hne : ((P.length : Int) != (O.length : Int)) = true := by simp; omega
      have HE : Hid (r = false) := by rw [← hr]; simp [parityB, hl, Hid]
      clear hA hr hl
      go_enter Tryd.func106, Tryd.ntmps106
      go_wp2_with fail
      rw [← HW1.out]
      go_region_held3 (fun w' => w'.cell? ⟨w.heap.size, 0, none⟩ = some (.slice ao O.length co) ∧ w'.cell? ⟨w.heap.size, 1, none⟩ = some (.slice an zss.length cn) ∧ w'.cell? ⟨w.heap.size, 2, none⟩ = some (.slice ap P.length cp))
        (first
          | go_keep
          | exact ⟨e0, e1, e2⟩
          | exact ⟨f0, f1, f2⟩)
        (first
          | (go_at_call 134; refine HC.out.mono ?_; rintro e w2 ⟨rfl, hb⟩; have B2 := Lib.hid (B1d.out.trans (hb.mono B1d.out.size)); have T2 := Lib.hid (T1d.out.below hb); have e0 := T2.out.c0; have e1 := T2.out.c1; have e2 := T2.out.c2; clear hb)
          | (go_at_call 63; refine (arenaSize_is (HA.out.below B2.out)).mono ?_; rintro e w3 ⟨rfl, hb⟩; have B3 := Lib.hid (B2.out.trans (hb.mono B2.out.size)); have T3 := Lib.hid (T2.out.below hb); have f0 := T3.out.c0; have f1 := T3.out.c1; have f2 := T3.out.c2; clear hb))
      all_goals (
        clear e0 e1 e2 t0 t1 t2
        go_wp2
        go_ret
        exact ⟨by rw [HE.out]; rfl, B3.out⟩)
end

section
open Go.RowKit

end

section
open Go.RowKit

end

section
open Go.RowKit

end

section
open Go.RowKit

end

end Go.Proofs.YtglbkbiphcgidaaDoor
namespace Go.Proofs.YtglbkbiphcgidaaDoor
section
open Go.Shelf
def dropLays_ren : Go.Shelf.Ren := ⟨fun | 10 => 147 | 6 => 93 | n => n, fun | 22 => 22 | 23 => 2 | 25 => 100 | 3 => 3 | 4 => 4 | 0 => 0 | n => n, fun | n => n⟩
theorem dropLays : Go.Proofs.SlLaysH.n10 Tryd.prog dropLays_ren := {
  mixed := by kernel_rfl
  f6 := ⟨Tryd.f93.name, by decide, Tryd.func93.trans (congrArg some (by kernel_rfl))⟩
  f10 := ⟨Tryd.f147.name, by decide, Tryd.func147.trans (congrArg some (by kernel_rfl))⟩
  t0 := Tryd.underlying0
  a0 := Tryd.isAgg0
  z0 := Tryd.sizeOf0
  v0 := Tryd.zeroValue0
  t3 := Tryd.underlying3
  a3 := Tryd.isAgg3
  z3 := Tryd.sizeOf3
  v3 := Tryd.zeroValue3
  t4 := Tryd.underlying4
  a4 := Tryd.isAgg4
  z4 := Tryd.sizeOf4
  v4 := Tryd.zeroValue4
  t22 := Tryd.underlying22
  a22 := Tryd.isAgg22
  z22 := Tryd.sizeOf22
  v22 := Tryd.zeroValue22
  a23 := Tryd.isAgg2
  z23 := Tryd.sizeOf2
  t25 := Tryd.underlying100
  a25 := Tryd.isAgg100
  z25 := Tryd.sizeOf100
  v25 := Tryd.zeroValue100 }
def backLays_ren : Go.Shelf.Ren := ⟨fun | 35 => 150 | n => n, fun | 22 => 22 | 23 => 2 | 3 => 3 | 4 => 4 | 0 => 0 | n => n, fun | n => n⟩
theorem backLays : Go.Proofs.SlLaysE.n35 Tryd.prog backLays_ren := {
  mixed := by kernel_rfl
  f35 := ⟨Tryd.f150.name, by decide, Tryd.func150.trans (congrArg some (by kernel_rfl))⟩
  t0 := Tryd.underlying0
  a0 := Tryd.isAgg0
  z0 := Tryd.sizeOf0
  v0 := Tryd.zeroValue0
  t3 := Tryd.underlying3
  a3 := Tryd.isAgg3
  z3 := Tryd.sizeOf3
  v3 := Tryd.zeroValue3
  t4 := Tryd.underlying4
  a4 := Tryd.isAgg4
  z4 := Tryd.sizeOf4
  v4 := Tryd.zeroValue4
  t22 := Tryd.underlying22
  a22 := Tryd.isAgg22
  z22 := Tryd.sizeOf22
  v22 := Tryd.zeroValue22
  a23 := Tryd.isAgg2
  z23 := Tryd.sizeOf2 }
end

section
open Go.RowKit Go.Shelf Go.Lib Go.Sort

theorem holds_int {w : World} {g : Nat} {cur : Array Value} {e : TypeId} {ss : List Int} (hb : w.heap[g]? = some (.cells cur e (0, 0))) (ht : cur.toList.take ss.length = ss.map (Value.int .i64)) : Holds (Value.int .i64) w g 0 ss.toArray := by
  intro j hj
  have hj' : j < ss.length := by simpa using hj
  refine ⟨?_, by simp [World.frozen?, hb]⟩
  have h1 : (cur.toList.take ss.length)[j]? = (ss.map (Value.int .i64))[j]? := by rw [ht]
  rw [List.getElem?_take_of_lt hj'] at h1
  simp only [World.cell?, hb, Nat.zero_add]
  simp only [Option.isSome_none, Bool.false_eq_true, if_false]
  rw [← Array.getElem?_toList, h1]
  simp [hj']
theorem own_holds {w : World} {B g n cap : Nat} {S : List Int} (hn : n = S.length) (h : w.ownsRow B 2 1 (.slice (some ⟨g, 0, none⟩) n cap) n (S.map (Value.int .i64))) : Holds (Value.int .i64) w g 0 S.toArray ∧ n ≤ cap := by
  subst hn
  rcases h.2 with ⟨e0, _⟩ | ⟨g', cap', cur, e0, hb, hg, hn, hm', hcs, ht⟩
  · cases e0
  · injection e0 with e1 _ e3
    injection e1 with e1
    injection e1 with e1
    subst e1
    exact ⟨holds_int hg (by simpa using ht), by omega⟩
theorem put_only {w : World} {g q : Nat} {ys : List Int} : Only (fun b => g = b) w (putRow (Value.int .i64) (Sort.ahead w q) g 0 ys.toArray) := by
  refine ⟨rfl, rfl, rfl, by simp [putRow, mapBlock, Sort.ahead], fun k hk hne => ?_⟩
  simp [putRow, mapBlock, Sort.ahead, Array.getElem?_modify, hne]

set_option maxHeartbeats 1000000 in
theorem even_is (x : Int) (W : World) : FnGives Tryd.prog 149 #[] #[.int .i64 x] (.bool (decide (x.tmod 2 = 0))) W := by
  show Calls Tryd.prog 149 #[.int .i64 x] W _
  go_enter Tryd.func149, Tryd.ntmps149
  go_wp2
  go_ret
  exact ⟨rfl, 0, rfl⟩

theorem info_dropInt : ∀ w, (zeroValue (dropLays_ren.t 23)).run Tryd.prog w = .ok (.int .i64 0) w := Tryd.zeroValue2

set_option maxHeartbeats 2000000 in
theorem dropEven_is {w : World} {B g cap : Nat} {S T : List Int} (hT : (S.filter fun x => !decide (x.tmod 2 = 0)) = T) (h : w.ownsRow B 2 1 (.slice (some ⟨g, 0, none⟩) S.length cap) S.length (S.map (Value.int .i64))) (hl : S.length ≤ 1048576) :
    Calls Tryd.prog 147 #[.slice (some ⟨g, 0, none⟩) S.length cap, .func (.func 149) #[] #[]] w fun e w' =>
      e = .returned (.slice (some ⟨g, 0, none⟩) T.length cap) ∧ w'.ownsRow B 2 1 (.slice (some ⟨g, 0, none⟩) T.length cap) T.length (T.map (Value.int .i64)) ∧ Only (fun b => g = b) w w' := by
  obtain ⟨hH, hc⟩ := own_holds rfl h
  have eg : ∀ args w, (callFunc 149 args).run Tryd.prog w = .ok (.enter 149 args) w := enters_of Tryd.func149 (by kernel_rfl) rfl
  have hcon := AnyE.slices_DeleteFunc dropLays (Value.int .i64) (fun _ => rfl) (fun x => decide (x.tmod 2 = 0)) 149 #[] eg 0 info_dropInt g 0 cap S.toArray w
    (fun W x _ => even_is x W) (fun n os dk x _ => even_is x _) hH (by simp; omega) (by simpa using hc)
  have hsz : S.toArray.size = S.length := by simp
  rw [hsz] at hcon
  refine Calls.mono hcon ?_
  rintro e w' ⟨rfl, q, rfl⟩
  have hT' : (S.toArray.toList.filter fun x => !decide (x.tmod 2 = 0)) = T := hT
  have htl : T.length ≤ S.length := by rw [← hT]; exact List.length_filter_le _ _
  rw [hT']
  refine ⟨rfl, ?_, put_only⟩
  have hk := Go.Lib.ownsRow_putRow (enc := Value.int .i64) (q := q) (k := T.length) (ys := T ++ List.replicate (S.length - T.length) 0) h (by simp; omega) htl
  rw [List.take_left' rfl] at hk
  exact hk

set_option maxHeartbeats 2000000 in
theorem turn_is {w : World} {B g cap : Nat} {T : List Int} (h : w.ownsRow B 2 1 (.slice (some ⟨g, 0, none⟩) T.length cap) T.length (T.map (Value.int .i64))) (hl : T.length ≤ 1048576) :
    Calls Tryd.prog 150 #[.slice (some ⟨g, 0, none⟩) T.length cap] w fun e w' =>
      e = .returned (.tuple #[]) ∧ w'.ownsRow B 2 1 (.slice (some ⟨g, 0, none⟩) T.length cap) T.length (T.reverse.map (Value.int .i64)) ∧ Only (fun b => g = b) w w' := by
  obtain ⟨hH, hc⟩ := own_holds rfl h
  refine Calls.mono (AnyE.slices_Reverse backLays (Value.int .i64) (fun _ => rfl) g 0 cap T w hH (by omega)) ?_
  rintro e w' ⟨rfl, q, rfl⟩
  refine ⟨rfl, ?_, put_only⟩
  have hk := Go.Lib.ownsRow_putRow (enc := Value.int .i64) (q := q) (k := T.length) (ys := T.reverse) h (by simp) (Nat.le_refl _)
  rw [List.take_of_length_le (by simp)] at hk
  exact hk
end

section
open Go.RowKit Go.Shelf

set_option maxHeartbeats 4000000 in
theorem oddPrios_is {w : World} {v : Value} {O : List Int} {zss : List (List Int)} {P : List Int} (hP : ∀ x ∈ P, 0 ≤ x ∧ x ≤ 40) (hP0 : 0 < P.length) (hP1 : P.length ≤ 256) (h : GameAt w v O zss P) :
    Calls Tryd.prog 122 #[v] w (GivesInts w (oddsL P)) := by
  obtain ⟨ao, an, ap, co, cn, cp, A, C, rfl, h1, h2, h3⟩ := h
  obtain ⟨w1, hw1⟩ : ∃ y, y = w.alloc (.cells #[.slice ao O.length co, .slice an zss.length cn, .slice ap P.length cp] 35) := ⟨_, rfl⟩
  have HW1 := Lib.hid hw1
  have B1 : Hid (Below w.heap.size w w1) := by rw [hw1]; exact below1 _ _
  have T1 : Hid (Box3 w1 w.heap.size 35 (.slice ao O.length co) (.slice an zss.length cn) (.slice ap P.length cp)) := by rw [hw1]; exact Box3.new _ _ _ _ _
  have HD := Lib.hid (distinct_is cp rfl (h3.below B1.out) (by omega))
  have HO := Lib.hid (odds_eq hP)
  have HL : Hid ((oddsL P).length ≤ 20) := downL_len P 20
  have HD0 : Hid (0 < (distL P).length) := List.length_pos_of_mem ((distL_spec P).2 _ |>.2 (nth_mem hP0))
  have HD1 : Hid ((distL P).length ≤ 256) := Nat.le_trans (distL_len P) hP1
  have t0 := T1.out.c0
  have t1 := T1.out.c1
  have t2 := T1.out.c2
  clear hw1 h1 h2 h3 hP hP0 hP1
  go_enter Tryd.func122, Tryd.ntmps122
  go_wp2_with fail
  rw [← HW1.out]
  go_wp2_with fail
  refine HD.out.mono ?_
  rintro e w2 ⟨u, rfl, hu, hb⟩
  obtain ⟨a, cap, rfl, _, hsh⟩ := hu.shape
  obtain ⟨g, rfl, hBg, _, _, _⟩ := hsh HD0.out
  have HU := Lib.hid (ownsRow_base (B' := w.heap.size) hu.own B1.out.size)
  have B2 := Lib.hid (B1.out.trans (hb.mono B1.out.size))
  have hg := B1.out.size
  clear hu hb hsh HD t0 t1 t2
  go_wp2_with fail
  refine (dropEven_is rfl HU.out (by have := HD1.out; omega)).mono ?_
  rintro e w3 ⟨rfl, hu, ho⟩
  have HU3 := Lib.hid hu
  have B3 := Lib.hid (B2.out.trans (ho.below (B := w.heap.size) B2.out.size (fun b hb => by omega)))
  have hl3 : Hid (((distL P).filter fun x => !decide (x.tmod 2 = 0)).length ≤ 1048576) := by
    have h1 := HL.out
    rw [← HO.out, List.length_reverse] at h1
    exact Nat.le_trans h1 (by omega)
  clear hu ho
  go_wp2_with fail
  refine (turn_is HU3.out hl3.out).mono ?_
  rintro e w4 ⟨rfl, hu, ho⟩
  have HU4 := Lib.hid hu
  have B4 := Lib.hid (B3.out.trans (ho.below (B := w.heap.size) B3.out.size (fun b hb => by omega)))
  clear hu ho
  go_wp2
  go_ret
  have h4 := HU4.out
  have hrl : ((distL P).filter fun x => !decide (x.tmod 2 = 0)).length = (oddsL P).length := by rw [← HO.out, List.length_reverse]
  rw [hrl, HO.out] at h4
  refine ⟨.slice (some ⟨g, 0, none⟩) (oddsL P).length cap, by show Ending.returned (.slice (some ⟨g, 0, none⟩) ((distL P).filter fun x => !decide (x.tmod 2 = 0)).length cap) = _; rw [hrl], OwnInts.mk' h4 (by have := HL.out; omega) (fun k hk => ?_), B4.out⟩
  obtain ⟨_, _, h5, h6⟩ := odds_mem.1 (nth_mem hk)
  unfold Fits
  omega

set_option maxHeartbeats 4000000 in
theorem isSmall_is {w : World} {v : Value} {O : List Int} {zss : List (List Int)} {P : List Int} {r : Bool} (hr : smallB O zss P = r) (h : GameAt w v O zss P) :
    Calls Tryd.prog 88 #[v] w fun e w' => e = .returned (.bool r) ∧ Below w.heap.size w w' := by
  have HGm := Lib.hid h
  obtain ⟨ao, an, ap, co, cn, cp, A, C, rfl, h1, h2, h3⟩ := h
  have hlO := h1.len
  obtain ⟨w1, hw1⟩ : ∃ y, y = w.alloc (.cells #[.slice ao O.length co, .slice an zss.length cn, .slice ap P.length cp] 35) := ⟨_, rfl⟩
  have HW1 := Lib.hid hw1
  have B1 : Hid (Below w.heap.size w w1) := by rw [hw1]; exact below1 _ _
  have T1 : Hid (Box3 w1 w.heap.size 35 (.slice ao O.length co) (.slice an zss.length cn) (.slice ap P.length cp)) := by rw [hw1]; exact Box3.new _ _ _ _ _
  have t0 := T1.out.c0
  have t1 := T1.out.c1
  have t2 := T1.out.c2
  obtain ⟨w2, hw2⟩ : ∃ y, y = w1.alloc (.cells #[.slice ao O.length co, .slice an zss.length cn] 33) := ⟨_, rfl⟩
  have HZ : Hid (Calls Tryd.prog 63 #[.agg #[.slice ao O.length co, .slice an zss.length cn]] w1 fun e w' => e = .returned (.int .i64 O.length) ∧ w2 = w') := by rw [hw2]; exact size_is ao an O.length zss.length co cn w1 hlO
  have hb2 : Below w1.heap.size w1 w2 := by rw [hw2]; exact below1 _ _
  have B2 := Lib.hid (B1.out.trans (hb2.mono B1.out.size))
  have T2 := Lib.hid (T1.out.below hb2)
  have HC := Lib.hid (ParityOk_is rfl (HGm.out.below B2.out))
  have HR : Hid ((decide (O.length ≤ 12) && parityB O zss P) = r) := by rw [← smallB_own]; exact hr
  clear hw1 h1 h2 h3 hb2 hw2 hr hlO
  go_enter Tryd.func88, Tryd.ntmps88
  go_wp2_with fail
  rw [← HW1.out]
  go_wp2_with fail
  refine HZ.out.mono ?_
  rintro e w3 ⟨rfl, rfl⟩
  clear t0 t1 t2 HZ
  have t0 := T2.out.c0
  have t1 := T2.out.c1
  have t2 := T2.out.c2
  by_cases hlt : O.length ≤ 12
  · have hlt1 : (O.length : Int) ≤ 12 := by omega
    have HE : Hid (r = parityB O zss P) := by have := HR.out; rw [decide_eq_true hlt] at this; exact this.symm
    go_wp2_with fail
    refine HC.out.mono ?_
    rintro e w4 ⟨rfl, hb⟩
    have B4 := Lib.hid (B2.out.trans (hb.mono B2.out.size))
    clear hb HC t0 t1 t2
    go_wp2
    go_ret
    exact ⟨ret_bool HE.out.symm, B4.out⟩
  · have hlt1 : ¬ (O.length : Int) ≤ 12 := by omega
    have HE : Hid (r = false) := by have := HR.out; rw [decide_eq_false hlt] at this; exact this.symm
    clear HC
    go_wp2
    go_ret
    exact ⟨ret_bool HE.out.symm, B2.out⟩

end
end Go.Proofs.YtglbkbiphcgidaaDoor
