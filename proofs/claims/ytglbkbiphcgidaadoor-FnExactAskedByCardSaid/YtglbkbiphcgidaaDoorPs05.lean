/-
  Several texts in one: AskMath, AskVal, OddsSpec, MeasSpec, AskSpec, AskApiSpec, SameParity.
-/
import Derived.Deep.RegionHeld3
import Derived.Test.YtglbkbiphcgidaaDoorPs00
import Derived.Test.YtglbkbiphcgidaaDoorPs02
import Derived.Test.YtglbkbiphcgidaaDoorPs01
import Derived.Test.YtglbkbiphcgidaaDoorPs04
namespace Go.Proofs.YtglbkbiphcgidaaDoor
section

/-- A list with zeros from place K on. -/
def cutL (m : List Int) (K : Nat) : List Int := m.take K ++ List.replicate (m.length - K) 0
theorem cutL_len (m : List Int) (K : Nat) : (cutL m K).length = m.length := by
  unfold cutL
  simp
  omega
theorem cutL_nth (m : List Int) (K i : Nat) : nth (cutL m K) i = if i < K then nth m i else 0 := by
  by_cases hm : m.length ≤ i
  · rw [nth_off8 (by rw [cutL_len]; exact hm), nth_off8 hm]
    split <;> rfl
  · unfold cutL nth
    simp only [List.getD_eq_getElem?_getD]
    by_cases h : i < K
    · rw [if_pos h, List.getElem?_append_left (by simp; omega), List.getElem?_take, if_pos h]
    · rw [if_neg h, List.getElem?_append_right (by simp; omega), List.getElem?_replicate]
      split <;> rfl
/-- Counting up, from place i downwards. -/
def bumpL (M : List Int) : List Int → Nat → List Int
  | _, 0 => [1]
  | h, i + 1 => if nth h (i + 1) < nth M (i + 1) then h.set (i + 1) (nth h (i + 1) + 1) else bumpL M (h.set (i + 1) 0) i
theorem bumpL_yes {M h : List Int} {i : Nat} (hi : 0 < i) (hl : nth h i < nth M i) : bumpL M h i = h.set i (nth h i + 1) := by
  cases i with
  | zero => omega
  | succ i => rw [bumpL, if_pos hl]
theorem bumpL_no {M h : List Int} {i : Nat} (hi : 0 < i) (hl : ¬ nth h i < nth M i) : bumpL M h i = bumpL M (h.set i 0) (i - 1) := by
  cases i with
  | zero => omega
  | succ i => rw [bumpL, if_neg hl]; rfl
theorem bumpL_good {M : List Int} : ∀ {i : Nat} {h : List Int}, nth h 0 = 0 → bumpL M h i = [1] ∨ ((bumpL M h i).length = h.length ∧ nth (bumpL M h i) 0 = 0)
  | 0, h, _ => .inl rfl
  | i + 1, h, h0 => by
    rw [bumpL]
    split
    · refine .inr ⟨by simp, ?_⟩
      unfold nth at h0 ⊢
      simpa using h0
    · have h1 : nth (h.set (i + 1) 0) 0 = 0 := by unfold nth at h0 ⊢; simpa using h0
      have := bumpL_good (M := M) (i := i) h1
      rw [List.length_set] at this
      exact this
/-- What a vertex of priority p requires of a successor's measure. -/
def askL (P m : List Int) (p : Int) : List Int := if m = [1] then [1] else if p.tmod 2 = 0 then cutL m (placesL P p) else bumpL (mostL P) (cutL m (placesL P p)) (placesL P p - 1)
theorem places_pos (P : List Int) (p : Int) : 0 < placesL P p := by unfold placesL; omega
theorem askL_good {P m : List Int} {p : Int} (hg : goodB P m = true) : askL P m p = [1] ∨ ((askL P m p).length = (oddsL P).length + 1 ∧ nth (askL P m p) 0 = 0) := by
  unfold askL
  by_cases h1 : m = [1]
  · rw [if_pos h1]; exact .inl rfl
  · rw [if_neg h1]
    obtain ⟨h2, h3⟩ := good_top hg h1
    have h4 : nth (cutL m (placesL P p)) 0 = 0 := by rw [cutL_nth, if_pos (places_pos P p)]; exact h3
    split
    · exact .inr ⟨by rw [cutL_len]; exact h2, h4⟩
    · rcases bumpL_good (M := mostL P) (i := placesL P p - 1) h4 with h5 | ⟨h5, h6⟩
      · exact .inl h5
      · exact .inr ⟨by rw [h5, cutL_len]; exact h2, h6⟩
/-- What AskedBy answers. -/
noncomputable def askedV (O : List Int) (zss : List (List Int)) (P m : List Int) (v : Int) : List Int := if measB O zss P m = true ∧ 0 ≤ v ∧ v < P.length then askL P m (nth P v.toNat) else []
theorem cut_take {m : List Int} {K i : Nat} : nth (cutL m K) i = nth (m.take K) i := by rw [cutL_nth, nth_take8]
end
end Go.Proofs.YtglbkbiphcgidaaDoor
namespace Go.Proofs.YtglbkbiphcgidaaDoor
section
theorem bumpL_small {M : List Int} : ∀ {i : Nat} {h : List Int}, (∀ j, 0 ≤ nth h j ∧ nth h j ≤ 12) → ∀ j, 0 ≤ nth (bumpL M h i) j ∧ nth (bumpL M h i) j ≤ 13
  | 0, h, _, j => by
    rw [bumpL]
    cases j with
    | zero => exact ⟨by decide, by decide⟩
    | succ j => rw [nth_off8 (by simp)]; omega
  | i + 1, h, hb, j => by
    rw [bumpL]
    have hs : ∀ x : Int, ∀ k, nth (h.set (i + 1) x) k = nth h k ∨ nth (h.set (i + 1) x) k = x := fun x k => by
      unfold nth
      simp only [List.getD_eq_getElem?_getD, List.getElem?_set]
      by_cases e : i + 1 = k
      · by_cases hl : i + 1 < h.length
        · rw [if_pos e, if_pos hl]; exact .inr rfl
        · rw [if_pos e, if_neg hl]
          refine .inl ?_
          rw [List.getElem?_eq_none (by omega)]
      · rw [if_neg e]; exact .inl rfl
    split
    · have h1 := hs (nth h (i + 1) + 1) j
      have h2 := hb j
      have h3 := hb (i + 1)
      omega
    · refine bumpL_small (fun k => ?_) j
      have h1 := hs 0 k
      have h2 := hb k
      omega
theorem askL_fits {P m : List Int} {p : Int} (hP : P.length ≤ 12) (hg : goodB P m = true) : ∀ k, k < (askL P m p).length → Fits (nth (askL P m p) k) := fun k _ => by
  have h1 : 0 ≤ nth (askL P m p) k ∧ nth (askL P m p) k ≤ 13 := by
    unfold askL
    by_cases hm : m = [1]
    · rw [if_pos hm]
      cases k with
      | zero => exact ⟨by decide, by decide⟩
      | succ k => rw [nth_off8 (by simp)]; omega
    · rw [if_neg hm]
      have hb : ∀ j, 0 ≤ nth m j ∧ nth m j ≤ 12 := fun j => by
        by_cases hj : j < m.length
        · rcases goodB_iff.1 hg with h | ⟨_, h⟩
          · exact absurd h hm
          · have h1 := h j hj
            have h2 := mostK_le P P.length j
            have h3 : nth (mostL P) j = nth (mostK P P.length) j := rfl
            omega
        · rw [nth_off8 (by omega)]; omega
      have hc : ∀ j, 0 ≤ nth (cutL m (placesL P p)) j ∧ nth (cutL m (placesL P p)) j ≤ 12 := fun j => by
        rw [cutL_nth]
        split
        · exact hb j
        · omega
      split
      · have := hc k; omega
      · exact bumpL_small hc k
  unfold Fits
  omega
theorem askedV_yes {O P m : List Int} {zss : List (List Int)} {v : Nat} (h : measB O zss P m = true) (hv : v < P.length) : askedV O zss P m v = askL P m (nth P v) := by
  unfold askedV
  rw [if_pos ⟨h, by omega, by omega⟩, Int.toNat_natCast]
theorem askedV_no {O P m : List Int} {zss : List (List Int)} {x : Int} (h : measB O zss P m = false) : askedV O zss P m x = [] := by
  unfold askedV
  rw [if_neg (by rw [h]; simp)]
theorem askedV_off {O P m : List Int} {zss : List (List Int)} {x : Int} (h : ¬ (0 ≤ x ∧ x < P.length)) : askedV O zss P m x = [] := by
  unfold askedV
  rw [if_neg (fun hh => h hh.2)]
end
end Go.Proofs.YtglbkbiphcgidaaDoor
namespace Go.Proofs.YtglbkbiphcgidaaDoor
section
open Go.RowKit Go.Shelf

set_option maxHeartbeats 2000000 in
theorem l8Small_is {w : World} {v : Value} {O : List Int} {zss : List (List Int)} {P : List Int} {r : Bool} (hr : smallB O zss P = r) (h : GameAt w v O zss P) :
    Calls Tryd.prog 71 #[v] w fun e w' => e = .returned (.bool r) ∧ Below w.heap.size w w' := by
  have HGm := Lib.hid h
  obtain ⟨ao, an, ap, co, cn, cp, A, C, rfl, h1, h2, h3⟩ := h
  obtain ⟨w1, hw1⟩ : ∃ y, y = w.alloc (.cells #[.slice ao O.length co, .slice an zss.length cn, .slice ap P.length cp] 35) := ⟨_, rfl⟩
  have HW1 := Lib.hid hw1
  have B1 : Hid (Below w.heap.size w w1) := by rw [hw1]; exact below1 _ _
  have T1 : Hid (Box3 w1 w.heap.size 35 (.slice ao O.length co) (.slice an zss.length cn) (.slice ap P.length cp)) := by rw [hw1]; exact Box3.new _ _ _ _ _
  clear hw1 h1 h2 h3
  have HC := Lib.hid (specParityOk_is rfl (HGm.out.below B1.out))
  have t0 := T1.out.c0
  have t1 := T1.out.c1
  have t2 := T1.out.c2
  by_cases hlt : P.length ≤ 12
  · have hlt1 : (P.length : Int) ≤ 12 := by omega
    have HE : Hid (r = parityB O zss P) := by rw [← hr]; unfold smallB; rw [decide_eq_true hlt]; rfl
    clear hr
    go_enter Tryd.func71, Tryd.ntmps71
    go_wp2_with fail
    rw [← HW1.out]
    go_wp2_with fail
    refine HC.out.mono ?_
    rintro e w2 ⟨rfl, hb⟩
    have B2 := Lib.hid (B1.out.trans (hb.mono B1.out.size))
    clear hb HC t0 t1 t2
    go_wp2
    go_ret
    exact ⟨ret_bool HE.out.symm, B2.out⟩
  · have hlt1 : ¬ (P.length : Int) ≤ 12 := by omega
    have HE : Hid (r = false) := by rw [← hr]; unfold smallB; rw [decide_eq_false hlt]; rfl
    clear hr HC
    go_enter Tryd.func71, Tryd.ntmps71
    go_wp2_with fail
    rw [← HW1.out]
    go_wp2
    go_ret
    exact ⟨ret_bool HE.out.symm, B1.out⟩

set_option maxHeartbeats 8000000 in
set_option maxRecDepth 100000 in
theorem l8Odds_is {w : World} {v : Value} {O : List Int} {zss : List (List Int)} {P : List Int} (h : GameAt w v O zss P) :
    Calls Tryd.prog 73 #[v] w (GivesInts w (oddsL P)) := by
  obtain ⟨i0, hi, hz0, hz1, hz2⟩ := info_parts info_int
  obtain ⟨ao, an, ap, co, cn, cp, A, C, rfl, h1, h2, h3⟩ := h
  have HP := Lib.hid h3
  obtain ⟨w1, hw1⟩ : ∃ y, y = w.alloc (.cells #[.slice ao O.length co, .slice an zss.length cn, .slice ap P.length cp] 35) := ⟨_, rfl⟩
  have HW1 := Lib.hid hw1
  have hs1 : w1.heap.size = w.heap.size + 1 := by rw [hw1]; simp
  have B1 : Hid (Below w.heap.size w w1) := by rw [hw1]; exact below1 _ _
  have T1 : Hid (Box3 w1 w.heap.size 35 (.slice ao O.length co) (.slice an zss.length cn) (.slice ap P.length cp)) := by rw [hw1]; exact Box3.new _ _ _ _ _
  obtain ⟨w2, hw2⟩ : ∃ y, y = w1.alloc (.cells #[] 2) := ⟨_, rfl⟩
  have HW2 := Lib.hid hw2
  have K2 : Hid (Below w1.heap.size w1 w2) := by rw [hw2]; exact below1 _ _
  have O2 : Hid (w2.ownsRow w1.heap.size 2 1 (.slice (some ⟨w1.heap.size, 0, none⟩) 0 0) (downL P 0).length ((downL P 0).map (Value.int .i64))) := by rw [hw2]; exact World.ownsRow_made w1 #[] 0 (Nat.le_refl _) (by unfold maxLen; omega) rfl
  have HS1 := Lib.hid hs1
  clear hw1 hw2 h1 h2 h3 hs1
  go_enter Tryd.func73, Tryd.ntmps73
  go_wp2
  rw [← HW1.out, ← HS1.out, ← HW2.out]
  go_loopw [3, 4] (fun ov iv wr => ∃ k : Nat, k ≤ 20 ∧ iv = .int .i64 (39 - 2 * (k : Int)) ∧ Hid (wr.ownsRow w1.heap.size 2 1 ov (downL P k).length ((downL P k).map (Value.int .i64))) ∧ Hid (Below w1.heap.size w1 wr)) (fun _ iv _ => (intOf iv + 1).toNat)
  case atStart => exact ⟨0, Nat.zero_le _, rfl, O2, K2⟩
  case round =>
    clear K2 O2
    obtain ⟨k, hk, rfl, HO, HK⟩ := hrel
    have hfl := downL_len P k
    have B := Lib.hid (B1.out.trans (HK.out.mono B1.out.size))
    by_cases hlt : k < 20
    · have hi1 : (0 : Int) < 39 - 2 * (k : Int) := by omega
      have t2 := (T1.out.below HK.out).c2
      cases hb : hasB P (39 - 2 * (k : Int)) with
      | false =>
        have HD : Hid (downL P (k + 1) = downL P k) := downL_no hb
        have HC := Lib.hid (l7HasIn_is hb cp (HP.out.below B.out))
        clear hb
        go_wp2_with fail
        refine HC.out.mono ?_
        rintro e w3 ⟨rfl, rfl⟩
        clear HC t2
        go_wp2
        go_roundw
        case rel => exact ⟨k + 1, by omega, by go_num, by rw [HD.out]; exact HO, HK⟩
        case measure => simp [intOf]; omega
      | true =>
        have HD : Hid (downL P (k + 1) = downL P k ++ [39 - 2 * (k : Int)]) := downL_yes hb
        have HC := Lib.hid (l7HasIn_is hb cp (HP.out.below B.out))
        clear hb
        go_wp2_with fail
        refine HC.out.mono ?_
        rintro e w3 ⟨rfl, rfl⟩
        clear HC t2
        go_wp2_with (at_builtin; refine wpList_append_own_at _ rfl _ _ 22 rfl w1.heap.size 2 i0 (.int .i64 0) 1 8 Tryd.underlying22 hi hz0 hz1 hz2 rfl (by decide) _ _ _ rfl (HO.out.alloc _) ⟨wr.heap.size, 0, none⟩ 1 1 [.int .i64 (39 - 2 * (k : Int))] rfl rfl ?c1 ?c2 ?c3 ?c4 ?c5 ?_)
        try (case c1 => exact cell_one_new _ _ _)
        case c2 => first | rfl | (intro u hu; simp at hu; subst hu; rfl)
        case c3 => unfold maxLen; omega
        case c4 => omega
        case c5 => have := HK.out.size; simp; omega
        intro v' w4 hown hgrow _ _
        have hg : Only (fun b => w1.heap.size ≤ b) wr w4 := (Only.of_below (below1 wr _)).trans ((Only.of_grown hgrow).mono fun b hb => (HO.out.lt b hb).1)
        have Kn := Lib.hid (HK.out.trans (hg.below HK.out.size (fun _ h => h)))
        have HOn : Hid (w4.ownsRow w1.heap.size 2 1 v' (downL P (k + 1)).length ((downL P (k + 1)).map (Value.int .i64))) := by
          rw [HD.out, List.map_append, List.length_append]; exact hown
        clear hown hgrow hg
        go_wp2
        go_roundw
        case rel => exact ⟨k + 1, by omega, by go_num, HOn, Kn⟩
        case measure => simp [intOf]; omega
    · have hi1 : ¬ (0 : Int) < 39 - 2 * (k : Int) := by omega
      have hk20 : k = 20 := by omega
      subst hk20
      go_wp2
      go_ret
      refine ⟨_, rfl, ?_, B.out⟩
      have hl20 : (oddsL P).length ≤ 20 := downL_len P 20
      exact OwnInts.mk' (zs := oddsL P) (ownsRow_base HO.out B1.out.size) (by omega) (fun j hj => by
        obtain ⟨_, _, h3, h4⟩ := odds_mem.1 (nth_mem (zs := oddsL P) hj)
        unfold Fits
        omega)

end
end Go.Proofs.YtglbkbiphcgidaaDoor
namespace Go.Proofs.YtglbkbiphcgidaaDoor
section
open Go.RowKit Go.Shelf

set_option maxHeartbeats 4000000 in
theorem l8Many_is {w : World} {v : Value} {O P : List Int} {zss : List (List Int)} {p : Int} (h : GameAt w v O zss P) :
    Calls Tryd.prog 115 #[v, .int .i64 p] w fun e w' => e = .returned (.int .i64 (manyL P p)) ∧ Below w.heap.size w w' := by
  obtain ⟨ao, an, ap, co, cn, cp, A, C, rfl, h1, h2, h3⟩ := h
  obtain ⟨w1, hw1⟩ : ∃ y, y = w.alloc (.cells #[.slice ao O.length co, .slice an zss.length cn, .slice ap P.length cp] 35) := ⟨_, rfl⟩
  have HW1 := Lib.hid hw1
  have B1 : Hid (Below w.heap.size w w1) := by rw [hw1]; exact below1 _ _
  have T1 : Hid (Box3 w1 w.heap.size 35 (.slice ao O.length co) (.slice an zss.length cn) (.slice ap P.length cp)) := by rw [hw1]; exact Box3.new _ _ _ _ _
  have HP := Lib.hid (h3.below B1.out)
  have hlP := h3.len
  have t2 := T1.out.c2
  clear hw1 h1 h2 h3
  go_enter Tryd.func115, Tryd.ntmps115
  go_wp2
  rw [← HW1.out]
  go_loopw [5, 6] (fun nv iv wr => ∃ k : Nat, k ≤ P.length ∧ nv = .int .i64 (manyK P p k) ∧ iv = .int .i64 k ∧ w1 = wr) (fun _ iv _ => P.length - (intOf iv).toNat)
  case atStart => exact ⟨0, Nat.zero_le _, rfl, rfl, rfl⟩
  case round =>
    obtain ⟨k, hk, rfl, rfl, rfl⟩ := hrel
    by_cases hlt : k < P.length
    · have hi1 : (k : Int) < P.length := by omega
      have hk0 : (0 : Int) ≤ (k : Int) := by omega
      obtain ⟨pb, po, hpa, hpc⟩ := HP.out.cell (by omega)
      have p1 := hpc k hlt
      have hb := manyK_le P p k
      have HS := Lib.hid (manyK_succ (p := p) hlt)
      obtain ⟨z, hz⟩ : ∃ z, z = nth P k := ⟨_, rfl⟩
      obtain ⟨c, hc⟩ : ∃ c, c = manyK P p k := ⟨_, rfl⟩
      have HZ := Lib.hid hz
      have HCc := Lib.hid hc
      rw [← hz] at p1
      rw [← hc] at hb ⊢
      subst hpa
      clear hpc hz hc
      by_cases hq : z = p
      · have hqe : (z == p) = true := by simpa using hq
        have HN : Hid (manyK P p (k + 1) = c + 1) := by rw [HS.out, ← HZ.out, if_pos hq, ← HCc.out]; rfl
        clear hq
        go_wp2
        go_roundw
        case rel => exact ⟨k + 1, by omega, by (rw [HN.out]; try go_num), by go_num, by first | rfl | trivial⟩
        case measure => simp [intOf]; omega
      · have hqe : (z == p) = false := by simpa using hq
        have HN : Hid (manyK P p (k + 1) = c) := by rw [HS.out, ← HZ.out, if_neg hq, ← HCc.out]; exact Int.add_zero _
        clear hq
        go_wp2
        go_roundw
        case rel => exact ⟨k + 1, by omega, by rw [HN.out], by go_num, by first | rfl | trivial⟩
        case measure => simp [intOf]; omega
    · have hi1 : ¬ (k : Int) < P.length := by omega
      have hkl : k = P.length := by omega
      subst hkl
      go_wp2
      go_ret
      exact ⟨rfl, B1.out⟩

set_option maxHeartbeats 8000000 in
set_option maxRecDepth 100000 in
theorem l8Good_is {w : World} {v : Value} {O P m : List Int} {zss : List (List Int)} {aq am : Option Addr} {r : Bool} (cq cm : Nat) (hr : goodB P m = r) (h : GameAt w v O zss P) (ho : IntsAt w aq (oddsL P)) (hm : IntsAt w am m) :
    Calls Tryd.prog 72 #[v, .slice aq (oddsL P).length cq, .slice am m.length cm] w fun e w' => e = .returned (.bool r) ∧ Below w.heap.size w w' := by
  have HGm := Lib.hid h
  obtain ⟨ao, an, ap, co, cn, cp, A, C, rfl, h1, h2, h3⟩ := h
  obtain ⟨w1, hw1⟩ : ∃ y, y = w.alloc (.cells #[.slice ao O.length co, .slice an zss.length cn, .slice ap P.length cp] 35) := ⟨_, rfl⟩
  have HW1 := Lib.hid hw1
  have B1 : Hid (Below w.heap.size w w1) := by rw [hw1]; exact below1 _ _
  have T1 : Hid (Box3 w1 w.heap.size 35 (.slice ao O.length co) (.slice an zss.length cn) (.slice ap P.length cp)) := by rw [hw1]; exact Box3.new _ _ _ _ _
  have HM := Lib.hid (hm.below B1.out)
  have HO := Lib.hid (ho.below B1.out)
  have hml := hm.len
  have hol := downL_len P 20
  obtain ⟨lq, hlq⟩ : ∃ lq, lq = (oddsL P).length := ⟨_, rfl⟩
  have HLQ := Lib.hid hlq
  have hol : lq ≤ 20 := by rw [hlq]; exact hol
  have HR := Lib.hid hr
  rw [← hlq]
  clear hw1 h1 h2 h3 hm ho hr hlq
  by_cases hA : m.length = 1
  · have hAe : ((m.length : Int) == 1) = true := by simp; omega
    obtain ⟨mb, mo, hma, hmc⟩ := HM.out.cell (by omega)
    have m0 := hmc 0 (by omega)
    rw [Nat.add_zero, HW1.out] at m0
    by_cases h1 : nth m 0 = 1
    · have h1e : (nth m 0 == 1) = true := by rw [h1]; rfl
      have HF : Hid (r = true) := by rw [← HR.out]; exact goodB_iff.2 (.inl (one_iff.2 ⟨hA, h1⟩))
      subst hma
      clear hmc h1
      go_enter Tryd.func72, Tryd.ntmps72
      go_wp2
      go_ret
      exact ⟨ret_bool HF.out.symm, by rw [← HW1.out]; exact B1.out⟩
    · have h1e : (nth m 0 == 1) = false := by simpa using h1
      have HNO : Hid (¬ m = [1]) := fun h => h1 (one_iff.1 h).2
      subst hma
      have HMC := Lib.hid hmc
      have hA0 : 0 < m.length := by omega
      clear h1 hmc hA
      by_cases hD : m.length = lq + 1
      · have hDi : ((m.length : Int) != (lq : Int) + 1) = false := by simp; omega
        have hD1 : m.length ≤ lq + 1 := by omega
        have hD2 : lq + 1 ≤ m.length := by omega
        clear hD
        by_cases h0 : nth m 0 = 0
        · have h0e : (nth m 0 != 0) = false := by rw [h0]; rfl
          have HK0 : Hid (∀ j, j < 0 + 1 → 0 ≤ nth m j ∧ nth m j ≤ nth (mostL P) j) := fun j hj => by
            have : j = 0 := by omega
            rw [this, h0]
            exact ⟨Int.le_refl _, Int.le_refl _⟩
          clear h0
          go_enter Tryd.func72, Tryd.ntmps72
          go_wp2
          rw [← HW1.out]
          go_loopw [7] (fun iv wr => ∃ i : Nat, i ≤ lq ∧ iv = .int .i64 i ∧ Hid (∀ j, j < i + 1 → 0 ≤ nth m j ∧ nth m j ≤ nth (mostL P) j) ∧ Hid (Below w1.heap.size w1 wr)) (fun iv _ => lq - (intOf iv).toNat)
          case atStart => exact ⟨0, Nat.zero_le _, rfl, HK0, Below.refl _ _⟩
          case round =>
            clear HK0 m0 h0e
            obtain ⟨i, hi, rfl, HJ, HB⟩ := hrel
            by_cases hlt : i < lq
            · have hi1 : (i : Int) < (lq : Int) := by omega
              have hi2 : (0 : Int) ≤ (i : Int) := by omega
              have hi3 : (i : Int) + 1 < (m.length : Int) := by omega
              have hi4 : (0 : Int) ≤ (i : Int) + 1 := by omega
              have hi5 : ((i : Int) + 1).toNat = i + 1 := by omega
              have hi6 : IntKind.i64.wrap ((i : Int) + 1) = (i : Int) + 1 := by rw [IntKind.wrap_i64]; omega
              have hlo : i < (oddsL P).length := by have := HLQ.out; omega
              obtain ⟨ob, oo, hoa, hoc⟩ := HO.out.cell (by omega)
              have HOC := Lib.hid (hoc i hlo)
              subst hoa
              clear hoc
              have HST : Hid (nth (mostL P) (i + 1) = manyL P (nth (oddsL P) i)) := mostK_at hlo
              obtain ⟨y, hy⟩ : ∃ y, y = nth (oddsL P) i := ⟨_, rfl⟩
              obtain ⟨x, hx⟩ : ∃ x, x = nth m (i + 1) := ⟨_, rfl⟩
              have HY := Lib.hid hy
              have HX := Lib.hid hx
              have HSv : Hid (∀ W, Below wr.heap.size wr W → W.cell? ⟨w.heap.size, 0, none⟩ = some (.slice ao O.length co) ∧ W.cell? ⟨w.heap.size, 1, none⟩ = some (.slice an zss.length cn) ∧ W.cell? ⟨w.heap.size, 2, none⟩ = some (.slice ap P.length cp) ∧ W.cell? ⟨mb, mo + (i + 1), none⟩ = some (.int .i64 x) ∧ W.cell? ⟨ob, oo + i, none⟩ = some (.int .i64 y)) := fun W hb => by
                have hb2 := HB.out.trans (hb.mono HB.out.size)
                have c1 := HMC.out (i + 1) (by omega)
                have c2 := HOC.out
                rw [HY.out, HX.out]
                exact ⟨(T1.out.below hb2).c0, (T1.out.below hb2).c1, (T1.out.below hb2).c2, (hb2.cell (World.block_lt_of_cell? _ _ c1)).trans c1, (hb2.cell (World.block_lt_of_cell? _ _ c2)).trans c2⟩
              have Kd : Hid (Below wr.heap.size wr wr.drew) := (Below.refl _ _).drew
              have hlo2 := hlo
              clear hlo hy hx
              have h0 := HSv.out _ Kd.out
              obtain ⟨q, hq⟩ : ∃ q, q = manyL P y := ⟨_, rfl⟩
              have HMN : Hid (Calls Tryd.prog 115 #[.agg #[.slice ao O.length co, .slice an zss.length cn, .slice ap P.length cp], .int .i64 y] wr.drew fun e w' => e = .returned (.int .i64 q) ∧ Below wr.drew.heap.size wr.drew w') := by
                rw [hq]
                exact l8Many_is (HGm.out.below (B1.out.trans ((HB.out.trans (Kd.out.mono HB.out.size)).mono B1.out.size)))
              have HQ := Lib.hid hq
              clear hq hlo2
              cases hin : inB x 0 q with
              | true =>
                have HJn : Hid (∀ j, j < i + 1 + 1 → 0 ≤ nth m j ∧ nth m j ≤ nth (mostL P) j) := fun j hj => by
                  by_cases e : j = i + 1
                  · subst e
                    rw [HST.out, ← HX.out, ← HY.out, ← HQ.out]
                    exact inB_iff.1 hin
                  · exact HJ.out j (by omega)
                go_wp2
                go_region_held3 (fun W => W.cell? ⟨w.heap.size, 0, none⟩ = some (.slice ao O.length co) ∧ W.cell? ⟨w.heap.size, 1, none⟩ = some (.slice an zss.length cn) ∧ W.cell? ⟨w.heap.size, 2, none⟩ = some (.slice ap P.length cp) ∧ W.cell? ⟨mb, mo + (i + 1), none⟩ = some (.int .i64 x) ∧ W.cell? ⟨ob, oo + i, none⟩ = some (.int .i64 y))
                  (first
                    | exact HSv.out _ Kd.out
                    | exact HSv.out _ Km.out
                    | go_keep)
                  (first
                    | (go_at_call 115; refine HMN.out.mono ?_; rintro e wm ⟨rfl, hb⟩; have Km := Lib.hid (Kd.out.trans (hb.mono Kd.out.size)); clear hb)
                    | (go_at_call 79; refine (l1In_is hin _).mono ?_; rintro e wn ⟨rfl, rfl⟩))
                all_goals (
                  go_wp2
                  go_roundw
                  case rel => exact ⟨i + 1, by omega, by go_num, HJn, HB.out.trans (Km.out.mono HB.out.size)⟩
                  case measure => simp [intOf]; omega)
              | false =>
                have HF : Hid (r = false) := by
                  rw [← HR.out]
                  cases hg : goodB P m with
                  | false => rfl
                  | true =>
                    rcases goodB_iff.1 hg with h1 | ⟨_, h2⟩
                    · exact absurd h1 HNO.out
                    · have := h2 (i + 1) (by omega)
                      rw [HST.out, ← HX.out, ← HY.out, ← HQ.out] at this
                      rw [inB_iff.2 this] at hin
                      cases hin
                go_wp2
                go_region_held3 (fun W => W.cell? ⟨w.heap.size, 0, none⟩ = some (.slice ao O.length co) ∧ W.cell? ⟨w.heap.size, 1, none⟩ = some (.slice an zss.length cn) ∧ W.cell? ⟨w.heap.size, 2, none⟩ = some (.slice ap P.length cp) ∧ W.cell? ⟨mb, mo + (i + 1), none⟩ = some (.int .i64 x) ∧ W.cell? ⟨ob, oo + i, none⟩ = some (.int .i64 y))
                  (first
                    | exact HSv.out _ Kd.out
                    | exact HSv.out _ Km.out
                    | go_keep)
                  (first
                    | (go_at_call 115; refine HMN.out.mono ?_; rintro e wm ⟨rfl, hb⟩; have Km := Lib.hid (Kd.out.trans (hb.mono Kd.out.size)); clear hb)
                    | (go_at_call 79; refine (l1In_is hin _).mono ?_; rintro e wn ⟨rfl, rfl⟩))
                all_goals (
                  go_wp2
                  go_ret
                  exact ⟨ret_bool HF.out.symm, B1.out.trans ((HB.out.trans (Km.out.mono HB.out.size)).mono B1.out.size)⟩)
            · have hi1 : ¬ (i : Int) < (lq : Int) := by omega
              have hie : i = lq := by omega
              subst hie
              have HF : Hid (r = true) := by
                rw [← HR.out]
                exact goodB_iff.2 (.inr ⟨by rw [← HLQ.out]; omega, fun j hj => HJ.out j (by omega)⟩)
              go_wp2
              go_ret
              exact ⟨ret_bool HF.out.symm, B1.out.trans (HB.out.mono B1.out.size)⟩
        · have h0e : (nth m 0 != 0) = true := by simpa using h0
          have HF : Hid (r = false) := by
            rw [← HR.out]
            cases hg : goodB P m with
            | false => rfl
            | true =>
              rcases goodB_iff.1 hg with h1 | ⟨_, h2⟩
              · exact absurd h1 HNO.out
              · have := h2 0 (by omega)
                have h3 : nth (mostL P) 0 = 0 := rfl
                rw [h3] at this
                omega
          clear h0
          go_enter Tryd.func72, Tryd.ntmps72
          go_wp2
          go_ret
          exact ⟨ret_bool HF.out.symm, by rw [← HW1.out]; exact B1.out⟩
      · have hDi : ((m.length : Int) != (lq : Int) + 1) = true := by simp; omega
        have HF : Hid (r = false) := by
          rw [← HR.out]
          cases hg : goodB P m with
          | false => rfl
          | true =>
            rcases goodB_iff.1 hg with h1 | ⟨h1, _⟩
            · exact absurd h1 HNO.out
            · rw [← HLQ.out] at h1
              omega
        go_enter Tryd.func72, Tryd.ntmps72
        go_wp2
        go_ret
        exact ⟨ret_bool HF.out.symm, by rw [← HW1.out]; exact B1.out⟩
  · have hAe : ((m.length : Int) == 1) = false := by simp; omega
    have HNO : Hid (¬ m = [1]) := fun h => hA (one_iff.1 h).1
    by_cases hD : m.length = lq + 1
    · have hDi : ((m.length : Int) != (lq : Int) + 1) = false := by simp; omega
      obtain ⟨mb, mo, hma, hmc⟩ := HM.out.cell (by omega)
      have m0 := hmc 0 (by omega)
      rw [Nat.add_zero, HW1.out] at m0
      have HMC := Lib.hid hmc
      subst hma
      clear hmc
      have hD1 : m.length ≤ lq + 1 := by omega
      have hD2 : lq + 1 ≤ m.length := by omega
      clear hD
      by_cases h0 : nth m 0 = 0
      · have h0e : (nth m 0 != 0) = false := by rw [h0]; rfl
        have HK0 : Hid (∀ j, j < 0 + 1 → 0 ≤ nth m j ∧ nth m j ≤ nth (mostL P) j) := fun j hj => by
          have : j = 0 := by omega
          rw [this, h0]
          exact ⟨Int.le_refl _, Int.le_refl _⟩
        clear h0
        go_enter Tryd.func72, Tryd.ntmps72
        go_wp2
        rw [← HW1.out]
        go_loopw [7] (fun iv wr => ∃ i : Nat, i ≤ lq ∧ iv = .int .i64 i ∧ Hid (∀ j, j < i + 1 → 0 ≤ nth m j ∧ nth m j ≤ nth (mostL P) j) ∧ Hid (Below w1.heap.size w1 wr)) (fun iv _ => lq - (intOf iv).toNat)
        case atStart => exact ⟨0, Nat.zero_le _, rfl, HK0, Below.refl _ _⟩
        case round =>
          clear HK0 m0 h0e
          obtain ⟨i, hi, rfl, HJ, HB⟩ := hrel
          by_cases hlt : i < lq
          · have hi1 : (i : Int) < (lq : Int) := by omega
            have hi2 : (0 : Int) ≤ (i : Int) := by omega
            have hi3 : (i : Int) + 1 < (m.length : Int) := by omega
            have hi4 : (0 : Int) ≤ (i : Int) + 1 := by omega
            have hi5 : ((i : Int) + 1).toNat = i + 1 := by omega
            have hi6 : IntKind.i64.wrap ((i : Int) + 1) = (i : Int) + 1 := by rw [IntKind.wrap_i64]; omega
            have hlo : i < (oddsL P).length := by have := HLQ.out; omega
            obtain ⟨ob, oo, hoa, hoc⟩ := HO.out.cell (by omega)
            have HOC := Lib.hid (hoc i hlo)
            subst hoa
            clear hoc
            have HST : Hid (nth (mostL P) (i + 1) = manyL P (nth (oddsL P) i)) := mostK_at hlo
            obtain ⟨y, hy⟩ : ∃ y, y = nth (oddsL P) i := ⟨_, rfl⟩
            obtain ⟨x, hx⟩ : ∃ x, x = nth m (i + 1) := ⟨_, rfl⟩
            have HY := Lib.hid hy
            have HX := Lib.hid hx
            have HSv : Hid (∀ W, Below wr.heap.size wr W → W.cell? ⟨w.heap.size, 0, none⟩ = some (.slice ao O.length co) ∧ W.cell? ⟨w.heap.size, 1, none⟩ = some (.slice an zss.length cn) ∧ W.cell? ⟨w.heap.size, 2, none⟩ = some (.slice ap P.length cp) ∧ W.cell? ⟨mb, mo + (i + 1), none⟩ = some (.int .i64 x) ∧ W.cell? ⟨ob, oo + i, none⟩ = some (.int .i64 y)) := fun W hb => by
              have hb2 := HB.out.trans (hb.mono HB.out.size)
              have c1 := HMC.out (i + 1) (by omega)
              have c2 := HOC.out
              rw [HY.out, HX.out]
              exact ⟨(T1.out.below hb2).c0, (T1.out.below hb2).c1, (T1.out.below hb2).c2, (hb2.cell (World.block_lt_of_cell? _ _ c1)).trans c1, (hb2.cell (World.block_lt_of_cell? _ _ c2)).trans c2⟩
            have Kd : Hid (Below wr.heap.size wr wr.drew) := (Below.refl _ _).drew
            have hlo2 := hlo
            clear hlo hy hx
            have h0 := HSv.out _ Kd.out
            obtain ⟨q, hq⟩ : ∃ q, q = manyL P y := ⟨_, rfl⟩
            have HMN : Hid (Calls Tryd.prog 115 #[.agg #[.slice ao O.length co, .slice an zss.length cn, .slice ap P.length cp], .int .i64 y] wr.drew fun e w' => e = .returned (.int .i64 q) ∧ Below wr.drew.heap.size wr.drew w') := by
              rw [hq]
              exact l8Many_is (HGm.out.below (B1.out.trans ((HB.out.trans (Kd.out.mono HB.out.size)).mono B1.out.size)))
            have HQ := Lib.hid hq
            clear hq hlo2
            cases hin : inB x 0 q with
            | true =>
              have HJn : Hid (∀ j, j < i + 1 + 1 → 0 ≤ nth m j ∧ nth m j ≤ nth (mostL P) j) := fun j hj => by
                by_cases e : j = i + 1
                · subst e
                  rw [HST.out, ← HX.out, ← HY.out, ← HQ.out]
                  exact inB_iff.1 hin
                · exact HJ.out j (by omega)
              go_wp2
              go_region_held3 (fun W => W.cell? ⟨w.heap.size, 0, none⟩ = some (.slice ao O.length co) ∧ W.cell? ⟨w.heap.size, 1, none⟩ = some (.slice an zss.length cn) ∧ W.cell? ⟨w.heap.size, 2, none⟩ = some (.slice ap P.length cp) ∧ W.cell? ⟨mb, mo + (i + 1), none⟩ = some (.int .i64 x) ∧ W.cell? ⟨ob, oo + i, none⟩ = some (.int .i64 y))
                (first
                  | exact HSv.out _ Kd.out
                  | exact HSv.out _ Km.out
                  | go_keep)
                (first
                  | (go_at_call 115; refine HMN.out.mono ?_; rintro e wm ⟨rfl, hb⟩; have Km := Lib.hid (Kd.out.trans (hb.mono Kd.out.size)); clear hb)
                  | (go_at_call 79; refine (l1In_is hin _).mono ?_; rintro e wn ⟨rfl, rfl⟩))
              all_goals (
                go_wp2
                go_roundw
                case rel => exact ⟨i + 1, by omega, by go_num, HJn, HB.out.trans (Km.out.mono HB.out.size)⟩
                case measure => simp [intOf]; omega)
            | false =>
              have HF : Hid (r = false) := by
                rw [← HR.out]
                cases hg : goodB P m with
                | false => rfl
                | true =>
                  rcases goodB_iff.1 hg with h1 | ⟨_, h2⟩
                  · exact absurd h1 HNO.out
                  · have := h2 (i + 1) (by omega)
                    rw [HST.out, ← HX.out, ← HY.out, ← HQ.out] at this
                    rw [inB_iff.2 this] at hin
                    cases hin
              go_wp2
              go_region_held3 (fun W => W.cell? ⟨w.heap.size, 0, none⟩ = some (.slice ao O.length co) ∧ W.cell? ⟨w.heap.size, 1, none⟩ = some (.slice an zss.length cn) ∧ W.cell? ⟨w.heap.size, 2, none⟩ = some (.slice ap P.length cp) ∧ W.cell? ⟨mb, mo + (i + 1), none⟩ = some (.int .i64 x) ∧ W.cell? ⟨ob, oo + i, none⟩ = some (.int .i64 y))
                (first
                  | exact HSv.out _ Kd.out
                  | exact HSv.out _ Km.out
                  | go_keep)
                (first
                  | (go_at_call 115; refine HMN.out.mono ?_; rintro e wm ⟨rfl, hb⟩; have Km := Lib.hid (Kd.out.trans (hb.mono Kd.out.size)); clear hb)
                  | (go_at_call 79; refine (l1In_is hin _).mono ?_; rintro e wn ⟨rfl, rfl⟩))
              all_goals (
                go_wp2
                go_ret
                exact ⟨ret_bool HF.out.symm, B1.out.trans ((HB.out.trans (Km.out.mono HB.out.size)).mono B1.out.size)⟩)
          · have hi1 : ¬ (i : Int) < (lq : Int) := by omega
            have hie : i = lq := by omega
            subst hie
            have HF : Hid (r = true) := by
              rw [← HR.out]
              exact goodB_iff.2 (.inr ⟨by rw [← HLQ.out]; omega, fun j hj => HJ.out j (by omega)⟩)
            go_wp2
            go_ret
            exact ⟨ret_bool HF.out.symm, B1.out.trans (HB.out.mono B1.out.size)⟩
      · have h0e : (nth m 0 != 0) = true := by simpa using h0
        have HF : Hid (r = false) := by
          rw [← HR.out]
          cases hg : goodB P m with
          | false => rfl
          | true =>
            rcases goodB_iff.1 hg with h1 | ⟨_, h2⟩
            · exact absurd h1 HNO.out
            · have := h2 0 (by omega)
              have h3 : nth (mostL P) 0 = 0 := rfl
              rw [h3] at this
              omega
        clear h0
        go_enter Tryd.func72, Tryd.ntmps72
        go_wp2
        go_ret
        exact ⟨ret_bool HF.out.symm, by rw [← HW1.out]; exact B1.out⟩
    · have hDi : ((m.length : Int) != (lq : Int) + 1) = true := by simp; omega
      have HF : Hid (r = false) := by
        rw [← HR.out]
        cases hg : goodB P m with
        | false => rfl
        | true =>
          rcases goodB_iff.1 hg with h1 | ⟨h1, _⟩
          · exact absurd h1 HNO.out
          · rw [← HLQ.out] at h1
            omega
      go_enter Tryd.func72, Tryd.ntmps72
      go_wp2
      go_ret
      exact ⟨ret_bool HF.out.symm, by rw [← HW1.out]; exact B1.out⟩

set_option maxHeartbeats 8000000 in
set_option maxRecDepth 100000 in
theorem specMeasureOk_is {w : World} {v : Value} {O P m : List Int} {zss : List (List Int)} {am : Option Addr} {r : Bool} (cm : Nat) (hr : measB O zss P m = r) (h : GameAt w v O zss P) (hm : IntsAt w am m) :
    Calls Tryd.prog 27 #[v, .slice am m.length cm] w fun e w' => e = .returned (.bool r) ∧ Below w.heap.size w w' := by
  have HGm := Lib.hid h
  obtain ⟨ao, an, ap, co, cn, cp, A, C, rfl, h1, h2, h3⟩ := h
  obtain ⟨w1, hw1⟩ : ∃ y, y = w.alloc (.cells #[.slice ao O.length co, .slice an zss.length cn, .slice ap P.length cp] 35) := ⟨_, rfl⟩
  have HW1 := Lib.hid hw1
  have B1 : Hid (Below w.heap.size w w1) := by rw [hw1]; exact below1 _ _
  have T1 : Hid (Box3 w1 w.heap.size 35 (.slice ao O.length co) (.slice an zss.length cn) (.slice ap P.length cp)) := by rw [hw1]; exact Box3.new _ _ _ _ _
  have HM := Lib.hid hm
  have hml := hm.len
  have HR := Lib.hid hr
  clear hw1 h1 h2 h3 hm hr
  have HSv : Hid (∀ W, Below w1.heap.size w1 W → W.cell? ⟨w.heap.size, 0, none⟩ = some (.slice ao O.length co) ∧ W.cell? ⟨w.heap.size, 1, none⟩ = some (.slice an zss.length cn) ∧ W.cell? ⟨w.heap.size, 2, none⟩ = some (.slice ap P.length cp)) := fun W hb => ⟨(T1.out.below hb).c0, (T1.out.below hb).c1, (T1.out.below hb).c2⟩
  have Kd : Hid (Below w1.heap.size w1 w1.drew) := (Below.refl _ _).drew
  have h0 := HSv.out _ Kd.out
  cases hs : smallB O zss P with
  | false =>
    have HC := Lib.hid (l8Small_is hs (HGm.out.below (B1.out.trans (Kd.out.mono B1.out.size))))
    have HF : Hid (r = false) := by rw [← HR.out]; unfold measB; rw [hs]; rfl
    clear hs
    go_enter Tryd.func27, Tryd.ntmps27
    go_wp2
    rw [← HW1.out]
    have t0 := T1.out.c0
    have t1 := T1.out.c1
    have t2 := T1.out.c2
    first
      | go_region_law (first
          | (go_simp; go_at_call 71; refine HC.out.mono ?_; rintro e wm ⟨rfl, hb⟩; have Km := Lib.hid (Kd.out.trans (hb.mono Kd.out.size)); clear hb))
      | fail
    all_goals (
      go_wp2
      go_ret
      exact ⟨ret_bool HF.out.symm, B1.out.trans (Km.out.mono B1.out.size)⟩)
  | true =>
    have HC := Lib.hid (l8Small_is hs (HGm.out.below (B1.out.trans (Kd.out.mono B1.out.size))))
    have HOd := Lib.hid (fun (W : World) (hb : Below w1.heap.size w1 W) => l8Odds_is (HGm.out.below (B1.out.trans (hb.mono B1.out.size))))
    have HGd := Lib.hid (fun (W : World) (hb : Below w1.heap.size w1 W) (aq : Option Addr) (cq : Nat) (hq : IntsAt W aq (oddsL P)) => l8Good_is (r := goodB P m) cq cm rfl (HGm.out.below (B1.out.trans (hb.mono B1.out.size))) hq (HM.out.below (B1.out.trans (hb.mono B1.out.size))))
    obtain ⟨rg, hrg⟩ : ∃ rg, rg = goodB P m := ⟨_, rfl⟩
    have HF : Hid (r = rg) := by rw [← HR.out, hrg]; unfold measB; rw [hs]; rfl
    rw [← hrg] at HGd
    clear hs hrg
    go_enter Tryd.func27, Tryd.ntmps27
    go_wp2
    rw [← HW1.out]
    go_region_held3 (fun W => W.cell? ⟨w.heap.size, 0, none⟩ = some (.slice ao O.length co) ∧ W.cell? ⟨w.heap.size, 1, none⟩ = some (.slice an zss.length cn) ∧ W.cell? ⟨w.heap.size, 2, none⟩ = some (.slice ap P.length cp))
      (first
        | exact HSv.out _ Kd.out
        | exact HSv.out _ Km.out
        | exact HSv.out _ Kn.out
        | exact HSv.out _ Ko.out
        | go_keep)
      (first
        | (go_at_call 71; refine HC.out.mono ?_; rintro e wm ⟨rfl, hb⟩; have Km := Lib.hid (Kd.out.trans (hb.mono Kd.out.size)); clear hb)
        | (go_at_call 73; refine (HOd.out _ Km.out).mono ?_; rintro e wn ⟨u, rfl, hu, hb⟩; obtain ⟨qa, qc, hus, hqi, _⟩ := hu.shape; subst hus; have Kn := Lib.hid (Km.out.trans (hb.mono Km.out.size)); have HQ := Lib.hid hqi; clear hb hu hqi)
        | (go_at_call 72; refine (HGd.out _ Kn.out _ _ HQ.out).mono ?_; rintro e wo ⟨rfl, hb⟩; have Ko := Lib.hid (Kn.out.trans (hb.mono Kn.out.size)); clear hb))
    all_goals (
      go_wp2
      go_ret
      exact ⟨ret_bool HF.out.symm, B1.out.trans (Ko.out.mono B1.out.size)⟩)
end
end Go.Proofs.YtglbkbiphcgidaaDoor
namespace Go.Proofs.YtglbkbiphcgidaaDoor
section
open Go.RowKit Go.Shelf

/-- Zeros from place K to place k. -/
def cutK (m : List Int) (K k : Nat) : List Int := (List.range m.length).map fun i => if K ≤ i ∧ i ≤ k then 0 else nth m i
theorem cutK_len (m : List Int) (K k : Nat) : (cutK m K k).length = m.length := by unfold cutK; simp
theorem cutK_nth {m : List Int} {K k i : Nat} (hi : i < m.length) : nth (cutK m K k) i = if K ≤ i ∧ i ≤ k then 0 else nth m i := by
  unfold cutK nth
  simp [hi]
theorem list_eq8 {a b : List Int} (hl : a.length = b.length) (h : ∀ i, i < a.length → nth a i = nth b i) : a = b :=
  List.ext_getElem hl fun i h1 h2 => by
    have := h i h1
    rw [nth_eq h1, nth_eq h2] at this
    exact this
theorem cutK_zero {m : List Int} {K : Nat} (hK : 0 < K) : cutK m K 0 = m :=
  list_eq8 (cutK_len m K 0) fun i hi => by
    rw [cutK_len] at hi
    rw [cutK_nth hi, if_neg (by omega)]
theorem cutK_yes {m : List Int} {K k : Nat} (h : k + 1 < K) : cutK m K (k + 1) = cutK m K k :=
  list_eq8 (by rw [cutK_len, cutK_len]) fun i hi => by
    rw [cutK_len] at hi
    rw [cutK_nth hi, cutK_nth hi]
    by_cases h1 : K ≤ i ∧ i ≤ k + 1
    · omega
    · rw [if_neg h1, if_neg (by omega)]
theorem cutK_no {m : List Int} {K k : Nat} (h : K ≤ k + 1) (hk : k + 1 < m.length) : cutK m K (k + 1) = (cutK m K k).set (k + 1) 0 :=
  list_eq8 (by rw [List.length_set, cutK_len, cutK_len]) fun i hi => by
    rw [cutK_len] at hi
    by_cases e : i = k + 1
    · subst e
      rw [cutK_nth hi, if_pos (by omega)]
      unfold nth
      simp [cutK_len, hk]
    · have h2 : nth ((cutK m K k).set (k + 1) 0) i = nth (cutK m K k) i := by unfold nth; simp [Ne.symm e]
      rw [h2, cutK_nth hi, cutK_nth hi]
      by_cases h1 : K ≤ i ∧ i ≤ k
      · rw [if_pos h1, if_pos (by omega)]
      · rw [if_neg h1, if_neg (by omega)]
theorem cutK_end {m : List Int} {K k : Nat} (h : m.length ≤ k + 1) : cutK m K k = cutL m K :=
  list_eq8 (by rw [cutK_len, cutL_len]) fun i hi => by
    rw [cutK_len] at hi
    rw [cutK_nth hi, cutL_nth]
    by_cases h1 : K ≤ i
    · rw [if_pos (by omega), if_neg (by omega)]
    · rw [if_neg (by omega), if_pos (by omega)]

theorem l8Lost_is (w : World) : Calls Tryd.prog 119 #[] w (GivesInts w [1]) := by
  have ho : (w.alloc (.cells #[.int .i64 1] 2)).ownsRow w.heap.size 2 1 (.slice (some ⟨w.heap.size, 0, none⟩) 1 1) 1 [Value.int .i64 1] :=
    ⟨by simp, .inr ⟨w.heap.size, 1, #[.int .i64 1], rfl, Nat.le_refl _, heap_alloc_new _ _, Nat.le_refl _, by unfold maxLen; omega, rfl, rfl⟩⟩
  go_enter Tryd.func119, Tryd.ntmps119
  go_wp2
  go_ret
  refine ⟨.slice (some ⟨w.heap.size, 0, none⟩) 1 1, rfl, OwnInts.mk' (zs := [1]) ho (by simp) (fun k hk => ?_), below1 w _⟩
  have : k = 0 := by simpa using hk
  subst this
  unfold Fits nth; simp
theorem l8IsLost_is {w : World} {am : Option Addr} {m : List Int} {r : Bool} (cm : Nat) (hr : (nth m 0 == 1) = r) (hm : IntsAt w am m) (h0 : 0 < m.length) :
    Calls Tryd.prog 92 #[.slice am m.length cm] w fun e w' => e = .returned (.bool r) ∧ w = w' := by
  obtain ⟨mb, mo, rfl, hmc⟩ := hm.cell h0
  have m0 := hmc 0 h0
  rw [Nat.add_zero] at m0
  have h1 : (0 : Int) < m.length := by omega
  obtain ⟨x, hx⟩ : ∃ x, x = nth m 0 := ⟨_, rfl⟩
  rw [← hx] at m0 hr
  clear hmc hm hx
  go_enter Tryd.func92, Tryd.ntmps92
  go_wp2
  go_ret
  exact ⟨rfl, rfl⟩

set_option maxRecDepth 100000 in
set_option maxHeartbeats 8000000 in
theorem l8Asked_is {w : World} {ao an ap : Option Addr} {co cn cp : Nat} {O P m : List Int} {zss : List (List Int)} {aq am : Option Addr} {v : Nat} (cq cm : Nat) (hP : P.length ≤ 12) (hg : goodB P m = true) (h : GameAt w (.agg #[.slice ao O.length co, .slice an zss.length cn, .slice ap P.length cp]) O zss P) (ho : IntsAt w aq (oddsL P)) (hm : IntsAt w am m) (hv : v < P.length) :
    Calls Tryd.prog 80 #[.agg #[.slice ao O.length co, .slice an zss.length cn, .slice ap P.length cp], .slice aq (oddsL P).length cq, .int .i64 v, .slice am m.length cm] w (GivesInts w (askL P m (nth P v))) := by
  have HGm := Lib.hid h
  have h3 : IntsAt w ap P := by
    obtain ⟨_, _, _, _, _, _, _, _, e, _, _, h3⟩ := h
    cases e
    exact h3
  obtain ⟨p, hp⟩ : ∃ p, p = nth P v := ⟨_, rfl⟩
  obtain ⟨w1, hw1⟩ : ∃ y, y = w.alloc (.cells #[.slice ao O.length co, .slice an zss.length cn, .slice ap P.length cp] 35) := ⟨_, rfl⟩
  have HW1 := Lib.hid hw1
  have B1 : Hid (Below w.heap.size w w1) := by rw [hw1]; exact below1 _ _
  have T1 : Hid (Box3 w1 w.heap.size 35 (.slice ao O.length co) (.slice an zss.length cn) (.slice ap P.length cp)) := by rw [hw1]; exact Box3.new _ _ _ _ _
  have hl0 : 0 < m.length := by
    by_cases h1 : m = [1]
    · rw [h1]; simp
    · have := (good_top hg h1).1; omega
  have HM := Lib.hid hm
  rw [← hp]
  obtain ⟨r, hr⟩ : ∃ r, askL P m p = r := ⟨_, rfl⟩
  have HR := Lib.hid hr
  rw [hr]
  by_cases hm1 : m = [1]
  · have HE : Hid (r = [1]) := by rw [← hr]; unfold askL; rw [if_pos hm1]; rfl
    have HIL := Lib.hid (l8IsLost_is (r := true) cm (by rw [hm1]; rfl) (hm.below B1.out) hl0)
    have HLo := Lib.hid (l8Lost_is w1)
    clear hw1 h h3 hm hg ho hr hm1
    go_enter Tryd.func80, Tryd.ntmps80
    go_wp2_with fail
    rw [← HW1.out]
    refine HIL.out.mono ?_
    rintro e w2 ⟨rfl, rfl⟩
    go_wp2_with fail
    refine HLo.out.mono ?_
    rintro e w3 ⟨u, rfl, hu, hb⟩
    have B3 := Lib.hid (B1.out.trans (hb.mono B1.out.size))
    have HU := Lib.hid (hu.base (B' := w.heap.size) B1.out.size)
    clear hb hu HIL HLo
    go_wp2
    go_ret
    rw [HE.out]
    exact ⟨_, rfl, HU.out, B3.out⟩
  · obtain ⟨hlen, h0⟩ := good_top hg hm1
    have HIL := Lib.hid (l8IsLost_is (r := false) cm (by rw [h0]; rfl) (hm.below B1.out) hl0)
    have HCp := Lib.hid (l1Copy_is cm (hm.below B1.out))
    obtain ⟨pb, po, hpa, hpc⟩ := (h3.below B1.out).cell (by omega)
    have p1 := hpc v hv
    rw [← hp] at p1
    have t2 := T1.out.c2
    have hv0 : (0 : Int) ≤ (v : Int) := by omega
    have hv1 : (v : Int) < P.length := by omega
    obtain ⟨K, hK⟩ : ∃ K, K = placesL P p := ⟨_, rfl⟩
    have hK0 : 0 < K := by rw [hK]; exact places_pos P p
    have hK1 : K ≤ (oddsL P).length + 1 := by rw [hK]; exact places_le P p
    have HPI : Hid (∀ k, k < (oddsL P).length → (k + 1 < K ↔ p ≤ nth (oddsL P) k)) := fun k hk => by
      have h1 := places_iff (P := P) (p := p) (i := k + 1) (by omega)
      rw [← hK] at h1
      rw [h1]
      constructor
      · intro h2
        rcases h2 with h2 | h2
        · omega
        · exact h2
      · exact fun h2 => .inr h2
    have HAK : Hid (r = if p.tmod 2 = 0 then cutL m K else bumpL (mostL P) (cutL m K) (K - 1)) := by
      rw [← hr, hK]; unfold askL; rw [if_neg hm1]; rfl
    have HBd : Hid (∀ j, 0 ≤ nth m j ∧ nth m j ≤ 12) := fun j => by
      by_cases hj : j < m.length
      · rcases goodB_iff.1 hg with h4 | ⟨_, h4⟩
        · exact absurd h4 hm1
        · have h5 := h4 j hj
          have h6 := mostK_le P P.length j
          have h7 : nth (mostL P) j = nth (mostK P P.length) j := rfl
          omega
      · rw [nth_off8 (by omega)]; omega
    have HLn : Hid (m.length = (oddsL P).length + 1) := hlen
    have HQ := Lib.hid (ho.below B1.out)
    have hol : (oddsL P).length ≤ 20 := downL_len P 20
    subst hpa
    obtain ⟨lq, hlq⟩ : ∃ lq, lq = (oddsL P).length := ⟨_, rfl⟩
    have HLQ := Lib.hid hlq
    rw [← hlq] at hol hK1 ⊢
    clear hw1 h h3 hm hg ho hr hpc hK hlen h0 hp hm1 hlq
    go_enter Tryd.func80, Tryd.ntmps80
    go_wp2_with fail
    rw [← HW1.out]
    refine HIL.out.mono ?_
    rintro e w2 ⟨rfl, rfl⟩
    clear HIL
    go_wp2_with fail
    refine HCp.out.mono ?_
    rintro e w3 ⟨u, rfl, hu, hb⟩
    obtain ⟨a, cap, rfl, _, hsh⟩ := hu.shape
    obtain ⟨g, rfl, hBg, _, _, _⟩ := hsh hl0
    have B3 := Lib.hid (B1.out.trans (hb.mono B1.out.size))
    have K3 := Lib.hid hb
    have U3 : Hid (OwnInts w3 w1.heap.size w3.heap.size (.slice (some ⟨g, 0, none⟩) m.length cap) (cutK m K 0)) := by rw [cutK_zero hK0]; exact hu
    clear hb hu hsh HCp p1 t2
    go_wp2
    go_loopw [11, 12] (fun lv iv wr => ∃ k : Nat, k ≤ lq ∧ lv = .int .i64 ((min (K - 1) k : Nat) : Int) ∧ iv = .int .i64 k ∧ Hid (OwnInts wr w1.heap.size w3.heap.size (.slice (some ⟨g, 0, none⟩) m.length cap) (cutK m K k)) ∧ Hid (Only (fun x => x = g) w3 wr)) (fun _ iv _ => lq - (intOf iv).toNat)
    case atStart => exact ⟨0, Nat.zero_le _, by rw [Nat.min_zero]; rfl, rfl, U3, Only.refl _ _⟩
    case round =>
      clear U3
      obtain ⟨k, hk, rfl, rfl, HU, HO⟩ := hrel
      by_cases hlt : k < lq
      · have hi1 : (k : Int) < (lq : Int) := by omega
        have hk0 : (0 : Int) ≤ (k : Int) := by omega
        have hka : IntKind.i64.wrap ((k : Int) + 1) = (k : Int) + 1 := by rw [IntKind.wrap_i64]; omega
        have hkb : (0 : Int) ≤ (k : Int) + 1 := by omega
        have hkc : (k : Int) + 1 < m.length := by have := HLn.out; have := HLQ.out; omega
        have hkd : ((k : Int) + 1).toNat = k + 1 := by omega
        have hko : k < (oddsL P).length := by have := HLQ.out; omega
        obtain ⟨qb, qo, hqa, hqc⟩ := HQ.out.cell (by omega)
        have q0 := hqc k hko
        have hqlt := World.block_lt_of_cell? _ _ q0
        have q3 := (K3.out.cell hqlt).trans q0
        have q1 : wr.cell? ⟨qb, qo + k, none⟩ = some (.int .i64 (nth (oddsL P) k)) := (World.cell?_of_block (HO.out.block qb (World.block_lt_of_cell? _ _ q3) (fun e => by have h1 : qb < w1.heap.size := hqlt; omega))).trans q3
        obtain ⟨z, hz⟩ : ∃ z, z = nth (oddsL P) k := ⟨_, rfl⟩
        have HZ := Lib.hid hz
        have HPk := Lib.hid (HPI.out k hko)
        rw [← hz] at q1 HPk
        have HQa := Lib.hid hqa
        subst hqa
        obtain ⟨c, hc⟩ : ∃ c, c = min (K - 1) k := ⟨_, rfl⟩
        have HCc := Lib.hid hc
        rw [← hc]
        clear hqc q0 q3 hqlt hz hko hc
        by_cases hpz : p ≤ z
        · have hlK := HPk.out.2 hpz
          have HUn : Hid (OwnInts wr w1.heap.size w3.heap.size (.slice (some ⟨g, 0, none⟩) m.length cap) (cutK m K (k + 1))) := by rw [cutK_yes hlK]; exact HU.out
          have hnz : ¬ z < p := by omega
          clear hlK hpz
          go_wp2
          go_roundw
          case rel => exact ⟨k + 1, by omega, by congr 1; have := HPk.out; omega, by go_num, HUn, HO⟩
          case measure => simp [intOf]; omega
        · have hzp : z < p := by omega
          have hKk : K ≤ k + 1 := Nat.le_of_not_lt fun h => hpz (HPk.out.1 h)
          obtain ⟨a', c', he, hI, hsh⟩ := HU.out.shape
          have hcl : 0 < (cutK m K k).length := by rw [cutK_len]; have := HLn.out; omega
          obtain ⟨g', hg', _, _, _, hfz⟩ := hsh hcl
          have hgg : g' = g := by rw [hg'] at he; injection he with h1; injection h1 with h1; injection h1 with h1; exact h1.symm
          subst hgg
          obtain ⟨gb, go, hga, hgc⟩ := hI.cell hcl
          rw [hg'] at hga
          have x1 := hgc (k + 1) (by rw [cutK_len]; omega)
          cases hga
          rw [Nat.zero_add] at x1
          have x2 := hfz (k + 1)
          have HUn : Hid (OwnInts (wr.setCell ⟨g', k + 1, none⟩ (.int .i64 0)) w1.heap.size w3.heap.size (.slice (some ⟨g', 0, none⟩) m.length cap) (cutK m K (k + 1))) := by
            rw [cutK_no hKk (by omega)]
            exact HU.out.store (by rw [cutK_len]) (by rw [cutK_len]; omega) (by unfold Fits; omega)
          clear hpz hI hsh hgc he hfz hg'
          go_wp2
          go_roundw
          case rel => exact ⟨k + 1, by omega, by congr 1; have := HCc.out; omega, by go_num, HUn, HO.out.setCell (p := ⟨g', k + 1, none⟩) rfl _⟩
          case measure => simp [intOf]; omega
      · have hi1 : ¬ (k : Int) < (lq : Int) := by omega
        have hkl : k = lq := by omega
        have HUe : Hid (OwnInts wr w1.heap.size w3.heap.size (.slice (some ⟨g, 0, none⟩) m.length cap) (cutL m K)) := by
          rw [← cutK_end (k := k) (by have := HLn.out; have := HLQ.out; omega)]; exact HU.out
        have hmin : min (K - 1) k = K - 1 := by omega
        rw [hmin]
        have BW : Hid (Below w.heap.size w wr) := B3.out.trans (HO.out.below (B := w.heap.size) B3.out.size (fun x hx => by rw [hx]; have := B1.out.size; omega))
        have hszB := B1.out.size
        clear hkl hmin HU
        by_cases hpe : p.tmod 2 = 0
        · have hpe1 : (p.tmod 2 == 0) = true := by simpa using hpe
          have HE : Hid (r = cutL m K) := by rw [HAK.out, if_pos hpe]; rfl
          clear hpe
          go_wp2
          go_ret
          rw [HE.out]
          exact ⟨_, rfl, HUe.out.retop.base hszB, BW.out⟩
        · have hpe1 : (p.tmod 2 == 0) = false := by simpa using hpe
          have HE : Hid (r = bumpL (mostL P) (cutL m K) (K - 1)) := by rw [HAK.out, if_neg hpe]; rfl
          clear hpe
          go_wp2
          have K4 : Hid (Only (fun x => x = g ∨ w3.heap.size ≤ x) w3 wr) := HO.out.mono fun x hx => .inl hx
          have HB0 : Hid (∀ j, 0 ≤ nth (cutL m K) j ∧ nth (cutL m K) j ≤ 12) := fun j => by
            rw [cutL_nth]
            split
            · exact HBd.out j
            · omega
          have hgw : w1.heap.size ≤ g := hBg
          have hg3 : g < w3.heap.size := by
            have h := HUe.out.top g rfl
            exact h
          clear HO BW
          go_loopw [13] (fun iv wr => ∃ (i : Nat) (h : List Int), i < K ∧ iv = .int .i64 i ∧ Hid (h.length = m.length ∧ ∀ j, 0 ≤ nth h j ∧ nth h j ≤ 12) ∧ Hid (r = bumpL (mostL P) h i) ∧ Hid (OwnInts wr w1.heap.size w3.heap.size (.slice (some ⟨g, 0, none⟩) m.length cap) h) ∧ Hid (Only (fun x => x = g ∨ w3.heap.size ≤ x) w3 wr)) (fun iv _ => (intOf iv).toNat)
          case atStart => exact ⟨K - 1, cutL m K, by omega, rfl, ⟨cutL_len m K, HB0.out⟩, HE, HUe, K4⟩
          case round =>
            clear HUe HE HB0 K4
            obtain ⟨i, h, hi, rfl, HH, HAs, HU, HO⟩ := hrel
            have B5 : Hid (Below w.heap.size w wr) := B3.out.trans (HO.out.below (B := w.heap.size) B3.out.size (fun x hx => by have := B3.out.size; omega))
            by_cases hpos : 0 < i
            · have hi0 : (0 : Int) < (i : Int) := by omega
              have hi1 : (0 : Int) ≤ (i : Int) := by omega
              have hi2 : IntKind.i64.wrap ((i : Int) - 1) = (i : Int) - 1 := by rw [IntKind.wrap_i64]; omega
              have hi3 : (0 : Int) ≤ (i : Int) - 1 := by omega
              have hi4 : (i : Int) - 1 < (lq : Int) := by omega
              have hi5 : ((i : Int) - 1).toNat = i - 1 := by omega
              have hi6 : 1 ≤ i := hpos
              have hi7 : (1 : Int) ≤ (i : Int) := by omega
              have hi8 : ¬ ((i : Int) - 1 < 0) := by omega
              have hih : i < h.length := by have := HH.out.1; have := HLn.out; have := HLQ.out; omega
              have him : (i : Int) < m.length := by have := HH.out.1; omega
              have hio : i - 1 < (oddsL P).length := by have := HLQ.out; omega
              obtain ⟨qb, qo, hqa, hqc⟩ := HQ.out.cell (by omega)
              have q0 := hqc (i - 1) hio
              have hqlt : qb < w1.heap.size := World.block_lt_of_cell? _ _ q0
              have q3 := (K3.out.cell (p := ⟨qb, qo + (i - 1), none⟩) hqlt).trans q0
              have hq3 : qb < w3.heap.size := by omega
              have HST : Hid (nth (mostL P) i = manyL P (nth (oddsL P) (i - 1))) := by
                have h9 := mostK_at (P := P) (k := P.length) hio
                rw [show i - 1 + 1 = i by omega] at h9
                exact h9
              obtain ⟨y, hy⟩ : ∃ y, y = nth (oddsL P) (i - 1) := ⟨_, rfl⟩
              obtain ⟨c, hc⟩ : ∃ c, c = nth h i := ⟨_, rfl⟩
              have HYy := Lib.hid hy
              have HCc := Lib.hid hc
              rw [← hy] at q3
              have HQc := Lib.hid q3
              have hcb := HH.out.2 i
              rw [← hc] at hcb
              have HUsh := Lib.hid HU.out.shape
              have HCell : Hid (wr.cell? ⟨g, i, none⟩ = some (.int .i64 c) ∧ wr.frozen? ⟨g, i, none⟩ = false) := by
                obtain ⟨a', c', he, hI, hsh⟩ := HUsh.out
                obtain ⟨g', hg', _, _, _, hfz⟩ := hsh (by omega)
                obtain ⟨gb, go, hga, hgc⟩ := hI.cell (by omega)
                rw [hg'] at he hga
                cases hga
                injection he with h1
                injection h1 with h1
                injection h1 with h1
                subst h1
                have x1 := hgc i hih
                rw [Nat.zero_add] at x1
                exact ⟨by rw [hc]; exact x1, hfz i⟩
              have HSv : Hid (∀ W, Below wr.heap.size wr W → W.cell? ⟨w.heap.size, 0, none⟩ = some (.slice ao O.length co) ∧ W.cell? ⟨w.heap.size, 1, none⟩ = some (.slice an zss.length cn) ∧ W.cell? ⟨w.heap.size, 2, none⟩ = some (.slice (some ⟨pb, po, none⟩) P.length cp) ∧ W.cell? ⟨g, i, none⟩ = some (.int .i64 c) ∧ W.cell? ⟨qb, qo + (i - 1), none⟩ = some (.int .i64 y)) := fun W hb => by
                have T3 := T1.out.below K3.out
                have T5 : Box3 wr w.heap.size 35 (.slice ao O.length co) (.slice an zss.length cn) (.slice (some ⟨pb, po, none⟩) P.length cp) := World.rowIs.of_block T3 (HO.out.block _ T3.lt (fun e => by have := T1.out.lt; omega))
                have T6 := T5.below hb
                have q5 := (World.cell?_of_block (a := ⟨qb, qo + (i - 1), none⟩) (HO.out.block qb hq3 (fun e => by omega))).trans HQc.out
                exact ⟨T6.c0, T6.c1, T6.c2, (hb.cell (World.block_lt_of_cell? _ _ HCell.out.1)).trans HCell.out.1, (hb.cell (World.block_lt_of_cell? _ _ q5)).trans q5⟩
              have Kd : Hid (Below wr.heap.size wr wr.drew) := (Below.refl _ _).drew
              obtain ⟨q, hq⟩ : ∃ q, q = manyL P y := ⟨_, rfl⟩
              have HMN : Hid (Calls Tryd.prog 115 #[.agg #[.slice ao O.length co, .slice an zss.length cn, .slice (some ⟨pb, po, none⟩) P.length cp], .int .i64 y] wr.drew fun e w' => e = .returned (.int .i64 q) ∧ Below wr.drew.heap.size wr.drew w') := by
                rw [hq]
                exact l8Many_is (HGm.out.below (B5.out.trans (Kd.out.mono B5.out.size)))
              have HQq := Lib.hid hq
              have HQa := Lib.hid hqa
              subst hqa
              have hs0 := HSv.out _ Kd.out
              clear hqc q0 q3 hqlt hq3 hio hy hc hq
              have HLE : Hid (nth (mostL P) i = q) := by rw [HST.out, HQq.out, HYy.out]; rfl
              by_cases hlt : c < q
              · have HEr : Hid (r = h.set i (c + 1)) := by rw [HAs.out, bumpL_yes hpos (by rw [← HCc.out, HLE.out]; exact hlt), ← HCc.out]; rfl
                go_wp2
                go_region_held3 (fun W => W.cell? ⟨w.heap.size, 0, none⟩ = some (.slice ao O.length co) ∧ W.cell? ⟨w.heap.size, 1, none⟩ = some (.slice an zss.length cn) ∧ W.cell? ⟨w.heap.size, 2, none⟩ = some (.slice (some ⟨pb, po, none⟩) P.length cp) ∧ W.cell? ⟨g, i, none⟩ = some (.int .i64 c) ∧ W.cell? ⟨qb, qo + (i - 1), none⟩ = some (.int .i64 y))
                  (first
                    | exact HSv.out _ Kd.out
                    | exact HSv.out _ Km.out
                    | go_keep)
                  (first
                    | (go_at_call 115; refine HMN.out.mono ?_; rintro e wm ⟨rfl, hb⟩; have Km := Lib.hid (Kd.out.trans (hb.mono Kd.out.size)); clear hb))
                all_goals (
                  have hsm := HSv.out _ Km.out
                  have xm := hsm.2.2.2.1
                  have xf : wm.frozen? ⟨g, i, none⟩ = false := by
                    have h9 := (HU.out.below Km.out).shape
                    obtain ⟨a', c', he, hI, hsh⟩ := h9
                    obtain ⟨g', hg', _, _, _, hfz⟩ := hsh (by omega)
                    rw [hg'] at he
                    injection he with h1
                    injection h1 with h1
                    injection h1 with h1
                    rw [h1]
                    exact hfz i
                  have hw1 : IntKind.i64.wrap (c + 1) = c + 1 := by rw [IntKind.wrap_i64]; omega
                  have HUn := Lib.hid ((HU.out.below Km.out).store (by rw [HH.out.1]) hih (x := c + 1) (by unfold Fits; omega))
                  have BZ := Lib.hid (B5.out.trans (Km.out.mono B5.out.size))
                  clear hsm
                  go_wp2
                  go_ret
                  rw [HEr.out]
                  exact ⟨_, rfl, HUn.out.retop.base (B' := w.heap.size) hszB, ((Only.of_below (S := fun x => w.heap.size ≤ x) BZ.out).setCell (p := ⟨g, i, none⟩) (by show w.heap.size ≤ g; omega) _).below (Nat.le_refl _) (fun x hx => hx)⟩)
              · have HAn : Hid (r = bumpL (mostL P) (h.set i 0) (i - 1)) := by rw [HAs.out, bumpL_no hpos (by rw [← HCc.out, HLE.out]; exact hlt)]; rfl
                have HHn : Hid ((h.set i 0).length = m.length ∧ ∀ j, 0 ≤ nth (h.set i 0) j ∧ nth (h.set i 0) j ≤ 12) := ⟨by rw [List.length_set]; exact HH.out.1, fun j => by
                  have h1 := HH.out.2 j
                  by_cases e : j = i
                  · subst e; unfold nth; simp [hih]
                  · unfold nth at h1 ⊢; simpa [List.getElem?_set, Ne.symm e] using h1⟩
                go_wp2
                go_region_held3 (fun W => W.cell? ⟨w.heap.size, 0, none⟩ = some (.slice ao O.length co) ∧ W.cell? ⟨w.heap.size, 1, none⟩ = some (.slice an zss.length cn) ∧ W.cell? ⟨w.heap.size, 2, none⟩ = some (.slice (some ⟨pb, po, none⟩) P.length cp) ∧ W.cell? ⟨g, i, none⟩ = some (.int .i64 c) ∧ W.cell? ⟨qb, qo + (i - 1), none⟩ = some (.int .i64 y))
                  (first
                    | exact HSv.out _ Kd.out
                    | exact HSv.out _ Km.out
                    | go_keep)
                  (first
                    | (go_at_call 115; refine HMN.out.mono ?_; rintro e wm ⟨rfl, hb⟩; have Km := Lib.hid (Kd.out.trans (hb.mono Kd.out.size)); clear hb))
                all_goals (
                  have hsm := HSv.out _ Km.out
                  have xm := hsm.2.2.2.1
                  have xf : wm.frozen? ⟨g, i, none⟩ = false := by
                    have h9 := (HU.out.below Km.out).shape
                    obtain ⟨a', c', he, hI, hsh⟩ := h9
                    obtain ⟨g', hg', _, _, _, hfz⟩ := hsh (by omega)
                    rw [hg'] at he
                    injection he with h1
                    injection h1 with h1
                    injection h1 with h1
                    rw [h1]
                    exact hfz i
                  have HUn := Lib.hid ((HU.out.below Km.out).store (by rw [HH.out.1]) hih (x := 0) (by unfold Fits; omega))
                  have hsw := Nat.le_trans HO.out.size Km.out.size
                  clear hsm
                  go_wp2
                  go_roundw
                  case rel => exact ⟨i - 1, h.set i 0, by omega, by go_num, HHn, HAn, HUn, (HO.out.trans ((Only.of_below (S := fun x => x = g ∨ w3.heap.size ≤ x) Km.out).mono fun x hx => hx)).setCell (p := ⟨g, i, none⟩) (.inl rfl) _⟩
                  case measure => simp [intOf]; omega)
            · have hi0 : ¬ (0 : Int) < (i : Int) := by omega
              have hie : i = 0 := by omega
              have HE : Hid (r = [1]) := by rw [HAs.out, hie]; rfl
              have HLo := Lib.hid (l8Lost_is wr)
              clear hie
              go_wp2_with fail
              refine HLo.out.mono ?_
              rintro e w6 ⟨u, rfl, hu, hb⟩
              have B6 := Lib.hid (B5.out.trans (hb.mono B5.out.size))
              have HU6 := Lib.hid (hu.base (B' := w.heap.size) B5.out.size)
              clear hb hu HLo
              go_wp2
              go_ret
              rw [HE.out]
              exact ⟨_, rfl, HU6.out, B6.out⟩
end
end Go.Proofs.YtglbkbiphcgidaaDoor
namespace Go.Proofs.YtglbkbiphcgidaaDoor
section
open Go.RowKit Go.Shelf

set_option maxRecDepth 100000 in
set_option maxHeartbeats 8000000 in
theorem specAskedBy_is {w : World} {v : Value} {O P m r : List Int} {zss : List (List Int)} {am : Option Addr} {x : Int} (cm : Nat) (hr : askedV O zss P m x = r) (h : GameAt w v O zss P) (hm : IntsAt w am m) :
    Calls Tryd.prog 31 #[v, .int .i64 x, .slice am m.length cm] w (GivesInts w r) := by
  have HGm := Lib.hid h
  obtain ⟨ao, an, ap, co, cn, cp, A, C, rfl, h1, h2, h3⟩ := h
  have hlP := h3.len
  obtain ⟨w1, hw1⟩ : ∃ y, y = w.alloc (.cells #[.slice ao O.length co, .slice an zss.length cn, .slice ap P.length cp] 35) := ⟨_, rfl⟩
  have HW1 := Lib.hid hw1
  have B1 : Hid (Below w.heap.size w w1) := by rw [hw1]; exact below1 _ _
  have T1 : Hid (Box3 w1 w.heap.size 35 (.slice ao O.length co) (.slice an zss.length cn) (.slice ap P.length cp)) := by rw [hw1]; exact Box3.new _ _ _ _ _
  have HM := Lib.hid hm
  have HR := Lib.hid hr
  have t0 := T1.out.c0
  have t1 := T1.out.c1
  have t2 := T1.out.c2
  obtain ⟨ra, hra⟩ : ∃ ra, measB O zss P m = ra := ⟨_, rfl⟩
  have HC1 := Lib.hid (specMeasureOk_is cm hra (HGm.out.below B1.out) (HM.out.below B1.out))
  have HRA := Lib.hid hra
  clear hw1 h1 h2 h3 hm hr hra
  cases ra with
  | false =>
    have HE : Hid (r = []) := by rw [← HR.out]; exact askedV_no HRA.out
    go_enter Tryd.func31, Tryd.ntmps31
    go_wp2_with fail
    rw [← HW1.out]
    go_wp2_with fail
    refine HC1.out.mono ?_
    rintro e w2 ⟨rfl, hb⟩
    have B2 := Lib.hid (B1.out.trans (hb.mono B1.out.size))
    clear hb HC1 t0 t1 t2
    go_wp2
    go_ret
    refine ⟨_, rfl, ?_, B2.out.trans ((below1 w2 _).mono B2.out.size)⟩
    rw [HE.out]
    exact OwnInts.mk' (World.ownsRow_made w2 #[] 0 B2.out.size (by unfold maxLen; omega) rfl) (by simp) (fun k hk => absurd hk (by simp))

  | true =>
    by_cases hin : 0 ≤ x ∧ x < P.length
    · obtain ⟨v, rfl⟩ : ∃ v : Nat, x = (v : Int) := ⟨x.toNat, by omega⟩
      have hv : v < P.length := by omega
      have HE : Hid (r = askL P m (nth P v)) := by rw [← HR.out]; exact askedV_yes HRA.out hv
      have HI : Hid (∀ W, Calls Tryd.prog 79 #[.int .i64 v, .int .i64 0, .int .i64 ((P.length : Int) - 1)] W fun e w' => e = .returned (.bool true) ∧ W = w') := fun W => l1In_is (inB_yes (by omega) (by omega)) W
      have hsb : IntKind.i64.wrap ((P.length : Int) - 1) = (P.length : Int) - 1 := by rw [IntKind.wrap_i64]; omega
      have HG2 : Hid (P.length ≤ 12 ∧ goodB P m = true) := by
        have h := HRA.out
        unfold measB at h
        rw [Bool.and_eq_true] at h
        exact ⟨(smallB_iff.1 h.1).1, h.2⟩
      clear hin
      go_enter Tryd.func31, Tryd.ntmps31
      go_wp2_with fail
      rw [← HW1.out]
      go_wp2_with fail
      refine HC1.out.mono ?_
      rintro e w2 ⟨rfl, hb⟩
      have B2 := Lib.hid (B1.out.trans (hb.mono B1.out.size))
      have T2 := Lib.hid (T1.out.below hb)
      clear hb HC1 t0 t1 t2
      have t0 := T2.out.c0
      have t1 := T2.out.c1
      have t2 := T2.out.c2
      go_wp2_with fail
      refine (HI.out w2).mono ?_
      rintro e w2b ⟨rfl, rfl⟩
      have HSv : Hid (∀ W, Below w2.heap.size w2 W → W.cell? ⟨w.heap.size, 0, none⟩ = some (.slice ao O.length co) ∧ W.cell? ⟨w.heap.size, 1, none⟩ = some (.slice an zss.length cn) ∧ W.cell? ⟨w.heap.size, 2, none⟩ = some (.slice ap P.length cp)) := fun W hb => ⟨(T2.out.below hb).c0, (T2.out.below hb).c1, (T2.out.below hb).c2⟩
      have Kd : Hid (Below w2.heap.size w2 w2.drew) := (Below.refl _ _).drew
      have HOd := Lib.hid (l8Odds_is (HGm.out.below (B2.out.trans (Kd.out.mono B2.out.size))))
      have HAs := Lib.hid (fun (W : World) (hb : Below w2.heap.size w2 W) (aq : Option Addr) (cq : Nat) (hq : IntsAt W aq (oddsL P)) => l8Asked_is (v := v) cq cm HG2.out.1 HG2.out.2 (HGm.out.below (B2.out.trans (hb.mono B2.out.size))) hq (HM.out.below (B2.out.trans (hb.mono B2.out.size))) hv)
      have hs0 := HSv.out _ Kd.out
      clear t0 t1 t2
      go_wp2
      go_region_held3 (fun W => W.cell? ⟨w.heap.size, 0, none⟩ = some (.slice ao O.length co) ∧ W.cell? ⟨w.heap.size, 1, none⟩ = some (.slice an zss.length cn) ∧ W.cell? ⟨w.heap.size, 2, none⟩ = some (.slice ap P.length cp))
        (first
          | exact HSv.out _ Kd.out
          | exact HSv.out _ Kn.out
          | exact HSv.out _ Ko.out
          | go_keep)
        (first
          | (go_at_call 73; refine HOd.out.mono ?_; rintro e wn ⟨u, rfl, hu, hb⟩; obtain ⟨qa, qc, hus, hqi, _⟩ := hu.shape; subst hus; have Kn := Lib.hid (Kd.out.trans (hb.mono Kd.out.size)); have HQ := Lib.hid hqi; clear hb hu hqi)
          | (go_at_call 80; refine (HAs.out _ Kn.out _ _ HQ.out).mono ?_; rintro e wo ⟨y, rfl, hy, hb⟩; have Ko := Lib.hid (Kn.out.trans (hb.mono Kn.out.size)); have HY := Lib.hid (hy.base (B' := w.heap.size) (Nat.le_trans B2.out.size Kn.out.size)); clear hb hy))
      all_goals (
        go_wp2
        go_ret
        rw [HE.out]
        exact ⟨_, rfl, HY.out, B2.out.trans (Ko.out.mono B2.out.size)⟩)
    · have HE : Hid (r = []) := by rw [← HR.out]; exact askedV_off hin
      have HI : Hid (∀ W, Calls Tryd.prog 79 #[.int .i64 x, .int .i64 0, .int .i64 ((P.length : Int) - 1)] W fun e w' => e = .returned (.bool false) ∧ W = w') := fun W => l1In_is (inB_no (by omega)) W
      have hsb : IntKind.i64.wrap ((P.length : Int) - 1) = (P.length : Int) - 1 := by rw [IntKind.wrap_i64]; omega
      clear hin
      go_enter Tryd.func31, Tryd.ntmps31
      go_wp2_with fail
      rw [← HW1.out]
      go_wp2_with fail
      refine HC1.out.mono ?_
      rintro e w2 ⟨rfl, hb⟩
      have B2 := Lib.hid (B1.out.trans (hb.mono B1.out.size))
      have T2 := Lib.hid (T1.out.below hb)
      clear hb HC1 t0 t1 t2
      have t0 := T2.out.c0
      have t1 := T2.out.c1
      have t2 := T2.out.c2
      go_wp2_with fail
      refine (HI.out w2).mono ?_
      rintro e w2b ⟨rfl, rfl⟩
      clear t0 t1 t2
      go_wp2
      go_ret
      refine ⟨_, rfl, ?_, B2.out.trans ((below1 w2 _).mono B2.out.size)⟩
      rw [HE.out]
      exact OwnInts.mk' (World.ownsRow_made w2 #[] 0 B2.out.size (by unfold maxLen; omega) rfl) (by simp) (fun k hk => absurd hk (by simp))

end
end Go.Proofs.YtglbkbiphcgidaaDoor
namespace Go.Proofs.YtglbkbiphcgidaaDoor
open Go.RowKit

end Go.Proofs.YtglbkbiphcgidaaDoor
