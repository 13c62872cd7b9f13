/-
  Contracts of chapter 6: the model's RegionOf, l6Part, l6Form, PartOf. (An answer reads as a play does: two slices of numbers.)
-/
import Derived.Test.YtokcinhopajniaaLasso
import Derived.Test.YtokcinhopajniaaLassoMath
import Derived.Test.YtokcinhopajniaaParity1
namespace Go.Proofs.Ytokcinhopajniaa
open Go.RowKit

/-- The first k vertices that who wins. -/
def regK (X : List Int) (who : Int) : Nat → List Int
  | 0 => []
  | k + 1 => regK X who k ++ (if nth X k = who then [(k : Int)] else [])
theorem regK_len (X : List Int) (who : Int) : ∀ k, (regK X who k).length ≤ k
  | 0 => Nat.le_refl _
  | k + 1 => by
    have := regK_len X who k
    rw [regK, List.length_append]
    split <;> simp <;> omega
theorem regK_mem {X : List Int} {who : Int} : ∀ {k : Nat} {x : Int}, x ∈ regK X who k ↔ ∃ v : Nat, x = (v : Int) ∧ v < k ∧ nth X v = who
  | 0, x => by simp [regK]
  | k + 1, x => by
    rw [regK, List.mem_append, regK_mem]
    constructor
    · rintro (⟨v, h1, h2, h3⟩ | h)
      · exact ⟨v, h1, by omega, h3⟩
      · split at h
        · simp at h; exact ⟨k, h, by omega, by assumption⟩
        · simp at h
    · rintro ⟨v, h1, h2, h3⟩
      by_cases e : v = k
      · subst e; right; rw [if_pos h3]; simp [h1]
      · exact .inl ⟨v, h1, by omega, h3⟩
def regL (X : List Int) (who : Int) : List Int := if X.length ≤ 256 then regK X who X.length else []

set_option maxHeartbeats 8000000 in
set_option maxRecDepth 100000 in
theorem specRegionOf_is {w : World} {v : Value} {X Y r : List Int} {who : Int} (hr : regL X who = r) (h : LassoAt w v X Y) :
    Calls Try.prog 6 #[v, .int .i64 who] w (GivesInts w r) := by
  obtain ⟨i0, hi, hz0, hz1, hz2⟩ := info_parts info_int
  obtain ⟨ax, ay, cx, cy, rfl, hX, hY⟩ := h
  have hlX := hX.len
  have HXi := Lib.hid hX
  obtain ⟨w1, hw1⟩ : ∃ y, y = w.alloc (.cells #[.slice ax X.length cx, .slice ay Y.length cy] 27) := ⟨_, rfl⟩
  have HW1 := Lib.hid hw1
  have hs1 : w1.heap.size = w.heap.size + 1 := by rw [hw1]; simp
  have HS1 := Lib.hid hs1
  have hb1 : Below w.heap.size w w1 := by rw [hw1]; exact below1 _ _
  have hT1 : Box2 w1 w.heap.size 27 (.slice ax X.length cx) (.slice ay Y.length cy) := by rw [hw1]; exact Box2.new _ _ _ _
  obtain ⟨w2, hw2⟩ : ∃ y, y = w1.alloc (.cells #[] 2) := ⟨_, rfl⟩
  have HW2 := Lib.hid hw2
  have K2 : Hid (Below w1.heap.size w1 w2) := by rw [hw2]; exact below1 _ _
  have O2 : Hid (w2.ownsRow w1.heap.size 2 1 (.slice (some ⟨w1.heap.size, 0, none⟩) 0 0) (regK X who 0).length ((regK X who 0).map (Value.int .i64))) := by rw [hw2]; exact World.ownsRow_made w1 #[] 0 (Nat.le_refl _) (by unfold maxLen; omega) rfl
  have B1 := Lib.hid hb1
  have T2 := Lib.hid (hT1.below K2.out)
  have HR := Lib.hid hr
  clear hw1 hw2 hX hY hb1 hT1 hs1 hr
  go_enter Try.func6, Try.ntmps6
  go_wp2
  rw [← HW1.out, ← HS1.out, ← HW2.out]
  go_loopw [5, 6] (fun ov iv wr => ∃ (k : Nat) (uu : Value), uu = ov ∧ k ≤ X.length ∧ (X.length ≤ 256 ∨ k = 0) ∧ iv = .int .i64 k ∧ Hid (wr.ownsRow w1.heap.size 2 1 ov (regK X who k).length ((regK X who k).map (Value.int .i64))) ∧ Hid (Below w1.heap.size w1 wr) ∧ Hid (Box2 wr w.heap.size 27 (.slice ax X.length cx) (.slice ay Y.length cy))) (fun _ iv _ => X.length - (intOf iv).toNat)
  case atStart => exact ⟨0, _, rfl, Nat.zero_le _, .inr rfl, rfl, O2, K2, T2⟩
  case round =>
    clear O2 K2 T2
    obtain ⟨k, uu, hu0, hk, hk256, rfl, HO, HK, HT⟩ := hrel
    subst hu0
    have t0 := HT.out.cell0
    have hksz := HK.out.size
    have hll := regK_len X who k
    by_cases hlt : k < X.length
    · have hi1 : (k : Int) < X.length := by omega
      have hk0 : (0 : Int) ≤ (k : Int) := by omega
      by_cases hx : X.length ≤ 256
      · have hx1 : (X.length : Int) ≤ 256 := by omega
        have Bw := Lib.hid (B1.out.trans (HK.out.mono B1.out.size))
        obtain ⟨xb, xo, hxa, hxc⟩ := (HXi.out.below Bw.out).cell (by omega)
        have x1 := hxc k hlt
        obtain ⟨q, hq⟩ : ∃ q, q = nth X k := ⟨_, rfl⟩
        have hst : regK X who (k + 1) = regK X who k ++ (if q = who then [(k : Int)] else []) := by rw [regK, hq]
        rw [← hq] at x1
        subst hxa
        clear hxc hq hk256
        by_cases e : q = who
        · have he : (q == who) = true := by simpa using e
          rw [if_pos e] at hst
          have HST := Lib.hid hst
          clear e hst
          go_wp2_with (at_builtin; refine wpList_append_own_at _ rfl _ _ 22 rfl w1.heap.size 2 i0 (.int .i64 0) 1 8 Try.underlying22 hi hz0 hz1 hz2 rfl (by decide) _ _ _ rfl (HO.out.alloc _) ⟨wr.heap.size, 0, none⟩ 1 1 [.int .i64 (k : Int)] rfl rfl ?c1 ?c2 ?c3 ?c4 ?c5 ?_)
          try (case c1 => exact cell_one_new _ _ _)
          try (case c2 => first | rfl | (intro u hu; simp at hu; subst hu; rfl))
          case c3 => unfold maxLen; omega
          case c4 => omega
          case c5 => first | (simp; omega) | omega
          intro v' w5 hown hgrow _ _
          have hg : Only (fun b => w1.heap.size ≤ b) wr w5 := (Only.of_below (below1 wr _)).trans ((Only.of_grown hgrow).mono fun b hb => (HO.out.lt b hb).1)
          have Kn := Lib.hid (HK.out.trans (hg.below HK.out.size (fun _ h => h)))
          have Tn := Lib.hid (HT.out.only hg (by have := HS1.out; omega))
          have HOn : Hid (w5.ownsRow w1.heap.size 2 1 v' (regK X who (k + 1)).length ((regK X who (k + 1)).map (Value.int .i64))) := by
            rw [HST.out, List.map_append, List.length_append]; exact hown
          clear hown hgrow hg
          go_wp2
          go_roundw
          case rel => exact ⟨k + 1, _, rfl, by omega, .inl hx, by go_num, HOn, Kn, Tn⟩
          case measure => simp [intOf]; omega
        · have he : (q == who) = false := beq_eq_false_iff_ne.2 e
          rw [if_neg e, List.append_nil] at hst
          have HOn : Hid (wr.ownsRow w1.heap.size 2 1 uu (regK X who (k + 1)).length ((regK X who (k + 1)).map (Value.int .i64))) := by rw [hst]; exact HO.out
          clear e hst
          go_wp2
          go_roundw
          case rel => exact ⟨k + 1, _, rfl, by omega, .inl hx, by go_num, HOn, HK, HT⟩
          case measure => simp [intOf]; omega
      · have hx1 : ¬ (X.length : Int) ≤ 256 := by omega
        have hk00 : k = 0 := by omega
        have HE : Hid (r = []) := by rw [← HR.out]; unfold regL; rw [if_neg hx]; rfl
        rw [hk00] at HO
        have hfin := Lib.hid ((OwnInts.mk' (zs := []) HO.out (by simp) (fun j hj => absurd hj (by simp))).base (B' := w.heap.size) B1.out.size)
        clear hk00 HO
        go_wp2
        go_ret
        exact ⟨_, rfl, by rw [HE.out]; exact hfin.out, B1.out.trans (HK.out.mono B1.out.size)⟩
    · have hi1 : ¬ (k : Int) < X.length := by omega
      have hkk : k = X.length := by omega
      have HE : Hid (r = regK X who X.length) := by
        rw [← HR.out]; unfold regL
        by_cases hx : X.length ≤ 256
        · rw [if_pos hx]; rfl
        · have : X.length = 0 := by omega
          rw [if_neg hx, this]; rfl
      rw [hkk] at HO
      have hfin := Lib.hid ((OwnInts.mk' HO.out (by have := regK_len X who X.length; omega) (fun j hj => by
        obtain ⟨u, hu, hun, _⟩ := regK_mem.1 (nth_mem hj)
        rw [hu]; unfold Fits; omega)).base (B' := w.heap.size) B1.out.size)
      clear hkk HO
      go_wp2
      go_ret
      exact ⟨_, rfl, by rw [HE.out]; exact hfin.out, B1.out.trans (HK.out.mono B1.out.size)⟩

/-- The plan of who alone, of the first k vertices. -/
def ansP (O Y : List Int) (who : Int) : Nat → List Int
  | 0 => []
  | k + 1 => ansP O Y who k ++ [if nth O k = who then nth Y k else -1]
theorem ansP_len (O Y : List Int) (who : Int) : ∀ k, (ansP O Y who k).length = k
  | 0 => rfl
  | k + 1 => by rw [ansP, List.length_append, ansP_len O Y who k]; rfl
theorem ansP_mem {O Y : List Int} {who x : Int} : ∀ {k : Nat}, x ∈ ansP O Y who k → x = -1 ∨ ∃ j, j < k ∧ x = nth Y j
  | 0, h => by cases h
  | k + 1, h => by
    rw [ansP, List.mem_append] at h
    rcases h with h | h
    · rcases ansP_mem h with h | ⟨j, hj, e⟩
      · exact .inl h
      · exact .inr ⟨j, by omega, e⟩
    · simp only [List.mem_singleton] at h
      by_cases e : nth O k = who
      · rw [if_pos e] at h; exact .inr ⟨k, by omega, h⟩
      · rw [if_neg e] at h; exact .inl h

set_option maxHeartbeats 8000000 in
set_option maxRecDepth 100000 in
theorem l6Part_is {w : World} {v vl : Value} {O P X Y : List Int} {zss : List (List Int)} {who : Int} (hl : Y.length = O.length) (hO : O.length ≤ 1048576) (h : GameAt w v O zss P) (ha : LassoAt w vl X Y) :
    Calls Try.prog 25 #[v, vl, .int .i64 who] w (GivesInts w (ansP O Y who Y.length)) := by
  obtain ⟨i0, hi, hz0, hz1, hz2⟩ := info_parts info_int
  obtain ⟨ao, an, ap, co, cn, cp, A, C, rfl, h1, h2, h3⟩ := h
  obtain ⟨ax, ay, cx, cy, rfl, hX, hY⟩ := ha
  have HOi := Lib.hid h1
  have HYi := Lib.hid hY
  have HL := Lib.hid hl
  have hY1 : Y.length ≤ 1048576 := by omega
  obtain ⟨w1, hw1⟩ : ∃ y, y = (w.alloc (.cells #[.slice ao O.length co, .slice an zss.length cn, .slice ap P.length cp] 43)).alloc (.cells #[.slice ax X.length cx, .slice ay Y.length cy] 27) := ⟨_, rfl⟩
  have HW1 := Lib.hid hw1
  have hs1 : w1.heap.size = w.heap.size + 1 + 1 := by rw [hw1]; simp
  have HS1 := Lib.hid hs1
  have hb1 : Below w.heap.size w w1 := by rw [hw1]; exact below2 _ _ _
  have hT1 : Box3 w1 w.heap.size 43 (.slice ao O.length co) (.slice an zss.length cn) (.slice ap P.length cp) := by
    rw [hw1]; exact (Box3.new w 43 (.slice ao O.length co) (.slice an zss.length cn) (.slice ap P.length cp)).below (below1 _ _)
  have hR1 : Box2 w1 (w.heap.size + 1) 27 (.slice ax X.length cx) (.slice ay Y.length cy) := by rw [hw1]; exact Box2.new_at (by simp) _ _ _
  obtain ⟨w2, hw2⟩ : ∃ y, y = w1.alloc (.cells #[] 2) := ⟨_, rfl⟩
  have HW2 := Lib.hid hw2
  have K2 : Hid (Below w1.heap.size w1 w2) := by rw [hw2]; exact below1 _ _
  have O2 : Hid (w2.ownsRow w1.heap.size 2 1 (.slice (some ⟨w1.heap.size, 0, none⟩) 0 0) (ansP O Y who 0).length ((ansP O Y who 0).map (Value.int .i64))) := by rw [hw2]; exact World.ownsRow_made w1 #[] 0 (Nat.le_refl _) (by unfold maxLen; omega) rfl
  have B1 := Lib.hid hb1
  have T1 := Lib.hid hT1
  have R1 := Lib.hid hR1
  clear hw1 hw2 h1 h2 h3 hX hY hb1 hT1 hR1 hs1 hl
  go_enter Try.func25, Try.ntmps25
  go_wp2
  rw [← HW1.out, ← HS1.out, ← HW2.out]
  go_loopw [7, 8] (fun ov iv wr => ∃ k : Nat, k ≤ Y.length ∧ iv = .int .i64 k ∧ Hid (wr.ownsRow w1.heap.size 2 1 ov (ansP O Y who k).length ((ansP O Y who k).map (Value.int .i64))) ∧ Hid (Below w1.heap.size w1 wr)) (fun _ iv _ => Y.length - (intOf iv).toNat)
  case atStart => exact ⟨0, Nat.zero_le _, rfl, O2, K2⟩
  case round =>
    clear O2 K2
    obtain ⟨k, hk, rfl, HO, HK⟩ := hrel
    have hksz := HK.out.size
    have hll0 := ansP_len O Y who k
    have hll : (ansP O Y who k).length ≤ 1048576 := by omega
    clear hll0
    have Tw := Lib.hid (T1.out.below HK.out)
    have Rw := Lib.hid (R1.out.below HK.out)
    have t0 := Tw.out.c0
    have r1 := Rw.out.cell1
    by_cases hlt : k < Y.length
    · have hi1 : (k : Int) < Y.length := by omega
      have hk0 : (0 : Int) ≤ (k : Int) := by omega
      have hi2 : (k : Int) < O.length := by have := HL.out; omega
      have Bw := Lib.hid (B1.out.trans (HK.out.mono B1.out.size))
      obtain ⟨ob, oo, hoa, hoc⟩ := (HOi.out.below Bw.out).cell (by omega)
      obtain ⟨yb, yo, hya, hyc⟩ := (HYi.out.below Bw.out).cell (by omega)
      have o1 := hoc k (by omega)
      have y1 := hyc k hlt
      obtain ⟨o, ho⟩ : ∃ o, o = nth O k := ⟨_, rfl⟩
      obtain ⟨y, hy⟩ : ∃ y, y = nth Y k := ⟨_, rfl⟩
      have hst : ansP O Y who (k + 1) = ansP O Y who k ++ [if o = who then y else -1] := by rw [ansP, ho, hy]
      rw [← ho] at o1
      rw [← hy] at y1
      subst hoa
      subst hya
      clear hoc hyc ho hy
      by_cases e : o = who
      · have he : (o == who) = true := by simpa using e
        rw [if_pos e] at hst
        have HST := Lib.hid hst
        clear e hst
        go_wp2_with (at_builtin; refine wpList_append_own_at _ rfl _ _ 22 rfl w1.heap.size 2 i0 (.int .i64 0) 1 8 Try.underlying22 hi hz0 hz1 hz2 rfl (by decide) _ _ _ rfl (HO.out.alloc _) ⟨wr.heap.size, 0, none⟩ 1 1 [.int .i64 y] rfl rfl ?c1 ?c2 ?c3 ?c4 ?c5 ?_)
        try (case c1 => exact cell_one_new _ _ _)
        try (case c2 => first | rfl | (intro u hu; simp at hu; subst hu; rfl))
        case c3 => unfold maxLen; omega
        case c4 => omega
        case c5 => first | (simp; omega) | omega
        intro v' w5 hown hgrow _ _
        have hg : Only (fun b => w1.heap.size ≤ b) wr w5 := (Only.of_below (below1 wr _)).trans ((Only.of_grown hgrow).mono fun b hb => (HO.out.lt b hb).1)
        have Kn := Lib.hid (HK.out.trans (hg.below HK.out.size (fun _ h => h)))
        have HOn : Hid (w5.ownsRow w1.heap.size 2 1 v' (ansP O Y who (k + 1)).length ((ansP O Y who (k + 1)).map (Value.int .i64))) := by
          rw [HST.out, List.map_append, List.length_append]; exact hown
        clear hown hgrow hg
        go_wp2
        go_roundw
        case rel => exact ⟨k + 1, by omega, by go_num, HOn, Kn⟩
        case measure => simp [intOf]; omega
      · have he : (o == who) = false := beq_eq_false_iff_ne.2 e
        rw [if_neg e] at hst
        have HST := Lib.hid hst
        clear e hst
        go_wp2_with (at_builtin; refine wpList_append_own_at _ rfl _ _ 22 rfl w1.heap.size 2 i0 (.int .i64 0) 1 8 Try.underlying22 hi hz0 hz1 hz2 rfl (by decide) _ _ _ rfl (HO.out.alloc _) ⟨wr.heap.size, 0, none⟩ 1 1 [.int .i64 (-1)] rfl rfl ?c1 ?c2 ?c3 ?c4 ?c5 ?_)
        try (case c1 => exact cell_one_new _ _ _)
        try (case c2 => first | rfl | (intro u hu; simp at hu; subst hu; rfl))
        case c3 => unfold maxLen; omega
        case c4 => omega
        case c5 => first | (simp; omega) | omega
        intro v' w5 hown hgrow _ _
        have hg : Only (fun b => w1.heap.size ≤ b) wr w5 := (Only.of_below (below1 wr _)).trans ((Only.of_grown hgrow).mono fun b hb => (HO.out.lt b hb).1)
        have Kn := Lib.hid (HK.out.trans (hg.below HK.out.size (fun _ h => h)))
        have HOn : Hid (w5.ownsRow w1.heap.size 2 1 v' (ansP O Y who (k + 1)).length ((ansP O Y who (k + 1)).map (Value.int .i64))) := by
          rw [HST.out, List.map_append, List.length_append]; exact hown
        clear hown hgrow hg
        go_wp2
        go_roundw
        case rel => exact ⟨k + 1, by omega, by go_num, HOn, Kn⟩
        case measure => simp [intOf]; omega
    · have hi1 : ¬ (k : Int) < Y.length := by omega
      have hkk : k = Y.length := by omega
      rw [hkk] at HO
      have hfin := Lib.hid ((OwnInts.mk' HO.out (by rw [ansP_len]; omega) (fun j hj => by
        rcases ansP_mem (nth_mem hj) with h | ⟨i, hi, h⟩
        · rw [h]; unfold Fits; omega
        · rw [h]; exact HYi.out.fits i hi)).base (B' := w.heap.size) B1.out.size)
      clear hkk HO
      go_wp2
      go_ret
      exact ⟨_, rfl, hfin.out, B1.out.trans (HK.out.mono B1.out.size)⟩

end Go.Proofs.Ytokcinhopajniaa
