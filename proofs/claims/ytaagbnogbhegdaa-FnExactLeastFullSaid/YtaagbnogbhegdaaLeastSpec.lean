/-
  Contract of chapter 5: the model's LeastFull.
-/
import Derived.Test.YtaagbnogbhegdaaPlanSpec
import Derived.Test.YtaagbnogbhegdaaWalks1
namespace Go.Proofs.Ytaagbnogbhegdaa
open Go.RowKit

/-- The smallest successor of each of the first k vertices of who, -1 for the others. -/
def leastK (O : List Int) (zss : List (List Int)) (who : Int) : Nat → List Int
  | 0 => []
  | k + 1 => leastK O zss who k ++ [if nth O k = who then nth (row zss k) 0 else -1]
theorem leastK_len (O : List Int) (zss : List (List Int)) (who : Int) : ∀ k, (leastK O zss who k).length = k
  | 0 => rfl
  | k + 1 => by rw [leastK, List.length_append, leastK_len O zss who k]; rfl
theorem leastK_nth {O : List Int} {zss : List (List Int)} {who : Int} : ∀ {n k : Nat}, k < n → nth (leastK O zss who n) k = if nth O k = who then nth (row zss k) 0 else -1
  | 0, _, h => absurd h (Nat.not_lt_zero _)
  | n + 1, k, h => by
    rw [leastK]
    by_cases e : k = n
    · subst e
      have hl := leastK_len O zss who k
      simp [nth, hl]
    · have hl := leastK_len O zss who n
      rw [show nth (leastK O zss who n ++ [if nth O n = who then nth (row zss n) 0 else -1]) k = nth (leastK O zss who n) k from by simp [nth, List.getElem?_append_left (show k < (leastK O zss who n).length by omega)]]
      exact leastK_nth (by omega)
/-- What LeastFull gives. -/
noncomputable def leastV (O : List Int) (zss : List (List Int)) (who : Int) : List Int := if arenaB O zss = true ∧ inB who 0 1 = true then leastK O zss who O.length else []
theorem leastK_mem {O : List Int} {zss : List (List Int)} {who : Int} (h : ArenaP O zss) : ∀ k, k ≤ O.length → ∀ x ∈ leastK O zss who k, -1 ≤ x ∧ x < O.length
  | 0, _, x, hx => by cases hx
  | k + 1, hk, x, hx => by
    rw [leastK, List.mem_append] at hx
    rcases hx with hx | hx
    · exact leastK_mem h k (by omega) x hx
    · simp only [List.mem_singleton] at hx
      obtain ⟨_, h2, _, h4⟩ := h.2.2.2 k (by omega)
      obtain ⟨h5, h6, _⟩ := setB_bounds h4 (k := 0) (by omega)
      rw [hx]
      split <;> omega

set_option maxHeartbeats 8000000 in
set_option maxRecDepth 100000 in
theorem specLeastFull_is {w : World} {va : Value} {O r : List Int} {zss : List (List Int)} {who : Int} (hr : leastV O zss who = r) (h : ArenaAt w va O zss) :
    Calls Try.prog 60 #[va, .int .i64 who] w (GivesInts w r) := by
  obtain ⟨i0, hi, hz0, hz1, hz2⟩ := info_parts info_int
  have HAt := Lib.hid h
  obtain ⟨ao, an, co, cn, A, C, rfl, h1, h2⟩ := h
  have hlO := h1.len
  have HOi := Lib.hid h1
  have HNi := Lib.hid h2
  obtain ⟨w1, hw1⟩ : ∃ y, y = w.alloc (.cells #[.slice ao O.length co, .slice an zss.length cn] 27) := ⟨_, rfl⟩
  have HW1 := Lib.hid hw1
  have hs1 : w1.heap.size = w.heap.size + 1 := by rw [hw1]; simp
  have HS1 := Lib.hid hs1
  have hb1 : Below w.heap.size w w1 := by rw [hw1]; exact below1 _ _
  have hT1 : Box2 w1 w.heap.size 27 (.slice ao O.length co) (.slice an zss.length cn) := by rw [hw1]; exact Box2.new _ _ _ _
  obtain ⟨w2, hw2⟩ : ∃ y, y = w1.alloc (.cells #[] 2) := ⟨_, rfl⟩
  have HW2 := Lib.hid hw2
  have K2 : Hid (Below w1.heap.size w1 w2) := by rw [hw2]; exact below1 _ _
  have O2 : Hid (w2.ownsRow w1.heap.size 2 1 (.slice (some ⟨w1.heap.size, 0, none⟩) 0 0) ([] : List Int).length (([] : List Int).map (Value.int .i64))) := by rw [hw2]; exact World.ownsRow_made w1 #[] 0 (Nat.le_refl _) (by unfold maxLen; omega) rfl
  have B1 := Lib.hid hb1
  have B2 := Lib.hid (hb1.trans (K2.out.mono hb1.size))
  have T2 := Lib.hid (hT1.below K2.out)
  clear hw1 hw2 h1 h2 hb1 hT1 hs1
  cases hA : arenaB O zss with
  | false =>
    have HE : Hid (r = []) := by rw [← hr]; unfold leastV; rw [hA]; simp [Hid]
    have HC := Lib.hid (specArenaOk_at hA (HAt.out.below B2.out))
    clear hr hA
    go_enter Try.func60, Try.ntmps60
    go_wp2_with fail
    rw [← HW1.out, ← HS1.out, ← HW2.out]
    refine HC.out.mono ?_
    rintro e w3 ⟨rfl, hb⟩
    have K3 := Lib.hid (K2.out.trans (hb.mono K2.out.size))
    have O3 := Lib.hid (ownsRow_only O2.out (S := fun _ => False) (Only.of_below hb) (fun _ _ h => h))
    clear hb HC
    go_wp2
    go_ret
    refine ⟨_, rfl, ?_, B1.out.trans (K3.out.mono B1.out.size)⟩
    rw [HE.out]
    exact (OwnInts.mk' O3.out (by simp) (fun k hk => absurd hk (by simp))).base B1.out.size
  | true =>
    have HC := Lib.hid (specArenaOk_at hA (HAt.out.below B2.out))
    have HAP := Lib.hid (arenaB_iff.1 hA)
    cases hw : inB who 0 1 with
    | false =>
      have HE : Hid (r = []) := by rw [← hr]; unfold leastV; rw [hw]; simp [Hid]
      have HI := Lib.hid (fun W => l1In_is hw W)
      clear hr hA hw
      go_enter Try.func60, Try.ntmps60
      go_wp2_with fail
      rw [← HW1.out, ← HS1.out, ← HW2.out]
      refine HC.out.mono ?_
      rintro e w3 ⟨rfl, hb⟩
      have K3 := Lib.hid (K2.out.trans (hb.mono K2.out.size))
      have O3 := Lib.hid (ownsRow_only O2.out (S := fun _ => False) (Only.of_below hb) (fun _ _ h => h))
      clear hb HC
      go_wp2_with fail
      refine (HI.out _).mono ?_
      rintro e w4 ⟨rfl, rfl⟩
      go_wp2
      go_ret
      refine ⟨_, rfl, ?_, B1.out.trans (K3.out.mono B1.out.size)⟩
      rw [HE.out]
      exact (OwnInts.mk' O3.out (by simp) (fun k hk => absurd hk (by simp))).base B1.out.size
    | true =>
      have HE : Hid (r = leastK O zss who O.length) := by rw [← hr]; unfold leastV; rw [hA, hw]; simp [Hid]
      have HI := Lib.hid (fun W => l1In_is hw W)
      have hO256 : O.length ≤ 256 := HAP.out.2.1
      clear hr hA hw
      go_enter Try.func60, Try.ntmps60
      go_wp2_with fail
      rw [← HW1.out, ← HS1.out, ← HW2.out]
      refine HC.out.mono ?_
      rintro e w3 ⟨rfl, hb⟩
      have K3 := Lib.hid (K2.out.trans (hb.mono K2.out.size))
      have O3 := Lib.hid (ownsRow_only O2.out (S := fun _ => False) (Only.of_below hb) (fun _ _ h => h))
      have T3 := Lib.hid (T2.out.below hb)
      clear hb HC K2 O2 T2 B2
      go_wp2_with fail
      refine (HI.out _).mono ?_
      rintro e w4 ⟨rfl, rfl⟩
      go_wp2
      go_loopw [5, 6] (fun ov iv wr => ∃ k : Nat, k ≤ O.length ∧ iv = .int .i64 k ∧ Hid (wr.ownsRow w1.heap.size 2 1 ov (leastK O zss who k).length ((leastK O zss who k).map (Value.int .i64))) ∧ Hid (Below w1.heap.size w1 wr) ∧ Hid (Box2 wr w.heap.size 27 (.slice ao O.length co) (.slice an zss.length cn))) (fun _ iv _ => O.length - (intOf iv).toNat)
      case atStart => exact ⟨0, Nat.zero_le _, rfl, O3, K3, T3⟩
      case round =>
        clear O3 K3 T3
        obtain ⟨k, hk, rfl, HO, HK, HT⟩ := hrel
        have hll := leastK_len O zss who k
        have HLL := Lib.hid hll
        have hll2 : (leastK O zss who k).length ≤ 256 := by omega
        clear hll
        have t0 := HT.out.cell0
        have t1 := HT.out.cell1
        have hksz := HK.out.size
        by_cases hlt : k < O.length
        · have hi1 : (k : Int) < O.length := by omega
          have hk0 : (0 : Int) ≤ (k : Int) := by omega
          have hkz : k < zss.length := by have := HAP.out.2.2.1; omega
          have hi2 : (k : Int) < zss.length := by omega
          have Bw := Lib.hid (B1.out.trans (HK.out.mono B1.out.size))
          obtain ⟨ob, oo, hoa, hoc⟩ := (HOi.out.below Bw.out).cell (by omega)
          obtain ⟨nb, no, hna, hnc⟩ := (HNi.out.below Bw.out).cell (by omega)
          have o1 := hoc k hlt
          have n1 := hnc k hkz
          obtain ⟨rb, ro, hra, hrc⟩ := ((HNi.out.below Bw.out).rows k hkz).cell (by have := (HAP.out.2.2.2 k hlt).2.1; omega)
          have r1 := hrc 0 (by have := (HAP.out.2.2.2 k hlt).2.1; omega)
          rw [Nat.add_zero] at r1
          have hrl : (0 : Int) < ((row zss k).length : Int) := by have := (HAP.out.2.2.2 k hlt).2.1; omega
          rw [hra] at n1
          obtain ⟨o, ho⟩ : ∃ o, o = nth O k := ⟨_, rfl⟩
          obtain ⟨z, hz⟩ : ∃ z, z = nth (row zss k) 0 := ⟨_, rfl⟩
          have hst : leastK O zss who (k + 1) = leastK O zss who k ++ [if o = who then z else -1] := by rw [leastK, ho, hz]
          rw [← ho] at o1
          rw [← hz] at r1
          subst hoa
          subst hna
          clear hoc hnc hrc ho hz hra
          by_cases e2 : o = who
          · have ho1 : (o == who) = true := by simpa using e2
            rw [if_pos e2] at hst
            have HST := Lib.hid hst
            clear e2 hst
            go_wp2_with (at_builtin; refine wpList_append_own_at _ rfl _ _ 24 rfl w1.heap.size 2 i0 (.int .i64 0) 1 8 Try.underlying24 hi hz0 hz1 hz2 rfl (by decide) _ _ _ rfl (HO.out.alloc _) ⟨wr.heap.size, 0, none⟩ 1 1 [.int .i64 z] rfl rfl ?c1 ?c2 ?c3 ?c4 ?c5 ?_)
            try (case c1 => exact cell_one_new _ _ _)
            try (case c2 => first | rfl | (intro u hu; simp at hu; subst hu; rfl))
            case c3 => unfold maxLen; omega
            case c4 => omega
            case c5 => simp; omega
            intro v' w5 hown hgrow _ _
            have hg : Only (fun b => w1.heap.size ≤ b) wr w5 := (Only.of_below (below1 wr _)).trans ((Only.of_grown hgrow).mono fun b hb => (HO.out.lt b hb).1)
            have Kn := Lib.hid (HK.out.trans (hg.below HK.out.size (fun _ h => h)))
            have Tn := Lib.hid (HT.out.only hg (by have := HS1.out; omega))
            have HOn : Hid (w5.ownsRow w1.heap.size 2 1 v' (leastK O zss who (k + 1)).length ((leastK O zss who (k + 1)).map (Value.int .i64))) := by
              rw [HST.out, List.map_append, List.length_append]; exact hown
            clear hown hgrow hg
            go_wp2
            go_roundw
            case rel => exact ⟨k + 1, by omega, by go_num, HOn, Kn, Tn⟩
            case measure => simp [intOf]; omega
          · have ho1 : (o == who) = false := beq_eq_false_iff_ne.2 e2
            rw [if_neg e2] at hst
            have HST := Lib.hid hst
            clear e2 hst
            go_wp2_with (at_builtin; refine wpList_append_own_at _ rfl _ _ 24 rfl w1.heap.size 2 i0 (.int .i64 0) 1 8 Try.underlying24 hi hz0 hz1 hz2 rfl (by decide) _ _ _ rfl (HO.out.alloc _) ⟨wr.heap.size, 0, none⟩ 1 1 [.int .i64 (-1)] rfl rfl ?c1 ?c2 ?c3 ?c4 ?c5 ?_)
            try (case c1 => exact cell_one_new _ _ _)
            try (case c2 => first | rfl | (intro u hu; simp at hu; subst hu; rfl))
            case c3 => unfold maxLen; omega
            case c4 => omega
            case c5 => simp; omega
            intro v' w5 hown hgrow _ _
            have hg : Only (fun b => w1.heap.size ≤ b) wr w5 := (Only.of_below (below1 wr _)).trans ((Only.of_grown hgrow).mono fun b hb => (HO.out.lt b hb).1)
            have Kn := Lib.hid (HK.out.trans (hg.below HK.out.size (fun _ h => h)))
            have Tn := Lib.hid (HT.out.only hg (by have := HS1.out; omega))
            have HOn : Hid (w5.ownsRow w1.heap.size 2 1 v' (leastK O zss who (k + 1)).length ((leastK O zss who (k + 1)).map (Value.int .i64))) := by
              rw [HST.out, List.map_append, List.length_append]; exact hown
            clear hown hgrow hg
            go_wp2
            go_roundw
            case rel => exact ⟨k + 1, by omega, by go_num, HOn, Kn, Tn⟩
            case measure => simp [intOf]; omega
        · have hi1 : ¬ (k : Int) < O.length := by omega
          have hkk : k = O.length := by omega
          rw [hkk] at HO
          have hfin := Lib.hid ((OwnInts.mk' HO.out (by rw [leastK_len]; omega) (fun j hj => by
            have hm := leastK_mem HAP.out O.length (Nat.le_refl _) _ (nth_mem hj)
            unfold Fits; omega)).base (B' := w.heap.size) B1.out.size)
          clear hkk HO
          go_wp2
          go_ret
          exact ⟨_, rfl, by rw [HE.out]; exact hfin.out, B1.out.trans (HK.out.mono B1.out.size)⟩

end Go.Proofs.Ytaagbnogbhegdaa
