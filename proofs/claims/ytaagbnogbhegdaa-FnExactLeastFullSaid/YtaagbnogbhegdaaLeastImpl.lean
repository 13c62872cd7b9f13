/-
  Contract of chapter 5: the program's LeastFull.
-/
import Derived.Test.YtaagbnogbhegdaaPlanImpl
import Derived.Test.YtaagbnogbhegdaaLeastSpec
import Derived.Test.YtaagbnogbhegdaaRepeat
import Derived.RangeFuncBox
namespace Go.Proofs.Ytaagbnogbhegdaa
open Go.RowKit

def leastI (O : List Int) (zss : List (List Int)) (who : Int) (u : Nat) : Int := if nth O u = who then nth (row zss u) 0 else -1
/-- The plan while the first k vertices have been read. -/
def leastF (O : List Int) (zss : List (List Int)) (who : Int) (k u : Nat) : Int := if u < k then leastI O zss who u else -1
theorem leastF_put {O : List Int} {zss : List (List Int)} {who : Int} {k : Nat} (h : nth O k = who) (i : Nat) : (if i = k then nth (row zss k) 0 else leastF O zss who k i) = leastF O zss who (k + 1) i := by
  unfold leastF
  by_cases e : i = k
  · subst e; rw [if_pos rfl, if_pos (by omega)]; unfold leastI; rw [if_pos h]
  · rw [if_neg e]
    by_cases hl : i < k
    · rw [if_pos hl, if_pos (by omega)]
    · rw [if_neg hl, if_neg (by omega)]
theorem leastF_same {O : List Int} {zss : List (List Int)} {who : Int} {k : Nat} (h : nth O k ≠ who) (i : Nat) : leastF O zss who k i = leastF O zss who (k + 1) i := by
  unfold leastF
  by_cases e : i = k
  · subst e; rw [if_neg (by omega), if_pos (by omega)]; unfold leastI; rw [if_neg h]
  · by_cases hl : i < k
    · rw [if_pos hl, if_pos (by omega)]
    · rw [if_neg hl, if_neg (by omega)]
theorem leastK_fn {O : List Int} {zss : List (List Int)} {who : Int} : ∀ n k, k ≤ n → leastK O zss who k = fnL k (leastF O zss who n)
  | _, 0, _ => rfl
  | n, k + 1, h => by
    have hk : k < n := by omega
    rw [leastK, fnL_succ, leastK_fn n k (by omega)]
    unfold leastF
    simp only [hk, if_true]
    rfl

set_option maxHeartbeats 8000000 in
set_option maxRecDepth 100000 in
theorem LeastFull_is {w : World} {va : Value} {O r : List Int} {zss : List (List Int)} {who : Int} (hr : leastV O zss who = r) (h : ArenaAt w va O zss) :
    Calls Try.prog 61 #[va, .int .i64 who] w (GivesInts w r) := by
  have HAt := Lib.hid h
  obtain ⟨ao, an, co, cn, A, C, rfl, h1, h2⟩ := h
  have hlO := h1.len
  have hlZ := h2.len
  have HOi := Lib.hid h1
  have HNi := Lib.hid h2
  have BW := Lib.hid (below1 w (.cells #[.slice ao O.length co, .slice an zss.length cn] 27))
  have bW := Lib.hid (Box2.new w 27 (.slice ao O.length co) (.slice an zss.length cn))
  clear h1 h2
  obtain ⟨b, hb⟩ : ∃ b, (arenaB O zss && inB who 0 1) = b := ⟨_, rfl⟩
  have HC := Lib.hid (asked_none hb (HAt.out.below BW.out))
  cases b with
  | false =>
    have HE : Hid (r = []) := by
      rw [← hr]; unfold leastV
      cases hA : arenaB O zss <;> cases hw : inB who 0 1 <;> simp [hA, hw, Hid] at hb ⊢
    clear hr hb
    go_enter Try.func61, Try.ntmps61
    go_wp2_with fail
    refine HC.out.mono ?_
    rintro e w1 ⟨rfl, hb⟩
    have B1 := Lib.hid (BW.out.trans (hb.mono BW.out.size))
    clear hb
    go_wp2
    go_ret
    exact ⟨_, rfl, by rw [HE.out]; exact OwnInts.nil _ _ _, B1.out⟩
  | true =>
    have hb2 : arenaB O zss = true ∧ inB who 0 1 = true := by simpa using hb
    have HE : Hid (fnL O.length (leastF O zss who O.length) = r) := by
      rw [← hr]; unfold leastV
      rw [if_pos hb2]
      exact (leastK_fn _ _ (Nat.le_refl _)).symm
    have HAP := Lib.hid (arenaB_iff.1 hb2.1)
    have hO0 : 0 < O.length := by have := HAP.out.1; omega
    have hO256 : O.length ≤ 256 := HAP.out.2.1
    have HZO := Lib.hid HAP.out.2.2.1
    clear hr hb hb2
    go_enter Try.func61, Try.ntmps61
    go_wp2_with fail
    refine HC.out.mono ?_
    rintro e w1 ⟨rfl, hb⟩
    have hb' : Below (w.alloc (.cells #[.slice ao O.length co, .slice an zss.length cn] 27)).heap.size (w.alloc (.cells #[.slice ao O.length co, .slice an zss.length cn] 27)) w1 := hb
    have B1 := Lib.hid (BW.out.trans (hb.mono BW.out.size))
    have b1 := Lib.hid (bW.out.below hb')
    clear hb hb'
    obtain ⟨w2, hw2⟩ : ∃ y, y = w1.alloc (.cells #[.int .i64 (-1)] 2) := ⟨_, rfl⟩
    have HW2 := Lib.hid hw2
    have B2 : Hid (Below w.heap.size w w2) := by rw [hw2]; exact B1.out.alloc B1.out.size _
    have b2 : Hid (Box2 w2 w.heap.size 27 (.slice ao O.length co) (.slice an zss.length cn)) := by rw [hw2]; exact b1.out.alloc _
    have hc2 : w2.cell? ⟨w1.heap.size, 0, none⟩ = some (.int .i64 (-1)) := by rw [hw2]; exact (Boxed.new w1 2 (.int .i64 (-1))).cell
    have HRP := Lib.hid (Repeat_is (cap := 1) hO0 hO256 (by unfold Fits; omega) hc2)
    have c0 := (b1.out.alloc (.cells #[.int .i64 (-1)] 2)).cell0
    clear hc2 hw2
    go_wp2_with fail
    rw [← HW2.out]
    refine HRP.out.mono ?_
    rintro e w3 ⟨g, rfl, hf, hb⟩
    have F3 : Hid (OwnF w3 w.heap.size g O.length O.length (leastF O zss who 0)) := OwnF.congr (f := fun _ => -1) (OwnInts.base hf B2.out.size) fun i _ => by simp [leastF]
    have HG := Lib.hid hf.lt
    have B3 := Lib.hid (B2.out.trans (hb.mono B2.out.size))
    have b3 := Lib.hid (b2.out.below hb)
    have HS2 := Lib.hid (World.size_alloc w1 (.cells #[.int .i64 (-1)] 2))
    have HG1 : Hid (w.heap.size < g) := by have h1 := HG.out.1; have h2 := HS2.out; rw [← HW2.out] at h2; have h3 := B1.out.size; unfold Hid; omega
    have HG0 : Hid (w.heap.size ≤ g) := by have := HG1.out; unfold Hid; omega
    have c1 := b3.out.cell1
    clear hf hb c0
    go_wp2
    clear c1
    go_loopw [20] (fun iv wr => ∃ k : Nat, k ≤ zss.length ∧ iv = .int .i64 k ∧ Hid (OwnF wr w.heap.size g O.length O.length (leastF O zss who k)) ∧ Hid (Only (fun b => b = g) w3 wr)) (fun iv _ => zss.length - (intOf iv).toNat)
    case atStart => exact ⟨0, Nat.zero_le _, rfl, F3, Only.refl _ _⟩
    case round =>
      clear F3
      obtain ⟨k, hk, rfl, HF, HO⟩ := hrel
      by_cases hlt : k < zss.length
      · have hi1 : (k : Int) < zss.length := by omega
        have hko : k < O.length := by have := HZO.out; omega
        have hi2 : (k : Int) < O.length := by omega
        have hk0 : (0 : Int) ≤ (k : Int) := by omega
        have Bw := Lib.hid (B3.out.trans (HO.out.below (B := w.heap.size) B3.out.size (fun b hb => by have := HG0.out; omega)))
        have bw := Lib.hid (b3.out.only HO.out (by have := HG1.out; omega))
        obtain ⟨ob, oo, hoa, hoc⟩ := (HOi.out.below Bw.out).cell (by omega)
        obtain ⟨nb, no, hna, hnc⟩ := (HNi.out.below Bw.out).cell (by omega)
        have o1 := hoc k hko
        have n1 := hnc k hlt
        obtain ⟨rb, ro, hra, hrc⟩ := ((HNi.out.below Bw.out).rows k hlt).cell (by have := (HAP.out.2.2.2 k hko).2.1; omega)
        have r1 := hrc 0 (by have := (HAP.out.2.2.2 k hko).2.1; omega)
        rw [Nat.add_zero] at r1
        have hrl : (0 : Int) < ((row zss k).length : Int) := by have := (HAP.out.2.2.2 k hko).2.1; omega
        have hrf : Fits (nth (row zss k) 0) := ((HNi.out.below Bw.out).rows k hlt).fits 0 (by omega)
        rw [hra] at n1
        obtain ⟨o, ho⟩ : ∃ o, o = nth O k := ⟨_, rfl⟩
        obtain ⟨z, hz⟩ : ∃ z, z = nth (row zss k) 0 := ⟨_, rfl⟩
        have t0 := bw.out.cell0
        have fc := HF.out.frozen k
        have HO' := Lib.hid ho
        rw [← ho] at o1
        rw [← hz] at r1 hrf
        by_cases e2 : o = who
        · have ho1 : (o == who) = true := by simpa using e2
          have HN : Hid (OwnF (wr.setCell ⟨g, k, none⟩ (.int .i64 z)) w.heap.size g O.length O.length (leastF O zss who (k + 1))) :=
            (HF.out.put (u := k) (x := z) hrf).congr fun i _ => by rw [hz]; exact leastF_put (by rw [← HO'.out]; exact e2) i
          have HOn : Hid (Only (fun b => b = g) w3 (wr.setCell ⟨g, k, none⟩ (.int .i64 z))) := HO.out.setCell (p := ⟨g, k, none⟩) rfl _
          have fcl := HF.out.cell hko
          subst hoa
          subst hna
          clear e2 hoc hnc hrc ho hz hra hrf
          go_wp2
          clear t0 fc fcl o1 n1 r1
          go_roundw
          case rel => exact ⟨k + 1, by omega, by go_num, HN, HOn⟩
          case measure => simp [intOf]; omega
        · have ho1 : (o == who) = false := beq_eq_false_iff_ne.2 e2
          have HN : Hid (OwnF wr w.heap.size g O.length O.length (leastF O zss who (k + 1))) := HF.out.congr fun i _ => leastF_same (by rw [← HO'.out]; exact e2) i
          subst hoa
          subst hna
          clear e2 hoc hnc hrc ho hz hra hrf
          go_wp2
          clear t0 fc o1 n1 r1
          go_roundw
          case rel => exact ⟨k + 1, by omega, by go_num, HN, HO⟩
          case measure => simp [intOf]; omega
      · have hi1 : ¬ (k : Int) < zss.length := by omega
        have hkk : k = O.length := by have := HZO.out; omega
        have Bw := Lib.hid (B3.out.trans (HO.out.below (B := w.heap.size) B3.out.size (fun b hb => by have := HG0.out; omega)))
        rw [hkk] at HF
        have HFin : Hid (OwnInts wr w.heap.size wr.heap.size (.slice (some ⟨g, 0, none⟩) O.length O.length) r) := by rw [← HE.out]; exact HF.out
        clear hkk HF
        go_wp2
        go_ret
        exact ⟨_, rfl, HFin.out, Bw.out⟩

end Go.Proofs.Ytaagbnogbhegdaa
