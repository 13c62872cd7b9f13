/-
  Contract: slices.Repeat at one number.
-/
import Derived.Shelf.Bits.Mul64
import Derived.Deep.RegionHeld3
import Derived.Laws.CopyOwn
import Derived.Laws.OwnMore
import Derived.Test.YtaagbnogbhegdaaLayers
namespace Go.Proofs.Ytaagbnogbhegdaa
open Go.RowKit

set_option maxHeartbeats 1000000 in
theorem Mul64_is (x y : Nat) (hx : x < 18446744073709551616) (hy : y < 18446744073709551616) (w : World) :
    Calls Try.prog 162 #[.int .u64 x, .int .u64 y] w fun e w' => e = .returned (.tuple #[.int .u64 ((x * y / 18446744073709551616 : Nat) : Int), .int .u64 ((x * y % 18446744073709551616 : Nat) : Int)]) ∧ w' = w := by
  obtain ⟨bd, bt, bw, hhi⟩ := Lib.mul64_hi x y hx hy
  have ba := Lib.half_mul_le (a := x / 4294967296) (b := y / 4294967296) (by omega) (by omega)
  have bb := Lib.half_mul_le (a := x / 4294967296) (b := y % 4294967296) (by omega) (by omega)
  have bc := Lib.half_mul_le (a := x % 4294967296) (b := y / 4294967296) (by omega) (by omega)
  have ba' : x / 4294967296 * (y / 4294967296) < 18446744073709551616 := by omega
  have bb' : x / 4294967296 * (y % 4294967296) < 18446744073709551616 := by omega
  have bc' : x % 4294967296 * (y / 4294967296) < 18446744073709551616 := by omega
  have bh1 : x / 4294967296 * (y / 4294967296) + (x / 4294967296 * (y % 4294967296) + x % 4294967296 * (y % 4294967296) / 4294967296) / 4294967296 < 18446744073709551616 := by omega
  have bh : x / 4294967296 * (y / 4294967296) + (x / 4294967296 * (y % 4294967296) + x % 4294967296 * (y % 4294967296) / 4294967296) / 4294967296 + ((x / 4294967296 * (y % 4294967296) + x % 4294967296 * (y % 4294967296) / 4294967296) % 4294967296 + x % 4294967296 * (y / 4294967296)) / 4294967296 < 18446744073709551616 := by omega
  go_enter Try.func162, Try.ntmps162
  go_wp2
  simp only [Mul64.maskN x hx, Mul64.maskN y hy, Mul64.divN, Mul64.mulN, Mul64.addN, Mul64.wrapN _ bd, Mul64.wrapN _ bb', Mul64.wrapN _ bt, Mul64.maskN _ bt, Mul64.wrapN _ bc', Mul64.wrapN _ bw, Mul64.wrapN _ ba', Mul64.wrapN _ bh1, Mul64.wrapN _ bh, Mul64.wrapM (x * y)]
  rw [hhi]
  go_ret2
  exact ⟨rfl, rfl⟩

set_option maxHeartbeats 1000000 in
theorem Mul_is (n : Nat) (hn : n ≤ 1048576) (w : World) :
    Calls Try.prog 136 #[.int .u64 1, .int .u64 n] w fun e w' => e = .returned (.tuple #[.int .u64 0, .int .u64 n]) ∧ w = w' := by
  have h := Mul64_is 1 n (by omega) (by omega) w
  rw [Nat.one_mul, show n / 18446744073709551616 = 0 by omega, show n % 18446744073709551616 = n by omega] at h
  have H := Lib.hid h
  clear h
  go_enter Try.func136, Try.ntmps136
  go_wp2_with (go_at_call 162; refine H.out.mono ?_; rintro e w' ⟨rfl, rfl⟩)
  go_ret2
  exact ⟨rfl, rfl⟩

/-- n numbers, the first k of them x. -/
def repL (x : Int) (n k : Nat) : List Value := List.replicate k (.int .i64 x) ++ List.replicate (n - k) (.int .i64 0)
theorem repL_len {x : Int} {n k : Nat} (h : k ≤ n) : (repL x n k).length = n := by simp [repL]; omega
theorem repL_splice {x : Int} {n k m : Nat} (h : k + m ≤ n) : splice (repL x n k) k (List.replicate m (.int .i64 x)) = repL x n (k + m) := by
  unfold splice repL
  rw [List.take_append_of_le_length (by simp), List.take_of_length_le (by simp), List.drop_append, List.drop_of_length_le (by simp), List.nil_append, List.length_replicate, List.length_replicate, List.drop_replicate, ← List.append_assoc, List.replicate_append_replicate]
  congr 2
  omega
theorem repL_at {x : Int} {n k j : Nat} (h : j < k) : (repL x n k)[j]? = some (.int .i64 x) := by
  unfold repL
  rw [List.getElem?_append_left (by simpa using h), List.getElem?_replicate]
  simp [h]
theorem rep_cell {w : World} {g : Nat} {x : Int} {n k j : Nat} (hg : w.heap[g]? = some (.cells (repL x n k).toArray 2 (0, 0))) (h : j < k) : w.cell? ⟨g, j, none⟩ = some (.int .i64 x) := by
  have h1 := repL_at (x := x) (n := n) h
  simp only [World.cell?, hg]
  simpa using h1

theorem made_is (n : Nat) : madeCells #[.int .i64 0] n = (List.replicate n (Value.int .i64 0)).toArray := by
  apply Array.ext'
  rw [toList_madeCells_one]

set_option maxHeartbeats 4000000 in
set_option maxRecDepth 100000 in
theorem Repeat_is {w : World} {g0 off0 cap n : Nat} {x : Int} (hn0 : 0 < n) (hn : n ≤ 256) (hx : Fits x) (hc : w.cell? ⟨g0, off0, none⟩ = some (.int .i64 x)) :
    Calls Try.prog 114 #[.slice (some ⟨g0, off0, none⟩) 1 cap, .int .i64 n] w fun e w' => ∃ g, e = .returned (.slice (some ⟨g, 0, none⟩) n n) ∧ OwnF w' w.heap.size g n n (fun _ => x) ∧ Below w.heap.size w w' := by
  have HM := Lib.hid (Mul_is n (by omega) w)
  have hmk := run_make_row' (P := Try.prog) 24 2 (.int .i64 0) 8 Try.underlying24 info_int rfl .i64 .i64 n (by omega) (by omega)
  obtain ⟨w1, hw1⟩ : ∃ y, y = w.alloc (.cells (madeCells #[.int .i64 0] n) 2) := ⟨_, rfl⟩
  have HW1 := Lib.hid hw1
  have hg1 : w1.heap[w.heap.size]? = some (.cells (repL x n 0).toArray 2 (0, 0)) := by
    rw [hw1, heap_alloc_new, made_is]
    simp [repL]
  have hb1 : Below w.heap.size w w1 := by rw [hw1]; exact below1 _ _
  have hc1 : w1.cell? ⟨g0, off0, none⟩ = some (.int .i64 x) := (hb1.cell (World.block_lt_of_cell? _ _ hc)).trans hc
  have HG1 := Lib.hid hg1
  have HB1 := Lib.hid hb1
  have HC1 := Lib.hid hc1
  clear hw1 hg1 hb1 hc1 hc
  have hn1 : (0 : Int) ≤ (n : Int) := by omega
  go_enter Try.func114, Try.ntmps114
  go_wp2_with (first
    | (go_at_call 136; refine HM.out.mono ?_; rintro e w' ⟨rfl, rfl⟩)
    | (with_reducible refine wpList_copy_splice (o := ⟨some 33, _, _, _, _, _⟩) rfl (.tmp 31) (.tmp 32) 24 24 rfl 2 Try.underlying24 ?s1 _ _ _ _ _ _ rfl rfl w.heap.size 0 (repL x n 0) 2 ?s2 [.int .i64 x] ?s3 ?s4 ?s5 ?s6 w.heap.size w ?s7 ?s8 ?_))
  case s1 => kernel_rfl
  case s2 => rw [← HW1.out]; exact HG1.out
  case s3 => exact (Nat.min_eq_left hn0).symm
  case s4 =>
    intro j v hj
    cases j with
    | zero =>
      simp at hj
      subst hj
      rw [← HW1.out]
      exact HC1.out
    | succ j => simp at hj
  case s5 => rw [repL_len (Nat.zero_le _)]; simp; omega
  case s6 => intro v hv; simp at hv; subst hv; rfl
  case s7 => rw [← HW1.out]; exact HB1.out
  case s8 => exact Nat.le_refl _
  intro w2 HG2 hB2
  have HB2 := Lib.hid hB2
  have HG3 : Hid (w2.heap[w.heap.size]? = some (.cells (repL x n 1).toArray 2 (0, 0))) := by
    have h := HG2.out
    rw [show [Value.int .i64 x] = List.replicate 1 (.int .i64 x) from rfl, repL_splice (by omega)] at h
    exact h
  clear HG2 hB2
  go_wp2
  go_loopw [8] (fun kv wr => ∃ k : Nat, 1 ≤ k ∧ k ≤ n ∧ kv = .int .i64 k ∧ Hid (wr.heap[w.heap.size]? = some (.cells (repL x n k).toArray 2 (0, 0))) ∧ Hid (Below w.heap.size w wr)) (fun kv _ => n - (intOf kv).toNat)
  case atStart => exact ⟨1, Nat.le_refl _, hn0, rfl, HG3, HB2⟩
  case round =>
    clear HG3 HB2
    obtain ⟨k, hk1, hk, rfl, HG, HB⟩ := hrel
    by_cases hlt : k < n
    · have hi1 : (k : Int) < n := by omega
      have hi0 : (0 : Int) ≤ k := by omega
      obtain ⟨m, hm⟩ : ∃ m, m = Nat.min k (n - k) := ⟨_, rfl⟩
      have HGd : Hid (wr.drew.heap[w.heap.size]? = some (.cells (repL x n k).toArray 2 (0, 0))) := ((Below.refl wr.heap.size wr).drew.block _ (Array.getElem?_eq_some_iff.1 HG.out).1).trans HG.out
      have HBd : Hid (Below w.heap.size w wr.drew) := HB.out.drew
      have HCS : Hid (∀ j v, (List.replicate m (Value.int .i64 x))[j]? = some v → wr.drew.cell? ((⟨w.heap.size, 0, none⟩ : Addr).add j) = some v) := fun j v hj => by
        rw [List.getElem?_replicate] at hj
        have hjm : j < m := by
          by_cases h : j < m
          · exact h
          · rw [if_neg h] at hj; cases hj
        rw [if_pos hjm] at hj
        cases hj
        rw [Addr.add_lit, Nat.zero_add]
        exact rep_cell HGd.out (by have h1 : k.min (n - k) ≤ k := Nat.min_le_left _ _; omega)
      have HFIT : Hid (k + (List.replicate m (Value.int .i64 x)).length ≤ (repL x n k).length) := by
        unfold Hid; rw [repL_len hk, List.length_replicate]
        have : m ≤ n - k := by rw [hm]; exact Nat.min_le_right _ _
        omega
      have HONE : Hid (∀ v ∈ List.replicate m (Value.int .i64 x), v.oneCell' = true) := fun v hv => by
        rw [List.mem_replicate] at hv
        rw [hv.2]; rfl
      have HML : Hid ((List.replicate m (Value.int .i64 x)).length = Nat.min k (n - k)) := by unfold Hid; rw [List.length_replicate]; exact hm
      obtain ⟨cs, hcs⟩ : ∃ cs, cs = List.replicate m (Value.int .i64 x) := ⟨_, rfl⟩
      have HCSE := Lib.hid hcs
      have hcl : cs.length = m := by rw [hcs, List.length_replicate]
      have hmn : m ≤ n - k := by rw [hm]; exact Nat.min_le_right _ _
      have hm1 : 1 ≤ m := by
        have h1 : Nat.min k (n - k) = min k (n - k) := rfl
        rw [hm, h1]; omega
      have HCL := Lib.hid hcl
      rw [← hcs] at HCS HFIT HONE HML
      clear hcs hm hcl
      have hne : ¬ n = k := by omega
      have hwr : IntKind.i64.wrap ((k : Int) + (m : Int)) = (k : Int) + (m : Int) := by rw [IntKind.wrap_i64]; omega
      go_wp2
      go_region_held3 (fun _ => True) (trivial) (first
        | (refine step_copy_splice (by rfl) (.tmp 41) (.tmp 44) 24 24 (by rfl) 2 Try.underlying24 (by kernel_rfl) _ _ _ _ _ _ (by rfl) (by rfl) w.heap.size k (repL x n k) 2 HGd.out cs HML.out (fun _ => ⟨by first | rfl | exact if_neg hne | exact if_pos hne, _, by rfl, HCS.out⟩) HFIT.out HONE.out w.heap.size w HBd.out (Nat.le_refl _) ?_; intro w4 HG4 hB4))
      all_goals (
        have HG5 : Hid (w4.heap[w.heap.size]? = some (.cells (repL x n (k + m)).toArray 2 (0, 0))) := by
          have h := HG4.out
          rw [HCSE.out, repL_splice (by omega)] at h
          exact h
        have HB4 := Lib.hid hB4
        rw [HCL.out]
        clear HG4 hB4
        go_wp2
        go_roundw
        case rel => exact ⟨k + m, by omega, by omega, by first | rfl | (rw [hwr]; go_num) | go_num, HG5, HB4⟩
        case measure => first | (simp [intOf, hwr]; omega) | (simp [intOf]; omega))
    · have hkk : k = n := by omega
      have hfin : Hid (OwnF wr w.heap.size w.heap.size n n (fun _ => x)) := by
        have h := HG.out
        rw [hkk] at h
        have hrow : wr.rowIs w.heap.size 2 (fnL n fun _ => x).length (fun i => .int .i64 (nth (fnL n fun _ => x) i)) := by
          rw [fnL_len]
          refine ⟨_, h, by simp [repL_len], fun i hi => ?_⟩
          show _ = some (Value.int .i64 (nth (fnL n fun _ => x) i))
          rw [fnL_nth hi]
          simpa using repL_at (x := x) (n := n) hi
        have hl := (Array.getElem?_eq_some_iff.1 h).1
        have h2 := OwnInts.of_rowIs (B := w.heap.size) (D := wr.heap.size) hrow (Nat.le_refl _) hl (by rw [fnL_len]; omega) (fun j hj => by rw [fnL_len] at hj; rw [fnL_nth hj]; exact hx)
        rw [fnL_len] at h2
        exact h2
      go_wp2
      go_ret
      exact ⟨_, rfl, hfin.out, HB.out⟩

end Go.Proofs.Ytaagbnogbhegdaa
