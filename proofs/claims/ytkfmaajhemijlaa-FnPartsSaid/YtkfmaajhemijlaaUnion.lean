/-
  Mathematics of unions: insertion into a rising list, and a sorted list without repeats. No program text.
-/
import Derived.Test.YtkfmaajhemijlaaInto
import Derived.Lib.SlicesCompact
namespace Go.Proofs.Ytkfmaajhemijlaa
open Go.RowKit

theorem intoL_nil (x : Int) : intoL [] x = [x] := by simp [intoL, lowK]
theorem intoL_lt {z x : Int} {r : List Int} (h : z < x) : intoL (z :: r) x = z :: intoL r x := by
  have hk : lowK (z :: r) x = lowK r x + 1 := by simp [lowK, h]
  unfold intoL
  rw [hk]
  have hn : nth (z :: r) (lowK r x + 1) = nth r (lowK r x) := by simp [nth]
  rw [hn]
  by_cases hc : lowK r x < r.length ∧ nth r (lowK r x) = x
  · rw [if_pos hc, if_pos ⟨by simp; exact hc.1, hc.2⟩]
  · rw [if_neg hc, if_neg (fun h2 => hc ⟨by simpa using h2.1, h2.2⟩)]
    simp
theorem intoL_ge {z x : Int} {r : List Int} (h : ¬ z < x) : intoL (z :: r) x = if z = x then z :: r else x :: z :: r := by
  have hk : lowK (z :: r) x = 0 := by simp [lowK, h]
  unfold intoL
  rw [hk]
  by_cases e : z = x
  · simp [e, nth]
  · rw [if_neg (fun h2 => e (by simpa [nth] using h2.2)), if_neg e]; simp

theorem intoL_rising : ∀ (zs : List Int) (x : Int), zs.Pairwise (· < ·) → (intoL zs x).Pairwise (· < ·)
  | [], x, _ => by rw [intoL_nil]; simp
  | z :: r, x, h => by
    obtain ⟨h1, h2⟩ := List.pairwise_cons.1 h
    by_cases hl : z < x
    · rw [intoL_lt hl]
      refine List.pairwise_cons.2 ⟨fun y hy => ?_, intoL_rising r x h2⟩
      rcases intoL_mem.1 hy with hy | rfl
      · exact h1 y hy
      · exact hl
    · rw [intoL_ge hl]
      split
      · exact h
      · refine List.pairwise_cons.2 ⟨fun y hy => ?_, h⟩
        rcases List.mem_cons.1 hy with rfl | hy
        · omega
        · have := h1 y hy; omega

/-- S with the first k elements of T. -/
def unionK (S T : List Int) (k : Nat) : List Int := (T.take k).foldl intoL S
def unionL (S T : List Int) : List Int := unionK S T T.length

theorem unionK_succ {S T : List Int} {k : Nat} (h : k < T.length) : unionK S T (k + 1) = intoL (unionK S T k) (nth T k) := by
  unfold unionK
  rw [List.take_add_one, List.getElem?_eq_getElem h, List.foldl_append, nth_eq h]
  rfl
theorem unionK_len (S T : List Int) : ∀ k, k ≤ T.length → (unionK S T k).length ≤ S.length + k
  | 0, _ => by simp [unionK]
  | k + 1, h => by
    rw [unionK_succ (by omega)]
    have h1 := intoL_len (unionK S T k) (nth T k)
    have h2 := unionK_len S T k (by omega)
    omega
theorem unionK_rising {S T : List Int} (hS : S.Pairwise (· < ·)) : ∀ k, k ≤ T.length → (unionK S T k).Pairwise (· < ·)
  | 0, _ => by simpa [unionK] using hS
  | k + 1, h => by rw [unionK_succ (by omega)]; exact intoL_rising _ _ (unionK_rising hS k (by omega))
theorem unionK_mem {S T : List Int} {x : Int} : ∀ k, k ≤ T.length → (x ∈ unionK S T k ↔ x ∈ S ∨ x ∈ T.take k)
  | 0, _ => by simp [unionK]
  | k + 1, h => by
    rw [unionK_succ (by omega), intoL_mem, unionK_mem k (by omega), List.take_add_one, List.getElem?_eq_getElem (by omega), nth_eq (by omega)]
    simp only [List.mem_append, Option.toList, List.mem_singleton]
    exact or_assoc
theorem unionL_mem {S T : List Int} {x : Int} : x ∈ unionL S T ↔ x ∈ S ∨ x ∈ T := by
  unfold unionL; rw [unionK_mem _ (Nat.le_refl _), List.take_length]

theorem rises_pairwise {zs : List Int} : Rises zs ↔ zs.Pairwise (· < ·) := by
  rw [List.pairwise_iff_getElem]
  constructor
  · intro h i j hi hj hij
    have := h i j hij hj
    rwa [nth_eq hi, nth_eq hj] at this
  · intro h j k hjk hk
    have := h j k (by omega) hk hjk
    rwa [nth_eq (by omega), nth_eq hk]

/-- Two rising lists with the same elements are one. -/
theorem rising_ext {zs ys : List Int} (hz : zs.Pairwise (· < ·)) (hy : ys.Pairwise (· < ·)) (h : ∀ x, x ∈ zs ↔ x ∈ ys) : zs = ys := by
  have nz : zs.Nodup := hz.imp fun hab => by omega
  have ny : ys.Nodup := hy.imp fun hab => by omega
  exact ((List.perm_ext_iff_of_nodup nz ny).2 h).eq_of_pairwise (le := fun x y => x < y) (fun a b _ _ h1 h2 => by omega) hz hy

theorem arr_nth (zs : List Int) (m : Nat) : zs.toArray[m]! = nth zs m := by
  by_cases h : m < zs.length
  · rw [getElem!_pos _ _ (by simpa using h), nth_eq h]; simp
  · simp [nth, h]

/-- Of a sorted list each element once. -/
def compL (zs : List Int) : List Int := Go.Lib.compactUpTo zs.toArray zs.length

theorem comp_spec {zs : List Int} (hs : ∀ i j, i ≤ j → j < zs.length → nth zs i ≤ nth zs j) : ∀ m, m ≤ zs.length →
    (Go.Lib.compactUpTo zs.toArray m).Pairwise (· < ·) ∧ ∀ x, x ∈ Go.Lib.compactUpTo zs.toArray m ↔ ∃ j, j < m ∧ nth zs j = x
  | 0, _ => ⟨by simp [Go.Lib.compactUpTo], by simp [Go.Lib.compactUpTo]⟩
  | m + 1, h => by
    obtain ⟨ih1, ih2⟩ := comp_spec hs m (by omega)
    rw [Go.Lib.compactUpTo_succ]
    by_cases hk : m = 0 ∨ nth zs m ≠ nth zs (m - 1)
    · have hkp : Go.Lib.keeps zs.toArray m = true := by unfold Go.Lib.keeps; rw [arr_nth, arr_nth]; simpa using hk
      rw [if_pos hkp, arr_nth]
      refine ⟨List.pairwise_append.2 ⟨ih1, by simp, fun a ha b hb => ?_⟩, fun x => ?_⟩
      · simp at hb; subst hb
        obtain ⟨j, hj, rfl⟩ := (ih2 a).1 ha
        have h1 := hs j (m - 1) (by omega) (by omega)
        have h2 := hs (m - 1) m (by omega) (by omega)
        rcases hk with hk | hk
        · omega
        · omega
      · rw [List.mem_append, ih2]
        constructor
        · rintro (⟨j, hj, e⟩ | hx)
          · exact ⟨j, by omega, e⟩
          · simp at hx; exact ⟨m, by omega, hx.symm⟩
        · rintro ⟨j, hj, e⟩
          by_cases hjm : j = m
          · subst hjm; exact .inr (by simp [e])
          · exact .inl ⟨j, by omega, e⟩
    · have hm0 : m ≠ 0 := fun e => hk (.inl e)
      have hme : nth zs m = nth zs (m - 1) := by
        rcases Int.lt_trichotomy (nth zs m) (nth zs (m - 1)) with h | h | h
        · exact absurd (.inr (by omega)) hk
        · exact h
        · exact absurd (.inr (by omega)) hk
      have hkn : Go.Lib.keeps zs.toArray m = false := by unfold Go.Lib.keeps; rw [arr_nth, arr_nth]; simp [hm0, hme]
      rw [hkn]
      refine ⟨by simpa using ih1, fun x => ?_⟩
      simp only [Bool.false_eq_true, if_false, List.append_nil]
      rw [ih2]
      constructor
      · rintro ⟨j, hj, e⟩; exact ⟨j, by omega, e⟩
      · rintro ⟨j, hj, e⟩
        by_cases hjm : j = m
        · subst hjm; exact ⟨j - 1, by omega, by rw [← hme]; exact e⟩
        · exact ⟨j, by omega, e⟩

theorem comp_sorted_union {S T : List Int} (hS : Rises S) : compL ((S ++ T).mergeSort fun x y => decide (x ≤ y)) = unionL S T := by
  obtain ⟨m, hm⟩ : ∃ m, (S ++ T).mergeSort (fun x y => decide (x ≤ y)) = m := ⟨_, rfl⟩
  rw [hm]
  have hp := List.pairwise_mergeSort (le := fun x y : Int => decide (x ≤ y)) (fun a b c h1 h2 => by simp at *; omega) (fun a b => by simp; omega) (S ++ T)
  rw [hm] at hp
  have hs : ∀ i j, i ≤ j → j < m.length → nth m i ≤ nth m j := fun i j hij hj => by
    by_cases e : i = j
    · subst e; omega
    · have := List.pairwise_iff_getElem.1 hp i j (by omega) hj (by omega)
      rw [nth_eq (by omega), nth_eq hj]; simpa using this
  obtain ⟨h1, h2⟩ := comp_spec hs m.length (Nat.le_refl _)
  refine rising_ext h1 (unionK_rising (rises_pairwise.1 hS) _ (Nat.le_refl _)) fun x => ?_
  unfold compL
  rw [h2 x, ← mem_nth, ← hm, List.mem_mergeSort, List.mem_append]
  exact unionL_mem.symm

/-- What BothOf says. -/
def bothL (S T : List Int) : List Int := if bothOk S T then unionL S T else []

theorem comp_len (zs : List Int) : (compL zs).length ≤ zs.length := by
  unfold compL Go.Lib.compactUpTo
  rw [List.length_map]
  have := List.length_filter_le (Go.Lib.keeps zs.toArray) (List.range zs.length)
  simpa using this

/-- The first k rows, one behind the other. -/
def catK (zss : List (List Int)) : Nat → List Int
  | 0 => []
  | k + 1 => catK zss k ++ row zss k
theorem catK_len (zss : List (List Int)) (k : Nat) : (catK zss k).length = sumLen zss k := by
  induction k with
  | zero => rfl
  | succ k ih => simp [catK, sumLen, ih]

end Go.Proofs.Ytkfmaajhemijlaa
