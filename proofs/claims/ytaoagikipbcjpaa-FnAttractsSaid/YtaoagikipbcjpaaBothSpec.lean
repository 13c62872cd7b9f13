/-
  Mathematics of unions: insertion into a rising list, and a sorted list without repeats. No program text.
-/
import Derived.Test.YtaoagikipbcjpaaDraws
import Derived.Lib.SlicesCompact
import Derived.Test.YtaoagikipbcjpaaSets
namespace Go.Proofs.Ytaoagikipbcjpaa
section
open Go.RowKit

theorem intoL_nil (x : Int) : intoL [] x = [x] := by simp [intoL, lowK]
theorem intoL_lt {z x : Int} {r : List Int} (h : z < x) : intoL (z :: r) x = z :: intoL r x := by
  have hk : lowK (z :: r) x = lowK r x + 1 := by simp [lowK, h]
  unfold intoL
  rw [hk]
  have hn : nth (z :: r) (lowK r x + 1) = nth r (lowK r x) := by simp [nth]
  rw [hn]
  by_cases hc : lowK r x < r.length ∧ nth r (lowK r x) = x
  · rw [if_pos hc, if_pos ⟨by simp; exact hc.1, hc.2⟩]
  · rw [if_neg hc, if_neg (fun h2 => hc ⟨by simpa using h2.1, h2.2⟩)]
    simp
theorem intoL_ge {z x : Int} {r : List Int} (h : ¬ z < x) : intoL (z :: r) x = if z = x then z :: r else x :: z :: r := by
  have hk : lowK (z :: r) x = 0 := by simp [lowK, h]
  unfold intoL
  rw [hk]
  by_cases e : z = x
  · simp [e, nth]
  · rw [if_neg (fun h2 => e (by simpa [nth] using h2.2)), if_neg e]; simp

theorem intoL_rising : ∀ (zs : List Int) (x : Int), zs.Pairwise (· < ·) → (intoL zs x).Pairwise (· < ·)
  | [], x, _ => by rw [intoL_nil]; simp
  | z :: r, x, h => by
    obtain ⟨h1, h2⟩ := List.pairwise_cons.1 h
    by_cases hl : z < x
    · rw [intoL_lt hl]
      refine List.pairwise_cons.2 ⟨fun y hy => ?_, intoL_rising r x h2⟩
      rcases intoL_mem.1 hy with hy | rfl
      · exact h1 y hy
      · exact hl
    · rw [intoL_ge hl]
      split
      · exact h
      · refine List.pairwise_cons.2 ⟨fun y hy => ?_, h⟩
        rcases List.mem_cons.1 hy with rfl | hy
        · omega
        · have := h1 y hy; omega

/-- S with the first k elements of T. -/
def unionK (S T : List Int) (k : Nat) : List Int := (T.take k).foldl intoL S
def unionL (S T : List Int) : List Int := unionK S T T.length

theorem unionK_succ {S T : List Int} {k : Nat} (h : k < T.length) : unionK S T (k + 1) = intoL (unionK S T k) (nth T k) := by
  unfold unionK
  rw [List.take_add_one, List.getElem?_eq_getElem h, List.foldl_append, nth_eq h]
  rfl
theorem unionK_len (S T : List Int) : ∀ k, k ≤ T.length → (unionK S T k).length ≤ S.length + k
  | 0, _ => by simp [unionK]
  | k + 1, h => by
    rw [unionK_succ (by omega)]
    have h1 := intoL_len (unionK S T k) (nth T k)
    have h2 := unionK_len S T k (by omega)
    omega
theorem unionK_rising {S T : List Int} (hS : S.Pairwise (· < ·)) : ∀ k, k ≤ T.length → (unionK S T k).Pairwise (· < ·)
  | 0, _ => by simpa [unionK] using hS
  | k + 1, h => by rw [unionK_succ (by omega)]; exact intoL_rising _ _ (unionK_rising hS k (by omega))
theorem unionK_mem {S T : List Int} {x : Int} : ∀ k, k ≤ T.length → (x ∈ unionK S T k ↔ x ∈ S ∨ x ∈ T.take k)
  | 0, _ => by simp [unionK]
  | k + 1, h => by
    rw [unionK_succ (by omega), intoL_mem, unionK_mem k (by omega), List.take_add_one, List.getElem?_eq_getElem (by omega), nth_eq (by omega)]
    simp only [List.mem_append, Option.toList, List.mem_singleton]
    exact or_assoc
theorem unionL_mem {S T : List Int} {x : Int} : x ∈ unionL S T ↔ x ∈ S ∨ x ∈ T := by
  unfold unionL; rw [unionK_mem _ (Nat.le_refl _), List.take_length]

theorem rises_pairwise {zs : List Int} : Rises zs ↔ zs.Pairwise (· < ·) := by
  rw [List.pairwise_iff_getElem]
  constructor
  · intro h i j hi hj hij
    have := h i j hij hj
    rwa [nth_eq hi, nth_eq hj] at this
  · intro h j k hjk hk
    have := h j k (by omega) hk hjk
    rwa [nth_eq (by omega), nth_eq hk]

/-- Two rising lists with the same elements are one. -/
theorem rising_ext {zs ys : List Int} (hz : zs.Pairwise (· < ·)) (hy : ys.Pairwise (· < ·)) (h : ∀ x, x ∈ zs ↔ x ∈ ys) : zs = ys := by
  have nz : zs.Nodup := hz.imp fun hab => by omega
  have ny : ys.Nodup := hy.imp fun hab => by omega
  exact ((List.perm_ext_iff_of_nodup nz ny).2 h).eq_of_pairwise (le := fun x y => x < y) (fun a b _ _ h1 h2 => by omega) hz hy

theorem arr_nth (zs : List Int) (m : Nat) : zs.toArray[m]! = nth zs m := by
  by_cases h : m < zs.length
  · rw [getElem!_pos _ _ (by simpa using h), nth_eq h]; simp
  · simp [nth, h]

/-- Of a sorted list each element once. -/
def compL (zs : List Int) : List Int := Go.Lib.compactUpTo zs.toArray zs.length

theorem comp_spec {zs : List Int} (hs : ∀ i j, i ≤ j → j < zs.length → nth zs i ≤ nth zs j) : ∀ m, m ≤ zs.length →
    (Go.Lib.compactUpTo zs.toArray m).Pairwise (· < ·) ∧ ∀ x, x ∈ Go.Lib.compactUpTo zs.toArray m ↔ ∃ j, j < m ∧ nth zs j = x
  | 0, _ => ⟨by simp [Go.Lib.compactUpTo], by simp [Go.Lib.compactUpTo]⟩
  | m + 1, h => by
    obtain ⟨ih1, ih2⟩ := comp_spec hs m (by omega)
    rw [Go.Lib.compactUpTo_succ]
    by_cases hk : m = 0 ∨ nth zs m ≠ nth zs (m - 1)
    · have hkp : Go.Lib.keeps zs.toArray m = true := by unfold Go.Lib.keeps; rw [arr_nth, arr_nth]; simpa using hk
      rw [if_pos hkp, arr_nth]
      refine ⟨List.pairwise_append.2 ⟨ih1, by simp, fun a ha b hb => ?_⟩, fun x => ?_⟩
      · simp at hb; subst hb
        obtain ⟨j, hj, rfl⟩ := (ih2 a).1 ha
        have h1 := hs j (m - 1) (by omega) (by omega)
        have h2 := hs (m - 1) m (by omega) (by omega)
        rcases hk with hk | hk
        · omega
        · omega
      · rw [List.mem_append, ih2]
        constructor
        · rintro (⟨j, hj, e⟩ | hx)
          · exact ⟨j, by omega, e⟩
          · simp at hx; exact ⟨m, by omega, hx.symm⟩
        · rintro ⟨j, hj, e⟩
          by_cases hjm : j = m
          · subst hjm; exact .inr (by simp [e])
          · exact .inl ⟨j, by omega, e⟩
    · have hm0 : m ≠ 0 := fun e => hk (.inl e)
      have hme : nth zs m = nth zs (m - 1) := by
        rcases Int.lt_trichotomy (nth zs m) (nth zs (m - 1)) with h | h | h
        · exact absurd (.inr (by omega)) hk
        · exact h
        · exact absurd (.inr (by omega)) hk
      have hkn : Go.Lib.keeps zs.toArray m = false := by unfold Go.Lib.keeps; rw [arr_nth, arr_nth]; simp [hm0, hme]
      rw [hkn]
      refine ⟨by simpa using ih1, fun x => ?_⟩
      simp only [Bool.false_eq_true, if_false, List.append_nil]
      rw [ih2]
      constructor
      · rintro ⟨j, hj, e⟩; exact ⟨j, by omega, e⟩
      · rintro ⟨j, hj, e⟩
        by_cases hjm : j = m
        · subst hjm; exact ⟨j - 1, by omega, by rw [← hme]; exact e⟩
        · exact ⟨j, by omega, e⟩

theorem comp_sorted_union {S T : List Int} (hS : Rises S) : compL ((S ++ T).mergeSort fun x y => decide (x ≤ y)) = unionL S T := by
  obtain ⟨m, hm⟩ : ∃ m, (S ++ T).mergeSort (fun x y => decide (x ≤ y)) = m := ⟨_, rfl⟩
  rw [hm]
  have hp := List.pairwise_mergeSort (le := fun x y : Int => decide (x ≤ y)) (fun a b c h1 h2 => by simp at *; omega) (fun a b => by simp; omega) (S ++ T)
  rw [hm] at hp
  have hs : ∀ i j, i ≤ j → j < m.length → nth m i ≤ nth m j := fun i j hij hj => by
    by_cases e : i = j
    · subst e; omega
    · have := List.pairwise_iff_getElem.1 hp i j (by omega) hj (by omega)
      rw [nth_eq (by omega), nth_eq hj]; simpa using this
  obtain ⟨h1, h2⟩ := comp_spec hs m.length (Nat.le_refl _)
  refine rising_ext h1 (unionK_rising (rises_pairwise.1 hS) _ (Nat.le_refl _)) fun x => ?_
  unfold compL
  rw [h2 x, ← mem_nth, ← hm, List.mem_mergeSort, List.mem_append]
  exact unionL_mem.symm

/-- What BothOf says. -/
def bothL (S T : List Int) : List Int := if bothOk S T then unionL S T else []

theorem comp_len (zs : List Int) : (compL zs).length ≤ zs.length := by
  unfold compL Go.Lib.compactUpTo
  rw [List.length_map]
  have := List.length_filter_le (Go.Lib.keeps zs.toArray) (List.range zs.length)
  simpa using this

/-- The first k rows, one behind the other. -/
def catK (zss : List (List Int)) : Nat → List Int
  | 0 => []
  | k + 1 => catK zss k ++ row zss k
theorem catK_len (zss : List (List Int)) (k : Nat) : (catK zss k).length = sumLen zss k := by
  induction k with
  | zero => rfl
  | succ k ih => simp [catK, sumLen, ih]
end

section
open Go.RowKit

theorem unionL_len (S T : List Int) : (unionL S T).length ≤ S.length + T.length := unionK_len S T _ (Nat.le_refl _)
theorem unionL_fits {S T : List Int} (hS : ∀ k, k < S.length → Fits (nth S k)) (hT : ∀ k, k < T.length → Fits (nth T k)) : ∀ k, k < (unionL S T).length → Fits (nth (unionL S T) k) := fun k hk => by
  rcases unionL_mem.1 (nth_mem hk) with hm | hm
  · obtain ⟨j, hj, e⟩ := mem_nth.1 hm
    rw [← e]; exact hS j hj
  · obtain ⟨j, hj, e⟩ := mem_nth.1 hm
    rw [← e]; exact hT j hj

set_option maxHeartbeats 1000000 in
theorem specBothOf_is {w : World} {a a' : Option Addr} {S T r : List Int} (hr : bothL S T = r) (cs ct : Nat) (hS : IntsAt w a S) (hT : IntsAt w a' T) :
    Calls Try.prog 19 #[.slice a S.length cs, .slice a' T.length ct] w (GivesInts w r) := by
  have HS := Lib.hid hS
  have HT := Lib.hid hT
  have HC := Lib.hid (fun b (hb : bothOk S T = b) => l2Both_is hb cs ct hS hT)
  clear hS hT
  cases hb : bothOk S T with
  | false =>
    have HC' := Lib.hid (HC.out _ hb)
    have HR : Hid (r = []) := by rw [← hr]; unfold bothL; rw [hb]; rfl
    clear hr hb HC
    go_enter Try.func19, Try.ntmps19
    go_wp2_with (go_at_call 31; refine HC'.out.mono ?_; rintro e w' ⟨rfl, q, rfl⟩)
    go_ret
    refine ⟨_, rfl, ?_, (below_drewN (Below.refl w.heap.size w) q).alloc (Nat.le_refl _) _⟩
    rw [HR.out]
    exact OwnInts.mk' (World.ownsRow_made (w.drewN q) #[] 0 (Nat.le_refl _) (by unfold maxLen; omega) rfl) (by simp) (fun k hk => absurd hk (by simp))
  | true =>
    have HC' := Lib.hid (HC.out _ hb)
    have HR : Hid (r = unionL S T) := by rw [← hr]; unfold bothL; rw [hb]; rfl
    have hlS := both_len hb
    have hlT : T.length ≤ 256 := by have := setB_len (by decide) (both_sets hb).2; omega
    clear hr hb HC
    go_enter Try.func19, Try.ntmps19
    go_wp2_with fail
    refine HC'.out.mono ?_
    rintro e w' ⟨rfl, q, rfl⟩
    go_wp2_with fail
    refine (l1Copy_is cs (HS.out.same ⟨q, rfl⟩)).mono ?_
    rintro e w1 ⟨v, rfl, hv, hbb⟩
    have HV : Hid (OwnInts w1 w.heap.size w1.heap.size v S) := hv
    have HB : Hid (Below w.heap.size w w1) := (below_drewN (Below.refl w.heap.size w) q).trans (hbb.mono (Nat.le_refl _))
    clear hv hbb HC'
    go_wp2
    go_loopw [5, 6] (fun u i wr => ∃ k : Nat, k ≤ T.length ∧ i = .int .i64 k ∧ Hid (OwnInts wr w.heap.size wr.heap.size u (unionK S T k)) ∧ Hid (Below w.heap.size w wr)) (fun _ i _ => T.length - (intOf i).toNat)
    case atStart => exact ⟨0, Nat.zero_le _, rfl, by simpa [unionK] using HV, HB⟩
    case round =>
      clear HV HB
      obtain ⟨k, hk, rfl, HU, HB⟩ := hrel
      have hsz := HB.out.size
      by_cases hlt : k < T.length
      · obtain ⟨b, off, ha, hc⟩ := (HT.out.below HB.out).cell (by omega)
        subst ha
        have hck := hc k hlt
        clear hc
        have hul := unionK_len S T k (by omega)
        have HI := Lib.hid (l1Into_is HU.out hsz (by omega) (HT.out.fits k hlt))
        rw [← unionK_succ hlt] at HI
        clear hul
        go_wp2_with (go_at_call 34; refine HI.out.mono ?_; rintro e w2 ⟨u2, rfl, hu2, hb2⟩; have HU2 := Lib.hid hu2; have HB2 := Lib.hid (HB.out.trans (hb2.mono hsz)); clear hu2 hb2)
        go_roundw
        case rel => exact ⟨k + 1, by omega, by go_num, HU2, HB2⟩
        case measure => simp [intOf]; omega
      · have hkk : k = T.length := by omega
        rw [hkk] at HU
        clear hkk
        go_wp2
        go_ret
        exact ⟨_, rfl, by rw [HR.out]; exact HU.out, HB.out⟩
end

end Go.Proofs.Ytaoagikipbcjpaa
