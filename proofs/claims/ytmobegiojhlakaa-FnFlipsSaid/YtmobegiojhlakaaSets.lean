/-
  Contracts of chapter 2 that need no new memory: sets, members; and what a set parts into.
-/
import Derived.Test.YtmobegiojhlakaaSearch
import Derived.Test.YtmobegiojhlakaaEdge
import Derived.Test.YtmobegiojhlakaaInts
import Derived.Test.YtmobegiojhlakaaCopies
import Derived.Test.YtmobegiojhlakaaCursor
namespace Go.Proofs.Ytmobegiojhlakaa
section
open Go.RowKit

/-- What SetOk says. -/
def setOk (n : Int) (zs : List Int) : Bool := inB n 0 256 && setB n zs

theorem setOk_yes {n : Int} {zs : List Int} (h : 0 ≤ n ∧ n ≤ 256) : setOk n zs = setB n zs := by unfold setOk; rw [inB_yes h.1 h.2]; rfl
theorem setOk_no {n : Int} {zs : List Int} (h : n < 0 ∨ 256 < n) : setOk n zs = false := by unfold setOk; rw [inB_no h]; rfl

set_option maxHeartbeats 400000 in
theorem specSetOk_is {w : World} {a : Option Addr} {zs : List Int} {n : Int} {r : Bool} (hr : setOk n zs = r) (cap : Nat) (h : IntsAt w a zs) :
    Calls Try.prog 64 #[.slice a zs.length cap, .int .i64 n] w fun e w' => e = .returned (.bool r) ∧ ∃ q, w' = w.drewN q := by
  by_cases hn : 0 ≤ n ∧ n ≤ 256
  · have HI := Lib.hid (l1In_is (inB_yes hn.1 hn.2))
    rw [setOk_yes hn] at hr
    have HC := Lib.hid (l1Set_is hr cap w h (by omega) (by omega))
    clear hr h
    go_enter Try.func64, Try.ntmps64
    go_wp2_with (first
      | (go_at_call 63; refine (HI.out _).mono ?_; rintro e w' ⟨rfl, rfl⟩)
      | (go_at_call 103; refine HC.out.mono ?_; rintro e w' ⟨rfl, HW⟩))
    go_ret
    exact ⟨rfl, HW⟩
  · have HI := Lib.hid (l1In_is (x := n) (lo := 0) (hi := 256) (inB_no (by omega)))
    have HR : Hid (r = false) := by rw [← hr]; exact setOk_no (by omega)
    clear hr h
    go_enter Try.func64, Try.ntmps64
    go_wp2_with (go_at_call 63; refine (HI.out _).mono ?_; rintro e w' ⟨rfl, rfl⟩)
    go_ret
    exact ⟨ret_bool HR.out.symm, 0, rfl⟩

/-- What HasIn says. -/
def hasIn (zs : List Int) (x : Int) : Bool := setB 256 zs && hasB zs x

theorem setOk_256 {zs : List Int} : setOk 256 zs = setB 256 zs := setOk_yes ⟨by decide, by decide⟩

/-- Both are sets of numbers from 0 to 255. -/
def bothOk (S T : List Int) : Bool := setB 256 S && setB 256 T

set_option maxHeartbeats 400000 in
theorem l2Both_is {w : World} {a a' : Option Addr} {S T : List Int} {r : Bool} (hr : bothOk S T = r) (cs ct : Nat) (h : IntsAt w a S) (h' : IntsAt w a' T) :
    Calls Try.prog 94 #[.slice a S.length cs, .slice a' T.length ct] w fun e w' => e = .returned (.bool r) ∧ ∃ q, w' = w.drewN q := by
  cases hs : setB 256 S with
  | true =>
    have HC := Lib.hid (specSetOk_is (setOk_256.trans hs) cs h)
    have HH : Hid (∀ q, Calls Try.prog 64 #[.slice a' T.length ct, .int .i64 256] (w.drewN q) fun e w' => e = .returned (.bool r) ∧ ∃ q', w' = (w.drewN q).drewN q') := fun q =>
      specSetOk_is (by rw [← hr, setOk_256]; unfold bothOk; rw [hs]; rfl) ct (h'.same ⟨q, rfl⟩)
    clear hr h hs h'
    go_enter Try.func94, Try.ntmps94
    go_wp2_with fail
    refine HC.out.mono ?_
    rintro e w' ⟨rfl, q, rfl⟩
    go_wp2_with fail
    refine (HH.out _).mono ?_
    rintro e w' ⟨rfl, q', rfl⟩
    go_wp2
    go_ret
    exact ⟨rfl, _, rfl⟩
  | false =>
    have HC := Lib.hid (specSetOk_is (setOk_256.trans hs) cs h)
    have HR : Hid (r = false) := by rw [← hr]; unfold bothOk; rw [hs]; rfl
    clear hr h hs h'
    go_enter Try.func94, Try.ntmps94
    go_wp2_with (go_at_call 64; refine HC.out.mono ?_; rintro e w' ⟨rfl, q, rfl⟩)
    go_ret
    exact ⟨ret_bool HR.out.symm, _, rfl⟩
end

section
open Go.RowKit

theorem all_rows {p : List Int → Bool} {zss : List (List Int)} : zss.all p = true ↔ ∀ j, j < zss.length → p (row zss j) = true := by
  rw [List.all_eq_true]
  constructor
  · intro h j hj; rw [row_eq hj]; exact h _ (List.getElem_mem _)
  · intro h z hz
    obtain ⟨j, hj, rfl⟩ := List.mem_iff_getElem.1 hz
    rw [← row_eq hj]; exact h j hj

theorem rows_two {w : World} {a a' : Option Addr} {S T : List Int} {cs ct : Nat} (h : IntsAt w a S) (h' : IntsAt w a' T) :
    RowsAt (w.alloc (.cells #[.slice a S.length cs, .slice a' T.length ct] 27)) (some ⟨w.heap.size, 0, none⟩) (fun k => if k = 0 then a else a') (fun k => if k = 0 then cs else ct) [S, T] := by
  have hb := Box2.new w 27 (.slice a S.length cs) (.slice a' T.length ct)
  refine ⟨by simp, fun _ => ⟨_, 0, rfl, fun k hk => ?_⟩, fun k hk => ?_⟩
  · match k with
    | 0 => exact hb.cell0
    | 1 => exact hb.cell1
    | k + 2 => exact absurd hk (by simp)
  · match k with
    | 0 => exact h.alloc _
    | 1 => exact h'.alloc _
    | k + 2 => exact absurd hk (by simp)

theorem rows_one {w : World} {a : Option Addr} {S : List Int} {cs : Nat} (h : IntsAt w a S) :
    RowsAt (w.alloc (.cells #[.slice a S.length cs] 27)) (some ⟨w.heap.size, 0, none⟩) (fun _ => a) (fun _ => cs) [S] := by
  refine ⟨by simp, fun _ => ⟨_, 0, rfl, fun k hk => ?_⟩, fun k hk => ?_⟩
  · match k with
    | 0 =>
      have h0 := heap_alloc_new w (.cells #[.slice a S.length cs] 27)
      simp only [World.cell?, h0, row]
      rfl
    | k + 1 => exact absurd hk (by simp)
  · match k with
    | 0 => exact h.alloc _
    | k + 1 => exact absurd hk (by simp)

/-- What p picks of the first k elements. -/
def partK (p : Int → Bool) (S : List Int) : Nat → List Int
  | 0 => []
  | k + 1 => partK p S k ++ if p (nth S k) then [nth S k] else []

theorem partK_filter (p : Int → Bool) (S : List Int) : ∀ k, k ≤ S.length → partK p S k = (S.take k).filter p
  | 0, _ => rfl
  | k + 1, h => by
    rw [partK, partK_filter p S k (by omega), List.take_add_one, List.filter_append, nth_eq (by omega)]
    rw [List.getElem?_eq_getElem (by omega)]
    simp [List.filter_cons]
theorem partK_all (p : Int → Bool) (S : List Int) : partK p S S.length = S.filter p := by rw [partK_filter p S _ (Nat.le_refl _), List.take_length]
theorem partK_len (p : Int → Bool) (S : List Int) (k : Nat) : (partK p S k).length ≤ k := by
  induction k with
  | zero => simp [partK]
  | succ k ih => simp only [partK]; split <;> simp <;> omega
theorem filter_fits {S : List Int} (p : Int → Bool) (h : ∀ k, k < S.length → Fits (nth S k)) : ∀ k, k < (S.filter p).length → Fits (nth (S.filter p) k) := fun k hk => by
  have hm := (List.mem_filter.1 (nth_mem hk)).1
  obtain ⟨j, hj, e⟩ := mem_nth.1 hm
  rw [← e]; exact h j hj

/-- Who is in T; who isn't. -/
def inT (T : List Int) : Int → Bool := fun x => hasB T x
def outT (T : List Int) : Int → Bool := fun x => !hasB T x

/-- A row of one's own, that grows. -/
structure Grows (w wr : World) (v : Value) (zs : List Int) : Prop where
  own : wr.ownsRow w.heap.size 2 1 v zs.length (zs.map (Value.int .i64))

/-- What MeetOf, LessOf and PartIn say. -/
def meetL (S T : List Int) : List Int := if bothOk S T then S.filter (inT T) else []
def lessL (S T : List Int) : List Int := if bothOk S T then S.filter (outT T) else []
def partB (S T : List Int) : Bool := bothOk S T && decide ((S.filter (outT T)).length = 0)

theorem both_sets {S T : List Int} (h : bothOk S T = true) : setB 256 S = true ∧ setB 256 T = true := by simpa [bothOk] using h
theorem both_len {S T : List Int} (h : bothOk S T = true) : S.length ≤ 256 := by have := setB_len (by decide) (both_sets h).1; omega

end

end Go.Proofs.Ytmobegiojhlakaa
