/-
  Slices of one's own that read as a function's values.
-/
import Derived.Test.YtaoagikipbcjpaaTurned
import Derived.Test.YtaoagikipbcjpaaBools
namespace Go.Proofs.Ytaoagikipbcjpaa
open Go.RowKit

def fnL (n : Nat) (f : Nat → Int) : List Int := (List.range n).map f
theorem fnL_len (n : Nat) (f : Nat → Int) : (fnL n f).length = n := by simp [fnL]
theorem fnL_nth {n i : Nat} {f : Nat → Int} (h : i < n) : nth (fnL n f) i = f i := by simp [nth, fnL, h]
theorem fnL_succ (n : Nat) (f : Nat → Int) : fnL (n + 1) f = fnL n f ++ [f n] := by simp [fnL, List.range_succ]
theorem fnL_congr {n : Nat} {f g : Nat → Int} (h : ∀ i, i < n → f i = g i) : fnL n f = fnL n g := List.map_congr_left fun i hi => h i (List.mem_range.1 hi)
theorem fnL_eq {n : Nat} {f g : Nat → Int} (h : fnL n f = fnL n g) : ∀ i, i < n → f i = g i := fun i hi => by
  have := congrArg (fun l => nth l i) h
  simpa [fnL_nth hi] using this
theorem fnL_set {n u : Nat} {f : Nat → Int} {x : Int} : (fnL n f).set u x = fnL n (fun i => if i = u then x else f i) := by
  apply List.ext_getElem?
  intro i
  by_cases hi : i < n
  · by_cases e : i = u
    · subst e; simp [fnL, hi]
    · simp [fnL, hi, e, Ne.symm e]
  · simp [fnL, hi]

/-- The slice at the head of block g owns f's values. -/
def OwnF (w : World) (B g cap n : Nat) (f : Nat → Int) : Prop := OwnInts w B w.heap.size (.slice (some ⟨g, 0, none⟩) n cap) (fnL n f)

theorem OwnF.row {w : World} {B g cap n : Nat} {f : Nat → Int} (h : OwnF w B g cap n f) : w.ownsRow B 2 1 (.slice (some ⟨g, 0, none⟩) n cap) n ((fnL n f).map (Value.int .i64)) := by
  have := h.own
  rw [fnL_len] at this
  exact this
theorem OwnF.lt {w : World} {B g cap n : Nat} {f : Nat → Int} (h : OwnF w B g cap n f) : B ≤ g ∧ g < w.heap.size := h.own.lt g rfl
theorem OwnF.ints {w : World} {B g cap n : Nat} {f : Nat → Int} (h : OwnF w B g cap n f) : IntsAt w (some ⟨g, 0, none⟩) (fnL n f) := by
  obtain ⟨a, c, hv, hi, _⟩ := h.shape
  simp only [Value.slice.injEq] at hv
  rw [hv.1]
  exact hi
theorem OwnF.cell {w : World} {B g cap n u : Nat} {f : Nat → Int} (h : OwnF w B g cap n f) (hu : u < n) : w.cell? ⟨g, u, none⟩ = some (.int .i64 (f u)) := by
  rw [h.row.cellAt u (by omega)]
  simp [fnL, hu]
theorem OwnF.frozen {w : World} {B g cap n : Nat} {f : Nat → Int} (h : OwnF w B g cap n f) (u : Nat) : w.frozen? ⟨g, u, none⟩ = false := h.row.frozenAt u
theorem OwnF.only {w w' : World} {S : Nat → Prop} {B g cap n : Nat} {f : Nat → Int} (h : OwnF w B g cap n f) (hk : Only S w w') (hs : ¬ S g) : OwnF w' B g cap n f :=
  (OwnInts.only h hk (fun b hb => by simp [Value.ownBlock] at hb; subst hb; exact hs)).retop
theorem OwnF.congr {w : World} {B g cap n : Nat} {f f' : Nat → Int} (h : OwnF w B g cap n f) (he : ∀ i, i < n → f i = f' i) : OwnF w B g cap n f' := by
  unfold OwnF at *; rw [← fnL_congr he]; exact h
theorem OwnF.put {w : World} {B g cap n u : Nat} {f : Nat → Int} {x : Int} (h : OwnF w B g cap n f) (hx : Fits x) : OwnF (w.setCell ⟨g, u, none⟩ (.int .i64 x)) B g cap n (fun i => if i = u then x else f i) := by
  obtain ⟨hs, _⟩ := h.row.stored u (.int .i64 x)
  have hm : ((fnL n f).map (Value.int .i64)).set u (.int .i64 x) = (fnL n (fun i => if i = u then x else f i)).map (Value.int .i64) := by rw [← fnL_set, List.map_set]
  rw [hm] at hs
  refine OwnInts.mk' (by rw [fnL_len]; exact hs) (by rw [fnL_len]; have := h.len; rw [fnL_len] at this; exact this) fun k hk => ?_
  rw [fnL_len] at hk
  rw [fnL_nth hk]
  have hf := h.fits k (by rw [fnL_len]; exact hk)
  rw [fnL_nth hk] at hf
  by_cases e : k = u
  · rw [if_pos e]; exact hx
  · rw [if_neg e]; exact hf

end Go.Proofs.Ytaoagikipbcjpaa
