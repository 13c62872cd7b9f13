/-
  Contracts of the laws' own helpers: memory that is marked (markInt64S, markInt64SS, markArena) and found marked (heldInt64S, heldInt64SS, heldArena).
-/
import Derived.Test.YtaoagikipbcjpaaOwn
import Derived.Test.YtaoagikipbcjpaaCopy
import Derived.Test.YtaoagikipbcjpaaSize
namespace Go.Proofs.Ytaoagikipbcjpaa
open Go.RowKit

theorem ArenaCopy.owned {w w' w0 : World} {v : Value} {O : List Int} {zss : List (List Int)} (h : ArenaCopy w w' O zss) (hA : ArenaAt w0 v O zss) :
    OwnArena w' w.heap.size w'.heap.size (.agg #[.slice (some ⟨w.heap.size + 3, 0, none⟩) O.length O.length, .slice (some ⟨w.heap.size + 4, 0, none⟩) zss.length zss.length]) O zss := by
  obtain ⟨ao, an, co, cn, A, C, _, hO, hN⟩ := hA
  have hs := h.size
  refine ⟨_, _, outer (w.heap.size + 4) zss zss.length, rfl, OwnInts.of_rowIs h.owner (by omega) (by omega) hO.len hO.fits, ⟨ownsRow_of_rowIs h.top (by omega) (by have := hN.len; unfold maxLen; omega), fun g hg => by simp [Value.ownBlock] at hg; omega, hN.len, fun k hk => ?_, fun i j hi hj hne g hg hg' => ?_⟩, fun k hk g hg hg' => ?_⟩
  · have e : outer (w.heap.size + 4) zss zss.length k = .slice (some ⟨w.heap.size + 4 + 1 + k, 0, none⟩) (row zss k).length (row zss k).length := by simp only [outer]; rw [if_pos hk]
    rw [e]
    exact OwnInts.of_rowIs (h.done k hk) (by omega) (by omega) (hN.rows k hk).len (hN.rows k hk).fits
  · simp only [outer] at hg hg'
    rw [if_pos hi] at hg
    rw [if_pos hj] at hg'
    simp [Value.ownBlock] at hg hg'
    omega
  · simp only [outer] at hg
    rw [if_pos hk] at hg
    simp [Value.ownBlock] at hg hg'
    omega

/-- n marks from k on. -/
def marks (k : Int) (n : Nat) : List Int := (List.range n).map fun i : Nat => k + (i : Int)
theorem marks_len (k : Int) (n : Nat) : (marks k n).length = n := by simp [marks]
theorem marks_nth {k : Int} {n i : Nat} (h : i < n) : nth (marks k n) i = k + i := by simp [nth, marks, h]

theorem list_ext {xs ys : List Int} (hl : xs.length = ys.length) (h : ∀ i, i < xs.length → nth xs i = nth ys i) : xs = ys := by
  apply List.ext_getElem hl
  intro i h1 h2
  have := h i h1
  rwa [nth_eq h1, nth_eq h2] at this

theorem nth_set {zs : List Int} {j i : Nat} {x : Int} (hj : j < zs.length) : nth (zs.set j x) i = if i = j then x else nth zs i := by
  unfold nth
  simp only [List.getD, List.getElem?_set]
  by_cases e : j = i
  · subst e; simp [hj]
  · rw [if_neg e, if_neg (fun h => e h.symm)]

theorem OwnInts.store {w : World} {B D g n cap : Nat} {zs : List Int} (h : OwnInts w B D (.slice (some ⟨g, 0, none⟩) n cap) zs) (hn : n = zs.length) {j : Nat} (_hj : j < zs.length) {x : Int} (hx : Fits x) :
    OwnInts (w.setCell ⟨g, j, none⟩ (.int .i64 x)) B D (.slice (some ⟨g, 0, none⟩) n cap) (zs.set j x) := by
  subst hn
  have ho := h.own
  obtain ⟨h1, _⟩ := ho.stored j (.int .i64 x)
  refine ⟨?_, h.top, by simpa using h.len, fun k hk => ?_⟩
  · rw [← List.map_set] at h1
    simpa using h1
  · rw [nth_set _hj]
    split
    · exact hx
    · exact h.fits k (by simpa using hk)

/-- The rows' marks, from k on. -/
def markRows (k : Int) (zss : List (List Int)) : List (List Int) := (List.range zss.length).map fun j : Nat => marks (k + (sumLen zss j : Int)) (row zss j).length
theorem markRows_len (k : Int) (zss : List (List Int)) : (markRows k zss).length = zss.length := by simp [markRows]
theorem markRows_row {k : Int} {zss : List (List Int)} {j : Nat} (h : j < zss.length) : row (markRows k zss) j = marks (k + (sumLen zss j : Int)) (row zss j).length := by simp [row, markRows, h]

/-- j of the rows are marked. -/
structure Half (w wr : World) (B D : Nat) (v : Value) (V : Nat → Value) (zss : List (List Int)) (k : Int) (j : Nat) : Prop where
  own : wr.ownsRow B 27 1 v zss.length ((List.range zss.length).map V)
  done : ∀ i, i < j → i < zss.length → OwnInts wr B D (V i) (marks (k + (sumLen zss i : Int)) (row zss i).length)
  todo : ∀ i, j ≤ i → i < zss.length → OwnInts wr B D (V i) (row zss i)
  only : Only (fun b => ∃ i, i < zss.length ∧ (V i).ownBlock = some b) w wr

theorem Half.step {w wr w1 : World} {B D : Nat} {v : Value} {V : Nat → Value} {zss : List (List Int)} {k : Int} {j : Nat} (h : Half w wr B D v V zss k j) (hj : j < zss.length)
    (ap : ∀ i j, i < zss.length → j < zss.length → i ≠ j → ∀ g, (V i).ownBlock = some g → (V j).ownBlock ≠ some g)
    (h1 : OwnInts w1 B D (V j) (marks (k + (sumLen zss j : Int)) (row zss j).length)) (h2 : Only (fun b => (V j).ownBlock = some b) wr w1) : Half w w1 B D v V zss k (j + 1) := by
  refine ⟨ownsRow_only h.own h2 (own_types h.own (h.todo j (Nat.le_refl _) hj).own), fun i hi hin => ?_, fun i hi hin => (h.todo i (by omega) hin).only h2 (ap i j hin hj (by omega)), h.only.trans (h2.mono fun b hb => ⟨j, hj, hb⟩)⟩
  by_cases e : i = j
  · subst e; exact h1
  · exact (h.done i (by omega) hin).only h2 (ap i j hin hj e)

theorem sumLen_le {zss : List (List Int)} {j : Nat} (h : j < zss.length) : sumLen zss j ≤ sumLen zss zss.length := sumLen_mono zss (by omega)

end Go.Proofs.Ytaoagikipbcjpaa
