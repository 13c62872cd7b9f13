/-
  Contracts: PredsOf and its model.
-/
import Derived.Test.YthelpfilgamdfaaOwn
import Derived.Test.YthelpfilgamdfaaCopy
import Derived.Test.YthelpfilgamdfaaEdge
import Derived.Maps.AppendAt
namespace Go.Proofs.Ythelpfilgamdfaa
open Go.RowKit

theorem OwnInts.mk' {w : World} {B : Nat} {v : Value} {zs : List Int} (h : w.ownsRow B 2 1 v zs.length (zs.map (Value.int .i64))) (hl : zs.length ≤ 17592186044416) (hf : ∀ k, k < zs.length → Fits (nth zs k)) : OwnInts w B w.heap.size v zs :=
  ⟨h, fun g hg => (h.lt g hg).2, hl, hf⟩
theorem ownsRow_base {w : World} {B B' : Nat} {e : TypeId} {size : Nat} {v : Value} {n : Nat} {xs : List Value} (h : w.ownsRow B e size v n xs) (hB : B' ≤ B) : w.ownsRow B' e size v n xs := by
  refine ⟨h.1, ?_⟩
  rcases h.2 with hn | ⟨g, cap, cur, hv, hb, r⟩
  · exact .inl hn
  · exact .inr ⟨g, cap, cur, hv, by omega, r⟩
theorem OwnInts.nil (w : World) (B D : Nat) : OwnInts w B D (.slice none 0 0) [] :=
  ⟨World.ownsRow_nil _ _ _ _, fun g hg => by simp [Value.ownBlock] at hg, by simp, fun k hk => absurd hk (by simp)⟩

/-- A call hands back a slice of its own that reads as zs, and nothing that was there has turned. -/
def GivesInts (w : World) (zs : List Int) (e : Ending) (w' : World) : Prop :=
  ∃ v, e = .returned v ∧ OwnInts w' w.heap.size w'.heap.size v zs ∧ Below w.heap.size w w'

/-- The predecessors of u among the first k vertices. -/
def predsK (zss : List (List Int)) (u : Int) : Nat → List Int
  | 0 => []
  | k + 1 => predsK zss u k ++ if hasB (row zss k) u then [(k : Int)] else []

theorem predsK_len (zss : List (List Int)) (u : Int) (k : Nat) : (predsK zss u k).length ≤ k := by
  induction k with
  | zero => simp [predsK]
  | succ k ih => simp only [predsK]; split <;> simp <;> omega

theorem predsK_mem (zss : List (List Int)) (u : Int) (k : Nat) : ∀ x ∈ predsK zss u k, 0 ≤ x ∧ x < k := by
  induction k with
  | zero => simp [predsK]
  | succ k ih =>
    intro x hx
    simp only [predsK, List.mem_append] at hx
    rcases hx with hx | hx
    · have := ih x hx; omega
    · split at hx
      · simp at hx; omega
      · simp at hx

theorem nth_mem {zs : List Int} {k : Nat} (h : k < zs.length) : nth zs k ∈ zs := by rw [nth_eq h]; exact List.getElem_mem _

theorem predsK_fits (zss : List (List Int)) (u : Int) (k : Nat) (hk : k ≤ 17592186044416) : ∀ j, j < (predsK zss u k).length → Fits (nth (predsK zss u k) j) := fun j hj => by
  have := predsK_mem zss u k _ (nth_mem hj)
  unfold Fits; omega

open Classical in
/-- The value of PredsOf. -/
noncomputable def predsL (O : List Int) (zss : List (List Int)) (u : Int) : List Int := if ArenaP O zss ∧ thereB O.length u = true then predsK zss u zss.length else []

end Go.Proofs.Ythelpfilgamdfaa
