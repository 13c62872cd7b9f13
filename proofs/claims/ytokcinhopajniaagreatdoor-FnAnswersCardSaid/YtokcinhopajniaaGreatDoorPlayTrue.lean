/-
  The play of two full plans is a play of the arena, and of the arena that both plans fix. No program text.
-/
import Derived.Test.YtokcinhopajniaaGreatDoorPlayMath
import Derived.Test.YtokcinhopajniaaGreatDoorLassoMath
import Derived.Test.YtokcinhopajniaaGreatDoorFixedSpec
import Derived.Test.YtokcinhopajniaaGreatDoorDiceSet
namespace Go.Proofs.YtokcinhopajniaaGreatDoor
open Go.RowKit

section
variable {O E D : List Int} {zss : List (List Int)} {v : Int}
/-- A plan of one player leaves the other's vertices alone. -/
theorem plan_not {who : Int} {P : List Int} (h : PlanP O zss who P) {u : Nat} (hu : u < P.length) (ho : nth O u ≠ who) : nth P u = -1 := by
  rcases h.2 u hu with h | h
  · exact h
  · exact absurd h.1 ho
theorem fix_row {P : List Int} {u : Nat} (hu : u < zss.length) : row (fixK zss P zss.length) u = if 0 ≤ nth P u then [nth P u] else row zss u := by
  rw [fixK_row hu]
  by_cases h : 0 ≤ nth P u
  · rw [if_pos ⟨hu, h⟩, if_pos h]
  · rw [if_neg (fun h' => h h'.2), if_neg h]
theorem plan_in {who : Int} {P : List Int} (hA : ArenaP O zss) (h : PlanP O zss who P) {u : Nat} (hu : u < O.length) (h0 : 0 ≤ nth P u) : nth P u ∈ row zss u ∧ nth P u < O.length := by
  rcases h.2 u (by rw [h.1]; exact hu) with h' | h'
  · omega
  · obtain ⟨j, hj, e⟩ := mem_nth.1 h'.2
    exact ⟨h'.2, by rw [← e]; exact (setB_bounds (hA.2.2.2 u hu).2.2.2 hj).2.1⟩
theorem fix_valid {who : Int} {P : List Int} (hA : ArenaP O zss) (h : PlanP O zss who P) : ArenaP O (fixK zss P zss.length) := by
  refine ⟨hA.1, hA.2.1, by rw [fixK_len]; exact hA.2.2.1, fun u hu => ?_⟩
  have hz : u < zss.length := by rw [hA.2.2.1]; exact hu
  obtain ⟨h1, h2, h3, h4⟩ := hA.2.2.2 u hu
  refine ⟨h1, ?_⟩
  rw [fix_row hz]
  by_cases h0 : 0 ≤ nth P u
  · rw [if_pos h0]
    have := (plan_in hA h hu h0).2
    refine ⟨by simp, by simp, ?_⟩
    unfold setB
    simp only [setFrom, Bool.and_true, decide_eq_true_eq]
    omega
  · rw [if_neg h0]; exact ⟨h2, h3, h4⟩
end

end Go.Proofs.YtokcinhopajniaaGreatDoor
