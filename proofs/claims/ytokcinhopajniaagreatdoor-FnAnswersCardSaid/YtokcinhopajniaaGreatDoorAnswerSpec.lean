/-
  Contracts of chapter 6: the model's RegionOf, l6Part, l6Form, PartOf. (An answer reads as a play does: two slices of numbers.)
-/
import Derived.Test.YtokcinhopajniaaGreatDoorLasso
import Derived.Test.YtokcinhopajniaaGreatDoorLassoMath
import Derived.Test.YtokcinhopajniaaGreatDoorParity1
namespace Go.Proofs.YtokcinhopajniaaGreatDoor
open Go.RowKit

/-- The first k vertices that who wins. -/
def regK (X : List Int) (who : Int) : Nat → List Int
  | 0 => []
  | k + 1 => regK X who k ++ (if nth X k = who then [(k : Int)] else [])
theorem regK_len (X : List Int) (who : Int) : ∀ k, (regK X who k).length ≤ k
  | 0 => Nat.le_refl _
  | k + 1 => by
    have := regK_len X who k
    rw [regK, List.length_append]
    split <;> simp <;> omega
theorem regK_mem {X : List Int} {who : Int} : ∀ {k : Nat} {x : Int}, x ∈ regK X who k ↔ ∃ v : Nat, x = (v : Int) ∧ v < k ∧ nth X v = who
  | 0, x => by simp [regK]
  | k + 1, x => by
    rw [regK, List.mem_append, regK_mem]
    constructor
    · rintro (⟨v, h1, h2, h3⟩ | h)
      · exact ⟨v, h1, by omega, h3⟩
      · split at h
        · simp at h; exact ⟨k, h, by omega, by assumption⟩
        · simp at h
    · rintro ⟨v, h1, h2, h3⟩
      by_cases e : v = k
      · subst e; right; rw [if_pos h3]; simp [h1]
      · exact .inl ⟨v, h1, by omega, h3⟩
def regL (X : List Int) (who : Int) : List Int := if X.length ≤ 256 then regK X who X.length else []

/-- The plan of who alone, of the first k vertices. -/
def ansP (O Y : List Int) (who : Int) : Nat → List Int
  | 0 => []
  | k + 1 => ansP O Y who k ++ [if nth O k = who then nth Y k else -1]
theorem ansP_len (O Y : List Int) (who : Int) : ∀ k, (ansP O Y who k).length = k
  | 0 => rfl
  | k + 1 => by rw [ansP, List.length_append, ansP_len O Y who k]; rfl
end Go.Proofs.YtokcinhopajniaaGreatDoor
