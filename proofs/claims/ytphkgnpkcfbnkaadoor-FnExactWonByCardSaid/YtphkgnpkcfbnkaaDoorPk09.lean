/-
  Several texts in one: AnswerSpec, FormSpec.
-/
import Derived.Test.YtphkgnpkcfbnkaaDoorPk04
import Derived.Test.YtphkgnpkcfbnkaaDoorPk08
namespace Go.Proofs.YtphkgnpkcfbnkaaDoor
open Go.RowKit

/-- The first k vertices that who wins. -/
def regK (X : List Int) (who : Int) : Nat → List Int
  | 0 => []
  | k + 1 => regK X who k ++ (if nth X k = who then [(k : Int)] else [])
theorem regK_len (X : List Int) (who : Int) : ∀ k, (regK X who k).length ≤ k
  | 0 => Nat.le_refl _
  | k + 1 => by
    have := regK_len X who k
    rw [regK, List.length_append]
    split <;> simp <;> omega
theorem regK_mem {X : List Int} {who : Int} : ∀ {k : Nat} {x : Int}, x ∈ regK X who k ↔ ∃ v : Nat, x = (v : Int) ∧ v < k ∧ nth X v = who
  | 0, x => by simp [regK]
  | k + 1, x => by
    rw [regK, List.mem_append, regK_mem]
    constructor
    · rintro (⟨v, h1, h2, h3⟩ | h)
      · exact ⟨v, h1, by omega, h3⟩
      · split at h
        · simp at h; exact ⟨k, h, by omega, by assumption⟩
        · simp at h
    · rintro ⟨v, h1, h2, h3⟩
      by_cases e : v = k
      · subst e; right; rw [if_pos h3]; simp [h1]
      · exact .inl ⟨v, h1, by omega, h3⟩
def regL (X : List Int) (who : Int) : List Int := if X.length ≤ 256 then regK X who X.length else []

end Go.Proofs.YtphkgnpkcfbnkaaDoor
namespace Go.Proofs.YtphkgnpkcfbnkaaDoor
open Go.RowKit

end Go.Proofs.YtphkgnpkcfbnkaaDoor
