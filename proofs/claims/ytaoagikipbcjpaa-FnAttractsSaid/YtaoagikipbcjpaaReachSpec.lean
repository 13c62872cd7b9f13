/-
  Contract: the model's l1Marked.
-/
import Derived.Test.YtaoagikipbcjpaaBools
import Derived.Test.YtaoagikipbcjpaaBeyond
import Derived.Deep.RegionHeld3
namespace Go.Proofs.Ytaoagikipbcjpaa
section
open Go.RowKit

end

section
open Go.RowKit

theorem set_nats {n : Nat} {zs : List Int} (h : setB n zs = true) : ∀ f ∈ zs, ∃ u : Nat, f = (u : Int) ∧ u < n := fun f hf => by
  obtain ⟨i, hi, he⟩ := mem_nth.1 hf
  obtain ⟨h0, h1, _⟩ := setB_bounds h hi
  exact ⟨f.toNat, by omega, by omega⟩

theorem arena_nats {O : List Int} {zss : List (List Int)} (h : ArenaP O zss) : ∀ u : Nat, u < zss.length → ∀ x ∈ row zss u, ∃ v : Nat, x = (v : Int) ∧ v < zss.length := fun u hu x hx => by
  have hl := h.2.2.1
  obtain ⟨v, h1, h2⟩ := set_nats (h.2.2.2 u (by omega)).2.2.2 x hx
  exact ⟨v, h1, by omega⟩

open Classical in
/-- What is marked when k of the starts are marked, too. -/
noncomputable def fromK (zss : List (List Int)) (F : List Int) (k : Nat) : Nat → Bool := fun v => decide ((v : Int) ∈ F.take k ∨ Rch zss (fun _ => true) F v)

theorem fromK_zero (zss : List (List Int)) (F : List Int) : fromK zss F 0 = beyM zss (fun _ => true) F := by
  funext v; unfold fromK beyM; congr 1; simp
theorem fromK_all (zss : List (List Int)) (F : List Int) : fromK zss F F.length = reachM zss F := by
  funext v; simp [fromK, reachM]
theorem fromK_succ {zss : List (List Int)} {F : List Int} {k u : Nat} (hk : k < F.length) (hu : nth F k = (u : Int)) : fromK zss F (k + 1) = mark1 (fromK zss F k) u true := by
  funext v
  have ht : F.take (k + 1) = F.take k ++ [(u : Int)] := by
    rw [List.take_add_one, List.getElem?_eq_getElem hk, ← hu, nth_eq hk]; rfl
  by_cases e : v = u
  · subst e; simp [mark1, fromK, ht]
  · have e' : (v : Int) ≠ (u : Int) := by omega
    simp [mark1, fromK, ht, e, e']

end

end Go.Proofs.Ytaoagikipbcjpaa
