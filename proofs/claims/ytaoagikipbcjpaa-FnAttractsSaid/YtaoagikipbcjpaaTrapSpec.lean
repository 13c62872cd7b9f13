/-
  Contracts: the model's EscapesIn and TrapIn.
-/
import Derived.Test.YtaoagikipbcjpaaAttractsSpec
namespace Go.Proofs.Ytaoagikipbcjpaa
open Go.RowKit

/-- Does a vertex stay, by its successors? -/
def staysF (own : Bool) (I : Nat → Bool) : Bool → List Int → Bool
  | s, [] => s
  | s, u :: us => if I u.toNat = false ∧ own = true then false else staysF own I (s || I u.toNat) us

def escB (O : List Int) (zss : List (List Int)) (who : Int) (S : List Int) : Int → Bool := fun x => !staysF (ownB O who x.toNat) (openS S S.length) false (row zss x.toNat)
noncomputable def escapesL (O : List Int) (zss : List (List Int)) (who : Int) (S : List Int) : List Int := if okB O zss who S = true then S.filter (escB O zss who S) else []
noncomputable def trapB (O : List Int) (zss : List (List Int)) (who : Int) (S : List Int) : Bool := okB O zss who S && decide ((escapesL O zss who S).length = 0)

theorem filter_step (p : Int → Bool) {S : List Int} {k : Nat} (h : k < S.length) : (S.take (k + 1)).filter p = (S.take k).filter p ++ (if p (nth S k) = true then [nth S k] else []) := by
  rw [List.take_add_one, List.getElem?_eq_getElem h, List.filter_append, nth_eq h]
  congr 1
  simp [List.filter_cons]
theorem Only.later3 {S T : Nat → Prop} {a b c : World} (h : Only S a b) (k : Only T b c) (hT : ∀ i, T i → S i ∨ a.heap.size ≤ i) : Only S a c :=
  ⟨k.os.trans h.os, k.tape.trans h.tape, k.output.trans h.output, Nat.le_trans h.size k.size, fun i hi hs => (k.block i (Nat.lt_of_lt_of_le hi h.size) (fun ht => by rcases hT i ht with h1 | h1 <;> first | exact hs h1 | omega)).trans (h.block i hi hs)⟩

end Go.Proofs.Ytaoagikipbcjpaa
