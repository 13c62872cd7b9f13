/-
  Contracts of the laws' own helpers for games: toParity, szParity, eqParity, markParity, heldParity.
-/
import Derived.Test.YtokcinhopajniaaGreatDoorParity
import Derived.Test.YtokcinhopajniaaGreatDoorBase1
import Derived.Test.YtokcinhopajniaaGreatDoorLoops
import Derived.Test.YtokcinhopajniaaGreatDoorParity1
namespace Go.Proofs.YtokcinhopajniaaGreatDoor
section
open Go.RowKit

theorem Box3.set0 {w : World} {g : Nat} {T : TypeId} {a b c : Value} (h : Box3 w g T a b c) (x : Value) : Box3 (w.setCell ⟨g, 0, none⟩ x) g T x b c :=
  World.rowIs.congr (h.set 0 x) fun i hi => by
    by_cases h : i = 0 <;> simp [tri, h]
theorem Box3.set1 {w : World} {g : Nat} {T : TypeId} {a b c : Value} (h : Box3 w g T a b c) (x : Value) : Box3 (w.setCell ⟨g, 1, none⟩ x) g T a x c :=
  World.rowIs.congr (h.set 1 x) fun i hi => by
    have h3 : i = 0 ∨ i = 1 ∨ i = 2 := by omega
    rcases h3 with rfl | rfl | rfl <;> simp [tri]
theorem Box3.set2 {w : World} {g : Nat} {T : TypeId} {a b c : Value} (h : Box3 w g T a b c) (x : Value) : Box3 (w.setCell ⟨g, 2, none⟩ x) g T a b x :=
  World.rowIs.congr (h.set 2 x) fun i hi => by
    have h3 : i = 0 ∨ i = 1 ∨ i = 2 := by omega
    rcases h3 with rfl | rfl | rfl <;> simp [tri]
theorem Box3.frozen {w : World} {g : Nat} {T : TypeId} {a b c : Value} (h : Box3 w g T a b c) (i : Nat) : w.frozen? ⟨g, i, none⟩ = false := World.rowIs.frozen h i
theorem Box3.other {w : World} {g : Nat} {T : TypeId} {a b c : Value} (h : Box3 w g T a b c) {p : Addr} (hp : g ≠ p.block) (x : Value) : Box3 (w.setCell p x) g T a b c := World.rowIs.setOther h hp x
theorem Box3.alloc {w : World} {g : Nat} {T : TypeId} {a b c : Value} (h : Box3 w g T a b c) (o : Obj) : Box3 (w.alloc o) g T a b c := h.below (below1 w o)
theorem Box3.new_at {w : World} {g : Nat} (hg : g = w.heap.size) (T : TypeId) (a b c : Value) : Box3 (w.alloc (.cells #[a, b, c] T)) g T a b c := by subst hg; exact Box3.new _ _ _ _ _

theorem Box3.only {w w' : World} {g : Nat} {t : TypeId} {a b c : Value} {S : Nat → Prop} (h : Box3 w g t a b c) (hk : Only S w w') (hs : ¬ S g) : Box3 w' g t a b c := rowIs_only h hk hs
theorem Box3.not_own {w : World} {g : Nat} {t e : TypeId} {a b c x : Value} {B size n : Nat} {xs : List Value} (h : Box3 w g t a b c) (ho : w.ownsRow B e size x n xs) (hte : e ≠ t) : x.ownBlock ≠ some g := rowIs_not_own h ho hte

end

section
open Go.RowKit

end

end Go.Proofs.YtokcinhopajniaaGreatDoor
