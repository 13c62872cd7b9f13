import Derived.Deep.AppendLies
import Derived.Deep.RegionHeld3
import Derived.Test.YtglbkbiphcgidaaDoorPm02
import Derived.Test.YtglbkbiphcgidaaDoorPm04
import Derived.Test.YtglbkbiphcgidaaDoorPm06
namespace Go.Proofs.YtglbkbiphcgidaaDoor
section
open Go.RowKit
end
section
open Go.RowKit
def Gj (wr : World) (n : Nat) (A : Nat → Option Addr) (C : Nat → Nat) (ah : List (List Int)) (Q : List Int) (k : Nat) (V : Nat → Value) : Prop :=
 ∀ j, j < k → if 0 ≤ nth Q j then aF wr n wr.heap.size (V j) [nth Q j] else V j = .slice (A j) (row ah j).length (C j)
theorem Gj.only {wr w' : World} {n k : Nat} {A : Nat → Option Addr} {C : Nat → Nat} {ah : List (List Int)} {Q : List Int} {V : Nat → Value} {S : Nat → Prop} (h : Gj wr n A C ah Q k V) (hk : Only S wr w')
 (hs : ∀ j, j < k → 0 ≤ nth Q j → ∀ g, (V j).ownBlock = some g → ¬ S g) : Gj w' n A C ah Q k V := fun j hj => by
 have := h j hj
 by_cases h0 : 0 ≤ nth Q j
 · rw [if_pos h0] at this ⊢
   exact (this.only hk (hs j hj h0)).bg
 · rw [if_neg h0] at this ⊢
   exact this
theorem Gj.push {wr w5 : World} {n k m : Nat} {A : Nat → Option Addr} {C : Nat → Nat} {ah : List (List Int)} {Q : List Int} {V : Nat → Value} {u uu : Value} {xs : List Value} (h : Gj wr n A C ah Q k V) (ho : wr.ownsRow n 22 1 uu m xs)
 (hu : if 0 ≤ nth Q k then aF wr n wr.heap.size u [nth Q k] else u = .slice (A k) (row ah k).length (C k)) (hg : Only (fun b => uu.ownBlock = some b) wr w5) : Gj w5 n A C ah Q (k + 1) (fun j => if j = k then u else V j) := fun j hj => by
 by_cases e : j = k
 · subst e
   simp only [if_true]
   by_cases h0 : 0 ≤ nth Q j
   · rw [if_pos h0] at hu ⊢
     exact (hu.only hg (fun g h1 h2 => iV ho hu.own g h2 h1)).bg
   · rw [if_neg h0] at hu ⊢
     exact hu
 · simp only [if_neg e]
   have hr := h j (by omega)
   by_cases h0 : 0 ≤ nth Q j
   · rw [if_pos h0] at hr ⊢
     exact (hr.only hg (fun g h1 h2 => iV ho hr.own g h2 h1)).bg
   · rw [if_neg h0] at hr ⊢
     exact hr
end
section
open Go.RowKit
end
section
open Go.RowKit
end
end Go.Proofs.YtglbkbiphcgidaaDoor
