/-
  The solver's game in memory; contracts: the model's l7Edge and l7Degree.
-/
import Derived.Deep.RegionHeld3
import Derived.Deep.DeepCutAuto
import Derived.Deep.AppendLies
import Derived.Test.YtihaajcmephlmaaDoorPx00
import Derived.Test.YtihaajcmephlmaaDoorPx02
import Derived.Test.YtihaajcmephlmaaDoorPx01
namespace Go.Proofs.YtihaajcmephlmaaDoor
section
open Go.RowKit

def quint (a b c d e : Value) : Nat → Value := fun i => if i = 0 then a else if i = 1 then b else if i = 2 then c else if i = 3 then d else e

/-- A box of five slices. -/
def Box5 (w : World) (g : Nat) (t : TypeId) (a b c d e : Value) : Prop := w.rowIs g t 5 (quint a b c d e)
theorem Box5.new (w : World) (T : TypeId) (a b c d e : Value) : Box5 (w.alloc (.cells #[a, b, c, d, e] T)) w.heap.size T a b c d e := by
  refine ⟨_, heap_alloc_new w _, by simp, fun j hj => ?_⟩
  have hj3 : j = 0 ∨ j = 1 ∨ j = 2 ∨ j = 3 ∨ j = 4 := by omega
  rcases hj3 with rfl | rfl | rfl | rfl | rfl <;> rfl
section
variable {w w' : World} {g : Nat} {t : TypeId} {a b c d e : Value}
theorem Box5.below (h : Box5 w g t a b c d e) (hb : Below w.heap.size w w') : Box5 w' g t a b c d e := rowIs_below h hb
theorem Box5.c0 (h : Box5 w g t a b c d e) : w.cell? ⟨g, 0, none⟩ = some a := World.rowIs.cell (i := 0) h (by omega)
theorem Box5.c1 (h : Box5 w g t a b c d e) : w.cell? ⟨g, 1, none⟩ = some b := World.rowIs.cell (i := 1) h (by omega)
theorem Box5.c2 (h : Box5 w g t a b c d e) : w.cell? ⟨g, 2, none⟩ = some c := World.rowIs.cell (i := 2) h (by omega)
theorem Box5.c3 (h : Box5 w g t a b c d e) : w.cell? ⟨g, 3, none⟩ = some d := World.rowIs.cell (i := 3) h (by omega)
theorem Box5.c4 (h : Box5 w g t a b c d e) : w.cell? ⟨g, 4, none⟩ = some e := World.rowIs.cell (i := 4) h (by omega)
theorem Box5.lt (h : Box5 w g t a b c d e) : g < w.heap.size := World.rowIs.lt h
end

/-- A struct of five slices that reads as the solver's game: owners, priorities, successors, predecessors, picks. -/
structure GameL (w : World) (ao ap an aq ak : Option Addr) (A : Nat → Option Addr) (C : Nat → Nat) (A' : Nat → Option Addr) (C' : Nat → Nat) (O P : List Int) (zss : List (List Int)) (Pk : List Int) : Prop where
  own : IntsAt w ao O
  prio : IntsAt w ap P
  next : RowsAt w an A C zss
  prev : RowsAt w aq A' C' (rowsOf zss.length fun u => predsK zss u zss.length)
  pick : IntsAt w ak Pk
theorem GameL.below {w w' : World} {ao ap an aq ak : Option Addr} {A : Nat → Option Addr} {C : Nat → Nat} {A' : Nat → Option Addr} {C' : Nat → Nat} {O P : List Int} {zss : List (List Int)} {Pk : List Int} (h : GameL w ao ap an aq ak A C A' C' O P zss Pk) (hb : Below w.heap.size w w') : GameL w' ao ap an aq ak A C A' C' O P zss Pk :=
  ⟨h.own.below hb, h.prio.below hb, h.next.below hb, h.prev.below hb, h.pick.below hb⟩

end

section
open Go.RowKit

end

section
open Go.RowKit

section
variable {zss : List (List Int)} {O Pk : List Int} {who : Int} {I G : Nat → Bool}

end

end

section
open Go.RowKit

section
variable {zss : List (List Int)} {O : List Int} {p : Nat → Int} {W : (Nat → Bool) → Nat → Bool} {I : Nat → Bool} {n : Nat} {top who : Int}

end

end

section
open Go.RowKit

end

end Go.Proofs.YtihaajcmephlmaaDoor
