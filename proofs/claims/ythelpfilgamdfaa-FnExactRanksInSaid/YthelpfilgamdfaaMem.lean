/-
  Words for what the calls read in memory: a slice of numbers, a slice of such slices. No program text.
-/
import Derived.WalkKit
import Derived.WalkSpells
import Derived.WalkLawsBesides
namespace Go.Proofs.Ythelpfilgamdfaa
open Go.RowKit

/-- Element k of a list of numbers. -/
def nth (zs : List Int) (k : Nat) : Int := zs.getD k 0
/-- Row k of a list of rows. -/
def row (zss : List (List Int)) (k : Nat) : List Int := zss.getD k []

theorem nth_eq {zs : List Int} {k : Nat} (h : k < zs.length) : nth zs k = zs[k] := by simp [nth, h]
theorem row_eq {zss : List (List Int)} {k : Nat} (h : k < zss.length) : row zss k = zss[k] := by simp [row, h]

def Fits (z : Int) : Prop := -9223372036854775808 ≤ z ∧ z ≤ 9223372036854775807

/-- A slice whose address is a reads in w as the numbers zs. -/
structure IntsAt (w : World) (a : Option Addr) (zs : List Int) : Prop where
  len : zs.length ≤ 17592186044416
  fits : ∀ k, k < zs.length → Fits (nth zs k)
  cell : 0 < zs.length → ∃ b off, a = some ⟨b, off, none⟩ ∧ ∀ k, k < zs.length → w.cell? ⟨b, off + k, none⟩ = some (.int .i64 (nth zs k))

/-- A slice whose address is a reads in w as the rows zss; row k has the address A k and the capacity C k. -/
structure RowsAt (w : World) (a : Option Addr) (A : Nat → Option Addr) (C : Nat → Nat) (zss : List (List Int)) : Prop where
  len : zss.length ≤ 17592186044416
  cell : 0 < zss.length → ∃ b off, a = some ⟨b, off, none⟩ ∧ ∀ k, k < zss.length → w.cell? ⟨b, off + k, none⟩ = some (.slice (A k) (row zss k).length (C k))
  rows : ∀ k, k < zss.length → IntsAt w (A k) (row zss k)

theorem Below.cell_some {B : Nat} {w w' : World} (h : Below w.heap.size w w') (_hB : B = B) {p : Addr} {v : Value} (hc : w.cell? p = some v) : w'.cell? p = some v :=
  (h.cell (World.block_lt_of_cell? w p hc)).trans hc

theorem IntsAt.below {w w' : World} {a : Option Addr} {zs : List Int} (h : IntsAt w a zs) (hb : Below w.heap.size w w') : IntsAt w' a zs :=
  ⟨h.len, h.fits, fun h0 => by
    obtain ⟨b, off, ha, hc⟩ := h.cell h0
    exact ⟨b, off, ha, fun k hk => Below.cell_some (B := 0) hb rfl (hc k hk)⟩⟩

theorem RowsAt.below {w w' : World} {a : Option Addr} {A : Nat → Option Addr} {C : Nat → Nat} {zss : List (List Int)} (h : RowsAt w a A C zss) (hb : Below w.heap.size w w') : RowsAt w' a A C zss :=
  ⟨h.len, fun h0 => by
    obtain ⟨b, off, ha, hc⟩ := h.cell h0
    exact ⟨b, off, ha, fun k hk => Below.cell_some (B := 0) hb rfl (hc k hk)⟩, fun k hk => (h.rows k hk).below hb⟩

/-- Block g is a box of two cells. -/
def Box2 (w : World) (g : Nat) (t : TypeId) (u v : Value) : Prop := w.heap[g]? = some (.cells #[u, v] t (0, 0))

theorem Box2.lt {w : World} {g : Nat} {t : TypeId} {u v : Value} (h : Box2 w g t u v) : g < w.heap.size := (Array.getElem?_eq_some_iff.1 h).1
theorem Box2.cell0 {w : World} {g : Nat} {t : TypeId} {u v : Value} (h : Box2 w g t u v) : w.cell? ⟨g, 0, none⟩ = some u := by unfold Box2 at h; simp [World.cell?, h]
theorem Box2.cell1 {w : World} {g : Nat} {t : TypeId} {u v : Value} (h : Box2 w g t u v) : w.cell? ⟨g, 1, none⟩ = some v := by unfold Box2 at h; simp [World.cell?, h]
theorem Box2.frozen {w : World} {g : Nat} {t : TypeId} {u v : Value} (h : Box2 w g t u v) (k : Nat) : w.frozen? ⟨g, k, none⟩ = false := by unfold Box2 at h; simp [World.frozen?, h]
theorem Box2.below {w w' : World} {g : Nat} {t : TypeId} {u v : Value} (h : Box2 w g t u v) (hb : Below w.heap.size w w') : Box2 w' g t u v := (hb.block g h.lt).trans h
theorem Box2.alloc {w : World} {g : Nat} {t : TypeId} {u v : Value} (h : Box2 w g t u v) (o : Obj) : Box2 (w.alloc o) g t u v := h.below ((Below.refl _ _).alloc (Nat.le_refl _) _)
theorem Box2.new (w : World) (t : TypeId) (u v : Value) : Box2 (w.alloc (.cells #[u, v] t)) w.heap.size t u v := heap_alloc_new w _
theorem Box2.new_at {w : World} {g : Nat} (hg : g = w.heap.size) (t : TypeId) (u v : Value) : Box2 (w.alloc (.cells #[u, v] t)) g t u v := by subst hg; exact heap_alloc_new w _
theorem Box2.other {w : World} {g : Nat} {t : TypeId} {u v : Value} (h : Box2 w g t u v) {a : Addr} (hn : g ≠ a.block) (x : Value) : Box2 (w.setCell a x) g t u v := (Below.heap_setCell w a x g hn).trans h
theorem Box2.set0 {w : World} {g : Nat} {t : TypeId} {u v : Value} (h : Box2 w g t u v) (x : Value) : Box2 (w.setCell ⟨g, 0, none⟩ x) g t x v := by
  unfold Box2 at *; simp [World.setCell, Array.getElem?_modify, h]
theorem Box2.set1 {w : World} {g : Nat} {t : TypeId} {u v : Value} (h : Box2 w g t u v) (x : Value) : Box2 (w.setCell ⟨g, 1, none⟩ x) g t u x := by
  unfold Box2 at *; simp [World.setCell, Array.getElem?_modify, h]

theorem IntsAt.alloc {w : World} {a : Option Addr} {zs : List Int} (h : IntsAt w a zs) (o : Obj) : IntsAt (w.alloc o) a zs := h.below ((Below.refl _ _).alloc (Nat.le_refl _) _)
theorem RowsAt.alloc {w : World} {a : Option Addr} {A : Nat → Option Addr} {C : Nat → Nat} {zss : List (List Int)} (h : RowsAt w a A C zss) (o : Obj) : RowsAt (w.alloc o) a A C zss := h.below ((Below.refl _ _).alloc (Nat.le_refl _) _)
theorem below1 (w : World) (o : Obj) : Below w.heap.size w (w.alloc o) := (Below.refl _ _).alloc (Nat.le_refl _) _
theorem below2 (w : World) (o o' : Obj) : Below w.heap.size w ((w.alloc o).alloc o') := ((Below.refl _ _).alloc (Nat.le_refl _) o).alloc (by simp) o'
theorem ret_bool {a b : Bool} (h : a = b) : Ending.returned (.bool a) = .returned (.bool b) := by rw [h]
theorem ret_i64 {a b : Int} (h : a = b) : Ending.returned (.int .i64 a) = .returned (.int .i64 b) := by rw [h]

/-- A struct of two slices that reads as an arena. -/
def ArenaAt (w : World) (v : Value) (O : List Int) (zss : List (List Int)) : Prop :=
  ∃ ao an co cn A C, v = .agg #[.slice ao O.length co, .slice an zss.length cn] ∧ IntsAt w ao O ∧ RowsAt w an A C zss

theorem ArenaAt.below {w w' : World} {v : Value} {O : List Int} {zss : List (List Int)} (h : ArenaAt w v O zss) (hb : Below w.heap.size w w') : ArenaAt w' v O zss := by
  obtain ⟨ao, an, co, cn, A, C, hv, h1, h2⟩ := h
  exact ⟨ao, an, co, cn, A, C, hv, h1.below hb, h2.below hb⟩
theorem ArenaAt.alloc {w : World} {v : Value} {O : List Int} {zss : List (List Int)} (h : ArenaAt w v O zss) (o : Obj) : ArenaAt (w.alloc o) v O zss := h.below (below1 _ _)

end Go.Proofs.Ythelpfilgamdfaa
