/-
  A play in memory: a stem and a loop. No program text.
-/
import Derived.Test.YtjnbpllalbfeiaaBase1
import Derived.Test.YtjnbpllalbfeiaaWalks1
namespace Go.Proofs.Ytjnbpllalbfeiaa
open Go.RowKit

/-- A struct of two slices that reads as a play. -/
def LassoAt (w : World) (v : Value) (X Y : List Int) : Prop :=
  ∃ ax ay cx cy, v = .agg #[.slice ax X.length cx, .slice ay Y.length cy] ∧ IntsAt w ax X ∧ IntsAt w ay Y
theorem LassoAt.below {w w' : World} {v : Value} {X Y : List Int} (h : LassoAt w v X Y) (hb : Below w.heap.size w w') : LassoAt w' v X Y := by
  obtain ⟨ax, ay, cx, cy, hv, h1, h2⟩ := h
  exact ⟨ax, ay, cx, cy, hv, h1.below hb, h2.below hb⟩

/-- The struct v owns a play. -/
def OwnLasso (w : World) (B D : Nat) (v : Value) (X Y : List Int) : Prop :=
  ∃ vx vy, v = .agg #[vx, vy] ∧ OwnInts w B D vx X ∧ OwnInts w B D vy Y ∧ ∀ g, vx.ownBlock = some g → vy.ownBlock ≠ some g

section
variable {w w' : World} {B B' D : Nat} {v : Value} {X Y : List Int}
theorem OwnLasso.at (h : OwnLasso w B D v X Y) : LassoAt w v X Y := by
  obtain ⟨vx, vy, rfl, h1, h2, _⟩ := h
  obtain ⟨a, c, rfl, hi, _⟩ := h1.shape
  obtain ⟨b, d, rfl, hj, _⟩ := h2.shape
  exact ⟨_, _, _, _, rfl, hi, hj⟩
theorem OwnLasso.only {S : Nat → Prop} (h : OwnLasso w B D v X Y) (hk : Only S w w') (hs : ∀ g, B ≤ g → g < D → ¬ S g) : OwnLasso w' B D v X Y := by
  obtain ⟨vx, vy, hv, h1, h2, h3⟩ := h
  exact ⟨vx, vy, hv, h1.only hk (fun g hg => hs g (h1.own.lt g hg).1 (h1.top g hg)), h2.only hk (fun g hg => hs g (h2.own.lt g hg).1 (h2.top g hg)), h3⟩
theorem OwnLasso.below (h : OwnLasso w B D v X Y) (hb : Below w.heap.size w w') : OwnLasso w' B D v X Y := by
  obtain ⟨vx, vy, hv, h1, h2, h3⟩ := h
  exact ⟨vx, vy, hv, h1.below hb, h2.below hb, h3⟩
theorem OwnLasso.base (h : OwnLasso w B D v X Y) (hB : B' ≤ B) : OwnLasso w B' D v X Y := by
  obtain ⟨vx, vy, hv, h1, h2, h3⟩ := h
  exact ⟨vx, vy, hv, h1.base hB, h2.base hB, h3⟩
theorem OwnLasso.retop (h : OwnLasso w B D v X Y) : OwnLasso w B w.heap.size v X Y := by
  obtain ⟨vx, vy, hv, h1, h2, h3⟩ := h
  exact ⟨vx, vy, hv, h1.retop, h2.retop, h3⟩
theorem OwnLasso.zero (w : World) (B D : Nat) : OwnLasso w B D (.agg #[.slice none 0 0, .slice none 0 0]) [] [] :=
  ⟨_, _, rfl, OwnInts.nil _ _ _, OwnInts.nil _ _ _, fun g hg => by simp [Value.ownBlock] at hg⟩
theorem OwnLasso.shape (h : OwnLasso w B D v X Y) : ∃ a0 c0 a1 c1, v = .agg #[.slice a0 X.length c0, .slice a1 Y.length c1] := by
  obtain ⟨ax, ay, cx, cy, hv, _⟩ := h.at
  exact ⟨_, _, _, _, hv⟩
/-- Two slices of numbers of one's own, one made behind the other. -/
theorem OwnLasso.of_parts {vx vy : Value} {M : Nat} (h : OwnInts w B M vx X) (hp : OwnInts w M D vy Y) (hBM : B ≤ M) (hMD : M ≤ D) : OwnLasso w B D (.agg #[vx, vy]) X Y :=
  ⟨_, _, rfl, ⟨h.own, fun g hg => by have := h.top g hg; omega, h.len, h.fits⟩, hp.base hBM, fun g hg hh => by
    have := h.top g hg
    have := (hp.own.lt g hh).1
    omega⟩
end

/-- A call hands back a play of its own. -/
def GivesLasso (w : World) (X Y : List Int) (e : Ending) (w' : World) : Prop :=
  ∃ v, e = .returned v ∧ OwnLasso w' w.heap.size w'.heap.size v X Y ∧ Below w.heap.size w w'
/-- A call hands back a play of its own and a bool. -/
def GivesLassoB (w : World) (X Y : List Int) (r : Bool) (e : Ending) (w' : World) : Prop :=
  ∃ v, e = .returned (.tuple #[v, .bool r]) ∧ OwnLasso w' w.heap.size w'.heap.size v X Y ∧ Below w.heap.size w w'

theorem zero_stored2 {w wr : World} {r : Nat} (hb : Below w.heap.size w wr) (hr : w.heap.size ≤ r) : Below w.heap.size w ((wr.setCell ⟨r, 0, none⟩ (.slice none 0 0)).setCell ⟨r, 1, none⟩ (.slice none 0 0)) :=
  (hb.setCell (p := ⟨r, 0, none⟩) hr _).setCell (p := ⟨r, 1, none⟩) hr _

end Go.Proofs.Ytjnbpllalbfeiaa
