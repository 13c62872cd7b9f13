/-
  Several texts in one: WonIn, PlanSpec, PlayMath, Lasso, LassoMath, FixedSpec, PlayTrue, WonMath, CheckMath.
-/
import Derived.Deep.RegionHeld3
import Derived.Test.YtphkgnpkcfbnkaaDoorPk01
import Derived.Test.YtphkgnpkcfbnkaaDoorPk02
import Derived.Test.YtphkgnpkcfbnkaaDoorPk03
import Derived.Test.YtphkgnpkcfbnkaaDoorPk04
import Derived.Test.YtphkgnpkcfbnkaaDoorPk05
import Derived.Test.YtphkgnpkcfbnkaaDoorPk06
import Derived.Test.YtphkgnpkcfbnkaaDoorPk07
namespace Go.Proofs.YtphkgnpkcfbnkaaDoor
section
open Go.RowKit

/-- All vertices. -/
def allI (n : Nat) : Nat → Bool := fun v => decide (v < n)
/-- The vertices that player 0 wins. -/
noncomputable def wonZ (zss : List (List Int)) (O P : List Int) : Nat → Bool := winZ zss O (nth P) zss.length (allI zss.length)

section
variable {zss : List (List Int)} {O P : List Int}

theorem arena_rows (h : ArenaP O zss) {v : Nat} (hv : v < zss.length) : (nth O v = 0 ∨ nth O v = 1) ∧ 1 ≤ (row zss v).length ∧ (row zss v).length ≤ 16 := by
  have h1 := h.2.2.2 v (by rw [← h.2.2.1]; exact hv)
  exact ⟨h1.1, h1.2.1, h1.2.2.1⟩
theorem total_all (h : ArenaP O zss) : TotalP zss (allI zss.length) := fun v hv _ => by
  have h1 := arena_rows h hv
  have hm := nth_mem (zs := row zss v) (k := 0) (by omega)
  obtain ⟨u, hu, hun⟩ := (rowsP_of h).inG v hv _ hm
  exact ⟨_, hm, by rw [hu, Int.toNat_natCast]; simp [allI, hun]⟩
end
end

section
open Go.RowKit

theorem none_nth {n v : Nat} (h : v < n) : nth (List.replicate n (-1 : Int)) v = -1 := by simp [nth, h]
theorem ints_none {w : World} {k n : Nat} (h : w.rowIs k 2 n (fun _ => .int .i64 (-1))) (hn : n ≤ 256) : IntsAt w (some ⟨k, 0, none⟩) (List.replicate n (-1)) := by
  refine ⟨by simp; omega, fun j hj => ?_, fun _ => ⟨k, 0, rfl, fun j hj => ?_⟩⟩
  · have hj' : j < n := by simpa using hj
    rw [none_nth hj']; unfold Fits; omega
  · have hj' : j < n := by simpa using hj
    rw [Nat.zero_add, none_nth hj']
    exact h.cell hj'
theorem zssE_none {zss : List (List Int)} : zssE zss (List.replicate zss.length (-1)) = zss := by
  refine List.ext_getElem (by rw [zssE_len]) fun v h1 h2 => ?_
  have e1 : (zssE zss (List.replicate zss.length (-1)))[v] = row (zssE zss (List.replicate zss.length (-1))) v := by simp [row, h1]
  have e2 : zss[v] = row zss v := by simp [row, h2]
  rw [e1, e2, zssE_row h2]
  refine List.filter_eq_self.2 fun x _ => ?_
  unfold pickB
  rw [none_nth h2]; rfl
theorem up_mem {n : Nat} : ∀ x ∈ upL n, ∃ u : Nat, x = (u : Int) ∧ u < n := fun x hx => by
  obtain ⟨k, hk, e⟩ := mem_nth.1 hx
  rw [upL_len] at hk
  rw [upL_nth hk] at e
  exact ⟨k, e.symm, hk⟩
/-- Rows of the predecessors, as the solver reads them. -/
theorem prev_rows {w : World} {B g n : Nat} {V : Nat → Value} {R : Nat → List Int} (h : RowSet w B g n V R) (hn : n ≤ 256) : RowsAt w (some ⟨g, 0, none⟩) (fun k => addrOf (V k)) (fun k => capOf (V k)) (rowsOf n R) := by
  have hl := rowsOf_len n R
  refine ⟨by omega, fun _ => ⟨g, 0, rfl, fun k hk => ?_⟩, fun k hk => ?_⟩
  · rw [hl] at hk
    obtain ⟨a, cap, hv, _, _⟩ := (h.rows k hk).shape
    rw [rowsOf_row hk, Nat.zero_add, h.own.cellAt k (by omega)]
    simp [hk, hv, addrOf, capOf]
  · rw [hl] at hk
    obtain ⟨a, cap, hv, hi, _⟩ := (h.rows k hk).shape
    rw [rowsOf_row hk, hv]
    exact hi

theorem rowset_base {w : World} {B B' q n : Nat} {V : Nat → Value} {R : Nat → List Int} (h : RowSet w B q n V R) (hB : B' ≤ B) : RowSet w B' q n V R :=
  ⟨ownsRow_base h.own hB, fun u hu => (h.rows u hu).base hB, h.apart⟩

end

end Go.Proofs.YtphkgnpkcfbnkaaDoor
namespace Go.Proofs.YtphkgnpkcfbnkaaDoor
open Go.RowKit

end Go.Proofs.YtphkgnpkcfbnkaaDoor
namespace Go.Proofs.YtphkgnpkcfbnkaaDoor
open Go.RowKit

section
variable {O E D : List Int} {zss : List (List Int)} {v : Int}
end

end Go.Proofs.YtphkgnpkcfbnkaaDoor
namespace Go.Proofs.YtphkgnpkcfbnkaaDoor
open Go.RowKit

/-- A struct of two slices that reads as a play. -/
def LassoAt (w : World) (v : Value) (X Y : List Int) : Prop :=
  ∃ ax ay cx cy, v = .agg #[.slice ax X.length cx, .slice ay Y.length cy] ∧ IntsAt w ax X ∧ IntsAt w ay Y
theorem LassoAt.below {w w' : World} {v : Value} {X Y : List Int} (h : LassoAt w v X Y) (hb : Below w.heap.size w w') : LassoAt w' v X Y := by
  obtain ⟨ax, ay, cx, cy, hv, h1, h2⟩ := h
  exact ⟨ax, ay, cx, cy, hv, h1.below hb, h2.below hb⟩

/-- The struct v owns a play. -/
def OwnLasso (w : World) (B D : Nat) (v : Value) (X Y : List Int) : Prop :=
  ∃ vx vy, v = .agg #[vx, vy] ∧ OwnInts w B D vx X ∧ OwnInts w B D vy Y ∧ ∀ g, vx.ownBlock = some g → vy.ownBlock ≠ some g

section
variable {w w' : World} {B B' D : Nat} {v : Value} {X Y : List Int}
theorem OwnLasso.at (h : OwnLasso w B D v X Y) : LassoAt w v X Y := by
  obtain ⟨vx, vy, rfl, h1, h2, _⟩ := h
  obtain ⟨a, c, rfl, hi, _⟩ := h1.shape
  obtain ⟨b, d, rfl, hj, _⟩ := h2.shape
  exact ⟨_, _, _, _, rfl, hi, hj⟩
theorem OwnLasso.only {S : Nat → Prop} (h : OwnLasso w B D v X Y) (hk : Only S w w') (hs : ∀ g, B ≤ g → g < D → ¬ S g) : OwnLasso w' B D v X Y := by
  obtain ⟨vx, vy, hv, h1, h2, h3⟩ := h
  exact ⟨vx, vy, hv, h1.only hk (fun g hg => hs g (h1.own.lt g hg).1 (h1.top g hg)), h2.only hk (fun g hg => hs g (h2.own.lt g hg).1 (h2.top g hg)), h3⟩
theorem OwnLasso.below (h : OwnLasso w B D v X Y) (hb : Below w.heap.size w w') : OwnLasso w' B D v X Y := by
  obtain ⟨vx, vy, hv, h1, h2, h3⟩ := h
  exact ⟨vx, vy, hv, h1.below hb, h2.below hb, h3⟩
theorem OwnLasso.base (h : OwnLasso w B D v X Y) (hB : B' ≤ B) : OwnLasso w B' D v X Y := by
  obtain ⟨vx, vy, hv, h1, h2, h3⟩ := h
  exact ⟨vx, vy, hv, h1.base hB, h2.base hB, h3⟩
theorem OwnLasso.retop (h : OwnLasso w B D v X Y) : OwnLasso w B w.heap.size v X Y := by
  obtain ⟨vx, vy, hv, h1, h2, h3⟩ := h
  exact ⟨vx, vy, hv, h1.retop, h2.retop, h3⟩
theorem OwnLasso.zero (w : World) (B D : Nat) : OwnLasso w B D (.agg #[.slice none 0 0, .slice none 0 0]) [] [] :=
  ⟨_, _, rfl, OwnInts.nil _ _ _, OwnInts.nil _ _ _, fun g hg => by simp [Value.ownBlock] at hg⟩
theorem OwnLasso.shape (h : OwnLasso w B D v X Y) : ∃ a0 c0 a1 c1, v = .agg #[.slice a0 X.length c0, .slice a1 Y.length c1] := by
  obtain ⟨ax, ay, cx, cy, hv, _⟩ := h.at
  exact ⟨_, _, _, _, hv⟩
/-- Two slices of numbers of one's own, one made behind the other. -/
theorem OwnLasso.of_parts {vx vy : Value} {M : Nat} (h : OwnInts w B M vx X) (hp : OwnInts w M D vy Y) (hBM : B ≤ M) (hMD : M ≤ D) : OwnLasso w B D (.agg #[vx, vy]) X Y :=
  ⟨_, _, rfl, ⟨h.own, fun g hg => by have := h.top g hg; omega, h.len, h.fits⟩, hp.base hBM, fun g hg hh => by
    have := h.top g hg
    have := (hp.own.lt g hh).1
    omega⟩
end

end Go.Proofs.YtphkgnpkcfbnkaaDoor
namespace Go.Proofs.YtphkgnpkcfbnkaaDoor
open Go.RowKit

/-- A play in memory whose loop's slice is no longer than its room. -/
def LassoC (w : World) (v : Value) (X Y : List Int) : Prop :=
  ∃ ax ay cx cy, v = .agg #[.slice ax X.length cx, .slice ay Y.length cy] ∧ IntsAt w ax X ∧ IntsAt w ay Y ∧ Y.length ≤ cy
theorem LassoC.at {w : World} {v : Value} {X Y : List Int} (h : LassoC w v X Y) : LassoAt w v X Y := by
  obtain ⟨ax, ay, cx, cy, hv, h1, h2, _⟩ := h
  exact ⟨ax, ay, cx, cy, hv, h1, h2⟩
theorem LassoC.below {w w' : World} {v : Value} {X Y : List Int} (h : LassoC w v X Y) (hb : Below w.heap.size w w') : LassoC w' v X Y := by
  obtain ⟨ax, ay, cx, cy, hv, h1, h2, h3⟩ := h
  exact ⟨ax, ay, cx, cy, hv, h1.below hb, h2.below hb, h3⟩
end Go.Proofs.YtphkgnpkcfbnkaaDoor
namespace Go.Proofs.YtphkgnpkcfbnkaaDoor
open Go.RowKit

theorem Half4.head {n t : Nat} {wr : World} {vo vn : Value} {V : Nat → Value} {O : List Int} {zss : List (List Int)} (h : Half4 n wr t vo vn V O zss) (h0 : 0 < zss.length) : ∃ g cap, vn = .slice (some ⟨g, 0, none⟩) zss.length cap ∧ n ≤ g := by
  rcases h.rows.own.2 with ⟨_, h1⟩ | ⟨g, cap, cur, hv, hg, _⟩
  · omega
  · exact ⟨g, cap, hv, hg⟩

end Go.Proofs.YtphkgnpkcfbnkaaDoor
namespace Go.Proofs.YtphkgnpkcfbnkaaDoor
open Go.RowKit

section
variable {O E D : List Int} {zss : List (List Int)} {v : Int}
end

end Go.Proofs.YtphkgnpkcfbnkaaDoor
namespace Go.Proofs.YtphkgnpkcfbnkaaDoor
open Go.RowKit

end Go.Proofs.YtphkgnpkcfbnkaaDoor
namespace Go.Proofs.YtphkgnpkcfbnkaaDoor
open Go.RowKit

end Go.Proofs.YtphkgnpkcfbnkaaDoor
