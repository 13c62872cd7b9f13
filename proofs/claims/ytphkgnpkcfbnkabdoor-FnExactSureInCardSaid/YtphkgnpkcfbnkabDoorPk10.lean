/-
  Several texts in one: LassoMath, FixedSpec, DiceSet, PlayTrue, WonMath, CheckMath, AnswerSpec.
-/
import Derived.Deep.RegionHeld3
import Derived.Test.YtphkgnpkcfbnkabDoorPk03
import Derived.Test.YtphkgnpkcfbnkabDoorParity1
import Derived.Test.YtphkgnpkcfbnkabDoorPk05
import Derived.Test.YtphkgnpkcfbnkabDoorPk09
namespace Go.Proofs.YtphkgnpkcfbnkabDoor
open Go.RowKit

/-- A play in memory whose loop's slice is no longer than its room. -/
def LassoC (w : World) (v : Value) (X Y : List Int) : Prop :=
  ∃ ax ay cx cy, v = .agg #[.slice ax X.length cx, .slice ay Y.length cy] ∧ IntsAt w ax X ∧ IntsAt w ay Y ∧ Y.length ≤ cy
theorem LassoC.at {w : World} {v : Value} {X Y : List Int} (h : LassoC w v X Y) : LassoAt w v X Y := by
  obtain ⟨ax, ay, cx, cy, hv, h1, h2, _⟩ := h
  exact ⟨ax, ay, cx, cy, hv, h1, h2⟩
theorem LassoC.below {w w' : World} {v : Value} {X Y : List Int} (h : LassoC w v X Y) (hb : Below w.heap.size w w') : LassoC w' v X Y := by
  obtain ⟨ax, ay, cx, cy, hv, h1, h2, h3⟩ := h
  exact ⟨ax, ay, cx, cy, hv, h1.below hb, h2.below hb, h3⟩
end Go.Proofs.YtphkgnpkcfbnkabDoor
namespace Go.Proofs.YtphkgnpkcfbnkabDoor
open Go.RowKit

/-- The rows behind the first k vertices: a vertex with a choice keeps that alone. -/
def fixK (zss : List (List Int)) (P : List Int) (k : Nat) : List (List Int) := rowsOf zss.length fun v => if v < k ∧ 0 ≤ nth P v then [nth P v] else row zss v
theorem fixK_len (zss : List (List Int)) (P : List Int) (k : Nat) : (fixK zss P k).length = zss.length := rowsOf_len _ _
theorem fixK_row {zss : List (List Int)} {P : List Int} {k v : Nat} (h : v < zss.length) : row (fixK zss P k) v = if v < k ∧ 0 ≤ nth P v then [nth P v] else row zss v := rowsOf_row h
theorem fixK_zero (zss : List (List Int)) (P : List Int) : fixK zss P 0 = zss := rows_ext (fixK_len _ _ _) fun i hi => by
  rw [fixK_len] at hi
  rw [fixK_row hi, if_neg (fun h => absurd h.1 (Nat.not_lt_zero _))]
theorem fixK_same {zss : List (List Int)} {P : List Int} {k : Nat} (h : nth P k < 0) : fixK zss P k = fixK zss P (k + 1) := rows_ext (by rw [fixK_len, fixK_len]) fun i hi => by
  rw [fixK_len] at hi
  rw [fixK_row hi, fixK_row hi]
  by_cases e : i = k
  · subst e; rw [if_neg (fun h' => by omega), if_neg (fun h' => by omega)]
  · by_cases hl : i < k ∧ 0 ≤ nth P i
    · rw [if_pos hl, if_pos ⟨by omega, hl.2⟩]
    · rw [if_neg hl, if_neg (fun h' => hl ⟨by omega, h'.2⟩)]
theorem fixK_put {zss : List (List Int)} {P : List Int} {k : Nat} (hk : k < zss.length) (h : 0 ≤ nth P k) : (fixK zss P k).set k [nth P k] = fixK zss P (k + 1) := rows_ext (by simp [fixK_len]) fun i hi => by
  simp [fixK_len] at hi
  rw [row_set (by rw [fixK_len]; exact hk), fixK_row hi, fixK_row hi]
  by_cases e : i = k
  · subst e; rw [if_pos rfl, if_pos ⟨by omega, h⟩]
  · rw [if_neg e]
    by_cases hl : i < k ∧ 0 ≤ nth P i
    · rw [if_pos hl, if_pos ⟨by omega, hl.2⟩]
    · rw [if_neg hl, if_neg (fun h' => hl ⟨by omega, h'.2⟩)]
theorem Half4.head {n t : Nat} {wr : World} {vo vn : Value} {V : Nat → Value} {O : List Int} {zss : List (List Int)} (h : Half4 n wr t vo vn V O zss) (h0 : 0 < zss.length) : ∃ g cap, vn = .slice (some ⟨g, 0, none⟩) zss.length cap ∧ n ≤ g := by
  rcases h.rows.own.2 with ⟨_, h1⟩ | ⟨g, cap, cur, hv, hg, _⟩
  · omega
  · exact ⟨g, cap, hv, hg⟩

end Go.Proofs.YtphkgnpkcfbnkabDoor
namespace Go.Proofs.YtphkgnpkcfbnkabDoor
section
open Go.RowKit

variable {w w' : World} {B p : Nat} {ab : Option Addr} {cb : Nat} {bs : List Int} {i : Nat} {h : Int}

end

section
open Go.RowKit

variable {w w' : World} {B p : Nat} {ab : Option Addr} {cb : Nat} {bs : List Int} {i : Nat} {h : Int}

/-- A rising list of numbers below n. -/
def UpTo (n : Int) (zs : List Int) : Prop := zs.Pairwise (· < ·) ∧ ∀ x ∈ zs, 0 ≤ x ∧ x < n

theorem UpTo.len {n : Nat} {zs : List Int} (h : UpTo n zs) : zs.length ≤ n := by
  have key : ∀ (k : Nat) (zs : List Int), UpTo k zs → zs.length ≤ k := fun k => by
    induction k with
    | zero =>
      intro zs hz
      cases zs with
      | nil => simp
      | cons x xs => have := hz.2 x (by simp); omega
    | succ k ih =>
      intro zs hz
      rcases List.eq_nil_or_concat zs with rfl | ⟨xs, x, rfl⟩
      · simp
      · have hp := hz.1
        rw [List.concat_eq_append, List.pairwise_append] at hp
        have := ih xs ⟨hp.1, fun y hy => by
          have h1 := hp.2.2 y hy x (by simp)
          have h2 := hz.2 x (by simp)
          have h3 := hz.2 y (by simp [hy])
          omega⟩
        simp; omega
  exact key n zs h

end

end Go.Proofs.YtphkgnpkcfbnkabDoor
namespace Go.Proofs.YtphkgnpkcfbnkabDoor
open Go.RowKit

section
variable {O E D : List Int} {zss : List (List Int)} {v : Int}
end

end Go.Proofs.YtphkgnpkcfbnkabDoor
namespace Go.Proofs.YtphkgnpkcfbnkabDoor
open Go.RowKit

end Go.Proofs.YtphkgnpkcfbnkabDoor
namespace Go.Proofs.YtphkgnpkcfbnkabDoor
open Go.RowKit

end Go.Proofs.YtphkgnpkcfbnkabDoor
namespace Go.Proofs.YtphkgnpkcfbnkabDoor
open Go.RowKit

end Go.Proofs.YtphkgnpkcfbnkabDoor
