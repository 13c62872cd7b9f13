/-
  Contract of chapter 5: the model's FixedBy.
-/
import Derived.Test.YtjnbpllalbfeiaaPlanSpec
import Derived.Test.YtjnbpllalbfeiaaDraw1
import Derived.Deep.RegionHeld3
namespace Go.Proofs.Ytjnbpllalbfeiaa
open Go.RowKit

/-- The rows behind the first k vertices: a vertex with a choice keeps that alone. -/
def fixK (zss : List (List Int)) (P : List Int) (k : Nat) : List (List Int) := rowsOf zss.length fun v => if v < k ∧ 0 ≤ nth P v then [nth P v] else row zss v
theorem fixK_len (zss : List (List Int)) (P : List Int) (k : Nat) : (fixK zss P k).length = zss.length := rowsOf_len _ _
theorem fixK_row {zss : List (List Int)} {P : List Int} {k v : Nat} (h : v < zss.length) : row (fixK zss P k) v = if v < k ∧ 0 ≤ nth P v then [nth P v] else row zss v := rowsOf_row h
theorem rows_ext {xs ys : List (List Int)} (hl : xs.length = ys.length) (h : ∀ i, i < xs.length → row xs i = row ys i) : xs = ys := by
  apply List.ext_getElem hl
  intro i h1 h2
  have := h i h1
  simpa [row, h1, h2] using this
theorem fixK_zero (zss : List (List Int)) (P : List Int) : fixK zss P 0 = zss := rows_ext (fixK_len _ _ _) fun i hi => by
  rw [fixK_len] at hi
  rw [fixK_row hi, if_neg (fun h => absurd h.1 (Nat.not_lt_zero _))]
theorem fixK_same {zss : List (List Int)} {P : List Int} {k : Nat} (h : nth P k < 0) : fixK zss P k = fixK zss P (k + 1) := rows_ext (by rw [fixK_len, fixK_len]) fun i hi => by
  rw [fixK_len] at hi
  rw [fixK_row hi, fixK_row hi]
  by_cases e : i = k
  · subst e; rw [if_neg (fun h' => by omega), if_neg (fun h' => by omega)]
  · by_cases hl : i < k ∧ 0 ≤ nth P i
    · rw [if_pos hl, if_pos ⟨by omega, hl.2⟩]
    · rw [if_neg hl, if_neg (fun h' => hl ⟨by omega, h'.2⟩)]
theorem fixK_put {zss : List (List Int)} {P : List Int} {k : Nat} (hk : k < zss.length) (h : 0 ≤ nth P k) : (fixK zss P k).set k [nth P k] = fixK zss P (k + 1) := rows_ext (by simp [fixK_len]) fun i hi => by
  simp [fixK_len] at hi
  rw [row_set (by rw [fixK_len]; exact hk), fixK_row hi, fixK_row hi]
  by_cases e : i = k
  · subst e; rw [if_pos rfl, if_pos ⟨by omega, h⟩]
  · rw [if_neg e]
    by_cases hl : i < k ∧ 0 ≤ nth P i
    · rw [if_pos hl, if_pos ⟨by omega, hl.2⟩]
    · rw [if_neg hl, if_neg (fun h' => hl ⟨by omega, h'.2⟩)]
/-- What FixedBy gives. -/
noncomputable def fixO (O : List Int) (zss : List (List Int)) (who : Int) (P : List Int) : List Int := if planB O zss who P = true then O else []
noncomputable def fixN (O : List Int) (zss : List (List Int)) (who : Int) (P : List Int) : List (List Int) := if planB O zss who P = true then fixK zss P zss.length else []
theorem fix_no {O fO P : List Int} {zss fN : List (List Int)} {who : Int} {r : Bool} (hr : fixO O zss who P = fO ∧ fixN O zss who P = fN ∧ planB O zss who P = r) (h : planB O zss who P = false) : fO = [] ∧ fN = [] ∧ r = false := by
  obtain ⟨rfl, rfl, rfl⟩ := hr
  unfold fixO fixN; rw [h]; simp
theorem fix_yes {O fO P : List Int} {zss fN : List (List Int)} {who : Int} {r : Bool} (hr : fixO O zss who P = fO ∧ fixN O zss who P = fN ∧ planB O zss who P = r) (h : planB O zss who P = true) : fO = O ∧ fN = fixK zss P zss.length ∧ r = true := by
  obtain ⟨rfl, rfl, rfl⟩ := hr
  unfold fixO fixN; rw [h]; simp
theorem cell_other {w : World} {p q : Addr} {v : Value} (h : w.cell? p = some v) (hne : p.block ≠ q.block) (u : Value) : (w.setCell q u).cell? p = some v :=
  (World.cell?_of_block (Below.heap_setCell _ _ _ _ hne)).trans h
theorem Half4.head {n t : Nat} {wr : World} {vo vn : Value} {V : Nat → Value} {O : List Int} {zss : List (List Int)} (h : Half4 n wr t vo vn V O zss) (h0 : 0 < zss.length) : ∃ g cap, vn = .slice (some ⟨g, 0, none⟩) zss.length cap ∧ n ≤ g := by
  rcases h.rows.own.2 with ⟨_, h1⟩ | ⟨g, cap, cur, hv, hg, _⟩
  · omega
  · exact ⟨g, cap, hv, hg⟩

end Go.Proofs.Ytjnbpllalbfeiaa
