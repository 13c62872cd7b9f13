/-
  Contract: the program's ReachOf.
-/
import Derived.Test.YtokcinhopajniaaGreatDoorWalks1
import Derived.Test.YtokcinhopajniaaGreatDoorCat1
namespace Go.Proofs.YtokcinhopajniaaGreatDoor
open Go.RowKit

theorem upL_mem {n : Nat} (x : Int) : x ∈ upL n ↔ ∃ i : Nat, x = (i : Int) ∧ i < n := by
  simp only [upL, List.mem_map, List.mem_range]
  constructor
  · rintro ⟨i, hi, rfl⟩; exact ⟨i, rfl, hi⟩
  · rintro ⟨i, rfl, hi⟩; exact ⟨i, hi, rfl⟩

theorem open_all {n i : Nat} (hi : i < n) : openS (upL n) n i = true := by
  have h : (upL n).take n = upL n := List.take_of_length_le (by rw [upL_len]; exact Nat.le_refl _)
  simp only [openS, h]
  exact decide_eq_true ((upL_mem _).2 ⟨i, rfl, hi⟩)

theorem newCursor_up {w : World} {an aS : Option Addr} {m n : Nat} (cn cS : Nat) (hS : IntsAt w aS (upL n)) (hn : m ≤ 1048576) (hmn : m = n) :
    Calls Tryz.prog 163 #[.slice an m cn, .slice aS n cS] w fun e w' => e = .returned (.pointer (some ⟨w.heap.size + 1, 0, none⟩)) ∧
      Cur w' (w.heap.size + 1) w.heap.size (w.heap.size + 2) m (.slice an m cn) (.slice none 0 0) (openS (upL n) n) [] ∧ Below w.heap.size w w' ∧ w'.heap.size = w.heap.size + 2 := by
  have h := newCursor_is (an := an) (n := m) cn cS hS hn (fun f hf => by rw [hmn]; exact (upL_mem f).1 hf)
  rw [upL_len] at h
  exact h

end Go.Proofs.YtokcinhopajniaaGreatDoor
