/-
  Contracts: two slices alike (the model's l1Same, slices.Equal, slices.EqualFunc over it), SameArena and its model.
-/
import Derived.Test.YtokcinhopajniaaGreatDoorSpecArena
namespace Go.Proofs.YtokcinhopajniaaGreatDoor
open Go.RowKit

set_option maxHeartbeats 1000000 in
theorem l1Same_is {a c : Option Addr} {zs ys : List Int} {r : Bool} (hr : decide (zs = ys) = r) (w : World) (ca cc : Nat) (ha : IntsAt w a zs) (hc : IntsAt w c ys) :
    Calls Tryz.prog 158 #[.slice a zs.length ca, .slice c ys.length cc] w fun e w' => e = .returned (.bool r) ∧ ∃ q, w' = w.drewN q := by
  have hlen := ha.len
  have hlen2 := hc.len
  have HA := Lib.hid ha
  have HC := Lib.hid hc
  have HR := Lib.hid hr
  clear ha hc hr
  by_cases hl : zs.length = ys.length
  · have hne : ((zs.length : Int) != (ys.length : Int)) = false := by simp [hl]
    have h1 : zs.length ≤ ys.length := by omega
    have h2 : ys.length ≤ zs.length := by omega
    have HL := Lib.hid hl
    clear hl
    go_enter Tryz.func158, Tryz.ntmps158
    go_wp2
    go_loopw [5] (fun i wr => ∃ k : Nat, k ≤ zs.length ∧ i = .int .i64 k ∧ Hid (∃ q, wr = w.drewN q) ∧ Hid (∀ j, j < k → nth zs j = nth ys j)) (fun i _ => zs.length - (intOf i).toNat)
    case atStart => exact ⟨0, Nat.zero_le _, rfl, ⟨0, rfl⟩, fun j hj => absurd hj (Nat.not_lt_zero _)⟩
    case round =>
      obtain ⟨k, hk, rfl, HW, HJ⟩ := hrel
      by_cases hlt : k < zs.length
      · obtain ⟨b, off, e1, g1⟩ := (HA.out.same HW.out).cell (by omega)
        obtain ⟨b2, off2, e2, g2⟩ := (HC.out.same HW.out).cell (by omega)
        subst e1
        subst e2
        have hck := g1 k hlt
        have hck2 := g2 k (by omega)
        clear g1 g2
        have hi1 : (k : Int) < zs.length := by omega
        have hi2 : (k : Int) < ys.length := by omega
        by_cases he : nth zs k = nth ys k
        · have hn : (nth zs k != nth ys k) = false := by simp [he]
          have HJ' : Hid (∀ j, j < k + 1 → nth zs j = nth ys j) := fun j hj => by
            by_cases hj' : j < k
            · exact HJ.out j hj'
            · obtain rfl : j = k := by omega
              exact he
          clear he
          go_wp2
          go_quiet (fail)
          go_wp2
          go_roundw
          case rel => exact ⟨k + 1, by omega, by go_num, drewn HW.out, HJ'⟩
          case measure => simp [intOf]; omega
        · have hn : (nth zs k != nth ys k) = true := by simp [he]
          have HE : Hid (r = false) := by
            rw [← HR.out]; exact decide_eq_false fun h => he (by rw [h])
          clear he
          go_wp2
          go_quiet (fail)
          go_wp2
          go_ret
          exact ⟨ret_bool HE.out.symm, drewn HW.out⟩
      · have HE : Hid (r = true) := by
          rw [← HR.out]
          refine decide_eq_true (List.ext_getElem HL.out fun i h1 h2 => ?_)
          have := HJ.out i (by omega)
          rwa [nth_eq h1, nth_eq h2] at this
        go_wp2
        go_ret
        exact ⟨ret_bool HE.out.symm, HW.out⟩
  · have hne : ((zs.length : Int) != (ys.length : Int)) = true := by simp; omega
    have HE : Hid (r = false) := by
      rw [← HR.out]; exact decide_eq_false fun h => hl (by rw [h])
    clear hl
    go_enter Tryz.func158, Tryz.ntmps158
    go_wp2
    go_ret
    exact ⟨ret_bool HE.out.symm, 0, rfl⟩

theorem rows_ext {xs ys : List (List Int)} (hl : xs.length = ys.length) (h : ∀ i, i < xs.length → row xs i = row ys i) : xs = ys := by
  apply List.ext_getElem hl
  intro i h1 h2
  have := h i h1
  rwa [row_eq h1, row_eq h2] at this

open Classical in
/-- The value of SameArena. -/
noncomputable def sameB (O : List Int) (zss : List (List Int)) (O' : List Int) (zss' : List (List Int)) : Bool := decide (ArenaP O zss ∧ ArenaP O' zss' ∧ O = O' ∧ zss = zss')

theorem sameB_no {O : List Int} {zss : List (List Int)} {O' : List Int} {zss' : List (List Int)} (h : ¬ (ArenaP O zss ∧ ArenaP O' zss' ∧ O = O' ∧ zss = zss')) : sameB O zss O' zss' = false := by simp [sameB]; simpa using h
theorem sameB_yes {O : List Int} {zss : List (List Int)} {O' : List Int} {zss' : List (List Int)} (h : ArenaP O zss ∧ ArenaP O' zss' ∧ O = O' ∧ zss = zss') : sameB O zss O' zss' = true := by simp only [sameB, decide_eq_true_eq]; exact h

end Go.Proofs.YtokcinhopajniaaGreatDoor
