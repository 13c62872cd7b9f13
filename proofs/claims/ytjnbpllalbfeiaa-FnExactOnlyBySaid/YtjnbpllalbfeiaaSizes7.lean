/-
  Sizes of chapter 7's results. No program text.
-/
import Derived.Test.YtjnbpllalbfeiaaOnlySpec
import Derived.Test.YtjnbpllalbfeiaaKitGame
namespace Go.Proofs.Ytjnbpllalbfeiaa
section
open Go.RowKit

theorem only_size {O P Pk : List Int} {zss : List (List Int)} : sizeGame (onlyO O zss P Pk) (onlyN O zss P Pk) (onlyP O zss P Pk) ≤ 1048576 := by
  unfold onlyO onlyN onlyP
  by_cases hb : onlyB O zss P Pk = true
  · rw [if_pos hb, if_pos hb, if_pos hb]
    have hp : parityB O zss P = true := by
      unfold onlyB at hb
      rw [Bool.and_eq_true] at hb
      exact hb.1
    have hy := parityB_iff.1 hp
    have hA := hy.1
    have hO := hA.2.1
    have hz : zss.length = O.length := hA.2.2.1
    have hl := hy.2.1
    have hs := sumLen_caps (zss := rowsOf zss.length (onlyRow zss Pk)) (c := 16) (fun i hi => by
      rw [rowsOf_len] at hi
      rw [rowsOf_row hi]
      unfold onlyRow
      split
      · simp
      · exact (hA.2.2.2 i (by omega)).2.2.1) _ (Nat.le_refl _)
    rw [rowsOf_len] at hs
    unfold sizeGame sizeArena
    rw [rowsOf_len]
    omega
  · rw [if_neg hb, if_neg hb, if_neg hb]
    simp [sizeGame, sizeArena, sumLen]
end
end Go.Proofs.Ytjnbpllalbfeiaa
