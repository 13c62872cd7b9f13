/-
  The answers of chapter 5 are small. No program text.
-/
import Derived.Test.YtaagbnogbhegdaaFixedSpec
import Derived.Test.YtaagbnogbhegdaaPlayMath
import Derived.Test.YtaagbnogbhegdaaKitLasso
namespace Go.Proofs.Ytaagbnogbhegdaa
open Go.RowKit

theorem fix_size {O P : List Int} {zss : List (List Int)} {who : Int} : sizeArena (fixO O zss who P) (fixN O zss who P) ≤ 1048576 := by
  unfold fixO fixN
  by_cases hb : planB O zss who P = true
  · rw [if_pos hb, if_pos hb]
    have hA := (planB_iff.1 hb).1
    have hO := hA.2.1
    have hz : zss.length = O.length := hA.2.2.1
    have hs := sumLen_caps (zss := fixK zss P zss.length) (c := 256) (fun i hi => by
      rw [fixK_len] at hi
      rw [fixK_row hi]
      split
      · simp
      · have := (hA.2.2.2 i (by omega)).2.2.1
        omega) (fixK zss P zss.length).length (Nat.le_refl _)
    unfold sizeArena
    rw [fixK_len] at hs ⊢
    omega
  · rw [if_neg hb, if_neg hb]; simp [sizeArena, sumLen]

theorem firstK_le (f : Nat → Int) : ∀ m s, firstK f m s ≤ s + m
  | 0, s => Nat.le_refl _
  | m + 1, s => by
    rw [firstK]
    split
    · omega
    · have := firstK_le f m (s + 1); omega
theorem play_size {O E D : List Int} {zss : List (List Int)} {v : Int} : sizeLasso (playX O zss E D v) (playY O zss E D v) ≤ 1048576 := by
  unfold playX playY
  by_cases hb : playB O zss E D v = true
  · rw [if_pos hb, if_pos hb]
    have hA : ArenaP O zss := by
      unfold playB at hb
      rw [Bool.and_eq_true] at hb
      exact (fullB_iff.1 hb.1).1.1
    have hO := hA.2.1
    unfold sizeLasso
    have hk : playK O E D v ≤ 0 + (O.length + 1) := firstK_le _ _ _
    rw [List.length_take, List.length_drop, metK_len]
    omega
  · rw [if_neg hb, if_neg hb]; simp [sizeLasso]

end Go.Proofs.Ytaagbnogbhegdaa
