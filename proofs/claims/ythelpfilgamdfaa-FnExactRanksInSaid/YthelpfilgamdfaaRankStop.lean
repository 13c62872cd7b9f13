/-
  As many rounds of ranks as vertices are enough. No program text.
-/
import Derived.Test.YthelpfilgamdfaaRank
namespace Go.Proofs.Ythelpfilgamdfaa
open Go.RowKit

theorem markedK_more (f : Nat → Bool) (n : Nat) : (markedK f (n + 1)).length = (markedK f n).length + (if f n = true then 1 else 0) := by
  rw [markedK, List.length_append]; split <;> rfl
theorem markedK_le {f g : Nat → Bool} : ∀ n, (∀ v, v < n → f v = true → g v = true) → (markedK f n).length ≤ (markedK g n).length
  | 0, _ => Nat.le_refl _
  | n + 1, h => by
    have ih := markedK_le n fun v hv => h v (by omega)
    have hn := h n (by omega)
    rw [markedK_more, markedK_more]
    by_cases hf : f n = true
    · rw [if_pos hf, if_pos (hn hf)]; omega
    · rw [if_neg hf]; omega
theorem markedK_lt {f g : Nat → Bool} : ∀ n, (∀ v, v < n → f v = true → g v = true) → ∀ v, v < n → f v = false → g v = true → (markedK f n).length < (markedK g n).length
  | 0, _, v, hv, _, _ => absurd hv (Nat.not_lt_zero _)
  | n + 1, h, v, hv, h0, h1 => by
    rw [markedK_more, markedK_more]
    by_cases e : v = n
    · subst e
      have := markedK_le (f := f) (g := g) v fun u hu => h u (by omega)
      rw [if_neg (by rw [h0]; decide), if_pos h1]; omega
    · have ih := markedK_lt n (fun u hu => h u (by omega)) v (by omega) h0 h1
      have hn := h n (by omega)
      by_cases hf : f n = true
      · rw [if_pos hf, if_pos (hn hf)]; omega
      · rw [if_neg hf]; omega

section
variable {zss : List (List Int)} {O : List Int} {who : Int} {I G : Nat → Bool}

/-- As many rounds as vertices are enough. -/
theorem rkK_stop (hin : ∀ u : Nat, u < zss.length → ∀ x ∈ row zss u, ∃ v : Nat, x = (v : Int) ∧ v < zss.length) : ∀ u, u < zss.length → rkK zss O who I G (zss.length + 1) u = rkK zss O who I G zss.length u := by
  by_cases hex : ∃ k, k ≤ zss.length ∧ ∀ u, u < zss.length → rkK zss O who I G (k + 1) u = rkK zss O who I G k u
  · obtain ⟨k, hk, hs⟩ := hex
    intro u hu
    have h1 := rkK_still hin hs (zss.length - k) u hu
    have h2 := rkK_still hin hs (zss.length + 1 - k) u hu
    rw [show k + (zss.length - k) = zss.length by omega] at h1
    rw [show k + (zss.length + 1 - k) = zss.length + 1 by omega] at h2
    rw [h1, h2]
  · exfalso
    have key : ∀ k, k ≤ zss.length + 1 → k ≤ (markedK (fun v => decide (0 ≤ rkK zss O who I G k v)) zss.length).length := fun k => by
      induction k with
      | zero => intro _; exact Nat.zero_le _
      | succ k ih =>
        intro hk
        have h1 := ih (by omega)
        obtain ⟨u, hu, hne⟩ : ∃ u, u < zss.length ∧ rkK zss O who I G (k + 1) u ≠ rkK zss O who I G k u := by
          apply Classical.byContradiction
          intro hn
          exact hex ⟨k, by omega, fun u hu => Classical.byContradiction fun hh => hn ⟨u, hu, hh⟩⟩
        have b0 := rkK_bound (zss := zss) (O := O) (who := who) (I := I) (G := G) k u
        have b1 := rkK_bound (zss := zss) (O := O) (who := who) (I := I) (G := G) (k + 1) u
        have h0 : rkK zss O who I G k u < 0 := by
          apply Classical.byContradiction
          intro hh
          exact hne (rkK_old (by omega))
        have h2 := markedK_lt (f := fun v => decide (0 ≤ rkK zss O who I G k v)) (g := fun v => decide (0 ≤ rkK zss O who I G (k + 1) v)) zss.length
          (fun v _ hv => by
            have hv := of_decide_eq_true hv
            exact decide_eq_true (by rw [rkK_old hv]; exact hv)) u hu (decide_eq_false (by omega)) (decide_eq_true (by omega))
        omega
    have h1 := key (zss.length + 1) (Nat.le_refl _)
    have h2 := markedK_len (fun v => decide (0 ≤ rkK zss O who I G (zss.length + 1) v)) zss.length
    omega
end

end Go.Proofs.Ythelpfilgamdfaa
