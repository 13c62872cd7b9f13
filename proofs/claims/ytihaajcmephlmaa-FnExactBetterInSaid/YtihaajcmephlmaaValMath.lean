/-
  Sums of gains are small; the gains as a list. No program text.
-/
import Derived.Test.YtihaajcmephlmaaPo00
import Derived.Test.YtihaajcmephlmaaBetterVal
namespace Go.Proofs.Ytihaajcmephlmaa
section
/-- The gains of all vertices. -/
def gainL (P : List Int) : List Int := fnL P.length (gainI P)
theorem gainL_len (P : List Int) : (gainL P).length = P.length := fnL_len _ _
theorem gainL_nth {P : List Int} {v : Nat} (h : v < P.length) : nth (gainL P) v = gainI P v := fnL_nth h
theorem gain_small {P : List Int} (h12 : P.length ≤ 12) {v : Nat} (hv : v < P.length) : -4096 ≤ gainI P v ∧ gainI P v ≤ 4096 := by
  have h1 := rank_in hv
  have h2 := pow_lt2 (show rankL P v < 12 by omega)
  have h3 := pow_pos2 (rankL P v)
  have h4 : (2 : Int) ^ 12 = 4096 := by decide
  rcases gain_abs P v with h | h <;> omega
theorem sumV_append {P : List Int} {A B : List Int} : sumV P (A ++ B) = sumV P A + sumV P B := by
  induction A with
  | nil => simp [sumV]
  | cons x A ih => rw [List.cons_append, sumV, sumV, ih]; omega
def sumK (P V : List Int) (k : Nat) : Int := sumV P (V.take k)
theorem sumK_succ {P V : List Int} {k : Nat} (hk : k < V.length) : sumK P V (k + 1) = sumK P V k + gainI P (nth V k).toNat := by
  unfold sumK
  rw [take_next hk, sumV_append, sumV, sumV]
  omega
theorem sumK_small {P V : List Int} (h12 : P.length ≤ 12) (hV : ∀ i, i < V.length → 0 ≤ nth V i ∧ nth V i < P.length) : ∀ {k : Nat}, k ≤ V.length → -(4096 * (k : Int)) ≤ sumK P V k ∧ sumK P V k ≤ 4096 * (k : Int)
  | 0, _ => by simp [sumK, sumV]
  | k + 1, hk => by
    have h1 := sumK_small h12 hV (k := k) (by omega)
    have h2 := hV k (by omega)
    have h3 := gain_small h12 (v := (nth V k).toNat) (by omega)
    rw [sumK_succ (by omega)]
    omega
theorem sumK_all (P V : List Int) : sumK P V V.length = sumV P V := by unfold sumK; rw [List.take_length]
end
end Go.Proofs.Ytihaajcmephlmaa
