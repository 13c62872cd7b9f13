/-
  The law's helpers over rows of numbers, by values.
-/
import Derived.Test.YtaagbnogbhegdaaBase1
import Derived.Test.YtaagbnogbhegdaaLoopsSpec
namespace Go.Proofs.Ytaagbnogbhegdaa
open Go.RowKit

/-- A value that reads as rows. -/
def RowsV (w : World) (v : Value) (zss : List (List Int)) : Prop := ∃ a cap A C, v = .slice a zss.length cap ∧ RowsAt w a A C zss
theorem RowsV.below {w w' : World} {v : Value} {zss : List (List Int)} (h : RowsV w v zss) (hb : Below w.heap.size w w') : RowsV w' v zss := by
  obtain ⟨a, cap, A, C, hv, hr⟩ := h
  exact ⟨a, cap, A, C, hv, hr.below hb⟩
theorem OwnRows.v {w : World} {B D : Nat} {v : Value} {V : Nat → Value} {zss : List (List Int)} (h : OwnRows w B D v V zss) : RowsV w v zss := by
  obtain ⟨a, cap, hv, hr, -⟩ := h.shape
  exact ⟨a, cap, _, _, hv, hr⟩

theorem eqRows_at {w : World} {u v : Value} {zss : List (List Int)} (hu : RowsV w u zss) (hv : RowsV w v zss) :
    Calls Try.prog 41 #[u, v] w fun e w' => e = .returned (.bool true) ∧ Below w.heap.size w w' := by
  obtain ⟨a, ca, A, C, rfl, ha⟩ := hu
  obtain ⟨c, cc, A', C', rfl, hc⟩ := hv
  exact (eqInt64SS_yes w ca cc ha hc).mono fun e w' ⟨he, hq⟩ => ⟨he, below_same (Below.refl _ _) hq⟩

theorem markRows_at {w : World} {B D : Nat} {v : Value} {V : Nat → Value} {zss : List (List Int)} {k r : Int} (hr : k + (sumLen zss zss.length : Int) = r) (h : OwnRows w B D v V zss) (h0 : 0 ≤ k) (h1 : k ≤ 1099511627776) (h2 : sumLen zss zss.length ≤ 1099511627776) :
    Calls Try.prog 45 #[v, .int .i64 k] w fun e w' => e = .returned (.int .i64 r) ∧ OwnRows w' B D v V (markRows k zss) ∧ Only (fun b => B ≤ b ∧ b < D) w w' := by
  subst hr
  exact (markInt64SS_is h k h0 h1 h2).mono fun e w' ⟨he, ho, hn⟩ => ⟨he, ho, hn.mono fun b ⟨i, hi, hb⟩ => ⟨((h.rows i hi).own.lt b hb).1, (h.rows i hi).top b hb⟩⟩

theorem heldRows_at {w : World} {v : Value} {zss : List (List Int)} {k r : Int} (hr : k + (sumLen zss zss.length : Int) = r) (h : RowsV w v (markRows k zss)) (h0 : 0 ≤ k) (h1 : k ≤ 1099511627776) (h2 : sumLen zss zss.length ≤ 1099511627776) :
    Calls Try.prog 46 #[v, .int .i64 k] w fun e w' => e = .returned (.int .i64 r) ∧ w = w' := by
  subst hr
  obtain ⟨a, cap, A, C, rfl, hc⟩ := h
  rw [markRows_len]
  exact heldInt64SS_is k cap hc h0 h1 h2

theorem sumLen_rows {zss : List (List Int)} {N : Nat} (h : ∀ p ∈ zss, p.length ≤ N) : ∀ k, k ≤ zss.length → sumLen zss k ≤ k * N
  | 0, _ => by simp [sumLen]
  | k + 1, hk => by
    have ih := sumLen_rows h k (by omega)
    have hr : (row zss k).length ≤ N := h _ (by rw [row_eq (by omega)]; exact List.getElem_mem _)
    rw [sumLen, Nat.succ_mul]
    omega

theorem loopsK_rows (f : Nat → Nat → Bool) (S : List Int) : ∀ k, ∀ p ∈ (loopsK f S k).1, p.length ≤ S.length
  | 0, p, hp => by simp [loopsK] at hp
  | k + 1, p, hp => by
    rw [loopsK] at hp
    split at hp
    · exact loopsK_rows f S k p hp
    · rw [List.mem_append] at hp
      rcases hp with hp | hp
      · exact loopsK_rows f S k p hp
      · have : p = partF f S (nth S k).toNat := by simpa using hp
        rw [this]; exact List.length_filter_le _ _

theorem loopsL_sum {O : List Int} {zss r : List (List Int)} {S : List Int} (hr : loopsL O zss S = r) (hS : S.length ≤ 1048576) : sumLen r r.length ≤ 1099511627776 := by
  subst hr
  unfold loopsL
  split
  · have h1 := loopsK_len (farF zss S) S S.length
    have h2 := sumLen_rows (zss := loopsS zss S) (loopsK_rows (farF zss S) S S.length) _ (Nat.le_refl _)
    have h3 : (loopsS zss S).length * S.length ≤ 1048576 * 1048576 := Nat.mul_le_mul (Nat.le_trans h1 hS) hS
    omega
  · simp [sumLen]

end Go.Proofs.Ytaagbnogbhegdaa
