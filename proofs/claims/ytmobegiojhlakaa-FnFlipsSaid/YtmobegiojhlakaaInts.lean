/-
  The laws' helpers over slices of numbers that are variables.
-/
import Derived.Test.YtmobegiojhlakaaMark
import Derived.Test.YtmobegiojhlakaaEq
namespace Go.Proofs.Ytmobegiojhlakaa
open Go.RowKit

/-- The slice v reads as zs. -/
def IntsV (w : World) (v : Value) (zs : List Int) : Prop := ∃ a cap, v = .slice a zs.length cap ∧ IntsAt w a zs

theorem IntsV.below {w w' : World} {v : Value} {zs : List Int} (h : IntsV w v zs) (hb : Below w.heap.size w w') : IntsV w' v zs := by
  obtain ⟨a, cap, hv, hi⟩ := h
  exact ⟨a, cap, hv, hi.below hb⟩
theorem OwnInts.v {w : World} {B D : Nat} {v : Value} {zs : List Int} (h : OwnInts w B D v zs) : IntsV w v zs := by
  obtain ⟨a, cap, hv, hi, _⟩ := h.shape
  exact ⟨a, cap, hv, hi⟩

theorem eqInts_at {w : World} {v v' : Value} {zs : List Int} (h : IntsV w v zs) (h' : IntsV w v' zs) :
    Calls Try.prog 42 #[v, v'] w fun e w' => e = .returned (.bool true) ∧ Below w.heap.size w w' := by
  obtain ⟨a, cap, rfl, hi⟩ := h
  obtain ⟨a', cap', rfl, hi'⟩ := h'
  exact (eqInt64S_yes w cap cap' hi hi').mono fun e w' ⟨he, hq⟩ => ⟨he, below_same (Below.refl _ _) hq⟩

theorem heldInts_at {w : World} {v : Value} {k : Int} {n : Nat} (h : IntsV w v (marks k n)) (h0 : 0 ≤ k) (h1 : k ≤ 1152921504606846976) :
    Calls Try.prog 47 #[v, .int .i64 k] w fun e w' => e = .returned (.int .i64 (k + n)) ∧ w = w' := by
  obtain ⟨a, cap, rfl, hi⟩ := h
  have h := heldInt64S_is (zs := marks k n) k cap (by rw [marks_len]; exact hi) h0 h1
  rw [marks_len] at h ⊢
  exact h

theorem markInts_at {w : World} {B D : Nat} {v : Value} {zs : List Int} {k r : Int} (hr : k + zs.length = r) (h : OwnInts w B D v zs) (h0 : 0 ≤ k) (h1 : k ≤ 1152921504606846976) :
    Calls Try.prog 46 #[v, .int .i64 k] w fun e w' => e = .returned (.int .i64 r) ∧ OwnInts w' B D v (marks k zs.length) ∧ Only (fun b => B ≤ b ∧ b < D) w w' := by
  subst hr
  exact (markInt64S_is h k h0 h1).mono fun e w' ⟨he, ho, hn⟩ => ⟨he, ho, hn.mono fun b hb => ⟨(h.own.lt b hb).1, h.top b hb⟩⟩

theorem heldInts_is {w : World} {v : Value} {k r : Int} {n : Nat} (hr : k + (n : Int) = r) (h : IntsV w v (marks k n)) (h0 : 0 ≤ k) (h1 : k ≤ 1152921504606846976) :
    Calls Try.prog 47 #[v, .int .i64 k] w fun e w' => e = .returned (.int .i64 r) ∧ w = w' := by
  subst hr
  exact heldInts_at h h0 h1

theorem markArena_at {w : World} {B D : Nat} {v : Value} {O : List Int} {zss : List (List Int)} {k r : Int} (hr : k + O.length + sumLen zss zss.length = r) (h : OwnArena w B D v O zss) (h0 : 0 ≤ k) (h1 : k ≤ 1073741824) (hs : sizeArena O zss ≤ 1048576) :
    Calls Try.prog 33 #[v, .int .i64 k] w fun e w' => e = .returned (.int .i64 r) ∧ OwnArena w' B D v (marks k O.length) (markRows (k + O.length) zss) ∧ Only (fun b => B ≤ b ∧ b < D) w w' := by
  subst hr
  unfold sizeArena at hs
  exact markArena_is h k h0 h1 (by omega) (by omega)

theorem heldArena_at {w : World} {v : Value} {O : List Int} {zss : List (List Int)} {k r : Int} (hr : k + O.length + sumLen zss zss.length = r) (h : ArenaAt w v (marks k O.length) (markRows (k + O.length) zss)) (h0 : 0 ≤ k) (h1 : k ≤ 1073741824) (hl : O.length ≤ 1048576) (hs : sumLen zss zss.length ≤ 1048576) :
    Calls Try.prog 34 #[v, .int .i64 k] w fun e w' => e = .returned (.int .i64 r) ∧ Below w.heap.size w w' := by
  subst hr
  exact heldArena_is k h h0 h1 hl hs

theorem toInts_at {w : World} {v : Value} {zs : List Int} (h : IntsV w v zs) :
    Calls Try.prog 40 #[v] w fun e w' => ∃ u, e = .returned u ∧ OwnInts w' w.heap.size w'.heap.size u zs ∧ Below w.heap.size w w' := by
  obtain ⟨a, cap, rfl, hi⟩ := h
  refine (toInt64S_any a zs cap w hi).mono fun e w' ⟨he, hr, hs, hb⟩ => ⟨_, he, OwnInts.of_rowIs hr (Nat.le_refl _) (by omega) hi.len hi.fits, hb⟩

end Go.Proofs.Ytmobegiojhlakaa
