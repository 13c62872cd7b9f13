/-
  Contracts of chapter 6: the model's l6Right, BadLoops, CleanIn, WinsBy.
-/
import Derived.Test.YtokcinhopajniaaClosSpec
import Derived.Test.YtokcinhopajniaaEdgesSpec
import Derived.Deep.RegionHeld3
namespace Go.Proofs.Ytokcinhopajniaa
open Go.RowKit

theorem GameAt.arenaC {w : World} {a0 a1 a2 : Value} {O P : List Int} {zss : List (List Int)} (h : GameAt w (.agg #[a0, a1, a2]) O zss P) : ArenaAt w (.agg #[a0, a1]) O zss := by
  obtain ⟨_, _, _, _, _, _, _, _, hv, h1, h2, _⟩ := h
  cases hv
  exact ⟨_, _, _, _, _, _, rfl, h1, h2⟩

theorem Box3.onlyC {w w' : World} {g : Nat} {t : TypeId} {a b c : Value} {S : Nat → Prop} (h : Box3 w g t a b c) (hk : Only S w w') (hs : ¬ S g) : Box3 w' g t a b c := rowIs_only h hk hs

/-- What is low while the first m of the region have been marked. -/
def lowG (P S : List Int) (u m : Nat) : Nat → Bool := fun v => decide ((v : Int) ∈ S.take m) && decide (nth P v ≤ nth P u)
theorem lowG_zero (P S : List Int) (u : Nat) (v : Nat) : lowG P S u 0 v = false := by simp [lowG]
theorem lowG_full (P S : List Int) (u v : Nat) : lowG P S u S.length v = lowI P S u v := by
  unfold lowG lowI
  rw [List.take_length]
  rfl
theorem lowG_step {P S : List Int} {u m y : Nat} (hm : m < S.length) (hy : nth S m = (y : Int)) (v : Nat) : mark1 (lowG P S u m) y (decide (nth P y ≤ nth P u)) v = lowG P S u (m + 1) v := by
  have ht : S.take (m + 1) = S.take m ++ [(y : Int)] := by rw [List.take_succ_eq_append_getElem hm, ← nth_eq hm, hy]
  unfold mark1 lowG
  rw [ht]
  by_cases e : v = y
  · subst e; simp
  · have : ¬ (v : Int) = (y : Int) := by omega
    simp [e, this]

end Go.Proofs.Ytokcinhopajniaa
