/-
  Contract: the model's l1Beyond.
-/
import Derived.Test.YtaoagikipbcjpaaBools
import Derived.WalkSmall
namespace Go.Proofs.Ytaoagikipbcjpaa
open Go.RowKit

theorem rowIs_only {S : Nat → Prop} {w w' : World} {g n : Nat} {t : TypeId} {f : Nat → Value} (h : w.rowIs g t n f) (hk : Only S w w') (hs : ¬ S g) : w'.rowIs g t n f := h.of_block (hk.block g h.lt hs)

theorem own_top {w : World} {B n : Nat} {e : TypeId} {v : Value} {xs : List Value} (h : w.ownsRow B e 1 v n xs) (hn : 0 < n) : ∃ g cap, v = .slice (some ⟨g, 0, none⟩) n cap ∧ n ≤ cap ∧ cap ≤ maxLen ∧ B ≤ g := by
  rcases h.2 with ⟨_, h0⟩ | ⟨g, cap, cur, hv, hg, _, hc, hm, _⟩
  · omega
  · exact ⟨g, cap, hv, hc, hm, hg⟩

open Classical in
/-- How many cells of a block of marks are not set. -/
noncomputable def cntW (w : World) (b n : Nat) : Nat := cnt (fun k => decide (w.cell? ⟨b, k, none⟩ = some (.bool true))) n

theorem cntW_of {w : World} {b n : Nat} {t : TypeId} {xs : Nat → Bool} (h : w.rowIs b t n (marksV xs)) : cntW w b n = cnt xs n := by
  refine cnt_congr fun i hi => ?_
  have hc := h.cell hi
  rw [hc]
  by_cases hb : xs i = true
  · simp [marksV, hb]
  · have hb' : xs i = false := by simpa using hb
    simp [marksV, hb']

theorem own_shape {w : World} {B n : Nat} {e : TypeId} {v : Value} {xs : List Value} (h : w.ownsRow B e 1 v n xs) : ∃ a c, v = .slice a n c := by
  rcases h.2 with ⟨hv, h0⟩ | ⟨g, cap, cur, hv, _⟩
  · exact ⟨_, _, by rw [hv, h0]⟩
  · exact ⟨_, _, hv⟩

def lenOf : Value → Nat
  | .slice _ n _ => n
  | _ => 0

theorem lenOf_own {w : World} {B n : Nat} {e : TypeId} {v : Value} {xs : List Value} (h : w.ownsRow B e 1 v n xs) : lenOf v = n := by
  rcases h.2 with ⟨hv, h0⟩ | ⟨g, cap, cur, hv, _⟩
  · rw [hv, h0]; rfl
  · rw [hv]; rfl

open Classical in
/-- What l1Beyond marks. -/
noncomputable def beyM (zss : List (List Int)) (I : Nat → Bool) (F : List Int) : Nat → Bool := fun v => decide (Rch zss I F v)

end Go.Proofs.Ytaoagikipbcjpaa
