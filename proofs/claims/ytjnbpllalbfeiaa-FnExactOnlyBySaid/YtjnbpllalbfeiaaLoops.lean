/-
  Contracts: the model's l1Marks, l1Loops.
-/
import Derived.Test.YtjnbpllalbfeiaaWalks1
import Derived.Test.YtjnbpllalbfeiaaBase1
import Derived.Test.YtjnbpllalbfeiaaDraw1
namespace Go.Proofs.Ytjnbpllalbfeiaa
open Go.RowKit

/-- The vertices that reach v and that v reaches. -/
def partF (f : Nat → Nat → Bool) (S : List Int) (v : Nat) : List Int := S.filter fun x => f v x.toNat && f x.toNat v

/-- The model's parts, and what is done, behind k elements. -/
def loopsK (f : Nat → Nat → Bool) (S : List Int) : Nat → List (List Int) × (Nat → Bool)
  | 0 => ([], fun _ => false)
  | k + 1 => if (loopsK f S k).2 (nth S k).toNat || !f (nth S k).toNat (nth S k).toNat then loopsK f S k
    else ((loopsK f S k).1 ++ [partF f S (nth S k).toNat], fun u => (loopsK f S k).2 u || hasB (partF f S (nth S k).toNat) u)

/-- From v to u by at least one step, in S. -/
noncomputable def farF (zss : List (List Int)) (S : List Int) (v u : Nat) : Bool := beyM zss (openS S S.length) [(v : Int)] u

/-- What l1Loops gives. -/
noncomputable def loopsS (zss : List (List Int)) (S : List Int) : List (List Int) := (loopsK (farF zss S) S S.length).1

theorem rowIs_not_own {w : World} {b n B size m : Nat} {t e : TypeId} {f : Nat → Value} {v : Value} {xs : List Value} (h : w.rowIs b t n f) (ho : w.ownsRow B e size v m xs) (hte : e ≠ t) : v.ownBlock ≠ some b := by
  intro hb
  obtain ⟨c, hc, _⟩ := h
  rcases ho.2 with ⟨rfl, _⟩ | ⟨g, _, _, rfl, _, h1, _⟩
  · simp [Value.ownBlock] at hb
  · simp [Value.ownBlock] at hb
    subst hb
    rw [hc] at h1
    simp at h1
    exact hte h1.2.symm

theorem loopsK_len (f : Nat → Nat → Bool) (S : List Int) : ∀ k, (loopsK f S k).1.length ≤ k
  | 0 => by simp [loopsK]
  | k + 1 => by
    have ih := loopsK_len f S k
    rw [loopsK]
    split
    · omega
    · simp; omega

/-- Rows of slices of one's own, whatever they hold. -/
def GivesLoops (w : World) (zss : List (List Int)) (e : Ending) (w' : World) : Prop :=
  ∃ v V, e = .returned v ∧ OwnRows w' w.heap.size w'.heap.size v V zss ∧ Below w.heap.size w w'

/-- Row j of far, where it is wanted. -/
def FarAt (wr : World) (n N k : Nat) (I : Nat → Bool) (f : Nat → Nat → Bool) (V : Nat → Value) : Prop :=
  ∀ j, j < k → I j = true → ∃ b, V j = .slice (some ⟨b, 0, none⟩) N N ∧ n ≤ b ∧ wr.rowIs b 4 N (marksV (f j))

theorem FarAt.only {wr w' : World} {n N k : Nat} {I : Nat → Bool} {f : Nat → Nat → Bool} {V : Nat → Value} {S : Nat → Prop} (h : FarAt wr n N k I f V) (hk : Only S wr w') (hs : ∀ b c, wr.rowIs b 4 N c → ¬ S b) : FarAt w' n N k I f V := fun j hj hI => by
  obtain ⟨b, h1, h2, h3⟩ := h j hj hI
  exact ⟨b, h1, h2, rowIs_only h3 hk (hs b _ h3)⟩

theorem range_snoc (V : Nat → Value) (k : Nat) (x : Value) : (List.range k).map V ++ [x] = (List.range (k + 1)).map (fun j => if j = k then x else V j) := by
  rw [List.range_succ, List.map_append]
  congr 1
  · exact List.map_congr_left fun j hj => by rw [if_neg (by have := List.mem_range.1 hj; omega)]
  · simp

theorem info_parts' {t : TypeId} {z : Value} {s b : Nat} (h : (Try.prog.info? t).map (fun i => (i.zero, i.size, i.bytes)) = some (some z, s, b)) : ∃ i, Try.prog.info? t = some i ∧ i.zero = some z ∧ i.size = s ∧ i.bytes = b := by
  obtain ⟨i, hi, hz⟩ := Option.map_eq_some_iff.1 h
  simp only [Prod.mk.injEq] at hz
  exact ⟨i, hi, hz.1, hz.2.1, hz.2.2⟩

end Go.Proofs.Ytjnbpllalbfeiaa
