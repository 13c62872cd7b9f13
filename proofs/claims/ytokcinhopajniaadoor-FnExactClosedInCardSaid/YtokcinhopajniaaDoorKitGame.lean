/-
  Contracts of the laws' own helpers for games: toParity, szParity, eqParity, markParity, heldParity.
-/
import Derived.Test.YtokcinhopajniaaDoorParity
import Derived.Test.YtokcinhopajniaaDoorBase1
import Derived.Test.YtokcinhopajniaaDoorLoops
import Derived.Test.YtokcinhopajniaaDoorParity1
namespace Go.Proofs.YtokcinhopajniaaDoor
section
open Go.RowKit

theorem tri_any {w : World} {g : Nat} {T : TypeId} {a b c : Value} (h : Box3 w g T a b c) {w' : World} (hb : w'.heap[g]? = w.heap[g]?) : Box3 w' g T a b c := h.of_block hb
theorem Box3.set0 {w : World} {g : Nat} {T : TypeId} {a b c : Value} (h : Box3 w g T a b c) (x : Value) : Box3 (w.setCell ⟨g, 0, none⟩ x) g T x b c :=
  World.rowIs.congr (h.set 0 x) fun i hi => by
    by_cases h : i = 0 <;> simp [tri, h]
theorem Box3.set1 {w : World} {g : Nat} {T : TypeId} {a b c : Value} (h : Box3 w g T a b c) (x : Value) : Box3 (w.setCell ⟨g, 1, none⟩ x) g T a x c :=
  World.rowIs.congr (h.set 1 x) fun i hi => by
    have h3 : i = 0 ∨ i = 1 ∨ i = 2 := by omega
    rcases h3 with rfl | rfl | rfl <;> simp [tri]
theorem Box3.set2 {w : World} {g : Nat} {T : TypeId} {a b c : Value} (h : Box3 w g T a b c) (x : Value) : Box3 (w.setCell ⟨g, 2, none⟩ x) g T a b x :=
  World.rowIs.congr (h.set 2 x) fun i hi => by
    have h3 : i = 0 ∨ i = 1 ∨ i = 2 := by omega
    rcases h3 with rfl | rfl | rfl <;> simp [tri]
theorem Box3.frozen {w : World} {g : Nat} {T : TypeId} {a b c : Value} (h : Box3 w g T a b c) (i : Nat) : w.frozen? ⟨g, i, none⟩ = false := World.rowIs.frozen h i
theorem Box3.other {w : World} {g : Nat} {T : TypeId} {a b c : Value} (h : Box3 w g T a b c) {p : Addr} (hp : g ≠ p.block) (x : Value) : Box3 (w.setCell p x) g T a b c := World.rowIs.setOther h hp x
theorem Box3.alloc {w : World} {g : Nat} {T : TypeId} {a b c : Value} (h : Box3 w g T a b c) (o : Obj) : Box3 (w.alloc o) g T a b c := h.below (below1 w o)
theorem Box3.new_at {w : World} {g : Nat} (hg : g = w.heap.size) (T : TypeId) (a b c : Value) : Box3 (w.alloc (.cells #[a, b, c] T)) g T a b c := by subst hg; exact Box3.new _ _ _ _ _

theorem Box3.only {w w' : World} {g : Nat} {t : TypeId} {a b c : Value} {S : Nat → Prop} (h : Box3 w g t a b c) (hk : Only S w w') (hs : ¬ S g) : Box3 w' g t a b c := rowIs_only h hk hs
theorem Box3.not_own {w : World} {g : Nat} {t e : TypeId} {a b c x : Value} {B size n : Nat} {xs : List Value} (h : Box3 w g t a b c) (ho : w.ownsRow B e size x n xs) (hte : e ≠ t) : x.ownBlock ≠ some g := rowIs_not_own h ho hte

/-- How many places a game takes. -/
def sizeGame (O : List Int) (zss : List (List Int)) (P : List Int) : Nat := sizeArena O zss + P.length

end

section
open Go.RowKit

theorem flip_size {O P : List Int} {zss : List (List Int)} (h : sizeGame O zss P ≤ 1048576) : sizeGame (flipO O zss P) (flipN O zss P) (flipP O zss P) ≤ 1048576 := by
  unfold flipO flipN flipP
  cases flipB O zss P with
  | false => simp [sizeGame, sizeArena, sumLen]
  | true =>
    simp only [if_true]
    unfold sizeGame sizeArena at h ⊢
    rw [turnO_len, moreP_len]; exact h
theorem press_size {O P : List Int} {zss : List (List Int)} (h : sizeGame O zss P ≤ 1048576) : sizeGame (pressO O zss P) (pressN O zss P) (pressV O zss P) ≤ 1048576 := by
  unfold pressO pressN pressV
  cases parityB O zss P with
  | false => simp [sizeGame, sizeArena, sumLen]
  | true =>
    simp only [if_true]
    unfold sizeGame sizeArena at h ⊢
    rw [pressL_len]; exact h
theorem sumLen_caps {zss : List (List Int)} {c : Nat} (h : ∀ i, i < zss.length → (row zss i).length ≤ c) : ∀ k, k ≤ zss.length → sumLen zss k ≤ c * k
  | 0, _ => by simp [sumLen]
  | k + 1, hk => by
    have h1 := sumLen_caps h k (by omega)
    have h2 := h k (by omega)
    simp only [sumLen, Nat.mul_succ]
    omega
theorem sub_size {O P S : List Int} {zss : List (List Int)} : sizeGame (subO O zss P S) (subN O zss P S) (subP O zss P S) ≤ 1048576 := by
  unfold subO subN subP
  cases hb : subB O zss P S with
  | false => simp [sizeGame, sizeArena, sumLen]
  | true =>
    simp only [if_true]
    unfold subB at hb
    rw [Bool.and_eq_true] at hb
    have hi : InsideP O zss S := by simpa [insideB] using hb.2
    rw [(inside_yes hi).1, (inside_yes hi).2.1]
    obtain ⟨hP, hB, _, _⟩ := hi
    have hl : (S.length : Int) ≤ (O.length : Int) := setB_len (Int.natCast_nonneg _) hB
    have hO := hP.2.1
    have hs := sumLen_caps (zss := inNK S zss S.length) (c := 16) (fun i hi => by
      rw [inNK_len] at hi
      obtain ⟨h0, h1, _⟩ := setB_bounds hB hi
      have h16 := (hP.2.2.2 (nth S i).toNat (by omega)).2.2.1
      have hr : row (inNK S zss S.length) i = inRow S zss i := by simp [row, inNK, hi]
      rw [hr]
      exact Nat.le_trans (places_len _ _ _) h16) _ (Nat.le_refl _)
    rw [inNK_len] at hs
    unfold sizeGame sizeArena
    rw [inOK_len, inNK_len, pickP_len]
    omega
end

end Go.Proofs.YtokcinhopajniaaDoor
