/-
  Contracts: the cursor (newCursor, follow, take) and upTo.
-/
import Derived.Test.YtaoagikipbcjpaaBeyond
namespace Go.Proofs.Ytaoagikipbcjpaa
section
open Go.RowKit

/-- One call after another; what each leaves behind is appended. -/
def dfsL (step : (Nat → Bool) → Nat → (Nat → Bool) × List Int) : (Nat → Bool) → List Int → (Nat → Bool) × List Int
  | o, [] => (o, [])
  | o, u :: us => ((dfsL step (step o u.toNat).1 us).1, (step o u.toNat).2 ++ (dfsL step (step o u.toNat).1 us).2)

/-- What the walk from v leaves open, and what it leaves behind, in its order. -/
def dfs (zss : List (List Int)) : Nat → (Nat → Bool) → Nat → (Nat → Bool) × List Int
  | 0, o, _ => (o, [])
  | f + 1, o, v => if o v = true then ((dfsL (dfs zss f) (mark1 o v false) (row zss v)).1, (dfsL (dfs zss f) (mark1 o v false) (row zss v)).2 ++ [(v : Int)]) else (o, [])

theorem dfsL_snoc (step : (Nat → Bool) → Nat → (Nat → Bool) × List Int) (us : List Int) (u : Int) : ∀ o, dfsL step o (us ++ [u]) = ((step (dfsL step o us).1 u.toNat).1, (dfsL step o us).2 ++ (step (dfsL step o us).1 u.toNat).2) := by
  induction us with
  | nil => intro o; simp [dfsL]
  | cons x xs ih => intro o; simp [dfsL, ih, List.append_assoc]

/-- How many of the first n are open. -/
def opens (o : Nat → Bool) : Nat → Nat
  | 0 => 0
  | k + 1 => opens o k + if o k = true then 1 else 0

theorem opens_le (o : Nat → Bool) (n : Nat) : opens o n ≤ n := by
  induction n with
  | zero => simp [opens]
  | succ k ih => simp only [opens]; split <;> omega

theorem opens_mono {o o' : Nat → Bool} {n : Nat} (h : ∀ i, i < n → o' i = true → o i = true) : opens o' n ≤ opens o n := by
  induction n with
  | zero => simp [opens]
  | succ k ih =>
    have h1 := ih (fun i hi => h i (by omega))
    simp only [opens]
    by_cases e : o' k = true
    · rw [if_pos e, if_pos (h k (by omega) e)]; omega
    · rw [if_neg e]; omega

theorem opens_shut {o : Nat → Bool} {n v : Nat} (hv : v < n) (ho : o v = true) : opens (mark1 o v false) n + 1 = opens o n := by
  induction n with
  | zero => omega
  | succ k ih =>
    simp only [opens]
    by_cases e : v = k
    · subst e
      have h1 : opens (mark1 o v false) v = opens o v := by
        apply Nat.le_antisymm
        · exact opens_mono fun i hi h => by simpa [mark1, show i ≠ v from by omega] using h
        · exact opens_mono fun i hi h => by simpa [mark1, show i ≠ v from by omega] using h
      rw [h1, mark1_self, ho]; simp
    · have h1 := ih (by omega)
      have h2 : mark1 o v false k = o k := by simp [mark1, show k ≠ v from fun h => e h.symm]
      rw [h2]; omega

/-- A step that opens nothing. -/
def Shuts (step : (Nat → Bool) → Nat → (Nat → Bool) × List Int) : Prop := ∀ o v i, (step o v).1 i = true → o i = true

theorem dfsL_shuts {step : (Nat → Bool) → Nat → (Nat → Bool) × List Int} (h : Shuts step) (us : List Int) : ∀ o i, (dfsL step o us).1 i = true → o i = true := by
  induction us with
  | nil => intro o i hi; exact hi
  | cons u us ih => intro o i hi; exact h o _ i (ih _ i hi)

theorem dfs_shuts (zss : List (List Int)) : ∀ f, Shuts (dfs zss f) := by
  intro f
  induction f with
  | zero => intro o v i h; exact h
  | succ f ih =>
    intro o v i h
    simp only [dfs] at h
    split at h
    · have := dfsL_shuts ih _ _ _ h
      simp only [mark1] at this
      split at this
      · simp at this
      · exact this
    · exact h

def tri (a b c : Value) : Nat → Value := fun i => if i = 0 then a else if i = 1 then b else c

theorem tri_set {a b c d : Value} : ∀ i, i < 3 → (if i = 2 then d else tri a b c i) = tri a b d i := fun i hi => by
  have h : i = 0 ∨ i = 1 ∨ i = 2 := by omega
  rcases h with rfl | rfl | rfl <;> simp [tri]

theorem dfsL_len {step : (Nat → Bool) → Nat → (Nat → Bool) × List Int} {n : Nat} (h : ∀ o v, v < n → (step o v).2.length + opens (step o v).1 n ≤ opens o n) (us : List Int) (hus : ∀ x ∈ us, ∃ v : Nat, x = (v : Int) ∧ v < n) : ∀ o, (dfsL step o us).2.length + opens (dfsL step o us).1 n ≤ opens o n := by
  induction us with
  | nil => intro o; simp [dfsL]
  | cons u us ih =>
    intro o
    obtain ⟨v, h1, h2⟩ := hus u (by simp)
    subst h1
    have h3 := h o v h2
    have h4 := ih (fun x hx => hus x (by simp [hx])) (step o v).1
    simp only [dfsL, Int.toNat_natCast, List.length_append]
    omega

theorem dfs_len {zss : List (List Int)} (hin : ∀ u : Nat, u < zss.length → ∀ x ∈ row zss u, ∃ v : Nat, x = (v : Int) ∧ v < zss.length) : ∀ f o v, v < zss.length → (dfs zss f o v).2.length + opens (dfs zss f o v).1 zss.length ≤ opens o zss.length := by
  intro f
  induction f with
  | zero => intro o v _; simp [dfs]
  | succ f ih =>
    intro o v hv
    simp only [dfs]
    split
    · next ho =>
      have h1 := opens_shut hv ho
      have h2 := dfsL_len (step := dfs zss f) ih (row zss v) (hin v hv) (mark1 o v false)
      simp only [List.length_append, List.length_singleton]
      omega
    · simp

end

section
open Go.RowKit

/-- 0, ..., n-1. -/
def upL (n : Nat) : List Int := (List.range n).map (fun (i : Nat) => Int.ofNat i)
theorem upL_len (n : Nat) : (upL n).length = n := by simp [upL]
theorem upL_nth {n i : Nat} (h : i < n) : nth (upL n) i = i := by simp [nth, upL, h]

def upPart (k : Nat) : Nat → Value := fun i => if i < k then .int .i64 i else .int .i64 0

theorem up_step {w : World} {g n k : Nat} {t : TypeId} (h : w.rowIs g t n (upPart k)) : (w.setCell ⟨g, k, none⟩ (.int .i64 k)).rowIs g t n (upPart (k + 1)) := by
  refine (h.set k _).congr fun i _ => ?_
  simp only [upPart]
  by_cases e : i = k
  · subst e; simp
  · by_cases hlt : i < k
    · rw [if_neg e, if_pos hlt, if_pos (by omega)]
    · rw [if_neg e, if_neg hlt, if_neg (by omega)]

/-- What is open at first: the elements of a list. -/
def openS (S : List Int) (k : Nat) : Nat → Bool := fun v => decide ((v : Int) ∈ S.take k)

theorem openS_succ {S : List Int} {k u : Nat} (hk : k < S.length) (hu : nth S k = (u : Int)) : openS S (k + 1) = mark1 (openS S k) u true := by
  funext v
  have ht : S.take (k + 1) = S.take k ++ [(u : Int)] := by
    rw [List.take_add_one, List.getElem?_eq_getElem hk, ← hu, nth_eq hk]; rfl
  by_cases e : v = u
  · subst e; simp [mark1, openS, ht]
  · have e' : (v : Int) ≠ (u : Int) := by omega
    simp [mark1, openS, ht, e, e']

end

end Go.Proofs.Ytaoagikipbcjpaa
