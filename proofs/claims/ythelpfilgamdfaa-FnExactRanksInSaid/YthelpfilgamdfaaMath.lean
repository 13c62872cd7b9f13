/-
  Plain mathematics of chapter 1: sets, valid arenas. No program text.
-/
import Derived.Test.YthelpfilgamdfaaMem
namespace Go.Proofs.Ythelpfilgamdfaa

/-- From the k-th element on the list rises, stays below n, and begins above 'last'. -/
def setFrom (n : Int) (last : Int) : List Int → Bool
  | [] => true
  | v :: r => decide (last < v ∧ v < n) && setFrom n v r

/-- A set of numbers from 0 to n-1. -/
def setB (n : Int) (zs : List Int) : Bool := setFrom n (-1) zs

/-- The element before the k-th; -1 before the first. -/
def lastAt (zs : List Int) (k : Nat) : Int := if k = 0 then -1 else nth zs (k - 1)

theorem setFrom_drop (n : Int) (zs : List Int) (k : Nat) (h : k < zs.length) : setFrom n (lastAt zs k) (zs.drop k) = (decide (lastAt zs k < nth zs k ∧ nth zs k < n) && setFrom n (lastAt zs (k + 1)) (zs.drop (k + 1))) := by
  rw [List.drop_eq_getElem_cons h, setFrom]
  have : lastAt zs (k + 1) = zs[k] := by simp [lastAt, nth_eq h]
  rw [this, nth_eq h]

theorem setFrom_no (n : Int) (zs : List Int) (k : Nat) (h : k < zs.length) (hc : nth zs k ≤ lastAt zs k ∨ n ≤ nth zs k) : setFrom n (lastAt zs k) (zs.drop k) = false := by
  rw [setFrom_drop n zs k h, decide_eq_false (by omega)]; rfl

theorem setFrom_yes (n : Int) (zs : List Int) (k : Nat) (h : k < zs.length) (h1 : lastAt zs k < nth zs k) (h2 : nth zs k < n) : setFrom n (lastAt zs k) (zs.drop k) = setFrom n (lastAt zs (k + 1)) (zs.drop (k + 1)) := by
  rw [setFrom_drop n zs k h, decide_eq_true ⟨h1, h2⟩]; rfl

theorem setFrom_end (n l : Int) (zs : List Int) (k : Nat) (h : zs.length ≤ k) : setFrom n l (zs.drop k) = true := by
  rw [List.drop_eq_nil_of_le h]; rfl

theorem setFrom_len (n : Int) (zs : List Int) : ∀ l, l ≤ n - 1 → setFrom n l zs = true → (zs.length : Int) ≤ n - 1 - l := by
  induction zs with
  | nil => intro l h _; simp; omega
  | cons v r ih =>
    intro l h hs
    simp only [setFrom, Bool.and_eq_true, decide_eq_true_eq] at hs
    have := ih v (by omega) hs.2
    simp only [List.length_cons]
    omega

theorem setB_len {n : Int} {zs : List Int} (h0 : 0 ≤ n) (h : setB n zs = true) : (zs.length : Int) ≤ n := by
  have := setFrom_len n zs (-1) (by omega) h
  omega

/-- x from lo to hi. -/
def inB (x lo hi : Int) : Bool := decide (lo ≤ x ∧ x ≤ hi)
theorem inB_yes {x lo hi : Int} (h1 : lo ≤ x) (h2 : x ≤ hi) : inB x lo hi = true := by simp [inB, h1, h2]
theorem inB_no {x lo hi : Int} (h : x < lo ∨ hi < x) : inB x lo hi = false := by simp [inB]; omega

/-- Is x in the list? -/
def hasB (zs : List Int) (x : Int) : Bool := decide (x ∈ zs)

theorem mem_nth {zs : List Int} {x : Int} : x ∈ zs ↔ ∃ k, k < zs.length ∧ nth zs k = x := by
  rw [List.mem_iff_getElem]
  constructor
  · rintro ⟨k, hk, h⟩; exact ⟨k, hk, by rw [nth_eq hk, h]⟩
  · rintro ⟨k, hk, h⟩; exact ⟨k, hk, by rw [← nth_eq hk, h]⟩

theorem hasB_yes {zs : List Int} {x : Int} {k : Nat} (hk : k < zs.length) (h : nth zs k = x) : hasB zs x = true := by
  simp only [hasB, decide_eq_true_eq]; exact mem_nth.2 ⟨k, hk, h⟩
theorem hasB_no {zs : List Int} {x : Int} (h : ∀ j, j < zs.length → nth zs j ≠ x) : hasB zs x = false := by
  simp only [hasB, decide_eq_false_iff_not]; exact fun hm => by obtain ⟨k, hk, e⟩ := mem_nth.1 hm; exact h k hk e
theorem hasB_iff {zs : List Int} {x : Int} : hasB zs x = true ↔ x ∈ zs := by simp [hasB]

/-- Where x stands first; -1 where it does not. -/
def idx (zs : List Int) (x : Int) : Int := if x ∈ zs then (zs.idxOf x : Int) else -1

theorem idxOf_first : ∀ (zs : List Int) (x : Int) (k : Nat), k < zs.length → nth zs k = x → (∀ j, j < k → nth zs j ≠ x) → zs.idxOf x = k
  | [], _, _, h, _, _ => absurd h (by simp)
  | z :: r, x, 0, _, h, _ => by
    have : z = x := by simpa [nth] using h
    simp [this]
  | z :: r, x, k + 1, hk, h, hj => by
    have h0 : z ≠ x := by simpa [nth] using hj 0 (by omega)
    have ih := idxOf_first r x k (by simpa using hk) (by simpa [nth] using h) (fun j hjk => by simpa [nth] using hj (j + 1) (by omega))
    have hz : (z == x) = false := by simp [h0]
    simp [List.idxOf_cons, hz, ih]

theorem idx_at {zs : List Int} {x : Int} {k : Nat} (hk : k < zs.length) (h : nth zs k = x) (hj : ∀ j, j < k → nth zs j ≠ x) : idx zs x = k := by
  unfold idx; rw [if_pos (mem_nth.2 ⟨k, hk, h⟩), idxOf_first zs x k hk h hj]
theorem idx_none {zs : List Int} {x : Int} (hj : ∀ j, j < zs.length → nth zs j ≠ x) : idx zs x = -1 := by
  unfold idx; rw [if_neg (fun hm => by obtain ⟨k, hk, e⟩ := mem_nth.1 hm; exact hj k hk e)]

/-- What ArenaOk asks of one vertex. -/
def VertexP (O : List Int) (zss : List (List Int)) (k : Nat) : Prop :=
  (nth O k = 0 ∨ nth O k = 1) ∧ 1 ≤ (row zss k).length ∧ (row zss k).length ≤ 16 ∧ setB O.length (row zss k) = true

/-- A valid arena. -/
def ArenaP (O : List Int) (zss : List (List Int)) : Prop :=
  1 ≤ O.length ∧ O.length ≤ 256 ∧ zss.length = O.length ∧ ∀ k, k < O.length → VertexP O zss k

noncomputable def arenaB (O : List Int) (zss : List (List Int)) : Bool := @decide (ArenaP O zss) (Classical.propDecidable _)

theorem arenaB_yes {O : List Int} {zss : List (List Int)} (h : ArenaP O zss) : arenaB O zss = true := by simp [arenaB, h]
theorem arenaB_no {O : List Int} {zss : List (List Int)} (h : ¬ ArenaP O zss) : arenaB O zss = false := by simp [arenaB, h]
theorem arenaB_iff {O : List Int} {zss : List (List Int)} : arenaB O zss = true ↔ ArenaP O zss := by simp [arenaB]

theorem arenaB_vertex {O : List Int} {zss : List (List Int)} {k : Nat} (hk : k < O.length) (h : ¬ VertexP O zss k) : arenaB O zss = false :=
  arenaB_no fun ⟨_, _, _, hv⟩ => h (hv k hk)

end Go.Proofs.Ythelpfilgamdfaa
