/-
  The play of two full plans. No program text.
-/
import Derived.Test.YtokcinhopajniaaGreatDoorPlanSpec
import Derived.Test.YtokcinhopajniaaGreatDoorZielonka
import Derived.Test.YtokcinhopajniaaGreatDoorWalks1
namespace Go.Proofs.YtokcinhopajniaaGreatDoor
open Go.RowKit

/-- Where the play goes from v. -/
def stepF (O E D : List Int) (v : Int) : Int := if nth O v.toNat = 0 then nth E v.toNat else nth D v.toNat
/-- The play from v. -/
def seqF (O E D : List Int) (v : Int) : Nat → Int
  | 0 => v
  | k + 1 => stepF O E D (seqF O E D v k)
/-- The first k of the play. -/
def metK (f : Nat → Int) : Nat → List Int
  | 0 => []
  | k + 1 => metK f k ++ [f k]
theorem metK_len (f : Nat → Int) : ∀ k, (metK f k).length = k
  | 0 => rfl
  | k + 1 => by rw [metK, List.length_append, metK_len f k]; rfl
theorem metK_mem {f : Nat → Int} {x : Int} : ∀ {k : Nat}, x ∈ metK f k ↔ ∃ j, j < k ∧ f j = x
  | 0 => by simp [metK]
  | k + 1 => by
    rw [metK, List.mem_append, metK_mem]
    constructor
    · rintro (⟨j, hj, e⟩ | h)
      · exact ⟨j, by omega, e⟩
      · simp only [List.mem_singleton] at h
        exact ⟨k, by omega, h.symm⟩
    · rintro ⟨j, hj, e⟩
      by_cases h : j = k
      · subst h; exact .inr (by simp [e])
      · exact .inl ⟨j, by omega, e⟩
theorem metK_nth {f : Nat → Int} : ∀ {n k : Nat}, k < n → nth (metK f n) k = f k
  | 0, _, h => absurd h (Nat.not_lt_zero _)
  | n + 1, k, h => by
    have hl := metK_len f n
    rw [metK]
    by_cases e : k = n
    · subst e
      simp [nth, hl]
    · rw [show nth (metK f n ++ [f n]) k = nth (metK f n) k from by simp [nth, List.getElem?_append_left (show k < (metK f n).length by omega)]]
      exact metK_nth (by omega)
/-- The first one that has been met, from s on. -/
def firstK (f : Nat → Int) : Nat → Nat → Nat
  | 0, s => s
  | m + 1, s => if f s ∈ metK f s then s else firstK f m (s + 1)
theorem firstK_is {f : Nat → Int} {k : Nat} (hk : f k ∈ metK f k) : ∀ {m s : Nat}, s ≤ k → k ≤ s + m → (∀ j, s ≤ j → j < k → f j ∉ metK f j) → firstK f m s = k
  | 0, s, h1, h2, _ => by rw [firstK]; omega
  | m + 1, s, h1, h2, h3 => by
    rw [firstK]
    by_cases e : s = k
    · subst e; rw [if_pos hk]
    · rw [if_neg (h3 s (Nat.le_refl _) (by omega))]
      exact firstK_is hk (by omega) (by omega) (fun j hj hjk => h3 j (by omega) hjk)

section
variable {O E D : List Int} {zss : List (List Int)} {v : Int}
/-- A full plan leads to a vertex. -/
theorem full_step {who : Int} {P : List Int} (h : fullB O zss who P = true) {u : Nat} (hu : u < O.length) (ho : nth O u = who) : 0 ≤ nth P u ∧ nth P u < O.length ∧ nth P u ∈ row zss u := by
  obtain ⟨⟨hA, _, hP⟩, hF⟩ := fullB_iff.1 h
  have h0 := hF u (by rw [hP.1]; exact hu) ho
  rcases hP.2 u (by rw [hP.1]; exact hu) with h1 | h1
  · omega
  · obtain ⟨_, _, _, h4⟩ := hA.2.2.2 u hu
    obtain ⟨j, hj, e⟩ := mem_nth.1 h1.2
    obtain ⟨h5, h6, _⟩ := setB_bounds h4 hj
    rw [e] at h5 h6
    exact ⟨h5, h6, h1.2⟩
theorem step_in (hE : fullB O zss 0 E = true) (hD : fullB O zss 1 D = true) {u : Nat} (hu : u < O.length) : 0 ≤ stepF O E D (u : Int) ∧ stepF O E D (u : Int) < O.length ∧ stepF O E D (u : Int) ∈ row zss u := by
  unfold stepF
  rw [Int.toNat_natCast]
  by_cases h : nth O u = 0
  · rw [if_pos h]; exact full_step hE hu h
  · rw [if_neg h]
    have hA := (fullB_iff.1 hE).1.1
    have := (hA.2.2.2 u hu).1
    exact full_step hD hu (by omega)
theorem seq_in (hE : fullB O zss 0 E = true) (hD : fullB O zss 1 D = true) (hv : 0 ≤ v ∧ v < O.length) : ∀ k, ∃ u : Nat, seqF O E D v k = (u : Int) ∧ u < O.length
  | 0 => ⟨v.toNat, by rw [seqF]; omega, by omega⟩
  | k + 1 => by
    obtain ⟨u, hu, hun⟩ := seq_in hE hD hv k
    have := step_in hE hD hun
    rw [seqF, hu]
    exact ⟨(stepF O E D (u : Int)).toNat, by omega, by omega⟩
theorem met_verts (hE : fullB O zss 0 E = true) (hD : fullB O zss 1 D = true) (hv : 0 ≤ v ∧ v < O.length) : ∀ k, (∀ j, j < k → seqF O E D v j ∉ metK (seqF O E D v) j) → VertsP O.length (metK (seqF O E D v) k)
  | 0, _ => VertsP.nil _
  | k + 1, h => by
    obtain ⟨u, hu, hun⟩ := seq_in hE hD hv k
    have h1 := met_verts hE hD hv k fun j hj => h j (by omega)
    have h2 := h k (by omega)
    rw [metK]
    rw [hu] at h2 ⊢
    exact h1.snoc hun h2
end

/-- How many steps the play takes until it meets itself. -/
def playK (O E D : List Int) (v : Int) : Nat := firstK (seqF O E D v) (O.length + 1) 0
/-- Where the loop begins. -/
noncomputable def playI (O E D : List Int) (v : Int) : Nat := (idx (metK (seqF O E D v) (playK O E D v)) (seqF O E D v (playK O E D v))).toNat
/-- Is there a play? -/
noncomputable def playB (O : List Int) (zss : List (List Int)) (E D : List Int) (v : Int) : Bool := fullB O zss 0 E && (fullB O zss 1 D && thereB O.length v)
noncomputable def playX (O : List Int) (zss : List (List Int)) (E D : List Int) (v : Int) : List Int := if playB O zss E D v = true then (metK (seqF O E D v) (playK O E D v)).take (playI O E D v) else []
noncomputable def playY (O : List Int) (zss : List (List Int)) (E D : List Int) (v : Int) : List Int := if playB O zss E D v = true then (metK (seqF O E D v) (playK O E D v)).drop (playI O E D v) else []

theorem play_no {O E D X Y : List Int} {zss : List (List Int)} {v : Int} {r : Bool} (hr : playX O zss E D v = X ∧ playY O zss E D v = Y ∧ playB O zss E D v = r) (h : playB O zss E D v = false) : X = [] ∧ Y = [] ∧ r = false := by
  obtain ⟨rfl, rfl, rfl⟩ := hr
  unfold playX playY
  rw [h]; simp
theorem play_yes {O E D X Y : List Int} {zss : List (List Int)} {v : Int} {r : Bool} (hr : playX O zss E D v = X ∧ playY O zss E D v = Y ∧ playB O zss E D v = r) (h : playB O zss E D v = true) :
    X = (metK (seqF O E D v) (playK O E D v)).take (playI O E D v) ∧ Y = (metK (seqF O E D v) (playK O E D v)).drop (playI O E D v) ∧ r = true := by
  obtain ⟨rfl, rfl, rfl⟩ := hr
  unfold playX playY
  rw [h]; simp

theorem IntsAt.takeB {w : World} {b off : Nat} {zs : List Int} (h : IntsAt w (some ⟨b, off, none⟩) zs) {i : Nat} (hi : i ≤ zs.length) : IntsAt w (some ⟨b, off, none⟩) (zs.take i) := by
  have hn : ∀ k, k < i → nth (zs.take i) k = nth zs k := fun k hk => by simp [nth, hk]
  refine ⟨by have := h.len; simp; omega, fun k hk => ?_, fun _ => ⟨b, off, rfl, fun k hk => ?_⟩⟩
  · simp at hk
    rw [hn k (by omega)]
    exact h.fits k (by omega)
  · simp at hk
    obtain ⟨b', off', ha, hc⟩ := h.cell (by omega)
    cases ha
    rw [hn k (by omega)]
    exact hc k (by omega)
theorem IntsAt.dropB {w : World} {b off : Nat} {zs : List Int} (h : IntsAt w (some ⟨b, off, none⟩) zs) {i : Nat} (hi : i ≤ zs.length) : IntsAt w (some ⟨b, off + i, none⟩) (zs.drop i) := by
  have hn : ∀ k, nth (zs.drop i) k = nth zs (i + k) := fun k => by simp [nth, List.getElem?_drop]
  refine ⟨by have := h.len; simp; omega, fun k hk => ?_, fun _ => ⟨b, off + i, rfl, fun k hk => ?_⟩⟩
  · simp at hk
    rw [hn k]
    exact h.fits _ (by omega)
  · simp at hk
    obtain ⟨b', off', ha, hc⟩ := h.cell (by omega)
    cases ha
    rw [hn k, Nat.add_assoc]
    exact hc _ (by omega)

end Go.Proofs.YtokcinhopajniaaGreatDoor
