/-
  The play of two full plans is a play of the arena, and of the arena that both plans fix. No program text.
-/
import Derived.Test.YtokcinhopajniaaPlayMath
import Derived.Test.YtokcinhopajniaaLassoMath
import Derived.Test.YtokcinhopajniaaFixedSpec
import Derived.Test.YtokcinhopajniaaDiceSet
namespace Go.Proofs.Ytokcinhopajniaa
open Go.RowKit

theorem least_ex {p : Nat → Prop} (n : Nat) : p n → ∃ k, k ≤ n ∧ p k ∧ ∀ j, j < k → ¬ p j :=
  Nat.strongRecOn n fun n ih hn => by
    by_cases h : ∃ j, j < n ∧ p j
    · obtain ⟨j, hj, hp⟩ := h
      obtain ⟨k, hk, h1, h2⟩ := ih j hj hp
      exact ⟨k, by omega, h1, h2⟩
    · exact ⟨n, Nat.le_refl _, hn, fun j hj hp => h ⟨j, hj, hp⟩⟩

section
variable {O E D : List Int} {zss : List (List Int)} {v : Int}
/-- The play meets itself. -/
theorem play_meets (hE : fullB O zss 0 E = true) (hD : fullB O zss 1 D = true) (hv : 0 ≤ v ∧ v < O.length) :
    playK O E D v ≤ O.length ∧ seqF O E D v (playK O E D v) ∈ metK (seqF O E D v) (playK O E D v) := by
  have hex : ∃ k, k ≤ O.length ∧ seqF O E D v k ∈ metK (seqF O E D v) k := by
    refine Classical.byContradiction fun hno => ?_
    have hall : ∀ j, j < O.length + 1 → seqF O E D v j ∉ metK (seqF O E D v) j := fun j hj h => hno ⟨j, by omega, h⟩
    have := (met_verts hE hD hv (O.length + 1) hall).len
    rw [metK_len] at this
    omega
  obtain ⟨k0, hk0, hp0⟩ := hex
  obtain ⟨k, hk, hp, hmin⟩ := least_ex (p := fun k => seqF O E D v k ∈ metK (seqF O E D v) k) k0 hp0
  have e : playK O E D v = k := firstK_is hp (Nat.zero_le _) (by omega) (fun j _ hj => hmin j hj)
  rw [e]
  exact ⟨by omega, hp⟩
theorem play_index (hE : fullB O zss 0 E = true) (hD : fullB O zss 1 D = true) (hv : 0 ≤ v ∧ v < O.length) :
    playI O E D v < playK O E D v ∧ seqF O E D v (playI O E D v) = seqF O E D v (playK O E D v) := by
  obtain ⟨hk, hm⟩ := play_meets hE hD hv
  have hlt : playI O E D v < playK O E D v := by
    unfold playI idx
    rw [if_pos hm]
    have := List.idxOf_lt_length_iff.2 hm
    rw [metK_len] at this
    omega
  refine ⟨hlt, ?_⟩
  rw [← metK_nth (f := seqF O E D v) hlt]
  unfold playI idx
  rw [if_pos hm, Int.toNat_natCast]
  have hl := List.idxOf_lt_length_iff.2 hm
  rw [nth_eq hl]
  exact List.getElem_idxOf hl
/-- All that the play visits, the loop's first once more. -/
theorem play_whole (hE : fullB O zss 0 E = true) (hD : fullB O zss 1 D = true) (hv : 0 ≤ v ∧ v < O.length) :
    playX O zss E D v ++ playY O zss E D v = metK (seqF O E D v) (playK O E D v) ∧ wholeP (playX O zss E D v) (playY O zss E D v) = metK (seqF O E D v) (playK O E D v + 1) ∧
      (playX O zss E D v).length = playI O E D v ∧ (playY O zss E D v).length = playK O E D v - playI O E D v := by
  have hb : playB O zss E D v = true := by unfold playB thereB; rw [hE, hD]; simpa using hv
  obtain ⟨hlt, hi⟩ := play_index hE hD hv
  have hX : playX O zss E D v = (metK (seqF O E D v) (playK O E D v)).take (playI O E D v) := by unfold playX; rw [if_pos hb]
  have hY : playY O zss E D v = (metK (seqF O E D v) (playK O E D v)).drop (playI O E D v) := by unfold playY; rw [if_pos hb]
  have hXY : playX O zss E D v ++ playY O zss E D v = metK (seqF O E D v) (playK O E D v) := by rw [hX, hY]; exact List.take_append_drop _ _
  refine ⟨hXY, ?_, by rw [hX, List.length_take, metK_len]; omega, by rw [hY, List.length_drop, metK_len]⟩
  have h0 : nth (playY O zss E D v) 0 = seqF O E D v (playK O E D v) := by
    rw [← hi, ← metK_nth (f := seqF O E D v) hlt, hY]
    simp [nth, List.getElem?_drop]
  unfold wholeP
  rw [hXY, h0, metK]
/-- The play is a play of every valid arena in which its steps are edges. -/
theorem play_lasso {zss' : List (List Int)} (hE : fullB O zss 0 E = true) (hD : fullB O zss 1 D = true) (hv : 0 ≤ v ∧ v < O.length) (hA' : ArenaP O zss')
    (hs : ∀ u : Nat, u < O.length → stepF O E D (u : Int) ∈ row zss' u) : lassoB O zss' (playX O zss E D v) (playY O zss E D v) = true := by
  obtain ⟨hk, _⟩ := play_meets hE hD hv
  obtain ⟨hlt, _⟩ := play_index hE hD hv
  obtain ⟨_, hw, hX, hY⟩ := play_whole hE hD hv
  have hO := hA'.2.1
  refine lassoB_iff.2 ⟨hA', by omega, by omega, by omega, fun i hi => ?_⟩
  rw [hw, metK_len] at hi
  rw [hw]
  have hni : nth (metK (seqF O E D v) (playK O E D v + 1)) i = seqF O E D v i := metK_nth hi
  refine ⟨?_, fun h0 => ?_⟩
  · rw [hni]
    obtain ⟨u, hu, hun⟩ := seq_in hE hD hv i
    rw [hu]; unfold thereB; simp; exact hun
  · rw [hni, metK_nth (show i - 1 < playK O E D v + 1 by omega)]
    obtain ⟨u, hu, hun⟩ := seq_in hE hD hv (i - 1)
    rw [hu, Int.toNat_natCast]
    have : seqF O E D v i = stepF O E D (u : Int) := by
      obtain ⟨m, rfl⟩ : ∃ m, i = m + 1 := ⟨i - 1, by omega⟩
      rw [seqF, ← hu]; simp
    rw [this]
    exact hs u hun

/-- A plan of one player leaves the other's vertices alone. -/
theorem plan_not {who : Int} {P : List Int} (h : PlanP O zss who P) {u : Nat} (hu : u < P.length) (ho : nth O u ≠ who) : nth P u = -1 := by
  rcases h.2 u hu with h | h
  · exact h
  · exact absurd h.1 ho
theorem fix_row {P : List Int} {u : Nat} (hu : u < zss.length) : row (fixK zss P zss.length) u = if 0 ≤ nth P u then [nth P u] else row zss u := by
  rw [fixK_row hu]
  by_cases h : 0 ≤ nth P u
  · rw [if_pos ⟨hu, h⟩, if_pos h]
  · rw [if_neg (fun h' => h h'.2), if_neg h]
theorem plan_in {who : Int} {P : List Int} (hA : ArenaP O zss) (h : PlanP O zss who P) {u : Nat} (hu : u < O.length) (h0 : 0 ≤ nth P u) : nth P u ∈ row zss u ∧ nth P u < O.length := by
  rcases h.2 u (by rw [h.1]; exact hu) with h' | h'
  · omega
  · obtain ⟨j, hj, e⟩ := mem_nth.1 h'.2
    exact ⟨h'.2, by rw [← e]; exact (setB_bounds (hA.2.2.2 u hu).2.2.2 hj).2.1⟩
theorem fix_valid {who : Int} {P : List Int} (hA : ArenaP O zss) (h : PlanP O zss who P) : ArenaP O (fixK zss P zss.length) := by
  refine ⟨hA.1, hA.2.1, by rw [fixK_len]; exact hA.2.2.1, fun u hu => ?_⟩
  have hz : u < zss.length := by rw [hA.2.2.1]; exact hu
  obtain ⟨h1, h2, h3, h4⟩ := hA.2.2.2 u hu
  refine ⟨h1, ?_⟩
  rw [fix_row hz]
  by_cases h0 : 0 ≤ nth P u
  · rw [if_pos h0]
    have := (plan_in hA h hu h0).2
    refine ⟨by simp, by simp, ?_⟩
    unfold setB
    simp only [setFrom, Bool.and_true, decide_eq_true_eq]
    omega
  · rw [if_neg h0]; exact ⟨h2, h3, h4⟩
theorem fix_plan {who : Int} {P Q : List Int} (hA : ArenaP O zss) (_hw : 0 ≤ who ∧ who ≤ 1) (hP : PlanP O zss (1 - who) P) (hQ : PlanP O zss who Q) : PlanP O (fixK zss P zss.length) who Q := by
  refine ⟨hQ.1, fun u hu => ?_⟩
  rcases hQ.2 u hu with h | h
  · exact .inl h
  · refine .inr ⟨h.1, ?_⟩
    have huO : u < O.length := by rw [← hQ.1]; exact hu
    rw [fix_row (by rw [hA.2.2.1]; exact huO), if_neg (by
      rw [plan_not hP (by rw [hP.1]; exact huO) (by rw [h.1]; omega)]; omega)]
    exact h.2
/-- In the arena that both plans fix the play's steps are edges. -/
theorem step_fixed (hE : fullB O zss 0 E = true) (hD : fullB O zss 1 D = true) {u : Nat} (hu : u < O.length) : stepF O E D (u : Int) ∈ row (fixK (fixK zss E zss.length) D (fixK zss E zss.length).length) u := by
  have hA := (fullB_iff.1 hE).1.1
  have hPE := (fullB_iff.1 hE).1.2.2
  have hPD := (fullB_iff.1 hD).1.2.2
  have hz : u < zss.length := by rw [hA.2.2.1]; exact hu
  unfold stepF
  rw [fix_row (by rw [fixK_len]; exact hz), fix_row hz, Int.toNat_natCast]
  by_cases ho : nth O u = 0
  · rw [if_pos ho, if_neg (by rw [plan_not hPD (by rw [hPD.1]; exact hu) (by rw [ho]; decide)]; omega), if_pos (full_step hE hu ho).1]
    simp
  · have h1 : nth O u = 1 := by have := (hA.2.2.2 u hu).1; omega
    rw [if_neg ho, if_pos (full_step hD hu h1).1]
    simp
/-- What a random plan is. -/
theorem full_of {who : Int} {F : Nat → Int} (hA : ArenaP O zss) (hw : 0 ≤ who ∧ who ≤ 1) (h : PlanTo O zss who O.length F) : fullB O zss who (fnL O.length F) = true := by
  refine fullB_iff.2 ⟨⟨hA, hw, fnL_len _ _, fun u hu => ?_⟩, fun u hu ho => ?_⟩
  · rw [fnL_len] at hu
    unfold PlanV
    rw [fnL_nth hu]
    by_cases ho : nth O u = who
    · exact .inr ⟨ho, (h u hu).1 ho⟩
    · exact .inl ((h u hu).2 ho)
  · rw [fnL_len] at hu
    rw [fnL_nth hu]
    obtain ⟨j, hj, e⟩ := mem_nth.1 ((h u hu).1 ho)
    rw [← e]
    exact (setB_bounds (hA.2.2.2 u hu).2.2.2 hj).1
end

end Go.Proofs.Ytokcinhopajniaa
