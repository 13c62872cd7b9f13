/-
  The checker of strategies: what it calls closed, bad, clean; and that a plan it accepts wins. No program text.
-/
import Derived.Test.YtokcinhopajniaaGreatDoorPlayTrue
import Derived.Test.YtokcinhopajniaaGreatDoorWonMath
namespace Go.Proofs.YtokcinhopajniaaGreatDoor
open Go.RowKit

/-- Closed under a plan: a vertex of who has a choice in the region, all successors of the others lie in it. -/
def ClosP (O : List Int) (zss : List (List Int)) (who : Int) (S Q : List Int) : Prop :=
  ∀ v : Nat, (v : Int) ∈ S → (nth O v = who → 0 ≤ nth Q v ∧ nth Q v ∈ S) ∧ (nth O v ≠ who → ∀ x ∈ row zss v, x ∈ S)
noncomputable def closB (O : List Int) (zss : List (List Int)) (who : Int) (S Q : List Int) : Bool := planB O zss who Q && (setB O.length S && @decide (ClosP O zss who S Q) (Classical.propDecidable _))
theorem closB_iff {O S Q : List Int} {zss : List (List Int)} {who : Int} : closB O zss who S Q = true ↔ planB O zss who Q = true ∧ setB O.length S = true ∧ ClosP O zss who S Q := by
  unfold closB
  rw [Bool.and_eq_true, Bool.and_eq_true, @decide_eq_true_eq _ (Classical.propDecidable _)]
/-- The vertices of a region of no greater priority. -/
def lowI (P S : List Int) (v : Nat) : Nat → Bool := fun u => hasB S (u : Int) && decide (nth P u ≤ nth P v)
/-- A vertex of the opponent's parity on a loop of no greater priority. -/
def BadP (zss : List (List Int)) (P : List Int) (who : Int) (S Q : List Int) (v : Nat) : Prop := nth P v % 2 ≠ who ∧ Rch (fixK zss Q zss.length) (lowI P S v) [(v : Int)] v
noncomputable def badM (zss : List (List Int)) (P : List Int) (who : Int) (S Q : List Int) (x : Int) : Bool := @decide (BadP zss P who S Q x.toNat) (Classical.propDecidable _)
/-- Is all of it in order? -/
noncomputable def rightB (O : List Int) (zss : List (List Int)) (P : List Int) (who : Int) (S Q : List Int) : Bool := parityB O zss P && (planB O zss who Q && setB P.length S)
noncomputable def badL (O : List Int) (zss : List (List Int)) (P : List Int) (who : Int) (S Q : List Int) : List Int := if rightB O zss P who S Q = true then S.filter (badM zss P who S Q) else []
noncomputable def cleanB (O : List Int) (zss : List (List Int)) (P : List Int) (who : Int) (S Q : List Int) : Bool := rightB O zss P who S Q && decide ((badL O zss P who S Q).length = 0)
noncomputable def winsB (O : List Int) (zss : List (List Int)) (P : List Int) (who : Int) (S Q : List Int) : Bool := cleanB O zss P who S Q && closB O zss who S Q
theorem cleanB_iff {O P S Q : List Int} {zss : List (List Int)} {who : Int} : cleanB O zss P who S Q = true ↔ rightB O zss P who S Q = true ∧ ∀ v : Nat, (v : Int) ∈ S → ¬ BadP zss P who S Q v := by
  unfold cleanB
  rw [Bool.and_eq_true, decide_eq_true_eq, List.length_eq_zero_iff]
  constructor
  · rintro ⟨h1, h2⟩
    refine ⟨h1, fun v hv hb => ?_⟩
    unfold badL at h2
    rw [if_pos h1, List.filter_eq_nil_iff] at h2
    refine h2 _ hv ?_
    unfold badM
    rw [@decide_eq_true_eq _ (Classical.propDecidable _), Int.toNat_natCast]
    exact hb
  · rintro ⟨h1, h2⟩
    refine ⟨h1, ?_⟩
    unfold badL
    rw [if_pos h1, List.filter_eq_nil_iff]
    intro x hx
    unfold badM
    rw [@decide_eq_true_eq _ (Classical.propDecidable _)]
    unfold rightB at h1
    rw [Bool.and_eq_true, Bool.and_eq_true] at h1
    obtain ⟨i, hi, rfl⟩ := mem_nth.1 hx
    have h0 := (setB_bounds h1.2.2 hi).1
    have e : nth S i = ((nth S i).toNat : Int) := by omega
    rw [e] at hx
    exact h2 _ hx

/-- The play from a region that is closed stays there, on the plan's edges. -/
theorem play_stays {O E D Q S : List Int} {zss : List (List Int)} {who v : Int} (hE : fullB O zss 0 E = true) (hD : fullB O zss 1 D = true) (hw : who = 0 ∨ who = 1) (hQ : PlanP O zss who Q) (hc : ClosP O zss who S Q)
    (hf : ∀ u, u < O.length → 0 ≤ nth Q u → nth (if who = 0 then E else D) u = nth Q u) (hv : 0 ≤ v ∧ v < O.length) (hvS : v ∈ S) :
    ∀ k, seqF O E D v k ∈ S ∧ seqF O E D v (k + 1) ∈ row (fixK zss Q zss.length) (seqF O E D v k).toNat
  | k => by
    have hA := (fullB_iff.1 hE).1.1
    have key : ∀ k, seqF O E D v k ∈ S → seqF O E D v (k + 1) ∈ S ∧ seqF O E D v (k + 1) ∈ row (fixK zss Q zss.length) (seqF O E D v k).toNat := fun k hk => by
      obtain ⟨u, hu, hun⟩ := seq_in hE hD hv k
      rw [hu] at hk
      rw [show seqF O E D v (k + 1) = stepF O E D (seqF O E D v k) from rfl, hu, Int.toNat_natCast]
      have hz : u < zss.length := by rw [hA.2.2.1]; exact hun
      have hin := (step_in hE hD hun).2.2
      by_cases ho : nth O u = who
      · obtain ⟨h0, hS⟩ := (hc u hk).1 ho
        have hst : stepF O E D (u : Int) = nth Q u := by
          rw [← hf u hun h0]
          unfold stepF
          rw [Int.toNat_natCast, ho]
          rcases hw with rfl | rfl <;> simp
        rw [hst, fix_row hz, if_pos h0]
        exact ⟨hS, by simp⟩
      · have hq : nth Q u = -1 := plan_not hQ (by rw [hQ.1]; exact hun) ho
        rw [fix_row hz, if_neg (by rw [hq]; decide)]
        exact ⟨(hc u hk).2 ho _ hin, hin⟩
    have hall : ∀ k, seqF O E D v k ∈ S := fun k => by
      induction k with
      | zero => exact hvS
      | succ k ih => exact (key k ih).1
    exact ⟨hall k, (key k (hall k)).2⟩

/-- Along a run from i on all that follows is reached. -/
theorem rch_run {es : List (List Int)} {I : Nat → Bool} {f : Nat → Nat} (he : ∀ k, (f (k + 1) : Int) ∈ row es (f k)) {i : Nat} : ∀ m, (∀ j, j ≤ m → I (f (i + 1 + j)) = true) → Rch es I [(f i : Int)] (f (i + 1 + m))
  | 0, h => Rch.one (by simp) (he i) (h 0 (Nat.le_refl _))
  | m + 1, h => Rch.more (rch_run he m fun j hj => h j (by omega)) (he (i + 1 + m)) (h (m + 1) (Nat.le_refl _))
theorem rch_join {es : List (List Int)} {I : Nat → Bool} {F : List Int} {u v : Nat} (h : Rch es I F u) (h2 : Rch es I [(u : Int)] v) : Rch es I F v := by
  induction h2 with
  | @one a b hf hm hI =>
    simp only [List.mem_singleton] at hf
    have : a = u := by omega
    subst this
    exact Rch.more h hm hI
  | @more a b _ hm hI ih => exact Rch.more ih hm hI

/-- The greatest of some numbers. -/
theorem top_ex {g : Nat → Int} {i : Nat} : ∀ m, ∃ j, i ≤ j ∧ j ≤ i + m ∧ ∀ k, i ≤ k → k ≤ i + m → g k ≤ g j
  | 0 => ⟨i, Nat.le_refl _, Nat.le_refl _, fun k h1 h2 => by
    have : k = i := by omega
    subst this; exact Int.le_refl _⟩
  | m + 1 => by
    obtain ⟨j, h1, h2, h3⟩ := top_ex (g := g) (i := i) m
    by_cases h : g j < g (i + (m + 1))
    · refine ⟨i + (m + 1), by omega, by omega, fun k k1 k2 => ?_⟩
      by_cases e : k = i + (m + 1)
      · subst e; exact Int.le_refl _
      · have := h3 k k1 (by omega); omega
    · refine ⟨j, h1, by omega, fun k k1 k2 => ?_⟩
      by_cases e : k = i + (m + 1)
      · subst e; omega
      · exact h3 k k1 (by omega)

/-- A plan that the checker accepts wins every play that follows it in the region. -/
theorem checked_wins {O E D P Q S : List Int} {zss : List (List Int)} {who v : Int} (hE : fullB O zss 0 E = true) (hD : fullB O zss 1 D = true) (hw : who = 0 ∨ who = 1) (hwin : winsB O zss P who S Q = true)
    (hf : ∀ u, u < O.length → 0 ≤ nth Q u → nth (if who = 0 then E else D) u = nth Q u) (hv : 0 ≤ v ∧ v < O.length) (hvS : v ∈ S) :
    wonV O zss P (playX O zss E D v) (playY O zss E D v) = who := by
  unfold winsB at hwin
  rw [Bool.and_eq_true, cleanB_iff, closB_iff] at hwin
  obtain ⟨⟨hr, hclean⟩, hplan, hset, hclos⟩ := hwin
  have hpar : parityB O zss P = true := by unfold rightB at hr; rw [Bool.and_eq_true] at hr; exact hr.1
  obtain ⟨hA, hPl, hPb⟩ := parityB_iff.1 hpar
  have hQ := (planB_iff.1 hplan).2.2
  have hst := play_stays (v := v) hE hD hw hQ hclos hf hv hvS
  obtain ⟨hik, hie⟩ := play_index hE hD hv
  obtain ⟨hxy, _, hlx, hly⟩ := play_whole hE hD hv
  have hlas : lassoB O zss (playX O zss E D v) (playY O zss E D v) = true := play_lasso hE hD hv hA (fun u hu => (step_in hE hD hu).2.2)
  obtain ⟨f, hff⟩ : ∃ f : Nat → Nat, ∀ k, seqF O E D v k = (f k : Int) := ⟨fun k => (seqF O E D v k).toNat, fun k => by
    obtain ⟨u, hu, _⟩ := seq_in hE hD hv k
    show seqF O E D v k = ((seqF O E D v k).toNat : Int)
    omega⟩
  have hfn : ∀ k, f k < O.length := fun k => by
    obtain ⟨u, hu, hun⟩ := seq_in hE hD hv k
    have := hff k
    omega
  have hed : ∀ k, (f (k + 1) : Int) ∈ row (fixK zss Q zss.length) (f k) := fun k => by
    have h := (hst k).2
    rw [hff, hff, Int.toNat_natCast] at h
    exact h
  have hS : ∀ k, (f k : Int) ∈ S := fun k => by rw [← hff]; exact (hst k).1
  obtain ⟨K, hK⟩ : ∃ K, playK O E D v = K := ⟨_, rfl⟩
  obtain ⟨I, hI⟩ : ∃ I, playI O E D v = I := ⟨_, rfl⟩
  rw [hK, hI] at hik hie hly
  rw [hK] at hxy
  rw [hI] at hlx
  have hIK : f I = f K := by have h1 := hff I; have h2 := hff K; omega
  have hY : ∀ j, j < K - I → nth (playY O zss E D v) j = (f (I + j) : Int) := fun j hj => by
    have h : (playX O zss E D v ++ playY O zss E D v)[I + j]? = (metK (seqF O E D v) K)[I + j]? := by rw [hxy]
    rw [List.getElem?_append_right (by omega), hlx, show I + j - I = j by omega] at h
    have h2 : nth (metK (seqF O E D v) K) (I + j) = seqF O E D v (I + j) := metK_nth (by omega)
    rw [← hff, ← h2]
    unfold nth List.getD
    rw [h]
  obtain ⟨j, hj1, hj2, hmax⟩ := top_ex (g := fun k => nth P (f k)) (i := I) (K - I - 1)
  have hRch : Rch (fixK zss Q zss.length) (lowI P S (f j)) [(f j : Int)] (f j) := by
    have hlow : ∀ k, I ≤ k → k ≤ K → lowI P S (f j) (f k) = true := fun k h1 h2 => by
      unfold lowI
      rw [Bool.and_eq_true, decide_eq_true_eq]
      refine ⟨by unfold hasB; simpa using hS k, ?_⟩
      by_cases e : k = K
      · subst e; rw [← hIK]; exact hmax I (Nat.le_refl _) (by omega)
      · exact hmax k h1 (by omega)
    have h1 : Rch (fixK zss Q zss.length) (lowI P S (f j)) [(f j : Int)] (f K) := by
      have := rch_run (I := lowI P S (f j)) hed (i := j) (K - j - 1) (fun m hm => hlow _ (by omega) (by omega))
      rw [show j + 1 + (K - j - 1) = K by omega] at this
      exact this
    by_cases e : j = I
    · subst e; rw [hIK] at h1 ⊢; exact h1
    · have h2 : Rch (fixK zss Q zss.length) (lowI P S (f j)) [(f K : Int)] (f j) := by
        rw [← hIK]
        have := rch_run (I := lowI P S (f j)) hed (i := I) (j - I - 1) (fun m hm => hlow _ (by omega) (by omega))
        rw [show I + 1 + (j - I - 1) = j by omega] at this
        exact this
      exact rch_join h1 h2
  have hpw : nth P (f j) % 2 = who := Classical.byContradiction fun hne => hclean (f j) (hS j) ⟨hne, hRch⟩
  have htop : top0 P (playY O zss E D v) (playY O zss E D v).length = nth P (f j) := by
    have hpos : ∀ m, m < (playY O zss E D v).length → 0 ≤ nth P (nth (playY O zss E D v) m).toNat := fun m hm => by
      rw [hY m (by omega), Int.toNat_natCast]
      exact (hPb _ (nth_mem (by rw [hPl]; exact hfn _))).1
    rw [(top0_k _ hpos).2 (by omega)]
    rcases topK_at (P := P) (In := playY O zss E D v) (playY O zss E D v).length with h | ⟨m, hm, h⟩
    · have h0 := (top0_k _ hpos).1
      rw [(top0_k _ hpos).2 (by omega)] at h0
      omega
    · have hge := topK_ge (P := P) (In := playY O zss E D v) (k := (playY O zss E D v).length) (j := j - I) (by omega)
      rw [hY (j - I) (by omega), Int.toNat_natCast, show I + (j - I) = j by omega] at hge
      have hle := hmax (I + m) (by omega) (by omega)
      rw [hY m (by omega), Int.toNat_natCast] at h
      omega
  unfold wonV
  rw [if_pos ⟨hpar, hlas⟩, htop, hpw]

end Go.Proofs.YtokcinhopajniaaGreatDoor
