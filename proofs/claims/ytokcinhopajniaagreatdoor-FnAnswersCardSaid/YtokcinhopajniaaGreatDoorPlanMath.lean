/-
  An accepted plan holds its region; so exchanging one winner of an accepted answer is not accepted. No program text.
-/
import Derived.Test.YtokcinhopajniaaGreatDoorWonIn
import Derived.Test.YtokcinhopajniaaGreatDoorCheckMath
import Derived.Test.YtokcinhopajniaaGreatDoorAnswerOkSpec
import Derived.Test.YtokcinhopajniaaGreatDoorRecurSpec
namespace Go.Proofs.YtokcinhopajniaaGreatDoor
section
open Go.RowKit

/-- The vertices of a list. -/
def setI (S : List Int) : Nat → Bool := fun v => hasB S (v : Int)
theorem setI_iff {S : List Int} {v : Nat} : setI S v = true ↔ (v : Int) ∈ S := by unfold setI; exact hasB_iff

/-- An accepted plan holds its region. -/
theorem wins_holds {O P S Q : List Int} {zss : List (List Int)} {who : Int} (h : winsB O zss P who S Q = true) :
    HoldsP zss O (nth P) (allI zss.length) (setI S) who (fun v => (nth Q v).toNat) := by
  unfold winsB at h
  rw [Bool.and_eq_true, cleanB_iff, closB_iff] at h
  obtain ⟨⟨_, hclean⟩, hplan, hset, hclos⟩ := h
  obtain ⟨hA, _, hQ⟩ := planB_iff.1 hplan
  have hz := hA.2.2.1
  have hin : ∀ v : Nat, (v : Int) ∈ S → v < zss.length := fun v hv => by
    obtain ⟨u, hu, hun⟩ := set_nats hset _ hv
    omega
  have hq : ∀ v, v < zss.length → nth Q v = -1 ∨ (nth O v = who ∧ nth Q v ∈ row zss v ∧ 0 ≤ nth Q v) := fun v hv => by
    have h1 := hQ.2 v (by rw [hQ.1]; omega)
    unfold PlanV at h1
    rcases h1 with h1 | h1
    · exact .inl h1
    · obtain ⟨y, hy, _⟩ := arena_nats hA v hv _ h1.2
      exact .inr ⟨h1.1, h1.2, by omega⟩
  refine ⟨fun v hv => by unfold allI; exact decide_eq_true (hin v (setI_iff.1 hv)), fun v hv hS ho => ?_, fun v hv hS ho x hx _ => ?_, fun c L hl i hmax => ?_⟩
  · obtain ⟨h0, hm⟩ := (hclos v (setI_iff.1 hS)).1 ho
    have e : (((nth Q v).toNat : Nat) : Int) = nth Q v := by omega
    rcases hq v hv with h1 | h1
    · omega
    · exact ⟨by rw [e]; exact h1.2.1, by rw [setI_iff, e]; exact hm⟩
  · have hm := (hclos v (setI_iff.1 hS)).2 ho x hx
    obtain ⟨y, hy, _⟩ := arena_nats hA v hv _ hx
    rw [setI_iff, hy, Int.toNat_natCast, ← hy]
    exact hm
  · refine Classical.byContradiction fun hne => hclean (c i) (setI_iff.1 (hl.step i).1) ⟨hne, ?_⟩
    have hed : ∀ k, (c (k + 1) : Int) ∈ row (fixK zss Q zss.length) (c k) := fun k => by
      obtain ⟨h1, h2, h3, h4, h5⟩ := hl.step k
      rw [fix_row h2]
      by_cases h0 : 0 ≤ nth Q (c k)
      · rw [if_pos h0]
        rcases hq _ h2 with h6 | h6
        · omega
        · have h7 : (nth Q (c k)).toNat = c (k + 1) := h5 h6.1
          have e : (c (k + 1) : Int) = nth Q (c k) := by omega
          rw [e]; simp
      · rw [if_neg h0]; exact h3
    have hr := rch_run (I := lowI P S (c i)) hed (i := i) (L - 1) (fun j _ => by
      unfold lowI
      rw [Bool.and_eq_true, decide_eq_true_eq]
      exact ⟨(hl.step (i + 1 + j)).1, hmax _⟩)
    have hp := hl.pos
    rw [show i + 1 + (L - 1) = i + L by omega, hl.per] at hr
    exact hr

/-- Two players cannot both hold a vertex. -/
theorem not_both {O P : List Int} {zss : List (List Int)} {who opp : Int} (hA : ArenaP O zss) (hwo : (who = 0 ∧ opp = 1) ∨ (who = 1 ∧ opp = 0)) {W W' : Nat → Bool} {s s' : Nat → Nat} (h : HoldsP zss O (nth P) (allI zss.length) W who s) (h' : HoldsP zss O (nth P) (allI zss.length) W' opp s') {v : Nat} (hv : v < zss.length) : ¬ (W v = true ∧ W' v = true) := by
  have hI : ∀ v, v < zss.length → allI zss.length v = true := fun v hv => by unfold allI; exact decide_eq_true hv
  refine no_both (rowsP_of hA).inG h h' hI hI (fun u hu => ?_) (fun u w _ _ h1 h2 h3 h4 => ?_) v hv
  · have := (arena_rows hA hu).1
    omega
  · have e : nth P u = nth P w := Int.le_antisymm h1 h2
    rw [e] at h4
    omega

/-- An answer that gives one vertex to the player who doesn't hold it is not accepted. -/
theorem ans_flip {O P X Y : List Int} {zss : List (List Int)} {who opp : Int} (hwo : (who = 0 ∧ opp = 1) ∨ (who = 1 ∧ opp = 0)) {W : Nat → Bool} {s : Nat → Nat} (h : HoldsP zss O (nth P) (allI zss.length) W who s) {v : Nat} (hv : v < zss.length) (hW : W v = true) (hX : nth X v = opp) (hlX : v < X.length) (hl : X.length ≤ 256) :
    ansB O zss P X Y = false := by
  cases ha : ansB O zss P X Y with
  | false => rfl
  | true =>
    exfalso
    unfold ansB at ha
    rw [Bool.and_eq_true, Bool.and_eq_true] at ha
    have hA := (parityB_iff.1 (formB_iff.1 ha.1).1).1
    have hreg : (v : Int) ∈ regL X opp := by
      unfold regL
      rw [if_pos hl]
      exact regK_mem.2 ⟨v, rfl, hlX, hX⟩
    have hopp : HoldsP zss O (nth P) (allI zss.length) (setI (regL X opp)) opp (fun u => (nth (ansP O Y opp Y.length) u).toNat) := by
      rcases hwo with ⟨_, rfl⟩ | ⟨_, rfl⟩
      · exact wins_holds ha.2.2
      · exact wins_holds ha.2.1
    exact not_both hA hwo h hopp hv ⟨hW, setI_iff.2 hreg⟩

/-- Two players cannot both hold a vertex of a part that both stay in. -/
theorem no_both_in {zss : List (List Int)} {O : List Int} {p : Nat → Int} (hin : InG zss) {I W W' : Nat → Bool} {who who' : Int} {s s' : Nat → Nat} (h : HoldsP zss O p I W who s) (h' : HoldsP zss O p I W' who' s')
    (ho : ∀ v, v < zss.length → (nth O v = who ↔ nth O v ≠ who')) (hne : who ≠ who') : ∀ v, v < zss.length → ¬ (W v = true ∧ W' v = true) := by
  rintro v0 hv0 ⟨hw0, hw0'⟩
  obtain ⟨f, hf⟩ : ∃ f : Nat → Nat, f = fun v => if nth O v = who then s v else s' v := ⟨_, rfl⟩
  have hstep : ∀ v, v < zss.length → W v = true → W' v = true → f v < zss.length ∧ W (f v) = true ∧ W' (f v) = true ∧ StepE zss O who W s v (f v) ∧ StepE zss O who' W' s' v (f v) := fun v hv hw hw' => by
    by_cases hov : nth O v = who
    · have e : f v = s v := by rw [hf]; exact if_pos hov
      have h1 := h.own v hv hw hov
      obtain ⟨y, hy, hyn⟩ := hin v hv _ h1.1
      have hsn : s v < zss.length := by omega
      have h2 := h'.opp v hv hw' ((ho v hv).1 hov) _ h1.1 (by rw [Int.toNat_natCast]; exact h.sub _ h1.2)
      rw [Int.toNat_natCast] at h2
      rw [e]
      exact ⟨hsn, h1.2, h2, ⟨hw, hv, h1.1, h1.2, fun _ => rfl⟩, ⟨hw', hv, h1.1, h2, fun hh => absurd hh ((ho v hv).1 hov)⟩⟩
    · have e : f v = s' v := by rw [hf]; exact if_neg hov
      have hov' : nth O v = who' := Classical.byContradiction fun hh => hov ((ho v hv).2 hh)
      have h1 := h'.own v hv hw' hov'
      obtain ⟨y, hy, hyn⟩ := hin v hv _ h1.1
      have hsn : s' v < zss.length := by omega
      have h2 := h.opp v hv hw hov _ h1.1 (by rw [Int.toNat_natCast]; exact h'.sub _ h1.2)
      rw [Int.toNat_natCast] at h2
      rw [e]
      exact ⟨hsn, h2, h1.2, ⟨hw, hv, h1.1, h2, fun hh => absurd hh hov⟩, ⟨hw', hv, h1.1, h1.2, fun _ => rfl⟩⟩
  obtain ⟨c0, hc0⟩ : ∃ c0 : Nat → Nat, c0 = fun i => Nat.rec v0 (fun _ x => f x) i := ⟨_, rfl⟩
  have hz : c0 0 = v0 := by subst hc0; rfl
  have hs : ∀ i, c0 (i + 1) = f (c0 i) := fun i => by subst hc0; rfl
  have hall : ∀ i, c0 i < zss.length ∧ W (c0 i) = true ∧ W' (c0 i) = true := fun i => by
    induction i with
    | zero => rw [hz]; exact ⟨hv0, hw0, hw0'⟩
    | succ i ih =>
      have h1 := hstep _ ih.1 ih.2.1 ih.2.2
      rw [hs i]; exact ⟨h1.1, h1.2.1, h1.2.2.1⟩
  obtain ⟨i, j, hij, he⟩ := play_loops fun i => (hall i).1
  have hper : ∀ k, c0 (j + k) = c0 (i + k) := fun k => by
    induction k with
    | zero => exact he.symm
    | succ k ih => rw [← Nat.add_assoc, ← Nat.add_assoc, hs, hs, ih]
  have hp1 : ∀ k, c0 (i + (k + (j - i))) = c0 (i + k) := fun k => by rw [← hper k]; congr 1; omega
  have hl : LoopP (StepE zss O who W s) (fun k => c0 (i + k)) (j - i) := ⟨by omega, hp1, fun k => by
    have h1 := hall (i + k)
    have h2 := (hstep _ h1.1 h1.2.1 h1.2.2).2.2.2.1
    rw [← hs] at h2; exact h2⟩
  have hl' : LoopP (StepE zss O who' W' s') (fun k => c0 (i + k)) (j - i) := ⟨by omega, hp1, fun k => by
    have h1 := hall (i + k)
    have h2 := (hstep _ h1.1 h1.2.1 h1.2.2).2.2.2.2
    rw [← hs] at h2; exact h2⟩
  obtain ⟨a, ha⟩ := hl.max p
  exact hne ((h.wins _ _ hl a ha).symm.trans (h'.wins _ _ hl' a ha))

/-- A way around, vertex by vertex. -/
theorem rch_path {es : List (List Int)} {I : Nat → Bool} {v : Nat} {u : Nat} (h : Rch es I [(v : Int)] u) : ∃ (m : Nat) (f : Nat → Nat), f 0 = v ∧ f (m + 1) = u ∧ ∀ j, j ≤ m → (f (j + 1) : Int) ∈ row es (f j) ∧ I (f (j + 1)) = true := by
  induction h with
  | @one a b hf hm hI =>
    have e : a = v := by simp only [List.mem_singleton] at hf; omega
    subst e
    refine ⟨0, fun j => if j = 0 then a else b, by simp, by simp, fun j hj => ?_⟩
    have : j = 0 := by omega
    subst this
    simpa using ⟨hm, hI⟩
  | @more a b _ hm hI ih =>
    obtain ⟨m, f, h0, h1, h2⟩ := ih
    refine ⟨m + 1, fun j => if j ≤ m + 1 then f j else b, by simpa using h0, if_neg (by omega), fun j hj => ?_⟩
    by_cases e : j = m + 1
    · subst e
      simp only [Nat.le_refl, if_true, show ¬ (m + 1 + 1 ≤ m + 1) by omega, if_false, h1]
      exact ⟨hm, hI⟩
    · have h3 := h2 j (by omega)
      simp only [show j ≤ m + 1 by omega, show j + 1 ≤ m + 1 by omega, if_true]
      exact h3
theorem rch_loop {es : List (List Int)} {I : Nat → Bool} {v : Nat} {E : Nat → Nat → Prop} (h : Rch es I [(v : Int)] v) (hE : ∀ a b : Nat, (a = v ∨ I a = true) → (b : Int) ∈ row es a → I b = true → E a b) :
    ∃ c L, LoopP E c L ∧ c 0 = v ∧ ∀ j, I (c j) = true := by
  obtain ⟨m, f, h0, h1, h2⟩ := rch_path h
  have hIv : I v = true := by rw [← h1]; exact (h2 m (Nat.le_refl _)).2
  have hIf : ∀ j, j ≤ m → I (f j) = true := fun j hj => by
    cases j with
    | zero => rw [h0]; exact hIv
    | succ j => exact (h2 j (by omega)).2
  refine ⟨fun j => f (j % (m + 1)), m + 1, ⟨by omega, fun i => by rw [Nat.add_mod_right], fun i => ?_⟩, by simpa using h0, fun j => hIf _ (by have := Nat.mod_lt j (show 0 < m + 1 by omega); omega)⟩
  have hlt := Nat.mod_lt i (show 0 < m + 1 by omega)
  have hs := h2 (i % (m + 1)) (by omega)
  have e : f ((i + 1) % (m + 1)) = f (i % (m + 1) + 1) := by
    by_cases hm : i % (m + 1) = m
    · rw [hm, h1, Nat.add_mod, hm]
      by_cases hm0 : m = 0
      · subst hm0; simpa using h0
      · rw [Nat.mod_eq_of_lt (show 1 < m + 1 by omega), Nat.mod_self, h0]
    · rw [Nat.add_mod]
      by_cases hm0 : m = 0
      · subst hm0; omega
      · rw [Nat.mod_eq_of_lt (show 1 < m + 1 by omega), Nat.mod_eq_of_lt (show i % (m + 1) + 1 < m + 1 by omega)]
  show E (f (i % (m + 1))) (f ((i + 1) % (m + 1)))
  rw [e]
  exact hE _ _ (.inr (hIf _ (by omega))) hs.1 hs.2
end

section
open Go.RowKit

/-- What a player wins. -/
noncomputable def rgW (zss : List (List Int)) (O P : List Int) (who : Int) : Nat → Bool := regZ who (allI zss.length) (wonZ zss O P)
/-- The picks behind k vertices. -/
noncomputable def planK (zss : List (List Int)) (O P Pk : List Int) : Nat → List Int
  | 0 => Pk
  | k + 1 => if 0 ≤ nth (planK zss O P Pk k) k ∨ nth (wonL zss O P) k ≠ nth O k then planK zss O P Pk k
    else (planK zss O P Pk k).set k (pickZ (fun u => holdsZ zss O P ((planK zss O P Pk k).set k u) (rgW zss O P (nth O k)) (nth O k)) (rgW zss O P (nth O k)) (row zss k))

theorem pickZ_spec {hold : Int → Bool} {I : Nat → Bool} : ∀ {us : List Int}, (∃ u ∈ us, I u.toNat = true ∧ hold u = true) → pickZ hold I us ∈ us ∧ I (pickZ hold I us).toNat = true ∧ hold (pickZ hold I us) = true
  | [], h => by obtain ⟨u, hu, _⟩ := h; cases hu
  | a :: us, h => by
    rw [pickZ]
    by_cases e : (I a.toNat && hold a) = true
    · rw [if_pos e]
      rw [Bool.and_eq_true] at e
      exact ⟨by simp, e.1, e.2⟩
    · rw [if_neg e]
      obtain ⟨u, hu, h1, h2⟩ := h
      rcases List.mem_cons.1 hu with rfl | hu
      · exact absurd (by rw [h1, h2]; rfl) e
      · have ih := pickZ_spec (hold := hold) (I := I) ⟨u, hu, h1, h2⟩
        exact ⟨by simp [ih.1], ih.2⟩
theorem nthSet7 {Pk : List Int} {k : Nat} {u : Int} (hk : k < Pk.length) (j : Nat) : nth (Pk.set k u) j = if j = k then u else nth Pk j := by
  unfold nth
  rw [List.getD_eq_getElem?_getD, List.getD_eq_getElem?_getD, List.getElem?_set]
  by_cases e : k = j
  · subst e; simp [hk]
  · simp [e, Ne.symm e]

section
variable {zss : List (List Int)} {O P : List Int}

theorem rgW_lt {who : Int} {v : Nat} (h : rgW zss O P who v = true) : v < zss.length := by
  unfold rgW regZ allI at h
  rw [Bool.and_eq_true, decide_eq_true_eq] at h
  exact h.1
theorem rgW_at {who : Int} {v : Nat} (hv : v < zss.length) : rgW zss O P who v = (wonZ zss O P v == decide (who = 0)) := reg_at hv
theorem rgW_won {who : Int} (hw : who = 0 ∨ who = 1) {v : Nat} (hv : v < zss.length) : rgW zss O P who v = true ↔ nth (wonL zss O P) v = who := by
  rw [rgW_at hv, wonL_nth hv]
  cases hwz : wonZ zss O P v <;> rcases hw with rfl | rfl <;> simp

/-- With the picks, who holds all that it wins. -/
def GoodW (zss : List (List Int)) (O P Pk : List Int) (who : Int) : Prop := ∃ s, HoldsP (zssE zss Pk) O (nth P) (rgW zss O P who) (rgW zss O P who) who s

/-- Where the other player moves all stay within. -/
theorem rgW_closed (hA : ArenaP O zss) (hl : P.length = O.length) (hp : ∀ x ∈ P, 0 ≤ x) {who : Int} (hw : who = 0 ∨ who = 1) {v : Nat} (hv : v < zss.length) (hR : rgW zss O P who v = true) (ho : nth O v ≠ who) : ∀ x ∈ row zss v, rgW zss O P who x.toNat = true := fun x hx => by
  have h := won_holds hA hl hp
  have hs : ∃ s, HoldsP zss O (nth P) (allI zss.length) (rgW zss O P who) who s := by
    rcases hw with rfl | rfl
    · exact h.1
    · exact h.2
  obtain ⟨s, hs⟩ := hs
  refine hs.opp v hv hR ho x hx ?_
  obtain ⟨y, hy, hyn⟩ := (rowsP_of hA).inG v hv x hx
  rw [hy, Int.toNat_natCast]
  unfold allI
  exact decide_eq_true hyn

theorem total_of (hA : ArenaP O zss) (hl : P.length = O.length) (hp : ∀ x ∈ P, 0 ≤ x) {Pk : List Int} {who : Int} (hw : who = 0 ∨ who = 1) (hopp : ∀ v, rgW zss O P who v = true → nth O v ≠ who → nth Pk v < 0)
    (hown : ∀ v, v < zss.length → rgW zss O P who v = true → nth O v = who → ∃ x ∈ row (zssE zss Pk) v, rgW zss O P who x.toNat = true) : TotalP (zssE zss Pk) (rgW zss O P who) := fun v hv hR => by
  rw [zssE_len] at hv
  by_cases ho : nth O v = who
  · exact hown v hv hR ho
  · have h1 := arena_rows hA hv
    have hm := nth_mem (zs := row zss v) (k := 0) (by omega)
    refine ⟨nth (row zss v) 0, ?_, rgW_closed hA hl hp hw hv hR ho _ hm⟩
    rw [zssE_row hv, List.mem_filter]
    refine ⟨hm, ?_⟩
    unfold pickB
    rw [decide_eq_true (hopp v hR ho)]; rfl

theorem good_total (hA : ArenaP O zss) (hl : P.length = O.length) (hp : ∀ x ∈ P, 0 ≤ x) {Pk : List Int} {who : Int} (hw : who = 0 ∨ who = 1) (hopp : ∀ v, rgW zss O P who v = true → nth O v ≠ who → nth Pk v < 0) (h : GoodW zss O P Pk who) : TotalP (zssE zss Pk) (rgW zss O P who) := by
  obtain ⟨s, hs⟩ := h
  refine total_of hA hl hp hw hopp fun v hv hR ho => ?_
  have h1 := hs.own v (by rw [zssE_len]; exact hv) hR ho
  exact ⟨_, h1.1, by rw [Int.toNat_natCast]; exact h1.2⟩

theorem win_holds (hA : ArenaP O zss) (hl : P.length = O.length) (hp : ∀ x ∈ P, 0 ≤ x) {Pk : List Int} {who : Int} (ht : TotalP (zssE zss Pk) (rgW zss O P who)) :
    (∃ s, HoldsP (zssE zss Pk) O (nth P) (rgW zss O P who) (regZ 0 (rgW zss O P who) (winZ (zssE zss Pk) O (nth P) zss.length (rgW zss O P who))) 0 s) ∧
    ∃ s, HoldsP (zssE zss Pk) O (nth P) (rgW zss O P who) (regZ 1 (rgW zss O P who) (winZ (zssE zss Pk) O (nth P) zss.length (rgW zss O P who))) 1 s :=
  winZ_holds (zssE_rows (rowsP_of hA)).inG (fun v hv => (arena_rows hA (by rw [zssE_len] at hv; exact hv)).1) (fun v hv => hp _ (nth_mem (by rw [zssE_len] at hv; have := hA.2.2.1; omega))) zss.length _ (fun v hv => by rw [zssE_len]; exact rgW_lt hv) (by rw [zssE_len]; exact markedK_len _ _) ht

theorem good_holds (hA : ArenaP O zss) (hl : P.length = O.length) (hp : ∀ x ∈ P, 0 ≤ x) {Pk : List Int} {who : Int} (hw : who = 0 ∨ who = 1) (hopp : ∀ v, rgW zss O P who v = true → nth O v ≠ who → nth Pk v < 0) (h : GoodW zss O P Pk who) : holdsZ zss O P Pk (rgW zss O P who) who = true := by
  have ht := good_total hA hl hp hw hopp h
  obtain ⟨h0, h1⟩ := win_holds hA hl hp ht
  obtain ⟨s, hs⟩ := h
  unfold holdsZ
  rw [Bool.not_eq_true', anyK_no]
  intro v hv
  cases hR : rgW zss O P who v with
  | false => rfl
  | true =>
    rw [Bool.true_and]
    obtain ⟨b, hb⟩ : ∃ b, winZ (zssE zss Pk) O (nth P) zss.length (rgW zss O P who) v = b := ⟨_, rfl⟩
    rw [hb]
    have hO : ∀ v, v < (zssE zss Pk).length → nth O v = 0 ∨ nth O v = 1 := fun v hv => (arena_rows hA (by rw [zssE_len] at hv; exact hv)).1
    rcases hw with rfl | rfl
    · cases b with
      | true => rfl
      | false =>
        exfalso
        obtain ⟨s1, h1⟩ := h1
        exact no_both_in (zssE_rows (rowsP_of hA)).inG hs h1 (fun v hv => by have := hO v hv; omega) (by decide) v (by rw [zssE_len]; exact hv) ⟨hR, by unfold regZ; rw [hR, hb]; rfl⟩
    · cases b with
      | false => rfl
      | true =>
        exfalso
        obtain ⟨s0, h0⟩ := h0
        exact no_both_in (zssE_rows (rowsP_of hA)).inG hs h0 (fun v hv => by have := hO v hv; omega) (by decide) v (by rw [zssE_len]; exact hv) ⟨hR, by unfold regZ; rw [hR, hb]; rfl⟩

theorem holds_good (hA : ArenaP O zss) (hl : P.length = O.length) (hp : ∀ x ∈ P, 0 ≤ x) {Pk : List Int} {who : Int} (hw : who = 0 ∨ who = 1) (ht : TotalP (zssE zss Pk) (rgW zss O P who)) (h : holdsZ zss O P Pk (rgW zss O P who) who = true) : GoodW zss O P Pk who := by
  obtain ⟨h0, h1⟩ := win_holds hA hl hp ht
  unfold holdsZ at h
  rw [Bool.not_eq_true', anyK_no] at h
  have he : ∀ v, regZ who (rgW zss O P who) (winZ (zssE zss Pk) O (nth P) zss.length (rgW zss O P who)) v = rgW zss O P who v := fun v => by
    unfold regZ
    cases hR : rgW zss O P who v with
    | false => rfl
    | true =>
      have h2 := h v (rgW_lt hR)
      rw [hR, Bool.true_and] at h2
      rw [Bool.true_and]
      cases hb : winZ (zssE zss Pk) O (nth P) zss.length (rgW zss O P who) v <;> rw [hb] at h2 <;> cases hd : decide (who = 0) <;> rw [hd] at h2 <;> first | rfl | cases h2
  rcases hw with rfl | rfl
  · obtain ⟨s, hs⟩ := h0
    exact ⟨s, hs.congr he⟩
  · obtain ⟨s, hs⟩ := h1
    exact ⟨s, hs.congr he⟩

/-- Other picks outside change nothing. -/
theorem good_same {Pk Pk' : List Int} {who : Int} (h : GoodW zss O P Pk who) (he : ∀ v, rgW zss O P who v = true → nth Pk' v = nth Pk v) : GoodW zss O P Pk' who := by
  obtain ⟨s, hs⟩ := h
  have hrow : ∀ v, v < zss.length → rgW zss O P who v = true → row (zssE zss Pk') v = row (zssE zss Pk) v := fun v hv hR => by
    rw [zssE_row hv, zssE_row hv]
    refine List.filter_congr fun x _ => ?_
    unfold pickB
    rw [he v hR]
  refine ⟨s, hs.sub, fun v hv hR ho => ?_, fun v hv hR ho x hx hI => hI, fun c L hl i hm => hs.wins c L ⟨hl.pos, hl.per, fun j => ?_⟩ i hm⟩
  · rw [zssE_len] at hv
    rw [hrow v hv hR]
    exact hs.own v (by rw [zssE_len]; exact hv) hR ho
  · obtain ⟨h1, h2, h3, h4, h5⟩ := hl.step j
    rw [zssE_len] at h2
    rw [hrow _ h2 h1] at h3
    exact ⟨h1, by rw [zssE_len]; exact h2, h3, h4, h5⟩

/-- One more pick. -/
theorem good_pick (hA : ArenaP O zss) (hl : P.length = O.length) (hp : ∀ x ∈ P, 0 ≤ x) {Pk : List Int} {who : Int} (hw : who = 0 ∨ who = 1) (hlen : Pk.length = zss.length) (hopp : ∀ v, rgW zss O P who v = true → nth O v ≠ who → nth Pk v < 0) (h : GoodW zss O P Pk who) {k : Nat} (hk : k < zss.length) (hR : rgW zss O P who k = true) (ho : nth O k = who) (hn : nth Pk k < 0) :
    (pickZ (fun u => holdsZ zss O P (Pk.set k u) (rgW zss O P who) who) (rgW zss O P who) (row zss k)) ∈ row zss k ∧
    rgW zss O P who (pickZ (fun u => holdsZ zss O P (Pk.set k u) (rgW zss O P who) who) (rgW zss O P who) (row zss k)).toNat = true ∧
    GoodW zss O P (Pk.set k (pickZ (fun u => holdsZ zss O P (Pk.set k u) (rgW zss O P who) who) (rgW zss O P who) (row zss k))) who := by
  have hkl : k < Pk.length := by omega
  have hopp' : ∀ (u : Int) v, rgW zss O P who v = true → nth O v ≠ who → nth (Pk.set k u) v < 0 := fun u v hv hv2 => by
    rw [nthSet7 hkl, if_neg (fun e => hv2 (by rw [e]; exact ho))]
    exact hopp v hv hv2
  have hrow : ∀ (u : Int) v, v < zss.length → v ≠ k → row (zssE zss (Pk.set k u)) v = row (zssE zss Pk) v := fun u v hv hne => by
    rw [zssE_row hv, zssE_row hv]
    refine List.filter_congr fun x _ => ?_
    unfold pickB
    rw [nthSet7 hkl, if_neg hne]
  have hrowk : ∀ u : Int, u ∈ row zss k → u ∈ row (zssE zss (Pk.set k u)) k := fun u hu => by
    rw [zssE_row hk, List.mem_filter]
    refine ⟨hu, ?_⟩
    unfold pickB
    rw [nthSet7 hkl, if_pos rfl, decide_eq_true (rfl : u = u), Bool.or_true]
  have hrowk2 : ∀ (u x : Int), 0 ≤ u → x ∈ row (zssE zss (Pk.set k u)) k → x = u := fun u x hu hx => by
    rw [zssE_row hk, List.mem_filter] at hx
    have h2 := hx.2
    unfold pickB at h2
    rw [nthSet7 hkl, if_pos rfl, decide_eq_false (by omega), Bool.false_or, decide_eq_true_eq] at h2
    exact h2.symm
  obtain ⟨s, hs⟩ := h
  have hsk := hs.own k (by rw [zssE_len]; exact hk) hR ho
  have hskr : (s k : Int) ∈ row zss k := by
    have h1 := hsk.1
    rw [zssE_row hk, List.mem_filter] at h1
    exact h1.1
  have hg1 : GoodW zss O P (Pk.set k (s k : Int)) who := by
    refine ⟨s, hs.sub, fun v hv hRv hov => ?_, fun v hv hRv hov x hx hI => hI, fun c L hlp i hm => hs.wins c L ⟨hlp.pos, hlp.per, fun j => ?_⟩ i hm⟩
    · rw [zssE_len] at hv
      by_cases e : v = k
      · subst e; exact ⟨hrowk _ hskr, hsk.2⟩
      · rw [hrow _ v hv e]; exact hs.own v (by rw [zssE_len]; exact hv) hRv hov
    · obtain ⟨h1, h2, h3, h4, h5⟩ := hlp.step j
      rw [zssE_len] at h2
      refine ⟨h1, by rw [zssE_len]; exact h2, ?_, h4, h5⟩
      by_cases e : c j = k
      · rw [e]
        rw [e] at h3
        have h6 := hrowk2 _ _ (by omega) h3
        rw [h6]
        exact hsk.1
      · rw [hrow _ _ h2 e] at h3; exact h3
  have hh := good_holds hA hl hp hw (hopp' _) hg1
  have hpz := pickZ_spec (hold := fun u => holdsZ zss O P (Pk.set k u) (rgW zss O P who) who) (I := rgW zss O P who) (us := row zss k) ⟨_, hskr, by rw [Int.toNat_natCast]; exact hsk.2, hh⟩
  obtain ⟨u, hu⟩ : ∃ u, pickZ (fun u => holdsZ zss O P (Pk.set k u) (rgW zss O P who) who) (rgW zss O P who) (row zss k) = u := ⟨_, rfl⟩
  rw [hu] at hpz ⊢
  refine ⟨hpz.1, hpz.2.1, holds_good hA hl hp hw (total_of hA hl hp hw (hopp' u) fun v hv hRv hov => ?_) hpz.2.2⟩
  by_cases e : v = k
  · subst e; exact ⟨u, hrowk _ hpz.1, hpz.2.1⟩
  · rw [hrow _ v hv e]
    have h1 := hs.own v (by rw [zssE_len]; exact hv) hRv hov
    exact ⟨_, h1.1, by rw [Int.toNat_natCast]; exact h1.2⟩

/-- What holds behind k vertices, where no picks were given. -/
structure PlanI (zss : List (List Int)) (O P : List Int) (k : Nat) (Pk : List Int) : Prop where
  len : Pk.length = zss.length
  g0 : GoodW zss O P Pk 0
  g1 : GoodW zss O P Pk 1
  yes : ∀ v, v < k → v < zss.length → nth (wonL zss O P) v = nth O v → nth Pk v ∈ row zss v ∧ rgW zss O P (nth O v) (nth Pk v).toNat = true
  no : ∀ v, v < zss.length → nth (wonL zss O P) v ≠ nth O v → nth Pk v = -1
  rest : ∀ v, k ≤ v → v < zss.length → nth Pk v = -1

theorem plan_inv (hA : ArenaP O zss) (hl : P.length = O.length) (hp : ∀ x ∈ P, 0 ≤ x) : ∀ k, k ≤ zss.length → PlanI zss O P k (planK zss O P (List.replicate zss.length (-1)) k)
  | 0, _ => by
    have h := won_holds hA hl hp
    have hg : ∀ who : Int, (∃ s, HoldsP zss O (nth P) (allI zss.length) (rgW zss O P who) who s) → GoodW zss O P (List.replicate zss.length (-1)) who := fun who ⟨s, hs⟩ => by
      refine ⟨s, ?_⟩
      rw [zssE_none]
      exact ⟨fun v hv => hv, hs.own, fun v hv hR ho x hx hI => hI, hs.wins⟩
    exact ⟨by simp [planK], hg 0 h.1, hg 1 h.2, fun v hv => absurd hv (Nat.not_lt_zero _), fun v hv _ => none_nth hv, fun v _ hv => none_nth hv⟩
  | k + 1, hk => by
    have ih := plan_inv hA hl hp k (by omega)
    obtain ⟨Pk, hPk⟩ : ∃ Pk, planK zss O P (List.replicate zss.length (-1)) k = Pk := ⟨_, rfl⟩
    rw [planK]
    rw [hPk] at ih ⊢
    have hkn : k < zss.length := by omega
    have hr := ih.rest k (Nat.le_refl _) hkn
    by_cases hx : nth (wonL zss O P) k = nth O k
    · rw [if_neg (by rw [hr]; exact fun h => h.elim (fun h => by omega) (fun h => h hx))]
      obtain ⟨who, hwho⟩ : ∃ who, nth O k = who := ⟨_, rfl⟩
      have hw : who = 0 ∨ who = 1 := by rw [← hwho]; exact (arena_rows hA hkn).1
      rw [hwho]
      have hR : rgW zss O P who k = true := (rgW_won hw hkn).2 (by rw [hx, hwho])
      have hopp : ∀ who', (who' = 0 ∨ who' = 1) → ∀ v, rgW zss O P who' v = true → nth O v ≠ who' → nth Pk v < 0 := fun who' hw' v hv ho => by
        have hvn := rgW_lt hv
        have h1 := (rgW_won hw' hvn).1 hv
        rw [ih.no v hvn (by rw [h1]; exact fun e => ho e.symm)]
        decide
      have hgw : GoodW zss O P Pk who := by
        rcases hw with rfl | rfl
        · exact ih.g0
        · exact ih.g1
      obtain ⟨h1, h2, h3⟩ := good_pick hA hl hp hw ih.len (hopp who hw) hgw hkn hR hwho (by rw [hr]; decide)
      obtain ⟨u, hu⟩ : ∃ u, pickZ (fun u => holdsZ zss O P (Pk.set k u) (rgW zss O P who) who) (rgW zss O P who) (row zss k) = u := ⟨_, rfl⟩
      rw [hu] at h1 h2 h3 ⊢
      have hkl : k < Pk.length := by rw [ih.len]; exact hkn
      have hother : ∀ who', (who' = 0 ∨ who' = 1) → who' ≠ who → GoodW zss O P Pk who' → GoodW zss O P (Pk.set k u) who' := fun who' hw' hne hg => good_same hg fun v hv => by
        rw [nthSet7 hkl, if_neg]
        rintro rfl
        have h4 := (rgW_won hw' (rgW_lt hv)).1 hv
        exact hne (by rw [← h4, hx, hwho])
      refine ⟨by rw [List.length_set]; exact ih.len, ?_, ?_, fun v hv hvn hxv => ?_, fun v hvn hxv => ?_, fun v hv hvn => ?_⟩
      · by_cases e : who = 0
        · subst e; exact h3
        · exact hother 0 (.inl rfl) (fun h => e h.symm) ih.g0
      · by_cases e : who = 1
        · subst e; exact h3
        · exact hother 1 (.inr rfl) (fun h => e h.symm) ih.g1
      · rw [nthSet7 hkl]
        by_cases e : v = k
        · subst e; rw [if_pos rfl, hwho]; exact ⟨h1, h2⟩
        · rw [if_neg e]; exact ih.yes v (by omega) hvn hxv
      · rw [nthSet7 hkl, if_neg (fun e => hxv (by rw [e]; exact hx))]
        exact ih.no v hvn hxv
      · rw [nthSet7 hkl, if_neg (by omega)]
        exact ih.rest v (by omega) hvn
    · rw [if_pos (.inr hx)]
      refine ⟨ih.len, ih.g0, ih.g1, fun v hv hvn hxv => ?_, ih.no, fun v hv hvn => ih.rest v (by omega) hvn⟩
      by_cases e : v = k
      · subst e; exact absurd hxv hx
      · exact ih.yes v (by omega) hvn hxv
end
end

section
open Go.RowKit

theorem ansP_nth {O Y : List Int} {who : Int} : ∀ {n v : Nat}, v < n → nth (ansP O Y who n) v = if nth O v = who then nth Y v else -1
  | n + 1, v, h => by
    rw [ansP]
    by_cases e : v = n
    · subst e
      unfold nth
      rw [List.getD_eq_getElem?_getD, List.getElem?_append_right (by rw [ansP_len]; exact Nat.le_refl _), ansP_len]
      simp
    · have ih := ansP_nth (O := O) (Y := Y) (who := who) (n := n) (v := v) (by omega)
      rw [← ih]
      unfold nth
      simp only [List.getD_eq_getElem?_getD]
      rw [List.getElem?_append_left (by rw [ansP_len]; omega)]
theorem regK_up {X : List Int} {who : Int} : ∀ k, (regK X who k).Pairwise (· < ·)
  | 0 => by simp [regK]
  | k + 1 => by
    rw [regK, List.pairwise_append]
    refine ⟨regK_up k, by split <;> simp, fun a ha b hb => ?_⟩
    obtain ⟨v, rfl, hv, _⟩ := regK_mem.1 ha
    split at hb
    · have : b = (k : Int) := by simpa using hb
      omega
    · simp at hb

section
variable {zss : List (List Int)} {O P : List Int}

theorem reg_mem (hn : zss.length ≤ 256) {who : Int} (hw : who = 0 ∨ who = 1) {v : Nat} : (v : Int) ∈ regL (wonL zss O P) who ↔ rgW zss O P who v = true := by
  unfold regL
  rw [if_pos (by rw [wonL_len]; exact hn), regK_mem, wonL_len]
  constructor
  · rintro ⟨u, e, hu, hx⟩
    have : u = v := by omega
    subst this
    exact (rgW_won hw hu).2 hx
  · intro h
    have hv := rgW_lt h
    exact ⟨v, rfl, hv, (rgW_won hw hv).1 h⟩
theorem reg_set (hn : zss.length ≤ 256) {who : Int} : setB (zss.length : Int) (regL (wonL zss O P) who) = true := by
  unfold regL
  rw [if_pos (by rw [wonL_len]; exact hn), wonL_len]
  exact setFrom_up _ _ (regK_up _) fun x hx => by
    obtain ⟨v, rfl, hv, _⟩ := regK_mem.1 hx
    omega

theorem plan_wins (hpar : parityB O zss P = true) {Y : List Int} (hI : PlanI zss O P zss.length Y) {who : Int} (hw : who = 0 ∨ who = 1) : winsB O zss P who (regL (wonL zss O P) who) (ansP O Y who Y.length) = true := by
  obtain ⟨hA, hl, hpb⟩ := parityB_iff.1 hpar
  have hp : ∀ x ∈ P, 0 ≤ x := fun x hx => (hpb x hx).1
  have hzO := hA.2.2.1
  have hn : zss.length ≤ 256 := by have := hA.2.1; omega
  have hQ : ∀ v, v < zss.length → nth (ansP O Y who Y.length) v = if nth O v = who then nth Y v else -1 := fun v hv => ansP_nth (by rw [hI.len]; exact hv)
  have hset := reg_set (O := O) (P := P) hn (who := who)
  have hyes : ∀ v, rgW zss O P who v = true → nth O v = who → nth Y v ∈ row zss v ∧ rgW zss O P who (nth Y v).toNat = true ∧ ∃ y : Nat, nth Y v = (y : Int) := fun v hR ho => by
    have hv := rgW_lt hR
    have h1 := hI.yes v hv hv (by rw [(rgW_won hw hv).1 hR, ho])
    rw [ho] at h1
    obtain ⟨y, hy, _⟩ := (rowsP_of hA).inG v hv _ h1.1
    exact ⟨h1.1, h1.2, y, hy⟩
  have hplan : planB O zss who (ansP O Y who Y.length) = true := planB_iff.2 ⟨hA, by omega, by rw [ansP_len, hI.len]; exact hzO, fun v hv => by
    rw [ansP_len, hI.len] at hv
    unfold PlanV
    rw [hQ v hv]
    by_cases ho : nth O v = who
    · rw [if_pos ho]
      by_cases hx : nth (wonL zss O P) v = nth O v
      · exact .inr ⟨ho, (hI.yes v hv hv hx).1⟩
      · exact .inl (hI.no v hv hx)
    · rw [if_neg ho]; exact .inl rfl⟩
  have hclos : closB O zss who (regL (wonL zss O P) who) (ansP O Y who Y.length) = true := closB_iff.2 ⟨hplan, by rw [← hzO]; exact hset, fun v hv => by
    have hR := (reg_mem hn hw).1 hv
    have hvn := rgW_lt hR
    refine ⟨fun ho => ?_, fun ho x hx => ?_⟩
    · obtain ⟨h1, h2, y, hy⟩ := hyes v hR ho
      rw [hQ v hvn, if_pos ho, hy]
      rw [hy, Int.toNat_natCast] at h2
      exact ⟨by omega, (reg_mem hn hw).2 h2⟩
    · have h2 := rgW_closed hA hl hp hw hvn hR ho x hx
      obtain ⟨y, hy, _⟩ := (rowsP_of hA).inG v hvn x hx
      rw [hy, Int.toNat_natCast] at h2
      rw [hy]
      exact (reg_mem hn hw).2 h2⟩
  have hright : rightB O zss P who (regL (wonL zss O P) who) (ansP O Y who Y.length) = true := by
    unfold rightB
    rw [hpar, hplan, hl, ← hzO, hset]; rfl
  have hclean : cleanB O zss P who (regL (wonL zss O P) who) (ansP O Y who Y.length) = true := cleanB_iff.2 ⟨hright, fun v hv hb => by
    obtain ⟨hne, hrch⟩ := hb
    have hg : GoodW zss O P Y who := by
      rcases hw with rfl | rfl
      · exact hI.g0
      · exact hI.g1
    obtain ⟨s, hs⟩ := hg
    have hin : ∀ a : Nat, (a = v ∨ lowI P (regL (wonL zss O P) who) v a = true) → rgW zss O P who a = true := fun a ha => by
      rcases ha with rfl | ha
      · exact (reg_mem hn hw).1 hv
      · unfold lowI at ha
        rw [Bool.and_eq_true] at ha
        exact (reg_mem hn hw).1 (hasB_iff.1 ha.1)
    obtain ⟨c, L, hlp, h0, hlow⟩ := rch_loop (E := StepE (zssE zss Y) O who (rgW zss O P who) s) hrch fun a b ha hab hb => by
      have hRa := hin a ha
      have hRb := hin b (.inr hb)
      have han := rgW_lt hRa
      rw [fix_row han, hQ a han] at hab
      refine ⟨hRa, by rw [zssE_len]; exact han, ?_, hRb, fun ho => ?_⟩
      · rw [zssE_row han, List.mem_filter]
        unfold pickB
        by_cases ho : nth O a = who
        · obtain ⟨h1, _, y, hy⟩ := hyes a hRa ho
          rw [if_pos ho, if_pos (by omega)] at hab
          have e : (b : Int) = nth Y a := by simpa using hab
          rw [e]
          exact ⟨h1, by rw [decide_eq_true (rfl : nth Y a = nth Y a), Bool.or_true]⟩
        · rw [if_neg ho, if_neg (by decide)] at hab
          have hm := hI.no a han (by rw [(rgW_won hw han).1 hRa]; exact fun e => ho e.symm)
          rw [hm]
          exact ⟨hab, by rw [decide_eq_true (show (-1 : Int) < 0 by decide), Bool.true_or]⟩
      · obtain ⟨h1, _, y, hy⟩ := hyes a hRa ho
        rw [if_pos ho, if_pos (by omega)] at hab
        have e : (b : Int) = nth Y a := by simpa using hab
        have h2 := (hs.own a (by rw [zssE_len]; exact han) hRa ho).1
        rw [zssE_row han, List.mem_filter] at h2
        have h3 := h2.2
        unfold pickB at h3
        rw [decide_eq_false (by omega), Bool.false_or, decide_eq_true_eq] at h3
        omega
    have h1 := hs.wins c L hlp 0 (fun j => by
      have h2 := hlow j
      unfold lowI at h2
      rw [Bool.and_eq_true, decide_eq_true_eq] at h2
      rw [h0]
      exact h2.2)
    rw [h0] at h1
    exact hne h1⟩
  unfold winsB
  rw [hclean, hclos]; rfl

/-- The model's answer. -/
noncomputable def planL (zss : List (List Int)) (O P : List Int) : List Int := planK zss O P (List.replicate zss.length (-1)) zss.length

theorem plan_accepted (hpar : parityB O zss P = true) : ansB O zss P (wonL zss O P) (planL zss O P) = true := by
  obtain ⟨hA, hl, hpb⟩ := parityB_iff.1 hpar
  have hp : ∀ x ∈ P, 0 ≤ x := fun x hx => (hpb x hx).1
  have hzO := hA.2.2.1
  have hI : PlanI zss O P zss.length (planL zss O P) := plan_inv hA hl hp zss.length (Nat.le_refl _)
  unfold ansB
  rw [plan_wins hpar hI (.inl rfl), plan_wins hpar hI (.inr rfl), formB_iff.2 ⟨hpar, by rw [wonL_len]; omega, by rw [hI.len]; omega, fun v hv => ?_⟩]
  · rfl
  · rw [wonL_len] at hv
    have hx : nth (wonL zss O P) v = 0 ∨ nth (wonL zss O P) v = 1 := by rw [wonL_nth hv]; split <;> simp
    refine ⟨by omega, ⟨fun h => ?_, fun h => ?_⟩, fun h => (hI.yes v hv hv h).1⟩
    · obtain ⟨y, hy, _⟩ := (rowsP_of hA).inG v hv _ (hI.yes v hv hv h).1
      omega
    · exact Classical.byContradiction fun hh => h (hI.no v hv hh)

/-- An answer that gives one vertex to the other player is not accepted. -/
theorem flip_rejected (hpar : parityB O zss P = true) {X Y : List Int} {v : Nat} (hv : v < zss.length) (hX : nth X v = 1 - nth (wonL zss O P) v) (hlX : v < X.length) (hl : X.length ≤ 256) : ansB O zss P X Y = false := by
  obtain ⟨hA, hlP, hpb⟩ := parityB_iff.1 hpar
  have h := won_holds hA hlP (fun x hx => (hpb x hx).1)
  have hx : nth (wonL zss O P) v = 0 ∨ nth (wonL zss O P) v = 1 := by rw [wonL_nth hv]; split <;> simp
  rcases hx with hx | hx
  · obtain ⟨s, hs⟩ := h.1
    exact ans_flip (who := 0) (opp := 1) (.inl ⟨rfl, rfl⟩) hs hv ((rgW_won (.inl rfl) hv).2 hx) (by rw [hX, hx]; rfl) hlX hl
  · obtain ⟨s, hs⟩ := h.2
    exact ans_flip (who := 1) (opp := 0) (.inr ⟨rfl, rfl⟩) hs hv ((rgW_won (.inr rfl) hv).2 hx) (by rw [hX, hx]; rfl) hlX hl
end
end

end Go.Proofs.YtokcinhopajniaaGreatDoor
