/-
  Several texts in one: PlanMath, SolveMath, ReachM, RecAt.
-/
import Derived.Deep.LoopGhost
import Derived.Test.YtphkgnpkcfbnkabDoorPk07
import Derived.Test.YtphkgnpkcfbnkabDoorPk09
import Derived.Test.YtphkgnpkcfbnkabDoorPk10
import Derived.Test.YtphkgnpkcfbnkabDoorPk12
namespace Go.Proofs.YtphkgnpkcfbnkabDoor
section
open Go.RowKit

/-- Two players cannot both hold a vertex of a part that both stay in. -/
theorem no_both_in {zss : List (List Int)} {O : List Int} {p : Nat → Int} (hin : InG zss) {I W W' : Nat → Bool} {who who' : Int} {s s' : Nat → Nat} (h : HoldsP zss O p I W who s) (h' : HoldsP zss O p I W' who' s')
    (ho : ∀ v, v < zss.length → (nth O v = who ↔ nth O v ≠ who')) (hne : who ≠ who') : ∀ v, v < zss.length → ¬ (W v = true ∧ W' v = true) := by
  rintro v0 hv0 ⟨hw0, hw0'⟩
  obtain ⟨f, hf⟩ : ∃ f : Nat → Nat, f = fun v => if nth O v = who then s v else s' v := ⟨_, rfl⟩
  have hstep : ∀ v, v < zss.length → W v = true → W' v = true → f v < zss.length ∧ W (f v) = true ∧ W' (f v) = true ∧ StepE zss O who W s v (f v) ∧ StepE zss O who' W' s' v (f v) := fun v hv hw hw' => by
    by_cases hov : nth O v = who
    · have e : f v = s v := by rw [hf]; exact if_pos hov
      have h1 := h.own v hv hw hov
      obtain ⟨y, hy, hyn⟩ := hin v hv _ h1.1
      have hsn : s v < zss.length := by omega
      have h2 := h'.opp v hv hw' ((ho v hv).1 hov) _ h1.1 (by rw [Int.toNat_natCast]; exact h.sub _ h1.2)
      rw [Int.toNat_natCast] at h2
      rw [e]
      exact ⟨hsn, h1.2, h2, ⟨hw, hv, h1.1, h1.2, fun _ => rfl⟩, ⟨hw', hv, h1.1, h2, fun hh => absurd hh ((ho v hv).1 hov)⟩⟩
    · have e : f v = s' v := by rw [hf]; exact if_neg hov
      have hov' : nth O v = who' := Classical.byContradiction fun hh => hov ((ho v hv).2 hh)
      have h1 := h'.own v hv hw' hov'
      obtain ⟨y, hy, hyn⟩ := hin v hv _ h1.1
      have hsn : s' v < zss.length := by omega
      have h2 := h.opp v hv hw hov _ h1.1 (by rw [Int.toNat_natCast]; exact h'.sub _ h1.2)
      rw [Int.toNat_natCast] at h2
      rw [e]
      exact ⟨hsn, h2, h1.2, ⟨hw, hv, h1.1, h2, fun hh => absurd hh hov⟩, ⟨hw', hv, h1.1, h1.2, fun _ => rfl⟩⟩
  obtain ⟨c0, hc0⟩ : ∃ c0 : Nat → Nat, c0 = fun i => Nat.rec v0 (fun _ x => f x) i := ⟨_, rfl⟩
  have hz : c0 0 = v0 := by subst hc0; rfl
  have hs : ∀ i, c0 (i + 1) = f (c0 i) := fun i => by subst hc0; rfl
  have hall : ∀ i, c0 i < zss.length ∧ W (c0 i) = true ∧ W' (c0 i) = true := fun i => by
    induction i with
    | zero => rw [hz]; exact ⟨hv0, hw0, hw0'⟩
    | succ i ih =>
      have h1 := hstep _ ih.1 ih.2.1 ih.2.2
      rw [hs i]; exact ⟨h1.1, h1.2.1, h1.2.2.1⟩
  obtain ⟨i, j, hij, he⟩ := play_loops fun i => (hall i).1
  have hper : ∀ k, c0 (j + k) = c0 (i + k) := fun k => by
    induction k with
    | zero => exact he.symm
    | succ k ih => rw [← Nat.add_assoc, ← Nat.add_assoc, hs, hs, ih]
  have hp1 : ∀ k, c0 (i + (k + (j - i))) = c0 (i + k) := fun k => by rw [← hper k]; congr 1; omega
  have hl : LoopP (StepE zss O who W s) (fun k => c0 (i + k)) (j - i) := ⟨by omega, hp1, fun k => by
    have h1 := hall (i + k)
    have h2 := (hstep _ h1.1 h1.2.1 h1.2.2).2.2.2.1
    rw [← hs] at h2; exact h2⟩
  have hl' : LoopP (StepE zss O who' W' s') (fun k => c0 (i + k)) (j - i) := ⟨by omega, hp1, fun k => by
    have h1 := hall (i + k)
    have h2 := (hstep _ h1.1 h1.2.1 h1.2.2).2.2.2.2
    rw [← hs] at h2; exact h2⟩
  obtain ⟨a, ha⟩ := hl.max p
  exact hne ((h.wins _ _ hl a ha).symm.trans (h'.wins _ _ hl' a ha))

end

section
open Go.RowKit

/-- What a player wins. -/
noncomputable def rgW (zss : List (List Int)) (O P : List Int) (who : Int) : Nat → Bool := regZ who (allI zss.length) (wonZ zss O P)
section
variable {zss : List (List Int)} {O P : List Int}

theorem rgW_at {who : Int} {v : Nat} (hv : v < zss.length) : rgW zss O P who v = (wonZ zss O P v == decide (who = 0)) := reg_at hv
theorem rgW_won {who : Int} (hw : who = 0 ∨ who = 1) {v : Nat} (hv : v < zss.length) : rgW zss O P who v = true ↔ nth (wonL zss O P) v = who := by
  rw [rgW_at hv, wonL_nth hv]
  cases hwz : wonZ zss O P v <;> rcases hw with rfl | rfl <;> simp

/-- Where the other player moves all stay within. -/
theorem rgW_closed (hA : ArenaP O zss) (hl : P.length = O.length) (hp : ∀ x ∈ P, 0 ≤ x) {who : Int} (hw : who = 0 ∨ who = 1) {v : Nat} (hv : v < zss.length) (hR : rgW zss O P who v = true) (ho : nth O v ≠ who) : ∀ x ∈ row zss v, rgW zss O P who x.toNat = true := fun x hx => by
  have h := won_holds hA hl hp
  have hs : ∃ s, HoldsP zss O (nth P) (allI zss.length) (rgW zss O P who) who s := by
    rcases hw with rfl | rfl
    · exact h.1
    · exact h.2
  obtain ⟨s, hs⟩ := hs
  refine hs.opp v hv hR ho x hx ?_
  obtain ⟨y, hy, hyn⟩ := (rowsP_of hA).inG v hv x hx
  rw [hy, Int.toNat_natCast]
  unfold allI
  exact decide_eq_true hyn

end
end

section
open Go.RowKit

section
variable {zss : List (List Int)} {O P : List Int}

end
end

end Go.Proofs.YtphkgnpkcfbnkabDoor
namespace Go.Proofs.YtphkgnpkcfbnkabDoor
section
open Go.RowKit

variable {zss : List (List Int)} {O : List Int} {p : Nat → Int}

theorem fun_or {I J : Nat → Bool} {v : Nat} : orB I J v = true ↔ I v = true ∨ J v = true := by unfold orB; simp
theorem fun_one {x v : Nat} : oneB x v = true ↔ v = x := by unfold oneB; simp
theorem not_true {b : Bool} (h : ¬ b = true) : b = false := by simpa using h

/-- Nobody pulls to nothing. -/
theorem attr_none {who : Int} {I : Nat → Bool} : lessB I (attrB zss O who I (fun _ => false)) = I := funext fun v => by
  have key : ∀ k u, rkK zss O who I (fun _ => false) k u < 0 := fun k => by
    induction k with
    | zero => intro u; simp [rkK]
    | succ k ih =>
      intro u
      rw [rkK, if_neg (by have := ih u; omega), if_neg]
      · omega
      · rintro ⟨_, hc⟩
        refine CanP.none (hc.mono (B := fun _ => False) fun x _ hx => ?_)
        have := ih x.toNat; omega
  have h0 : attrB zss O who I (fun _ => false) v = false := by
    unfold attrB; exact decide_eq_false (by have := key zss.length v; omega)
  unfold lessB; rw [h0]; simp

/-- What one holds in a part, and what it holds off its pull to that. -/
theorem holds_area (hin : InG zss) (hO : ∀ v, v < zss.length → nth O v = 0 ∨ nth O v = 1) {I G W : Nat → Bool} {who opp : Int} (hwo : (who = 0 ∧ opp = 1) ∨ (who = 1 ∧ opp = 0)) (ht : TotalP zss I) {s s2 : Nat → Nat}
    (h : HoldsP zss O p I G opp s) (h2 : HoldsP zss O p (lessB I (attrB zss O opp I G)) W opp s2) : ∃ s', HoldsP zss O p I (orB (attrB zss O opp I G) W) opp s' := by
  refine holds_more (G := fun _ => false) (s := s) hin hO hwo ht ?_ h2
  rw [attr_none]; exact h

/-- What the players hold of a part between them is what the solver says. -/
theorem part_won (hin : InG zss) (hO : ∀ v, v < zss.length → nth O v = 0 ∨ nth O v = 1) (hp : ∀ v, v < zss.length → 0 ≤ p v) {I W0 W1 : Nat → Bool} {s0 s1 : Nat → Nat} (hI : ∀ v, I v = true → v < zss.length) (ht : TotalP zss I)
    (h0 : HoldsP zss O p I W0 0 s0) (h1 : HoldsP zss O p I W1 1 s1) (hc : ∀ v, I v = true → W0 v = true ∨ W1 v = true) :
    W0 = regZ 0 I (winZ zss O p zss.length I) ∧ W1 = regZ 1 I (winZ zss O p zss.length I) := by
  obtain ⟨⟨t0, g0⟩, t1, g1⟩ := winZ_holds hin hO hp zss.length I hI (markedK_len _ _) ht
  have ho : ∀ v, v < zss.length → (nth O v = 0 ↔ nth O v ≠ 1) := fun v hv => by have := hO v hv; omega
  have n1 := no_both_in hin h0 g1 ho (by decide)
  have n2 := no_both_in hin g0 h1 ho (by decide)
  have e0 : ∀ v, I v = true → regZ 0 I (winZ zss O p zss.length I) v = winZ zss O p zss.length I v := fun v hv => by unfold regZ; rw [hv]; simp
  have e1 : ∀ v, I v = true → regZ 1 I (winZ zss O p zss.length I) v = !winZ zss O p zss.length I v := fun v hv => by unfold regZ; rw [hv]; simp
  have f0 : ∀ v, I v = false → regZ 0 I (winZ zss O p zss.length I) v = false := fun v hv => by unfold regZ; rw [hv]; simp
  have f1 : ∀ v, I v = false → regZ 1 I (winZ zss O p zss.length I) v = false := fun v hv => by unfold regZ; rw [hv]; simp
  have both : ∀ v, W0 v = regZ 0 I (winZ zss O p zss.length I) v ∧ W1 v = regZ 1 I (winZ zss O p zss.length I) v := fun v => by
    cases hv : I v with
    | false =>
      rw [f0 v hv, f1 v hv]
      exact ⟨not_true fun hw => (by have := h0.sub v hw; rw [hv] at this; cases this), not_true fun hw => (by have := h1.sub v hw; rw [hv] at this; cases this)⟩
    | true =>
      have hn := hI v hv
      have a1 := n1 v hn
      have a2 := n2 v hn
      have a3 := hc v hv
      rw [e1 v hv] at a1
      rw [e0 v hv] at a2
      rw [e0 v hv, e1 v hv]
      cases hw : winZ zss O p zss.length I v with
      | true =>
        rw [hw] at a2
        have b1 : W1 v = false := not_true fun hh => a2 ⟨rfl, hh⟩
        rw [b1] at a3
        simp at a3
        exact ⟨a3, b1⟩
      | false =>
        rw [hw] at a1
        have b0 : W0 v = false := not_true fun hh => a1 ⟨hh, rfl⟩
        rw [b0] at a3
        simp at a3
        exact ⟨b0, a3⟩
  exact ⟨funext fun v => (both v).1, funext fun v => (both v).2⟩

/-- The winners of a part, by the player. -/
noncomputable def outB (zss : List (List Int)) (O : List Int) (p : Nat → Int) (I : Nat → Bool) (who : Int) : Nat → Bool := regZ who I (winZ zss O p zss.length I)

theorem outB_sub {I : Nat → Bool} {who : Int} {v : Nat} (h : outB zss O p I who v = true) : I v = true := by
  unfold outB regZ at h; simp at h; exact h.1
theorem outB_one {I : Nat → Bool} {v : Nat} (h : I v = true) : outB zss O p I 1 v = !outB zss O p I 0 v := by
  unfold outB regZ; rw [h]; simp

/-- What has been won of I (W0, W1), what is left (L). -/
structure SolI (zss : List (List Int)) (O : List Int) (p : Nat → Int) (I L W0 W1 : Nat → Bool) : Prop where
  sub : ∀ v, L v = true → I v = true
  tot : TotalP zss L
  cover : ∀ v, I v = true → L v = true ∨ W0 v = true ∨ W1 v = true
  won : ∀ v, W0 v = true ∨ W1 v = true → I v = true
  step : ∀ X0 X1 s0 s1, HoldsP zss O p L X0 0 s0 → HoldsP zss O p L X1 1 s1 → (∃ t0, HoldsP zss O p I (orB W0 X0) 0 t0) ∧ ∃ t1, HoldsP zss O p I (orB W1 X1) 1 t1

theorem SolI.start {I : Nat → Bool} (ht : TotalP zss I) : SolI zss O p I I (fun _ => false) (fun _ => false) where
  sub := fun v h => h
  tot := ht
  cover := fun v h => .inl h
  won := fun v h => by simp at h
  step := fun X0 X1 s0 s1 h0 h1 => ⟨⟨s0, h0.congr fun v => by simp [orB]⟩, s1, h1.congr fun v => by simp [orB]⟩

theorem or_more {W A X : Nat → Bool} (v : Nat) : orB W (orB A X) v = orB (orB W A) X v := by unfold orB; rw [Bool.or_assoc]

/-- One more area is taken. -/
theorem SolI.zero (hin : InG zss) (hO : ∀ v, v < zss.length → nth O v = 0 ∨ nth O v = 1) {I L W0 W1 G : Nat → Bool} (h : SolI zss O p I L W0 W1) {s : Nat → Nat} (hg : HoldsP zss O p L G 0 s) :
    SolI zss O p I (lessB L (attrB zss O 0 L G)) (orB W0 (attrB zss O 0 L G)) W1 where
  sub := fun v hv => h.sub v (lessB_iff.1 hv).1
  tot := total_less hin h.tot
  cover := fun v hv => by
    rcases h.cover v hv with hl | hw | hw
    · cases ha : attrB zss O 0 L G v with
      | true => exact .inr (.inl (fun_or.2 (.inr ha)))
      | false => exact .inl (lessB_iff.2 ⟨hl, ha⟩)
    · exact .inr (.inl (fun_or.2 (.inl hw)))
    · exact .inr (.inr hw)
  won := fun v hv => by
    rcases hv with hv | hv
    · rcases fun_or.1 hv with hv | hv
      · exact h.won v (.inl hv)
      · exact h.sub v (attrB_sub hv)
    · exact h.won v (.inr hv)
  step := fun X0 X1 s0 s1 h0 h1 => by
    obtain ⟨t, ht⟩ := holds_area (who := 1) hin hO (.inr ⟨rfl, rfl⟩) h.tot hg h0
    obtain ⟨⟨a, ha⟩, hb⟩ := h.step _ _ _ _ ht (holds_rest (who := 1) (opp := 0) hin hO (.inr ⟨rfl, rfl⟩) h.tot h1)
    exact ⟨⟨a, ha.congr or_more⟩, hb⟩
theorem SolI.one (hin : InG zss) (hO : ∀ v, v < zss.length → nth O v = 0 ∨ nth O v = 1) {I L W0 W1 G : Nat → Bool} (h : SolI zss O p I L W0 W1) {s : Nat → Nat} (hg : HoldsP zss O p L G 1 s) :
    SolI zss O p I (lessB L (attrB zss O 1 L G)) W0 (orB W1 (attrB zss O 1 L G)) where
  sub := fun v hv => h.sub v (lessB_iff.1 hv).1
  tot := total_less hin h.tot
  cover := fun v hv => by
    rcases h.cover v hv with hl | hw | hw
    · cases ha : attrB zss O 1 L G v with
      | true => exact .inr (.inr (fun_or.2 (.inr ha)))
      | false => exact .inl (lessB_iff.2 ⟨hl, ha⟩)
    · exact .inr (.inl hw)
    · exact .inr (.inr (fun_or.2 (.inl hw)))
  won := fun v hv => by
    rcases hv with hv | hv
    · exact h.won v (.inl hv)
    · rcases fun_or.1 hv with hv | hv
      · exact h.won v (.inr hv)
      · exact h.sub v (attrB_sub hv)
  step := fun X0 X1 s0 s1 h0 h1 => by
    obtain ⟨t, ht⟩ := holds_area (who := 0) hin hO (.inl ⟨rfl, rfl⟩) h.tot hg h1
    obtain ⟨ha, b, hb⟩ := h.step _ _ _ _ (holds_rest (who := 0) (opp := 1) hin hO (.inl ⟨rfl, rfl⟩) h.tot h0) ht
    exact ⟨ha, b, hb.congr or_more⟩

/-- Nothing is left: all is won. -/
theorem SolI.done (hin : InG zss) (hO : ∀ v, v < zss.length → nth O v = 0 ∨ nth O v = 1) (hp : ∀ v, v < zss.length → 0 ≤ p v) {I L W0 W1 : Nat → Bool} (hI : ∀ v, I v = true → v < zss.length) (ht : TotalP zss I) (h : SolI zss O p I L W0 W1) (hn : ∀ v, L v = false) :
    W0 = outB zss O p I 0 ∧ W1 = outB zss O p I 1 := by
  obtain ⟨⟨t0, h0⟩, t1, h1⟩ := h.step (fun _ => false) (fun _ => false) _ _ (HoldsP.none fun _ => rfl) (HoldsP.none fun _ => rfl)
  have e0 : orB W0 (fun _ => false) = W0 := funext fun v => by simp [orB]
  have e1 : orB W1 (fun _ => false) = W1 := funext fun v => by simp [orB]
  rw [e0] at h0
  rw [e1] at h1
  refine part_won hin hO hp hI ht h0 h1 fun v hv => ?_
  rcases h.cover v hv with hl | hl
  · rw [hn v] at hl; cases hl
  · exact hl

/-- What no edge leaves within a part. -/
def ShutP (zss : List (List Int)) (L S : Nat → Bool) : Prop := (∀ v, S v = true → L v = true) ∧ ∀ v, v < zss.length → S v = true → ∀ x ∈ row zss v, L x.toNat = true → S x.toNat = true

theorem ShutP.total {L S : Nat → Bool} (h : ShutP zss L S) (ht : TotalP zss L) : TotalP zss S := fun v hv hs => by
  obtain ⟨x, hx, hl⟩ := ht v hv (h.1 v hs)
  exact ⟨x, hx, h.2 v hv hs x hx hl⟩
theorem ShutP.holds {L S W : Nat → Bool} (h : ShutP zss L S) {who : Int} {s : Nat → Nat} (hw : HoldsP zss O p S W who s) : HoldsP zss O p L W who s where
  sub := fun v hv => h.1 v (hw.sub v hv)
  own := hw.own
  opp := fun v hv hW ho x hx hl => hw.opp v hv hW ho x hx (h.2 v hv (hw.sub v hW) x hx hl)
  wins := hw.wins

/-- Where the opponent of the greatest priority's player wins nothing off the pull, that player wins all of a part that no edge leaves. -/
theorem gain_all (hin : InG zss) (hO : ∀ v, v < zss.length → nth O v = 0 ∨ nth O v = 1) (hp : ∀ v, v < zss.length → 0 ≤ p v) {L S T : Nat → Bool} {who opp top : Int} (hwo : (who = 0 ∧ opp = 1) ∨ (who = 1 ∧ opp = 0)) (hL : ∀ v, L v = true → v < zss.length) (ht : TotalP zss L) (hs : ShutP zss L S)
    (hT : ∀ v, T v = true ↔ S v = true ∧ p v = top) (htop : ∀ v, S v = true → p v ≤ top) (hpar : top % 2 = who) (hno : ∀ v, outB zss O p (lessB S (attrB zss O who S T)) opp v = false) : ∃ s, HoldsP zss O p L S who s := by
  have htS := hs.total ht
  have hR : ∀ v, lessB S (attrB zss O who S T) v = true → v < zss.length := fun v hv => hL v (hs.1 v (lessB_iff.1 hv).1)
  obtain ⟨⟨t0, g0⟩, t1, g1⟩ := winZ_holds hin hO hp zss.length (lessB S (attrB zss O who S T)) hR (markedK_len _ _) (total_less hin htS)
  have key : ∃ t, HoldsP zss O p (lessB S (attrB zss O who S T)) (lessB S (attrB zss O who S T)) who t := by
    rcases hwo with ⟨rfl, rfl⟩ | ⟨rfl, rfl⟩
    · refine ⟨t0, g0.congr fun v => ?_⟩
      have h1 := hno v
      cases hv : lessB S (attrB zss O 0 S T) v with
      | false => unfold regZ; rw [hv]; rfl
      | true =>
        rw [outB_one hv] at h1
        unfold outB at h1
        simpa using h1
    · refine ⟨t1, g1.congr fun v => ?_⟩
      have h1 := hno v
      cases hv : lessB S (attrB zss O 1 S T) v with
      | false => unfold regZ; rw [hv]; rfl
      | true =>
        have h2 := outB_one (zss := zss) (O := O) (p := p) hv
        rw [h1] at h2
        exact h2
  obtain ⟨t, hk⟩ := key
  obtain ⟨s, h⟩ := holds_all hin htS hT htop hpar hk
  exact ⟨s, hs.holds h⟩

/-- .. else the opponent keeps what it wins there. -/
theorem gain_lost (hin : InG zss) (hO : ∀ v, v < zss.length → nth O v = 0 ∨ nth O v = 1) (hp : ∀ v, v < zss.length → 0 ≤ p v) {L S T : Nat → Bool} {who opp : Int} (hwo : (who = 0 ∧ opp = 1) ∨ (who = 1 ∧ opp = 0)) (hL : ∀ v, L v = true → v < zss.length) (ht : TotalP zss L) (hs : ShutP zss L S) :
    ∃ s, HoldsP zss O p L (outB zss O p (lessB S (attrB zss O who S T)) opp) opp s := by
  have htS := hs.total ht
  have hR : ∀ v, lessB S (attrB zss O who S T) v = true → v < zss.length := fun v hv => hL v (hs.1 v (lessB_iff.1 hv).1)
  obtain ⟨⟨t0, g0⟩, t1, g1⟩ := winZ_holds hin hO hp zss.length (lessB S (attrB zss O who S T)) hR (markedK_len _ _) (total_less hin htS)
  rcases hwo with ⟨rfl, rfl⟩ | ⟨rfl, rfl⟩
  · exact ⟨t1, hs.holds (holds_rest (who := 1) (opp := 0) hin hO (.inr ⟨rfl, rfl⟩) htS g1)⟩
  · exact ⟨t0, hs.holds (holds_rest (who := 0) (opp := 1) hin hO (.inl ⟨rfl, rfl⟩) htS g0)⟩

/-- Between two fronts of an attraction: A is what has been pulled, F what came last. -/
structure FroI (zss : List (List Int)) (O : List Int) (who : Int) (I G A F : Nat → Bool) : Prop where
  goal : ∀ v, G v = true → A v = true
  sound : ∀ v, A v = true → attrB zss O who I G v = true
  front : ∀ v, F v = true → A v = true
  past : ∀ v, v < zss.length → I v = true → A v = false → ¬ CanP (ownB O who v) (fun x => I x = true) (fun x => A x = true ∧ F x = false) (row zss v)

theorem FroI.start (hin : InG zss) {who : Int} {I G : Nat → Bool} (hI : ∀ v, I v = true → v < zss.length) (hG : ∀ v, G v = true → I v = true) : FroI zss O who I G G G where
  goal := fun v h => h
  sound := fun v h => (attr_fix hin (hI v (hG v h))).2 ⟨hG v h, .inl h⟩
  front := fun v h => h
  past := fun v _ _ _ hc => CanP.none (hc.mono (B := fun _ => False) fun x _ hx => by rw [hx.1] at hx; cases hx.2)

/-- Those from which an edge leads to F. -/
def ToF (zss : List (List Int)) (F : Nat → Bool) (v : Nat) : Prop := ∃ x ∈ row zss v, F x.toNat = true

/-- The next front: those of the player that have a step into the last one, and those of the opponent that have no other. -/
structure NextF (zss : List (List Int)) (O : List Int) (who : Int) (I A F F' : Nat → Bool) : Prop where
  is : ∀ v, F' v = true ↔ v < zss.length ∧ I v = true ∧ A v = false ∧ ToF zss F v ∧ (nth O v = who ∨ ∀ x ∈ row zss v, I x.toNat = true → A x.toNat = true)

theorem FroI.next (hin : InG zss) {who : Int} {I G A F F' : Nat → Bool} (h : FroI zss O who I G A F) (hn : NextF zss O who I A F F') : FroI zss O who I G (orB A F') F' where
  goal := fun v hv => fun_or.2 (.inl (h.goal v hv))
  sound := fun v hv => by
    rcases fun_or.1 hv with hv | hv
    · exact h.sound v hv
    · obtain ⟨h1, h2, h3, ⟨x, hx, hFx⟩, h5⟩ := (hn.is v).1 hv
      have hAx := h.front _ hFx
      refine (attr_fix hin h1).2 ⟨h2, .inr ?_⟩
      unfold CanP ownB
      by_cases ho : nth O v = who
      · rw [if_pos (decide_eq_true ho)]
        exact ⟨x, hx, attrB_sub (h.sound _ hAx), h.sound _ hAx⟩
      · rw [if_neg (by simp [ho])]
        exact ⟨⟨x, hx, attrB_sub (h.sound _ hAx)⟩, fun y hy hIy => h.sound _ ((h5.resolve_left ho) y hy hIy)⟩
  front := fun v hv => fun_or.2 (.inr hv)
  past := fun v hv hIv hA hc => by
    have hA1 : A v = false := not_true fun hh => by rw [fun_or.2 (.inl hh)] at hA; cases hA
    have hF1 : F' v = false := not_true fun hh => by rw [fun_or.2 (.inr hh)] at hA; cases hA
    have hp := h.past v hv hIv hA1
    have back : ∀ x, orB A F' x = true ∧ F' x = false → A x = true := fun x hx => by
      rcases fun_or.1 hx.1 with hh | hh
      · exact hh
      · rw [hx.2] at hh; cases hh
    have hto : ToF zss F v → (nth O v = who ∨ ∀ x ∈ row zss v, I x.toNat = true → A x.toNat = true) → False := fun h4 h5 => by
      have := (hn.is v).2 ⟨hv, hIv, hA1, h4, h5⟩
      rw [hF1] at this; cases this
    unfold CanP ownB at hc hp
    by_cases ho : nth O v = who
    · rw [if_pos (decide_eq_true ho)] at hc hp
      obtain ⟨x, hx, hIx, hAx⟩ := hc
      have hAx := back _ hAx
      cases hF : F x.toNat with
      | true => exact hto ⟨x, hx, hF⟩ (.inl ho)
      | false => exact hp ⟨x, hx, hIx, hAx, hF⟩
    · rw [if_neg (by simp [ho])] at hc hp
      by_cases hex : ToF zss F v
      · exact hto hex (.inr fun x hx hIx => back _ (hc.2 x hx hIx))
      · exact hp ⟨hc.1, fun x hx hIx => ⟨back _ (hc.2 x hx hIx), not_true fun hF => hex ⟨x, hx, hF⟩⟩⟩

/-- No front is left: it is the attractor. -/
theorem FroI.done (hin : InG zss) {who : Int} {I G A F : Nat → Bool} (hI : ∀ v, I v = true → v < zss.length) (h : FroI zss O who I G A F) (hF : ∀ v, F v = false) : A = attrB zss O who I G := funext fun v => by
  have key : ∀ k u, u < zss.length → 0 ≤ rkK zss O who I G k u → A u = true := fun k => by
    induction k with
    | zero =>
      intro u _ hu
      rw [rkK] at hu
      split at hu
      · next hc => exact h.goal u hc.2
      · omega
    | succ k ih =>
      intro u hu hr
      obtain ⟨hIu, hq⟩ := (rkK_que k u).1 hr
      rcases hq with hq | hq
      · exact h.goal u hq
      · cases hA : A u with
        | true => rfl
        | false =>
          refine absurd (hq.mono fun x hx hxr => ?_) (h.past u hu hIu hA)
          obtain ⟨y, rfl, hy⟩ := hin u hu x hx
          exact ⟨ih _ (by rw [Int.toNat_natCast]; exact hy) hxr, hF _⟩
  cases ha : attrB zss O who I G v with
  | true => exact key zss.length v (hI v (attrB_sub ha)) (attrB_iff.1 ha)
  | false => exact not_true fun hh => by rw [h.sound v hh] at ha; cases ha

/-- Between two fronts of a search from v: R is what has been reached, F what came last. -/
structure RchI (E : Nat → Nat → Bool) (v : Nat) (I R F : Nat → Bool) : Prop where
  here : R v = true
  sub : ∀ u, R u = true → u = v ∨ I u = true
  front : ∀ u, F u = true → R u = true
  past : ∀ u, R u = true → F u = false → ∀ x, E u x = true → I x = true → R x = true

theorem RchI.start {E : Nat → Nat → Bool} {v : Nat} {I : Nat → Bool} : RchI E v I (oneB v) (oneB v) where
  here := fun_one.2 rfl
  sub := fun u h => .inl (fun_one.1 h)
  front := fun u h => h
  past := fun u h1 h2 => by rw [h1] at h2; cases h2

/-- Those to which an edge leads from F. -/
def FromF (E : Nat → Nat → Bool) (F : Nat → Bool) (x : Nat) : Prop := ∃ u, F u = true ∧ E u x = true

theorem RchI.next {E : Nat → Nat → Bool} {v : Nat} {I R F F' : Nat → Bool} (h : RchI E v I R F) (hn : ∀ x, F' x = true ↔ FromF E F x ∧ I x = true ∧ R x = false) : RchI E v I (orB R F') F' where
  here := fun_or.2 (.inl h.here)
  sub := fun u hu => by
    rcases fun_or.1 hu with hu | hu
    · exact h.sub u hu
    · exact .inr ((hn u).1 hu).2.1
  front := fun u hu => fun_or.2 (.inr hu)
  past := fun u hu hF x hE hI => by
    have hR : R u = true := by
      rcases fun_or.1 hu with hh | hh
      · exact hh
      · rw [hF] at hh; cases hh
    refine fun_or.2 ?_
    cases hFu : F u with
    | false => exact .inl (h.past u hR hFu x hE hI)
    | true =>
      cases hRx : R x with
      | true => exact .inl rfl
      | false => exact .inr ((hn x).2 ⟨⟨u, hFu, hE⟩, hI, hRx⟩)

/-- What is reached from a vertex of a part no edge leaves. -/
theorem RchI.shut {E : Nat → Nat → Bool} {v : Nat} {L R F : Nat → Bool} (h : RchI E v L R F) (hF : ∀ u, F u = false) (hv : L v = true) (hE : ∀ u x : Nat, u < zss.length → (x : Int) ∈ row zss u → E u x = true) (hin : InG zss) : ShutP zss L R :=
  ⟨fun u hu => by
    rcases h.sub u hu with rfl | hh
    · exact hv
    · exact hh, fun u hu hR x hx hLx => by
    obtain ⟨y, rfl, hy⟩ := hin u hu x hx
    rw [Int.toNat_natCast] at hLx ⊢
    exact h.past u hR (hF u) y (hE u y hu hx) hLx⟩

end
end Go.Proofs.YtphkgnpkcfbnkabDoor
namespace Go.Proofs.YtphkgnpkcfbnkabDoor
section
open Go.RowKit Go.Shelf

theorem ofL_one (v : Nat) : ofL [(v : Int)] = oneB v := by
  have h := ofL_snoc (zs := []) (v := v)
  rw [List.nil_append] at h
  rw [h]
  exact funext fun x => by
    unfold orB
    have : ofL [] x = false := rfl
    rw [this, Bool.false_or]

theorem maskOf_one {w : World} {g v : Nat} (hc : w.cell? ⟨g, 0, none⟩ = some (.int .i64 (v : Int))) (hv : v < 256) :
    Calls Tryd.prog 74 #[.slice (some ⟨g, 0, none⟩) 1 1] w fun e w' => e = .returned (maskV (oneB v)) ∧ Below w.heap.size w w' := by
  have h := maskOf_is (w := w) (a := some ⟨g, 0, none⟩) (zs := [(v : Int)]) 1 ⟨by simp, fun k hk => by
    obtain rfl : k = 0 := by simpa using hk
    show Fits (v : Int)
    unfold Fits; omega, fun _ => ⟨g, 0, rfl, fun k hk => by
    obtain rfl : k = 0 := by simpa using hk
    exact hc⟩⟩ (fun x hx => ⟨v, by simpa using hx, hv⟩) (by simp)
  rw [ofL_one] at h
  exact h

/-- How many are not in a set yet, and is there a front? -/
def waitN (R F : Nat → Bool) : Nat := 2 * (256 - (markedK R 256).length) + if (markedK F 256).length = 0 then 0 else 1

theorem marked_zero {F : Nat → Bool} {n : Nat} : (markedK F n).length = 0 ↔ ∀ v, v < n → F v = false := by
  constructor
  · intro h v hv
    cases hF : F v with
    | false => rfl
    | true =>
      have h1 : (v : Int) ∈ markedK F n := (markedK_mem F n _).2 ⟨v, rfl, hv, hF⟩
      rw [List.length_eq_zero_iff.1 h] at h1
      cases h1
  · intro h
    rw [List.length_eq_zero_iff]
    cases he : markedK F n with
    | nil => rfl
    | cons x xs =>
      obtain ⟨v, _, hv, hF⟩ := (markedK_mem F n x).1 (by rw [he]; simp)
      rw [h v hv] at hF; cases hF

/-- A new front that is off the set lowers the count. -/
theorem wait_less {R F F' : Nat → Bool} (h0 : noneB F = false) (hoff : ∀ v, F' v = true → R v = false) : waitN (orB R F') F' < waitN R F := by
  have hF : ¬ (markedK F 256).length = 0 := fun h => by
    have := noneB_iff.2 (marked_zero.1 h)
    rw [h0] at this; cases this
  unfold waitN
  rw [if_neg hF]
  have hle : (markedK R 256).length ≤ (markedK (orB R F') 256).length := markedK_le 256 fun v _ hv => by unfold orB; rw [hv]; rfl
  have hlt := markedK_len (orB R F') 256
  by_cases h1 : (markedK F' 256).length = 0
  · rw [if_pos h1]; omega
  · rw [if_neg h1]
    have hex : ∃ v, v < 256 ∧ F' v = true := by
      apply Classical.byContradiction
      intro hn
      refine h1 (marked_zero.2 fun v hv => ?_)
      cases hv2 : F' v with
      | false => rfl
      | true => exact absurd ⟨v, hv, hv2⟩ hn
    obtain ⟨v, hv, hFv⟩ := hex
    have := marked_less (n := 256) (I := orB R F') (J := R) (fun u _ hu => by unfold orB; rw [hu]; rfl) hv (by unfold orB; rw [hFv]; simp) (hoff v hFv)
    omega

/-- The next front of a search. -/
def nextR (E : Nat → Nat → Bool) (I R F : Nat → Bool) : Nat → Bool := lessB (andB (acrossB E F) I) R

theorem nextR_is {E : Nat → Nat → Bool} {I R F : Nat → Bool} (x : Nat) : nextR E I R F x = true ↔ FromF (fun a b => decide (a < 256) && E a b) F x ∧ I x = true ∧ R x = false := by
  unfold nextR lessB andB
  simp only [Bool.and_eq_true, Bool.not_eq_true']
  rw [acrossB_iff]
  constructor
  · rintro ⟨⟨⟨u, hu, hF, hE⟩, hI⟩, hR⟩
    exact ⟨⟨u, hF, by simp [hE, hu]⟩, hI, hR⟩
  · rintro ⟨⟨u, hF, hE⟩, hI, hR⟩
    simp at hE
    exact ⟨⟨⟨u, hE.1, hF, hE.2⟩, hI⟩, hR⟩

set_option linter.unusedSimpArgs false in
set_option maxRecDepth 100000 in
set_option maxHeartbeats 8000000 in
theorem reach_is {w : World} {nb no n cap v : Nat} {E : Nat → Nat → Bool} {I : Nat → Bool} (hT : TabW w) (hE : EdgesAt w nb no n E) (hI : ∀ v, I v = true → v < n) (hv : v < n) (hn : n ≤ 256) :
    Calls Tryd.prog 154 #[.slice (some ⟨nb, no, none⟩) n cap, .int .i64 v, maskV I] w fun e w' => ∃ R, e = .returned (maskV R) ∧ (∃ F, RchI (fun a b => decide (a < 256) && E a b) v I R F ∧ ∀ u, u < 256 → F u = false) ∧ Below w.heap.size w w' := by
  have HE := Lib.hid hE
  have HT := Lib.hid hT
  have HI := Lib.hid hI
  have HEnv : Hid (∀ W', Only (fun k => w.heap.size ≤ k) w W' → TabW W' ∧ EdgesAt W' nb no n E) := fun W' ho =>
    ⟨hT.only ho (by have := hT.lt; omega), hE.only ho (by have := World.block_lt_of_cell? _ _ (hE v hv 0 (by omega)); simp at this; omega)⟩
  clear hE hT hI
  go_enter Tryd.func154, Tryd.ntmps154
  go_wp2_with fail
  obtain ⟨w1, hw1⟩ : ∃ y, y = ((w.alloc (.cells #[.int .u64 (maskW I 0), .int .u64 (maskW I 1), .int .u64 (maskW I 2), .int .u64 (maskW I 3)] 67)).alloc (.cells #[.int .u64 0, .int .u64 0, .int .u64 0, .int .u64 0] 67)).alloc (.cells #[.int .i64 (v : Int)] 2) := ⟨_, rfl⟩
  have HB : Hid (Below w.heap.size w w1) := by rw [hw1]; exact (((Below.refl _ _).alloc (Nat.le_refl _) _).alloc (by simp) _).alloc (by simp; omega) _
  have bI : Hid (MaskAt w1 w.heap.size I) := by rw [hw1]; exact ((MaskAt.new w I).below (below1 _ _)).below (below1 _ _)
  have bR : Hid (MaskAt w1 (w.heap.size + 1) (fun _ => false)) := by rw [hw1, mask_zero]; exact (mask_new_at _ _ (by simp)).below (below1 _ _)
  have bV : Hid (Boxed w1 (w.heap.size + 1 + 1) 2 (.int .i64 (v : Int))) := by rw [hw1]; exact boxed_at _ _ _ (by simp)
  have HS1 : Hid (w1.heap.size = w.heap.size + 3) := by rw [hw1]; simp [Hid]
  rw [← hw1]
  clear hw1
  refine (maskOf_one bV.out.cell (by omega)).mono ?_
  rintro e w2 ⟨rfl, hb2⟩
  have B2 := Lib.hid (HB.out.trans (hb2.mono HB.out.size))
  have bI2 := Lib.hid (bI.out.below hb2)
  have bR2 := Lib.hid (bR.out.below hb2)
  have HS2 : Hid (w1.heap.size ≤ w2.heap.size) := hb2.size
  clear hb2 bI bR bV
  go_wp2
  obtain ⟨wl, hwl⟩ : ∃ y, y = (w2.alloc (.cells #[.int .u64 (maskW (oneB v) 0), .int .u64 (maskW (oneB v) 1), .int .u64 (maskW (oneB v) 2), .int .u64 (maskW (oneB v) 3)] 67)).alloc (.cells #[.int .u64 (maskW (oneB v) 0), .int .u64 (maskW (oneB v) 1), .int .u64 (maskW (oneB v) 2), .int .u64 (maskW (oneB v) 3)] 67) := ⟨_, rfl⟩
  rw [← hwl]
  have Bl : Hid (Below w2.heap.size w2 wl) := by rw [hwl]; exact below2 _ _ _
  have mR : Hid (MaskAt wl w2.heap.size (oneB v)) := by rw [hwl]; exact (MaskAt.new w2 _).below (below1 _ _)
  have mF : Hid (MaskAt wl (w2.heap.size + 1) (oneB v)) := by rw [hwl]; exact mask_new_at _ _ (by simp)
  have HSl : Hid (wl.heap.size = w2.heap.size + 2) := by rw [hwl]; simp [Hid]
  clear hwl
  go_loopg [8] (waitN (oneB v) (oneB v)) (fun gk fv wr => ∃ (gF : Nat) (R F : Nat → Bool), fv = .pointer (some ⟨gF, 0, none⟩) ∧ w2.heap.size < gF ∧ gk = waitN R F ∧ Hid (RchI (fun a b => decide (a < 256) && E a b) v I R F) ∧ Hid (MaskAt wr w2.heap.size R) ∧ Hid (MaskAt wr gF F) ∧ Hid (Only (fun b => b = w2.heap.size ∨ w2.heap.size + 1 ≤ b) wl wr))
  case atStart => exact ⟨_, _, _, rfl, by omega, rfl, RchI.start, mR, mF, Only.refl _ _⟩
  case round =>
    obtain ⟨gF, R, F, rfl, hgF, hgk, HRI, HM, HF, HO⟩ := hrel
    have hs1 := HS1.out
    have hs2 := HS2.out
    have hsl := HSl.out
    have bIw := Lib.hid ((bI2.out.below Bl.out).only HO.out (by omega))
    have a0 := HF.out.c0
    have a1 := HF.out.c1
    have a2 := HF.out.c2
    have a3 := HF.out.c3
    cases h0 : noneB F with
    | true =>
      have HC := Lib.hid (fun w => mask_isEmpty (w := w) F h0)
      have bRw := Lib.hid ((bR2.out.below Bl.out).only HO.out (by omega))
      have HN : Hid (∀ u, u < 256 → F u = false) := noneB_iff.1 h0
      clear h0 hgk
      go_wp2_with (go_at_call 131; refine (HC.out _).mono ?_; rintro e wb ⟨rfl, hb⟩; have Kb := Lib.hid hb; have z1 := (HM.out.below hb).c0; have z2 := (HM.out.below hb).c1; have z3 := (HM.out.below hb).c2; have z4 := (HM.out.below hb).c3; have q1 := (bRw.out.below hb).frozen 0; have q2 := (bRw.out.below hb).frozen 1; have q3 := (bRw.out.below hb).frozen 2; have q4 := (bRw.out.below hb).frozen 3; have y1 := (bRw.out.below hb).c0; have y2 := (bRw.out.below hb).c1; have y3 := (bRw.out.below hb).c2; have y4 := (bRw.out.below hb).c3; clear hb)
      have hO2 := only_put4 (S := fun k => w.heap.size ≤ k) ((HO.out.mono fun k hk => by omega).trans (Only.of_below Kb.out)) (g := w.heap.size + 1) (by omega) (.int .u64 (maskW R 0)) (.int .u64 (maskW R 1)) (.int .u64 (maskW R 2)) (.int .u64 (maskW R 3)) 0
      refine ret_mask (K := R) (g := w.heap.size + 1) rfl rfl ((bRw.out.below Kb.out).put4 R) ⟨R, rfl, ⟨F, HRI.out, HN.out⟩, ?_⟩
      exact (B2.out.trans (Bl.out.mono B2.out.size)).trans (hO2.below (by have := B2.out.size; omega) (fun k h => h))
    | false =>
      have HC := Lib.hid (fun w => mask_isEmpty (w := w) F h0)
      obtain ⟨N, hN⟩ : ∃ N, nextR E I R F = N := ⟨_, rfl⟩
      have HRN := Lib.hid (HRI.out.next (F' := nextR E I R F) nextR_is)
      rw [hN] at HRN
      have HWL := Lib.hid (wait_less (R := R) (F := F) (F' := nextR E I R F) h0 (fun u hu => by
        unfold nextR lessB at hu
        simp at hu
        exact hu.2))
      rw [hN] at HWL
      have HN := Lib.hid hN
      clear hN
      have HFn : Hid (∀ u, F u = true → u < n) := fun u hu => by
        rcases HRI.out.sub u (HRI.out.front u hu) with h | h
        · omega
        · exact HI.out u h
      clear h0
      go_wp2_with (go_at_call 131; refine (HC.out _).mono ?_; rintro e wb ⟨rfl, hb⟩)
      have Kb := Lib.hid hb
      have HM2 := Lib.hid (HM.out.below hb)
      have HF2 := Lib.hid (HF.out.below hb)
      have HI2 := Lib.hid (bIw.out.below hb)
      have O1 : Hid (Only (fun k => w.heap.size ≤ k) w wb) := (Only.of_below B2.out).trans ((Only.of_below (Bl.out.mono (Nat.le_refl _))).trans ((HO.out.mono fun k hk => by omega).trans (Only.of_below hb)))
      have O2 : Hid (Only (fun b => b = w2.heap.size ∨ w2.heap.size + 1 ≤ b) wl wb) := HO.out.trans (Only.of_below hb)
      have HSb : Hid (wr.heap.size ≤ wb.heap.size) := hb.size
      have HSr : Hid (wl.heap.size ≤ wr.heap.size) := HO.out.size
      have HSw : Hid (∀ W', Below wb.heap.size wb W' → W'.cell? ⟨gF, 0, none⟩ = some (.int .u64 (maskW F 0)) ∧ W'.cell? ⟨gF, 1, none⟩ = some (.int .u64 (maskW F 1)) ∧ W'.cell? ⟨gF, 2, none⟩ = some (.int .u64 (maskW F 2)) ∧ W'.cell? ⟨gF, 3, none⟩ = some (.int .u64 (maskW F 3)) ∧ W'.cell? ⟨w.heap.size, 0, none⟩ = some (.int .u64 (maskW I 0)) ∧ W'.cell? ⟨w.heap.size, 1, none⟩ = some (.int .u64 (maskW I 1)) ∧ W'.cell? ⟨w.heap.size, 2, none⟩ = some (.int .u64 (maskW I 2)) ∧ W'.cell? ⟨w.heap.size, 3, none⟩ = some (.int .u64 (maskW I 3)) ∧ W'.cell? ⟨w2.heap.size, 0, none⟩ = some (.int .u64 (maskW R 0)) ∧ W'.cell? ⟨w2.heap.size, 1, none⟩ = some (.int .u64 (maskW R 1)) ∧ W'.cell? ⟨w2.heap.size, 2, none⟩ = some (.int .u64 (maskW R 2)) ∧ W'.cell? ⟨w2.heap.size, 3, none⟩ = some (.int .u64 (maskW R 3))) := fun W' hb => by
        have m1 := HF2.out.below hb
        have m2 := HI2.out.below hb
        have m3 := HM2.out.below hb
        exact ⟨m1.c0, m1.c1, m1.c2, m1.c3, m2.c0, m2.c1, m2.c2, m2.c3, m3.c0, m3.c1, m3.c2, m3.c3⟩
      have Kd : Hid (Below wb.heap.size wb wb.drew) := (Below.refl _ _).drew
      clear hb a0 a1 a2 a3
      go_wp2_with fail
      refine wp_region_M (S := (fun W' => W'.cell? ⟨gF, 0, none⟩ = some (.int .u64 (maskW F 0)) ∧ W'.cell? ⟨gF, 1, none⟩ = some (.int .u64 (maskW F 1)) ∧ W'.cell? ⟨gF, 2, none⟩ = some (.int .u64 (maskW F 2)) ∧ W'.cell? ⟨gF, 3, none⟩ = some (.int .u64 (maskW F 3)) ∧ W'.cell? ⟨w.heap.size, 0, none⟩ = some (.int .u64 (maskW I 0)) ∧ W'.cell? ⟨w.heap.size, 1, none⟩ = some (.int .u64 (maskW I 1)) ∧ W'.cell? ⟨w.heap.size, 2, none⟩ = some (.int .u64 (maskW I 2)) ∧ W'.cell? ⟨w.heap.size, 3, none⟩ = some (.int .u64 (maskW I 3)) ∧ W'.cell? ⟨w2.heap.size, 0, none⟩ = some (.int .u64 (maskW R 0)) ∧ W'.cell? ⟨w2.heap.size, 1, none⟩ = some (.int .u64 (maskW R 1)) ∧ W'.cell? ⟨w2.heap.size, 2, none⟩ = some (.int .u64 (maskW R 2)) ∧ W'.cell? ⟨w2.heap.size, 3, none⟩ = some (.int .u64 (maskW R 3)))) (m := 7) (by kernel_rfl) (HSw.out _ Kd.out) (fun hHeld => ?_)
      refine wpAnyM_take (i := 0) (v := ?vm1) rfl (by kernel_rfl) (by decide) (by kernel_rfl) (by kernel_rfl) (by kernel_rfl) (fun _ _ _ h => h) (Or.inl ⟨by rfl, ?hm1⟩) (by assumption) ?_
      case hm1 => (intro w hSw; (try dsimp only at hSw); go_simp; first | done | with_reducible rfl)
      try simp only [Act.put, List.setIfInBounds_toArray, List.set_cons_zero, List.set_cons_succ]
      refine wpAnyM_take (i := 1) (v := ?vm2) rfl (by kernel_rfl) (by decide) (by kernel_rfl) (by kernel_rfl) (by kernel_rfl) (fun _ _ _ h => h) (Or.inl ⟨by rfl, ?hm2⟩) (by assumption) ?_
      case hm2 => (intro w hSw; (try dsimp only at hSw); go_simp; first | done | with_reducible rfl)
      try simp only [Act.put, List.setIfInBounds_toArray, List.set_cons_zero, List.set_cons_succ]
      refine wpAnyM_take (i := 3) (v := ?vm3) rfl (by kernel_rfl) (by decide) (by kernel_rfl) (by kernel_rfl) (by kernel_rfl) (fun _ _ _ h => h) (Or.inl ⟨by rfl, ?hm3⟩) (by assumption) ?_
      case hm3 => (intro w hSw; (try dsimp only at hSw); go_simp; first | done | with_reducible rfl)
      try simp only [Act.put, List.setIfInBounds_toArray, List.set_cons_zero, List.set_cons_succ]
      refine wpAnyM_take (i := 5) (v := ?vm4) rfl (by kernel_rfl) (by decide) (by kernel_rfl) (by kernel_rfl) (by kernel_rfl) (fun _ _ _ h => h) (Or.inl ⟨by rfl, ?hm4⟩) (by assumption) ?_
      case hm4 => (intro w hSw; (try dsimp only at hSw); go_simp; first | done | with_reducible rfl)
      try simp only [Act.put, List.setIfInBounds_toArray, List.set_cons_zero, List.set_cons_succ]
      refine wpAnyM_one (i := 2) (by kernel_rfl) rfl (fun K hK => ?_)
      go_simp
      go_at_call 156
      refine (across_is (HEnv.out _ (O1.out.trans (Only.of_below Kd.out))).1 (HEnv.out _ (O1.out.trans (Only.of_below Kd.out))).2 HFn.out hn).mono ?_
      rintro e wc ⟨rfl, hb⟩
      have Kc := Lib.hid (Kd.out.trans (hb.mono Kd.out.size))
      clear hb
      go_wp2_with fail
      refine hK.out _ _ (fun _ => HSw.out _ Kc.out) (fun hHeld => ?_)
      have hHeld := hHeld (by decide)
      clear hK K
      try simp only [Act.put, List.setIfInBounds_toArray, List.set_cons_zero, List.set_cons_succ]
      refine wpAnyM_one (i := 4) (by kernel_rfl) rfl (fun K hK => ?_)
      go_simp
      go_at_call 75
      refine (mask_meet _ _).mono ?_
      rintro e we ⟨rfl, hb⟩
      have Ke := Lib.hid (Kc.out.trans (hb.mono Kc.out.size))
      clear hb
      go_wp2_with fail
      refine hK.out _ _ (fun _ => HSw.out _ Ke.out) (fun hHeld => ?_)
      have hHeld := hHeld (by decide)
      clear hK K
      try simp only [Act.put, List.setIfInBounds_toArray, List.set_cons_zero, List.set_cons_succ]
      refine wpAnyM_one (i := 6) (by kernel_rfl) rfl (fun K hK => ?_)
      go_simp
      go_at_call 136
      refine (mask_less_as HN.out).mono ?_
      rintro e wf ⟨rfl, hb⟩
      have Kf := Lib.hid (Ke.out.trans (hb.mono Ke.out.size))
      clear hb
      go_wp2_with fail
      refine hK.out _ _ (fun _ => HSw.out _ Kf.out) (fun hHeld => ?_)
      have hHeld := hHeld (by decide)
      clear hK K
      try simp only [Act.put, List.setIfInBounds_toArray, List.set_cons_zero, List.set_cons_succ]
      have mA := HF2.out.below Kf.out
      have f0 := mA.frozen 0
      have f1 := mA.frozen 1
      have f2 := mA.frozen 2
      have f3 := mA.frozen 3
      have m4 := Lib.hid (mA.put4 N)
      obtain ⟨y0, y1, y2, y3, -⟩ := hHeld
      clear mA
      refine wpAnyM_one (i := 7) (by kernel_rfl) rfl (fun K hK => ?_)
      go_simp
      refine hK.out _ _ (fun h => absurd h (by decide)) (fun _ => ?_)
      clear hK K
      try simp only [Act.put, List.setIfInBounds_toArray, List.set_cons_zero, List.set_cons_succ]
      refine wpAnyM_done (by kernel_rfl) ?_ _
      obtain ⟨wg, hwg⟩ : ∃ y, y = ((((wf.setCell ⟨gF, 0, none⟩ (.int .u64 (maskW N 0))).setCell ⟨gF, 1, none⟩ (.int .u64 (maskW N 1))).setCell ⟨gF, 2, none⟩ (.int .u64 (maskW N 2))).setCell ⟨gF, 3, none⟩ (.int .u64 (maskW N 3))) := ⟨_, rfl⟩
      rw [← hwg] at m4 ⊢
      have Og : Hid (Only (fun b => b = gF) wf wg) := by rw [hwg]; exact only_put4 (S := fun b => b = gF) (Only.refl _ wf) (g := gF) rfl _ _ _ _ 0
      have HSf : Hid (wb.heap.size ≤ wf.heap.size) := Kf.out.size
      clear hwg f0 f1 f2 f3 y0 y1 y2 y3
      have HSg : Hid (wf.heap.size ≤ wg.heap.size) := Og.out.size
      have hgb : gF < wb.heap.size := HF2.out.lt
      have HM3 := Lib.hid ((HM2.out.below Kf.out).only Og.out (by omega))
      have n0 := m4.out.c0
      have n1 := m4.out.c1
      have n2 := m4.out.c2
      have n3 := m4.out.c3
      have r0 := HM3.out.c0
      have r1 := HM3.out.c1
      have r2 := HM3.out.c2
      have r3 := HM3.out.c3
      have s0 := HM3.out.lt
      clear hgb
      have s1 := HSr.out
      have s2 := HSb.out
      have s3 := HSf.out
      have s4 := HSg.out
      go_wp2_with fail
      refine (mask_with R N).mono ?_
      rintro e wh ⟨rfl, hb⟩
      have HM4 := Lib.hid ((HM3.out.below (below1 wg _)).below hb)
      have HN4 := Lib.hid ((MaskAt.new wg N).below hb)
      have Oh : Hid (Only (fun b => b = w2.heap.size ∨ w2.heap.size + 1 ≤ b) wl wh) := O2.out.trans ((Only.of_below Kf.out).trans ((Og.out.mono fun k hk => by omega).trans ((Only.of_below (below1 wg _)).trans (Only.of_below hb))))
      have k0 := HM4.out.frozen 0
      have k1 := HM4.out.frozen 1
      have k2 := HM4.out.frozen 2
      have k3 := HM4.out.frozen 3
      have l0 := HM4.out.c0
      have l1 := HM4.out.c1
      have l2 := HM4.out.c2
      have l3 := HM4.out.c3
      clear hb n0 n1 n2 n3 r0 r1 r2 r3
      go_wp2
      go_roundg (waitN (orB R N) N)
      case measure => rw [hgk]; exact HWL.out
      case rel =>
        refine ⟨wg.heap.size, orB R N, N, rfl, by omega, rfl, HRN.out, HM4.out.put4 _, ?_, only_put4 (S := fun b => b = w2.heap.size ∨ w2.heap.size + 1 ≤ b) Oh.out (.inl rfl) _ _ _ _ 0⟩
        exact HN4.out.only (only_put4 (S := fun b => b = w2.heap.size) (Only.refl _ wh) (g := w2.heap.size) rfl (.int .u64 (maskW (orB R N) 0)) (.int .u64 (maskW (orB R N) 1)) (.int .u64 (maskW (orB R N) 2)) (.int .u64 (maskW (orB R N) 3)) 0) (by omega)
end
end Go.Proofs.YtphkgnpkcfbnkabDoor
namespace Go.Proofs.YtphkgnpkcfbnkabDoor
section
open Go.RowKit Go.Shelf

/-- The recursion in its block b: the owners' sets, the priorities' sets, the edges both ways. -/
structure RecAt (w : World) (b n nb pb kb : Nat) (Ow Lv E Pd : Nat → Nat → Bool) : Prop where
  own : ∀ i, i < 2 → ∀ j, j < 4 → w.cell? ⟨b, i * 4 + j, none⟩ = some (.int .u64 (maskW (Ow i) j))
  lev : EdgesAt w b 8 41 Lv
  next : w.cell? ⟨b, 172, none⟩ = some (.slice (some ⟨nb, 0, none⟩) n n)
  preds : w.cell? ⟨b, 173, none⟩ = some (.slice (some ⟨pb, 0, none⟩) n n)
  known : w.cell? ⟨b, 174, none⟩ = some (.map (some kb))
  succ : EdgesAt w nb 0 n E
  back : EdgesAt w pb 0 n Pd
  pos : 0 < n
  small : n ≤ 256
  apart : b ≠ nb ∧ b ≠ pb ∧ b ≠ kb ∧ nb ≠ pb ∧ nb ≠ kb ∧ pb ≠ kb
  map : kb < w.heap.size

section
variable {w w' : World} {b n nb pb kb : Nat} {Ow Lv E Pd : Nat → Nat → Bool}
theorem RecAt.lt (h : RecAt w b n nb pb kb Ow Lv E Pd) : b < w.heap.size ∧ nb < w.heap.size ∧ pb < w.heap.size ∧ kb < w.heap.size :=
  ⟨World.block_lt_of_cell? _ _ h.next, World.block_lt_of_cell? _ _ (h.succ 0 h.pos 0 (by omega)), World.block_lt_of_cell? _ _ (h.back 0 h.pos 0 (by omega)), h.map⟩
/-- It stays while its own three blocks of cells do. -/
theorem RecAt.only {S : Nat → Prop} (h : RecAt w b n nb pb kb Ow Lv E Pd) (hk : Only S w w') (h1 : ¬ S b) (h2 : ¬ S nb) (h3 : ¬ S pb) : RecAt w' b n nb pb kb Ow Lv E Pd := by
  have hl := h.lt
  have keep : ∀ k, (World.cell? w' ⟨b, k, none⟩ = World.cell? w ⟨b, k, none⟩) := fun k => World.cell?_of_block (hk.block b hl.1 h1)
  exact ⟨fun i hi j hj => (keep _).trans (h.own i hi j hj), h.lev.only hk h1, (keep _).trans h.next, (keep _).trans h.preds, (keep _).trans h.known, h.succ.only hk h2, h.back.only hk h3, h.pos, h.small, h.apart, Nat.lt_of_lt_of_le h.map hk.size⟩
theorem RecAt.below (h : RecAt w b n nb pb kb Ow Lv E Pd) (hb : Below w.heap.size w w') : RecAt w' b n nb pb kb Ow Lv E Pd :=
  h.only (S := fun _ => False) (Only.of_below hb) (fun x => x) (fun x => x) (fun x => x)
end

/-- The sets are those of the game. -/
structure GameE (zss : List (List Int)) (O : List Int) (n : Nat) (Ow E Pd : Nat → Nat → Bool) : Prop where
  len : zss.length = n
  rows : RowsP zss
  own : ∀ i, i < 2 → ∀ v, Ow i v = true ↔ v < n ∧ nth O v = (i : Int)
  succ : ∀ v, v < n → ∀ x, E v x = true ↔ (x : Int) ∈ row zss v
  back : ∀ x, x < n → ∀ v, Pd x v = true ↔ v < n ∧ E v x = true

section
variable {zss : List (List Int)} {O : List Int} {n : Nat} {Ow E Pd : Nat → Nat → Bool}
theorem GameE.lt (h : GameE zss O n Ow E Pd) {v x : Nat} (hv : v < n) (hE : E v x = true) : x < n := by
  obtain ⟨y, hy, hyn⟩ := h.rows.inG v (by rw [h.len]; exact hv) _ ((h.succ v hv x).1 hE)
  rw [h.len] at hyn
  rw [Int.natCast_inj.1 hy]; exact hyn
/-- Those from which an edge leads to F. -/
theorem GameE.toF (h : GameE zss O n Ow E Pd) {F : Nat → Bool} (hF : ∀ v, F v = true → v < n) (hn : n ≤ 256) {v : Nat} : acrossB Pd F v = true ↔ v < n ∧ ToF zss F v := by
  rw [acrossB_iff]
  constructor
  · rintro ⟨u, _, hFu, hP⟩
    obtain ⟨hv, hE⟩ := (h.back u (hF u hFu) v).1 hP
    exact ⟨hv, (u : Int), (h.succ v hv u).1 hE, by rw [Int.toNat_natCast]; exact hFu⟩
  · rintro ⟨hv, x, hx, hFx⟩
    obtain ⟨y, rfl, hy⟩ := h.rows.inG v (by rw [h.len]; exact hv) x hx
    rw [Int.toNat_natCast] at hFx
    have := hF y hFx
    exact ⟨y, by omega, hFx, (h.back y this v).2 ⟨hv, (h.succ v hv y).2 hx⟩⟩

/-- Those near the last front. -/
def nearB (Pd : Nat → Nat → Bool) (I A F : Nat → Bool) : Nat → Bool := lessB (andB (acrossB Pd F) I) A
/-- Has a vertex no successor in the part off the area? -/
noncomputable def shutB (E : Nat → Nat → Bool) (I A : Nat → Bool) (v : Nat) : Bool := noneB (lessB (andB (E v) I) A)
/-- The next front. -/
noncomputable def nextB (E Pd : Nat → Nat → Bool) (Ow I A F : Nat → Bool) : Nat → Bool := fun v => nearB Pd I A F v && (Ow v || shutB E I A v)

theorem GameE.next (h : GameE zss O n Ow E Pd) {i : Nat} (hi : i < 2) {I A F : Nat → Bool} (hF : ∀ v, F v = true → v < n) (hn : n ≤ 256) : NextF zss O (i : Int) I A F (nextB E Pd (Ow i) I A F) where
  is := fun v => by
    unfold nextB nearB lessB andB
    simp only [Bool.and_eq_true, Bool.or_eq_true, Bool.not_eq_true']
    rw [h.toF hF hn, h.len, h.own i hi]
    constructor
    · rintro ⟨⟨⟨⟨hv, ht⟩, hI⟩, hA⟩, ho⟩
      refine ⟨hv, hI, hA, ht, ?_⟩
      rcases ho with ho | ho
      · exact .inl ho.2
      · refine .inr fun x hx hIx => ?_
        obtain ⟨y, rfl, hy⟩ := h.rows.inG v (by rw [h.len]; exact hv) x hx
        rw [Int.toNat_natCast] at hIx ⊢
        have h1 := noneB_iff.1 ho y (by rw [h.len] at hy; omega)
        unfold lessB andB at h1
        rw [(h.succ v hv y).2 hx, hIx] at h1
        simpa using h1
    · rintro ⟨hv, hI, hA, ht, ho⟩
      refine ⟨⟨⟨⟨hv, ht⟩, hI⟩, hA⟩, ?_⟩
      rcases ho with ho | ho
      · exact .inl ⟨hv, ho⟩
      · refine .inr (noneB_iff.2 fun y _ => ?_)
        unfold lessB andB
        cases hE : E v y with
        | false => rfl
        | true =>
          cases hIy : I y with
          | false => rfl
          | true =>
            have := ho (y : Int) ((h.succ v hv y).1 hE) (by rw [Int.toNat_natCast]; exact hIy)
            rw [Int.toNat_natCast] at this
            rw [this]; rfl
end
end
end Go.Proofs.YtphkgnpkcfbnkabDoor
