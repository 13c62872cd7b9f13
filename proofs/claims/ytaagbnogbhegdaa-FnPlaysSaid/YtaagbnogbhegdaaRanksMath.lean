/-
  What FnRanks asks of ranks. No program text.
-/
import Derived.Test.YtaagbnogbhegdaaTrap1
import Derived.Test.YtaagbnogbhegdaaDraw1
namespace Go.Proofs.Ytaagbnogbhegdaa
open Go.RowKit

variable {zss : List (List Int)} {O : List Int} {who : Int} {I G : Nat → Bool}

theorem rkK_more {k u : Nat} (h : 0 ≤ rkK zss O who I G k u) : ∀ j, rkK zss O who I G (k + j) u = rkK zss O who I G k u
  | 0 => rfl
  | j + 1 => by
    have ih := rkK_more h j
    show rkK zss O who I G ((k + j) + 1) u = _
    rw [rkK_old (by rw [ih]; exact h), ih]

/-- A rank is given once, at its stage. -/
theorem rkK_at : ∀ {n m v : Nat}, rkK zss O who I G n v = (m : Int) → m ≤ n ∧ rkK zss O who I G m v = m ∧ ∀ j, j < m → rkK zss O who I G j v < 0
  | 0, m, v, h => by
    have h2 := (rkK_bound (zss := zss) (O := O) (who := who) (I := I) (G := G) 0 v).2
    have : m = 0 := by omega
    subst this
    exact ⟨Nat.le_refl _, h, fun j hj => absurd hj (Nat.not_lt_zero _)⟩
  | n + 1, m, v, h => by
    by_cases h0 : 0 ≤ rkK zss O who I G n v
    · rw [rkK_old h0] at h
      obtain ⟨h1, h2, h3⟩ := rkK_at h
      exact ⟨by omega, h2, h3⟩
    · have hn := rkK_new (zss := zss) (O := O) (who := who) (I := I) (G := G) (k := n) (u := v) (by omega) (by omega)
      have : m = n + 1 := by omega
      subst this
      refine ⟨Nat.le_refl _, h, fun j hj => ?_⟩
      apply Classical.byContradiction
      intro hc
      have := rkK_more (zss := zss) (O := O) (who := who) (I := I) (G := G) (k := j) (u := v) (by omega) (n - j)
      rw [show j + (n - j) = n by omega] at this
      omega

/-- A vertex of a positive rank of its player's has a successor of the rank before. -/
theorem rkK_own {n v j : Nat} (h : rkK zss O who I G n v = (j : Int) + 1) (ho : ownB O who v = true) : ∃ u ∈ row zss v, I u.toNat = true ∧ rkK zss O who I G n u.toNat = (j : Int) := by
  obtain ⟨h1, h2, h3⟩ := rkK_at (m := j + 1) (by rw [h]; omega)
  have h4 := h3 j (by omega)
  have hc : CanP (ownB O who v) (fun x => I x = true) (fun x => 0 ≤ rkK zss O who I G j x) (row zss v) := by
    apply Classical.byContradiction
    intro hn
    rw [rkK, if_neg (by omega), if_neg (fun hh => hn hh.2)] at h2
    omega
  rw [ho] at hc
  unfold CanP at hc
  rw [if_pos rfl] at hc
  obtain ⟨u, hu, hI, hr⟩ := hc
  refine ⟨u, hu, hI, ?_⟩
  have hb := rkK_bound (zss := zss) (O := O) (who := who) (I := I) (G := G) j u.toNat
  obtain ⟨m, hm⟩ : ∃ m : Nat, rkK zss O who I G j u.toNat = m := ⟨(rkK zss O who I G j u.toNat).toNat, by omega⟩
  obtain ⟨e1, e2, e3⟩ := rkK_at hm
  have hmj : m = j := by
    apply Classical.byContradiction
    intro hne
    have hv := h3 (m + 1) (by omega)
    have hI2 : I v = true := rkK_mem (k := n) (zss := zss) (O := O) (who := who) (G := G) (by omega)
    rw [rkK, if_neg (by have := h3 m (by omega); omega), if_pos ⟨hI2, by
      rw [ho]
      unfold CanP
      rw [if_pos rfl]
      exact ⟨u, hu, hI, by show (0 : Int) ≤ rkK zss O who I G m u.toNat; rw [e2]; omega⟩⟩] at hv
    omega
  have := rkK_more hr (n - j)
  rw [show j + (n - j) = n by omega] at this
  rw [this, hm, hmj]

theorem pullF_find {rk : Nat → Int} {r : Int} : ∀ (us : List Int), (∀ x ∈ us, 0 ≤ x) → (0 ≤ pullF rk r us → pullF rk r us ∈ us ∧ rk (pullF rk r us).toNat = r - 1) ∧ (pullF rk r us < 0 → ∀ x ∈ us, rk x.toNat ≠ r - 1)
  | [], _ => ⟨fun h => by unfold pullF at h; omega, fun _ x hx => by cases hx⟩
  | u :: us, h => by
    have hu := h u (by simp)
    have ih := pullF_find (rk := rk) (r := r) us (fun x hx => h x (by simp [hx]))
    rw [pullF]
    split
    · next he => exact ⟨fun _ => ⟨by simp, he⟩, fun hh => by omega⟩
    · next he =>
      refine ⟨fun hh => ⟨by simp [(ih.1 hh).1], (ih.1 hh).2⟩, fun hh x hx => ?_⟩
      rcases List.mem_cons.1 hx with rfl | hx
      · exact he
      · exact ih.2 hh x hx

theorem setFrom_rank {n : Int} : ∀ (zs : List Int) (l : Int), zs.Pairwise (· < ·) → (∀ x ∈ zs, l < x ∧ x < n) → setFrom n l zs = true
  | [], _, _, _ => rfl
  | z :: r, l, hp, hb => by
    obtain ⟨h1, h2⟩ := List.pairwise_cons.1 hp
    have hz := hb z (by simp)
    rw [setFrom, decide_eq_true hz]
    exact setFrom_rank r z h2 fun x hx => ⟨h1 x hx, (hb x (by simp [hx])).2⟩

/-- What the law asks. -/
structure RanksP (O : List Int) (zss : List (List Int)) (who : Int) (F P : Nat → Int) (S : List Int) : Prop where
  has : ∀ v, v < O.length → hasIn S (v : Int) = decide (0 ≤ F v)
  pull : ∀ v, v < O.length → 0 ≤ P v → ∃ y : Nat, P v = y ∧ y < O.length ∧ F y = F v - 1 ∧ nth O v = who ∧ 0 < F v
  none : ∀ v, v < O.length → P v < 0 → 0 < F v → nth O v ≠ who
  bound : ∀ v, v < O.length → -1 ≤ F v ∧ F v ≤ 256 ∧ -1 ≤ P v ∧ P v ≤ 256

theorem ranks_are {In Gl : List Int} (hok : bothB O zss who In Gl = true) : RanksP O zss who (ranksF O zss who In Gl) (pullV O zss who In Gl) (markedK (fun v => decide (0 ≤ ranksF O zss who In Gl v)) zss.length) := by
  obtain ⟨hP, _, _, _⟩ := bothB_yes hok
  have hn := hP.2.2.1
  have hO := hP.2.1
  have hin := arena_nats hP
  have hb : ∀ v, -1 ≤ ranksF O zss who In Gl v ∧ ranksF O zss who In Gl v ≤ 256 := fun v => by
    have := rkK_bound (zss := zss) (O := O) (who := who) (I := openS In In.length) (G := openS Gl Gl.length) zss.length v
    unfold ranksF; omega
  have hnn : ∀ v, v < O.length → ∀ x ∈ row zss v, 0 ≤ x := fun v hv x hx => by
    obtain ⟨y, rfl, _⟩ := hin v (by omega) x hx
    omega
  refine ⟨fun v hv => ?_, fun v hv hp => ?_, fun v hv hp h0 hw => ?_, fun v hv => ?_⟩
  · have hs : setB 256 (markedK (fun v => decide (0 ≤ ranksF O zss who In Gl v)) zss.length) = true := by
      refine setFrom_rank _ (-1) (markedK_rising _ _) fun x hx => ?_
      obtain ⟨u, rfl, hu, _⟩ := (markedK_mem _ _ _).1 hx
      omega
    unfold hasIn
    rw [hs, Bool.true_and, Bool.eq_iff_iff, hasB_iff, markedK_mem, decide_eq_true_eq]
    constructor
    · rintro ⟨u, hu, _, hr⟩
      have : u = v := by omega
      subst this
      simpa using hr
    · intro hr
      exact ⟨v, rfl, by omega, by simpa using hr⟩
  · unfold pullV at hp ⊢
    split at hp
    · next hc =>
      rw [if_pos hc]
      obtain ⟨h1, h2⟩ := (pullF_find (row zss v) (hnn v hv)).1 hp
      obtain ⟨y, hy, hyn⟩ := hin v (by omega) _ h1
      rw [hy, Int.toNat_natCast] at h2
      exact ⟨y, hy, by omega, h2, hc.1, hc.2⟩
    · omega
  · unfold pullV at hp
    rw [if_pos ⟨hw, h0⟩] at hp
    obtain ⟨j, hj⟩ : ∃ j : Nat, ranksF O zss who In Gl v = (j : Int) + 1 := ⟨(ranksF O zss who In Gl v - 1).toNat, by omega⟩
    obtain ⟨u, hu, _, hr⟩ := rkK_own (n := zss.length) (v := v) (j := j) hj (by unfold ownB; exact decide_eq_true hw)
    have := (pullF_find (rk := ranksF O zss who In Gl) (r := ranksF O zss who In Gl v) (row zss v) (hnn v hv)).2 hp u hu
    apply this
    rw [hj]
    show rkK _ _ _ _ _ _ _ = _
    rw [hr]; omega
  · refine ⟨(hb v).1, (hb v).2, ?_⟩
    unfold pullV
    split
    · have hf := pullF_find (rk := ranksF O zss who In Gl) (r := ranksF O zss who In Gl v) (row zss v) (hnn v hv)
      by_cases h0 : 0 ≤ pullF (ranksF O zss who In Gl) (ranksF O zss who In Gl v) (row zss v)
      · obtain ⟨y, hy, hyn⟩ := hin v (by omega) _ (hf.1 h0).1
        rw [hy]; omega
      · have hm : ∀ us : List Int, (∀ x ∈ us, 0 ≤ x) → -1 ≤ pullF (ranksF O zss who In Gl) (ranksF O zss who In Gl v) us := fun us => by
          induction us with
          | nil => intro _; unfold pullF; omega
          | cons u us ih =>
            intro hus
            rw [pullF]
            split
            · have := hus u (by simp); omega
            · exact ih fun x hx => hus x (by simp [hx])
        have := hm (row zss v) (hnn v hv)
        omega
    · omega

/-- The three answers, as tables of N entries; N is 0 where the arguments are not valid. -/
structure RanksAll (O : List Int) (zss : List (List Int)) (who : Int) (In Gl : List Int) (N : Nat) (F P : Nat → Int) : Prop where
  r : ranksL O zss who In Gl = fnL N F
  p : pullL O zss who In Gl = fnL N P
  s : attractL O zss who In Gl = markedK (fun v => decide (0 ≤ F v)) N
  le : N ≤ O.length
  big : N ≤ 256
  has : ∀ v, v < N → hasIn (markedK (fun v => decide (0 ≤ F v)) N) (v : Int) = decide (0 ≤ F v)
  pull : ∀ v, v < N → 0 ≤ P v → ∃ y : Nat, P v = y ∧ y < N ∧ F y = F v - 1 ∧ nth O v = who ∧ 0 < F v
  none : ∀ v, v < N → P v < 0 → 0 < F v → nth O v ≠ who
  bound : ∀ v, v < N → -1 ≤ F v ∧ F v ≤ 256 ∧ -1 ≤ P v ∧ P v ≤ 256

theorem ranks_all (O : List Int) (zss : List (List Int)) (who : Int) (In Gl : List Int) : ∃ N F P, RanksAll O zss who In Gl N F P := by
  cases hok : bothB O zss who In Gl with
  | true =>
    have h := ranks_are hok
    obtain ⟨hP, _, _, _⟩ := bothB_yes hok
    have hn := hP.2.2.1
    have hO := hP.2.1
    refine ⟨zss.length, _, _, by unfold ranksL; rw [if_pos hok], by unfold pullL; rw [if_pos hok], by unfold attractL; rw [if_pos hok], by omega, by omega, fun v hv => h.has v (by omega), fun v hv hp => ?_, fun v hv => h.none v (by omega), fun v hv => h.bound v (by omega)⟩
    obtain ⟨y, h1, h2, h3⟩ := h.pull v (by omega) hp
    exact ⟨y, h1, by omega, h3⟩
  | false =>
    refine ⟨0, fun _ => 0, fun _ => 0, ?_, ?_, ?_, Nat.zero_le _, by omega, fun v hv => absurd hv (Nat.not_lt_zero _), fun v hv => absurd hv (Nat.not_lt_zero _), fun v hv => absurd hv (Nat.not_lt_zero _), fun v hv => absurd hv (Nat.not_lt_zero _)⟩
    · unfold ranksL; rw [if_neg (by rw [hok]; simp)]; rfl
    · unfold pullL; rw [if_neg (by rw [hok]; simp)]; rfl
    · unfold attractL; rw [if_neg (by rw [hok]; simp)]; rfl

end Go.Proofs.Ytaagbnogbhegdaa
