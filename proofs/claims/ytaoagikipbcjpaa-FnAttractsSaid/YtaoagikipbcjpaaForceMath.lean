/-
  What FnAttracts asks of an attractor. No program text.
-/
import Derived.Test.YtaoagikipbcjpaaRanksMath
import Derived.Test.YtaoagikipbcjpaaZielonka
import Derived.Test.YtaoagikipbcjpaaTrapSpec
import Derived.Test.YtaoagikipbcjpaaDiceSet
import Derived.Test.YtaoagikipbcjpaaAll
namespace Go.Proofs.Ytaoagikipbcjpaa
open Go.RowKit

section
variable {zss : List (List Int)} {O : List Int} {who : Int} {I G : Nat → Bool}

theorem staysF_yes {own : Bool} {J : Nat → Bool} : ∀ (us : List Int) (s : Bool), (own = true → ∀ u ∈ us, J u.toNat = true) → (s = true ∨ ∃ u ∈ us, J u.toNat = true) → staysF own J s us = true
  | [], s, _, h => by
    rcases h with h | ⟨u, hu, _⟩
    · rw [staysF]; exact h
    · cases hu
  | u :: us, s, ho, h => by
    rw [staysF, if_neg (fun hh => by have := ho hh.2 u (by simp); rw [hh.1] at this; cases this)]
    refine staysF_yes us _ (fun hw x hx => ho hw x (by simp [hx])) ?_
    rcases h with h | ⟨x, hx, hJ⟩
    · exact .inl (by simp [h])
    · rcases List.mem_cons.1 hx with rfl | hx
      · exact .inl (by simp [hJ])
      · exact .inr ⟨x, hx, hJ⟩
end

theorem upL_mem {n : Nat} {x : Int} : x ∈ upL n ↔ 0 ≤ x ∧ x < n := by
  unfold upL
  rw [List.mem_map]
  constructor
  · rintro ⟨i, hi, rfl⟩
    have := List.mem_range.1 hi
    simp; omega
  · rintro ⟨h0, h1⟩
    exact ⟨x.toNat, List.mem_range.2 (by omega), by simp; omega⟩
theorem upL_length (n : Nat) : (upL n).length = n := by simp [upL]
theorem upL_upTo (n : Nat) : UpTo n (upL n) := ⟨by
  induction n with
  | zero => simp [upL]
  | succ k ih =>
    rw [upL_succ, List.pairwise_append]
    exact ⟨ih, by simp, fun x hx y hy => by
      have := upL_mem.1 hx
      have : y = (k : Int) := by simpa using hy
      omega⟩, fun x hx => upL_mem.1 hx⟩
theorem upL_open {n v : Nat} (h : v < n) : openS (upL n) (upL n).length v = true := by
  unfold openS
  rw [List.take_length, decide_eq_true_eq]
  exact upL_mem.2 ⟨by omega, by omega⟩

variable {O : List Int} {zss : List (List Int)} {who : Int} {G : List Int}

/-- What the law asks, of ranks F and a plan P: S is the attractor, R the rest. -/
structure ForceP (O : List Int) (zss : List (List Int)) (who : Int) (G : List Int) (F P : Nat → Int) (S R : List Int) : Prop where
  s : attractL O zss who (upL O.length) G = S
  p : pullL O zss who (upL O.length) G = fnL O.length P
  mem : ∀ x ∈ S, ∃ v : Nat, x = v ∧ v < O.length ∧ 0 ≤ F v
  len : S.length ≤ O.length
  top : ∀ v, F v ≤ O.length
  goal : ∀ v, v < O.length → 0 ≤ F v → hasIn G (v : Int) = decide (F v = 0)
  own : ∀ v, v < O.length → 0 < F v → nth O v = who → ∃ y : Nat, P v = y ∧ y < O.length ∧ F y = F v - 1
  opp : ∀ v, v < O.length → 0 < F v → nth O v ≠ who → ∀ u ∈ row zss v, ∃ y : Nat, u = y ∧ y < O.length ∧ 0 ≤ F y ∧ F y < F v
  r : lessL (upL O.length) S = R
  trap : trapB O zss who R = true
  esc : escapesL O zss who R = []

set_option maxHeartbeats 1000000 in
theorem force_is (hP : ArenaP O zss) (hw : who = 0 ∨ who = 1) (hG : UpTo O.length G) : ∃ F P S R, ForceP O zss who G F P S R := by
  have hn := hP.2.2.1
  have hO := hP.2.1
  have hin := arena_nats hP
  have hgs : setB O.length G = true := setFrom_rank G (-1) hG.1 fun x hx => by have := hG.2 x hx; omega
  have hus : setB O.length (upL O.length) = true := setFrom_rank _ (-1) (upL_upTo _).1 fun x hx => by have := (upL_upTo _).2 x hx; omega
  have hwB : inB who 0 1 = true := inB_yes (by omega) (by omega)
  have hok : ∀ T, setB O.length T = true → okB O zss who T = true := fun T hT => by unfold okB; rw [arenaB_yes hP, hwB, hT]; rfl
  have hbo : bothB O zss who (upL O.length) G = true := by unfold bothB; rw [hok _ hus, hok _ hgs]; rfl
  have hR := ranks_are hbo
  have hb : ∀ v, ranksF O zss who (upL O.length) G v ≤ O.length := fun v => by
    have := (rkK_bound (zss := zss) (O := O) (who := who) (I := openS (upL O.length) (upL O.length).length) (G := openS G G.length) zss.length v).2
    unfold ranksF; omega
  have hS256 : setB 256 (markedK (fun v => decide (0 ≤ ranksF O zss who (upL O.length) G v)) zss.length) = true := by
    refine setFrom_rank _ (-1) (markedK_rising _ _) fun x hx => ?_
    obtain ⟨u, rfl, hu, _⟩ := (markedK_mem _ _ _).1 hx
    omega
  have hu256 : setB 256 (upL O.length) = true := setFrom_rank _ (-1) (upL_upTo _).1 fun x hx => by have := (upL_upTo _).2 x hx; omega
  have hg256 : setB 256 G = true := setFrom_rank G (-1) hG.1 fun x hx => by have := hG.2 x hx; omega
  have hless : lessL (upL O.length) (markedK (fun v => decide (0 ≤ ranksF O zss who (upL O.length) G v)) zss.length) = (upL O.length).filter (outT (markedK (fun v => decide (0 ≤ ranksF O zss who (upL O.length) G v)) zss.length)) := by
    unfold lessL bothOk; rw [hu256, hS256]; rfl
  have hmR : ∀ x, x ∈ (upL O.length).filter (outT (markedK (fun v => decide (0 ≤ ranksF O zss who (upL O.length) G v)) zss.length)) ↔ ∃ v : Nat, x = v ∧ v < O.length ∧ ranksF O zss who (upL O.length) G v < 0 := fun x => by
    rw [List.mem_filter, upL_mem]
    constructor
    · rintro ⟨⟨h0, h1⟩, h2⟩
      refine ⟨x.toNat, by omega, by omega, ?_⟩
      apply Classical.byContradiction
      intro hh
      have hm : x ∈ markedK (fun v => decide (0 ≤ ranksF O zss who (upL O.length) G v)) zss.length := (markedK_mem _ _ _).2 ⟨x.toNat, by omega, by omega, decide_eq_true (by omega)⟩
      rw [← hasB_iff] at hm
      unfold outT at h2
      rw [hm] at h2
      cases h2
    · rintro ⟨v, rfl, hv, hF⟩
      refine ⟨⟨by omega, by omega⟩, ?_⟩
      unfold outT
      cases hh : hasB (markedK (fun v => decide (0 ≤ ranksF O zss who (upL O.length) G v)) zss.length) (v : Int) with
      | false => rfl
      | true =>
        obtain ⟨u, hu, _, h3⟩ := (markedK_mem _ _ _).1 (hasB_iff.1 hh)
        have : u = v := by omega
        subst this
        have := of_decide_eq_true h3
        omega
  have hstop := rkK_stop (zss := zss) (O := O) (who := who) (I := openS (upL O.length) (upL O.length).length) (G := openS G G.length) hin
  have hRset : setB O.length ((upL O.length).filter (outT (markedK (fun v => decide (0 ≤ ranksF O zss who (upL O.length) G v)) zss.length))) = true :=
    setFrom_rank _ (-1) ((upL_upTo _).1.filter _) fun x hx => by have := (upL_upTo _).2 x (List.mem_filter.1 hx).1; omega
  have hesc : escapesL O zss who ((upL O.length).filter (outT (markedK (fun v => decide (0 ≤ ranksF O zss who (upL O.length) G v)) zss.length))) = [] := by
    unfold escapesL
    rw [if_pos (hok _ hRset), List.filter_eq_nil_iff]
    intro x hx
    obtain ⟨v, rfl, hv, hF⟩ := (hmR _).1 hx
    have hI : openS (upL O.length) (upL O.length).length v = true := upL_open hv
    have hno : ¬ CanP (ownB O who v) (fun x => openS (upL O.length) (upL O.length).length x = true) (fun x => 0 ≤ rkK zss O who (openS (upL O.length) (upL O.length).length) (openS G G.length) zss.length x) (row zss v) := fun hc => by
      have h1 := hstop v (by omega)
      rw [rkK, if_neg (by unfold ranksF at hF; omega), if_pos ⟨hI, hc⟩] at h1
      unfold ranksF at hF
      omega
    have hJ : ∀ u : Nat, u < O.length → ranksF O zss who (upL O.length) G u < 0 → openS ((upL O.length).filter (outT (markedK (fun v => decide (0 ≤ ranksF O zss who (upL O.length) G v)) zss.length))) ((upL O.length).filter (outT (markedK (fun v => decide (0 ≤ ranksF O zss who (upL O.length) G v)) zss.length))).length u = true := fun u hu hr => by
      unfold openS
      rw [List.take_length, decide_eq_true_eq]
      exact (hmR _).2 ⟨u, rfl, hu, hr⟩
    have hrow := (hP.2.2.2 v hv).2.1
    obtain ⟨x0, hx0⟩ : ∃ x0, x0 ∈ row zss v := ⟨_, nth_mem (k := 0) (by omega)⟩
    have hst : staysF (ownB O who v) (openS ((upL O.length).filter (outT (markedK (fun v => decide (0 ≤ ranksF O zss who (upL O.length) G v)) zss.length))) ((upL O.length).filter (outT (markedK (fun v => decide (0 ≤ ranksF O zss who (upL O.length) G v)) zss.length))).length) false (row zss v) = true := by
      unfold CanP at hno
      by_cases ho : ownB O who v = true
      · rw [if_pos ho] at hno
        have hall : ∀ u ∈ row zss v, openS ((upL O.length).filter (outT (markedK (fun v => decide (0 ≤ ranksF O zss who (upL O.length) G v)) zss.length))) ((upL O.length).filter (outT (markedK (fun v => decide (0 ≤ ranksF O zss who (upL O.length) G v)) zss.length))).length u.toNat = true := fun u hu => by
          obtain ⟨y, rfl, hy⟩ := hin v (by omega) u hu
          refine hJ _ (by omega) ?_
          apply Classical.byContradiction
          intro hh
          exact hno ⟨_, hu, upL_open (by omega), by unfold ranksF at hh; omega⟩
        exact staysF_yes _ _ (fun _ => hall) (.inr ⟨x0, hx0, hall x0 hx0⟩)
      · rw [if_neg ho] at hno
        refine staysF_yes _ _ (fun h => absurd h ho) (.inr ?_)
        apply Classical.byContradiction
        intro hh
        refine hno ⟨?_, fun u hu _ => ?_⟩
        · obtain ⟨y, hy, hyn⟩ := hin v (by omega) x0 hx0
          exact ⟨x0, hx0, upL_open (by omega)⟩
        · obtain ⟨y, rfl, hy⟩ := hin v (by omega) u hu
          apply Classical.byContradiction
          intro hr
          exact hh ⟨_, hu, hJ _ (by omega) (by unfold ranksF; omega)⟩
    unfold escB
    rw [Int.toNat_natCast, hst]
    simp
  refine ⟨ranksF O zss who (upL O.length) G, pullV O zss who (upL O.length) G, _, _, ⟨by unfold attractL; rw [if_pos hbo], by unfold pullL; rw [if_pos hbo, hn], fun x hx => ?_, ?_, hb, fun v hv h0 => ?_, fun v hv h0 ho => ?_, fun v hv h0 ho u hu => ?_, hless, ?_, hesc⟩⟩
  · obtain ⟨v, h1, h2, h3⟩ := (markedK_mem _ _ _).1 hx
    exact ⟨v, h1, by omega, of_decide_eq_true h3⟩
  · have := markedK_len (fun v => decide (0 ≤ ranksF O zss who (upL O.length) G v)) zss.length
    omega
  · unfold hasIn
    rw [hg256, Bool.true_and, Bool.eq_iff_iff, hasB_iff, decide_eq_true_eq]
    constructor
    · intro hm
      have h00 : rkK zss O who (openS (upL O.length) (upL O.length).length) (openS G G.length) 0 v = 0 := by
        rw [rkK, if_pos ⟨upL_open hv, by unfold openS; rw [List.take_length]; exact decide_eq_true hm⟩]
      have := rkK_more (zss := zss) (O := O) (who := who) (I := openS (upL O.length) (upL O.length).length) (G := openS G G.length) (k := 0) (u := v) (by omega) zss.length
      rw [Nat.zero_add] at this
      unfold ranksF; omega
    · intro hz
      obtain ⟨_, h2, _⟩ := rkK_at (m := 0) hz
      rw [rkK] at h2
      split at h2
      · next hc =>
        have := hc.2
        unfold openS at this
        rw [List.take_length] at this
        exact of_decide_eq_true this
      · omega
  · have hp : 0 ≤ pullV O zss who (upL O.length) G v := by
      apply Classical.byContradiction
      intro hh
      exact hR.none v hv (by omega) h0 ho
    obtain ⟨y, h1, h2, h3, _⟩ := hR.pull v hv hp
    exact ⟨y, h1, h2, h3⟩
  · obtain ⟨y, rfl, hy⟩ := hin v (by omega) u hu
    obtain ⟨j, hj⟩ : ∃ j : Nat, ranksF O zss who (upL O.length) G v = ((j + 1 : Nat) : Int) := ⟨(ranksF O zss who (upL O.length) G v - 1).toNat, by omega⟩
    obtain ⟨h1, h2, h3⟩ := rkK_at hj
    have h4 := h3 j (by omega)
    have hoB : ownB O who v = false := by unfold ownB; exact decide_eq_false ho
    have hc : CanP (ownB O who v) (fun x => openS (upL O.length) (upL O.length).length x = true) (fun x => 0 ≤ rkK zss O who (openS (upL O.length) (upL O.length).length) (openS G G.length) j x) (row zss v) := by
      apply Classical.byContradiction
      intro hh
      rw [rkK, if_neg (by omega), if_neg (fun hhh => hh hhh.2)] at h2
      omega
    unfold CanP at hc
    rw [hoB, if_neg (by decide)] at hc
    have h5 := hc.2 _ hu (upL_open (by omega))
    rw [Int.toNat_natCast] at h5
    have h6 := rkK_more h5 (zss.length - j)
    rw [show j + (zss.length - j) = zss.length by omega] at h6
    have h7 := (rkK_bound (zss := zss) (O := O) (who := who) (I := openS (upL O.length) (upL O.length).length) (G := openS G G.length) j y).2
    refine ⟨y, rfl, by omega, ?_, ?_⟩
    · unfold ranksF; rw [h6]; exact h5
    · rw [hj]; unfold ranksF; rw [h6]; omega
  · unfold trapB
    rw [hok _ hRset, hesc]; rfl

end Go.Proofs.Ytaoagikipbcjpaa
