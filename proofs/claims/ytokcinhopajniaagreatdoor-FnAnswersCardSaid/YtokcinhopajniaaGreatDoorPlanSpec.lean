/-
  Contracts of chapter 5: the model's PlanOk and FullIn.
-/
import Derived.Test.YtokcinhopajniaaGreatDoorSpecArena
import Derived.Test.YtokcinhopajniaaGreatDoorBase1
namespace Go.Proofs.YtokcinhopajniaaGreatDoor
open Go.RowKit

/-- What a plan says of one vertex. -/
def PlanV (O : List Int) (zss : List (List Int)) (who : Int) (P : List Int) (v : Nat) : Prop := nth P v = -1 ∨ (nth O v = who ∧ nth P v ∈ row zss v)
/-- A plan of who, over a valid arena. -/
def PlanP (O : List Int) (zss : List (List Int)) (who : Int) (P : List Int) : Prop := P.length = O.length ∧ ∀ v, v < P.length → PlanV O zss who P v
noncomputable def planC (O : List Int) (zss : List (List Int)) (who : Int) (P : List Int) : Bool := @decide (PlanP O zss who P) (Classical.propDecidable _)
theorem planC_yes {O : List Int} {zss : List (List Int)} {who : Int} {P : List Int} (h : PlanP O zss who P) : planC O zss who P = true := by unfold planC; simp [h]
theorem planC_no {O : List Int} {zss : List (List Int)} {who : Int} {P : List Int} (h : ¬ PlanP O zss who P) : planC O zss who P = false := by unfold planC; simp [h]
/-- A valid arena, a player and a plan. -/
noncomputable def planB (O : List Int) (zss : List (List Int)) (who : Int) (P : List Int) : Bool := arenaB O zss && (inB who 0 1 && planC O zss who P)
theorem planB_iff {O : List Int} {zss : List (List Int)} {who : Int} {P : List Int} : planB O zss who P = true ↔ ArenaP O zss ∧ (0 ≤ who ∧ who ≤ 1) ∧ PlanP O zss who P := by
  unfold planB
  rw [Bool.and_eq_true, Bool.and_eq_true, arenaB_iff]
  unfold inB planC
  rw [decide_eq_true_eq, @decide_eq_true_eq _ (Classical.propDecidable _)]
/-- A full plan. -/
def FullP (O : List Int) (who : Int) (P : List Int) : Prop := ∀ v, v < P.length → nth O v = who → 0 ≤ nth P v
noncomputable def fullB (O : List Int) (zss : List (List Int)) (who : Int) (P : List Int) : Bool := planB O zss who P && @decide (FullP O who P) (Classical.propDecidable _)
theorem fullB_iff {O : List Int} {zss : List (List Int)} {who : Int} {P : List Int} : fullB O zss who P = true ↔ (ArenaP O zss ∧ (0 ≤ who ∧ who ≤ 1) ∧ PlanP O zss who P) ∧ FullP O who P := by
  unfold fullB
  rw [Bool.and_eq_true, planB_iff, @decide_eq_true_eq _ (Classical.propDecidable _)]

set_option maxHeartbeats 8000000 in
set_option maxRecDepth 100000 in
theorem l5Plan_is {w : World} {va : Value} {O P : List Int} {zss : List (List Int)} {who : Int} {aP : Option Addr} {r : Bool} (cP : Nat) (hr : planC O zss who P = r) (h : ArenaAt w va O zss) (hA : ArenaP O zss) (hP : IntsAt w aP P) :
    Calls Tryz.prog 124 #[va, .int .i64 who, .slice aP P.length cP] w fun e w' => e = .returned (.bool r) ∧ Below w.heap.size w w' := by
  obtain ⟨ao, an, co, cn, A, C, rfl, h1, h2⟩ := h
  have hlO := h1.len
  have hlP := hP.len
  have HOi := Lib.hid h1
  have HNi := Lib.hid h2
  have HPi := Lib.hid hP
  have HR := Lib.hid hr
  have HAP := Lib.hid hA
  obtain ⟨w1, hw1⟩ : ∃ y, y = w.alloc (.cells #[.slice ao O.length co, .slice an zss.length cn] 30) := ⟨_, rfl⟩
  have HW1 := Lib.hid hw1
  have B1 : Hid (Below w.heap.size w w1) := by rw [hw1]; exact below1 _ _
  have T1 : Hid (Box2 w1 w.heap.size 30 (.slice ao O.length co) (.slice an zss.length cn)) := by rw [hw1]; exact Box2.new _ _ _ _
  clear hw1 h1 h2 hP hr hA
  by_cases hl : P.length = O.length
  · have hne : ((P.length : Int) != (O.length : Int)) = false := by simp; omega
    have HL := Lib.hid hl
    have HZL : Hid (zss.length = P.length) := by have := HAP.out.2.2.1; unfold Hid; omega
    clear hl
    go_enter Tryz.func124, Tryz.ntmps124
    go_wp2
    rw [← HW1.out]
    go_loopw [7] (fun iv wr => ∃ k : Nat, k ≤ P.length ∧ iv = .int .i64 k ∧ Hid (∀ j, j < k → PlanV O zss who P j) ∧ Hid (Below w1.heap.size w1 wr)) (fun iv _ => P.length - (intOf iv).toNat)
    case atStart => exact ⟨0, Nat.zero_le _, rfl, fun j hj => absurd hj (Nat.not_lt_zero _), Below.refl _ _⟩
    case round =>
      obtain ⟨k, hk, rfl, HJ, HK⟩ := hrel
      by_cases hlt : k < P.length
      · have hi1 : (k : Int) < P.length := by omega
        have hi2 : (k : Int) < O.length := by have := HL.out; omega
        have hkz : k < zss.length := by have := HZL.out; omega
        have hko : k < O.length := by have := HL.out; omega
        have hi3 : (k : Int) < zss.length := by omega
        have hk0 : (0 : Int) ≤ (k : Int) := by omega
        have Bw := Lib.hid (B1.out.trans (HK.out.mono B1.out.size))
        obtain ⟨pb, po, hpa, hpc⟩ := (HPi.out.below Bw.out).cell (by omega)
        obtain ⟨ob, oo, hoa, hoc⟩ := (HOi.out.below Bw.out).cell (by omega)
        obtain ⟨nb, no, hna, hnc⟩ := (HNi.out.below Bw.out).cell (by omega)
        have p1 := hpc k hlt
        have o1 := hoc k (by omega)
        have n1 := hnc k (by omega)
        have HRw := Lib.hid ((HNi.out.below Bw.out).rows k (by omega))
        have Tw := Lib.hid (T1.out.below HK.out)
        have t0 := Tw.out.cell0
        have t1 := Tw.out.cell1
        obtain ⟨q, hq⟩ : ∃ q, q = nth P k := ⟨_, rfl⟩
        obtain ⟨o, ho⟩ : ∃ o, o = nth O k := ⟨_, rfl⟩
        have HQ := Lib.hid hq
        have HO := Lib.hid ho
        rw [← hq] at p1
        rw [← ho] at o1
        subst hpa
        subst hoa
        subst hna
        clear hpc hoc hnc hq ho
        by_cases e1 : q = -1
        · have hq1 : (q != -1) = false := by simpa using e1
          have HJn : Hid (∀ j, j < k + 1 → PlanV O zss who P j) := fun j hj => by
            by_cases e : j = k
            · subst e; exact .inl (by rw [← HQ.out]; exact e1)
            · exact HJ.out j (by omega)
          clear e1
          go_wp2
          go_quiet (fail)
          have hb3 : Below wr.heap.size wr (wr.drewN nq) := below_drewN (Below.refl _ _) nq
          have HKn := Lib.hid (HK.out.trans (hb3.mono HK.out.size))
          clear hb3 t0 t1 p1 o1 n1
          go_wp2
          go_roundw
          case rel => exact ⟨k + 1, by omega, by go_num, HJn, HKn⟩
          case measure => simp [intOf]; omega
        · have hq1 : (q != -1) = true := by simpa using e1
          by_cases e2 : o = who
          · have ho1 : (o != who) = false := by simpa using e2
            cases hh : hasB (row zss k) q with
            | true =>
              have HJn : Hid (∀ j, j < k + 1 → PlanV O zss who P j) := fun j hj => by
                by_cases e : j = k
                · subst e; exact .inr ⟨by rw [← HO.out]; exact e2, by rw [← HQ.out]; simpa [hasB] using hh⟩
                · exact HJ.out j (by omega)
              have HH : Hid (∀ m, Calls Tryz.prog 54 #[.slice (A k) (row zss k).length (C k), .int .i64 q] (wr.drewN m) fun e w' => e = .returned (.bool true) ∧ wr.drewN m = w') := fun m => l1Has_is hh (C k) (wr.drewN m) (HRw.out.same ⟨m, rfl⟩)
              clear e1 e2 hh
              go_wp2
              go_quiet ((go_at_call 54; exact quiet_eq (HH.out _)))
              have hb3 : Below wr.heap.size wr (wr.drewN nq) := below_drewN (Below.refl _ _) nq
              have HKn := Lib.hid (HK.out.trans (hb3.mono HK.out.size))
              clear hb3 t0 t1 p1 o1 n1
              go_wp2
              go_roundw
              case rel => exact ⟨k + 1, by omega, by go_num, HJn, HKn⟩
              case measure => simp [intOf]; omega
            | false =>
              have HE : Hid (r = false) := by
                rw [← HR.out]
                refine planC_no fun hp => ?_
                rcases hp.2 k hlt with h | h
                · exact e1 (by rw [HQ.out]; exact h)
                · rw [← HQ.out] at h; unfold hasB at hh; simp [h.2] at hh
              have HH : Hid (∀ m, Calls Tryz.prog 54 #[.slice (A k) (row zss k).length (C k), .int .i64 q] (wr.drewN m) fun e w' => e = .returned (.bool false) ∧ wr.drewN m = w') := fun m => l1Has_is hh (C k) (wr.drewN m) (HRw.out.same ⟨m, rfl⟩)
              clear e1 e2 hh
              go_wp2
              go_quiet ((go_at_call 54; exact quiet_eq (HH.out _)))
              clear t0 t1 p1 o1 n1
              go_wp2
              go_ret
              exact ⟨ret_bool HE.out.symm, below_drewN Bw.out nq⟩
          · have ho1 : (o != who) = true := by simpa using e2
            have HE : Hid (r = false) := by
              rw [← HR.out]
              refine planC_no fun hp => ?_
              rcases hp.2 k hlt with h | h
              · exact e1 (by rw [HQ.out]; exact h)
              · exact e2 (by rw [HO.out]; exact h.1)
            clear e1 e2
            go_wp2
            go_quiet (fail)
            clear t0 t1 p1 o1 n1
            go_wp2
            go_ret
            exact ⟨ret_bool HE.out.symm, below_drewN Bw.out nq⟩
      · have hi1 : ¬ (k : Int) < P.length := by omega
        have HE : Hid (r = true) := by
          rw [← HR.out]
          exact planC_yes ⟨HL.out, fun v hv => HJ.out v (by omega)⟩
        go_wp2
        go_ret
        exact ⟨ret_bool HE.out.symm, B1.out.trans (HK.out.mono B1.out.size)⟩
  · have hne : ((P.length : Int) != (O.length : Int)) = true := by simp; omega
    have HE : Hid (r = false) := by rw [← HR.out]; exact planC_no fun hp => hl hp.1
    clear hl
    go_enter Tryz.func124, Tryz.ntmps124
    go_wp2
    go_ret
    rw [← HW1.out]
    exact ⟨ret_bool HE.out.symm, B1.out⟩

set_option maxHeartbeats 4000000 in
set_option maxRecDepth 100000 in
theorem specPlanOk_is {w : World} {va : Value} {O P : List Int} {zss : List (List Int)} {who : Int} {aP : Option Addr} {r : Bool} (cP : Nat) (hr : planB O zss who P = r) (h : ArenaAt w va O zss) (hP : IntsAt w aP P) :
    Calls Tryz.prog 81 #[va, .int .i64 who, .slice aP P.length cP] w fun e w' => e = .returned (.bool r) ∧ Below w.heap.size w w' := by
  have HAt := Lib.hid h
  obtain ⟨ao, an, co, cn, A, C, rfl, h1, h2⟩ := h
  have hlP := hP.len
  have HPi := Lib.hid hP
  obtain ⟨w1, hw1⟩ : ∃ y, y = w.alloc (.cells #[.slice ao O.length co, .slice an zss.length cn] 30) := ⟨_, rfl⟩
  have HW1 := Lib.hid hw1
  have B1 : Hid (Below w.heap.size w w1) := by rw [hw1]; exact below1 _ _
  have T1 : Hid (Box2 w1 w.heap.size 30 (.slice ao O.length co) (.slice an zss.length cn)) := by rw [hw1]; exact Box2.new _ _ _ _
  clear hw1 h1 h2 hP
  cases hA : arenaB O zss with
  | false =>
    have HE : Hid (r = false) := by rw [← hr]; unfold planB; rw [hA]; rfl
    have HC := Lib.hid (specArenaOk_at hA (HAt.out.below B1.out))
    clear hr hA
    go_enter Tryz.func81, Tryz.ntmps81
    go_wp2_with fail
    rw [← HW1.out]
    refine HC.out.mono ?_
    rintro e w2 ⟨rfl, hb⟩
    have B2 := Lib.hid (B1.out.trans (hb.mono B1.out.size))
    clear hb HC
    go_wp2
    go_ret
    exact ⟨ret_bool HE.out.symm, B2.out⟩
  | true =>
    have HC := Lib.hid (specArenaOk_at hA (HAt.out.below B1.out))
    have HAP := Lib.hid (arenaB_iff.1 hA)
    cases hw : inB who 0 1 with
    | false =>
      have HE : Hid (r = false) := by rw [← hr]; unfold planB; rw [hA, hw]; rfl
      have HI := Lib.hid (fun W => l1In_is hw W)
      clear hr hA hw
      go_enter Tryz.func81, Tryz.ntmps81
      go_wp2_with fail
      rw [← HW1.out]
      refine HC.out.mono ?_
      rintro e w2 ⟨rfl, hb⟩
      have B2 := Lib.hid (B1.out.trans (hb.mono B1.out.size))
      clear hb HC
      go_wp2_with fail
      refine (HI.out _).mono ?_
      rintro e w3 ⟨rfl, rfl⟩
      go_wp2
      go_ret
      exact ⟨ret_bool HE.out.symm, B2.out⟩
    | true =>
      have HR : Hid (planC O zss who P = r) := by rw [← hr]; unfold planB; rw [hA, hw]; rfl
      have HI := Lib.hid (fun W => l1In_is hw W)
      clear hr hA hw
      go_enter Tryz.func81, Tryz.ntmps81
      go_wp2_with fail
      rw [← HW1.out]
      refine HC.out.mono ?_
      rintro e w2 ⟨rfl, hb⟩
      have B2 := Lib.hid (B1.out.trans (hb.mono B1.out.size))
      have T2 := Lib.hid (T1.out.below hb)
      have t0 := T2.out.cell0
      have t1 := T2.out.cell1
      clear hb HC
      go_wp2_with fail
      refine (HI.out _).mono ?_
      rintro e w3 ⟨rfl, rfl⟩
      go_wp2_with fail
      refine (l5Plan_is cP HR.out (HAt.out.below B2.out) HAP.out (HPi.out.below B2.out)).mono ?_
      rintro e w4 ⟨rfl, hb⟩
      have B4 := Lib.hid (B2.out.trans (hb.mono B2.out.size))
      clear hb t0 t1
      go_wp2
      go_ret
      exact ⟨rfl, B4.out⟩

set_option maxHeartbeats 4000000 in
set_option maxRecDepth 100000 in
theorem specFullIn_is {w : World} {va : Value} {O P : List Int} {zss : List (List Int)} {who : Int} {aP : Option Addr} {r : Bool} (cP : Nat) (hr : fullB O zss who P = r) (h : ArenaAt w va O zss) (hP : IntsAt w aP P) :
    Calls Tryz.prog 52 #[va, .int .i64 who, .slice aP P.length cP] w fun e w' => e = .returned (.bool r) ∧ Below w.heap.size w w' := by
  have HAt := Lib.hid h
  obtain ⟨ao, an, co, cn, A, C, rfl, h1, h2⟩ := h
  have hlP := hP.len
  have hlO := h1.len
  have HOi := Lib.hid h1
  have HPi := Lib.hid hP
  obtain ⟨w1, hw1⟩ : ∃ y, y = w.alloc (.cells #[.slice ao O.length co, .slice an zss.length cn] 30) := ⟨_, rfl⟩
  have HW1 := Lib.hid hw1
  have B1 : Hid (Below w.heap.size w w1) := by rw [hw1]; exact below1 _ _
  have T1 : Hid (Box2 w1 w.heap.size 30 (.slice ao O.length co) (.slice an zss.length cn)) := by rw [hw1]; exact Box2.new _ _ _ _
  clear hw1 h1 h2 hP
  cases hp : planB O zss who P with
  | false =>
    have HE : Hid (r = false) := by rw [← hr]; unfold fullB; rw [hp]; rfl
    have HC := Lib.hid (specPlanOk_is cP hp (HAt.out.below B1.out) (HPi.out.below B1.out))
    clear hr hp
    go_enter Tryz.func52, Tryz.ntmps52
    go_wp2_with fail
    rw [← HW1.out]
    refine HC.out.mono ?_
    rintro e w2 ⟨rfl, hb⟩
    have B2 := Lib.hid (B1.out.trans (hb.mono B1.out.size))
    clear hb HC
    go_wp2
    go_ret
    exact ⟨ret_bool HE.out.symm, B2.out⟩
  | true =>
    have HC := Lib.hid (specPlanOk_is cP hp (HAt.out.below B1.out) (HPi.out.below B1.out))
    have HL : Hid (P.length = O.length) := (planB_iff.1 hp).2.2.1
    have HF1 : Hid (FullP O who P → r = true) := fun hf => by rw [← hr]; exact fullB_iff.2 ⟨planB_iff.1 hp, hf⟩
    have HF0 : Hid (¬ FullP O who P → r = false) := fun hf => by
      rw [← hr]
      cases h : fullB O zss who P with
      | false => rfl
      | true => exact absurd (fullB_iff.1 h).2 hf
    clear hr hp
    go_enter Tryz.func52, Tryz.ntmps52
    go_wp2_with fail
    rw [← HW1.out]
    refine HC.out.mono ?_
    rintro e w2 ⟨rfl, hb⟩
    have B2 := Lib.hid (B1.out.trans (hb.mono B1.out.size))
    have T2 := Lib.hid (T1.out.below hb)
    clear hb HC
    go_wp2
    go_loopw [7] (fun iv wr => ∃ k : Nat, k ≤ P.length ∧ iv = .int .i64 k ∧ Hid (∀ j, j < k → nth O j = who → 0 ≤ nth P j) ∧ Hid (Below w2.heap.size w2 wr)) (fun iv _ => P.length - (intOf iv).toNat)
    case atStart => exact ⟨0, Nat.zero_le _, rfl, fun j hj => absurd hj (Nat.not_lt_zero _), Below.refl _ _⟩
    case round =>
      obtain ⟨k, hk, rfl, HJ, HK⟩ := hrel
      have Bw := Lib.hid (B2.out.trans (HK.out.mono B2.out.size))
      by_cases hlt : k < P.length
      · have hi1 : (k : Int) < P.length := by omega
        have hko : k < O.length := by have := HL.out; omega
        have hi2 : (k : Int) < O.length := by omega
        have hk0 : (0 : Int) ≤ (k : Int) := by omega
        obtain ⟨pb, po, hpa, hpc⟩ := (HPi.out.below Bw.out).cell (by omega)
        obtain ⟨ob, oo, hoa, hoc⟩ := (HOi.out.below Bw.out).cell (by omega)
        have p1 := hpc k hlt
        have o1 := hoc k hko
        have t0 := (T2.out.below HK.out).cell0
        obtain ⟨q, hq⟩ : ∃ q, q = nth P k := ⟨_, rfl⟩
        obtain ⟨o, ho⟩ : ∃ o, o = nth O k := ⟨_, rfl⟩
        have HQ := Lib.hid hq
        have HO := Lib.hid ho
        rw [← hq] at p1
        rw [← ho] at o1
        subst hpa
        subst hoa
        clear hpc hoc hq ho
        by_cases e2 : o = who
        · have ho1 : (o == who) = true := by simpa using e2
          by_cases e3 : q < 0
          · have HE : Hid (r = false) := HF0.out fun hf => by
              have := hf k hlt (by rw [← HO.out]; exact e2)
              rw [← HQ.out] at this; omega
            clear e2
            go_wp2
            go_ret
            exact ⟨ret_bool HE.out.symm, Bw.out⟩
          · have HJn : Hid (∀ j, j < k + 1 → nth O j = who → 0 ≤ nth P j) := fun j hj h => by
              by_cases e : j = k
              · subst e; rw [← HQ.out]; omega
              · exact HJ.out j (by omega) h
            clear e2
            go_wp2
            go_roundw
            case rel => exact ⟨k + 1, by omega, by go_num, HJn, HK⟩
            case measure => simp [intOf]; omega
        · have ho1 : (o == who) = false := beq_eq_false_iff_ne.2 e2
          have HJn : Hid (∀ j, j < k + 1 → nth O j = who → 0 ≤ nth P j) := fun j hj h => by
            by_cases e : j = k
            · subst e; exact absurd (by rw [HO.out]; exact h) e2
            · exact HJ.out j (by omega) h
          clear e2
          go_wp2
          go_roundw
          case rel => exact ⟨k + 1, by omega, by go_num, HJn, HK⟩
          case measure => simp [intOf]; omega
      · have hi1 : ¬ (k : Int) < P.length := by omega
        have HE : Hid (r = true) := HF1.out fun v hv h => HJ.out v (by omega) h
        go_wp2
        go_ret
        exact ⟨ret_bool HE.out.symm, Bw.out⟩

end Go.Proofs.YtokcinhopajniaaGreatDoor
