/-
  Contracts of chapter 5: the program's PlanOk and FullIn.
-/
import Derived.Test.YtokcinhopajniaaGreatDoorPlanSpec
import Derived.Test.YtokcinhopajniaaGreatDoorTrap1
namespace Go.Proofs.YtokcinhopajniaaGreatDoor
open Go.RowKit

theorem askB_none {O : List Int} {zss : List (List Int)} {who : Int} : askB O zss who [] = (arenaB O zss && inB who 0 1) := by simp [askB]
theorem asked_none {w : World} {va : Value} {O : List Int} {zss : List (List Int)} {n0 : Int} {r : Bool} (hr : (arenaB O zss && inB n0 0 1) = r) (h : ArenaAt w va O zss) :
    Calls Tryz.prog 96 #[va, .int .i64 n0, .slice none 0 0] w fun e w' => e = .returned (.bool r) ∧ Below w.heap.size w w' :=
  isAsked_is (Ss := []) (A := fun _ => none) (C := fun _ => 0) (by rw [askB_none]; exact hr) 0 h ⟨by simp, fun h => absurd h (by simp), fun k hk => absurd hk (by simp)⟩

set_option maxHeartbeats 8000000 in
set_option maxRecDepth 100000 in
theorem PlanOk_is {w : World} {va : Value} {O P : List Int} {zss : List (List Int)} {who : Int} {aP : Option Addr} {r : Bool} (cP : Nat) (hr : planB O zss who P = r) (h : ArenaAt w va O zss) (hP : IntsAt w aP P) :
    Calls Tryz.prog 97 #[va, .int .i64 who, .slice aP P.length cP] w fun e w' => e = .returned (.bool r) ∧ Below w.heap.size w w' := by
  have HAt := Lib.hid h
  obtain ⟨ao, an, co, cn, A, C, rfl, h1, h2⟩ := h
  have hlO := h1.len
  have hlP := hP.len
  have HOi := Lib.hid h1
  have HPi := Lib.hid hP
  have BW := Lib.hid (below1 w (.cells #[.slice ao O.length co, .slice an zss.length cn] 30))
  have bW := Lib.hid (Box2.new w 30 (.slice ao O.length co) (.slice an zss.length cn))
  clear h1 h2 hP
  obtain ⟨b, hb⟩ : ∃ b, (arenaB O zss && inB who 0 1) = b := ⟨_, rfl⟩
  have HC := Lib.hid (asked_none hb (HAt.out.below BW.out))
  cases b with
  | false =>
    have HE : Hid (r = false) := by rw [← hr]; unfold planB; rw [← Bool.and_assoc, hb]; rfl
    clear hr hb
    go_enter Tryz.func97, Tryz.ntmps97
    go_wp2_with fail
    refine HC.out.mono ?_
    rintro e w1 ⟨rfl, hb⟩
    have B1 := Lib.hid (BW.out.trans (hb.mono BW.out.size))
    clear hb
    go_wp2
    go_ret
    exact ⟨ret_bool HE.out.symm, B1.out⟩
  | true =>
    have HR : Hid (planC O zss who P = r) := by rw [← hr]; unfold planB; rw [← Bool.and_assoc, hb]; rfl
    have HAP : Hid (ArenaP O zss) := arenaB_iff.1 (by
      cases hA : arenaB O zss with
      | true => rfl
      | false => rw [hA] at hb; exact absurd hb (by simp))
    clear hr hb
    by_cases hl : P.length = O.length
    · have hne : ((P.length : Int) != (O.length : Int)) = false := by simp; omega
      have HL := Lib.hid hl
      have HZL : Hid (zss.length = P.length) := by have := HAP.out.2.2.1; unfold Hid; omega
      clear hl
      go_enter Tryz.func97, Tryz.ntmps97
      go_wp2_with fail
      refine HC.out.mono ?_
      rintro e w1 ⟨rfl, hb⟩
      have B1 := Lib.hid (BW.out.trans (hb.mono BW.out.size))
      have hb' : Below (w.alloc (.cells #[.slice ao O.length co, .slice an zss.length cn] 30)).heap.size (w.alloc (.cells #[.slice ao O.length co, .slice an zss.length cn] 30)) w1 := hb
      have T1 := Lib.hid (bW.out.below hb')
      have c0 := T1.out.cell0
      clear hb hb'
      go_wp2
      clear c0
      go_loopw [23] (fun iv wr => ∃ k : Nat, k ≤ P.length ∧ iv = .int .i64 k ∧ Hid (∀ j, j < k → PlanV O zss who P j) ∧ Hid (Below w1.heap.size w1 wr)) (fun iv _ => P.length - (intOf iv).toNat)
      case atStart => exact ⟨0, Nat.zero_le _, rfl, fun j hj => absurd hj (Nat.not_lt_zero _), Below.refl _ _⟩
      case round =>
        obtain ⟨k, hk, rfl, HJ, HK⟩ := hrel
        by_cases hlt : k < P.length
        · have hi1 : (k : Int) < P.length := by omega
          have hi2 : (k : Int) < O.length := by have := HL.out; omega
          have hkz : k < zss.length := by have := HZL.out; omega
          have hko : k < O.length := by have := HL.out; omega
          have hk0 : (0 : Int) ≤ (k : Int) := by omega
          have Bw := Lib.hid (B1.out.trans (HK.out.mono B1.out.size))
          obtain ⟨pb, po, hpa, hpc⟩ := (HPi.out.below Bw.out).cell (by omega)
          obtain ⟨ob, oo, hoa, hoc⟩ := (HOi.out.below Bw.out).cell (by omega)
          have p1 := hpc k hlt
          have o1 := hoc k (by omega)
          have Tw := Lib.hid (T1.out.below HK.out)
          have t0 := Tw.out.cell0
          have t1 := Tw.out.cell1
          obtain ⟨q, hq⟩ : ∃ q, q = nth P k := ⟨_, rfl⟩
          obtain ⟨o, ho⟩ : ∃ o, o = nth O k := ⟨_, rfl⟩
          have HQ := Lib.hid hq
          have HO := Lib.hid ho
          rw [← hq] at p1
          rw [← ho] at o1
          subst hpa
          subst hoa
          clear hpc hoc hq ho
          by_cases e1 : q = -1
          · have hq1 : (q != -1) = false := by simpa using e1
            have HJn : Hid (∀ j, j < k + 1 → PlanV O zss who P j) := fun j hj => by
              by_cases e : j = k
              · subst e; exact .inl (by rw [← HQ.out]; exact e1)
              · exact HJ.out j (by omega)
            clear e1
            go_wp2
            go_roundw
            case rel => exact ⟨k + 1, by omega, by go_num, HJn, HK⟩
            case measure => simp [intOf]; omega
          · have hq1 : (q != -1) = true := by simpa using e1
            by_cases e2 : o = who
            · have ho1 : (o != who) = false := by simpa using e2
              cases hh : hasB (row zss k) q with
              | true =>
                have HJn : Hid (∀ j, j < k + 1 → PlanV O zss who P j) := fun j hj => by
                  by_cases e : j = k
                  · subst e; exact .inr ⟨by rw [← HO.out]; exact e2, by rw [← HQ.out]; simpa [hasB] using hh⟩
                  · exact HJ.out j (by omega)
                have HH := Lib.hid (leads_is hh hkz (HAt.out.below Bw.out))
                clear e1 e2 hh
                go_wp2_with fail
                refine HH.out.mono ?_
                rintro e w2 ⟨rfl, hb⟩
                have HKn := Lib.hid (HK.out.trans (hb.mono HK.out.size))
                clear hb t0 t1 p1 o1
                go_wp2
                go_roundw
                case rel => exact ⟨k + 1, by omega, by go_num, HJn, HKn⟩
                case measure => simp [intOf]; omega
              | false =>
                have HE : Hid (r = false) := by
                  rw [← HR.out]
                  refine planC_no fun hp => ?_
                  rcases hp.2 k hlt with h | h
                  · exact e1 (by rw [HQ.out]; exact h)
                  · rw [← HQ.out] at h; unfold hasB at hh; simp [h.2] at hh
                have HH := Lib.hid (leads_is hh hkz (HAt.out.below Bw.out))
                clear e1 e2 hh
                go_wp2_with fail
                refine HH.out.mono ?_
                rintro e w2 ⟨rfl, hb⟩
                have B2 := Lib.hid (Bw.out.trans (hb.mono Bw.out.size))
                clear hb t0 t1 p1 o1
                go_wp2
                go_ret
                exact ⟨ret_bool HE.out.symm, B2.out⟩
            · have ho1 : (o != who) = true := by simpa using e2
              have HE : Hid (r = false) := by
                rw [← HR.out]
                refine planC_no fun hp => ?_
                rcases hp.2 k hlt with h | h
                · exact e1 (by rw [HQ.out]; exact h)
                · exact e2 (by rw [HO.out]; exact h.1)
              clear e1 e2
              go_wp2
              go_ret
              exact ⟨ret_bool HE.out.symm, Bw.out⟩
        · have hi1 : ¬ (k : Int) < P.length := by omega
          have HE : Hid (r = true) := by
            rw [← HR.out]
            exact planC_yes ⟨HL.out, fun v hv => HJ.out v (by omega)⟩
          go_wp2
          go_ret
          exact ⟨ret_bool HE.out.symm, B1.out.trans (HK.out.mono B1.out.size)⟩
    · have hne : ((P.length : Int) != (O.length : Int)) = true := by simp; omega
      have HE : Hid (r = false) := by rw [← HR.out]; exact planC_no fun hp => hl hp.1
      clear hl
      go_enter Tryz.func97, Tryz.ntmps97
      go_wp2_with fail
      refine HC.out.mono ?_
      rintro e w1 ⟨rfl, hb⟩
      have B1 := Lib.hid (BW.out.trans (hb.mono BW.out.size))
      have T1 := Lib.hid (bW.out.below hb)
      have c0 := T1.out.cell0
      clear hb
      go_wp2
      go_ret
      exact ⟨ret_bool HE.out.symm, B1.out⟩

end Go.Proofs.YtokcinhopajniaaGreatDoor
