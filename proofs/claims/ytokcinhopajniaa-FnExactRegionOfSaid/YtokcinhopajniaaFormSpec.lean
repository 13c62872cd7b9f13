/-
  Contracts of chapter 6: the model's l6Form, PartOf.
-/
import Derived.Test.YtokcinhopajniaaAnswerSpec
import Derived.Test.YtokcinhopajniaaPlanSpec
namespace Go.Proofs.Ytokcinhopajniaa
open Go.RowKit

/-- What the form of an answer asks of one vertex. -/
def FormV (O : List Int) (zss : List (List Int)) (X Y : List Int) (v : Nat) : Prop :=
  (0 ≤ nth X v ∧ nth X v ≤ 1) ∧ (nth X v = nth O v ↔ nth Y v ≠ -1) ∧ (nth X v = nth O v → nth Y v ∈ row zss v)
def FormP (O : List Int) (zss : List (List Int)) (P X Y : List Int) : Prop := X.length = P.length ∧ Y.length = P.length ∧ ∀ v, v < X.length → FormV O zss X Y v
noncomputable def formB (O : List Int) (zss : List (List Int)) (P X Y : List Int) : Bool := parityB O zss P && @decide (FormP O zss P X Y) (Classical.propDecidable _)
theorem formB_iff {O P X Y : List Int} {zss : List (List Int)} : formB O zss P X Y = true ↔ parityB O zss P = true ∧ FormP O zss P X Y := by
  unfold formB; rw [Bool.and_eq_true, @decide_eq_true_eq _ (Classical.propDecidable _)]
theorem formB_no {O P X Y : List Int} {zss : List (List Int)} (h : ¬ FormP O zss P X Y) : formB O zss P X Y = false := by
  cases hf : formB O zss P X Y with
  | false => rfl
  | true => exact absurd (formB_iff.1 hf).2 h

set_option maxHeartbeats 8000000 in
set_option maxRecDepth 100000 in
theorem l6Form_is {w : World} {v vl : Value} {O P X Y : List Int} {zss : List (List Int)} {r : Bool} (hr : formB O zss P X Y = r) (h : GameAt w v O zss P) (ha : LassoAt w vl X Y) :
    Calls Try.prog 23 #[v, vl] w fun e w' => e = .returned (.bool r) ∧ Below w.heap.size w w' := by
  have HGm := Lib.hid h
  obtain ⟨ao, an, ap, co, cn, cp, A, C, rfl, h1, h2, h3⟩ := h
  obtain ⟨ax, ay, cx, cy, rfl, hX, hY⟩ := ha
  have hlP := h3.len
  have hlX := hX.len
  have hlY := hY.len
  have HOi := Lib.hid h1
  have HNi := Lib.hid h2
  have HXi := Lib.hid hX
  have HYi := Lib.hid hY
  obtain ⟨w1, hw1⟩ : ∃ y, y = (w.alloc (.cells #[.slice ao O.length co, .slice an zss.length cn, .slice ap P.length cp] 43)).alloc (.cells #[.slice ax X.length cx, .slice ay Y.length cy] 27) := ⟨_, rfl⟩
  have HW1 := Lib.hid hw1
  have B1 : Hid (Below w.heap.size w w1) := by rw [hw1]; exact below2 _ _ _
  have T1 : Hid (Box3 w1 w.heap.size 43 (.slice ao O.length co) (.slice an zss.length cn) (.slice ap P.length cp)) := by
    rw [hw1]; exact (Box3.new w 43 (.slice ao O.length co) (.slice an zss.length cn) (.slice ap P.length cp)).below (below1 _ _)
  have R1 : Hid (Box2 w1 (w.heap.size + 1) 27 (.slice ax X.length cx) (.slice ay Y.length cy)) := by rw [hw1]; exact Box2.new_at (by simp) _ _ _
  clear hw1 h1 h2 h3 hX hY
  cases hp : parityB O zss P with
  | false =>
    have HE : Hid (r = false) := by rw [← hr]; unfold formB; rw [hp]; rfl
    have HC := Lib.hid (specParityOk_is hp (HGm.out.below B1.out))
    clear hr hp
    go_enter Try.func23, Try.ntmps23
    go_wp2_with fail
    rw [← HW1.out]
    refine HC.out.mono ?_
    rintro e w2 ⟨rfl, hb⟩
    have B2 := Lib.hid (B1.out.trans (hb.mono B1.out.size))
    clear hb HC
    go_wp2
    go_ret
    exact ⟨ret_bool HE.out.symm, B2.out⟩
  | true =>
    have HC := Lib.hid (specParityOk_is hp (HGm.out.below B1.out))
    have HPA := Lib.hid (parityB_iff.1 hp)
    have HRN : Hid (¬ FormP O zss P X Y → r = false) := fun h => by rw [← hr]; exact formB_no h
    have HRY : Hid (FormP O zss P X Y → r = true) := fun h => by rw [← hr]; exact formB_iff.2 ⟨hp, h⟩
    clear hr hp
    by_cases hx : X.length = P.length
    · have hx1 : ((X.length : Int) != (P.length : Int)) = false := by simp; omega
      by_cases hy : Y.length = P.length
      · have hy1 : ((Y.length : Int) != (P.length : Int)) = false := by simp; omega
        have HXL := Lib.hid hx
        have HYL := Lib.hid hy
        have HOL : Hid (O.length = P.length) := HPA.out.2.1.symm
        have HZL : Hid (zss.length = P.length) := by have := HPA.out.1.2.2.1; have := HPA.out.2.1; unfold Hid; omega
        clear hx hy
        go_enter Try.func23, Try.ntmps23
        go_wp2_with fail
        rw [← HW1.out]
        refine HC.out.mono ?_
        rintro e w2 ⟨rfl, hb⟩
        have B2 := Lib.hid (B1.out.trans (hb.mono B1.out.size))
        have T2 := Lib.hid (T1.out.below hb)
        have R2 := Lib.hid (R1.out.below hb)
        have t2 := T2.out.c2
        have r0 := R2.out.cell0
        have r1 := R2.out.cell1
        have K2 := Lib.hid (Below.refl w2.heap.size w2)
        clear hb HC
        go_wp2
        clear t2 r0 r1 hx1 hy1
        go_loopw [5] (fun iv wr => ∃ k : Nat, k ≤ X.length ∧ iv = .int .i64 k ∧ Hid (∀ j, j < k → FormV O zss X Y j) ∧ Hid (Below w2.heap.size w2 wr)) (fun iv _ => X.length - (intOf iv).toNat)
        case atStart => exact ⟨0, Nat.zero_le _, rfl, fun j hj => absurd hj (Nat.not_lt_zero _), K2⟩
        case round =>
          clear K2
          obtain ⟨k, hk, rfl, HJ, HK⟩ := hrel
          have Bw := Lib.hid (B2.out.trans (HK.out.mono B2.out.size))
          have r0 := (R2.out.below HK.out).cell0
          by_cases hlt : k < X.length
          · have hi1 : (k : Int) < X.length := by omega
            have hk0 : (0 : Int) ≤ (k : Int) := by omega
            have hkO : k < O.length := by have := HOL.out; have := HXL.out; omega
            have hkY : k < Y.length := by have := HYL.out; have := HXL.out; omega
            have hkZ : k < zss.length := by have := HZL.out; have := HXL.out; omega
            have hi2 : (k : Int) < O.length := by omega
            have hi3 : (k : Int) < Y.length := by omega
            have hi4 : (k : Int) < zss.length := by omega
            obtain ⟨xb, xo, hxa, hxc⟩ := (HXi.out.below Bw.out).cell (by omega)
            obtain ⟨ob, oo, hoa, hoc⟩ := (HOi.out.below Bw.out).cell (by omega)
            obtain ⟨yb, yo, hya, hyc⟩ := (HYi.out.below Bw.out).cell (by omega)
            obtain ⟨nb, no, hna, hnc⟩ := (HNi.out.below Bw.out).cell (by omega)
            have x1 := hxc k hlt
            have o1 := hoc k hkO
            have y1 := hyc k hkY
            have n1 := hnc k hkZ
            have HRw := Lib.hid ((HNi.out.below Bw.out).rows k hkZ)
            have t0 := (T2.out.below HK.out).c0
            have t1 := (T2.out.below HK.out).c1
            have r1 := (R2.out.below HK.out).cell1
            obtain ⟨x, hx⟩ : ∃ x, x = nth X k := ⟨_, rfl⟩
            obtain ⟨o, ho⟩ : ∃ o, o = nth O k := ⟨_, rfl⟩
            obtain ⟨y, hy⟩ : ∃ y, y = nth Y k := ⟨_, rfl⟩
            have HX := Lib.hid hx
            have HO := Lib.hid ho
            have HY := Lib.hid hy
            rw [← hx] at x1
            rw [← ho] at o1
            rw [← hy] at y1
            subst hxa
            subst hoa
            subst hya
            subst hna
            have HNo : Hid (¬ FormV O zss X Y k → r = false) := fun h => HRN.out fun hp => h (hp.2.2 k hlt)
            clear hxc hoc hyc hnc hx ho hy
            cases hin : inB x 0 1 with
            | false =>
              have HI := Lib.hid (fun W => l1In_is hin W)
              have HE : Hid (r = false) := HNo.out fun h => by
                have h2 := inB_yes (lo := 0) (hi := 1) (x := x) (by rw [HX.out]; exact h.1.1) (by rw [HX.out]; exact h.1.2)
                rw [h2] at hin; cases hin
              clear hin
              go_wp2_with fail
              refine (HI.out _).mono ?_
              rintro e w3 ⟨rfl, rfl⟩
              go_wp2
              go_ret
              exact ⟨ret_bool HE.out.symm, Bw.out⟩
            | true =>
              have HI := Lib.hid (fun W => l1In_is hin W)
              have HIN : Hid (0 ≤ x ∧ x ≤ 1) := by unfold inB at hin; simpa [Hid] using hin
              clear hin
              by_cases e1 : x = o
              · have he1 : (x == o) = true := by simpa using e1
                by_cases e2 : y = -1
                · have he2 : (y != -1) = false := by simpa using e2
                  have HE : Hid (r = false) := HNo.out fun h => by
                    have := h.2.1.1 (by rw [← HX.out, ← HO.out]; exact e1)
                    rw [← HY.out] at this; exact this e2
                  clear e1 e2
                  go_wp2_with fail
                  refine (HI.out _).mono ?_
                  rintro e w3 ⟨rfl, rfl⟩
                  go_wp2
                  go_quiet (fail)
                  go_wp2
                  go_quiet (fail)
                  go_wp2
                  go_ret
                  exact ⟨ret_bool HE.out.symm, below_drewN (below_drewN Bw.out _) _⟩
                · have he2 : (y != -1) = true := by simpa using e2
                  cases hh : hasB (row zss k) y with
                  | false =>
                    have HE : Hid (r = false) := HNo.out fun h => by
                      have := h.2.2 (by rw [← HX.out, ← HO.out]; exact e1)
                      rw [← HY.out] at this
                      rw [hasB_iff.2 this] at hh; cases hh
                    have HH : Hid (∀ W : World, Below wr.heap.size wr W → ∀ m, Calls Try.prog 34 #[.slice (A k) (row zss k).length (C k), .int .i64 y] (W.drewN m) fun e w' => e = .returned (.bool false) ∧ W.drewN m = w') := fun W hb m => l1Has_is hh (C k) _ ((HRw.out.below hb).same ⟨m, rfl⟩)
                    clear e1 e2 hh
                    go_wp2_with fail
                    refine (HI.out _).mono ?_
                    rintro e w3 ⟨rfl, rfl⟩
                    go_wp2
                    go_quiet (fail)
                    have hbq := below_drewN (Below.refl wr.heap.size wr) nq
                    have t1q := Below.cell_some (B := 0) hbq rfl t1
                    have r1q := Below.cell_some (B := 0) hbq rfl r1
                    have y1q := Below.cell_some (B := 0) hbq rfl y1
                    have n1q := Below.cell_some (B := 0) hbq rfl n1
                    obtain ⟨wq, hwq⟩ : ∃ z, z = wr.drewN nq := ⟨_, rfl⟩
                    rw [← hwq] at hbq t1q r1q y1q n1q ⊢
                    have HKq := Lib.hid (HK.out.trans (hbq.mono HK.out.size))
                    have HHq := Lib.hid (HH.out _ hbq)
                    clear hwq hbq HH
                    go_wp2
                    go_quiet ((go_at_call 34; exact quiet_eq (HHq.out _)))
                    go_wp2
                    go_ret
                    exact ⟨ret_bool HE.out.symm, below_drewN (B2.out.trans (HKq.out.mono B2.out.size)) _⟩
                  | true =>
                    have HJn : Hid (∀ j, j < k + 1 → FormV O zss X Y j) := fun j hj => by
                      by_cases e : j = k
                      · subst e
                        exact ⟨by rw [← HX.out]; exact HIN.out, ⟨fun _ => by rw [← HY.out]; exact e2, fun _ => by rw [← HX.out, ← HO.out]; exact e1⟩, fun _ => by rw [← HY.out]; exact hasB_iff.1 hh⟩
                      · exact HJ.out j (by omega)
                    have HH : Hid (∀ W : World, Below wr.heap.size wr W → ∀ m, Calls Try.prog 34 #[.slice (A k) (row zss k).length (C k), .int .i64 y] (W.drewN m) fun e w' => e = .returned (.bool true) ∧ W.drewN m = w') := fun W hb m => l1Has_is hh (C k) _ ((HRw.out.below hb).same ⟨m, rfl⟩)
                    clear e1 e2 hh
                    go_wp2_with fail
                    refine (HI.out _).mono ?_
                    rintro e w3 ⟨rfl, rfl⟩
                    go_wp2
                    go_quiet (fail)
                    have hbq := below_drewN (Below.refl wr.heap.size wr) nq
                    have t1q := Below.cell_some (B := 0) hbq rfl t1
                    have r1q := Below.cell_some (B := 0) hbq rfl r1
                    have y1q := Below.cell_some (B := 0) hbq rfl y1
                    have n1q := Below.cell_some (B := 0) hbq rfl n1
                    obtain ⟨wq, hwq⟩ : ∃ z, z = wr.drewN nq := ⟨_, rfl⟩
                    rw [← hwq] at hbq t1q r1q y1q n1q ⊢
                    have HKq := Lib.hid (HK.out.trans (hbq.mono HK.out.size))
                    have HHq := Lib.hid (HH.out _ hbq)
                    clear hwq hbq HH
                    go_wp2
                    go_quiet ((go_at_call 34; exact quiet_eq (HHq.out _)))
                    go_wp2
                    go_roundw
                    case rel => exact ⟨k + 1, by omega, by go_num, HJn, below_drewN HKq.out _⟩
                    case measure => simp [intOf]; omega
              · have he1 : (x == o) = false := beq_eq_false_iff_ne.2 e1
                by_cases e2 : y = -1
                · have he2 : (y != -1) = false := by simpa using e2
                  have HJn : Hid (∀ j, j < k + 1 → FormV O zss X Y j) := fun j hj => by
                    by_cases e : j = k
                    · subst e
                      exact ⟨by rw [← HX.out]; exact HIN.out, ⟨fun h => absurd (by rw [HX.out, HO.out]; exact h) e1, fun h => absurd (by rw [← HY.out]; exact e2) h⟩, fun h => absurd (by rw [HX.out, HO.out]; exact h) e1⟩
                    · exact HJ.out j (by omega)
                  clear e1 e2
                  go_wp2_with fail
                  refine (HI.out _).mono ?_
                  rintro e w3 ⟨rfl, rfl⟩
                  go_wp2
                  go_quiet (fail)
                  go_wp2
                  go_quiet (fail)
                  go_wp2
                  go_roundw
                  case rel => exact ⟨k + 1, by omega, by go_num, HJn, by first | exact below_drewN HK.out _ | exact below_drewN (below_drewN HK.out _) _⟩
                  case measure => simp [intOf]; omega
                · have he2 : (y != -1) = true := by simpa using e2
                  have HE : Hid (r = false) := HNo.out fun h => by
                    have := h.2.1.2 (by rw [← HY.out]; exact e2)
                    rw [← HX.out, ← HO.out] at this; exact e1 this
                  clear e1 e2
                  go_wp2_with fail
                  refine (HI.out _).mono ?_
                  rintro e w3 ⟨rfl, rfl⟩
                  go_wp2
                  go_quiet (fail)
                  go_wp2
                  go_quiet (fail)
                  go_wp2
                  go_ret
                  exact ⟨ret_bool HE.out.symm, below_drewN (below_drewN Bw.out _) _⟩
          · have hi1 : ¬ (k : Int) < X.length := by omega
            have HE : Hid (r = true) := HRY.out ⟨HXL.out, HYL.out, fun v hv => HJ.out v (by omega)⟩
            go_wp2
            go_ret
            exact ⟨ret_bool HE.out.symm, Bw.out⟩
      · have hy1 : ((Y.length : Int) != (P.length : Int)) = true := by simp; omega
        have HE : Hid (r = false) := HRN.out fun h => hy h.2.1
        clear hx hy
        go_enter Try.func23, Try.ntmps23
        go_wp2_with fail
        rw [← HW1.out]
        refine HC.out.mono ?_
        rintro e w2 ⟨rfl, hb⟩
        have B2 := Lib.hid (B1.out.trans (hb.mono B1.out.size))
        have t2 := (T1.out.below hb).c2
        have r0 := (R1.out.below hb).cell0
        have r1 := (R1.out.below hb).cell1
        clear hb HC
        go_wp2
        go_ret
        exact ⟨ret_bool HE.out.symm, B2.out⟩
    · have hx1 : ((X.length : Int) != (P.length : Int)) = true := by simp; omega
      have HE : Hid (r = false) := HRN.out fun h => hx h.1
      clear hx
      go_enter Try.func23, Try.ntmps23
      go_wp2_with fail
      rw [← HW1.out]
      refine HC.out.mono ?_
      rintro e w2 ⟨rfl, hb⟩
      have B2 := Lib.hid (B1.out.trans (hb.mono B1.out.size))
      have t2 := (T1.out.below hb).c2
      have r0 := (R1.out.below hb).cell0
      have r1 := (R1.out.below hb).cell1
      clear hb HC
      go_wp2
      go_ret
      exact ⟨ret_bool HE.out.symm, B2.out⟩

end Go.Proofs.Ytokcinhopajniaa
