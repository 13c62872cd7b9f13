/-
  Contracts of the laws' own helpers for answers: toAnswer, szAnswer, eqAnswer, markAnswer, heldAnswer. (An answer reads as a play does: two slices of numbers.)
-/
import Derived.Test.YtokcinhopajniaaKitLasso
import Derived.Test.YtokcinhopajniaaLasso
import Derived.Test.YtokcinhopajniaaBase1
import Derived.Test.YtokcinhopajniaaKitGame
namespace Go.Proofs.Ytokcinhopajniaa
open Go.RowKit

set_option maxHeartbeats 4000000 in
theorem szAnswer_at {w : World} {v : Value} {X Y : List Int} {left r : Int} (hr : leftOf left (sizeLasso X Y) = r) (h : LassoAt w v X Y) (h0 : 0 ≤ left) (h1 : left ≤ 1048576) :
    Calls Try.prog 5 #[v, .int .i64 left] w fun e w' => e = .returned (.int .i64 r) ∧ Below w.heap.size w w' := by
  obtain ⟨ax, ay, cx, cy, rfl, hX, hY⟩ := h
  have hlX := hX.len
  have hlY := hY.len
  have B1 := Lib.hid (below1 w (.cells #[.slice ax X.length cx, .slice ay Y.length cy] 24))
  obtain ⟨m, hm⟩ : ∃ m, leftOf left X.length = m := ⟨_, rfl⟩
  have HZ1 := Lib.hid (fun W => szInt64S_any ax X.length cx left W hlX (by omega) (by omega))
  rw [hm] at HZ1
  clear hX hY
  by_cases hlt : left < X.length
  · have hm1 : m = -1 := by rw [← hm]; exact leftOf_no hlt
    have HE : Hid (r = -1) := by rw [← hr]; exact leftOf_no (by unfold sizeLasso; omega)
    have hneg : m < 0 := by omega
    clear hm hr hlt hm1
    go_enter Try.func5, Try.ntmps5
    go_wp2_with fail
    refine (HZ1.out _).mono ?_
    rintro e w2 ⟨rfl, rfl⟩
    go_wp2
    go_ret
    exact ⟨ret_i64 HE.out.symm, B1.out⟩
  · have hm1 : m = left - X.length := by rw [← hm]; exact leftOf_yes (by omega)
    have hm0 : ¬ m < 0 := by omega
    have hr2 : leftOf m Y.length = r := by
      rw [← hr]; unfold leftOf sizeLasso
      by_cases h : m < Y.length
      · rw [if_pos h, if_pos (by omega)]
      · rw [if_neg h, if_neg (by omega)]; omega
    have HZ := Lib.hid (fun W => szInt64S_any ay Y.length cy m W hlY (by omega) (by omega))
    rw [hr2] at HZ
    have HR2 := Lib.hid hr2
    have hm00 : 0 ≤ m := by omega
    clear hm hr hlt hm1 hr2
    go_enter Try.func5, Try.ntmps5
    go_wp2_with fail
    refine (HZ1.out _).mono ?_
    rintro e w2 ⟨rfl, rfl⟩
    go_wp2_with fail
    refine (HZ.out _).mono ?_
    rintro e w3 ⟨rfl, rfl⟩
    by_cases hs : r < 0
    · have HE : Hid (r = -1) := by
        have := HR2.out
        unfold leftOf at this
        simp only [Hid]
        split at this <;> omega
      go_wp2
      go_ret
      exact ⟨ret_i64 HE.out.symm, B1.out⟩
    · go_wp2
      go_ret
      exact ⟨rfl, B1.out⟩

set_option maxHeartbeats 4000000 in
theorem eqAnswer_at {w : World} {v v' : Value} {X Y : List Int} (h : LassoAt w v X Y) (h' : LassoAt w v' X Y) :
    Calls Try.prog 10 #[v, v'] w fun e w' => e = .returned (.bool true) ∧ Below w.heap.size w w' := by
  obtain ⟨ax, ay, cx, cy, rfl, h1, h2⟩ := h
  obtain ⟨bx, by', dx, dy, rfl, g1, g2⟩ := h'
  obtain ⟨w0, hw0⟩ : ∃ y, y = w.alloc (.cells #[.slice ax X.length cx, .slice ay Y.length cy] 27) := ⟨_, rfl⟩
  have hs0 : w0.heap.size = w.heap.size + 1 := by rw [hw0]; simp
  obtain ⟨w1, hw1⟩ : ∃ y, y = w0.alloc (.cells #[.slice bx X.length dx, .slice by' Y.length dy] 27) := ⟨_, rfl⟩
  have HW0 := Lib.hid hw0
  have HW1 := Lib.hid hw1
  have hb0 : Below w.heap.size w w0 := by rw [hw0]; exact below1 _ _
  have hb1 : Below w0.heap.size w0 w1 := by rw [hw1]; exact below1 _ _
  have B1 : Hid (Below w.heap.size w w1) := hb0.trans (hb1.mono (by omega))
  have Ta1 : Hid (Box2 w1 w.heap.size 27 (.slice ax X.length cx) (.slice ay Y.length cy)) := Box2.below (by rw [hw0]; exact Box2.new _ _ _ _) hb1
  have Tb1 : Hid (Box2 w1 (w.heap.size + 1) 27 (.slice bx X.length dx) (.slice by' Y.length dy)) := by rw [← hs0, hw1]; exact Box2.new _ _ _ _
  have HXa : Hid (IntsV w (.slice ax X.length cx) X) := ⟨_, _, rfl, h1⟩
  have HXb : Hid (IntsV w (.slice bx X.length dx) X) := ⟨_, _, rfl, g1⟩
  have HYa : Hid (IntsV w (.slice ay Y.length cy) Y) := ⟨_, _, rfl, h2⟩
  have HYb : Hid (IntsV w (.slice by' Y.length dy) Y) := ⟨_, _, rfl, g2⟩
  have a0 := Ta1.out.cell0
  have b0 := Tb1.out.cell0
  rw [hw1, hw0] at a0 b0
  clear hw0 hw1 hb0 hb1 hs0 h1 h2 g1 g2
  go_enter Try.func10, Try.ntmps10
  go_wp2_with fail
  rw [← HW0.out, ← HW1.out]
  refine (eqInts_at (HXa.out.below B1.out) (HXb.out.below B1.out)).mono ?_
  rintro e w2 ⟨rfl, hb⟩
  have B2 := Lib.hid (B1.out.trans (hb.mono B1.out.size))
  have Ta2 := Lib.hid (Ta1.out.below hb)
  have Tb2 := Lib.hid (Tb1.out.below hb)
  clear hb a0 b0
  have ta2 := Ta2.out.cell1
  have tb2 := Tb2.out.cell1
  go_wp2_with fail
  refine (eqInts_at (HYa.out.below B2.out) (HYb.out.below B2.out)).mono ?_
  rintro e w3 ⟨rfl, hb⟩
  have B3 := Lib.hid (B2.out.trans (hb.mono B2.out.size))
  clear hb
  go_wp2
  go_ret
  exact ⟨rfl, B3.out⟩

set_option maxHeartbeats 4000000 in
theorem markAnswer_at {w : World} {B D : Nat} {v : Value} {X Y : List Int} {k r : Int} (hr : k + X.length + Y.length = r) (h : OwnLasso w B D v X Y) (h0 : 0 ≤ k) (h1 : k ≤ 1073741824) (hs : sizeLasso X Y ≤ 1048576) :
    Calls Try.prog 11 #[v, .int .i64 k] w fun e w' => e = .returned (.int .i64 r) ∧
      OwnLasso w' B D v (marks k X.length) (marks (k + X.length) Y.length) ∧ Only (fun b => B ≤ b ∧ b < D) w w' := by
  unfold sizeLasso at hs
  obtain ⟨m, hm⟩ : ∃ m : Int, k + X.length = m := ⟨_, rfl⟩
  have hm0 : 0 ≤ m := by omega
  have hm1 : m ≤ 1152921504606846976 := by omega
  have HM := Lib.hid hm
  rw [hm] at hr ⊢
  have HR := Lib.hid hr
  obtain ⟨vx, vy, rfl, h2, h3, h4⟩ := h
  obtain ⟨a, cap, rfl, hI, _⟩ := h2.shape
  obtain ⟨a', cap', rfl, hRo, _⟩ := h3.shape
  obtain ⟨w1, hw1⟩ : ∃ y, y = w.alloc (.cells #[.slice a X.length cap, .slice a' Y.length cap'] 27) := ⟨_, rfl⟩
  have HW1 := Lib.hid hw1
  have hb1 : Below w.heap.size w w1 := by rw [hw1]; exact below1 _ _
  have T1 : Hid (Box2 w1 w.heap.size 27 (.slice a X.length cap) (.slice a' Y.length cap')) := by rw [hw1]; exact Box2.new _ _ _ _
  have HX := Lib.hid (h2.below hb1)
  have HY := Lib.hid (h3.below hb1)
  have H4 := Lib.hid h4
  have B1 := Lib.hid hb1
  clear h2 h3 h4 hI hRo hw1 hb1 hr hm
  go_enter Try.func11, Try.ntmps11
  go_wp2_with fail
  rw [← HW1.out]
  refine (markInt64S_is HX.out k h0 (by omega)).mono ?_
  rintro e w2 ⟨rfl, g1, g2⟩
  have T2 := Lib.hid (T1.out.only g2 (fun hb => T1.out.not_own HX.out.own (by decide) hb))
  have HY2 := Lib.hid (HY.out.only g2 (fun g hg hb => H4.out g hb hg))
  have K2 := Lib.hid g2
  have G1 := Lib.hid g1
  clear g1 g2
  have t2 := T2.out.cell1
  go_wp2_with fail
  rw [HM.out]
  refine (markInt64S_is HY2.out m hm0 hm1).mono ?_
  rintro e w3 ⟨rfl, g1, g2⟩
  have hfin : Hid (OwnLasso w3 B D (.agg #[.slice a X.length cap, .slice a' Y.length cap']) (marks k X.length) (marks m Y.length)) :=
    ⟨_, _, rfl, G1.out.only g2 (fun g hg hb => H4.out g hg hb), g1, H4.out⟩
  have hO3 : Hid (Only (fun b => B ≤ b ∧ b < D) w w3) := (Only.of_below B1.out).trans ((K2.out.mono fun b hb => ⟨(HX.out.own.lt b hb).1, HX.out.top b hb⟩).trans (g2.mono fun b hb => ⟨(HY2.out.own.lt b hb).1, HY2.out.top b hb⟩))
  have HR3 : Hid (m + Y.length = r) := HR.out
  clear g1 g2
  go_wp2
  go_ret
  exact ⟨ret_i64 HR3.out, hfin.out, hO3.out⟩

set_option maxHeartbeats 4000000 in
set_option maxRecDepth 100000 in
theorem toAnswer_at {w : World} {v : Value} {X Y : List Int} (h : LassoAt w v X Y) :
    Calls Try.prog 7 #[v] w (GivesLasso w X Y) := by
  obtain ⟨ax, ay, cx, cy, rfl, hX, hY⟩ := h
  obtain ⟨w1, hw1⟩ : ∃ y, y = ((w.alloc (.cells #[.slice ax X.length cx, .slice ay Y.length cy] 24)).alloc (.cells #[.slice none 0 0, .slice none 0 0] 27)).alloc (.cells #[.slice none 0 0, .slice none 0 0] 27) := ⟨_, rfl⟩
  have HW1 := Lib.hid hw1
  have B1 : Hid (Below w.heap.size w w1) := by rw [hw1]; exact (below2 _ _ _).alloc (by simp; omega) _
  have T1 : Hid (Box2 w1 w.heap.size 24 (.slice ax X.length cx) (.slice ay Y.length cy)) := by rw [hw1]; exact ((Box2.new w _ _ _).alloc _).alloc _
  have R1 : Hid (Box2 w1 (w.heap.size + 1) 27 (.slice none 0 0) (.slice none 0 0)) := by rw [hw1]; exact (Box2.new_at (by simp) _ _ _).alloc _
  have U1 : Hid (Box2 w1 (w.heap.size + 1 + 1) 27 (.slice none 0 0) (.slice none 0 0)) := by rw [hw1]; exact Box2.new_at (by simp) _ _ _
  have hs1 : w1.heap.size = w.heap.size + 1 + 1 + 1 := by rw [hw1]; simp
  have HS1 := Lib.hid hs1
  clear hs1
  have HX : Hid (IntsV w1 (.slice ax X.length cx) X) := IntsV.below ⟨_, _, rfl, hX⟩ B1.out
  have HY0 : Hid (IntsV w (.slice ay Y.length cy) Y) := ⟨_, _, rfl, hY⟩
  have t0 := T1.out.cell0
  clear hX hY
  rw [hw1] at t0
  clear hw1
  go_enter Try.func7, Try.ntmps7
  go_wp2_with fail
  rw [← HW1.out]
  refine (toInts_at HX.out).mono ?_
  rintro e w2 ⟨u, rfl, hu, hb⟩
  obtain ⟨ua, uc, hus, _, _⟩ := hu.shape
  subst hus
  have B2 := Lib.hid (B1.out.trans (hb.mono B1.out.size))
  have T2 := Lib.hid (T1.out.below hb)
  have R2 := Lib.hid (R1.out.below hb)
  have U2 := Lib.hid (U1.out.below hb)
  have P2 := Lib.hid hu
  have HS2 := Lib.hid hb.size
  clear hu hb t0
  have t1 := T2.out.cell1
  have u0 := U2.out.cell0
  have fu0 := U2.out.frozen 0
  go_wp2_with fail
  obtain ⟨w3, hw3⟩ : ∃ y, y = w2.setCell ⟨w.heap.size + 1 + 1, 0, none⟩ (.slice ua X.length uc) := ⟨_, rfl⟩
  have HW3 := Lib.hid hw3
  have hO3 : Only (fun b => b = w.heap.size + 1 + 1) w2 w3 := by rw [hw3]; exact (Only.refl (fun b => b = w.heap.size + 1 + 1) w2).setCell (p := ⟨w.heap.size + 1 + 1, 0, none⟩) rfl _
  have hs3 : w3.heap.size = w2.heap.size := by rw [hw3]; simp
  have HS3 := Lib.hid hs3
  have B3 := Lib.hid (B2.out.trans (hO3.below (B := w.heap.size) B2.out.size (fun b hb => by omega)))
  have U3 : Hid (Box2 w3 (w.heap.size + 1 + 1) 27 (.slice ua X.length uc) (.slice none 0 0)) := by rw [hw3]; exact U2.out.set0 (.slice ua X.length uc)
  have R3 : Hid (Box2 w3 (w.heap.size + 1) 27 (.slice none 0 0) (.slice none 0 0)) := R2.out.only hO3 (by omega)
  have Y3 : Hid (IntsV w3 (.slice ay Y.length cy) Y) := HY0.out.below B3.out
  have P3 : Hid (OwnInts w3 w1.heap.size w2.heap.size (.slice ua X.length uc) X) := P2.out.only hO3 (fun g hg hb => by have := HS1.out; have := (P2.out.own.lt g hg).1; omega)
  rw [← HW3.out]
  clear hw3 hO3 hs3 t1 u0 fu0
  refine (toInts_at Y3.out).mono ?_
  rintro e w4 ⟨u, rfl, hu, hb⟩
  obtain ⟨va, vc, hus, _, _⟩ := hu.shape
  subst hus
  have B4 := Lib.hid (B3.out.trans (hb.mono B3.out.size))
  have U4 := Lib.hid (U3.out.below hb)
  have R4 := Lib.hid (R3.out.below hb)
  have P4 := Lib.hid (P3.out.below hb)
  have Q4 := Lib.hid hu
  have HS4 := Lib.hid hb.size
  clear hu hb
  have u1 := U4.out.cell1
  have fu1 := U4.out.frozen 1
  have U5 := Lib.hid (U4.out.set1 (.slice va Y.length vc))
  have R5 := Lib.hid (R4.out.other (a := ⟨w.heap.size + 1 + 1, 1, none⟩) (by show w.heap.size + 1 ≠ w.heap.size + 1 + 1; omega) (.slice va Y.length vc))
  have v0 := U5.out.cell0
  have v1 := U5.out.cell1
  have r0 := R5.out.cell0
  have r1 := R5.out.cell1
  have f0 := R5.out.frozen 0
  have f1 := R5.out.frozen 1
  go_wp2_with fail
  have R6 := Lib.hid ((R5.out.set0 (.slice ua X.length uc)).set1 (.slice va Y.length vc))
  have d0 := R6.out.cell0
  have d1 := R6.out.cell1
  obtain ⟨w6, hw6⟩ : ∃ y, y = ((w4.setCell ⟨w.heap.size + 1 + 1, 1, none⟩ (.slice va Y.length vc)).setCell ⟨w.heap.size + 1, 0, none⟩ (.slice ua X.length uc)).setCell ⟨w.heap.size + 1, 1, none⟩ (.slice va Y.length vc) := ⟨_, rfl⟩
  have hO6 : Only (fun b => b = w.heap.size + 1 ∨ b = w.heap.size + 1 + 1) w4 w6 := by
    rw [hw6]
    exact (((Only.refl _ w4).setCell (p := ⟨w.heap.size + 1 + 1, 1, none⟩) (.inr rfl) _).setCell (p := ⟨w.heap.size + 1, 0, none⟩) (.inl rfl) _).setCell (p := ⟨w.heap.size + 1, 1, none⟩) (.inl rfl) _
  have hfin : Hid (OwnLasso w6 w.heap.size w6.heap.size (.agg #[(.slice ua X.length uc), (.slice va Y.length vc)]) X Y ∧ Below w.heap.size w w6) := by
    have e1 := HS1.out
    have e2 := HS2.out
    have e3 := HS3.out
    have e4 := HS4.out
    refine ⟨OwnLasso.retop (D := w4.heap.size) (OwnLasso.of_parts (M := w3.heap.size) ?_ ?_ (by omega) (by omega)), B4.out.trans (hO6.below (B := w.heap.size) B4.out.size (fun b hb => by omega))⟩
    · have h := P4.out.only hO6 (fun g hg hb => by have := (P4.out.own.lt g hg).1; omega)
      rw [e3]
      exact h.base (by omega)
    · exact Q4.out.only hO6 (fun g hg hb => by have := (Q4.out.own.lt g hg).1; omega)
  rw [← hw6] at d0 d1 ⊢
  clear hw6 hO6
  exact bodyPost_ret (v := .agg #[(.slice ua X.length uc), (.slice va Y.length vc)]) (by simp [results, Try.results7, go_sem, d0, d1]) rfl ⟨_, rfl, hfin.out⟩

end Go.Proofs.Ytokcinhopajniaa
