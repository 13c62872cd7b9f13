/-
  Contracts of chapter 6: the model's PartOf, AnswerOk.
-/
import Derived.Test.YtokcinhopajniaaGreatDoorFormSpec
import Derived.Test.YtokcinhopajniaaGreatDoorWinsSpec
import Derived.Deep.RegionHeld3
namespace Go.Proofs.YtokcinhopajniaaGreatDoor
open Go.RowKit

/-- What PartOf gives. -/
noncomputable def partL (O : List Int) (zss : List (List Int)) (P X Y : List Int) (who : Int) : List Int := if formB O zss P X Y = true ∧ inB who 0 1 = true then ansP O Y who Y.length else []

noncomputable def ansB (O : List Int) (zss : List (List Int)) (P X Y : List Int) : Bool := formB O zss P X Y && (winsB O zss P 0 (regL X 0) (ansP O Y 0 Y.length) && winsB O zss P 1 (regL X 1) (ansP O Y 1 Y.length))

set_option linter.unusedSimpArgs false in
set_option maxHeartbeats 16000000 in
set_option maxRecDepth 100000 in
theorem specAnswerOk_is {w : World} {v vl : Value} {O P X Y : List Int} {zss : List (List Int)} {r : Bool} (hr : ansB O zss P X Y = r) (h : GameAt w v O zss P) (ha : LassoAt w vl X Y) :
    Calls Tryz.prog 32 #[v, vl] w fun e w' => e = .returned (.bool r) ∧ Below w.heap.size w w' := by
  have HGm := Lib.hid h
  have HAn := Lib.hid ha
  obtain ⟨ao, an, ap, co, cn, cp, A, C, rfl, h1, h2, h3⟩ := h
  obtain ⟨ax, ay, cx, cy, rfl, hX, hY⟩ := ha
  obtain ⟨w1, hw1⟩ : ∃ y, y = (w.alloc (.cells #[.slice ao O.length co, .slice an zss.length cn, .slice ap P.length cp] 32)).alloc (.cells #[.slice ax X.length cx, .slice ay Y.length cy] 59) := ⟨_, rfl⟩
  have HW1 := Lib.hid hw1
  have B1 : Hid (Below w.heap.size w w1) := by rw [hw1]; exact below2 _ _ _
  have T1 : Hid (Box3 w1 w.heap.size 32 (.slice ao O.length co) (.slice an zss.length cn) (.slice ap P.length cp)) := by
    rw [hw1]; exact (Box3.new w 32 (.slice ao O.length co) (.slice an zss.length cn) (.slice ap P.length cp)).below (below1 _ _)
  have R1 : Hid (Box2 w1 (w.heap.size + 1) 59 (.slice ax X.length cx) (.slice ay Y.length cy)) := by rw [hw1]; exact Box2.new_at (by simp) _ _ _
  clear hw1 h1 h2 h3 hX hY
  cases hf : formB O zss P X Y with
  | false =>
    have HE : Hid (r = false) := by rw [← hr]; unfold ansB; rw [hf]; rfl
    have HC := Lib.hid (l6Form_is hf (HGm.out.below B1.out) (HAn.out.below B1.out))
    clear hr hf
    go_enter Tryz.func32, Tryz.ntmps32
    go_wp2_with fail
    rw [← HW1.out]
    refine HC.out.mono ?_
    rintro e w2 ⟨rfl, hb⟩
    have B2 := Lib.hid (B1.out.trans (hb.mono B1.out.size))
    clear hb HC
    go_wp2
    go_ret
    exact ⟨ret_bool HE.out.symm, B2.out⟩
  | true =>
    have HC := Lib.hid (l6Form_is hf (HGm.out.below B1.out) (HAn.out.below B1.out))
    have hff := formB_iff.1 hf
    have HYL : Hid (Y.length = O.length) := by have := hff.2.2.1; have := (parityB_iff.1 hff.1).2.1; unfold Hid; omega
    have hO : O.length ≤ 1048576 := by have := (parityB_iff.1 hff.1).1.2.1; omega
    obtain ⟨S0, hS0⟩ : ∃ S, regL X 0 = S := ⟨_, rfl⟩
    obtain ⟨S1, hS1⟩ : ∃ S, regL X 1 = S := ⟨_, rfl⟩
    obtain ⟨Q0, hQ0⟩ : ∃ S, ansP O Y 0 Y.length = S := ⟨_, rfl⟩
    obtain ⟨Q1, hQ1⟩ : ∃ S, ansP O Y 1 Y.length = S := ⟨_, rfl⟩
    obtain ⟨b0, hb0⟩ : ∃ b, winsB O zss P 0 S0 Q0 = b := ⟨_, rfl⟩
    obtain ⟨b1, hb1⟩ : ∃ b, winsB O zss P 1 S1 Q1 = b := ⟨_, rfl⟩
    have HE : Hid ((b0 && b1) = r) := by rw [← hr]; unfold ansB; rw [hf, hS0, hS1, hQ0, hQ1, hb0, hb1]; rfl
    have HA0 : Hid (∀ W, Below w.heap.size w W → Calls Tryz.prog 66 #[.agg #[.slice ax X.length cx, .slice ay Y.length cy], .int .i64 0] W (GivesInts W S0)) := fun W hb => specRegionOf_is hS0 (HAn.out.below hb)
    have HA1 : Hid (∀ W, Below w.heap.size w W → Calls Tryz.prog 66 #[.agg #[.slice ax X.length cx, .slice ay Y.length cy], .int .i64 1] W (GivesInts W S1)) := fun W hb => specRegionOf_is hS1 (HAn.out.below hb)
    have HB0 : Hid (∀ W, Below w.heap.size w W → Calls Tryz.prog 67 #[.agg #[.slice ao O.length co, .slice an zss.length cn, .slice ap P.length cp], .agg #[.slice ax X.length cx, .slice ay Y.length cy], .int .i64 0] W (GivesInts W Q0)) := fun W hb => by
      rw [← hQ0]; exact l6Part_is HYL.out hO (HGm.out.below hb) (HAn.out.below hb)
    have HB1 : Hid (∀ W, Below w.heap.size w W → Calls Tryz.prog 67 #[.agg #[.slice ao O.length co, .slice an zss.length cn, .slice ap P.length cp], .agg #[.slice ax X.length cx, .slice ay Y.length cy], .int .i64 1] W (GivesInts W Q1)) := fun W hb => by
      rw [← hQ1]; exact l6Part_is HYL.out hO (HGm.out.below hb) (HAn.out.below hb)
    have HC0 : Hid (∀ W (a b : Option Addr) (c d : Nat), Below w.heap.size w W → IntsAt W a S0 → IntsAt W b Q0 → Calls Tryz.prog 14 #[.agg #[.slice ao O.length co, .slice an zss.length cn, .slice ap P.length cp], .int .i64 0, .slice a S0.length c, .slice b Q0.length d] W fun e w' => e = .returned (.bool b0) ∧ Below W.heap.size W w') := fun W a b c d hb g1 g2 => specWinsBy_is c d hb0 (HGm.out.below hb) g1 g2
    have HC1 : Hid (∀ W (a b : Option Addr) (c d : Nat), Below w.heap.size w W → IntsAt W a S1 → IntsAt W b Q1 → Calls Tryz.prog 14 #[.agg #[.slice ao O.length co, .slice an zss.length cn, .slice ap P.length cp], .int .i64 1, .slice a S1.length c, .slice b Q1.length d] W fun e w' => e = .returned (.bool b1) ∧ Below W.heap.size W w') := fun W a b c d hb g1 g2 => specWinsBy_is c d hb1 (HGm.out.below hb) g1 g2
    clear hr hf hff hS0 hS1 hQ0 hQ1 hb0 hb1
    go_enter Tryz.func32, Tryz.ntmps32
    go_wp2_with fail
    rw [← HW1.out]
    refine HC.out.mono ?_
    rintro e w2 ⟨rfl, hb⟩
    have B2 := Lib.hid (B1.out.trans (hb.mono B1.out.size))
    have T2 := Lib.hid (T1.out.below hb)
    have R2 := Lib.hid (R1.out.below hb)
    clear hb HC
    have HSv : Hid (∀ W, Below w2.heap.size w2 W → W.cell? ⟨w.heap.size, 0, none⟩ = some (.slice ao O.length co) ∧ W.cell? ⟨w.heap.size, 1, none⟩ = some (.slice an zss.length cn) ∧ W.cell? ⟨w.heap.size, 2, none⟩ = some (.slice ap P.length cp) ∧ W.cell? ⟨w.heap.size + 1, 0, none⟩ = some (.slice ax X.length cx) ∧ W.cell? ⟨w.heap.size + 1, 1, none⟩ = some (.slice ay Y.length cy)) := fun W hb =>
      ⟨(T2.out.below hb).c0, (T2.out.below hb).c1, (T2.out.below hb).c2, (R2.out.below hb).cell0, (R2.out.below hb).cell1⟩
    have Kd2 : Hid (Below w2.heap.size w2 w2.drew) := (Below.refl _ _).drew
    cases b0 with
    | false =>
      have HEr : Hid (r = false) := HE.out.symm
      have Kd := Kd2
      have HSw := HSv
      have HA0w : Hid (∀ W, Below w2.heap.size w2 W → Calls Tryz.prog 66 #[.agg #[.slice ax X.length cx, .slice ay Y.length cy], .int .i64 0] W (GivesInts W S0)) := fun W hb => HA0.out W (B2.out.trans (hb.mono B2.out.size))
      have HB0w : Hid (∀ W, Below w2.heap.size w2 W → Calls Tryz.prog 67 #[.agg #[.slice ao O.length co, .slice an zss.length cn, .slice ap P.length cp], .agg #[.slice ax X.length cx, .slice ay Y.length cy], .int .i64 0] W (GivesInts W Q0)) := fun W hb => HB0.out W (B2.out.trans (hb.mono B2.out.size))
      go_wp2
      refine wp_region_held_drew (S := (fun W => W.cell? ⟨w.heap.size, 0, none⟩ = some (.slice ao O.length co) ∧ W.cell? ⟨w.heap.size, 1, none⟩ = some (.slice an zss.length cn) ∧ W.cell? ⟨w.heap.size, 2, none⟩ = some (.slice ap P.length cp) ∧ W.cell? ⟨w.heap.size + 1, 0, none⟩ = some (.slice ax X.length cx) ∧ W.cell? ⟨w.heap.size + 1, 1, none⟩ = some (.slice ay Y.length cy))) (by kernel_rfl) (HSw.out _ Kd.out) (fun hHeld => ?_)
      refine wpAnyH_take (i := 0) (v := ?vz0) rfl (by kernel_rfl) (by kernel_rfl) (by kernel_rfl) (fun _ _ _ h => h) (Or.inl ⟨by rfl, ?hyz0⟩) (by assumption) ?_
      case hyz0 => (intro w hSw; (try dsimp only at hSw); go_simp; first | done | with_reducible rfl)
      simp only [Act.put, List.getElem_toArray, List.getElem_cons_succ, List.getElem_cons_zero, List.setIfInBounds_toArray, List.set_cons_zero, List.set_cons_succ]
      refine wpAnyH_take (i := 1) (v := ?vz1) rfl (by kernel_rfl) (by kernel_rfl) (by kernel_rfl) (fun _ _ _ h => h) (Or.inl ⟨by rfl, ?hyz1⟩) (by assumption) ?_
      case hyz1 => (intro w hSw; (try dsimp only at hSw); go_simp; first | done | with_reducible rfl)
      simp only [Act.put, List.getElem_toArray, List.getElem_cons_succ, List.getElem_cons_zero, List.setIfInBounds_toArray, List.set_cons_zero, List.set_cons_succ]
      refine wpAnyH_take (i := 3) (v := ?vz3) rfl (by kernel_rfl) (by kernel_rfl) (by kernel_rfl) (fun _ _ _ h => h) (Or.inl ⟨by rfl, ?hyz3⟩) (by assumption) ?_
      case hyz3 => (intro w hSw; (try dsimp only at hSw); go_simp; first | done | with_reducible rfl)
      simp only [Act.put, List.getElem_toArray, List.getElem_cons_succ, List.getElem_cons_zero, List.setIfInBounds_toArray, List.set_cons_zero, List.set_cons_succ]
      refine wpAnyH_take (i := 4) (v := ?vz4) rfl (by kernel_rfl) (by kernel_rfl) (by kernel_rfl) (fun _ _ _ h => h) (Or.inl ⟨by rfl, ?hyz4⟩) (by assumption) ?_
      case hyz4 => (intro w hSw; (try dsimp only at hSw); go_simp; first | done | with_reducible rfl)
      simp only [Act.put, List.getElem_toArray, List.getElem_cons_succ, List.getElem_cons_zero, List.setIfInBounds_toArray, List.set_cons_zero, List.set_cons_succ]
      refine wpAnyH_ready (rs := [2]) (by kernel_rfl) (by simp) (AllReadyH.cons rfl (fun K hK => ?_) AllReadyH.nil)
      go_simp
      go_at_call 66
      refine (HA0w.out _ Kd.out).mono ?_
      rintro e wa ⟨x, rfl, hx, hb⟩
      obtain ⟨xa, xc, hxs, hxi, _⟩ := hx.shape
      subst hxs
      have XA := Lib.hid hxi
      have Ka := Lib.hid (Kd.out.trans (hb.mono Kd.out.size))
      clear hx hb hxi
      go_wp2_with fail
      refine hK.out _ _ (HSw.out _ Ka.out) (fun hHeld => ?_)
      clear hK K
      try simp only [Act.put, List.getElem_toArray, List.getElem_cons_succ, List.getElem_cons_zero, List.setIfInBounds_toArray, List.set_cons_zero, List.set_cons_succ]
      refine wpAnyH_ready (rs := [5]) (by kernel_rfl) (by simp) (AllReadyH.cons rfl (fun K hK => ?_) AllReadyH.nil)
      go_simp
      go_at_call 67
      refine (HB0w.out _ Ka.out).mono ?_
      rintro e wb ⟨x, rfl, hx, hb⟩
      obtain ⟨ya, yc, hxs, hxi, _⟩ := hx.shape
      subst hxs
      have YB := Lib.hid hxi
      have XB := Lib.hid (XA.out.below hb)
      have Kb := Lib.hid (Ka.out.trans (hb.mono Ka.out.size))
      clear hx hb hxi
      go_wp2_with fail
      refine hK.out _ _ (HSw.out _ Kb.out) (fun hHeld => ?_)
      clear hK K
      try simp only [Act.put, List.getElem_toArray, List.getElem_cons_succ, List.getElem_cons_zero, List.setIfInBounds_toArray, List.set_cons_zero, List.set_cons_succ]
      refine wpAnyH_ready (rs := [6]) (by kernel_rfl) (by simp) (AllReadyH.cons rfl (fun K hK => ?_) AllReadyH.nil)
      go_simp
      go_at_call 14
      refine (HC0.out _ xa ya xc yc (B2.out.trans (Kb.out.mono B2.out.size)) XB.out YB.out).mono ?_
      rintro e wc ⟨rfl, hb⟩
      have Kc := Lib.hid (Kb.out.trans (hb.mono Kb.out.size))
      clear hb
      go_wp2_with fail
      refine hK.out _ _ (HSw.out _ Kc.out) (fun hHeld => ?_)
      clear hK K
      try simp only [Act.put, List.getElem_toArray, List.getElem_cons_succ, List.getElem_cons_zero, List.setIfInBounds_toArray, List.set_cons_zero, List.set_cons_succ]
      refine wpAnyH_take (i := 7) (v := ?vz7) rfl (by kernel_rfl) (by kernel_rfl) (by kernel_rfl) (fun _ _ _ h => h) (Or.inl ⟨by rfl, ?hyz7⟩) (by assumption) ?_
      case hyz7 => (intro w hSw; (try dsimp only at hSw); go_simp; first | done | with_reducible rfl)
      simp only [Act.put, List.getElem_toArray, List.getElem_cons_succ, List.getElem_cons_zero, List.setIfInBounds_toArray, List.set_cons_zero, List.set_cons_succ]
      refine wpAnyH_take (i := 8) (v := undef) rfl (by kernel_rfl) (by kernel_rfl) (by kernel_rfl) (fun _ _ _ h => h) (Or.inr ⟨by rfl, rfl⟩) (by assumption) ?_
      simp only [Act.put, List.getElem_toArray, List.getElem_cons_succ, List.getElem_cons_zero, List.setIfInBounds_toArray, List.set_cons_zero, List.set_cons_succ]
      refine wpAnyH_take (i := 9) (v := undef) rfl (by kernel_rfl) (by kernel_rfl) (by kernel_rfl) (fun _ _ _ h => h) (Or.inr ⟨by rfl, rfl⟩) (by assumption) ?_
      simp only [Act.put, List.getElem_toArray, List.getElem_cons_succ, List.getElem_cons_zero, List.setIfInBounds_toArray, List.set_cons_zero, List.set_cons_succ]
      refine wpAnyH_take (i := 10) (v := undef) rfl (by kernel_rfl) (by kernel_rfl) (by kernel_rfl) (fun _ _ _ h => h) (Or.inr ⟨by rfl, rfl⟩) (by assumption) ?_
      simp only [Act.put, List.getElem_toArray, List.getElem_cons_succ, List.getElem_cons_zero, List.setIfInBounds_toArray, List.set_cons_zero, List.set_cons_succ]
      refine wpAnyH_take (i := 11) (v := undef) rfl (by kernel_rfl) (by kernel_rfl) (by kernel_rfl) (fun _ _ _ h => h) (Or.inr ⟨by rfl, rfl⟩) (by assumption) ?_
      simp only [Act.put, List.getElem_toArray, List.getElem_cons_succ, List.getElem_cons_zero, List.setIfInBounds_toArray, List.set_cons_zero, List.set_cons_succ]
      refine wpAnyH_take (i := 12) (v := undef) rfl (by kernel_rfl) (by kernel_rfl) (by kernel_rfl) (fun _ _ _ h => h) (Or.inr ⟨by rfl, rfl⟩) (by assumption) ?_
      simp only [Act.put, List.getElem_toArray, List.getElem_cons_succ, List.getElem_cons_zero, List.setIfInBounds_toArray, List.set_cons_zero, List.set_cons_succ]
      refine wpAnyH_take (i := 13) (v := undef) rfl (by kernel_rfl) (by kernel_rfl) (by kernel_rfl) (fun _ _ _ h => h) (Or.inr ⟨by rfl, rfl⟩) (by assumption) ?_
      simp only [Act.put, List.getElem_toArray, List.getElem_cons_succ, List.getElem_cons_zero, List.setIfInBounds_toArray, List.set_cons_zero, List.set_cons_succ]
      refine wpAnyH_take (i := 14) (v := undef) rfl (by kernel_rfl) (by kernel_rfl) (by kernel_rfl) (fun _ _ _ h => h) (Or.inr ⟨by rfl, rfl⟩) (by assumption) ?_
      simp only [Act.put, List.getElem_toArray, List.getElem_cons_succ, List.getElem_cons_zero, List.setIfInBounds_toArray, List.set_cons_zero, List.set_cons_succ]
      refine wpAnyH_take (i := 15) (v := ?vz15) rfl (by kernel_rfl) (by kernel_rfl) (by kernel_rfl) (fun _ _ _ h => h) (Or.inl ⟨by rfl, ?hyz15⟩) (by assumption) ?_
      case hyz15 => (intro w hSw; (try dsimp only at hSw); go_simp; first | done | with_reducible rfl)
      simp only [Act.put, List.getElem_toArray, List.getElem_cons_succ, List.getElem_cons_zero, List.setIfInBounds_toArray, List.set_cons_zero, List.set_cons_succ]
      refine wpAnyH_take (i := 16) (v := ?vz16) rfl (by kernel_rfl) (by kernel_rfl) (by kernel_rfl) (fun _ _ _ h => h) (Or.inl ⟨by rfl, ?hyz16⟩) (by assumption) ?_
      case hyz16 => (intro w hSw; (try dsimp only at hSw); go_simp; first | done | with_reducible rfl)
      simp only [Act.put, List.getElem_toArray, List.getElem_cons_succ, List.getElem_cons_zero, List.setIfInBounds_toArray, List.set_cons_zero, List.set_cons_succ]
      refine wpAnyH_done (by kernel_rfl) ?_ _
      go_wp2
      go_ret
      exact ⟨ret_bool HEr.out.symm, B2.out.trans (Kc.out.mono B2.out.size)⟩
    | true =>
      have HEr : Hid (r = b1) := HE.out.symm
      have s0 := HSv.out _ Kd2.out
      go_wp2
      go_region_held3 (fun W => W.cell? ⟨w.heap.size, 0, none⟩ = some (.slice ao O.length co) ∧ W.cell? ⟨w.heap.size, 1, none⟩ = some (.slice an zss.length cn) ∧ W.cell? ⟨w.heap.size, 2, none⟩ = some (.slice ap P.length cp) ∧ W.cell? ⟨w.heap.size + 1, 0, none⟩ = some (.slice ax X.length cx) ∧ W.cell? ⟨w.heap.size + 1, 1, none⟩ = some (.slice ay Y.length cy))
        (first
          | exact HSv.out _ Kd2.out
          | exact HSv.out _ Ka.out
          | exact HSv.out _ Kb.out
          | exact HSv.out _ Kc.out
          | exact HSv.out _ Kx.out
          | exact HSv.out _ Ky.out
          | exact HSv.out _ Kz.out)
        (first
          | (go_at_call 14; have _t := t4; refine (HC1.out _ xa' ya' xc' yc' (B2.out.trans (Ky.out.mono B2.out.size)) XY.out YY.out).mono ?_; rintro e wz ⟨rfl, hb⟩; have Kz := Lib.hid (Ky.out.trans (hb.mono Ky.out.size)); clear hb)
          | (go_at_call 67; have _t := t3; refine (HB1.out _ (B2.out.trans (Kx.out.mono B2.out.size))).mono ?_; rintro e wy ⟨x, rfl, hx, hb⟩; obtain ⟨ya', yc', hxs, hxi, _⟩ := hx.shape; subst hxs; have YY := Lib.hid hxi; have XY := Lib.hid (XX.out.below hb); have Ky := Lib.hid (Kx.out.trans (hb.mono Kx.out.size)); have t4 : True := trivial; clear hx hb hxi)
          | (go_at_call 66; have _t := t2; refine (HA1.out _ (B2.out.trans (Kc.out.mono B2.out.size))).mono ?_; rintro e wx ⟨x, rfl, hx, hb⟩; obtain ⟨xa', xc', hxs, hxi, _⟩ := hx.shape; subst hxs; have XX := Lib.hid hxi; have Kx := Lib.hid (Kc.out.trans (hb.mono Kc.out.size)); have t3 : True := trivial; clear hx hb hxi)
          | (go_at_call 14; refine (HC0.out _ xa ya xc yc (B2.out.trans (Kb.out.mono B2.out.size)) XB.out YB.out).mono ?_; rintro e wc ⟨rfl, hb⟩; have Kc := Lib.hid (Kb.out.trans (hb.mono Kb.out.size)); have t2 : True := trivial; clear hb)
          | (go_at_call 67; refine (HB0.out _ (B2.out.trans (Ka.out.mono B2.out.size))).mono ?_; rintro e wb ⟨x, rfl, hx, hb⟩; obtain ⟨ya, yc, hxs, hxi, _⟩ := hx.shape; subst hxs; have YB := Lib.hid hxi; have XB := Lib.hid (XA.out.below hb); have Kb := Lib.hid (Ka.out.trans (hb.mono Ka.out.size)); clear hx hb hxi)
          | (go_at_call 66; refine (HA0.out _ (B2.out.trans (Kd2.out.mono B2.out.size))).mono ?_; rintro e wa ⟨x, rfl, hx, hb⟩; obtain ⟨xa, xc, hxs, hxi, _⟩ := hx.shape; subst hxs; have XA := Lib.hid hxi; have Ka := Lib.hid (Kd2.out.trans (hb.mono Kd2.out.size)); clear hx hb hxi))
      go_wp2
      go_ret
      exact ⟨ret_bool HEr.out.symm, B2.out.trans (Kz.out.mono B2.out.size)⟩

end Go.Proofs.YtokcinhopajniaaGreatDoor
