/-
  Contract of chapter 6: the program's AnswerOk.
-/
import Derived.Test.YtokcinhopajniaaGreatDoorAnswerImpl
import Derived.Test.YtokcinhopajniaaGreatDoorCheckImpl
import Derived.Deep.RegionHeld3
import Derived.Shelf.Abstract
namespace Go.Proofs.YtokcinhopajniaaGreatDoor
open Go.RowKit

theorem wins_nil {O P S : List Int} {zss : List (List Int)} {who : Int} : winsB O zss P who S [] = false := by
  cases h : winsB O zss P who S [] with
  | false => rfl
  | true =>
    unfold winsB at h
    rw [Bool.and_eq_true, closB_iff] at h
    have h1 := planB_iff.1 h.2.1
    have h2 := h1.1.1
    have h3 := h1.2.2.1
    simp at h3
    omega
theorem ans_parts (O : List Int) (zss : List (List Int)) (P X Y : List Int) : ansB O zss P X Y = (winsB O zss P 0 (regL X 0) (partL O zss P X Y 0) && winsB O zss P 1 (regL X 1) (partL O zss P X Y 1)) := by
  unfold ansB partL
  cases hf : formB O zss P X Y with
  | false =>
    rw [if_neg (by simp), if_neg (by simp), wins_nil]; rfl
  | true =>
    rw [if_pos ⟨rfl, by decide⟩, if_pos ⟨rfl, by decide⟩]; rfl

set_option maxHeartbeats 16000000 in
set_option maxRecDepth 100000 in
theorem wins1_is {w : World} (hE : ErrW w) {ao an ap ax ay : Option Addr} {co cn cp cx cy gb ab : Nat} {O P X Y : List Int} {zss : List (List Int)} {who : Int} {r : Bool} (hr : winsB O zss P who (regL X who) (partL O zss P X Y who) = r)
    (h : GameAt w (.agg #[.slice ao O.length co, .slice an zss.length cn, .slice ap P.length cp]) O zss P) (ha : LassoAt w (.agg #[.slice ax X.length cx, .slice ay Y.length cy]) X Y)
    (hT : Box3 w gb 32 (.slice ao O.length co) (.slice an zss.length cn) (.slice ap P.length cp)) (hR : Box2 w ab 59 (.slice ax X.length cx) (.slice ay Y.length cy)) :
    Calls Tryz.prog 68 #[.int .i64 who, .pointer (some ⟨gb, 0, none⟩), .pointer (some ⟨ab, 0, none⟩)] w fun e w' => e = .returned (.bool r) ∧ Below w.heap.size w w' := by
  have HE := Lib.hid hE
  have HGm := Lib.hid h
  have HAn := Lib.hid ha
  obtain ⟨S, hS⟩ : ∃ S, regL X who = S := ⟨_, rfl⟩
  obtain ⟨Q, hQ⟩ : ∃ Q, partL O zss P X Y who = Q := ⟨_, rfl⟩
  rw [hS, hQ] at hr
  have HSv : Hid (∀ W, Below w.heap.size w W → W.cell? ⟨gb, 0, none⟩ = some (.slice ao O.length co) ∧ W.cell? ⟨gb, 1, none⟩ = some (.slice an zss.length cn) ∧ W.cell? ⟨gb, 2, none⟩ = some (.slice ap P.length cp) ∧ W.cell? ⟨ab, 0, none⟩ = some (.slice ax X.length cx) ∧ W.cell? ⟨ab, 1, none⟩ = some (.slice ay Y.length cy)) := fun W hb =>
    ⟨(hT.below hb).c0, (hT.below hb).c1, (hT.below hb).c2, (hR.below hb).cell0, (hR.below hb).cell1⟩
  have HA : Hid (∀ W, Below w.heap.size w W → Calls Tryz.prog 40 #[.agg #[.slice ax X.length cx, .slice ay Y.length cy], .int .i64 who] W (GivesInts W S)) := fun W hb => RegionOf_is hS (HAn.out.below hb)
  have HB : Hid (∀ W, Below w.heap.size w W → Calls Tryz.prog 69 #[.agg #[.slice ao O.length co, .slice an zss.length cn, .slice ap P.length cp], .agg #[.slice ax X.length cx, .slice ay Y.length cy], .int .i64 who] W (GivesInts W Q)) := fun W hb => PartOf_is hQ (HGm.out.below hb) (HAn.out.below hb)
  have HC : Hid (∀ W (a b : Option Addr) (c d : Nat), Below w.heap.size w W → IntsAt W a S → IntsAt W b Q → Calls Tryz.prog 12 #[.agg #[.slice ao O.length co, .slice an zss.length cn, .slice ap P.length cp], .int .i64 who, .slice a S.length c, .slice b Q.length d] W fun e w' => e = .returned (.bool r) ∧ Below W.heap.size W w') := fun W a b c d hb g1 g2 => WinsBy_is (HE.out.below hb) c d hr (HGm.out.below hb) g1 g2
  have Kd : Hid (Below w.heap.size w w.drew) := (Below.refl _ _).drew
  have s0 := HSv.out _ Kd.out
  clear hE h ha hT hR hS hQ hr
  go_enter Tryz.func68, Tryz.ntmps68
  go_wp2
  go_region_held3 (fun W => W.cell? ⟨gb, 0, none⟩ = some (.slice ao O.length co) ∧ W.cell? ⟨gb, 1, none⟩ = some (.slice an zss.length cn) ∧ W.cell? ⟨gb, 2, none⟩ = some (.slice ap P.length cp) ∧ W.cell? ⟨ab, 0, none⟩ = some (.slice ax X.length cx) ∧ W.cell? ⟨ab, 1, none⟩ = some (.slice ay Y.length cy))
    (first
      | exact HSv.out _ Kd.out
      | exact HSv.out _ Ka.out
      | exact HSv.out _ Kb.out
      | exact HSv.out _ Kc.out)
    (first
      | (go_at_call 12; refine (HC.out _ xa ya xc yc Kb.out XB.out YB.out).mono ?_; rintro e wc ⟨rfl, hb⟩; have Kc := Lib.hid (Kb.out.trans (hb.mono Kb.out.size)); clear hb)
      | (go_at_call 69; refine (HB.out _ Ka.out).mono ?_; rintro e wb ⟨x, rfl, hx, hb⟩; obtain ⟨ya, yc, hxs, hxi, _⟩ := hx.shape; subst hxs; have YB := Lib.hid hxi; have XB := Lib.hid (XA.out.below hb); have Kb := Lib.hid (Ka.out.trans (hb.mono Ka.out.size)); clear hx hb hxi)
      | (go_at_call 40; refine (HA.out _ Kd.out).mono ?_; rintro e wa ⟨x, rfl, hx, hb⟩; obtain ⟨xa, xc, hxs, hxi, _⟩ := hx.shape; subst hxs; have XA := Lib.hid hxi; have Ka := Lib.hid (Kd.out.trans (hb.mono Kd.out.size)); clear hx hb hxi))
  go_wp2
  go_ret
  exact ⟨rfl, Kc.out⟩

set_option maxHeartbeats 16000000 in
set_option maxRecDepth 100000 in
theorem AnswerOk_is {w : World} (hE : ErrW w) {v vl : Value} {O P X Y : List Int} {zss : List (List Int)} {r : Bool} (hr : ansB O zss P X Y = r) (h : GameAt w v O zss P) (ha : LassoAt w vl X Y) :
    Calls Tryz.prog 34 #[v, vl] w fun e w' => e = .returned (.bool r) ∧ Below w.heap.size w w' := by
  have eg : ∀ args w, (callFunc 68 args).run Tryz.prog w = .ok (.enter 68 args) w := enters_of Tryz.func68 (by kernel_rfl) rfl
  have HE := Lib.hid hE
  have HGm := Lib.hid h
  have HAn := Lib.hid ha
  obtain ⟨ao, an, ap, co, cn, cp, A, C, rfl, h1, h2, h3⟩ := h
  obtain ⟨ax, ay, cx, cy, rfl, hX, hY⟩ := ha
  obtain ⟨w1, hw1⟩ : ∃ y, y = (w.alloc (.cells #[.slice ao O.length co, .slice an zss.length cn, .slice ap P.length cp] 32)).alloc (.cells #[.slice ax X.length cx, .slice ay Y.length cy] 59) := ⟨_, rfl⟩
  have HW1 := Lib.hid hw1
  have B1 : Hid (Below w.heap.size w w1) := by rw [hw1]; exact below2 _ _ _
  have T1 : Hid (Box3 w1 w.heap.size 32 (.slice ao O.length co) (.slice an zss.length cn) (.slice ap P.length cp)) := by
    rw [hw1]; exact (Box3.new w 32 (.slice ao O.length co) (.slice an zss.length cn) (.slice ap P.length cp)).below (below1 _ _)
  have R1 : Hid (Box2 w1 (w.heap.size + 1) 59 (.slice ax X.length cx) (.slice ay Y.length cy)) := by rw [hw1]; exact Box2.new_at (by simp) _ _ _
  obtain ⟨b0, hb0⟩ : ∃ b, winsB O zss P 0 (regL X 0) (partL O zss P X Y 0) = b := ⟨_, rfl⟩
  obtain ⟨b1, hb1⟩ : ∃ b, winsB O zss P 1 (regL X 1) (partL O zss P X Y 1) = b := ⟨_, rfl⟩
  have HRE : Hid ((b0 && b1) = r) := by rw [← hr, ans_parts, hb0, hb1]; rfl
  have HC0 := Lib.hid (wins1_is (HE.out.below B1.out) hb0 (HGm.out.below B1.out) (HAn.out.below B1.out) T1.out R1.out)
  have HC1 : Hid (∀ W, Below w1.heap.size w1 W → Calls Tryz.prog 68 #[.int .i64 1, .pointer (some ⟨w.heap.size, 0, none⟩), .pointer (some ⟨w.heap.size + 1, 0, none⟩)] W fun e w' => e = .returned (.bool b1) ∧ Below W.heap.size W w') := fun W hb => wins1_is ((HE.out.below B1.out).below hb) hb1 ((HGm.out.below B1.out).below hb) ((HAn.out.below B1.out).below hb) (T1.out.below hb) (R1.out.below hb)
  clear hw1 h1 h2 h3 hX hY hr hb0 hb1 hE
  go_enter Tryz.func34, Tryz.ntmps34
  go_wp2_with fail
  rw [← HW1.out]
  refine HC0.out.mono ?_
  rintro e w2 ⟨rfl, hb⟩
  have HB := Lib.hid hb
  have B2 := Lib.hid (B1.out.trans (hb.mono B1.out.size))
  clear hb HC0
  cases b0 with
  | false =>
    have HRF : Hid (r = false) := by rw [← HRE.out]; rfl
    go_wp2
    go_ret
    exact ⟨ret_bool HRF.out.symm, B2.out⟩
  | true =>
    have HRF : Hid (r = b1) := by rw [← HRE.out]; rfl
    go_wp2_with fail
    refine (HC1.out _ HB.out).mono ?_
    rintro e w3 ⟨rfl, hb⟩
    have B3 := Lib.hid (B2.out.trans (hb.mono B2.out.size))
    clear hb
    go_wp2
    go_ret
    exact ⟨ret_bool HRF.out.symm, B3.out⟩

end Go.Proofs.YtokcinhopajniaaGreatDoor
