/-
  Contracts of chapter 6: the model's PartOf, AnswerOk.
-/
import Derived.Test.YtokcinhopajniaaFormSpec
import Derived.Test.YtokcinhopajniaaWinsSpec
import Derived.Deep.RegionHeld3
namespace Go.Proofs.Ytokcinhopajniaa
open Go.RowKit

/-- What PartOf gives. -/
noncomputable def partL (O : List Int) (zss : List (List Int)) (P X Y : List Int) (who : Int) : List Int := if formB O zss P X Y = true ∧ inB who 0 1 = true then ansP O Y who Y.length else []

set_option maxHeartbeats 4000000 in
set_option maxRecDepth 100000 in
theorem specPartOf_is {w : World} {v vl : Value} {O P X Y r : List Int} {zss : List (List Int)} {who : Int} (hr : partL O zss P X Y who = r) (h : GameAt w v O zss P) (ha : LassoAt w vl X Y) :
    Calls Try.prog 15 #[v, vl, .int .i64 who] w (GivesInts w r) := by
  have HGm := Lib.hid h
  have HAn := Lib.hid ha
  obtain ⟨ao, an, ap, co, cn, cp, A, C, rfl, h1, h2, h3⟩ := h
  obtain ⟨ax, ay, cx, cy, rfl, hX, hY⟩ := ha
  obtain ⟨w1, hw1⟩ : ∃ y, y = (w.alloc (.cells #[.slice ao O.length co, .slice an zss.length cn, .slice ap P.length cp] 43)).alloc (.cells #[.slice ax X.length cx, .slice ay Y.length cy] 27) := ⟨_, rfl⟩
  have HW1 := Lib.hid hw1
  have B1 : Hid (Below w.heap.size w w1) := by rw [hw1]; exact below2 _ _ _
  have T1 : Hid (Box3 w1 w.heap.size 43 (.slice ao O.length co) (.slice an zss.length cn) (.slice ap P.length cp)) := by
    rw [hw1]; exact (Box3.new w 43 (.slice ao O.length co) (.slice an zss.length cn) (.slice ap P.length cp)).below (below1 _ _)
  have R1 : Hid (Box2 w1 (w.heap.size + 1) 27 (.slice ax X.length cx) (.slice ay Y.length cy)) := by rw [hw1]; exact Box2.new_at (by simp) _ _ _
  clear hw1 h1 h2 h3 hX hY
  cases hf : formB O zss P X Y with
  | false =>
    have HE : Hid (r = []) := by rw [← hr]; unfold partL; rw [hf]; simp [Hid]
    have HC := Lib.hid (l6Form_is hf (HGm.out.below B1.out) (HAn.out.below B1.out))
    clear hr hf
    go_enter Try.func15, Try.ntmps15
    go_wp2_with fail
    rw [← HW1.out]
    refine HC.out.mono ?_
    rintro e w2 ⟨rfl, hb⟩
    have B2 := Lib.hid (B1.out.trans (hb.mono B1.out.size))
    clear hb HC
    go_wp2
    go_ret
    refine ⟨_, rfl, ?_, B2.out.alloc B2.out.size _⟩
    rw [HE.out]
    exact (OwnInts.mk' (zs := []) (World.ownsRow_made w2 #[] 0 (Nat.le_refl _) (by unfold maxLen; omega) rfl) (by simp) (fun k hk => absurd hk (by simp))).base B2.out.size
  | true =>
    have HC := Lib.hid (l6Form_is hf (HGm.out.below B1.out) (HAn.out.below B1.out))
    cases hw : inB who 0 1 with
    | false =>
      have HE : Hid (r = []) := by rw [← hr]; unfold partL; rw [hw]; simp [Hid]
      have HI := Lib.hid (fun W => l1In_is hw W)
      clear hr hf hw
      go_enter Try.func15, Try.ntmps15
      go_wp2_with fail
      rw [← HW1.out]
      refine HC.out.mono ?_
      rintro e w2 ⟨rfl, hb⟩
      have B2 := Lib.hid (B1.out.trans (hb.mono B1.out.size))
      clear hb HC
      go_wp2_with fail
      refine (HI.out _).mono ?_
      rintro e w3 ⟨rfl, rfl⟩
      go_wp2
      go_ret
      refine ⟨_, rfl, ?_, B2.out.alloc B2.out.size _⟩
      rw [HE.out]
      exact (OwnInts.mk' (zs := []) (World.ownsRow_made w2 #[] 0 (Nat.le_refl _) (by unfold maxLen; omega) rfl) (by simp) (fun k hk => absurd hk (by simp))).base B2.out.size
    | true =>
      have HE : Hid (r = ansP O Y who Y.length) := by rw [← hr]; unfold partL; rw [hf, hw]; simp [Hid]
      have HI := Lib.hid (fun W => l1In_is hw W)
      have hff := formB_iff.1 hf
      have HYL : Hid (Y.length = O.length) := by have := hff.2.2.1; have := (parityB_iff.1 hff.1).2.1; unfold Hid; omega
      have hO : O.length ≤ 1048576 := by have := (parityB_iff.1 hff.1).1.2.1; omega
      clear hr hf hw hff
      go_enter Try.func15, Try.ntmps15
      go_wp2_with fail
      rw [← HW1.out]
      refine HC.out.mono ?_
      rintro e w2 ⟨rfl, hb⟩
      have B2 := Lib.hid (B1.out.trans (hb.mono B1.out.size))
      have t0 := (T1.out.below hb).c0
      have t1 := (T1.out.below hb).c1
      have t2 := (T1.out.below hb).c2
      have r0 := (R1.out.below hb).cell0
      have r1 := (R1.out.below hb).cell1
      clear hb HC
      go_wp2_with fail
      refine (HI.out _).mono ?_
      rintro e w3 ⟨rfl, rfl⟩
      go_wp2_with fail
      refine (l6Part_is (who := who) HYL.out hO (HGm.out.below B2.out) (HAn.out.below B2.out)).mono ?_
      rintro e w4 ⟨x, rfl, hx, hb⟩
      have HX := Lib.hid (hx.base (B' := w.heap.size) B2.out.size)
      obtain ⟨xa, xc, hxs, _, _⟩ := hx.shape
      subst hxs
      have B4 := Lib.hid (B2.out.trans (hb.mono B2.out.size))
      clear hb hx t0 t1 t2 r0 r1
      go_wp2
      go_ret
      exact ⟨_, rfl, by rw [HE.out]; exact HX.out, B4.out⟩

noncomputable def ansB (O : List Int) (zss : List (List Int)) (P X Y : List Int) : Bool := formB O zss P X Y && (winsB O zss P 0 (regL X 0) (ansP O Y 0 Y.length) && winsB O zss P 1 (regL X 1) (ansP O Y 1 Y.length))

end Go.Proofs.Ytokcinhopajniaa
