/-
  Contracts of chapter 6: the program's RegionOf, isAnswer, PartOf.
-/
import Derived.Test.YtokcinhopajniaaGreatDoorAnswerSpec
import Derived.Test.YtokcinhopajniaaGreatDoorFormSpec
import Derived.Test.YtokcinhopajniaaGreatDoorAnswerOkSpec
import Derived.Test.YtokcinhopajniaaGreatDoorGameImpl
import Derived.Test.YtokcinhopajniaaGreatDoorTrap1
namespace Go.Proofs.YtokcinhopajniaaGreatDoor
open Go.RowKit

set_option maxHeartbeats 8000000 in
set_option maxRecDepth 100000 in
theorem RegionOf_is {w : World} {v : Value} {X Y r : List Int} {who : Int} (hr : regL X who = r) (h : LassoAt w v X Y) :
    Calls Tryz.prog 40 #[v, .int .i64 who] w (GivesInts w r) := by
  obtain ⟨i0, hi, hz0, hz1, hz2⟩ := info_parts info_int
  obtain ⟨ax, ay, cx, cy, rfl, hX, hY⟩ := h
  have hlX := hX.len
  have HXi := Lib.hid hX
  obtain ⟨w1, hw1⟩ : ∃ y, y = w.alloc (.cells #[.slice ax X.length cx, .slice ay Y.length cy] 59) := ⟨_, rfl⟩
  have HW1 := Lib.hid hw1
  have B1 : Hid (Below w.heap.size w w1) := by rw [hw1]; exact below1 _ _
  have T1 : Hid (Box2 w1 w.heap.size 59 (.slice ax X.length cx) (.slice ay Y.length cy)) := by rw [hw1]; exact Box2.new _ _ _ _
  have O1 : Hid (w1.ownsRow w1.heap.size 2 1 (.slice none 0 0) (regK X who 0).length ((regK X who 0).map (Value.int .i64))) := by simpa [Hid, regK] using World.ownsRow_nil w1 w1.heap.size 2 1
  have K1 := Lib.hid (Below.refl w1.heap.size w1)
  have hsz1 := B1.out.size
  have HR := Lib.hid hr
  clear hw1 hX hY hr
  by_cases hx : X.length ≤ 256
  · have hx1 : ¬ (256 : Int) < X.length := by omega
    have hx2 : decide ((256 : Int) < (X.length : Int)) = false := decide_eq_false hx1
    have hx3 : decide (256 < X.length) = false := decide_eq_false (by omega)
    have HE : Hid (r = regK X who X.length) := by rw [← HR.out]; unfold regL; rw [if_pos hx]; rfl
    go_enter Tryz.func40, Tryz.ntmps40
    go_wp2
    rw [← HW1.out]
    go_loopw [5, 15] (fun ov iv wr => ∃ (k : Nat) (uu : Value), uu = ov ∧ k ≤ X.length ∧ iv = .int .i64 k ∧ Hid (wr.ownsRow w1.heap.size 2 1 ov (regK X who k).length ((regK X who k).map (Value.int .i64))) ∧ Hid (Below w1.heap.size w1 wr)) (fun _ iv _ => X.length - (intOf iv).toNat)
    case atStart => exact ⟨0, _, rfl, Nat.zero_le _, rfl, O1, K1⟩
    case round =>
      clear O1 K1
      obtain ⟨k, uu, hu0, hk, rfl, HO, HK⟩ := hrel
      subst hu0
      have hksz := HK.out.size
      have hll := regK_len X who k
      by_cases hlt : k < X.length
      · have hi1 : (k : Int) < X.length := by omega
        have hk0 : (0 : Int) ≤ (k : Int) := by omega
        have Bw := Lib.hid (B1.out.trans (HK.out.mono B1.out.size))
        obtain ⟨xb, xo, hxa, hxc⟩ := (HXi.out.below Bw.out).cell (by omega)
        have x1 := hxc k hlt
        obtain ⟨q, hq⟩ : ∃ q, q = nth X k := ⟨_, rfl⟩
        have hst : regK X who (k + 1) = regK X who k ++ (if q = who then [(k : Int)] else []) := by rw [regK, hq]
        rw [← hq] at x1
        subst hxa
        clear hxc hq
        by_cases e : q = who
        · have he : (q == who) = true := by simpa using e
          rw [if_pos e] at hst
          have HST := Lib.hid hst
          clear e hst
          go_wp2_with (at_builtin; refine wpList_append_own_at _ rfl _ _ 27 rfl w1.heap.size 2 i0 (.int .i64 0) 1 8 Tryz.underlying27 hi hz0 hz1 hz2 rfl (by decide) _ _ _ rfl (HO.out.alloc _) ⟨wr.heap.size, 0, none⟩ 1 1 [.int .i64 (k : Int)] rfl rfl ?c1 ?c2 ?c3 ?c4 ?c5 ?_)
          try (case c1 => exact cell_one_new _ _ _)
          try (case c2 => first | rfl | (intro u hu; simp at hu; subst hu; rfl))
          case c3 => unfold maxLen; omega
          case c4 => omega
          case c5 => first | (simp; omega) | omega
          intro v' w5 hown hgrow _ _
          have hg : Only (fun b => w1.heap.size ≤ b) wr w5 := (Only.of_below (below1 wr _)).trans ((Only.of_grown hgrow).mono fun b hb => (HO.out.lt b hb).1)
          have Kn := Lib.hid (HK.out.trans (hg.below HK.out.size (fun _ h => h)))
          have HOn : Hid (w5.ownsRow w1.heap.size 2 1 v' (regK X who (k + 1)).length ((regK X who (k + 1)).map (Value.int .i64))) := by
            rw [HST.out, List.map_append, List.length_append]; exact hown
          clear hown hgrow hg
          go_wp2
          go_roundw
          case rel => exact ⟨k + 1, _, rfl, by omega, by go_num, HOn, Kn⟩
          case measure => simp [intOf]; omega
        · have he : (q == who) = false := beq_eq_false_iff_ne.2 e
          rw [if_neg e, List.append_nil] at hst
          have HOn : Hid (wr.ownsRow w1.heap.size 2 1 uu (regK X who (k + 1)).length ((regK X who (k + 1)).map (Value.int .i64))) := by rw [hst]; exact HO.out
          clear e hst
          go_wp2
          go_roundw
          case rel => exact ⟨k + 1, _, rfl, by omega, by go_num, HOn, HK⟩
          case measure => simp [intOf]; omega
      · have hi1 : ¬ (k : Int) < X.length := by omega
        have hkk : k = X.length := by omega
        rw [hkk] at HO
        have hfin := Lib.hid ((OwnInts.mk' HO.out (by have := regK_len X who X.length; omega) (fun j hj => by
          obtain ⟨u, hu, hun, _⟩ := regK_mem.1 (nth_mem hj)
          rw [hu]; unfold Fits; omega)).base (B' := w.heap.size) B1.out.size)
        clear hkk HO
        go_wp2
        go_ret
        exact ⟨_, rfl, by rw [HE.out]; exact hfin.out, B1.out.trans (HK.out.mono B1.out.size)⟩
  · have hx1 : (256 : Int) < X.length := by omega
    have hx2 : decide ((256 : Int) < (X.length : Int)) = true := decide_eq_true hx1
    have hx3 : decide (256 < X.length) = true := decide_eq_true (by omega)
    have HE : Hid (r = []) := by rw [← HR.out]; unfold regL; rw [if_neg hx]; rfl
    go_enter Tryz.func40, Tryz.ntmps40
    go_wp2
    rw [← HW1.out]
    go_ret
    exact ⟨_, rfl, by rw [HE.out]; exact OwnInts.nil _ _ _, B1.out⟩

set_option maxHeartbeats 16000000 in
set_option maxRecDepth 100000 in
theorem isAnswer_is {w : World} {v vl : Value} {O P X Y : List Int} {zss : List (List Int)} {r : Bool} (hr : formB O zss P X Y = r) (h : GameAt w v O zss P) (ha : LassoAt w vl X Y) :
    Calls Tryz.prog 105 #[v, vl] w fun e w' => e = .returned (.bool r) ∧ Below w.heap.size w w' := by
  have HGm := Lib.hid h
  obtain ⟨ao, an, ap, co, cn, cp, A, C, rfl, h1, h2, h3⟩ := h
  obtain ⟨ax, ay, cx, cy, rfl, hX, hY⟩ := ha
  have hlP := h3.len
  have hlO := h1.len
  have hlX := hX.len
  have hlY := hY.len
  have HOi := Lib.hid h1
  have HXi := Lib.hid hX
  have HYi := Lib.hid hY
  obtain ⟨w1, hw1⟩ : ∃ y, y = (w.alloc (.cells #[.slice ao O.length co, .slice an zss.length cn, .slice ap P.length cp] 32)).alloc (.cells #[.slice ax X.length cx, .slice ay Y.length cy] 59) := ⟨_, rfl⟩
  have HW1 := Lib.hid hw1
  have B1 : Hid (Below w.heap.size w w1) := by rw [hw1]; exact below2 _ _ _
  have T1 : Hid (Box3 w1 w.heap.size 32 (.slice ao O.length co) (.slice an zss.length cn) (.slice ap P.length cp)) := by
    rw [hw1]; exact (Box3.new w 32 (.slice ao O.length co) (.slice an zss.length cn) (.slice ap P.length cp)).below (below1 _ _)
  have R1 : Hid (Box2 w1 (w.heap.size + 1) 59 (.slice ax X.length cx) (.slice ay Y.length cy)) := by rw [hw1]; exact Box2.new_at (by simp) _ _ _
  have c0 := T1.out.c0
  have c1 := T1.out.c1
  have c2 := T1.out.c2
  rw [hw1] at c0 c1 c2
  clear hw1 h1 h2 h3 hX hY
  cases hp : parityB O zss P with
  | false =>
    have HE : Hid (r = false) := by rw [← hr]; unfold formB; rw [hp]; rfl
    have HC := Lib.hid (ParityOk_is hp (HGm.out.below B1.out))
    clear hr hp
    go_enter Tryz.func105, Tryz.ntmps105
    go_wp2_with fail
    rw [← HW1.out]
    refine HC.out.mono ?_
    rintro e w2 ⟨rfl, hb⟩
    have B2 := Lib.hid (B1.out.trans (hb.mono B1.out.size))
    clear hb HC c0 c1 c2
    go_wp2
    go_ret
    exact ⟨ret_bool HE.out.symm, B2.out⟩
  | true =>
    have HC := Lib.hid (ParityOk_is hp (HGm.out.below B1.out))
    have HPA := Lib.hid (parityB_iff.1 hp)
    have HRN : Hid (¬ FormP O zss P X Y → r = false) := fun h => by rw [← hr]; exact formB_no h
    have HRY : Hid (FormP O zss P X Y → r = true) := fun h => by rw [← hr]; exact formB_iff.2 ⟨hp, h⟩
    have HOL : Hid (O.length = P.length) := HPA.out.2.1.symm
    have HZL : Hid (zss.length = P.length) := by have := HPA.out.1.2.2.1; have := HPA.out.2.1; unfold Hid; omega
    clear hr hp
    by_cases hx : X.length = O.length
    · have hx1 : ((X.length : Int) != (O.length : Int)) = false := by simp; omega
      have hx2 : (X.length != O.length) = false := by simp; omega
      by_cases hy : Y.length = O.length
      · have hy1 : ((Y.length : Int) != (O.length : Int)) = false := by simp; omega
        have hy2 : (Y.length != O.length) = false := by simp; omega
        have HXL := Lib.hid hx
        have HYL := Lib.hid hy
        have HY3 : Hid (Y.length ≤ 256) := by have := HPA.out.1.2.1; unfold Hid; omega
        clear hx hy
        go_enter Tryz.func105, Tryz.ntmps105
        go_wp2_with fail
        rw [← HW1.out]
        refine HC.out.mono ?_
        rintro e w2 ⟨rfl, hb⟩
        have B2 := Lib.hid (B1.out.trans (hb.mono B1.out.size))
        have T2 := Lib.hid (T1.out.below hb)
        have R2 := Lib.hid (R1.out.below hb)
        have t0 := T2.out.c0
        have r0 := R2.out.cell0
        have r1 := R2.out.cell1
        have K2 := Lib.hid (Below.refl w2.heap.size w2)
        clear hb HC c0 c1 c2
        go_wp2
        clear t0 r0 r1 hx1 hy1 hx2 hy2
        go_loopw [34] (fun iv wr => ∃ k : Nat, k ≤ Y.length ∧ iv = .int .i64 k ∧ Hid (∀ j, j < k → FormV O zss X Y j) ∧ Hid (Below w2.heap.size w2 wr)) (fun iv _ => Y.length - (intOf iv).toNat)
        case atStart => exact ⟨0, Nat.zero_le _, rfl, fun j hj => absurd hj (Nat.not_lt_zero _), K2⟩
        case round =>
          clear K2
          obtain ⟨k, hk, rfl, HJ, HK⟩ := hrel
          have Bw := Lib.hid (B2.out.trans (HK.out.mono B2.out.size))
          have hY3 := HY3.out
          by_cases hlt : k < Y.length
          · have hi1 : (k : Int) < Y.length := by omega
            have hk0 : (0 : Int) ≤ (k : Int) := by omega
            have hkO : k < O.length := by have := HYL.out; omega
            have hkX : k < X.length := by have := HXL.out; omega
            have hkZ : k < zss.length := by have := HZL.out; have := HOL.out; omega
            have hi2 : (k : Int) < O.length := by omega
            have hi3 : (k : Int) < X.length := by omega
            obtain ⟨xb, xo, hxa, hxc⟩ := (HXi.out.below Bw.out).cell (by omega)
            obtain ⟨ob, oo, hoa, hoc⟩ := (HOi.out.below Bw.out).cell (by omega)
            obtain ⟨yb, yo, hya, hyc⟩ := (HYi.out.below Bw.out).cell (by omega)
            have x1 := hxc k hkX
            have o1 := hoc k hkO
            have y1 := hyc k hlt
            have t0 := (T2.out.below HK.out).c0
            have r0 := (R2.out.below HK.out).cell0
            have r1 := (R2.out.below HK.out).cell1
            obtain ⟨x, hx⟩ : ∃ x, x = nth X k := ⟨_, rfl⟩
            obtain ⟨o, ho⟩ : ∃ o, o = nth O k := ⟨_, rfl⟩
            obtain ⟨y, hy⟩ : ∃ y, y = nth Y k := ⟨_, rfl⟩
            have HX := Lib.hid hx
            have HO := Lib.hid ho
            have HY := Lib.hid hy
            rw [← hx] at x1
            rw [← ho] at o1
            rw [← hy] at y1
            subst hxa
            subst hoa
            subst hya
            have HNo : Hid (¬ FormV O zss X Y k → r = false) := fun h => HRN.out fun hp => h (hp.2.2 k hkX)
            clear hxc hoc hyc hx ho hy
            obtain ⟨b, hb⟩ : ∃ b, (x == o) = b := ⟨_, rfl⟩
            have HBE := Lib.hid hb
            obtain ⟨bi, hbi⟩ : ∃ b, inB x 0 1 = b := ⟨_, rfl⟩
            have HBI := Lib.hid hbi
            have HI := Lib.hid (fun W => isPlayer_is hbi W)
            clear hbi
            go_wp2
            go_quiet (fail)
            have hbq := below_drewN (Below.refl wr.heap.size wr) nq
            have t0q := Below.cell_some (B := 0) hbq rfl t0
            have t1q := Below.cell_some (B := 0) hbq rfl (T2.out.below HK.out).c1
            have r0q := Below.cell_some (B := 0) hbq rfl r0
            have x1q := Below.cell_some (B := 0) hbq rfl x1
            obtain ⟨wq, hwq⟩ : ∃ z, z = wr.drewN nq := ⟨_, rfl⟩
            rw [← hwq] at hbq t0q t1q r0q x1q ⊢
            have HKq := Lib.hid (HK.out.trans (hbq.mono HK.out.size))
            have Bq := Lib.hid (Bw.out.trans (hbq.mono Bw.out.size))
            have HAq := Lib.hid (GameAt.arenaC (HGm.out.below Bq.out))
            clear hwq hbq t0 r0 r1 x1 o1 y1
            cases bi with
            | false =>
              have HE : Hid (r = false) := HNo.out fun h => by
                have h2 := inB_yes (lo := 0) (hi := 1) (x := x) (by rw [HX.out]; exact h.1.1) (by rw [HX.out]; exact h.1.2)
                have h3 := HBI.out
                rw [h2] at h3; cases h3
              go_wp2_with fail
              refine (HI.out _).mono ?_
              rintro e w3 ⟨rfl, rfl⟩
              go_wp2
              go_ret
              exact ⟨ret_bool HE.out.symm, Bq.out⟩
            | true =>
              have HIN : Hid (0 ≤ x ∧ x ≤ 1) := by have := HBI.out; unfold inB at this; simpa [Hid] using this
              cases b with
              | true =>
                have HEQ : Hid (x = o) := by have := HBE.out; unfold Hid; simpa using this
                obtain ⟨hh, hhe⟩ : ∃ b, hasB (row zss k) y = b := ⟨_, rfl⟩
                have HHE := Lib.hid hhe
                have HLE := Lib.hid (leads_is hhe hkZ HAq.out)
                clear hhe hb
                cases hh with
                | false =>
                  have HE : Hid (r = false) := HNo.out fun h => by
                    have h1 := h.2.2 (by rw [← HX.out, ← HO.out]; exact HEQ.out)
                    rw [← HY.out] at h1
                    have h2 := HHE.out
                    rw [hasB_iff.2 h1] at h2; cases h2
                  go_wp2_with fail
                  refine (HI.out _).mono ?_
                  rintro e w3 ⟨rfl, rfl⟩
                  go_wp2_with fail
                  refine HLE.out.mono ?_
                  rintro e w4 ⟨rfl, hb⟩
                  have B4 := Lib.hid (Bq.out.trans (hb.mono Bq.out.size))
                  clear hb
                  go_wp2
                  go_ret
                  exact ⟨ret_bool HE.out.symm, B4.out⟩
                | true =>
                  have HJn : Hid (∀ j, j < k + 1 → FormV O zss X Y j) := fun j hj => by
                    by_cases e : j = k
                    · subst e
                      have hm : nth Y j ∈ row zss j := by rw [← HY.out]; exact hasB_iff.1 HHE.out
                      obtain ⟨q, hq, _⟩ := arena_nats HPA.out.1 j hkZ _ hm
                      exact ⟨by rw [← HX.out]; exact HIN.out, ⟨fun _ => by omega, fun _ => by rw [← HX.out, ← HO.out]; exact HEQ.out⟩, fun _ => hm⟩
                    · exact HJ.out j (by omega)
                  go_wp2_with fail
                  refine (HI.out _).mono ?_
                  rintro e w3 ⟨rfl, rfl⟩
                  go_wp2_with fail
                  refine HLE.out.mono ?_
                  rintro e w4 ⟨rfl, hb⟩
                  have K4 := Lib.hid (HKq.out.trans (hb.mono HKq.out.size))
                  clear hb
                  go_wp2
                  go_roundw
                  case rel => exact ⟨k + 1, by omega, by go_num, HJn, K4⟩
                  case measure => simp [intOf]; omega
              | false =>
                have HNE : Hid (x ≠ o) := beq_eq_false_iff_ne.1 HBE.out
                clear hb
                by_cases e2 : y = -1
                · have he2 : (y != -1) = false := by simpa using e2
                  have HJn : Hid (∀ j, j < k + 1 → FormV O zss X Y j) := fun j hj => by
                    by_cases e : j = k
                    · subst e
                      exact ⟨by rw [← HX.out]; exact HIN.out, ⟨fun h => absurd (by rw [HX.out, HO.out]; exact h) HNE.out, fun h => absurd (by rw [← HY.out]; exact e2) h⟩, fun h => absurd (by rw [HX.out, HO.out]; exact h) HNE.out⟩
                    · exact HJ.out j (by omega)
                  clear e2
                  go_wp2_with fail
                  refine (HI.out _).mono ?_
                  rintro e w3 ⟨rfl, rfl⟩
                  go_wp2
                  go_roundw
                  case rel => exact ⟨k + 1, by omega, by go_num, HJn, HKq⟩
                  case measure => simp [intOf]; omega
                · have he2 : (y != -1) = true := by simpa using e2
                  have HE : Hid (r = false) := HNo.out fun h => by
                    have := h.2.1.2 (by rw [← HY.out]; exact e2)
                    rw [← HX.out, ← HO.out] at this; exact HNE.out this
                  clear e2
                  go_wp2_with fail
                  refine (HI.out _).mono ?_
                  rintro e w3 ⟨rfl, rfl⟩
                  go_wp2
                  go_ret
                  exact ⟨ret_bool HE.out.symm, Bq.out⟩
          · have hi1 : ¬ (k : Int) < Y.length := by omega
            have HE : Hid (r = true) := HRY.out ⟨by have := HXL.out; have := HOL.out; omega, by have := HYL.out; have := HOL.out; omega, fun v hv => HJ.out v (by have := HXL.out; have := HYL.out; omega)⟩
            go_wp2
            go_ret
            exact ⟨ret_bool HE.out.symm, Bw.out⟩
      · have hy1 : ((Y.length : Int) != (O.length : Int)) = true := by simp; omega
        have hy2 : (Y.length != O.length) = true := by simp; omega
        have HE : Hid (r = false) := HRN.out fun h => hy (by have := h.2.1; have := HOL.out; omega)
        clear hx hy
        go_enter Tryz.func105, Tryz.ntmps105
        go_wp2_with fail
        rw [← HW1.out]
        refine HC.out.mono ?_
        rintro e w2 ⟨rfl, hb⟩
        have B2 := Lib.hid (B1.out.trans (hb.mono B1.out.size))
        have t0 := (T1.out.below hb).c0
        have r0 := (R1.out.below hb).cell0
        have r1 := (R1.out.below hb).cell1
        clear hb HC c0 c1 c2
        go_wp2
        go_ret
        exact ⟨ret_bool HE.out.symm, B2.out⟩
    · have hx1 : ((X.length : Int) != (O.length : Int)) = true := by simp; omega
      have hx2 : (X.length != O.length) = true := by simp; omega
      have HE : Hid (r = false) := HRN.out fun h => hx (by have := h.1; have := HOL.out; omega)
      clear hx
      go_enter Tryz.func105, Tryz.ntmps105
      go_wp2_with fail
      rw [← HW1.out]
      refine HC.out.mono ?_
      rintro e w2 ⟨rfl, hb⟩
      have B2 := Lib.hid (B1.out.trans (hb.mono B1.out.size))
      have t0 := (T1.out.below hb).c0
      have r0 := (R1.out.below hb).cell0
      have r1 := (R1.out.below hb).cell1
      clear hb HC c0 c1 c2
      go_wp2
      go_ret
      exact ⟨ret_bool HE.out.symm, B2.out⟩

/-- The plan with the first k vertices' choices of the other player taken out. -/
def partF6 (O Y : List Int) (who : Int) (k : Nat) : Nat → Int := fun j => if j < k ∧ nth O j ≠ who then -1 else nth Y j
theorem partF6_zero (O Y : List Int) (who : Int) : fnL Y.length (partF6 O Y who 0) = Y := by
  apply List.ext_getElem (by simp [fnL])
  intro i h1 h2
  simp only [fnL, List.getElem_map, List.getElem_range]
  unfold partF6
  rw [if_neg (by omega), nth_eq h2]
theorem partF6_set {O Y : List Int} {who : Int} {k n : Nat} (h : nth O k ≠ who) : (fnL n (partF6 O Y who k)).set k (-1) = fnL n (partF6 O Y who (k + 1)) := by
  rw [fnL_set]
  refine fnL_congr fun i _ => ?_
  unfold partF6
  by_cases e : i = k
  · subst e; simp [h]
  · have : (i < k ∧ nth O i ≠ who) ↔ (i < k + 1 ∧ nth O i ≠ who) := by omega
    simp only [if_neg e, this]
theorem partF6_same {O Y : List Int} {who : Int} {k n : Nat} (h : nth O k = who) : fnL n (partF6 O Y who k) = fnL n (partF6 O Y who (k + 1)) := by
  refine fnL_congr fun i _ => ?_
  unfold partF6
  by_cases e : i = k
  · subst e; simp [h]
  · have : (i < k ∧ nth O i ≠ who) ↔ (i < k + 1 ∧ nth O i ≠ who) := by omega
    simp only [this]
theorem ansP_fn (O Y : List Int) (who : Int) : ∀ n k, n ≤ k → ansP O Y who n = fnL n (partF6 O Y who k)
  | 0, _, _ => rfl
  | n + 1, k, h => by
    rw [ansP, fnL_succ, ansP_fn O Y who n k (by omega)]
    congr 1
    unfold partF6
    by_cases e : nth O n = who
    · rw [if_pos e, if_neg (fun hh => hh.2 e)]
    · rw [if_neg e, if_pos ⟨by omega, e⟩]

set_option maxHeartbeats 16000000 in
set_option maxRecDepth 100000 in
theorem PartOf_is {w : World} {v vl : Value} {O P X Y r : List Int} {zss : List (List Int)} {who : Int} (hr : partL O zss P X Y who = r) (h : GameAt w v O zss P) (ha : LassoAt w vl X Y) :
    Calls Tryz.prog 69 #[v, vl, .int .i64 who] w (GivesInts w r) := by
  have HGm := Lib.hid h
  have HAn := Lib.hid ha
  obtain ⟨ao, an, ap, co, cn, cp, A, C, rfl, h1, h2, h3⟩ := h
  obtain ⟨ax, ay, cx, cy, rfl, hX, hY⟩ := ha
  have HOi := Lib.hid h1
  have HYi := Lib.hid hY
  obtain ⟨w1, hw1⟩ : ∃ y, y = (w.alloc (.cells #[.slice ao O.length co, .slice an zss.length cn, .slice ap P.length cp] 32)).alloc (.cells #[.slice ax X.length cx, .slice ay Y.length cy] 59) := ⟨_, rfl⟩
  have HW1 := Lib.hid hw1
  have B1 : Hid (Below w.heap.size w w1) := by rw [hw1]; exact below2 _ _ _
  have T1 : Hid (Box3 w1 w.heap.size 32 (.slice ao O.length co) (.slice an zss.length cn) (.slice ap P.length cp)) := by
    rw [hw1]; exact (Box3.new w 32 (.slice ao O.length co) (.slice an zss.length cn) (.slice ap P.length cp)).below (below1 _ _)
  have R1 : Hid (Box2 w1 (w.heap.size + 1) 59 (.slice ax X.length cx) (.slice ay Y.length cy)) := by rw [hw1]; exact Box2.new_at (by simp) _ _ _
  have c0 := T1.out.c0
  have c1 := T1.out.c1
  have c2 := T1.out.c2
  have d0 := R1.out.cell0
  have d1 := R1.out.cell1
  rw [hw1] at c0 c1 c2 d0 d1
  clear hw1 h1 h2 h3 hX hY
  obtain ⟨bf, hf⟩ : ∃ b, formB O zss P X Y = b := ⟨_, rfl⟩
  have HC := Lib.hid (isAnswer_is hf (HGm.out.below B1.out) (HAn.out.below B1.out))
  cases bf with
  | false =>
    have HE : Hid (r = []) := by rw [← hr]; unfold partL; rw [hf]; simp [Hid]
    clear hr hf
    go_enter Tryz.func69, Tryz.ntmps69
    go_wp2_with fail
    rw [← HW1.out]
    refine HC.out.mono ?_
    rintro e w2 ⟨rfl, hb⟩
    have B2 := Lib.hid (B1.out.trans (hb.mono B1.out.size))
    clear hb HC c0 c1 c2 d0 d1
    go_wp2
    go_ret
    exact ⟨_, rfl, by rw [HE.out]; exact OwnInts.nil _ _ _, B2.out⟩
  | true =>
    obtain ⟨bi, hbi⟩ : ∃ b, inB who 0 1 = b := ⟨_, rfl⟩
    have HI := Lib.hid (fun W => isPlayer_is hbi W)
    cases bi with
    | false =>
      have HE : Hid (r = []) := by rw [← hr]; unfold partL; rw [hbi]; simp [Hid]
      clear hr hf hbi
      go_enter Tryz.func69, Tryz.ntmps69
      go_wp2_with fail
      rw [← HW1.out]
      refine HC.out.mono ?_
      rintro e w2 ⟨rfl, hb⟩
      have B2 := Lib.hid (B1.out.trans (hb.mono B1.out.size))
      clear hb HC c0 c1 c2 d0 d1
      go_wp2_with fail
      refine (HI.out _).mono ?_
      rintro e w3 ⟨rfl, rfl⟩
      go_wp2
      go_ret
      exact ⟨_, rfl, by rw [HE.out]; exact OwnInts.nil _ _ _, B2.out⟩
    | true =>
      have hff := formB_iff.1 hf
      have hPA := parityB_iff.1 hff.1
      have HYL : Hid (Y.length = O.length) := by have := hff.2.2.1; have := hPA.2.1; unfold Hid; omega
      have HO2 : Hid (0 < O.length ∧ O.length ≤ 256) := by have := hPA.1.1; have := hPA.1.2.1; unfold Hid; omega
      have HE : Hid (r = fnL Y.length (partF6 O Y who Y.length)) := by rw [← hr]; unfold partL; rw [if_pos ⟨hf, hbi⟩, ansP_fn O Y who Y.length Y.length (Nat.le_refl _)]; rfl
      have HCl : Hid (∀ W, Below w.heap.size w W → Calls Tryz.prog 107 #[.slice ay Y.length cy] W (GivesInts W Y)) := fun W hb => Clone_is cy (HYi.out.below hb)
      clear hr hf hbi hff hPA
      go_enter Tryz.func69, Tryz.ntmps69
      go_wp2_with fail
      rw [← HW1.out]
      refine HC.out.mono ?_
      rintro e w2 ⟨rfl, hb⟩
      have B2 := Lib.hid (B1.out.trans (hb.mono B1.out.size))
      have T2 := Lib.hid (T1.out.below hb)
      have R2 := Lib.hid (R1.out.below hb)
      clear hb HC c0 c1 c2 d0 d1
      go_wp2_with fail
      refine (HI.out _).mono ?_
      rintro e w3 ⟨rfl, rfl⟩
      have r1 := R2.out.cell1
      go_wp2_with fail
      refine (HCl.out _ B2.out).mono ?_
      rintro e w4 ⟨x, rfl, hx, hb⟩
      obtain ⟨pa, pc, hxs, -, hxg⟩ := hx.shape
      obtain ⟨pg, rfl, hg1, hg2, -, -⟩ := hxg (by have := HYL.out; have := HO2.out; omega)
      subst hxs
      have B4 := Lib.hid (B2.out.trans (hb.mono B2.out.size))
      have t0 := (T2.out.below hb).c0
      have X4 : Hid (OwnInts w4 w2.heap.size w4.heap.size (.slice (some ⟨pg, 0, none⟩) Y.length pc) (fnL Y.length (partF6 O Y who 0))) := by rw [partF6_zero]; exact hx
      have HPG := Lib.hid hg1
      have K4 : Hid (Below w2.heap.size w2 w4) := hb
      clear hb hx hxg hg1 hg2 r1 HCl
      go_wp2
      clear t0
      go_loopw [26] (fun iv wr => ∃ k : Nat, k ≤ O.length ∧ iv = .int .i64 k ∧ Hid (OwnInts wr w2.heap.size w4.heap.size (.slice (some ⟨pg, 0, none⟩) Y.length pc) (fnL Y.length (partF6 O Y who k))) ∧ Hid (Below w2.heap.size w2 wr)) (fun iv _ => O.length - (intOf iv).toNat)
      case atStart => exact ⟨0, Nat.zero_le _, rfl, X4, K4⟩
      case round =>
        clear X4 K4
        obtain ⟨k, hk, rfl, HX, HK⟩ := hrel
        have Bw := Lib.hid (B2.out.trans (HK.out.mono B2.out.size))
        have hO2 := HO2.out
        by_cases hlt : k < O.length
        · have hi1 : (k : Int) < O.length := by omega
          have hk0 : (0 : Int) ≤ (k : Int) := by omega
          have hkY : k < Y.length := by have := HYL.out; omega
          have hi2 : (k : Int) < Y.length := by omega
          obtain ⟨ob, oo, hoa, hoc⟩ := (HOi.out.below Bw.out).cell (by omega)
          have o1 := hoc k hlt
          obtain ⟨o, ho⟩ : ∃ o, o = nth O k := ⟨_, rfl⟩
          rw [← ho] at o1
          subst hoa
          clear hoc
          by_cases e : o = who
          · have he : (o != who) = false := by simpa using e
            have HXn : Hid (OwnInts wr w2.heap.size w4.heap.size (.slice (some ⟨pg, 0, none⟩) Y.length pc) (fnL Y.length (partF6 O Y who (k + 1)))) := by
              rw [← partF6_same (by rw [← ho]; exact e)]; exact HX.out
            clear e ho
            go_wp2
            go_roundw
            case rel => exact ⟨k + 1, by omega, by go_num, HXn, HK⟩
            case measure => simp [intOf]; omega
          · have he : (o != who) = true := by simpa using e
            have hlen : (fnL Y.length (partF6 O Y who k)).length = Y.length := fnL_len _ _
            have hst := HX.out.store (n := Y.length) hlen.symm (j := k) (by rw [hlen]; exact hkY) (x := -1) (by unfold Fits; omega)
            rw [partF6_set (by rw [← ho]; exact e)] at hst
            have HST := Lib.hid hst
            have hown := HX.out.own
            rw [hlen] at hown
            have hc : ∃ u, wr.cell? ⟨pg, k, none⟩ = some u := by
              rw [hown.cellAt k (by omega), List.getElem?_eq_getElem (by simpa [fnL] using hkY)]
              exact ⟨_, rfl⟩
            obtain ⟨cu, hcu⟩ := hc
            have hfz : wr.frozen? ⟨pg, k, none⟩ = false := hown.frozenAt k
            have HKn : Hid (Below w2.heap.size w2 (wr.setCell ⟨pg, k, none⟩ (.int .i64 (-1)))) := HK.out.setCell (p := ⟨pg, k, none⟩) HPG.out _
            clear e ho hst hlen hown
            go_wp2
            go_roundw
            case rel => exact ⟨k + 1, by omega, by go_num, HST, HKn⟩
            case measure => simp [intOf]; omega
        · have hi1 : ¬ (k : Int) < O.length := by omega
          have hkk : k = Y.length := by have := HYL.out; omega
          rw [hkk] at HX
          have hsz := HK.out.size
          have HXf : Hid (OwnInts wr w.heap.size wr.heap.size (.slice (some ⟨pg, 0, none⟩) Y.length pc) (fnL Y.length (partF6 O Y who Y.length))) := (HX.out.base B2.out.size).retop
          clear hkk HX
          go_wp2
          go_ret
          exact ⟨_, rfl, by rw [HE.out]; exact HXf.out, Bw.out⟩

end Go.Proofs.YtokcinhopajniaaGreatDoor
