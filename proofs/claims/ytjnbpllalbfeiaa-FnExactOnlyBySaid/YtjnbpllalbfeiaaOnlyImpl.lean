/-
  Contract of chapter 7: the program's OnlyBy.
-/
import Derived.Test.YtjnbpllalbfeiaaOnlySpec
import Derived.Test.YtjnbpllalbfeiaaFixedImpl
import Derived.Test.YtjnbpllalbfeiaaGameImpl
import Derived.Test.YtjnbpllalbfeiaaRegion
namespace Go.Proofs.Ytjnbpllalbfeiaa
section
open Go.RowKit

theorem fix_only {zss : List (List Int)} {Pk : List Int} : fixK zss Pk zss.length = rowsOf zss.length (onlyRow zss Pk) := rows_ext (by rw [fixK_len, rowsOf_len]) fun i hi => by
  rw [fixK_len] at hi
  rw [fixK_row hi, rowsOf_row hi]
  unfold onlyRow
  by_cases h : 0 ≤ nth Pk i
  · rw [if_pos ⟨hi, h⟩, if_pos h]
  · rw [if_neg (fun hh => h hh.2), if_neg h]

set_option linter.unusedSimpArgs false in
set_option maxHeartbeats 8000000 in
set_option maxRecDepth 100000 in
theorem OnlyBy_is {w : World} {v : Value} {O oO P oP Pk : List Int} {zss oN : List (List Int)} {aK : Option Addr} {r : Bool} (cK : Nat) (hr : onlyO O zss P Pk = oO ∧ onlyN O zss P Pk = oN ∧ onlyP O zss P Pk = oP ∧ onlyB O zss P Pk = r) (h : GameAt w v O zss P) (hK : IntsAt w aK Pk) :
    Calls Try.prog 8 #[v, .slice aK Pk.length cK] w (GivesGameB w oO oN oP r) := by
  have HGm := Lib.hid h
  have HKi := Lib.hid hK
  have hlK := hK.len
  obtain ⟨ao, an, ap, co, cn, cp, A, C, rfl, h1, h2, h3⟩ := h
  have hlO := h1.len
  obtain ⟨w1, hw1⟩ : ∃ y, y = (w.alloc (.cells #[.slice ao O.length co, .slice an zss.length cn, .slice ap P.length cp] 31)).alloc (.cells #[.slice none 0 0, .slice none 0 0, .slice none 0 0] 31) := ⟨_, rfl⟩
  have HW1 := Lib.hid hw1
  have B1 : Hid (Below w.heap.size w w1) := by rw [hw1]; exact below2 _ _ _
  have HS1 : Hid (w1.heap.size = w.heap.size + 1 + 1) := by rw [hw1]; simp [Hid]
  have T1 : Hid (Box3 w1 w.heap.size 31 (.slice ao O.length co) (.slice an zss.length cn) (.slice ap P.length cp)) := by rw [hw1]; exact (Box3.new w _ _ _ _).below (below1 _ _)
  have R1 : Hid (Box3 w1 (w.heap.size + 1) 31 (.slice none 0 0) (.slice none 0 0) (.slice none 0 0)) := by rw [hw1]; exact Box3.new2 (by simp) _ _ _ _
  have HAt : Hid (ArenaAt w (.agg #[.slice ao O.length co, .slice an zss.length cn]) O zss) := ⟨_, _, _, _, _, _, rfl, h1, h2⟩
  have HPi := Lib.hid h3
  clear hw1 h1 h2 h3 hK
  cases hp : parityB O zss P with
  | false =>
    have HE := Lib.hid (only_no hr (by unfold onlyB; rw [hp]; rfl))
    have HC := Lib.hid (ParityOk_is hp (HGm.out.below B1.out))
    clear hr hp
    go_enter Try.func8, Try.ntmps8
    go_wp2_with fail
    rw [← HW1.out]
    refine HC.out.mono ?_
    rintro e w2 ⟨rfl, hb⟩
    have B2 := Lib.hid (B1.out.trans (hb.mono B1.out.size))
    have R2 := Lib.hid (R1.out.below hb)
    have d0 := R2.out.c0
    have d1 := R2.out.c1
    have d2 := R2.out.c2
    have g0 := World.rowIs.frozen R2.out 0
    have g1 := World.rowIs.frozen R2.out 1
    have g2 := World.rowIs.frozen R2.out 2
    clear hb HC
    go_wp2
    exact bodyPost_ret (v := .tuple #[.agg #[.slice none 0 0, .slice none 0 0, .slice none 0 0], .bool false]) (by simp [results, Try.results8, go_sem, d0, d1, d2]) rfl
      ⟨_, by rw [HE.out.2.2.2], by rw [HE.out.1, HE.out.2.1, HE.out.2.2.1]; exact OwnGame.zero _ _ _, zero_stored3 B2.out (by omega)⟩
  | true =>
    have hpy := parityB_iff.1 hp
    have hzl : zss.length = O.length := hpy.1.2.2.1
    have hO256 : O.length ≤ 256 := hpy.1.2.1
    have HC := Lib.hid (ParityOk_is hp (HGm.out.below B1.out))
    by_cases hl : Pk.length = O.length
    · have HL := Lib.hid hl
      have HZL := Lib.hid hzl
      have hln : ((Pk.length : Int) != (O.length : Int)) = false := by rw [hl]; simp
      have HPB := Lib.hid hp
      have HR := Lib.hid hr
      have HO1 : Hid (0 < O.length) := hpy.1.1
      clear hr hp hl hzl hpy
      go_enter Try.func8, Try.ntmps8
      go_wp2_with fail
      rw [← HW1.out]
      refine HC.out.mono ?_
      rintro e w2 ⟨rfl, hb⟩
      have B2 := Lib.hid (B1.out.trans (hb.mono B1.out.size))
      have R2 := Lib.hid (R1.out.below hb)
      have T2 := Lib.hid (T1.out.below hb)
      have Hs12 : Hid (w1.heap.size ≤ w2.heap.size) := hb.size
      have t0 := T2.out.c0
      have t1 := T2.out.c1
      have t2 := T2.out.c2
      clear hb HC
      go_wp2
      clear t0 t1 t2
      go_loopw [23] (fun iv wr => ∃ k : Nat, k ≤ Pk.length ∧ iv = .int .i64 k ∧ Hid (∀ j, j < k → nth Pk j = -1 ∨ nth Pk j ∈ row zss j) ∧ Hid (Below w2.heap.size w2 wr)) (fun iv _ => Pk.length - (intOf iv).toNat)
      case atStart => exact ⟨0, Nat.zero_le _, rfl, fun j hj => absurd hj (Nat.not_lt_zero _), Below.refl _ _⟩
      case round =>
        obtain ⟨k, hk, rfl, HJ, HKB⟩ := hrel
        have BW := Lib.hid (B2.out.trans (HKB.out.mono B2.out.size))
        have TW := Lib.hid (T2.out.below HKB.out)
        have RW := Lib.hid (R2.out.below HKB.out)
        have t0 := TW.out.c0
        have t1 := TW.out.c1
        have t2 := TW.out.c2
        by_cases hlt : k < Pk.length
        · have hi1 : (k : Int) < Pk.length := by omega
          have hk0 : (0 : Int) ≤ (k : Int) := by omega
          obtain ⟨kb, ko, hka, hkc⟩ := (HKi.out.below BW.out).cell (by omega)
          have k1 := hkc k hlt
          obtain ⟨u, hu⟩ : ∃ u, u = nth Pk k := ⟨_, rfl⟩
          rw [← hu] at k1
          have HU := Lib.hid hu
          subst hka
          clear hkc hu
          by_cases hm : u = -1
          · subst hm
            have HJ2 : Hid (∀ j, j < k + 1 → nth Pk j = -1 ∨ nth Pk j ∈ row zss j) := fun j hj => by
              by_cases e : j = k
              · rw [e]; exact .inl HU.out.symm
              · exact HJ.out j (by omega)
            clear t0 t1 t2
            go_wp2
            go_roundw
            case rel => exact ⟨k + 1, by omega, by go_num, HJ2, HKB⟩
            case measure => simp [intOf]; omega
          · have hm1 : (u == -1) = false := beq_eq_false_iff_ne.2 hm
            have hm2 : (u != -1) = true := bne_iff_ne.2 hm
            cases hb : hasB (row zss k) u with
            | true =>
              have HLd := Lib.hid (fun (W : World) (hW : Below wr.heap.size wr W) => leads_is (w := W) (v := k) hb (by have := HL.out; have := HZL.out; omega) (HAt.out.below (BW.out.trans (hW.mono BW.out.size))))
              have HJ2 : Hid (∀ j, j < k + 1 → nth Pk j = -1 ∨ nth Pk j ∈ row zss j) := fun j hj => by
                by_cases e : j = k
                · rw [e]; exact .inr (by rw [← HU.out]; exact hasB_iff.1 hb)
                · exact HJ.out j (by omega)
              clear hm hb
              go_wp2_with (go_at_call 21; refine (HLd.out _ (Below.refl _ _)).mono ?_; rintro e w5 ⟨rfl, hb5⟩; have K5 := Lib.hid (HKB.out.trans (hb5.mono HKB.out.size)); clear hb5)
              go_roundw
              case rel => exact ⟨k + 1, by omega, by go_num, HJ2, K5⟩
              case measure => simp [intOf]; omega
            | false =>
              have HLd := Lib.hid (fun (W : World) (hW : Below wr.heap.size wr W) => leads_is (w := W) (v := k) hb (by have := HL.out; have := HZL.out; omega) (HAt.out.below (BW.out.trans (hW.mono BW.out.size))))
              have HE := Lib.hid (only_no HR.out (by
                unfold onlyB
                rw [picksB_no fun hh => ?_]
                · simp
                · rcases hh.2 k hlt with h | h
                  · exact hm (HU.out.trans h)
                  · rw [← HU.out, ← hasB_iff, hb] at h; cases h))
              clear hm hb
              go_wp2_with (go_at_call 21; refine (HLd.out _ (Below.refl _ _)).mono ?_; rintro e w5 ⟨rfl, hb5⟩; have K5 := Lib.hid (BW.out.trans (hb5.mono BW.out.size)); have R5 := Lib.hid (RW.out.below hb5); have d0 := R5.out.c0; have d1 := R5.out.c1; have d2 := R5.out.c2; have g0 := World.rowIs.frozen R5.out 0; have g1 := World.rowIs.frozen R5.out 1; have g2 := World.rowIs.frozen R5.out 2; clear hb5)
              exact bodyPost_ret (v := .tuple #[.agg #[.slice none 0 0, .slice none 0 0, .slice none 0 0], .bool false]) (by simp [results, Try.results8, go_sem, d0, d1, d2]) rfl
                ⟨_, by rw [HE.out.2.2.2], by rw [HE.out.1, HE.out.2.1, HE.out.2.2.1]; exact OwnGame.zero _ _ _, zero_stored3 K5.out (by omega)⟩
        · have hi1 : ¬ (k : Int) < Pk.length := by omega
          obtain rfl : k = Pk.length := by omega
          have HPk : Hid (PicksP zss Pk) := ⟨by rw [HL.out, HZL.out], fun j hj => HJ.out j hj⟩
          have HE := Lib.hid (only_yes HR.out (by unfold onlyB; rw [HPB.out, picksB_iff.2 HPk.out]; rfl))
          have HneG : Hid (∀ j, j < Pk.length → nth Pk j = -1 ∨ 0 ≤ nth Pk j) := fun j hj => by
            rcases HJ.out j hj with h | h
            · exact .inl h
            · right
              have hA := (parityB_iff.1 HPB.out).1
              obtain ⟨y, hy, _⟩ := (rowsP_of hA).inG j (by have := HL.out; have := HZL.out; omega) _ h
              omega
          clear t0 t1 t2
          go_wp2
          have HSw : Hid (∀ W', Below wr.heap.size wr W' → W'.cell? ⟨w.heap.size, 0, none⟩ = some (.slice ao O.length co) ∧ W'.cell? ⟨w.heap.size, 1, none⟩ = some (.slice an zss.length cn) ∧ W'.cell? ⟨w.heap.size, 2, none⟩ = some (.slice ap P.length cp)) := fun W' hb => by
            have m := TW.out.below hb
            exact ⟨m.c0, m.c1, m.c2⟩
          have Kd : Hid (Below wr.heap.size wr wr.drew) := (Below.refl _ _).drew
          refine wp_region_M (S := (fun W' => W'.cell? ⟨w.heap.size, 0, none⟩ = some (.slice ao O.length co) ∧ W'.cell? ⟨w.heap.size, 1, none⟩ = some (.slice an zss.length cn) ∧ W'.cell? ⟨w.heap.size, 2, none⟩ = some (.slice ap P.length cp))) (m := 8) (by kernel_rfl) (HSw.out _ Kd.out) (fun hHeld => ?_)
          refine wpAnyM_take (i := 0) (v := ?vm1) rfl (by kernel_rfl) (by decide) (by kernel_rfl) (by kernel_rfl) (by kernel_rfl) (fun _ _ _ h => h) (Or.inl ⟨by rfl, ?hm1⟩) (by assumption) ?_
          case hm1 => (intro w hSw; (try dsimp only at hSw); go_simp; first | done | with_reducible rfl)
          try simp only [Act.put, List.setIfInBounds_toArray, List.set_cons_zero, List.set_cons_succ]
          refine wpAnyM_take (i := 1) (v := ?vm2) rfl (by kernel_rfl) (by decide) (by kernel_rfl) (by kernel_rfl) (by kernel_rfl) (fun _ _ _ h => h) (Or.inl ⟨by rfl, ?hm2⟩) (by assumption) ?_
          case hm2 => (intro w hSw; (try dsimp only at hSw); go_simp; first | done | with_reducible rfl)
          try simp only [Act.put, List.setIfInBounds_toArray, List.set_cons_zero, List.set_cons_succ]
          refine wpAnyM_take (i := 2) (v := ?vm3) rfl (by kernel_rfl) (by decide) (by kernel_rfl) (by kernel_rfl) (by kernel_rfl) (fun _ _ _ h => h) (Or.inl ⟨by rfl, ?hm3⟩) (by assumption) ?_
          case hm3 => (intro w hSw; (try dsimp only at hSw); go_simp; first | done | with_reducible rfl)
          try simp only [Act.put, List.setIfInBounds_toArray, List.set_cons_zero, List.set_cons_succ]
          refine wpAnyM_take (i := 4) (v := ?vm4) rfl (by kernel_rfl) (by decide) (by kernel_rfl) (by kernel_rfl) (by kernel_rfl) (fun _ _ _ h => h) (Or.inl ⟨by rfl, ?hm4⟩) (by assumption) ?_
          case hm4 => (intro w hSw; (try dsimp only at hSw); go_simp; first | done | with_reducible rfl)
          try simp only [Act.put, List.setIfInBounds_toArray, List.set_cons_zero, List.set_cons_succ]
          refine wpAnyM_take (i := 5) (v := ?vm5) rfl (by kernel_rfl) (by decide) (by kernel_rfl) (by kernel_rfl) (by kernel_rfl) (fun _ _ _ h => h) (Or.inl ⟨by rfl, ?hm5⟩) (by assumption) ?_
          case hm5 => (intro w hSw; (try dsimp only at hSw); go_simp; first | done | with_reducible rfl)
          try simp only [Act.put, List.setIfInBounds_toArray, List.set_cons_zero, List.set_cons_succ]
          refine wpAnyM_one (i := 3) (by kernel_rfl) rfl (fun K hK => ?_)
          go_simp
          go_at_call 22
          refine (only_is cK (by have := HL.out; have := HZL.out; omega) (by have := HO1.out; have := HZL.out; omega) (by have := HZL.out; omega) HneG.out (HAt.out.below (BW.out.trans (Kd.out.mono BW.out.size))) (HKi.out.below (BW.out.trans (Kd.out.mono BW.out.size)))).mono ?_
          rintro e wa ⟨x, rfl, hx, hb⟩
          have X3 := Lib.hid hx
          obtain ⟨a1, e1, a2, e2, V, rfl, x1, x2, x3⟩ := hx.shape3
          rw [fixK_len]
          have Ka := Lib.hid (Kd.out.trans (hb.mono Kd.out.size))
          clear hx x1 x2 x3 hb
          go_wp2_with fail
          refine hK.out _ _ (fun _ => HSw.out _ Ka.out) (fun hHeld => ?_)
          have hHeld := hHeld (by decide)
          clear hK K
          try simp only [Act.put, List.setIfInBounds_toArray, List.set_cons_zero, List.set_cons_succ]
          refine wpAnyM_one (i := 6) (by kernel_rfl) rfl (fun K hK => ?_)
          go_simp
          go_at_call 23
          refine (Clone_is cp (HPi.out.below (BW.out.trans (Ka.out.mono BW.out.size)))).mono ?_
          rintro e wb ⟨y, rfl, hy, hb⟩
          have Y3 := Lib.hid hy
          obtain ⟨ya, yc, rfl, _, _⟩ := hy.shape
          have Kb := Lib.hid (Ka.out.trans (hb.mono Ka.out.size))
          have XB := Lib.hid (X3.out.below hb)
          have Sab : Hid (wa.heap.size ≤ wb.heap.size) := hb.size
          clear hy hb
          go_wp2_with fail
          refine hK.out _ _ (fun _ => HSw.out _ Kb.out) (fun hHeld => ?_)
          have hHeld := hHeld (by decide)
          clear hK K
          try simp only [Act.put, List.setIfInBounds_toArray, List.set_cons_zero, List.set_cons_succ]
          refine wpAnyM_take (i := 7) (v := ?vm6) rfl (by kernel_rfl) (by decide) (by kernel_rfl) (by kernel_rfl) (by kernel_rfl) (fun _ _ _ h => h) (Or.inl ⟨by rfl, ?hm6⟩) (by assumption) ?_
          case hm6 => (intro w hSw; (try dsimp only at hSw); go_simp; first | done | with_reducible rfl)
          try simp only [Act.put, List.setIfInBounds_toArray, List.set_cons_zero, List.set_cons_succ]
          have Bb := Lib.hid (BW.out.trans (Kb.out.mono BW.out.size))
          have Rb := Lib.hid (RW.out.below Kb.out)
          have s1 := HS1.out
          have s2 : w1.heap.size ≤ wr.heap.size := Nat.le_trans (Nat.le_trans (Nat.le_refl _) (show w1.heap.size ≤ w2.heap.size by have := R2.out; exact Hs12.out)) HKB.out.size
          have s3 : wr.drew.heap.size = wr.heap.size := rfl
          have s4 := Ka.out.size
          have hgame : OwnGame wb wr.heap.size wb.heap.size (.agg #[.slice a1 O.length e1, .slice a2 zss.length e2, .slice ya P.length yc]) O (rowsOf zss.length (onlyRow zss Pk)) P := by
            have h := OwnGame.of_parts (M := wa.heap.size) (O := O) (zss := fixK zss Pk zss.length) (P := P) XB.out (Y3.out.base (Nat.le_refl _)) (by omega) Sab.out
            rw [fix_only, rowsOf_len] at h
            exact h
          have hst := game_stored (w := w) (wr := wb) (t := w.heap.size + 1) (n := wr.heap.size) Rb.out hgame (by omega) (by omega) (by omega) Bb.out
          have HST := Lib.hid hst
          have d0 := Rb.out.c0
          have d1 := Rb.out.c1
          have d2 := Rb.out.c2
          have g0 := World.rowIs.frozen Rb.out 0
          have g1 := World.rowIs.frozen Rb.out 1
          have g2 := World.rowIs.frozen Rb.out 2
          clear hst hgame hHeld s1 s2 s3 s4
          refine wpAnyM_one (i := 8) (by kernel_rfl) rfl (fun K hK => ?_)
          go_simp
          refine hK.out _ _ (fun h => absurd h (by decide)) (fun _ => ?_)
          clear hK K
          try simp only [Act.put, List.setIfInBounds_toArray, List.set_cons_zero, List.set_cons_succ]
          refine wpAnyM_one (i := 9) (by kernel_rfl) rfl (fun K hK => ?_)
          go_simp
          refine hK.out _ _ (fun h => absurd h (by decide)) (fun _ => ?_)
          clear hK K
          try simp only [Act.put, List.setIfInBounds_toArray, List.set_cons_zero, List.set_cons_succ]
          refine wpAnyM_done (by kernel_rfl) ?_ _
          have u0 := HST.out.2.2.c0
          have u1 := HST.out.2.2.c1
          have u2 := HST.out.2.2.c2
          go_wp2
          exact bodyPost_ret (v := .tuple #[.agg #[.slice a1 O.length e1, .slice a2 zss.length e2, .slice ya P.length yc], .bool true]) (by simp [results, Try.results8, go_sem, u0, u1, u2]) rfl
            ⟨_, by rw [HE.out.2.2.2], by rw [HE.out.1, HE.out.2.1, HE.out.2.2.1]; exact HST.out.1, HST.out.2.1⟩
    · have HE := Lib.hid (only_no hr (by unfold onlyB; rw [picksB_no fun hh => hl (by rw [hh.1, hzl])]; simp))
      have hln : ((Pk.length : Int) != (O.length : Int)) = true := bne_iff_ne.2 (by omega)
      clear hr hp hl hzl hpy
      go_enter Try.func8, Try.ntmps8
      go_wp2_with fail
      rw [← HW1.out]
      refine HC.out.mono ?_
      rintro e w2 ⟨rfl, hb⟩
      have B2 := Lib.hid (B1.out.trans (hb.mono B1.out.size))
      have R2 := Lib.hid (R1.out.below hb)
      have T2 := Lib.hid (T1.out.below hb)
      have t0 := T2.out.c0
      have t1 := T2.out.c1
      have t2 := T2.out.c2
      have d0 := R2.out.c0
      have d1 := R2.out.c1
      have d2 := R2.out.c2
      have g0 := World.rowIs.frozen R2.out 0
      have g1 := World.rowIs.frozen R2.out 1
      have g2 := World.rowIs.frozen R2.out 2
      clear hb HC
      go_wp2
      exact bodyPost_ret (v := .tuple #[.agg #[.slice none 0 0, .slice none 0 0, .slice none 0 0], .bool false]) (by simp [results, Try.results8, go_sem, d0, d1, d2]) rfl
        ⟨_, by rw [HE.out.2.2.2], by rw [HE.out.1, HE.out.2.1, HE.out.2.2.1]; exact OwnGame.zero _ _ _, zero_stored3 B2.out (by omega)⟩
end
end Go.Proofs.Ytjnbpllalbfeiaa
