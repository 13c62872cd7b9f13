/-
  Contract: the model's InsideOf.
-/
import Derived.Test.YtmobegiojhlakaaReach
namespace Go.Proofs.Ytmobegiojhlakaa
open Go.RowKit

theorem hasB_idx {S : List Int} {x : Int} (h : hasB S x = false) : idx S x = -1 := by
  unfold idx
  rw [if_neg (fun hm => by rw [hasB_iff.2 hm] at h; cases h)]

set_option maxHeartbeats 8000000 in
set_option maxRecDepth 100000 in
theorem specInsideOf_is {w : World} {va : Value} {O P : List Int} {zss yss : List (List Int)} {aS : Option Addr} {S : List Int} {r : Bool} (cs : Nat) (hr : insideO O zss S = P ∧ insideN O zss S = yss ∧ insideB O zss S = r) (h : ArenaAt w va O zss) (hS : IntsAt w aS S) :
    Calls Try.prog 92 #[va, .slice aS S.length cs] w (GivesArenaB w P yss r) := by
  obtain ⟨j0, hj, hj0, hj1, hj2⟩ := info_parts info_int
  obtain ⟨i0, hi, hz0, hz1, hz2⟩ := info_parts info_rows
  have HAt := Lib.hid h
  have HSi := Lib.hid hS
  have hlS := hS.len
  obtain ⟨ao, an, co, cn, A, C, rfl, h1, h2⟩ := h
  have hlO := h1.len
  have HOi := Lib.hid h1
  have HNi := Lib.hid h2
  clear h1 h2 hS
  obtain ⟨W, hW⟩ : ∃ W, W = (w.alloc (.cells #[.slice ao O.length co, .slice an zss.length cn] 30)).alloc (.cells #[.slice none 0 0, .slice none 0 0] 30) := ⟨_, rfl⟩
  have HW := Lib.hid hW
  have BW : Hid (Below w.heap.size w W) := by rw [hW]; exact below2 _ _ _
  have bW : Hid (Box2 W w.heap.size 30 (.slice ao O.length co) (.slice an zss.length cn)) := by rw [hW]; exact (Box2.new w _ _ _).alloc _
  have rW : Hid (Box2 W (w.heap.size + 1) 30 (.slice none 0 0) (.slice none 0 0)) := by rw [hW]; exact Box2.new_at (by simp) _ _ _
  clear hW
  cases hA : arenaB O zss with
  | false =>
    have hno := inside_no (O := O) (zss := zss) (S := S) (fun hh => by rw [arenaB_yes hh.1] at hA; cases hA)
    have HE : Hid (P = [] ∧ yss = [] ∧ r = false) := ⟨by rw [← hr.1, hno.1], by rw [← hr.2.1, hno.2.1], by rw [← hr.2.2, hno.2.2]⟩
    have HC := Lib.hid (specArenaOk_at hA (HAt.out.below BW.out))
    clear hA hr hno
    go_enter Try.func92, Try.ntmps92
    go_wp2_with fail
    rw [← HW.out]
    refine HC.out.mono ?_
    rintro e w1 ⟨rfl, hb⟩
    have B1 := Lib.hid (BW.out.trans (hb.mono BW.out.size))
    have r1 := rW.out.below hb
    have d0 := r1.cell0
    have d1 := r1.cell1
    have g0 := r1.frozen 0
    have g1 := r1.frozen 1
    clear hb r1
    go_wp2
    exact bodyPost_ret (v := .tuple #[.agg #[.slice none 0 0, .slice none 0 0], .bool false]) (by simp [results, Try.results92, go_sem, d0, d1]) rfl
      ⟨_, by rw [HE.out.2.2], by rw [HE.out.1, HE.out.2.1]; exact ownArena_zero _ _ _, zero_stored B1.out (by omega)⟩
  | true =>
    have hP := arenaB_iff.1 hA
    have HP := Lib.hid hP
    have hO256 := hP.2.1
    have HC := Lib.hid (specArenaOk_at hA (HAt.out.below BW.out))
    clear hA
    cases hB : setB O.length S with
    | false =>
      have hno := inside_no (O := O) (zss := zss) (S := S) (fun hh => by rw [hh.2.1] at hB; cases hB)
      have HE : Hid (P = [] ∧ yss = [] ∧ r = false) := ⟨by rw [← hr.1, hno.1], by rw [← hr.2.1, hno.2.1], by rw [← hr.2.2, hno.2.2]⟩
      have HB := Lib.hid hB
      clear hB hr hno hP
      go_enter Try.func92, Try.ntmps92
      go_wp2_with fail
      rw [← HW.out]
      refine HC.out.mono ?_
      rintro e w1 ⟨rfl, hb⟩
      have B1 := Lib.hid (BW.out.trans (hb.mono BW.out.size))
      have b1 := Lib.hid (bW.out.below hb)
      have r1 := Lib.hid (rW.out.below hb)
      clear hb
      have c0 := b1.out.cell0
      have c1 := b1.out.cell1
      go_wp2_with fail
      refine (l1Set_is HB.out cs w1 (HSi.out.below B1.out) (Int.natCast_nonneg _) (by omega)).mono ?_
      rintro e w2 ⟨rfl, hq⟩
      have hd2 : Below w1.heap.size w1 w2 := below_same (Below.refl _ _) hq
      have B2 := Lib.hid (B1.out.trans (hd2.mono B1.out.size))
      have b2 := Lib.hid (b1.out.below hd2)
      have r2 := Lib.hid (r1.out.below hd2)
      clear hq hd2 c0 c1
      have d0 := r2.out.cell0
      have d1 := r2.out.cell1
      have g0 := r2.out.frozen 0
      have g1 := r2.out.frozen 1
      go_wp2
      exact bodyPost_ret (v := .tuple #[.agg #[.slice none 0 0, .slice none 0 0], .bool false]) (by simp [results, Try.results92, go_sem, d0, d1]) rfl
        ⟨_, by rw [HE.out.2.2], by rw [HE.out.1, HE.out.2.1]; exact ownArena_zero _ _ _, zero_stored B2.out (by omega)⟩
    | true =>
      have HB := Lib.hid hB
      by_cases h0 : S.length = 0
      · have hno := inside_no (O := O) (zss := zss) (S := S) (fun hh => by have := hh.2.2.1; omega)
        have HE : Hid (P = [] ∧ yss = [] ∧ r = false) := ⟨by rw [← hr.1, hno.1], by rw [← hr.2.1, hno.2.1], by rw [← hr.2.2, hno.2.2]⟩
        have hz : ((S.length : Int) == 0) = true := by simp [h0]
        clear hB hr hno h0 hP
        go_enter Try.func92, Try.ntmps92
        go_wp2_with fail
        rw [← HW.out]
        refine HC.out.mono ?_
        rintro e w1 ⟨rfl, hb⟩
        have B1 := Lib.hid (BW.out.trans (hb.mono BW.out.size))
        have b1 := Lib.hid (bW.out.below hb)
        have r1 := Lib.hid (rW.out.below hb)
        clear hb
        have c0 := b1.out.cell0
        have c1 := b1.out.cell1
        go_wp2_with fail
        refine (l1Set_is HB.out cs w1 (HSi.out.below B1.out) (Int.natCast_nonneg _) (by omega)).mono ?_
        rintro e w2 ⟨rfl, hq⟩
        have hd2 : Below w1.heap.size w1 w2 := below_same (Below.refl _ _) hq
        have B2 := Lib.hid (B1.out.trans (hd2.mono B1.out.size))
        have b2 := Lib.hid (b1.out.below hd2)
        have r2 := Lib.hid (r1.out.below hd2)
        clear hq hd2 c0 c1
        have d0 := r2.out.cell0
        have d1 := r2.out.cell1
        have g0 := r2.out.frozen 0
        have g1 := r2.out.frozen 1
        go_wp2
        exact bodyPost_ret (v := .tuple #[.agg #[.slice none 0 0, .slice none 0 0], .bool false]) (by simp [results, Try.results92, go_sem, d0, d1]) rfl
          ⟨_, by rw [HE.out.2.2], by rw [HE.out.1, HE.out.2.1]; exact ownArena_zero _ _ _, zero_stored B2.out (by omega)⟩
      · have hz : ((S.length : Int) == 0) = false := beq_eq_false_iff_ne.2 (by omega)
        have hS0 : 0 < S.length := by omega
        have hSl : S.length ≤ 256 := by
          have hq : (S.length : Int) ≤ (O.length : Int) := setB_len (Int.natCast_nonneg _) hB
          omega
        have HRises := Lib.hid (rises_of hB)
        have hlz : zss.length ≤ 256 := by rw [hP.2.2.1]; omega
        have HR := Lib.hid hr
        clear hB hr h0 hP
        go_enter Try.func92, Try.ntmps92
        go_wp2_with fail
        rw [← HW.out]
        refine HC.out.mono ?_
        rintro e w1 ⟨rfl, hb⟩
        have B1 := Lib.hid (BW.out.trans (hb.mono BW.out.size))
        have b1 := Lib.hid (bW.out.below hb)
        have r1 := Lib.hid (rW.out.below hb)
        clear hb
        have c0 := b1.out.cell0
        have c1 := b1.out.cell1
        go_wp2_with fail
        refine (l1Set_is HB.out cs w1 (HSi.out.below B1.out) (Int.natCast_nonneg _) (by omega)).mono ?_
        rintro e w2 ⟨rfl, hq⟩
        have hd2 : Below w1.heap.size w1 w2 := below_same (Below.refl _ _) hq
        have B2 := Lib.hid (B1.out.trans (hd2.mono B1.out.size))
        have b2 := Lib.hid (b1.out.below hd2)
        have r2 := Lib.hid (r1.out.below hd2)
        clear hq hd2 c0 c1
        have hs2 : w.heap.size + 2 ≤ w2.heap.size := by have := r2.out.lt; omega
        have S0 : Hid (∃ vo vn V, Half3 w (w2.alloc (.cells #[.slice none 0 0, .slice none 0 0] 30)) w2.heap.size w.heap.size vo vn V (.slice ao O.length co) (.slice an zss.length cn) (inOK S O 0) (inNK S zss 0)) :=
          ⟨_, _, _, B2.out.alloc B2.out.size _, b2.out.alloc _, Box2.new _ _ _ _, OwnInts.nil _ _ _, OwnRows.nil _ _ _, fun i hi => absurd hi (by simp [inNK])⟩
        have R0 := Lib.hid (r2.out.alloc (.cells #[.slice none 0 0, .slice none 0 0] 30))
        go_wp2
        go_loopw [7] (fun i wr => ∃ k : Nat, k ≤ S.length ∧ i = .int .i64 k ∧ Hid (∃ vo vn V, Half3 w wr w2.heap.size w.heap.size vo vn V (.slice ao O.length co) (.slice an zss.length cn) (inOK S O k) (inNK S zss k)) ∧ Hid (Box2 wr (w.heap.size + 1) 30 (.slice none 0 0) (.slice none 0 0)) ∧ Hid (∀ i, i < k → 0 < (inRow S zss i).length)) (fun i _ => S.length - (intOf i).toNat)
        case atStart => exact ⟨0, Nat.zero_le _, rfl, S0, R0, fun i hi => absurd hi (Nat.not_lt_zero _)⟩
        case round =>
          clear S0 R0
          obtain ⟨k, hk, rfl, HS, HRr, HG⟩ := hrel
          by_cases hlt : k < S.length
          · obtain ⟨vo, vn, V, hh⟩ := HS.out
            have HH := Lib.hid hh
            clear hh
            have hbw := HH.out.below.size
            have oW : Hid ((wr.alloc (.cells #[] 2)).ownsRow wr.heap.size 2 1 (.slice (some ⟨wr.heap.size, 0, none⟩) 0 0) 0 []) := World.ownsRow_made wr #[] 0 (Nat.le_refl _) (by unfold maxLen; omega) rfl
            have B0 : Hid (Below wr.heap.size wr (wr.alloc (.cells #[] 2))) := below1 _ _
            obtain ⟨h0, h1, _⟩ := setB_bounds HB.out hlt
            obtain ⟨v, hv⟩ : ∃ v : Nat, nth S k = v := ⟨(nth S k).toNat, by omega⟩
            have hvO : v < O.length := by omega
            have hvz : v < zss.length := by rw [HP.out.2.2.1]; exact hvO
            have HV := Lib.hid hv
            clear h0 h1 hv
            have hl16 := (HP.out.2.2.2 v hvO).2.2.1
            have hrowE : Hid (places S (row zss v) (row zss v).length = inRow S zss k) := by unfold inRow Hid; rw [HV.out, Int.toNat_natCast]
            have hi1 : (k : Int) < S.length := by omega
            have hi2 : (v : Int) < zss.length := by omega
            have hi3 : (v : Int) < O.length := by omega
            go_wp2
            obtain ⟨wo, hwo⟩ : ∃ wo, wo = wr := ⟨_, rfl⟩
            go_loopw [8, 9] (fun u j wi => ∃ q : Nat, q ≤ (row zss v).length ∧ j = .int .i64 q ∧ Hid (wi.ownsRow wo.heap.size 2 1 u (places S (row zss v) q).length ((places S (row zss v) q).map (Value.int .i64))) ∧ Hid (Below wo.heap.size wo wi)) (fun _ j _ => (row zss v).length - (intOf j).toNat)
            case atStart => exact ⟨0, Nat.zero_le _, rfl, by rw [hwo]; exact oW, by rw [hwo]; exact B0⟩
            case round =>
              clear oW B0
              subst hwo
              obtain ⟨q, hq, rfl, HU, HBi⟩ := hrel
              have HHi := Lib.hid (HH.out.keep HBi.out)
              have bc1 := HHi.out.box.cell1
              obtain ⟨bs, offs, ha, hc⟩ := (HSi.out.below HHi.out.below).cell (by omega)
              subst ha
              have hck := hc k hlt
              rw [HV.out] at hck
              clear hc
              have N1 := Lib.hid (HNi.out.below HHi.out.below)
              obtain ⟨bn, offn, ha, hc⟩ := N1.out.cell (by omega)
              subst ha
              have hcn := hc v hvz
              clear hc
              have hsz := HBi.out.size
              by_cases hltq : q < (row zss v).length
              · obtain ⟨b3, off3, ha3, hc3⟩ := (N1.out.rows v hvz).cell (by omega)
                have hck3 := hc3 q hltq
                have HA3 := Lib.hid ha3
                rw [ha3] at hcn
                have hi4 : (q : Int) < (row zss v).length := by omega
                clear hc3 ha3
                go_wp2
                go_quiet (fail)
                go_wp2
                obtain ⟨w5, hw5⟩ : ∃ w5, w5 = wr.drewN nq := ⟨_, rfl⟩
                rw [← hw5]
                have B5 : Hid (Below wr.heap.size wr w5) := by rw [hw5]; exact below_drewN (Below.refl _ _) _
                clear hw5
                have bc1' := Below.cell_some (B := 0) B5.out rfl bc1
                have hck' := Below.cell_some (B := 0) B5.out rfl hck
                have hcn' := Below.cell_some (B := 0) B5.out rfl hcn
                have hck3' := Below.cell_some (B := 0) B5.out rfl hck3
                have HU5 := Lib.hid (ownsRow_only HU.out (S := fun _ => False) (Only.of_below B5.out) (fun _ _ h => h))
                have HB5 := Lib.hid (HBi.out.trans (B5.out.mono HBi.out.size))
                have hs5 := HB5.out.size
                have HSw := Lib.hid ((HSi.out.below HHi.out.below).below B5.out)
                have hpl := places_len S (row zss v) q
                clear bc1 hck hcn hck3
                have HPL : Hid (∀ i, idx S (nth (row zss v) q) = i → ∀ m, Calls Try.prog 114 #[.slice (some ⟨bs, offs, none⟩) S.length cs, .int .i64 (nth (row zss v) q)] (w5.drewN m) fun e w' => e = .returned (.int .i64 i) ∧ w5.drewN m = w') := fun i hi m =>
                  l1Place_is hi cs (HSw.out.same ⟨m, rfl⟩)
                cases hh : hasB S (nth (row zss v) q) with
                | false =>
                  have hS1 : places S (row zss v) (q + 1) = places S (row zss v) q := by simp [places, hh]
                  have HL := Lib.hid (HPL.out (-1) (hasB_idx hh))
                  have HSV := HU5
                  rw [← hS1] at HSV
                  clear hh hS1
                  go_quiet ((go_at_call 114; exact quiet_eq (HL.out _)))
                  go_wp2
                  go_roundw
                  case rel => exact ⟨q + 1, by omega, by go_num, ownsRow_only HSV.out (S := fun _ => False) (Only.of_below (below_drewN (Below.refl _ _) _)) (fun _ _ h => h), below_drewN HB5.out _⟩
                  case measure => simp [intOf]; omega
                | true =>
                  obtain ⟨p, hp⟩ : ∃ p, idx S (nth (row zss v) q) = p := ⟨_, rfl⟩
                  have hp0 : 0 ≤ p := by rw [← hp]; exact (idx_bounds hh).1
                  have HS1 : Hid (places S (row zss v) (q + 1) = places S (row zss v) q ++ [p]) := by simp [places, hh, Hid, hp]
                  have HL := Lib.hid (HPL.out p hp)
                  clear hh hp
                  go_quiet ((go_at_call 114; exact quiet_eq (HL.out _)))
                  obtain ⟨w6, hw6⟩ : ∃ w6, w6 = w5.drewN nq := ⟨_, rfl⟩
                  rw [← hw6]
                  have B6 : Hid (Below w5.heap.size w5 w6) := by rw [hw6]; exact below_drewN (Below.refl _ _) _
                  clear hw6
                  have HU6 := Lib.hid (ownsRow_only HU5.out (S := fun _ => False) (Only.of_below B6.out) (fun _ _ h => h))
                  have HB6 := Lib.hid (HB5.out.trans (B6.out.mono HB5.out.size))
                  have hs6 := HB6.out.size
                  clear bc1' hck' hcn' hck3'
                  go_wp2_with (at_builtin; refine wpList_append_own_at _ rfl _ _ 27 rfl wo.heap.size 2 j0 (.int .i64 0) 1 8 Try.underlying27 hj hj0 hj1 hj2 rfl (by decide) _ _ _ rfl (HU6.out.alloc _) ⟨w6.heap.size, 0, none⟩ 1 1 [.int .i64 p] rfl rfl ?c1 ?c2 ?c3 ?c4 ?c5 ?_)
                  case c1 => exact cell_one_new _ _ _
                  case c2 => intro u hu; simp at hu; subst hu; rfl
                  case c3 => unfold maxLen; omega
                  case c4 => omega
                  case c5 => simp; omega
                  · intro v' w7 hown' hgrow _ _
                    have HBn := Lib.hid ((HB6.out.alloc HB6.out.size _).grown hgrow (by simp; omega) (fun g hg => (HU6.out.lt g hg).1))
                    have e1 : (places S (row zss v) (q + 1)).length = (places S (row zss v) q).length + 1 := by rw [HS1.out]; simp
                    have e2 : (places S (row zss v) (q + 1)).map (Value.int .i64) = (places S (row zss v) q).map (Value.int .i64) ++ [.int .i64 p] := by rw [HS1.out]; simp
                    have HOn := Lib.hid hown'
                    rw [← e1, ← e2] at HOn
                    clear hown' hgrow e1 e2
                    go_wp2
                    go_roundw
                    case rel => exact ⟨q + 1, by omega, by go_num, HOn, HBn⟩
                    case measure => simp [intOf]; omega
              · have hqq : q = (row zss v).length := by omega
                have hU := HU
                rw [hqq, hrowE.out] at hU
                have hpl : (inRow S zss k).length ≤ (row zss v).length := by rw [← hrowE.out]; exact places_len _ _ _
                have hfits : ∀ j, j < (inRow S zss k).length → Fits (nth (inRow S zss k) j) := by rw [← hrowE.out]; exact places_fits (by omega)
                have hu := OwnInts.mk' hU.out (by omega) hfits
                obtain ⟨au, cu, hus, _, _⟩ := hu.shape
                subst hus
                have HU3 := Lib.hid hu
                have hd : decide ((q : Int) < ((row zss v).length : Int)) = false := decide_eq_false (by omega)
                have hd2 : decide (q < (row zss v).length) = false := decide_eq_false (by omega)
                clear hU hfits hu
                have hqz : ¬ q < (row zss v).length := hltq
                go_wp2
                go_quiet (fail)
                obtain ⟨w3, hw3⟩ : ∃ w3, w3 = wr.drewN nq := ⟨_, rfl⟩
                rw [← hw3]
                have B3 : Hid (Below wr.heap.size wr w3) := by rw [hw3]; exact below_drewN (Below.refl _ _) _
                clear hw3 hqq hd hd2 hqz
                have hsz3' := B3.out.size
                have HU := Lib.hid (HU3.out.below B3.out).retop
                have HB3 := Lib.hid (HBi.out.trans (B3.out.mono HBi.out.size))
                have H3 := Lib.hid (HH.out.keep HB3.out)
                have R3 := Lib.hid (HRr.out.below HB3.out)
                have hsz3 := HB3.out.size
                have bc1' := Below.cell_some (B := 0) B3.out rfl bc1
                have hck' := Below.cell_some (B := 0) B3.out rfl hck
                clear bc1 hck hcn
                by_cases h0 : (inRow S zss k).length = 0
                · have hno := inside_no (O := O) (zss := zss) (S := S) (fun hh => by have := hh.2.2.2 k hlt; omega)
                  have HE : Hid (P = [] ∧ yss = [] ∧ r = false) := ⟨by rw [← HR.out.1, hno.1], by rw [← HR.out.2.1, hno.2.1], by rw [← HR.out.2.2, hno.2.2]⟩
                  have hzz : (((inRow S zss k).length : Int) == 0) = true := by simp [h0]
                  clear hno h0
                  have d0 := R3.out.cell0
                  have d1 := R3.out.cell1
                  have g0 := R3.out.frozen 0
                  have g1 := R3.out.frozen 1
                  go_wp2
                  exact bodyPost_ret (v := .tuple #[.agg #[.slice none 0 0, .slice none 0 0], .bool false]) (by simp [results, Try.results92, go_sem, d0, d1]) rfl
                    ⟨_, by rw [HE.out.2.2], by rw [HE.out.1, HE.out.2.1]; exact ownArena_zero _ _ _, zero_stored H3.out.below (by omega)⟩
                · have hzz : (((inRow S zss k).length : Int) == 0) = false := beq_eq_false_iff_ne.2 (by omega)
                  have HG' : Hid (∀ i, i < k + 1 → 0 < (inRow S zss i).length) := fun i hi => by
                    by_cases e : i = k
                    · subst e; omega
                    · exact HG.out i (by omega)
                  clear h0
                  obtain ⟨a1, c1, hvs, _, _⟩ := HH.out.ints.shape
                  rw [inOK_len] at hvs
                  subst hvs
                  obtain ⟨a2, c2, hvs, _, _⟩ := HH.out.rows.shape
                  rw [inNK_len] at hvs
                  subst hvs
                  have hown := H3.out.ints.own
                  rw [inOK_len] at hown
                  have HOWN := Lib.hid (ownsRow_only hown (S := fun _ => False) (Only.of_below (Below.refl _ w3).drew) (fun _ _ h => h))
                  clear hown
                  have HD : Hid (Below w3.heap.size w3 w3.drew) := (Below.refl _ _).drew
                  have H3d := Lib.hid (H3.out.keep HD.out)
                  have I1 := Lib.hid (HOi.out.below H3.out.below)
                  obtain ⟨bo, offo, ha, hc⟩ := I1.out.cell (by omega)
                  subst ha
                  have hco := hc v hvO
                  have hfo := I1.out.fits v hvO
                  have HFO := Lib.hid hfo
                  clear hc hfo
                  have bc0 := H3.out.box.cell0
                  have tc0 := H3.out.str.cell0
                  have tca := (H3d.out.str.alloc (.cells #[.int .i64 (nth O v)] 2)).cell0
                  have hbw := H3.out.below.size
                  have htl := H3.out.str.lt
                  have HSo := Lib.hid HSi.out.cell
                  have HOo := Lib.hid HOi.out.cell
                  go_wp2
                  go_region_law (refine step_append_lies _ (by rfl) _ _ _ (by rfl) w.heap.size 2 j0 (.int .i64 0) 1 8 Try.underlying27 hj hj0 hj1 hj2 rfl (by decide) (.slice a1 k c1) k ((inOK S O k).map (Value.int .i64)) (by rfl) (HOWN.out.alloc _) ⟨w3.heap.size, 0, none⟩ 1 1 [.int .i64 (nth O v)] (by rfl) (by rfl) (World.news_of_block (cs := #[.int .i64 (nth O v)]) (t := 2) (fr := (0, 0)) (heap_alloc_new w3.drew _)) (by simp [Value.oneCell']) (by omega) (by unfold maxLen; omega) (by omega) (by simp; omega) (w3.heap.size + 1) (by simp) ?_; intro g6 cap6 w6 hown6 hgrow6 hat6 hlt6; have hbx := ((H3d.out.str.alloc (.cells #[.int .i64 (nth O v)] 2))).grown (HOWN.out.alloc _) (by decide) hgrow6; have q3 := hbx.cell0; have p3 := hbx.frozen 0)
                  all_goals (
                    have h7 := (H3d.out.keep (below1 _ (.cells #[.int .i64 (nth O v)] 2))).owner (by omega) (by omega) (by rw [inOK_len]; omega) HFO.out (by rw [inOK_len]; exact hown6) hgrow6 (hat6.imp_right fun h => by simp; omega)
                    have e7 : inOK S O k ++ [nth O v] = inOK S O (k + 1) := by rw [inOK_succ, HV.out, Int.toNat_natCast]
                    rw [e7, inOK_len] at h7
                    have hu7 := ((HU.out.below (HD.out.alloc HD.out.size (.cells #[.int .i64 (nth O v)] 2))).only (Only.of_grown hgrow6) (fun g h1 h2 => by have := HH.out.ints.top g h2; have := (HU.out.own.lt g h1).1; omega))
                    have hu7' := hu7.only (Box2.set0_only (t := w2.heap.size) (.slice (some ⟨g6, 0, none⟩) (k + 1) cap6)) (fun g h1 e => hbx.not_own hu7.own (by decide) (by rw [h1, e]))
                    have hr7 := (((R3.out.below HD.out).alloc (.cells #[.int .i64 (nth O v)] 2)).grown (HOWN.out.alloc _) (by decide) hgrow6).other (a := ⟨w2.heap.size, 0, none⟩) (by show w.heap.size + 1 ≠ w2.heap.size; omega) (.slice (some ⟨g6, 0, none⟩) (k + 1) cap6)
                    obtain ⟨W7, hW7⟩ : ∃ W7, W7 = w6.setCell ⟨w2.heap.size, 0, none⟩ (.slice (some ⟨g6, 0, none⟩) (k + 1) cap6) := ⟨_, rfl⟩
                    rw [← hW7] at h7 hu7' hr7 ⊢
                    have hvu : ∀ g, (Value.slice au (inRow S zss k).length cu).ownBlock = some g → (Value.slice (some (⟨g6, 0, none⟩ : Addr)) (k + 1) cap6).ownBlock ≠ some g := fun g h1 h2 => by
                      have h3 := (HU.out.own.lt g h1).1
                      have h4 := HU.out.top g h1
                      simp [Value.ownBlock] at h2
                      subst h2
                      rcases hat6 with h | h
                      · have := HH.out.ints.top _ h; omega
                      · omega
                    have hapu : ∀ i, i < (inNK S zss k).length → ∀ g, (Value.slice au (inRow S zss k).length cu).ownBlock = some g → (V i).ownBlock ≠ some g := fun i hi g h1 h2 => by
                      have h3 := (HU.out.own.lt g h1).1
                      have h4 := (HH.out.rows.rows i hi).top g h2
                      omega
                    have H7 := Lib.hid h7
                    have HU7 := Lib.hid hu7'
                    have HR7 := Lib.hid hr7
                    have HVU := Lib.hid hvu
                    have HAPU := Lib.hid hapu
                    have HW7 := Lib.hid hW7
                    have hown7 := h7.rows.own
                    rw [inNK_len] at hown7
                    have HOWN7 := Lib.hid hown7
                    have hsz7 : w.heap.size ≤ W7.heap.size := h7.below.size
                    clear h7 e7 hu7 hu7' hr7 hvu hapu hown6 hgrow6 hat6 hbx hown7
                    clear hW7 q3 p3 tc0 tca bc0 hco
                    have t71 := H7.out.str.cell1
                    have t7f := H7.out.str.frozen 1
                    have hone : ∀ u ∈ [Value.slice au (inRow S zss k).length cu], u.oneCell' = true := by intro u hu; simp at hu; subst hu; rfl
                    have HONE := Lib.hid hone
                    clear hone
                    go_wp2_with (at_builtin; refine wpList_append_lies _ rfl _ _ 28 rfl w.heap.size 27 i0 (.slice none 0 0) 1 24 Try.underlying28 hi hz0 hz1 hz2 rfl (by decide) _ _ _ rfl (HOWN7.out.alloc _) ⟨W7.heap.size, 0, none⟩ 1 1 [.slice au (inRow S zss k).length cu] rfl rfl (cell_one_new _ _ _) HONE.out (Nat.le_refl _) (by unfold maxLen; omega) (by omega) (by simp; omega) (W7.heap.size + 1) (by simp) ?_; intro g8 cap8 w8 hown8 hgrow8 hat8 hlt8; have hbx8 := (H7.out.str.alloc (.cells #[.slice au (inRow S zss k).length cu] 27)).grown (HOWN7.out.alloc _) (by decide) hgrow8; have q8 := hbx8.cell1; have p8 := hbx8.frozen 1)
                    have h9 := (H7.out.keep (below1 _ (.cells #[.slice au (inRow S zss k).length cu] 27))).push (by omega) (by omega) (by rw [inNK_len]; omega) (HU7.out.below (below1 _ _)) HH.out.below.size HAPU.out HVU.out (by rw [inNK_len]; exact hown8) hgrow8
                    rw [← inNK_succ, inNK_len] at h9
                    have hr9 := ((HR7.out.alloc (.cells #[.slice au (inRow S zss k).length cu] 27)).grown (HOWN7.out.alloc _) (by decide) hgrow8).other (a := ⟨w2.heap.size, 1, none⟩) (by show w.heap.size + 1 ≠ w2.heap.size; omega) (.slice (some ⟨g8, 0, none⟩) (k + 1) cap8)
                    have H9 : Hid (∃ vo vn V, Half3 w (w8.setCell ⟨w2.heap.size, 1, none⟩ (.slice (some ⟨g8, 0, none⟩) (k + 1) cap8)) w2.heap.size w.heap.size vo vn V (.slice (some ⟨bo, offo, none⟩) O.length co) (.slice (some ⟨bn, offn, none⟩) zss.length cn) (inOK S O (k + 1)) (inNK S zss (k + 1))) := ⟨_, _, _, h9⟩
                    have HR9 := Lib.hid hr9
                    clear h9 hr9 hown8 hgrow8 hat8 hbx8
                    go_wp2
                    go_roundw
                    case rel => exact ⟨k + 1, by omega, by go_num, H9, HR9, HG'⟩
                    case measure => simp [intOf]; omega)
          · have hkk : k = S.length := by omega
            obtain ⟨vo, vn, V, hh⟩ := HS.out
            rw [hkk] at hh
            have hyes := inside_yes (O := O) (zss := zss) (S := S) ⟨HP.out, HB.out, hS0, fun i hi => HG.out i (by omega)⟩
            have HE : Hid (P = inOK S O S.length ∧ yss = inNK S zss S.length ∧ r = true) := ⟨by rw [← HR.out.1, hyes.1], by rw [← HR.out.2.1, hyes.2.1], by rw [← HR.out.2.2, hyes.2.2]⟩
            obtain ⟨a1, c1, hvs, _, _⟩ := hh.ints.shape
            rw [inOK_len] at hvs
            subst hvs
            obtain ⟨a2, c2, hvs, _, _⟩ := hh.rows.shape
            rw [inNK_len] at hvs
            subst hvs
            have HH := Lib.hid hh
            clear hkk hyes hh
            have t0 := HH.out.str.cell0
            have t1 := HH.out.str.cell1
            have d0 := HRr.out.cell0
            have d1 := HRr.out.cell1
            have g0 := HRr.out.frozen 0
            have g1 := HRr.out.frozen 1
            go_wp2
            have hS1 : Only (fun b => b = w.heap.size + 1) wr ((wr.setCell ⟨w.heap.size + 1, 0, none⟩ (.slice a1 S.length c1)).setCell ⟨w.heap.size + 1, 1, none⟩ (.slice a2 S.length c2)) :=
              (Box2.set0_only _).trans (Box2.set1_only _)
            have hfin : GivesArenaB w P yss r (.returned (.tuple #[.agg #[.slice a1 S.length c1, .slice a2 S.length c2], .bool true])) ((wr.setCell ⟨w.heap.size + 1, 0, none⟩ (.slice a1 S.length c1)).setCell ⟨w.heap.size + 1, 1, none⟩ (.slice a2 S.length c2)) := by
              rw [HE.out.1, HE.out.2.1, HE.out.2.2]
              exact ⟨_, rfl, ⟨_, _, V, rfl, (HH.out.ints.only hS1 (fun g hg e => HRr.out.not_own HH.out.ints.own (by decide) (by rw [hg, e]))).retop, (HH.out.rows.only hS1 (fun g hg e => HRr.out.not_own HH.out.rows.own (by decide) (by rw [hg, e])) (fun k hk g hg e => HRr.out.not_own (HH.out.rows.rows k hk).own (by decide) (by rw [hg, e]))).retop, HH.out.apart⟩,
                (HH.out.below.setCell (by show w.heap.size ≤ w.heap.size + 1; omega) _).setCell (by show w.heap.size ≤ w.heap.size + 1; omega) _⟩
            exact bodyPost_ret (v := .tuple #[.agg #[.slice a1 S.length c1, .slice a2 S.length c2], .bool true]) (by simp [results, Try.results92, go_sem, d0, d1]) rfl hfin

end Go.Proofs.Ytmobegiojhlakaa
