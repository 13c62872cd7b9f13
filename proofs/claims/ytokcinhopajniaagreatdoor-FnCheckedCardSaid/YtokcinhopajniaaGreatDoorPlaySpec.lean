/-
  Contract of chapter 5: the model's PlayOf.
-/
import Derived.Test.YtokcinhopajniaaGreatDoorPlayMath
import Derived.Test.YtokcinhopajniaaGreatDoorLasso
import Derived.Test.YtokcinhopajniaaGreatDoorBase1
import Derived.Deep.RegionHeld3
import Derived.RangeFuncBox
namespace Go.Proofs.YtokcinhopajniaaGreatDoor
open Go.RowKit

def lenV : Value → Nat
  | .slice _ n _ => n
  | _ => 0

/-- The result's box takes a play: of what was made before it. -/
theorem lasso_stored {w wr : World} {t n D : Nat} {x y a0 a1 : Value} {X Y : List Int} (hR : Box2 wr t 41 x y) (h : OwnLasso wr n D (.agg #[a0, a1]) X Y) (hn : w.heap.size ≤ n) (ht : w.heap.size ≤ t) (htn : t < n) (hb : Below w.heap.size w wr) :
    OwnLasso ((wr.setCell ⟨t, 0, none⟩ a0).setCell ⟨t, 1, none⟩ a1) w.heap.size ((wr.setCell ⟨t, 0, none⟩ a0).setCell ⟨t, 1, none⟩ a1).heap.size (.agg #[a0, a1]) X Y ∧
      Below w.heap.size w ((wr.setCell ⟨t, 0, none⟩ a0).setCell ⟨t, 1, none⟩ a1) ∧ Box2 ((wr.setCell ⟨t, 0, none⟩ a0).setCell ⟨t, 1, none⟩ a1) t 41 a0 a1 := by
  have hS : Only (fun b => b = t) wr ((wr.setCell ⟨t, 0, none⟩ a0).setCell ⟨t, 1, none⟩ a1) :=
    ((Only.refl (fun b => b = t) wr).setCell (p := ⟨t, 0, none⟩) rfl _).setCell (p := ⟨t, 1, none⟩) rfl _
  exact ⟨((h.only hS (fun g hg _ e => by omega)).base hn).retop, hb.trans (hS.below (B := w.heap.size) hb.size (fun b hb => by omega)), (hR.set0 a0).set1 a1⟩

set_option maxHeartbeats 16000000 in
set_option maxRecDepth 100000 in
theorem specPlayOf_is {w : World} {va : Value} {O E D X Y : List Int} {zss : List (List Int)} {v : Int} {aE aD : Option Addr} {r : Bool} (cE cD : Nat) (hr : playX O zss E D v = X ∧ playY O zss E D v = Y ∧ playB O zss E D v = r) (h : ArenaAt w va O zss) (hE : IntsAt w aE E) (hD : IntsAt w aD D) :
    Calls Tryz.prog 20 #[va, .slice aE E.length cE, .slice aD D.length cD, .int .i64 v] w (GivesLassoB w X Y r) := by
  obtain ⟨i0, hi, hz0, hz1, hz2⟩ := info_parts info_int
  have HAt := Lib.hid h
  obtain ⟨ao, an, co, cn, A, C, rfl, h1, h2⟩ := h
  have hlO := h1.len
  have hlE := hE.len
  have hlD := hD.len
  have HOi := Lib.hid h1
  have HEi := Lib.hid hE
  have HDi := Lib.hid hD
  obtain ⟨w1, hw1⟩ : ∃ y, y = (w.alloc (.cells #[.slice ao O.length co, .slice an zss.length cn] 30)).alloc (.cells #[.slice none 0 0, .slice none 0 0] 41) := ⟨_, rfl⟩
  have HW1 := Lib.hid hw1
  have B1 : Hid (Below w.heap.size w w1) := by rw [hw1]; exact below2 _ _ _
  have hs1 : w1.heap.size = w.heap.size + 1 + 1 := by rw [hw1]; simp
  have HS1 := Lib.hid hs1
  have T1 : Hid (Box2 w1 w.heap.size 30 (.slice ao O.length co) (.slice an zss.length cn)) := by rw [hw1]; exact (Box2.new w _ _ _).alloc _
  have R1 : Hid (Box2 w1 (w.heap.size + 1) 41 (.slice none 0 0) (.slice none 0 0)) := by rw [hw1]; exact Box2.new_at (by simp) _ _ _
  clear hw1 h1 h2 hE hD hs1
  cases hfe : fullB O zss 0 E with
  | false =>
    have HP := Lib.hid (play_no hr (by unfold playB; rw [hfe]; rfl))
    have HC := Lib.hid (specFullIn_is cE hfe (HAt.out.below B1.out) (HEi.out.below B1.out))
    clear hr hfe
    go_enter Tryz.func20, Tryz.ntmps20
    go_wp2_with fail
    rw [← HW1.out]
    refine HC.out.mono ?_
    rintro e w2 ⟨rfl, hb⟩
    have B2 := Lib.hid (B1.out.trans (hb.mono B1.out.size))
    have R2 := Lib.hid (R1.out.below hb)
    have d0 := R2.out.cell0
    have d1 := R2.out.cell1
    have g0 := R2.out.frozen 0
    have g1 := R2.out.frozen 1
    clear hb HC
    go_wp2
    exact bodyPost_ret (v := .tuple #[.agg #[.slice none 0 0, .slice none 0 0], .bool false]) (by simp [results, Tryz.results20, go_sem, d0, d1]) rfl
      ⟨_, by rw [HP.out.2.2], by rw [HP.out.1, HP.out.2.1]; exact OwnLasso.zero _ _ _, zero_stored2 B2.out (by omega)⟩
  | true =>
    have HC := Lib.hid (specFullIn_is cE hfe (HAt.out.below B1.out) (HEi.out.below B1.out))
    cases hfd : fullB O zss 1 D with
    | false =>
      have HP := Lib.hid (play_no hr (by unfold playB; rw [hfe, hfd]; rfl))
      have HFD := Lib.hid hfd
      clear hr hfe hfd
      go_enter Tryz.func20, Tryz.ntmps20
      go_wp2_with fail
      rw [← HW1.out]
      refine HC.out.mono ?_
      rintro e w2 ⟨rfl, hb⟩
      have B2 := Lib.hid (B1.out.trans (hb.mono B1.out.size))
      have R2 := Lib.hid (R1.out.below hb)
      have T2 := Lib.hid (T1.out.below hb)
      have t0 := T2.out.cell0
      have t1 := T2.out.cell1
      clear hb HC
      go_wp2_with fail
      refine (specFullIn_is cD HFD.out (HAt.out.below B2.out) (HDi.out.below B2.out)).mono ?_
      rintro e w3 ⟨rfl, hb⟩
      have B3 := Lib.hid (B2.out.trans (hb.mono B2.out.size))
      have R3 := Lib.hid (R2.out.below hb)
      have d0 := R3.out.cell0
      have d1 := R3.out.cell1
      have g0 := R3.out.frozen 0
      have g1 := R3.out.frozen 1
      clear hb t0 t1
      go_wp2
      exact bodyPost_ret (v := .tuple #[.agg #[.slice none 0 0, .slice none 0 0], .bool false]) (by simp [results, Tryz.results20, go_sem, d0, d1]) rfl
        ⟨_, by rw [HP.out.2.2], by rw [HP.out.1, HP.out.2.1]; exact OwnLasso.zero _ _ _, zero_stored2 B3.out (by omega)⟩
    | true =>
      have HFD := Lib.hid hfd
      have HFE := Lib.hid hfe
      cases hth : thereB O.length v with
      | false =>
        have HP := Lib.hid (play_no hr (by unfold playB; rw [hfe, hfd, hth]; rfl))
        have HTH := Lib.hid hth
        clear hr hfe hfd hth
        go_enter Tryz.func20, Tryz.ntmps20
        go_wp2_with fail
        rw [← HW1.out]
        refine HC.out.mono ?_
        rintro e w2 ⟨rfl, hb⟩
        have B2 := Lib.hid (B1.out.trans (hb.mono B1.out.size))
        have R2 := Lib.hid (R1.out.below hb)
        have T2 := Lib.hid (T1.out.below hb)
        have t0 := T2.out.cell0
        have t1 := T2.out.cell1
        clear hb HC
        go_wp2_with fail
        refine (specFullIn_is cD HFD.out (HAt.out.below B2.out) (HDi.out.below B2.out)).mono ?_
        rintro e w3 ⟨rfl, hb⟩
        have B3 := Lib.hid (B2.out.trans (hb.mono B2.out.size))
        have R3 := Lib.hid (R2.out.below hb)
        have T3 := Lib.hid (T2.out.below hb)
        clear hb t0 t1
        have t0 := T3.out.cell0
        have t1 := T3.out.cell1
        go_wp2_with fail
        refine (l1There_is HTH.out (HAt.out.below B3.out)).mono ?_
        rintro e w4 ⟨rfl, hb⟩
        have B4 := Lib.hid (B3.out.trans (hb.mono B3.out.size))
        have R4 := Lib.hid (R3.out.below hb)
        have d0 := R4.out.cell0
        have d1 := R4.out.cell1
        have g0 := R4.out.frozen 0
        have g1 := R4.out.frozen 1
        clear hb t0 t1
        go_wp2
        exact bodyPost_ret (v := .tuple #[.agg #[.slice none 0 0, .slice none 0 0], .bool false]) (by simp [results, Tryz.results20, go_sem, d0, d1]) rfl
          ⟨_, by rw [HP.out.2.2], by rw [HP.out.1, HP.out.2.1]; exact OwnLasso.zero _ _ _, zero_stored2 B4.out (by omega)⟩
      | true =>
        have HP := Lib.hid (play_yes hr (by unfold playB; rw [hfe, hfd, hth]; rfl))
        have HTH := Lib.hid hth
        have hv : 0 ≤ v ∧ v < O.length := by unfold thereB at hth; simpa using hth
        have HV := Lib.hid hv
        have hO256 : O.length ≤ 256 := (fullB_iff.1 hfe).1.1.2.1
        have HLE : Hid (E.length = O.length) := (fullB_iff.1 hfe).1.2.2.1
        have HLD : Hid (D.length = O.length) := (fullB_iff.1 hfd).1.2.2.1
        obtain ⟨f, hf⟩ : ∃ f, f = seqF O E D v := ⟨_, rfl⟩
        have HIn : Hid (∀ k, ∃ u : Nat, f k = (u : Int) ∧ u < O.length) := by rw [hf]; exact seq_in hfe hfd hv
        have HVs : Hid (∀ k, (∀ j, j < k → f j ∉ metK f j) → VertsP O.length (metK f k)) := by rw [hf]; exact met_verts hfe hfd hv
        have HSt : Hid (∀ k, f (k + 1) = stepF O E D (f k)) := by rw [hf]; exact fun k => rfl
        have HF0 : Hid (f 0 = v) := by rw [hf]; rfl
        have HPK : Hid (playK O E D v = firstK f (O.length + 1) 0) := by rw [hf]; rfl
        have HPI : Hid (playI O E D v = (idx (metK f (playK O E D v)) (f (playK O E D v))).toNat) := by rw [hf]; rfl
        rw [← hf] at HP
        clear hr hfe hfd hth hv hf
        go_enter Tryz.func20, Tryz.ntmps20
        go_wp2_with fail
        rw [← HW1.out]
        refine HC.out.mono ?_
        rintro e w2 ⟨rfl, hb⟩
        have B2 := Lib.hid (B1.out.trans (hb.mono B1.out.size))
        have R2 := Lib.hid (R1.out.below hb)
        have T2 := Lib.hid (T1.out.below hb)
        have t0 := T2.out.cell0
        have t1 := T2.out.cell1
        have hn2 : w1.heap.size ≤ w2.heap.size := hb.size
        clear hb HC
        go_wp2_with fail
        refine (specFullIn_is cD HFD.out (HAt.out.below B2.out) (HDi.out.below B2.out)).mono ?_
        rintro e w3 ⟨rfl, hb⟩
        have B3 := Lib.hid (B2.out.trans (hb.mono B2.out.size))
        have R3 := Lib.hid (R2.out.below hb)
        have T3 := Lib.hid (T2.out.below hb)
        have hn3 : w2.heap.size ≤ w3.heap.size := hb.size
        clear hb t0 t1
        have t0 := T3.out.cell0
        have t1 := T3.out.cell1
        go_wp2_with fail
        refine (l1There_is HTH.out (HAt.out.below B3.out)).mono ?_
        rintro e w4 ⟨rfl, hb⟩
        have hn4 : w3.heap.size ≤ w4.heap.size := hb.size
        obtain ⟨w5, hw5⟩ : ∃ y, y = w4.alloc (.cells #[] 2) := ⟨_, rfl⟩
        have HW5 := Lib.hid hw5
        have hb45 : Below w4.heap.size w4 w5 := by rw [hw5]; exact below1 _ _
        have hb35 : Below w3.heap.size w3 w5 := hb.trans (hb45.mono hb.size)
        have B5 := Lib.hid (B3.out.trans (hb35.mono B3.out.size))
        have R5 := Lib.hid (R3.out.below hb35)
        have T5 := Lib.hid (T3.out.below hb35)
        have K5 := Lib.hid hb45
        have KB := Lib.hid hb
        have O5 : Hid (w5.ownsRow w4.heap.size 2 1 (.slice (some ⟨w4.heap.size, 0, none⟩) 0 0) (metK f 0).length ((metK f 0).map (Value.int .i64))) := by rw [hw5]; exact World.ownsRow_made w4 #[] 0 (Nat.le_refl _) (by unfold maxLen; omega) rfl
        clear hb hw5 hb45 hb35 t0 t1
        go_wp2
        rw [← HW5.out]
        have hv0 : Value.int .i64 v = .int .i64 (f 0) := by rw [HF0.out]
        rw [hv0]
        clear hv0
        go_loopw [3, 10] (fun vv ov wr => ∃ (k : Nat) (uu : Value), uu = ov ∧ k ≤ O.length ∧ vv = .int .i64 (f k) ∧ lenV ov = k ∧ Hid (wr.ownsRow w4.heap.size 2 1 ov (metK f k).length ((metK f k).map (Value.int .i64))) ∧ Hid (∀ j, j < k → f j ∉ metK f j) ∧ Hid (Below w4.heap.size w4 wr) ∧ Hid (Box2 wr w.heap.size 30 (.slice ao O.length co) (.slice an zss.length cn)) ∧ Hid (Box2 wr (w.heap.size + 1) 41 (.slice none 0 0) (.slice none 0 0))) (fun _ ov _ => O.length + 1 - lenV ov)
        case atStart => exact ⟨0, _, rfl, Nat.zero_le _, rfl, rfl, O5, fun j hj => absurd hj (Nat.not_lt_zero _), K5, T5, R5⟩
        case round =>
          clear O5 K5 T5 R5
          obtain ⟨k, uu, hu0, hk, rfl, hlen, HO, HJ, HK, HT, HR⟩ := hrel
          subst hu0
          have HVk := Lib.hid (HVs.out k HJ.out)
          have HML := Lib.hid (metK_len f k)
          have hml : (metK f k).length ≤ 256 := by rw [metK_len]; omega
          obtain ⟨ma, mc, hms, hmi, _⟩ := (OwnInts.mk' HO.out (by omega) (HVk.out.fits (by omega))).shape
          have HMi := Lib.hid hmi
          subst hms
          have hln : (metK f k).length = k := metK_len f k
          have HLen := Lib.hid hlen
          have Bw := Lib.hid (B3.out.trans ((show Below w3.heap.size w3 wr from (KB.out.trans (HK.out.mono KB.out.size))).mono B3.out.size))
          have hksz := HK.out.size
          clear hmi hln hlen
          cases hh : hasB (metK f k) (f k) with
          | false =>
            have hno : f k ∉ metK f k := fun h => by unfold hasB at hh; simp [h] at hh
            have HJn : Hid (∀ j, j < k + 1 → f j ∉ metK f j) := fun j hj => by
              by_cases e : j = k
              · subst e; exact hno
              · exact HJ.out j (by omega)
            have HV1 := (HVs.out (k + 1) HJn.out).len
            have HHas := Lib.hid (l1Has_is hh mc wr HMi.out)
            have hk1 : k + 1 ≤ O.length := by rw [metK_len] at HV1; exact HV1
            obtain ⟨u, hu, hun⟩ := HIn.out k
            have HU := Lib.hid hu
            have hu0 : (0 : Int) ≤ (u : Int) := by omega
            have hu1 : (u : Int) < O.length := by omega
            have hu2 : (u : Int) < E.length := by have := HLE.out; omega
            have hu3 : (u : Int) < D.length := by have := HLD.out; omega
            rw [hu] at HHas ⊢
            clear hh hno HV1 hu
            go_wp2_with fail
            refine HHas.out.mono ?_
            rintro e w6 ⟨rfl, rfl⟩
            go_wp2_with (at_builtin; refine wpList_append_own_at _ rfl _ _ 27 rfl w4.heap.size 2 i0 (.int .i64 0) 1 8 Tryz.underlying27 hi hz0 hz1 hz2 rfl (by decide) _ _ _ rfl (HO.out.alloc _) ⟨wr.heap.size, 0, none⟩ 1 1 [.int .i64 (u : Int)] rfl rfl ?c1 ?c2 ?c3 ?c4 ?c5 ?_)
            try (case c1 => exact cell_one_new _ _ _)
            try (case c2 => first | rfl | (intro u hu; simp at hu; subst hu; rfl))
            case c3 => unfold maxLen; omega
            case c4 => omega
            case c5 => simp; omega
            intro v' w7 hown hgrow hsh _
            have hg : Only (fun b => w4.heap.size ≤ b) wr w7 := (Only.of_below (below1 wr _)).trans ((Only.of_grown hgrow).mono fun b hb => (HO.out.lt b hb).1)
            have Kn := Lib.hid (HK.out.trans (hg.below HK.out.size (fun _ h => h)))
            have Tn := Lib.hid (HT.out.only hg (by have := HS1.out; omega))
            have Rn := Lib.hid (HR.out.only hg (by have := HS1.out; omega))
            have e1 : metK f (k + 1) = metK f k ++ [(u : Int)] := by rw [metK, HU.out]
            have HOn : Hid (w7.ownsRow w4.heap.size 2 1 v' (metK f (k + 1)).length ((metK f (k + 1)).map (Value.int .i64))) := by
              rw [e1, List.map_append, List.length_append]; exact hown
            have hlv : lenV v' = k + 1 := by
              obtain ⟨g', c', rfl, _⟩ := ownsRow_succ hown
              show (metK f k).length + 1 = k + 1
              rw [metK_len]
            have HLV := Lib.hid hlv
            have Bn := Lib.hid (B3.out.trans ((show Below w3.heap.size w3 w7 from (KB.out.trans (Kn.out.mono KB.out.size))).mono B3.out.size))
            obtain ⟨ob, oo, hoa, hoc⟩ := (HOi.out.below Bn.out).cell (by omega)
            obtain ⟨eb, eo, hea, hec⟩ := (HEi.out.below Bn.out).cell (by omega)
            obtain ⟨db, dd, hda, hdc⟩ := (HDi.out.below Bn.out).cell (by omega)
            have o1 := hoc u hun
            have q1 := hec u (by omega)
            have q2 := hdc u (by omega)
            have t0 := Tn.out.cell0
            obtain ⟨o, ho⟩ : ∃ o, o = nth O u := ⟨_, rfl⟩
            have hst : f (k + 1) = if o = 0 then nth E u else nth D u := by rw [HSt.out, HU.out, ho]; unfold stepF; rw [Int.toNat_natCast]
            rw [← ho] at o1
            subst hoa
            subst hea
            subst hda
            clear hoc hec hdc hown hgrow hg hsh e1 ho hlv
            by_cases e0 : o = 0
            · have ho1 : (o == 0) = true := by simpa using e0
              rw [if_pos e0] at hst
              have HST := Lib.hid hst
              clear e0 hst
              go_wp2
              clear t0 o1 q1 q2
              go_roundw
              case rel => exact ⟨k + 1, _, rfl, by omega, by rw [HST.out], HLV.out, HOn, HJn, Kn, Tn, Rn⟩
              case measure => have := HLV.out; have := HLen.out; simp only [lenV] at *; omega
            · have ho1 : (o == 0) = false := beq_eq_false_iff_ne.2 e0
              rw [if_neg e0] at hst
              have HST := Lib.hid hst
              clear e0 hst
              go_wp2
              clear t0 o1 q1 q2
              go_roundw
              case rel => exact ⟨k + 1, _, rfl, by omega, by rw [HST.out], HLV.out, HOn, HJn, Kn, Tn, Rn⟩
              case measure => have := HLV.out; have := HLen.out; simp only [lenV] at *; omega
          | true =>
            have hin : f k ∈ metK f k := by unfold hasB at hh; simpa using hh
            have hkK : playK O E D v = k := by rw [HPK.out]; exact firstK_is hin (Nat.zero_le _) (by omega) (fun j _ hj => HJ.out j hj)
            have HHas := Lib.hid (l1Has_is hh mc wr HMi.out)
            obtain ⟨i, hidx, hik⟩ : ∃ i : Nat, idx (metK f k) (f k) = (i : Int) ∧ i < k := by
              refine ⟨(metK f k).idxOf (f k), by unfold idx; rw [if_pos hin], ?_⟩
              have := List.idxOf_lt_length_iff.2 hin
              rw [metK_len] at this
              exact this
            have HPl := Lib.hid (l1Place_is hidx mc HMi.out)
            have hPI : playI O E D v = i := by rw [HPI.out, hkK, hidx]; rfl
            have HX : Hid (X = (metK f k).take i) := by rw [HP.out.1, hkK, hPI]; rfl
            have HY : Hid (Y = (metK f k).drop i) := by rw [HP.out.2.1, hkK, hPI]; rfl
            obtain ⟨mb, mo, hma, _⟩ := HMi.out.cell (by rw [metK_len]; omega)
            subst hma
            have hcap : k ≤ mc := by
              rcases HO.out.2 with ⟨h, _⟩ | ⟨g, cap, cur, h, _, _, hc, _⟩
              · simp at h
              · simp only [Value.slice.injEq] at h
                rw [metK_len] at hc
                omega
            have hc0 : (0 : Int) ≤ (i : Int) := by omega
            have hc1 : (i : Int) ≤ (mc : Int) := by omega
            have hc2 : (i : Int) ≤ (k : Int) := by omega
            have HM0 := HMi.out
            rw [metK_len] at HHas HPl
            rw [metK_len]
            clear hh hin hkK hidx hPI HPI HPK
            go_wp2_with fail
            refine HHas.out.mono ?_
            rintro e w6 ⟨rfl, rfl⟩
            go_wp2_with fail
            refine HPl.out.mono ?_
            rintro e w7 ⟨rfl, rfl⟩
            have HC1 : Hid (∀ W, Below wr.heap.size wr W → Calls Tryz.prog 56 #[.slice (some ⟨mb, mo, none⟩) i mc] W (GivesInts W ((metK f k).take i))) := fun W hb => by
              have h := l1Copy_is mc ((HM0.takeB (i := i) (by rw [metK_len]; omega)).below hb)
              rw [show ((metK f k).take i).length = i by rw [List.length_take, metK_len]; omega] at h
              exact h
            have HC2 : Hid (∀ W, Below wr.heap.size wr W → Calls Tryz.prog 56 #[.slice (some ⟨mb, mo + i, none⟩) (k - i) (mc - i)] W (GivesInts W ((metK f k).drop i))) := fun W hb => by
              have h := l1Copy_is (mc - i) ((HM0.dropB (i := i) (by rw [metK_len]; omega)).below hb)
              rw [show ((metK f k).drop i).length = k - i by rw [List.length_drop, metK_len]] at h
              exact h
            have HL1 : Hid (((metK f k).take i).length = i) := by show _ = _; rw [List.length_take, metK_len]; omega
            have HL2 : Hid (((metK f k).drop i).length = k - i) := by show _ = _; rw [List.length_drop, metK_len]
            have Kd : Hid (Below wr.heap.size wr wr.drew) := (Below.refl _ _).drew
            clear HM0 HHas HPl
            go_wp2
            go_region_held3 (fun _ => True)
              (trivial)
              (first
                | (go_at_call 56; refine (HC1.out _ Ky.out).mono ?_; rintro e wx ⟨x, rfl, hx, hb⟩; obtain ⟨xa, xc, hxs, _, _⟩ := hx.shape; rw [HL1.out] at hxs; subst hxs; have X6 := Lib.hid hx; have Kyx := Lib.hid hb; have Kx := Lib.hid (Ky.out.trans (hb.mono Ky.out.size)); have d0 := (HR.out.below Kx.out).cell0; have d1 := (HR.out.below Kx.out).cell1; have g0 := (HR.out.below Kx.out).frozen 0; have g1 := (HR.out.below Kx.out).frozen 1; clear hx hb)
                | (go_at_call 56; refine (HC2.out _ Kx.out).mono ?_; rintro e wy ⟨x, rfl, hx, hb⟩; obtain ⟨ya, yc, hxs, _, _⟩ := hx.shape; rw [HL2.out] at hxs; subst hxs; have Y6 := Lib.hid hx; have Kxy := Lib.hid hb; have Ky := Lib.hid (Kx.out.trans (hb.mono Kx.out.size)); have d0 := (HR.out.below Ky.out).cell0; have d1 := (HR.out.below Ky.out).cell1; have g0 := (HR.out.below Ky.out).frozen 0; have g1 := (HR.out.below Ky.out).frozen 1; clear hx hb)
                | (go_at_call 56; refine (HC1.out _ Kd.out).mono ?_; rintro e wx ⟨x, rfl, hx, hb⟩; obtain ⟨xa, xc, hxs, _, _⟩ := hx.shape; rw [HL1.out] at hxs; subst hxs; have X6 := Lib.hid hx; have Kx := Lib.hid (Kd.out.trans (hb.mono Kd.out.size)); clear hx hb)
                | (go_at_call 56; refine (HC2.out _ Kd.out).mono ?_; rintro e wy ⟨x, rfl, hx, hb⟩; obtain ⟨ya, yc, hxs, _, _⟩ := hx.shape; rw [HL2.out] at hxs; subst hxs; have Y6 := Lib.hid hx; have Ky := Lib.hid (Kd.out.trans (hb.mono Kd.out.size)); clear hx hb))
            have hown : OwnLasso wy w4.heap.size wy.heap.size (.agg #[.slice xa i xc, .slice ya (k - i) yc]) X Y := by
              rw [HX.out, HY.out]
              exact OwnLasso.of_parts (M := wx.heap.size) ((X6.out.base (show w4.heap.size ≤ wr.heap.size from hksz)).below Kxy.out) (Y6.out.base (Nat.le_refl _)) (by have := Kx.out.size; omega) Kxy.out.size
            have hst := lasso_stored (w := w) (wr := wy) (t := w.heap.size + 1) (n := w4.heap.size) (HR.out.below Ky.out) hown (by have := B3.out.size; omega) (by omega) (by have := HS1.out; omega) (Bw.out.trans (Ky.out.mono Bw.out.size))
            have HST := Lib.hid hst
            have u0 := hst.2.2.cell0
            have u1 := hst.2.2.cell1
            clear hst hown
            go_wp2
            exact bodyPost_ret (v := .tuple #[.agg #[.slice xa i xc, .slice ya (k - i) yc], .bool true]) (by simp [results, Tryz.results20, go_sem, u0, u1]) rfl
              ⟨_, by rw [HP.out.2.2], HST.out.1, HST.out.2.1⟩

end Go.Proofs.YtokcinhopajniaaGreatDoor
