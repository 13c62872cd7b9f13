/-
  The walk of the law FnExactAttract.
-/
import Derived.Test.YthelpfilgamdfaaInts
import Derived.Test.YthelpfilgamdfaaAttractImpl
import Derived.Deep.RegionHeld3
namespace Go.Proofs.Ythelpfilgamdfaa
open Go.RowKit

set_option maxHeartbeats 8000000 in
set_option maxRecDepth 100000 in
theorem lawAttract {w : World} {va : Value} {O : List Int} {zss : List (List Int)} {n0 : Int} {aS0 : Option Addr} {S0 : List Int} {cs0 : Nat} {aS1 : Option Addr} {S1 : List Int} {cs1 : Nat} (hA : ArenaAt w va O zss) (hS0 : IntsAt w aS0 S0) (hS1 : IntsAt w aS1 S1) :
    Calls Try.prog 6 #[va, .int .i64 n0, .slice aS0 S0.length cs0, .slice aS1 S1.length cs1] w fun e w' => e = .returned (.bool true) ∧ Below w.heap.size w w' := by
  have HA := Lib.hid hA
  obtain ⟨ao, an, co, cn, A, C, rfl, h1, h2⟩ := hA
  clear h1 h2
  have B1 := Lib.hid (below1 w (.cells #[.slice ao O.length co, .slice an zss.length cn] 46))
  have HS0i := Lib.hid hS0
  have hlS0 := hS0.len
  clear hS0
  have HS1i := Lib.hid hS1
  have hlS1 := hS1.len
  clear hS1
  by_cases hbig0 : (1048576 : Int) < S0.length
  · go_enter Try.func6, Try.ntmps6
    go_wp2
    go_ret
    exact ⟨rfl, B1.out⟩
  have hsm0 : (S0.length : Int) ≤ 1048576 := by omega
  have hsmN0 : S0.length ≤ 1048576 := by omega
  clear hbig0
  by_cases hbig1 : (1048576 : Int) < S1.length
  · go_enter Try.func6, Try.ntmps6
    go_wp2
    go_ret
    exact ⟨rfl, B1.out⟩
  have hsm1 : (S1.length : Int) ≤ 1048576 := by omega
  have hsmN1 : S1.length ≤ 1048576 := by omega
  clear hbig1
  by_cases hs : (1048576 : Int) < sizeArena O zss
  · have HS := Lib.hid (szArena_at (leftOf_no hs) (HA.out.below B1.out) (by omega) (by omega))
    clear hs
    go_enter Try.func6, Try.ntmps6
    go_wp2_with (go_at_call 28; refine HS.out.mono ?_; rintro e w2 ⟨rfl, hb⟩; have B2 := Lib.hid (B1.out.trans (hb.mono B1.out.size)); clear hb)
    go_ret
    exact ⟨rfl, B2.out⟩
  have hle : (sizeArena O zss : Int) ≤ 1048576 := by omega
  have HLE : Hid (sizeArena O zss ≤ 1048576) := by simp only [Hid]; omega
  have hn : zss.length ≤ 1048576 := by have := sizeArena_rows hle; omega
  obtain ⟨m, hm⟩ : ∃ m, leftOf 1048576 (sizeArena O zss) = m := ⟨_, rfl⟩
  have hm0 : 0 ≤ m := by rw [← hm, leftOf_yes hle]; omega
  have HS := Lib.hid (szArena_at hm (HA.out.below B1.out) (by omega) (by omega))
  obtain ⟨r0, hr0⟩ : ∃ r, attractL O zss n0 S0 S1 = r := ⟨_, rfl⟩
  have R0 := Lib.hid hr0
  obtain ⟨mk0, hmk0⟩ : ∃ r : Int, 1 + (O.length : Int) + (sumLen zss zss.length : Int) = r := ⟨_, rfl⟩
  have MK0 := Lib.hid hmk0
  have hmkl0 : 0 ≤ mk0 := by omega
  have hmku0 : mk0 ≤ 1048577 := by have := HLE.out; unfold sizeArena at this; omega
  obtain ⟨mk1, hmk1⟩ : ∃ r : Int, mk0 + (S0.length : Int) = r := ⟨_, rfl⟩
  have MK1 := Lib.hid hmk1
  have hmkl1 : 0 ≤ mk1 := by omega
  have hmku1 : mk1 ≤ 2097153 := by omega
  obtain ⟨mk2, hmk2⟩ : ∃ r : Int, mk1 + (S1.length : Int) = r := ⟨_, rfl⟩
  have MK2 := Lib.hid hmk2
  have hmkl2 : 0 ≤ mk2 := by omega
  have hmku2 : mk2 ≤ 3145729 := by omega
  obtain ⟨mg, hmg⟩ : ∃ r : Int, 1 + (r0.length : Int) = r := ⟨_, rfl⟩
  have MG := Lib.hid hmg
  have hmg0 : 0 ≤ mg := by omega
  have hmgn : (mg != mg) = false := by simp
  clear hs hm hle hr0 hmg hmk0 hmk1 hmk2
  go_enter Try.func6, Try.ntmps6
  go_wp2_with fail
  refine HS.out.mono ?_
  rintro e w2 ⟨rfl, hb⟩
  have B2 := Lib.hid (B1.out.trans (hb.mono B1.out.size))
  have b2 := Lib.hid ((Box2.new w 46 (.slice ao O.length co) (.slice an zss.length cn)).below hb)
  clear hb
  have c0 := b2.out.cell0
  have c1 := b2.out.cell1
  go_wp2_with fail
  refine (toArena_at (HA.out.below B2.out) hn).mono ?_
  rintro e p0 ⟨rfl, hc, hat⟩
  have Bp0 := Lib.hid (B2.out.trans (hc.below.mono B2.out.size))
  have bp0 := Lib.hid (b2.out.below hc.below)
  have Ap0 := Lib.hid hat
  clear hc hat c0 c1
  go_wp2_with fail
  refine (toInts_at ⟨_, _, rfl, HS0i.out.below Bp0.out⟩).mono ?_
  rintro e p1 ⟨up0, rfl, hu, hb⟩
  obtain ⟨upa0, upc0, hus, hui, _⟩ := hu.shape
  subst hus
  have Bp1 := Lib.hid (Bp0.out.trans (hb.mono Bp0.out.size))
  have bp1 := Lib.hid (bp0.out.below hb)
  have Ap1 := Lib.hid (Ap0.out.below hb)
  have Up0_1 := Lib.hid hui
  clear hu hui hb
  go_wp2_with fail
  refine (toInts_at ⟨_, _, rfl, HS1i.out.below Bp1.out⟩).mono ?_
  rintro e p2 ⟨up1, rfl, hu, hb⟩
  obtain ⟨upa1, upc1, hus, hui, _⟩ := hu.shape
  subst hus
  have Bp2 := Lib.hid (Bp1.out.trans (hb.mono Bp1.out.size))
  have bp2 := Lib.hid (bp1.out.below hb)
  have Ap2 := Lib.hid (Ap1.out.below hb)
  have Up0_2 := Lib.hid (Up0_1.out.below hb)
  have Up1_2 := Lib.hid hui
  clear hu hui hb
  go_wp2_with fail
  refine (specAttract_is upc0 upc1 R0.out Ap2.out Up0_2.out Up1_2.out).mono ?_
  rintro e w4 ⟨vw, rfl, hg, hb⟩
  have Z4 := Lib.hid hg.v
  have B4 := Lib.hid (Bp2.out.trans (hb.mono Bp2.out.size))
  have b4 := Lib.hid (bp2.out.below hb)
  clear hb hg
  have c0 := b4.out.cell0
  have c1 := b4.out.cell1
  go_wp2_with fail
  refine (toArena_at (HA.out.below B4.out) hn).mono ?_
  rintro e w5 ⟨rfl, hc, hat⟩
  have B5 := Lib.hid (B4.out.trans (hc.below.mono B4.out.size))
  have b5 := Lib.hid (b4.out.below hc.below)
  have K5 := Lib.hid hc.below
  have X5 := Lib.hid (hc.owned (HA.out.below B4.out))
  clear hc hat c0 c1
  go_wp2_with fail
  obtain ⟨q0, hq0⟩ : ∃ x, x = w5.alloc (.cells #[.slice (some ⟨w4.heap.size + 3, 0, none⟩) O.length O.length, .slice (some ⟨w4.heap.size + 4, 0, none⟩) zss.length zss.length] 30) := ⟨_, rfl⟩
  rw [← hq0]
  have hb6 : Below w5.heap.size w5 q0 := by rw [hq0]; exact below1 _ _
  have xq0 : Hid (Box2 q0 w5.heap.size 30 (.slice (some ⟨w4.heap.size + 3, 0, none⟩) O.length O.length) (.slice (some ⟨w4.heap.size + 4, 0, none⟩) zss.length zss.length)) := by rw [hq0]; exact Box2.new _ _ _ _
  have hs56 : q0.heap.size = w5.heap.size + 1 := by rw [hq0]; simp
  have Bq0 := Lib.hid (B5.out.trans (hb6.mono B5.out.size))
  have Kq0 := Lib.hid (K5.out.trans (hb6.mono K5.out.size))
  have bq0 := Lib.hid (b5.out.below hb6)
  have Xq0 := Lib.hid (X5.out.below hb6)
  have HS56 := Lib.hid hs56
  clear hq0 hb6 hs56
  refine (toInts_at ⟨_, _, rfl, HS0i.out.below Bq0.out⟩).mono ?_
  rintro e q1 ⟨uq0, rfl, hu, hb⟩
  obtain ⟨uqa0, uqc0, hus, hui, _⟩ := hu.shape
  subst hus
  have Bq1 := Lib.hid (Bq0.out.trans (hb.mono Bq0.out.size))
  have Kq1 := Lib.hid (Kq0.out.trans (hb.mono Kq0.out.size))
  have bq1 := Lib.hid (bq0.out.below hb)
  have xq1 := Lib.hid (xq0.out.below hb)
  have Xq1 := Lib.hid (Xq0.out.below hb)
  have hsq0 : q0.heap.size ≤ q1.heap.size := hb.size
  have HSq0 := Lib.hid hsq0
  have Uq0_1 := Lib.hid hu
  clear hu hui hb hsq0
  go_wp2_with fail
  refine (toInts_at ⟨_, _, rfl, HS1i.out.below Bq1.out⟩).mono ?_
  rintro e q2 ⟨uq1, rfl, hu, hb⟩
  obtain ⟨uqa1, uqc1, hus, hui, _⟩ := hu.shape
  subst hus
  have Bq2 := Lib.hid (Bq1.out.trans (hb.mono Bq1.out.size))
  have Kq2 := Lib.hid (Kq1.out.trans (hb.mono Kq1.out.size))
  have bq2 := Lib.hid (bq1.out.below hb)
  have xq2 := Lib.hid (xq1.out.below hb)
  have Xq2 := Lib.hid (Xq1.out.below hb)
  have hsq1 : q1.heap.size ≤ q2.heap.size := hb.size
  have HSq1 := Lib.hid hsq1
  have Uq0_2 := Lib.hid (Uq0_1.out.below hb)
  have Uq1_2 := Lib.hid hu
  clear hu hui hb hsq1
  have c0 := xq2.out.cell0
  have c1 := xq2.out.cell1
  go_wp2_with fail
  have Ui0 := Lib.hid (show IntsAt q2 uqa0 S0 by obtain ⟨a', c', hv', hi', _⟩ := Uq0_2.out.shape; cases hv'; exact hi')
  have Ui1 := Lib.hid (show IntsAt q2 uqa1 S1 by obtain ⟨a', c', hv', hi', _⟩ := Uq1_2.out.shape; cases hv'; exact hi')
  refine (Attract_is uqc0 uqc1 R0.out Xq2.out.at Ui0.out Ui1.out).mono ?_
  rintro e w7 ⟨vg, rfl, hg, hb⟩
  clear c0 c1 Ui0 Ui1
  have hs7 : q2.heap.size ≤ w7.heap.size := hb.size
  have HS7 := Lib.hid hs7
  have B7 := Lib.hid (Bq2.out.trans (hb.mono Bq2.out.size))
  have K7 := Lib.hid (Kq2.out.trans (hb.mono Kq2.out.size))
  have b7 := Lib.hid (bq2.out.below hb)
  have x7 := Lib.hid (xq2.out.below hb)
  have X7 := Lib.hid (Xq2.out.below hb)
  have U0_7 := Lib.hid (Uq0_2.out.below hb)
  have U1_7 := Lib.hid (Uq1_2.out.below hb)
  have G7 := Lib.hid hg
  clear hb hg hs7
  go_wp2_with fail
  refine (eqInts_at G7.out.v (Z4.out.below K7.out)).mono ?_
  rintro e w8 ⟨rfl, hb⟩
  have B8 := Lib.hid (B7.out.trans (hb.mono B7.out.size))
  have K8 := Lib.hid (K7.out.trans (hb.mono K7.out.size))
  have b8 := Lib.hid (b7.out.below hb)
  have x8 := Lib.hid (x7.out.below hb)
  have X8 := Lib.hid (X7.out.below hb)
  have G8 := Lib.hid (G7.out.below hb)
  have U0_8 := Lib.hid (U0_7.out.below hb)
  have U1_8 := Lib.hid (U1_7.out.below hb)
  clear hb
  have B8d := Lib.hid (B8.out).drew
  have K8d := Lib.hid (K8.out).drew
  have b8d : Hid (Box2 w8.drew _ _ _ _) := b8.out.below (Below.refl _ _).drew
  have x8d : Hid (Box2 w8.drew _ _ _ _) := x8.out.below (Below.refl _ _).drew
  have X8d : Hid (OwnArena w8.drew _ _ _ O zss) := X8.out.below (Below.refl _ _).drew
  have G8d : Hid (OwnInts w8.drew _ _ vg r0) := G8.out.below (Below.refl _ _).drew
  have U0_8d : Hid (OwnInts w8.drew _ _ _ S0) := U0_8.out.below (Below.refl _ _).drew
  have U1_8d : Hid (OwnInts w8.drew _ _ _ S1) := U1_8.out.below (Below.refl _ _).drew
  have c0 := b8.out.cell0
  have c1 := b8.out.cell1
  have c2 := x8.out.cell0
  have c3 := x8.out.cell1
  go_wp2_with fail
  go_region_held3 (fun w' => w'.cell? ⟨w.heap.size, 0, none⟩ = some (.slice ao O.length co) ∧ w'.cell? ⟨w.heap.size, 1, none⟩ = some (.slice an zss.length cn) ∧
      w'.cell? ⟨w5.heap.size, 0, none⟩ = some (.slice (some ⟨w4.heap.size + 3, 0, none⟩) O.length O.length) ∧ w'.cell? ⟨w5.heap.size, 1, none⟩ = some (.slice (some ⟨w4.heap.size + 4, 0, none⟩) zss.length zss.length))
    (first
      | go_keep
      | exact ⟨d0, d1, d2, d3⟩
      | exact ⟨e0, e1, e2, e3⟩)
    (first
      | (go_at_call 29; refine (toArena_at (HA.out.below B8d.out) hn).mono ?_; rintro e w9 ⟨rfl, hc, hat⟩; have b9 := Lib.hid (b8d.out.below hc.below); have x9 := Lib.hid (x8d.out.below hc.below); have d0 := b9.out.cell0; have d1 := b9.out.cell1; have d2 := x9.out.cell0; have d3 := x9.out.cell1; have B9 := Lib.hid (B8d.out.trans (hc.below.mono B8d.out.size)); have K9 := Lib.hid (K8d.out.trans (hc.below.mono K8d.out.size)); have A9 := Lib.hid hat; have X9 := Lib.hid (X8d.out.below hc.below); have G9 := Lib.hid (G8d.out.below hc.below); have U0_9 := Lib.hid (U0_8d.out.below hc.below); have U1_9 := Lib.hid (U1_8d.out.below hc.below); clear hc hat)
      | (go_at_call 32; refine (eqArena_at X9.out.at A9.out).mono ?_; rintro e wA ⟨rfl, hb⟩; have bA := Lib.hid (b9.out.below hb); have xA := Lib.hid (x9.out.below hb); have e0 := bA.out.cell0; have e1 := bA.out.cell1; have e2 := xA.out.cell0; have e3 := xA.out.cell1; have BA := Lib.hid (B9.out.trans (hb.mono B9.out.size)); have KA := Lib.hid (K9.out.trans (hb.mono K9.out.size)); have XA := Lib.hid (X9.out.below hb); have GA := Lib.hid (G9.out.below hb); have U0_A := Lib.hid (U0_9.out.below hb); have U1_A := Lib.hid (U1_9.out.below hb); clear hb))
  clear c0 c1 c2 c3 d0 d1 d2 d3 e0 e1 e2 e3
  go_wp2_with fail
  refine (toInts_at ⟨_, _, rfl, HS0i.out.below BA.out⟩).mono ?_
  rintro e v0 ⟨uv0, rfl, hu, hb⟩
  have Bv0 := Lib.hid (BA.out.trans (hb.mono BA.out.size))
  have Kv0 := Lib.hid (KA.out.trans (hb.mono KA.out.size))
  have xv0 := Lib.hid (xA.out.below hb)
  have Xv0 := Lib.hid (XA.out.below hb)
  have Gv0 := Lib.hid (GA.out.below hb)
  have U0_v0 := Lib.hid (U0_A.out.below hb)
  have U1_v0 := Lib.hid (U1_A.out.below hb)
  have V0 := Lib.hid hu.v
  clear hu hb
  go_wp2_with fail
  refine (eqInts_at U0_v0.out.v V0.out).mono ?_
  rintro e y0 ⟨rfl, hb⟩
  have By0 := Lib.hid (Bv0.out.trans (hb.mono Bv0.out.size))
  have Ky0 := Lib.hid (Kv0.out.trans (hb.mono Kv0.out.size))
  have xy0 := Lib.hid (xv0.out.below hb)
  have Xy0 := Lib.hid (Xv0.out.below hb)
  have Gy0 := Lib.hid (Gv0.out.below hb)
  have U0_y0 := Lib.hid (U0_v0.out.below hb)
  have U1_y0 := Lib.hid (U1_v0.out.below hb)
  clear hb
  go_wp2_with fail
  refine (toInts_at ⟨_, _, rfl, HS1i.out.below By0.out⟩).mono ?_
  rintro e v1 ⟨uv1, rfl, hu, hb⟩
  have Bv1 := Lib.hid (By0.out.trans (hb.mono By0.out.size))
  have Kv1 := Lib.hid (Ky0.out.trans (hb.mono Ky0.out.size))
  have xv1 := Lib.hid (xy0.out.below hb)
  have Xv1 := Lib.hid (Xy0.out.below hb)
  have Gv1 := Lib.hid (Gy0.out.below hb)
  have U0_v1 := Lib.hid (U0_y0.out.below hb)
  have U1_v1 := Lib.hid (U1_y0.out.below hb)
  have V1 := Lib.hid hu.v
  clear hu hb
  go_wp2_with fail
  refine (eqInts_at U1_v1.out.v V1.out).mono ?_
  rintro e y1 ⟨rfl, hb⟩
  have By1 := Lib.hid (Bv1.out.trans (hb.mono Bv1.out.size))
  have Ky1 := Lib.hid (Kv1.out.trans (hb.mono Kv1.out.size))
  have xy1 := Lib.hid (xv1.out.below hb)
  have Xy1 := Lib.hid (Xv1.out.below hb)
  have Gy1 := Lib.hid (Gv1.out.below hb)
  have U0_y1 := Lib.hid (U0_v1.out.below hb)
  have U1_y1 := Lib.hid (U1_v1.out.below hb)
  clear hb
  have c0 := xy1.out.cell0
  have c1 := xy1.out.cell1
  go_wp2_with fail
  refine (markArena_at MK0.out Xy1.out (by omega) (by omega) HLE.out).mono ?_
  rintro e t0 ⟨rfl, hx, ho⟩
  have hq0 := HSq0.out
  have hq1 := HSq1.out
  have h56 := HS56.out
  have h45 := K5.out.size
  have h04 := B4.out.size
  have h07 := HS7.out
  have Kt0 := Lib.hid (Ky1.out.trans (ho.below (B := w4.heap.size) Ky1.out.size (fun b hb => hb.1)))
  have Bt0 := Lib.hid (By1.out.trans (ho.below (B := w.heap.size) By1.out.size (fun b hb => by omega)))
  have Gt0 := Lib.hid (Gy1.out.only ho (fun g hg hb => by have := (Gy1.out.own.lt g hg).1; omega))
  have U0_t0 := Lib.hid (U0_y1.out.only ho (fun g hg hb => by have := (U0_y1.out.own.lt g hg).1; omega))
  have U1_t0 := Lib.hid (U1_y1.out.only ho (fun g hg hb => by have := (U1_y1.out.own.lt g hg).1; omega))
  clear hx ho c0 c1 hq0 hq1 h56 h45 h04 h07
  go_wp2_with fail
  refine (markInts_at MK1.out U0_t0.out (by omega) (by omega)).mono ?_
  rintro e t1 ⟨rfl, hx, ho⟩
  have hq0 := HSq0.out
  have hq1 := HSq1.out
  have h56 := HS56.out
  have h45 := K5.out.size
  have h04 := B4.out.size
  have h07 := HS7.out
  have Kt1 := Lib.hid (Kt0.out.trans (ho.below (B := w4.heap.size) Kt0.out.size (fun b hb => by omega)))
  have Bt1 := Lib.hid (Bt0.out.trans (ho.below (B := w.heap.size) Bt0.out.size (fun b hb => by omega)))
  have Gt1 := Lib.hid (Gt0.out.only ho (fun g hg hb => by have := (Gt0.out.own.lt g hg).1; omega))
  have U1_t1 := Lib.hid (U1_t0.out.only ho (fun g hg hb => by have := (U1_t0.out.own.lt g hg).1; omega))
  clear hx ho hq0 hq1 h56 h45 h04 h07
  go_wp2_with fail
  refine (markInts_at MK2.out U1_t1.out (by omega) (by omega)).mono ?_
  rintro e t2 ⟨rfl, hx, ho⟩
  have hq0 := HSq0.out
  have hq1 := HSq1.out
  have h56 := HS56.out
  have h45 := K5.out.size
  have h04 := B4.out.size
  have h07 := HS7.out
  have Kt2 := Lib.hid (Kt1.out.trans (ho.below (B := w4.heap.size) Kt1.out.size (fun b hb => by omega)))
  have Bt2 := Lib.hid (Bt1.out.trans (ho.below (B := w.heap.size) Bt1.out.size (fun b hb => by omega)))
  have Gt2 := Lib.hid (Gt1.out.only ho (fun g hg hb => by have := (Gt1.out.own.lt g hg).1; omega))
  clear hx ho hq0 hq1 h56 h45 h04 h07
  have bt2 := Lib.hid (b4.out.below Kt2.out)
  go_wp2_with fail
  refine (eqInts_at Gt2.out.v (Z4.out.below Kt2.out)).mono ?_
  rintro e wC ⟨rfl, hb⟩
  have BC := Lib.hid (Bt2.out.trans (hb.mono Bt2.out.size))
  have KC := Lib.hid (Kt2.out.trans (hb.mono Kt2.out.size))
  have GC := Lib.hid (Gt2.out.below hb)
  clear hb
  go_wp2_with fail
  refine (markInts_at MG.out GC.out (by omega) (by omega)).mono ?_
  rintro e wD ⟨rfl, hg, ho⟩
  have hq0 := HSq0.out
  have hq1 := HSq1.out
  have h56 := HS56.out
  have h45 := K5.out.size
  have h04 := B4.out.size
  have h07 := HS7.out
  have KD := Lib.hid (KC.out.trans (ho.below (B := w4.heap.size) KC.out.size (fun b hb => by omega)))
  have BD := Lib.hid (BC.out.trans (ho.below (B := w.heap.size) BC.out.size (fun b hb => by omega)))
  have GD := Lib.hid hg
  clear hg ho hq0 hq1 h56 h45 h04 h07
  go_wp2_with fail
  refine (heldInts_is MG.out GD.out.v (by omega) (by omega)).mono ?_
  rintro e wE ⟨rfl, rfl⟩
  have bD := Lib.hid (b4.out.below KD.out)
  have c0 := bD.out.cell0
  have c1 := bD.out.cell1
  go_wp2_with fail
  refine (toArena_at (HA.out.below BD.out) hn).mono ?_
  rintro e f0 ⟨rfl, hc, hat⟩
  have Bf0 := Lib.hid (BD.out.trans (hc.below.mono BD.out.size))
  have Kf0 := Lib.hid (KD.out.trans (hc.below.mono KD.out.size))
  have Gf0 := Lib.hid (GD.out.below hc.below)
  have Af0 := Lib.hid hat
  clear hc hat c0 c1
  go_wp2_with fail
  refine (toInts_at ⟨_, _, rfl, HS0i.out.below Bf0.out⟩).mono ?_
  rintro e f1 ⟨uf0, rfl, hu, hb⟩
  obtain ⟨ufa0, ufc0, hus, hui, _⟩ := hu.shape
  subst hus
  have Bf1 := Lib.hid (Bf0.out.trans (hb.mono Bf0.out.size))
  have Kf1 := Lib.hid (Kf0.out.trans (hb.mono Kf0.out.size))
  have Gf1 := Lib.hid (Gf0.out.below hb)
  have Af1 := Lib.hid (Af0.out.below hb)
  have Uf0_1 := Lib.hid hui
  clear hu hui hb
  go_wp2_with fail
  refine (toInts_at ⟨_, _, rfl, HS1i.out.below Bf1.out⟩).mono ?_
  rintro e f2 ⟨uf1, rfl, hu, hb⟩
  obtain ⟨ufa1, ufc1, hus, hui, _⟩ := hu.shape
  subst hus
  have Bf2 := Lib.hid (Bf1.out.trans (hb.mono Bf1.out.size))
  have Kf2 := Lib.hid (Kf1.out.trans (hb.mono Kf1.out.size))
  have Gf2 := Lib.hid (Gf1.out.below hb)
  have Af2 := Lib.hid (Af1.out.below hb)
  have Uf0_2 := Lib.hid (Uf0_1.out.below hb)
  have Uf1_2 := Lib.hid hui
  clear hu hui hb
  go_wp2_with fail
  refine (Attract_is ufc0 ufc1 R0.out Af2.out Uf0_2.out Uf1_2.out).mono ?_
  rintro e wG ⟨vh, rfl, hg, hb⟩
  have BG := Lib.hid (Bf2.out.trans (hb.mono Bf2.out.size))
  have KG := Lib.hid (Kf2.out.trans (hb.mono Kf2.out.size))
  have GG := Lib.hid (Gf2.out.below hb)
  have HG := Lib.hid hg.v
  clear hb hg
  go_wp2_with fail
  refine (eqInts_at HG.out (Z4.out.below KG.out)).mono ?_
  rintro e wH ⟨rfl, hb⟩
  have BH := Lib.hid (BG.out.trans (hb.mono BG.out.size))
  have GH := Lib.hid (GG.out.below hb)
  clear hb
  go_wp2_with fail
  refine (heldInts_is MG.out GH.out.v (by omega) (by omega)).mono ?_
  rintro e wI ⟨rfl, rfl⟩
  go_wp2
  go_ret
  exact ⟨rfl, BH.out⟩

end Go.Proofs.Ythelpfilgamdfaa
