/-
  The walk of the law FnExactBothOf.
-/
import Derived.Test.YtbfefhbcbmieiaaBoth
import Derived.Deep.RegionHeld3
namespace Go.Proofs.Ytbfefhbcbmieiaa
open Go.RowKit

set_option maxHeartbeats 8000000 in
set_option maxRecDepth 100000 in
theorem lawBothOf {w : World} {a0 : Option Addr} {S0 : List Int} {c0 : Nat} {a1 : Option Addr} {S1 : List Int} {c1 : Nat} (h0 : IntsAt w a0 S0) (h1 : IntsAt w a1 S1) :
    Calls Try.prog 9 #[.slice a0 S0.length c0, .slice a1 S1.length c1] w fun e w' => e = .returned (.bool true) ∧ Below w.heap.size w w' := by
  have H0 := Lib.hid h0
  have hl0 := h0.len
  clear h0
  have H1 := Lib.hid h1
  have hl1 := h1.len
  clear h1
  by_cases hbig0 : (1048576 : Int) < S0.length
  · go_enter Try.func9, Try.ntmps9
    go_wp2
    go_ret
    exact ⟨rfl, Below.refl _ _⟩
  have hsm0 : (S0.length : Int) ≤ 1048576 := by omega
  have hsmN0 : S0.length ≤ 1048576 := by omega
  clear hbig0
  by_cases hbig1 : (1048576 : Int) < S1.length
  · go_enter Try.func9, Try.ntmps9
    go_wp2
    go_ret
    exact ⟨rfl, Below.refl _ _⟩
  have hsm1 : (S1.length : Int) ≤ 1048576 := by omega
  have hsmN1 : S1.length ≤ 1048576 := by omega
  clear hbig1
  obtain ⟨r0, hr0⟩ : ∃ r, bothL S0 S1 = r := ⟨_, rfl⟩
  have R0 := Lib.hid hr0
  obtain ⟨mk0, hmk0⟩ : ∃ r : Int, 1 + (S0.length : Int) = r := ⟨_, rfl⟩
  have MK0 := Lib.hid hmk0
  have hmk00 : 0 ≤ mk0 := by omega
  have hmk01 : mk0 ≤ 1048577 := by omega
  obtain ⟨mk1, hmk1⟩ : ∃ r : Int, mk0 + (S1.length : Int) = r := ⟨_, rfl⟩
  have MK1 := Lib.hid hmk1
  have hmk10 : 0 ≤ mk1 := by omega
  have hmk11 : mk1 ≤ 2097153 := by omega
  obtain ⟨mg, hmg⟩ : ∃ r : Int, 1 + (r0.length : Int) = r := ⟨_, rfl⟩
  have MG := Lib.hid hmg
  have hmg0 : 0 ≤ mg := by omega
  have hmgn : (mg != mg) = false := by simp
  clear hmg hmk0 hmk1
  clear hr0
  have B0 := Lib.hid (Below.refl w.heap.size w)
  go_enter Try.func9, Try.ntmps9
  go_wp2_with fail
  refine (toInts_at ⟨_, _, rfl, H0.out.below B0.out⟩).mono ?_
  rintro e w1 ⟨us0, rfl, hu, hb⟩
  have B1 := Lib.hid (B0.out.trans (hb.mono B0.out.size))
  obtain ⟨uas0, ucs0, hus, hui, _⟩ := hu.shape
  subst hus
  have Us0 := Lib.hid hui
  clear hu hui hb
  go_wp2_with fail
  refine (toInts_at ⟨_, _, rfl, H1.out.below B1.out⟩).mono ?_
  rintro e w2 ⟨us1, rfl, hu, hb⟩
  have B2 := Lib.hid (B1.out.trans (hb.mono B1.out.size))
  obtain ⟨uas1, ucs1, hus, hui, _⟩ := hu.shape
  subst hus
  have Us1 := Lib.hid hui
  have Ls0_2 := Lib.hid hb
  clear hu hui hb
  go_wp2_with fail
  refine (specBothOf_is R0.out ucs0 ucs1 (Us0.out.below Ls0_2.out) (Us1.out)).mono ?_
  rintro e w3 ⟨vz, rfl, hg, hb⟩
  have B3 := Lib.hid (B2.out.trans (hb.mono B2.out.size))
  have Z := Lib.hid hg.v
  clear hg hb
  obtain ⟨wz, hwz⟩ : ∃ x, x = w3 := ⟨_, rfl⟩
  rw [← hwz] at Z
  have K3 : Hid (Below wz.heap.size wz w3) := by rw [hwz]; exact Below.refl _ _
  have hzs : w.heap.size ≤ wz.heap.size := by rw [hwz]; exact B3.out.size
  have HZS := Lib.hid hzs
  clear hzs
  have HWZ := Lib.hid hwz
  clear hwz
  go_wp2_with fail
  refine (toInts_at ⟨_, _, rfl, H0.out.below B3.out⟩).mono ?_
  rintro e w4 ⟨ux0, rfl, hu, hb⟩
  have B4 := Lib.hid (B3.out.trans (hb.mono B3.out.size))
  have K4 := Lib.hid (K3.out.trans (hb.mono K3.out.size))
  obtain ⟨uax0, ucx0, hus, hui, _⟩ := hu.shape
  subst hus
  have Ux0 := Lib.hid hui
  have X04 := Lib.hid hu
  have hs4 : w3.heap.size ≤ w4.heap.size := hb.size
  have HS4 := Lib.hid hs4
  clear hu hui hb hs4
  go_wp2_with fail
  refine (toInts_at ⟨_, _, rfl, H1.out.below B4.out⟩).mono ?_
  rintro e w5 ⟨ux1, rfl, hu, hb⟩
  have B5 := Lib.hid (B4.out.trans (hb.mono B4.out.size))
  have K5 := Lib.hid (K4.out.trans (hb.mono K4.out.size))
  have X05 := Lib.hid (X04.out.below hb)
  obtain ⟨uax1, ucx1, hus, hui, _⟩ := hu.shape
  subst hus
  have Ux1 := Lib.hid hui
  have Lx0_5 := Lib.hid hb
  have X15 := Lib.hid hu
  have hs5 : w4.heap.size ≤ w5.heap.size := hb.size
  have HS5 := Lib.hid hs5
  clear hu hui hb hs5
  go_wp2_with fail
  refine (BothOf_is R0.out ucx0 ucx1 (Ux0.out.below Lx0_5.out) (Ux1.out)).mono ?_
  rintro e w6 ⟨vg, rfl, hg, hb⟩
  have B6 := Lib.hid (B5.out.trans (hb.mono B5.out.size))
  have K6 := Lib.hid (K5.out.trans (hb.mono K5.out.size))
  have X06 := Lib.hid (X05.out.below hb)
  have X16 := Lib.hid (X15.out.below hb)
  have G6 := Lib.hid hg
  have hs6 : w5.heap.size ≤ w6.heap.size := hb.size
  have HS6 := Lib.hid hs6
  clear hg hb hs6
  have SZ : Hid (w.heap.size ≤ wz.heap.size ∧ wz.heap.size = w3.heap.size ∧ w3.heap.size ≤ w4.heap.size ∧ w4.heap.size ≤ w5.heap.size ∧ w5.heap.size ≤ w6.heap.size) := ⟨HZS.out, by rw [HWZ.out], HS4.out, HS5.out, HS6.out⟩
  go_wp2_with fail
  refine (eqInts_at G6.out.v (Z.out.below K6.out)).mono ?_
  rintro e w7 ⟨rfl, hb⟩
  have B7 := Lib.hid (B6.out.trans (hb.mono B6.out.size))
  have K7 := Lib.hid (K6.out.trans (hb.mono K6.out.size))
  have X07 := Lib.hid (X06.out.below hb)
  have X17 := Lib.hid (X16.out.below hb)
  have G7 := Lib.hid (G6.out.below hb)
  clear hb
  go_wp2_with fail
  refine (toInts_at ⟨_, _, rfl, H0.out.below B7.out⟩).mono ?_
  rintro e w8 ⟨uy0, rfl, hu, hb⟩
  have B8 := Lib.hid (B7.out.trans (hb.mono B7.out.size))
  have K8 := Lib.hid (K7.out.trans (hb.mono K7.out.size))
  have X08 := Lib.hid (X07.out.below hb)
  have X18 := Lib.hid (X17.out.below hb)
  have G8 := Lib.hid (G7.out.below hb)
  obtain ⟨uay0, ucy0, hus, hui, _⟩ := hu.shape
  subst hus
  have Uy0 := Lib.hid hui
  have V0 := Lib.hid hu.v
  clear hu hui hb
  go_wp2_with fail
  refine (eqInts_at X08.out.v V0.out).mono ?_
  rintro e w9 ⟨rfl, hb⟩
  have B9 := Lib.hid (B8.out.trans (hb.mono B8.out.size))
  have K9 := Lib.hid (K8.out.trans (hb.mono K8.out.size))
  have X09 := Lib.hid (X08.out.below hb)
  have X19 := Lib.hid (X18.out.below hb)
  have G9 := Lib.hid (G8.out.below hb)
  clear hb
  go_wp2_with fail
  refine (toInts_at ⟨_, _, rfl, H1.out.below B9.out⟩).mono ?_
  rintro e w10 ⟨uy1, rfl, hu, hb⟩
  have B10 := Lib.hid (B9.out.trans (hb.mono B9.out.size))
  have K10 := Lib.hid (K9.out.trans (hb.mono K9.out.size))
  have X010 := Lib.hid (X09.out.below hb)
  have X110 := Lib.hid (X19.out.below hb)
  have G10 := Lib.hid (G9.out.below hb)
  obtain ⟨uay1, ucy1, hus, hui, _⟩ := hu.shape
  subst hus
  have Uy1 := Lib.hid hui
  have V1 := Lib.hid hu.v
  clear hu hui hb
  go_wp2_with fail
  refine (eqInts_at X110.out.v V1.out).mono ?_
  rintro e w11 ⟨rfl, hb⟩
  have B11 := Lib.hid (B10.out.trans (hb.mono B10.out.size))
  have K11 := Lib.hid (K10.out.trans (hb.mono K10.out.size))
  have X011 := Lib.hid (X010.out.below hb)
  have X111 := Lib.hid (X110.out.below hb)
  have G11 := Lib.hid (G10.out.below hb)
  clear hb
  go_wp2_with fail
  refine (markInts_at MK0.out X011.out (by omega) (by omega)).mono ?_
  rintro e w12 ⟨rfl, hx, ho⟩
  have hsz := SZ.out
  have B12 := Lib.hid (B11.out.trans (ho.below (B := w.heap.size) B11.out.size (fun b hb => by omega)))
  have K12 := Lib.hid (K11.out.trans (ho.below (B := wz.heap.size) K11.out.size (fun b hb => by omega)))
  have X012 := Lib.hid hx
  have X112 := Lib.hid (X111.out.only ho (fun g hg hb => by have h1 := (X111.out.own.lt g hg).1; have h2 := X111.out.top g hg; omega))
  have G12 := Lib.hid (G11.out.only ho (fun g hg hb => by have h1 := (G11.out.own.lt g hg).1; have h2 := G11.out.top g hg; omega))
  clear hx ho hsz
  go_wp2_with fail
  refine (markInts_at MK1.out X112.out (by omega) (by omega)).mono ?_
  rintro e w13 ⟨rfl, hx, ho⟩
  have hsz := SZ.out
  have B13 := Lib.hid (B12.out.trans (ho.below (B := w.heap.size) B12.out.size (fun b hb => by omega)))
  have K13 := Lib.hid (K12.out.trans (ho.below (B := wz.heap.size) K12.out.size (fun b hb => by omega)))
  have X013 := Lib.hid (X012.out.only ho (fun g hg hb => by have h1 := (X012.out.own.lt g hg).1; have h2 := X012.out.top g hg; omega))
  have X113 := Lib.hid hx
  have G13 := Lib.hid (G12.out.only ho (fun g hg hb => by have h1 := (G12.out.own.lt g hg).1; have h2 := G12.out.top g hg; omega))
  clear hx ho hsz
  go_wp2_with fail
  refine (eqInts_at G13.out.v (Z.out.below K13.out)).mono ?_
  rintro e w14 ⟨rfl, hb⟩
  have B14 := Lib.hid (B13.out.trans (hb.mono B13.out.size))
  have K14 := Lib.hid (K13.out.trans (hb.mono K13.out.size))
  have X014 := Lib.hid (X013.out.below hb)
  have X114 := Lib.hid (X113.out.below hb)
  have G14 := Lib.hid (G13.out.below hb)
  clear hb
  go_wp2_with fail
  refine (markInts_at MG.out G14.out (by omega) (by omega)).mono ?_
  rintro e w15 ⟨rfl, hx, ho⟩
  have hsz := SZ.out
  have B15 := Lib.hid (B14.out.trans (ho.below (B := w.heap.size) B14.out.size (fun b hb => by omega)))
  have K15 := Lib.hid (K14.out.trans (ho.below (B := wz.heap.size) K14.out.size (fun b hb => by omega)))
  have X015 := Lib.hid (X014.out.only ho (fun g hg hb => by have h1 := (X014.out.own.lt g hg).1; have h2 := X014.out.top g hg; omega))
  have X115 := Lib.hid (X114.out.only ho (fun g hg hb => by have h1 := (X114.out.own.lt g hg).1; have h2 := X114.out.top g hg; omega))
  have G15 := Lib.hid hx
  clear hx ho hsz
  go_wp2_with fail
  refine (heldInts_is MG.out G15.out.v (by omega) (by omega)).mono ?_
  rintro e wh ⟨rfl, rfl⟩
  go_wp2_with fail
  refine (toInts_at ⟨_, _, rfl, H0.out.below B15.out⟩).mono ?_
  rintro e w16 ⟨ut0, rfl, hu, hb⟩
  have B16 := Lib.hid (B15.out.trans (hb.mono B15.out.size))
  have K16 := Lib.hid (K15.out.trans (hb.mono K15.out.size))
  have G16 := Lib.hid (G15.out.below hb)
  obtain ⟨uat0, uct0, hus, hui, _⟩ := hu.shape
  subst hus
  have Ut0 := Lib.hid hui
  clear hu hui hb
  go_wp2_with fail
  refine (toInts_at ⟨_, _, rfl, H1.out.below B16.out⟩).mono ?_
  rintro e w17 ⟨ut1, rfl, hu, hb⟩
  have B17 := Lib.hid (B16.out.trans (hb.mono B16.out.size))
  have K17 := Lib.hid (K16.out.trans (hb.mono K16.out.size))
  have G17 := Lib.hid (G16.out.below hb)
  obtain ⟨uat1, uct1, hus, hui, _⟩ := hu.shape
  subst hus
  have Ut1 := Lib.hid hui
  have Lt0_17 := Lib.hid hb
  clear hu hui hb
  go_wp2_with fail
  refine (BothOf_is R0.out uct0 uct1 (Ut0.out.below Lt0_17.out) (Ut1.out)).mono ?_
  rintro e w18 ⟨vh, rfl, hg, hb⟩
  have B18 := Lib.hid (B17.out.trans (hb.mono B17.out.size))
  have K18 := Lib.hid (K17.out.trans (hb.mono K17.out.size))
  have G18 := Lib.hid (G17.out.below hb)
  have ZH := Lib.hid hg.v
  clear hg hb
  go_wp2_with fail
  refine (eqInts_at ZH.out (Z.out.below K18.out)).mono ?_
  rintro e w19 ⟨rfl, hb⟩
  have B19 := Lib.hid (B18.out.trans (hb.mono B18.out.size))
  have K19 := Lib.hid (K18.out.trans (hb.mono K18.out.size))
  have G19 := Lib.hid (G18.out.below hb)
  clear hb
  go_wp2_with fail
  refine (heldInts_is MG.out G19.out.v (by omega) (by omega)).mono ?_
  rintro e wh ⟨rfl, rfl⟩
  go_wp2
  go_ret
  exact ⟨rfl, B19.out⟩

end Go.Proofs.Ytbfefhbcbmieiaa
