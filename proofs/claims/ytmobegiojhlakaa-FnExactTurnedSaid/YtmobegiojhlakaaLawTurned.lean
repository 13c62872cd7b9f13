/-
  The walk of the law FnExactTurned.
-/
import Derived.Test.YtmobegiojhlakaaInts
import Derived.Test.YtmobegiojhlakaaTurned
import Derived.Deep.RegionHeld3
namespace Go.Proofs.Ytmobegiojhlakaa
open Go.RowKit

theorem OwnArena.shape {w : World} {B D : Nat} {v : Value} {O : List Int} {zss : List (List Int)} (h : OwnArena w B D v O zss) : ∃ ao co an cn, v = .agg #[.slice ao O.length co, .slice an zss.length cn] := by
  obtain ⟨ao, an, co, cn, A, C, hv, _, _⟩ := h.at
  exact ⟨ao, co, an, cn, hv⟩

set_option maxHeartbeats 16000000 in
set_option maxRecDepth 100000 in
theorem lawTurned {w : World} {va : Value} {O : List Int} {zss : List (List Int)} (hA : ArenaAt w va O zss) :
    Calls Try.prog 5 #[va] w fun e w' => e = .returned (.bool true) ∧ Below w.heap.size w w' := by
  have HA := Lib.hid hA
  obtain ⟨ao, an, co, cn, A, C, rfl, h1, h2⟩ := hA
  clear h1 h2
  have B1 := Lib.hid (below1 w (.cells #[.slice ao O.length co, .slice an zss.length cn] 46))
  by_cases hs : (1048576 : Int) < sizeArena O zss
  · have HS := Lib.hid (szArena_at (leftOf_no hs) (HA.out.below B1.out) (by omega) (by omega))
    clear hs
    go_enter Try.func5, Try.ntmps5
    go_wp2_with (go_at_call 29; refine HS.out.mono ?_; rintro e w2 ⟨rfl, hb⟩; have B2 := Lib.hid (B1.out.trans (hb.mono B1.out.size)); clear hb)
    go_ret
    exact ⟨rfl, B2.out⟩
  · have hle : (sizeArena O zss : Int) ≤ 1048576 := by omega
    have hleN : sizeArena O zss ≤ 1048576 := by omega
    have HLE := Lib.hid hleN
    have hn : zss.length ≤ 1048576 := by have := sizeArena_rows hle; omega
    obtain ⟨m, hm⟩ : ∃ m, leftOf 1048576 (sizeArena O zss) = m := ⟨_, rfl⟩
    have hm0 : 0 ≤ m := by rw [← hm, leftOf_yes hle]; omega
    have HS := Lib.hid (szArena_at hm (HA.out.below B1.out) (by omega) (by omega))
    obtain ⟨P, hP⟩ : ∃ r, turnedO O zss = r := ⟨_, rfl⟩
    obtain ⟨yss, hyss⟩ : ∃ r, turnedN O zss = r := ⟨_, rfl⟩
    have R0 := Lib.hid (And.intro hP hyss)
    have PLE : Hid (sizeArena P yss ≤ 1048576) := by rw [← hP, ← hyss]; exact turned_size hleN
    have hPl : P.length ≤ 1048576 := by have := PLE.out; unfold sizeArena at this; omega
    have hPs : sumLen yss yss.length ≤ 1048576 := by have := PLE.out; unfold sizeArena at this; omega
    have PL := Lib.hid hPl
    have PS := Lib.hid hPs
    obtain ⟨mk, hmk⟩ : ∃ r : Int, 1 + (O.length : Int) + (sumLen zss zss.length : Int) = r := ⟨_, rfl⟩
    have MK := Lib.hid hmk
    have hmk0 : 0 ≤ mk := by omega
    obtain ⟨mg, hmg⟩ : ∃ r : Int, 1 + (P.length : Int) + (sumLen yss yss.length : Int) = r := ⟨_, rfl⟩
    have MG := Lib.hid hmg
    have hmg0 : 0 ≤ mg := by omega
    have hmgn : (mg != mg) = false := by simp
    clear hs hm hle hP hyss hmk hmg hPl hPs hleN
    go_enter Try.func5, Try.ntmps5
    go_wp2_with fail
    refine HS.out.mono ?_
    rintro e w2 ⟨rfl, hb⟩
    have B2 := Lib.hid (B1.out.trans (hb.mono B1.out.size))
    have b2 := Lib.hid ((Box2.new w 46 (.slice ao O.length co) (.slice an zss.length cn)).below hb)
    clear hb
    have c0 := b2.out.cell0
    have c1 := b2.out.cell1
    go_wp2_with fail
    refine (toArena_at (HA.out.below B2.out) hn).mono ?_
    rintro e w3 ⟨rfl, hc, hat⟩
    have B3 := Lib.hid (B2.out.trans (hc.below.mono B2.out.size))
    have b3 := Lib.hid (b2.out.below hc.below)
    have A3 := Lib.hid hat
    clear hc hat c0 c1
    go_wp2_with fail
    refine (specTurned_is R0.out A3.out hn).mono ?_
    rintro e w4 ⟨vw, rfl, hg, hb⟩
    obtain ⟨zo, zc, zn, zd, hsh⟩ := hg.shape
    subst hsh
    have B4 := Lib.hid (B3.out.trans (hb.mono B3.out.size))
    have b4 := Lib.hid (b3.out.below hb)
    have Z4 := Lib.hid hg.at
    have hsz4 := b4.out.lt
    have c0 := (b4.out.alloc (.cells #[.slice zo P.length zc, .slice zn yss.length zd] 30)).cell0
    have c1 := (b4.out.alloc (.cells #[.slice zo P.length zc, .slice zn yss.length zd] 30)).cell1
    clear hb hg
    go_wp2_with fail
    obtain ⟨w5, hw5⟩ : ∃ x, x = w4.alloc (.cells #[.slice zo P.length zc, .slice zn yss.length zd] 30) := ⟨_, rfl⟩
    rw [← hw5]
    have hb5 : Below w4.heap.size w4 w5 := by rw [hw5]; exact below1 _ _
    have z5 : Hid (Box2 w5 w4.heap.size 30 (.slice zo P.length zc) (.slice zn yss.length zd)) := by rw [hw5]; exact Box2.new _ _ _ _
    have B5 := Lib.hid (B4.out.trans (hb5.mono B4.out.size))
    have b5 := Lib.hid (b4.out.below hb5)
    have Z5 := Lib.hid (Z4.out.below hb5)
    clear hw5 hb5 c0 c1 hsz4
    refine (toArena_at (HA.out.below B5.out) hn).mono ?_
    rintro e w6 ⟨rfl, hc, hat⟩
    have K6 := Lib.hid hc.below
    have X6 := Lib.hid (hc.owned (HA.out.below B5.out))
    clear hc hat
    have z6 := Lib.hid (z5.out.below K6.out)
    have hzl := z6.out.lt
    go_wp2_with fail
    obtain ⟨w7, hw7⟩ : ∃ x, x = w6.alloc (.cells #[.slice (some ⟨w5.heap.size + 3, 0, none⟩) O.length O.length, .slice (some ⟨w5.heap.size + 4, 0, none⟩) zss.length zss.length] 30) := ⟨_, rfl⟩
    rw [← hw7]
    have hb7 : Below w6.heap.size w6 w7 := by rw [hw7]; exact below1 _ _
    have x7 : Hid (Box2 w7 w6.heap.size 30 (.slice (some ⟨w5.heap.size + 3, 0, none⟩) O.length O.length) (.slice (some ⟨w5.heap.size + 4, 0, none⟩) zss.length zss.length)) := by rw [hw7]; exact Box2.new _ _ _ _
    have hs67 : w7.heap.size = w6.heap.size + 1 := by rw [hw7]; simp
    have HS67 := Lib.hid hs67
    have K7 := Lib.hid (K6.out.trans (hb7.mono K6.out.size))
    have X7 := Lib.hid (X6.out.below hb7)
    clear hw7 hb7 hs67 hzl
    refine (Turned_is R0.out X7.out.at).mono ?_
    rintro e w8 ⟨vg, rfl, hg, hb⟩
    obtain ⟨go, gc, gn, gd, hsh⟩ := hg.shape
    subst hsh
    have K8 := Lib.hid (K7.out.trans (hb.mono K7.out.size))
    have x8 := Lib.hid (x7.out.below hb)
    have X8 := Lib.hid (X7.out.below hb)
    have G8 := Lib.hid hg
    have hs78 : w7.heap.size ≤ w8.heap.size := hb.size
    have HS78 := Lib.hid hs78
    have z8 := Lib.hid (z5.out.below K8.out)
    have y0 := (z8.out.alloc (.cells #[.slice go P.length gc, .slice gn yss.length gd] 30)).cell0
    have y1 := (z8.out.alloc (.cells #[.slice go P.length gc, .slice gn yss.length gd] 30)).cell1
    clear hb hg hs78
    go_wp2_with fail
    obtain ⟨w9, hw9⟩ : ∃ x, x = w8.alloc (.cells #[.slice go P.length gc, .slice gn yss.length gd] 30) := ⟨_, rfl⟩
    rw [← hw9]
    have hb9 : Below w8.heap.size w8 w9 := by rw [hw9]; exact below1 _ _
    have g9 : Hid (Box2 w9 w8.heap.size 30 (.slice go P.length gc) (.slice gn yss.length gd)) := by rw [hw9]; exact Box2.new _ _ _ _
    have K9 := Lib.hid (K8.out.trans (hb9.mono K8.out.size))
    have x9 := Lib.hid (x8.out.below hb9)
    have X9 := Lib.hid (X8.out.below hb9)
    have G9 := Lib.hid (G8.out.below hb9)
    clear hw9 hb9 y0 y1
    refine (eqArena_at G9.out.at (Z5.out.below K9.out)).mono ?_
    rintro e wA ⟨rfl, hb⟩
    have KA := Lib.hid (K9.out.trans (hb.mono K9.out.size))
    have xA := Lib.hid (x9.out.below hb)
    have XA := Lib.hid (X9.out.below hb)
    have GA := Lib.hid (G9.out.below hb)
    have gA := Lib.hid (g9.out.below hb)
    have bA := Lib.hid (b5.out.below KA.out)
    clear hb
    have hd : Below wA.heap.size wA wA.drew := (Below.refl _ _).drew
    have KAd := Lib.hid (KA.out.trans (hd.mono KA.out.size))
    have BAd := Lib.hid (B5.out.trans (KAd.out.mono B5.out.size))
    have xAd := Lib.hid (xA.out.below hd)
    have XAd := Lib.hid (XA.out.below hd)
    have GAd := Lib.hid (GA.out.below hd)
    have gAd := Lib.hid (gA.out.below hd)
    have bAd := Lib.hid (bA.out.below hd)
    clear hd
    have c0 := bA.out.cell0
    have c1 := bA.out.cell1
    have c2 := xA.out.cell0
    have c3 := xA.out.cell1
    go_wp2_with fail
    go_region_held3 (fun w' => w'.cell? ⟨w.heap.size, 0, none⟩ = some (.slice ao O.length co) ∧ w'.cell? ⟨w.heap.size, 1, none⟩ = some (.slice an zss.length cn) ∧
        w'.cell? ⟨w6.heap.size, 0, none⟩ = some (.slice (some ⟨w5.heap.size + 3, 0, none⟩) O.length O.length) ∧ w'.cell? ⟨w6.heap.size, 1, none⟩ = some (.slice (some ⟨w5.heap.size + 4, 0, none⟩) zss.length zss.length))
      (first
        | go_keep
        | exact ⟨d0, d1, d2, d3⟩
        | exact ⟨e0, e1, e2, e3⟩)
      (first
        | (go_at_call 31; refine (toArena_at (HA.out.below BAd.out) hn).mono ?_; rintro e wB ⟨rfl, hc, hat⟩; have bB := Lib.hid (bAd.out.below hc.below); have xB := Lib.hid (xAd.out.below hc.below); have d0 := bB.out.cell0; have d1 := bB.out.cell1; have d2 := xB.out.cell0; have d3 := xB.out.cell1; have KB := Lib.hid (KAd.out.trans (hc.below.mono KAd.out.size)); have AB := Lib.hid hat; have XB := Lib.hid (XAd.out.below hc.below); have GB := Lib.hid (GAd.out.below hc.below); have gB := Lib.hid (gAd.out.below hc.below); clear hc hat)
        | (go_at_call 32; refine (eqArena_at XB.out.at AB.out).mono ?_; rintro e wC ⟨rfl, hb⟩; have bC := Lib.hid (bB.out.below hb); have xC := Lib.hid (xB.out.below hb); have e0 := bC.out.cell0; have e1 := bC.out.cell1; have e2 := xC.out.cell0; have e3 := xC.out.cell1; have KC := Lib.hid (KB.out.trans (hb.mono KB.out.size)); have XC := Lib.hid (XB.out.below hb); have GC := Lib.hid (GB.out.below hb); have gC := Lib.hid (gB.out.below hb); clear hb))
    clear c0 c1 c2 c3 d0 d1 d2 d3
    go_wp2_with fail
    refine (markArena_at MK.out XC.out (by omega) (by omega) HLE.out).mono ?_
    rintro e wD ⟨rfl, hx, ho⟩
    have h67 := HS67.out
    have h78 := HS78.out
    have h56 := K6.out.size
    have KD := Lib.hid (KC.out.trans (ho.below (B := w5.heap.size) KC.out.size (fun b hb => hb.1)))
    have GD := Lib.hid (GC.out.only ho (fun g hg1 hg2 hb => by omega))
    have gD := Lib.hid (gC.out.only ho (fun hb => by omega))
    have zD := Lib.hid (z5.out.below KD.out)
    clear hx ho h67 h78 h56 e0 e1 e2 e3
    have c0 := gD.out.cell0
    have c1 := gD.out.cell1
    have c2 := zD.out.cell0
    have c3 := zD.out.cell1
    go_wp2_with fail
    refine (eqArena_at GD.out.at (Z5.out.below KD.out)).mono ?_
    rintro e wE ⟨rfl, hb⟩
    have KE := Lib.hid (KD.out.trans (hb.mono KD.out.size))
    have GE := Lib.hid (GD.out.below hb)
    have gE := Lib.hid (gD.out.below hb)
    clear hb c0 c1 c2 c3
    have c0 := gE.out.cell0
    have c1 := gE.out.cell1
    go_wp2_with fail
    refine (markArena_at MG.out GE.out (by omega) (by omega) PLE.out).mono ?_
    rintro e wF ⟨rfl, hg, ho⟩
    have h67 := HS67.out
    have h56 := K6.out.size
    have KF := Lib.hid (KE.out.trans (ho.below (B := w5.heap.size) KE.out.size (fun b hb => by omega)))
    have GF := Lib.hid hg
    have gF := Lib.hid (gE.out.only ho (fun hb => by omega))
    clear hg ho h67 h56 c0 c1
    have c0 := gF.out.cell0
    have c1 := gF.out.cell1
    go_wp2_with fail
    refine (heldArena_at MG.out GF.out.at (by omega) (by omega) PL.out PS.out).mono ?_
    rintro e wG ⟨rfl, hb⟩
    have KG := Lib.hid (KF.out.trans (hb.mono KF.out.size))
    have GG := Lib.hid (GF.out.below hb)
    have gG := Lib.hid (gF.out.below hb)
    have bG := Lib.hid (b5.out.below KG.out)
    have BG := Lib.hid (B5.out.trans (KG.out.mono B5.out.size))
    clear hb c0 c1
    have c0 := bG.out.cell0
    have c1 := bG.out.cell1
    go_wp2_with fail
    refine (toArena_at (HA.out.below BG.out) hn).mono ?_
    rintro e wH ⟨rfl, hc, hat⟩
    have KH := Lib.hid (KG.out.trans (hc.below.mono KG.out.size))
    have GH := Lib.hid (GG.out.below hc.below)
    have gH := Lib.hid (gG.out.below hc.below)
    have AH := Lib.hid hat
    clear hc hat c0 c1
    go_wp2_with fail
    refine (Turned_is R0.out AH.out).mono ?_
    rintro e wI ⟨vh, rfl, hg, hb⟩
    obtain ⟨ho, hc, hn', hd, hsh⟩ := hg.shape
    subst hsh
    have KI := Lib.hid (KH.out.trans (hb.mono KH.out.size))
    have GI := Lib.hid (GH.out.below hb)
    have gI := Lib.hid (gH.out.below hb)
    have hI := Lib.hid hg.at
    clear hb hg
    have zI := Lib.hid (z5.out.below KI.out)
    have y0 := (zI.out.alloc (.cells #[.slice ho P.length hc, .slice hn' yss.length hd] 30)).cell0
    have y1 := (zI.out.alloc (.cells #[.slice ho P.length hc, .slice hn' yss.length hd] 30)).cell1
    go_wp2_with fail
    obtain ⟨wJ, hwJ⟩ : ∃ x, x = wI.alloc (.cells #[.slice ho P.length hc, .slice hn' yss.length hd] 30) := ⟨_, rfl⟩
    rw [← hwJ]
    have hbJ : Below wI.heap.size wI wJ := by rw [hwJ]; exact below1 _ _
    have KJ := Lib.hid (KI.out.trans (hbJ.mono KI.out.size))
    have GJ := Lib.hid (GI.out.below hbJ)
    have gJ := Lib.hid (gI.out.below hbJ)
    have hJ := Lib.hid (hI.out.below hbJ)
    clear hwJ hbJ y0 y1
    refine (eqArena_at hJ.out (Z5.out.below KJ.out)).mono ?_
    rintro e wK ⟨rfl, hb⟩
    have KK := Lib.hid (KJ.out.trans (hb.mono KJ.out.size))
    have GK := Lib.hid (GJ.out.below hb)
    have gK := Lib.hid (gJ.out.below hb)
    clear hb
    have c0 := gK.out.cell0
    have c1 := gK.out.cell1
    go_wp2_with fail
    refine (heldArena_at MG.out GK.out.at (by omega) (by omega) PL.out PS.out).mono ?_
    rintro e wL ⟨rfl, hb⟩
    have KL := Lib.hid (KK.out.trans (hb.mono KK.out.size))
    have BL := Lib.hid (B5.out.trans (KL.out.mono B5.out.size))
    clear hb c0 c1
    go_wp2
    go_ret
    exact ⟨rfl, BL.out⟩

end Go.Proofs.Ytmobegiojhlakaa
