/-
  The walk of the law FnExactLoopsOf.
-/
import Derived.Test.YtaagbnogbhegdaaBase1
import Derived.Test.YtaagbnogbhegdaaLoopsImpl
import Derived.Test.YtaagbnogbhegdaaLoopRows
import Derived.Deep.RegionHeld3
namespace Go.Proofs.Ytaagbnogbhegdaa
open Go.RowKit

set_option maxHeartbeats 8000000 in
set_option maxRecDepth 100000 in
theorem lawLoopsOf {w : World} {va : Value} {O : List Int} {zss : List (List Int)} {aS : Option Addr} {S : List Int} {cs : Nat} (hA : ArenaAt w va O zss) (hS : IntsAt w aS S) :
    Calls Try.prog 6 #[va, .slice aS S.length cs] w fun e w' => e = .returned (.bool true) ∧ Below w.heap.size w w' := by
  have HA := Lib.hid hA
  obtain ⟨ao, an, co, cn, A, C, rfl, h1, h2⟩ := hA
  clear h1 h2
  have B1 := Lib.hid (below1 w (.cells #[.slice ao O.length co, .slice an zss.length cn] 51))
  have HSi := Lib.hid hS
  have hlS := hS.len
  clear hS
  by_cases hbig : (1048576 : Int) < S.length
  · go_enter Try.func6, Try.ntmps6
    go_wp2
    go_ret
    exact ⟨rfl, B1.out⟩
  have hsm : (S.length : Int) ≤ 1048576 := by omega
  have hsmN : S.length ≤ 1048576 := by omega
  clear hbig
  by_cases hs : (1048576 : Int) < sizeArena O zss
  · have HS := Lib.hid (szArena_at (leftOf_no hs) (HA.out.below B1.out) (by omega) (by omega))
    clear hs
    go_enter Try.func6, Try.ntmps6
    go_wp2_with (go_at_call 35; refine HS.out.mono ?_; rintro e w2 ⟨rfl, hb⟩; have B2 := Lib.hid (B1.out.trans (hb.mono B1.out.size)); clear hb)
    go_ret
    exact ⟨rfl, B2.out⟩
  · have hle : (sizeArena O zss : Int) ≤ 1048576 := by omega
    have HLE : Hid (sizeArena O zss ≤ 1048576) := by simp only [Hid]; omega
    have hn : zss.length ≤ 1048576 := by have := sizeArena_rows hle; omega
    obtain ⟨m, hm⟩ : ∃ m, leftOf 1048576 (sizeArena O zss) = m := ⟨_, rfl⟩
    have hm0 : 0 ≤ m := by rw [← hm, leftOf_yes hle]; omega
    have HS := Lib.hid (szArena_at hm (HA.out.below B1.out) (by omega) (by omega))
    obtain ⟨r0, hr0⟩ : ∃ r, loopsL O zss S = r := ⟨_, rfl⟩
    have R0 := Lib.hid hr0
    have HSM := Lib.hid (loopsL_sum hr0 hsmN)
    obtain ⟨mk, hmk⟩ : ∃ r : Int, 1 + (O.length : Int) + (sumLen zss zss.length : Int) = r := ⟨_, rfl⟩
    have MK := Lib.hid hmk
    have hmk0 : 0 ≤ mk := by omega
    have hmk1 : mk ≤ 1048577 := by have := HLE.out; unfold sizeArena at this; omega
    obtain ⟨mk2, hmk2⟩ : ∃ r : Int, mk + (S.length : Int) = r := ⟨_, rfl⟩
    have MK2 := Lib.hid hmk2
    have hmk20 : 0 ≤ mk2 := by omega
    obtain ⟨mg, hmg⟩ : ∃ r : Int, 1 + (sumLen r0 r0.length : Int) = r := ⟨_, rfl⟩
    have MG := Lib.hid hmg
    have hmg0 : 0 ≤ mg := by omega
    have hmgn : (mg != mg) = false := by simp
    clear hs hm hle hr0 hmk hmg hmk2
    go_enter Try.func6, Try.ntmps6
    go_wp2_with fail
    refine HS.out.mono ?_
    rintro e w2 ⟨rfl, hb⟩
    have B2 := Lib.hid (B1.out.trans (hb.mono B1.out.size))
    have b2 := Lib.hid ((Box2.new w 51 (.slice ao O.length co) (.slice an zss.length cn)).below hb)
    clear hb
    have c0 := b2.out.cell0
    have c1 := b2.out.cell1
    go_wp2_with fail
    refine (toArena_at (HA.out.below B2.out) hn).mono ?_
    rintro e w3 ⟨rfl, hc, hat⟩
    have B3 := Lib.hid (B2.out.trans (hc.below.mono B2.out.size))
    have b3 := Lib.hid (b2.out.below hc.below)
    have A3 := Lib.hid hat
    clear hc hat c0 c1
    go_wp2_with fail
    refine (toInts_at ⟨_, _, rfl, HSi.out.below B3.out⟩).mono ?_
    rintro e v3 ⟨u3, rfl, hu, hb⟩
    obtain ⟨ua3, uc3, hus, hui, _⟩ := hu.shape
    subst hus
    have B3' := Lib.hid (B3.out.trans (hb.mono B3.out.size))
    have b3' := Lib.hid (b3.out.below hb)
    have A3' := Lib.hid (A3.out.below hb)
    have U3 := Lib.hid hui
    clear hu hui hb
    go_wp2_with fail
    refine (specLoopsOf_is uc3 R0.out A3'.out U3.out).mono ?_
    rintro e w4 ⟨vw, VW, rfl, hg, hb⟩
    have B4 := Lib.hid (B3'.out.trans (hb.mono B3'.out.size))
    have b4 := Lib.hid (b3'.out.below hb)
    have Z4 := Lib.hid hg.v
    clear hb hg
    have c0 := b4.out.cell0
    have c1 := b4.out.cell1
    go_wp2_with fail
    refine (toArena_at (HA.out.below B4.out) hn).mono ?_
    rintro e w5 ⟨rfl, hc, hat⟩
    have B5 := Lib.hid (B4.out.trans (hc.below.mono B4.out.size))
    have b5 := Lib.hid (b4.out.below hc.below)
    have K5 := Lib.hid hc.below
    have X5 := Lib.hid (hc.owned (HA.out.below B4.out))
    clear hc hat c0 c1
    go_wp2_with fail
    obtain ⟨w6, hw6⟩ : ∃ x, x = w5.alloc (.cells #[.slice (some ⟨w4.heap.size + 3, 0, none⟩) O.length O.length, .slice (some ⟨w4.heap.size + 4, 0, none⟩) zss.length zss.length] 27) := ⟨_, rfl⟩
    rw [← hw6]
    have hb6 : Below w5.heap.size w5 w6 := by rw [hw6]; exact below1 _ _
    have x6 : Hid (Box2 w6 w5.heap.size 27 (.slice (some ⟨w4.heap.size + 3, 0, none⟩) O.length O.length) (.slice (some ⟨w4.heap.size + 4, 0, none⟩) zss.length zss.length)) := by rw [hw6]; exact Box2.new _ _ _ _
    have hs56 : w6.heap.size = w5.heap.size + 1 := by rw [hw6]; simp
    have B6 := Lib.hid (B5.out.trans (hb6.mono B5.out.size))
    have K6 := Lib.hid (K5.out.trans (hb6.mono K5.out.size))
    have b6 := Lib.hid (b5.out.below hb6)
    have X6 := Lib.hid (X5.out.below hb6)
    have HS56 := Lib.hid hs56
    clear hw6 hb6 hs56
    refine (toInts_at ⟨_, _, rfl, HSi.out.below B6.out⟩).mono ?_
    rintro e v6 ⟨u6, rfl, hu, hb⟩
    obtain ⟨ua6, uc6, hus, hui, _⟩ := hu.shape
    subst hus
    have B6' := Lib.hid (B6.out.trans (hb.mono B6.out.size))
    have K6' := Lib.hid (K6.out.trans (hb.mono K6.out.size))
    have b6' := Lib.hid (b6.out.below hb)
    have x6' := Lib.hid (x6.out.below hb)
    have X6' := Lib.hid (X6.out.below hb)
    have U6 := Lib.hid hu
    have U6i := Lib.hid hui
    have hs66 : w6.heap.size ≤ v6.heap.size := hb.size
    have HS66 := Lib.hid hs66
    clear hu hui hb hs66
    have c0 := x6'.out.cell0
    have c1 := x6'.out.cell1
    go_wp2_with fail
    refine (LoopsOf_is uc6 R0.out X6'.out.at U6i.out).mono ?_
    rintro e w7 ⟨vg, VG, rfl, hg, hb⟩
    clear c0 c1
    have hs7 : v6.heap.size ≤ w7.heap.size := hb.size
    have HS7 := Lib.hid hs7
    have B7 := Lib.hid (B6'.out.trans (hb.mono B6'.out.size))
    have K7 := Lib.hid (K6'.out.trans (hb.mono K6'.out.size))
    have b7 := Lib.hid (b6'.out.below hb)
    have x7 := Lib.hid (x6'.out.below hb)
    have X7 := Lib.hid (X6'.out.below hb)
    have U7 := Lib.hid (U6.out.below hb)
    have G7 := Lib.hid hg
    clear hb hg hs7
    go_wp2_with fail
    refine (eqRows_at G7.out.v (Z4.out.below K7.out)).mono ?_
    rintro e w8 ⟨rfl, hb⟩
    have B8d := Lib.hid (B7.out.trans (hb.mono B7.out.size)).drew
    have K8d := Lib.hid (K7.out.trans (hb.mono K7.out.size)).drew
    have b8 := Lib.hid (b7.out.below hb)
    have x8 := Lib.hid (x7.out.below hb)
    have X8 := Lib.hid (X7.out.below hb)
    have G8 := Lib.hid (G7.out.below hb)
    have U8 := Lib.hid (U7.out.below hb)
    have b8d : Hid (Box2 w8.drew _ _ _ _) := b8.out.below (Below.refl _ _).drew
    have x8d : Hid (Box2 w8.drew _ _ _ _) := x8.out.below (Below.refl _ _).drew
    have X8d : Hid (OwnArena w8.drew _ _ _ O zss) := X8.out.below (Below.refl _ _).drew
    have G8d : Hid (OwnRows w8.drew _ _ vg VG r0) := G8.out.below (Below.refl _ _).drew
    have U8d : Hid (OwnInts w8.drew _ _ _ S) := U8.out.below (Below.refl _ _).drew
    clear hb
    have c0 := b8.out.cell0
    have c1 := b8.out.cell1
    have c2 := x8.out.cell0
    have c3 := x8.out.cell1
    go_wp2_with fail
    go_region_held3 (fun w' => w'.cell? ⟨w.heap.size, 0, none⟩ = some (.slice ao O.length co) ∧ w'.cell? ⟨w.heap.size, 1, none⟩ = some (.slice an zss.length cn) ∧
        w'.cell? ⟨w5.heap.size, 0, none⟩ = some (.slice (some ⟨w4.heap.size + 3, 0, none⟩) O.length O.length) ∧ w'.cell? ⟨w5.heap.size, 1, none⟩ = some (.slice (some ⟨w4.heap.size + 4, 0, none⟩) zss.length zss.length))
      (first
        | go_keep
        | exact ⟨d0, d1, d2, d3⟩
        | exact ⟨e0, e1, e2, e3⟩)
      (first
        | (go_at_call 37; refine (toArena_at (HA.out.below B8d.out) hn).mono ?_; rintro e w9 ⟨rfl, hc, hat⟩; have b9 := Lib.hid (b8d.out.below hc.below); have x9 := Lib.hid (x8d.out.below hc.below); have d0 := b9.out.cell0; have d1 := b9.out.cell1; have d2 := x9.out.cell0; have d3 := x9.out.cell1; have B9 := Lib.hid (B8d.out.trans (hc.below.mono B8d.out.size)); have K9 := Lib.hid (K8d.out.trans (hc.below.mono K8d.out.size)); have A9 := Lib.hid hat; have X9 := Lib.hid (X8d.out.below hc.below); have G9 := Lib.hid (G8d.out.below hc.below); have U9 := Lib.hid (U8d.out.below hc.below); clear hc hat)
        | (go_at_call 39; refine (eqArena_at X9.out.at A9.out).mono ?_; rintro e wA ⟨rfl, hb⟩; have bA := Lib.hid (b9.out.below hb); have xA := Lib.hid (x9.out.below hb); have e0 := bA.out.cell0; have e1 := bA.out.cell1; have e2 := xA.out.cell0; have e3 := xA.out.cell1; have BA := Lib.hid (B9.out.trans (hb.mono B9.out.size)); have KA := Lib.hid (K9.out.trans (hb.mono K9.out.size)); have XA := Lib.hid (X9.out.below hb); have GA := Lib.hid (G9.out.below hb); have UA := Lib.hid (U9.out.below hb); clear hb))
    clear c0 c1 c2 c3 d0 d1 d2 d3
    go_wp2_with fail
    refine (toInts_at ⟨_, _, rfl, HSi.out.below BA.out⟩).mono ?_
    rintro e vA ⟨uA, rfl, hu, hb⟩
    have BA' := Lib.hid (BA.out.trans (hb.mono BA.out.size))
    have KA' := Lib.hid (KA.out.trans (hb.mono KA.out.size))
    have xA' := Lib.hid (xA.out.below hb)
    have XA' := Lib.hid (XA.out.below hb)
    have UA' := Lib.hid (UA.out.below hb)
    have GA' := Lib.hid (GA.out.below hb)
    have VA := Lib.hid hu.v
    clear hu hb e0 e1 e2 e3
    go_wp2_with fail
    refine (eqInts_at UA'.out.v VA.out).mono ?_
    rintro e yA ⟨rfl, hb⟩
    have BAy := Lib.hid (BA'.out.trans (hb.mono BA'.out.size))
    have KAy := Lib.hid (KA'.out.trans (hb.mono KA'.out.size))
    have xAy := Lib.hid (xA'.out.below hb)
    have XAy := Lib.hid (XA'.out.below hb)
    have UAy := Lib.hid (UA'.out.below hb)
    have GAy := Lib.hid (GA'.out.below hb)
    clear hb
    have c0 := xAy.out.cell0
    have c1 := xAy.out.cell1
    go_wp2_with fail
    refine (markArena_at MK.out XAy.out (by omega) (by omega) HLE.out).mono ?_
    rintro e tB ⟨rfl, hx, ho⟩
    have hsz4 : w.heap.size ≤ w4.heap.size := B4.out.size
    have h56 := HS56.out
    have h66 := HS66.out
    have KBt := Lib.hid (KAy.out.trans (ho.below (B := w4.heap.size) KAy.out.size (fun b hb => hb.1)))
    have BBt := Lib.hid (BAy.out.trans (ho.below (B := w.heap.size) BAy.out.size (fun b hb => by omega)))
    have GBt := Lib.hid (GAy.out.only ho (fun g hg hb => by have := (GAy.out.own.lt g hg).1; omega) (fun q hq g hg hb => by have := ((GAy.out.rows q hq).own.lt g hg).1; omega))
    have UBt := Lib.hid (UAy.out.only ho (fun g hg hb => by have := (UAy.out.own.lt g hg).1; omega))
    clear hx ho h56 h66 c0 c1
    go_wp2_with fail
    refine (markInts_at MK2.out UBt.out (by omega) (by omega)).mono ?_
    rintro e wB ⟨rfl, hx, ho⟩
    have h56 := HS56.out
    have h66 := HS66.out
    have h45 := K5.out.size
    have KB := Lib.hid (KBt.out.trans (ho.below (B := w4.heap.size) KBt.out.size (fun b hb => by omega)))
    have BB := Lib.hid (BBt.out.trans (ho.below (B := w.heap.size) BBt.out.size (fun b hb => by omega)))
    have GB := Lib.hid (GBt.out.only ho (fun g hg hb => by have := (GBt.out.own.lt g hg).1; omega) (fun q hq g hg hb => by have := ((GBt.out.rows q hq).own.lt g hg).1; omega))
    have bB := Lib.hid (b4.out.below KB.out)
    clear hx ho hsz4 h56 h66 h45
    go_wp2_with fail
    refine (eqRows_at GB.out.v (Z4.out.below KB.out)).mono ?_
    rintro e wC ⟨rfl, hb⟩
    have BC := Lib.hid (BB.out.trans (hb.mono BB.out.size))
    have KC := Lib.hid (KB.out.trans (hb.mono KB.out.size))
    have GC := Lib.hid (GB.out.below hb)
    clear hb
    go_wp2_with fail
    refine (markRows_at MG.out GC.out (by omega) (by omega) HSM.out).mono ?_
    rintro e wD ⟨rfl, hg, ho⟩
    have h57 := HS66.out
    have h56 := HS56.out
    have h45 := K5.out.size
    have h04 := B4.out.size
    have KD := Lib.hid (KC.out.trans (ho.below (B := w4.heap.size) KC.out.size (fun b hb => by omega)))
    have BD := Lib.hid (BC.out.trans (ho.below (B := w.heap.size) BC.out.size (fun b hb => by omega)))
    have GD := Lib.hid hg
    clear hg ho h57 h56 h45 h04
    go_wp2_with fail
    refine (heldRows_at MG.out GD.out.v (by omega) (by omega) HSM.out).mono ?_
    rintro e wE ⟨rfl, rfl⟩
    have bD := Lib.hid (b4.out.below KD.out)
    have c0 := bD.out.cell0
    have c1 := bD.out.cell1
    go_wp2_with fail
    refine (toArena_at (HA.out.below BD.out) hn).mono ?_
    rintro e wF ⟨rfl, hc, hat⟩
    have BF := Lib.hid (BD.out.trans (hc.below.mono BD.out.size))
    have KF := Lib.hid (KD.out.trans (hc.below.mono KD.out.size))
    have GF := Lib.hid (GD.out.below hc.below)
    have AF := Lib.hid hat
    clear hc hat c0 c1
    go_wp2_with fail
    refine (toInts_at ⟨_, _, rfl, HSi.out.below BF.out⟩).mono ?_
    rintro e vF ⟨uF, rfl, hu, hb⟩
    obtain ⟨uaF, ucF, hus, hui, _⟩ := hu.shape
    subst hus
    have BF' := Lib.hid (BF.out.trans (hb.mono BF.out.size))
    have KF' := Lib.hid (KF.out.trans (hb.mono KF.out.size))
    have GF' := Lib.hid (GF.out.below hb)
    have AF' := Lib.hid (AF.out.below hb)
    have UF := Lib.hid hui
    clear hu hui hb
    go_wp2_with fail
    refine (LoopsOf_is ucF R0.out AF'.out UF.out).mono ?_
    rintro e wG ⟨vh, VH, rfl, hg, hb⟩
    have BG := Lib.hid (BF'.out.trans (hb.mono BF'.out.size))
    have KG := Lib.hid (KF'.out.trans (hb.mono KF'.out.size))
    have GG := Lib.hid (GF'.out.below hb)
    have HG := Lib.hid hg.v
    clear hb hg
    go_wp2_with fail
    refine (eqRows_at HG.out (Z4.out.below KG.out)).mono ?_
    rintro e wH ⟨rfl, hb⟩
    have BH := Lib.hid (BG.out.trans (hb.mono BG.out.size))
    have GH := Lib.hid (GG.out.below hb)
    clear hb
    go_wp2_with fail
    refine (heldRows_at MG.out GH.out.v (by omega) (by omega) HSM.out).mono ?_
    rintro e wI ⟨rfl, rfl⟩
    go_wp2
    go_ret
    exact ⟨rfl, BH.out⟩

end Go.Proofs.Ytaagbnogbhegdaa
