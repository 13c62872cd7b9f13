/-
  The walk of the law FnExactSameArena.
-/
import Derived.Test.YtfhpjkfgcglofaaCopy
import Derived.Test.YtfhpjkfgcglofaaSize
import Derived.Test.YtfhpjkfgcglofaaEq
import Derived.Test.YtfhpjkfgcglofaaSame
import Derived.Deep.RegionHeld3
namespace Go.Proofs.Ytfhpjkfgcglofaa
open Go.RowKit

set_option maxHeartbeats 8000000 in
set_option maxRecDepth 100000 in
theorem lawSameArena {w : World} {va : Value} {O : List Int} {zss : List (List Int)} {va' : Value} {O' : List Int} {zss' : List (List Int)} (hA : ArenaAt w va O zss) (hA' : ArenaAt w va' O' zss') :
    Calls Try.prog 5 #[va, va'] w fun e w' => e = .returned (.bool true) ∧ Below w.heap.size w w' := by
  have HA := Lib.hid hA
  have HA' := Lib.hid hA'
  obtain ⟨ao, an, co, cn, A, C, rfl, h1, h2⟩ := hA
  obtain ⟨bo, bn, do', dn, A', C', rfl, h1', h2'⟩ := hA'
  clear h1 h2 h1' h2'
  obtain ⟨W, hW⟩ : ∃ W, W = (w.alloc (.cells #[.slice ao O.length co, .slice an zss.length cn] 33)).alloc (.cells #[.slice bo O'.length do', .slice bn zss'.length dn] 33) := ⟨_, rfl⟩
  have HW := Lib.hid hW
  have B1 : Hid (Below w.heap.size w W) := by rw [hW]; exact below2 _ _ _
  have bA1 : Hid (Box2 W w.heap.size 33 (.slice ao O.length co) (.slice an zss.length cn)) := by rw [hW]; exact (Box2.new w _ _ _).alloc _
  have bB1 : Hid (Box2 W (w.heap.size + 1) 33 (.slice bo O'.length do') (.slice bn zss'.length dn)) := by rw [hW]; exact Box2.new_at (by simp) _ _ _
  clear hW
  by_cases hs : (1048576 : Int) < sizeArena O zss
  · have HS := Lib.hid (szArena_at (leftOf_no hs) (HA.out.below B1.out) (by omega) (by omega))
    clear hs
    go_enter Try.func5, Try.ntmps5
    go_wp2_with fail
    rw [← HW.out]
    refine HS.out.mono ?_
    rintro e w2 ⟨rfl, hb⟩
    have B2 := Lib.hid (B1.out.trans (hb.mono B1.out.size))
    clear hb
    go_wp2
    go_ret
    exact ⟨rfl, B2.out⟩
  · have hle : (sizeArena O zss : Int) ≤ 1048576 := by omega
    have hn : zss.length ≤ 1048576 := by have := sizeArena_rows hle; omega
    obtain ⟨m, hm⟩ : ∃ m, leftOf 1048576 (sizeArena O zss) = m := ⟨_, rfl⟩
    have hm0 : 0 ≤ m ∧ m ≤ 1048576 := by rw [← hm, leftOf_yes hle]; omega
    obtain ⟨hm0, hm1⟩ := hm0
    have HS := Lib.hid (szArena_at hm (HA.out.below B1.out) (by omega) (by omega))
    clear hs hm hle
    by_cases hs : m < sizeArena O' zss'
    · have E1 := Lib.hid (leftOf_no hs)
      clear hs
      go_enter Try.func5, Try.ntmps5
      go_wp2_with fail
      rw [← HW.out]
      refine HS.out.mono ?_
      rintro e w2 ⟨rfl, hb⟩
      have B2 := Lib.hid (B1.out.trans (hb.mono B1.out.size))
      have c0 := (bB1.out.below hb).cell0
      have c1 := (bB1.out.below hb).cell1
      clear hb
      go_wp2_with fail
      refine (szArena_at E1.out (HA'.out.below B2.out) hm0 hm1).mono ?_
      rintro e w3 ⟨rfl, hb⟩
      have B3 := Lib.hid (B2.out.trans (hb.mono B2.out.size))
      clear hb
      go_wp2
      go_ret
      exact ⟨rfl, B3.out⟩
    · have hle : (sizeArena O' zss' : Int) ≤ m := by omega
      have hn' : zss'.length ≤ 1048576 := by have := sizeArena_rows hle; omega
      obtain ⟨m', hm'⟩ : ∃ m', leftOf m (sizeArena O' zss') = m' := ⟨_, rfl⟩
      have hm'0 : 0 ≤ m' := by rw [← hm', leftOf_yes hle]; omega
      have E1 := Lib.hid hm'
      obtain ⟨r0, hr0⟩ : ∃ r, sameB O zss O' zss' = r := ⟨_, rfl⟩
      have R0 := Lib.hid hr0
      clear hs hm' hle hr0
      have tokA : True := trivial
      have tokB : True := trivial
      go_enter Try.func5, Try.ntmps5
      go_wp2_with fail
      rw [← HW.out]
      refine HS.out.mono ?_
      rintro e w2 ⟨rfl, hb⟩
      have B2 := Lib.hid (B1.out.trans (hb.mono B1.out.size))
      have bA2 := Lib.hid (bA1.out.below hb)
      have bB2 := Lib.hid (bB1.out.below hb)
      have c0 := bB2.out.cell0
      have c1 := bB2.out.cell1
      clear hb
      go_wp2_with fail
      refine (szArena_at E1.out (HA'.out.below B2.out) hm0 hm1).mono ?_
      rintro e w3 ⟨rfl, hb⟩
      have B3 := Lib.hid (B2.out.trans (hb.mono B2.out.size)).drew
      have bA3' := Lib.hid (bA2.out.below hb)
      have bB3' := Lib.hid (bB2.out.below hb)
      have bA3 : Hid (Box2 w3.drew _ _ _ _) := bA3'.out.below (Below.refl _ _).drew
      have bB3 : Hid (Box2 w3.drew _ _ _ _) := bB3'.out.below (Below.refl _ _).drew
      clear hb c0 c1
      have c0 := bA3'.out.cell0
      have c1 := bA3'.out.cell1
      have c2 := bB3'.out.cell0
      have c3 := bB3'.out.cell1
      go_wp2_with fail
      go_region_held3 (fun w' => w'.cell? ⟨w.heap.size, 0, none⟩ = some (.slice ao O.length co) ∧ w'.cell? ⟨w.heap.size, 1, none⟩ = some (.slice an zss.length cn) ∧
          w'.cell? ⟨w.heap.size + 1, 0, none⟩ = some (.slice bo O'.length do') ∧ w'.cell? ⟨w.heap.size + 1, 1, none⟩ = some (.slice bn zss'.length dn))
        (first
          | go_keep
          | exact ⟨d0, d1, d2, d3⟩
          | exact ⟨e0, e1, e2, e3⟩
          | exact ⟨f0, f1, f2, f3⟩)
        (first
          | (go_at_call 20; have _t := tokA; refine (toArena_at (HA.out.below B3.out) hn).mono ?_; rintro e w4 ⟨rfl, hc, hat⟩; have bA4 := Lib.hid (bA3.out.below hc.below); have bB4 := Lib.hid (bB3.out.below hc.below); have d0 := bA4.out.cell0; have d1 := bA4.out.cell1; have d2 := bB4.out.cell0; have d3 := bB4.out.cell1; have B4 := Lib.hid (B3.out.trans (hc.below.mono B3.out.size)); have P4 := Lib.hid hat; clear hc hat tokA)
          | (go_at_call 20; have _t := tokB; refine (toArena_at (HA'.out.below B4.out) hn').mono ?_; rintro e w5 ⟨rfl, hc, hat⟩; have bA5 := Lib.hid (bA4.out.below hc.below); have bB5 := Lib.hid (bB4.out.below hc.below); have e0 := bA5.out.cell0; have e1 := bA5.out.cell1; have e2 := bB5.out.cell0; have e3 := bB5.out.cell1; have B5 := Lib.hid (B4.out.trans (hc.below.mono B4.out.size)); have Q5 := Lib.hid hat; have P5 := Lib.hid (P4.out.below hc.below); clear hc hat tokB)
          | (go_at_call 23; refine (specSameArena_is R0.out P5.out Q5.out).mono ?_; rintro e w6 ⟨rfl, hb⟩; have bA6 := Lib.hid (bA5.out.below hb); have bB6 := Lib.hid (bB5.out.below hb); have f0 := bA6.out.cell0; have f1 := bA6.out.cell1; have f2 := bB6.out.cell0; have f3 := bB6.out.cell1; have B6 := Lib.hid (B5.out.trans (hb.mono B5.out.size)); clear hb))
      clear c0 c1 c2 c3 d0 d1 d2 d3 e0 e1 e2 e3 f2 f3
      go_wp2_with fail
      refine (toArena_at (HA.out.below B6.out) hn).mono ?_
      rintro e w7 ⟨rfl, hc, hat⟩
      have B7 := Lib.hid (B6.out.trans (hc.below.mono B6.out.size))
      have bA7 := Lib.hid (bA6.out.below hc.below)
      have bB7 := Lib.hid (bB6.out.below hc.below)
      have X7 := Lib.hid hat
      clear hc hat f0 f1
      have hlt7 := bB7.out.lt
      have c2 := bB7.out.cell0
      have c3 := bB7.out.cell1
      go_wp2_with fail
      obtain ⟨w8, hw8⟩ : ∃ w8, w8 = w7.alloc (.cells #[.slice (some ⟨w6.heap.size + 3, 0, none⟩) O.length O.length, .slice (some ⟨w6.heap.size + 4, 0, none⟩) zss.length zss.length] 27) := ⟨_, rfl⟩
      rw [← hw8]
      have hb8 : Below w7.heap.size w7 w8 := by rw [hw8]; exact below1 _ _
      have xA8 : Hid (Box2 w8 w7.heap.size 27 (.slice (some ⟨w6.heap.size + 3, 0, none⟩) O.length O.length) (.slice (some ⟨w6.heap.size + 4, 0, none⟩) zss.length zss.length)) := by rw [hw8]; exact Box2.new _ _ _ _
      have B8 := Lib.hid (B7.out.trans (hb8.mono B7.out.size))
      have bA8 := Lib.hid (bA7.out.below hb8)
      have bB8 := Lib.hid (bB7.out.below hb8)
      have X8 := Lib.hid (X7.out.below hb8)
      clear hw8 hb8 c2 c3 hlt7
      refine (toArena_at (HA'.out.below B8.out) hn').mono ?_
      rintro e w9 ⟨rfl, hc, hat⟩
      have B9 := Lib.hid (B8.out.trans (hc.below.mono B8.out.size))
      have bA9 := Lib.hid (bA8.out.below hc.below)
      have bB9 := Lib.hid (bB8.out.below hc.below)
      have xA9 := Lib.hid (xA8.out.below hc.below)
      have X9 := Lib.hid (X8.out.below hc.below)
      have Y9 := Lib.hid hat
      clear hc hat
      have hl9 := xA9.out.lt
      have c0 := xA9.out.cell0
      have c1 := xA9.out.cell1
      go_wp2_with fail
      obtain ⟨wA, hwA⟩ : ∃ wA, wA = w9.alloc (.cells #[.slice (some ⟨w8.heap.size + 3, 0, none⟩) O'.length O'.length, .slice (some ⟨w8.heap.size + 4, 0, none⟩) zss'.length zss'.length] 27) := ⟨_, rfl⟩
      rw [← hwA]
      have hbA : Below w9.heap.size w9 wA := by rw [hwA]; exact below1 _ _
      have xBA : Hid (Box2 wA w9.heap.size 27 (.slice (some ⟨w8.heap.size + 3, 0, none⟩) O'.length O'.length) (.slice (some ⟨w8.heap.size + 4, 0, none⟩) zss'.length zss'.length)) := by rw [hwA]; exact Box2.new _ _ _ _
      have BA := Lib.hid (B9.out.trans (hbA.mono B9.out.size))
      have bAA := Lib.hid (bA9.out.below hbA)
      have bBA := Lib.hid (bB9.out.below hbA)
      have xAA := Lib.hid (xA9.out.below hbA)
      have XA := Lib.hid (X9.out.below hbA)
      have YA := Lib.hid (Y9.out.below hbA)
      clear hwA hbA c0 c1 hl9
      refine (SameArena_is R0.out XA.out YA.out).mono ?_
      rintro e wB ⟨rfl, hb⟩
      have BB := Lib.hid (BA.out.trans (hb.mono BA.out.size)).drew
      have bAB' := Lib.hid (bAA.out.below hb)
      have bBB' := Lib.hid (bBA.out.below hb)
      have xAB' := Lib.hid (xAA.out.below hb)
      have xBB' := Lib.hid (xBA.out.below hb)
      have XB' := Lib.hid (XA.out.below hb)
      have YB' := Lib.hid (YA.out.below hb)
      have bAB : Hid (Box2 wB.drew _ _ _ _) := bAB'.out.below (Below.refl _ _).drew
      have bBB : Hid (Box2 wB.drew _ _ _ _) := bBB'.out.below (Below.refl _ _).drew
      have xAB : Hid (Box2 wB.drew _ _ _ _) := xAB'.out.below (Below.refl _ _).drew
      have xBB : Hid (Box2 wB.drew _ _ _ _) := xBB'.out.below (Below.refl _ _).drew
      have XB : Hid (ArenaAt wB.drew _ _ _) := XB'.out.below (Below.refl _ _).drew
      have YB : Hid (ArenaAt wB.drew _ _ _) := YB'.out.below (Below.refl _ _).drew
      clear hb
      have hbb : (r0 != r0) = false := by simp
      have c0 := bAB'.out.cell0
      have c1 := bAB'.out.cell1
      have c2 := xAB'.out.cell0
      have c3 := xAB'.out.cell1
      go_wp2_with fail
      go_region_held3 (fun w' => w'.cell? ⟨w.heap.size, 0, none⟩ = some (.slice ao O.length co) ∧ w'.cell? ⟨w.heap.size, 1, none⟩ = some (.slice an zss.length cn) ∧
          w'.cell? ⟨w7.heap.size, 0, none⟩ = some (.slice (some ⟨w6.heap.size + 3, 0, none⟩) O.length O.length) ∧ w'.cell? ⟨w7.heap.size, 1, none⟩ = some (.slice (some ⟨w6.heap.size + 4, 0, none⟩) zss.length zss.length))
        (first
          | go_keep
          | exact ⟨d0, d1, d2, d3⟩
          | exact ⟨e0, e1, e2, e3⟩)
        (first
          | (go_at_call 20; refine (toArena_at (HA.out.below BB.out) hn).mono ?_; rintro e wC ⟨rfl, hc, hat⟩; have bAC := Lib.hid (bAB.out.below hc.below); have bBC := Lib.hid (bBB.out.below hc.below); have xAC := Lib.hid (xAB.out.below hc.below); have xBC := Lib.hid (xBB.out.below hc.below); have d0 := bAC.out.cell0; have d1 := bAC.out.cell1; have d2 := xAC.out.cell0; have d3 := xAC.out.cell1; have BC := Lib.hid (BB.out.trans (hc.below.mono BB.out.size)); have PC := Lib.hid hat; have XC := Lib.hid (XB.out.below hc.below); have YC := Lib.hid (YB.out.below hc.below); clear hc hat)
          | (go_at_call 22; refine (eqArena_at XC.out PC.out).mono ?_; rintro e wD ⟨rfl, hb⟩; have bAD := Lib.hid (bAC.out.below hb); have bBD := Lib.hid (bBC.out.below hb); have xAD := Lib.hid (xAC.out.below hb); have xBD := Lib.hid (xBC.out.below hb); have e0 := bAD.out.cell0; have e1 := bAD.out.cell1; have e2 := xAD.out.cell0; have e3 := xAD.out.cell1; have BD := Lib.hid (BC.out.trans (hb.mono BC.out.size)).drew; have YD := Lib.hid (YC.out.below hb); clear hb))
      clear c0 c1 c2 c3 d0 d1 d2 d3 e0 e1 e2 e3
      have bBE : Hid (Box2 wD.drew _ _ _ _) := bBD.out.below (Below.refl _ _).drew
      have xBE : Hid (Box2 wD.drew _ _ _ _) := xBD.out.below (Below.refl _ _).drew
      have YE : Hid (ArenaAt wD.drew _ _ _) := YD.out.below (Below.refl _ _).drew
      have c0 := bBD.out.cell0
      have c1 := bBD.out.cell1
      have c2 := xBD.out.cell0
      have c3 := xBD.out.cell1
      go_wp2_with fail
      go_region_held3 (fun w' => w'.cell? ⟨w.heap.size + 1, 0, none⟩ = some (.slice bo O'.length do') ∧ w'.cell? ⟨w.heap.size + 1, 1, none⟩ = some (.slice bn zss'.length dn) ∧
          w'.cell? ⟨w9.heap.size, 0, none⟩ = some (.slice (some ⟨w8.heap.size + 3, 0, none⟩) O'.length O'.length) ∧ w'.cell? ⟨w9.heap.size, 1, none⟩ = some (.slice (some ⟨w8.heap.size + 4, 0, none⟩) zss'.length zss'.length))
        (first
          | go_keep
          | exact ⟨d0, d1, d2, d3⟩
          | exact ⟨e0, e1, e2, e3⟩)
        (first
          | (go_at_call 20; refine (toArena_at (HA'.out.below BD.out) hn').mono ?_; rintro e wF ⟨rfl, hc, hat⟩; have bBF := Lib.hid (bBE.out.below hc.below); have xBF := Lib.hid (xBE.out.below hc.below); have d0 := bBF.out.cell0; have d1 := bBF.out.cell1; have d2 := xBF.out.cell0; have d3 := xBF.out.cell1; have BF := Lib.hid (BD.out.trans (hc.below.mono BD.out.size)); have PF := Lib.hid hat; have YF := Lib.hid (YE.out.below hc.below); clear hc hat)
          | (go_at_call 22; refine (eqArena_at YF.out PF.out).mono ?_; rintro e wG ⟨rfl, hb⟩; have bBG := Lib.hid (bBF.out.below hb); have xBG := Lib.hid (xBF.out.below hb); have e0 := bBG.out.cell0; have e1 := bBG.out.cell1; have e2 := xBG.out.cell0; have e3 := xBG.out.cell1; have BG := Lib.hid (BF.out.trans (hb.mono BF.out.size)); clear hb))
      go_wp2
      go_ret
      exact ⟨rfl, BG.out⟩

end Go.Proofs.Ytfhpjkfgcglofaa
