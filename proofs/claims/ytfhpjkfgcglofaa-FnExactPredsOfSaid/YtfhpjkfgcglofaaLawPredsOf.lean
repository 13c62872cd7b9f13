/-
  The walk of the law FnExactPredsOf.
-/
import Derived.Test.YtfhpjkfgcglofaaInts
import Derived.Test.YtfhpjkfgcglofaaPredsImpl
import Derived.Deep.RegionHeld3
namespace Go.Proofs.Ytfhpjkfgcglofaa
open Go.RowKit

set_option maxHeartbeats 8000000 in
set_option maxRecDepth 100000 in
theorem lawPredsOf {w : World} {va : Value} {O : List Int} {zss : List (List Int)} {n0 : Int} (hA : ArenaAt w va O zss) :
    Calls Try.prog 7 #[va, .int .i64 n0] w fun e w' => e = .returned (.bool true) ∧ Below w.heap.size w w' := by
  have HA := Lib.hid hA
  obtain ⟨ao, an, co, cn, A, C, rfl, h1, h2⟩ := hA
  clear h1 h2
  have B1 := Lib.hid (below1 w (.cells #[.slice ao O.length co, .slice an zss.length cn] 33))
  by_cases hs : (1048576 : Int) < sizeArena O zss
  · have HS := Lib.hid (szArena_at (leftOf_no hs) (HA.out.below B1.out) (by omega) (by omega))
    clear hs
    go_enter Try.func7, Try.ntmps7
    go_wp2_with (go_at_call 18; refine HS.out.mono ?_; rintro e w2 ⟨rfl, hb⟩; have B2 := Lib.hid (B1.out.trans (hb.mono B1.out.size)); clear hb)
    go_ret
    exact ⟨rfl, B2.out⟩
  · have hle : (sizeArena O zss : Int) ≤ 1048576 := by omega
    have HLE : Hid (sizeArena O zss ≤ 1048576) := by simp only [Hid]; omega
    have hn : zss.length ≤ 1048576 := by have := sizeArena_rows hle; omega
    obtain ⟨m, hm⟩ : ∃ m, leftOf 1048576 (sizeArena O zss) = m := ⟨_, rfl⟩
    have hm0 : 0 ≤ m := by rw [← hm, leftOf_yes hle]; omega
    have HS := Lib.hid (szArena_at hm (HA.out.below B1.out) (by omega) (by omega))
    obtain ⟨r0, hr0⟩ : ∃ r, predsL O zss n0 = r := ⟨_, rfl⟩
    have R0 := Lib.hid hr0
    obtain ⟨mk, hmk⟩ : ∃ r : Int, 1 + (O.length : Int) + (sumLen zss zss.length : Int) = r := ⟨_, rfl⟩
    have MK := Lib.hid hmk
    have hmk0 : 0 ≤ mk := by omega
    obtain ⟨mg, hmg⟩ : ∃ r : Int, 1 + (r0.length : Int) = r := ⟨_, rfl⟩
    have MG := Lib.hid hmg
    have hmg0 : 0 ≤ mg := by omega
    have hmgn : (mg != mg) = false := by simp
    clear hs hm hle hr0 hmk hmg
    go_enter Try.func7, Try.ntmps7
    go_wp2_with fail
    refine HS.out.mono ?_
    rintro e w2 ⟨rfl, hb⟩
    have B2 := Lib.hid (B1.out.trans (hb.mono B1.out.size))
    have b2 := Lib.hid ((Box2.new w 33 (.slice ao O.length co) (.slice an zss.length cn)).below hb)
    clear hb
    have c0 := b2.out.cell0
    have c1 := b2.out.cell1
    go_wp2_with fail
    refine (toArena_at (HA.out.below B2.out) hn).mono ?_
    rintro e w3 ⟨rfl, hc, hat⟩
    have B3 := Lib.hid (B2.out.trans (hc.below.mono B2.out.size))
    have b3 := Lib.hid (b2.out.below hc.below)
    have A3 := Lib.hid hat
    clear hc hat c0 c1
    go_wp2_with fail
    refine (specPredsOf_is R0.out A3.out).mono ?_
    rintro e w4 ⟨vw, rfl, hg, hb⟩
    have B4 := Lib.hid (B3.out.trans (hb.mono B3.out.size))
    have b4 := Lib.hid (b3.out.below hb)
    have Z4 := Lib.hid hg.v
    clear hb hg
    have c0 := b4.out.cell0
    have c1 := b4.out.cell1
    go_wp2_with fail
    refine (toArena_at (HA.out.below B4.out) hn).mono ?_
    rintro e w5 ⟨rfl, hc, hat⟩
    have B5 := Lib.hid (B4.out.trans (hc.below.mono B4.out.size))
    have b5 := Lib.hid (b4.out.below hc.below)
    have K5 := Lib.hid hc.below
    have X5 := Lib.hid (hc.owned (HA.out.below B4.out))
    clear hc hat c0 c1
    go_wp2_with fail
    refine (PredsOf_is R0.out (X5.out.at.alloc _)).mono ?_
    rintro e w7 ⟨vg, rfl, hg, hb⟩
    have hs5 : w5.heap.size + 1 ≤ w7.heap.size := by have := hb.size; simp at this; omega
    have HS5 := Lib.hid hs5
    have B7 := Lib.hid ((B5.out.alloc B5.out.size _).trans (hb.mono (by have := B5.out.size; simp; omega)))
    have K7 := Lib.hid ((K5.out.alloc K5.out.size _).trans (hb.mono (by have := K5.out.size; simp; omega)))
    have b7 := Lib.hid ((b5.out.alloc _).below hb)
    have x7 := Lib.hid ((Box2.new w5 27 (.slice (some ⟨w4.heap.size + 3, 0, none⟩) O.length O.length) (.slice (some ⟨w4.heap.size + 4, 0, none⟩) zss.length zss.length)).below hb)
    have X7 := Lib.hid ((X5.out.below (below1 _ _)).below hb)
    have hg' : OwnInts w7 (w5.heap.size + 1) w7.heap.size vg r0 := by simpa using hg
    have G7 := Lib.hid hg'
    clear hb hg hg' hs5
    go_wp2_with fail
    refine (eqInts_at G7.out.v (Z4.out.below K7.out)).mono ?_
    rintro e w8 ⟨rfl, hb⟩
    have B8d := Lib.hid (B7.out.trans (hb.mono B7.out.size)).drew
    have K8d := Lib.hid (K7.out.trans (hb.mono K7.out.size)).drew
    have b8 := Lib.hid (b7.out.below hb)
    have x8 := Lib.hid (x7.out.below hb)
    have X8 := Lib.hid (X7.out.below hb)
    have G8 := Lib.hid (G7.out.below hb)
    have b8d : Hid (Box2 w8.drew _ _ _ _) := b8.out.below (Below.refl _ _).drew
    have x8d : Hid (Box2 w8.drew _ _ _ _) := x8.out.below (Below.refl _ _).drew
    have X8d : Hid (OwnArena w8.drew _ _ _ O zss) := X8.out.below (Below.refl _ _).drew
    have G8d : Hid (OwnInts w8.drew _ _ vg r0) := G8.out.below (Below.refl _ _).drew
    clear hb
    have c0 := b8.out.cell0
    have c1 := b8.out.cell1
    have c2 := x8.out.cell0
    have c3 := x8.out.cell1
    go_wp2_with fail
    go_region_held3 (fun w' => w'.cell? ⟨w.heap.size, 0, none⟩ = some (.slice ao O.length co) ∧ w'.cell? ⟨w.heap.size, 1, none⟩ = some (.slice an zss.length cn) ∧
        w'.cell? ⟨w5.heap.size, 0, none⟩ = some (.slice (some ⟨w4.heap.size + 3, 0, none⟩) O.length O.length) ∧ w'.cell? ⟨w5.heap.size, 1, none⟩ = some (.slice (some ⟨w4.heap.size + 4, 0, none⟩) zss.length zss.length))
      (first
        | go_keep
        | exact ⟨d0, d1, d2, d3⟩
        | exact ⟨e0, e1, e2, e3⟩)
      (first
        | (go_at_call 20; refine (toArena_at (HA.out.below B8d.out) hn).mono ?_; rintro e w9 ⟨rfl, hc, hat⟩; have b9 := Lib.hid (b8d.out.below hc.below); have x9 := Lib.hid (x8d.out.below hc.below); have d0 := b9.out.cell0; have d1 := b9.out.cell1; have d2 := x9.out.cell0; have d3 := x9.out.cell1; have B9 := Lib.hid (B8d.out.trans (hc.below.mono B8d.out.size)); have K9 := Lib.hid (K8d.out.trans (hc.below.mono K8d.out.size)); have A9 := Lib.hid hat; have X9 := Lib.hid (X8d.out.below hc.below); have G9 := Lib.hid (G8d.out.below hc.below); clear hc hat)
        | (go_at_call 22; refine (eqArena_at X9.out.at A9.out).mono ?_; rintro e wA ⟨rfl, hb⟩; have bA := Lib.hid (b9.out.below hb); have xA := Lib.hid (x9.out.below hb); have e0 := bA.out.cell0; have e1 := bA.out.cell1; have e2 := xA.out.cell0; have e3 := xA.out.cell1; have BA := Lib.hid (B9.out.trans (hb.mono B9.out.size)); have KA := Lib.hid (K9.out.trans (hb.mono K9.out.size)); have XA := Lib.hid (X9.out.below hb); have GA := Lib.hid (G9.out.below hb); clear hb))
    clear c0 c1 c2 c3 d0 d1 d2 d3
    go_wp2_with fail
    refine (markArena_at MK.out XA.out (by omega) (by omega) HLE.out).mono ?_
    rintro e wB ⟨rfl, hx, ho⟩
    have hsz4 : w.heap.size ≤ w4.heap.size := B4.out.size
    have KB := Lib.hid (KA.out.trans (ho.below (B := w4.heap.size) KA.out.size (fun b hb => hb.1)))
    have BB := Lib.hid (BA.out.trans (ho.below (B := w.heap.size) BA.out.size (fun b hb => by omega)))
    have GB := Lib.hid (GA.out.only ho (fun g hg hb => by have := (GA.out.own.lt g hg).1; omega))
    have bB := Lib.hid (b4.out.below KB.out)
    clear hx ho hsz4 e0 e1 e2 e3
    go_wp2_with fail
    refine (eqInts_at GB.out.v (Z4.out.below KB.out)).mono ?_
    rintro e wC ⟨rfl, hb⟩
    have BC := Lib.hid (BB.out.trans (hb.mono BB.out.size))
    have KC := Lib.hid (KB.out.trans (hb.mono KB.out.size))
    have GC := Lib.hid (GB.out.below hb)
    clear hb
    go_wp2_with fail
    refine (markInts_at MG.out GC.out (by omega) (by omega)).mono ?_
    rintro e wD ⟨rfl, hg, ho⟩
    have h57 := HS5.out
    have h45 := K5.out.size
    have h04 := B4.out.size
    have KD := Lib.hid (KC.out.trans (ho.below (B := w4.heap.size) KC.out.size (fun b hb => by omega)))
    have BD := Lib.hid (BC.out.trans (ho.below (B := w.heap.size) BC.out.size (fun b hb => by omega)))
    have GD := Lib.hid hg
    clear hg ho h57 h45 h04
    go_wp2_with fail
    refine (heldInts_is MG.out GD.out.v (by omega) (by omega)).mono ?_
    rintro e wE ⟨rfl, rfl⟩
    have bD := Lib.hid (b4.out.below KD.out)
    have c0 := bD.out.cell0
    have c1 := bD.out.cell1
    go_wp2_with fail
    refine (toArena_at (HA.out.below BD.out) hn).mono ?_
    rintro e wF ⟨rfl, hc, hat⟩
    have BF := Lib.hid (BD.out.trans (hc.below.mono BD.out.size))
    have KF := Lib.hid (KD.out.trans (hc.below.mono KD.out.size))
    have GF := Lib.hid (GD.out.below hc.below)
    have AF := Lib.hid hat
    clear hc hat c0 c1
    go_wp2_with fail
    refine (PredsOf_is R0.out AF.out).mono ?_
    rintro e wG ⟨vh, rfl, hg, hb⟩
    have BG := Lib.hid (BF.out.trans (hb.mono BF.out.size))
    have KG := Lib.hid (KF.out.trans (hb.mono KF.out.size))
    have GG := Lib.hid (GF.out.below hb)
    have HG := Lib.hid hg.v
    clear hb hg
    go_wp2_with fail
    refine (eqInts_at HG.out (Z4.out.below KG.out)).mono ?_
    rintro e wH ⟨rfl, hb⟩
    have BH := Lib.hid (BG.out.trans (hb.mono BG.out.size))
    have GH := Lib.hid (GG.out.below hb)
    clear hb
    go_wp2_with fail
    refine (heldInts_is MG.out GH.out.v (by omega) (by omega)).mono ?_
    rintro e wI ⟨rfl, rfl⟩
    go_wp2
    go_ret
    exact ⟨rfl, BH.out⟩

end Go.Proofs.Ytfhpjkfgcglofaa
