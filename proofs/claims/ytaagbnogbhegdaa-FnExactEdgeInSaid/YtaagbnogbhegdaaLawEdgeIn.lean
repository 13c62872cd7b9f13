/-
  The walk of the law FnExactEdgeIn.
-/
import Derived.Test.YtaagbnogbhegdaaBase1
import Derived.Deep.RegionHeld3
namespace Go.Proofs.Ytaagbnogbhegdaa
open Go.RowKit

set_option maxHeartbeats 4000000 in
theorem lawEdgeIn {w : World} {va : Value} {O : List Int} {zss : List (List Int)} {n0 : Int} {n1 : Int} (hA : ArenaAt w va O zss) :
    Calls Try.prog 5 #[va, .int .i64 n0, .int .i64 n1] w fun e w' => e = .returned (.bool true) ∧ Below w.heap.size w w' := by
  have HA := Lib.hid hA
  obtain ⟨ao, an, co, cn, A, C, rfl, h1, h2⟩ := hA
  clear h1 h2
  have B1 := Lib.hid (below1 w (.cells #[.slice ao O.length co, .slice an zss.length cn] 51))
  by_cases hs : (1048576 : Int) < sizeArena O zss
  · have HS := Lib.hid (szArena_at (leftOf_no hs) (HA.out.below B1.out) (by omega) (by omega))
    clear hs
    go_enter Try.func5, Try.ntmps5
    go_wp2_with (go_at_call 35; refine HS.out.mono ?_; rintro e w2 ⟨rfl, hb⟩; have B2 := Lib.hid (B1.out.trans (hb.mono B1.out.size)); clear hb)
    go_ret
    exact ⟨rfl, B2.out⟩
  · have hle : (sizeArena O zss : Int) ≤ 1048576 := by omega
    have hn : zss.length ≤ 1048576 := by have := sizeArena_rows hle; omega
    obtain ⟨m, hm⟩ : ∃ m, leftOf 1048576 (sizeArena O zss) = m := ⟨_, rfl⟩
    have hm0 : 0 ≤ m := by rw [← hm, leftOf_yes hle]; omega
    have HS := Lib.hid (szArena_at hm (HA.out.below B1.out) (by omega) (by omega))
    obtain ⟨r0, hr0⟩ : ∃ r, edgeB O zss n0 n1 = r := ⟨_, rfl⟩
    have R0 := Lib.hid hr0
    clear hs hm hle hr0
    go_enter Try.func5, Try.ntmps5
    go_wp2_with fail
    refine HS.out.mono ?_
    rintro e w2 ⟨rfl, hb⟩
    have B2 := Lib.hid (B1.out.trans (hb.mono B1.out.size))
    have b2 := Lib.hid ((Box2.new w 51 (.slice ao O.length co) (.slice an zss.length cn)).below hb)
    clear hb
    have c0 := b2.out.cell0
    have c1 := b2.out.cell1
    go_wp2_with fail
    refine (toArena_at (HA.out.below B2.out) hn).mono ?_
    rintro e w3 ⟨rfl, hc, hat⟩
    have B3 := Lib.hid (B2.out.trans (hc.below.mono B2.out.size))
    have b3 := Lib.hid (b2.out.below hc.below)
    have A3 := Lib.hid hat
    clear hc hat c0 c1
    go_wp2_with fail
    refine (specEdgeIn_is R0.out A3.out).mono ?_
    rintro e w4 ⟨rfl, hb⟩
    have B4 := Lib.hid (B3.out.trans (hb.mono B3.out.size))
    have b4 := Lib.hid (b3.out.below hb)
    clear hb
    have c0 := b4.out.cell0
    have c1 := b4.out.cell1
    go_wp2_with fail
    refine (toArena_at (HA.out.below B4.out) hn).mono ?_
    rintro e w5 ⟨rfl, hc, hat⟩
    have B5 := Lib.hid (B4.out.trans (hc.below.mono B4.out.size))
    have b5 := Lib.hid (b4.out.below hc.below)
    have A5 := Lib.hid hat
    clear hc hat c0 c1
    go_wp2_with fail
    refine (EdgeIn_is R0.out (A5.out.alloc _)).mono ?_
    rintro e w7 ⟨rfl, hb⟩
    have B7 := Lib.hid ((B5.out.alloc B5.out.size _).trans (hb.mono (by have := B5.out.size; simp; omega)))
    have b7 := Lib.hid ((b5.out.alloc _).below hb)
    have x7 := Lib.hid ((Box2.new w5 27 (.slice (some ⟨w4.heap.size + 3, 0, none⟩) O.length O.length) (.slice (some ⟨w4.heap.size + 4, 0, none⟩) zss.length zss.length)).below hb)
    have A7 := Lib.hid ((A5.out.alloc _).below hb)
    clear hb
    have hbb : (r0 != r0) = false := by simp
    have c0 := b7.out.cell0
    have c1 := b7.out.cell1
    have c2 := x7.out.cell0
    have c3 := x7.out.cell1
    go_wp2_with fail
    have B7d := Lib.hid B7.out.drew
    have A7d : Hid (ArenaAt w7.drew _ O zss) := A7.out.below (Below.refl _ _).drew
    have b7d : Hid (Box2 w7.drew _ _ _ _) := b7.out.below (Below.refl _ _).drew
    have x7d : Hid (Box2 w7.drew _ _ _ _) := x7.out.below (Below.refl _ _).drew
    go_region_held3 (fun w' => w'.cell? ⟨w.heap.size, 0, none⟩ = some (.slice ao O.length co) ∧ w'.cell? ⟨w.heap.size, 1, none⟩ = some (.slice an zss.length cn) ∧
        w'.cell? ⟨w5.heap.size, 0, none⟩ = some (.slice (some ⟨w4.heap.size + 3, 0, none⟩) O.length O.length) ∧ w'.cell? ⟨w5.heap.size, 1, none⟩ = some (.slice (some ⟨w4.heap.size + 4, 0, none⟩) zss.length zss.length))
      (first
        | go_keep
        | exact ⟨d0, d1, d2, d3⟩
        | exact ⟨e0, e1, e2, e3⟩)
      (first
        | (go_at_call 37; refine (toArena_at (HA.out.below B7d.out) hn).mono ?_; rintro e w8 ⟨rfl, hc, hat⟩; have d0 := (b7d.out.below hc.below).cell0; have d1 := (b7d.out.below hc.below).cell1; have d2 := (x7d.out.below hc.below).cell0; have d3 := (x7d.out.below hc.below).cell1; have B8 := Lib.hid (B7d.out.trans (hc.below.mono B7d.out.size)); have A8 := Lib.hid hat; have b8 := Lib.hid (b7d.out.below hc.below); have x8 := Lib.hid (x7d.out.below hc.below); have A8' := Lib.hid (A7d.out.below hc.below); clear hc hat)
        | (go_at_call 39; refine (eqArena_at A8'.out A8.out).mono ?_; rintro e w9 ⟨rfl, hb⟩; have B9 := Lib.hid (B8.out.trans (hb.mono B8.out.size)); have e0 := (b8.out.below hb).cell0; have e1 := (b8.out.below hb).cell1; have e2 := (x8.out.below hb).cell0; have e3 := (x8.out.below hb).cell1; clear hb))
    go_wp2
    go_ret
    exact ⟨rfl, B9.out⟩

end Go.Proofs.Ytaagbnogbhegdaa
