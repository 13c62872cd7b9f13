/-
  The walk of the law FnExactArenaOk.
-/
import Derived.Test.YtfhpjkfgcglofaaCopy
import Derived.Test.YtfhpjkfgcglofaaSize
import Derived.Test.YtfhpjkfgcglofaaEq
import Derived.Deep.RegionHeld3
namespace Go.Proofs.Ytfhpjkfgcglofaa
open Go.RowKit

set_option maxHeartbeats 2000000 in
theorem lawArenaOk (ao an : Option Addr) (O : List Int) (zss : List (List Int)) (co cn : Nat) (A : Nat → Option Addr) (C : Nat → Nat) (w : World) (hO : IntsAt w ao O) (hN : RowsAt w an A C zss) :
    Calls Try.prog 4 #[.agg #[.slice ao O.length co, .slice an zss.length cn]] w fun e w' => e = .returned (.bool true) ∧ Below w.heap.size w w' := by
  have HO := Lib.hid hO
  have HN := Lib.hid hN
  clear hO hN
  have B1 := Lib.hid (below1 w (.cells #[.slice ao O.length co, .slice an zss.length cn] 33))
  have HS := Lib.hid (szArena_any ao an O zss co cn A C 1048576 (w.alloc (.cells #[.slice ao O.length co, .slice an zss.length cn] 33)) (HO.out.alloc _) (HN.out.alloc _) (by omega) (by omega))
  by_cases hs : (1048576 : Int) < sizeArena O zss
  · have HS' := HS
    rw [leftOf_no hs] at HS'
    clear HS hs
    go_enter Try.func4, Try.ntmps4
    go_wp2_with (go_at_call 18; refine HS'.out.mono ?_; rintro e w2 ⟨rfl, hb⟩; have B2 := Lib.hid (B1.out.trans (hb.mono B1.out.size)); clear hb)
    go_ret
    exact ⟨rfl, B2.out⟩
  · have hn : zss.length ≤ 1048576 := by unfold sizeArena at hs; omega
    rw [leftOf_yes (by omega)] at HS
    obtain ⟨m, hm⟩ : ∃ m, m = (1048576 : Int) - (sizeArena O zss : Nat) := ⟨_, rfl⟩
    have hm0 : 0 ≤ m := by omega
    rw [← hm] at HS
    clear hs hm
    go_enter Try.func4, Try.ntmps4
    go_wp2_with fail
    refine HS.out.mono ?_
    rintro e w2 ⟨rfl, hb⟩
    have B2 := Lib.hid (B1.out.trans (hb.mono B1.out.size))
    have b2 := Lib.hid ((Box2.new w 33 (.slice ao O.length co) (.slice an zss.length cn)).below hb)
    clear hb
    have c0 := b2.out.cell0
    have c1 := b2.out.cell1
    go_wp2_with fail
    refine (toArena_any ao an O zss co cn A C w2 (HO.out.below B2.out) (HN.out.below B2.out) hn).mono ?_
    rintro e w3 ⟨rfl, hc⟩
    have B3 := Lib.hid (B2.out.trans (hc.below.mono B2.out.size))
    have b3 := Lib.hid (b2.out.below hc.below)
    have I3 := Lib.hid (hc.ints HO.out)
    have R3 := Lib.hid (hc.rows HN.out)
    clear hc c0 c1
    go_wp2_with fail
    refine (specArenaOk_any _ _ O zss _ _ _ _ w3 I3.out R3.out).mono ?_
    rintro e w4 ⟨rfl, hb⟩
    have B4 := Lib.hid (B3.out.trans (hb.mono B3.out.size))
    have b4 := Lib.hid (b3.out.below hb)
    clear hb
    have c0 := b4.out.cell0
    have c1 := b4.out.cell1
    go_wp2_with fail
    refine (toArena_any ao an O zss co cn A C w4 (HO.out.below B4.out) (HN.out.below B4.out) hn).mono ?_
    rintro e w5 ⟨rfl, hc⟩
    have B5 := Lib.hid (B4.out.trans (hc.below.mono B4.out.size))
    have b5 := Lib.hid (b4.out.below hc.below)
    have I5 := Lib.hid (hc.ints HO.out)
    have R5 := Lib.hid (hc.rows HN.out)
    clear hc c0 c1
    go_wp2_with fail
    refine (ArenaOk_any _ _ O zss _ _ _ _ _ (I5.out.alloc _) (R5.out.alloc _)).mono ?_
    rintro e w7 ⟨rfl, hb⟩
    have hs7 : w5.heap.size < w7.heap.size := by have := hb.size; simp at this; omega
    have B7 := Lib.hid ((B5.out.alloc B5.out.size _).trans (hb.mono (by have := B5.out.size; simp; omega)))
    have b7 := Lib.hid ((b5.out.alloc _).below hb)
    have x7 := Lib.hid ((Box2.new w5 27 (.slice (some ⟨w4.heap.size + 3, 0, none⟩) O.length O.length) (.slice (some ⟨w4.heap.size + 4, 0, none⟩) zss.length zss.length)).below hb)
    have I7 := Lib.hid ((I5.out.alloc _).below hb)
    have R7 := Lib.hid ((R5.out.alloc _).below hb)
    clear hb
    have hbb : (arenaB O zss != arenaB O zss) = false := by simp
    have c0 := b7.out.cell0
    have c1 := b7.out.cell1
    have c2 := x7.out.cell0
    have c3 := x7.out.cell1
    go_wp2_with fail
    have B7d := Lib.hid B7.out.drew
    have I7d : Hid (IntsAt w7.drew _ O) := I7.out.below (Below.refl _ _).drew
    have R7d : Hid (RowsAt w7.drew _ _ _ zss) := R7.out.below (Below.refl _ _).drew
    have b7d : Hid (Box2 w7.drew _ _ _ _) := b7.out.below (Below.refl _ _).drew
    have x7d : Hid (Box2 w7.drew _ _ _ _) := x7.out.below (Below.refl _ _).drew
    go_region_held3 (fun w' => w'.cell? ⟨w.heap.size, 0, none⟩ = some (.slice ao O.length co) ∧ w'.cell? ⟨w.heap.size, 1, none⟩ = some (.slice an zss.length cn) ∧
        w'.cell? ⟨w5.heap.size, 0, none⟩ = some (.slice (some ⟨w4.heap.size + 3, 0, none⟩) O.length O.length) ∧ w'.cell? ⟨w5.heap.size, 1, none⟩ = some (.slice (some ⟨w4.heap.size + 4, 0, none⟩) zss.length zss.length))
      (first
        | go_keep
        | exact ⟨d0, d1, d2, d3⟩
        | exact ⟨e0, e1, e2, e3⟩)
      (first
        | (go_at_call 20; refine (toArena_any ao an O zss co cn A C w7.drew (HO.out.below B7d.out) (HN.out.below B7d.out) hn).mono ?_; rintro e w8 ⟨rfl, hc⟩; have d0 := (b7d.out.below hc.below).cell0; have d1 := (b7d.out.below hc.below).cell1; have d2 := (x7d.out.below hc.below).cell0; have d3 := (x7d.out.below hc.below).cell1; have B8 := Lib.hid (B7d.out.trans (hc.below.mono B7d.out.size)); have I8 := Lib.hid (hc.ints HO.out); have R8 := Lib.hid (hc.rows HN.out); have b8 := Lib.hid (b7d.out.below hc.below); have x8 := Lib.hid (x7d.out.below hc.below); have I8' := Lib.hid (I7d.out.below hc.below); have R8' := Lib.hid (R7d.out.below hc.below); clear hc)
        | (go_at_call 22; refine (eqArena_yes _ _ _ _ _ I8'.out R8'.out I8.out R8.out).mono ?_; rintro e w9 ⟨rfl, hb⟩; have B9 := Lib.hid (B8.out.trans (hb.mono B8.out.size)); have e0 := (b8.out.below hb).cell0; have e1 := (b8.out.below hb).cell1; have e2 := (x8.out.below hb).cell0; have e3 := (x8.out.below hb).cell1; clear hb))
    go_wp2
    go_ret
    exact ⟨rfl, B9.out⟩

end Go.Proofs.Ytfhpjkfgcglofaa
