/-
  The walk of the law FnExactAllOf.
-/
import Derived.Test.YtbfefhbcbmieiaaAll
import Derived.Deep.RegionHeld3
namespace Go.Proofs.Ytbfefhbcbmieiaa
open Go.RowKit

set_option maxHeartbeats 8000000 in
set_option maxRecDepth 100000 in
theorem lawAllOf {w : World} {n0 : Int} (h0 : Fits n0) :
    Calls Try.prog 8 #[.int .i64 n0] w fun e w' => e = .returned (.bool true) ∧ Below w.heap.size w w' := by
  unfold Fits at h0
  obtain ⟨r0, hr0⟩ : ∃ r, allL n0 = r := ⟨_, rfl⟩
  have R0 := Lib.hid hr0
  obtain ⟨mg, hmg⟩ : ∃ r : Int, 1 + (r0.length : Int) = r := ⟨_, rfl⟩
  have MG := Lib.hid hmg
  have hmg0 : 0 ≤ mg := by omega
  have hmgn : (mg != mg) = false := by simp
  clear hmg
  clear hr0
  have B0 := Lib.hid (Below.refl w.heap.size w)
  go_enter Try.func8, Try.ntmps8
  go_wp2_with fail
  refine (specAllOf_is R0.out  ).mono ?_
  rintro e w1 ⟨vz, rfl, hg, hb⟩
  have B1 := Lib.hid (B0.out.trans (hb.mono B0.out.size))
  have Z := Lib.hid hg.v
  clear hg hb
  obtain ⟨wz, hwz⟩ : ∃ x, x = w1 := ⟨_, rfl⟩
  rw [← hwz] at Z
  have K1 : Hid (Below wz.heap.size wz w1) := by rw [hwz]; exact Below.refl _ _
  have hzs : w.heap.size ≤ wz.heap.size := by rw [hwz]; exact B1.out.size
  have HZS := Lib.hid hzs
  clear hzs
  have HWZ := Lib.hid hwz
  clear hwz
  go_wp2_with fail
  refine (AllOf_is R0.out  ).mono ?_
  rintro e w2 ⟨vg, rfl, hg, hb⟩
  have B2 := Lib.hid (B1.out.trans (hb.mono B1.out.size))
  have K2 := Lib.hid (K1.out.trans (hb.mono K1.out.size))
  have G2 := Lib.hid hg
  have hs2 : w1.heap.size ≤ w2.heap.size := hb.size
  have HS2 := Lib.hid hs2
  clear hg hb hs2
  have SZ : Hid (w.heap.size ≤ wz.heap.size ∧ wz.heap.size = w1.heap.size ∧ w1.heap.size ≤ w2.heap.size) := ⟨HZS.out, by rw [HWZ.out], HS2.out⟩
  go_wp2_with fail
  refine (eqInts_at G2.out.v (Z.out.below K2.out)).mono ?_
  rintro e w3 ⟨rfl, hb⟩
  have B3 := Lib.hid (B2.out.trans (hb.mono B2.out.size))
  have K3 := Lib.hid (K2.out.trans (hb.mono K2.out.size))
  have G3 := Lib.hid (G2.out.below hb)
  clear hb
  go_wp2_with fail
  refine (markInts_at MG.out G3.out (by omega) (by omega)).mono ?_
  rintro e w4 ⟨rfl, hx, ho⟩
  have hsz := SZ.out
  have B4 := Lib.hid (B3.out.trans (ho.below (B := w.heap.size) B3.out.size (fun b hb => by omega)))
  have K4 := Lib.hid (K3.out.trans (ho.below (B := wz.heap.size) K3.out.size (fun b hb => by omega)))
  have G4 := Lib.hid hx
  clear hx ho hsz
  go_wp2_with fail
  refine (heldInts_is MG.out G4.out.v (by omega) (by omega)).mono ?_
  rintro e wh ⟨rfl, rfl⟩
  go_wp2_with fail
  refine (AllOf_is R0.out  ).mono ?_
  rintro e w5 ⟨vh, rfl, hg, hb⟩
  have B5 := Lib.hid (B4.out.trans (hb.mono B4.out.size))
  have K5 := Lib.hid (K4.out.trans (hb.mono K4.out.size))
  have G5 := Lib.hid (G4.out.below hb)
  have ZH := Lib.hid hg.v
  clear hg hb
  go_wp2_with fail
  refine (eqInts_at ZH.out (Z.out.below K5.out)).mono ?_
  rintro e w6 ⟨rfl, hb⟩
  have B6 := Lib.hid (B5.out.trans (hb.mono B5.out.size))
  have K6 := Lib.hid (K5.out.trans (hb.mono K5.out.size))
  have G6 := Lib.hid (G5.out.below hb)
  clear hb
  go_wp2_with fail
  refine (heldInts_is MG.out G6.out.v (by omega) (by omega)).mono ?_
  rintro e wh ⟨rfl, rfl⟩
  go_wp2
  go_ret
  exact ⟨rfl, B6.out⟩

end Go.Proofs.Ytbfefhbcbmieiaa
