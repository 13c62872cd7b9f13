/-
  The walk of the law FnExactHasIn.
-/
import Derived.Test.YtbfefhbcbmieiaaSets2
import Derived.Deep.RegionHeld3
namespace Go.Proofs.Ytbfefhbcbmieiaa
open Go.RowKit

theorem specHasIn_b {w : World} {a : Option Addr} {zs : List Int} {n : Int} {r : Bool} (hr : hasIn zs n = r) (cap : Nat) (h : IntsAt w a zs) :
    Calls Try.prog 20 #[.slice a zs.length cap, .int .i64 n] w fun e w' => e = .returned (.bool r) ∧ Below w.heap.size w w' :=
  (specHasIn_is hr cap h).mono fun _ _ ⟨he, hq⟩ => ⟨he, below_same (Below.refl _ _) hq⟩

set_option maxHeartbeats 8000000 in
set_option maxRecDepth 100000 in
theorem lawHasIn {w : World} {a0 : Option Addr} {S0 : List Int} {c0 : Nat} {n1 : Int} (h0 : IntsAt w a0 S0) (h1 : Fits n1) :
    Calls Try.prog 12 #[.slice a0 S0.length c0, .int .i64 n1] w fun e w' => e = .returned (.bool true) ∧ Below w.heap.size w w' := by
  have H0 := Lib.hid h0
  have hl0 := h0.len
  clear h0
  unfold Fits at h1
  by_cases hbig0 : (1048576 : Int) < S0.length
  · go_enter Try.func12, Try.ntmps12
    go_wp2
    go_ret
    exact ⟨rfl, Below.refl _ _⟩
  have hsm0 : (S0.length : Int) ≤ 1048576 := by omega
  have hsmN0 : S0.length ≤ 1048576 := by omega
  clear hbig0
  obtain ⟨r0, hr0⟩ : ∃ r, hasIn S0 n1 = r := ⟨_, rfl⟩
  have R0 := Lib.hid hr0
  have hbb : (r0 != r0) = false := by simp
  clear hr0
  have B0 := Lib.hid (Below.refl w.heap.size w)
  go_enter Try.func12, Try.ntmps12
  go_wp2_with fail
  refine (toInts_at ⟨_, _, rfl, H0.out.below B0.out⟩).mono ?_
  rintro e w1 ⟨us0, rfl, hu, hb⟩
  have B1 := Lib.hid (B0.out.trans (hb.mono B0.out.size))
  obtain ⟨uas0, ucs0, hus, hui, _⟩ := hu.shape
  subst hus
  have Us0 := Lib.hid hui
  clear hu hui hb
  go_wp2_with fail
  refine (specHasIn_b R0.out ucs0 (Us0.out)).mono ?_
  rintro e w2 ⟨rfl, hb⟩
  have B2 := Lib.hid (B1.out.trans (hb.mono B1.out.size))
  clear hb
  go_wp2_with fail
  refine (toInts_at ⟨_, _, rfl, H0.out.below B2.out⟩).mono ?_
  rintro e w3 ⟨ux0, rfl, hu, hb⟩
  have B3 := Lib.hid (B2.out.trans (hb.mono B2.out.size))
  obtain ⟨uax0, ucx0, hus, hui, _⟩ := hu.shape
  subst hus
  have Ux0 := Lib.hid hui
  have X03 := Lib.hid hu
  clear hu hui hb
  go_wp2_with fail
  refine (HasIn_is R0.out ucx0 (Ux0.out)).mono ?_
  rintro e w4 ⟨rfl, hb⟩
  have B4 := Lib.hid (B3.out.trans (hb.mono B3.out.size))
  have X04 := Lib.hid (X03.out.below hb)
  clear hb
  go_wp2_with fail
  refine (toInts_at ⟨_, _, rfl, H0.out.below B4.out⟩).mono ?_
  rintro e w5 ⟨uy0, rfl, hu, hb⟩
  have B5 := Lib.hid (B4.out.trans (hb.mono B4.out.size))
  have X05 := Lib.hid (X04.out.below hb)
  obtain ⟨uay0, ucy0, hus, hui, _⟩ := hu.shape
  subst hus
  have Uy0 := Lib.hid hui
  have V0 := Lib.hid hu.v
  clear hu hui hb
  go_wp2_with fail
  refine (eqInts_at X05.out.v V0.out).mono ?_
  rintro e w6 ⟨rfl, hb⟩
  have B6 := Lib.hid (B5.out.trans (hb.mono B5.out.size))
  have X06 := Lib.hid (X05.out.below hb)
  clear hb
  go_wp2
  go_ret
  exact ⟨rfl, B6.out⟩

end Go.Proofs.Ytbfefhbcbmieiaa
