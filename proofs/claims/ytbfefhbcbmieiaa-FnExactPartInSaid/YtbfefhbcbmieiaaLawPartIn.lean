/-
  The walk of the law FnExactPartIn.
-/
import Derived.Test.YtbfefhbcbmieiaaSets2
import Derived.Deep.RegionHeld3
namespace Go.Proofs.Ytbfefhbcbmieiaa
open Go.RowKit

set_option maxHeartbeats 8000000 in
set_option maxRecDepth 100000 in
theorem lawPartIn {w : World} {a0 : Option Addr} {S0 : List Int} {c0 : Nat} {a1 : Option Addr} {S1 : List Int} {c1 : Nat} (h0 : IntsAt w a0 S0) (h1 : IntsAt w a1 S1) :
    Calls Try.prog 13 #[.slice a0 S0.length c0, .slice a1 S1.length c1] w fun e w' => e = .returned (.bool true) ∧ Below w.heap.size w w' := by
  have H0 := Lib.hid h0
  have hl0 := h0.len
  clear h0
  have H1 := Lib.hid h1
  have hl1 := h1.len
  clear h1
  by_cases hbig0 : (1048576 : Int) < S0.length
  · go_enter Try.func13, Try.ntmps13
    go_wp2
    go_ret
    exact ⟨rfl, Below.refl _ _⟩
  have hsm0 : (S0.length : Int) ≤ 1048576 := by omega
  have hsmN0 : S0.length ≤ 1048576 := by omega
  clear hbig0
  by_cases hbig1 : (1048576 : Int) < S1.length
  · go_enter Try.func13, Try.ntmps13
    go_wp2
    go_ret
    exact ⟨rfl, Below.refl _ _⟩
  have hsm1 : (S1.length : Int) ≤ 1048576 := by omega
  have hsmN1 : S1.length ≤ 1048576 := by omega
  clear hbig1
  obtain ⟨r0, hr0⟩ : ∃ r, partB S0 S1 = r := ⟨_, rfl⟩
  have R0 := Lib.hid hr0
  have hbb : (r0 != r0) = false := by simp
  clear hr0
  have B0 := Lib.hid (Below.refl w.heap.size w)
  go_enter Try.func13, Try.ntmps13
  go_wp2_with fail
  refine (toInts_at ⟨_, _, rfl, H0.out.below B0.out⟩).mono ?_
  rintro e w1 ⟨us0, rfl, hu, hb⟩
  have B1 := Lib.hid (B0.out.trans (hb.mono B0.out.size))
  obtain ⟨uas0, ucs0, hus, hui, _⟩ := hu.shape
  subst hus
  have Us0 := Lib.hid hui
  clear hu hui hb
  go_wp2_with fail
  refine (toInts_at ⟨_, _, rfl, H1.out.below B1.out⟩).mono ?_
  rintro e w2 ⟨us1, rfl, hu, hb⟩
  have B2 := Lib.hid (B1.out.trans (hb.mono B1.out.size))
  obtain ⟨uas1, ucs1, hus, hui, _⟩ := hu.shape
  subst hus
  have Us1 := Lib.hid hui
  have Ls0_2 := Lib.hid hb
  clear hu hui hb
  go_wp2_with fail
  refine (specPartIn_is R0.out ucs0 ucs1 (Us0.out.below Ls0_2.out) (Us1.out)).mono ?_
  rintro e w3 ⟨rfl, hb⟩
  have B3 := Lib.hid (B2.out.trans (hb.mono B2.out.size))
  clear hb
  go_wp2_with fail
  refine (toInts_at ⟨_, _, rfl, H0.out.below B3.out⟩).mono ?_
  rintro e w4 ⟨ux0, rfl, hu, hb⟩
  have B4 := Lib.hid (B3.out.trans (hb.mono B3.out.size))
  obtain ⟨uax0, ucx0, hus, hui, _⟩ := hu.shape
  subst hus
  have Ux0 := Lib.hid hui
  have X04 := Lib.hid hu
  clear hu hui hb
  go_wp2_with fail
  refine (toInts_at ⟨_, _, rfl, H1.out.below B4.out⟩).mono ?_
  rintro e w5 ⟨ux1, rfl, hu, hb⟩
  have B5 := Lib.hid (B4.out.trans (hb.mono B4.out.size))
  have X05 := Lib.hid (X04.out.below hb)
  obtain ⟨uax1, ucx1, hus, hui, _⟩ := hu.shape
  subst hus
  have Ux1 := Lib.hid hui
  have Lx0_5 := Lib.hid hb
  have X15 := Lib.hid hu
  clear hu hui hb
  go_wp2_with fail
  refine (PartIn_is R0.out ucx0 ucx1 (Ux0.out.below Lx0_5.out) (Ux1.out)).mono ?_
  rintro e w6 ⟨rfl, hb⟩
  have B6 := Lib.hid (B5.out.trans (hb.mono B5.out.size))
  have X06 := Lib.hid (X05.out.below hb)
  have X16 := Lib.hid (X15.out.below hb)
  clear hb
  go_wp2_with fail
  refine (toInts_at ⟨_, _, rfl, H0.out.below B6.out⟩).mono ?_
  rintro e w7 ⟨uy0, rfl, hu, hb⟩
  have B7 := Lib.hid (B6.out.trans (hb.mono B6.out.size))
  have X07 := Lib.hid (X06.out.below hb)
  have X17 := Lib.hid (X16.out.below hb)
  obtain ⟨uay0, ucy0, hus, hui, _⟩ := hu.shape
  subst hus
  have Uy0 := Lib.hid hui
  have V0 := Lib.hid hu.v
  clear hu hui hb
  go_wp2_with fail
  refine (eqInts_at X07.out.v V0.out).mono ?_
  rintro e w8 ⟨rfl, hb⟩
  have B8 := Lib.hid (B7.out.trans (hb.mono B7.out.size))
  have X08 := Lib.hid (X07.out.below hb)
  have X18 := Lib.hid (X17.out.below hb)
  clear hb
  go_wp2_with fail
  refine (toInts_at ⟨_, _, rfl, H1.out.below B8.out⟩).mono ?_
  rintro e w9 ⟨uy1, rfl, hu, hb⟩
  have B9 := Lib.hid (B8.out.trans (hb.mono B8.out.size))
  have X09 := Lib.hid (X08.out.below hb)
  have X19 := Lib.hid (X18.out.below hb)
  obtain ⟨uay1, ucy1, hus, hui, _⟩ := hu.shape
  subst hus
  have Uy1 := Lib.hid hui
  have V1 := Lib.hid hu.v
  clear hu hui hb
  go_wp2_with fail
  refine (eqInts_at X19.out.v V1.out).mono ?_
  rintro e w10 ⟨rfl, hb⟩
  have B10 := Lib.hid (B9.out.trans (hb.mono B9.out.size))
  have X010 := Lib.hid (X09.out.below hb)
  have X110 := Lib.hid (X19.out.below hb)
  clear hb
  go_wp2
  go_ret
  exact ⟨rfl, B10.out⟩

end Go.Proofs.Ytbfefhbcbmieiaa
