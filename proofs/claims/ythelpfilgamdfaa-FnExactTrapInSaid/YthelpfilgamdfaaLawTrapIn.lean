/-
  The walk of the law FnExactTrapIn.
-/
import Derived.Test.YthelpfilgamdfaaInts
import Derived.Test.YthelpfilgamdfaaEscapes
import Derived.Deep.RegionHeld3
namespace Go.Proofs.Ythelpfilgamdfaa
open Go.RowKit

set_option maxHeartbeats 8000000 in
set_option maxRecDepth 100000 in
theorem lawTrapIn {w : World} {va : Value} {O : List Int} {zss : List (List Int)} {n0 : Int} {aS0 : Option Addr} {S0 : List Int} {cs0 : Nat} (hA : ArenaAt w va O zss) (hS0 : IntsAt w aS0 S0) :
    Calls Try.prog 8 #[va, .int .i64 n0, .slice aS0 S0.length cs0] w fun e w' => e = .returned (.bool true) ∧ Below w.heap.size w w' := by
  have HA := Lib.hid hA
  obtain ⟨ao, an, co, cn, A, C, rfl, h1, h2⟩ := hA
  clear h1 h2
  have B1 := Lib.hid (below1 w (.cells #[.slice ao O.length co, .slice an zss.length cn] 46))
  have HS0i := Lib.hid hS0
  have hlS0 := hS0.len
  clear hS0
  by_cases hbig0 : (1048576 : Int) < S0.length
  · go_enter Try.func8, Try.ntmps8
    go_wp2
    go_ret
    exact ⟨rfl, B1.out⟩
  have hsm0 : (S0.length : Int) ≤ 1048576 := by omega
  have hsmN0 : S0.length ≤ 1048576 := by omega
  clear hbig0
  by_cases hs : (1048576 : Int) < sizeArena O zss
  · have HS := Lib.hid (szArena_at (leftOf_no hs) (HA.out.below B1.out) (by omega) (by omega))
    clear hs
    go_enter Try.func8, Try.ntmps8
    go_wp2_with (go_at_call 28; refine HS.out.mono ?_; rintro e w2 ⟨rfl, hb⟩; have B2 := Lib.hid (B1.out.trans (hb.mono B1.out.size)); clear hb)
    go_ret
    exact ⟨rfl, B2.out⟩
  have hle : (sizeArena O zss : Int) ≤ 1048576 := by omega
  have HLE : Hid (sizeArena O zss ≤ 1048576) := by simp only [Hid]; omega
  have hn : zss.length ≤ 1048576 := by have := sizeArena_rows hle; omega
  obtain ⟨m, hm⟩ : ∃ m, leftOf 1048576 (sizeArena O zss) = m := ⟨_, rfl⟩
  have hm0 : 0 ≤ m := by rw [← hm, leftOf_yes hle]; omega
  have HS := Lib.hid (szArena_at hm (HA.out.below B1.out) (by omega) (by omega))
  obtain ⟨r0, hr0⟩ : ∃ r, trapB O zss n0 S0 = r := ⟨_, rfl⟩
  have R0 := Lib.hid hr0
  have hbb : (r0 != r0) = false := by simp
  clear hs hm hle hr0
  go_enter Try.func8, Try.ntmps8
  go_wp2_with fail
  refine HS.out.mono ?_
  rintro e w2 ⟨rfl, hb⟩
  have B2 := Lib.hid (B1.out.trans (hb.mono B1.out.size))
  have b2 := Lib.hid ((Box2.new w 46 (.slice ao O.length co) (.slice an zss.length cn)).below hb)
  clear hb
  have c0 := b2.out.cell0
  have c1 := b2.out.cell1
  go_wp2_with fail
  refine (toArena_at (HA.out.below B2.out) hn).mono ?_
  rintro e p0 ⟨rfl, hc, hat⟩
  have Bp0 := Lib.hid (B2.out.trans (hc.below.mono B2.out.size))
  have bp0 := Lib.hid (b2.out.below hc.below)
  have Ap0 := Lib.hid hat
  clear hc hat c0 c1
  go_wp2_with fail
  refine (toInts_at ⟨_, _, rfl, HS0i.out.below Bp0.out⟩).mono ?_
  rintro e p1 ⟨up0, rfl, hu, hb⟩
  obtain ⟨upa0, upc0, hus, hui, _⟩ := hu.shape
  subst hus
  have Bp1 := Lib.hid (Bp0.out.trans (hb.mono Bp0.out.size))
  have bp1 := Lib.hid (bp0.out.below hb)
  have Ap1 := Lib.hid (Ap0.out.below hb)
  have Up0_1 := Lib.hid hui
  clear hu hui hb
  go_wp2_with fail
  refine (specTrapIn_is upc0 R0.out Ap1.out Up0_1.out).mono ?_
  rintro e w4 ⟨rfl, hb⟩
  have B4 := Lib.hid (Bp1.out.trans (hb.mono Bp1.out.size))
  have b4 := Lib.hid (bp1.out.below hb)
  clear hb
  have c0 := b4.out.cell0
  have c1 := b4.out.cell1
  go_wp2_with fail
  refine (toArena_at (HA.out.below B4.out) hn).mono ?_
  rintro e w5 ⟨rfl, hc, hat⟩
  have B5 := Lib.hid (B4.out.trans (hc.below.mono B4.out.size))
  have b5 := Lib.hid (b4.out.below hc.below)
  have K5 := Lib.hid hc.below
  have X5 := Lib.hid (hc.owned (HA.out.below B4.out))
  clear hc hat c0 c1
  go_wp2_with fail
  obtain ⟨q0, hq0⟩ : ∃ x, x = w5.alloc (.cells #[.slice (some ⟨w4.heap.size + 3, 0, none⟩) O.length O.length, .slice (some ⟨w4.heap.size + 4, 0, none⟩) zss.length zss.length] 30) := ⟨_, rfl⟩
  rw [← hq0]
  have hb6 : Below w5.heap.size w5 q0 := by rw [hq0]; exact below1 _ _
  have xq0 : Hid (Box2 q0 w5.heap.size 30 (.slice (some ⟨w4.heap.size + 3, 0, none⟩) O.length O.length) (.slice (some ⟨w4.heap.size + 4, 0, none⟩) zss.length zss.length)) := by rw [hq0]; exact Box2.new _ _ _ _
  have hs56 : q0.heap.size = w5.heap.size + 1 := by rw [hq0]; simp
  have Bq0 := Lib.hid (B5.out.trans (hb6.mono B5.out.size))
  have Kq0 := Lib.hid (K5.out.trans (hb6.mono K5.out.size))
  have bq0 := Lib.hid (b5.out.below hb6)
  have Xq0 := Lib.hid (X5.out.below hb6)
  have HS56 := Lib.hid hs56
  clear hq0 hb6 hs56
  refine (toInts_at ⟨_, _, rfl, HS0i.out.below Bq0.out⟩).mono ?_
  rintro e q1 ⟨uq0, rfl, hu, hb⟩
  obtain ⟨uqa0, uqc0, hus, hui, _⟩ := hu.shape
  subst hus
  have Bq1 := Lib.hid (Bq0.out.trans (hb.mono Bq0.out.size))
  have Kq1 := Lib.hid (Kq0.out.trans (hb.mono Kq0.out.size))
  have bq1 := Lib.hid (bq0.out.below hb)
  have xq1 := Lib.hid (xq0.out.below hb)
  have Xq1 := Lib.hid (Xq0.out.below hb)
  have hsq0 : q0.heap.size ≤ q1.heap.size := hb.size
  have HSq0 := Lib.hid hsq0
  have Uq0_1 := Lib.hid hu
  clear hu hui hb hsq0
  have c0 := xq1.out.cell0
  have c1 := xq1.out.cell1
  go_wp2_with fail
  have Ui0 := Lib.hid (show IntsAt q1 uqa0 S0 by obtain ⟨a', c', hv', hi', _⟩ := Uq0_1.out.shape; cases hv'; exact hi')
  refine (TrapIn_is uqc0 R0.out Xq1.out.at Ui0.out).mono ?_
  rintro e w7 ⟨rfl, hb⟩
  clear c0 c1 Ui0
  have hs7 : q1.heap.size ≤ w7.heap.size := hb.size
  have HS7 := Lib.hid hs7
  have B7 := Lib.hid (Bq1.out.trans (hb.mono Bq1.out.size))
  have K7 := Lib.hid (Kq1.out.trans (hb.mono Kq1.out.size))
  have b7 := Lib.hid (bq1.out.below hb)
  have x7 := Lib.hid (xq1.out.below hb)
  have X7 := Lib.hid (Xq1.out.below hb)
  have U0_7 := Lib.hid (Uq0_1.out.below hb)
  clear hb hs7
  have B8d := Lib.hid (B7.out).drew
  have K8d := Lib.hid (K7.out).drew
  have b8d : Hid (Box2 w7.drew _ _ _ _) := b7.out.below (Below.refl _ _).drew
  have x8d : Hid (Box2 w7.drew _ _ _ _) := x7.out.below (Below.refl _ _).drew
  have X8d : Hid (OwnArena w7.drew _ _ _ O zss) := X7.out.below (Below.refl _ _).drew
  have U0_8d : Hid (OwnInts w7.drew _ _ _ S0) := U0_7.out.below (Below.refl _ _).drew
  have c0 := b7.out.cell0
  have c1 := b7.out.cell1
  have c2 := x7.out.cell0
  have c3 := x7.out.cell1
  go_wp2_with fail
  go_region_held3 (fun w' => w'.cell? ⟨w.heap.size, 0, none⟩ = some (.slice ao O.length co) ∧ w'.cell? ⟨w.heap.size, 1, none⟩ = some (.slice an zss.length cn) ∧
      w'.cell? ⟨w5.heap.size, 0, none⟩ = some (.slice (some ⟨w4.heap.size + 3, 0, none⟩) O.length O.length) ∧ w'.cell? ⟨w5.heap.size, 1, none⟩ = some (.slice (some ⟨w4.heap.size + 4, 0, none⟩) zss.length zss.length))
    (first
      | go_keep
      | exact ⟨d0, d1, d2, d3⟩
      | exact ⟨e0, e1, e2, e3⟩)
    (first
      | (go_at_call 29; refine (toArena_at (HA.out.below B8d.out) hn).mono ?_; rintro e w9 ⟨rfl, hc, hat⟩; have b9 := Lib.hid (b8d.out.below hc.below); have x9 := Lib.hid (x8d.out.below hc.below); have d0 := b9.out.cell0; have d1 := b9.out.cell1; have d2 := x9.out.cell0; have d3 := x9.out.cell1; have B9 := Lib.hid (B8d.out.trans (hc.below.mono B8d.out.size)); have K9 := Lib.hid (K8d.out.trans (hc.below.mono K8d.out.size)); have A9 := Lib.hid hat; have X9 := Lib.hid (X8d.out.below hc.below); have U0_9 := Lib.hid (U0_8d.out.below hc.below); clear hc hat)
      | (go_at_call 32; refine (eqArena_at X9.out.at A9.out).mono ?_; rintro e wA ⟨rfl, hb⟩; have bA := Lib.hid (b9.out.below hb); have xA := Lib.hid (x9.out.below hb); have e0 := bA.out.cell0; have e1 := bA.out.cell1; have e2 := xA.out.cell0; have e3 := xA.out.cell1; have BA := Lib.hid (B9.out.trans (hb.mono B9.out.size)); have KA := Lib.hid (K9.out.trans (hb.mono K9.out.size)); have XA := Lib.hid (X9.out.below hb); have U0_A := Lib.hid (U0_9.out.below hb); clear hb))
  clear c0 c1 c2 c3 d0 d1 d2 d3 e0 e1 e2 e3
  go_wp2_with fail
  refine (toInts_at ⟨_, _, rfl, HS0i.out.below BA.out⟩).mono ?_
  rintro e v0 ⟨uv0, rfl, hu, hb⟩
  have Bv0 := Lib.hid (BA.out.trans (hb.mono BA.out.size))
  have Kv0 := Lib.hid (KA.out.trans (hb.mono KA.out.size))
  have xv0 := Lib.hid (xA.out.below hb)
  have Xv0 := Lib.hid (XA.out.below hb)
  have U0_v0 := Lib.hid (U0_A.out.below hb)
  have V0 := Lib.hid hu.v
  clear hu hb
  go_wp2_with fail
  refine (eqInts_at U0_v0.out.v V0.out).mono ?_
  rintro e y0 ⟨rfl, hb⟩
  have By0 := Lib.hid (Bv0.out.trans (hb.mono Bv0.out.size))
  have Ky0 := Lib.hid (Kv0.out.trans (hb.mono Kv0.out.size))
  have xy0 := Lib.hid (xv0.out.below hb)
  have Xy0 := Lib.hid (Xv0.out.below hb)
  have U0_y0 := Lib.hid (U0_v0.out.below hb)
  clear hb
  go_wp2
  go_ret
  exact ⟨rfl, By0.out⟩

end Go.Proofs.Ythelpfilgamdfaa
