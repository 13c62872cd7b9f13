/-
  Several texts in one: KeepsApi, LawKeepsWon, LaidT, Open, SureDef, SureSpec, SureVal.
-/
import Derived.Deep.RegionHeld3
import Derived.Test.YtphkgnpkcfbnkabDoorRows
import Derived.Lib.LaidTab
import Derived.LaidSub
import Derived.LaidHandle
import Derived.Deep.DeepHandedRow
import Derived.ProofKit
import Derived.OpenShut
import Derived.Carry
import Derived.ChangeVars
import Derived.SizedLaws
import Derived.Deep.Matrix
import Derived.Lib.SmallJoins
import Derived.Test.YtphkgnpkcfbnkabDoorSpecArena
import Derived.Test.YtphkgnpkcfbnkabDoorPk03
import Derived.Test.YtphkgnpkcfbnkabDoorParity1
import Derived.Test.YtphkgnpkcfbnkabDoorPk05
import Derived.Test.YtphkgnpkcfbnkabDoorPk07
import Derived.Test.YtphkgnpkcfbnkabDoorOnlySpec
import Derived.Test.YtphkgnpkcfbnkabDoorPk09
import Derived.Test.YtphkgnpkcfbnkabDoorPk23
import Derived.Test.YtphkgnpkcfbnkabDoorPk24
namespace Go.Proofs.YtphkgnpkcfbnkabDoor
section
open Go.RowKit Go.Shelf

theorem outs_same {O P : List Int} {zss N : List (List Int)} (hz : zss.length = O.length) (hN : N.length = O.length) (hn : O.length ≤ 256) : (sameM (wonM N O P 0) (wonM zss O P 0) && sameM (wonM N O P 1) (wonM zss O P 1)) = decide (wonL N O P = wonL zss O P) := by
  rw [Bool.eq_iff_iff, Bool.and_eq_true, decide_eq_true_eq, sameB_iff, sameB_iff]
  have at0 : ∀ {M : List (List Int)} {who : Int} {v : Nat}, O.length ≤ v → wonM M O P who v = false := fun {M who v} hv => by
    cases h : wonM M O P who v with
    | false => rfl
    | true => have := wonM_lt h; omega
  constructor
  · rintro ⟨h0, h1⟩
    refine same_of (by rw [wonL_len, wonL_len]; omega) fun j hj => ?_
    rw [wonL_len] at hj
    rw [wonL_one hN (by omega), wonL_one hz (by omega), h1 j (by omega)]
  · intro h
    have key : ∀ {who : Int}, who = 0 ∨ who = 1 → ∀ v, v < 256 → wonM N O P who v = wonM zss O P who v := fun {who} hw v _ => by
      by_cases hv : v < O.length
      · rw [Bool.eq_iff_iff, wonM_won hN hw hv, wonM_won hz hw hv, h]
      · rw [at0 (by omega), at0 (by omega)]
    exact ⟨key (.inl rfl), key (.inr rfl)⟩

set_option maxHeartbeats 16000000 in
set_option maxRecDepth 100000 in
theorem KeepsWon_is {w : World} {v : Value} {O P Pk : List Int} {zss : List (List Int)} {aK : Option Addr} {r : Bool} (cK : Nat) (hr : keepsB O zss P Pk = r) (h : GameAt w v O zss P) (hK : IntsAt w aK Pk) (hT : TabW w) :
    Calls Tryd.prog 17 #[v, .slice aK Pk.length cK] w fun e w' => e = .returned (.bool r) ∧ Below w.heap.size w w' := by
  have HGm := Lib.hid h
  have HT := Lib.hid hT
  clear hT
  obtain ⟨ao, an, ap, co, cn, cp, A, C, rfl, h1, h2, h3⟩ := h
  obtain ⟨w1, hw1⟩ : ∃ y, y = w.alloc (.cells #[.slice ao O.length co, .slice an zss.length cn, .slice ap P.length cp] 32) := ⟨_, rfl⟩
  have HW1 := Lib.hid hw1
  have B1 : Hid (Below w.heap.size w w1) := by rw [hw1]; exact below1 _ _
  have T1 : Hid (Box3 w1 w.heap.size 32 (.slice ao O.length co) (.slice an zss.length cn) (.slice ap P.length cp)) := by rw [hw1]; exact Box3.new _ _ _ _ _
  have HC := Lib.hid (OnlyBy_is cK ⟨rfl, rfl, rfl, rfl⟩ (HGm.out.below B1.out) (hK.below B1.out))
  have c0 := T1.out.c0
  have c1 := T1.out.c1
  have c2 := T1.out.c2
  clear hw1 h1 h2 h3 hK
  cases hb : onlyB O zss P Pk with
  | false =>
    have HR : Hid (r = false) := by rw [← hr]; unfold keepsB Hid; rw [hb]; rfl
    rw [hb] at HC
    clear hr
    go_enter Tryd.func17, Tryd.ntmps17
    go_wp2_with fail
    rw [← HW1.out]
    refine HC.out.mono ?_
    rintro e w2 ⟨x, rfl, hx, hb2⟩
    obtain ⟨a0, k0, a1, k1, a2, k2, V, rfl, _⟩ := hx.shape3
    have B2 := Lib.hid (B1.out.trans (hb2.mono B1.out.size))
    have B3 : Hid (Below w.heap.size w (w2.alloc (.cells #[.slice a0 (onlyO O zss P Pk).length k0, .slice a1 (onlyN O zss P Pk).length k1, .slice a2 (onlyP O zss P Pk).length k2] 32))) := B2.out.alloc B2.out.size _
    clear hx hb2 HC c0 c1 c2
    go_wp2
    go_quiet (fail)
    go_wp2
    go_ret
    exact ⟨ret_bool HR.out.symm, below_drewN B3.out _⟩
  | true =>
    have hpar : parityB O zss P = true := by unfold onlyB at hb; rw [Bool.and_eq_true] at hb; exact hb.1
    have hY := only_yes (O := O) (zss := zss) (P := P) (Pk := Pk) ⟨rfl, rfl, rfl, rfl⟩ hb
    have HR : Hid (decide (wonL (rowsOf zss.length (onlyRow zss Pk)) O P = wonL zss O P) = r) := by rw [← hr]; unfold keepsB Hid; rw [hb, Bool.true_and]
    have hpar2 := only_parity hb
    obtain ⟨N, hN⟩ : ∃ N, N = rowsOf zss.length (onlyRow zss Pk) := ⟨_, rfl⟩
    rw [← hN] at HR hpar2 hY
    rw [hY.1, hY.2.1, hY.2.2.1, hY.2.2.2] at HC
    have hzN : N.length = O.length := by rw [hN, rowsOf_len]; exact (parityB_iff.1 hpar).1.2.2.1
    have heq : ∀ W : World, (Op.equalIn 10000 69 (outcV (wonM N O P 0) (wonM N O P 1)) (outcV (wonM zss O P 0) (wonM zss O P 1))).run Tryd.prog W = .ok r W := fun W => by
      rw [run_eq_outs, outs_same (parityB_iff.1 hpar).1.2.2.1 hzN (parityB_iff.1 hpar).1.2.1, HR.out]
    have HP1 := Lib.hid hpar
    clear hzN
    have HP2 := Lib.hid hpar2
    clear hr hb hY hpar hpar2 hN
    go_enter Tryd.func17, Tryd.ntmps17
    go_wp2_with fail
    rw [← HW1.out]
    refine HC.out.mono ?_
    rintro e w2 ⟨x, rfl, hx, hb2⟩
    have HX := Lib.hid hx
    obtain ⟨a0, k0, a1, k1, a2, k2, V, rfl, _⟩ := hx.shape3
    have B2 := Lib.hid (B1.out.trans (hb2.mono B1.out.size))
    obtain ⟨w3, hw3⟩ : ∃ y, y = w2.alloc (.cells #[.slice a0 O.length k0, .slice a1 N.length k1, .slice a2 P.length k2] 32) := ⟨_, rfl⟩
    have HW3 := Lib.hid hw3
    have hb3 : Below w2.heap.size w2 w3 := by rw [hw3]; exact below1 _ _
    have U3 : Hid (Box3 w3 w2.heap.size 32 (.slice a0 O.length k0) (.slice a1 N.length k1) (.slice a2 P.length k2)) := by rw [hw3]; exact Box3.new _ _ _ _ _
    have T3 := Lib.hid ((T1.out.below hb2).below (hb3.mono (Nat.le_refl _)))
    have B3 := Lib.hid (B2.out.trans (hb3.mono B2.out.size))
    have HX3 := Lib.hid (HX.out.below hb3).at
    have HG3 := Lib.hid (HGm.out.below B3.out)
    have HSv : Hid (∀ W, Below w3.heap.size w3 W → W.cell? ⟨w2.heap.size, 0, none⟩ = some (.slice a0 O.length k0) ∧ W.cell? ⟨w2.heap.size, 1, none⟩ = some (.slice a1 N.length k1) ∧ W.cell? ⟨w2.heap.size, 2, none⟩ = some (.slice a2 P.length k2) ∧ W.cell? ⟨w.heap.size, 0, none⟩ = some (.slice ao O.length co) ∧ W.cell? ⟨w.heap.size, 1, none⟩ = some (.slice an zss.length cn) ∧ W.cell? ⟨w.heap.size, 2, none⟩ = some (.slice ap P.length cp)) := fun W hb => ⟨(U3.out.below hb).c0, (U3.out.below hb).c1, (U3.out.below hb).c2, (T3.out.below hb).c0, (T3.out.below hb).c1, (T3.out.below hb).c2⟩
    have HC1 : Hid (∀ W, Below w3.heap.size w3 W → Calls Tryd.prog 56 #[.agg #[.slice a0 O.length k0, .slice a1 N.length k1, .slice a2 P.length k2]] W (fun e w' => e = .returned (outcV (wonM N O P 0) (wonM N O P 1)) ∧ Below W.heap.size W w')) := fun W hb => outcomeOf_is (HT.out.below (B3.out.trans (hb.mono B3.out.size))) (HX3.out.below hb) HP2.out
    have HC2 : Hid (∀ W, Below w3.heap.size w3 W → Calls Tryd.prog 56 #[.agg #[.slice ao O.length co, .slice an zss.length cn, .slice ap P.length cp]] W (fun e w' => e = .returned (outcV (wonM zss O P 0) (wonM zss O P 1)) ∧ Below W.heap.size W w')) := fun W hb => outcomeOf_is (HT.out.below (B3.out.trans (hb.mono B3.out.size))) (HG3.out.below hb) HP1.out
    have Kd : Hid (Below w3.heap.size w3 w3.drew) := (Below.refl _ _).drew
    have h0 := HSv.out _ Kd.out
    clear hx hb2 hb3 HC c0 c1 c2
    rw [hw3] at h0
    clear hw3
    go_wp2
    rw [← HW3.out] at h0 ⊢
    go_region_held3 (fun W => W.cell? ⟨w2.heap.size, 0, none⟩ = some (.slice a0 O.length k0) ∧ W.cell? ⟨w2.heap.size, 1, none⟩ = some (.slice a1 N.length k1) ∧ W.cell? ⟨w2.heap.size, 2, none⟩ = some (.slice a2 P.length k2) ∧ W.cell? ⟨w.heap.size, 0, none⟩ = some (.slice ao O.length co) ∧ W.cell? ⟨w.heap.size, 1, none⟩ = some (.slice an zss.length cn) ∧ W.cell? ⟨w.heap.size, 2, none⟩ = some (.slice ap P.length cp))
      (first
        | exact HSv.out _ Kd.out
        | exact HSv.out _ Ka.out
        | exact HSv.out _ Kb.out)
      (first
        | (go_at_call 56; refine (HC2.out _ Ka.out).mono ?_; rintro e wb ⟨rfl, hb⟩; have Kb := Lib.hid (Ka.out.trans (hb.mono Ka.out.size)); clear hb)
        | (go_at_call 56; refine (HC1.out _ Kd.out).mono ?_; rintro e wa ⟨rfl, hb⟩; have Ka := Lib.hid (Kd.out.trans (hb.mono Kd.out.size)); clear hb))
    have Bc := Lib.hid (B3.out.trans (Kb.out.mono B3.out.size))
    clear h0
    go_wp2
    go_ret
    exact ⟨rfl, Bc.out⟩
theorem KeepsWonT_is {w : World} {v : Value} {O P Pk : List Int} {zss : List (List Int)} {aK : Option Addr} {r : Bool} (hT : TabW w) (cK : Nat) (hr : keepsB O zss P Pk = r) (h : GameAt w v O zss P) (hK : IntsAt w aK Pk) :
    Calls Tryd.prog 17 #[v, .slice aK Pk.length cK] w fun e w' => e = .returned (.bool r) ∧ Below w.heap.size w w' := KeepsWon_is cK hr h hK hT
end
end Go.Proofs.YtphkgnpkcfbnkabDoor
namespace Go.Proofs.YtphkgnpkcfbnkabDoor
open Go.RowKit

set_option maxHeartbeats 16000000 in
set_option maxRecDepth 100000 in
theorem lawKeepsWon {w : World} {v0 : Value} {O0 : List Int} {z0 : List (List Int)} {P0 : List Int} {aS1 : Option Addr} {S1 : List Int} {cs1 : Nat} (h0 : GameAt w v0 O0 z0 P0) (h1 : IntsAt w aS1 S1) (hE : TabW w) :
    Calls Tryd.prog 3 #[v0, .slice aS1 S1.length cs1] w fun e w' => e = .returned (.bool true) ∧ Below w.heap.size w w' := by
  have HE := Lib.hid hE
  clear hE
  have H0 := Lib.hid h0
  obtain ⟨u0_0, u0_1, u0_2, d0_0, d0_1, d0_2, A0, C0, rfl, q0, q1, q2⟩ := h0
  clear q0 q1 q2
  have H1 : Hid (IntsV w (.slice aS1 S1.length cs1) S1) := ⟨_, _, rfl, h1⟩
  have hl1 := h1.len
  clear h1
  obtain ⟨w1, hw1⟩ : ∃ y, y = (w.alloc (.cells #[.slice u0_0 O0.length d0_0, .slice u0_1 z0.length d0_1, .slice u0_2 P0.length d0_2] 27)) := ⟨_, rfl⟩
  have HW1 := Lib.hid hw1
  have B1 : Hid (Below w.heap.size w w1) := by rw [hw1]; exact below1 _ _
  have b0 : Hid (Box3 w1 (w.heap.size) 27 (.slice u0_0 O0.length d0_0) (.slice u0_1 z0.length d0_1) (.slice u0_2 P0.length d0_2)) := by rw [hw1]; exact Box3.new_at (by simp) _ _ _ _ 
  have K1 : Hid (Keep [w1, w] w1) := ⟨Below.refl _ _, B1.out, trivial⟩
  clear hw1
  by_cases hbig1 : (1048576 : Int) < S1.length
  · go_enter Tryd.func3, Tryd.ntmps3
    go_wp2
    go_ret
    exact ⟨rfl, by rw [← HW1.out]; exact B1.out⟩
  have hsm1 : (S1.length : Int) ≤ 1048576 := by omega
  have hsmN1 : S1.length ≤ 1048576 := by omega
  clear hbig1
  by_cases hs0 : (1048576 : Int) < (sizeGame O0 z0 P0 : Int)
  · skip
    have HSn0 : Hid (∀ W, Below w.heap.size w W → Calls Tryd.prog 13 #[.agg #[.slice u0_0 O0.length d0_0, .slice u0_1 z0.length d0_1, .slice u0_2 P0.length d0_2], .int .i64 (1048576 : Int)] W fun e w' => e = .returned (.int .i64 (-1)) ∧ Below W.heap.size W w') := fun W hb => szGame_at (leftOf_no hs0) (H0.out.below hb) (by omega) (by omega)
    clear hs0
    go_enter Tryd.func3, Tryd.ntmps3
    go_wp2_with fail
    rw [← HW1.out]
    refine (HSn0.out _ K1.out.2.1).mono ?_
    rintro e w2 ⟨rfl, hb⟩
    have Kw2 : Hid (Keep [w1, w] w2) := K1.out.step hb
    clear K1
    clear hb
    go_wp2
    go_ret
    exact ⟨rfl, Kw2.out.2.1⟩
  have hle0 : (sizeGame O0 z0 P0 : Int) ≤ (1048576 : Int) := by omega
  obtain ⟨m0, hm0⟩ : ∃ m, leftOf (1048576 : Int) (sizeGame O0 z0 P0) = m := ⟨_, rfl⟩
  have hmv0 : m0 = (1048576 : Int) - (sizeGame O0 z0 P0 : Int) := by rw [← hm0]; exact leftOf_yes hle0
  have hml0 : 0 ≤ m0 := by omega
  have hmu0 : m0 ≤ 1048576 := by omega
  have HLE0 : Hid (sizeGame O0 z0 P0 ≤ 1048576) := by simp only [Hid]; omega
  have HS0 : Hid (∀ W, Below w.heap.size w W → Calls Tryd.prog 13 #[.agg #[.slice u0_0 O0.length d0_0, .slice u0_1 z0.length d0_1, .slice u0_2 P0.length d0_2], .int .i64 (1048576 : Int)] W fun e w' => e = .returned (.int .i64 m0) ∧ Below W.heap.size W w') := fun W hb => szGame_at hm0 (H0.out.below hb) (by omega) (by omega)
  have hn0 : z0.length ≤ 1048576 := by have := HLE0.out; unfold sizeGame at this; (try unfold sizeArena at this); omega
  clear hs0 hm0 hle0 hmv0
  obtain ⟨rb0, hrb0⟩ : ∃ r, keepsB O0 z0 P0 S1 = r := ⟨_, rfl⟩
  have R0 := Lib.hid hrb0
  have hnerb0 : (rb0 != rb0) = false := by simp
  clear hrb0
  go_enter Tryd.func3, Tryd.ntmps3
  go_wp2_with fail
  rw [← HW1.out]
  refine (HS0.out _ K1.out.2.1).mono ?_
  rintro e w2 ⟨rfl, hb⟩
  have Kw2 : Hid (Keep [w1, w] w2) := K1.out.step hb
  clear K1
  clear hb
  have c0 := (b0.out.below Kw2.out.1).c0
  have c1 := (b0.out.below Kw2.out.1).c1
  have c2 := (b0.out.below Kw2.out.1).c2
  go_wp2_with fail
  refine (toGame_at (H0.out.below Kw2.out.2.1) hn0).mono ?_
  rintro e w3 ⟨x, rfl, hu, hb⟩
  obtain ⟨pa0_0, pc0_0, pa0_1, pc0_1, pa0_2, pc0_2, hus⟩ := hu.shape
  subst hus
  have pX0 := Lib.hid hu
  have Kw3 : Hid (Keep [w1, w] w3) := Kw2.out.step hb
  clear Kw2
  clear hu hb
  have Kaw3 : Hid (Keep [w3, w1, w] w3) := Kw3.out.add
  clear Kw3
  clear c0 c1 c2
  go_wp2_with fail
  refine (toInts_own (H1.out.below Kaw3.out.2.2.1)).mono ?_
  rintro e w4 ⟨x, rfl, hu, hb⟩
  obtain ⟨pa1_0, pc1_0, hus⟩ := hu.shape2
  subst hus
  have pX1 := Lib.hid hu
  have Kw4 : Hid (Keep [w3, w1, w] w4) := Kaw3.out.step hb
  clear Kaw3
  clear hu hb
  have Kaw4 : Hid (Keep [w4, w3, w1, w] w4) := Kw4.out.add
  clear Kw4
  go_wp2_with fail
  refine (keepsWon_is pc1_0 R0.out (pX0.out.below Kaw4.out.2.1).at (pX1.out.below Kaw4.out.1).v.at).mono ?_
  rintro e w5 ⟨rfl, hb⟩
  have Kw5 : Hid (Keep [w4, w3, w1, w] w5) := Kaw4.out.step hb
  clear Kaw4
  clear hb
  have Kaw5 : Hid (Keep [w5, w4, w3, w1, w] w5) := Kw5.out.add
  clear Kw5
  have c0 := (b0.out.below Kaw5.out.2.2.2.1).c0
  have c1 := (b0.out.below Kaw5.out.2.2.2.1).c1
  have c2 := (b0.out.below Kaw5.out.2.2.2.1).c2
  go_wp2_with fail
  refine (toGame_at (H0.out.below Kaw5.out.2.2.2.2.1) hn0).mono ?_
  rintro e w6 ⟨x, rfl, hu, hb⟩
  obtain ⟨xa0_0, xc0_0, xa0_1, xc0_1, xa0_2, xc0_2, hus⟩ := hu.shape
  subst hus
  have xX0 := Lib.hid hu
  have HE0 : Hid (w5.heap.size ≤ w6.heap.size) := hb.size
  have Kw6 : Hid (Keep [w5, w4, w3, w1, w] w6) := Kaw5.out.step hb
  clear Kaw5
  clear hu hb
  have Kaw6 : Hid (Keep [w6, w5, w4, w3, w1, w] w6) := Kw6.out.add
  clear Kw6
  clear c0 c1 c2
  obtain ⟨w7, hw7⟩ : ∃ y, y = w6.alloc (.cells #[.slice xa0_0 O0.length xc0_0, .slice xa0_1 z0.length xc0_1, .slice xa0_2 P0.length xc0_2] 32) := ⟨_, rfl⟩
  have Hw7 := Lib.hid hw7
  have hb : Below w6.heap.size w6 w7 := by rw [hw7]; exact below1 _ _
  have xb0 : Hid (Box3 w7 w6.heap.size 32 (.slice xa0_0 O0.length xc0_0) (.slice xa0_1 z0.length xc0_1) (.slice xa0_2 P0.length xc0_2)) := by rw [hw7]; exact Box3.new _ _ _ _ _ 
  have Kw7 : Hid (Keep [w6, w5, w4, w3, w1, w] w7) := Kaw6.out.step hb
  clear Kaw6
  clear hb
  have Kaw7 : Hid (Keep [w7, w6, w5, w4, w3, w1, w] w7) := Kw7.out.add
  clear Kw7
  clear hw7
  go_wp2_with fail
  rw [← Hw7.out]
  refine (toInts_own (H1.out.below Kaw7.out.2.2.2.2.2.2.1)).mono ?_
  rintro e w8 ⟨x, rfl, hu, hb⟩
  obtain ⟨xa1_0, xc1_0, hus⟩ := hu.shape2
  subst hus
  have xX1 := Lib.hid hu
  have HE1 : Hid (w7.heap.size ≤ w8.heap.size) := hb.size
  have Kw8 : Hid (Keep [w7, w6, w5, w4, w3, w1, w] w8) := Kaw7.out.step hb
  clear Kaw7
  clear hu hb
  have Kaw8 : Hid (Keep [w8, w7, w6, w5, w4, w3, w1, w] w8) := Kw8.out.add
  clear Kw8
  have c0 := (xb0.out.below Kaw8.out.2.1).c0
  have c1 := (xb0.out.below Kaw8.out.2.1).c1
  have c2 := (xb0.out.below Kaw8.out.2.1).c2
  go_wp2_with fail
  refine (KeepsWonT_is (HE.out.below Kaw8.out.2.2.2.2.2.2.2.1) xc1_0 R0.out (xX0.out.below Kaw8.out.2.2.1).at (xX1.out.below Kaw8.out.1).v.at).mono ?_
  rintro e w9 ⟨rfl, hb⟩
  have Kw9 : Hid (Keep [w8, w7, w6, w5, w4, w3, w1, w] w9) := Kaw8.out.step hb
  clear Kaw8
  clear hb
  clear c0 c1 c2
  have c0 := (b0.out.below Kw9.out.2.2.2.2.2.2.1).c0
  have c1 := (b0.out.below Kw9.out.2.2.2.2.2.2.1).c1
  have c2 := (b0.out.below Kw9.out.2.2.2.2.2.2.1).c2
  have c3 := (xb0.out.below Kw9.out.2.1).c0
  have c4 := (xb0.out.below Kw9.out.2.1).c1
  have c5 := (xb0.out.below Kw9.out.2.1).c2
  have Kdw9 : Hid (Keep [w8, w7, w6, w5, w4, w3, w1, w] w9.drew) := Kw9.out.step (Below.refl _ _).drew
  go_wp2_with fail
  go_region_held3 (fun w' => w'.cell? ⟨w.heap.size, 0, none⟩ = some (.slice u0_0 O0.length d0_0) ∧ w'.cell? ⟨w.heap.size, 1, none⟩ = some (.slice u0_1 z0.length d0_1) ∧ w'.cell? ⟨w.heap.size, 2, none⟩ = some (.slice u0_2 P0.length d0_2) ∧ w'.cell? ⟨w6.heap.size, 0, none⟩ = some (.slice xa0_0 O0.length xc0_0) ∧ w'.cell? ⟨w6.heap.size, 1, none⟩ = some (.slice xa0_1 z0.length xc0_1) ∧ w'.cell? ⟨w6.heap.size, 2, none⟩ = some (.slice xa0_2 P0.length xc0_2))
    (first
      | go_keep
      | exact ⟨d0, d1, d2, d3, d4, d5⟩
      | exact ⟨f0, f1, f2, f3, f4, f5⟩)
    (first
      | (go_at_call 15; refine (toGame_at (H0.out.below Kdw9.out.2.2.2.2.2.2.2.1) hn0).mono ?_; rintro e w10 ⟨x, rfl, hu, hb⟩; obtain ⟨ya0_0, yc0_0, ya0_1, yc0_1, ya0_2, yc0_2, hus⟩ := hu.shape; subst hus; have yX0 := Lib.hid hu; have Kw10 : Hid (Keep [w8, w7, w6, w5, w4, w3, w1, w] w10) := Kdw9.out.step hb; have d0 := (b0.out.below Kw10.out.2.2.2.2.2.2.1).c0; have d1 := (b0.out.below Kw10.out.2.2.2.2.2.2.1).c1; have d2 := (b0.out.below Kw10.out.2.2.2.2.2.2.1).c2; have d3 := (xb0.out.below Kw10.out.2.1).c0; have d4 := (xb0.out.below Kw10.out.2.1).c1; have d5 := (xb0.out.below Kw10.out.2.1).c2; have Kaw10 : Hid (Keep [w10, w8, w7, w6, w5, w4, w3, w1, w] w10) := Kw10.out.add; clear hu hb)
      | (go_at_call 18; refine (eqGame_at (xX0.out.below Kaw10.out.2.2.2.1).at (yX0.out.below Kaw10.out.1).at).mono ?_; rintro e w11 ⟨rfl, hb⟩; have Kw11 : Hid (Keep [w10, w8, w7, w6, w5, w4, w3, w1, w] w11) := Kaw10.out.step hb; have f0 := (b0.out.below Kw11.out.2.2.2.2.2.2.2.1).c0; have f1 := (b0.out.below Kw11.out.2.2.2.2.2.2.2.1).c1; have f2 := (b0.out.below Kw11.out.2.2.2.2.2.2.2.1).c2; have f3 := (xb0.out.below Kw11.out.2.2.1).c0; have f4 := (xb0.out.below Kw11.out.2.2.1).c1; have f5 := (xb0.out.below Kw11.out.2.2.1).c2; clear hb))
  clear c0 d0 f0 c1 d1 f1 c2 d2 f2 c3 d3 f3 c4 d4 f4 c5 d5 f5
  have Kzw11 : Hid (Keep [w8, w7, w6, w5, w4, w3, w1, w] w11) := Kw11.out.2
  clear Kdw9 Kw10 Kaw10 yX0
  go_wp2_with fail
  refine (toInts_own (H1.out.below Kzw11.out.2.2.2.2.2.2.2.1)).mono ?_
  rintro e w12 ⟨x, rfl, hu, hb⟩
  obtain ⟨y11a1_0, y11c1_0, hus⟩ := hu.shape2
  subst hus
  have y11X1 := Lib.hid hu
  have Kw12 : Hid (Keep [w8, w7, w6, w5, w4, w3, w1, w] w12) := Kzw11.out.step hb
  clear Kzw11
  clear hu hb
  have Kaw12 : Hid (Keep [w12, w8, w7, w6, w5, w4, w3, w1, w] w12) := Kw12.out.add
  clear Kw12
  go_wp2_with fail
  refine (eqInts_at (xX1.out.below Kaw12.out.2.1).v (y11X1.out.below Kaw12.out.1).v).mono ?_
  rintro e w13 ⟨rfl, hb⟩
  have Kw13 : Hid (Keep [w12, w8, w7, w6, w5, w4, w3, w1, w] w13) := Kaw12.out.step hb
  clear Kaw12
  clear hb
  go_wp2
  go_ret
  exact ⟨rfl, Kw13.out.2.2.2.2.2.2.2.2.1⟩

end Go.Proofs.YtphkgnpkcfbnkabDoor
namespace Go.Proofs.YtphkgnpkcfbnkabDoor
open Go.ChangeShapes Go.WideShapes Go.ChangeAt Go.RowKit

theorem lv_own : ownKnob Tryd.prog.godebug = none := by kernel_rfl
theorem lv_g : Tryd.prog.globalNamed "math/bits.deBruijn64tab" = some 1 := by kernel_rfl
theorem lv_t : (Tryd.prog.globals[1]?).map (·.type) = some 178 := by kernel_rfl
abbrev lvTab : String × DataW Unit := ("math/bits.deBruijn64tab", Rows.laid_math_bits_deBruijn64tab)
theorem lv_data : (Rows.laid_math_bits_deBruijn64tab : DataW Unit) = Lib.tabData .u8 (Lib.deBruijn64tab.map fun (x : Nat) => (x : Int)) := by kernel_rfl
theorem lv_tab {W : World} (h : laidMet Tryd.prog [lvTab] W) : TabW W := fun j hj => by
  unfold lvTab at h
  rw [lv_data] at h
  have h1 := Lib.tabIs_of_head lv_g lv_t (n := 64) (e := 5) (by kernel_rfl) (by kernel_rfl) (by kernel_rfl) (by kernel_rfl) h
  have h2 := h1.cell lv_g j (by simpa [Lib.deBruijn64tab] using hj)
  rw [h2]
  congr 2
  simp [List.getD, List.getElem?_map]
  cases Lib.deBruijn64tab[j]? <;> simp
theorem lv_S {W : World} (h : laidMetH Tryd.prog [lvTab] W) : laidMet Tryd.prog [lvTab] W := by
  have h2 := (laidMetH_iff.1 h).1
  rw [show ([lvTab].filter fun x => x.2.handleName?.isNone) = [lvTab] by kernel_rfl] at h2
  exact h2
/-- A world that meets the list. -/
noncomputable def lvWorld (os : Os) : World :=
  let w0 := World.holding Tryd.prog os ⟨#[], #[], []⟩
  { w0 with heap := (w0.heap.modify 1 fun
      | .cells _ t frozen => .cells #[.int .u8 0, .int .u8 1, .int .u8 56, .int .u8 2, .int .u8 57, .int .u8 49, .int .u8 28, .int .u8 3, .int .u8 61, .int .u8 58, .int .u8 42, .int .u8 50, .int .u8 38, .int .u8 29, .int .u8 17, .int .u8 4, .int .u8 62, .int .u8 47, .int .u8 59, .int .u8 36, .int .u8 45, .int .u8 43, .int .u8 51, .int .u8 22, .int .u8 53, .int .u8 39, .int .u8 33, .int .u8 30, .int .u8 24, .int .u8 18, .int .u8 12, .int .u8 5, .int .u8 63, .int .u8 55, .int .u8 48, .int .u8 27, .int .u8 60, .int .u8 41, .int .u8 37, .int .u8 16, .int .u8 46, .int .u8 35, .int .u8 44, .int .u8 21, .int .u8 52, .int .u8 32, .int .u8 23, .int .u8 11, .int .u8 54, .int .u8 26, .int .u8 40, .int .u8 15, .int .u8 34, .int .u8 20, .int .u8 31, .int .u8 10, .int .u8 25, .int .u8 14, .int .u8 19, .int .u8 9, .int .u8 13, .int .u8 8, .int .u8 7, .int .u8 6] t frozen
      | o => o) }
theorem lv_met (os : Os) (args : Array Value) : laidMet Tryd.prog [lvTab] ((lvWorld os).forCall (fun _ _ => 0) ⟨#[], args, []⟩).memory :=
  laidMet_of_run' 8 (by kernel_rfl) (by kernel_rfl)
theorem lv_metS (os : Os) (args : Array Value) : laidMetH Tryd.prog [lvTab] ((lvWorld os).forCall (fun _ _ => 0) ⟨#[], args, []⟩).memory :=
  laidMetH_of_parts (by rw [show ([lvTab].filter fun x => x.2.handleName?.isNone) = [lvTab] by kernel_rfl]; exact lv_met os args) (by kernel_rfl)
end Go.Proofs.YtphkgnpkcfbnkabDoor
namespace Go.Proofs.YtphkgnpkcfbnkabDoor
section
section
section
open Go.ChangeShapes Go.WideShapes Go.ChangeAt Go.RowKit Go.Deep

theorem cells_int : Tryd.prog.cellsOf 2 = 1 := by kernel_rfl
theorem cells_ints : Tryd.prog.cellsOf 22 = 1 := by kernel_rfl
theorem bytes_int : Tryd.prog.bytesOf 2 = 8 := by kernel_rfl
theorem bytes_ints : Tryd.prog.bytesOf 22 = 24 := by kernel_rfl

theorem fits_of_wf {n : Int} (h : (Lit.int .i64 n).wf = true) : Fits n := by
  have h1 : IntKind.i64.min = -9223372036854775808 := rfl
  have h2 : IntKind.i64.max = 9223372036854775807 := rfl
  simp only [Lit.wf, Bool.and_eq_true, decide_eq_true_eq] at h
  unfold Fits
  omega

theorem mem_weightsAll {H : Type} {P : Program} {e : TypeId} {d : DataW H} {n : Nat} : ∀ {l : List (DataW H)}, d ∈ l → n ∈ d.weights P e → n ∈ DataW.weightsAll P e l
  | [], h, _ => by cases h
  | x :: r, h, hn => by
    simp only [DataW.weightsAll, List.mem_append]
    rcases List.mem_cons.1 h with rfl | h
    · exact Or.inl hn
    · exact Or.inr (mem_weightsAll h hn)

section
variable {H : Type} {enc : TypeId × Value → H} {W : World}

theorem nil_ints (W : World) : IntsAt W none [] := ⟨by simp, fun k hk => absurd hk (by simp), fun h => absurd h (by simp)⟩

/-- One slice of numbers: its cells, its length, its bounds. -/
theorem ints_mk {a : Addr} {L cap : Nat} {Z : List Int} (hl : L ≤ cap) (hz : Z.length = cap) (hc : ∀ i, i < cap → W.cell? (a.add i) = some (.int .i64 (Z.getD i 0))) (hw : ∀ n ∈ Z, (Lit.int .i64 n).wf = true) (hb : cap * 8 ≤ reachBytes) :
    (Z.take L).length = L ∧ IntsAt W (some a) (Z.take L) := by
  have hlen : (Z.take L).length = L := by simp; omega
  have hnth : ∀ k, k < L → nth (Z.take L) k = Z.getD k 0 := fun k hk => by simp [nth, List.getD, hk]
  refine ⟨hlen, by rw [hlen]; have := reachBytes_lt; omega, fun k hk => ?_, fun h0 => ?_⟩
  · rw [hlen] at hk
    rw [hnth k hk]
    refine fits_of_wf (hw _ ?_)
    rw [show Z.getD k 0 = Z[k]'(by omega) from by simp [List.getD, show k < Z.length from by omega]]
    exact List.getElem_mem _
  · rw [hlen] at h0
    obtain ⟨b, off, spot⟩ := a
    have hs : spot = none := by simpa [Addr.add] using World.cell?_spot (hc 0 (by omega))
    subst hs
    refine ⟨b, off, rfl, fun k hk => ?_⟩
    rw [hlen] at hk
    have h := hc k (by omega)
    rw [hnth k hk, ← add_plain]
    exact h

theorem ints_of {fuel : Nat} {v : Value} {y : DataW H × List MemPlace} (h : DataW.trod enc Tryd.prog W 0 (fun _ => true) true fuel 22 [v] = some y) (hw : ∀ n ∈ y.1.weights Tryd.prog 22, n ≤ reachBytes) :
    ∃ a zs cap, v = .slice a zs.length cap ∧ IntsAt W a zs := by
  rcases open_ints Tryd.underlying22 Tryd.underlying2 cells_int h with ⟨hcs, _⟩ | ⟨a, len, cap, zs, hcs, _, hl, hm, hz, hx, hcell, hwz⟩
  · simp only [List.cons.injEq, and_true] at hcs
    exact ⟨none, [], 0, hcs, nil_ints W⟩
  · simp only [List.cons.injEq, and_true] at hcs
    simp only [if_true] at hz
    subst hx
    have hb := hw ((lits (H := H) .i64 (zs.take len)).length * 8 + (lits (H := H) .i64 (zs.drop len)).length * 8) (by simp [DataW.weights, Tryd.underlying22, bytes_int, Nat.add_mul])
    simp only [lits, List.length_map, List.length_take, List.length_drop] at hb
    obtain ⟨h1, h2⟩ := ints_mk hl hz (fun i hi => hcell i (by omega)) hwz (by omega)
    exact ⟨some a, _, cap, by rw [hcs, h1], h2⟩

theorem rows_of {fuel : Nat} {v : Value} {y : DataW H × List MemPlace} (h : DataW.trod enc Tryd.prog W 0 (fun _ => true) true fuel 23 [v] = some y) (hw : ∀ n ∈ y.1.weights Tryd.prog 23, n ≤ reachBytes) :
    ∃ a A C zss cap, v = .slice a zss.length cap ∧ RowsAt W a A C zss := by
  rcases open_int_rows Tryd.underlying23 Tryd.underlying22 Tryd.underlying2 cells_ints cells_int h with ⟨hcs, _⟩ | ⟨a, len, cap, A, L, C, Z, hcs, _, hl, hm, hx, hcell⟩
  · simp only [List.cons.injEq, and_true] at hcs
    exact ⟨none, fun _ => none, fun _ => 0, [], 0, hcs, by simp, fun h => absurd h (by simp), fun k hk => absurd hk (by simp)⟩
  · simp only [List.cons.injEq, and_true] at hcs
    subst hx
    have hlen : ((List.range len).map fun r => (Z r).take (L r)).length = len := by simp
    have hrow : ∀ k, k < len → row ((List.range len).map fun r => (Z r).take (L r)) k = (Z k).take (L k) := fun k hk => by simp [row, hk]
    have hb : len ≤ 17592186044416 := by
      have := hw ((((List.range len).map fun r => intRow (H := H) .i64 (A r) (L r) (Z r)).length + ((List.range (cap - len)).map fun j => intRow (H := H) .i64 (A (len + j)) (L (len + j)) (Z (len + j))).length) * 24) (by simp [DataW.weights, Tryd.underlying23, bytes_ints])
      simp only [List.length_map, List.length_range] at this
      have := reachBytes_lt
      omega
    have hrb : ∀ r, r < len → ∀ ad, A r = some ad → C r * 8 ≤ reachBytes := fun r hr ad had => by
      have hc := hcell r (by omega)
      have := hw (C r * 8) (by
        simp only [DataW.weights, Tryd.underlying23, List.mem_cons, List.mem_append]
        refine Or.inr (Or.inl (mem_weightsAll (d := intRow (H := H) .i64 (A r) (L r) (Z r)) (List.mem_map.2 ⟨r, List.mem_range.2 hr, rfl⟩) ?_))
        have hcl := hc.2.1
        have hzl := hc.2.2.2.1
        have e : min (L r) (Z r).length + ((Z r).length - L r) = C r := by omega
        simp [intRow, had, DataW.weights, Tryd.underlying22, bytes_int, lits, e])
      exact this
    have hrows : ∀ k, k < len → ((Z k).take (L k)).length = L k ∧ IntsAt W (A k) ((Z k).take (L k)) := fun k hk => by
      obtain ⟨_, c1, c2, c3, c4, c5, c6⟩ := hcell k (by omega)
      cases hA : A k with
      | none =>
        have h0 := c5 hA
        have hz0 : Z k = [] := List.length_eq_zero_iff.1 (by omega)
        rw [hz0]
        exact ⟨by simp; omega, by simpa using nil_ints W⟩
      | some ad =>
        exact ints_mk c1 c3 (fun i hi => (c6 ad hA).2 i hi) c4 (hrb k hk ad hA)
    refine ⟨some a, A, C, (List.range len).map fun r => (Z r).take (L r), cap, by rw [hcs, hlen], by rw [hlen]; exact hb, fun h0 => ?_, fun k hk => ?_⟩
    · rw [hlen] at h0
      obtain ⟨b, off, spot⟩ := a
      have hs : spot = none := by simpa [Addr.add] using World.cell?_spot (hcell 0 (by omega)).1
      subst hs
      refine ⟨b, off, rfl, fun k hk => ?_⟩
      rw [hlen] at hk
      have hc := (hcell k (by omega)).1
      rw [hrow k hk, (hrows k hk).1, ← add_plain]
      exact hc
    · rw [hlen] at hk
      rw [hrow k hk]
      exact (hrows k hk).2

end
end

section
open Go.ChangeShapes Go.WideShapes Go.ChangeAt Go.RowKit Go.Deep

set_option maxRecDepth 100000 in
theorem slice_of {H : Type} {enc : TypeId × Value → H} {W : World} {v : Value} {d : DataW H} {p : List MemPlace} {r : Reach} {b0 : Nat} (hv : Value.okWide Tryd.prog W r b0 22 v) (h : DataW.Trod enc Tryd.prog W 0 (fun _ => true) true 22 v d p) (hw : ∀ n ∈ d.weights Tryd.prog 22, n ≤ reachBytes) :
    ∃ a zs cap, v = .slice a zs.length cap ∧ IntsAt W a zs := by
  obtain ⟨a, len, cap, rfl⟩ := okWide_slice Tryd.underlying22 hv
  obtain ⟨fuel, hf⟩ := h
  exact ints_of (y := (d, p)) (by simpa [Value.cells] using hf) hw
end

section
open Go.RowKit Go.ChangeShapes Go.Joins Go.WideShapes

set_option maxRecDepth 100000 in
theorem game_of {H : Type} {enc : TypeId × Value → H} {W : World} {v : Value} {d : DataW H} {p : List MemPlace} {r : Reach} {b0 : Nat} (hv : Value.okWide Tryd.prog W r b0 27 v) (h : DataW.Trod enc Tryd.prog W 0 (fun _ => true) true 27 v d p) (hw : ∀ n ∈ d.weights Tryd.prog 27, n ≤ reachBytes) :
    ∃ O zss P, GameAt W v O zss P := by
  obtain ⟨cs, rfl, hsz⟩ := okWide_struct Tryd.underlying27 hv
  have hC : Tryd.prog.cellsOf 27 = 3 := by kernel_rfl
  have hA : Tryd.prog.cellsOf 25 = 2 := by kernel_rfl
  have hS : Tryd.prog.cellsOf 22 = 1 := by kernel_rfl
  have hR : Tryd.prog.cellsOf 23 = 1 := by kernel_rfl
  obtain ⟨c0, c1, c2, rfl⟩ := array3 (hsz.trans hC)
  obtain ⟨fuel, hf⟩ := h
  obtain ⟨y0, y1, n, hx, _, h0, h1⟩ := trod_struct2 Tryd.underlying27 hf
  obtain ⟨z0, z1, m, hx', _, g0, g1⟩ := trod_struct2 Tryd.underlying25 h0
  simp only [Prod.mk.injEq] at hx
  obtain ⟨rfl, rfl⟩ := hx
  subst hx'
  have k0 : DataW.trod enc Tryd.prog W 0 (fun _ => true) true m 22 [c0] = some z0 := by simpa [Value.cells, hA, hS] using g0
  have k1 : DataW.trod enc Tryd.prog W 0 (fun _ => true) true m 23 [c1] = some z1 := by simpa [Value.cells, hA, hR] using g1
  have k2 : DataW.trod enc Tryd.prog W 0 (fun _ => true) true n 22 [c2] = some y1 := by simpa [Value.cells, hS] using h1
  have hw0 : ∀ n ∈ z0.1.weights Tryd.prog 22, n ≤ reachBytes := fun n hn => hw n (by simp [DataW.weights, Tryd.underlying27, Tryd.underlying25, DataW.weightsEach, hn])
  have hw1 : ∀ n ∈ z1.1.weights Tryd.prog 23, n ≤ reachBytes := fun n hn => hw n (by simp [DataW.weights, Tryd.underlying27, Tryd.underlying25, DataW.weightsEach, hn])
  have hw2 : ∀ n ∈ y1.1.weights Tryd.prog 22, n ≤ reachBytes := fun n hn => hw n (by simp [DataW.weights, Tryd.underlying27, DataW.weightsEach, hn])
  obtain ⟨ao, O, co, rfl, hO⟩ := ints_of k0 hw0
  obtain ⟨an, A, C, zss, cn, rfl, hN⟩ := rows_of k1 hw1
  obtain ⟨ap, P, cp, rfl, hP⟩ := ints_of k2 hw2
  exact ⟨O, zss, P, ao, an, ap, co, cn, cp, A, C, rfl, hO, hN, hP⟩
end
end

section
open Go.ChangeShapes Go.WideShapes Go.ChangeAt Go.RowKit Go.Deep

end
end

section
open Go.ChangeShapes Go.WideShapes Go.ChangeAt Go.RowKit Go.Deep

end

section
open Go.ChangeShapes Go.WideShapes Go.ChangeAt Go.RowKit Go.Deep

end

end Go.Proofs.YtphkgnpkcfbnkabDoor
namespace Go.Proofs.YtphkgnpkcfbnkabDoor
section
open Go.RowKit

/-- Are these kept? -/
noncomputable def sureF (O : List Int) (zss : List (List Int)) (P : List Int) (v : Nat) (x : Int) : Bool := decide (nth (wonL zss O P) v ≠ nth O v) || decide (nth (wonL zss O P) x.toNat = nth (wonL zss O P) v)
noncomputable def sureL (O : List Int) (zss : List (List Int)) (P : List Int) (x : Int) : List Int := if (parityB O zss P && thereB O.length x) = true then (row zss x.toNat).filter (sureF O zss P x.toNat) else []
theorem sure_no {O P r : List Int} {zss : List (List Int)} {x : Int} (hr : sureL O zss P x = r) (h : (parityB O zss P && thereB O.length x) = false) : r = [] := by
  unfold sureL at hr; rw [h] at hr; simpa using hr.symm
theorem sure_yes {O P r : List Int} {zss : List (List Int)} {x : Int} (hr : sureL O zss P x = r) (h : (parityB O zss P && thereB O.length x) = true) : r = (row zss x.toNat).filter (sureF O zss P x.toNat) := by
  unfold sureL at hr; rw [if_pos h] at hr; exact hr.symm

end
end Go.Proofs.YtphkgnpkcfbnkabDoor
namespace Go.Proofs.YtphkgnpkcfbnkabDoor
section
open Go.RowKit

theorem sure_step {Z : List Int} {F : Int → Bool} {i : Nat} (h : i < Z.length) : (Z.take (i + 1)).filter F = (Z.take i).filter F ++ (if F (nth Z i) = true then [nth Z i] else []) := by
  rw [take_snoc h, List.filter_append]
  congr 1
  cases hF : F (nth Z i) <;> simp [hF]

theorem box3_only {S : Nat → Prop} {w w' : World} {g : Nat} {t : TypeId} {a b c : Value} (h : Box3 w g t a b c) (hk : Only S w w') (hs : ¬ S g) : Box3 w' g t a b c := by
  obtain ⟨cs, h1, h2⟩ := h
  exact ⟨cs, (hk.block g (Array.getElem?_eq_some_iff.1 h1).1 hs).trans h1, h2⟩
theorem only_drewS {S : Nat → Prop} {a w : World} (h : Only S a w) : Only S a w.drew := ⟨h.os, h.tape, h.output, h.size, h.block⟩

theorem ownsRow_below {w w' : World} {B : Nat} {e : TypeId} {s n : Nat} {v : Value} {xs : List Value} (h : w.ownsRow B e s v n xs) (hb : Below w.heap.size w w') : w'.ownsRow B e s v n xs := ownsRow_only (S := fun _ => False) h (Only.of_below hb) fun _ _ h => h

set_option linter.unusedSimpArgs false in
set_option maxHeartbeats 16000000 in
set_option maxRecDepth 100000 in
theorem specSureIn_is {w : World} {v : Value} {O P r : List Int} {zss : List (List Int)} {x : Int} (hr : sureL O zss P x = r) (h : GameAt w v O zss P) :
    Calls Tryd.prog 29 #[v, .int .i64 x] w (GivesInts w r) := by
  obtain ⟨i0, hi, hz0, hz1, hz2⟩ := info_parts info_int
  have HGm := Lib.hid h
  obtain ⟨ao, an, ap, co, cn, cp, A, C, rfl, h1, h2, h3⟩ := h
  have hlO := h1.len
  have hlP := h3.len
  obtain ⟨w1, hw1⟩ : ∃ y, y = w.alloc (.cells #[.slice ao O.length co, .slice an zss.length cn, .slice ap P.length cp] 32) := ⟨_, rfl⟩
  have HW1 := Lib.hid hw1
  have B1 : Hid (Below w.heap.size w w1) := by rw [hw1]; exact below1 _ _
  have T1 : Hid (Box3 w1 w.heap.size 32 (.slice ao O.length co) (.slice an zss.length cn) (.slice ap P.length cp)) := by rw [hw1]; exact (Box3.new w _ _ _ _)
  have HAt : Hid (ArenaAt w (.agg #[.slice ao O.length co, .slice an zss.length cn]) O zss) := ⟨_, _, _, _, _, _, rfl, h1, h2⟩
  have HOi := Lib.hid h1
  have HRo := Lib.hid h2
  have HS1 : Hid (w1.heap.size = w.heap.size + 1) := by rw [hw1]; simp [Hid]
  clear hw1 h1 h2 h3
  obtain ⟨wa, hwa⟩ : ∃ y, y = w1.alloc (.cells #[] 2) := ⟨_, rfl⟩
  have HWa := Lib.hid hwa
  have Ba : Hid (Below w.heap.size w wa) := by rw [hwa]; exact B1.out.alloc B1.out.size _
  have Ta : Hid (Box3 wa w.heap.size 32 (.slice ao O.length co) (.slice an zss.length cn) (.slice ap P.length cp)) := by rw [hwa]; exact T1.out.below (below1 _ _)
  have Oa : Hid (wa.ownsRow w1.heap.size 2 1 (.slice (some ⟨w1.heap.size, 0, none⟩) 0 0) ([] : List Int).length (([] : List Int).map (Value.int .i64))) := by rw [hwa]; exact World.ownsRow_made w1 #[] 0 (Nat.le_refl _) (by unfold maxLen; omega) rfl
  have HSa : Hid (wa.heap.size = w1.heap.size + 1) := by rw [hwa]; simp [Hid]
  clear hwa
  cases hp : parityB O zss P with
  | false =>
    have HE := Lib.hid (sure_no hr (by rw [hp]; rfl))
    clear hr
    go_enter Tryd.func29, Tryd.ntmps29
    go_wp2_with fail
    rw [← HW1.out, ← HS1.out, ← HWa.out]
    refine (specParityOk_is hp (HGm.out.below Ba.out)).mono ?_
    rintro e w2 ⟨rfl, hb⟩
    have B2 := Lib.hid (Ba.out.trans (hb.mono Ba.out.size))
    have T2 := Lib.hid (Ta.out.below hb)
    have E2 := Lib.hid (ownsRow_below Oa.out hb)
    have t0 := T2.out.c0
    have t1 := T2.out.c1
    have t2 := T2.out.c2
    have hs2 : wa.heap.size ≤ w2.heap.size := hb.size
    clear hb
    have hfin := Lib.hid ((OwnInts.mk' (zs := []) E2.out (by simp) (fun j hj => absurd hj (by simp))).base (B' := w.heap.size) B1.out.size)
    go_wp2
    go_ret
    rw [HE.out]
    exact ⟨_, rfl, hfin.out, B2.out⟩
  | true =>
    have hpy := parityB_iff.1 hp
    have HZ : Hid (zss.length = O.length) := hpy.1.2.2.1
    have hzz1 : zss.length ≤ O.length := by rw [HZ.out]; exact Nat.le_refl _
    have hzz2 : O.length ≤ zss.length := by rw [HZ.out]; exact Nat.le_refl _
    have hn : O.length ≤ 256 := hpy.1.2.1
    have HPL : Hid (P.length = O.length) := hpy.2.1
    have hPl1 : P.length ≤ O.length := by rw [HPL.out]; exact Nat.le_refl _
    have hPl2 : O.length ≤ P.length := by rw [HPL.out]; exact Nat.le_refl _
    have hib : inB x 0 ((P.length : Int) - 1) = thereB O.length x := by
      unfold inB thereB
      rw [HPL.out, decide_eq_decide]
      omega
    have hw1' : IntKind.i64.wrap ((P.length : Int) - 1) = (P.length : Int) - 1 := IntWalk.i64_in _ (by omega)
    cases hx : thereB O.length x with
    | false =>
      have HE := Lib.hid (sure_no hr (by rw [hp, hx]; rfl))
      rw [hx] at hib
      clear hr hpy
      go_enter Tryd.func29, Tryd.ntmps29
      go_wp2_with fail
      rw [← HW1.out, ← HS1.out, ← HWa.out]
      refine (specParityOk_is hp (HGm.out.below Ba.out)).mono ?_
      rintro e w2 ⟨rfl, hb⟩
      have B2 := Lib.hid (Ba.out.trans (hb.mono Ba.out.size))
      have T2 := Lib.hid (Ta.out.below hb)
      have E2 := Lib.hid (ownsRow_below Oa.out hb)
      have t0 := T2.out.c0
      have t1 := T2.out.c1
      have t2 := T2.out.c2
      have hs2 : wa.heap.size ≤ w2.heap.size := hb.size
      clear hb
      go_wp2_with fail
      refine (l1In_is hib _).mono ?_
      rintro e w3 ⟨rfl, rfl⟩
      have hfin := Lib.hid ((OwnInts.mk' (zs := []) E2.out (by simp) (fun j hj => absurd hj (by simp))).base (B' := w.heap.size) B1.out.size)
      clear t0 t1 t2
      go_wp2
      go_ret
      rw [HE.out]
      exact ⟨_, rfl, hfin.out, B2.out⟩
    | true =>
      have HE := Lib.hid (sure_yes hr (by rw [hp, hx]; rfl))
      have hk : 0 ≤ x ∧ x < O.length := by unfold thereB at hx; simpa using hx
      obtain ⟨k, rfl⟩ : ∃ k : Nat, x = (k : Int) := ⟨x.toNat, by omega⟩
      have hkn : k < O.length := by omega
      have hk0 : (0 : Int) ≤ (k : Int) := by omega
      have hk1 : (k : Int) < (zss.length : Int) := by omega
      have hk2 : (k : Int) < (O.length : Int) := by omega
      have hk3 : (k : Int) < ((wonL zss O P).length : Int) := by rw [wonL_len]; omega
      have HRB : Hid (∀ y ∈ row zss k, ∃ v : Nat, y = (v : Int) ∧ v < O.length) := fun y hy => by
        obtain ⟨u, hu, hun⟩ := (rowsP_of hpy.1).inG k (by omega) y hy
        exact ⟨u, hu, by omega⟩
      have hr16 : (row zss k).length ≤ 16 := (hpy.1.2.2.2 k hkn).2.2.1
      obtain ⟨eb, eo, hea, hec⟩ := HRo.out.cell (by omega)
      have HEC := Lib.hid (hec k (by omega))
      have HRW := Lib.hid (HRo.out.rows k (by omega))
      obtain ⟨ob, oo, hoa, hoc⟩ := HOi.out.cell (by omega)
      have HOC := Lib.hid (hoc k (by omega))
      subst hea hoa
      rw [hx] at hib
      rw [Int.toNat_natCast] at HE
      have HP := Lib.hid hp
      clear hr hpy hx hp hk hec hoc HRo HOi
      go_enter Tryd.func29, Tryd.ntmps29
      go_wp2_with fail
      rw [← HW1.out, ← HS1.out, ← HWa.out]
      refine (specParityOk_is HP.out (HGm.out.below Ba.out)).mono ?_
      rintro e w2 ⟨rfl, hb⟩
      have B2 := Lib.hid (Ba.out.trans (hb.mono Ba.out.size))
      have T2 := Lib.hid (Ta.out.below hb)
      have E2 := Lib.hid (ownsRow_below Oa.out hb)
      have t0 := T2.out.c0
      have t1 := T2.out.c1
      have t2 := T2.out.c2
      have hs2 : wa.heap.size ≤ w2.heap.size := hb.size
      clear hb
      go_wp2_with fail
      refine (l1In_is hib _).mono ?_
      rintro e w3 ⟨rfl, rfl⟩
      go_wp2_with fail
      refine (l7Won_is (HGm.out.below B2.out) HP.out).mono ?_
      rintro e w4 ⟨u, rfl, hu, hb⟩
      have B4 := Lib.hid (B2.out.trans (hb.mono B2.out.size))
      have T4 := Lib.hid (T2.out.below hb)
      have E4 : Hid (w4.ownsRow w1.heap.size 2 1 (.slice (some ⟨w1.heap.size, 0, none⟩) 0 0) (((row zss k).take 0).filter (sureF O zss P k)).length ((((row zss k).take 0).filter (sureF O zss P k)).map (Value.int .i64))) := ownsRow_below E2.out hb
      obtain ⟨ua, uc, hus, hI, _⟩ := hu.shape
      subst hus
      have HUL := Lib.hid (fun (g : Nat) (hg : (Value.slice ua (wonL zss O P).length uc).ownBlock = some g) => (hu.own.lt g hg).1)
      have hs12 := hb.size
      obtain ⟨xb, xo, hxa, hxc⟩ := hI.cell (by rw [wonL_len]; omega)
      subst hxa
      have HXC := Lib.hid hxc
      have hxb := World.block_lt_of_cell? _ _ (hxc 0 (by rw [wonL_len]; omega))
      have hxb1 := HUL.out xb rfl
      have hw12 : w1.heap.size < w2.heap.size := by have := HSa.out; omega
      have hw14 : w1.heap.size < w4.heap.size := by omega
      have heb1 := World.block_lt_of_cell? _ _ HEC.out
      have hob1 := World.block_lt_of_cell? _ _ HOC.out
      have hs1e : w.heap.size < w1.heap.size := by have := HS1.out; omega
      clear hb hu hI hxc t0 t1 t2
      go_wp2
      go_loopw [5, 7] (fun ov iv wr => ∃ (i : Nat) (uu : Value), uu = ov ∧ i ≤ (row zss k).length ∧ iv = .int .i64 i ∧ Hid (wr.ownsRow w1.heap.size 2 1 ov (((row zss k).take i).filter (sureF O zss P k)).length ((((row zss k).take i).filter (sureF O zss P k)).map (Value.int .i64))) ∧ Hid (∀ g, ov.ownBlock = some g → g < w2.heap.size ∨ w4.heap.size ≤ g) ∧ Hid (Only (fun g => (w1.heap.size ≤ g ∧ g < w2.heap.size) ∨ w4.heap.size ≤ g) w4 wr)) (fun _ iv _ => (row zss k).length - (intOf iv).toNat)
      case atStart => exact ⟨0, _, rfl, Nat.zero_le _, rfl, E4, fun g hg => .inl (by simp [Value.ownBlock] at hg; omega), Only.refl _ _⟩
      case round =>
        obtain ⟨i, uu, hu0, hi0, rfl, HO, HUB, HK⟩ := hrel
        subst hu0
        have hksz := HK.out.size
        have hfl : (((row zss k).take i).filter (sureF O zss P k)).length ≤ 16 := Nat.le_trans (List.length_filter_le _ _) (by rw [List.length_take]; omega)
        have OD : Hid (wr.drew.ownsRow w1.heap.size 2 1 uu (((row zss k).take i).filter (sureF O zss P k)).length ((((row zss k).take i).filter (sureF O zss P k)).map (Value.int .i64))) := HO.out
        have DD : Hid (Only (fun g => wr.heap.size ≤ g) wr wr.drew) := only_drewS (Only.refl _ _)
        have TK := Lib.hid (box3_only T4.out HK.out (by omega))
        have t0 := TK.out.c0
        have t1 := TK.out.c1
        have e1 : wr.cell? ⟨eb, eo + k, none⟩ = some (.slice (A k) (row zss k).length (C k)) := (World.cell?_of_block (HK.out.block eb (by omega) (by omega))).trans ((World.cell?_of_block (B4.out.block eb (World.block_lt_of_cell? _ _ HEC.out))).trans HEC.out)
        have o1 : wr.cell? ⟨ob, oo + k, none⟩ = some (.int .i64 (nth O k)) := (World.cell?_of_block (HK.out.block ob (by omega) (by omega))).trans ((World.cell?_of_block (B4.out.block ob (World.block_lt_of_cell? _ _ HOC.out))).trans HOC.out)
        by_cases hlt : i < (row zss k).length
        · have hi1 : (i : Int) < (row zss k).length := by omega
          have hi00 : (0 : Int) ≤ (i : Int) := by omega
          obtain ⟨zb, zo, hza, hzc⟩ := HRW.out.cell (by omega)
          obtain ⟨u, hu, hun⟩ := HRB.out _ (nth_mem hlt)
          have hzb : zb < w.heap.size := World.block_lt_of_cell? _ _ (hzc i hlt)
          have z1 : wr.cell? ⟨zb, zo + i, none⟩ = some (.int .i64 (u : Int)) := (World.cell?_of_block (HK.out.block zb (by omega) (by omega))).trans ((World.cell?_of_block (B4.out.block zb hzb)).trans (by rw [hzc i hlt, hu]))
          rw [hza] at e1
          have hu0 : (0 : Int) ≤ (u : Int) := by omega
          have hu1 : (u : Int) < ((wonL zss O P).length : Int) := by rw [wonL_len]; omega
          have x1 : wr.cell? ⟨xb, xo + k, none⟩ = some (.int .i64 (nth (wonL zss O P) k)) := (World.cell?_of_block (HK.out.block xb (by omega) (by omega))).trans (HXC.out k (by omega))
          have x2 : wr.cell? ⟨xb, xo + u, none⟩ = some (.int .i64 (nth (wonL zss O P) u)) := (World.cell?_of_block (HK.out.block xb (by omega) (by omega))).trans (HXC.out u (by omega))
          obtain ⟨a, ha⟩ : ∃ a, nth (wonL zss O P) k = a := ⟨_, rfl⟩
          obtain ⟨b, hb⟩ : ∃ b, nth O k = b := ⟨_, rfl⟩
          obtain ⟨c, hc⟩ : ∃ c, nth (wonL zss O P) u = c := ⟨_, rfl⟩
          rw [ha] at x1
          rw [hc] at x2
          rw [hb] at o1
          have HA : Hid (nth (wonL zss O P) k = a ∧ nth O k = b) := ⟨ha, hb⟩
          have HC := Lib.hid hc
          have x1d : wr.drew.cell? ⟨xb, xo + k, none⟩ = some (.int .i64 a) := x1
          have x2d : wr.drew.cell? ⟨xb, xo + u, none⟩ = some (.int .i64 c) := x2
          have o1d : wr.drew.cell? ⟨ob, oo + k, none⟩ = some (.int .i64 b) := o1
          have t0d : wr.drew.cell? ⟨w.heap.size, 0, none⟩ = some (.slice (some ⟨ob, oo, none⟩) O.length co) := t0
          clear hzc hza ha hb hc
          by_cases hab : a = b
          · have hne : (a != b) = false := by simp [hab]
            by_cases hca : c = a
            · have heq : (c == a) = true := by simp [hca]
              have HST : Hid (((row zss k).take (i + 1)).filter (sureF O zss P k) = ((row zss k).take i).filter (sureF O zss P k) ++ [(u : Int)]) := by
                have h := sure_step (F := sureF O zss P k) hlt
                rw [hu] at h
                rw [if_pos (by unfold sureF; rw [Int.toNat_natCast]; simp [HA.out, HC.out, hab, hca])] at h
                exact h
              clear hu hab hca
              go_wp2
              go_quiet (fail)
              obtain ⟨wd, hwd⟩ : ∃ y, y = wr.drewN nq := ⟨_, rfl⟩
              rw [← hwd]
              have hbd : Below wr.heap.size wr wd := by rw [hwd]; exact below_drewN (Below.refl _ _) _
              have OE : Hid (wd.ownsRow w1.heap.size 2 1 uu (((row zss k).take i).filter (sureF O zss P k)).length ((((row zss k).take i).filter (sureF O zss P k)).map (Value.int .i64))) := ownsRow_below HO.out hbd
              have DE : Hid (Only (fun g => wr.heap.size ≤ g) wr wd) := Only.of_below hbd
              have hSd : wr.heap.size ≤ wd.heap.size := hbd.size
              clear hwd hbd
              go_wp2_with (at_builtin; refine wpList_append_own_at _ rfl _ _ 22 rfl w1.heap.size 2 i0 (.int .i64 0) 1 8 Tryd.underlying22 hi hz0 hz1 hz2 rfl (by decide) _ _ _ rfl (OE.out.alloc _) ⟨wd.heap.size, 0, none⟩ 1 1 [.int .i64 (u : Int)] rfl rfl ?c1 ?c2 ?c3 ?c4 ?c5 ?_)
              try (case c1 => exact cell_one_new _ _ _)
              try (case c2 => first | rfl | (intro u hu; simp at hu; subst hu; rfl))
              case c3 => unfold maxLen; omega
              case c4 => omega
              case c5 => first | (simp; omega) | omega
              intro v' w6 hown hgrow _ hwh
              have hg : Only (fun g => (w1.heap.size ≤ g ∧ g < w2.heap.size) ∨ w4.heap.size ≤ g) wr w6 := (DE.out.mono fun g hg => .inr (by omega)).trans (((Only.of_below (below1 wd _)).mono fun g hg => .inr (by omega)).trans ((Only.of_grown hgrow).mono fun g hg => by
                have h1 := (OE.out.lt g hg).1
                rcases HUB.out g hg with h | h
                · exact .inl ⟨h1, h⟩
                · exact .inr h))
              have Kn := Lib.hid (HK.out.trans hg)
              have UBn : Hid (∀ g, v'.ownBlock = some g → g < w2.heap.size ∨ w4.heap.size ≤ g) := fun g hg => by
                rcases hwh with h | h
                · exact HUB.out g (by rw [← h]; exact hg)
                · rw [h] at hg
                  simp at hg
                  right; omega
              have HOn : Hid (w6.ownsRow w1.heap.size 2 1 v' (((row zss k).take (i + 1)).filter (sureF O zss P k)).length ((((row zss k).take (i + 1)).filter (sureF O zss P k)).map (Value.int .i64))) := by
                rw [HST.out, List.map_append, List.length_append]; exact hown
              clear hown hgrow hg hwh
              go_wp2
              go_roundw
              case rel => exact ⟨i + 1, _, rfl, by omega, by go_num, HOn, UBn, Kn⟩
              case measure => simp [intOf]; omega
            · have heq : (c == a) = false := beq_eq_false_iff_ne.2 hca
              have HST : Hid (((row zss k).take (i + 1)).filter (sureF O zss P k) = ((row zss k).take i).filter (sureF O zss P k)) := by
                have h := sure_step (F := sureF O zss P k) hlt
                rw [hu, if_neg (by unfold sureF; rw [Int.toNat_natCast]; simp [HA.out, HC.out, hab]; rw [← hab]; exact hca), List.append_nil] at h
                exact h
              clear hu hab hca
              go_wp2
              go_quiet (fail)
              obtain ⟨wd, hwd⟩ : ∃ y, y = wr.drewN nq := ⟨_, rfl⟩
              rw [← hwd]
              have hbd : Below wr.heap.size wr wd := by rw [hwd]; exact below_drewN (Below.refl _ _) _
              have HOn : Hid (wd.ownsRow w1.heap.size 2 1 uu (((row zss k).take (i + 1)).filter (sureF O zss P k)).length ((((row zss k).take (i + 1)).filter (sureF O zss P k)).map (Value.int .i64))) := by rw [HST.out]; exact ownsRow_below HO.out hbd
              have Kn : Hid (Only (fun g => (w1.heap.size ≤ g ∧ g < w2.heap.size) ∨ w4.heap.size ≤ g) w4 wd) := HK.out.trans ((Only.of_below hbd).mono fun g hg => .inr (by omega))
              clear hwd hbd
              go_wp2
              go_roundw
              case rel => exact ⟨i + 1, _, rfl, by omega, by go_num, HOn, HUB, Kn⟩
              case measure => simp [intOf]; omega
          · have hne : (a != b) = true := bne_iff_ne.2 hab
            have HST : Hid (((row zss k).take (i + 1)).filter (sureF O zss P k) = ((row zss k).take i).filter (sureF O zss P k) ++ [(u : Int)]) := by
              have h := sure_step (F := sureF O zss P k) hlt
              rw [hu] at h
              rw [if_pos (by unfold sureF; rw [Int.toNat_natCast]; simp [HA.out, HC.out, hab])] at h
              exact h
            clear hu hab
            go_wp2
            go_quiet (fail)
            obtain ⟨wd, hwd⟩ : ∃ y, y = wr.drewN nq := ⟨_, rfl⟩
            rw [← hwd]
            have hbd : Below wr.heap.size wr wd := by rw [hwd]; exact below_drewN (Below.refl _ _) _
            have OE : Hid (wd.ownsRow w1.heap.size 2 1 uu (((row zss k).take i).filter (sureF O zss P k)).length ((((row zss k).take i).filter (sureF O zss P k)).map (Value.int .i64))) := ownsRow_below HO.out hbd
            have DE : Hid (Only (fun g => wr.heap.size ≤ g) wr wd) := Only.of_below hbd
            have hSd : wr.heap.size ≤ wd.heap.size := hbd.size
            clear hwd hbd
            go_wp2_with (at_builtin; refine wpList_append_own_at _ rfl _ _ 22 rfl w1.heap.size 2 i0 (.int .i64 0) 1 8 Tryd.underlying22 hi hz0 hz1 hz2 rfl (by decide) _ _ _ rfl (OE.out.alloc _) ⟨wd.heap.size, 0, none⟩ 1 1 [.int .i64 (u : Int)] rfl rfl ?c1 ?c2 ?c3 ?c4 ?c5 ?_)
            try (case c1 => exact cell_one_new _ _ _)
            try (case c2 => first | rfl | (intro u hu; simp at hu; subst hu; rfl))
            case c3 => unfold maxLen; omega
            case c4 => omega
            case c5 => first | (simp; omega) | omega
            intro v' w6 hown hgrow _ hwh
            have hg : Only (fun g => (w1.heap.size ≤ g ∧ g < w2.heap.size) ∨ w4.heap.size ≤ g) wr w6 := (DE.out.mono fun g hg => .inr (by omega)).trans (((Only.of_below (below1 wd _)).mono fun g hg => .inr (by omega)).trans ((Only.of_grown hgrow).mono fun g hg => by
              have h1 := (OE.out.lt g hg).1
              rcases HUB.out g hg with h | h
              · exact .inl ⟨h1, h⟩
              · exact .inr h))
            have Kn := Lib.hid (HK.out.trans hg)
            have UBn : Hid (∀ g, v'.ownBlock = some g → g < w2.heap.size ∨ w4.heap.size ≤ g) := fun g hg => by
              rcases hwh with h | h
              · exact HUB.out g (by rw [← h]; exact hg)
              · rw [h] at hg
                simp at hg
                right; omega
            have HOn : Hid (w6.ownsRow w1.heap.size 2 1 v' (((row zss k).take (i + 1)).filter (sureF O zss P k)).length ((((row zss k).take (i + 1)).filter (sureF O zss P k)).map (Value.int .i64))) := by
              rw [HST.out, List.map_append, List.length_append]; exact hown
            clear hown hgrow hg hwh
            go_wp2
            go_roundw
            case rel => exact ⟨i + 1, _, rfl, by omega, by go_num, HOn, UBn, Kn⟩
            case measure => simp [intOf]; omega
        · have hie : i = (row zss k).length := by omega
          have hi1 : ¬ (i : Int) < (row zss k).length := by omega
          have hfin := Lib.hid ((OwnInts.mk' HO.out (by omega) (fun j hj => by
            have hm := nth_mem hj
            rw [List.mem_filter] at hm
            obtain ⟨v, hv, hv2⟩ := HRB.out _ (List.mem_of_mem_take hm.1)
            rw [hv]; unfold Fits; omega)).base (B' := w.heap.size) B1.out.size)
          rw [hie, List.take_length, ← HE.out] at hfin
          have hall : Hid (Below w.heap.size w wr) := ((Only.of_below (S := fun g => w.heap.size ≤ g) B4.out).trans (HK.out.mono fun g hg => by omega)).below (Nat.le_refl _) (fun k h => h)
          go_wp2
          go_ret
          exact ⟨_, rfl, hfin.out, hall.out⟩
end
end Go.Proofs.YtphkgnpkcfbnkabDoor
namespace Go.Proofs.YtphkgnpkcfbnkabDoor
section
open Go.RowKit Go.Shelf

theorem sure_list {O P : List Int} {zss : List (List Int)} (hpar : parityB O zss P = true) {v : Nat} (hv : v < O.length) {who : Int} (hw : who = 0 ∨ who = 1) (hwho : nth (wonL zss O P) v = who) :
    markedK (andB (ofL (row zss v)) (wonM zss O P who)) 256 = (row zss v).filter (sureF O zss P v) := by
  obtain ⟨hA, hl, hp⟩ := parityB_iff.1 hpar
  have hz : zss.length = O.length := hA.2.2.1
  have hn := hA.2.1
  have hp0 : ∀ x ∈ P, 0 ≤ x := fun x hx => (hp x hx).1
  have hpw : (row zss v).Pairwise (· < ·) := rises_pairwise.1 (rises_of (hA.2.2.2 v hv).2.2.2)
  refine rising_eq (markedK_rising _ _) (hpw.filter _) fun x => ?_
  rw [markedK_mem, List.mem_filter]
  constructor
  · rintro ⟨u, rfl, _, h⟩
    unfold andB at h
    rw [Bool.and_eq_true] at h
    refine ⟨ofL_iff.1 h.1, ?_⟩
    have hu := wonM_lt h.2
    unfold sureF
    rw [Int.toNat_natCast, (wonM_won hz hw hu).1 h.2, hwho]
    simp
  · rintro ⟨hx, hs⟩
    obtain ⟨u, rfl, hu⟩ := (rowsP_of hA).inG v (by omega) x hx
    refine ⟨u, rfl, by omega, ?_⟩
    unfold andB
    rw [ofL_iff.2 hx, Bool.true_and, wonM_won hz hw (by omega)]
    unfold sureF at hs
    rw [Int.toNat_natCast, Bool.or_eq_true, decide_eq_true_eq, decide_eq_true_eq, hwho] at hs
    rcases hs with hs | hs
    · have h1 := rgW_closed (P := P) hA hl hp0 hw (by omega) ((rgW_won hw (by omega)).2 hwho) (fun e => hs e.symm) _ hx
      rw [Int.toNat_natCast] at h1
      exact (rgW_won hw hu).1 h1
    · exact hs
end
end Go.Proofs.YtphkgnpkcfbnkabDoor
