/-
  Several texts in one: TabSpec, TabLaw, LawTableOk, LaidL, Lasso, Open, OpenRows.
-/
import Derived.Deep.RegionHeld3
import Derived.Test.YtihaajcmephlmaaDoorRows
import Derived.Lib.LaidTab
import Derived.LaidSub
import Derived.LaidHandle
import Derived.Deep.DeepHandedRow
import Derived.ProofKit
import Derived.OpenShut
import Derived.Carry
import Derived.ChangeVars
import Derived.SizedLaws
import Derived.Deep.Matrix
import Derived.Lib.SmallJoins
import Derived.Test.YtihaajcmephlmaaDoorPx00
import Derived.Test.YtihaajcmephlmaaDoorPx02
import Derived.Test.YtihaajcmephlmaaDoorPx05
import Derived.Test.YtihaajcmephlmaaDoorPx06
namespace Go.Proofs.YtihaajcmephlmaaDoor
section
open Go.RowKit Go.Shelf

set_option maxRecDepth 100000 in
set_option maxHeartbeats 8000000 in
theorem specTableOk_is {w : World} {v : Value} {O P : List Int} {zss ls : List (List Int)} {al : Option Addr} {LA : Nat → Option Addr} {LC : Nat → Nat} {r : Bool} (cl : Nat) (hr : tableB O zss P ls = r) (h : GameAt w v O zss P) (hls : RowsAt w al LA LC ls) :
    Calls Tryd.prog 10 #[v, .slice al ls.length cl] w fun e w' => e = .returned (.bool r) ∧ Below w.heap.size w w' := by
  have HGm := Lib.hid h
  obtain ⟨ao, an, ap, co, cn, cp, A, C, rfl, h1, h2, h3⟩ := h
  have hlP := h3.len
  have hlL := hls.len
  obtain ⟨w1, hw1⟩ : ∃ y, y = w.alloc (.cells #[.slice ao O.length co, .slice an zss.length cn, .slice ap P.length cp] 33) := ⟨_, rfl⟩
  have HW1 := Lib.hid hw1
  have B1 : Hid (Below w.heap.size w w1) := by rw [hw1]; exact below1 _ _
  have T1 : Hid (Box3 w1 w.heap.size 33 (.slice ao O.length co) (.slice an zss.length cn) (.slice ap P.length cp)) := by rw [hw1]; exact Box3.new _ _ _ _ _
  have HLs := Lib.hid hls
  have HR := Lib.hid hr
  have t0 := T1.out.c0
  have t1 := T1.out.c1
  have t2 := T1.out.c2
  obtain ⟨rs, hrs⟩ : ∃ rs, smallB O zss P = rs := ⟨_, rfl⟩
  have HC1 := Lib.hid (l8Small_is hrs (HGm.out.below B1.out))
  have HRS := Lib.hid hrs
  clear hw1 h1 h2 h3 hls hr hrs
  cases rs with
  | false =>
    have HE : Hid (r = false) := by rw [← HR.out]; exact tableB_small HRS.out
    go_enter Tryd.func10, Tryd.ntmps10
    go_wp2_with fail
    rw [← HW1.out]
    go_wp2_with fail
    refine HC1.out.mono ?_
    rintro e w2 ⟨rfl, hb⟩
    have B2 := Lib.hid (B1.out.trans (hb.mono B1.out.size))
    clear hb HC1 t0 t1 t2
    go_wp2
    go_ret
    exact ⟨ret_bool HE.out.symm, B2.out⟩
  | true =>
    by_cases hln : ls.length = P.length
    · have hlnz : ((ls.length : Int) != (P.length : Int)) = false := by simp; omega
      have HLN := Lib.hid hln
      clear hln
      go_enter Tryd.func10, Tryd.ntmps10
      go_wp2_with fail
      rw [← HW1.out]
      go_wp2_with fail
      refine HC1.out.mono ?_
      rintro e w2 ⟨rfl, hb⟩
      have B2 := Lib.hid (B1.out.trans (hb.mono B1.out.size))
      have T2 := Lib.hid (T1.out.below hb)
      clear hb HC1 t0 t1 t2
      have t0 := T2.out.c0
      have t1 := T2.out.c1
      have t2 := T2.out.c2
      have HOd := Lib.hid (l8Odds_is (HGm.out.below B2.out))
      go_wp2_with fail
      refine HOd.out.mono ?_
      rintro e w3 ⟨u, rfl, hu, hb⟩
      obtain ⟨qa, qc, rfl, hq, _⟩ := hu.shape
      have B3 := Lib.hid (B2.out.trans (hb.mono B2.out.size))
      have T3 := Lib.hid (T2.out.below hb)
      have HQ := Lib.hid hq
      clear hb HOd t0 t1 t2 hu hq
      go_wp2
      go_loopw [6] (fun iv wr => ∃ k : Nat, k ≤ ls.length ∧ iv = .int .i64 k ∧ Hid (∀ j, j < k → goodB P (row ls j) = true) ∧ Hid (Below w3.heap.size w3 wr)) (fun iv _ => ls.length - (intOf iv).toNat)
      case atStart => exact ⟨0, Nat.zero_le _, rfl, fun j hj => absurd hj (Nat.not_lt_zero _), Below.refl _ _⟩
      case round =>
        obtain ⟨k, hk, rfl, HJ, HB⟩ := hrel
        by_cases hlt : k < ls.length
        · have hi1 : (k : Int) < ls.length := by omega
          have hk0 : (0 : Int) ≤ (k : Int) := by omega
          have B4 := Lib.hid (B3.out.trans (HB.out.mono B3.out.size))
          obtain ⟨lb, lo, hla, hlc⟩ := HLs.out.cell (by omega)
          have x0 := hlc k hlt
          have HRI := Lib.hid (HLs.out.rows k hlt)
          obtain ⟨mm, hmm⟩ : ∃ mm, mm = row ls k := ⟨_, rfl⟩
          have HMM := Lib.hid hmm
          rw [← hmm] at x0 HRI
          have HX0 := Lib.hid x0
          have HSv : Hid (∀ W, Below wr.heap.size wr W → W.cell? ⟨w.heap.size, 0, none⟩ = some (.slice ao O.length co) ∧ W.cell? ⟨w.heap.size, 1, none⟩ = some (.slice an zss.length cn) ∧ W.cell? ⟨w.heap.size, 2, none⟩ = some (.slice ap P.length cp) ∧ W.cell? ⟨lb, lo + k, none⟩ = some (.slice (LA k) mm.length (LC k))) := fun W hb => by
            have hb2 := HB.out.trans (hb.mono HB.out.size)
            have hb3 := B3.out.trans (hb2.mono B3.out.size)
            exact ⟨(T3.out.below hb2).c0, (T3.out.below hb2).c1, (T3.out.below hb2).c2, (hb3.cell (World.block_lt_of_cell? _ _ HX0.out)).trans HX0.out⟩
          have Kd : Hid (Below wr.heap.size wr wr.drew) := (Below.refl _ _).drew
          obtain ⟨g, hg⟩ : ∃ g, goodB P mm = g := ⟨_, rfl⟩
          have HGd : Hid (Calls Tryd.prog 34 #[.agg #[.slice ao O.length co, .slice an zss.length cn, .slice ap P.length cp], .slice qa (oddsL P).length qc, .slice (LA k) mm.length (LC k)] wr.drew fun e w' => e = .returned (.bool g) ∧ Below wr.drew.heap.size wr.drew w') :=
            l8Good_is qc (LC k) hg (HGm.out.below (B4.out.trans (Kd.out.mono B4.out.size))) (HQ.out.below (HB.out.trans (Kd.out.mono HB.out.size))) (HRI.out.below (B4.out.trans (Kd.out.mono B4.out.size)))
          have HGe := Lib.hid hg
          have HLa := Lib.hid hla
          subst hla
          have hs0 := HSv.out _ Kd.out
          clear hlc x0 hmm hg
          cases g with
          | true =>
            have HJn : Hid (∀ j, j < k + 1 → goodB P (row ls j) = true) := fun j hj => by
              by_cases e : j = k
              · rw [e, ← HMM.out]; exact HGe.out
              · exact HJ.out j (by omega)
            go_wp2
            go_region_held3 (fun W => W.cell? ⟨w.heap.size, 0, none⟩ = some (.slice ao O.length co) ∧ W.cell? ⟨w.heap.size, 1, none⟩ = some (.slice an zss.length cn) ∧ W.cell? ⟨w.heap.size, 2, none⟩ = some (.slice ap P.length cp) ∧ W.cell? ⟨lb, lo + k, none⟩ = some (.slice (LA k) mm.length (LC k)))
              (first
                | exact HSv.out _ Kd.out
                | exact HSv.out _ Km.out
                | go_keep)
              (first
                | (go_at_call 34; refine HGd.out.mono ?_; rintro e wm ⟨rfl, hb⟩; have Km := Lib.hid (Kd.out.trans (hb.mono Kd.out.size)); clear hb))
            all_goals (
              go_wp2
              go_roundw
              case rel => exact ⟨k + 1, by omega, by go_num, HJn, HB.out.trans (Km.out.mono HB.out.size)⟩
              case measure => simp [intOf]; omega)
          | false =>
            have HE : Hid (r = false) := by rw [← HR.out]; exact tableB_bad hlt (by rw [← HMM.out]; exact HGe.out)
            go_wp2
            go_region_held3 (fun W => W.cell? ⟨w.heap.size, 0, none⟩ = some (.slice ao O.length co) ∧ W.cell? ⟨w.heap.size, 1, none⟩ = some (.slice an zss.length cn) ∧ W.cell? ⟨w.heap.size, 2, none⟩ = some (.slice ap P.length cp) ∧ W.cell? ⟨lb, lo + k, none⟩ = some (.slice (LA k) mm.length (LC k)))
              (first
                | exact HSv.out _ Kd.out
                | exact HSv.out _ Km.out
                | go_keep)
              (first
                | (go_at_call 34; refine HGd.out.mono ?_; rintro e wm ⟨rfl, hb⟩; have Km := Lib.hid (Kd.out.trans (hb.mono Kd.out.size)); clear hb))
            all_goals (
              go_wp2
              go_ret
              exact ⟨ret_bool HE.out.symm, B4.out.trans (Km.out.mono B4.out.size)⟩)
        · have hi1 : ¬ (k : Int) < ls.length := by omega
          have HE : Hid (r = true) := by rw [← HR.out]; exact tableB_yes HRS.out HLN.out (fun j hj => HJ.out j (by omega))
          go_wp2
          go_ret
          exact ⟨ret_bool HE.out.symm, B3.out.trans (HB.out.mono B3.out.size)⟩
    · have hlnz : ((ls.length : Int) != (P.length : Int)) = true := by simp; omega
      have HE : Hid (r = false) := by rw [← HR.out]; exact tableB_len hln
      clear hln
      go_enter Tryd.func10, Tryd.ntmps10
      go_wp2_with fail
      rw [← HW1.out]
      go_wp2_with fail
      refine HC1.out.mono ?_
      rintro e w2 ⟨rfl, hb⟩
      have B2 := Lib.hid (B1.out.trans (hb.mono B1.out.size))
      have T2 := Lib.hid (T1.out.below hb)
      clear hb HC1 t0 t1 t2
      have t2 := T2.out.c2
      go_wp2
      go_ret
      exact ⟨ret_bool HE.out.symm, B2.out⟩
end
end Go.Proofs.YtihaajcmephlmaaDoor
namespace Go.Proofs.YtihaajcmephlmaaDoor
section
open Go.RowKit
theorem TableOkV_is {w : World} {v u : Value} {O P : List Int} {zss ls : List (List Int)} {r : Bool} (hll : ls.length ≤ 1048576) (hW : LostW w) (hr : tableB O zss P ls = r) (h : GameAt w v O zss P) (hu : RowsV w u ls) :
    Calls Tryd.prog 13 #[v, u] w fun e w' => e = .returned (.bool r) ∧ Below w.heap.size w w' := by
  obtain ⟨a, c, A, C, rfl, hr'⟩ := hu
  exact TableOk_is hW c hr h hr' hll
theorem specTableOkV_is {w : World} {v u : Value} {O P : List Int} {zss ls : List (List Int)} {r : Bool} (hr : tableB O zss P ls = r) (h : GameAt w v O zss P) (hu : RowsV w u ls) :
    Calls Tryd.prog 10 #[v, u] w fun e w' => e = .returned (.bool r) ∧ Below w.heap.size w w' := by
  obtain ⟨a, c, A, C, rfl, hr'⟩ := hu
  exact specTableOk_is c hr h hr'
end
end Go.Proofs.YtihaajcmephlmaaDoor
namespace Go.Proofs.YtihaajcmephlmaaDoor
open Go.RowKit

set_option maxHeartbeats 16000000 in
set_option maxRecDepth 100000 in
theorem lawTableOk {w : World} {v0 : Value} {O0 : List Int} {z0 : List (List Int)} {P0 : List Int} {v1 : Value} {z1 : List (List Int)} (h0 : GameAt w v0 O0 z0 P0) (h1 : RowsV w v1 z1) (hE : LostW w) :
    Calls Tryd.prog 3 #[v0, v1] w fun e w' => e = .returned (.bool true) ∧ Below w.heap.size w w' := by
  have HE := Lib.hid hE
  clear hE
  have H0 := Lib.hid h0
  obtain ⟨u0_0, u0_1, u0_2, d0_0, d0_1, d0_2, A0, C0, rfl, q0, q1, q2⟩ := h0
  clear q0 q1 q2
  have H1 := Lib.hid h1
  obtain ⟨u1_0, d1_0, A1, C1, rfl, q0⟩ := h1
  clear q0
  obtain ⟨w1, hw1⟩ : ∃ y, y = (w.alloc (.cells #[.slice u0_0 O0.length d0_0, .slice u0_1 z0.length d0_1, .slice u0_2 P0.length d0_2] 27)) := ⟨_, rfl⟩
  have HW1 := Lib.hid hw1
  have B1 : Hid (Below w.heap.size w w1) := by rw [hw1]; exact below1 _ _
  have b0 : Hid (Box3 w1 (w.heap.size) 27 (.slice u0_0 O0.length d0_0) (.slice u0_1 z0.length d0_1) (.slice u0_2 P0.length d0_2)) := by rw [hw1]; exact Box3.new_at (by simp) _ _ _ _ 
  have K1 : Hid (Keep [w1, w] w1) := ⟨Below.refl _ _, B1.out, trivial⟩
  clear hw1
  by_cases hs0 : (1048576 : Int) < (sizeGame O0 z0 P0 : Int)
  · skip
    have HSn0 : Hid (∀ W, Below w.heap.size w W → Calls Tryd.prog 8 #[.agg #[.slice u0_0 O0.length d0_0, .slice u0_1 z0.length d0_1, .slice u0_2 P0.length d0_2], .int .i64 (1048576 : Int)] W fun e w' => e = .returned (.int .i64 (-1)) ∧ Below W.heap.size W w') := fun W hb => szGame_at (leftOf_no hs0) (H0.out.below hb) (by omega) (by omega)
    clear hs0
    go_enter Tryd.func3, Tryd.ntmps3
    go_wp2_with fail
    rw [← HW1.out]
    refine (HSn0.out _ K1.out.2.1).mono ?_
    rintro e w2 ⟨rfl, hb⟩
    have Kw2 : Hid (Keep [w1, w] w2) := K1.out.step hb
    clear K1
    clear hb
    go_wp2
    go_ret
    exact ⟨rfl, Kw2.out.2.1⟩
  have hle0 : (sizeGame O0 z0 P0 : Int) ≤ (1048576 : Int) := by omega
  obtain ⟨m0, hm0⟩ : ∃ m, leftOf (1048576 : Int) (sizeGame O0 z0 P0) = m := ⟨_, rfl⟩
  have hmv0 : m0 = (1048576 : Int) - (sizeGame O0 z0 P0 : Int) := by rw [← hm0]; exact leftOf_yes hle0
  have hml0 : 0 ≤ m0 := by omega
  have hmu0 : m0 ≤ 1048576 := by omega
  have HLE0 : Hid (sizeGame O0 z0 P0 ≤ 1048576) := by simp only [Hid]; omega
  have HS0 : Hid (∀ W, Below w.heap.size w W → Calls Tryd.prog 8 #[.agg #[.slice u0_0 O0.length d0_0, .slice u0_1 z0.length d0_1, .slice u0_2 P0.length d0_2], .int .i64 (1048576 : Int)] W fun e w' => e = .returned (.int .i64 m0) ∧ Below W.heap.size W w') := fun W hb => szGame_at hm0 (H0.out.below hb) (by omega) (by omega)
  have hn0 : z0.length ≤ 1048576 := by have := HLE0.out; unfold sizeGame at this; (try unfold sizeArena at this); omega
  clear hs0 hm0 hle0 hmv0
  by_cases hs1 : m0 < (sizeTab z1 : Int)
  · skip
    have HSn1 : Hid (∀ W, Below w.heap.size w W → Calls Tryd.prog 9 #[.slice u1_0 z1.length d1_0, .int .i64 m0] W fun e w' => e = .returned (.int .i64 (-1)) ∧ Below W.heap.size W w') := fun W hb => szTab_at (leftOf_no hs1) (H1.out.below hb) (by omega) (by omega)
    clear hs1
    go_enter Tryd.func3, Tryd.ntmps3
    go_wp2_with fail
    rw [← HW1.out]
    refine (HS0.out _ K1.out.2.1).mono ?_
    rintro e w2 ⟨rfl, hb⟩
    have Kw2 : Hid (Keep [w1, w] w2) := K1.out.step hb
    clear K1
    clear hb
    go_wp2_with fail
    refine (HSn1.out _ Kw2.out.2.1).mono ?_
    rintro e w3 ⟨rfl, hb⟩
    have Kw3 : Hid (Keep [w1, w] w3) := Kw2.out.step hb
    clear Kw2
    clear hb
    go_wp2
    go_ret
    exact ⟨rfl, Kw3.out.2.1⟩
  have hle1 : (sizeTab z1 : Int) ≤ m0 := by omega
  obtain ⟨m1, hm1⟩ : ∃ m, leftOf m0 (sizeTab z1) = m := ⟨_, rfl⟩
  have hmv1 : m1 = m0 - (sizeTab z1 : Int) := by rw [← hm1]; exact leftOf_yes hle1
  have hml1 : 0 ≤ m1 := by omega
  have hmu1 : m1 ≤ 1048576 := by omega
  have HLE1 : Hid (sizeTab z1 ≤ 1048576) := by simp only [Hid]; omega
  have HS1 : Hid (∀ W, Below w.heap.size w W → Calls Tryd.prog 9 #[.slice u1_0 z1.length d1_0, .int .i64 m0] W fun e w' => e = .returned (.int .i64 m1) ∧ Below W.heap.size W w') := fun W hb => szTab_at hm1 (H1.out.below hb) (by omega) (by omega)
  have hn1 : z1.length ≤ 1048576 := by have := HLE1.out; unfold sizeTab at this; (try unfold sizeArena at this); omega
  clear hs1 hm1 hle1 hmv1
  obtain ⟨rb0, hrb0⟩ : ∃ r, tableB O0 z0 P0 z1 = r := ⟨_, rfl⟩
  have R0 := Lib.hid hrb0
  have hnerb0 : (rb0 != rb0) = false := by simp
  clear hrb0
  go_enter Tryd.func3, Tryd.ntmps3
  go_wp2_with fail
  rw [← HW1.out]
  refine (HS0.out _ K1.out.2.1).mono ?_
  rintro e w2 ⟨rfl, hb⟩
  have Kw2 : Hid (Keep [w1, w] w2) := K1.out.step hb
  clear K1
  clear hb
  go_wp2_with fail
  refine (HS1.out _ Kw2.out.2.1).mono ?_
  rintro e w3 ⟨rfl, hb⟩
  have Kw3 : Hid (Keep [w1, w] w3) := Kw2.out.step hb
  clear Kw2
  clear hb
  have c0 := (b0.out.below Kw3.out.1).c0
  have c1 := (b0.out.below Kw3.out.1).c1
  have c2 := (b0.out.below Kw3.out.1).c2
  go_wp2_with fail
  refine (toGame_at (H0.out.below Kw3.out.2.1) hn0).mono ?_
  rintro e w4 ⟨x, rfl, hu, hb⟩
  obtain ⟨pa0_0, pc0_0, pa0_1, pc0_1, pa0_2, pc0_2, hus⟩ := hu.shape
  subst hus
  have pX0 := Lib.hid hu
  have Kw4 : Hid (Keep [w1, w] w4) := Kw3.out.step hb
  clear Kw3
  clear hu hb
  have Kaw4 : Hid (Keep [w4, w1, w] w4) := Kw4.out.add
  clear Kw4
  clear c0 c1 c2
  go_wp2_with fail
  refine (toTab_own (H1.out.below Kaw4.out.2.2.1) hn1).mono ?_
  rintro e w5 ⟨x, rfl, hu, hb⟩
  obtain ⟨pa1_0, pc1_0, hus⟩ := hu.shape2
  subst hus
  have pX1 := Lib.hid hu
  have Kw5 : Hid (Keep [w4, w1, w] w5) := Kaw4.out.step hb
  clear Kaw4
  clear hu hb
  have Kaw5 : Hid (Keep [w5, w4, w1, w] w5) := Kw5.out.add
  clear Kw5
  go_wp2_with fail
  refine (specTableOkV_is  R0.out (pX0.out.below Kaw5.out.2.1).at (pX1.out.below Kaw5.out.1).at).mono ?_
  rintro e w6 ⟨rfl, hb⟩
  have Kw6 : Hid (Keep [w5, w4, w1, w] w6) := Kaw5.out.step hb
  clear Kaw5
  clear hb
  have Kaw6 : Hid (Keep [w6, w5, w4, w1, w] w6) := Kw6.out.add
  clear Kw6
  have c0 := (b0.out.below Kaw6.out.2.2.2.1).c0
  have c1 := (b0.out.below Kaw6.out.2.2.2.1).c1
  have c2 := (b0.out.below Kaw6.out.2.2.2.1).c2
  go_wp2_with fail
  refine (toGame_at (H0.out.below Kaw6.out.2.2.2.2.1) hn0).mono ?_
  rintro e w7 ⟨x, rfl, hu, hb⟩
  obtain ⟨xa0_0, xc0_0, xa0_1, xc0_1, xa0_2, xc0_2, hus⟩ := hu.shape
  subst hus
  have xX0 := Lib.hid hu
  have HE0 : Hid (w6.heap.size ≤ w7.heap.size) := hb.size
  have Kw7 : Hid (Keep [w6, w5, w4, w1, w] w7) := Kaw6.out.step hb
  clear Kaw6
  clear hu hb
  have Kaw7 : Hid (Keep [w7, w6, w5, w4, w1, w] w7) := Kw7.out.add
  clear Kw7
  clear c0 c1 c2
  obtain ⟨w8, hw8⟩ : ∃ y, y = w7.alloc (.cells #[.slice xa0_0 O0.length xc0_0, .slice xa0_1 z0.length xc0_1, .slice xa0_2 P0.length xc0_2] 33) := ⟨_, rfl⟩
  have Hw8 := Lib.hid hw8
  have hb : Below w7.heap.size w7 w8 := by rw [hw8]; exact below1 _ _
  have xb0 : Hid (Box3 w8 w7.heap.size 33 (.slice xa0_0 O0.length xc0_0) (.slice xa0_1 z0.length xc0_1) (.slice xa0_2 P0.length xc0_2)) := by rw [hw8]; exact Box3.new _ _ _ _ _ 
  have Kw8 : Hid (Keep [w7, w6, w5, w4, w1, w] w8) := Kaw7.out.step hb
  clear Kaw7
  clear hb
  have Kaw8 : Hid (Keep [w8, w7, w6, w5, w4, w1, w] w8) := Kw8.out.add
  clear Kw8
  clear hw8
  go_wp2_with fail
  rw [← Hw8.out]
  refine (toTab_own (H1.out.below Kaw8.out.2.2.2.2.2.2.1) hn1).mono ?_
  rintro e w9 ⟨x, rfl, hu, hb⟩
  obtain ⟨xa1_0, xc1_0, hus⟩ := hu.shape2
  subst hus
  have xX1 := Lib.hid hu
  have HE1 : Hid (w8.heap.size ≤ w9.heap.size) := hb.size
  have Kw9 : Hid (Keep [w8, w7, w6, w5, w4, w1, w] w9) := Kaw8.out.step hb
  clear Kaw8
  clear hu hb
  have Kaw9 : Hid (Keep [w9, w8, w7, w6, w5, w4, w1, w] w9) := Kw9.out.add
  clear Kw9
  have c0 := (xb0.out.below Kaw9.out.2.1).c0
  have c1 := (xb0.out.below Kaw9.out.2.1).c1
  have c2 := (xb0.out.below Kaw9.out.2.1).c2
  go_wp2_with fail
  refine (TableOkV_is hn1 (HE.out.below Kaw9.out.2.2.2.2.2.2.2.1)  R0.out (xX0.out.below Kaw9.out.2.2.1).at (xX1.out.below Kaw9.out.1).at).mono ?_
  rintro e w10 ⟨rfl, hb⟩
  have Kw10 : Hid (Keep [w9, w8, w7, w6, w5, w4, w1, w] w10) := Kaw9.out.step hb
  clear Kaw9
  clear hb
  clear c0 c1 c2
  have c0 := (b0.out.below Kw10.out.2.2.2.2.2.2.1).c0
  have c1 := (b0.out.below Kw10.out.2.2.2.2.2.2.1).c1
  have c2 := (b0.out.below Kw10.out.2.2.2.2.2.2.1).c2
  have c3 := (xb0.out.below Kw10.out.2.1).c0
  have c4 := (xb0.out.below Kw10.out.2.1).c1
  have c5 := (xb0.out.below Kw10.out.2.1).c2
  have Kdw10 : Hid (Keep [w9, w8, w7, w6, w5, w4, w1, w] w10.drew) := Kw10.out.step (Below.refl _ _).drew
  go_wp2_with fail
  go_region_held3 (fun w' => w'.cell? ⟨w.heap.size, 0, none⟩ = some (.slice u0_0 O0.length d0_0) ∧ w'.cell? ⟨w.heap.size, 1, none⟩ = some (.slice u0_1 z0.length d0_1) ∧ w'.cell? ⟨w.heap.size, 2, none⟩ = some (.slice u0_2 P0.length d0_2) ∧ w'.cell? ⟨w7.heap.size, 0, none⟩ = some (.slice xa0_0 O0.length xc0_0) ∧ w'.cell? ⟨w7.heap.size, 1, none⟩ = some (.slice xa0_1 z0.length xc0_1) ∧ w'.cell? ⟨w7.heap.size, 2, none⟩ = some (.slice xa0_2 P0.length xc0_2))
    (first
      | go_keep
      | exact ⟨d0, d1, d2, d3, d4, d5⟩
      | exact ⟨f0, f1, f2, f3, f4, f5⟩)
    (first
      | (go_at_call 11; refine (toGame_at (H0.out.below Kdw10.out.2.2.2.2.2.2.2.1) hn0).mono ?_; rintro e w11 ⟨x, rfl, hu, hb⟩; obtain ⟨ya0_0, yc0_0, ya0_1, yc0_1, ya0_2, yc0_2, hus⟩ := hu.shape; subst hus; have yX0 := Lib.hid hu; have Kw11 : Hid (Keep [w9, w8, w7, w6, w5, w4, w1, w] w11) := Kdw10.out.step hb; have d0 := (b0.out.below Kw11.out.2.2.2.2.2.2.1).c0; have d1 := (b0.out.below Kw11.out.2.2.2.2.2.2.1).c1; have d2 := (b0.out.below Kw11.out.2.2.2.2.2.2.1).c2; have d3 := (xb0.out.below Kw11.out.2.1).c0; have d4 := (xb0.out.below Kw11.out.2.1).c1; have d5 := (xb0.out.below Kw11.out.2.1).c2; have Kaw11 : Hid (Keep [w11, w9, w8, w7, w6, w5, w4, w1, w] w11) := Kw11.out.add; clear hu hb)
      | (go_at_call 14; refine (eqGame_at (xX0.out.below Kaw11.out.2.2.2.1).at (yX0.out.below Kaw11.out.1).at).mono ?_; rintro e w12 ⟨rfl, hb⟩; have Kw12 : Hid (Keep [w11, w9, w8, w7, w6, w5, w4, w1, w] w12) := Kaw11.out.step hb; have f0 := (b0.out.below Kw12.out.2.2.2.2.2.2.2.1).c0; have f1 := (b0.out.below Kw12.out.2.2.2.2.2.2.2.1).c1; have f2 := (b0.out.below Kw12.out.2.2.2.2.2.2.2.1).c2; have f3 := (xb0.out.below Kw12.out.2.2.1).c0; have f4 := (xb0.out.below Kw12.out.2.2.1).c1; have f5 := (xb0.out.below Kw12.out.2.2.1).c2; clear hb))
  clear c0 d0 f0 c1 d1 f1 c2 d2 f2 c3 d3 f3 c4 d4 f4 c5 d5 f5
  have Kzw12 : Hid (Keep [w9, w8, w7, w6, w5, w4, w1, w] w12) := Kw12.out.2
  clear Kdw10 Kw11 Kaw11 yX0
  go_wp2_with fail
  refine (toTab_own (H1.out.below Kzw12.out.2.2.2.2.2.2.2.1) hn1).mono ?_
  rintro e w13 ⟨x, rfl, hu, hb⟩
  obtain ⟨y12a1_0, y12c1_0, hus⟩ := hu.shape2
  subst hus
  have y12X1 := Lib.hid hu
  have Kw13 : Hid (Keep [w9, w8, w7, w6, w5, w4, w1, w] w13) := Kzw12.out.step hb
  clear Kzw12
  clear hu hb
  have Kaw13 : Hid (Keep [w13, w9, w8, w7, w6, w5, w4, w1, w] w13) := Kw13.out.add
  clear Kw13
  go_wp2_with fail
  refine (eqTab_at (xX1.out.below Kaw13.out.2.1).at (y12X1.out.below Kaw13.out.1).at).mono ?_
  rintro e w14 ⟨rfl, hb⟩
  have Kw14 : Hid (Keep [w13, w9, w8, w7, w6, w5, w4, w1, w] w14) := Kaw13.out.step hb
  clear Kaw13
  clear hb
  go_wp2
  go_ret
  exact ⟨rfl, Kw14.out.2.2.2.2.2.2.2.2.1⟩

end Go.Proofs.YtihaajcmephlmaaDoor
namespace Go.Proofs.YtihaajcmephlmaaDoor
open Go.ChangeShapes Go.WideShapes Go.ChangeAt Go.RowKit

theorem lv_own : ownKnob Tryd.prog.godebug = none := by kernel_rfl
theorem lv_g : Tryd.prog.globalNamed "loop.example/g00869/impl.lostMeasure" = some 0 := by kernel_rfl
theorem lv_t : (Tryd.prog.globals[0]?).map (·.type) = some 51 := by kernel_rfl
abbrev lvTab : String × DataW Unit := ("loop.example/g00869/impl.lostMeasure", Rows.laid_loop_example_g00869_impl_lostMeasure)
theorem lv_data : (Rows.laid_loop_example_g00869_impl_lostMeasure : DataW Unit) = Lib.tabData .i64 [1, 0, 0, 0, 0, 0, 0, 0, 0, 0, 0, 0, 0] := by kernel_rfl
theorem lv_tab {W : World} (h : laidMet Tryd.prog [lvTab] W) : LostW W := fun j hj => by
  unfold lvTab at h
  rw [lv_data] at h
  have h1 := Lib.tabIs_of_head lv_g lv_t (n := 13) (e := 2) (by kernel_rfl) (by kernel_rfl) (by kernel_rfl) (by kernel_rfl) h
  have h2 := h1.cell lv_g j (by simpa using hj)
  rw [h2]
  have h13 : j = 0 ∨ j = 1 ∨ j = 2 ∨ j = 3 ∨ j = 4 ∨ j = 5 ∨ j = 6 ∨ j = 7 ∨ j = 8 ∨ j = 9 ∨ j = 10 ∨ j = 11 ∨ j = 12 := by omega
  rcases h13 with rfl | rfl | rfl | rfl | rfl | rfl | rfl | rfl | rfl | rfl | rfl | rfl | rfl <;> rfl
theorem lv_S {W : World} (h : laidMetH Tryd.prog [lvTab] W) : laidMet Tryd.prog [lvTab] W := by
  have h2 := (laidMetH_iff.1 h).1
  rw [show ([lvTab].filter fun x => x.2.handleName?.isNone) = [lvTab] by kernel_rfl] at h2
  exact h2
/-- A world that meets the list. -/
noncomputable def lvWorld (os : Os) : World :=
  let w0 := World.holding Tryd.prog os ⟨#[], #[], []⟩
  { w0 with heap := (w0.heap.modify 0 fun
      | .cells _ t frozen => .cells #[.int .i64 1, .int .i64 0, .int .i64 0, .int .i64 0, .int .i64 0, .int .i64 0, .int .i64 0, .int .i64 0, .int .i64 0, .int .i64 0, .int .i64 0, .int .i64 0, .int .i64 0] t frozen
      | o => o) }
theorem lv_met (os : Os) (args : Array Value) : laidMet Tryd.prog [lvTab] ((lvWorld os).forCall (fun _ _ => 0) ⟨#[], args, []⟩).memory :=
  laidMet_of_run' 8 (by kernel_rfl) (by kernel_rfl)
theorem lv_metS (os : Os) (args : Array Value) : laidMetH Tryd.prog [lvTab] ((lvWorld os).forCall (fun _ _ => 0) ⟨#[], args, []⟩).memory :=
  laidMetH_of_parts (by rw [show ([lvTab].filter fun x => x.2.handleName?.isNone) = [lvTab] by kernel_rfl]; exact lv_met os args) (by kernel_rfl)
end Go.Proofs.YtihaajcmephlmaaDoor
namespace Go.Proofs.YtihaajcmephlmaaDoor
open Go.RowKit

/-- A struct of two slices that reads as a play. -/
def LassoAt (w : World) (v : Value) (X Y : List Int) : Prop :=
  ∃ ax ay cx cy, v = .agg #[.slice ax X.length cx, .slice ay Y.length cy] ∧ IntsAt w ax X ∧ IntsAt w ay Y
theorem LassoAt.below {w w' : World} {v : Value} {X Y : List Int} (h : LassoAt w v X Y) (hb : Below w.heap.size w w') : LassoAt w' v X Y := by
  obtain ⟨ax, ay, cx, cy, hv, h1, h2⟩ := h
  exact ⟨ax, ay, cx, cy, hv, h1.below hb, h2.below hb⟩

/-- The struct v owns a play. -/
def OwnLasso (w : World) (B D : Nat) (v : Value) (X Y : List Int) : Prop :=
  ∃ vx vy, v = .agg #[vx, vy] ∧ OwnInts w B D vx X ∧ OwnInts w B D vy Y ∧ ∀ g, vx.ownBlock = some g → vy.ownBlock ≠ some g

section
variable {w w' : World} {B B' D : Nat} {v : Value} {X Y : List Int}
theorem OwnLasso.at (h : OwnLasso w B D v X Y) : LassoAt w v X Y := by
  obtain ⟨vx, vy, rfl, h1, h2, _⟩ := h
  obtain ⟨a, c, rfl, hi, _⟩ := h1.shape
  obtain ⟨b, d, rfl, hj, _⟩ := h2.shape
  exact ⟨_, _, _, _, rfl, hi, hj⟩
theorem OwnLasso.only {S : Nat → Prop} (h : OwnLasso w B D v X Y) (hk : Only S w w') (hs : ∀ g, B ≤ g → g < D → ¬ S g) : OwnLasso w' B D v X Y := by
  obtain ⟨vx, vy, hv, h1, h2, h3⟩ := h
  exact ⟨vx, vy, hv, h1.only hk (fun g hg => hs g (h1.own.lt g hg).1 (h1.top g hg)), h2.only hk (fun g hg => hs g (h2.own.lt g hg).1 (h2.top g hg)), h3⟩
theorem OwnLasso.below (h : OwnLasso w B D v X Y) (hb : Below w.heap.size w w') : OwnLasso w' B D v X Y := by
  obtain ⟨vx, vy, hv, h1, h2, h3⟩ := h
  exact ⟨vx, vy, hv, h1.below hb, h2.below hb, h3⟩
theorem OwnLasso.base (h : OwnLasso w B D v X Y) (hB : B' ≤ B) : OwnLasso w B' D v X Y := by
  obtain ⟨vx, vy, hv, h1, h2, h3⟩ := h
  exact ⟨vx, vy, hv, h1.base hB, h2.base hB, h3⟩
theorem OwnLasso.retop (h : OwnLasso w B D v X Y) : OwnLasso w B w.heap.size v X Y := by
  obtain ⟨vx, vy, hv, h1, h2, h3⟩ := h
  exact ⟨vx, vy, hv, h1.retop, h2.retop, h3⟩
theorem OwnLasso.zero (w : World) (B D : Nat) : OwnLasso w B D (.agg #[.slice none 0 0, .slice none 0 0]) [] [] :=
  ⟨_, _, rfl, OwnInts.nil _ _ _, OwnInts.nil _ _ _, fun g hg => by simp [Value.ownBlock] at hg⟩
theorem OwnLasso.shape (h : OwnLasso w B D v X Y) : ∃ a0 c0 a1 c1, v = .agg #[.slice a0 X.length c0, .slice a1 Y.length c1] := by
  obtain ⟨ax, ay, cx, cy, hv, _⟩ := h.at
  exact ⟨_, _, _, _, hv⟩
/-- Two slices of numbers of one's own, one made behind the other. -/
theorem OwnLasso.of_parts {vx vy : Value} {M : Nat} (h : OwnInts w B M vx X) (hp : OwnInts w M D vy Y) (hBM : B ≤ M) (hMD : M ≤ D) : OwnLasso w B D (.agg #[vx, vy]) X Y :=
  ⟨_, _, rfl, ⟨h.own, fun g hg => by have := h.top g hg; omega, h.len, h.fits⟩, hp.base hBM, fun g hg hh => by
    have := h.top g hg
    have := (hp.own.lt g hh).1
    omega⟩
end

end Go.Proofs.YtihaajcmephlmaaDoor
namespace Go.Proofs.YtihaajcmephlmaaDoor
section
section
section
open Go.ChangeShapes Go.WideShapes Go.ChangeAt Go.RowKit Go.Deep

theorem cells_int : Tryd.prog.cellsOf 2 = 1 := by kernel_rfl
theorem cells_ints : Tryd.prog.cellsOf 22 = 1 := by kernel_rfl
theorem bytes_int : Tryd.prog.bytesOf 2 = 8 := by kernel_rfl
theorem bytes_ints : Tryd.prog.bytesOf 22 = 24 := by kernel_rfl

theorem fits_of_wf {n : Int} (h : (Lit.int .i64 n).wf = true) : Fits n := by
  have h1 : IntKind.i64.min = -9223372036854775808 := rfl
  have h2 : IntKind.i64.max = 9223372036854775807 := rfl
  simp only [Lit.wf, Bool.and_eq_true, decide_eq_true_eq] at h
  unfold Fits
  omega

theorem mem_weightsAll {H : Type} {P : Program} {e : TypeId} {d : DataW H} {n : Nat} : ∀ {l : List (DataW H)}, d ∈ l → n ∈ d.weights P e → n ∈ DataW.weightsAll P e l
  | [], h, _ => by cases h
  | x :: r, h, hn => by
    simp only [DataW.weightsAll, List.mem_append]
    rcases List.mem_cons.1 h with rfl | h
    · exact Or.inl hn
    · exact Or.inr (mem_weightsAll h hn)

section
variable {H : Type} {enc : TypeId × Value → H} {W : World}

theorem nil_ints (W : World) : IntsAt W none [] := ⟨by simp, fun k hk => absurd hk (by simp), fun h => absurd h (by simp)⟩

/-- One slice of numbers: its cells, its length, its bounds. -/
theorem ints_mk {a : Addr} {L cap : Nat} {Z : List Int} (hl : L ≤ cap) (hz : Z.length = cap) (hc : ∀ i, i < cap → W.cell? (a.add i) = some (.int .i64 (Z.getD i 0))) (hw : ∀ n ∈ Z, (Lit.int .i64 n).wf = true) (hb : cap * 8 ≤ reachBytes) :
    (Z.take L).length = L ∧ IntsAt W (some a) (Z.take L) := by
  have hlen : (Z.take L).length = L := by simp; omega
  have hnth : ∀ k, k < L → nth (Z.take L) k = Z.getD k 0 := fun k hk => by simp [nth, List.getD, hk]
  refine ⟨hlen, by rw [hlen]; have := reachBytes_lt; omega, fun k hk => ?_, fun h0 => ?_⟩
  · rw [hlen] at hk
    rw [hnth k hk]
    refine fits_of_wf (hw _ ?_)
    rw [show Z.getD k 0 = Z[k]'(by omega) from by simp [List.getD, show k < Z.length from by omega]]
    exact List.getElem_mem _
  · rw [hlen] at h0
    obtain ⟨b, off, spot⟩ := a
    have hs : spot = none := by simpa [Addr.add] using World.cell?_spot (hc 0 (by omega))
    subst hs
    refine ⟨b, off, rfl, fun k hk => ?_⟩
    rw [hlen] at hk
    have h := hc k (by omega)
    rw [hnth k hk, ← add_plain]
    exact h

theorem ints_of {fuel : Nat} {v : Value} {y : DataW H × List MemPlace} (h : DataW.trod enc Tryd.prog W 0 (fun _ => true) true fuel 22 [v] = some y) (hw : ∀ n ∈ y.1.weights Tryd.prog 22, n ≤ reachBytes) :
    ∃ a zs cap, v = .slice a zs.length cap ∧ IntsAt W a zs := by
  rcases open_ints Tryd.underlying22 Tryd.underlying2 cells_int h with ⟨hcs, _⟩ | ⟨a, len, cap, zs, hcs, _, hl, hm, hz, hx, hcell, hwz⟩
  · simp only [List.cons.injEq, and_true] at hcs
    exact ⟨none, [], 0, hcs, nil_ints W⟩
  · simp only [List.cons.injEq, and_true] at hcs
    simp only [if_true] at hz
    subst hx
    have hb := hw ((lits (H := H) .i64 (zs.take len)).length * 8 + (lits (H := H) .i64 (zs.drop len)).length * 8) (by simp [DataW.weights, Tryd.underlying22, bytes_int, Nat.add_mul])
    simp only [lits, List.length_map, List.length_take, List.length_drop] at hb
    obtain ⟨h1, h2⟩ := ints_mk hl hz (fun i hi => hcell i (by omega)) hwz (by omega)
    exact ⟨some a, _, cap, by rw [hcs, h1], h2⟩

theorem rows_of {fuel : Nat} {v : Value} {y : DataW H × List MemPlace} (h : DataW.trod enc Tryd.prog W 0 (fun _ => true) true fuel 23 [v] = some y) (hw : ∀ n ∈ y.1.weights Tryd.prog 23, n ≤ reachBytes) :
    ∃ a A C zss cap, v = .slice a zss.length cap ∧ RowsAt W a A C zss := by
  rcases open_int_rows Tryd.underlying23 Tryd.underlying22 Tryd.underlying2 cells_ints cells_int h with ⟨hcs, _⟩ | ⟨a, len, cap, A, L, C, Z, hcs, _, hl, hm, hx, hcell⟩
  · simp only [List.cons.injEq, and_true] at hcs
    exact ⟨none, fun _ => none, fun _ => 0, [], 0, hcs, by simp, fun h => absurd h (by simp), fun k hk => absurd hk (by simp)⟩
  · simp only [List.cons.injEq, and_true] at hcs
    subst hx
    have hlen : ((List.range len).map fun r => (Z r).take (L r)).length = len := by simp
    have hrow : ∀ k, k < len → row ((List.range len).map fun r => (Z r).take (L r)) k = (Z k).take (L k) := fun k hk => by simp [row, hk]
    have hb : len ≤ 17592186044416 := by
      have := hw ((((List.range len).map fun r => intRow (H := H) .i64 (A r) (L r) (Z r)).length + ((List.range (cap - len)).map fun j => intRow (H := H) .i64 (A (len + j)) (L (len + j)) (Z (len + j))).length) * 24) (by simp [DataW.weights, Tryd.underlying23, bytes_ints])
      simp only [List.length_map, List.length_range] at this
      have := reachBytes_lt
      omega
    have hrb : ∀ r, r < len → ∀ ad, A r = some ad → C r * 8 ≤ reachBytes := fun r hr ad had => by
      have hc := hcell r (by omega)
      have := hw (C r * 8) (by
        simp only [DataW.weights, Tryd.underlying23, List.mem_cons, List.mem_append]
        refine Or.inr (Or.inl (mem_weightsAll (d := intRow (H := H) .i64 (A r) (L r) (Z r)) (List.mem_map.2 ⟨r, List.mem_range.2 hr, rfl⟩) ?_))
        have hcl := hc.2.1
        have hzl := hc.2.2.2.1
        have e : min (L r) (Z r).length + ((Z r).length - L r) = C r := by omega
        simp [intRow, had, DataW.weights, Tryd.underlying22, bytes_int, lits, e])
      exact this
    have hrows : ∀ k, k < len → ((Z k).take (L k)).length = L k ∧ IntsAt W (A k) ((Z k).take (L k)) := fun k hk => by
      obtain ⟨_, c1, c2, c3, c4, c5, c6⟩ := hcell k (by omega)
      cases hA : A k with
      | none =>
        have h0 := c5 hA
        have hz0 : Z k = [] := List.length_eq_zero_iff.1 (by omega)
        rw [hz0]
        exact ⟨by simp; omega, by simpa using nil_ints W⟩
      | some ad =>
        exact ints_mk c1 c3 (fun i hi => (c6 ad hA).2 i hi) c4 (hrb k hk ad hA)
    refine ⟨some a, A, C, (List.range len).map fun r => (Z r).take (L r), cap, by rw [hcs, hlen], by rw [hlen]; exact hb, fun h0 => ?_, fun k hk => ?_⟩
    · rw [hlen] at h0
      obtain ⟨b, off, spot⟩ := a
      have hs : spot = none := by simpa [Addr.add] using World.cell?_spot (hcell 0 (by omega)).1
      subst hs
      refine ⟨b, off, rfl, fun k hk => ?_⟩
      rw [hlen] at hk
      have hc := (hcell k (by omega)).1
      rw [hrow k hk, (hrows k hk).1, ← add_plain]
      exact hc
    · rw [hlen] at hk
      rw [hrow k hk]
      exact (hrows k hk).2

end
end

section
open Go.ChangeShapes Go.WideShapes Go.ChangeAt Go.RowKit Go.Deep

end

section
open Go.RowKit Go.ChangeShapes Go.Joins Go.WideShapes

set_option maxRecDepth 100000 in
theorem game_of {H : Type} {enc : TypeId × Value → H} {W : World} {v : Value} {d : DataW H} {p : List MemPlace} {r : Reach} {b0 : Nat} (hv : Value.okWide Tryd.prog W r b0 27 v) (h : DataW.Trod enc Tryd.prog W 0 (fun _ => true) true 27 v d p) (hw : ∀ n ∈ d.weights Tryd.prog 27, n ≤ reachBytes) :
    ∃ O zss P, GameAt W v O zss P := by
  obtain ⟨cs, rfl, hsz⟩ := okWide_struct Tryd.underlying27 hv
  have hC : Tryd.prog.cellsOf 27 = 3 := by kernel_rfl
  have hA : Tryd.prog.cellsOf 25 = 2 := by kernel_rfl
  have hS : Tryd.prog.cellsOf 22 = 1 := by kernel_rfl
  have hR : Tryd.prog.cellsOf 23 = 1 := by kernel_rfl
  obtain ⟨c0, c1, c2, rfl⟩ := array3 (hsz.trans hC)
  obtain ⟨fuel, hf⟩ := h
  obtain ⟨y0, y1, n, hx, _, h0, h1⟩ := trod_struct2 Tryd.underlying27 hf
  obtain ⟨z0, z1, m, hx', _, g0, g1⟩ := trod_struct2 Tryd.underlying25 h0
  simp only [Prod.mk.injEq] at hx
  obtain ⟨rfl, rfl⟩ := hx
  subst hx'
  have k0 : DataW.trod enc Tryd.prog W 0 (fun _ => true) true m 22 [c0] = some z0 := by simpa [Value.cells, hA, hS] using g0
  have k1 : DataW.trod enc Tryd.prog W 0 (fun _ => true) true m 23 [c1] = some z1 := by simpa [Value.cells, hA, hR] using g1
  have k2 : DataW.trod enc Tryd.prog W 0 (fun _ => true) true n 22 [c2] = some y1 := by simpa [Value.cells, hS] using h1
  have hw0 : ∀ n ∈ z0.1.weights Tryd.prog 22, n ≤ reachBytes := fun n hn => hw n (by simp [DataW.weights, Tryd.underlying27, Tryd.underlying25, DataW.weightsEach, hn])
  have hw1 : ∀ n ∈ z1.1.weights Tryd.prog 23, n ≤ reachBytes := fun n hn => hw n (by simp [DataW.weights, Tryd.underlying27, Tryd.underlying25, DataW.weightsEach, hn])
  have hw2 : ∀ n ∈ y1.1.weights Tryd.prog 22, n ≤ reachBytes := fun n hn => hw n (by simp [DataW.weights, Tryd.underlying27, DataW.weightsEach, hn])
  obtain ⟨ao, O, co, rfl, hO⟩ := ints_of k0 hw0
  obtain ⟨an, A, C, zss, cn, rfl, hN⟩ := rows_of k1 hw1
  obtain ⟨ap, P, cp, rfl, hP⟩ := ints_of k2 hw2
  exact ⟨O, zss, P, ao, an, ap, co, cn, cp, A, C, rfl, hO, hN, hP⟩
end
end

section
open Go.ChangeShapes Go.WideShapes Go.ChangeAt Go.RowKit Go.Deep

end
end

section
open Go.ChangeShapes Go.WideShapes Go.ChangeAt Go.RowKit Go.Deep

end

section
open Go.ChangeShapes Go.WideShapes Go.ChangeAt Go.RowKit Go.Deep

end

end Go.Proofs.YtihaajcmephlmaaDoor
namespace Go.Proofs.YtihaajcmephlmaaDoor
section
open Go.ChangeShapes Go.WideShapes Go.ChangeAt Go.RowKit Go.Deep

set_option maxRecDepth 100000 in
theorem tab_of {H : Type} {enc : TypeId × Value → H} {W : World} {v : Value} {d : DataW H} {p : List MemPlace} {r : Reach} {b0 : Nat} (hv : Value.okWide Tryd.prog W r b0 23 v) (h : DataW.Trod enc Tryd.prog W 0 (fun _ => true) true 23 v d p) (hw : ∀ n ∈ d.weights Tryd.prog 23, n ≤ reachBytes) :
    ∃ zss, RowsV W v zss := by
  obtain ⟨a, len, cap, rfl⟩ := okWide_slice Tryd.underlying23 hv
  obtain ⟨fuel, hf⟩ := h
  obtain ⟨an, A, C, zss, cn, hv', hN⟩ := rows_of (y := (d, p)) (by simpa [Value.cells] using hf) hw
  exact ⟨zss, an, cn, A, C, hv', hN⟩
end
end Go.Proofs.YtihaajcmephlmaaDoor
