import Derived.Shelf.SlGeneric
import Derived.Shelf.SlicesE.Compact
import Derived.Ground.SlgnProg
import Derived.Test.YtglbkbiphcgidaaDoorProg
import Derived.RangeFuncBox
import Derived.RangeFuncLeaves
import Derived.RangeFuncBound
import Derived.Shelf.Abstract
import Derived.WalkKit
import Derived.OwnWalkIn
import Derived.TacticsInMore
import Derived.LoopNIn
import Derived.LoopIn
import Derived.Maps.AppendAt
import Derived.Lib.OwnBridge
import Derived.Deep.RegionHeld3
import Derived.Test.YtglbkbiphcgidaaDoorPm00
import Derived.Test.YtglbkbiphcgidaaDoorPm02
import Derived.Test.YtglbkbiphcgidaaDoorPm01
import Derived.Test.YtglbkbiphcgidaaDoorPm04
import Derived.Test.YtglbkbiphcgidaaDoorPm05
import Derived.Test.YtglbkbiphcgidaaDoorPm08
import Derived.Test.YtglbkbiphcgidaaDoorPm21
namespace Go.Proofs.YtglbkbiphcgidaaDoor
section
open Go.RowKit
def nY (zs : List Int) : Nat → Int
 | 0 => nth zs 0
 | k + 1 => if nY zs k < nth zs (k + 1) then nth zs (k + 1) else nY zs k
def nZ (zs : List Int) : Nat → Int
 | 0 => nth zs 0
 | k + 1 => if nth zs (k + 1) < nZ zs k then nth zs (k + 1) else nZ zs k
theorem acD {zs : List Int} : ∀ {k j : Nat}, j ≤ k → nth zs j ≤ nY zs k
 | 0, j, h => by have : j = 0 := by omega
                 subst this; exact Int.le_refl _
 | k + 1, j, h => by
   rw [nY]
   by_cases e : j = k + 1
   · subst e; split <;> omega
   · have := acD (zs := zs) (k := k) (j := j) (by omega); split <;> omega
theorem acE {zs : List Int} : ∀ k, ∃ j, j ≤ k ∧ nth zs j = nY zs k
 | 0 => ⟨0, Nat.le_refl _, rfl⟩
 | k + 1 => by
   rw [nY]
   obtain ⟨j, hj, e⟩ := acE (zs := zs) k
   by_cases h : nY zs k ≤ nth zs (k + 1)
   · exact ⟨k + 1, Nat.le_refl _, by split <;> omega⟩
   · exact ⟨j, by omega, by split <;> omega⟩
theorem acF {zs : List Int} : ∀ {k j : Nat}, j ≤ k → nZ zs k ≤ nth zs j
 | 0, j, h => by have : j = 0 := by omega
                 subst this; exact Int.le_refl _
 | k + 1, j, h => by
   rw [nZ]
   by_cases e : j = k + 1
   · subst e; split <;> omega
   · have := acF (zs := zs) (k := k) (j := j) (by omega); split <;> omega
theorem acG {zs : List Int} : ∀ k, ∃ j, j ≤ k ∧ nth zs j = nZ zs k
 | 0 => ⟨0, Nat.le_refl _, rfl⟩
 | k + 1 => by
   rw [nZ]
   obtain ⟨j, hj, e⟩ := acG (zs := zs) k
   by_cases h : nth zs (k + 1) ≤ nZ zs k
   · exact ⟨k + 1, Nat.le_refl _, by split <;> omega⟩
   · exact ⟨j, by omega, by split <;> omega⟩
set_option maxHeartbeats 2000000 in
set_option maxRecDepth 100000 in
theorem aiN {w : World} {a : Option Addr} {zs : List Int} {m : Int} (cap : Nat) (hm : nY zs (zs.length - 1) = m) (h : aV w a zs) (hz : 0 < zs.length) :
 Calls Tryd.prog 136 #[.slice a zs.length cap] w fun e w' => e = .returned (.int .i64 m) ∧ w = w' := by
 have hlen := h.len
 obtain ⟨b, off, ha, hc⟩ := h.cell hz
 subst ha
 have h0 := hc 0 hz
 rw [Nat.add_zero] at h0
 have HC := Lib.hid hc
 have HM := Lib.hid hm
 obtain ⟨n, hn⟩ : ∃ n, n = zs.length := ⟨_, rfl⟩
 rw [← hn] at hlen hz ⊢
 have HN := Lib.hid hn
 have h1 : ¬ (n : Int) < 1 := by omega
 have h2 : (0 : Int) < n := by omega
 clear hc hm h hn
 go_enter Tryd.func136, Tryd.ntmps136
 go_wp2
 go_loopw [3, 4] (fun mv iv wr => ∃ k : Nat, k + 1 ≤ n ∧ iv = .int .i64 ((k : Int) + 1) ∧ mv = .int .i64 (nY zs k) ∧ wr = w) (fun _ iv _ => n + 1 - (intOf iv).toNat)
 case atStart => exact ⟨0, by omega, rfl, rfl, rfl⟩
 case round =>
  obtain ⟨k, hk, rfl, rfl, rfl⟩ := hrel
  by_cases hlt : k + 1 < n
  · have hi1 : (k : Int) + 1 < n := by omega
    have hi0 : (0 : Int) ≤ (k : Int) + 1 := by omega
    have hw : IntKind.i64.wrap ((k : Int) + 1 + 1) = (k : Int) + 1 + 1 := IntWalk.i64_in _ (by omega)
    have ht : ((k : Int) + 1).toNat = k + 1 := by omega
    have c1 := HC.out (k + 1) (by have := HN.out; omega)
    have HS : Hid (nY zs (k + 1) = if nY zs k < nth zs (k + 1) then nth zs (k + 1) else nY zs k) := rfl
    obtain ⟨q, hq⟩ : ∃ q, q = nY zs k := ⟨_, rfl⟩
    obtain ⟨x, hx⟩ : ∃ x, x = nth zs (k + 1) := ⟨_, rfl⟩
    rw [← hq, ← hx] at HS
    rw [← hx] at c1
    rw [← hq]
    clear hq hx
    go_wp2
    go_roundw
    case rel => exact ⟨k + 1, by omega, by go_num, by rw [HS.out]; first | done | (congr 1; split <;> omega), by first | rfl | trivial⟩
    case measure => simp [intOf]; omega
  · have hi1 : ¬ (k : Int) + 1 < n := by omega
    have HE : Hid (nY zs k = m) := by rw [← HM.out, show zs.length - 1 = k by have := HN.out; omega]; rfl
    go_wp2
    go_ret
    exact ⟨kG HE.out, rfl⟩
set_option maxHeartbeats 2000000 in
set_option maxRecDepth 100000 in
theorem aiO {w : World} {a : Option Addr} {zs : List Int} {m : Int} (cap : Nat) (hm : nZ zs (zs.length - 1) = m) (h : aV w a zs) (hz : 0 < zs.length) :
 Calls Tryd.prog 135 #[.slice a zs.length cap] w fun e w' => e = .returned (.int .i64 m) ∧ w = w' := by
 have hlen := h.len
 obtain ⟨b, off, ha, hc⟩ := h.cell hz
 subst ha
 have h0 := hc 0 hz
 rw [Nat.add_zero] at h0
 have HC := Lib.hid hc
 have HM := Lib.hid hm
 obtain ⟨n, hn⟩ : ∃ n, n = zs.length := ⟨_, rfl⟩
 rw [← hn] at hlen hz ⊢
 have HN := Lib.hid hn
 have h1 : ¬ (n : Int) < 1 := by omega
 have h2 : (0 : Int) < n := by omega
 clear hc hm h hn
 go_enter Tryd.func135, Tryd.ntmps135
 go_wp2
 go_loopw [3, 4] (fun mv iv wr => ∃ k : Nat, k + 1 ≤ n ∧ iv = .int .i64 ((k : Int) + 1) ∧ mv = .int .i64 (nZ zs k) ∧ wr = w) (fun _ iv _ => n + 1 - (intOf iv).toNat)
 case atStart => exact ⟨0, by omega, rfl, rfl, rfl⟩
 case round =>
  obtain ⟨k, hk, rfl, rfl, rfl⟩ := hrel
  by_cases hlt : k + 1 < n
  · have hi1 : (k : Int) + 1 < n := by omega
    have hi0 : (0 : Int) ≤ (k : Int) + 1 := by omega
    have hw : IntKind.i64.wrap ((k : Int) + 1 + 1) = (k : Int) + 1 + 1 := IntWalk.i64_in _ (by omega)
    have ht : ((k : Int) + 1).toNat = k + 1 := by omega
    have c1 := HC.out (k + 1) (by have := HN.out; omega)
    have HS : Hid (nZ zs (k + 1) = if nth zs (k + 1) < nZ zs k then nth zs (k + 1) else nZ zs k) := rfl
    obtain ⟨q, hq⟩ : ∃ q, q = nZ zs k := ⟨_, rfl⟩
    obtain ⟨x, hx⟩ : ∃ x, x = nth zs (k + 1) := ⟨_, rfl⟩
    rw [← hq, ← hx] at HS
    rw [← hx] at c1
    rw [← hq]
    clear hq hx
    go_wp2
    go_roundw
    case rel => exact ⟨k + 1, by omega, by go_num, by rw [HS.out]; first | done | (congr 1; split <;> omega), by first | rfl | trivial⟩
    case measure => simp [intOf]; omega
  · have hi1 : ¬ (k : Int) + 1 < n := by omega
    have HE : Hid (nZ zs k = m) := by rw [← HM.out, show zs.length - 1 = k by have := HN.out; omega]; rfl
    go_wp2
    go_ret
    exact ⟨kG HE.out, rfl⟩
end
section
open Go.Shelf
end
section
open Go.RowKit Go.Shelf Go.Sort
attribute [local go_sem] Oper.semAt_some
end
end Go.Proofs.YtglbkbiphcgidaaDoor
namespace Go.Proofs.YtglbkbiphcgidaaDoor
open Go.RowKit
end Go.Proofs.YtglbkbiphcgidaaDoor
namespace Go.Proofs.YtglbkbiphcgidaaDoor
open Go.RowKit
end Go.Proofs.YtglbkbiphcgidaaDoor
namespace Go.Proofs.YtglbkbiphcgidaaDoor
section
open Go.RowKit
theorem acH {w : World} {va : Value} {O : List Int} {ah : List (List Int)} (h : gZ w va O ah) :
 Calls Tryd.prog 63 #[va] w fun e w' => e = .returned (.int .i64 O.length) ∧ Below w.heap.size w w' := by
 obtain ⟨ao, an, co, cn, A, C, rfl, h1, h2⟩ := h
 exact (rG ao an O.length ah.length co cn w h1.len).mono fun e w' ⟨he, hw⟩ => ⟨he, hw ▸ aA _ _⟩
theorem aiP {P : List Int} (hz : 0 < P.length) : 0 ≤ nZ P (P.length - 1) ↔ ∀ x ∈ P, 0 ≤ x := by
 constructor
 · intro h x hx
   obtain ⟨k, hk, rfl⟩ := rF.1 hx
   have := acF (zs := P) (k := P.length - 1) (j := k) (by omega)
   omega
 · intro h
   obtain ⟨j, hj, e⟩ := acG (zs := P) (P.length - 1)
   rw [← e]; exact h _ (jo (by omega))
theorem aiQ {P : List Int} (hz : 0 < P.length) : nY P (P.length - 1) ≤ 40 ↔ ∀ x ∈ P, x ≤ 40 := by
 constructor
 · intro h x hx
   obtain ⟨k, hk, rfl⟩ := rF.1 hx
   have := acD (zs := P) (k := P.length - 1) (j := k) (by omega)
   omega
 · intro h
   obtain ⟨j, hj, e⟩ := acE (zs := P) (P.length - 1)
   rw [← e]; exact h _ (jo (by omega))
set_option maxHeartbeats 4000000 in
set_option maxRecDepth 100000 in
theorem acI {w : World} {v : Value} {O : List Int} {ah : List (List Int)} {P : List Int} {r : Bool} (hr : fZ O ah P = r) (h : gX w v O ah P) :
 Calls Tryd.prog 106 #[v] w fun e w' => e = .returned (.bool r) ∧ Below w.heap.size w w' := by
 obtain ⟨ao, an, ap, co, cn, cp, A, C, rfl, h1, h2, h3⟩ := h
 have CP := h1.len
 have sW := h3.len
 have HP := Lib.hid h3
 obtain ⟨w1, hw1⟩ : ∃ y, y = w.alloc (.cells #[.slice ao O.length co, .slice an ah.length cn, .slice ap P.length cp] 35) := ⟨_, rfl⟩
 have HW1 := Lib.hid hw1
 have B1 : Hid (Below w.heap.size w w1) := by rw [hw1]; exact aA _ _
 have T1 : Hid (aT w1 w.heap.size 35 (.slice ao O.length co) (.slice an ah.length cn) (.slice ap P.length cp)) := by rw [hw1]; exact aT.new _ _ _ _ _
 have HA : Hid (gZ w (.agg #[.slice ao O.length co, .slice an ah.length cn]) O ah) := ⟨_, _, _, _, _, _, rfl, h1, h2⟩
 clear h1 h2 h3 hw1
 have t0 := T1.out.c0
 have t1 := T1.out.c1
 have t2 := T1.out.c2
 have hd1 : Below w1.heap.size w1 w1.drew := (Below.refl _ _).drew
 have Cc := Lib.hid (B1.out.trans (hd1.mono B1.out.size))
 have T1d := Lib.hid (T1.out.below hd1)
 clear hd1
 cases hA : gW O ah with
 | false =>
   have HE : Hid (r = false) := by rw [← hr]; simp [fZ, hA, Hid]
   have HC := Lib.hid (YR hA (HA.out.below Cc.out))
   clear hA hr
   go_enter Tryd.func106, Tryd.ntmps106
   go_wp2_with fail
   rw [← HW1.out]
   first
    | go_region_law (first
     | (go_simp; go_at_call 134; refine HC.out.mono ?_; rintro e w2 ⟨rfl, hb⟩; have B2 := Lib.hid (Cc.out.trans (hb.mono Cc.out.size)); clear hb))
    | fail
   all_goals (
    go_wp2
    go_ret
    exact ⟨by rw [HE.out]; rfl, B2.out⟩)
 | true =>
   have oZ := Lib.hid (YO.1 hA)
   have HC := Lib.hid (YR hA (HA.out.below Cc.out))
   by_cases hl : P.length = O.length
   · have hn0 : 0 < P.length := by have := oZ.out.1; omega
     have hne : ((P.length : Int) != (O.length : Int)) = false := by simp; omega
     have HR : Hid (zL P = r) := by rw [← hr]; simp [fZ, hA, hl, Hid]
     have hmn := aiP hn0
     have hmx := aiQ hn0
     obtain ⟨mn, XW⟩ : ∃ m, nZ P (P.length - 1) = m := ⟨_, rfl⟩
     obtain ⟨mx, XY⟩ : ∃ m, nY P (P.length - 1) = m := ⟨_, rfl⟩
     rw [XW] at hmn
     rw [XY] at hmx
     have HMN := Lib.hid hmn
     have HMX := Lib.hid hmx
     have aiR := Lib.hid XW
     have aiS := Lib.hid XY
     have HL := Lib.hid hl
     have HN0 := Lib.hid hn0
     clear hA hr hl hmn hmx XW XY hn0
     go_enter Tryd.func106, Tryd.ntmps106
     go_wp2_with fail
     rw [← HW1.out]
     go_region_held3 (fun w' => w'.cell? ⟨w.heap.size, 0, none⟩ = some (.slice ao O.length co) ∧ w'.cell? ⟨w.heap.size, 1, none⟩ = some (.slice an ah.length cn) ∧ w'.cell? ⟨w.heap.size, 2, none⟩ = some (.slice ap P.length cp))
      (first
       | go_keep
       | exact ⟨e0, e1, e2⟩
       | exact ⟨f0, f1, f2⟩)
      (first
       | (go_at_call 134; refine HC.out.mono ?_; rintro e w2 ⟨rfl, hb⟩; have B2 := Lib.hid (Cc.out.trans (hb.mono Cc.out.size)); have T2 := Lib.hid (T1d.out.below hb); have e0 := T2.out.c0; have e1 := T2.out.c1; have e2 := T2.out.c2; clear hb)
       | (go_at_call 63; refine (acH (HA.out.below B2.out)).mono ?_; rintro e w3 ⟨rfl, hb⟩; have B3 := Lib.hid (B2.out.trans (hb.mono B2.out.size)); have T3 := Lib.hid (T2.out.below hb); have f0 := T3.out.c0; have f1 := T3.out.c1; have f2 := T3.out.c2; clear hb))
     all_goals (
      clear e0 e1 e2 t0 t1 t2
      have acJ := Lib.hid (aiO cp aiR.out (HP.out.below B3.out) HN0.out)
      have acK := Lib.hid (fun W hb => aiN (w := W) cp aiS.out (HP.out.below hb) HN0.out)
      go_wp2_with fail
      refine acJ.out.mono ?_
      rintro e w4 ⟨rfl, rfl⟩
      clear acJ
      by_cases h0 : 0 ≤ mn
      · have HE : Hid (decide (mx ≤ 40) = r) := by
         rw [← HR.out]
         unfold zL Hid
         rw [decide_eq_decide]
         constructor
         · intro h x hx; exact ⟨HMN.out.1 h0 x hx, HMX.out.1 h x hx⟩
         · intro h; exact HMX.out.2 fun x hx => (h x hx).2
        go_wp2_with fail
        refine (acK.out _ B3.out).mono ?_
        rintro e w5 ⟨rfl, rfl⟩
        clear acK
        go_wp2
        go_ret
        exact ⟨dY HE.out, B3.out⟩
      · have HE : Hid (r = false) := by
         rw [← HR.out]
         unfold zL Hid
         refine decide_eq_false fun h => h0 (HMN.out.2 fun x hx => (h x hx).1)
        have h1 : ¬ 0 ≤ mn := h0
        go_wp2
        go_ret
        exact ⟨by rw [HE.out]; rfl, B3.out⟩)
   · have hne : ((P.length : Int) != (O.length : Int)) = true := by simp; omega
     have HE : Hid (r = false) := by rw [← hr]; simp [fZ, hl, Hid]
     clear hA hr hl
     go_enter Tryd.func106, Tryd.ntmps106
     go_wp2_with fail
     rw [← HW1.out]
     go_region_held3 (fun w' => w'.cell? ⟨w.heap.size, 0, none⟩ = some (.slice ao O.length co) ∧ w'.cell? ⟨w.heap.size, 1, none⟩ = some (.slice an ah.length cn) ∧ w'.cell? ⟨w.heap.size, 2, none⟩ = some (.slice ap P.length cp))
      (first
       | go_keep
       | exact ⟨e0, e1, e2⟩
       | exact ⟨f0, f1, f2⟩)
      (first
       | (go_at_call 134; refine HC.out.mono ?_; rintro e w2 ⟨rfl, hb⟩; have B2 := Lib.hid (Cc.out.trans (hb.mono Cc.out.size)); have T2 := Lib.hid (T1d.out.below hb); have e0 := T2.out.c0; have e1 := T2.out.c1; have e2 := T2.out.c2; clear hb)
       | (go_at_call 63; refine (acH (HA.out.below B2.out)).mono ?_; rintro e w3 ⟨rfl, hb⟩; have B3 := Lib.hid (B2.out.trans (hb.mono B2.out.size)); have T3 := Lib.hid (T2.out.below hb); have f0 := T3.out.c0; have f1 := T3.out.c1; have f2 := T3.out.c2; clear hb))
     all_goals (
      clear e0 e1 e2 t0 t1 t2
      go_wp2
      go_ret
      exact ⟨by rw [HE.out]; rfl, B3.out⟩)
end
section
open Go.RowKit
end
section
open Go.RowKit
end
section
open Go.RowKit
end
section
open Go.RowKit
end
end Go.Proofs.YtglbkbiphcgidaaDoor
namespace Go.Proofs.YtglbkbiphcgidaaDoor
section
open Go.RowKit
theorem aiT {ah : List (List Int)} {Pk : List Int} : pF ah Pk ah.length = rowsOf ah.length (dG ah Pk) := Nz (by rw [kQ, oV]) fun i hi => by
 rw [kQ] at hi
 rw [Gg hi, vY hi]
 unfold dG
 by_cases h : 0 ≤ nth Pk i
 · rw [if_pos ⟨hi, h⟩, if_pos h]
 · rw [if_neg (fun hh => h hh.2), if_neg h]
set_option linter.unusedSimpArgs false in
set_option maxHeartbeats 8000000 in
set_option maxRecDepth 100000 in
theorem acL {w : World} {v : Value} {O oO P oP Pk : List Int} {ah oN : List (List Int)} {aK : Option Addr} {r : Bool} (cK : Nat) (hr : Af O ah P Pk = oO ∧ Ag O ah P Pk = oN ∧ Ah O ah P Pk = oP ∧ fO O ah P Pk = r) (h : gX w v O ah P) (hK : aV w aK Pk) :
 Calls Tryd.prog 61 #[v, .slice aK Pk.length cK] w (Zn w oO oN oP r) := by
 have fP := Lib.hid h
 have iH := Lib.hid hK
 have hlK := hK.len
 obtain ⟨ao, an, ap, co, cn, cp, A, C, rfl, h1, h2, h3⟩ := h
 have CP := h1.len
 obtain ⟨w1, hw1⟩ : ∃ y, y = (w.alloc (.cells #[.slice ao O.length co, .slice an ah.length cn, .slice ap P.length cp] 35)).alloc (.cells #[.slice none 0 0, .slice none 0 0, .slice none 0 0] 35) := ⟨_, rfl⟩
 have HW1 := Lib.hid hw1
 have B1 : Hid (Below w.heap.size w w1) := by rw [hw1]; exact below2 _ _ _
 have cO : Hid (w1.heap.size = w.heap.size + 1 + 1) := by rw [hw1]; simp [Hid]
 have T1 : Hid (aT w1 w.heap.size 35 (.slice ao O.length co) (.slice an ah.length cn) (.slice ap P.length cp)) := by rw [hw1]; exact (aT.new w _ _ _ _).below (aA _ _)
 have R1 : Hid (aT w1 (w.heap.size + 1) 35 (.slice none 0 0) (.slice none 0 0) (.slice none 0 0)) := by rw [hw1]; exact aT.new2 (by simp) _ _ _ _
 have HAt : Hid (gZ w (.agg #[.slice ao O.length co, .slice an ah.length cn]) O ah) := ⟨_, _, _, _, _, _, rfl, h1, h2⟩
 have rO := Lib.hid h3
 clear hw1 h1 h2 h3 hK
 cases hp : fZ O ah P with
 | false =>
   have HE := Lib.hid (Jl hr (by unfold fO; rw [hp]; rfl))
   have HC := Lib.hid (acI hp (fP.out.below B1.out))
   clear hr hp
   go_enter Tryd.func61, Tryd.ntmps61
   go_wp2_with fail
   rw [← HW1.out]
   refine HC.out.mono ?_
   rintro e w2 ⟨rfl, hb⟩
   have B2 := Lib.hid (B1.out.trans (hb.mono B1.out.size))
   have R2 := Lib.hid (R1.out.below hb)
   have d0 := R2.out.c0
   have d1 := R2.out.c1
   have d2 := R2.out.c2
   have g0 := World.rowIs.frozen R2.out 0
   have g1 := World.rowIs.frozen R2.out 1
   have g2 := World.rowIs.frozen R2.out 2
   clear hb HC
   go_wp2
   exact bodyPost_ret (v := .tuple #[.agg #[.slice none 0 0, .slice none 0 0, .slice none 0 0], .bool false]) (by simp [results, Tryd.results61, go_sem, d0, d1, d2]) rfl
    ⟨_, by rw [HE.out.2.2.2], by rw [HE.out.1, HE.out.2.1, HE.out.2.2.1]; exact eG.zero _ _ _, I8 B2.out (by omega)⟩
 | true =>
   have hpy := iY.1 hp
   have hzl : ah.length = O.length := hpy.1.2.2.1
   have akI : O.length ≤ 256 := hpy.1.2.1
   have HC := Lib.hid (acI hp (fP.out.below B1.out))
   by_cases hl : Pk.length = O.length
   · have HL := Lib.hid hl
     have kL := Lib.hid hzl
     have hln : ((Pk.length : Int) != (O.length : Int)) = false := by rw [hl]; simp
     have HPB := Lib.hid hp
     have HR := Lib.hid hr
     have XP : Hid (0 < O.length) := hpy.1.1
     clear hr hp hl hzl hpy
     go_enter Tryd.func61, Tryd.ntmps61
     go_wp2_with fail
     rw [← HW1.out]
     refine HC.out.mono ?_
     rintro e w2 ⟨rfl, hb⟩
     have B2 := Lib.hid (B1.out.trans (hb.mono B1.out.size))
     have R2 := Lib.hid (R1.out.below hb)
     have T2 := Lib.hid (T1.out.below hb)
     have aiU : Hid (w1.heap.size ≤ w2.heap.size) := hb.size
     have t0 := T2.out.c0
     have t1 := T2.out.c1
     have t2 := T2.out.c2
     clear hb HC
     go_wp2
     clear t0 t1 t2
     go_loopw [23] (fun iv wr => ∃ k : Nat, k ≤ Pk.length ∧ iv = .int .i64 k ∧ Hid (∀ j, j < k → nth Pk j = -1 ∨ nth Pk j ∈ row ah j) ∧ Hid (Below w2.heap.size w2 wr)) (fun iv _ => Pk.length - (intOf iv).toNat)
     case atStart => exact ⟨0, Nat.zero_le _, rfl, fun j hj => absurd hj (Nat.not_lt_zero _), Below.refl _ _⟩
     case round =>
      obtain ⟨k, hk, rfl, HJ, HKB⟩ := hrel
      have BW := Lib.hid (B2.out.trans (HKB.out.mono B2.out.size))
      have TW := Lib.hid (T2.out.below HKB.out)
      have RW := Lib.hid (R2.out.below HKB.out)
      have t0 := TW.out.c0
      have t1 := TW.out.c1
      have t2 := TW.out.c2
      by_cases hlt : k < Pk.length
      · have hi1 : (k : Int) < Pk.length := by omega
        have hk0 : (0 : Int) ≤ (k : Int) := by omega
        obtain ⟨kb, ko, hka, hkc⟩ := (iH.out.below BW.out).cell (by omega)
        have k1 := hkc k hlt
        obtain ⟨u, hu⟩ : ∃ u, u = nth Pk k := ⟨_, rfl⟩
        rw [← hu] at k1
        have HU := Lib.hid hu
        subst hka
        clear hkc hu
        by_cases hm : u = -1
        · subst hm
          have HJ2 : Hid (∀ j, j < k + 1 → nth Pk j = -1 ∨ nth Pk j ∈ row ah j) := fun j hj => by
           by_cases e : j = k
           · rw [e]; exact .inl HU.out.symm
           · exact HJ.out j (by omega)
          clear t0 t1 t2
          go_wp2
          go_roundw
          case rel => exact ⟨k + 1, by omega, by go_num, HJ2, HKB⟩
          case measure => simp [intOf]; omega
        · have hm1 : (u == -1) = false := beq_eq_false_iff_ne.2 hm
          have hm2 : (u != -1) = true := bne_iff_ne.2 hm
          cases hb : hasB (row ah k) u with
          | true =>
            have XZ := Lib.hid (fun (W : World) (hW : Below wr.heap.size wr W) => YW (w := W) (v := k) hb (by have := HL.out; have := kL.out; omega) (HAt.out.below (BW.out.trans (hW.mono BW.out.size))))
            have HJ2 : Hid (∀ j, j < k + 1 → nth Pk j = -1 ∨ nth Pk j ∈ row ah j) := fun j hj => by
             by_cases e : j = k
             · rw [e]; exact .inr (by rw [← HU.out]; exact xK.1 hb)
             · exact HJ.out j (by omega)
            clear hm hb
            go_wp2_with (go_at_call 107; refine (XZ.out _ (Below.refl _ _)).mono ?_; rintro e w5 ⟨rfl, hb5⟩; have K5 := Lib.hid (HKB.out.trans (hb5.mono HKB.out.size)); clear hb5)
            go_roundw
            case rel => exact ⟨k + 1, by omega, by go_num, HJ2, K5⟩
            case measure => simp [intOf]; omega
          | false =>
            have XZ := Lib.hid (fun (W : World) (hW : Below wr.heap.size wr W) => YW (w := W) (v := k) hb (by have := HL.out; have := kL.out; omega) (HAt.out.below (BW.out.trans (hW.mono BW.out.size))))
            have HE := Lib.hid (Jl HR.out (by
             unfold fO
             rw [TR fun hh => ?_]
             · simp
             · rcases hh.2 k hlt with h | h
               · exact hm (HU.out.trans h)
               · rw [← HU.out, ← xK, hb] at h; cases h))
            clear hm hb
            go_wp2_with (go_at_call 107; refine (XZ.out _ (Below.refl _ _)).mono ?_; rintro e w5 ⟨rfl, hb5⟩; have K5 := Lib.hid (BW.out.trans (hb5.mono BW.out.size)); have R5 := Lib.hid (RW.out.below hb5); have d0 := R5.out.c0; have d1 := R5.out.c1; have d2 := R5.out.c2; have g0 := World.rowIs.frozen R5.out 0; have g1 := World.rowIs.frozen R5.out 1; have g2 := World.rowIs.frozen R5.out 2; clear hb5)
            exact bodyPost_ret (v := .tuple #[.agg #[.slice none 0 0, .slice none 0 0, .slice none 0 0], .bool false]) (by simp [results, Tryd.results61, go_sem, d0, d1, d2]) rfl
             ⟨_, by rw [HE.out.2.2.2], by rw [HE.out.1, HE.out.2.1, HE.out.2.2.1]; exact eG.zero _ _ _, I8 K5.out (by omega)⟩
      · have hi1 : ¬ (k : Int) < Pk.length := by omega
        obtain rfl : k = Pk.length := by omega
        have HPk : Hid (tN ah Pk) := ⟨by rw [HL.out, kL.out], fun j hj => HJ.out j hj⟩
        have HE := Lib.hid (Jm HR.out (by unfold fO; rw [HPB.out, tV.2 HPk.out]; rfl))
        have aiV : Hid (∀ j, j < Pk.length → nth Pk j = -1 ∨ 0 ≤ nth Pk j) := fun j hj => by
         rcases HJ.out j hj with h | h
         · exact .inl h
         · right
           have hA := (iY.1 HPB.out).1
           obtain ⟨y, hy, _⟩ := (jL hA).eu j (by have := HL.out; have := kL.out; omega) _ h
           omega
        clear t0 t1 t2
        go_wp2
        have aC : Hid (∀ W', Below wr.heap.size wr W' → W'.cell? ⟨w.heap.size, 0, none⟩ = some (.slice ao O.length co) ∧ W'.cell? ⟨w.heap.size, 1, none⟩ = some (.slice an ah.length cn) ∧ W'.cell? ⟨w.heap.size, 2, none⟩ = some (.slice ap P.length cp)) := fun W' hb => by
         have m := TW.out.below hb
         exact ⟨m.c0, m.c1, m.c2⟩
        have Kd : Hid (Below wr.heap.size wr wr.drew) := (Below.refl _ _).drew
        refine jB (S := (fun W' => W'.cell? ⟨w.heap.size, 0, none⟩ = some (.slice ao O.length co) ∧ W'.cell? ⟨w.heap.size, 1, none⟩ = some (.slice an ah.length cn) ∧ W'.cell? ⟨w.heap.size, 2, none⟩ = some (.slice ap P.length cp))) (m := 8) (by kernel_rfl) (aC.out _ Kd.out) (fun hHd => ?_)
        refine aB (i := 0) (v := ?rW) rfl (by kernel_rfl) (by decide) (by kernel_rfl) (by kernel_rfl) (by kernel_rfl) (fun _ _ _ h => h) (Or.inl ⟨by rfl, ?hm1⟩) (by assumption) ?_
        case hm1 => (intro w hSw; (try dsimp only at hSw); go_simp; first | done | with_reducible rfl)
        try simp only [Act.put, g1, g2, g3]
        refine aB (i := 1) (v := ?rZ) rfl (by kernel_rfl) (by decide) (by kernel_rfl) (by kernel_rfl) (by kernel_rfl) (fun _ _ _ h => h) (Or.inl ⟨by rfl, ?hm2⟩) (by assumption) ?_
        case hm2 => (intro w hSw; (try dsimp only at hSw); go_simp; first | done | with_reducible rfl)
        try simp only [Act.put, g1, g2, g3]
        refine aB (i := 2) (v := ?su) rfl (by kernel_rfl) (by decide) (by kernel_rfl) (by kernel_rfl) (by kernel_rfl) (fun _ _ _ h => h) (Or.inl ⟨by rfl, ?iR⟩) (by assumption) ?_
        case iR => (intro w hSw; (try dsimp only at hSw); go_simp; first | done | with_reducible rfl)
        try simp only [Act.put, g1, g2, g3]
        refine aB (i := 4) (v := ?uF) rfl (by kernel_rfl) (by decide) (by kernel_rfl) (by kernel_rfl) (by kernel_rfl) (fun _ _ _ h => h) (Or.inl ⟨by rfl, ?hm4⟩) (by assumption) ?_
        case hm4 => (intro w hSw; (try dsimp only at hSw); go_simp; first | done | with_reducible rfl)
        try simp only [Act.put, g1, g2, g3]
        refine aB (i := 5) (v := ?wW) rfl (by kernel_rfl) (by decide) (by kernel_rfl) (by kernel_rfl) (by kernel_rfl) (fun _ _ _ h => h) (Or.inl ⟨by rfl, ?jQ⟩) (by assumption) ?_
        case jQ => (intro w hSw; (try dsimp only at hSw); go_simp; first | done | with_reducible rfl)
        try simp only [Act.put, g1, g2, g3]
        refine aG (i := 3) (by kernel_rfl) rfl (fun K hK => ?_)
        go_simp
        go_at_call 108
        refine (aiL cK (by have := HL.out; have := kL.out; omega) (by have := XP.out; have := kL.out; omega) (by have := kL.out; omega) aiV.out (HAt.out.below (BW.out.trans (Kd.out.mono BW.out.size))) (iH.out.below (BW.out.trans (Kd.out.mono BW.out.size)))).mono ?_
        rintro e wa ⟨x, rfl, hx, hb⟩
        have X3 := Lib.hid hx
        obtain ⟨a1, e1, a2, e2, V, rfl, x1, x2, x3⟩ := hx.shape3
        rw [kQ]
        have Ka := Lib.hid (Kd.out.trans (hb.mono Kd.out.size))
        clear hx x1 x2 x3 hb
        go_wp2_with fail
        refine hK.out _ _ (fun _ => aC.out _ Ka.out) (fun hHd => ?_)
        have hHd := hHd (by decide)
        clear hK K
        try simp only [Act.put, g1, g2, g3]
        refine aG (i := 6) (by kernel_rfl) rfl (fun K hK => ?_)
        go_simp
        go_at_call 60
        refine (MC cp (rO.out.below (BW.out.trans (Ka.out.mono BW.out.size)))).mono ?_
        rintro e wb ⟨y, rfl, hy, hb⟩
        have Y3 := Lib.hid hy
        obtain ⟨ya, yc, rfl, _, _⟩ := hy.shape
        have Kb := Lib.hid (Ka.out.trans (hb.mono Ka.out.size))
        have XB := Lib.hid (X3.out.below hb)
        have Sab : Hid (wa.heap.size ≤ wb.heap.size) := hb.size
        clear hy hb
        go_wp2_with fail
        refine hK.out _ _ (fun _ => aC.out _ Kb.out) (fun hHd => ?_)
        have hHd := hHd (by decide)
        clear hK K
        try simp only [Act.put, g1, g2, g3]
        refine aB (i := 7) (v := ?yF) rfl (by kernel_rfl) (by decide) (by kernel_rfl) (by kernel_rfl) (by kernel_rfl) (fun _ _ _ h => h) (Or.inl ⟨by rfl, ?kV⟩) (by assumption) ?_
        case kV => (intro w hSw; (try dsimp only at hSw); go_simp; first | done | with_reducible rfl)
        try simp only [Act.put, g1, g2, g3]
        have Bb := Lib.hid (BW.out.trans (Kb.out.mono BW.out.size))
        have Rb := Lib.hid (RW.out.below Kb.out)
        have s1 := cO.out
        have s2 : w1.heap.size ≤ wr.heap.size := Nat.le_trans (Nat.le_trans (Nat.le_refl _) (show w1.heap.size ≤ w2.heap.size by have := R2.out; exact aiU.out)) HKB.out.size
        have s3 : wr.drew.heap.size = wr.heap.size := rfl
        have s4 := Ka.out.size
        have acM : eG wb wr.heap.size wb.heap.size (.agg #[.slice a1 O.length e1, .slice a2 ah.length e2, .slice ya P.length yc]) O (rowsOf ah.length (dG ah Pk)) P := by
         have h := eG.Rl (M := wa.heap.size) (O := O) (ah := pF ah Pk ah.length) (P := P) XB.out (Y3.out.base (Nat.le_refl _)) (by omega) Sab.out
         rw [aiT, oV] at h
         exact h
        have hst := MP (w := w) (wr := wb) (t := w.heap.size + 1) (n := wr.heap.size) Rb.out acM (by omega) (by omega) (by omega) Bb.out
        have HST := Lib.hid hst
        have d0 := Rb.out.c0
        have d1 := Rb.out.c1
        have d2 := Rb.out.c2
        have g0 := World.rowIs.frozen Rb.out 0
        have g1 := World.rowIs.frozen Rb.out 1
        have g2 := World.rowIs.frozen Rb.out 2
        clear hst acM hHd s1 s2 s3 s4
        refine aG (i := 8) (by kernel_rfl) rfl (fun K hK => ?_)
        go_simp
        refine hK.out _ _ (fun h => absurd h (by decide)) (fun _ => ?_)
        clear hK K
        try simp only [Act.put, g1, g2, g3]
        refine aG (i := 9) (by kernel_rfl) rfl (fun K hK => ?_)
        go_simp
        refine hK.out _ _ (fun h => absurd h (by decide)) (fun _ => ?_)
        clear hK K
        try simp only [Act.put, g1, g2, g3]
        refine dA (by kernel_rfl) ?_ _
        have u0 := HST.out.2.2.c0
        have u1 := HST.out.2.2.c1
        have u2 := HST.out.2.2.c2
        go_wp2
        exact bodyPost_ret (v := .tuple #[.agg #[.slice a1 O.length e1, .slice a2 ah.length e2, .slice ya P.length yc], .bool true]) (by simp [results, Tryd.results61, go_sem, u0, u1, u2]) rfl
         ⟨_, by rw [HE.out.2.2.2], by rw [HE.out.1, HE.out.2.1, HE.out.2.2.1]; exact HST.out.1, HST.out.2.1⟩
   · have HE := Lib.hid (Jl hr (by unfold fO; rw [TR fun hh => hl (by rw [hh.1, hzl])]; simp))
     have hln : ((Pk.length : Int) != (O.length : Int)) = true := bne_iff_ne.2 (by omega)
     clear hr hp hl hzl hpy
     go_enter Tryd.func61, Tryd.ntmps61
     go_wp2_with fail
     rw [← HW1.out]
     refine HC.out.mono ?_
     rintro e w2 ⟨rfl, hb⟩
     have B2 := Lib.hid (B1.out.trans (hb.mono B1.out.size))
     have R2 := Lib.hid (R1.out.below hb)
     have T2 := Lib.hid (T1.out.below hb)
     have t0 := T2.out.c0
     have t1 := T2.out.c1
     have t2 := T2.out.c2
     have d0 := R2.out.c0
     have d1 := R2.out.c1
     have d2 := R2.out.c2
     have g0 := World.rowIs.frozen R2.out 0
     have g1 := World.rowIs.frozen R2.out 1
     have g2 := World.rowIs.frozen R2.out 2
     clear hb HC
     go_wp2
     exact bodyPost_ret (v := .tuple #[.agg #[.slice none 0 0, .slice none 0 0, .slice none 0 0], .bool false]) (by simp [results, Tryd.results61, go_sem, d0, d1, d2]) rfl
      ⟨_, by rw [HE.out.2.2.2], by rw [HE.out.1, HE.out.2.1, HE.out.2.2.1]; exact eG.zero _ _ _, I8 B2.out (by omega)⟩
end
end Go.Proofs.YtglbkbiphcgidaaDoor
namespace Go.Proofs.YtglbkbiphcgidaaDoor
section
open Go.RowKit Go.Shelf
theorem aiW {O P : List Int} {ah N : List (List Int)} (hz : ah.length = O.length) (hN : N.length = O.length) (hn : O.length ≤ 256) : (nR (bK N O P 0) (bK ah O P 0) && nR (bK N O P 1) (bK ah O P 1)) = decide (dJ N O P = dJ ah O P) := by
 rw [Bool.eq_iff_iff, Bool.and_eq_true, decide_eq_true_eq, Gm, Gm]
 have at0 : ∀ {M : List (List Int)} {who : Int} {v : Nat}, O.length ≤ v → bK M O P who v = false := fun {M who v} hv => by
  cases h : bK M O P who v with
  | false => rfl
  | true => have := aiK h; omega
 constructor
 · rintro ⟨h0, h1⟩
   refine aal (by rw [yh, yh]; omega) fun j hj => ?_
   rw [yh] at hj
   rw [Qu hN (by omega), Qu hz (by omega), h1 j (by omega)]
 · intro h
   have key : ∀ {who : Int}, who = 0 ∨ who = 1 → ∀ v, v < 256 → bK N O P who v = bK ah O P who v := fun {who} hw v _ => by
    by_cases hv : v < O.length
    · rw [Bool.eq_iff_iff, XQ hN hw hv, XQ hz hw hv, h]
    · rw [at0 (by omega), at0 (by omega)]
   exact ⟨key (.inl rfl), key (.inr rfl)⟩
set_option maxHeartbeats 16000000 in
set_option maxRecDepth 100000 in
theorem acN {w : World} {v : Value} {O P Pk : List Int} {ah : List (List Int)} {aK : Option Addr} {r : Bool} (cK : Nat) (hr : jb O ah P Pk = r) (h : gX w v O ah P) (hK : aV w aK Pk) (hT : dS w) :
 Calls Tryd.prog 57 #[v, .slice aK Pk.length cK] w fun e w' => e = .returned (.bool r) ∧ Below w.heap.size w w' := by
 have fP := Lib.hid h
 have HT := Lib.hid hT
 clear hT
 obtain ⟨ao, an, ap, co, cn, cp, A, C, rfl, h1, h2, h3⟩ := h
 obtain ⟨w1, hw1⟩ : ∃ y, y = w.alloc (.cells #[.slice ao O.length co, .slice an ah.length cn, .slice ap P.length cp] 35) := ⟨_, rfl⟩
 have HW1 := Lib.hid hw1
 have B1 : Hid (Below w.heap.size w w1) := by rw [hw1]; exact aA _ _
 have T1 : Hid (aT w1 w.heap.size 35 (.slice ao O.length co) (.slice an ah.length cn) (.slice ap P.length cp)) := by rw [hw1]; exact aT.new _ _ _ _ _
 have HC := Lib.hid (acL cK ⟨rfl, rfl, rfl, rfl⟩ (fP.out.below B1.out) (hK.below B1.out))
 have c0 := T1.out.c0
 have c1 := T1.out.c1
 have c2 := T1.out.c2
 clear hw1 h1 h2 h3 hK
 cases hb : fO O ah P Pk with
 | false =>
   have HR : Hid (r = false) := by rw [← hr]; unfold jb Hid; rw [hb]; rfl
   rw [hb] at HC
   clear hr
   go_enter Tryd.func57, Tryd.ntmps57
   go_wp2_with fail
   rw [← HW1.out]
   refine HC.out.mono ?_
   rintro e w2 ⟨x, rfl, hx, hb2⟩
   obtain ⟨a0, k0, a1, k1, a2, k2, V, rfl, _⟩ := hx.shape3
   have B2 := Lib.hid (B1.out.trans (hb2.mono B1.out.size))
   have B3 : Hid (Below w.heap.size w (w2.alloc (.cells #[.slice a0 (Af O ah P Pk).length k0, .slice a1 (Ag O ah P Pk).length k1, .slice a2 (Ah O ah P Pk).length k2] 35))) := B2.out.alloc B2.out.size _
   clear hx hb2 HC c0 c1 c2
   go_wp2
   go_quiet (fail)
   go_wp2
   go_ret
   exact ⟨dY HR.out.symm, below_drewN B3.out _⟩
 | true =>
   have hpar : fZ O ah P = true := by unfold fO at hb; rw [Bool.and_eq_true] at hb; exact hb.1
   have hY := Jm (O := O) (ah := ah) (P := P) (Pk := Pk) ⟨rfl, rfl, rfl, rfl⟩ hb
   have HR : Hid (decide (dJ (rowsOf ah.length (dG ah Pk)) O P = dJ ah O P) = r) := by rw [← hr]; unfold jb Hid; rw [hb, Bool.true_and]
   have Dp := NC hb
   obtain ⟨N, hN⟩ : ∃ N, N = rowsOf ah.length (dG ah Pk) := ⟨_, rfl⟩
   rw [← hN] at HR Dp hY
   rw [hY.1, hY.2.1, hY.2.2.1, hY.2.2.2] at HC
   have hzN : N.length = O.length := by rw [hN, oV]; exact (iY.1 hpar).1.2.2.1
   have heq : ∀ W : World, (Op.equalIn 10000 71 (jc (bK N O P 0) (bK N O P 1)) (jc (bK ah O P 0) (bK ah O P 1))).run Tryd.prog W = .ok r W := fun W => by
    rw [agA, aiW (iY.1 hpar).1.2.2.1 hzN (iY.1 hpar).1.2.1, HR.out]
   have Jq := Lib.hid hpar
   clear hzN
   have HP2 := Lib.hid Dp
   clear hr hb hY hpar Dp hN
   go_enter Tryd.func57, Tryd.ntmps57
   go_wp2_with fail
   rw [← HW1.out]
   refine HC.out.mono ?_
   rintro e w2 ⟨x, rfl, hx, hb2⟩
   have HX := Lib.hid hx
   obtain ⟨a0, k0, a1, k1, a2, k2, V, rfl, _⟩ := hx.shape3
   have B2 := Lib.hid (B1.out.trans (hb2.mono B1.out.size))
   obtain ⟨w3, hw3⟩ : ∃ y, y = w2.alloc (.cells #[.slice a0 O.length k0, .slice a1 N.length k1, .slice a2 P.length k2] 35) := ⟨_, rfl⟩
   have HW3 := Lib.hid hw3
   have hb3 : Below w2.heap.size w2 w3 := by rw [hw3]; exact aA _ _
   have U3 : Hid (aT w3 w2.heap.size 35 (.slice a0 O.length k0) (.slice a1 N.length k1) (.slice a2 P.length k2)) := by rw [hw3]; exact aT.new _ _ _ _ _
   have T3 := Lib.hid ((T1.out.below hb2).below (hb3.mono (Nat.le_refl _)))
   have B3 := Lib.hid (B2.out.trans (hb3.mono B2.out.size))
   have Uc := Lib.hid (HX.out.below hb3).at
   have Gi := Lib.hid (fP.out.below B3.out)
   have bM : Hid (∀ W, Below w3.heap.size w3 W → W.cell? ⟨w2.heap.size, 0, none⟩ = some (.slice a0 O.length k0) ∧ W.cell? ⟨w2.heap.size, 1, none⟩ = some (.slice a1 N.length k1) ∧ W.cell? ⟨w2.heap.size, 2, none⟩ = some (.slice a2 P.length k2) ∧ W.cell? ⟨w.heap.size, 0, none⟩ = some (.slice ao O.length co) ∧ W.cell? ⟨w.heap.size, 1, none⟩ = some (.slice an ah.length cn) ∧ W.cell? ⟨w.heap.size, 2, none⟩ = some (.slice ap P.length cp)) := fun W hb => ⟨(U3.out.below hb).c0, (U3.out.below hb).c1, (U3.out.below hb).c2, (T3.out.below hb).c0, (T3.out.below hb).c1, (T3.out.below hb).c2⟩
   have Ai : Hid (∀ W, Below w3.heap.size w3 W → Calls Tryd.prog 58 #[.agg #[.slice a0 O.length k0, .slice a1 N.length k1, .slice a2 P.length k2]] W (fun e w' => e = .returned (jc (bK N O P 0) (bK N O P 1)) ∧ Below W.heap.size W w')) := fun W hb => Qs (HT.out.below (B3.out.trans (hb.mono B3.out.size))) (Uc.out.below hb) HP2.out
   have HC2 : Hid (∀ W, Below w3.heap.size w3 W → Calls Tryd.prog 58 #[.agg #[.slice ao O.length co, .slice an ah.length cn, .slice ap P.length cp]] W (fun e w' => e = .returned (jc (bK ah O P 0) (bK ah O P 1)) ∧ Below W.heap.size W w')) := fun W hb => Qs (HT.out.below (B3.out.trans (hb.mono B3.out.size))) (Gi.out.below hb) Jq.out
   have Kd : Hid (Below w3.heap.size w3 w3.drew) := (Below.refl _ _).drew
   have h0 := bM.out _ Kd.out
   clear hx hb2 hb3 HC c0 c1 c2
   rw [hw3] at h0
   clear hw3
   go_wp2
   rw [← HW3.out] at h0 ⊢
   go_region_held3 (fun W => W.cell? ⟨w2.heap.size, 0, none⟩ = some (.slice a0 O.length k0) ∧ W.cell? ⟨w2.heap.size, 1, none⟩ = some (.slice a1 N.length k1) ∧ W.cell? ⟨w2.heap.size, 2, none⟩ = some (.slice a2 P.length k2) ∧ W.cell? ⟨w.heap.size, 0, none⟩ = some (.slice ao O.length co) ∧ W.cell? ⟨w.heap.size, 1, none⟩ = some (.slice an ah.length cn) ∧ W.cell? ⟨w.heap.size, 2, none⟩ = some (.slice ap P.length cp))
    (first
     | exact bM.out _ Kd.out
     | exact bM.out _ Ka.out
     | exact bM.out _ Kb.out)
    (first
     | (go_at_call 58; refine (HC2.out _ Ka.out).mono ?_; rintro e wb ⟨rfl, hb⟩; have Kb := Lib.hid (Ka.out.trans (hb.mono Ka.out.size)); clear hb)
     | (go_at_call 58; refine (Ai.out _ Kd.out).mono ?_; rintro e wa ⟨rfl, hb⟩; have Ka := Lib.hid (Kd.out.trans (hb.mono Kd.out.size)); clear hb))
   have Bc := Lib.hid (B3.out.trans (Kb.out.mono B3.out.size))
   clear h0
   go_wp2
   go_ret
   exact ⟨rfl, Bc.out⟩
end
end Go.Proofs.YtglbkbiphcgidaaDoor
namespace Go.Proofs.YtglbkbiphcgidaaDoor
open Go.RowKit
def sK (X Y : List Int) : Nat := X.length + Y.length
end Go.Proofs.YtglbkbiphcgidaaDoor
