import Derived.Deep.RegionHeld3
import Derived.Lib.SlicesCompact
import Derived.Test.YtglbkbiphcgidaaDoorPm00
namespace Go.Proofs.YtglbkbiphcgidaaDoor
section
section
open Go.RowKit
set_option maxHeartbeats 4000000 in
set_option maxRecDepth 100000 in
theorem MN {w : World} {v : Value} {O : List Int} {ah : List (List Int)} {P : List Int} {r : Bool} (hr : fZ O ah P = r) (h : gX w v O ah P) :
 Calls Tryd.prog 68 #[v] w fun e w' => e = .returned (.bool r) ∧ Below w.heap.size w w' := by
 obtain ⟨ao, an, ap, co, cn, cp, A, C, rfl, h1, h2, h3⟩ := h
 have CP := h1.len
 have sW := h3.len
 have HP := Lib.hid h3
 have BW := Lib.hid (aA w (.cells #[.slice ao O.length co, .slice an ah.length cn, .slice ap P.length cp] 35))
 have bW := Lib.hid (aT.new w 35 (.slice ao O.length co) (.slice an ah.length cn) (.slice ap P.length cp))
 have HA : Hid (gZ (w.alloc (.cells #[.slice ao O.length co, .slice an ah.length cn, .slice ap P.length cp] 35)) (.agg #[.slice ao O.length co, .slice an ah.length cn]) O ah) := ⟨_, _, _, _, _, _, rfl, h1.below BW.out, h2.below BW.out⟩
 clear h1 h2 h3
 cases hA : gW O ah with
 | false =>
   have HE : Hid (r = false) := by rw [← hr]; simp [fZ, hA, Hid]
   have HC := Lib.hid (YT hA HA.out)
   clear hA hr
   go_enter Tryd.func68, Tryd.ntmps68
   go_wp2_with fail
   refine HC.out.mono ?_
   rintro e w1 ⟨rfl, hb⟩
   have B1 := Lib.hid (BW.out.trans (hb.mono BW.out.size))
   clear hb
   go_wp2
   go_ret
   exact ⟨by rw [HE.out]; rfl, B1.out⟩
 | true =>
   have HC := Lib.hid (YT hA HA.out)
   by_cases hl : P.length = O.length
   · have HL := Lib.hid hl
     have HR : Hid (zL P = r) := by rw [← hr]; simp [fZ, hA, hl, Hid]
     clear hA hr hl
     go_enter Tryd.func68, Tryd.ntmps68
     go_wp2_with fail
     refine HC.out.mono ?_
     rintro e w1 ⟨rfl, hb⟩
     have B1 := Lib.hid (BW.out.trans (hb.mono BW.out.size))
     have T1 := Lib.hid (bW.out.below hb)
     clear hb HC BW HA bW
     have t0 := T1.out.c0
     have t2 := T1.out.c2
     have hne : ((P.length : Int) != (O.length : Int)) = false := by have := HL.out; simp; omega
     have K1 := Lib.hid (Below.refl w1.heap.size w1)
     go_wp2
     go_loopw [3] (fun iv wr => ∃ k : Nat, k ≤ P.length ∧ iv = .int .i64 k ∧ Hid (∀ j, j < k → 0 ≤ nth P j ∧ nth P j ≤ 40) ∧ Hid (Below w1.heap.size w1 wr)) (fun iv _ => P.length - (intOf iv).toNat)
     case atStart => exact ⟨0, Nat.zero_le _, rfl, fun j hj => absurd hj (Nat.not_lt_zero _), K1⟩
     case round =>
      clear K1 t0 t2 hne
      obtain ⟨k, hk, rfl, HB, HK⟩ := hrel
      have t2 := (T1.out.below HK.out).c2
      by_cases hlt : k < P.length
      · have hi1 : (k : Int) < P.length := by omega
        have hk0 : (0 : Int) ≤ (k : Int) := by omega
        obtain ⟨b, off, ha, hc⟩ := (HP.out.below (B1.out.trans (HK.out.mono B1.out.size))).cell (by omega)
        have c := hc k hlt
        subst ha
        clear hc
        cases hx : inB (nth P k) 0 40 with
        | false =>
          have HE : Hid (r = false) := by
           rw [← HR.out]
           exact aeT hlt (by
            intro h
            rw [IV h.1 h.2] at hx
            cases hx)
          have HI := Lib.hid (fun W => xM hx W)
          clear hx
          go_wp2_with fail
          refine (HI.out _).mono ?_
          rintro e w2 ⟨rfl, rfl⟩
          go_wp2
          go_ret
          exact ⟨by rw [HE.out]; rfl, B1.out.trans (HK.out.mono B1.out.size)⟩
        | true =>
          have hx2 : 0 ≤ nth P k ∧ nth P k ≤ 40 := by
           unfold inB at hx
           exact of_decide_eq_true hx
          have HBn : Hid (∀ j, j < k + 1 → 0 ≤ nth P j ∧ nth P j ≤ 40) := fun j hj => by
           by_cases e : j = k
           · rw [e]; exact hx2
           · exact HB.out j (by omega)
          have HI := Lib.hid (fun W => xM hx W)
          clear hx hx2
          go_wp2_with fail
          refine (HI.out _).mono ?_
          rintro e w2 ⟨rfl, rfl⟩
          go_wp2
          go_roundw
          case rel => exact ⟨k + 1, by omega, by go_num, HBn, HK⟩
          case measure => simp [intOf]; omega
      · have hi1 : ¬ (k : Int) < P.length := by omega
        have hkk : k = P.length := by omega
        rw [hkk] at HB
        have HE : Hid (r = true) := by rw [← HR.out]; exact aeS HB.out
        have hfin := Lib.hid (B1.out.trans (HK.out.mono B1.out.size))
        clear hkk HB
        go_wp2
        go_ret
        exact ⟨by rw [HE.out]; rfl, hfin.out⟩
   · have HE : Hid (r = false) := by rw [← hr]; simp [fZ, hl, Hid]
     have hne : ((P.length : Int) != (O.length : Int)) = true := by simp; omega
     clear hA hr
     go_enter Tryd.func68, Tryd.ntmps68
     go_wp2_with fail
     refine HC.out.mono ?_
     rintro e w1 ⟨rfl, hb⟩
     have B1 := Lib.hid (BW.out.trans (hb.mono BW.out.size))
     have T1 := Lib.hid (bW.out.below hb)
     clear hb
     have t0 := T1.out.c0
     have t2 := T1.out.c2
     go_wp2
     go_ret
     exact ⟨by rw [HE.out]; rfl, B1.out⟩
end
section
open Go.RowKit
theorem aeX {x y r : Int} (hr : (if x < y then y else x) = r) (w : World) : Calls Tryd.prog 151 #[.int .i64 x, .int .i64 y] w fun e w' => e = .returned (.int .i64 r) ∧ w = w' := by
 by_cases h : y < x
 · have hE : Hid (r = x) := by rw [← hr, if_neg (by omega)]; rfl
   clear hr
   go_enter Tryd.func151, Tryd.ntmps151
   go_wp2
   go_ret
   exact ⟨by rw [hE.out]; rfl, rfl⟩
 · have hE : Hid (r = y) := by
    rw [← hr]; unfold Hid
    split <;> omega
   clear hr
   go_enter Tryd.func151, Tryd.ntmps151
   go_wp2
   go_ret
   exact ⟨by rw [hE.out]; rfl, rfl⟩
end
section
open Go.RowKit
end
section
open Go.RowKit
end
section
open Go.RowKit
end
end
section
open Go.RowKit
end
section
section
open Go.RowKit
theorem aT.new2 {w : World} {g : Nat} (hg : g = w.heap.size) (T : TypeId) (a b c : Value) : aT (w.alloc (.cells #[a, b, c] T)) g T a b c := by subst hg; exact aT.new _ _ _ _ _
theorem MP {w wr : World} {t n D : Nat} {x y z a0 a1 a2 : Value} {O P : List Int} {ah : List (List Int)} (hR : aT wr t 35 x y z) (h : eG wr n D (.agg #[a0, a1, a2]) O ah P) (hn : w.heap.size ≤ n) (ht : w.heap.size ≤ t) (htn : t < n) (hb : Below w.heap.size w wr) :
 eG (((wr.setCell ⟨t, 0, none⟩ a0).setCell ⟨t, 1, none⟩ a1).setCell ⟨t, 2, none⟩ a2) w.heap.size (((wr.setCell ⟨t, 0, none⟩ a0).setCell ⟨t, 1, none⟩ a1).setCell ⟨t, 2, none⟩ a2).heap.size (.agg #[a0, a1, a2]) O ah P ∧
  Below w.heap.size w (((wr.setCell ⟨t, 0, none⟩ a0).setCell ⟨t, 1, none⟩ a1).setCell ⟨t, 2, none⟩ a2) ∧ aT (((wr.setCell ⟨t, 0, none⟩ a0).setCell ⟨t, 1, none⟩ a1).setCell ⟨t, 2, none⟩ a2) t 35 a0 a1 a2 := by
 have hS : Only (fun b => b = t) wr (((wr.setCell ⟨t, 0, none⟩ a0).setCell ⟨t, 1, none⟩ a1).setCell ⟨t, 2, none⟩ a2) :=
  (((Only.refl (fun b => b = t) wr).setCell (p := ⟨t, 0, none⟩) rfl _).setCell (p := ⟨t, 1, none⟩) rfl _).setCell (p := ⟨t, 2, none⟩) rfl _
 refine ⟨((h.only hS (fun g hg _ e => by omega)).base hn).bg, hb.trans (hS.below (B := w.heap.size) hb.size (fun b hb => by omega)), ?_⟩
 exact World.rowIs.congr (((World.rowIs.set hR 0 a0).set 1 a1).set 2 a2) fun i hi => by
  have h3 : i = 0 ∨ i = 1 ∨ i = 2 := by omega
  rcases h3 with rfl | rfl | rfl <;> simp [tri]
end
section
open Go.RowKit
theorem jm.shape3 {w : World} {B D : Nat} {v : Value} {O : List Int} {ah : List (List Int)} (h : jm w B D v O ah) : ∃ a0 c0 a1 c1 V, v = .agg #[.slice a0 O.length c0, .slice a1 ah.length c1] ∧ aF w B D (.slice a0 O.length c0) O ∧ OwnRows w B D (.slice a1 ah.length c1) V ah ∧ ∀ k, k < ah.length → ∀ g, (V k).ownBlock = some g → (Value.slice a0 O.length c0).ownBlock ≠ some g := by
 obtain ⟨vo, vn, V, rfl, x1, x2, x3⟩ := h
 obtain ⟨a1, e1, hvs, _, _⟩ := x1.shape
 subst hvs
 obtain ⟨a2, e2, hvs, _, _⟩ := x2.shape
 subst hvs
 exact ⟨_, _, _, _, V, rfl, x1, x2, x3⟩
end
end
section
section
open Go.RowKit
theorem aeY {zs : List Int} : Zb zs ↔ zs.Pairwise (· < ·) := by
 rw [List.pairwise_iff_getElem]
 constructor
 · intro h i j hi hj hij
   have := h i j hij hj
   rwa [jl hi, jl hj] at this
 · intro h j k hjk hk
   have := h j k (by omega) hk hjk
   rwa [jl (by omega), jl hk]
end
section
open Go.RowKit
end
end
section
section
open Go.RowKit
section
variable {P ps : List Int} {k j : Nat}
end
section
variable {P ps : List Int}
end
section
variable {P : List Int}
end
end
section
open Go.RowKit
theorem eG.shape3 {w : World} {B D : Nat} {v : Value} {O P : List Int} {ah : List (List Int)} (h : eG w B D v O ah P) : ∃ a0 c0 a1 c1 a2 c2 V, v = .agg #[.slice a0 O.length c0, .slice a1 ah.length c1, .slice a2 P.length c2] ∧ aF w B D (.slice a0 O.length c0) O ∧ OwnRows w B D (.slice a1 ah.length c1) V ah ∧ aF w B D (.slice a2 P.length c2) P ∧
 (∀ k, k < ah.length → ∀ g, (V k).ownBlock = some g → (Value.slice a0 O.length c0).ownBlock ≠ some g) ∧ (∀ k, k < ah.length → ∀ g, (V k).ownBlock = some g → (Value.slice a2 P.length c2).ownBlock ≠ some g) ∧ ∀ g, (Value.slice a0 O.length c0).ownBlock = some g → (Value.slice a2 P.length c2).ownBlock ≠ some g := by
 obtain ⟨vo, vn, vp, V, rfl, x1, x2, x3, x4, x5, x6⟩ := h
 obtain ⟨a1, e1, hvs, _, _⟩ := x1.shape
 subst hvs
 obtain ⟨a2, e2, hvs, _, _⟩ := x2.shape
 subst hvs
 obtain ⟨a3, e3, hvs, _, _⟩ := x3.shape
 subst hvs
 exact ⟨_, _, _, _, _, _, V, rfl, x1, x2, x3, x4, x5, x6⟩
end
end
end Go.Proofs.YtglbkbiphcgidaaDoor
