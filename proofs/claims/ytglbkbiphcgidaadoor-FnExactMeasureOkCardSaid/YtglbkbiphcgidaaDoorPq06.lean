/-
  Several texts in one: MeasOf, MeasIn, MeasImpl, LawMeasureOk, LaidL, Lasso, Open.
-/
import Derived.Deep.MidRow
import Derived.Great.BuildSlice
import Derived.Deep.RegionHeld3
import Derived.Test.YtglbkbiphcgidaaDoorRows
import Derived.Lib.LaidTab
import Derived.LaidSub
import Derived.LaidHandle
import Derived.Deep.DeepHandedRow
import Derived.ProofKit
import Derived.OpenShut
import Derived.Carry
import Derived.ChangeVars
import Derived.SizedLaws
import Derived.Deep.Matrix
import Derived.Lib.SmallJoins
import Derived.Test.YtglbkbiphcgidaaDoorPq00
import Derived.Test.YtglbkbiphcgidaaDoorPq02
import Derived.Test.YtglbkbiphcgidaaDoorPq05
namespace Go.Proofs.YtglbkbiphcgidaaDoor
section
open Go.RowKit Go.Shelf

/-- A measure's cells by place. -/
def meaF (m : List Int) : Nat → Value := fun i => .int .i64 (nth m i)
theorem mea_of {w : World} {g : Nat} {T : TypeId} {m : List Int} (h : w.heap[g]? = some (.cells (meaA m) T (0, 0))) : w.rowIs g T 13 (meaF m) := by
  refine ⟨_, h, rfl, fun j hj => ?_⟩
  have h13 : j = 0 ∨ j = 1 ∨ j = 2 ∨ j = 3 ∨ j = 4 ∨ j = 5 ∨ j = 6 ∨ j = 7 ∨ j = 8 ∨ j = 9 ∨ j = 10 ∨ j = 11 ∨ j = 12 := by omega
  rcases h13 with rfl | rfl | rfl | rfl | rfl | rfl | rfl | rfl | rfl | rfl | rfl | rfl | rfl <;> rfl
theorem mea_cells {w : World} {g : Nat} {T : TypeId} {m : List Int} (h : w.rowIs g T 13 (meaF m)) : w.heap[g]? = some (.cells (meaA m) T (0, 0)) := by
  obtain ⟨cs, hb, hn, hc⟩ := h
  have e : cs = meaA m := Array.ext (by rw [hn]; rfl) (fun j h1 h2 => by
    have h3 := hc j (by omega)
    rw [Array.getElem?_eq_getElem h1] at h3
    injection h3 with h3
    rw [h3]
    have h13 : j = 0 ∨ j = 1 ∨ j = 2 ∨ j = 3 ∨ j = 4 ∨ j = 5 ∨ j = 6 ∨ j = 7 ∨ j = 8 ∨ j = 9 ∨ j = 10 ∨ j = 11 ∨ j = 12 := by omega
    clear h3
    rcases h13 with rfl | rfl | rfl | rfl | rfl | rfl | rfl | rfl | rfl | rfl | rfl | rfl | rfl <;> rfl)
  rw [hb, e]
theorem meaA_one (m : List Int) : (meaA m).all (·.oneCell') = true := by simp [meaA, Value.oneCell']
theorem LostW.range {w : World} (h : LostW w) : w.rangeAt 0 0 (meaA [1]).toList := fun j v hv => by
  have hj : j < 13 := (List.getElem?_eq_some_iff.1 hv).1
  rw [Nat.zero_add, h j hj, ← hv]
  have h13 : j = 0 ∨ j = 1 ∨ j = 2 ∨ j = 3 ∨ j = 4 ∨ j = 5 ∨ j = 6 ∨ j = 7 ∨ j = 8 ∨ j = 9 ∨ j = 10 ∨ j = 11 ∨ j = 12 := by omega
  clear hv
  rcases h13 with rfl | rfl | rfl | rfl | rfl | rfl | rfl | rfl | rfl | rfl | rfl | rfl | rfl <;> rfl
theorem mea_step {w : World} {g : Nat} {T : TypeId} {m : List Int} {k : Nat} (hk : k < m.length) (h : w.rowIs g T 13 (meaF (m.take k))) : (w.setCell ⟨g, k, none⟩ (.int .i64 (nth m k))).rowIs g T 13 (meaF (m.take (k + 1))) := by
  refine (h.set k _).congr fun i hi => ?_
  unfold meaF
  by_cases e : i = k
  · subst e
    rw [if_pos rfl]
    congr 1
    unfold nth
    simp [hk]
  · rw [if_neg e]
    congr 1
    unfold nth
    simp only [List.getD_eq_getElem?_getD, List.getElem?_take]
    by_cases h1 : i < k
    · rw [if_pos h1, if_pos (by omega)]
    · rw [if_neg h1, if_neg (by omega)]
theorem ret_mea2 {fn : Func} {p q : Tmp} {tmps : Array Value} {W : World} {g : Nat} {m : List Int} {b : Bool} {R : Ending → World → Prop} (hr : fn.results = #[.cell p 88, .tmp q]) (hp : tmps.getD p undef = .pointer (some ⟨g, 0, none⟩)) (hq : tmps.getD q undef = .bool b)
    (hM : W.heap[g]? = some (.cells (meaA m) 88 (0, 0))) (hR : R (.returned (.tuple #[meaV m, .bool b])) W) : bodyPost Tryd.prog fn R .ret { tmps := tmps, defers := [] } W := by
  refine bodyPost_ret (v := .tuple #[meaV m, .bool b]) ?_ rfl hR
  have hp' : tmps[p]?.getD undef = .pointer (some ⟨g, 0, none⟩) := by simpa using hp
  have hq' : tmps[q]?.getD undef = .bool b := by simpa using hq
  have hl := run_loadVar_row (P := Tryd.prog) W g 88 88 (meaA m) (0, 0) _ hM Tryd.underlying88 rfl (by kernel_rfl)
  simp [results, hr, hp', hq', asAddr, hl, meaV]

set_option linter.unusedSimpArgs false in
set_option maxRecDepth 100000 in
set_option maxHeartbeats 8000000 in
theorem measureOf_is {w : World} {s : Value} {O P m : List Int} {zss : List (List Int)} {am : Option Addr} (cm : Nat) (hW : LostW w) (hs : ScaleAt w s O zss P) (hm : IntsAt w am m) (hl : (oddsL P).length ≤ 12) :
    Calls Tryd.prog 117 #[s, .slice am m.length cm] w fun e w' => e = .returned (.tuple #[meaV (if goodB P m = true then m else []), .bool (goodB P m)]) ∧ Below w.heap.size w w' := by
  obtain ⟨ao, an, ap, aq, co, cn, cp, cq, rfl, hg, hq⟩ := hs
  obtain ⟨r, hr⟩ : ∃ r, goodB P m = r := ⟨_, rfl⟩
  obtain ⟨w1, hw1⟩ : ∃ y, y = (w.alloc (.cells (scaA (.slice ao O.length co) (.slice an zss.length cn) (.slice ap P.length cp) (.slice aq (oddsL P).length cq) (mostL P)) 90)).alloc (.cells #[.int .i64 0, .int .i64 0, .int .i64 0, .int .i64 0, .int .i64 0, .int .i64 0, .int .i64 0, .int .i64 0, .int .i64 0, .int .i64 0, .int .i64 0, .int .i64 0, .int .i64 0] 88) := ⟨_, rfl⟩
  have HW1 := Lib.hid hw1
  have B1 : Hid (Below w.heap.size w w1) := by rw [hw1]; exact below2 _ _ _
  have S1 : Hid (w1.rowIs w.heap.size 90 17 (scaF (.slice ao O.length co) (.slice an zss.length cn) (.slice ap P.length cp) (.slice aq (oddsL P).length cq) (mostL P))) := by
    rw [hw1]; exact World.rowIs.alloc (sca_of (heap_alloc_new _ _)) _
  have R1 : Hid (w1.heap[w.heap.size + 1]? = some (.cells (meaA []) 88 (0, 0))) := by rw [hw1]; exact heap_alloc2_new _ _ _
  have hs1 : w1.heap.size = w.heap.size + 2 := by rw [hw1]; simp
  have HS1 := Lib.hid hs1
  obtain ⟨w2, hw2⟩ : ∃ y, y = w1.alloc (.cells #[.int .i64 1] 2) := ⟨_, rfl⟩
  have HW2 := Lib.hid hw2
  have hb2 : Below w1.heap.size w1 w2 := by rw [hw2]; exact below1 _ _
  have I2 : IntsAt w2 (some ⟨w1.heap.size, 0, none⟩) [1] := ⟨by simp, fun k hk => by
    have : k = 0 := by simpa using hk
    subst this
    unfold Fits nth; simp, fun _ => ⟨w1.heap.size, 0, rfl, fun k hk => by
    have : k = 0 := by simpa using hk
    subst this
    rw [hw2]
    exact cell_one_new _ _ _ 0 _ rfl⟩⟩
  have B2 := Lib.hid (B1.out.trans (hb2.mono B1.out.size))
  have K2 := Lib.hid hb2
  obtain ⟨r1, hr1⟩ : ∃ r1, decide (m = [1]) = r1 := ⟨_, rfl⟩
  have HC : Hid (Calls Tryd.prog 144 #[.slice am m.length cm, .slice (some ⟨w1.heap.size, 0, none⟩) 1 1] w2 fun e w' => e = .returned (.bool r1) ∧ ∃ q, w' = w2.drewN q) := Equal_is (ys := [1]) hr1 w2 cm 1 (hm.below B2.out) I2
  have HL := Lib.hid hW
  have HM := Lib.hid hm
  have hml := hm.len
  obtain ⟨lq, hlq⟩ : ∃ lq, lq = (oddsL P).length := ⟨_, rfl⟩
  have HLQ := Lib.hid hlq
  have hl12 : lq ≤ 12 := by omega
  have HR := Lib.hid hr
  rw [hr]
  obtain ⟨M, hM⟩ : ∃ M, (if r = true then m else []) = M := ⟨_, rfl⟩
  have HMM := Lib.hid hM
  rw [hM]
  unfold scaV
  rw [← hlq] at HW1 S1 ⊢
  clear hw1 hw2 hb2 I2 hW hm hs1 hg hq hlq hl hr hM
  cases r1 with
  | true =>
    have hm1 : m = [1] := of_decide_eq_true hr1
    have HV : Hid (meaV M = meaV [1] ∧ r = true) := by
      have : r = true := by rw [← HR.out]; exact goodB_iff.2 (.inl hm1)
      rw [← HMM.out, if_pos this, hm1]
      exact ⟨rfl, this⟩
    clear hr1 hm1
    rw [HV.out.1, HV.out.2]
    go_enter Tryd.func117, Tryd.ntmps117
    go_wp2_with fail
    rw [← HW1.out, ← HS1.out, ← HW2.out]
    refine HC.out.mono ?_
    rintro e w3 ⟨rfl, hdq⟩
    have hb3 : Below w2.heap.size w2 w3 := by obtain ⟨q, rfl⟩ := hdq; exact below_drewN (Below.refl _ _) q
    have B3 := Lib.hid (B2.out.trans (hb3.mono B2.out.size))
    have K3 := Lib.hid (K2.out.trans (hb3.mono K2.out.size))
    have R3 := Lib.hid ((K3.out.block _ (Array.getElem?_eq_some_iff.1 R1.out).1).trans R1.out)
    have S3 := Lib.hid (rowIs_below S1.out K3.out)
    clear hdq hb3 HC
    have L3 := Lib.hid (HL.out.below B3.out)
    go_upto_region 2 with fail
    refine wp_region_lit ?_
    refine wpList_load_mid rfl 88 _ rfl 0 0 rfl (meaA [1]).toList _ L3.out.range Tryd.underlying88 rfl (by kernel_rfl) ?_
    simp only [Act.put, List.setIfInBounds_toArray, List.set_cons_zero, List.set_cons_succ]
    refine wpList_store_row rfl 88 _ _ rfl (w.heap.size + 1) (meaA [1]) rfl rfl 88 (meaA []) R3.out (by kernel_rfl) rfl (meaA_one _) ?_
    simp only [Act.put, List.setIfInBounds_toArray, List.set_cons_zero, List.set_cons_succ]
    go_wp2_with fail
    have ho := only_row8 (S := fun x => x = w.heap.size + 1) (Only.refl _ w3) rfl (meaA [1])
    exact ret_mea2 (g := w.heap.size + 1) rfl rfl rfl (setRow_heap _ _ _ _ _ _ R3.out) ⟨rfl, B3.out.trans (ho.below B3.out.size (fun x hx => by rw [hx]; omega))⟩
  | false =>
    have HNO : Hid (¬ m = [1]) := of_decide_eq_false hr1
    clear hr1
    by_cases hD : m.length = lq + 1
    · have hDi : ((m.length : Int) != 1 + (lq : Int)) = false := by simp; omega
      have hD1 : m.length ≤ lq + 1 := by omega
      have hD2 : lq + 1 ≤ m.length := by omega
      clear hD
      go_enter Tryd.func117, Tryd.ntmps117
      go_wp2_with fail
      rw [← HW1.out, ← HS1.out, ← HW2.out]
      refine HC.out.mono ?_
      rintro e w3 ⟨rfl, hdq⟩
      have hb3 : Below w2.heap.size w2 w3 := by obtain ⟨q, rfl⟩ := hdq; exact below_drewN (Below.refl _ _) q
      have B3 := Lib.hid (B2.out.trans (hb3.mono B2.out.size))
      have K3 := Lib.hid (K2.out.trans (hb3.mono K2.out.size))
      have R3 := Lib.hid ((K3.out.block _ (Array.getElem?_eq_some_iff.1 R1.out).1).trans R1.out)
      have S3 := Lib.hid (rowIs_below S1.out K3.out)
      clear hdq hb3 HC
      obtain ⟨w4, hw4⟩ : ∃ y, y = w3.alloc (.cells #[.int .i64 0, .int .i64 0, .int .i64 0, .int .i64 0, .int .i64 0, .int .i64 0, .int .i64 0, .int .i64 0, .int .i64 0, .int .i64 0, .int .i64 0, .int .i64 0, .int .i64 0] 88) := ⟨_, rfl⟩
      have HW4 := Lib.hid hw4
      have hb4 : Below w3.heap.size w3 w4 := by rw [hw4]; exact below1 _ _
      have B4 := Lib.hid (B3.out.trans (hb4.mono B3.out.size))
      have K4 := Lib.hid (K3.out.trans (hb4.mono K3.out.size))
      have R4 := Lib.hid ((hb4.block _ (Array.getElem?_eq_some_iff.1 R3.out).1).trans R3.out)
      have S4 := Lib.hid (rowIs_below S3.out hb4)
      have N4 : Hid (w4.rowIs w3.heap.size 88 13 (meaF (m.take 0))) := by
        have h : w4.heap[w3.heap.size]? = some (.cells (meaA []) 88 (0, 0)) := by rw [hw4]; exact heap_alloc_new _ _
        exact mea_of h
      have hg3 : w.heap.size + 2 ≤ w3.heap.size := by have := K3.out.size; have := HS1.out; omega
      have c3 : (w3.alloc (.cells #[.int .i64 0, .int .i64 0, .int .i64 0, .int .i64 0, .int .i64 0, .int .i64 0, .int .i64 0, .int .i64 0, .int .i64 0, .int .i64 0, .int .i64 0, .int .i64 0, .int .i64 0] 88)).cell? ⟨w.heap.size, 3, none⟩ = some (.slice aq lq cq) := by rw [← HW4.out]; exact S4.out.cell (i := 3) (by omega)
      have c3' : w3.cell? ⟨w.heap.size, 3, none⟩ = some (.slice aq lq cq) := S3.out.cell (i := 3) (by omega)
      clear hw4 hb4 R3 S3
      go_wp2
      rw [← HW4.out]
      go_loopw [23] (fun iv wr => ∃ k : Nat, k ≤ m.length ∧ iv = .int .i64 k ∧ Hid (∀ j, j < k → 0 ≤ nth m j ∧ nth m j ≤ nth (mostL P) j) ∧ Hid (wr.rowIs w3.heap.size 88 13 (meaF (m.take k))) ∧ Hid (Only (fun x => x = w3.heap.size) w4 wr)) (fun iv _ => m.length - (intOf iv).toNat)
      case atStart => exact ⟨0, Nat.zero_le _, rfl, fun j hj => absurd hj (Nat.not_lt_zero _), N4, Only.refl _ _⟩
      case round =>
        clear N4 c3 c3'
        obtain ⟨k, hk, rfl, HJ, HN, HO⟩ := hrel
        have R5 := Lib.hid ((HO.out.block _ (Array.getElem?_eq_some_iff.1 R4.out).1 (fun e => by omega)).trans R4.out)
        have B5 := Lib.hid (B4.out.trans (HO.out.below (B := w.heap.size) B4.out.size (fun x hx => by rw [hx]; omega)))
        have S5 : Hid (wr.rowIs w.heap.size 90 17 (scaF (.slice ao O.length co) (.slice an zss.length cn) (.slice ap P.length cp) (.slice aq lq cq) (mostL P))) := S4.out.of_block (HO.out.block _ S4.out.lt (fun e => by omega))
        by_cases hlt : k < m.length
        · have hi1 : (k : Int) < m.length := by omega
          have hk0 : (0 : Int) ≤ (k : Int) := by omega
          have hk13 : (k : Int) < 13 := by omega
          obtain ⟨mb, mo, hma, hmc⟩ := HM.out.cell (by omega)
          have p0 := hmc k hlt
          have hpl := World.block_lt_of_cell? _ _ p0
          have p1 : wr.cell? ⟨mb, mo + k, none⟩ = some (.int .i64 (nth m k)) := (B5.out.cell hpl).trans p0
          have q1 : wr.cell? ⟨w.heap.size, 4 + k, none⟩ = some (.int .i64 (nth (mostL P) k)) := by
            have h := S5.out.cell (i := k + 4) (by omega)
            rw [show 4 + k = k + 4 by omega, h]
            rfl
          have z1 := HN.out.cell (i := k) (by omega)
          have z2 := HN.out.frozen k
          obtain ⟨x, hx⟩ : ∃ x, x = nth m k := ⟨_, rfl⟩
          obtain ⟨y, hy⟩ : ∃ y, y = nth (mostL P) k := ⟨_, rfl⟩
          have HX := Lib.hid hx
          have HY := Lib.hid hy
          rw [← hx] at p1
          rw [← hy] at q1
          subst hma
          clear hmc p0 hpl hx hy
          by_cases hx0 : x < 0
          · clear z1 z2
            have HF : Hid (r = false) := by
              rw [← HR.out]
              cases hg : goodB P m with
              | false => rfl
              | true =>
                rcases goodB_iff.1 hg with h1 | ⟨_, h2⟩
                · exact absurd h1 HNO.out
                · have h3 := h2 k hlt
                  rw [← HX.out, ← HY.out] at h3
                  omega
            have HV : Hid (meaV M = meaV [] ∧ r = false) := by
              rw [← HMM.out, HF.out]
              exact ⟨rfl, rfl⟩
            go_upto_region 10 with fail
            refine wp_region_lit ?_
            refine wpList_build rfl 88 _ rfl (by kernel_rfl) ?_
            simp only [Act.put, List.setIfInBounds_toArray, List.set_cons_zero, List.set_cons_succ]
            refine wpList_store_row rfl 88 _ _ rfl (w.heap.size + 1) (meaA []) rfl (by kernel_rfl) 88 (meaA []) R5.out (by kernel_rfl) rfl (meaA_one _) ?_
            simp only [Act.put, List.setIfInBounds_toArray, List.set_cons_zero, List.set_cons_succ]
            go_wp2_with fail
            have ho := only_row8 (S := fun x => x = w.heap.size + 1) (Only.refl _ wr) rfl (meaA [])
            exact ret_mea2 (g := w.heap.size + 1) rfl rfl rfl (setRow_heap _ _ _ _ _ _ R5.out) ⟨by rw [HV.out.1, HV.out.2], B5.out.trans (ho.below B5.out.size (fun x hx => by rw [hx]; omega))⟩
          · by_cases hxy : y < x
            · clear z1 z2
              have HF : Hid (r = false) := by
                rw [← HR.out]
                cases hg : goodB P m with
                | false => rfl
                | true =>
                  rcases goodB_iff.1 hg with h1 | ⟨_, h2⟩
                  · exact absurd h1 HNO.out
                  · have h3 := h2 k hlt
                    rw [← HX.out, ← HY.out] at h3
                    omega
              have HV : Hid (meaV M = meaV [] ∧ r = false) := by
                rw [← HMM.out, HF.out]
                exact ⟨rfl, rfl⟩
              go_upto_region 10 with fail
              refine wp_region_lit ?_
              refine wpList_build rfl 88 _ rfl (by kernel_rfl) ?_
              simp only [Act.put, List.setIfInBounds_toArray, List.set_cons_zero, List.set_cons_succ]
              refine wpList_store_row rfl 88 _ _ rfl (w.heap.size + 1) (meaA []) rfl (by kernel_rfl) 88 (meaA []) R5.out (by kernel_rfl) rfl (meaA_one _) ?_
              simp only [Act.put, List.setIfInBounds_toArray, List.set_cons_zero, List.set_cons_succ]
              go_wp2_with fail
              have ho := only_row8 (S := fun x => x = w.heap.size + 1) (Only.refl _ wr) rfl (meaA [])
              exact ret_mea2 (g := w.heap.size + 1) rfl rfl rfl (setRow_heap _ _ _ _ _ _ R5.out) ⟨by rw [HV.out.1, HV.out.2], B5.out.trans (ho.below B5.out.size (fun x hx => by rw [hx]; omega))⟩
            · have HJn : Hid (∀ j, j < k + 1 → 0 ≤ nth m j ∧ nth m j ≤ nth (mostL P) j) := fun j hj => by
                by_cases e : j = k
                · rw [e, ← HX.out, ← HY.out]; omega
                · exact HJ.out j (by omega)
              go_wp2
              go_roundw
              case rel =>
                refine ⟨k + 1, by omega, by go_num, HJn, ?_, HO.out.setCell (p := ⟨w3.heap.size, k, none⟩) rfl _⟩
                rw [HX.out]
                exact mea_step hlt HN.out
              case measure => simp [intOf]; omega
        · have hi1 : ¬ (k : Int) < m.length := by omega
          have hkl : k = m.length := by omega
          have HF : Hid (r = true) := by
            rw [← HR.out]
            exact goodB_iff.2 (.inr ⟨by rw [← HLQ.out]; omega, fun j hj => HJ.out j (by omega)⟩)
          have HV : Hid (meaV M = meaV m ∧ r = true) := by
            rw [← HMM.out, HF.out]
            exact ⟨rfl, rfl⟩
          have HNc : Hid (wr.heap[w3.heap.size]? = some (.cells (meaA m) 88 (0, 0))) := by
            have h := mea_cells HN.out
            rw [hkl, List.take_length] at h
            exact h
          clear hkl HN
          go_upto_region 13 with fail
          refine wp_region_lit ?_
          refine wpList_load_row rfl 88 _ rfl w3.heap.size rfl 88 (meaA m) (0, 0) _ HNc.out Tryd.underlying88 rfl (by kernel_rfl) ?_
          simp only [Act.put, List.setIfInBounds_toArray, List.set_cons_zero, List.set_cons_succ]
          refine wpList_store_row rfl 88 _ _ rfl (w.heap.size + 1) (meaA m) rfl rfl 88 (meaA []) R5.out (by kernel_rfl) rfl (meaA_one _) ?_
          simp only [Act.put, List.setIfInBounds_toArray, List.set_cons_zero, List.set_cons_succ]
          go_wp2_with fail
          have ho := only_row8 (S := fun x => x = w.heap.size + 1) (Only.refl _ wr) rfl (meaA m)
          exact ret_mea2 (g := w.heap.size + 1) rfl rfl rfl (setRow_heap _ _ _ _ _ _ R5.out) ⟨by rw [HV.out.1, HV.out.2], B5.out.trans (ho.below B5.out.size (fun x hx => by rw [hx]; omega))⟩
    · have hDi : ((m.length : Int) != 1 + (lq : Int)) = true := by simp; omega
      have HF : Hid (r = false) := by
        rw [← HR.out]
        cases hg : goodB P m with
        | false => rfl
        | true =>
          rcases goodB_iff.1 hg with h1 | ⟨h2, _⟩
          · exact absurd h1 HNO.out
          · rw [← HLQ.out] at h2; exact absurd h2 hD
      have HV : Hid (meaV M = meaV [] ∧ r = false) := by
        rw [← HMM.out, HF.out]
        exact ⟨rfl, rfl⟩
      rw [HV.out.1, HV.out.2]
      clear hD
      go_enter Tryd.func117, Tryd.ntmps117
      go_wp2_with fail
      rw [← HW1.out, ← HS1.out, ← HW2.out]
      refine HC.out.mono ?_
      rintro e w3 ⟨rfl, hdq⟩
      have hb3 : Below w2.heap.size w2 w3 := by obtain ⟨q, rfl⟩ := hdq; exact below_drewN (Below.refl _ _) q
      have B3 := Lib.hid (B2.out.trans (hb3.mono B2.out.size))
      have K3 := Lib.hid (K2.out.trans (hb3.mono K2.out.size))
      have R3 := Lib.hid ((K3.out.block _ (Array.getElem?_eq_some_iff.1 R1.out).1).trans R1.out)
      have S3 := Lib.hid (rowIs_below S1.out K3.out)
      clear hdq hb3 HC
      have c3 : (w3.alloc (.cells #[.int .i64 0, .int .i64 0, .int .i64 0, .int .i64 0, .int .i64 0, .int .i64 0, .int .i64 0, .int .i64 0, .int .i64 0, .int .i64 0, .int .i64 0, .int .i64 0, .int .i64 0] 88)).cell? ⟨w.heap.size, 3, none⟩ = some (.slice aq lq cq) := (World.rowIs.alloc S3.out _).cell (i := 3) (by omega)
      have c3' : w3.cell? ⟨w.heap.size, 3, none⟩ = some (.slice aq lq cq) := S3.out.cell (i := 3) (by omega)
      have hb4 : Below w3.heap.size w3 (w3.alloc (.cells #[.int .i64 0, .int .i64 0, .int .i64 0, .int .i64 0, .int .i64 0, .int .i64 0, .int .i64 0, .int .i64 0, .int .i64 0, .int .i64 0, .int .i64 0, .int .i64 0, .int .i64 0] 88)) := below1 _ _
      have N4 : Hid ((w3.alloc (.cells #[.int .i64 0, .int .i64 0, .int .i64 0, .int .i64 0, .int .i64 0, .int .i64 0, .int .i64 0, .int .i64 0, .int .i64 0, .int .i64 0, .int .i64 0, .int .i64 0, .int .i64 0] 88)).heap[w3.heap.size]? = some (.cells (meaA []) 88 (0, 0))) := heap_alloc_new _ _
      have R4 := Lib.hid ((hb4.block _ (Array.getElem?_eq_some_iff.1 R3.out).1).trans R3.out)
      have B4 := Lib.hid (B3.out.trans (hb4.mono B3.out.size))
      clear hb4
      go_upto_region 5 with fail
      refine wp_region_lit ?_
      refine wpList_load_row rfl 88 _ rfl w3.heap.size rfl 88 (meaA []) (0, 0) _ N4.out Tryd.underlying88 rfl (by kernel_rfl) ?_
      simp only [Act.put, List.setIfInBounds_toArray, List.set_cons_zero, List.set_cons_succ]
      refine wpList_store_row rfl 88 _ _ rfl (w.heap.size + 1) (meaA []) rfl rfl 88 (meaA []) R4.out (by kernel_rfl) rfl (meaA_one _) ?_
      simp only [Act.put, List.setIfInBounds_toArray, List.set_cons_zero, List.set_cons_succ]
      go_wp2_with fail
      have ho := only_row8 (S := fun x => x = w.heap.size + 1) (Only.refl _ (w3.alloc (.cells #[.int .i64 0, .int .i64 0, .int .i64 0, .int .i64 0, .int .i64 0, .int .i64 0, .int .i64 0, .int .i64 0, .int .i64 0, .int .i64 0, .int .i64 0, .int .i64 0, .int .i64 0] 88))) rfl (meaA [])
      exact ret_mea2 (g := w.heap.size + 1) rfl rfl rfl (setRow_heap _ _ _ _ _ _ R4.out) ⟨rfl, B4.out.trans (ho.below B4.out.size (fun x hx => by rw [hx]; omega))⟩
end
end Go.Proofs.YtglbkbiphcgidaaDoor
namespace Go.Proofs.YtglbkbiphcgidaaDoor
section
open Go.RowKit Go.Shelf

theorem info_mea : (Tryd.prog.info? 88).map (fun i => (i.zero, i.size, i.bytes)) = some (some (.agg #[.int .i64 0, .int .i64 0, .int .i64 0, .int .i64 0, .int .i64 0, .int .i64 0, .int .i64 0, .int .i64 0, .int .i64 0, .int .i64 0, .int .i64 0, .int .i64 0, .int .i64 0]), 13, 104) := by kernel_rfl
theorem scaA_one {a b c d : Value} (ha : a.oneCell' = true) (hb : b.oneCell' = true) (hc : c.oneCell' = true) (hd : d.oneCell' = true) (M : List Int) : (scaA a b c d M).all (·.oneCell') = true := by
  have h : ∀ n, (Value.int .i64 n).oneCell' = true := fun _ => rfl
  simp [scaA, ha, hb, hc, hd, h]
/-- The cells of measures, one behind another. -/
def meaL (ls : List (List Int)) : List Value := (ls.map fun m => (meaA m).toList).flatten
theorem meaL_snoc {ls : List (List Int)} {k : Nat} (h : k < ls.length) : meaL (ls.take (k + 1)) = meaL (ls.take k) ++ (meaA (row ls k)).toList := by
  unfold meaL
  rw [List.take_succ_eq_append_getElem h, List.map_append, List.flatten_append]
  congr 1
  have e : row ls k = ls[k] := by unfold row; simp [h]
  rw [e]
  simp
set_option linter.unusedSimpArgs false in
theorem wpList_move8 {P : Program} {ops : Array Oper} {rest : List Oper} {o : Oper} {a : Act} {w : World} {Q : Exit → Act → World → Prop} (hgd : o.guard = none) (x : Operand) (ho : o.op = .move x ∨ o.op = .assign x) (h : wpList P ops Q rest (a.put o.dst (a.eval x)) w) : wpList P ops Q (o :: rest) a w := by
  refine wpList_plain hgd fun K hK => ?_
  unfold Oper.wp execOp
  rcases ho with ho | ho <;> simp only [ho, Sem.run_pure, Sem.run_bind, Result.andThen_ok] <;> exact hK _ _ h
theorem fill_mea (m : List Int) : Instr.fill (fun i => some (i * 13, 13)) ((Array.range (1 * 13)).map ((Value.agg #[.int .i64 0, .int .i64 0, .int .i64 0, .int .i64 0, .int .i64 0, .int .i64 0, .int .i64 0, .int .i64 0, .int .i64 0, .int .i64 0, .int .i64 0, .int .i64 0, .int .i64 0]).cells[· % (Value.agg #[.int .i64 0, .int .i64 0, .int .i64 0, .int .i64 0, .int .i64 0, .int .i64 0, .int .i64 0, .int .i64 0, .int .i64 0, .int .i64 0, .int .i64 0, .int .i64 0, .int .i64 0]).cells.size]!)) [(0, .agg (meaA m))] = some (meaA m) := by kernel_rfl
theorem mea_news {w : World} {g : Nat} {T : TypeId} {m : List Int} (h : w.heap[g]? = some (.cells (meaA m) T (0, 0))) : ∀ j u, (meaA m).toList[j]? = some u → w.cell? ((⟨g, 0, none⟩ : Addr).add j) = some u := by
  intro j u hj
  rw [Addr.add_mid, Nat.zero_add, cell_of_row _ _ _ _ _ _ h, ← Array.getElem?_toList]
  exact hj
theorem mea_ones (m : List Int) : ∀ u ∈ (meaA m).toList, u.oneCell' = true := by
  intro u hu
  have h := meaA_one m
  rw [Array.all_eq_true'] at h
  exact h u (by simpa using hu)
theorem ret_sca3 {fn : Func} {p q r : Tmp} {tmps : Array Value} {W : World} {g : Nat} {a b c d va : Value} {M : List Int} {x : Bool} {R : Ending → World → Prop} (hr : fn.results = #[.cell p 90, .tmp q, .tmp r]) (hp : tmps.getD p undef = .pointer (some ⟨g, 0, none⟩)) (hq : tmps.getD q undef = va) (hx : tmps.getD r undef = .bool x)
    (hM : W.heap[g]? = some (.cells (scaA a b c d M) 90 (0, 0))) (hR : R (.returned (.tuple #[scaV a b c d M, va, .bool x])) W) : bodyPost Tryd.prog fn R .ret { tmps := tmps, defers := [] } W := by
  refine bodyPost_ret (v := .tuple #[scaV a b c d M, va, .bool x]) ?_ rfl hR
  have hp' : tmps[p]?.getD undef = .pointer (some ⟨g, 0, none⟩) := by simpa using hp
  have hq' : tmps[q]?.getD undef = va := by simpa using hq
  have hx' : tmps[r]?.getD undef = .bool x := by simpa using hx
  have hl := run_loadVar_row (P := Tryd.prog) W g 90 90 (scaA a b c d M) (0, 0) _ hM Tryd.underlying90 rfl (by kernel_rfl)
  simp [results, hr, hp', hq', hx', asAddr, hl, scaV]

/-- Are all of the lists measures of a small game? -/
noncomputable def goodsB (O : List Int) (zss : List (List Int)) (P : List Int) (ls : List (List Int)) : Bool := smallB O zss P && ls.all (goodB P)
theorem goodsB_no {O P : List Int} {zss ls : List (List Int)} {k : Nat} (hk : k < ls.length) (h : goodB P (row ls k) = false) : goodsB O zss P ls = false := by
  cases hg : goodsB O zss P ls with
  | false => rfl
  | true =>
    unfold goodsB at hg
    rw [Bool.and_eq_true, List.all_eq_true] at hg
    have e : row ls k = ls[k] := by unfold row; simp [hk]
    rw [e, hg.2 _ (List.getElem_mem hk)] at h
    cases h
theorem goodsB_yes {O P : List Int} {zss ls : List (List Int)} (hs : smallB O zss P = true) (h : ∀ k, k < ls.length → goodB P (row ls k) = true) : goodsB O zss P ls = true := by
  unfold goodsB
  rw [hs, Bool.true_and, List.all_eq_true]
  intro x hx
  obtain ⟨k, hk, rfl⟩ := List.mem_iff_getElem.1 hx
  have e : row ls k = ls[k] := by unfold row; simp [hk]
  rw [← e]; exact h k hk

set_option linter.unusedSimpArgs false in
set_option maxRecDepth 100000 in
set_option maxHeartbeats 16000000 in
theorem measuresIn_is {w : World} {v : Value} {O P : List Int} {zss ls : List (List Int)} {al : Option Addr} {LA : Nat → Option Addr} {LC : Nat → Nat} {r : Bool} (cl : Nat) (hr : goodsB O zss P ls = r) (hW : LostW w) (h : GameAt w v O zss P) (hls : RowsAt w al LA LC ls) (hll : ls.length ≤ 1048576) :
    Calls Tryd.prog 74 #[v, .slice al ls.length cl] w fun e w' => ∃ a b c d M va, e = .returned (.tuple #[scaV a b c d M, va, .bool r]) ∧ (r = true → ScaleAt w' (scaV a b c d M) O zss P ∧ w'.ownsRow w.heap.size 88 13 va ls.length (meaL ls)) ∧ (∃ x y z, va = .slice x y z) ∧ (a.oneCell' = true ∧ b.oneCell' = true ∧ c.oneCell' = true ∧ d.oneCell' = true) ∧ Below w.heap.size w w' := by
  obtain ⟨i0, hi, hz0, hz1, hz2⟩ := info_parts' info_mea
  have HGm := Lib.hid h
  obtain ⟨ao, an, ap, co, cn, cp, A, C, rfl, h1, h2, h3⟩ := h
  obtain ⟨w1, hw1⟩ : ∃ y, y = (w.alloc (.cells #[.slice ao O.length co, .slice an zss.length cn, .slice ap P.length cp] 35)).alloc (.cells #[.slice none 0 0, .slice none 0 0, .slice none 0 0, .slice none 0 0, .int .i64 0, .int .i64 0, .int .i64 0, .int .i64 0, .int .i64 0, .int .i64 0, .int .i64 0, .int .i64 0, .int .i64 0, .int .i64 0, .int .i64 0, .int .i64 0, .int .i64 0] 90) := ⟨_, rfl⟩
  have HW1 := Lib.hid hw1
  have B1 : Hid (Below w.heap.size w w1) := by rw [hw1]; exact below2 _ _ _
  have T1 : Hid (Box3 w1 w.heap.size 35 (.slice ao O.length co) (.slice an zss.length cn) (.slice ap P.length cp)) := by rw [hw1]; exact (Box3.new _ _ _ _ _).below (below1 _ _)
  have R1 : Hid (w1.heap[w.heap.size + 1]? = some (.cells (scaA (.slice none 0 0) (.slice none 0 0) (.slice none 0 0) (.slice none 0 0) []) 90 (0, 0))) := by rw [hw1]; exact heap_alloc2_new _ _ _
  have hs1 : Hid (w1.heap.size = w.heap.size + 2) := by rw [hw1]; simp [Hid]
  have HLs := Lib.hid hls
  have hln := hls.len
  have HL := Lib.hid hW
  have HR := Lib.hid hr
  have t0 := T1.out.c0
  have t1 := T1.out.c1
  have t2 := T1.out.c2
  clear hw1 h1 h2 h3 hls hW hr
  cases hs : smallB O zss P with
  | false =>
    have HC := Lib.hid (isSmall_is hs (HGm.out.below B1.out))
    have HF : Hid (r = false) := by rw [← HR.out]; unfold goodsB; rw [hs]; rfl
    clear hs
    go_enter Tryd.func74, Tryd.ntmps74
    go_wp2_with fail
    rw [← HW1.out]
    refine HC.out.mono ?_
    rintro e w2 ⟨rfl, hb⟩
    have B2 := Lib.hid (B1.out.trans (hb.mono B1.out.size))
    have R2 := Lib.hid ((hb.block _ (Array.getElem?_eq_some_iff.1 R1.out).1).trans R1.out)
    clear hb HC t0 t1 t2
    go_upto_region 2 with fail
    refine wp_region_lit ?_
    refine wpList_build rfl 90 _ rfl (by kernel_rfl) ?_
    simp only [Act.put, List.setIfInBounds_toArray, List.set_cons_zero, List.set_cons_succ]
    (refine wpList_store_row rfl 90 _ _ rfl (w.heap.size + 1) (scaA (.slice none 0 0) (.slice none 0 0) (.slice none 0 0) (.slice none 0 0) []) rfl (by first | rfl | kernel_rfl) 90 (scaA (.slice none 0 0) (.slice none 0 0) (.slice none 0 0) (.slice none 0 0) []) R2.out (by kernel_rfl) rfl (scaA_one rfl rfl rfl rfl _) ?_; simp only [Act.put, List.setIfInBounds_toArray, List.set_cons_zero, List.set_cons_succ])
    go_wp2_with fail
    have ho := only_row8 (S := fun x => x = w.heap.size + 1) (Only.refl _ w2) rfl (scaA (.slice none 0 0) (.slice none 0 0) (.slice none 0 0) (.slice none 0 0) [])
    rw [HF.out]
    exact ret_sca3 (g := w.heap.size + 1) rfl rfl rfl rfl (setRow_heap _ _ _ _ _ _ R2.out) ⟨_, _, _, _, _, _, rfl, (fun h => by cases h), ⟨_, _, _, rfl⟩, ⟨rfl, rfl, rfl, rfl⟩, B2.out.trans (ho.below B2.out.size (fun x hx => by rw [hx]; omega))⟩
  | true =>
    obtain ⟨hn, hp⟩ := smallB_iff.1 hs
    obtain ⟨hA, hPl, hPr⟩ := parityB_iff.1 hp
    have hn0 : 0 < P.length := by have := hA.1; omega
    have hl12 : (oddsL P).length ≤ 12 := Nat.le_trans (odds_len hPr) hn
    have HNS := Lib.hid (fun (W : World) (hb : Below w.heap.size w W) => newScale_is hPr hn0 hn (HGm.out.below hb))
    have HC := Lib.hid (isSmall_is hs (HGm.out.below B1.out))
    have HSm := Lib.hid hs
    clear hs hp hA hPl hPr
    go_enter Tryd.func74, Tryd.ntmps74
    go_wp2_with fail
    rw [← HW1.out]
    refine HC.out.mono ?_
    rintro e w2 ⟨rfl, hb⟩
    have B2 := Lib.hid (B1.out.trans (hb.mono B1.out.size))
    have R2 := Lib.hid ((hb.block _ (Array.getElem?_eq_some_iff.1 R1.out).1).trans R1.out)
    have T2 := Lib.hid (T1.out.below hb)
    have hsA := hb.size
    clear hb HC t0 t1 t2
    have t0 := T2.out.c0
    have t1 := T2.out.c1
    have t2 := T2.out.c2
    go_wp2_with fail
    refine (HNS.out w2 B2.out).mono ?_
    rintro e w3 ⟨aq, cq, rfl, hq3, hb⟩
    obtain ⟨sa, hsa⟩ : ∃ sa, sa = Value.slice ao O.length co := ⟨_, rfl⟩
    obtain ⟨sb, hsb⟩ : ∃ sb, sb = Value.slice an zss.length cn := ⟨_, rfl⟩
    obtain ⟨sc, hsc⟩ : ∃ sc, sc = Value.slice ap P.length cp := ⟨_, rfl⟩
    obtain ⟨sd, hsd⟩ : ∃ sd, sd = Value.slice aq (oddsL P).length cq := ⟨_, rfl⟩
    have HSA : Hid (∀ W, Below w.heap.size w W → OwnInts W w2.heap.size W.heap.size (.slice aq (oddsL P).length cq) (oddsL P) → ScaleAt W (scaV sa sb sc sd (mostL P)) O zss P) := fun W hb ho => ⟨ao, an, ap, aq, co, cn, cp, cq, by rw [hsa, hsb, hsc, hsd], HGm.out.below hb, own_ints8 ho⟩
    have HS3 := Lib.hid (HSA.out w3 (B2.out.trans (hb.mono B2.out.size)) hq3)
    have HQ3 := Lib.hid hq3
    have HO1 : Hid (sa.oneCell' = true ∧ sb.oneCell' = true ∧ sc.oneCell' = true ∧ sd.oneCell' = true) := by rw [hsa, hsb, hsc, hsd]; exact ⟨rfl, rfl, rfl, rfl⟩
    rw [← hsa, ← hsb, ← hsc, ← hsd]
    have B3 := Lib.hid (B2.out.trans (hb.mono B2.out.size))
    have R3 := Lib.hid ((hb.block _ (Array.getElem?_eq_some_iff.1 R2.out).1).trans R2.out)
    have hN3 : (w3.alloc (.cells #[.slice none 0 0, .slice none 0 0, .slice none 0 0, .slice none 0 0, .int .i64 0, .int .i64 0, .int .i64 0, .int .i64 0, .int .i64 0, .int .i64 0, .int .i64 0, .int .i64 0, .int .i64 0, .int .i64 0, .int .i64 0, .int .i64 0, .int .i64 0] 90)).heap[w3.heap.size]? = some (.cells (scaA (.slice none 0 0) (.slice none 0 0) (.slice none 0 0) (.slice none 0 0) []) 90 (0, 0)) := heap_alloc_new _ _
    have HN3 := Lib.hid hN3
    have hg33 : w.heap.size + 2 ≤ w3.heap.size := by have := hb.size; have := hs1.out; omega
    clear hb t0 t1 t2 hN3 hq3 hsa hsb hsc hsd
    go_wp2_with (refine wpList_store_row rfl 90 _ _ rfl w3.heap.size (scaA sa sb sc sd (mostL P)) rfl (by first | rfl | kernel_rfl) 90 (scaA (.slice none 0 0) (.slice none 0 0) (.slice none 0 0) (.slice none 0 0) []) HN3.out (by kernel_rfl) rfl (scaA_one HO1.out.1 HO1.out.2.1 HO1.out.2.2.1 HO1.out.2.2.2 _) ?_; simp only [Act.put, List.setIfInBounds_toArray, List.set_cons_zero, List.set_cons_succ])
    obtain ⟨w4, hw4⟩ : ∃ y, y = (w3.alloc (.cells #[.slice none 0 0, .slice none 0 0, .slice none 0 0, .slice none 0 0, .int .i64 0, .int .i64 0, .int .i64 0, .int .i64 0, .int .i64 0, .int .i64 0, .int .i64 0, .int .i64 0, .int .i64 0, .int .i64 0, .int .i64 0, .int .i64 0, .int .i64 0] 90)).setRow w3.heap.size (scaA sa sb sc sd (mostL P)) := ⟨_, rfl⟩
    rw [← hw4]
    have hb4 : Below w3.heap.size w3 w4 := by
      rw [hw4]
      exact (below1 w3 _).trans ((only_row8 (S := fun x => x = w3.heap.size) (Only.refl _ _) rfl _).below (below1 w3 _).size (fun x hx => by rw [hx]; exact Nat.le_refl _))
    have N4 : Hid (w4.heap[w3.heap.size]? = some (.cells (scaA sa sb sc sd (mostL P)) 90 (0, 0))) := by rw [hw4]; exact setRow_heap _ _ _ _ _ _ HN3.out
    have hs4 : w3.heap.size < w4.heap.size := by have := (Array.getElem?_eq_some_iff.1 N4.out).1; exact this
    have B4 := Lib.hid (B3.out.trans (hb4.mono B3.out.size))
    have S4 := Lib.hid (HS3.out.below hb4)
    have Q4 := Lib.hid (HQ3.out.below hb4)
    have R4 := Lib.hid ((hb4.block _ (Array.getElem?_eq_some_iff.1 R3.out).1).trans R3.out)
    have O4 : Hid (w4.ownsRow w4.heap.size 88 13 (.slice none 0 0) 0 (meaL (ls.take 0))) := World.ownsRow_nil _ _ _ _
    clear hw4 hb4 HN3
    go_loopw [8, 21] (fun va iv wr => ∃ k : Nat, k ≤ ls.length ∧ iv = .int .i64 k ∧ Hid (∀ j, j < k → goodB P (row ls j) = true) ∧ Hid (wr.ownsRow w4.heap.size 88 13 va k (meaL (ls.take k))) ∧ Hid (Below w4.heap.size w4 wr)) (fun _ iv _ => ls.length - (intOf iv).toNat)
    case atStart => exact ⟨0, Nat.zero_le _, rfl, fun j hj => absurd hj (Nat.not_lt_zero _), O4, Below.refl _ _⟩
    case round =>
      clear O4
      obtain ⟨k, hk, rfl, HJ, HO, HB⟩ := hrel
      have B5 := Lib.hid (B4.out.trans (HB.out.mono B4.out.size))
      have N5 := Lib.hid ((HB.out.block _ (Array.getElem?_eq_some_iff.1 N4.out).1).trans N4.out)
      have R5 := Lib.hid ((HB.out.block _ (Array.getElem?_eq_some_iff.1 R4.out).1).trans R4.out)
      have S5 := Lib.hid (S4.out.below HB.out)
      have Q5 := Lib.hid (Q4.out.below HB.out)
      by_cases hlt : k < ls.length
      · have hi1 : (k : Int) < ls.length := by omega
        have hk0 : (0 : Int) ≤ (k : Int) := by omega
        have HLr := Lib.hid (HLs.out.below B5.out)
        obtain ⟨lb, lo, hla, hlc⟩ := HLr.out.cell (by omega)
        have x1 := hlc k hlt
        have HRI := Lib.hid (HLr.out.rows k hlt)
        obtain ⟨mm, hmm⟩ : ∃ mm, mm = row ls k := ⟨_, rfl⟩
        have HMM := Lib.hid hmm
        rw [← hmm] at x1 HRI
        subst hla
        clear hlc hmm
        obtain ⟨g, hg⟩ : ∃ g, goodB P mm = g := ⟨_, rfl⟩
        have HMO : Hid (Calls Tryd.prog 117 #[scaV sa sb sc sd (mostL P), .slice (LA k) mm.length (LC k)] wr fun e w' => e = .returned (.tuple #[meaV (if g = true then mm else []), .bool g]) ∧ Below wr.heap.size wr w') := by
          rw [← hg]
          exact measureOf_is (LC k) (HL.out.below B5.out) S5.out HRI.out hl12
        cases g with
        | true =>
          have HG : Hid (∀ j, j < k + 1 → goodB P (row ls j) = true) := fun j hj => by
            by_cases e : j = k
            · rw [e, ← HMM.out]; exact hg
            · exact HJ.out j (by omega)
          rw [if_pos rfl] at HMO
          clear hg
          go_upto_region 11 with (first | (refine wpList_load_row rfl 90 _ rfl w3.heap.size rfl 90 (scaA sa sb sc sd (mostL P)) (0, 0) _ N5.out Tryd.underlying90 rfl (by kernel_rfl) ?_; simp only [Act.put, List.setIfInBounds_toArray, List.set_cons_zero, List.set_cons_succ]) | (go_at_call 117; refine HMO.out.mono ?_; rintro e w6 ⟨rfl, hb⟩; have K6 := Lib.hid hb; clear hb) | (refine wpList_store_row rfl 88 _ _ rfl w6.heap.size (meaA mm) rfl (by first | rfl | kernel_rfl) 88 (meaA []) (heap_alloc_new w6 _) (by kernel_rfl) rfl (meaA_one _) ?_; simp only [Act.put, List.setIfInBounds_toArray, List.set_cons_zero, List.set_cons_succ]))
          obtain ⟨w7, hw7⟩ : ∃ y, y = (w6.alloc (.cells #[.int .i64 0, .int .i64 0, .int .i64 0, .int .i64 0, .int .i64 0, .int .i64 0, .int .i64 0, .int .i64 0, .int .i64 0, .int .i64 0, .int .i64 0, .int .i64 0, .int .i64 0] 88)).setRow w6.heap.size (meaA mm) := ⟨_, rfl⟩
          rw [← hw7]
          have hb7 : Below w6.heap.size w6 w7 := by
            rw [hw7]
            exact (below1 w6 _).trans ((only_row8 (S := fun x => x = w6.heap.size) (Only.refl _ _) rfl _).below (below1 w6 _).size (fun x hx => by rw [hx]; exact Nat.le_refl _))
          have N7 : Hid (w7.heap[w6.heap.size]? = some (.cells (meaA mm) 88 (0, 0))) := by rw [hw7]; exact setRow_heap _ _ _ _ _ _ (heap_alloc_new _ _)
          have K7 := Lib.hid (K6.out.trans (hb7.mono K6.out.size))
          have hb8 : Below w7.heap.size w7 (w7.alloc (.cells (meaA mm) 88)) := below1 _ _
          have K8 := Lib.hid (K7.out.trans (hb8.mono K7.out.size))
          have N8 : Hid ((w7.alloc (.cells (meaA mm) 88)).heap[w7.heap.size]? = some (.cells (meaA mm) 88 (0, 0))) := heap_alloc_new _ _
          have O8 := Lib.hid (ownsRow_only HO.out (S := fun _ => False) (Only.of_below K8.out) (fun _ _ h => h))
          have hsB := HB.out.size
          have hsK := K8.out.size
          clear hw7 hb7 hb8
          refine wp_region_lit ?_
          refine wpList_move8 rfl _ (.inl rfl) ?_
          simp only [Act.put, List.setIfInBounds_toArray, List.set_cons_zero, List.set_cons_succ]
          (refine wpList_load_row rfl 88 _ rfl w6.heap.size rfl 88 (meaA mm) (0, 0) _ N7.out Tryd.underlying88 rfl (by kernel_rfl) ?_; simp only [Act.put, List.setIfInBounds_toArray, List.set_cons_zero, List.set_cons_succ])
          (refine wpList_buildSlice rfl 91 88 1 _ rfl (meaA mm) i0 _ Tryd.underlying91 hi hz0 (by rw [hz1]; decide) (by rw [hz1]; decide) (by rw [hz1]; exact (congrArg (Instr.fill _ _) (by kernel_rfl)).trans (fill_mea mm)) ?_; simp only [Act.put, List.setIfInBounds_toArray, List.set_cons_zero, List.set_cons_succ])
          (refine wpList_append_own_at _ rfl _ _ 91 rfl w4.heap.size 88 i0 _ 13 104 Tryd.underlying91 hi hz0 hz1 hz2 rfl (by decide) _ _ _ rfl O8.out ⟨w7.heap.size, 0, none⟩ 1 1 (meaA mm).toList rfl rfl ?c1 ?c2 ?c3 ?c4 ?c5 ?_)
          case c1 => exact mea_news N8.out
          case c2 => exact mea_ones mm
          case c3 => unfold maxLen; omega
          case c4 => omega
          case c5 => omega
          intro v' w9 hown hgrow _ _
          have hg9 : Only (fun b => w4.heap.size ≤ b) (w7.alloc (.cells (meaA mm) 88)) w9 := (Only.of_grown hgrow).mono fun b hb => (O8.out.lt b hb).1
          have Kn := Lib.hid (((HB.out.trans (K8.out.mono hsB))).trans (hg9.below (B := w4.heap.size) (Nat.le_trans hsB hsK) (fun _ h => h)))
          have HOn : Hid (w9.ownsRow w4.heap.size 88 13 v' (k + 1) (meaL (ls.take (k + 1)))) := by
            rw [meaL_snoc hlt, ← HMM.out]; exact hown
          clear hown hgrow hg9
          go_wp2
          go_roundw
          case rel => exact ⟨k + 1, by omega, by go_num, HG, HOn, Kn⟩
          case measure => simp [intOf]; omega
        | false =>
          have HF : Hid (r = false) := by rw [← HR.out]; exact goodsB_no hlt (by rw [← HMM.out]; exact hg)
          rw [if_neg (by decide)] at HMO
          clear hg
          go_upto_region 10 with (first | (refine wpList_load_row rfl 90 _ rfl w3.heap.size rfl 90 (scaA sa sb sc sd (mostL P)) (0, 0) _ N5.out Tryd.underlying90 rfl (by kernel_rfl) ?_; simp only [Act.put, List.setIfInBounds_toArray, List.set_cons_zero, List.set_cons_succ]) | (go_at_call 117; refine HMO.out.mono ?_; rintro e w6 ⟨rfl, hb⟩; have K6 := Lib.hid hb; clear hb) | (refine wpList_store_row rfl 88 _ _ rfl w6.heap.size (meaA []) rfl (by first | rfl | kernel_rfl) 88 (meaA []) (heap_alloc_new w6 _) (by kernel_rfl) rfl (meaA_one _) ?_; simp only [Act.put, List.setIfInBounds_toArray, List.set_cons_zero, List.set_cons_succ]))
          obtain ⟨w7, hw7⟩ : ∃ y, y = (w6.alloc (.cells #[.int .i64 0, .int .i64 0, .int .i64 0, .int .i64 0, .int .i64 0, .int .i64 0, .int .i64 0, .int .i64 0, .int .i64 0, .int .i64 0, .int .i64 0, .int .i64 0, .int .i64 0] 88)).setRow w6.heap.size (meaA []) := ⟨_, rfl⟩
          rw [← hw7]
          have hb7 : Below w6.heap.size w6 w7 := by
            rw [hw7]
            exact (below1 w6 _).trans ((only_row8 (S := fun x => x = w6.heap.size) (Only.refl _ _) rfl _).below (below1 w6 _).size (fun x hx => by rw [hx]; exact Nat.le_refl _))
          have K7 := K6.out.trans (hb7.mono K6.out.size)
          have R7 := Lib.hid ((K7.block _ (Array.getElem?_eq_some_iff.1 R5.out).1).trans R5.out)
          have B7 := Lib.hid (B5.out.trans (K7.mono B5.out.size))
          clear hw7 hb7 K7
          refine wp_region_lit ?_
          refine wpList_build rfl 90 _ rfl (by kernel_rfl) ?_
          simp only [Act.put, List.setIfInBounds_toArray, List.set_cons_zero, List.set_cons_succ]
          (refine wpList_store_row rfl 90 _ _ rfl (w.heap.size + 1) (scaA (.slice none 0 0) (.slice none 0 0) (.slice none 0 0) (.slice none 0 0) []) rfl (by first | rfl | kernel_rfl) 90 (scaA (.slice none 0 0) (.slice none 0 0) (.slice none 0 0) (.slice none 0 0) []) R7.out (by kernel_rfl) rfl (scaA_one rfl rfl rfl rfl _) ?_; simp only [Act.put, List.setIfInBounds_toArray, List.set_cons_zero, List.set_cons_succ])
          go_wp2_with fail
          have ho := only_row8 (S := fun x => x = w.heap.size + 1) (Only.refl _ w7) rfl (scaA (.slice none 0 0) (.slice none 0 0) (.slice none 0 0) (.slice none 0 0) [])
          exact ret_sca3 (g := w.heap.size + 1) rfl rfl rfl rfl (setRow_heap _ _ _ _ _ _ R7.out) ⟨.slice none 0 0, .slice none 0 0, .slice none 0 0, .slice none 0 0, [], .slice none 0 0, by rw [HF.out]; rfl, (fun h => by rw [HF.out] at h; cases h), ⟨_, _, _, rfl⟩, ⟨rfl, rfl, rfl, rfl⟩, B7.out.trans (ho.below B7.out.size (fun x hx => by rw [hx]; omega))⟩
      · have hi1 : ¬ (k : Int) < ls.length := by omega
        have hkl : k = ls.length := by omega
        have HT : Hid (r = true) := by rw [← HR.out]; exact goodsB_yes HSm.out (fun j hj => HJ.out j (by omega))
        have HOe : Hid (wr.ownsRow w4.heap.size 88 13 u8 ls.length (meaL ls)) := by
          have h := HO.out
          rw [hkl, List.take_length] at h
          exact h
        obtain ⟨vx, vy, vz, hva⟩ : ∃ x y z, u8 = .slice x y z := by
          rcases HOe.out.2 with ⟨h, _⟩ | ⟨_, _, _, h, _⟩
          · exact ⟨_, _, _, h⟩
          · exact ⟨_, _, _, h⟩
        subst hva
        clear HO hkl
        go_upto_region 13 with fail
        refine wp_region_lit ?_
        go_wp2_with (first | (refine wpList_load_row rfl 90 _ rfl w3.heap.size rfl 90 (scaA sa sb sc sd (mostL P)) (0, 0) _ N5.out Tryd.underlying90 rfl (by kernel_rfl) ?_; simp only [Act.put, List.setIfInBounds_toArray, List.set_cons_zero, List.set_cons_succ]) | (refine wpList_store_row rfl 90 _ _ rfl (w.heap.size + 1) (scaA sa sb sc sd (mostL P)) rfl (by first | rfl | kernel_rfl) 90 (scaA (.slice none 0 0) (.slice none 0 0) (.slice none 0 0) (.slice none 0 0) []) R5.out (by kernel_rfl) rfl (scaA_one HO1.out.1 HO1.out.2.1 HO1.out.2.2.1 HO1.out.2.2.2 _) ?_; simp only [Act.put, List.setIfInBounds_toArray, List.set_cons_zero, List.set_cons_succ]))
        have ho := only_row8 (S := fun x => x = w.heap.size + 1) (Only.refl _ wr) rfl (scaA sa sb sc sd (mostL P))
        have hs9 := HB.out.size
        have hbz := ho.below (B := w.heap.size) B5.out.size (fun x hx => by rw [hx]; omega)
        refine ret_sca3 (g := w.heap.size + 1) rfl rfl rfl rfl (setRow_heap _ _ _ _ _ _ R5.out) ⟨sa, sb, sc, sd, mostL P, .slice vx vy vz, by rw [HT.out]; rfl, (fun _ => ⟨HSA.out _ (B5.out.trans hbz) (Q5.out.only ho (fun g hg e => by have := (Q5.out.own.lt g hg).1; have := hs1.out; omega)).retop, ownsRow_base (ownsRow_only HOe.out ho (fun g hg e => by have := (HOe.out.lt g hg).1; omega)) (by omega)⟩), ⟨_, _, _, rfl⟩, HO1.out, B5.out.trans hbz⟩
end
end Go.Proofs.YtglbkbiphcgidaaDoor
namespace Go.Proofs.YtglbkbiphcgidaaDoor
section
open Go.RowKit Go.Shelf

theorem rows_one8 {w : World} {am : Option Addr} {cm : Nat} {m : List Int} {T : TypeId} (h : IntsAt w am m) : RowsAt (w.alloc (.cells #[.slice am m.length cm] T)) (some ⟨w.heap.size, 0, none⟩) (fun _ => am) (fun _ => cm) [m] := by
  refine ⟨by simp, fun _ => ⟨w.heap.size, 0, rfl, fun k hk => ?_⟩, fun k hk => ?_⟩
  · have : k = 0 := by simpa using hk
    subst this
    exact cell_one_new _ _ _ 0 _ rfl
  · have : k = 0 := by simpa using hk
    subst this
    exact h.alloc _

set_option linter.unusedSimpArgs false in
set_option maxRecDepth 100000 in
set_option maxHeartbeats 16000000 in
theorem MeasureOk_is {w : World} {v : Value} {O P m : List Int} {zss : List (List Int)} {am : Option Addr} {r : Bool} (hW : LostW w) (cm : Nat) (hr : measB O zss P m = r) (h : GameAt w v O zss P) (hm : IntsAt w am m) :
    Calls Tryd.prog 28 #[v, .slice am m.length cm] w fun e w' => e = .returned (.bool r) ∧ Below w.heap.size w w' := by
  have HGm := Lib.hid h
  obtain ⟨ao, an, ap, co, cn, cp, A, C, rfl, h1, h2, h3⟩ := h
  obtain ⟨w1, hw1⟩ : ∃ y, y = w.alloc (.cells #[.slice ao O.length co, .slice an zss.length cn, .slice ap P.length cp] 35) := ⟨_, rfl⟩
  have HW1 := Lib.hid hw1
  have B1 : Hid (Below w.heap.size w w1) := by rw [hw1]; exact below1 _ _
  have T1 : Hid (Box3 w1 w.heap.size 35 (.slice ao O.length co) (.slice an zss.length cn) (.slice ap P.length cp)) := by rw [hw1]; exact Box3.new _ _ _ _ _
  have hs1 : w1.heap.size = w.heap.size + 1 := by rw [hw1]; simp
  have HS1 := Lib.hid hs1
  obtain ⟨w2, hw2⟩ : ∃ y, y = w1.alloc (.cells #[.slice am m.length cm] 22) := ⟨_, rfl⟩
  have HW2 := Lib.hid hw2
  have hb2 : Below w1.heap.size w1 w2 := by rw [hw2]; exact below1 _ _
  have B2 := Lib.hid (B1.out.trans (hb2.mono B1.out.size))
  have HRo : RowsAt w2 (some ⟨w1.heap.size, 0, none⟩) (fun _ => am) (fun _ => cm) [m] := by rw [hw2]; exact rows_one8 (hm.below B1.out)
  have hg : goodsB O zss P [m] = r := by
    rw [← hr]
    unfold goodsB measB
    simp
  have HMI : Hid (Calls Tryd.prog 74 #[.agg #[.slice ao O.length co, .slice an zss.length cn, .slice ap P.length cp], .slice (some ⟨w1.heap.size, 0, none⟩) 1 1] w2 fun e w' => ∃ a b c d M va, e = .returned (.tuple #[scaV a b c d M, va, .bool r]) ∧ (r = true → ScaleAt w' (scaV a b c d M) O zss P ∧ w'.ownsRow w2.heap.size 88 13 va 1 (meaL [m])) ∧ (∃ x y z, va = .slice x y z) ∧ (a.oneCell' = true ∧ b.oneCell' = true ∧ c.oneCell' = true ∧ d.oneCell' = true) ∧ Below w2.heap.size w2 w') :=
    measuresIn_is (ls := [m]) 1 hg (hW.below B2.out) (HGm.out.below B2.out) HRo (by simp)
  have t0 := T1.out.c0
  have t1 := T1.out.c1
  have t2 := T1.out.c2
  rw [hw1] at t0 t1 t2
  clear hw1 hw2 hb2 HRo hg h1 h2 h3 hm hr hW hs1
  go_enter Tryd.func28, Tryd.ntmps28
  go_wp2_with fail
  rw [← HW1.out, ← HS1.out, ← HW2.out]
  refine HMI.out.mono ?_
  rintro e w3 ⟨a, b, c, d, M, va, rfl, _, ⟨x, y, z, rfl⟩, hone, hb⟩
  have HONE := Lib.hid hone
  have B3 := Lib.hid (B2.out.trans (hb.mono B2.out.size))
  have HN : Hid ((w3.alloc (.cells #[.slice none 0 0, .slice none 0 0, .slice none 0 0, .slice none 0 0, .int .i64 0, .int .i64 0, .int .i64 0, .int .i64 0, .int .i64 0, .int .i64 0, .int .i64 0, .int .i64 0, .int .i64 0, .int .i64 0, .int .i64 0, .int .i64 0, .int .i64 0] 90)).heap[w3.heap.size]? = some (.cells (scaA (.slice none 0 0) (.slice none 0 0) (.slice none 0 0) (.slice none 0 0) []) 90 (0, 0))) := heap_alloc_new _ _
  have hsz := B3.out.size
  clear hone hb HMI t0 t1 t2
  go_upto_region 2 with (refine wpList_store_row rfl 90 _ _ rfl w3.heap.size (scaA a b c d M) rfl rfl 90 (scaA (.slice none 0 0) (.slice none 0 0) (.slice none 0 0) (.slice none 0 0) []) HN.out (by kernel_rfl) rfl (scaA_one HONE.out.1 HONE.out.2.1 HONE.out.2.2.1 HONE.out.2.2.2 _) ?_; simp only [Act.put, List.setIfInBounds_toArray, List.set_cons_zero, List.set_cons_succ])
  have hb4 : Below w3.heap.size w3 ((w3.alloc (.cells #[.slice none 0 0, .slice none 0 0, .slice none 0 0, .slice none 0 0, .int .i64 0, .int .i64 0, .int .i64 0, .int .i64 0, .int .i64 0, .int .i64 0, .int .i64 0, .int .i64 0, .int .i64 0, .int .i64 0, .int .i64 0, .int .i64 0, .int .i64 0] 90)).setRow w3.heap.size (scaA a b c d M)) :=
    (below1 w3 _).trans ((only_row8 (S := fun x => x = w3.heap.size) (Only.refl _ _) rfl _).below (below1 w3 _).size (fun x hx => by rw [hx]; exact Nat.le_refl _))
  have B4 := Lib.hid (B3.out.trans (hb4.mono B3.out.size))
  clear hb4
  go_wp2_with fail
  go_ret
  exact ⟨rfl, B4.out⟩
end
end Go.Proofs.YtglbkbiphcgidaaDoor
namespace Go.Proofs.YtglbkbiphcgidaaDoor
open Go.RowKit

set_option maxHeartbeats 16000000 in
set_option maxRecDepth 100000 in
theorem lawMeasureOk {w : World} {v0 : Value} {O0 : List Int} {z0 : List (List Int)} {P0 : List Int} {aS1 : Option Addr} {S1 : List Int} {cs1 : Nat} (h0 : GameAt w v0 O0 z0 P0) (h1 : IntsAt w aS1 S1) (hE : LostW w) :
    Calls Tryd.prog 5 #[v0, .slice aS1 S1.length cs1] w fun e w' => e = .returned (.bool true) ∧ Below w.heap.size w w' := by
  have HE := Lib.hid hE
  clear hE
  have H0 := Lib.hid h0
  obtain ⟨u0_0, u0_1, u0_2, d0_0, d0_1, d0_2, A0, C0, rfl, q0, q1, q2⟩ := h0
  clear q0 q1 q2
  have H1 : Hid (IntsV w (.slice aS1 S1.length cs1) S1) := ⟨_, _, rfl, h1⟩
  have hl1 := h1.len
  clear h1
  obtain ⟨w1, hw1⟩ : ∃ y, y = (w.alloc (.cells #[.slice u0_0 O0.length d0_0, .slice u0_1 z0.length d0_1, .slice u0_2 P0.length d0_2] 27)) := ⟨_, rfl⟩
  have HW1 := Lib.hid hw1
  have B1 : Hid (Below w.heap.size w w1) := by rw [hw1]; exact below1 _ _
  have b0 : Hid (Box3 w1 (w.heap.size) 27 (.slice u0_0 O0.length d0_0) (.slice u0_1 z0.length d0_1) (.slice u0_2 P0.length d0_2)) := by rw [hw1]; exact Box3.new_at (by simp) _ _ _ _ 
  have K1 : Hid (Keep [w1, w] w1) := ⟨Below.refl _ _, B1.out, trivial⟩
  clear hw1
  by_cases hbig1 : (1048576 : Int) < S1.length
  · go_enter Tryd.func5, Tryd.ntmps5
    go_wp2
    go_ret
    exact ⟨rfl, by rw [← HW1.out]; exact B1.out⟩
  have hsm1 : (S1.length : Int) ≤ 1048576 := by omega
  have hsmN1 : S1.length ≤ 1048576 := by omega
  clear hbig1
  by_cases hs0 : (1048576 : Int) < (sizeGame O0 z0 P0 : Int)
  · skip
    have HSn0 : Hid (∀ W, Below w.heap.size w W → Calls Tryd.prog 13 #[.agg #[.slice u0_0 O0.length d0_0, .slice u0_1 z0.length d0_1, .slice u0_2 P0.length d0_2], .int .i64 (1048576 : Int)] W fun e w' => e = .returned (.int .i64 (-1)) ∧ Below W.heap.size W w') := fun W hb => szGame_at (leftOf_no hs0) (H0.out.below hb) (by omega) (by omega)
    clear hs0
    go_enter Tryd.func5, Tryd.ntmps5
    go_wp2_with fail
    rw [← HW1.out]
    refine (HSn0.out _ K1.out.2.1).mono ?_
    rintro e w2 ⟨rfl, hb⟩
    have Kw2 : Hid (Keep [w1, w] w2) := K1.out.step hb
    clear K1
    clear hb
    go_wp2
    go_ret
    exact ⟨rfl, Kw2.out.2.1⟩
  have hle0 : (sizeGame O0 z0 P0 : Int) ≤ (1048576 : Int) := by omega
  obtain ⟨m0, hm0⟩ : ∃ m, leftOf (1048576 : Int) (sizeGame O0 z0 P0) = m := ⟨_, rfl⟩
  have hmv0 : m0 = (1048576 : Int) - (sizeGame O0 z0 P0 : Int) := by rw [← hm0]; exact leftOf_yes hle0
  have hml0 : 0 ≤ m0 := by omega
  have hmu0 : m0 ≤ 1048576 := by omega
  have HLE0 : Hid (sizeGame O0 z0 P0 ≤ 1048576) := by simp only [Hid]; omega
  have HS0 : Hid (∀ W, Below w.heap.size w W → Calls Tryd.prog 13 #[.agg #[.slice u0_0 O0.length d0_0, .slice u0_1 z0.length d0_1, .slice u0_2 P0.length d0_2], .int .i64 (1048576 : Int)] W fun e w' => e = .returned (.int .i64 m0) ∧ Below W.heap.size W w') := fun W hb => szGame_at hm0 (H0.out.below hb) (by omega) (by omega)
  have hn0 : z0.length ≤ 1048576 := by have := HLE0.out; unfold sizeGame at this; (try unfold sizeArena at this); omega
  clear hs0 hm0 hle0 hmv0
  obtain ⟨rb0, hrb0⟩ : ∃ r, measB O0 z0 P0 S1 = r := ⟨_, rfl⟩
  have R0 := Lib.hid hrb0
  have hnerb0 : (rb0 != rb0) = false := by simp
  clear hrb0
  go_enter Tryd.func5, Tryd.ntmps5
  go_wp2_with fail
  rw [← HW1.out]
  refine (HS0.out _ K1.out.2.1).mono ?_
  rintro e w2 ⟨rfl, hb⟩
  have Kw2 : Hid (Keep [w1, w] w2) := K1.out.step hb
  clear K1
  clear hb
  have c0 := (b0.out.below Kw2.out.1).c0
  have c1 := (b0.out.below Kw2.out.1).c1
  have c2 := (b0.out.below Kw2.out.1).c2
  go_wp2_with fail
  refine (toGame_at (H0.out.below Kw2.out.2.1) hn0).mono ?_
  rintro e w3 ⟨x, rfl, hu, hb⟩
  obtain ⟨pa0_0, pc0_0, pa0_1, pc0_1, pa0_2, pc0_2, hus⟩ := hu.shape
  subst hus
  have pX0 := Lib.hid hu
  have Kw3 : Hid (Keep [w1, w] w3) := Kw2.out.step hb
  clear Kw2
  clear hu hb
  have Kaw3 : Hid (Keep [w3, w1, w] w3) := Kw3.out.add
  clear Kw3
  clear c0 c1 c2
  go_wp2_with fail
  refine (toInts_own (H1.out.below Kaw3.out.2.2.1)).mono ?_
  rintro e w4 ⟨x, rfl, hu, hb⟩
  obtain ⟨pa1_0, pc1_0, hus⟩ := hu.shape2
  subst hus
  have pX1 := Lib.hid hu
  have Kw4 : Hid (Keep [w3, w1, w] w4) := Kaw3.out.step hb
  clear Kaw3
  clear hu hb
  have Kaw4 : Hid (Keep [w4, w3, w1, w] w4) := Kw4.out.add
  clear Kw4
  go_wp2_with fail
  refine (specMeasureOk_is pc1_0 R0.out (pX0.out.below Kaw4.out.2.1).at (pX1.out.below Kaw4.out.1).v.at).mono ?_
  rintro e w5 ⟨rfl, hb⟩
  have Kw5 : Hid (Keep [w4, w3, w1, w] w5) := Kaw4.out.step hb
  clear Kaw4
  clear hb
  have Kaw5 : Hid (Keep [w5, w4, w3, w1, w] w5) := Kw5.out.add
  clear Kw5
  have c0 := (b0.out.below Kaw5.out.2.2.2.1).c0
  have c1 := (b0.out.below Kaw5.out.2.2.2.1).c1
  have c2 := (b0.out.below Kaw5.out.2.2.2.1).c2
  go_wp2_with fail
  refine (toGame_at (H0.out.below Kaw5.out.2.2.2.2.1) hn0).mono ?_
  rintro e w6 ⟨x, rfl, hu, hb⟩
  obtain ⟨xa0_0, xc0_0, xa0_1, xc0_1, xa0_2, xc0_2, hus⟩ := hu.shape
  subst hus
  have xX0 := Lib.hid hu
  have HE0 : Hid (w5.heap.size ≤ w6.heap.size) := hb.size
  have Kw6 : Hid (Keep [w5, w4, w3, w1, w] w6) := Kaw5.out.step hb
  clear Kaw5
  clear hu hb
  have Kaw6 : Hid (Keep [w6, w5, w4, w3, w1, w] w6) := Kw6.out.add
  clear Kw6
  clear c0 c1 c2
  obtain ⟨w7, hw7⟩ : ∃ y, y = w6.alloc (.cells #[.slice xa0_0 O0.length xc0_0, .slice xa0_1 z0.length xc0_1, .slice xa0_2 P0.length xc0_2] 35) := ⟨_, rfl⟩
  have Hw7 := Lib.hid hw7
  have hb : Below w6.heap.size w6 w7 := by rw [hw7]; exact below1 _ _
  have xb0 : Hid (Box3 w7 w6.heap.size 35 (.slice xa0_0 O0.length xc0_0) (.slice xa0_1 z0.length xc0_1) (.slice xa0_2 P0.length xc0_2)) := by rw [hw7]; exact Box3.new _ _ _ _ _ 
  have Kw7 : Hid (Keep [w6, w5, w4, w3, w1, w] w7) := Kaw6.out.step hb
  clear Kaw6
  clear hb
  have Kaw7 : Hid (Keep [w7, w6, w5, w4, w3, w1, w] w7) := Kw7.out.add
  clear Kw7
  clear hw7
  go_wp2_with fail
  rw [← Hw7.out]
  refine (toInts_own (H1.out.below Kaw7.out.2.2.2.2.2.2.1)).mono ?_
  rintro e w8 ⟨x, rfl, hu, hb⟩
  obtain ⟨xa1_0, xc1_0, hus⟩ := hu.shape2
  subst hus
  have xX1 := Lib.hid hu
  have HE1 : Hid (w7.heap.size ≤ w8.heap.size) := hb.size
  have Kw8 : Hid (Keep [w7, w6, w5, w4, w3, w1, w] w8) := Kaw7.out.step hb
  clear Kaw7
  clear hu hb
  have Kaw8 : Hid (Keep [w8, w7, w6, w5, w4, w3, w1, w] w8) := Kw8.out.add
  clear Kw8
  have c0 := (xb0.out.below Kaw8.out.2.1).c0
  have c1 := (xb0.out.below Kaw8.out.2.1).c1
  have c2 := (xb0.out.below Kaw8.out.2.1).c2
  go_wp2_with fail
  refine (MeasureOk_is (HE.out.below Kaw8.out.2.2.2.2.2.2.2.1) xc1_0 R0.out (xX0.out.below Kaw8.out.2.2.1).at (xX1.out.below Kaw8.out.1).v.at).mono ?_
  rintro e w9 ⟨rfl, hb⟩
  have Kw9 : Hid (Keep [w8, w7, w6, w5, w4, w3, w1, w] w9) := Kaw8.out.step hb
  clear Kaw8
  clear hb
  clear c0 c1 c2
  have c0 := (b0.out.below Kw9.out.2.2.2.2.2.2.1).c0
  have c1 := (b0.out.below Kw9.out.2.2.2.2.2.2.1).c1
  have c2 := (b0.out.below Kw9.out.2.2.2.2.2.2.1).c2
  have c3 := (xb0.out.below Kw9.out.2.1).c0
  have c4 := (xb0.out.below Kw9.out.2.1).c1
  have c5 := (xb0.out.below Kw9.out.2.1).c2
  have Kdw9 : Hid (Keep [w8, w7, w6, w5, w4, w3, w1, w] w9.drew) := Kw9.out.step (Below.refl _ _).drew
  go_wp2_with fail
  go_region_held3 (fun w' => w'.cell? ⟨w.heap.size, 0, none⟩ = some (.slice u0_0 O0.length d0_0) ∧ w'.cell? ⟨w.heap.size, 1, none⟩ = some (.slice u0_1 z0.length d0_1) ∧ w'.cell? ⟨w.heap.size, 2, none⟩ = some (.slice u0_2 P0.length d0_2) ∧ w'.cell? ⟨w6.heap.size, 0, none⟩ = some (.slice xa0_0 O0.length xc0_0) ∧ w'.cell? ⟨w6.heap.size, 1, none⟩ = some (.slice xa0_1 z0.length xc0_1) ∧ w'.cell? ⟨w6.heap.size, 2, none⟩ = some (.slice xa0_2 P0.length xc0_2))
    (first
      | go_keep
      | exact ⟨d0, d1, d2, d3, d4, d5⟩
      | exact ⟨f0, f1, f2, f3, f4, f5⟩)
    (first
      | (go_at_call 15; refine (toGame_at (H0.out.below Kdw9.out.2.2.2.2.2.2.2.1) hn0).mono ?_; rintro e w10 ⟨x, rfl, hu, hb⟩; obtain ⟨ya0_0, yc0_0, ya0_1, yc0_1, ya0_2, yc0_2, hus⟩ := hu.shape; subst hus; have yX0 := Lib.hid hu; have Kw10 : Hid (Keep [w8, w7, w6, w5, w4, w3, w1, w] w10) := Kdw9.out.step hb; have d0 := (b0.out.below Kw10.out.2.2.2.2.2.2.1).c0; have d1 := (b0.out.below Kw10.out.2.2.2.2.2.2.1).c1; have d2 := (b0.out.below Kw10.out.2.2.2.2.2.2.1).c2; have d3 := (xb0.out.below Kw10.out.2.1).c0; have d4 := (xb0.out.below Kw10.out.2.1).c1; have d5 := (xb0.out.below Kw10.out.2.1).c2; have Kaw10 : Hid (Keep [w10, w8, w7, w6, w5, w4, w3, w1, w] w10) := Kw10.out.add; clear hu hb)
      | (go_at_call 19; refine (eqGame_at (xX0.out.below Kaw10.out.2.2.2.1).at (yX0.out.below Kaw10.out.1).at).mono ?_; rintro e w11 ⟨rfl, hb⟩; have Kw11 : Hid (Keep [w10, w8, w7, w6, w5, w4, w3, w1, w] w11) := Kaw10.out.step hb; have f0 := (b0.out.below Kw11.out.2.2.2.2.2.2.2.1).c0; have f1 := (b0.out.below Kw11.out.2.2.2.2.2.2.2.1).c1; have f2 := (b0.out.below Kw11.out.2.2.2.2.2.2.2.1).c2; have f3 := (xb0.out.below Kw11.out.2.2.1).c0; have f4 := (xb0.out.below Kw11.out.2.2.1).c1; have f5 := (xb0.out.below Kw11.out.2.2.1).c2; clear hb))
  clear c0 d0 f0 c1 d1 f1 c2 d2 f2 c3 d3 f3 c4 d4 f4 c5 d5 f5
  have Kzw11 : Hid (Keep [w8, w7, w6, w5, w4, w3, w1, w] w11) := Kw11.out.2
  clear Kdw9 Kw10 Kaw10 yX0
  go_wp2_with fail
  refine (toInts_own (H1.out.below Kzw11.out.2.2.2.2.2.2.2.1)).mono ?_
  rintro e w12 ⟨x, rfl, hu, hb⟩
  obtain ⟨y11a1_0, y11c1_0, hus⟩ := hu.shape2
  subst hus
  have y11X1 := Lib.hid hu
  have Kw12 : Hid (Keep [w8, w7, w6, w5, w4, w3, w1, w] w12) := Kzw11.out.step hb
  clear Kzw11
  clear hu hb
  have Kaw12 : Hid (Keep [w12, w8, w7, w6, w5, w4, w3, w1, w] w12) := Kw12.out.add
  clear Kw12
  go_wp2_with fail
  refine (eqInts_at (xX1.out.below Kaw12.out.2.1).v (y11X1.out.below Kaw12.out.1).v).mono ?_
  rintro e w13 ⟨rfl, hb⟩
  have Kw13 : Hid (Keep [w12, w8, w7, w6, w5, w4, w3, w1, w] w13) := Kaw12.out.step hb
  clear Kaw12
  clear hb
  go_wp2
  go_ret
  exact ⟨rfl, Kw13.out.2.2.2.2.2.2.2.2.1⟩

end Go.Proofs.YtglbkbiphcgidaaDoor
namespace Go.Proofs.YtglbkbiphcgidaaDoor
open Go.ChangeShapes Go.WideShapes Go.ChangeAt Go.RowKit

theorem lv_own : ownKnob Tryd.prog.godebug = none := by kernel_rfl
theorem lv_g : Tryd.prog.globalNamed "loop.example/g00869/impl.lostMeasure" = some 0 := by kernel_rfl
theorem lv_t : (Tryd.prog.globals[0]?).map (·.type) = some 88 := by kernel_rfl
abbrev lvTab : String × DataW Unit := ("loop.example/g00869/impl.lostMeasure", Rows.laid_loop_example_g00869_impl_lostMeasure)
theorem lv_data : (Rows.laid_loop_example_g00869_impl_lostMeasure : DataW Unit) = Lib.tabData .i64 [1, 0, 0, 0, 0, 0, 0, 0, 0, 0, 0, 0, 0] := by kernel_rfl
theorem lv_tab {W : World} (h : laidMet Tryd.prog [lvTab] W) : LostW W := fun j hj => by
  unfold lvTab at h
  rw [lv_data] at h
  have h1 := Lib.tabIs_of_head lv_g lv_t (n := 13) (e := 2) (by kernel_rfl) (by kernel_rfl) (by kernel_rfl) (by kernel_rfl) h
  have h2 := h1.cell lv_g j (by simpa using hj)
  rw [h2]
  have h13 : j = 0 ∨ j = 1 ∨ j = 2 ∨ j = 3 ∨ j = 4 ∨ j = 5 ∨ j = 6 ∨ j = 7 ∨ j = 8 ∨ j = 9 ∨ j = 10 ∨ j = 11 ∨ j = 12 := by omega
  rcases h13 with rfl | rfl | rfl | rfl | rfl | rfl | rfl | rfl | rfl | rfl | rfl | rfl | rfl <;> rfl
theorem lv_S {W : World} (h : laidMetH Tryd.prog [lvTab] W) : laidMet Tryd.prog [lvTab] W := by
  have h2 := (laidMetH_iff.1 h).1
  rw [show ([lvTab].filter fun x => x.2.handleName?.isNone) = [lvTab] by kernel_rfl] at h2
  exact h2
/-- A world that meets the list. -/
noncomputable def lvWorld (os : Os) : World :=
  let w0 := World.holding Tryd.prog os ⟨#[], #[], []⟩
  { w0 with heap := (w0.heap.modify 0 fun
      | .cells _ t frozen => .cells #[.int .i64 1, .int .i64 0, .int .i64 0, .int .i64 0, .int .i64 0, .int .i64 0, .int .i64 0, .int .i64 0, .int .i64 0, .int .i64 0, .int .i64 0, .int .i64 0, .int .i64 0] t frozen
      | o => o) }
theorem lv_met (os : Os) (args : Array Value) : laidMet Tryd.prog [lvTab] ((lvWorld os).forCall (fun _ _ => 0) ⟨#[], args, []⟩).memory :=
  laidMet_of_run' 8 (by kernel_rfl) (by kernel_rfl)
theorem lv_metS (os : Os) (args : Array Value) : laidMetH Tryd.prog [lvTab] ((lvWorld os).forCall (fun _ _ => 0) ⟨#[], args, []⟩).memory :=
  laidMetH_of_parts (by rw [show ([lvTab].filter fun x => x.2.handleName?.isNone) = [lvTab] by kernel_rfl]; exact lv_met os args) (by kernel_rfl)
end Go.Proofs.YtglbkbiphcgidaaDoor
namespace Go.Proofs.YtglbkbiphcgidaaDoor
open Go.RowKit

/-- A struct of two slices that reads as a play. -/
def LassoAt (w : World) (v : Value) (X Y : List Int) : Prop :=
  ∃ ax ay cx cy, v = .agg #[.slice ax X.length cx, .slice ay Y.length cy] ∧ IntsAt w ax X ∧ IntsAt w ay Y
theorem LassoAt.below {w w' : World} {v : Value} {X Y : List Int} (h : LassoAt w v X Y) (hb : Below w.heap.size w w') : LassoAt w' v X Y := by
  obtain ⟨ax, ay, cx, cy, hv, h1, h2⟩ := h
  exact ⟨ax, ay, cx, cy, hv, h1.below hb, h2.below hb⟩

/-- The struct v owns a play. -/
def OwnLasso (w : World) (B D : Nat) (v : Value) (X Y : List Int) : Prop :=
  ∃ vx vy, v = .agg #[vx, vy] ∧ OwnInts w B D vx X ∧ OwnInts w B D vy Y ∧ ∀ g, vx.ownBlock = some g → vy.ownBlock ≠ some g

section
variable {w w' : World} {B B' D : Nat} {v : Value} {X Y : List Int}
theorem OwnLasso.at (h : OwnLasso w B D v X Y) : LassoAt w v X Y := by
  obtain ⟨vx, vy, rfl, h1, h2, _⟩ := h
  obtain ⟨a, c, rfl, hi, _⟩ := h1.shape
  obtain ⟨b, d, rfl, hj, _⟩ := h2.shape
  exact ⟨_, _, _, _, rfl, hi, hj⟩
theorem OwnLasso.only {S : Nat → Prop} (h : OwnLasso w B D v X Y) (hk : Only S w w') (hs : ∀ g, B ≤ g → g < D → ¬ S g) : OwnLasso w' B D v X Y := by
  obtain ⟨vx, vy, hv, h1, h2, h3⟩ := h
  exact ⟨vx, vy, hv, h1.only hk (fun g hg => hs g (h1.own.lt g hg).1 (h1.top g hg)), h2.only hk (fun g hg => hs g (h2.own.lt g hg).1 (h2.top g hg)), h3⟩
theorem OwnLasso.below (h : OwnLasso w B D v X Y) (hb : Below w.heap.size w w') : OwnLasso w' B D v X Y := by
  obtain ⟨vx, vy, hv, h1, h2, h3⟩ := h
  exact ⟨vx, vy, hv, h1.below hb, h2.below hb, h3⟩
theorem OwnLasso.base (h : OwnLasso w B D v X Y) (hB : B' ≤ B) : OwnLasso w B' D v X Y := by
  obtain ⟨vx, vy, hv, h1, h2, h3⟩ := h
  exact ⟨vx, vy, hv, h1.base hB, h2.base hB, h3⟩
theorem OwnLasso.retop (h : OwnLasso w B D v X Y) : OwnLasso w B w.heap.size v X Y := by
  obtain ⟨vx, vy, hv, h1, h2, h3⟩ := h
  exact ⟨vx, vy, hv, h1.retop, h2.retop, h3⟩
theorem OwnLasso.zero (w : World) (B D : Nat) : OwnLasso w B D (.agg #[.slice none 0 0, .slice none 0 0]) [] [] :=
  ⟨_, _, rfl, OwnInts.nil _ _ _, OwnInts.nil _ _ _, fun g hg => by simp [Value.ownBlock] at hg⟩
theorem OwnLasso.shape (h : OwnLasso w B D v X Y) : ∃ a0 c0 a1 c1, v = .agg #[.slice a0 X.length c0, .slice a1 Y.length c1] := by
  obtain ⟨ax, ay, cx, cy, hv, _⟩ := h.at
  exact ⟨_, _, _, _, hv⟩
/-- Two slices of numbers of one's own, one made behind the other. -/
theorem OwnLasso.of_parts {vx vy : Value} {M : Nat} (h : OwnInts w B M vx X) (hp : OwnInts w M D vy Y) (hBM : B ≤ M) (hMD : M ≤ D) : OwnLasso w B D (.agg #[vx, vy]) X Y :=
  ⟨_, _, rfl, ⟨h.own, fun g hg => by have := h.top g hg; omega, h.len, h.fits⟩, hp.base hBM, fun g hg hh => by
    have := h.top g hg
    have := (hp.own.lt g hh).1
    omega⟩
end

end Go.Proofs.YtglbkbiphcgidaaDoor
namespace Go.Proofs.YtglbkbiphcgidaaDoor
section
section
section
open Go.ChangeShapes Go.WideShapes Go.ChangeAt Go.RowKit Go.Deep

theorem cells_int : Tryd.prog.cellsOf 2 = 1 := by kernel_rfl
theorem cells_ints : Tryd.prog.cellsOf 22 = 1 := by kernel_rfl
theorem bytes_int : Tryd.prog.bytesOf 2 = 8 := by kernel_rfl
theorem bytes_ints : Tryd.prog.bytesOf 22 = 24 := by kernel_rfl

theorem fits_of_wf {n : Int} (h : (Lit.int .i64 n).wf = true) : Fits n := by
  have h1 : IntKind.i64.min = -9223372036854775808 := rfl
  have h2 : IntKind.i64.max = 9223372036854775807 := rfl
  simp only [Lit.wf, Bool.and_eq_true, decide_eq_true_eq] at h
  unfold Fits
  omega

theorem mem_weightsAll {H : Type} {P : Program} {e : TypeId} {d : DataW H} {n : Nat} : ∀ {l : List (DataW H)}, d ∈ l → n ∈ d.weights P e → n ∈ DataW.weightsAll P e l
  | [], h, _ => by cases h
  | x :: r, h, hn => by
    simp only [DataW.weightsAll, List.mem_append]
    rcases List.mem_cons.1 h with rfl | h
    · exact Or.inl hn
    · exact Or.inr (mem_weightsAll h hn)

section
variable {H : Type} {enc : TypeId × Value → H} {W : World}

theorem nil_ints (W : World) : IntsAt W none [] := ⟨by simp, fun k hk => absurd hk (by simp), fun h => absurd h (by simp)⟩

/-- One slice of numbers: its cells, its length, its bounds. -/
theorem ints_mk {a : Addr} {L cap : Nat} {Z : List Int} (hl : L ≤ cap) (hz : Z.length = cap) (hc : ∀ i, i < cap → W.cell? (a.add i) = some (.int .i64 (Z.getD i 0))) (hw : ∀ n ∈ Z, (Lit.int .i64 n).wf = true) (hb : cap * 8 ≤ reachBytes) :
    (Z.take L).length = L ∧ IntsAt W (some a) (Z.take L) := by
  have hlen : (Z.take L).length = L := by simp; omega
  have hnth : ∀ k, k < L → nth (Z.take L) k = Z.getD k 0 := fun k hk => by simp [nth, List.getD, hk]
  refine ⟨hlen, by rw [hlen]; have := reachBytes_lt; omega, fun k hk => ?_, fun h0 => ?_⟩
  · rw [hlen] at hk
    rw [hnth k hk]
    refine fits_of_wf (hw _ ?_)
    rw [show Z.getD k 0 = Z[k]'(by omega) from by simp [List.getD, show k < Z.length from by omega]]
    exact List.getElem_mem _
  · rw [hlen] at h0
    obtain ⟨b, off, spot⟩ := a
    have hs : spot = none := by simpa [Addr.add] using World.cell?_spot (hc 0 (by omega))
    subst hs
    refine ⟨b, off, rfl, fun k hk => ?_⟩
    rw [hlen] at hk
    have h := hc k (by omega)
    rw [hnth k hk, ← add_plain]
    exact h

theorem ints_of {fuel : Nat} {v : Value} {y : DataW H × List MemPlace} (h : DataW.trod enc Tryd.prog W 0 (fun _ => true) true fuel 22 [v] = some y) (hw : ∀ n ∈ y.1.weights Tryd.prog 22, n ≤ reachBytes) :
    ∃ a zs cap, v = .slice a zs.length cap ∧ IntsAt W a zs := by
  rcases open_ints Tryd.underlying22 Tryd.underlying2 cells_int h with ⟨hcs, _⟩ | ⟨a, len, cap, zs, hcs, _, hl, hm, hz, hx, hcell, hwz⟩
  · simp only [List.cons.injEq, and_true] at hcs
    exact ⟨none, [], 0, hcs, nil_ints W⟩
  · simp only [List.cons.injEq, and_true] at hcs
    simp only [if_true] at hz
    subst hx
    have hb := hw ((lits (H := H) .i64 (zs.take len)).length * 8 + (lits (H := H) .i64 (zs.drop len)).length * 8) (by simp [DataW.weights, Tryd.underlying22, bytes_int, Nat.add_mul])
    simp only [lits, List.length_map, List.length_take, List.length_drop] at hb
    obtain ⟨h1, h2⟩ := ints_mk hl hz (fun i hi => hcell i (by omega)) hwz (by omega)
    exact ⟨some a, _, cap, by rw [hcs, h1], h2⟩

theorem rows_of {fuel : Nat} {v : Value} {y : DataW H × List MemPlace} (h : DataW.trod enc Tryd.prog W 0 (fun _ => true) true fuel 23 [v] = some y) (hw : ∀ n ∈ y.1.weights Tryd.prog 23, n ≤ reachBytes) :
    ∃ a A C zss cap, v = .slice a zss.length cap ∧ RowsAt W a A C zss := by
  rcases open_int_rows Tryd.underlying23 Tryd.underlying22 Tryd.underlying2 cells_ints cells_int h with ⟨hcs, _⟩ | ⟨a, len, cap, A, L, C, Z, hcs, _, hl, hm, hx, hcell⟩
  · simp only [List.cons.injEq, and_true] at hcs
    exact ⟨none, fun _ => none, fun _ => 0, [], 0, hcs, by simp, fun h => absurd h (by simp), fun k hk => absurd hk (by simp)⟩
  · simp only [List.cons.injEq, and_true] at hcs
    subst hx
    have hlen : ((List.range len).map fun r => (Z r).take (L r)).length = len := by simp
    have hrow : ∀ k, k < len → row ((List.range len).map fun r => (Z r).take (L r)) k = (Z k).take (L k) := fun k hk => by simp [row, hk]
    have hb : len ≤ 17592186044416 := by
      have := hw ((((List.range len).map fun r => intRow (H := H) .i64 (A r) (L r) (Z r)).length + ((List.range (cap - len)).map fun j => intRow (H := H) .i64 (A (len + j)) (L (len + j)) (Z (len + j))).length) * 24) (by simp [DataW.weights, Tryd.underlying23, bytes_ints])
      simp only [List.length_map, List.length_range] at this
      have := reachBytes_lt
      omega
    have hrb : ∀ r, r < len → ∀ ad, A r = some ad → C r * 8 ≤ reachBytes := fun r hr ad had => by
      have hc := hcell r (by omega)
      have := hw (C r * 8) (by
        simp only [DataW.weights, Tryd.underlying23, List.mem_cons, List.mem_append]
        refine Or.inr (Or.inl (mem_weightsAll (d := intRow (H := H) .i64 (A r) (L r) (Z r)) (List.mem_map.2 ⟨r, List.mem_range.2 hr, rfl⟩) ?_))
        have hcl := hc.2.1
        have hzl := hc.2.2.2.1
        have e : min (L r) (Z r).length + ((Z r).length - L r) = C r := by omega
        simp [intRow, had, DataW.weights, Tryd.underlying22, bytes_int, lits, e])
      exact this
    have hrows : ∀ k, k < len → ((Z k).take (L k)).length = L k ∧ IntsAt W (A k) ((Z k).take (L k)) := fun k hk => by
      obtain ⟨_, c1, c2, c3, c4, c5, c6⟩ := hcell k (by omega)
      cases hA : A k with
      | none =>
        have h0 := c5 hA
        have hz0 : Z k = [] := List.length_eq_zero_iff.1 (by omega)
        rw [hz0]
        exact ⟨by simp; omega, by simpa using nil_ints W⟩
      | some ad =>
        exact ints_mk c1 c3 (fun i hi => (c6 ad hA).2 i hi) c4 (hrb k hk ad hA)
    refine ⟨some a, A, C, (List.range len).map fun r => (Z r).take (L r), cap, by rw [hcs, hlen], by rw [hlen]; exact hb, fun h0 => ?_, fun k hk => ?_⟩
    · rw [hlen] at h0
      obtain ⟨b, off, spot⟩ := a
      have hs : spot = none := by simpa [Addr.add] using World.cell?_spot (hcell 0 (by omega)).1
      subst hs
      refine ⟨b, off, rfl, fun k hk => ?_⟩
      rw [hlen] at hk
      have hc := (hcell k (by omega)).1
      rw [hrow k hk, (hrows k hk).1, ← add_plain]
      exact hc
    · rw [hlen] at hk
      rw [hrow k hk]
      exact (hrows k hk).2

end
end

section
open Go.ChangeShapes Go.WideShapes Go.ChangeAt Go.RowKit Go.Deep

set_option maxRecDepth 100000 in
theorem slice_of {H : Type} {enc : TypeId × Value → H} {W : World} {v : Value} {d : DataW H} {p : List MemPlace} {r : Reach} {b0 : Nat} (hv : Value.okWide Tryd.prog W r b0 22 v) (h : DataW.Trod enc Tryd.prog W 0 (fun _ => true) true 22 v d p) (hw : ∀ n ∈ d.weights Tryd.prog 22, n ≤ reachBytes) :
    ∃ a zs cap, v = .slice a zs.length cap ∧ IntsAt W a zs := by
  obtain ⟨a, len, cap, rfl⟩ := okWide_slice Tryd.underlying22 hv
  obtain ⟨fuel, hf⟩ := h
  exact ints_of (y := (d, p)) (by simpa [Value.cells] using hf) hw
end

section
open Go.RowKit Go.ChangeShapes Go.Joins Go.WideShapes

set_option maxRecDepth 100000 in
theorem game_of {H : Type} {enc : TypeId × Value → H} {W : World} {v : Value} {d : DataW H} {p : List MemPlace} {r : Reach} {b0 : Nat} (hv : Value.okWide Tryd.prog W r b0 27 v) (h : DataW.Trod enc Tryd.prog W 0 (fun _ => true) true 27 v d p) (hw : ∀ n ∈ d.weights Tryd.prog 27, n ≤ reachBytes) :
    ∃ O zss P, GameAt W v O zss P := by
  obtain ⟨cs, rfl, hsz⟩ := okWide_struct Tryd.underlying27 hv
  have hC : Tryd.prog.cellsOf 27 = 3 := by kernel_rfl
  have hA : Tryd.prog.cellsOf 25 = 2 := by kernel_rfl
  have hS : Tryd.prog.cellsOf 22 = 1 := by kernel_rfl
  have hR : Tryd.prog.cellsOf 23 = 1 := by kernel_rfl
  obtain ⟨c0, c1, c2, rfl⟩ := array3 (hsz.trans hC)
  obtain ⟨fuel, hf⟩ := h
  obtain ⟨y0, y1, n, hx, _, h0, h1⟩ := trod_struct2 Tryd.underlying27 hf
  obtain ⟨z0, z1, m, hx', _, g0, g1⟩ := trod_struct2 Tryd.underlying25 h0
  simp only [Prod.mk.injEq] at hx
  obtain ⟨rfl, rfl⟩ := hx
  subst hx'
  have k0 : DataW.trod enc Tryd.prog W 0 (fun _ => true) true m 22 [c0] = some z0 := by simpa [Value.cells, hA, hS] using g0
  have k1 : DataW.trod enc Tryd.prog W 0 (fun _ => true) true m 23 [c1] = some z1 := by simpa [Value.cells, hA, hR] using g1
  have k2 : DataW.trod enc Tryd.prog W 0 (fun _ => true) true n 22 [c2] = some y1 := by simpa [Value.cells, hS] using h1
  have hw0 : ∀ n ∈ z0.1.weights Tryd.prog 22, n ≤ reachBytes := fun n hn => hw n (by simp [DataW.weights, Tryd.underlying27, Tryd.underlying25, DataW.weightsEach, hn])
  have hw1 : ∀ n ∈ z1.1.weights Tryd.prog 23, n ≤ reachBytes := fun n hn => hw n (by simp [DataW.weights, Tryd.underlying27, Tryd.underlying25, DataW.weightsEach, hn])
  have hw2 : ∀ n ∈ y1.1.weights Tryd.prog 22, n ≤ reachBytes := fun n hn => hw n (by simp [DataW.weights, Tryd.underlying27, DataW.weightsEach, hn])
  obtain ⟨ao, O, co, rfl, hO⟩ := ints_of k0 hw0
  obtain ⟨an, A, C, zss, cn, rfl, hN⟩ := rows_of k1 hw1
  obtain ⟨ap, P, cp, rfl, hP⟩ := ints_of k2 hw2
  exact ⟨O, zss, P, ao, an, ap, co, cn, cp, A, C, rfl, hO, hN, hP⟩
end
end

section
open Go.ChangeShapes Go.WideShapes Go.ChangeAt Go.RowKit Go.Deep

end
end

section
open Go.ChangeShapes Go.WideShapes Go.ChangeAt Go.RowKit Go.Deep

end

section
open Go.ChangeShapes Go.WideShapes Go.ChangeAt Go.RowKit Go.Deep

end

end Go.Proofs.YtglbkbiphcgidaaDoor
