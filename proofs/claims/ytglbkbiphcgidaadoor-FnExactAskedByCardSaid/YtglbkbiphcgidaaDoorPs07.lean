/-
  Several texts in one: AskImpl, Asked, MeasIn, MeasImpl, AskApi, LawAskedBy, LaidL.
-/
import Derived.ChangeKeysEq
import Derived.Great.BuildSlice
import Derived.Deep.RegionHeld3
import Derived.Test.YtglbkbiphcgidaaDoorRows
import Derived.Lib.LaidTab
import Derived.LaidSub
import Derived.LaidHandle
import Derived.Deep.DeepHandedRow
import Derived.ProofKit
import Derived.OpenShut
import Derived.Carry
import Derived.ChangeVars
import Derived.Test.YtglbkbiphcgidaaDoorPs00
import Derived.Test.YtglbkbiphcgidaaDoorPs02
import Derived.Test.YtglbkbiphcgidaaDoorPs05
import Derived.Test.YtglbkbiphcgidaaDoorPs06
namespace Go.Proofs.YtglbkbiphcgidaaDoor
section
open Go.RowKit Go.Shelf

theorem meaA_at (a : List Int) {j : Nat} (hj : j < 13) : (meaA a)[j]? = some (.int .i64 (nth a j)) := by
  have h13 : j = 0 ∨ j = 1 ∨ j = 2 ∨ j = 3 ∨ j = 4 ∨ j = 5 ∨ j = 6 ∨ j = 7 ∨ j = 8 ∨ j = 9 ∨ j = 10 ∨ j = 11 ∨ j = 12 := by omega
  rcases h13 with rfl | rfl | rfl | rfl | rfl | rfl | rfl | rfl | rfl | rfl | rfl | rfl | rfl <;> rfl
theorem eq_items8 (n : Nat) (w : World) (a b : List Int) : ∀ is : List Nat, (∀ j ∈ is, j < 13) → (Op.eqItems (n + 1) 2 1 (meaA a) (meaA b) is).run Tryd.prog w = .ok (is.all fun j => nth a j == nth b j) w
  | [], _ => by simp [Op.eqItems]
  | j :: is, h => by
    have hj := h j (by simp)
    have pa : (Go.part 2 (meaA a) j).run Tryd.prog w = .ok (.int .i64 (nth a j)) w := run_part_plain w (by kernel_rfl) (meaA_at a hj)
    have pb : (Go.part 2 (meaA b) j).run Tryd.prog w = .ok (.int .i64 (nth b j)) w := run_part_plain w (by kernel_rfl) (meaA_at b hj)
    have e : (Op.equalIn (n + 1) 2 (.int .i64 (nth a j)) (.int .i64 (nth b j))).run Tryd.prog w = .ok (nth a j == nth b j) w := run_equalIn_int w n 2 .i64 .i64 _ _ Tryd.underlying2
    have ih := eq_items8 n w a b is (fun k hk => h k (by simp [hk]))
    rw [List.all_cons]
    generalize (nth a j == nth b j) = r at e ⊢
    simp only [Op.eqItems, Sem.run_bind, Nat.mul_one, pa, pb, e, Result.andThen_ok]
    cases r
    · simp
    · simp only [Bool.not_true, Bool.false_eq_true, if_false, Bool.true_and]
      exact ih
theorem run_eq_meas (w : World) (a b : List Int) : (Op.equalIn 10000 88 (.agg (meaA a)) (.agg (meaA b))).run Tryd.prog w = .ok ((List.range 13).all fun j => nth a j == nth b j) w := by
  obtain ⟨i, hi⟩ : ∃ i, Tryd.prog.info? 2 = some i := info_of_underlying Tryd.underlying2
  have hc : Tryd.prog.cellsOf 2 = 1 := by kernel_rfl
  have hn1 : (10000 : Nat) = 9998 + 1 + 1 := rfl
  rw [hn1, run_equalIn_array w (9998 + 1) _ _ (e := 2) (n := 13) Tryd.underlying88 hi, hc]
  exact eq_items8 9998 w a b _ (fun j hj => List.mem_range.1 hj)
theorem run_eq_lost {r : List Int} {x : Bool} (hr : r = [1] ∨ nth r 0 = 0) (hx : decide (r = [1]) = x) (w : World) : (Op.equalIn 10000 88 (.agg (meaA r)) (.agg (meaA [1]))).run Tryd.prog w = .ok x w := by
  rw [run_eq_meas, ← hx]
  congr 1
  rcases hr with h | h
  · rw [h]; rfl
  · have h1 : r ≠ [1] := fun e => by rw [e] at h; cases h
    rw [decide_eq_false h1]
    have h2 : (nth r 0 == nth [1] 0) = false := by rw [h]; rfl
    have h3 : List.range 13 = 0 :: (List.range 12).map (· + 1) := rfl
    rw [h3, List.all_cons, h2]
    rfl

set_option linter.unusedSimpArgs false in
set_option maxRecDepth 100000 in
set_option maxHeartbeats 8000000 in
theorem listOf_is {w : World} {s : Value} {O P r : List Int} {zss : List (List Int)} (hW : LostW w) (hs : ScaleAt w s O zss P) (hl : (oddsL P).length ≤ 12) (hr : r = [1] ∨ (r.length = (oddsL P).length + 1 ∧ nth r 0 = 0)) (hf : ∀ k, k < r.length → Fits (nth r k)) :
    Calls Tryd.prog 82 #[s, meaV r] w (GivesInts w r) := by
  obtain ⟨ao, an, ap, aq, co, cn, cp, cq, rfl, hg, hq⟩ := hs
  obtain ⟨w1, hw1⟩ : ∃ y, y = (w.alloc (.cells (scaA (.slice ao O.length co) (.slice an zss.length cn) (.slice ap P.length cp) (.slice aq (oddsL P).length cq) (mostL P)) 90)).alloc (.cells (meaA r) 88) := ⟨_, rfl⟩
  have HW1 := Lib.hid hw1
  have B1 : Hid (Below w.heap.size w w1) := by rw [hw1]; exact below2 _ _ _
  have S1 : Hid (w1.rowIs w.heap.size 90 17 (scaF (.slice ao O.length co) (.slice an zss.length cn) (.slice ap P.length cp) (.slice aq (oddsL P).length cq) (mostL P))) := by
    rw [hw1]; exact World.rowIs.alloc (sca_of (heap_alloc_new _ _)) _
  have N1 : Hid (w1.heap[w.heap.size + 1]? = some (.cells (meaA r) 88 (0, 0))) := by rw [hw1]; exact heap_alloc2_new _ _ _
  have hs1 : Hid (w1.heap.size = w.heap.size + 2) := by rw [hw1]; simp [Hid]
  have LW := (hW.below B1.out).range
  have HLW := Lib.hid LW
  obtain ⟨x, hx⟩ : ∃ x, decide (r = [1]) = x := ⟨_, rfl⟩
  have he : ∀ W, (Op.equalIn 10000 88 (.agg (meaA r)) (.agg (meaA [1]))).run Tryd.prog W = .ok x W := run_eq_lost (hr.imp id fun h => h.2) hx
  have HR := Lib.hid hr
  have HFt := Lib.hid hf
  have hol : (oddsL P).length ≤ 20 := downL_len P 20
  unfold scaV meaV
  clear hw1 hg hq hr hf LW hW
  go_enter Tryd.func82, Tryd.ntmps82
  go_upto_region 1 with fail
  rw [← HW1.out]
  refine wp_region_lit ?_
  (refine wpList_load_row rfl 88 _ rfl (w.heap.size + 1) rfl 88 (meaA r) (0, 0) _ N1.out Tryd.underlying88 rfl (by kernel_rfl) ?_; simp only [Act.put, List.setIfInBounds_toArray, List.set_cons_zero, List.set_cons_succ])
  (refine wpList_load_mid rfl 88 _ rfl 0 0 rfl (meaA [1]).toList _ HLW.out Tryd.underlying88 rfl (by kernel_rfl) ?_; simp only [Act.put, List.setIfInBounds_toArray, List.set_cons_zero, List.set_cons_succ, Array.toArray_toList])
  cases x with
  | true =>
    have HE := Lib.hid (of_decide_eq_true hx)
    clear hx
    go_wp2
    go_ret
    rw [HE.out]
    have ho : (w1.alloc (.cells #[.int .i64 1] 2)).ownsRow w.heap.size 2 1 (.slice (some ⟨w1.heap.size, 0, none⟩) 1 1) 1 [Value.int .i64 1] :=
      ⟨by simp, .inr ⟨w1.heap.size, 1, #[.int .i64 1], rfl, B1.out.size, heap_alloc_new _ _, Nat.le_refl _, by unfold maxLen; omega, rfl, rfl⟩⟩
    refine ⟨.slice (some ⟨w1.heap.size, 0, none⟩) 1 1, rfl, OwnInts.mk' (zs := [1]) ho (by simp) (fun k hk => ?_), B1.out.trans ((below1 w1 _).mono B1.out.size)⟩
    have : k = 0 := by simpa using hk
    subst this
    unfold Fits nth; simp
  | false =>
    have HE := Lib.hid (of_decide_eq_false hx)
    have hlen : r.length = (oddsL P).length + 1 := by
      rcases HR.out with h | h
      · exact absurd h HE.out
      · exact h.1
    have c3 : w1.cell? ⟨w.heap.size, 3, none⟩ = some (.slice aq (oddsL P).length cq) := S1.out.cell (i := 3) (by omega)
    have HI : Hid (IntsAt w1 (some ⟨w.heap.size + 1, 0, none⟩) r) := ⟨by omega, HFt.out, fun _ => ⟨w.heap.size + 1, 0, rfl, fun k hk => by
      rw [Nat.zero_add, cell_of_row _ _ _ _ _ _ N1.out]
      exact meaA_at r (by omega)⟩⟩
    have hq1 : (0 : Int) ≤ 1 + ((oddsL P).length : Int) := by omega
    have hq2 : 1 + ((oddsL P).length : Int) ≤ 13 := by omega
    have hq3 : (1 + ((oddsL P).length : Int)).toNat = r.length := by omega
    have HCl := Lib.hid (Clone_is (w := w1) 13 HI.out)
    have HLen := Lib.hid hlen
    clear hx hlen
    go_wp2_with fail
    refine HCl.out.mono ?_
    rintro e w2 ⟨u, rfl, hu, hb⟩
    have B2 := Lib.hid (B1.out.trans (hb.mono B1.out.size))
    have HU := Lib.hid (hu.base (B' := w.heap.size) B1.out.size)
    clear hb hu HCl
    go_wp2
    go_ret
    exact ⟨_, rfl, HU.out, B2.out⟩
end
end Go.Proofs.YtglbkbiphcgidaaDoor
namespace Go.Proofs.YtglbkbiphcgidaaDoor
section
open Go.RowKit Go.Shelf
attribute [local go_sem] Oper.semAt_some

theorem sca_range {w : World} {g : Nat} {T : TypeId} {A : Array Value} (h : w.heap[g]? = some (.cells A T (0, 0))) : w.rangeAt g 0 A.toList := fun j u hu => by
  rw [Nat.zero_add, cell_of_row _ _ _ _ _ _ h, ← Array.getElem?_toList]
  exact hu
theorem range_keeps {w w' : World} {g o : Nat} {cs : List Value} (h : w.rangeAt g o cs) (hb : Below w.heap.size w w') : w'.rangeAt g o cs := fun j u hu =>
  (hb.cell (World.block_lt_of_cell? _ _ (h j u hu))).trans (h j u hu)

set_option linter.unusedSimpArgs false in
set_option maxRecDepth 100000 in
set_option maxHeartbeats 16000000 in
theorem asked_is {w : World} {s : Value} {O P m : List Int} {zss : List (List Int)} {v : Nat} (hW : LostW w) (hs : ScaleAt w s O zss P) (hP12 : P.length ≤ 12) (hl : (oddsL P).length ≤ 12) (hg : goodB P m = true) (hv : v < P.length) :
    Calls Tryd.prog 83 #[s, .int .i64 v, meaV m] w fun e w' => e = .returned (meaV (askL P m (nth P v))) ∧ Below w.heap.size w w' := by
  have HS := Lib.hid hs
  obtain ⟨ao, an, ap, aq, co, cn, cp, cq, rfl, hgm, hq⟩ := hs
  have h3 : IntsAt w ap P := by
    obtain ⟨_, _, _, _, _, _, _, _, e, _, _, h3⟩ := hgm
    cases e
    exact h3
  obtain ⟨pb, po, hpa, hpc⟩ := h3.cell (by omega)
  have HPC := Lib.hid (hpc v hv)
  subst hpa
  obtain ⟨p, hp⟩ : ∃ p, p = nth P v := ⟨_, rfl⟩
  obtain ⟨K, hK⟩ : ∃ K, K = placesL P p := ⟨_, rfl⟩
  have hK0 : 0 < K := by rw [hK]; exact places_pos P p
  have hK13 : K ≤ (oddsL P).length + 1 := by rw [hK]; exact places_le P p
  obtain ⟨w1, hw1⟩ : ∃ y, y = ((w.alloc (.cells (scaA (.slice ao O.length co) (.slice an zss.length cn) (.slice (some ⟨pb, po, none⟩) P.length cp) (.slice aq (oddsL P).length cq) (mostL P)) 90)).alloc (.cells (meaA m) 88)).alloc (.cells #[.int .i64 0, .int .i64 0, .int .i64 0, .int .i64 0, .int .i64 0, .int .i64 0, .int .i64 0, .int .i64 0, .int .i64 0, .int .i64 0, .int .i64 0, .int .i64 0, .int .i64 0] 88) := ⟨_, rfl⟩
  have HW1 := Lib.hid hw1
  have hsz2 : ((w.alloc (.cells (scaA (.slice ao O.length co) (.slice an zss.length cn) (.slice (some ⟨pb, po, none⟩) P.length cp) (.slice aq (oddsL P).length cq) (mostL P)) 90)).alloc (.cells (meaA m) 88)).heap.size = w.heap.size + 2 := by simp
  have B1 : Hid (Below w.heap.size w w1) := by rw [hw1]; exact (below2 _ _ _).alloc (by rw [hsz2]; omega) _
  have H1 : Hid (w1.heap[w.heap.size]? = some (.cells (scaA (.slice ao O.length co) (.slice an zss.length cn) (.slice (some ⟨pb, po, none⟩) P.length cp) (.slice aq (oddsL P).length cq) (mostL P)) 90 (0, 0))) := by rw [hw1]; exact (heap_alloc_old _ _ (by rw [hsz2]; omega)).trans (heap_alloc2_old _ _ _)
  have M1 : Hid (w1.heap[w.heap.size + 1]? = some (.cells (meaA m) 88 (0, 0))) := by rw [hw1]; exact (heap_alloc_old _ _ (by rw [hsz2]; omega)).trans (heap_alloc2_new _ _ _)
  have N1 : Hid (w1.heap[w.heap.size + 2]? = some (.cells (meaA []) 88 (0, 0))) := by rw [hw1, ← hsz2]; exact heap_alloc_new _ _
  have hs1 : w1.heap.size = w.heap.size + 3 := by rw [hw1]; simp
  have HPF : Hid (∀ W, Below w1.heap.size w1 W → Calls Tryd.prog 76 #[.agg (scaA (.slice ao O.length co) (.slice an zss.length cn) (.slice (some ⟨pb, po, none⟩) P.length cp) (.slice aq (oddsL P).length cq) (mostL P)), .int .i64 p] W fun e w' => e = .returned (.int .i64 K) ∧ Below W.heap.size W w') := fun W hb => by rw [hK]; exact placesFrom_is (HS.out.below (B1.out.trans (hb.mono B1.out.size)))
  have HHd : Hid (∀ W : World, Calls Tryd.prog 77 #[.agg (meaA m), .int .i64 K] W fun e w' => e = .returned (meaV (m.take K)) ∧ Below W.heap.size W w') := fun W => head_is (by omega)
  have HSw : Hid (∀ W', Below w1.heap.size w1 W' → W'.rangeAt w.heap.size 0 (scaA (.slice ao O.length co) (.slice an zss.length cn) (.slice (some ⟨pb, po, none⟩) P.length cp) (.slice aq (oddsL P).length cq) (mostL P)).toList ∧ W'.cell? ⟨w.heap.size, 2, none⟩ = some (.slice (some ⟨pb, po, none⟩) P.length cp) ∧ W'.cell? ⟨pb, po + v, none⟩ = some (.int .i64 p)) := fun W' hb => by
    have hr := sca_of ((hb.block _ (Array.getElem?_eq_some_iff.1 H1.out).1).trans H1.out)
    have hbb := B1.out.trans (hb.mono B1.out.size)
    refine ⟨range_keeps (sca_range H1.out) hb, hr.cell (i := 2) (by omega), ?_⟩
    rw [hp]
    exact (hbb.cell (World.block_lt_of_cell? _ _ HPC.out)).trans HPC.out
  have Kd : Hid (Below w1.heap.size w1 w1.drew) := (Below.refl _ _).drew
  have HLw := Lib.hid hW
  have HG := Lib.hid hg
  have HKe := Lib.hid hK
  have hv0 : (0 : Int) ≤ (v : Int) := by omega
  have hv1 : (v : Int) < P.length := by omega
  rw [← hp]
  have HV : Hid (askL P m p = askL P m p) := rfl
  unfold scaV
  rw [show meaV m = Value.agg (meaA m) from rfl]
  obtain ⟨av, hav⟩ : ∃ av, av = meaV (askL P m p) := ⟨_, rfl⟩
  have HAV := Lib.hid hav
  rw [← hav]
  clear hw1 hgm hq h3 hpc hW hg hK hp hsz2 hav HV
  go_enter Tryd.func83, Tryd.ntmps83
  go_upto_region 1 with fail
  rw [← HW1.out]
  refine wp_region_M (S := (fun W' => W'.rangeAt w.heap.size 0 (scaA (.slice ao O.length co) (.slice an zss.length cn) (.slice (some ⟨pb, po, none⟩) P.length cp) (.slice aq (oddsL P).length cq) (mostL P)).toList ∧ W'.cell? ⟨w.heap.size, 2, none⟩ = some (.slice (some ⟨pb, po, none⟩) P.length cp) ∧ W'.cell? ⟨pb, po + v, none⟩ = some (.int .i64 p))) (m := 9) (by kernel_rfl) (HSw.out _ Kd.out) (fun hHeld => ?_)
  refine wpAnyM_take (i := 0) (v := .agg (scaA (.slice ao O.length co) (.slice an zss.length cn) (.slice (some ⟨pb, po, none⟩) P.length cp) (.slice aq (oddsL P).length cq) (mostL P)).toList.toArray) rfl (by kernel_rfl) (by decide) (by kernel_rfl) (by kernel_rfl) (by kernel_rfl) (fun _ _ _ h => h) (yieldsIf_load_mid (by rfl) 90 _ rfl w.heap.size 0 rfl (scaA (.slice ao O.length co) (.slice an zss.length cn) (.slice (some ⟨pb, po, none⟩) P.length cp) (.slice aq (oddsL P).length cq) (mostL P)).toList _ (fun W h => h.1) Tryd.underlying90 rfl (by kernel_rfl)) (by assumption) ?_
  try simp only [Act.put, List.setIfInBounds_toArray, List.set_cons_zero, List.set_cons_succ]
  refine wpAnyM_take (i := 1) (v := ?vm1) rfl (by kernel_rfl) (by decide) (by kernel_rfl) (by kernel_rfl) (by kernel_rfl) (fun _ _ _ h => h) (Or.inl ⟨by rfl, ?hm1⟩) (by assumption) ?_
  case hm1 => (intro w hSw; (try dsimp only at hSw); go_simp; first | done | with_reducible rfl)
  try simp only [Act.put, List.setIfInBounds_toArray, List.set_cons_zero, List.set_cons_succ]
  refine wpAnyM_take (i := 2) (v := ?vm2) rfl (by kernel_rfl) (by decide) (by kernel_rfl) (by kernel_rfl) (by kernel_rfl) (fun _ _ _ h => h) (Or.inl ⟨by rfl, ?hm2⟩) (by assumption) ?_
  case hm2 => (intro w hSw; (try dsimp only at hSw); go_simp; first | done | with_reducible rfl)
  try simp only [Act.put, List.setIfInBounds_toArray, List.set_cons_zero, List.set_cons_succ]
  refine wpAnyM_take (i := 3) (v := ?vm3) rfl (by kernel_rfl) (by decide) (by kernel_rfl) (by kernel_rfl) (by kernel_rfl) (fun _ _ _ h => h) (Or.inl ⟨by rfl, ?hm3⟩) (by assumption) ?_
  case hm3 => (intro w hSw; (try dsimp only at hSw); go_simp; first | done | with_reducible rfl)
  try simp only [Act.put, List.setIfInBounds_toArray, List.set_cons_zero, List.set_cons_succ]
  refine wpAnyM_take (i := 4) (v := ?vm4) rfl (by kernel_rfl) (by decide) (by kernel_rfl) (by kernel_rfl) (by kernel_rfl) (fun _ _ _ h => h) (Or.inl ⟨by rfl, ?hm4⟩) (by assumption) ?_
  case hm4 => (intro w hSw; (try dsimp only at hSw); go_simp; first | done | with_reducible rfl)
  try simp only [Act.put, List.setIfInBounds_toArray, List.set_cons_zero, List.set_cons_succ]
  refine wpAnyM_take (i := 5) (v := ?vm5) rfl (by kernel_rfl) (by decide) (by kernel_rfl) (by kernel_rfl) (by kernel_rfl) (fun _ _ _ h => h) (Or.inl ⟨by rfl, ?hm5⟩) (by assumption) ?_
  case hm5 => (intro w hSw; (try dsimp only at hSw); go_simp; first | done | with_reducible rfl)
  try simp only [Act.put, List.setIfInBounds_toArray, List.set_cons_zero, List.set_cons_succ]
  refine wpAnyM_take (i := 6) (v := ?vm6) rfl (by kernel_rfl) (by decide) (by kernel_rfl) (by kernel_rfl) (by kernel_rfl) (fun _ _ _ h => h) (Or.inl ⟨by rfl, ?hm6⟩) (by assumption) ?_
  case hm6 => (intro w hSw; (try dsimp only at hSw); go_simp; first | done | with_reducible rfl)
  try simp only [Act.put, List.setIfInBounds_toArray, List.set_cons_zero, List.set_cons_succ]
  refine wpAnyM_one (i := 7) (by kernel_rfl) rfl (fun K hK => ?_)
  go_simp
  go_at_call 76
  refine (HPF.out w1.drew Kd.out).mono ?_
  rintro e w2 ⟨rfl, hb⟩
  have K2 := Lib.hid (Kd.out.trans (hb.mono Kd.out.size))
  clear hb
  go_wp2_with fail
  refine hK.out _ _ (fun _ => HSw.out _ K2.out) (fun hHeld => ?_)
  have hHeld := hHeld (by decide)
  clear hK K
  try simp only [Act.put, List.setIfInBounds_toArray, List.set_cons_zero, List.set_cons_succ]
  refine wpAnyM_one (i := 8) (by kernel_rfl) rfl (fun K hK => ?_)
  go_simp
  refine hK.out _ _ (fun _ => HSw.out _ K2.out) (fun hHeld => ?_)
  have hHeld := hHeld (by decide)
  clear hK K
  try simp only [Act.put, List.setIfInBounds_toArray, List.set_cons_zero, List.set_cons_succ]
  refine wpAnyM_done (by kernel_rfl) ?_ _

  have B2 := Lib.hid (B1.out.trans (K2.out.mono B1.out.size))
  have M2 := Lib.hid ((K2.out.block _ (Array.getElem?_eq_some_iff.1 M1.out).1).trans M1.out)
  have N2 := Lib.hid ((K2.out.block _ (Array.getElem?_eq_some_iff.1 N1.out).1).trans N1.out)
  clear M1 N1
  go_upto_region 3 with (first | (refine wpList_load_row rfl 88 _ rfl (w.heap.size + 1) rfl 88 (meaA m) (0, 0) _ M2.out Tryd.underlying88 rfl (by kernel_rfl) ?_; simp only [Act.put, List.setIfInBounds_toArray, List.set_cons_zero, List.set_cons_succ]) | (go_at_call 77; refine (HHd.out w2).mono ?_; rintro e w3 ⟨rfl, hb⟩; have K3 := Lib.hid (K2.out.trans (hb.mono K2.out.size)); have B3 := Lib.hid (B2.out.trans (hb.mono B2.out.size)); have M3 := Lib.hid ((hb.block _ (Array.getElem?_eq_some_iff.1 M2.out).1).trans M2.out); have N3 := Lib.hid ((hb.block _ (Array.getElem?_eq_some_iff.1 N2.out).1).trans N2.out); clear hb) | (refine wpList_store_row rfl 88 _ _ rfl (w.heap.size + 1) (meaA (m.take K)) rfl rfl 88 (meaA m) M3.out (by kernel_rfl) rfl (meaA_one _) ?_; simp only [Act.put, List.setIfInBounds_toArray, List.set_cons_zero, List.set_cons_succ]))
  obtain ⟨w4, hw4⟩ : ∃ y, y = w3.setRow (w.heap.size + 1) (meaA (m.take K)) := ⟨_, rfl⟩
  rw [← hw4]
  have ho4 : Only (fun x => x = w.heap.size + 1) w3 w4 := by rw [hw4]; exact only_row8 (S := fun x => x = w.heap.size + 1) (Only.refl _ w3) rfl _
  have M4 : Hid (w4.heap[w.heap.size + 1]? = some (.cells (meaA (m.take K)) 88 (0, 0))) := by rw [hw4]; exact setRow_heap _ _ _ _ _ _ M3.out
  have N4 := Lib.hid ((ho4.block _ (Array.getElem?_eq_some_iff.1 N3.out).1 (fun e => by omega)).trans N3.out)
  have B4 := Lib.hid (B3.out.trans (ho4.below B3.out.size (fun x hx => by rw [hx]; omega)))
  have R4 := Lib.hid (mea_of M4.out)
  have hSw := HSw.out w3 K3.out
  have c2 : w4.cell? ⟨w.heap.size, 2, none⟩ = some (.slice (some ⟨pb, po, none⟩) P.length cp) := (World.cell?_of_block (ho4.block _ (World.block_lt_of_cell? _ _ hSw.2.1) (fun e => by have e2 : w.heap.size = w.heap.size + 1 := e; omega))).trans hSw.2.1
  have p4 : w4.cell? ⟨pb, po + v, none⟩ = some (.int .i64 p) := (World.cell?_of_block (ho4.block _ (World.block_lt_of_cell? _ _ hSw.2.2) (fun e => by have h : pb < w.heap.size := World.block_lt_of_cell? _ _ HPC.out; have e2 : pb = w.heap.size + 1 := e; omega))).trans hSw.2.2
  have L4 := Lib.hid (HLw.out.below B4.out)
  have S4 : Hid (w4.rowIs w.heap.size 90 17 (scaF (.slice ao O.length co) (.slice an zss.length cn) (.slice (some ⟨pb, po, none⟩) P.length cp) (.slice aq (oddsL P).length cq) (mostL P))) := World.rowIs.of_block (rowIs_below (sca_of H1.out) K3.out) (ho4.block _ (by have := (rowIs_below (sca_of H1.out) K3.out).lt; exact this) (fun e => by omega))
  clear hw4 ho4 hSw HSw M2 M3 N2 N3 H1 HHd HPF K2 K3 B2 B3 B1 Kd
  have hv2 : (v : Int).toNat = v := by omega
  by_cases hm : m = [1]
  · have hcut : m.take K = [1] := by rw [hm]; cases K with
      | zero => omega
      | succ K => simp
    have HVV : Hid (av = meaV (m.take K)) := by rw [HAV.out, hcut]; unfold askL; rw [if_pos hm]; rfl
    by_cases hpe : p.tmod 2 = 0
    · have hpe1 : (p.tmod 2 == 0) = true := by simpa using hpe
      clear hpe hm hcut
      go_upto_region 4 with fail
      refine wp_region_lit ?_
      refine wpList_load_row rfl 88 _ rfl (w.heap.size + 1) rfl 88 (meaA (m.take K)) (0, 0) _ M4.out Tryd.underlying88 rfl (by kernel_rfl) ?_; simp only [Act.put, List.setIfInBounds_toArray, List.set_cons_zero, List.set_cons_succ]
      refine wpList_store_row rfl 88 _ _ rfl (w.heap.size + 2) (meaA (m.take K)) rfl rfl 88 (meaA []) N4.out (by kernel_rfl) rfl (meaA_one _) ?_; simp only [Act.put, List.setIfInBounds_toArray, List.set_cons_zero, List.set_cons_succ]
      go_wp2_with fail
      have ho := only_row8 (S := fun x => x = w.heap.size + 2) (Only.refl _ w4) rfl (meaA (m.take K))
      exact ret_mea1 (g := w.heap.size + 2) rfl rfl (setRow_heap _ _ _ _ _ _ N4.out) ⟨by rw [HVV.out], B4.out.trans (ho.below B4.out.size (fun x hx => by rw [hx]; omega))⟩

    · have hpe1 : (p.tmod 2 == 0) = false := by simpa using hpe
      have x0 : w4.cell? ⟨w.heap.size + 1, 0, none⟩ = some (.int .i64 (nth (m.take K) 0)) := R4.out.cell (i := 0) (by omega)
      have x1 : w4.cell? ⟨w.heap.size + 1, 1, none⟩ = some (.int .i64 (nth (m.take K) 1)) := R4.out.cell (i := 1) (by omega)
      have x2 : w4.cell? ⟨w.heap.size + 1, 2, none⟩ = some (.int .i64 (nth (m.take K) 2)) := R4.out.cell (i := 2) (by omega)
      have x3 : w4.cell? ⟨w.heap.size + 1, 3, none⟩ = some (.int .i64 (nth (m.take K) 3)) := R4.out.cell (i := 3) (by omega)
      have x4 : w4.cell? ⟨w.heap.size + 1, 4, none⟩ = some (.int .i64 (nth (m.take K) 4)) := R4.out.cell (i := 4) (by omega)
      have x5 : w4.cell? ⟨w.heap.size + 1, 5, none⟩ = some (.int .i64 (nth (m.take K) 5)) := R4.out.cell (i := 5) (by omega)
      have x6 : w4.cell? ⟨w.heap.size + 1, 6, none⟩ = some (.int .i64 (nth (m.take K) 6)) := R4.out.cell (i := 6) (by omega)
      have x7 : w4.cell? ⟨w.heap.size + 1, 7, none⟩ = some (.int .i64 (nth (m.take K) 7)) := R4.out.cell (i := 7) (by omega)
      have x8 : w4.cell? ⟨w.heap.size + 1, 8, none⟩ = some (.int .i64 (nth (m.take K) 8)) := R4.out.cell (i := 8) (by omega)
      have x9 : w4.cell? ⟨w.heap.size + 1, 9, none⟩ = some (.int .i64 (nth (m.take K) 9)) := R4.out.cell (i := 9) (by omega)
      have x10 : w4.cell? ⟨w.heap.size + 1, 10, none⟩ = some (.int .i64 (nth (m.take K) 10)) := R4.out.cell (i := 10) (by omega)
      have x11 : w4.cell? ⟨w.heap.size + 1, 11, none⟩ = some (.int .i64 (nth (m.take K) 11)) := R4.out.cell (i := 11) (by omega)
      have x12 : w4.cell? ⟨w.heap.size + 1, 12, none⟩ = some (.int .i64 (nth (m.take K) 12)) := R4.out.cell (i := 12) (by omega)
      have l0 : w4.cell? ⟨0, 0, none⟩ = some (.int .i64 (nth [1] 0)) := L4.out 0 (by omega)
      have l1 : w4.cell? ⟨0, 1, none⟩ = some (.int .i64 (nth [1] 1)) := L4.out 1 (by omega)
      have l2 : w4.cell? ⟨0, 2, none⟩ = some (.int .i64 (nth [1] 2)) := L4.out 2 (by omega)
      have l3 : w4.cell? ⟨0, 3, none⟩ = some (.int .i64 (nth [1] 3)) := L4.out 3 (by omega)
      have l4 : w4.cell? ⟨0, 4, none⟩ = some (.int .i64 (nth [1] 4)) := L4.out 4 (by omega)
      have l5 : w4.cell? ⟨0, 5, none⟩ = some (.int .i64 (nth [1] 5)) := L4.out 5 (by omega)
      have l6 : w4.cell? ⟨0, 6, none⟩ = some (.int .i64 (nth [1] 6)) := L4.out 6 (by omega)
      have l7 : w4.cell? ⟨0, 7, none⟩ = some (.int .i64 (nth [1] 7)) := L4.out 7 (by omega)
      have l8 : w4.cell? ⟨0, 8, none⟩ = some (.int .i64 (nth [1] 8)) := L4.out 8 (by omega)
      have l9 : w4.cell? ⟨0, 9, none⟩ = some (.int .i64 (nth [1] 9)) := L4.out 9 (by omega)
      have l10 : w4.cell? ⟨0, 10, none⟩ = some (.int .i64 (nth [1] 10)) := L4.out 10 (by omega)
      have l11 : w4.cell? ⟨0, 11, none⟩ = some (.int .i64 (nth [1] 11)) := L4.out 11 (by omega)
      have l12 : w4.cell? ⟨0, 12, none⟩ = some (.int .i64 (nth [1] 12)) := L4.out 12 (by omega)
      have he : ∀ W, (Op.equalIn 10000 88 (.agg #[.int .i64 (nth (m.take K) 0), .int .i64 (nth (m.take K) 1), .int .i64 (nth (m.take K) 2), .int .i64 (nth (m.take K) 3), .int .i64 (nth (m.take K) 4), .int .i64 (nth (m.take K) 5), .int .i64 (nth (m.take K) 6), .int .i64 (nth (m.take K) 7), .int .i64 (nth (m.take K) 8), .int .i64 (nth (m.take K) 9), .int .i64 (nth (m.take K) 10), .int .i64 (nth (m.take K) 11), .int .i64 (nth (m.take K) 12)]) (.agg #[.int .i64 (nth [1] 0), .int .i64 (nth [1] 1), .int .i64 (nth [1] 2), .int .i64 (nth [1] 3), .int .i64 (nth [1] 4), .int .i64 (nth [1] 5), .int .i64 (nth [1] 6), .int .i64 (nth [1] 7), .int .i64 (nth [1] 8), .int .i64 (nth [1] 9), .int .i64 (nth [1] 10), .int .i64 (nth [1] 11), .int .i64 (nth [1] 12)])).run Tryd.prog W = .ok true W := run_eq_lost (.inl hcut) (by rw [hcut]; rfl)

      clear hpe hm hcut
      go_upto_region 4 with fail
      refine wp_region_lit ?_
      refine wpList_load_row rfl 88 _ rfl (w.heap.size + 1) rfl 88 (meaA (m.take K)) (0, 0) _ M4.out Tryd.underlying88 rfl (by kernel_rfl) ?_; simp only [Act.put, List.setIfInBounds_toArray, List.set_cons_zero, List.set_cons_succ]
      refine wpList_store_row rfl 88 _ _ rfl (w.heap.size + 2) (meaA (m.take K)) rfl rfl 88 (meaA []) N4.out (by kernel_rfl) rfl (meaA_one _) ?_; simp only [Act.put, List.setIfInBounds_toArray, List.set_cons_zero, List.set_cons_succ]
      go_wp2_with fail
      have ho := only_row8 (S := fun x => x = w.heap.size + 2) (Only.refl _ w4) rfl (meaA (m.take K))
      exact ret_mea1 (g := w.heap.size + 2) rfl rfl (setRow_heap _ _ _ _ _ _ N4.out) ⟨by rw [HVV.out], B4.out.trans (ho.below B4.out.size (fun x hx => by rw [hx]; omega))⟩

  · obtain ⟨hlen, h0⟩ := good_top HG.out hm
    by_cases hpe : p.tmod 2 = 0
    · have HVV : Hid (av = meaV (m.take K)) := by
        rw [HAV.out]
        unfold askL
        rw [if_neg hm, if_pos hpe, ← HKe.out]
        exact meaV_congr fun i _ => cut_take
      have hpe1 : (p.tmod 2 == 0) = true := by simpa using hpe
      clear hpe hm hlen h0
      go_upto_region 4 with fail
      refine wp_region_lit ?_
      refine wpList_load_row rfl 88 _ rfl (w.heap.size + 1) rfl 88 (meaA (m.take K)) (0, 0) _ M4.out Tryd.underlying88 rfl (by kernel_rfl) ?_; simp only [Act.put, List.setIfInBounds_toArray, List.set_cons_zero, List.set_cons_succ]
      refine wpList_store_row rfl 88 _ _ rfl (w.heap.size + 2) (meaA (m.take K)) rfl rfl 88 (meaA []) N4.out (by kernel_rfl) rfl (meaA_one _) ?_; simp only [Act.put, List.setIfInBounds_toArray, List.set_cons_zero, List.set_cons_succ]
      go_wp2_with fail
      have ho := only_row8 (S := fun x => x = w.heap.size + 2) (Only.refl _ w4) rfl (meaA (m.take K))
      exact ret_mea1 (g := w.heap.size + 2) rfl rfl (setRow_heap _ _ _ _ _ _ N4.out) ⟨by rw [HVV.out], B4.out.trans (ho.below B4.out.size (fun x hx => by rw [hx]; omega))⟩

    · have hpe1 : (p.tmod 2 == 0) = false := by simpa using hpe
      have HAK : Hid (askL P m p = bumpL (mostL P) (cutL m K) (K - 1)) := by
        unfold askL
        rw [if_neg hm, if_neg hpe, ← HKe.out]
        rfl
      have hz0 : nth (m.take K) 0 = 0 := by rw [nth_take8, if_pos hK0]; exact h0
      have hne1 : m.take K ≠ [1] := fun e => by rw [e] at hz0; cases hz0
      have HBd : Hid (∀ j, 0 ≤ nth m j ∧ nth m j ≤ 12) := fun j => by
        by_cases hj : j < m.length
        · rcases goodB_iff.1 HG.out with h | ⟨_, h⟩
          · exact absurd h hm
          · have h1 := h j hj
            have h2 := mostK_le P P.length j
            have h3 : nth (mostL P) j = nth (mostK P P.length) j := rfl
            omega
        · rw [nth_off8 (by omega)]; omega
      have x0 : w4.cell? ⟨w.heap.size + 1, 0, none⟩ = some (.int .i64 (nth (m.take K) 0)) := R4.out.cell (i := 0) (by omega)
      have x1 : w4.cell? ⟨w.heap.size + 1, 1, none⟩ = some (.int .i64 (nth (m.take K) 1)) := R4.out.cell (i := 1) (by omega)
      have x2 : w4.cell? ⟨w.heap.size + 1, 2, none⟩ = some (.int .i64 (nth (m.take K) 2)) := R4.out.cell (i := 2) (by omega)
      have x3 : w4.cell? ⟨w.heap.size + 1, 3, none⟩ = some (.int .i64 (nth (m.take K) 3)) := R4.out.cell (i := 3) (by omega)
      have x4 : w4.cell? ⟨w.heap.size + 1, 4, none⟩ = some (.int .i64 (nth (m.take K) 4)) := R4.out.cell (i := 4) (by omega)
      have x5 : w4.cell? ⟨w.heap.size + 1, 5, none⟩ = some (.int .i64 (nth (m.take K) 5)) := R4.out.cell (i := 5) (by omega)
      have x6 : w4.cell? ⟨w.heap.size + 1, 6, none⟩ = some (.int .i64 (nth (m.take K) 6)) := R4.out.cell (i := 6) (by omega)
      have x7 : w4.cell? ⟨w.heap.size + 1, 7, none⟩ = some (.int .i64 (nth (m.take K) 7)) := R4.out.cell (i := 7) (by omega)
      have x8 : w4.cell? ⟨w.heap.size + 1, 8, none⟩ = some (.int .i64 (nth (m.take K) 8)) := R4.out.cell (i := 8) (by omega)
      have x9 : w4.cell? ⟨w.heap.size + 1, 9, none⟩ = some (.int .i64 (nth (m.take K) 9)) := R4.out.cell (i := 9) (by omega)
      have x10 : w4.cell? ⟨w.heap.size + 1, 10, none⟩ = some (.int .i64 (nth (m.take K) 10)) := R4.out.cell (i := 10) (by omega)
      have x11 : w4.cell? ⟨w.heap.size + 1, 11, none⟩ = some (.int .i64 (nth (m.take K) 11)) := R4.out.cell (i := 11) (by omega)
      have x12 : w4.cell? ⟨w.heap.size + 1, 12, none⟩ = some (.int .i64 (nth (m.take K) 12)) := R4.out.cell (i := 12) (by omega)
      have l0 : w4.cell? ⟨0, 0, none⟩ = some (.int .i64 (nth [1] 0)) := L4.out 0 (by omega)
      have l1 : w4.cell? ⟨0, 1, none⟩ = some (.int .i64 (nth [1] 1)) := L4.out 1 (by omega)
      have l2 : w4.cell? ⟨0, 2, none⟩ = some (.int .i64 (nth [1] 2)) := L4.out 2 (by omega)
      have l3 : w4.cell? ⟨0, 3, none⟩ = some (.int .i64 (nth [1] 3)) := L4.out 3 (by omega)
      have l4 : w4.cell? ⟨0, 4, none⟩ = some (.int .i64 (nth [1] 4)) := L4.out 4 (by omega)
      have l5 : w4.cell? ⟨0, 5, none⟩ = some (.int .i64 (nth [1] 5)) := L4.out 5 (by omega)
      have l6 : w4.cell? ⟨0, 6, none⟩ = some (.int .i64 (nth [1] 6)) := L4.out 6 (by omega)
      have l7 : w4.cell? ⟨0, 7, none⟩ = some (.int .i64 (nth [1] 7)) := L4.out 7 (by omega)
      have l8 : w4.cell? ⟨0, 8, none⟩ = some (.int .i64 (nth [1] 8)) := L4.out 8 (by omega)
      have l9 : w4.cell? ⟨0, 9, none⟩ = some (.int .i64 (nth [1] 9)) := L4.out 9 (by omega)
      have l10 : w4.cell? ⟨0, 10, none⟩ = some (.int .i64 (nth [1] 10)) := L4.out 10 (by omega)
      have l11 : w4.cell? ⟨0, 11, none⟩ = some (.int .i64 (nth [1] 11)) := L4.out 11 (by omega)
      have l12 : w4.cell? ⟨0, 12, none⟩ = some (.int .i64 (nth [1] 12)) := L4.out 12 (by omega)
      have he : ∀ W, (Op.equalIn 10000 88 (.agg #[.int .i64 (nth (m.take K) 0), .int .i64 (nth (m.take K) 1), .int .i64 (nth (m.take K) 2), .int .i64 (nth (m.take K) 3), .int .i64 (nth (m.take K) 4), .int .i64 (nth (m.take K) 5), .int .i64 (nth (m.take K) 6), .int .i64 (nth (m.take K) 7), .int .i64 (nth (m.take K) 8), .int .i64 (nth (m.take K) 9), .int .i64 (nth (m.take K) 10), .int .i64 (nth (m.take K) 11), .int .i64 (nth (m.take K) 12)]) (.agg #[.int .i64 (nth [1] 0), .int .i64 (nth [1] 1), .int .i64 (nth [1] 2), .int .i64 (nth [1] 3), .int .i64 (nth [1] 4), .int .i64 (nth [1] 5), .int .i64 (nth [1] 6), .int .i64 (nth [1] 7), .int .i64 (nth [1] 8), .int .i64 (nth [1] 9), .int .i64 (nth [1] 10), .int .i64 (nth [1] 11), .int .i64 (nth [1] 12)])).run Tryd.prog W = .ok false W := run_eq_lost (.inr hz0) (decide_eq_false hne1)

      have RC : Hid (w4.rowIs (w.heap.size + 1) 88 13 (meaF (cutL m K))) := World.rowIs.congr R4.out fun i _ => by unfold meaF; rw [cut_take]
      have HLn : Hid (m.length = (oddsL P).length + 1) := hlen
      have HB0 : Hid (∀ j, 0 ≤ nth (cutL m K) j ∧ nth (cutL m K) j ≤ 12) := fun j => by
        rw [cutL_nth]
        split
        · exact HBd.out j
        · omega
      have hK1 : IntKind.i64.wrap ((K : Int) - 1) = (K : Int) - 1 := by rw [IntKind.wrap_i64]; omega
      clear hpe hm hz0 hne1 hlen h0
      go_upto_region 5 with fail
      clear he x0 l0 x1 l1 x2 l2 x3 l3 x4 l4 x5 l5 x6 l6 x7 l7 x8 l8 x9 l9 x10 l10 x11 l11 x12 l12

      go_wp2
      go_loopw [8] (fun iv wr => ∃ (i : Nat) (h : List Int), i < K ∧ iv = .int .i64 i ∧ Hid (h.length = m.length ∧ ∀ j, 0 ≤ nth h j ∧ nth h j ≤ 12) ∧ Hid (askL P m p = bumpL (mostL P) h i) ∧ Hid (wr.rowIs (w.heap.size + 1) 88 13 (meaF h)) ∧ Hid (Only (fun x => x = w.heap.size + 1) w4 wr)) (fun iv _ => (intOf iv).toNat)
      case atStart => exact ⟨K - 1, cutL m K, by omega, by congr 1; omega, ⟨cutL_len m K, HB0.out⟩, HAK, RC, Only.refl _ _⟩
      case round =>
        clear RC HAK HB0
        obtain ⟨i, h, hi, rfl, HH, HAs, HRw, HO⟩ := hrel
        have N5 := Lib.hid ((HO.out.block _ (Array.getElem?_eq_some_iff.1 N4.out).1 (fun e => by omega)).trans N4.out)
        have B5 := Lib.hid (B4.out.trans (HO.out.below (B := w.heap.size) B4.out.size (fun x hx => by rw [hx]; omega)))
        have S5 : Hid (wr.rowIs w.heap.size 90 17 (scaF (.slice ao O.length co) (.slice an zss.length cn) (.slice (some ⟨pb, po, none⟩) P.length cp) (.slice aq (oddsL P).length cq) (mostL P))) := World.rowIs.of_block S4.out (HO.out.block _ S4.out.lt (fun e => by omega))
        by_cases hpos : 0 < i
        · have hi0 : (0 : Int) < (i : Int) := by omega
          have hi1 : (0 : Int) ≤ (i : Int) := by omega
          have hi13 : (i : Int) < 13 := by omega
          have hi2 : IntKind.i64.wrap ((i : Int) - 1) = (i : Int) - 1 := by rw [IntKind.wrap_i64]; omega
          have hih : i < h.length := by have := HH.out.1; have := HLn.out; omega
          obtain ⟨c, hc⟩ : ∃ c, c = nth h i := ⟨_, rfl⟩
          obtain ⟨y, hy⟩ : ∃ y, y = nth (mostL P) i := ⟨_, rfl⟩
          have hcb := HH.out.2 i
          have x1 : wr.cell? ⟨w.heap.size + 1, i, none⟩ = some (.int .i64 c) := by rw [hc]; exact HRw.out.cell (by omega)
          have x2 := HRw.out.frozen i
          have q1 : wr.cell? ⟨w.heap.size, 4 + i, none⟩ = some (.int .i64 y) := by
            have h := S5.out.cell (i := i + 4) (by omega)
            rw [show 4 + i = i + 4 by omega, h, hy]
            rfl
          rw [← hc] at hcb
          have HC := Lib.hid hc
          have HYy := Lib.hid hy
          clear hc hy
          by_cases hlt : c < y
          · have HE : Hid (av = meaV (h.set i (c + 1))) := by
              rw [HAV.out, HAs.out, bumpL_yes hpos (by rw [← HC.out, ← HYy.out]; exact hlt), ← HC.out]
              rfl
            have hw1 : IntKind.i64.wrap (c + 1) = c + 1 := by rw [IntKind.wrap_i64]; omega
            go_upto_region 8 with fail
            go_quiet (fail)
            have x1d : (wr.drewN nq).cell? ⟨w.heap.size + 1, i, none⟩ = some (.int .i64 c) := by rw [World.cell?_drewN]; exact x1
            have x2d : (wr.drewN nq).frozen? ⟨w.heap.size + 1, i, none⟩ = false := (rowIs_drewN8 HRw.out nq).frozen i
            have R7 : Hid (((wr.drewN nq).setCell ⟨w.heap.size + 1, i, none⟩ (.int .i64 (c + 1))).rowIs (w.heap.size + 1) 88 13 (meaF (h.set i (c + 1)))) := World.rowIs.congr ((rowIs_drewN8 HRw.out nq).set i _) fun j _ => by
              unfold meaF
              by_cases e : j = i
              · subst e; rw [if_pos rfl]; congr 1; unfold nth; simp [hih]
              · rw [if_neg e]; congr 1; unfold nth; simp [List.getElem?_set, Ne.symm e]
            have ho7 : Only (fun x => x = w.heap.size + 1) wr ((wr.drewN nq).setCell ⟨w.heap.size + 1, i, none⟩ (.int .i64 (c + 1))) := (Only.of_below (S := fun x => x = w.heap.size + 1) (below_drewN (Below.refl wr.heap.size wr) nq)).setCell (p := ⟨w.heap.size + 1, i, none⟩) rfl _
            have M7 := Lib.hid (mea_cells R7.out)
            have N7 := Lib.hid ((ho7.block _ (Array.getElem?_eq_some_iff.1 N5.out).1 (fun e => by omega)).trans N5.out)
            have B7 := Lib.hid (B5.out.trans (ho7.below (B := w.heap.size) B5.out.size (fun x hx => by rw [hx]; omega)))
            clear R7 ho7
            go_upto_region 10 with fail
            refine wp_region_lit ?_
            refine wpList_load_row rfl 88 _ rfl (w.heap.size + 1) rfl 88 (meaA (h.set i (c + 1))) (0, 0) _ M7.out Tryd.underlying88 rfl (by kernel_rfl) ?_; simp only [Act.put, List.setIfInBounds_toArray, List.set_cons_zero, List.set_cons_succ]
            refine wpList_store_row rfl 88 _ _ rfl (w.heap.size + 2) (meaA (h.set i (c + 1))) rfl rfl 88 (meaA []) N7.out (by kernel_rfl) rfl (meaA_one _) ?_; simp only [Act.put, List.setIfInBounds_toArray, List.set_cons_zero, List.set_cons_succ]
            go_wp2_with fail
            have ho := only_row8 (S := fun x => x = w.heap.size + 2) (Only.refl _ ((wr.drewN nq).setCell ⟨w.heap.size + 1, i, none⟩ (.int .i64 (c + 1)))) rfl (meaA (h.set i (c + 1)))
            exact ret_mea1 (g := w.heap.size + 2) rfl rfl (setRow_heap _ _ _ _ _ _ N7.out) ⟨by rw [HE.out], B7.out.trans (ho.below B7.out.size (fun x hx => by rw [hx]; omega))⟩
          · have HAn : Hid (askL P m p = bumpL (mostL P) (h.set i 0) (i - 1)) := by
              rw [HAs.out, bumpL_no hpos (by rw [← HC.out, ← HYy.out]; exact hlt)]
              rfl
            have HHn : Hid ((h.set i 0).length = m.length ∧ ∀ j, 0 ≤ nth (h.set i 0) j ∧ nth (h.set i 0) j ≤ 12) := ⟨by rw [List.length_set]; exact HH.out.1, fun j => by
              have h1 := HH.out.2 j
              by_cases e : j = i
              · subst e; unfold nth; simp [hih]
              · unfold nth at h1 ⊢; simpa [List.getElem?_set, Ne.symm e] using h1⟩
            go_upto_region 8 with fail
            go_quiet (fail)
            have x1d : (wr.drewN nq).cell? ⟨w.heap.size + 1, i, none⟩ = some (.int .i64 c) := by rw [World.cell?_drewN]; exact x1
            have x2d : (wr.drewN nq).frozen? ⟨w.heap.size + 1, i, none⟩ = false := (rowIs_drewN8 HRw.out nq).frozen i
            go_wp2
            go_roundw
            case rel =>
              refine ⟨i - 1, h.set i 0, by omega, by go_num, HHn, HAn, World.rowIs.congr ((rowIs_drewN8 HRw.out nq).set i _) fun j _ => ?_, HO.out.trans ((Only.of_below (S := fun x => x = w.heap.size + 1) (below_drewN (Below.refl wr.heap.size wr) nq)).setCell (p := ⟨w.heap.size + 1, i, none⟩) rfl _)⟩
              unfold meaF
              by_cases e : j = i
              · subst e; rw [if_pos rfl]; congr 1; unfold nth; simp [hih]
              · rw [if_neg e]; congr 1; unfold nth; simp [List.getElem?_set, Ne.symm e]
            case measure => simp [intOf]; omega
        · have hi0 : ¬ (0 : Int) < (i : Int) := by omega
          have hie : i = 0 := by omega
          have HE : Hid (av = meaV [1]) := by
            rw [HAV.out, HAs.out, hie]; rfl
          have L5 := Lib.hid (HLw.out.below B5.out)
          have LWX := L5.out
          clear hie
          go_upto_region 12 with fail
          refine wp_region_lit ?_
          refine wpList_load_mid rfl 88 _ rfl 0 0 rfl (meaA [1]).toList _ LWX.range Tryd.underlying88 rfl (by kernel_rfl) ?_; simp only [Act.put, List.setIfInBounds_toArray, List.set_cons_zero, List.set_cons_succ, Array.toArray_toList]
          refine wpList_store_row rfl 88 _ _ rfl (w.heap.size + 2) (meaA [1]) rfl rfl 88 (meaA []) N5.out (by kernel_rfl) rfl (meaA_one _) ?_; simp only [Act.put, List.setIfInBounds_toArray, List.set_cons_zero, List.set_cons_succ]
          go_wp2_with fail
          have ho := only_row8 (S := fun x => x = w.heap.size + 2) (Only.refl _ wr) rfl (meaA [1])
          exact ret_mea1 (g := w.heap.size + 2) rfl rfl (setRow_heap _ _ _ _ _ _ N5.out) ⟨by rw [HE.out], B5.out.trans (ho.below B5.out.size (fun x hx => by rw [hx]; omega))⟩
end
end Go.Proofs.YtglbkbiphcgidaaDoor
namespace Go.Proofs.YtglbkbiphcgidaaDoor
section
open Go.RowKit Go.Shelf

theorem info_mea : (Tryd.prog.info? 88).map (fun i => (i.zero, i.size, i.bytes)) = some (some (.agg #[.int .i64 0, .int .i64 0, .int .i64 0, .int .i64 0, .int .i64 0, .int .i64 0, .int .i64 0, .int .i64 0, .int .i64 0, .int .i64 0, .int .i64 0, .int .i64 0, .int .i64 0]), 13, 104) := by kernel_rfl
theorem scaA_one {a b c d : Value} (ha : a.oneCell' = true) (hb : b.oneCell' = true) (hc : c.oneCell' = true) (hd : d.oneCell' = true) (M : List Int) : (scaA a b c d M).all (·.oneCell') = true := by
  have h : ∀ n, (Value.int .i64 n).oneCell' = true := fun _ => rfl
  simp [scaA, ha, hb, hc, hd, h]
/-- The cells of measures, one behind another. -/
def meaL (ls : List (List Int)) : List Value := (ls.map fun m => (meaA m).toList).flatten
theorem meaL_snoc {ls : List (List Int)} {k : Nat} (h : k < ls.length) : meaL (ls.take (k + 1)) = meaL (ls.take k) ++ (meaA (row ls k)).toList := by
  unfold meaL
  rw [List.take_succ_eq_append_getElem h, List.map_append, List.flatten_append]
  congr 1
  have e : row ls k = ls[k] := by unfold row; simp [h]
  rw [e]
  simp
set_option linter.unusedSimpArgs false in
theorem wpList_move8 {P : Program} {ops : Array Oper} {rest : List Oper} {o : Oper} {a : Act} {w : World} {Q : Exit → Act → World → Prop} (hgd : o.guard = none) (x : Operand) (ho : o.op = .move x ∨ o.op = .assign x) (h : wpList P ops Q rest (a.put o.dst (a.eval x)) w) : wpList P ops Q (o :: rest) a w := by
  refine wpList_plain hgd fun K hK => ?_
  unfold Oper.wp execOp
  rcases ho with ho | ho <;> simp only [ho, Sem.run_pure, Sem.run_bind, Result.andThen_ok] <;> exact hK _ _ h
theorem fill_mea (m : List Int) : Instr.fill (fun i => some (i * 13, 13)) ((Array.range (1 * 13)).map ((Value.agg #[.int .i64 0, .int .i64 0, .int .i64 0, .int .i64 0, .int .i64 0, .int .i64 0, .int .i64 0, .int .i64 0, .int .i64 0, .int .i64 0, .int .i64 0, .int .i64 0, .int .i64 0]).cells[· % (Value.agg #[.int .i64 0, .int .i64 0, .int .i64 0, .int .i64 0, .int .i64 0, .int .i64 0, .int .i64 0, .int .i64 0, .int .i64 0, .int .i64 0, .int .i64 0, .int .i64 0, .int .i64 0]).cells.size]!)) [(0, .agg (meaA m))] = some (meaA m) := by kernel_rfl
theorem mea_news {w : World} {g : Nat} {T : TypeId} {m : List Int} (h : w.heap[g]? = some (.cells (meaA m) T (0, 0))) : ∀ j u, (meaA m).toList[j]? = some u → w.cell? ((⟨g, 0, none⟩ : Addr).add j) = some u := by
  intro j u hj
  rw [Addr.add_mid, Nat.zero_add, cell_of_row _ _ _ _ _ _ h, ← Array.getElem?_toList]
  exact hj
theorem mea_ones (m : List Int) : ∀ u ∈ (meaA m).toList, u.oneCell' = true := by
  intro u hu
  have h := meaA_one m
  rw [Array.all_eq_true'] at h
  exact h u (by simpa using hu)
theorem ret_sca3 {fn : Func} {p q r : Tmp} {tmps : Array Value} {W : World} {g : Nat} {a b c d va : Value} {M : List Int} {x : Bool} {R : Ending → World → Prop} (hr : fn.results = #[.cell p 90, .tmp q, .tmp r]) (hp : tmps.getD p undef = .pointer (some ⟨g, 0, none⟩)) (hq : tmps.getD q undef = va) (hx : tmps.getD r undef = .bool x)
    (hM : W.heap[g]? = some (.cells (scaA a b c d M) 90 (0, 0))) (hR : R (.returned (.tuple #[scaV a b c d M, va, .bool x])) W) : bodyPost Tryd.prog fn R .ret { tmps := tmps, defers := [] } W := by
  refine bodyPost_ret (v := .tuple #[scaV a b c d M, va, .bool x]) ?_ rfl hR
  have hp' : tmps[p]?.getD undef = .pointer (some ⟨g, 0, none⟩) := by simpa using hp
  have hq' : tmps[q]?.getD undef = va := by simpa using hq
  have hx' : tmps[r]?.getD undef = .bool x := by simpa using hx
  have hl := run_loadVar_row (P := Tryd.prog) W g 90 90 (scaA a b c d M) (0, 0) _ hM Tryd.underlying90 rfl (by kernel_rfl)
  simp [results, hr, hp', hq', hx', asAddr, hl, scaV]

/-- Are all of the lists measures of a small game? -/
noncomputable def goodsB (O : List Int) (zss : List (List Int)) (P : List Int) (ls : List (List Int)) : Bool := smallB O zss P && ls.all (goodB P)
theorem goodsB_no {O P : List Int} {zss ls : List (List Int)} {k : Nat} (hk : k < ls.length) (h : goodB P (row ls k) = false) : goodsB O zss P ls = false := by
  cases hg : goodsB O zss P ls with
  | false => rfl
  | true =>
    unfold goodsB at hg
    rw [Bool.and_eq_true, List.all_eq_true] at hg
    have e : row ls k = ls[k] := by unfold row; simp [hk]
    rw [e, hg.2 _ (List.getElem_mem hk)] at h
    cases h
theorem goodsB_yes {O P : List Int} {zss ls : List (List Int)} (hs : smallB O zss P = true) (h : ∀ k, k < ls.length → goodB P (row ls k) = true) : goodsB O zss P ls = true := by
  unfold goodsB
  rw [hs, Bool.true_and, List.all_eq_true]
  intro x hx
  obtain ⟨k, hk, rfl⟩ := List.mem_iff_getElem.1 hx
  have e : row ls k = ls[k] := by unfold row; simp [hk]
  rw [← e]; exact h k hk

set_option linter.unusedSimpArgs false in
set_option maxRecDepth 100000 in
set_option maxHeartbeats 16000000 in
theorem measuresIn_is {w : World} {v : Value} {O P : List Int} {zss ls : List (List Int)} {al : Option Addr} {LA : Nat → Option Addr} {LC : Nat → Nat} {r : Bool} (cl : Nat) (hr : goodsB O zss P ls = r) (hW : LostW w) (h : GameAt w v O zss P) (hls : RowsAt w al LA LC ls) (hll : ls.length ≤ 1048576) :
    Calls Tryd.prog 74 #[v, .slice al ls.length cl] w fun e w' => ∃ a b c d M va, e = .returned (.tuple #[scaV a b c d M, va, .bool r]) ∧ (r = true → ScaleAt w' (scaV a b c d M) O zss P ∧ w'.ownsRow w.heap.size 88 13 va ls.length (meaL ls)) ∧ (∃ x y z, va = .slice x y z) ∧ (a.oneCell' = true ∧ b.oneCell' = true ∧ c.oneCell' = true ∧ d.oneCell' = true) ∧ Below w.heap.size w w' := by
  obtain ⟨i0, hi, hz0, hz1, hz2⟩ := info_parts' info_mea
  have HGm := Lib.hid h
  obtain ⟨ao, an, ap, co, cn, cp, A, C, rfl, h1, h2, h3⟩ := h
  obtain ⟨w1, hw1⟩ : ∃ y, y = (w.alloc (.cells #[.slice ao O.length co, .slice an zss.length cn, .slice ap P.length cp] 35)).alloc (.cells #[.slice none 0 0, .slice none 0 0, .slice none 0 0, .slice none 0 0, .int .i64 0, .int .i64 0, .int .i64 0, .int .i64 0, .int .i64 0, .int .i64 0, .int .i64 0, .int .i64 0, .int .i64 0, .int .i64 0, .int .i64 0, .int .i64 0, .int .i64 0] 90) := ⟨_, rfl⟩
  have HW1 := Lib.hid hw1
  have B1 : Hid (Below w.heap.size w w1) := by rw [hw1]; exact below2 _ _ _
  have T1 : Hid (Box3 w1 w.heap.size 35 (.slice ao O.length co) (.slice an zss.length cn) (.slice ap P.length cp)) := by rw [hw1]; exact (Box3.new _ _ _ _ _).below (below1 _ _)
  have R1 : Hid (w1.heap[w.heap.size + 1]? = some (.cells (scaA (.slice none 0 0) (.slice none 0 0) (.slice none 0 0) (.slice none 0 0) []) 90 (0, 0))) := by rw [hw1]; exact heap_alloc2_new _ _ _
  have hs1 : Hid (w1.heap.size = w.heap.size + 2) := by rw [hw1]; simp [Hid]
  have HLs := Lib.hid hls
  have hln := hls.len
  have HL := Lib.hid hW
  have HR := Lib.hid hr
  have t0 := T1.out.c0
  have t1 := T1.out.c1
  have t2 := T1.out.c2
  clear hw1 h1 h2 h3 hls hW hr
  cases hs : smallB O zss P with
  | false =>
    have HC := Lib.hid (isSmall_is hs (HGm.out.below B1.out))
    have HF : Hid (r = false) := by rw [← HR.out]; unfold goodsB; rw [hs]; rfl
    clear hs
    go_enter Tryd.func74, Tryd.ntmps74
    go_wp2_with fail
    rw [← HW1.out]
    refine HC.out.mono ?_
    rintro e w2 ⟨rfl, hb⟩
    have B2 := Lib.hid (B1.out.trans (hb.mono B1.out.size))
    have R2 := Lib.hid ((hb.block _ (Array.getElem?_eq_some_iff.1 R1.out).1).trans R1.out)
    clear hb HC t0 t1 t2
    go_upto_region 2 with fail
    refine wp_region_lit ?_
    refine wpList_build rfl 90 _ rfl (by kernel_rfl) ?_
    simp only [Act.put, List.setIfInBounds_toArray, List.set_cons_zero, List.set_cons_succ]
    (refine wpList_store_row rfl 90 _ _ rfl (w.heap.size + 1) (scaA (.slice none 0 0) (.slice none 0 0) (.slice none 0 0) (.slice none 0 0) []) rfl (by first | rfl | kernel_rfl) 90 (scaA (.slice none 0 0) (.slice none 0 0) (.slice none 0 0) (.slice none 0 0) []) R2.out (by kernel_rfl) rfl (scaA_one rfl rfl rfl rfl _) ?_; simp only [Act.put, List.setIfInBounds_toArray, List.set_cons_zero, List.set_cons_succ])
    go_wp2_with fail
    have ho := only_row8 (S := fun x => x = w.heap.size + 1) (Only.refl _ w2) rfl (scaA (.slice none 0 0) (.slice none 0 0) (.slice none 0 0) (.slice none 0 0) [])
    rw [HF.out]
    exact ret_sca3 (g := w.heap.size + 1) rfl rfl rfl rfl (setRow_heap _ _ _ _ _ _ R2.out) ⟨_, _, _, _, _, _, rfl, (fun h => by cases h), ⟨_, _, _, rfl⟩, ⟨rfl, rfl, rfl, rfl⟩, B2.out.trans (ho.below B2.out.size (fun x hx => by rw [hx]; omega))⟩
  | true =>
    obtain ⟨hn, hp⟩ := smallB_iff.1 hs
    obtain ⟨hA, hPl, hPr⟩ := parityB_iff.1 hp
    have hn0 : 0 < P.length := by have := hA.1; omega
    have hl12 : (oddsL P).length ≤ 12 := Nat.le_trans (odds_len hPr) hn
    have HNS := Lib.hid (fun (W : World) (hb : Below w.heap.size w W) => newScale_is hPr hn0 hn (HGm.out.below hb))
    have HC := Lib.hid (isSmall_is hs (HGm.out.below B1.out))
    have HSm := Lib.hid hs
    clear hs hp hA hPl hPr
    go_enter Tryd.func74, Tryd.ntmps74
    go_wp2_with fail
    rw [← HW1.out]
    refine HC.out.mono ?_
    rintro e w2 ⟨rfl, hb⟩
    have B2 := Lib.hid (B1.out.trans (hb.mono B1.out.size))
    have R2 := Lib.hid ((hb.block _ (Array.getElem?_eq_some_iff.1 R1.out).1).trans R1.out)
    have T2 := Lib.hid (T1.out.below hb)
    have hsA := hb.size
    clear hb HC t0 t1 t2
    have t0 := T2.out.c0
    have t1 := T2.out.c1
    have t2 := T2.out.c2
    go_wp2_with fail
    refine (HNS.out w2 B2.out).mono ?_
    rintro e w3 ⟨aq, cq, rfl, hq3, hb⟩
    obtain ⟨sa, hsa⟩ : ∃ sa, sa = Value.slice ao O.length co := ⟨_, rfl⟩
    obtain ⟨sb, hsb⟩ : ∃ sb, sb = Value.slice an zss.length cn := ⟨_, rfl⟩
    obtain ⟨sc, hsc⟩ : ∃ sc, sc = Value.slice ap P.length cp := ⟨_, rfl⟩
    obtain ⟨sd, hsd⟩ : ∃ sd, sd = Value.slice aq (oddsL P).length cq := ⟨_, rfl⟩
    have HSA : Hid (∀ W, Below w.heap.size w W → OwnInts W w2.heap.size W.heap.size (.slice aq (oddsL P).length cq) (oddsL P) → ScaleAt W (scaV sa sb sc sd (mostL P)) O zss P) := fun W hb ho => ⟨ao, an, ap, aq, co, cn, cp, cq, by rw [hsa, hsb, hsc, hsd], HGm.out.below hb, own_ints8 ho⟩
    have HS3 := Lib.hid (HSA.out w3 (B2.out.trans (hb.mono B2.out.size)) hq3)
    have HQ3 := Lib.hid hq3
    have HO1 : Hid (sa.oneCell' = true ∧ sb.oneCell' = true ∧ sc.oneCell' = true ∧ sd.oneCell' = true) := by rw [hsa, hsb, hsc, hsd]; exact ⟨rfl, rfl, rfl, rfl⟩
    rw [← hsa, ← hsb, ← hsc, ← hsd]
    have B3 := Lib.hid (B2.out.trans (hb.mono B2.out.size))
    have R3 := Lib.hid ((hb.block _ (Array.getElem?_eq_some_iff.1 R2.out).1).trans R2.out)
    have hN3 : (w3.alloc (.cells #[.slice none 0 0, .slice none 0 0, .slice none 0 0, .slice none 0 0, .int .i64 0, .int .i64 0, .int .i64 0, .int .i64 0, .int .i64 0, .int .i64 0, .int .i64 0, .int .i64 0, .int .i64 0, .int .i64 0, .int .i64 0, .int .i64 0, .int .i64 0] 90)).heap[w3.heap.size]? = some (.cells (scaA (.slice none 0 0) (.slice none 0 0) (.slice none 0 0) (.slice none 0 0) []) 90 (0, 0)) := heap_alloc_new _ _
    have HN3 := Lib.hid hN3
    have hg33 : w.heap.size + 2 ≤ w3.heap.size := by have := hb.size; have := hs1.out; omega
    clear hb t0 t1 t2 hN3 hq3 hsa hsb hsc hsd
    go_wp2_with (refine wpList_store_row rfl 90 _ _ rfl w3.heap.size (scaA sa sb sc sd (mostL P)) rfl (by first | rfl | kernel_rfl) 90 (scaA (.slice none 0 0) (.slice none 0 0) (.slice none 0 0) (.slice none 0 0) []) HN3.out (by kernel_rfl) rfl (scaA_one HO1.out.1 HO1.out.2.1 HO1.out.2.2.1 HO1.out.2.2.2 _) ?_; simp only [Act.put, List.setIfInBounds_toArray, List.set_cons_zero, List.set_cons_succ])
    obtain ⟨w4, hw4⟩ : ∃ y, y = (w3.alloc (.cells #[.slice none 0 0, .slice none 0 0, .slice none 0 0, .slice none 0 0, .int .i64 0, .int .i64 0, .int .i64 0, .int .i64 0, .int .i64 0, .int .i64 0, .int .i64 0, .int .i64 0, .int .i64 0, .int .i64 0, .int .i64 0, .int .i64 0, .int .i64 0] 90)).setRow w3.heap.size (scaA sa sb sc sd (mostL P)) := ⟨_, rfl⟩
    rw [← hw4]
    have hb4 : Below w3.heap.size w3 w4 := by
      rw [hw4]
      exact (below1 w3 _).trans ((only_row8 (S := fun x => x = w3.heap.size) (Only.refl _ _) rfl _).below (below1 w3 _).size (fun x hx => by rw [hx]; exact Nat.le_refl _))
    have N4 : Hid (w4.heap[w3.heap.size]? = some (.cells (scaA sa sb sc sd (mostL P)) 90 (0, 0))) := by rw [hw4]; exact setRow_heap _ _ _ _ _ _ HN3.out
    have hs4 : w3.heap.size < w4.heap.size := by have := (Array.getElem?_eq_some_iff.1 N4.out).1; exact this
    have B4 := Lib.hid (B3.out.trans (hb4.mono B3.out.size))
    have S4 := Lib.hid (HS3.out.below hb4)
    have Q4 := Lib.hid (HQ3.out.below hb4)
    have R4 := Lib.hid ((hb4.block _ (Array.getElem?_eq_some_iff.1 R3.out).1).trans R3.out)
    have O4 : Hid (w4.ownsRow w4.heap.size 88 13 (.slice none 0 0) 0 (meaL (ls.take 0))) := World.ownsRow_nil _ _ _ _
    clear hw4 hb4 HN3
    go_loopw [8, 21] (fun va iv wr => ∃ k : Nat, k ≤ ls.length ∧ iv = .int .i64 k ∧ Hid (∀ j, j < k → goodB P (row ls j) = true) ∧ Hid (wr.ownsRow w4.heap.size 88 13 va k (meaL (ls.take k))) ∧ Hid (Below w4.heap.size w4 wr)) (fun _ iv _ => ls.length - (intOf iv).toNat)
    case atStart => exact ⟨0, Nat.zero_le _, rfl, fun j hj => absurd hj (Nat.not_lt_zero _), O4, Below.refl _ _⟩
    case round =>
      clear O4
      obtain ⟨k, hk, rfl, HJ, HO, HB⟩ := hrel
      have B5 := Lib.hid (B4.out.trans (HB.out.mono B4.out.size))
      have N5 := Lib.hid ((HB.out.block _ (Array.getElem?_eq_some_iff.1 N4.out).1).trans N4.out)
      have R5 := Lib.hid ((HB.out.block _ (Array.getElem?_eq_some_iff.1 R4.out).1).trans R4.out)
      have S5 := Lib.hid (S4.out.below HB.out)
      have Q5 := Lib.hid (Q4.out.below HB.out)
      by_cases hlt : k < ls.length
      · have hi1 : (k : Int) < ls.length := by omega
        have hk0 : (0 : Int) ≤ (k : Int) := by omega
        have HLr := Lib.hid (HLs.out.below B5.out)
        obtain ⟨lb, lo, hla, hlc⟩ := HLr.out.cell (by omega)
        have x1 := hlc k hlt
        have HRI := Lib.hid (HLr.out.rows k hlt)
        obtain ⟨mm, hmm⟩ : ∃ mm, mm = row ls k := ⟨_, rfl⟩
        have HMM := Lib.hid hmm
        rw [← hmm] at x1 HRI
        subst hla
        clear hlc hmm
        obtain ⟨g, hg⟩ : ∃ g, goodB P mm = g := ⟨_, rfl⟩
        have HMO : Hid (Calls Tryd.prog 117 #[scaV sa sb sc sd (mostL P), .slice (LA k) mm.length (LC k)] wr fun e w' => e = .returned (.tuple #[meaV (if g = true then mm else []), .bool g]) ∧ Below wr.heap.size wr w') := by
          rw [← hg]
          exact measureOf_is (LC k) (HL.out.below B5.out) S5.out HRI.out hl12
        cases g with
        | true =>
          have HG : Hid (∀ j, j < k + 1 → goodB P (row ls j) = true) := fun j hj => by
            by_cases e : j = k
            · rw [e, ← HMM.out]; exact hg
            · exact HJ.out j (by omega)
          rw [if_pos rfl] at HMO
          clear hg
          go_upto_region 11 with (first | (refine wpList_load_row rfl 90 _ rfl w3.heap.size rfl 90 (scaA sa sb sc sd (mostL P)) (0, 0) _ N5.out Tryd.underlying90 rfl (by kernel_rfl) ?_; simp only [Act.put, List.setIfInBounds_toArray, List.set_cons_zero, List.set_cons_succ]) | (go_at_call 117; refine HMO.out.mono ?_; rintro e w6 ⟨rfl, hb⟩; have K6 := Lib.hid hb; clear hb) | (refine wpList_store_row rfl 88 _ _ rfl w6.heap.size (meaA mm) rfl (by first | rfl | kernel_rfl) 88 (meaA []) (heap_alloc_new w6 _) (by kernel_rfl) rfl (meaA_one _) ?_; simp only [Act.put, List.setIfInBounds_toArray, List.set_cons_zero, List.set_cons_succ]))
          obtain ⟨w7, hw7⟩ : ∃ y, y = (w6.alloc (.cells #[.int .i64 0, .int .i64 0, .int .i64 0, .int .i64 0, .int .i64 0, .int .i64 0, .int .i64 0, .int .i64 0, .int .i64 0, .int .i64 0, .int .i64 0, .int .i64 0, .int .i64 0] 88)).setRow w6.heap.size (meaA mm) := ⟨_, rfl⟩
          rw [← hw7]
          have hb7 : Below w6.heap.size w6 w7 := by
            rw [hw7]
            exact (below1 w6 _).trans ((only_row8 (S := fun x => x = w6.heap.size) (Only.refl _ _) rfl _).below (below1 w6 _).size (fun x hx => by rw [hx]; exact Nat.le_refl _))
          have N7 : Hid (w7.heap[w6.heap.size]? = some (.cells (meaA mm) 88 (0, 0))) := by rw [hw7]; exact setRow_heap _ _ _ _ _ _ (heap_alloc_new _ _)
          have K7 := Lib.hid (K6.out.trans (hb7.mono K6.out.size))
          have hb8 : Below w7.heap.size w7 (w7.alloc (.cells (meaA mm) 88)) := below1 _ _
          have K8 := Lib.hid (K7.out.trans (hb8.mono K7.out.size))
          have N8 : Hid ((w7.alloc (.cells (meaA mm) 88)).heap[w7.heap.size]? = some (.cells (meaA mm) 88 (0, 0))) := heap_alloc_new _ _
          have O8 := Lib.hid (ownsRow_only HO.out (S := fun _ => False) (Only.of_below K8.out) (fun _ _ h => h))
          have hsB := HB.out.size
          have hsK := K8.out.size
          clear hw7 hb7 hb8
          refine wp_region_lit ?_
          refine wpList_move8 rfl _ (.inl rfl) ?_
          simp only [Act.put, List.setIfInBounds_toArray, List.set_cons_zero, List.set_cons_succ]
          (refine wpList_load_row rfl 88 _ rfl w6.heap.size rfl 88 (meaA mm) (0, 0) _ N7.out Tryd.underlying88 rfl (by kernel_rfl) ?_; simp only [Act.put, List.setIfInBounds_toArray, List.set_cons_zero, List.set_cons_succ])
          (refine wpList_buildSlice rfl 91 88 1 _ rfl (meaA mm) i0 _ Tryd.underlying91 hi hz0 (by rw [hz1]; decide) (by rw [hz1]; decide) (by rw [hz1]; exact (congrArg (Instr.fill _ _) (by kernel_rfl)).trans (fill_mea mm)) ?_; simp only [Act.put, List.setIfInBounds_toArray, List.set_cons_zero, List.set_cons_succ])
          (refine wpList_append_own_at _ rfl _ _ 91 rfl w4.heap.size 88 i0 _ 13 104 Tryd.underlying91 hi hz0 hz1 hz2 rfl (by decide) _ _ _ rfl O8.out ⟨w7.heap.size, 0, none⟩ 1 1 (meaA mm).toList rfl rfl ?c1 ?c2 ?c3 ?c4 ?c5 ?_)
          case c1 => exact mea_news N8.out
          case c2 => exact mea_ones mm
          case c3 => unfold maxLen; omega
          case c4 => omega
          case c5 => omega
          intro v' w9 hown hgrow _ _
          have hg9 : Only (fun b => w4.heap.size ≤ b) (w7.alloc (.cells (meaA mm) 88)) w9 := (Only.of_grown hgrow).mono fun b hb => (O8.out.lt b hb).1
          have Kn := Lib.hid (((HB.out.trans (K8.out.mono hsB))).trans (hg9.below (B := w4.heap.size) (Nat.le_trans hsB hsK) (fun _ h => h)))
          have HOn : Hid (w9.ownsRow w4.heap.size 88 13 v' (k + 1) (meaL (ls.take (k + 1)))) := by
            rw [meaL_snoc hlt, ← HMM.out]; exact hown
          clear hown hgrow hg9
          go_wp2
          go_roundw
          case rel => exact ⟨k + 1, by omega, by go_num, HG, HOn, Kn⟩
          case measure => simp [intOf]; omega
        | false =>
          have HF : Hid (r = false) := by rw [← HR.out]; exact goodsB_no hlt (by rw [← HMM.out]; exact hg)
          rw [if_neg (by decide)] at HMO
          clear hg
          go_upto_region 10 with (first | (refine wpList_load_row rfl 90 _ rfl w3.heap.size rfl 90 (scaA sa sb sc sd (mostL P)) (0, 0) _ N5.out Tryd.underlying90 rfl (by kernel_rfl) ?_; simp only [Act.put, List.setIfInBounds_toArray, List.set_cons_zero, List.set_cons_succ]) | (go_at_call 117; refine HMO.out.mono ?_; rintro e w6 ⟨rfl, hb⟩; have K6 := Lib.hid hb; clear hb) | (refine wpList_store_row rfl 88 _ _ rfl w6.heap.size (meaA []) rfl (by first | rfl | kernel_rfl) 88 (meaA []) (heap_alloc_new w6 _) (by kernel_rfl) rfl (meaA_one _) ?_; simp only [Act.put, List.setIfInBounds_toArray, List.set_cons_zero, List.set_cons_succ]))
          obtain ⟨w7, hw7⟩ : ∃ y, y = (w6.alloc (.cells #[.int .i64 0, .int .i64 0, .int .i64 0, .int .i64 0, .int .i64 0, .int .i64 0, .int .i64 0, .int .i64 0, .int .i64 0, .int .i64 0, .int .i64 0, .int .i64 0, .int .i64 0] 88)).setRow w6.heap.size (meaA []) := ⟨_, rfl⟩
          rw [← hw7]
          have hb7 : Below w6.heap.size w6 w7 := by
            rw [hw7]
            exact (below1 w6 _).trans ((only_row8 (S := fun x => x = w6.heap.size) (Only.refl _ _) rfl _).below (below1 w6 _).size (fun x hx => by rw [hx]; exact Nat.le_refl _))
          have K7 := K6.out.trans (hb7.mono K6.out.size)
          have R7 := Lib.hid ((K7.block _ (Array.getElem?_eq_some_iff.1 R5.out).1).trans R5.out)
          have B7 := Lib.hid (B5.out.trans (K7.mono B5.out.size))
          clear hw7 hb7 K7
          refine wp_region_lit ?_
          refine wpList_build rfl 90 _ rfl (by kernel_rfl) ?_
          simp only [Act.put, List.setIfInBounds_toArray, List.set_cons_zero, List.set_cons_succ]
          (refine wpList_store_row rfl 90 _ _ rfl (w.heap.size + 1) (scaA (.slice none 0 0) (.slice none 0 0) (.slice none 0 0) (.slice none 0 0) []) rfl (by first | rfl | kernel_rfl) 90 (scaA (.slice none 0 0) (.slice none 0 0) (.slice none 0 0) (.slice none 0 0) []) R7.out (by kernel_rfl) rfl (scaA_one rfl rfl rfl rfl _) ?_; simp only [Act.put, List.setIfInBounds_toArray, List.set_cons_zero, List.set_cons_succ])
          go_wp2_with fail
          have ho := only_row8 (S := fun x => x = w.heap.size + 1) (Only.refl _ w7) rfl (scaA (.slice none 0 0) (.slice none 0 0) (.slice none 0 0) (.slice none 0 0) [])
          exact ret_sca3 (g := w.heap.size + 1) rfl rfl rfl rfl (setRow_heap _ _ _ _ _ _ R7.out) ⟨.slice none 0 0, .slice none 0 0, .slice none 0 0, .slice none 0 0, [], .slice none 0 0, by rw [HF.out]; rfl, (fun h => by rw [HF.out] at h; cases h), ⟨_, _, _, rfl⟩, ⟨rfl, rfl, rfl, rfl⟩, B7.out.trans (ho.below B7.out.size (fun x hx => by rw [hx]; omega))⟩
      · have hi1 : ¬ (k : Int) < ls.length := by omega
        have hkl : k = ls.length := by omega
        have HT : Hid (r = true) := by rw [← HR.out]; exact goodsB_yes HSm.out (fun j hj => HJ.out j (by omega))
        have HOe : Hid (wr.ownsRow w4.heap.size 88 13 u8 ls.length (meaL ls)) := by
          have h := HO.out
          rw [hkl, List.take_length] at h
          exact h
        obtain ⟨vx, vy, vz, hva⟩ : ∃ x y z, u8 = .slice x y z := by
          rcases HOe.out.2 with ⟨h, _⟩ | ⟨_, _, _, h, _⟩
          · exact ⟨_, _, _, h⟩
          · exact ⟨_, _, _, h⟩
        subst hva
        clear HO hkl
        go_upto_region 13 with fail
        refine wp_region_lit ?_
        go_wp2_with (first | (refine wpList_load_row rfl 90 _ rfl w3.heap.size rfl 90 (scaA sa sb sc sd (mostL P)) (0, 0) _ N5.out Tryd.underlying90 rfl (by kernel_rfl) ?_; simp only [Act.put, List.setIfInBounds_toArray, List.set_cons_zero, List.set_cons_succ]) | (refine wpList_store_row rfl 90 _ _ rfl (w.heap.size + 1) (scaA sa sb sc sd (mostL P)) rfl (by first | rfl | kernel_rfl) 90 (scaA (.slice none 0 0) (.slice none 0 0) (.slice none 0 0) (.slice none 0 0) []) R5.out (by kernel_rfl) rfl (scaA_one HO1.out.1 HO1.out.2.1 HO1.out.2.2.1 HO1.out.2.2.2 _) ?_; simp only [Act.put, List.setIfInBounds_toArray, List.set_cons_zero, List.set_cons_succ]))
        have ho := only_row8 (S := fun x => x = w.heap.size + 1) (Only.refl _ wr) rfl (scaA sa sb sc sd (mostL P))
        have hs9 := HB.out.size
        have hbz := ho.below (B := w.heap.size) B5.out.size (fun x hx => by rw [hx]; omega)
        refine ret_sca3 (g := w.heap.size + 1) rfl rfl rfl rfl (setRow_heap _ _ _ _ _ _ R5.out) ⟨sa, sb, sc, sd, mostL P, .slice vx vy vz, by rw [HT.out]; rfl, (fun _ => ⟨HSA.out _ (B5.out.trans hbz) (Q5.out.only ho (fun g hg e => by have := (Q5.out.own.lt g hg).1; have := hs1.out; omega)).retop, ownsRow_base (ownsRow_only HOe.out ho (fun g hg e => by have := (HOe.out.lt g hg).1; omega)) (by omega)⟩), ⟨_, _, _, rfl⟩, HO1.out, B5.out.trans hbz⟩
end
end Go.Proofs.YtglbkbiphcgidaaDoor
namespace Go.Proofs.YtglbkbiphcgidaaDoor
section
open Go.RowKit Go.Shelf

theorem rows_one8 {w : World} {am : Option Addr} {cm : Nat} {m : List Int} {T : TypeId} (h : IntsAt w am m) : RowsAt (w.alloc (.cells #[.slice am m.length cm] T)) (some ⟨w.heap.size, 0, none⟩) (fun _ => am) (fun _ => cm) [m] := by
  refine ⟨by simp, fun _ => ⟨w.heap.size, 0, rfl, fun k hk => ?_⟩, fun k hk => ?_⟩
  · have : k = 0 := by simpa using hk
    subst this
    exact cell_one_new _ _ _ 0 _ rfl
  · have : k = 0 := by simpa using hk
    subst this
    exact h.alloc _

end
end Go.Proofs.YtglbkbiphcgidaaDoor
namespace Go.Proofs.YtglbkbiphcgidaaDoor
section
open Go.RowKit Go.Shelf
attribute [local go_sem] Oper.semAt_some

theorem mea_range1 {w : World} {B : Nat} {va : Value} {m : List Int} (h : w.ownsRow B 88 13 va 1 (meaL [m])) : ∃ g cap, va = .slice (some ⟨g, 0, none⟩) 1 cap ∧ B ≤ g ∧ w.rangeAt g 0 (meaA m).toList := by
  have e : meaL [m] = (meaA m).toList := by unfold meaL; simp
  rcases h.2 with ⟨_, h0⟩ | ⟨g, cap, cur, hv, hB, _⟩
  · omega
  · subst hv
    have hc := h.cells (g := g) rfl
    refine ⟨g, cap, rfl, hB, fun j u hu => ?_⟩
    have h1 := hc j u (by rw [e]; exact hu)
    rw [Addr.add_mid] at h1
    exact h1

set_option linter.unusedSimpArgs false in
set_option maxRecDepth 100000 in
set_option maxHeartbeats 16000000 in
theorem AskedBy_is {w : World} {gv : Value} {O P m r : List Int} {zss : List (List Int)} {am : Option Addr} {x : Int} (hW : LostW w) (cm : Nat) (hr : askedV O zss P m x = r) (h : GameAt w gv O zss P) (hm : IntsAt w am m) :
    Calls Tryd.prog 32 #[gv, .int .i64 x, .slice am m.length cm] w (GivesInts w r) := by
  have HGm := Lib.hid h
  obtain ⟨ao, an, ap, co, cn, cp, A, C, rfl, h1, h2, h3⟩ := h
  obtain ⟨w1, hw1⟩ : ∃ y, y = w.alloc (.cells #[.slice ao O.length co, .slice an zss.length cn, .slice ap P.length cp] 35) := ⟨_, rfl⟩
  have HW1 := Lib.hid hw1
  have B1 : Hid (Below w.heap.size w w1) := by rw [hw1]; exact below1 _ _
  have T1 : Hid (Box3 w1 w.heap.size 35 (.slice ao O.length co) (.slice an zss.length cn) (.slice ap P.length cp)) := by rw [hw1]; exact Box3.new _ _ _ _ _
  have HAr : Hid (ArenaAt w (.agg #[.slice ao O.length co, .slice an zss.length cn]) O zss) := ⟨_, _, _, _, _, _, rfl, h1, h2⟩
  have hs1 : w1.heap.size = w.heap.size + 1 := by rw [hw1]; simp
  have HS1 := Lib.hid hs1
  obtain ⟨w2, hw2⟩ : ∃ y, y = w1.alloc (.cells #[.slice am m.length cm] 22) := ⟨_, rfl⟩
  have HW2 := Lib.hid hw2
  have hb2 : Below w1.heap.size w1 w2 := by rw [hw2]; exact below1 _ _
  have B2 := Lib.hid (B1.out.trans (hb2.mono B1.out.size))
  have K2 := Lib.hid hb2
  have HRo : RowsAt w2 (some ⟨w1.heap.size, 0, none⟩) (fun _ => am) (fun _ => cm) [m] := by rw [hw2]; exact rows_one8 (hm.below B1.out)
  obtain ⟨g0, hg0⟩ : ∃ g0, measB O zss P m = g0 := ⟨_, rfl⟩
  have hg1 : goodsB O zss P [m] = g0 := by
    rw [← hg0]
    unfold goodsB measB
    simp
  have HMI : Hid (Calls Tryd.prog 74 #[.agg #[.slice ao O.length co, .slice an zss.length cn, .slice ap P.length cp], .slice (some ⟨w1.heap.size, 0, none⟩) 1 1] w2 fun e w' => ∃ a b c d M va, e = .returned (.tuple #[scaV a b c d M, va, .bool g0]) ∧ (g0 = true → ScaleAt w' (scaV a b c d M) O zss P ∧ w'.ownsRow w2.heap.size 88 13 va 1 (meaL [m])) ∧ (∃ x y z, va = .slice x y z) ∧ (a.oneCell' = true ∧ b.oneCell' = true ∧ c.oneCell' = true ∧ d.oneCell' = true) ∧ Below w2.heap.size w2 w') :=
    measuresIn_is (ls := [m]) 1 hg1 (hW.below B2.out) (HGm.out.below B2.out) HRo (by simp)
  have t0 := T1.out.c0
  have t1 := T1.out.c1
  have t2 := T1.out.c2
  rw [hw1] at t0 t1 t2
  have HR := Lib.hid hr
  have HG0 := Lib.hid hg0
  have HLw := Lib.hid hW
  clear hw1 hw2 hb2 HRo hg0 hg1 h1 h2 h3 hm hr hW hs1
  go_enter Tryd.func32, Tryd.ntmps32
  go_wp2_with fail
  rw [← HW1.out, ← HS1.out, ← HW2.out]
  refine HMI.out.mono ?_
  rintro e w3 ⟨sa, sb, sc, sd, M, va, rfl, himp, ⟨vx, vy, vz, hva⟩, hone, hb⟩
  have HONE := Lib.hid hone
  have HIMP := Lib.hid himp
  have B3 := Lib.hid (B2.out.trans (hb.mono B2.out.size))
  have K3 := Lib.hid (K2.out.trans (hb.mono K2.out.size))
  have HN : Hid ((w3.alloc (.cells #[.slice none 0 0, .slice none 0 0, .slice none 0 0, .slice none 0 0, .int .i64 0, .int .i64 0, .int .i64 0, .int .i64 0, .int .i64 0, .int .i64 0, .int .i64 0, .int .i64 0, .int .i64 0, .int .i64 0, .int .i64 0, .int .i64 0, .int .i64 0] 90)).heap[w3.heap.size]? = some (.cells (scaA (.slice none 0 0) (.slice none 0 0) (.slice none 0 0) (.slice none 0 0) []) 90 (0, 0))) := heap_alloc_new _ _
  subst hva
  clear hone hb HMI t0 t1 t2 himp
  go_upto_region 2 with (refine wpList_store_row rfl 90 _ _ rfl w3.heap.size (scaA sa sb sc sd M) rfl rfl 90 (scaA (.slice none 0 0) (.slice none 0 0) (.slice none 0 0) (.slice none 0 0) []) HN.out (by kernel_rfl) rfl (scaA_one HONE.out.1 HONE.out.2.1 HONE.out.2.2.1 HONE.out.2.2.2 _) ?_; simp only [Act.put, List.setIfInBounds_toArray, List.set_cons_zero, List.set_cons_succ])
  obtain ⟨w4, hw4⟩ : ∃ y, y = (w3.alloc (.cells #[.slice none 0 0, .slice none 0 0, .slice none 0 0, .slice none 0 0, .int .i64 0, .int .i64 0, .int .i64 0, .int .i64 0, .int .i64 0, .int .i64 0, .int .i64 0, .int .i64 0, .int .i64 0, .int .i64 0, .int .i64 0, .int .i64 0, .int .i64 0] 90)).setRow w3.heap.size (scaA sa sb sc sd M) := ⟨_, rfl⟩
  rw [← hw4]
  have hb4 : Below w3.heap.size w3 w4 := by
    rw [hw4]
    exact (below1 w3 _).trans ((only_row8 (S := fun x => x = w3.heap.size) (Only.refl _ _) rfl _).below (below1 w3 _).size (fun x hx => by rw [hx]; exact Nat.le_refl _))
  have N4 : Hid (w4.heap[w3.heap.size]? = some (.cells (scaA sa sb sc sd M) 90 (0, 0))) := by rw [hw4]; exact setRow_heap _ _ _ _ _ _ HN.out
  have B4 := Lib.hid (B3.out.trans (hb4.mono B3.out.size))
  have K4 := Lib.hid hb4
  have T4 := Lib.hid ((T1.out.below K3.out).below hb4)
  have t0 := T4.out.c0
  have t1 := T4.out.c1
  clear hb4 hw4 HN
  cases g0 with
  | false =>
    have HE : Hid (r = []) := by rw [← HR.out]; exact askedV_no HG0.out
    go_wp2
    go_ret
    rw [HE.out]
    exact ⟨_, rfl, OwnInts.nil _ _ _, B4.out⟩
  | true =>
    obtain ⟨hsc3, hown3⟩ := HIMP.out rfl
    obtain ⟨g, cap, hvg, hgB, hra⟩ := mea_range1 hown3
    cases hvg
    have HGD : Hid (P.length ≤ 12 ∧ goodB P m = true ∧ (oddsL P).length ≤ 12 ∧ P.length = O.length) := by
      have h := HG0.out
      unfold measB at h
      rw [Bool.and_eq_true] at h
      obtain ⟨hn, hp⟩ := smallB_iff.1 h.1
      exact ⟨hn, h.2, Nat.le_trans (odds_len (parityB_iff.1 hp).2.2) hn, (parityB_iff.1 hp).2.1⟩
    have HRa := Lib.hid hra
    have HSC := Lib.hid hsc3
    clear hra hsc3 hown3
    by_cases hin : 0 ≤ x ∧ x < P.length
    · obtain ⟨v, rfl⟩ : ∃ v : Nat, x = (v : Int) := ⟨x.toNat, by omega⟩
      have hv : v < P.length := by omega
      have HE : Hid (r = askL P m (nth P v)) := by rw [← HR.out]; exact askedV_yes HG0.out hv
      have HHV := Lib.hid (hasVertex_is (x := (v : Int)) (r := true) (by unfold thereB; exact decide_eq_true (by have := HGD.out.2.2.2; omega)) (HAr.out.below B4.out))
      have HVv := Lib.hid hv
      clear hin hv
      go_upto_region 4 with (go_at_call 81; refine HHV.out.mono ?_; rintro e w5 ⟨rfl, hb⟩; have K5 := Lib.hid (K4.out.trans (hb.mono K4.out.size)); have B5 := Lib.hid (B4.out.trans (hb.mono B4.out.size)); have N5 := Lib.hid ((hb.block _ (Array.getElem?_eq_some_iff.1 N4.out).1).trans N4.out); clear hb)
      have HSw : Hid (∀ W', Below w5.heap.size w5 W' → W'.rangeAt w3.heap.size 0 (scaA sa sb sc sd M).toList ∧ W'.rangeAt g 0 (meaA m).toList) := fun W' hb => ⟨range_keeps (sca_range N5.out) hb, range_keeps HRa.out (K5.out.trans (hb.mono K5.out.size))⟩
      have Kd : Hid (Below w5.heap.size w5 w5.drew) := (Below.refl _ _).drew
      have HAs := Lib.hid (fun (W : World) (hb : Below w5.heap.size w5 W) => asked_is (v := v) (HLw.out.below (B5.out.trans (hb.mono B5.out.size))) (HSC.out.below (K5.out.trans (hb.mono K5.out.size))) HGD.out.1 HGD.out.2.2.1 HGD.out.2.1 HVv.out)
      have HLi := Lib.hid (fun (W : World) (hb : Below w5.heap.size w5 W) => listOf_is (r := askL P m (nth P v)) (HLw.out.below (B5.out.trans (hb.mono B5.out.size))) (HSC.out.below (K5.out.trans (hb.mono K5.out.size))) HGD.out.2.2.1 (askL_good HGD.out.2.1) (askL_fits HGD.out.1 HGD.out.2.1))
      clear t0 t1 HHV
      refine wp_region_M (S := (fun W' => W'.rangeAt w3.heap.size 0 (scaA sa sb sc sd M).toList ∧ W'.rangeAt g 0 (meaA m).toList)) (m := 9) (by kernel_rfl) (HSw.out _ Kd.out) (fun hHeld => ?_)
      refine wpAnyM_take (i := 0) (v := .agg (scaA sa sb sc sd M).toList.toArray) rfl (by kernel_rfl) (by decide) (by kernel_rfl) (by kernel_rfl) (by kernel_rfl) (fun _ _ _ h => h) (yieldsIf_load_mid (by rfl) 90 _ rfl w3.heap.size 0 rfl (scaA sa sb sc sd M).toList _ (fun W h => h.1) Tryd.underlying90 rfl (by kernel_rfl)) (by assumption) ?_
      try simp only [Act.put, List.setIfInBounds_toArray, List.set_cons_zero, List.set_cons_succ]
      refine wpAnyM_take (i := 1) (v := .agg (scaA sa sb sc sd M).toList.toArray) rfl (by kernel_rfl) (by decide) (by kernel_rfl) (by kernel_rfl) (by kernel_rfl) (fun _ _ _ h => h) (yieldsIf_load_mid (by rfl) 90 _ rfl w3.heap.size 0 rfl (scaA sa sb sc sd M).toList _ (fun W h => h.1) Tryd.underlying90 rfl (by kernel_rfl)) (by assumption) ?_
      try simp only [Act.put, List.setIfInBounds_toArray, List.set_cons_zero, List.set_cons_succ]
      refine wpAnyM_take (i := 2) (v := ?vm1) rfl (by kernel_rfl) (by decide) (by kernel_rfl) (by kernel_rfl) (by kernel_rfl) (fun _ _ _ h => h) (Or.inl ⟨by rfl, ?hm1⟩) (by assumption) ?_
      case hm1 => (intro w hSw; (try dsimp only at hSw); go_simp; first | done | with_reducible rfl)
      try simp only [Act.put, List.setIfInBounds_toArray, List.set_cons_zero, List.set_cons_succ]
      refine wpAnyM_take (i := 3) (v := ?vm2) rfl (by kernel_rfl) (by decide) (by kernel_rfl) (by kernel_rfl) (by kernel_rfl) (fun _ _ _ h => h) (Or.inl ⟨by rfl, ?hm2⟩) (by assumption) ?_
      case hm2 => (intro w hSw; (try dsimp only at hSw); go_simp; first | done | with_reducible rfl)
      try simp only [Act.put, List.setIfInBounds_toArray, List.set_cons_zero, List.set_cons_succ]
      refine wpAnyM_take (i := 4) (v := ?vm3) rfl (by kernel_rfl) (by decide) (by kernel_rfl) (by kernel_rfl) (by kernel_rfl) (fun _ _ _ h => h) (Or.inl ⟨by rfl, ?hm3⟩) (by assumption) ?_
      case hm3 => (intro w hSw; (try dsimp only at hSw); go_simp; first | done | with_reducible rfl)
      try simp only [Act.put, List.setIfInBounds_toArray, List.set_cons_zero, List.set_cons_succ]
      refine wpAnyM_take (i := 5) (v := .agg (meaA m).toList.toArray) rfl (by kernel_rfl) (by decide) (by kernel_rfl) (by kernel_rfl) (by kernel_rfl) (fun _ _ _ h => h) (yieldsIf_load_mid (by rfl) 88 _ rfl g 0 rfl (meaA m).toList _ (fun W h => h.2) Tryd.underlying88 rfl (by kernel_rfl)) (by assumption) ?_
      try simp only [Act.put, List.setIfInBounds_toArray, List.set_cons_zero, List.set_cons_succ]
      refine wpAnyM_one (i := 6) (by kernel_rfl) rfl (fun K hK => ?_)
      go_simp
      go_at_call 83
      refine (show Calls Tryd.prog 83 #[.agg (scaA sa sb sc sd M), .int .i64 v, .agg (meaA m)] w5.drew _ from HAs.out w5.drew Kd.out).mono ?_
      rintro e w6 ⟨rfl, hb⟩
      have K6 := Lib.hid (Kd.out.trans (hb.mono Kd.out.size))
      clear hb
      go_wp2_with fail
      refine hK.out _ _ (fun _ => HSw.out _ K6.out) (fun hHeld => ?_)
      have hHeld := hHeld (by decide)
      clear hK K
      try simp only [Act.put, List.setIfInBounds_toArray, List.set_cons_zero, List.set_cons_succ]
      refine wpAnyM_one (i := 7) (by kernel_rfl) rfl (fun K hK => ?_)
      go_simp
      go_at_call 82
      refine (show Calls Tryd.prog 82 #[.agg (scaA sa sb sc sd M), meaV (askL P m (nth P v))] w6 _ from HLi.out w6 K6.out).mono ?_
      rintro e w7 ⟨u, rfl, hu, hb⟩
      have K7 := Lib.hid (K6.out.trans (hb.mono K6.out.size))
      have HU := Lib.hid (hu.base (B' := w.heap.size) (Nat.le_trans B5.out.size K6.out.size))
      clear hb hu
      go_wp2_with fail
      refine hK.out _ _ (fun _ => HSw.out _ K7.out) (fun hHeld => ?_)
      have hHeld := hHeld (by decide)
      clear hK K
      try simp only [Act.put, List.setIfInBounds_toArray, List.set_cons_zero, List.set_cons_succ]
      refine wpAnyM_one (i := 8) (by kernel_rfl) rfl (fun K hK => ?_)
      go_simp
      refine hK.out _ _ (fun _ => HSw.out _ K7.out) (fun hHeld => ?_)
      have hHeld := hHeld (by decide)
      clear hK K
      try simp only [Act.put, List.setIfInBounds_toArray, List.set_cons_zero, List.set_cons_succ]
      refine wpAnyM_done (by kernel_rfl) ?_ _
      go_wp2
      go_ret
      rw [HE.out]
      exact ⟨_, rfl, HU.out, B5.out.trans (K7.out.mono B5.out.size)⟩
    · have HE : Hid (r = []) := by rw [← HR.out]; exact askedV_off hin
      have HHV := Lib.hid (hasVertex_is (x := x) (r := false) (by unfold thereB; exact decide_eq_false (by have := HGD.out.2.2.2; omega)) (HAr.out.below B4.out))
      clear hin
      go_wp2_with (go_at_call 81; refine HHV.out.mono ?_; rintro e w5 ⟨rfl, hb⟩; have B5 := Lib.hid (B4.out.trans (hb.mono B4.out.size)); clear hb)
      go_ret
      rw [HE.out]
      exact ⟨_, rfl, OwnInts.nil _ _ _, B5.out⟩
end
end Go.Proofs.YtglbkbiphcgidaaDoor
namespace Go.Proofs.YtglbkbiphcgidaaDoor
open Go.RowKit

set_option maxHeartbeats 16000000 in
set_option maxRecDepth 100000 in
theorem lawAskedBy {w : World} {v0 : Value} {O0 : List Int} {z0 : List (List Int)} {P0 : List Int} {n1 : Int} {aS2 : Option Addr} {S2 : List Int} {cs2 : Nat} (h0 : GameAt w v0 O0 z0 P0) (h2 : IntsAt w aS2 S2) (hE : LostW w) :
    Calls Tryd.prog 7 #[v0, .int .i64 n1, .slice aS2 S2.length cs2] w fun e w' => e = .returned (.bool true) ∧ Below w.heap.size w w' := by
  have HE := Lib.hid hE
  clear hE
  have H0 := Lib.hid h0
  obtain ⟨u0_0, u0_1, u0_2, d0_0, d0_1, d0_2, A0, C0, rfl, q0, q1, q2⟩ := h0
  clear q0 q1 q2
  have H2 : Hid (IntsV w (.slice aS2 S2.length cs2) S2) := ⟨_, _, rfl, h2⟩
  have hl2 := h2.len
  clear h2
  obtain ⟨w1, hw1⟩ : ∃ y, y = (w.alloc (.cells #[.slice u0_0 O0.length d0_0, .slice u0_1 z0.length d0_1, .slice u0_2 P0.length d0_2] 27)) := ⟨_, rfl⟩
  have HW1 := Lib.hid hw1
  have B1 : Hid (Below w.heap.size w w1) := by rw [hw1]; exact below1 _ _
  have b0 : Hid (Box3 w1 (w.heap.size) 27 (.slice u0_0 O0.length d0_0) (.slice u0_1 z0.length d0_1) (.slice u0_2 P0.length d0_2)) := by rw [hw1]; exact Box3.new_at (by simp) _ _ _ _ 
  have K1 : Hid (Keep [w1, w] w1) := ⟨Below.refl _ _, B1.out, trivial⟩
  clear hw1
  by_cases hbig2 : (1048576 : Int) < S2.length
  · go_enter Tryd.func7, Tryd.ntmps7
    go_wp2
    go_ret
    exact ⟨rfl, by rw [← HW1.out]; exact B1.out⟩
  have hsm2 : (S2.length : Int) ≤ 1048576 := by omega
  have hsmN2 : S2.length ≤ 1048576 := by omega
  clear hbig2
  by_cases hs0 : (1048576 : Int) < (sizeGame O0 z0 P0 : Int)
  · skip
    have HSn0 : Hid (∀ W, Below w.heap.size w W → Calls Tryd.prog 13 #[.agg #[.slice u0_0 O0.length d0_0, .slice u0_1 z0.length d0_1, .slice u0_2 P0.length d0_2], .int .i64 (1048576 : Int)] W fun e w' => e = .returned (.int .i64 (-1)) ∧ Below W.heap.size W w') := fun W hb => szGame_at (leftOf_no hs0) (H0.out.below hb) (by omega) (by omega)
    clear hs0
    go_enter Tryd.func7, Tryd.ntmps7
    go_wp2_with fail
    rw [← HW1.out]
    refine (HSn0.out _ K1.out.2.1).mono ?_
    rintro e w2 ⟨rfl, hb⟩
    have Kw2 : Hid (Keep [w1, w] w2) := K1.out.step hb
    clear K1
    clear hb
    go_wp2
    go_ret
    exact ⟨rfl, Kw2.out.2.1⟩
  have hle0 : (sizeGame O0 z0 P0 : Int) ≤ (1048576 : Int) := by omega
  obtain ⟨m0, hm0⟩ : ∃ m, leftOf (1048576 : Int) (sizeGame O0 z0 P0) = m := ⟨_, rfl⟩
  have hmv0 : m0 = (1048576 : Int) - (sizeGame O0 z0 P0 : Int) := by rw [← hm0]; exact leftOf_yes hle0
  have hml0 : 0 ≤ m0 := by omega
  have hmu0 : m0 ≤ 1048576 := by omega
  have HLE0 : Hid (sizeGame O0 z0 P0 ≤ 1048576) := by simp only [Hid]; omega
  have HS0 : Hid (∀ W, Below w.heap.size w W → Calls Tryd.prog 13 #[.agg #[.slice u0_0 O0.length d0_0, .slice u0_1 z0.length d0_1, .slice u0_2 P0.length d0_2], .int .i64 (1048576 : Int)] W fun e w' => e = .returned (.int .i64 m0) ∧ Below W.heap.size W w') := fun W hb => szGame_at hm0 (H0.out.below hb) (by omega) (by omega)
  have hn0 : z0.length ≤ 1048576 := by have := HLE0.out; unfold sizeGame at this; (try unfold sizeArena at this); omega
  clear hs0 hm0 hle0 hmv0
  obtain ⟨rS, hrS⟩ : ∃ r, askedV O0 z0 P0 S2 n1 = r := ⟨_, rfl⟩
  have R0 := Lib.hid hrS
  clear hrS
  obtain ⟨mk0, hmk0⟩ : ∃ r : Int, (1 : Int) + (O0.length : Int) + (sumLen z0 z0.length : Int) + (P0.length : Int) = r := ⟨_, rfl⟩
  have MK0 := Lib.hid hmk0
  have hmkl0 : 0 ≤ mk0 := by omega
  have hmku0 : mk0 ≤ 1048577 := by have := HLE0.out; unfold sizeGame at this; (try unfold sizeArena at this); omega
  obtain ⟨mk2, hmk2⟩ : ∃ r : Int, mk0 + (S2.length : Int) = r := ⟨_, rfl⟩
  have MK2 := Lib.hid hmk2
  have hmkl2 : 0 ≤ mk2 := by omega
  have hmku2 : mk2 ≤ 2097153 := by omega
  obtain ⟨mg, hmg⟩ : ∃ r : Int, (1 : Int) + (rS.length : Int) = r := ⟨_, rfl⟩
  have MG := Lib.hid hmg
  have hmg0 : 0 ≤ mg := by omega
  have hmgn : (mg != mg) = false := by simp
  clear hmg hmk0 hmk2
  go_enter Tryd.func7, Tryd.ntmps7
  go_wp2_with fail
  rw [← HW1.out]
  refine (HS0.out _ K1.out.2.1).mono ?_
  rintro e w2 ⟨rfl, hb⟩
  have Kw2 : Hid (Keep [w1, w] w2) := K1.out.step hb
  clear K1
  clear hb
  have c0 := (b0.out.below Kw2.out.1).c0
  have c1 := (b0.out.below Kw2.out.1).c1
  have c2 := (b0.out.below Kw2.out.1).c2
  go_wp2_with fail
  refine (toGame_at (H0.out.below Kw2.out.2.1) hn0).mono ?_
  rintro e w3 ⟨x, rfl, hu, hb⟩
  obtain ⟨pa0_0, pc0_0, pa0_1, pc0_1, pa0_2, pc0_2, hus⟩ := hu.shape
  subst hus
  have pX0 := Lib.hid hu
  have Kw3 : Hid (Keep [w1, w] w3) := Kw2.out.step hb
  clear Kw2
  clear hu hb
  have Kaw3 : Hid (Keep [w3, w1, w] w3) := Kw3.out.add
  clear Kw3
  clear c0 c1 c2
  go_wp2_with fail
  refine (toInts_own (H2.out.below Kaw3.out.2.2.1)).mono ?_
  rintro e w4 ⟨x, rfl, hu, hb⟩
  obtain ⟨pa2_0, pc2_0, hus⟩ := hu.shape2
  subst hus
  have pX2 := Lib.hid hu
  have Kw4 : Hid (Keep [w3, w1, w] w4) := Kaw3.out.step hb
  clear Kaw3
  clear hu hb
  have Kaw4 : Hid (Keep [w4, w3, w1, w] w4) := Kw4.out.add
  clear Kw4
  go_wp2_with fail
  refine (specAskedBy_is pc2_0 R0.out (pX0.out.below Kaw4.out.2.1).at (pX2.out.below Kaw4.out.1).v.at).mono ?_
  rintro e w5 ⟨x, rfl, hg, hb⟩
  obtain ⟨pga_0, pgc_0, hus⟩ := hg.shape2
  subst hus
  have pG := Lib.hid hg
  have Kw5 : Hid (Keep [w4, w3, w1, w] w5) := Kaw4.out.step hb
  clear Kaw4
  clear hb hg
  have Kaw5 : Hid (Keep [w5, w4, w3, w1, w] w5) := Kw5.out.add
  clear Kw5
  have OW : Hid (w.heap.size ≤ w1.heap.size) := B1.out.size
  have OC : Hid (w1.heap.size ≤ w5.heap.size) := Kaw5.out.2.2.2.1.size
  have OP : Hid (w5.heap.size ≤ w5.heap.size) := Kaw5.out.1.size
  have c0 := (b0.out.below Kaw5.out.2.2.2.1).c0
  have c1 := (b0.out.below Kaw5.out.2.2.2.1).c1
  have c2 := (b0.out.below Kaw5.out.2.2.2.1).c2
  go_wp2_with fail
  have HB0 : Hid (w5.heap.size ≤ w5.heap.size) := Kaw5.out.1.size
  refine (toGame_at (H0.out.below Kaw5.out.2.2.2.2.1) hn0).mono ?_
  rintro e w6 ⟨x, rfl, hu, hb⟩
  obtain ⟨xa0_0, xc0_0, xa0_1, xc0_1, xa0_2, xc0_2, hus⟩ := hu.shape
  subst hus
  have xX0 := Lib.hid hu
  have HE0 : Hid (w5.heap.size ≤ w6.heap.size) := hb.size
  have Kw6 : Hid (Keep [w5, w4, w3, w1, w] w6) := Kaw5.out.step hb
  clear Kaw5
  clear hu hb
  have Kaw6 : Hid (Keep [w6, w5, w4, w3, w1, w] w6) := Kw6.out.add
  clear Kw6
  clear c0 c1 c2
  obtain ⟨w7, hw7⟩ : ∃ y, y = w6.alloc (.cells #[.slice xa0_0 O0.length xc0_0, .slice xa0_1 z0.length xc0_1, .slice xa0_2 P0.length xc0_2] 35) := ⟨_, rfl⟩
  have Hw7 := Lib.hid hw7
  have hb : Below w6.heap.size w6 w7 := by rw [hw7]; exact below1 _ _
  have xb0 : Hid (Box3 w7 w6.heap.size 35 (.slice xa0_0 O0.length xc0_0) (.slice xa0_1 z0.length xc0_1) (.slice xa0_2 P0.length xc0_2)) := by rw [hw7]; exact Box3.new _ _ _ _ _ 
  have Kw7 : Hid (Keep [w6, w5, w4, w3, w1, w] w7) := Kaw6.out.step hb
  clear Kaw6
  clear hb
  have Kaw7 : Hid (Keep [w7, w6, w5, w4, w3, w1, w] w7) := Kw7.out.add
  clear Kw7
  clear hw7
  go_wp2_with fail
  rw [← Hw7.out]
  have HB2 : Hid (w5.heap.size ≤ w7.heap.size) := Kaw7.out.2.2.1.size
  have HD0_2 : Hid (w6.heap.size ≤ w7.heap.size) := Kaw7.out.2.1.size
  refine (toInts_own (H2.out.below Kaw7.out.2.2.2.2.2.2.1)).mono ?_
  rintro e w8 ⟨x, rfl, hu, hb⟩
  obtain ⟨xa2_0, xc2_0, hus⟩ := hu.shape2
  subst hus
  have xX2 := Lib.hid hu
  have HE2 : Hid (w7.heap.size ≤ w8.heap.size) := hb.size
  have Kw8 : Hid (Keep [w7, w6, w5, w4, w3, w1, w] w8) := Kaw7.out.step hb
  clear Kaw7
  clear hu hb
  have Kaw8 : Hid (Keep [w8, w7, w6, w5, w4, w3, w1, w] w8) := Kw8.out.add
  clear Kw8
  have c0 := (xb0.out.below Kaw8.out.2.1).c0
  have c1 := (xb0.out.below Kaw8.out.2.1).c1
  have c2 := (xb0.out.below Kaw8.out.2.1).c2
  go_wp2_with fail
  have HD0 : Hid (w6.heap.size ≤ w8.heap.size) := Kaw8.out.2.2.1.size
  have HD2 : Hid (w8.heap.size ≤ w8.heap.size) := Kaw8.out.1.size
  refine (AskedBy_is (HE.out.below Kaw8.out.2.2.2.2.2.2.2.1) xc2_0 R0.out (xX0.out.below Kaw8.out.2.2.1).at (xX2.out.below Kaw8.out.1).v.at).mono ?_
  rintro e w9 ⟨x, rfl, hg, hb⟩
  obtain ⟨xga_0, xgc_0, hus⟩ := hg.shape2
  subst hus
  have xG := Lib.hid hg
  have HEG : Hid (w8.heap.size ≤ w9.heap.size) := hb.size
  have Kw9 : Hid (Keep [w8, w7, w6, w5, w4, w3, w1, w] w9) := Kaw8.out.step hb
  clear Kaw8
  clear hb hg
  have Kaw9 : Hid (Keep [w9, w8, w7, w6, w5, w4, w3, w1, w] w9) := Kw9.out.add
  clear Kw9
  clear c0 c1 c2
  go_wp2_with fail
  refine (eqInts_at (xG.out.below Kaw9.out.1).v (pG.out.below Kaw9.out.2.2.2.2.1).v).mono ?_
  rintro e w10 ⟨rfl, hb⟩
  have Kw10 : Hid (Keep [w9, w8, w7, w6, w5, w4, w3, w1, w] w10) := Kaw9.out.step hb
  clear Kaw9
  clear hb
  have c0 := (b0.out.below Kw10.out.2.2.2.2.2.2.2.1).c0
  have c1 := (b0.out.below Kw10.out.2.2.2.2.2.2.2.1).c1
  have c2 := (b0.out.below Kw10.out.2.2.2.2.2.2.2.1).c2
  have c3 := (xb0.out.below Kw10.out.2.2.1).c0
  have c4 := (xb0.out.below Kw10.out.2.2.1).c1
  have c5 := (xb0.out.below Kw10.out.2.2.1).c2
  have Kdw10 : Hid (Keep [w9, w8, w7, w6, w5, w4, w3, w1, w] w10.drew) := Kw10.out.step (Below.refl _ _).drew
  go_wp2_with fail
  go_region_held3 (fun w' => w'.cell? ⟨w.heap.size, 0, none⟩ = some (.slice u0_0 O0.length d0_0) ∧ w'.cell? ⟨w.heap.size, 1, none⟩ = some (.slice u0_1 z0.length d0_1) ∧ w'.cell? ⟨w.heap.size, 2, none⟩ = some (.slice u0_2 P0.length d0_2) ∧ w'.cell? ⟨w6.heap.size, 0, none⟩ = some (.slice xa0_0 O0.length xc0_0) ∧ w'.cell? ⟨w6.heap.size, 1, none⟩ = some (.slice xa0_1 z0.length xc0_1) ∧ w'.cell? ⟨w6.heap.size, 2, none⟩ = some (.slice xa0_2 P0.length xc0_2))
    (first
      | go_keep
      | exact ⟨d0, d1, d2, d3, d4, d5⟩
      | exact ⟨f0, f1, f2, f3, f4, f5⟩)
    (first
      | (go_at_call 15; refine (toGame_at (H0.out.below Kdw10.out.2.2.2.2.2.2.2.2.1) hn0).mono ?_; rintro e w11 ⟨x, rfl, hu, hb⟩; obtain ⟨ya0_0, yc0_0, ya0_1, yc0_1, ya0_2, yc0_2, hus⟩ := hu.shape; subst hus; have yX0 := Lib.hid hu; have Kw11 : Hid (Keep [w9, w8, w7, w6, w5, w4, w3, w1, w] w11) := Kdw10.out.step hb; have d0 := (b0.out.below Kw11.out.2.2.2.2.2.2.2.1).c0; have d1 := (b0.out.below Kw11.out.2.2.2.2.2.2.2.1).c1; have d2 := (b0.out.below Kw11.out.2.2.2.2.2.2.2.1).c2; have d3 := (xb0.out.below Kw11.out.2.2.1).c0; have d4 := (xb0.out.below Kw11.out.2.2.1).c1; have d5 := (xb0.out.below Kw11.out.2.2.1).c2; have Kaw11 : Hid (Keep [w11, w9, w8, w7, w6, w5, w4, w3, w1, w] w11) := Kw11.out.add; clear hu hb)
      | (go_at_call 19; refine (eqGame_at (xX0.out.below Kaw11.out.2.2.2.2.1).at (yX0.out.below Kaw11.out.1).at).mono ?_; rintro e w12 ⟨rfl, hb⟩; have Kw12 : Hid (Keep [w11, w9, w8, w7, w6, w5, w4, w3, w1, w] w12) := Kaw11.out.step hb; have f0 := (b0.out.below Kw12.out.2.2.2.2.2.2.2.2.1).c0; have f1 := (b0.out.below Kw12.out.2.2.2.2.2.2.2.2.1).c1; have f2 := (b0.out.below Kw12.out.2.2.2.2.2.2.2.2.1).c2; have f3 := (xb0.out.below Kw12.out.2.2.2.1).c0; have f4 := (xb0.out.below Kw12.out.2.2.2.1).c1; have f5 := (xb0.out.below Kw12.out.2.2.2.1).c2; clear hb))
  clear c0 d0 f0 c1 d1 f1 c2 d2 f2 c3 d3 f3 c4 d4 f4 c5 d5 f5
  have Kzw12 : Hid (Keep [w9, w8, w7, w6, w5, w4, w3, w1, w] w12) := Kw12.out.2
  clear Kdw10 Kw11 Kaw11 yX0
  go_wp2_with fail
  refine (toInts_own (H2.out.below Kzw12.out.2.2.2.2.2.2.2.2.1)).mono ?_
  rintro e w13 ⟨x, rfl, hu, hb⟩
  obtain ⟨y12a2_0, y12c2_0, hus⟩ := hu.shape2
  subst hus
  have y12X2 := Lib.hid hu
  have Kw13 : Hid (Keep [w9, w8, w7, w6, w5, w4, w3, w1, w] w13) := Kzw12.out.step hb
  clear Kzw12
  clear hu hb
  have Kaw13 : Hid (Keep [w13, w9, w8, w7, w6, w5, w4, w3, w1, w] w13) := Kw13.out.add
  clear Kw13
  go_wp2_with fail
  refine (eqInts_at (xX2.out.below Kaw13.out.2.2.1).v (y12X2.out.below Kaw13.out.1).v).mono ?_
  rintro e w14 ⟨rfl, hb⟩
  have Kw14 : Hid (Keep [w13, w9, w8, w7, w6, w5, w4, w3, w1, w] w14) := Kaw13.out.step hb
  clear Kaw13
  clear hb
  have xX0_w14 := Lib.hid (xX0.out.below Kw14.out.2.2.2.2.1)
  have xX2_w14 := Lib.hid (xX2.out.below Kw14.out.2.2.1)
  have xb0_w14 := Lib.hid (xb0.out.below Kw14.out.2.2.2.1)
  have xG_w14 := Lib.hid (xG.out.below Kw14.out.2.1)
  have KBw14 : Hid (Keep [w5, w1, w] w14) := ⟨Kw14.out.2.2.2.2.2.1, Kw14.out.2.2.2.2.2.2.2.2.1, Kw14.out.2.2.2.2.2.2.2.2.2.1, trivial⟩
  clear Kw14
  have c0 := xb0_w14.out.c0
  have c1 := xb0_w14.out.c1
  have c2 := xb0_w14.out.c2
  go_wp2_with fail
  refine (markGame_at MK0.out xX0_w14.out (by omega) (by omega) HLE0.out).mono ?_
  rintro e t15 ⟨rfl, hx, ho⟩
  have o0 := OW.out
  have o1 := OC.out
  have o2 := OP.out
  have o3 := HEG.out
  have oh0 := HB0.out
  have oe0 := HE0.out
  have od0 := HD0.out
  have oh2 := HB2.out
  have oe2 := HE2.out
  have od2 := HD2.out
  have oq0_2 := HD0_2.out
  have KOt15 : Hid (Keep [w5, w1, w] t15) := KBw14.out.only ho (fun a ha b hb => by
    simp only [List.mem_cons, List.not_mem_nil, or_false] at ha
    rcases ha with rfl | rfl | rfl <;> omega)
  clear KBw14
  clear xX0_w14
  have xX2_t15 := Lib.hid (xX2_w14.out.only ho (fun g hg hb => by have := (xX2_w14.out.own.lt g hg).1; omega))
  clear xX2_w14
  clear xb0_w14
  have xG_t15 := Lib.hid (xG_w14.out.only ho (fun g hg hb => by have := (xG_w14.out.own.lt g hg).1; omega))
  clear xG_w14
  clear hx ho o0 o1 o2 o3 oh0 oe0 od0 oh2 oe2 od2 oq0_2 c0 c1 c2
  go_wp2_with fail
  refine (markInts_at MK2.out xX2_t15.out (by omega) (by omega)).mono ?_
  rintro e t16 ⟨rfl, hx, ho⟩
  have o0 := OW.out
  have o1 := OC.out
  have o2 := OP.out
  have o3 := HEG.out
  have oh0 := HB0.out
  have oe0 := HE0.out
  have od0 := HD0.out
  have oh2 := HB2.out
  have oe2 := HE2.out
  have od2 := HD2.out
  have oq0_2 := HD0_2.out
  have KOt16 : Hid (Keep [w5, w1, w] t16) := KOt15.out.only ho (fun a ha b hb => by
    simp only [List.mem_cons, List.not_mem_nil, or_false] at ha
    rcases ha with rfl | rfl | rfl <;> omega)
  clear KOt15
  clear xX2_t15
  have xG_t16 := Lib.hid (xG_t15.out.only ho (fun g hg hb => by have := (xG_t15.out.own.lt g hg).1; omega))
  clear xG_t15
  clear hx ho o0 o1 o2 o3 oh0 oe0 od0 oh2 oe2 od2 oq0_2
  go_wp2_with fail
  refine (eqInts_at xG_t16.out.v (pG.out.below KOt16.out.1).v).mono ?_
  rintro e t17 ⟨rfl, hb⟩
  have xG_t17 := Lib.hid (xG_t16.out.below hb)
  clear xG_t16
  have Kt17 : Hid (Keep [w5, w1, w] t17) := KOt16.out.step hb
  clear KOt16
  clear hb
  go_wp2_with fail
  refine (markInts_at MG.out xG_t17.out (by omega) (by omega)).mono ?_
  rintro e t18 ⟨rfl, hx, ho⟩
  have o0 := OW.out
  have o1 := OC.out
  have o2 := OP.out
  have o3 := HEG.out
  have oh0 := HB0.out
  have oe0 := HE0.out
  have od0 := HD0.out
  have oh2 := HB2.out
  have oe2 := HE2.out
  have od2 := HD2.out
  have oq0_2 := HD0_2.out
  have KOt18 : Hid (Keep [w5, w1, w] t18) := Kt17.out.only ho (fun a ha b hb => by
    simp only [List.mem_cons, List.not_mem_nil, or_false] at ha
    rcases ha with rfl | rfl | rfl <;> omega)
  clear Kt17
  have M := Lib.hid hx
  clear hx ho o0 o1 o2 o3 oh0 oe0 od0 oh2 oe2 od2 oq0_2
  have Kat18 : Hid (Keep [t18, w5, w1, w] t18) := KOt18.out.add
  clear KOt18
  go_wp2_with fail
  refine (heldInts_own MG.out (M.out.below Kat18.out.1).v (by omega) (by omega)).mono ?_
  rintro e t19 ⟨rfl, hb⟩
  have Kt19 : Hid (Keep [t18, w5, w1, w] t19) := Kat18.out.step hb
  clear Kat18
  clear hb
  have c0 := (b0.out.below Kt19.out.2.2.1).c0
  have c1 := (b0.out.below Kt19.out.2.2.1).c1
  have c2 := (b0.out.below Kt19.out.2.2.1).c2
  go_wp2_with fail
  refine (toGame_at (H0.out.below Kt19.out.2.2.2.1) hn0).mono ?_
  rintro e w20 ⟨x, rfl, hu, hb⟩
  obtain ⟨ha0_0, hc0_0, ha0_1, hc0_1, ha0_2, hc0_2, hus⟩ := hu.shape
  subst hus
  have hX0 := Lib.hid hu
  have Kw20 : Hid (Keep [t18, w5, w1, w] w20) := Kt19.out.step hb
  clear Kt19
  clear hu hb
  have Kaw20 : Hid (Keep [w20, t18, w5, w1, w] w20) := Kw20.out.add
  clear Kw20
  clear c0 c1 c2
  go_wp2_with fail
  refine (toInts_own (H2.out.below Kaw20.out.2.2.2.2.1)).mono ?_
  rintro e w21 ⟨x, rfl, hu, hb⟩
  obtain ⟨ha2_0, hc2_0, hus⟩ := hu.shape2
  subst hus
  have hX2 := Lib.hid hu
  have Kw21 : Hid (Keep [w20, t18, w5, w1, w] w21) := Kaw20.out.step hb
  clear Kaw20
  clear hu hb
  have Kaw21 : Hid (Keep [w21, w20, t18, w5, w1, w] w21) := Kw21.out.add
  clear Kw21
  go_wp2_with fail
  refine (AskedBy_is (HE.out.below Kaw21.out.2.2.2.2.2.1) hc2_0 R0.out (hX0.out.below Kaw21.out.2.1).at (hX2.out.below Kaw21.out.1).v.at).mono ?_
  rintro e w22 ⟨x, rfl, hg, hb⟩
  obtain ⟨hga_0, hgc_0, hus⟩ := hg.shape2
  subst hus
  have hG := Lib.hid hg
  have Kw22 : Hid (Keep [w21, w20, t18, w5, w1, w] w22) := Kaw21.out.step hb
  clear Kaw21
  clear hb hg
  have Kaw22 : Hid (Keep [w22, w21, w20, t18, w5, w1, w] w22) := Kw22.out.add
  clear Kw22
  go_wp2_with fail
  refine (eqInts_at (hG.out.below Kaw22.out.1).v (pG.out.below Kaw22.out.2.2.2.2.1).v).mono ?_
  rintro e w23 ⟨rfl, hb⟩
  have Kw23 : Hid (Keep [w22, w21, w20, t18, w5, w1, w] w23) := Kaw22.out.step hb
  clear Kaw22
  clear hb
  go_wp2_with fail
  refine (heldInts_own MG.out (M.out.below Kw23.out.2.2.2.1).v (by omega) (by omega)).mono ?_
  rintro e t24 ⟨rfl, hb⟩
  have Kt24 : Hid (Keep [w22, w21, w20, t18, w5, w1, w] t24) := Kw23.out.step hb
  clear Kw23
  clear hb
  go_wp2
  go_ret
  exact ⟨rfl, Kt24.out.2.2.2.2.2.2.1⟩

end Go.Proofs.YtglbkbiphcgidaaDoor
namespace Go.Proofs.YtglbkbiphcgidaaDoor
open Go.ChangeShapes Go.WideShapes Go.ChangeAt Go.RowKit

theorem lv_own : ownKnob Tryd.prog.godebug = none := by kernel_rfl
theorem lv_g : Tryd.prog.globalNamed "loop.example/g00869/impl.lostMeasure" = some 0 := by kernel_rfl
theorem lv_t : (Tryd.prog.globals[0]?).map (·.type) = some 88 := by kernel_rfl
abbrev lvTab : String × DataW Unit := ("loop.example/g00869/impl.lostMeasure", Rows.laid_loop_example_g00869_impl_lostMeasure)
theorem lv_data : (Rows.laid_loop_example_g00869_impl_lostMeasure : DataW Unit) = Lib.tabData .i64 [1, 0, 0, 0, 0, 0, 0, 0, 0, 0, 0, 0, 0] := by kernel_rfl
theorem lv_tab {W : World} (h : laidMet Tryd.prog [lvTab] W) : LostW W := fun j hj => by
  unfold lvTab at h
  rw [lv_data] at h
  have h1 := Lib.tabIs_of_head lv_g lv_t (n := 13) (e := 2) (by kernel_rfl) (by kernel_rfl) (by kernel_rfl) (by kernel_rfl) h
  have h2 := h1.cell lv_g j (by simpa using hj)
  rw [h2]
  have h13 : j = 0 ∨ j = 1 ∨ j = 2 ∨ j = 3 ∨ j = 4 ∨ j = 5 ∨ j = 6 ∨ j = 7 ∨ j = 8 ∨ j = 9 ∨ j = 10 ∨ j = 11 ∨ j = 12 := by omega
  rcases h13 with rfl | rfl | rfl | rfl | rfl | rfl | rfl | rfl | rfl | rfl | rfl | rfl | rfl <;> rfl
theorem lv_S {W : World} (h : laidMetH Tryd.prog [lvTab] W) : laidMet Tryd.prog [lvTab] W := by
  have h2 := (laidMetH_iff.1 h).1
  rw [show ([lvTab].filter fun x => x.2.handleName?.isNone) = [lvTab] by kernel_rfl] at h2
  exact h2
/-- A world that meets the list. -/
noncomputable def lvWorld (os : Os) : World :=
  let w0 := World.holding Tryd.prog os ⟨#[], #[], []⟩
  { w0 with heap := (w0.heap.modify 0 fun
      | .cells _ t frozen => .cells #[.int .i64 1, .int .i64 0, .int .i64 0, .int .i64 0, .int .i64 0, .int .i64 0, .int .i64 0, .int .i64 0, .int .i64 0, .int .i64 0, .int .i64 0, .int .i64 0, .int .i64 0] t frozen
      | o => o) }
theorem lv_met (os : Os) (args : Array Value) : laidMet Tryd.prog [lvTab] ((lvWorld os).forCall (fun _ _ => 0) ⟨#[], args, []⟩).memory :=
  laidMet_of_run' 8 (by kernel_rfl) (by kernel_rfl)
theorem lv_metS (os : Os) (args : Array Value) : laidMetH Tryd.prog [lvTab] ((lvWorld os).forCall (fun _ _ => 0) ⟨#[], args, []⟩).memory :=
  laidMetH_of_parts (by rw [show ([lvTab].filter fun x => x.2.handleName?.isNone) = [lvTab] by kernel_rfl]; exact lv_met os args) (by kernel_rfl)
end Go.Proofs.YtglbkbiphcgidaaDoor
