/-
  Contract of chapter 5: the model's FixedBy.
-/
import Derived.Test.YtokcinhopajniaaGreatDoorPlanSpec
import Derived.Test.YtokcinhopajniaaGreatDoorDraw1
import Derived.Deep.RegionHeld3
namespace Go.Proofs.YtokcinhopajniaaGreatDoor
open Go.RowKit

/-- The rows behind the first k vertices: a vertex with a choice keeps that alone. -/
def fixK (zss : List (List Int)) (P : List Int) (k : Nat) : List (List Int) := rowsOf zss.length fun v => if v < k ∧ 0 ≤ nth P v then [nth P v] else row zss v
theorem fixK_len (zss : List (List Int)) (P : List Int) (k : Nat) : (fixK zss P k).length = zss.length := rowsOf_len _ _
theorem fixK_row {zss : List (List Int)} {P : List Int} {k v : Nat} (h : v < zss.length) : row (fixK zss P k) v = if v < k ∧ 0 ≤ nth P v then [nth P v] else row zss v := rowsOf_row h
theorem rows_ext {xs ys : List (List Int)} (hl : xs.length = ys.length) (h : ∀ i, i < xs.length → row xs i = row ys i) : xs = ys := by
  apply List.ext_getElem hl
  intro i h1 h2
  have := h i h1
  simpa [row, h1, h2] using this
theorem fixK_zero (zss : List (List Int)) (P : List Int) : fixK zss P 0 = zss := rows_ext (fixK_len _ _ _) fun i hi => by
  rw [fixK_len] at hi
  rw [fixK_row hi, if_neg (fun h => absurd h.1 (Nat.not_lt_zero _))]
theorem fixK_same {zss : List (List Int)} {P : List Int} {k : Nat} (h : nth P k < 0) : fixK zss P k = fixK zss P (k + 1) := rows_ext (by rw [fixK_len, fixK_len]) fun i hi => by
  rw [fixK_len] at hi
  rw [fixK_row hi, fixK_row hi]
  by_cases e : i = k
  · subst e; rw [if_neg (fun h' => by omega), if_neg (fun h' => by omega)]
  · by_cases hl : i < k ∧ 0 ≤ nth P i
    · rw [if_pos hl, if_pos ⟨by omega, hl.2⟩]
    · rw [if_neg hl, if_neg (fun h' => hl ⟨by omega, h'.2⟩)]
theorem fixK_put {zss : List (List Int)} {P : List Int} {k : Nat} (hk : k < zss.length) (h : 0 ≤ nth P k) : (fixK zss P k).set k [nth P k] = fixK zss P (k + 1) := rows_ext (by simp [fixK_len]) fun i hi => by
  simp [fixK_len] at hi
  rw [row_set (by rw [fixK_len]; exact hk), fixK_row hi, fixK_row hi]
  by_cases e : i = k
  · subst e; rw [if_pos rfl, if_pos ⟨by omega, h⟩]
  · rw [if_neg e]
    by_cases hl : i < k ∧ 0 ≤ nth P i
    · rw [if_pos hl, if_pos ⟨by omega, hl.2⟩]
    · rw [if_neg hl, if_neg (fun h' => hl ⟨by omega, h'.2⟩)]
/-- What FixedBy gives. -/
noncomputable def fixO (O : List Int) (zss : List (List Int)) (who : Int) (P : List Int) : List Int := if planB O zss who P = true then O else []
noncomputable def fixN (O : List Int) (zss : List (List Int)) (who : Int) (P : List Int) : List (List Int) := if planB O zss who P = true then fixK zss P zss.length else []
theorem fix_no {O fO P : List Int} {zss fN : List (List Int)} {who : Int} {r : Bool} (hr : fixO O zss who P = fO ∧ fixN O zss who P = fN ∧ planB O zss who P = r) (h : planB O zss who P = false) : fO = [] ∧ fN = [] ∧ r = false := by
  obtain ⟨rfl, rfl, rfl⟩ := hr
  unfold fixO fixN; rw [h]; simp
theorem fix_yes {O fO P : List Int} {zss fN : List (List Int)} {who : Int} {r : Bool} (hr : fixO O zss who P = fO ∧ fixN O zss who P = fN ∧ planB O zss who P = r) (h : planB O zss who P = true) : fO = O ∧ fN = fixK zss P zss.length ∧ r = true := by
  obtain ⟨rfl, rfl, rfl⟩ := hr
  unfold fixO fixN; rw [h]; simp
theorem cell_other {w : World} {p q : Addr} {v : Value} (h : w.cell? p = some v) (hne : p.block ≠ q.block) (u : Value) : (w.setCell q u).cell? p = some v :=
  (World.cell?_of_block (Below.heap_setCell _ _ _ _ hne)).trans h
theorem Half4.head {n t : Nat} {wr : World} {vo vn : Value} {V : Nat → Value} {O : List Int} {zss : List (List Int)} (h : Half4 n wr t vo vn V O zss) (h0 : 0 < zss.length) : ∃ g cap, vn = .slice (some ⟨g, 0, none⟩) zss.length cap ∧ n ≤ g := by
  rcases h.rows.own.2 with ⟨_, h1⟩ | ⟨g, cap, cur, hv, hg, _⟩
  · omega
  · exact ⟨g, cap, hv, hg⟩

set_option maxHeartbeats 8000000 in
set_option maxRecDepth 100000 in
theorem specFixedBy_is {w : World} {va : Value} {O fO P : List Int} {zss fN : List (List Int)} {who : Int} {aP : Option Addr} {r : Bool} (cP : Nat) (hr : fixO O zss who P = fO ∧ fixN O zss who P = fN ∧ planB O zss who P = r) (h : ArenaAt w va O zss) (hP : IntsAt w aP P) :
    Calls Tryz.prog 82 #[va, .int .i64 who, .slice aP P.length cP] w (GivesArenaB w fO fN r) := by
  have HAt := Lib.hid h
  obtain ⟨ao, an, co, cn, A, C, rfl, h1, h2⟩ := h
  have hlP := hP.len
  have HPi := Lib.hid hP
  obtain ⟨w1, hw1⟩ : ∃ y, y = (w.alloc (.cells #[.slice ao O.length co, .slice an zss.length cn] 30)).alloc (.cells #[.slice none 0 0, .slice none 0 0] 30) := ⟨_, rfl⟩
  have HW1 := Lib.hid hw1
  have B1 : Hid (Below w.heap.size w w1) := by rw [hw1]; exact below2 _ _ _
  have hs1 : w1.heap.size = w.heap.size + 1 + 1 := by rw [hw1]; simp
  have HS1 := Lib.hid hs1
  have T1 : Hid (Box2 w1 w.heap.size 30 (.slice ao O.length co) (.slice an zss.length cn)) := by rw [hw1]; exact (Box2.new w _ _ _).alloc _
  have R1 : Hid (Box2 w1 (w.heap.size + 1) 30 (.slice none 0 0) (.slice none 0 0)) := by rw [hw1]; exact Box2.new_at (by simp) _ _ _
  clear hw1 h1 h2 hP hs1
  cases hp : planB O zss who P with
  | false =>
    have HE := Lib.hid (fix_no hr hp)
    have HC := Lib.hid (specPlanOk_is cP hp (HAt.out.below B1.out) (HPi.out.below B1.out))
    clear hr hp
    go_enter Tryz.func82, Tryz.ntmps82
    go_wp2_with fail
    rw [← HW1.out]
    refine HC.out.mono ?_
    rintro e w2 ⟨rfl, hb⟩
    have B2 := Lib.hid (B1.out.trans (hb.mono B1.out.size))
    have R2 := Lib.hid (R1.out.below hb)
    have d0 := R2.out.cell0
    have d1 := R2.out.cell1
    have g0 := R2.out.frozen 0
    have g1 := R2.out.frozen 1
    clear hb HC
    go_wp2
    exact bodyPost_ret (v := .tuple #[.agg #[.slice none 0 0, .slice none 0 0], .bool false]) (by simp [results, Tryz.results82, go_sem, d0, d1]) rfl
      ⟨_, by rw [HE.out.2.2], by rw [HE.out.1, HE.out.2.1]; exact ownArena_zero _ _ _, (B2.out.setCell (by show w.heap.size ≤ w.heap.size + 1; omega) _).setCell (by show w.heap.size ≤ w.heap.size + 1; omega) _⟩
  | true =>
    have HE := Lib.hid (fix_yes hr hp)
    have HC := Lib.hid (specPlanOk_is cP hp (HAt.out.below B1.out) (HPi.out.below B1.out))
    have hpp := planB_iff.1 hp
    have hzO : zss.length = O.length := hpp.1.2.2.1
    have HPL : Hid (P.length = zss.length) := by have := hpp.2.2.1; unfold Hid; omega
    have hz0 : 0 < zss.length := by have := hpp.1.1; omega
    have hzl : zss.length ≤ 1048576 := by have := hpp.1.2.1; omega
    have HPF : Hid (∀ v, v < P.length → Fits (nth P v)) := HPi.out.fits
    clear hr hp hpp hzO
    go_enter Tryz.func82, Tryz.ntmps82
    go_wp2_with fail
    rw [← HW1.out]
    refine HC.out.mono ?_
    rintro e w2 ⟨rfl, hb⟩
    have B2 := Lib.hid (B1.out.trans (hb.mono B1.out.size))
    have R2 := Lib.hid (R1.out.below hb)
    have T2 := Lib.hid (T1.out.below hb)
    have c0 := T2.out.cell0
    have c1 := T2.out.cell1
    clear hb HC
    go_wp2_with fail
    refine (l1CopyArena_is (HAt.out.below B2.out) hzl).mono ?_
    rintro e w3 ⟨va, rfl, hoa, hb⟩
    obtain ⟨vo, vn, V, rfl, ho, hrw, hap⟩ := hoa
    obtain ⟨a1, k1, hs1, _, _⟩ := ho.shape
    obtain ⟨a2, k2, hs2, _, _⟩ := hrw.shape
    subst hs1
    subst hs2
    have B3 := Lib.hid (B2.out.trans (hb.mono B2.out.size))
    have R3 := Lib.hid (R2.out.below hb)
    obtain ⟨w4, hw4⟩ : ∃ y, y = w3.alloc (.cells #[.slice a1 O.length k1, .slice a2 zss.length k2] 30) := ⟨_, rfl⟩
    have HW4 := Lib.hid hw4
    have hb34 : Below w3.heap.size w3 w4 := by rw [hw4]; exact below1 _ _
    have S4 : Hid (Half4 w2.heap.size w4 w3.heap.size (.slice a1 O.length k1) (.slice a2 zss.length k2) V O (fixK zss P 0)) := by
      rw [fixK_zero]
      exact ⟨hb.size, by rw [hw4]; exact Box2.new _ _ _ _, (ho.below hb34).retop, (hrw.below hb34).retop, hap⟩
    have R4 := Lib.hid (R3.out.below hb34)
    have B4 := Lib.hid (B3.out.trans (hb34.mono B3.out.size))
    have HS2 : Hid (w1.heap.size ≤ w2.heap.size) := by have := R2.out.lt; have := HS1.out; unfold Hid; omega
    clear hb ho hrw hap c0 c1 hb34 hw4
    go_wp2
    rw [← HW4.out]
    go_loopw [9] (fun iv wr => ∃ (k : Nat) (V : Nat → Value), k ≤ P.length ∧ iv = .int .i64 k ∧ Hid (Half4 w2.heap.size wr w3.heap.size (.slice a1 O.length k1) (.slice a2 zss.length k2) V O (fixK zss P k)) ∧ Hid (Only (fun b => w2.heap.size ≤ b) w4 wr)) (fun iv _ => P.length - (intOf iv).toNat)
    case atStart => exact ⟨0, V, Nat.zero_le _, rfl, S4, Only.refl _ _⟩
    case round =>
      clear S4
      obtain ⟨k, V, hk, rfl, HS, HO⟩ := hrel
      have Bw := Lib.hid (B4.out.trans (HO.out.below (B := w.heap.size) B4.out.size (fun b hb => by have := B2.out.size; omega)))
      by_cases hlt : k < P.length
      · have hi1 : (k : Int) < P.length := by omega
        have hkz : k < zss.length := by have := HPL.out; omega
        have hi2 : (k : Int) < zss.length := by omega
        have hk0 : (0 : Int) ≤ (k : Int) := by omega
        obtain ⟨pb, po, hpa, hpc⟩ := (HPi.out.below Bw.out).cell (by omega)
        have p1 := hpc k hlt
        obtain ⟨q, hq⟩ : ∃ q, q = nth P k := ⟨_, rfl⟩
        have HQ := Lib.hid hq
        have hqf : Fits q := by rw [hq]; exact HPF.out k hlt
        have HQF := Lib.hid hqf
        rw [← hq] at p1
        by_cases h0 : 0 ≤ q
        · obtain ⟨g, cap, hvn, hgn⟩ := HS.out.head (by rw [fixK_len]; exact hz0)
          rw [fixK_len] at hvn
          simp only [Value.slice.injEq, true_and] at hvn
          obtain ⟨rfl, rfl⟩ := hvn
          have HS' := HS
          rw [← fixK_len zss P k] at HS'
          obtain ⟨hrc, hrf⟩ := HS'.out.rcell (v := k) (by rw [fixK_len]; exact hkz)
          obtain ⟨ub, uc, hV, _, _⟩ := (HS.out.rows.rows k (by rw [fixK_len]; exact hkz)).shape
          have HV := Lib.hid hV
          have HGN : Hid (w2.heap.size ≤ g) := hgn
          have hg3 : w3.heap.size ≠ g := fun e => HS.out.str.not_own HS.out.rows.own (by decide) (by rw [e]; rfl)
          have hg3' : g ≠ w3.heap.size := fun e => hg3 e.symm
          have hpb : pb < w.heap.size := by
            obtain ⟨b, o, ha, hc⟩ := HPi.out.cell (by omega)
            have hpa0 := ha.symm.trans hpa
            simp only [Option.some.injEq, Addr.mk.injEq, and_true] at hpa0
            rw [← hpa0.1]
            exact World.block_lt_of_cell? _ ⟨b, o + k, none⟩ (hc k hlt)
          have hgp : g ≠ pb := by have := B2.out.size; omega
          have hgp' : pb ≠ g := fun e => hgp e.symm
          have Kd : Hid (Below wr.heap.size wr wr.drew) := (Below.refl _ _).drew
          have Ka : Hid (Below wr.heap.size wr (wr.alloc (.cells #[.int .i64 q] 2)).drew) := ((below1 wr _).drew)
          have HSt : Hid (∀ W, Below wr.heap.size wr W → W.cell? ⟨w3.heap.size, 1, none⟩ = some (.slice (some ⟨g, 0, none⟩) zss.length k2) ∧ W.cell? ⟨pb, po + k, none⟩ = some (.int .i64 q)) := fun W hb =>
            ⟨(HS.out.keep hb).str.cell1, Below.cell_some (B := 0) hb rfl p1⟩
          have HSu : Hid (∀ W, Below wr.heap.size wr W → ∀ u, (W.setCell ⟨g, k, none⟩ u).cell? ⟨w3.heap.size, 1, none⟩ = some (.slice (some ⟨g, 0, none⟩) zss.length k2) ∧ (W.setCell ⟨g, k, none⟩ u).cell? ⟨pb, po + k, none⟩ = some (.int .i64 q)) := fun W hb u =>
            ⟨cell_other (HSt.out W hb).1 hg3 u, cell_other (HSt.out W hb).2 hgp' u⟩
          have hrcA : (wr.alloc (.cells #[.int .i64 q] 2)).drew.cell? ⟨g, k, none⟩ = some (V k) := ((HS'.out.keep Ka.out).rcell (v := k) (by rw [fixK_len]; exact hkz)).1
          have hrfA : (wr.alloc (.cells #[.int .i64 q] 2)).drew.frozen? ⟨g, k, none⟩ = false := ((HS'.out.keep Ka.out).rcell (v := k) (by rw [fixK_len]; exact hkz)).2
          rw [hV] at hrcA
          obtain ⟨w5, hw5⟩ : ∃ y, y = (wr.alloc (.cells #[.int .i64 q] 2)).drew := ⟨_, rfl⟩
          have hput := HS'.out.putRow (v := k) (zs := [q]) (w7 := w5) (u := .slice (some ⟨wr.heap.size, 0, none⟩) 1 1) (by rw [fixK_len]; exact hkz) (Only.of_below (by rw [hw5]; exact Ka.out))
            (by rw [hw5]; exact ((own_new wr q hqf).below (Below.refl _ _).drew).retop.base (by have := HO.out.size; have := HS.out.base; have := HS.out.str.lt; show _ ≤ wr.heap.size; omega)) (.inr ⟨_, rfl, Nat.le_refl _⟩)
          rw [HQ.out, fixK_put hkz (by rw [← HQ.out]; exact h0), fixK_len] at hput
          rw [hw5] at hput
          have HPUT := Lib.hid hput
          have HON := Lib.hid (HO.out.trans hput.2)
          have s0 := HSt.out _ Kd.out
          subst hpa
          clear hpc hq hrc hrf hqf hV hput hw5
          go_wp2
          go_region_held3 (fun W => W.cell? ⟨w3.heap.size, 1, none⟩ = some (.slice (some ⟨g, 0, none⟩) zss.length k2) ∧ W.cell? ⟨pb, po + k, none⟩ = some (.int .i64 q))
            (first
              | exact HSt.out _ Kd.out
              | exact HSt.out _ Ka.out
              | exact HSu.out _ Ka.out _)
            (fail)
          clear hrcA hrfA s0
          go_wp2
          go_roundw
          case rel => exact ⟨k + 1, _, by omega, by go_num, HPUT.out.1, HON⟩
          case measure => simp [intOf]; omega
        · have hq1 : ¬ 0 ≤ q := h0
          have HSn : Hid (Half4 w2.heap.size wr w3.heap.size (.slice a1 O.length k1) (.slice a2 zss.length k2) V O (fixK zss P (k + 1))) := by
            rw [← fixK_same (by rw [← HQ.out]; omega)]; exact HS.out
          subst hpa
          clear hpc hq
          go_wp2
          go_roundw
          case rel => exact ⟨k + 1, V, by omega, by go_num, HSn, HO⟩
          case measure => simp [intOf]; omega
      · have hi1 : ¬ (k : Int) < P.length := by omega
        have hkk : k = zss.length := by have := HPL.out; omega
        have Rw := Lib.hid (R4.out.only HO.out (by have := HS2.out; have := HS1.out; omega))
        have d0 := Rw.out.cell0
        have d1 := Rw.out.cell1
        have g0 := Rw.out.frozen 0
        have g1 := Rw.out.frozen 1
        have t0 := HS.out.str.cell0
        have t1 := HS.out.str.cell1
        rw [hkk] at HS
        have hS : Only (fun b => b = w.heap.size + 1) wr ((wr.setCell ⟨w.heap.size + 1, 0, none⟩ (.slice a1 O.length k1)).setCell ⟨w.heap.size + 1, 1, none⟩ (.slice a2 zss.length k2)) := (Box2.set0_only _).trans (Box2.set1_only _)
        have hfin : Hid (OwnArena ((wr.setCell ⟨w.heap.size + 1, 0, none⟩ (.slice a1 O.length k1)).setCell ⟨w.heap.size + 1, 1, none⟩ (.slice a2 zss.length k2)) w.heap.size ((wr.setCell ⟨w.heap.size + 1, 0, none⟩ (.slice a1 O.length k1)).setCell ⟨w.heap.size + 1, 1, none⟩ (.slice a2 zss.length k2)).heap.size (.agg #[.slice a1 O.length k1, .slice a2 zss.length k2]) O (fixK zss P zss.length)) :=
          ⟨_, _, V, rfl, ((HS.out.ints.only hS (fun g hg e => Rw.out.not_own HS.out.ints.own (by decide) (by rw [hg, e]))).retop.base B2.out.size), ((HS.out.rows.only hS (fun g hg e => Rw.out.not_own HS.out.rows.own (by decide) (by rw [hg, e])) (fun k hk g hg e => Rw.out.not_own (HS.out.rows.rows k hk).own (by decide) (by rw [hg, e]))).retop.base B2.out.size), HS.out.apart⟩
        clear hkk HS
        go_wp2
        exact bodyPost_ret (v := .tuple #[.agg #[.slice a1 O.length k1, .slice a2 zss.length k2], .bool true]) (by simp [results, Tryz.results82, go_sem, d0, d1]) rfl
          ⟨_, by rw [HE.out.2.2], by rw [HE.out.1, HE.out.2.1]; exact hfin.out, Bw.out.trans (hS.below (B := w.heap.size) Bw.out.size (fun b hb => by omega))⟩

end Go.Proofs.YtokcinhopajniaaGreatDoor
