/-
  Contracts: cmp.Or, weigh, HeavierIn.
-/
import Derived.Test.YtihaajcmephlmaaWorthMath
import Derived.Test.YtihaajcmephlmaaPo08
import Derived.Test.YtihaajcmephlmaaPo09
namespace Go.Proofs.Ytihaajcmephlmaa
section
open Go.RowKit Go.Shelf

theorem cell_new2 (w : World) (a b : Value) (T : TypeId) {k : Nat} {v : Value} (h : #[a, b][k]? = some v) : (w.alloc (.cells #[a, b] T)).cell? ⟨w.heap.size, k, none⟩ = some v := by
  rw [World.cell?, heap_alloc_new]
  exact h
set_option linter.unusedSimpArgs false in
set_option maxRecDepth 100000 in
set_option maxHeartbeats 8000000 in
theorem or2_is {w : World} {g : Nat} {a b r : Int} (hr : (if a = 0 then b else a) = r) (h0 : w.cell? ⟨g, 0, none⟩ = some (.int .i64 a)) (h1 : w.cell? ⟨g, 1, none⟩ = some (.int .i64 b)) :
    Calls Try.prog 78 #[.slice (some ⟨g, 0, none⟩) 2 2] w fun e w' => e = .returned (.int .i64 r) ∧ w = w' := by
  have HR := Lib.hid hr
  have HA := Lib.hid h0
  have HB := Lib.hid h1
  clear hr h0 h1
  go_enter Try.func78, Try.ntmps78
  go_wp2
  go_loopw [8] (fun iv wr => ∃ k : Nat, k ≤ 2 ∧ iv = .int .i64 k ∧ Hid ((0 < k → a = 0) ∧ (1 < k → b = 0)) ∧ w = wr) (fun iv _ => 2 - (intOf iv).toNat)
  case atStart => exact ⟨0, Nat.zero_le _, rfl, ⟨fun h => absurd h (Nat.lt_irrefl _), fun h => by omega⟩, rfl⟩
  case round =>
    obtain ⟨k, hk, rfl, HJ, rfl⟩ := hrel
    by_cases h2 : k < 2
    · have hi1 : (k : Int) < 2 := by omega
      have hk0 : (0 : Int) ≤ (k : Int) := by omega
      obtain ⟨z, hz⟩ : ∃ z, z = if k = 0 then a else b := ⟨_, rfl⟩
      have hc : w.cell? ⟨g, 0 + k, none⟩ = some (.int .i64 z) := by
        rw [Nat.zero_add, hz]
        by_cases e : k = 0
        · rw [e, if_pos rfl]; exact HA.out
        · rw [show k = 1 by omega, if_neg (by decide)]; exact HB.out
      rw [Nat.zero_add] at hc
      by_cases hz0 : z = 0
      · have hne : (z != 0) = false := by simpa using hz0
        have HJn : Hid ((0 < k + 1 → a = 0) ∧ (1 < k + 1 → b = 0)) := by
          by_cases e : k = 0
          · subst e
            rw [if_pos rfl] at hz
            exact ⟨fun _ => by omega, fun h => by omega⟩
          · rw [if_neg e] at hz
            exact ⟨fun _ => HJ.out.1 (by omega), fun _ => by omega⟩
        clear hz hz0
        go_wp2
        go_roundw
        case rel => exact ⟨k + 1, by omega, by go_num, HJn, by first | rfl | trivial⟩
        case measure => simp [intOf]; omega
      · have hne : (z != 0) = true := by simpa using hz0
        have HE : Hid (z = r) := by
          rw [← HR.out, hz]
          by_cases e : k = 0
          · subst e
            rw [if_pos rfl] at hz
            rw [if_pos rfl, if_neg (by omega)]
            exact rfl
          · rw [if_neg e, if_pos (HJ.out.1 (by omega))]
            exact rfl
        clear hz hz0
        go_wp2
        go_ret
        exact ⟨ret_i64 HE.out, rfl⟩
    · have hi1 : ¬ (k : Int) < 2 := by omega
      have HE : Hid ((0 : Int) = r) := by
        have := HJ.out
        rw [← HR.out, if_pos (this.1 (by omega)), this.2 (by omega)]
        exact rfl
      go_wp2
      go_ret
      exact ⟨ret_i64 HE.out, rfl⟩

set_option linter.unusedSimpArgs false in
set_option maxRecDepth 100000 in
set_option maxHeartbeats 8000000 in
theorem weigh_is {w : World} {v : Value} {O P : List Int} {zss : List (List Int)} {x y : Nat} {r : Int} (hx : x < P.length) (hy : y < P.length) (hr : weighI P x y = r) (h : GameAt w v O zss P) :
    Calls Try.prog 50 #[v, .int .i64 x, .int .i64 y] w fun e w' => e = .returned (.int .i64 r) ∧ Below w.heap.size w w' := by
  have HGm := Lib.hid h
  obtain ⟨ao, an, ap, co, cn, cp, A, C, rfl, h1, h2, h3⟩ := h
  obtain ⟨w1, hw1⟩ : ∃ y, y = w.alloc (.cells #[.slice ao O.length co, .slice an zss.length cn, .slice ap P.length cp] 32) := ⟨_, rfl⟩
  have HW1 := Lib.hid hw1
  have B1 : Hid (Below w.heap.size w w1) := by rw [hw1]; exact below1 _ _
  have T1 : Hid (Box3 w1 w.heap.size 32 (.slice ao O.length co) (.slice an zss.length cn) (.slice ap P.length cp)) := by rw [hw1]; exact Box3.new _ _ _ _ _
  have hl := h3.len
  obtain ⟨pb, po, hpa, hpc⟩ := (h3.below B1.out).cell (by omega)
  have p1 := hpc x hx
  have p2 := hpc y hy
  have t2 := T1.out.c2
  have hx0 : (0 : Int) ≤ (x : Int) := by omega
  have hy0 : (0 : Int) ≤ (y : Int) := by omega
  have hx1 : (x : Int) < P.length := by omega
  have hy1 : (y : Int) < P.length := by omega
  have HR := Lib.hid hr
  unfold weighI at HR
  obtain ⟨p, hp⟩ : ∃ p, p = nth P x := ⟨_, rfl⟩
  obtain ⟨q, hq⟩ : ∃ q, q = nth P y := ⟨_, rfl⟩
  rw [← hp, ← hq] at HR
  rw [← hp] at p1
  rw [← hq] at p2
  have HC1 := Lib.hid (fun W => cmp8_is (x := p) (y := q) (v := cmpI p q) rfl W)
  have HC2 := Lib.hid (fun W => cmp8_is (x := (x : Int)) (y := (y : Int)) (v := cmpI x y) rfl W)
  obtain ⟨a, ha⟩ : ∃ a, cmpI p q = a := ⟨_, rfl⟩
  obtain ⟨b, hb⟩ : ∃ b, cmpI (x : Int) (y : Int) = b := ⟨_, rfl⟩
  rw [ha, hb] at HR
  rw [ha] at HC1
  rw [hb] at HC2
  subst hpa
  have Kd : Hid (Below w1.heap.size w1 w1.drew) := (Below.refl _ _).drew
  have HSw : Hid (∀ W', Below w1.heap.size w1 W' → W'.cell? ⟨w.heap.size, 2, none⟩ = some (.slice (some ⟨pb, po, none⟩) P.length cp) ∧ W'.cell? ⟨pb, po + x, none⟩ = some (.int .i64 p) ∧ W'.cell? ⟨pb, po + y, none⟩ = some (.int .i64 q)) := fun W' hB => ⟨(hB.cell (World.block_lt_of_cell? _ _ t2)).trans t2, (hB.cell (World.block_lt_of_cell? _ _ p1)).trans p1, (hB.cell (World.block_lt_of_cell? _ _ p2)).trans p2⟩
  clear hw1 h1 h2 h3 hr hp hq hpc ha hb t2 p1 p2
  go_enter Try.func50, Try.ntmps50
  go_upto_region 1 with fail
  rw [← HW1.out]
  refine wp_region_M (S := (fun W' => W'.cell? ⟨w.heap.size, 2, none⟩ = some (.slice (some ⟨pb, po, none⟩) P.length cp) ∧ W'.cell? ⟨pb, po + x, none⟩ = some (.int .i64 p) ∧ W'.cell? ⟨pb, po + y, none⟩ = some (.int .i64 q))) (m := 16) (by kernel_rfl) (HSw.out _ Kd.out) (fun hHeld => ?_)
  refine wpAnyM_take (i := 0) (v := ?vm1) rfl (by kernel_rfl) (by decide) (by kernel_rfl) (by kernel_rfl) (by kernel_rfl) (fun _ _ _ h => h) (Or.inl ⟨by rfl, ?hm1⟩) (by assumption) ?_
  case hm1 => (intro w hSw; (try dsimp only at hSw); go_simp; first | done | with_reducible rfl)
  try simp only [Act.put, List.setIfInBounds_toArray, List.set_cons_zero, List.set_cons_succ]
  refine wpAnyM_take (i := 1) (v := ?vm2) rfl (by kernel_rfl) (by decide) (by kernel_rfl) (by kernel_rfl) (by kernel_rfl) (fun _ _ _ h => h) (Or.inl ⟨by rfl, ?hm2⟩) (by assumption) ?_
  case hm2 => (intro w hSw; (try dsimp only at hSw); go_simp; first | done | with_reducible rfl)
  try simp only [Act.put, List.setIfInBounds_toArray, List.set_cons_zero, List.set_cons_succ]
  refine wpAnyM_take (i := 2) (v := ?vm3) rfl (by kernel_rfl) (by decide) (by kernel_rfl) (by kernel_rfl) (by kernel_rfl) (fun _ _ _ h => h) (Or.inl ⟨by rfl, ?hm3⟩) (by assumption) ?_
  case hm3 => (intro w hSw; (try dsimp only at hSw); go_simp; first | done | with_reducible rfl)
  try simp only [Act.put, List.setIfInBounds_toArray, List.set_cons_zero, List.set_cons_succ]
  refine wpAnyM_take (i := 3) (v := ?vm4) rfl (by kernel_rfl) (by decide) (by kernel_rfl) (by kernel_rfl) (by kernel_rfl) (fun _ _ _ h => h) (Or.inl ⟨by rfl, ?hm4⟩) (by assumption) ?_
  case hm4 => (intro w hSw; (try dsimp only at hSw); go_simp; first | done | with_reducible rfl)
  try simp only [Act.put, List.setIfInBounds_toArray, List.set_cons_zero, List.set_cons_succ]
  refine wpAnyM_take (i := 4) (v := ?vm5) rfl (by kernel_rfl) (by decide) (by kernel_rfl) (by kernel_rfl) (by kernel_rfl) (fun _ _ _ h => h) (Or.inl ⟨by rfl, ?hm5⟩) (by assumption) ?_
  case hm5 => (intro w hSw; (try dsimp only at hSw); go_simp; first | done | with_reducible rfl)
  try simp only [Act.put, List.setIfInBounds_toArray, List.set_cons_zero, List.set_cons_succ]
  refine wpAnyM_take (i := 5) (v := ?vm6) rfl (by kernel_rfl) (by decide) (by kernel_rfl) (by kernel_rfl) (by kernel_rfl) (fun _ _ _ h => h) (Or.inl ⟨by rfl, ?hm6⟩) (by assumption) ?_
  case hm6 => (intro w hSw; (try dsimp only at hSw); go_simp; first | done | with_reducible rfl)
  try simp only [Act.put, List.setIfInBounds_toArray, List.set_cons_zero, List.set_cons_succ]
  refine wpAnyM_take (i := 6) (v := ?vm7) rfl (by kernel_rfl) (by decide) (by kernel_rfl) (by kernel_rfl) (by kernel_rfl) (fun _ _ _ h => h) (Or.inl ⟨by rfl, ?hm7⟩) (by assumption) ?_
  case hm7 => (intro w hSw; (try dsimp only at hSw); go_simp; first | done | with_reducible rfl)
  try simp only [Act.put, List.setIfInBounds_toArray, List.set_cons_zero, List.set_cons_succ]
  refine wpAnyM_take (i := 7) (v := ?vm8) rfl (by kernel_rfl) (by decide) (by kernel_rfl) (by kernel_rfl) (by kernel_rfl) (fun _ _ _ h => h) (Or.inl ⟨by rfl, ?hm8⟩) (by assumption) ?_
  case hm8 => (intro w hSw; (try dsimp only at hSw); go_simp; first | done | with_reducible rfl)
  try simp only [Act.put, List.setIfInBounds_toArray, List.set_cons_zero, List.set_cons_succ]
  refine wpAnyM_take (i := 8) (v := ?vm9) rfl (by kernel_rfl) (by decide) (by kernel_rfl) (by kernel_rfl) (by kernel_rfl) (fun _ _ _ h => h) (Or.inl ⟨by rfl, ?hm9⟩) (by assumption) ?_
  case hm9 => (intro w hSw; (try dsimp only at hSw); go_simp; first | done | with_reducible rfl)
  try simp only [Act.put, List.setIfInBounds_toArray, List.set_cons_zero, List.set_cons_succ]
  refine wpAnyM_take (i := 9) (v := ?vm10) rfl (by kernel_rfl) (by decide) (by kernel_rfl) (by kernel_rfl) (by kernel_rfl) (fun _ _ _ h => h) (Or.inl ⟨by rfl, ?hm10⟩) (by assumption) ?_
  case hm10 => (intro w hSw; (try dsimp only at hSw); go_simp; first | done | with_reducible rfl)
  try simp only [Act.put, List.setIfInBounds_toArray, List.set_cons_zero, List.set_cons_succ]
  refine wpAnyM_take (i := 11) (v := ?vm11) rfl (by kernel_rfl) (by decide) (by kernel_rfl) (by kernel_rfl) (by kernel_rfl) (fun _ _ _ h => h) (Or.inl ⟨by rfl, ?hm11⟩) (by assumption) ?_
  case hm11 => (intro w hSw; (try dsimp only at hSw); go_simp; first | done | with_reducible rfl)
  try simp only [Act.put, List.setIfInBounds_toArray, List.set_cons_zero, List.set_cons_succ]
  refine wpAnyM_take (i := 12) (v := ?vm12) rfl (by kernel_rfl) (by decide) (by kernel_rfl) (by kernel_rfl) (by kernel_rfl) (fun _ _ _ h => h) (Or.inl ⟨by rfl, ?hm12⟩) (by assumption) ?_
  case hm12 => (intro w hSw; (try dsimp only at hSw); go_simp; first | done | with_reducible rfl)
  try simp only [Act.put, List.setIfInBounds_toArray, List.set_cons_zero, List.set_cons_succ]
  refine wpAnyM_one (i := 10) (by kernel_rfl) rfl (fun K hK => ?_)
  go_simp
  go_at_call 79
  refine (HC1.out _).mono ?_
  rintro e wa ⟨rfl, rfl⟩
  go_wp2_with fail
  refine hK.out _ _ (fun _ => HSw.out _ Kd.out) (fun hHeld => ?_)
  have hHeld := hHeld (by decide)
  clear hK K
  try simp only [Act.put, List.setIfInBounds_toArray, List.set_cons_zero, List.set_cons_succ]
  refine wpAnyM_one (i := 13) (by kernel_rfl) rfl (fun K hK => ?_)
  go_simp
  go_at_call 79
  refine (HC2.out _).mono ?_
  rintro e wb ⟨rfl, rfl⟩
  go_wp2_with fail
  refine hK.out _ _ (fun _ => HSw.out _ Kd.out) (fun hHeld => ?_)
  have hHeld := hHeld (by decide)
  clear hK K
  try simp only [Act.put, List.setIfInBounds_toArray, List.set_cons_zero, List.set_cons_succ]
  refine wpAnyM_one (i := 14) (by kernel_rfl) rfl (fun K hK => ?_)
  go_simp
  refine hK.out _ _ (fun _ => HSw.out _ (Kd.out.trans ((below1 _ _).mono Kd.out.size))) (fun hHeld => ?_)
  have hHeld := hHeld (by decide)
  clear hK K
  try simp only [Act.put, List.setIfInBounds_toArray, List.set_cons_zero, List.set_cons_succ]
  refine wpAnyM_one (i := 15) (by kernel_rfl) rfl (fun K hK => ?_)
  go_simp
  go_at_call 78
  refine (or2_is HR.out (show (w1.alloc (.cells #[.int .i64 a, .int .i64 b] 3)).drew.cell? ⟨w1.heap.size, 0, none⟩ = _ from cell_new2 _ _ _ _ rfl) (show (w1.alloc (.cells #[.int .i64 a, .int .i64 b] 3)).drew.cell? ⟨w1.heap.size, 1, none⟩ = _ from cell_new2 _ _ _ _ rfl)).mono ?_
  rintro e wc ⟨rfl, rfl⟩
  go_wp2_with fail
  refine hK.out _ _ (fun _ => HSw.out _ (Kd.out.trans ((below1 _ _).mono Kd.out.size))) (fun hHeld => ?_)
  have hHeld := hHeld (by decide)
  clear hK K
  try simp only [Act.put, List.setIfInBounds_toArray, List.set_cons_zero, List.set_cons_succ]
  refine wpAnyM_one (i := 16) (by kernel_rfl) rfl (fun K hK => ?_)
  go_simp
  refine hK.out _ _ (fun h => absurd h (by decide)) (fun _ => ?_)
  clear hK K
  try simp only [Act.put, List.setIfInBounds_toArray, List.set_cons_zero, List.set_cons_succ]
  refine wpAnyM_done (by kernel_rfl) ?_ _
  go_wp2
  go_ret
  exact ⟨rfl, B1.out.trans ((Kd.out.trans ((below1 _ _).mono Kd.out.size)).mono B1.out.size)⟩

set_option linter.unusedSimpArgs false in
set_option maxRecDepth 100000 in
set_option maxHeartbeats 8000000 in
theorem HeavierIn_is {w : World} {v : Value} {O P : List Int} {zss : List (List Int)} {x y : Int} {r : Bool} (hr : heavierB O zss P x y = r) (h : GameAt w v O zss P) :
    Calls Try.prog 19 #[v, .int .i64 x, .int .i64 y] w fun e w' => e = .returned (.bool r) ∧ Below w.heap.size w w' := by
  have HGm := Lib.hid h
  obtain ⟨ao, an, ap, co, cn, cp, A, C, rfl, h1, h2, h3⟩ := h
  obtain ⟨w1, hw1⟩ : ∃ y, y = w.alloc (.cells #[.slice ao O.length co, .slice an zss.length cn, .slice ap P.length cp] 32) := ⟨_, rfl⟩
  have HW1 := Lib.hid hw1
  have B1 : Hid (Below w.heap.size w w1) := by rw [hw1]; exact below1 _ _
  have T1 : Hid (Box3 w1 w.heap.size 32 (.slice ao O.length co) (.slice an zss.length cn) (.slice ap P.length cp)) := by rw [hw1]; exact Box3.new _ _ _ _ _
  have HAt : Hid (ArenaAt w (.agg #[.slice ao O.length co, .slice an zss.length cn]) O zss) := ⟨ao, an, co, cn, A, C, rfl, h1, h2⟩
  have t0 := T1.out.c0
  have t1 := T1.out.c1
  have t2 := T1.out.c2
  have HS := Lib.hid (isSmall_is rfl (HGm.out.below B1.out))
  clear h1 h2 h3
  cases hs : smallB O zss P with
  | false =>
    rw [hs] at HS
    have HE : Hid (r = false) := by rw [← hr]; exact heavier_small hs
    clear hr hw1
    go_enter Try.func19, Try.ntmps19
    go_wp2_with fail
    rw [← HW1.out]
    go_wp2_with fail
    refine HS.out.mono ?_
    rintro e w2 ⟨rfl, hb⟩
    have B2 := Lib.hid (B1.out.trans (hb.mono B1.out.size))
    have T2 := Lib.hid (T1.out.below hb)
    clear hb HS t0 t1 t2
    have t0 := T2.out.c0
    have t1 := T2.out.c1
    have t2 := T2.out.c2
    go_wp2
    go_ret
    exact ⟨ret_bool HE.out.symm, B2.out⟩
  | true =>
    rw [hs] at HS
    obtain ⟨hlO, hl12⟩ := small_len hs
    have HLO := Lib.hid hlO
    clear hlO
    cases hx : thereB O.length x with
    | false =>
      have HX : Hid (thereB O.length x = false) := by rw [Hid]; exact hx
      have HE : Hid (r = false) := by rw [← hr]; exact heavier_x hx
      clear hr hw1
      go_enter Try.func19, Try.ntmps19
      go_wp2_with fail
      rw [← HW1.out]
      go_wp2_with fail
      refine HS.out.mono ?_
      rintro e w2 ⟨rfl, hb⟩
      have B2 := Lib.hid (B1.out.trans (hb.mono B1.out.size))
      have T2 := Lib.hid (T1.out.below hb)
      clear hb HS t0 t1 t2
      have t0 := T2.out.c0
      have t1 := T2.out.c1
      have t2 := T2.out.c2
      go_wp2_with fail
      refine (hasVertex_is HX.out (show ArenaAt w2 (.agg #[.slice ao O.length co, .slice an zss.length cn]) O zss from HAt.out.below B2.out)).mono ?_
      rintro e w3 ⟨rfl, hb⟩
      have B3 := Lib.hid (B2.out.trans (hb.mono B2.out.size))
      have T3 := Lib.hid (T2.out.below hb)
      clear hb t0 t1 t2
      have t0 := T3.out.c0
      have t1 := T3.out.c1
      have t2 := T3.out.c2
      go_wp2
      go_ret
      exact ⟨ret_bool HE.out.symm, B3.out⟩
    | true =>
      have HX : Hid (thereB O.length x = true) := by rw [Hid]; exact hx
      cases hy : thereB O.length y with
      | false =>
        have HY : Hid (thereB O.length y = false) := by rw [Hid]; exact hy
        have HE : Hid (r = false) := by rw [← hr]; exact heavier_y hy
        clear hr hw1
        go_enter Try.func19, Try.ntmps19
        go_wp2_with fail
        rw [← HW1.out]
        go_wp2_with fail
        refine HS.out.mono ?_
        rintro e w2 ⟨rfl, hb⟩
        have B2 := Lib.hid (B1.out.trans (hb.mono B1.out.size))
        have T2 := Lib.hid (T1.out.below hb)
        clear hb HS t0 t1 t2
        have t0 := T2.out.c0
        have t1 := T2.out.c1
        have t2 := T2.out.c2
        go_wp2_with fail
        refine (hasVertex_is HX.out (show ArenaAt w2 (.agg #[.slice ao O.length co, .slice an zss.length cn]) O zss from HAt.out.below B2.out)).mono ?_
        rintro e w3 ⟨rfl, hb⟩
        have B3 := Lib.hid (B2.out.trans (hb.mono B2.out.size))
        have T3 := Lib.hid (T2.out.below hb)
        clear hb t0 t1 t2
        have t0 := T3.out.c0
        have t1 := T3.out.c1
        have t2 := T3.out.c2
        go_wp2_with fail
        refine (hasVertex_is HY.out (show ArenaAt w3 (.agg #[.slice ao O.length co, .slice an zss.length cn]) O zss from HAt.out.below B3.out)).mono ?_
        rintro e w4 ⟨rfl, hb⟩
        have B4 := Lib.hid (B3.out.trans (hb.mono B3.out.size))
        have T4 := Lib.hid (T3.out.below hb)
        clear hb t0 t1 t2
        have t0 := T4.out.c0
        have t1 := T4.out.c1
        have t2 := T4.out.c2
        go_wp2
        go_ret
        exact ⟨ret_bool HE.out.symm, B4.out⟩
      | true =>
        obtain ⟨hx0, hx1⟩ := thereB_iff.1 hx
        obtain ⟨hy0, hy1⟩ := thereB_iff.1 hy
        obtain ⟨i, rfl⟩ : ∃ i : Nat, x = (i : Int) := ⟨x.toNat, by omega⟩
        obtain ⟨j, rfl⟩ : ∃ j : Nat, y = (j : Int) := ⟨y.toNat, by omega⟩
        have HY : Hid (thereB O.length (j : Int) = true) := by rw [Hid]; exact hy
        have hi : i < P.length := by have := HLO.out; omega
        have hj : j < P.length := by have := HLO.out; omega
        have HE : Hid (r = heavyB P i j) := by rw [← hr]; exact heavier_yes hs hx hy
        clear hr hw1 hx0 hx1 hy0 hy1
        go_enter Try.func19, Try.ntmps19
        go_wp2_with fail
        rw [← HW1.out]
        go_wp2_with fail
        refine HS.out.mono ?_
        rintro e w2 ⟨rfl, hb⟩
        have B2 := Lib.hid (B1.out.trans (hb.mono B1.out.size))
        have T2 := Lib.hid (T1.out.below hb)
        clear hb HS t0 t1 t2
        have t0 := T2.out.c0
        have t1 := T2.out.c1
        have t2 := T2.out.c2
        go_wp2_with fail
        refine (hasVertex_is HX.out (show ArenaAt w2 (.agg #[.slice ao O.length co, .slice an zss.length cn]) O zss from HAt.out.below B2.out)).mono ?_
        rintro e w3 ⟨rfl, hb⟩
        have B3 := Lib.hid (B2.out.trans (hb.mono B2.out.size))
        have T3 := Lib.hid (T2.out.below hb)
        clear hb t0 t1 t2
        have t0 := T3.out.c0
        have t1 := T3.out.c1
        have t2 := T3.out.c2
        go_wp2_with fail
        refine (hasVertex_is HY.out (show ArenaAt w3 (.agg #[.slice ao O.length co, .slice an zss.length cn]) O zss from HAt.out.below B3.out)).mono ?_
        rintro e w4 ⟨rfl, hb⟩
        have B4 := Lib.hid (B3.out.trans (hb.mono B3.out.size))
        have T4 := Lib.hid (T3.out.below hb)
        clear hb t0 t1 t2
        have t0 := T4.out.c0
        have t1 := T4.out.c1
        have t2 := T4.out.c2
        go_wp2_with fail
        refine (weigh_is hi hj rfl (HGm.out.below B4.out)).mono ?_
        rintro e w5 ⟨rfl, hb⟩
        have B5 := Lib.hid (B4.out.trans (hb.mono B4.out.size))
        have T5 := Lib.hid (T4.out.below hb)
        clear hb t0 t1 t2
        have t0 := T5.out.c0
        have t1 := T5.out.c1
        have t2 := T5.out.c2
        have HG := Lib.hid (weigh_pos (P := P) (x := i) (y := j))
        obtain ⟨z, hz⟩ : ∃ z, z = weighI P i j := ⟨_, rfl⟩
        rw [← hz] at HG ⊢
        clear hz
        go_wp2
        go_ret
        exact ⟨ret_bool (show _ = r by rw [HE.out, Bool.eq_iff_iff, decide_eq_true_eq]; exact HG.out), B5.out⟩
end
end Go.Proofs.Ytihaajcmephlmaa
