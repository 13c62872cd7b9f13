/-
  Contracts of the model: l10Better, BetterIn.
-/
import Derived.Test.YtihaajcmephlmaaBetterSpec
namespace Go.Proofs.Ytihaajcmephlmaa
section
open Go.RowKit Go.Shelf

set_option linter.unusedSimpArgs false in
set_option maxRecDepth 100000 in
set_option maxHeartbeats 8000000 in
theorem l10Better_is {w : World} {v u t : Value} {O P S R : List Int} {zss : List (List Int)} {i j : Nat} {y z : Int} {r : Bool} (hi : i < P.length) (hj : j < P.length) (hP : ∀ p ∈ P, 0 ≤ p ∧ p ≤ 40) (hr : betterB P i S y j R z = r) (h : GameAt w v O zss P) (hwa : WorthAt w u i S y) (hwb : WorthAt w t j R z) :
    Calls Try.prog 64 #[v, u, t] w fun e w' => e = .returned (.bool r) ∧ Below w.heap.size w w' := by
  have HGm := Lib.hid h
  obtain ⟨ao, an, ap, co, cn, cp, A, C, rfl, h1, h2, h3⟩ := h
  obtain ⟨aa, ca, rfl, ha⟩ := hwa
  obtain ⟨ab, cb, rfl, hb⟩ := hwb
  have HAa := Lib.hid ha
  have HBb := Lib.hid hb
  obtain ⟨w1, hw1⟩ : ∃ q, q = ((w.alloc (.cells #[.slice ao O.length co, .slice an zss.length cn, .slice ap P.length cp] 32)).alloc (.cells #[.int .i64 i, .slice aa S.length ca, .int .i64 y] 35)).alloc (.cells #[.int .i64 j, .slice ab R.length cb, .int .i64 z] 35) := ⟨_, rfl⟩
  have HW1 := Lib.hid hw1
  have B1 : Hid (Below w.heap.size w w1) := by rw [hw1]; exact (below2 _ _ _).alloc (by simp; omega) _
  have T1 : Hid (Box3 w1 w.heap.size 32 (.slice ao O.length co) (.slice an zss.length cn) (.slice ap P.length cp)) := by rw [hw1]; exact ((Box3.new w _ _ _ _).alloc _).alloc _
  have X1 : Hid (Box3 w1 (w.heap.size + 1) 35 (.int .i64 i) (.slice aa S.length ca) (.int .i64 y)) := by rw [hw1]; exact (Box3.new_at (by simp) _ _ _ _).alloc _
  have Y1 : Hid (Box3 w1 (w.heap.size + 1 + 1) 35 (.int .i64 j) (.slice ab R.length cb) (.int .i64 z)) := by rw [hw1]; exact Box3.new_at (by simp) _ _ _ _
  have HPp := Lib.hid hP
  have HR : Hid (betterB P i S y j R z = r) := hr
  unfold betterB at HR
  have t0 := T1.out.c0
  have t1 := T1.out.c1
  have t2 := T1.out.c2
  have x0 := X1.out.c0
  have x1 := X1.out.c1
  have x2 := X1.out.c2
  have y0 := Y1.out.c0
  have y1 := Y1.out.c1
  have y2 := Y1.out.c2
  clear h1 h2 h3 ha hb hP hr
  obtain ⟨ei, hei⟩ : ∃ b, evenB P i = b := ⟨_, rfl⟩
  obtain ⟨ej, hej⟩ : ∃ b, evenB P j = b := ⟨_, rfl⟩
  have HI := Lib.hid (fun W (hB : Below w.heap.size w W) => l10Even_is hi HPp.out hei (HGm.out.below hB))
  have HJ := Lib.hid (fun W (hB : Below w.heap.size w W) => l10Even_is hj HPp.out hej (HGm.out.below hB))
  by_cases hij : i = j
  · subst hij
    have hne : ((i : Int) != (i : Int)) = false := by simp
    rw [if_neg (fun hh => hh rfl)] at HR
    obtain ⟨x, hx⟩ : ∃ x, x = unlikeL P S R := ⟨_, rfl⟩
    have HU := Lib.hid (fun W (hB : Below w.heap.size w W) => l10Unlike_is ca cb hx.symm (HGm.out.below hB) (HAa.out.below hB) (HBb.out.below hB))
    have HX : Hid ((x = -1) ∨ ∃ u : Nat, u < P.length ∧ x = (u : Int)) := by
      rw [hx]
      rcases unlikeK_is (P := P) (A := S) (B := R) P.length with ⟨h1, _⟩ | ⟨u, h1, h2, _⟩
      · exact .inl h1
      · exact .inr ⟨u, h1, h2⟩
    rw [← hx, hei] at HR
    clear hx
    by_cases hx0 : 0 ≤ x
    · obtain ⟨u, hu, hxu⟩ : ∃ u : Nat, u < P.length ∧ x = (u : Int) := by
        rcases HX.out with h1 | h1
        · omega
        · exact h1
      subst hxu
      obtain ⟨eu, heu⟩ : ∃ b, evenB P u = b := ⟨_, rfl⟩
      obtain ⟨su, hsu⟩ : ∃ b, hasB S (u : Int) = b := ⟨_, rfl⟩
      have HE2 := Lib.hid (fun W (hB : Below w.heap.size w W) => l10Even_is hu HPp.out heu (HGm.out.below hB))
      rw [if_pos hx0, Int.toNat_natCast, heu, hsu] at HR
      clear heu
      rw [hw1] at t0 t1 t2 x0 x1 x2 y0 y1 y2
      clear hw1
      go_enter Try.func64, Try.ntmps64
      go_wp2_with fail
      rw [← HW1.out]
      go_wp2_with fail
      refine (HU.out _ B1.out).mono ?_
      rintro e w2 ⟨rfl, hb⟩
      have B2 := Lib.hid (B1.out.trans (hb.mono B1.out.size))
      have T2 := Lib.hid (T1.out.below hb)
      have X2 := Lib.hid (X1.out.below hb)
      have Y2 := Lib.hid (Y1.out.below hb)
      clear hb
      clear t0 t1 t2 x0 x1 x2 y0 y1 y2
      have t0 := T2.out.c0
      have t1 := T2.out.c1
      have t2 := T2.out.c2
      have x0 := X2.out.c0
      have x1 := X2.out.c1
      have x2 := X2.out.c2
      have y0 := Y2.out.c0
      have y1 := Y2.out.c1
      have y2 := Y2.out.c2
      go_wp2_with fail
      have Kd : Hid (Below w2.heap.size w2 w2.drew) := (Below.refl _ _).drew
      have HSw : Hid (∀ W', Below w2.heap.size w2 W' → W'.cell? ⟨w.heap.size, 0, none⟩ = some (.slice ao O.length co) ∧ W'.cell? ⟨w.heap.size, 1, none⟩ = some (.slice an zss.length cn) ∧ W'.cell? ⟨w.heap.size, 2, none⟩ = some (.slice ap P.length cp) ∧ W'.cell? ⟨w.heap.size + 1, 0, none⟩ = some (.int .i64 i) ∧ W'.cell? ⟨w.heap.size + 1, 1, none⟩ = some (.slice aa S.length ca) ∧ W'.cell? ⟨w.heap.size + 1, 2, none⟩ = some (.int .i64 y) ∧ W'.cell? ⟨w.heap.size + 1 + 1, 0, none⟩ = some (.int .i64 i) ∧ W'.cell? ⟨w.heap.size + 1 + 1, 1, none⟩ = some (.slice ab R.length cb) ∧ W'.cell? ⟨w.heap.size + 1 + 1, 2, none⟩ = some (.int .i64 z)) := fun W' hB => ⟨Below.cell_some (B := 0) hB rfl t0, Below.cell_some (B := 0) hB rfl t1, Below.cell_some (B := 0) hB rfl t2, Below.cell_some (B := 0) hB rfl x0, Below.cell_some (B := 0) hB rfl x1, Below.cell_some (B := 0) hB rfl x2, Below.cell_some (B := 0) hB rfl y0, Below.cell_some (B := 0) hB rfl y1, Below.cell_some (B := 0) hB rfl y2⟩
      clear t0 t1 t2 x0 x1 x2 y0 y1 y2
      go_wp2_with fail
      refine wp_region_M (S := (fun W' => W'.cell? ⟨w.heap.size, 0, none⟩ = some (.slice ao O.length co) ∧ W'.cell? ⟨w.heap.size, 1, none⟩ = some (.slice an zss.length cn) ∧ W'.cell? ⟨w.heap.size, 2, none⟩ = some (.slice ap P.length cp) ∧ W'.cell? ⟨w.heap.size + 1, 0, none⟩ = some (.int .i64 i) ∧ W'.cell? ⟨w.heap.size + 1, 1, none⟩ = some (.slice aa S.length ca) ∧ W'.cell? ⟨w.heap.size + 1, 2, none⟩ = some (.int .i64 y) ∧ W'.cell? ⟨w.heap.size + 1 + 1, 0, none⟩ = some (.int .i64 i) ∧ W'.cell? ⟨w.heap.size + 1 + 1, 1, none⟩ = some (.slice ab R.length cb) ∧ W'.cell? ⟨w.heap.size + 1 + 1, 2, none⟩ = some (.int .i64 z))) (m := 9) (by kernel_rfl) (HSw.out _ Kd.out) (fun hHeld => ?_)
      refine wpAnyM_take (i := 0) (v := ?vm13) rfl (by kernel_rfl) (by decide) (by kernel_rfl) (by kernel_rfl) (by kernel_rfl) (fun _ _ _ h => h) (Or.inl ⟨by rfl, ?hm13⟩) (by assumption) ?_
      case hm13 => (intro w hSw; (try dsimp only at hSw); go_simp; first | done | with_reducible rfl)
      try simp only [Act.put, List.getElem_toArray, List.getElem_cons_succ, List.getElem_cons_zero, List.setIfInBounds_toArray, List.set_cons_zero, List.set_cons_succ]
      refine wpAnyM_take (i := 1) (v := ?vm14) rfl (by kernel_rfl) (by decide) (by kernel_rfl) (by kernel_rfl) (by kernel_rfl) (fun _ _ _ h => h) (Or.inl ⟨by rfl, ?hm14⟩) (by assumption) ?_
      case hm14 => (intro w hSw; (try dsimp only at hSw); go_simp; first | done | with_reducible rfl)
      try simp only [Act.put, List.getElem_toArray, List.getElem_cons_succ, List.getElem_cons_zero, List.setIfInBounds_toArray, List.set_cons_zero, List.set_cons_succ]
      refine wpAnyM_take (i := 2) (v := ?vm15) rfl (by kernel_rfl) (by decide) (by kernel_rfl) (by kernel_rfl) (by kernel_rfl) (fun _ _ _ h => h) (Or.inl ⟨by rfl, ?hm15⟩) (by assumption) ?_
      case hm15 => (intro w hSw; (try dsimp only at hSw); go_simp; first | done | with_reducible rfl)
      try simp only [Act.put, List.getElem_toArray, List.getElem_cons_succ, List.getElem_cons_zero, List.setIfInBounds_toArray, List.set_cons_zero, List.set_cons_succ]
      refine wpAnyM_take (i := 4) (v := ?vm16) rfl (by kernel_rfl) (by decide) (by kernel_rfl) (by kernel_rfl) (by kernel_rfl) (fun _ _ _ h => h) (Or.inl ⟨by rfl, ?hm16⟩) (by assumption) ?_
      case hm16 => (intro w hSw; (try dsimp only at hSw); go_simp; first | done | with_reducible rfl)
      try simp only [Act.put, List.getElem_toArray, List.getElem_cons_succ, List.getElem_cons_zero, List.setIfInBounds_toArray, List.set_cons_zero, List.set_cons_succ]
      refine wpAnyM_take (i := 5) (v := ?vm17) rfl (by kernel_rfl) (by decide) (by kernel_rfl) (by kernel_rfl) (by kernel_rfl) (fun _ _ _ h => h) (Or.inl ⟨by rfl, ?hm17⟩) (by assumption) ?_
      case hm17 => (intro w hSw; (try dsimp only at hSw); go_simp; first | done | with_reducible rfl)
      try simp only [Act.put, List.getElem_toArray, List.getElem_cons_succ, List.getElem_cons_zero, List.setIfInBounds_toArray, List.set_cons_zero, List.set_cons_succ]
      refine wpAnyM_one (i := 3) (by kernel_rfl) rfl (fun K hK => ?_)
      go_simp
      go_at_call 98
      refine (l7HasIn_is hsu ca (HAa.out.below (B2.out.trans (Kd.out.mono B2.out.size)))).mono ?_
      rintro e vs ⟨rfl, rfl⟩
      go_wp2_with fail
      refine hK.out _ _ (fun _ => HSw.out _ Kd.out) (fun hHeld => ?_)
      have hHeld := hHeld (by decide)
      clear hK K
      try simp only [Act.put, List.getElem_toArray, List.getElem_cons_succ, List.getElem_cons_zero, List.setIfInBounds_toArray, List.set_cons_zero, List.set_cons_succ]
      refine wpAnyM_one (i := 6) (by kernel_rfl) rfl (fun K hK => ?_)
      go_simp
      go_at_call 96
      refine (HE2.out _ (B2.out.trans (Kd.out.mono B2.out.size))).mono ?_
      rintro e vq ⟨rfl, hb⟩
      have Kq := Lib.hid (Kd.out.trans (hb.mono Kd.out.size))
      clear hb
      go_wp2_with fail
      refine hK.out _ _ (fun _ => HSw.out _ Kq.out) (fun hHeld => ?_)
      have hHeld := hHeld (by decide)
      clear hK K
      try simp only [Act.put, List.getElem_toArray, List.getElem_cons_succ, List.getElem_cons_zero, List.setIfInBounds_toArray, List.set_cons_zero, List.set_cons_succ]
      refine wpAnyM_take (i := 7) (v := ?vm18) rfl (by kernel_rfl) (by decide) (by kernel_rfl) (by kernel_rfl) (by kernel_rfl) (fun _ _ _ h => h) (Or.inl ⟨by rfl, ?hm18⟩) (by assumption) ?_
      case hm18 => (intro w hSw; (try dsimp only at hSw); go_simp; first | done | with_reducible rfl)
      try simp only [Act.put, List.getElem_toArray, List.getElem_cons_succ, List.getElem_cons_zero, List.setIfInBounds_toArray, List.set_cons_zero, List.set_cons_succ]
      refine wpAnyM_one (i := 8) (by kernel_rfl) rfl (fun K hK => ?_)
      go_simp
      refine hK.out _ _ (fun _ => HSw.out _ Kq.out) (fun hHeld => ?_)
      have hHeld := hHeld (by decide)
      clear hK K
      try simp only [Act.put, List.getElem_toArray, List.getElem_cons_succ, List.getElem_cons_zero, List.setIfInBounds_toArray, List.set_cons_zero, List.set_cons_succ]
      refine wpAnyM_done (by kernel_rfl) ?_ _
      go_wp2
      go_ret
      exact ⟨ret_bool HR.out, B2.out.trans (Kq.out.mono B2.out.size)⟩
    · rw [if_neg hx0] at HR
      cases ei with
      | true =>
        rw [if_pos rfl] at HR
        rw [hw1] at t0 t1 t2 x0 x1 x2 y0 y1 y2
        clear hw1
        go_enter Try.func64, Try.ntmps64
        go_wp2_with fail
        rw [← HW1.out]
        go_wp2_with fail
        refine (HU.out _ B1.out).mono ?_
        rintro e w2 ⟨rfl, hb⟩
        have B2 := Lib.hid (B1.out.trans (hb.mono B1.out.size))
        have T2 := Lib.hid (T1.out.below hb)
        have X2 := Lib.hid (X1.out.below hb)
        have Y2 := Lib.hid (Y1.out.below hb)
        clear hb
        clear t0 t1 t2 x0 x1 x2 y0 y1 y2
        have t0 := T2.out.c0
        have t1 := T2.out.c1
        have t2 := T2.out.c2
        have x0 := X2.out.c0
        have x1 := X2.out.c1
        have x2 := X2.out.c2
        have y0 := Y2.out.c0
        have y1 := Y2.out.c1
        have y2 := Y2.out.c2
        go_wp2_with fail
        refine (HI.out _ B2.out).mono ?_
        rintro e w3 ⟨rfl, hb⟩
        have B3 := Lib.hid (B2.out.trans (hb.mono B2.out.size))
        have T3 := Lib.hid (T2.out.below hb)
        have X3 := Lib.hid (X2.out.below hb)
        have Y3 := Lib.hid (Y2.out.below hb)
        clear hb
        clear t0 t1 t2 x0 x1 x2 y0 y1 y2
        have t0 := T3.out.c0
        have t1 := T3.out.c1
        have t2 := T3.out.c2
        have x0 := X3.out.c0
        have x1 := X3.out.c1
        have x2 := X3.out.c2
        have y0 := Y3.out.c0
        have y1 := Y3.out.c1
        have y2 := Y3.out.c2
        go_wp2
        go_ret
        exact ⟨ret_bool HR.out, B3.out⟩
      | false =>
        rw [if_neg (by decide)] at HR
        rw [hw1] at t0 t1 t2 x0 x1 x2 y0 y1 y2
        clear hw1
        go_enter Try.func64, Try.ntmps64
        go_wp2_with fail
        rw [← HW1.out]
        go_wp2_with fail
        refine (HU.out _ B1.out).mono ?_
        rintro e w2 ⟨rfl, hb⟩
        have B2 := Lib.hid (B1.out.trans (hb.mono B1.out.size))
        have T2 := Lib.hid (T1.out.below hb)
        have X2 := Lib.hid (X1.out.below hb)
        have Y2 := Lib.hid (Y1.out.below hb)
        clear hb
        clear t0 t1 t2 x0 x1 x2 y0 y1 y2
        have t0 := T2.out.c0
        have t1 := T2.out.c1
        have t2 := T2.out.c2
        have x0 := X2.out.c0
        have x1 := X2.out.c1
        have x2 := X2.out.c2
        have y0 := Y2.out.c0
        have y1 := Y2.out.c1
        have y2 := Y2.out.c2
        go_wp2_with fail
        refine (HI.out _ B2.out).mono ?_
        rintro e w3 ⟨rfl, hb⟩
        have B3 := Lib.hid (B2.out.trans (hb.mono B2.out.size))
        have T3 := Lib.hid (T2.out.below hb)
        have X3 := Lib.hid (X2.out.below hb)
        have Y3 := Lib.hid (Y2.out.below hb)
        clear hb
        clear t0 t1 t2 x0 x1 x2 y0 y1 y2
        have t0 := T3.out.c0
        have t1 := T3.out.c1
        have t2 := T3.out.c2
        have x0 := X3.out.c0
        have x1 := X3.out.c1
        have x2 := X3.out.c2
        have y0 := Y3.out.c0
        have y1 := Y3.out.c1
        have y2 := Y3.out.c2
        go_wp2
        go_ret
        exact ⟨ret_bool HR.out, B3.out⟩
  · have hne : ((i : Int) != (j : Int)) = true := by simp; omega
    rw [if_pos hij, hei, hej] at HR
    obtain ⟨c, hc⟩ : ∃ c, heavyB P i j = c := ⟨_, rfl⟩
    have HV := Lib.hid (fun W (hB : Below w.heap.size w W) => l10Heavier_is hi hj hc (HGm.out.below hB))
    rw [hc] at HR
    clear hij
    have t0' := t0
    have x0' := x0
    have y0' := y0
    rw [hw1] at x0' y0'
    clear hw1 t0'
    go_enter Try.func64, Try.ntmps64
    go_wp2_with fail
    rw [← HW1.out]
    clear x0' y0'
    have Kd : Hid (Below w1.heap.size w1 w1.drew) := (Below.refl _ _).drew
    have HSw : Hid (∀ W', Below w1.heap.size w1 W' → W'.cell? ⟨w.heap.size, 0, none⟩ = some (.slice ao O.length co) ∧ W'.cell? ⟨w.heap.size, 1, none⟩ = some (.slice an zss.length cn) ∧ W'.cell? ⟨w.heap.size, 2, none⟩ = some (.slice ap P.length cp) ∧ W'.cell? ⟨w.heap.size + 1, 0, none⟩ = some (.int .i64 i) ∧ W'.cell? ⟨w.heap.size + 1, 1, none⟩ = some (.slice aa S.length ca) ∧ W'.cell? ⟨w.heap.size + 1, 2, none⟩ = some (.int .i64 y) ∧ W'.cell? ⟨w.heap.size + 1 + 1, 0, none⟩ = some (.int .i64 j) ∧ W'.cell? ⟨w.heap.size + 1 + 1, 1, none⟩ = some (.slice ab R.length cb) ∧ W'.cell? ⟨w.heap.size + 1 + 1, 2, none⟩ = some (.int .i64 z)) := fun W' hB => ⟨Below.cell_some (B := 0) hB rfl t0, Below.cell_some (B := 0) hB rfl t1, Below.cell_some (B := 0) hB rfl t2, Below.cell_some (B := 0) hB rfl x0, Below.cell_some (B := 0) hB rfl x1, Below.cell_some (B := 0) hB rfl x2, Below.cell_some (B := 0) hB rfl y0, Below.cell_some (B := 0) hB rfl y1, Below.cell_some (B := 0) hB rfl y2⟩
    clear t0 t1 t2 x0 x1 x2 y0 y1 y2
    refine wp_region_M (S := (fun W' => W'.cell? ⟨w.heap.size, 0, none⟩ = some (.slice ao O.length co) ∧ W'.cell? ⟨w.heap.size, 1, none⟩ = some (.slice an zss.length cn) ∧ W'.cell? ⟨w.heap.size, 2, none⟩ = some (.slice ap P.length cp) ∧ W'.cell? ⟨w.heap.size + 1, 0, none⟩ = some (.int .i64 i) ∧ W'.cell? ⟨w.heap.size + 1, 1, none⟩ = some (.slice aa S.length ca) ∧ W'.cell? ⟨w.heap.size + 1, 2, none⟩ = some (.int .i64 y) ∧ W'.cell? ⟨w.heap.size + 1 + 1, 0, none⟩ = some (.int .i64 j) ∧ W'.cell? ⟨w.heap.size + 1 + 1, 1, none⟩ = some (.slice ab R.length cb) ∧ W'.cell? ⟨w.heap.size + 1 + 1, 2, none⟩ = some (.int .i64 z))) (m := 9) (by kernel_rfl) (HSw.out _ Kd.out) (fun hHeld => ?_)
    refine wpAnyM_take (i := 0) (v := ?vm19) rfl (by kernel_rfl) (by decide) (by kernel_rfl) (by kernel_rfl) (by kernel_rfl) (fun _ _ _ h => h) (Or.inl ⟨by rfl, ?hm19⟩) (by assumption) ?_
    case hm19 => (intro w hSw; (try dsimp only at hSw); go_simp; first | done | with_reducible rfl)
    try simp only [Act.put, List.getElem_toArray, List.getElem_cons_succ, List.getElem_cons_zero, List.setIfInBounds_toArray, List.set_cons_zero, List.set_cons_succ]
    refine wpAnyM_take (i := 1) (v := ?vm20) rfl (by kernel_rfl) (by decide) (by kernel_rfl) (by kernel_rfl) (by kernel_rfl) (fun _ _ _ h => h) (Or.inl ⟨by rfl, ?hm20⟩) (by assumption) ?_
    case hm20 => (intro w hSw; (try dsimp only at hSw); go_simp; first | done | with_reducible rfl)
    try simp only [Act.put, List.getElem_toArray, List.getElem_cons_succ, List.getElem_cons_zero, List.setIfInBounds_toArray, List.set_cons_zero, List.set_cons_succ]
    refine wpAnyM_take (i := 2) (v := ?vm21) rfl (by kernel_rfl) (by decide) (by kernel_rfl) (by kernel_rfl) (by kernel_rfl) (fun _ _ _ h => h) (Or.inl ⟨by rfl, ?hm21⟩) (by assumption) ?_
    case hm21 => (intro w hSw; (try dsimp only at hSw); go_simp; first | done | with_reducible rfl)
    try simp only [Act.put, List.getElem_toArray, List.getElem_cons_succ, List.getElem_cons_zero, List.setIfInBounds_toArray, List.set_cons_zero, List.set_cons_succ]
    refine wpAnyM_take (i := 4) (v := ?vm22) rfl (by kernel_rfl) (by decide) (by kernel_rfl) (by kernel_rfl) (by kernel_rfl) (fun _ _ _ h => h) (Or.inl ⟨by rfl, ?hm22⟩) (by assumption) ?_
    case hm22 => (intro w hSw; (try dsimp only at hSw); go_simp; first | done | with_reducible rfl)
    try simp only [Act.put, List.getElem_toArray, List.getElem_cons_succ, List.getElem_cons_zero, List.setIfInBounds_toArray, List.set_cons_zero, List.set_cons_succ]
    refine wpAnyM_take (i := 5) (v := ?vm23) rfl (by kernel_rfl) (by decide) (by kernel_rfl) (by kernel_rfl) (by kernel_rfl) (fun _ _ _ h => h) (Or.inl ⟨by rfl, ?hm23⟩) (by assumption) ?_
    case hm23 => (intro w hSw; (try dsimp only at hSw); go_simp; first | done | with_reducible rfl)
    try simp only [Act.put, List.getElem_toArray, List.getElem_cons_succ, List.getElem_cons_zero, List.setIfInBounds_toArray, List.set_cons_zero, List.set_cons_succ]
    refine wpAnyM_take (i := 6) (v := ?vm24) rfl (by kernel_rfl) (by decide) (by kernel_rfl) (by kernel_rfl) (by kernel_rfl) (fun _ _ _ h => h) (Or.inl ⟨by rfl, ?hm24⟩) (by assumption) ?_
    case hm24 => (intro w hSw; (try dsimp only at hSw); go_simp; first | done | with_reducible rfl)
    try simp only [Act.put, List.getElem_toArray, List.getElem_cons_succ, List.getElem_cons_zero, List.setIfInBounds_toArray, List.set_cons_zero, List.set_cons_succ]
    refine wpAnyM_one (i := 3) (by kernel_rfl) rfl (fun K hK => ?_)
    go_simp
    go_at_call 96
    refine (HI.out _ (B1.out.trans (Kd.out.mono B1.out.size))).mono ?_
    rintro e vp ⟨rfl, hb⟩
    have Kp := Lib.hid (Kd.out.trans (hb.mono Kd.out.size))
    clear hb
    go_wp2_with fail
    refine hK.out _ _ (fun _ => HSw.out _ Kp.out) (fun hHeld => ?_)
    have hHeld := hHeld (by decide)
    clear hK K
    try simp only [Act.put, List.getElem_toArray, List.getElem_cons_succ, List.getElem_cons_zero, List.setIfInBounds_toArray, List.set_cons_zero, List.set_cons_succ]
    refine wpAnyM_one (i := 7) (by kernel_rfl) rfl (fun K hK => ?_)
    go_simp
    go_at_call 96
    refine (HJ.out _ (B1.out.trans (Kp.out.mono B1.out.size))).mono ?_
    rintro e vq ⟨rfl, hb⟩
    have Kq := Lib.hid (Kp.out.trans (hb.mono Kp.out.size))
    clear hb
    go_wp2_with fail
    refine hK.out _ _ (fun _ => HSw.out _ Kq.out) (fun hHeld => ?_)
    have hHeld := hHeld (by decide)
    clear hK K
    try simp only [Act.put, List.getElem_toArray, List.getElem_cons_succ, List.getElem_cons_zero, List.setIfInBounds_toArray, List.set_cons_zero, List.set_cons_succ]
    refine wpAnyM_take (i := 8) (v := ?vm25) rfl (by kernel_rfl) (by decide) (by kernel_rfl) (by kernel_rfl) (by kernel_rfl) (fun _ _ _ h => h) (Or.inl ⟨by rfl, ?hm25⟩) (by assumption) ?_
    case hm25 => (intro w hSw; (try dsimp only at hSw); go_simp; first | done | with_reducible rfl)
    try simp only [Act.put, List.getElem_toArray, List.getElem_cons_succ, List.getElem_cons_zero, List.setIfInBounds_toArray, List.set_cons_zero, List.set_cons_succ]
    refine wpAnyM_done (by kernel_rfl) ?_ _
    have B2 := Lib.hid (B1.out.trans (Kq.out.mono B1.out.size))
    have T2 := Lib.hid (T1.out.below Kq.out)
    have X2 := Lib.hid (X1.out.below Kq.out)
    have Y2 := Lib.hid (Y1.out.below Kq.out)
    have t0 := T2.out.c0
    have t1 := T2.out.c1
    have t2 := T2.out.c2
    have x0 := X2.out.c0
    have x1 := X2.out.c1
    have x2 := X2.out.c2
    have y0 := Y2.out.c0
    have y1 := Y2.out.c1
    have y2 := Y2.out.c2
    cases ei with
    | true =>
      cases ej with
      | true =>
        rw [if_neg (by decide)] at HR
        go_wp2_with fail
        have Ke : Hid (Below vq.heap.size vq vq.drew) := (Below.refl _ _).drew
        have HSv : Hid (∀ W', Below vq.heap.size vq W' → W'.cell? ⟨w.heap.size, 0, none⟩ = some (.slice ao O.length co) ∧ W'.cell? ⟨w.heap.size, 1, none⟩ = some (.slice an zss.length cn) ∧ W'.cell? ⟨w.heap.size, 2, none⟩ = some (.slice ap P.length cp) ∧ W'.cell? ⟨w.heap.size + 1, 0, none⟩ = some (.int .i64 i) ∧ W'.cell? ⟨w.heap.size + 1, 1, none⟩ = some (.slice aa S.length ca) ∧ W'.cell? ⟨w.heap.size + 1, 2, none⟩ = some (.int .i64 y) ∧ W'.cell? ⟨w.heap.size + 1 + 1, 0, none⟩ = some (.int .i64 j) ∧ W'.cell? ⟨w.heap.size + 1 + 1, 1, none⟩ = some (.slice ab R.length cb) ∧ W'.cell? ⟨w.heap.size + 1 + 1, 2, none⟩ = some (.int .i64 z)) := fun W' hB => ⟨Below.cell_some (B := 0) hB rfl t0, Below.cell_some (B := 0) hB rfl t1, Below.cell_some (B := 0) hB rfl t2, Below.cell_some (B := 0) hB rfl x0, Below.cell_some (B := 0) hB rfl x1, Below.cell_some (B := 0) hB rfl x2, Below.cell_some (B := 0) hB rfl y0, Below.cell_some (B := 0) hB rfl y1, Below.cell_some (B := 0) hB rfl y2⟩
        clear t0 t1 t2 x0 x1 x2 y0 y1 y2
        go_wp2_with fail
        refine wp_region_M (S := (fun W' => W'.cell? ⟨w.heap.size, 0, none⟩ = some (.slice ao O.length co) ∧ W'.cell? ⟨w.heap.size, 1, none⟩ = some (.slice an zss.length cn) ∧ W'.cell? ⟨w.heap.size, 2, none⟩ = some (.slice ap P.length cp) ∧ W'.cell? ⟨w.heap.size + 1, 0, none⟩ = some (.int .i64 i) ∧ W'.cell? ⟨w.heap.size + 1, 1, none⟩ = some (.slice aa S.length ca) ∧ W'.cell? ⟨w.heap.size + 1, 2, none⟩ = some (.int .i64 y) ∧ W'.cell? ⟨w.heap.size + 1 + 1, 0, none⟩ = some (.int .i64 j) ∧ W'.cell? ⟨w.heap.size + 1 + 1, 1, none⟩ = some (.slice ab R.length cb) ∧ W'.cell? ⟨w.heap.size + 1 + 1, 2, none⟩ = some (.int .i64 z))) (m := 12) (by kernel_rfl) (HSv.out _ Ke.out) (fun hHeld => ?_)
        refine wpAnyM_take (i := 0) (v := ?vm26) rfl (by kernel_rfl) (by decide) (by kernel_rfl) (by kernel_rfl) (by kernel_rfl) (fun _ _ _ h => h) (Or.inl ⟨by rfl, ?hm26⟩) (by assumption) ?_
        case hm26 => (intro w hSw; (try dsimp only at hSw); go_simp; first | done | with_reducible rfl)
        try simp only [Act.put, List.getElem_toArray, List.getElem_cons_succ, List.getElem_cons_zero, List.setIfInBounds_toArray, List.set_cons_zero, List.set_cons_succ]
        refine wpAnyM_take (i := 1) (v := ?vm27) rfl (by kernel_rfl) (by decide) (by kernel_rfl) (by kernel_rfl) (by kernel_rfl) (fun _ _ _ h => h) (Or.inl ⟨by rfl, ?hm27⟩) (by assumption) ?_
        case hm27 => (intro w hSw; (try dsimp only at hSw); go_simp; first | done | with_reducible rfl)
        try simp only [Act.put, List.getElem_toArray, List.getElem_cons_succ, List.getElem_cons_zero, List.setIfInBounds_toArray, List.set_cons_zero, List.set_cons_succ]
        refine wpAnyM_take (i := 2) (v := ?vm28) rfl (by kernel_rfl) (by decide) (by kernel_rfl) (by kernel_rfl) (by kernel_rfl) (fun _ _ _ h => h) (Or.inl ⟨by rfl, ?hm28⟩) (by assumption) ?_
        case hm28 => (intro w hSw; (try dsimp only at hSw); go_simp; first | done | with_reducible rfl)
        try simp only [Act.put, List.getElem_toArray, List.getElem_cons_succ, List.getElem_cons_zero, List.setIfInBounds_toArray, List.set_cons_zero, List.set_cons_succ]
        refine wpAnyM_take (i := 3) (v := ?vm29) rfl (by kernel_rfl) (by decide) (by kernel_rfl) (by kernel_rfl) (by kernel_rfl) (fun _ _ _ h => h) (Or.inl ⟨by rfl, ?hm29⟩) (by assumption) ?_
        case hm29 => (intro w hSw; (try dsimp only at hSw); go_simp; first | done | with_reducible rfl)
        try simp only [Act.put, List.getElem_toArray, List.getElem_cons_succ, List.getElem_cons_zero, List.setIfInBounds_toArray, List.set_cons_zero, List.set_cons_succ]
        refine wpAnyM_take (i := 4) (v := ?vm30) rfl (by kernel_rfl) (by decide) (by kernel_rfl) (by kernel_rfl) (by kernel_rfl) (fun _ _ _ h => h) (Or.inl ⟨by rfl, ?hm30⟩) (by assumption) ?_
        case hm30 => (intro w hSw; (try dsimp only at hSw); go_simp; first | done | with_reducible rfl)
        try simp only [Act.put, List.getElem_toArray, List.getElem_cons_succ, List.getElem_cons_zero, List.setIfInBounds_toArray, List.set_cons_zero, List.set_cons_succ]
        refine wpAnyM_take (i := 6) (v := ?vm31) rfl (by kernel_rfl) (by decide) (by kernel_rfl) (by kernel_rfl) (by kernel_rfl) (fun _ _ _ h => h) (Or.inl ⟨by rfl, ?hm31⟩) (by assumption) ?_
        case hm31 => (intro w hSw; (try dsimp only at hSw); go_simp; first | done | with_reducible rfl)
        try simp only [Act.put, List.getElem_toArray, List.getElem_cons_succ, List.getElem_cons_zero, List.setIfInBounds_toArray, List.set_cons_zero, List.set_cons_succ]
        refine wpAnyM_take (i := 7) (v := ?vm32) rfl (by kernel_rfl) (by decide) (by kernel_rfl) (by kernel_rfl) (by kernel_rfl) (fun _ _ _ h => h) (Or.inl ⟨by rfl, ?hm32⟩) (by assumption) ?_
        case hm32 => (intro w hSw; (try dsimp only at hSw); go_simp; first | done | with_reducible rfl)
        try simp only [Act.put, List.getElem_toArray, List.getElem_cons_succ, List.getElem_cons_zero, List.setIfInBounds_toArray, List.set_cons_zero, List.set_cons_succ]
        refine wpAnyM_take (i := 8) (v := ?vm33) rfl (by kernel_rfl) (by decide) (by kernel_rfl) (by kernel_rfl) (by kernel_rfl) (fun _ _ _ h => h) (Or.inl ⟨by rfl, ?hm33⟩) (by assumption) ?_
        case hm33 => (intro w hSw; (try dsimp only at hSw); go_simp; first | done | with_reducible rfl)
        try simp only [Act.put, List.getElem_toArray, List.getElem_cons_succ, List.getElem_cons_zero, List.setIfInBounds_toArray, List.set_cons_zero, List.set_cons_succ]
        refine wpAnyM_one (i := 5) (by kernel_rfl) rfl (fun K hK => ?_)
        go_simp
        go_at_call 46
        refine (HV.out _ (B2.out.trans (Ke.out.mono B2.out.size))).mono ?_
        rintro e vf ⟨rfl, hb⟩
        have Kf := Lib.hid (Ke.out.trans (hb.mono Ke.out.size))
        clear hb
        go_wp2_with fail
        refine hK.out _ _ (fun _ => HSv.out _ Kf.out) (fun hHeld => ?_)
        have hHeld := hHeld (by decide)
        clear hK K
        try simp only [Act.put, List.getElem_toArray, List.getElem_cons_succ, List.getElem_cons_zero, List.setIfInBounds_toArray, List.set_cons_zero, List.set_cons_succ]
        refine wpAnyM_one (i := 9) (by kernel_rfl) rfl (fun K hK => ?_)
        go_simp
        go_at_call 96
        refine (HI.out _ (B2.out.trans (Kf.out.mono B2.out.size))).mono ?_
        rintro e vg ⟨rfl, hb⟩
        have Kg := Lib.hid (Kf.out.trans (hb.mono Kf.out.size))
        clear hb
        go_wp2_with fail
        refine hK.out _ _ (fun _ => HSv.out _ Kg.out) (fun hHeld => ?_)
        have hHeld := hHeld (by decide)
        clear hK K
        try simp only [Act.put, List.getElem_toArray, List.getElem_cons_succ, List.getElem_cons_zero, List.setIfInBounds_toArray, List.set_cons_zero, List.set_cons_succ]
        refine wpAnyM_take (i := 10) (v := ?vm34) rfl (by kernel_rfl) (by decide) (by kernel_rfl) (by kernel_rfl) (by kernel_rfl) (fun _ _ _ h => h) (Or.inl ⟨by rfl, ?hm34⟩) (by assumption) ?_
        case hm34 => (intro w hSw; (try dsimp only at hSw); go_simp; first | done | with_reducible rfl)
        try simp only [Act.put, List.getElem_toArray, List.getElem_cons_succ, List.getElem_cons_zero, List.setIfInBounds_toArray, List.set_cons_zero, List.set_cons_succ]
        refine wpAnyM_one (i := 11) (by kernel_rfl) rfl (fun K hK => ?_)
        go_simp
        refine hK.out _ _ (fun _ => HSv.out _ Kg.out) (fun hHeld => ?_)
        have hHeld := hHeld (by decide)
        clear hK K
        try simp only [Act.put, List.getElem_toArray, List.getElem_cons_succ, List.getElem_cons_zero, List.setIfInBounds_toArray, List.set_cons_zero, List.set_cons_succ]
        refine wpAnyM_done (by kernel_rfl) ?_ _
        go_wp2
        go_ret
        exact ⟨ret_bool (by rw [← HR.out]; cases c <;> rfl), B2.out.trans (Kg.out.mono B2.out.size)⟩
      | false =>
        rw [if_pos (by decide)] at HR
        go_wp2_with fail
        refine (HI.out _ B2.out).mono ?_
        rintro e w3 ⟨rfl, hb⟩
        have B3 := Lib.hid (B2.out.trans (hb.mono B2.out.size))
        clear hb
        go_wp2
        go_ret
        exact ⟨ret_bool HR.out, B3.out⟩
    | false =>
      cases ej with
      | true =>
        rw [if_pos (by decide)] at HR
        go_wp2_with fail
        refine (HI.out _ B2.out).mono ?_
        rintro e w3 ⟨rfl, hb⟩
        have B3 := Lib.hid (B2.out.trans (hb.mono B2.out.size))
        clear hb
        go_wp2
        go_ret
        exact ⟨ret_bool HR.out, B3.out⟩
      | false =>
        rw [if_neg (by decide)] at HR
        go_wp2_with fail
        have Ke : Hid (Below vq.heap.size vq vq.drew) := (Below.refl _ _).drew
        have HSv : Hid (∀ W', Below vq.heap.size vq W' → W'.cell? ⟨w.heap.size, 0, none⟩ = some (.slice ao O.length co) ∧ W'.cell? ⟨w.heap.size, 1, none⟩ = some (.slice an zss.length cn) ∧ W'.cell? ⟨w.heap.size, 2, none⟩ = some (.slice ap P.length cp) ∧ W'.cell? ⟨w.heap.size + 1, 0, none⟩ = some (.int .i64 i) ∧ W'.cell? ⟨w.heap.size + 1, 1, none⟩ = some (.slice aa S.length ca) ∧ W'.cell? ⟨w.heap.size + 1, 2, none⟩ = some (.int .i64 y) ∧ W'.cell? ⟨w.heap.size + 1 + 1, 0, none⟩ = some (.int .i64 j) ∧ W'.cell? ⟨w.heap.size + 1 + 1, 1, none⟩ = some (.slice ab R.length cb) ∧ W'.cell? ⟨w.heap.size + 1 + 1, 2, none⟩ = some (.int .i64 z)) := fun W' hB => ⟨Below.cell_some (B := 0) hB rfl t0, Below.cell_some (B := 0) hB rfl t1, Below.cell_some (B := 0) hB rfl t2, Below.cell_some (B := 0) hB rfl x0, Below.cell_some (B := 0) hB rfl x1, Below.cell_some (B := 0) hB rfl x2, Below.cell_some (B := 0) hB rfl y0, Below.cell_some (B := 0) hB rfl y1, Below.cell_some (B := 0) hB rfl y2⟩
        clear t0 t1 t2 x0 x1 x2 y0 y1 y2
        go_wp2_with fail
        refine wp_region_M (S := (fun W' => W'.cell? ⟨w.heap.size, 0, none⟩ = some (.slice ao O.length co) ∧ W'.cell? ⟨w.heap.size, 1, none⟩ = some (.slice an zss.length cn) ∧ W'.cell? ⟨w.heap.size, 2, none⟩ = some (.slice ap P.length cp) ∧ W'.cell? ⟨w.heap.size + 1, 0, none⟩ = some (.int .i64 i) ∧ W'.cell? ⟨w.heap.size + 1, 1, none⟩ = some (.slice aa S.length ca) ∧ W'.cell? ⟨w.heap.size + 1, 2, none⟩ = some (.int .i64 y) ∧ W'.cell? ⟨w.heap.size + 1 + 1, 0, none⟩ = some (.int .i64 j) ∧ W'.cell? ⟨w.heap.size + 1 + 1, 1, none⟩ = some (.slice ab R.length cb) ∧ W'.cell? ⟨w.heap.size + 1 + 1, 2, none⟩ = some (.int .i64 z))) (m := 12) (by kernel_rfl) (HSv.out _ Ke.out) (fun hHeld => ?_)
        refine wpAnyM_take (i := 0) (v := ?vm35) rfl (by kernel_rfl) (by decide) (by kernel_rfl) (by kernel_rfl) (by kernel_rfl) (fun _ _ _ h => h) (Or.inl ⟨by rfl, ?hm35⟩) (by assumption) ?_
        case hm35 => (intro w hSw; (try dsimp only at hSw); go_simp; first | done | with_reducible rfl)
        try simp only [Act.put, List.getElem_toArray, List.getElem_cons_succ, List.getElem_cons_zero, List.setIfInBounds_toArray, List.set_cons_zero, List.set_cons_succ]
        refine wpAnyM_take (i := 1) (v := ?vm36) rfl (by kernel_rfl) (by decide) (by kernel_rfl) (by kernel_rfl) (by kernel_rfl) (fun _ _ _ h => h) (Or.inl ⟨by rfl, ?hm36⟩) (by assumption) ?_
        case hm36 => (intro w hSw; (try dsimp only at hSw); go_simp; first | done | with_reducible rfl)
        try simp only [Act.put, List.getElem_toArray, List.getElem_cons_succ, List.getElem_cons_zero, List.setIfInBounds_toArray, List.set_cons_zero, List.set_cons_succ]
        refine wpAnyM_take (i := 2) (v := ?vm37) rfl (by kernel_rfl) (by decide) (by kernel_rfl) (by kernel_rfl) (by kernel_rfl) (fun _ _ _ h => h) (Or.inl ⟨by rfl, ?hm37⟩) (by assumption) ?_
        case hm37 => (intro w hSw; (try dsimp only at hSw); go_simp; first | done | with_reducible rfl)
        try simp only [Act.put, List.getElem_toArray, List.getElem_cons_succ, List.getElem_cons_zero, List.setIfInBounds_toArray, List.set_cons_zero, List.set_cons_succ]
        refine wpAnyM_take (i := 3) (v := ?vm38) rfl (by kernel_rfl) (by decide) (by kernel_rfl) (by kernel_rfl) (by kernel_rfl) (fun _ _ _ h => h) (Or.inl ⟨by rfl, ?hm38⟩) (by assumption) ?_
        case hm38 => (intro w hSw; (try dsimp only at hSw); go_simp; first | done | with_reducible rfl)
        try simp only [Act.put, List.getElem_toArray, List.getElem_cons_succ, List.getElem_cons_zero, List.setIfInBounds_toArray, List.set_cons_zero, List.set_cons_succ]
        refine wpAnyM_take (i := 4) (v := ?vm39) rfl (by kernel_rfl) (by decide) (by kernel_rfl) (by kernel_rfl) (by kernel_rfl) (fun _ _ _ h => h) (Or.inl ⟨by rfl, ?hm39⟩) (by assumption) ?_
        case hm39 => (intro w hSw; (try dsimp only at hSw); go_simp; first | done | with_reducible rfl)
        try simp only [Act.put, List.getElem_toArray, List.getElem_cons_succ, List.getElem_cons_zero, List.setIfInBounds_toArray, List.set_cons_zero, List.set_cons_succ]
        refine wpAnyM_take (i := 6) (v := ?vm40) rfl (by kernel_rfl) (by decide) (by kernel_rfl) (by kernel_rfl) (by kernel_rfl) (fun _ _ _ h => h) (Or.inl ⟨by rfl, ?hm40⟩) (by assumption) ?_
        case hm40 => (intro w hSw; (try dsimp only at hSw); go_simp; first | done | with_reducible rfl)
        try simp only [Act.put, List.getElem_toArray, List.getElem_cons_succ, List.getElem_cons_zero, List.setIfInBounds_toArray, List.set_cons_zero, List.set_cons_succ]
        refine wpAnyM_take (i := 7) (v := ?vm41) rfl (by kernel_rfl) (by decide) (by kernel_rfl) (by kernel_rfl) (by kernel_rfl) (fun _ _ _ h => h) (Or.inl ⟨by rfl, ?hm41⟩) (by assumption) ?_
        case hm41 => (intro w hSw; (try dsimp only at hSw); go_simp; first | done | with_reducible rfl)
        try simp only [Act.put, List.getElem_toArray, List.getElem_cons_succ, List.getElem_cons_zero, List.setIfInBounds_toArray, List.set_cons_zero, List.set_cons_succ]
        refine wpAnyM_take (i := 8) (v := ?vm42) rfl (by kernel_rfl) (by decide) (by kernel_rfl) (by kernel_rfl) (by kernel_rfl) (fun _ _ _ h => h) (Or.inl ⟨by rfl, ?hm42⟩) (by assumption) ?_
        case hm42 => (intro w hSw; (try dsimp only at hSw); go_simp; first | done | with_reducible rfl)
        try simp only [Act.put, List.getElem_toArray, List.getElem_cons_succ, List.getElem_cons_zero, List.setIfInBounds_toArray, List.set_cons_zero, List.set_cons_succ]
        refine wpAnyM_one (i := 5) (by kernel_rfl) rfl (fun K hK => ?_)
        go_simp
        go_at_call 46
        refine (HV.out _ (B2.out.trans (Ke.out.mono B2.out.size))).mono ?_
        rintro e vf ⟨rfl, hb⟩
        have Kf := Lib.hid (Ke.out.trans (hb.mono Ke.out.size))
        clear hb
        go_wp2_with fail
        refine hK.out _ _ (fun _ => HSv.out _ Kf.out) (fun hHeld => ?_)
        have hHeld := hHeld (by decide)
        clear hK K
        try simp only [Act.put, List.getElem_toArray, List.getElem_cons_succ, List.getElem_cons_zero, List.setIfInBounds_toArray, List.set_cons_zero, List.set_cons_succ]
        refine wpAnyM_one (i := 9) (by kernel_rfl) rfl (fun K hK => ?_)
        go_simp
        go_at_call 96
        refine (HI.out _ (B2.out.trans (Kf.out.mono B2.out.size))).mono ?_
        rintro e vg ⟨rfl, hb⟩
        have Kg := Lib.hid (Kf.out.trans (hb.mono Kf.out.size))
        clear hb
        go_wp2_with fail
        refine hK.out _ _ (fun _ => HSv.out _ Kg.out) (fun hHeld => ?_)
        have hHeld := hHeld (by decide)
        clear hK K
        try simp only [Act.put, List.getElem_toArray, List.getElem_cons_succ, List.getElem_cons_zero, List.setIfInBounds_toArray, List.set_cons_zero, List.set_cons_succ]
        refine wpAnyM_take (i := 10) (v := ?vm43) rfl (by kernel_rfl) (by decide) (by kernel_rfl) (by kernel_rfl) (by kernel_rfl) (fun _ _ _ h => h) (Or.inl ⟨by rfl, ?hm43⟩) (by assumption) ?_
        case hm43 => (intro w hSw; (try dsimp only at hSw); go_simp; first | done | with_reducible rfl)
        try simp only [Act.put, List.getElem_toArray, List.getElem_cons_succ, List.getElem_cons_zero, List.setIfInBounds_toArray, List.set_cons_zero, List.set_cons_succ]
        refine wpAnyM_one (i := 11) (by kernel_rfl) rfl (fun K hK => ?_)
        go_simp
        refine hK.out _ _ (fun _ => HSv.out _ Kg.out) (fun hHeld => ?_)
        have hHeld := hHeld (by decide)
        clear hK K
        try simp only [Act.put, List.getElem_toArray, List.getElem_cons_succ, List.getElem_cons_zero, List.setIfInBounds_toArray, List.set_cons_zero, List.set_cons_succ]
        refine wpAnyM_done (by kernel_rfl) ?_ _
        go_wp2
        go_ret
        exact ⟨ret_bool (by rw [← HR.out]; cases c <;> rfl), B2.out.trans (Kg.out.mono B2.out.size)⟩

theorem betterIn_a {O P S R : List Int} {zss : List (List Int)} {h g y z : Int} (hw : worthB O zss P h S y = false) : betterInB O zss P h S y g R z = false := by unfold betterInB; rw [hw]; rfl
theorem betterIn_b {O P S R : List Int} {zss : List (List Int)} {h g y z : Int} (hw : worthB O zss P g R z = false) : betterInB O zss P h S y g R z = false := by unfold betterInB; rw [hw]; simp
theorem betterIn_yes {O P S R : List Int} {zss : List (List Int)} {h g : Nat} {y z : Int} (hw : worthB O zss P h S y = true) (hw2 : worthB O zss P g R z = true) : betterInB O zss P h S y g R z = betterB P h S y g R z := by
  unfold betterInB
  rw [hw, hw2]
  simp
theorem worth_parts {O P S : List Int} {zss : List (List Int)} {h y : Int} (hw : worthB O zss P h S y = true) : ∃ i : Nat, h = (i : Int) ∧ i < P.length ∧ (∀ p ∈ P, 0 ≤ p ∧ p ≤ 40) := by
  obtain ⟨hs, hh, _⟩ := worth_iff.1 hw
  have h1 := thereB_iff.1 hh
  have h2 := (small_len hs).1
  exact ⟨h.toNat, by omega, by omega, (parityB_iff.1 (smallB_iff.1 hs).2).2.2⟩

set_option linter.unusedSimpArgs false in
set_option maxRecDepth 100000 in
set_option maxHeartbeats 8000000 in
theorem specBetterIn_is {w : World} {v u t : Value} {O P S R : List Int} {zss : List (List Int)} {h0 h1 y z : Int} {r : Bool} (hr : betterInB O zss P h0 S y h1 R z = r) (h : GameAt w v O zss P) (hwa : WorthAt w u h0 S y) (hwb : WorthAt w t h1 R z) :
    Calls Try.prog 34 #[v, u, t] w fun e w' => e = .returned (.bool r) ∧ Below w.heap.size w w' := by
  have HUa := Lib.hid hwa
  have HTb := Lib.hid hwb
  have HGm := Lib.hid h
  obtain ⟨ao, an, ap, co, cn, cp, A, C, rfl, g1, g2, g3⟩ := h
  obtain ⟨aa, ca, rfl, ha⟩ := hwa
  obtain ⟨ab, cb, rfl, hb⟩ := hwb
  have HAa := Lib.hid ha
  have HBb := Lib.hid hb
  obtain ⟨w1, hw1⟩ : ∃ q, q = ((w.alloc (.cells #[.slice ao O.length co, .slice an zss.length cn, .slice ap P.length cp] 32)).alloc (.cells #[.int .i64 h0, .slice aa S.length ca, .int .i64 y] 35)).alloc (.cells #[.int .i64 h1, .slice ab R.length cb, .int .i64 z] 35) := ⟨_, rfl⟩
  have HW1 := Lib.hid hw1
  have B1 : Hid (Below w.heap.size w w1) := by rw [hw1]; exact (below2 _ _ _).alloc (by simp; omega) _
  have T1 : Hid (Box3 w1 w.heap.size 32 (.slice ao O.length co) (.slice an zss.length cn) (.slice ap P.length cp)) := by rw [hw1]; exact ((Box3.new w _ _ _ _).alloc _).alloc _
  have X1 : Hid (Box3 w1 (w.heap.size + 1) 35 (.int .i64 h0) (.slice aa S.length ca) (.int .i64 y)) := by rw [hw1]; exact (Box3.new_at (by simp) _ _ _ _).alloc _
  have Y1 : Hid (Box3 w1 (w.heap.size + 1 + 1) 35 (.int .i64 h1) (.slice ab R.length cb) (.int .i64 z)) := by rw [hw1]; exact Box3.new_at (by simp) _ _ _ _
  have t0 := T1.out.c0
  have t1 := T1.out.c1
  have t2 := T1.out.c2
  have x0 := X1.out.c0
  have x1 := X1.out.c1
  have x2 := X1.out.c2
  have y0 := Y1.out.c0
  have y1 := Y1.out.c1
  have y2 := Y1.out.c2
  clear g1 g2 g3 ha hb
  have t0' := t0
  rw [hw1] at t0 t1 t2 x0 x1 x2 y0 y1 y2
  clear hw1 t0'
  cases hA : worthB O zss P h0 S y with
  | false =>
    have HE : Hid (r = false) := by rw [← hr]; exact betterIn_a hA
    clear hr
    go_enter Try.func34, Try.ntmps34
    go_wp2_with fail
    rw [← HW1.out]
    refine (specWorthOk_is hA (HGm.out.below B1.out) (HUa.out.below B1.out)).mono ?_
    rintro e w2 ⟨rfl, hb⟩
    have B2 := Lib.hid (B1.out.trans (hb.mono B1.out.size))
    have T2 := Lib.hid (T1.out.below hb)
    have X2 := Lib.hid (X1.out.below hb)
    have Y2 := Lib.hid (Y1.out.below hb)
    clear hb
    clear t0 t1 t2 x0 x1 x2 y0 y1 y2
    have t0 := T2.out.c0
    have t1 := T2.out.c1
    have t2 := T2.out.c2
    have x0 := X2.out.c0
    have x1 := X2.out.c1
    have x2 := X2.out.c2
    have y0 := Y2.out.c0
    have y1 := Y2.out.c1
    have y2 := Y2.out.c2
    go_wp2
    go_ret
    exact ⟨ret_bool HE.out.symm, B2.out⟩
  | true =>
    cases hB : worthB O zss P h1 R z with
    | false =>
      have HE : Hid (r = false) := by rw [← hr]; exact betterIn_b hB
      clear hr
      go_enter Try.func34, Try.ntmps34
      go_wp2_with fail
      rw [← HW1.out]
      refine (specWorthOk_is hA (HGm.out.below B1.out) (HUa.out.below B1.out)).mono ?_
      rintro e w2 ⟨rfl, hb⟩
      have B2 := Lib.hid (B1.out.trans (hb.mono B1.out.size))
      have T2 := Lib.hid (T1.out.below hb)
      have X2 := Lib.hid (X1.out.below hb)
      have Y2 := Lib.hid (Y1.out.below hb)
      clear hb
      clear t0 t1 t2 x0 x1 x2 y0 y1 y2
      have t0 := T2.out.c0
      have t1 := T2.out.c1
      have t2 := T2.out.c2
      have x0 := X2.out.c0
      have x1 := X2.out.c1
      have x2 := X2.out.c2
      have y0 := Y2.out.c0
      have y1 := Y2.out.c1
      have y2 := Y2.out.c2
      go_wp2_with fail
      refine (specWorthOk_is hB (HGm.out.below B2.out) (HTb.out.below B2.out)).mono ?_
      rintro e w3 ⟨rfl, hb⟩
      have B3 := Lib.hid (B2.out.trans (hb.mono B2.out.size))
      have T3 := Lib.hid (T2.out.below hb)
      have X3 := Lib.hid (X2.out.below hb)
      have Y3 := Lib.hid (Y2.out.below hb)
      clear hb
      clear t0 t1 t2 x0 x1 x2 y0 y1 y2
      have t0 := T3.out.c0
      have t1 := T3.out.c1
      have t2 := T3.out.c2
      have x0 := X3.out.c0
      have x1 := X3.out.c1
      have x2 := X3.out.c2
      have y0 := Y3.out.c0
      have y1 := Y3.out.c1
      have y2 := Y3.out.c2
      go_wp2
      go_ret
      exact ⟨ret_bool HE.out.symm, B3.out⟩
    | true =>
      obtain ⟨i, rfl, hi, hP⟩ := worth_parts hA
      obtain ⟨j, rfl, hj, _⟩ := worth_parts hB
      have HPp := Lib.hid hP
      have HR : Hid (betterB P i S y j R z = r) := by rw [← hr]; exact (betterIn_yes hA hB).symm
      clear hr hP
      go_enter Try.func34, Try.ntmps34
      go_wp2_with fail
      rw [← HW1.out]
      refine (specWorthOk_is hA (HGm.out.below B1.out) (HUa.out.below B1.out)).mono ?_
      rintro e w2 ⟨rfl, hb⟩
      have B2 := Lib.hid (B1.out.trans (hb.mono B1.out.size))
      have T2 := Lib.hid (T1.out.below hb)
      have X2 := Lib.hid (X1.out.below hb)
      have Y2 := Lib.hid (Y1.out.below hb)
      clear hb
      clear t0 t1 t2 x0 x1 x2 y0 y1 y2
      have t0 := T2.out.c0
      have t1 := T2.out.c1
      have t2 := T2.out.c2
      have x0 := X2.out.c0
      have x1 := X2.out.c1
      have x2 := X2.out.c2
      have y0 := Y2.out.c0
      have y1 := Y2.out.c1
      have y2 := Y2.out.c2
      go_wp2_with fail
      refine (specWorthOk_is hB (HGm.out.below B2.out) (HTb.out.below B2.out)).mono ?_
      rintro e w3 ⟨rfl, hb⟩
      have B3 := Lib.hid (B2.out.trans (hb.mono B2.out.size))
      have T3 := Lib.hid (T2.out.below hb)
      have X3 := Lib.hid (X2.out.below hb)
      have Y3 := Lib.hid (Y2.out.below hb)
      clear hb
      clear t0 t1 t2 x0 x1 x2 y0 y1 y2
      have t0 := T3.out.c0
      have t1 := T3.out.c1
      have t2 := T3.out.c2
      have x0 := X3.out.c0
      have x1 := X3.out.c1
      have x2 := X3.out.c2
      have y0 := Y3.out.c0
      have y1 := Y3.out.c1
      have y2 := Y3.out.c2
      go_wp2_with fail
      refine (l10Better_is hi hj HPp.out HR.out (HGm.out.below B3.out) (HUa.out.below B3.out) (HTb.out.below B3.out)).mono ?_
      rintro e w4 ⟨rfl, hb⟩
      have B4 := Lib.hid (B3.out.trans (hb.mono B3.out.size))
      have T4 := Lib.hid (T3.out.below hb)
      have X4 := Lib.hid (X3.out.below hb)
      have Y4 := Lib.hid (Y3.out.below hb)
      clear hb
      clear t0 t1 t2 x0 x1 x2 y0 y1 y2
      go_wp2
      go_ret
      exact ⟨rfl, B4.out⟩
end
end Go.Proofs.Ytihaajcmephlmaa
