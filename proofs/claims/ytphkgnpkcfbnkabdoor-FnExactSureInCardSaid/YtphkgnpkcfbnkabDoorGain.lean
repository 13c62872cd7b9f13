/-
  Contract: gain, given the contract of solve for the part it asks for.
-/
import Derived.Test.YtphkgnpkcfbnkabDoorPk15
namespace Go.Proofs.YtphkgnpkcfbnkabDoor
section
open Go.RowKit Go.Shelf
attribute [local go_sem] Oper.semAt_some

theorem memo_ne_tab {w : World} {kb : Nat} {Q : (Nat → Bool) → Value → Prop} (hM : MemoAt w kb Q) (hT : TabW w) : kb ≠ 1 := fun e => by
  obtain ⟨es, c, h, _⟩ := hM
  have h1 := hT 0 (by omega)
  rw [← e] at h1
  simp [World.cell?, h] at h1

theorem results_tmp_row {P : Program} {fn : Func} {q p : Tmp} {ty : TypeId} (h : fn.results = #[.tmp q, .cell p ty]) (tmps : Array Value) (w : World) (g : Nat) (t : TypeId) (cs : Array Value) (fr : Nat × Nat) (d : TypeDesc)
    (hp : tmps.getD p undef = .pointer (some ⟨g, 0, none⟩)) (hg : w.heap[g]? = some (.cells cs t fr))
    (hu : P.underlying ty = some d) (hd : (match d with | .struct _ | .array _ _ => true | _ => false) = true) (hi : (P.info? ty).map (·.size) = some cs.size) :
    (results fn tmps).run P w = .ok (.tuple #[tmps.getD q undef, .agg cs]) w := by
  have hp' : tmps[p]?.getD undef = .pointer (some ⟨g, 0, none⟩) := by simpa using hp
  simp [results, h, hp', asAddr, run_loadVar_row w g t ty cs fr d hg hu hd hi]

/-- A function whose results are a number and a mask's variable. -/
theorem ret_num_mask {fn : Func} {q p : Tmp} {tmps : Array Value} {W : World} {g : Nat} {K : Nat → Bool} {R : Ending → World → Prop} (hr : fn.results = #[.tmp q, .cell p 67]) (hp : tmps.getD p undef = .pointer (some ⟨g, 0, none⟩))
    (hM : MaskAt W g K) (hR : R (.returned (.tuple #[tmps.getD q undef, maskV K])) W) : bodyPost Tryd.prog fn R .ret { tmps := tmps, defers := [] } W :=
  bodyPost_ret (v := .tuple #[tmps.getD q undef, maskV K]) (results_tmp_row hr tmps _ g _ _ _ (.array 4 65) hp hM (by kernel_rfl) rfl (by kernel_rfl)) rfl hR

/-- What is kept for a part: its winners. -/
def OutQ (zss : List (List Int)) (O : List Int) (p : Nat → Int) (J : Nat → Bool) (u : Value) : Prop := u = outcV (outB zss O p J 0) (outB zss O p J 1)

theorem run_index0 (w : World) (I J : Nat → Bool) : (Instr.index 69 (outcV I J) (.int .i64 (IntKind.i64.wrap 0))).run Tryd.prog w = .ok (maskV I) w := by
  have h : ∀ a b c d e f g h : Value, (Instr.index 69 (.agg #[a, b, c, d, e, f, g, h]) (.int .i64 (IntKind.i64.wrap 0))).run Tryd.prog w = .ok (.agg #[a, b, c, d]) w := fun a b c d e f g h => by kernel_rfl
  exact h _ _ _ _ _ _ _ _
theorem run_index1 (w : World) (I J : Nat → Bool) : (Instr.index 69 (outcV I J) (.int .i64 (IntKind.i64.wrap 1))).run Tryd.prog w = .ok (maskV J) w := by
  have h : ∀ a b c d e f g h : Value, (Instr.index 69 (.agg #[a, b, c, d, e, f, g, h]) (.int .i64 (IntKind.i64.wrap 1))).run Tryd.prog w = .ok (.agg #[e, f, g, h]) w := fun a b c d e f g h => by kernel_rfl
  exact h _ _ _ _ _ _ _ _

theorem only_swap {w X : World} {kb : Nat} {o o' : Obj} (h : Only (fun k => k = kb ∨ w.heap.size ≤ k) w (X.alloc o)) (hg : w.heap.size ≤ X.heap.size) : Only (fun k => k = kb ∨ w.heap.size ≤ k) w (X.alloc o') :=
  ⟨h.os, h.tape, h.output, Nat.le_trans h.size (by simp), fun i hi hk => ((below1 X o').block i (by omega)).trans (((below1 X o).block i (by omega)).symm.trans (h.block i hi hk))⟩
theorem memo_swap {X : World} {kb : Nat} {Q : (Nat → Bool) → Value → Prop} {o o' : Obj} (h : MemoAt (X.alloc o) kb Q) (hg : kb < X.heap.size) : MemoAt (X.alloc o') kb Q := by
  obtain ⟨es, c, h1, h2⟩ := h
  exact ⟨es, c, ((below1 X o').block kb hg).trans (((below1 X o).block kb hg).symm.trans h1), h2⟩

/-- solve is right at a part. -/
def SolveAt (zss : List (List Int)) (O : List Int) (p : Nat → Int) (b n nb pb kb : Nat) (Ow Lv E Pd : Nat → Nat → Bool) (J : Nat → Bool) : Prop :=
  ∀ w, TabW w → RecAt w b n nb pb kb Ow Lv E Pd → MemoAt w kb (OutQ zss O p) →
    Calls Tryd.prog 103 #[.pointer (some ⟨b, 0, none⟩), maskV J] w fun e w' => e = .returned (outcV (outB zss O p J 0) (outB zss O p J 1)) ∧ Only (fun k => k = kb ∨ w.heap.size ≤ k) w w' ∧ MemoAt w' kb (OutQ zss O p)


set_option linter.unusedSimpArgs false in
set_option maxRecDepth 100000 in
set_option maxHeartbeats 8000000 in
theorem gain0_is {w : World} {b n nb pb kb top : Nat} {Ow Lv E Pd : Nat → Nat → Bool} {zss : List (List Int)} {O : List Int} {p : Nat → Int} {S T : Nat → Bool} (hT : TabW w) (hR : RecAt w b n nb pb kb Ow Lv E Pd) (hM : MemoAt w kb (OutQ zss O p)) (hG : GameE zss O n Ow E Pd) (htop : top < 1000) (hij : top % 2 = 0)
    (hS : ∀ v, S v = true → v < n) (hTS : ∀ v, T v = true → S v = true) (hsol : SolveAt zss O p b n nb pb kb Ow Lv E Pd (lessB S (attrB zss O 0 S T))) {r : Bool} (hr : noneB (outB zss O p (lessB S (attrB zss O 0 S T)) 1) = r) :
    Calls Tryd.prog 134 #[.pointer (some ⟨b, 0, none⟩), maskV S, .int .i64 (top : Int), maskV T] w fun e w' => e = .returned (.tuple #[.int .i64 (cond r 0 1), maskV (cond r S (outB zss O p (lessB S (attrB zss O 0 S T)) 1))]) ∧ Only (fun k => k = kb ∨ w.heap.size ≤ k) w w' ∧ MemoAt w' kb (OutQ zss O p) := by
  have hkt := memo_ne_tab hM hT
  have HTS := Lib.hid hTS
  have HSOL := Lib.hid hsol
  have HM := Lib.hid hM
  have HKW : Hid (kb < w.heap.size) := hM.lt
  have HEnv : Hid (∀ W', Only (fun k => k = kb ∨ w.heap.size ≤ k) w W' → TabW W' ∧ RecAt W' b n nb pb kb Ow Lv E Pd) := fun W' ho =>
    ⟨hT.only ho (by have := hT.lt; omega), hR.only ho (by have := hR.lt; have := hR.apart; omega) (by have := hR.lt; have := hR.apart; omega) (by have := hR.lt; have := hR.apart; omega)⟩
  have HA : Hid (∀ W', TabW W' → RecAt W' b n nb pb kb Ow Lv E Pd → Calls Tryd.prog 135 #[.pointer (some ⟨b, 0, none⟩), .int .i64 0, maskV S, maskV T] W' fun e w' => e = .returned (maskV (attrB zss O 0 S T)) ∧ Below W'.heap.size W' w') := fun W' a b' => attract_is (i := 0) a b' hG (by omega) hS hTS
  obtain ⟨D, hD⟩ : ∃ D, attrB zss O 0 S T = D := ⟨_, rfl⟩
  rw [hD] at HA HSOL hr ⊢
  obtain ⟨L, hL⟩ : ∃ L, outB zss O p (lessB S D) 1 = L := ⟨_, rfl⟩
  obtain ⟨M, hMM⟩ : ∃ M, outB zss O p (lessB S D) 0 = M := ⟨_, rfl⟩
  unfold SolveAt at HSOL
  rw [hL] at HSOL hr ⊢
  rw [hMM] at HSOL
  have HRR := Lib.hid hr
  have eI : ((top : Int) % 2) = 0 := by omega
  clear hT hR hG hS hTS hsol hM hr hkt hij hD hL hMM
  go_enter Tryd.func134, Tryd.ntmps134
  go_wp2_with fail
  simp only [eI]
  obtain ⟨w1, hw1⟩ : ∃ y, y = (((w.alloc (.cells #[.int .u64 (maskW S 0), .int .u64 (maskW S 1), .int .u64 (maskW S 2), .int .u64 (maskW S 3)] 67)).alloc (.cells #[.int .u64 (maskW T 0), .int .u64 (maskW T 1), .int .u64 (maskW T 2), .int .u64 (maskW T 3)] 67)).alloc (.cells #[.int .u64 0, .int .u64 0, .int .u64 0, .int .u64 0] 67)) := ⟨_, rfl⟩
  rw [← hw1]
  have HB : Hid (Below w.heap.size w w1) := by
    rw [hw1]
    exact (((Below.refl _ _).alloc (Nat.le_refl _) _).alloc (by simp) _).alloc (by simp; omega) _
  have bS : Hid (MaskAt w1 (w.heap.size) S) := by
    rw [hw1]; exact ((mask_new_at S _ (by simp)).below (below1 _ _)).below (below1 _ _)
  have bT : Hid (MaskAt w1 (w.heap.size + 1) T) := by
    rw [hw1]; exact (mask_new_at T _ (by simp)).below (below1 _ _)
  have bR : Hid (MaskAt w1 (w.heap.size + 1 + 1) (fun _ => false)) := by
    rw [hw1, mask_zero]; exact mask_new_at _ _ (by simp)
  have HS1 : Hid (w1.heap.size = w.heap.size + 3) := by rw [hw1]; simp [Hid]
  clear hw1
  have HM1 := Lib.hid (HM.out.below HB.out)
  have HSw : Hid (∀ W', Only (fun k => k = kb ∨ w1.heap.size ≤ k) w1 W' → W'.cell? ⟨w.heap.size, 0, none⟩ = some (.int .u64 (maskW S 0)) ∧ W'.cell? ⟨w.heap.size, 1, none⟩ = some (.int .u64 (maskW S 1)) ∧ W'.cell? ⟨w.heap.size, 2, none⟩ = some (.int .u64 (maskW S 2)) ∧ W'.cell? ⟨w.heap.size, 3, none⟩ = some (.int .u64 (maskW S 3)) ∧ W'.cell? ⟨w.heap.size + 1, 0, none⟩ = some (.int .u64 (maskW T 0)) ∧ W'.cell? ⟨w.heap.size + 1, 1, none⟩ = some (.int .u64 (maskW T 1)) ∧ W'.cell? ⟨w.heap.size + 1, 2, none⟩ = some (.int .u64 (maskW T 2)) ∧ W'.cell? ⟨w.heap.size + 1, 3, none⟩ = some (.int .u64 (maskW T 3))) := fun W' ho => by
    have h1 := HS1.out
    have h2 := HKW.out
    have m1 := bS.out.only ho (by omega)
    have m2 := bT.out.only ho (by omega)
    exact ⟨m1.c0, m1.c1, m1.c2, m1.c3, m2.c0, m2.c1, m2.c2, m2.c3⟩
  have Kd : Hid (Only (fun k => k = kb ∨ w1.heap.size ≤ k) w1 w1.drew) := only_drew (Only.refl _ _)
  have Md : Hid (MemoAt w1.drew kb (OutQ zss O p)) := HM1.out.below (Below.refl _ _).drew
  have HE1 : Hid (∀ W', Only (fun k => k = kb ∨ w1.heap.size ≤ k) w1 W' → TabW W' ∧ RecAt W' b n nb pb kb Ow Lv E Pd) := fun W' ho => HEnv.out _ ((Only.of_below HB.out |>.mono fun k hk => by exact hk).trans (ho.mono fun k hk => by have := HS1.out; omega))
  refine wp_cut (fun a' wx => ∃ (gL : Nat) (u13 u14 u15 u16 u17 u18 u19 u20 u21 u22 u23 u24 : Value), (w1.heap.size ≤ gL ∧ Hid (MaskAt wx gL L) ∧ Hid (Only (fun k => k = kb ∨ w1.heap.size ≤ k) w1 wx) ∧ Hid (MemoAt wx kb (OutQ zss O p))) ∧ a' = { tmps := #[.pointer (some ⟨b, 0, none⟩), maskV S, .int .i64 (top : Int), maskV T, undef, .pointer (some ⟨w.heap.size, 0, none⟩), undef, .pointer (some ⟨w.heap.size + 1, 0, none⟩), .int .i64 0, .pointer (some ⟨w.heap.size + 1 + 1, 0, none⟩), .pointer (some ⟨gL, 0, none⟩), .int .i64 (top : Int), .int .i64 0, u13, u14, u15, u16, u17, u18, u19, u20, u21, u22, u23, u24, undef, undef, undef, undef, undef, undef, undef], defers := [] }) ?reg2 ?rest2
  case reg2 =>
    refine wp_region_M (S := (fun W' => W'.cell? ⟨w.heap.size, 0, none⟩ = some (.int .u64 (maskW S 0)) ∧ W'.cell? ⟨w.heap.size, 1, none⟩ = some (.int .u64 (maskW S 1)) ∧ W'.cell? ⟨w.heap.size, 2, none⟩ = some (.int .u64 (maskW S 2)) ∧ W'.cell? ⟨w.heap.size, 3, none⟩ = some (.int .u64 (maskW S 3)) ∧ W'.cell? ⟨w.heap.size + 1, 0, none⟩ = some (.int .u64 (maskW T 0)) ∧ W'.cell? ⟨w.heap.size + 1, 1, none⟩ = some (.int .u64 (maskW T 1)) ∧ W'.cell? ⟨w.heap.size + 1, 2, none⟩ = some (.int .u64 (maskW T 2)) ∧ W'.cell? ⟨w.heap.size + 1, 3, none⟩ = some (.int .u64 (maskW T 3)))) (m := 13) (by kernel_rfl) (HSw.out _ Kd.out) (fun hHeld => ?_)
    refine wpAnyM_take (i := 0) (v := ?vm1) rfl (by kernel_rfl) (by decide) (by kernel_rfl) (by kernel_rfl) (by kernel_rfl) (fun _ _ _ h => h) (Or.inl ⟨by rfl, ?hm1⟩) (by assumption) ?_
    case hm1 => (intro w hSw; (try dsimp only at hSw); go_simp; first | done | with_reducible rfl)
    try simp only [Act.put, List.setIfInBounds_toArray, List.set_cons_zero, List.set_cons_succ]
    refine wpAnyM_take (i := 1) (v := ?vm2) rfl (by kernel_rfl) (by decide) (by kernel_rfl) (by kernel_rfl) (by kernel_rfl) (fun _ _ _ h => h) (Or.inl ⟨by rfl, ?hm2⟩) (by assumption) ?_
    case hm2 => (intro w hSw; (try dsimp only at hSw); go_simp; first | done | with_reducible rfl)
    try simp only [Act.put, List.setIfInBounds_toArray, List.set_cons_zero, List.set_cons_succ]
    refine wpAnyM_take (i := 2) (v := ?vm3) rfl (by kernel_rfl) (by decide) (by kernel_rfl) (by kernel_rfl) (by kernel_rfl) (fun _ _ _ h => h) (Or.inl ⟨by rfl, ?hm3⟩) (by assumption) ?_
    case hm3 => (intro w hSw; (try dsimp only at hSw); go_simp; first | done | with_reducible rfl)
    try simp only [Act.put, List.setIfInBounds_toArray, List.set_cons_zero, List.set_cons_succ]
    refine wpAnyM_take (i := 3) (v := ?vm4) rfl (by kernel_rfl) (by decide) (by kernel_rfl) (by kernel_rfl) (by kernel_rfl) (fun _ _ _ h => h) (Or.inl ⟨by rfl, ?hm4⟩) (by assumption) ?_
    case hm4 => (intro w hSw; (try dsimp only at hSw); go_simp; first | done | with_reducible rfl)
    try simp only [Act.put, List.setIfInBounds_toArray, List.set_cons_zero, List.set_cons_succ]
    refine wpAnyM_take (i := 4) (v := ?vm5) rfl (by kernel_rfl) (by decide) (by kernel_rfl) (by kernel_rfl) (by kernel_rfl) (fun _ _ _ h => h) (Or.inl ⟨by rfl, ?hm5⟩) (by assumption) ?_
    case hm5 => (intro w hSw; (try dsimp only at hSw); go_simp; first | done | with_reducible rfl)
    try simp only [Act.put, List.setIfInBounds_toArray, List.set_cons_zero, List.set_cons_succ]
    refine wpAnyM_take (i := 5) (v := ?vm6) rfl (by kernel_rfl) (by decide) (by kernel_rfl) (by kernel_rfl) (by kernel_rfl) (fun _ _ _ h => h) (Or.inl ⟨by rfl, ?hm6⟩) (by assumption) ?_
    case hm6 => (intro w hSw; (try dsimp only at hSw); go_simp; first | done | with_reducible rfl)
    try simp only [Act.put, List.setIfInBounds_toArray, List.set_cons_zero, List.set_cons_succ]
    refine wpAnyM_take (i := 9) (v := ?vm7) rfl (by kernel_rfl) (by decide) (by kernel_rfl) (by kernel_rfl) (by kernel_rfl) (fun _ _ _ h => h) (Or.inl ⟨by rfl, ?hm7⟩) (by assumption) ?_
    case hm7 => (intro w hSw; (try dsimp only at hSw); go_simp; first | done | with_reducible rfl)
    try simp only [Act.put, List.setIfInBounds_toArray, List.set_cons_zero, List.set_cons_succ]
    refine wpAnyM_take (i := 10) (v := ?vm8) rfl (by kernel_rfl) (by decide) (by kernel_rfl) (by kernel_rfl) (by kernel_rfl) (fun _ _ _ h => h) (Or.inl ⟨by rfl, ?hm8⟩) (by assumption) ?_
    case hm8 => (intro w hSw; (try dsimp only at hSw); go_simp; first | done | with_reducible rfl)
    try simp only [Act.put, List.setIfInBounds_toArray, List.set_cons_zero, List.set_cons_succ]
    refine wpAnyM_two (i := 6) (j := 12) (by kernel_rfl) rfl rfl (fun K hK => ?_) (fun K hK => ?_)
    · skip
      go_simp
      go_at_call 135
      refine (HA.out _ (HE1.out _ Kd.out).1 (HE1.out _ Kd.out).2).mono ?_
      rintro e wx1 ⟨rfl, hb⟩
      have Kx1 := Lib.hid (Kd.out.trans (Only.of_below hb))
      have Mx1 := Lib.hid (Md.out.below hb)
      clear hb
      go_wp2_with fail
      refine hK.out _ _ (fun _ => HSw.out _ Kx1.out) (fun hHeld => ?_)
      have hHeld := hHeld (by decide)
      clear hK K
      try simp only [Act.put, List.setIfInBounds_toArray, List.set_cons_zero, List.set_cons_succ]
      refine wpAnyM_two (i := 7) (j := 12) (by kernel_rfl) rfl rfl (fun K hK => ?_) (fun K hK => ?_)
      · skip
        go_simp
        go_at_call 136
        refine (mask_less _ _).mono ?_
        rintro e wx2 ⟨rfl, hb⟩
        have Kx2 := Lib.hid (Kx1.out.trans (Only.of_below hb))
        have Mx2 := Lib.hid (Mx1.out.below hb)
        clear hb
        go_wp2_with fail
        refine hK.out _ _ (fun _ => HSw.out _ Kx2.out) (fun hHeld => ?_)
        have hHeld := hHeld (by decide)
        clear hK K
        try simp only [Act.put, List.setIfInBounds_toArray, List.set_cons_zero, List.set_cons_succ]
        refine wpAnyM_two (i := 8) (j := 12) (by kernel_rfl) rfl rfl (fun K hK => ?_) (fun K hK => ?_)
        · skip
          go_simp
          go_at_call 103
          refine (HSOL.out _ (HE1.out _ Kx2.out).1 (HE1.out _ Kx2.out).2 Mx2.out).mono ?_
          rintro e wx3 ⟨rfl, hb, hmm⟩
          have Kx3 : Hid (Only (fun k => k = kb ∨ w1.heap.size ≤ k) w1 wx3) := Kx2.out.trans (hb.mono fun k hk => by have := Kx2.out.size; omega)
          have Mx3 := Lib.hid hmm
          clear hb hmm
          go_wp2_with fail
          refine hK.out _ _ (fun _ => HSw.out _ Kx3.out) (fun hHeld => ?_)
          have hHeld := hHeld (by decide)
          clear hK K
          try simp only [Act.put, List.setIfInBounds_toArray, List.set_cons_zero, List.set_cons_succ]
          refine wpAnyM_take (i := 11) (v := ?vm9) rfl (by kernel_rfl) (by decide) (by kernel_rfl) (by kernel_rfl) (by kernel_rfl) (fun _ _ _ h => h) (Or.inl ⟨by rfl, ?hm9⟩) (by assumption) ?_
          case hm9 => (intro w hSw; (try dsimp only at hSw); go_simp; rw [run_index1]; rfl)
          try simp only [Act.put, List.setIfInBounds_toArray, List.set_cons_zero, List.set_cons_succ]
          refine wpAnyM_one (i := 12) (by kernel_rfl) rfl (fun K hK => ?_)
          go_simp
          have mx4 : Hid (MaskAt (wx3.alloc (.cells #[.int .u64 0, .int .u64 0, .int .u64 0, .int .u64 0] 67)) wx3.heap.size (fun _ => false)) := by rw [mask_zero]; exact mask_new_at _ _ rfl
          have Kx4 : Hid (Only (fun k => k = kb ∨ w1.heap.size ≤ k) w1 (wx3.alloc (.cells #[.int .u64 0, .int .u64 0, .int .u64 0, .int .u64 0] 67))) := Kx3.out.trans (Only.of_below (below1 _ _))
          have Mx4 : Hid (MemoAt (wx3.alloc (.cells #[.int .u64 0, .int .u64 0, .int .u64 0, .int .u64 0] 67)) kb (OutQ zss O p)) := Mx3.out.below (below1 _ _)
          have gx : w1.heap.size ≤ wx3.heap.size := Kx3.out.size
          have gk : kb < wx3.heap.size := by have := HM1.out.lt; omega
          refine hK.out _ _ (fun _ => HSw.out _ Kx4.out) (fun hHeld => ?_)
          have hHeld := hHeld (by decide)
          clear hK K
          try simp only [Act.put, List.setIfInBounds_toArray, List.set_cons_zero, List.set_cons_succ]
          have mz := Lib.hid (mx4.out.put4 L)
          have z0 := mx4.out.c0
          have fz0 := mx4.out.frozen 0
          have z1 := mx4.out.c1
          have fz1 := mx4.out.frozen 1
          have z2 := mx4.out.c2
          have fz2 := mx4.out.frozen 2
          have z3 := mx4.out.c3
          have fz3 := mx4.out.frozen 3
          clear hHeld
          refine wpAnyM_one (i := 13) (by kernel_rfl) rfl (fun K hK => ?_)
          go_simp
          refine hK.out _ _ (fun h => absurd h (by decide)) (fun _ => ?_)
          clear hK K
          try simp only [Act.put, List.setIfInBounds_toArray, List.set_cons_zero, List.set_cons_succ]
          refine wpAnyM_done (by kernel_rfl) ?_ _
          first | exact ⟨_, _, _, _, _, _, _, _, _, _, _, _, _, ⟨gx, mz.out, only_put4 (S := fun k => k = kb ∨ w1.heap.size ≤ k) Kx4.out (.inr gx) _ _ _ _ 0, Mx4.out.only (only_put4 (S := fun k => w1.heap.size ≤ k) (Only.refl _ _) gx _ _ _ _ 0) (by have := HM1.out.lt; omega)⟩, rfl⟩ | exact ⟨_, _, _, _, _, _, _, _, _, _, _, _, _, ⟨gx, mask_new_at _ _ rfl, only_swap Kx4.out gx, memo_swap Mx4.out gk⟩, rfl⟩
        · skip
          go_simp
          have mx5 : Hid (MaskAt (wx2.alloc (.cells #[.int .u64 0, .int .u64 0, .int .u64 0, .int .u64 0] 67)) wx2.heap.size (fun _ => false)) := by rw [mask_zero]; exact mask_new_at _ _ rfl
          have Kx5 : Hid (Only (fun k => k = kb ∨ w1.heap.size ≤ k) w1 (wx2.alloc (.cells #[.int .u64 0, .int .u64 0, .int .u64 0, .int .u64 0] 67))) := Kx2.out.trans (Only.of_below (below1 _ _))
          have Mx5 : Hid (MemoAt (wx2.alloc (.cells #[.int .u64 0, .int .u64 0, .int .u64 0, .int .u64 0] 67)) kb (OutQ zss O p)) := Mx2.out.below (below1 _ _)
          have gx : w1.heap.size ≤ wx2.heap.size := Kx2.out.size
          have gk : kb < wx2.heap.size := by have := HM1.out.lt; omega
          refine hK.out _ _ (fun _ => HSw.out _ Kx5.out) (fun hHeld => ?_)
          have hHeld := hHeld (by decide)
          clear hK K
          try simp only [Act.put, List.setIfInBounds_toArray, List.set_cons_zero, List.set_cons_succ]
          refine wpAnyM_one (i := 8) (by kernel_rfl) rfl (fun K hK => ?_)
          go_simp
          go_at_call 103
          refine (HSOL.out _ (HE1.out _ Kx5.out).1 (HE1.out _ Kx5.out).2 Mx5.out).mono ?_
          rintro e wx6 ⟨rfl, hb, hmm⟩
          have Kx6 : Hid (Only (fun k => k = kb ∨ w1.heap.size ≤ k) w1 wx6) := Kx5.out.trans (hb.mono fun k hk => by have := Kx5.out.size; omega)
          have Mx6 := Lib.hid hmm
          have mx6 := Lib.hid (mx5.out.only hb (by have := HM1.out.lt; have := mx5.out.lt; omega))
          clear hb hmm
          go_wp2_with fail
          refine hK.out _ _ (fun _ => HSw.out _ Kx6.out) (fun hHeld => ?_)
          have hHeld := hHeld (by decide)
          clear hK K
          try simp only [Act.put, List.setIfInBounds_toArray, List.set_cons_zero, List.set_cons_succ]
          refine wpAnyM_take (i := 11) (v := ?vm10) rfl (by kernel_rfl) (by decide) (by kernel_rfl) (by kernel_rfl) (by kernel_rfl) (fun _ _ _ h => h) (Or.inl ⟨by rfl, ?hm10⟩) (by assumption) ?_
          case hm10 => (intro w hSw; (try dsimp only at hSw); go_simp; rw [run_index1]; rfl)
          try simp only [Act.put, List.setIfInBounds_toArray, List.set_cons_zero, List.set_cons_succ]
          have mz := Lib.hid (mx6.out.put4 L)
          have z0 := mx6.out.c0
          have fz0 := mx6.out.frozen 0
          have z1 := mx6.out.c1
          have fz1 := mx6.out.frozen 1
          have z2 := mx6.out.c2
          have fz2 := mx6.out.frozen 2
          have z3 := mx6.out.c3
          have fz3 := mx6.out.frozen 3
          clear hHeld
          refine wpAnyM_one (i := 13) (by kernel_rfl) rfl (fun K hK => ?_)
          go_simp
          refine hK.out _ _ (fun h => absurd h (by decide)) (fun _ => ?_)
          clear hK K
          try simp only [Act.put, List.setIfInBounds_toArray, List.set_cons_zero, List.set_cons_succ]
          refine wpAnyM_done (by kernel_rfl) ?_ _
          first | exact ⟨_, _, _, _, _, _, _, _, _, _, _, _, _, ⟨gx, mz.out, only_put4 (S := fun k => k = kb ∨ w1.heap.size ≤ k) Kx6.out (.inr gx) _ _ _ _ 0, Mx6.out.only (only_put4 (S := fun k => w1.heap.size ≤ k) (Only.refl _ _) gx _ _ _ _ 0) (by have := HM1.out.lt; omega)⟩, rfl⟩ | exact ⟨_, _, _, _, _, _, _, _, _, _, _, _, _, ⟨gx, mask_new_at _ _ rfl, only_swap Kx6.out gx, memo_swap Mx6.out gk⟩, rfl⟩
      · skip
        go_simp
        have mx7 : Hid (MaskAt (wx1.alloc (.cells #[.int .u64 0, .int .u64 0, .int .u64 0, .int .u64 0] 67)) wx1.heap.size (fun _ => false)) := by rw [mask_zero]; exact mask_new_at _ _ rfl
        have Kx7 : Hid (Only (fun k => k = kb ∨ w1.heap.size ≤ k) w1 (wx1.alloc (.cells #[.int .u64 0, .int .u64 0, .int .u64 0, .int .u64 0] 67))) := Kx1.out.trans (Only.of_below (below1 _ _))
        have Mx7 : Hid (MemoAt (wx1.alloc (.cells #[.int .u64 0, .int .u64 0, .int .u64 0, .int .u64 0] 67)) kb (OutQ zss O p)) := Mx1.out.below (below1 _ _)
        have gx : w1.heap.size ≤ wx1.heap.size := Kx1.out.size
        have gk : kb < wx1.heap.size := by have := HM1.out.lt; omega
        refine hK.out _ _ (fun _ => HSw.out _ Kx7.out) (fun hHeld => ?_)
        have hHeld := hHeld (by decide)
        clear hK K
        try simp only [Act.put, List.setIfInBounds_toArray, List.set_cons_zero, List.set_cons_succ]
        refine wpAnyM_one (i := 7) (by kernel_rfl) rfl (fun K hK => ?_)
        go_simp
        go_at_call 136
        refine (mask_less _ _).mono ?_
        rintro e wx8 ⟨rfl, hb⟩
        have Kx8 := Lib.hid (Kx7.out.trans (Only.of_below hb))
        have Mx8 := Lib.hid (Mx7.out.below hb)
        have mx8 := Lib.hid (mx7.out.below hb)
        clear hb
        go_wp2_with fail
        refine hK.out _ _ (fun _ => HSw.out _ Kx8.out) (fun hHeld => ?_)
        have hHeld := hHeld (by decide)
        clear hK K
        try simp only [Act.put, List.setIfInBounds_toArray, List.set_cons_zero, List.set_cons_succ]
        refine wpAnyM_one (i := 8) (by kernel_rfl) rfl (fun K hK => ?_)
        go_simp
        go_at_call 103
        refine (HSOL.out _ (HE1.out _ Kx8.out).1 (HE1.out _ Kx8.out).2 Mx8.out).mono ?_
        rintro e wx9 ⟨rfl, hb, hmm⟩
        have Kx9 : Hid (Only (fun k => k = kb ∨ w1.heap.size ≤ k) w1 wx9) := Kx8.out.trans (hb.mono fun k hk => by have := Kx8.out.size; omega)
        have Mx9 := Lib.hid hmm
        have mx9 := Lib.hid (mx8.out.only hb (by have := HM1.out.lt; have := mx8.out.lt; omega))
        clear hb hmm
        go_wp2_with fail
        refine hK.out _ _ (fun _ => HSw.out _ Kx9.out) (fun hHeld => ?_)
        have hHeld := hHeld (by decide)
        clear hK K
        try simp only [Act.put, List.setIfInBounds_toArray, List.set_cons_zero, List.set_cons_succ]
        refine wpAnyM_take (i := 11) (v := ?vm11) rfl (by kernel_rfl) (by decide) (by kernel_rfl) (by kernel_rfl) (by kernel_rfl) (fun _ _ _ h => h) (Or.inl ⟨by rfl, ?hm11⟩) (by assumption) ?_
        case hm11 => (intro w hSw; (try dsimp only at hSw); go_simp; rw [run_index1]; rfl)
        try simp only [Act.put, List.setIfInBounds_toArray, List.set_cons_zero, List.set_cons_succ]
        have mz := Lib.hid (mx9.out.put4 L)
        have z0 := mx9.out.c0
        have fz0 := mx9.out.frozen 0
        have z1 := mx9.out.c1
        have fz1 := mx9.out.frozen 1
        have z2 := mx9.out.c2
        have fz2 := mx9.out.frozen 2
        have z3 := mx9.out.c3
        have fz3 := mx9.out.frozen 3
        clear hHeld
        refine wpAnyM_one (i := 13) (by kernel_rfl) rfl (fun K hK => ?_)
        go_simp
        refine hK.out _ _ (fun h => absurd h (by decide)) (fun _ => ?_)
        clear hK K
        try simp only [Act.put, List.setIfInBounds_toArray, List.set_cons_zero, List.set_cons_succ]
        refine wpAnyM_done (by kernel_rfl) ?_ _
        first | exact ⟨_, _, _, _, _, _, _, _, _, _, _, _, _, ⟨gx, mz.out, only_put4 (S := fun k => k = kb ∨ w1.heap.size ≤ k) Kx9.out (.inr gx) _ _ _ _ 0, Mx9.out.only (only_put4 (S := fun k => w1.heap.size ≤ k) (Only.refl _ _) gx _ _ _ _ 0) (by have := HM1.out.lt; omega)⟩, rfl⟩ | exact ⟨_, _, _, _, _, _, _, _, _, _, _, _, _, ⟨gx, mask_new_at _ _ rfl, only_swap Kx9.out gx, memo_swap Mx9.out gk⟩, rfl⟩
    · skip
      go_simp
      have mx10 : Hid (MaskAt (w1.drew.alloc (.cells #[.int .u64 0, .int .u64 0, .int .u64 0, .int .u64 0] 67)) w1.heap.size (fun _ => false)) := by rw [mask_zero]; exact mask_new_at _ _ rfl
      have Kx10 : Hid (Only (fun k => k = kb ∨ w1.heap.size ≤ k) w1 (w1.drew.alloc (.cells #[.int .u64 0, .int .u64 0, .int .u64 0, .int .u64 0] 67))) := Kd.out.trans (Only.of_below (below1 _ _))
      have Mx10 : Hid (MemoAt (w1.drew.alloc (.cells #[.int .u64 0, .int .u64 0, .int .u64 0, .int .u64 0] 67)) kb (OutQ zss O p)) := Md.out.below (below1 _ _)
      have gx : w1.heap.size ≤ w1.heap.size := Kd.out.size
      have gk : kb < w1.heap.size := by have := HM1.out.lt; omega
      refine hK.out _ _ (fun _ => HSw.out _ Kx10.out) (fun hHeld => ?_)
      have hHeld := hHeld (by decide)
      clear hK K
      try simp only [Act.put, List.setIfInBounds_toArray, List.set_cons_zero, List.set_cons_succ]
      refine wpAnyM_one (i := 6) (by kernel_rfl) rfl (fun K hK => ?_)
      go_simp
      go_at_call 135
      refine (HA.out _ (HE1.out _ Kx10.out).1 (HE1.out _ Kx10.out).2).mono ?_
      rintro e wx11 ⟨rfl, hb⟩
      have Kx11 := Lib.hid (Kx10.out.trans (Only.of_below hb))
      have Mx11 := Lib.hid (Mx10.out.below hb)
      have mx11 := Lib.hid (mx10.out.below hb)
      clear hb
      go_wp2_with fail
      refine hK.out _ _ (fun _ => HSw.out _ Kx11.out) (fun hHeld => ?_)
      have hHeld := hHeld (by decide)
      clear hK K
      try simp only [Act.put, List.setIfInBounds_toArray, List.set_cons_zero, List.set_cons_succ]
      refine wpAnyM_one (i := 7) (by kernel_rfl) rfl (fun K hK => ?_)
      go_simp
      go_at_call 136
      refine (mask_less _ _).mono ?_
      rintro e wx12 ⟨rfl, hb⟩
      have Kx12 := Lib.hid (Kx11.out.trans (Only.of_below hb))
      have Mx12 := Lib.hid (Mx11.out.below hb)
      have mx12 := Lib.hid (mx11.out.below hb)
      clear hb
      go_wp2_with fail
      refine hK.out _ _ (fun _ => HSw.out _ Kx12.out) (fun hHeld => ?_)
      have hHeld := hHeld (by decide)
      clear hK K
      try simp only [Act.put, List.setIfInBounds_toArray, List.set_cons_zero, List.set_cons_succ]
      refine wpAnyM_one (i := 8) (by kernel_rfl) rfl (fun K hK => ?_)
      go_simp
      go_at_call 103
      refine (HSOL.out _ (HE1.out _ Kx12.out).1 (HE1.out _ Kx12.out).2 Mx12.out).mono ?_
      rintro e wx13 ⟨rfl, hb, hmm⟩
      have Kx13 : Hid (Only (fun k => k = kb ∨ w1.heap.size ≤ k) w1 wx13) := Kx12.out.trans (hb.mono fun k hk => by have := Kx12.out.size; omega)
      have Mx13 := Lib.hid hmm
      have mx13 := Lib.hid (mx12.out.only hb (by have := HM1.out.lt; have := mx12.out.lt; omega))
      clear hb hmm
      go_wp2_with fail
      refine hK.out _ _ (fun _ => HSw.out _ Kx13.out) (fun hHeld => ?_)
      have hHeld := hHeld (by decide)
      clear hK K
      try simp only [Act.put, List.setIfInBounds_toArray, List.set_cons_zero, List.set_cons_succ]
      refine wpAnyM_take (i := 11) (v := ?vm12) rfl (by kernel_rfl) (by decide) (by kernel_rfl) (by kernel_rfl) (by kernel_rfl) (fun _ _ _ h => h) (Or.inl ⟨by rfl, ?hm12⟩) (by assumption) ?_
      case hm12 => (intro w hSw; (try dsimp only at hSw); go_simp; rw [run_index1]; rfl)
      try simp only [Act.put, List.setIfInBounds_toArray, List.set_cons_zero, List.set_cons_succ]
      have mz := Lib.hid (mx13.out.put4 L)
      have z0 := mx13.out.c0
      have fz0 := mx13.out.frozen 0
      have z1 := mx13.out.c1
      have fz1 := mx13.out.frozen 1
      have z2 := mx13.out.c2
      have fz2 := mx13.out.frozen 2
      have z3 := mx13.out.c3
      have fz3 := mx13.out.frozen 3
      clear hHeld
      refine wpAnyM_one (i := 13) (by kernel_rfl) rfl (fun K hK => ?_)
      go_simp
      refine hK.out _ _ (fun h => absurd h (by decide)) (fun _ => ?_)
      clear hK K
      try simp only [Act.put, List.setIfInBounds_toArray, List.set_cons_zero, List.set_cons_succ]
      refine wpAnyM_done (by kernel_rfl) ?_ _
      first | exact ⟨_, _, _, _, _, _, _, _, _, _, _, _, _, ⟨gx, mz.out, only_put4 (S := fun k => k = kb ∨ w1.heap.size ≤ k) Kx13.out (.inr gx) _ _ _ _ 0, Mx13.out.only (only_put4 (S := fun k => w1.heap.size ≤ k) (Only.refl _ _) gx _ _ _ _ 0) (by have := HM1.out.lt; omega)⟩, rfl⟩ | exact ⟨_, _, _, _, _, _, _, _, _, _, _, _, _, ⟨gx, mask_new_at _ _ rfl, only_swap Kx13.out gx, memo_swap Mx13.out gk⟩, rfl⟩
  case rest2 =>
    rintro a' wx ⟨gL, u13, u14, u15, u16, u17, u18, u19, u20, u21, u22, u23, u24, ⟨hgL, HL, Ox, Mx⟩, rfl⟩
    have c0 := HL.out.c0
    have c1 := HL.out.c1
    have c2 := HL.out.c2
    have c3 := HL.out.c3
    have hh1 := HS1.out
    have hh2 := HKW.out
    have bSx := Lib.hid (bS.out.only Ox.out (by omega))
    have bRx := Lib.hid (bR.out.only Ox.out (by omega))
    have HCE := Lib.hid (fun w => mask_isEmpty (w := w) L HRR.out)
    clear HSw Kd Md HE1 HM HM1 bS bT bR hh1 hh2
    cases hr : r with
    | true =>
      rw [hr] at HCE
      go_wp2_with (go_at_call 131; refine (HCE.out _).mono ?_; rintro e wy ⟨rfl, hb⟩; have Ky := Lib.hid hb; clear hb)
      have HSv : Hid (∀ W', Below wy.heap.size wy W' → W'.cell? ⟨w.heap.size, 0, none⟩ = some (.int .u64 (maskW S 0)) ∧ W'.cell? ⟨w.heap.size, 1, none⟩ = some (.int .u64 (maskW S 1)) ∧ W'.cell? ⟨w.heap.size, 2, none⟩ = some (.int .u64 (maskW S 2)) ∧ W'.cell? ⟨w.heap.size, 3, none⟩ = some (.int .u64 (maskW S 3))) := fun W' hb => by
        have m1 := (bSx.out.below Ky.out).below hb
        exact ⟨m1.c0, m1.c1, m1.c2, m1.c3⟩
      have Ke : Hid (Below wy.heap.size wy wy.drew) := (Below.refl _ _).drew
      go_wp2_with fail
      refine wp_region_M (S := (fun W' => W'.cell? ⟨w.heap.size, 0, none⟩ = some (.int .u64 (maskW S 0)) ∧ W'.cell? ⟨w.heap.size, 1, none⟩ = some (.int .u64 (maskW S 1)) ∧ W'.cell? ⟨w.heap.size, 2, none⟩ = some (.int .u64 (maskW S 2)) ∧ W'.cell? ⟨w.heap.size, 3, none⟩ = some (.int .u64 (maskW S 3)))) (m := 3) (by kernel_rfl) (HSv.out _ Ke.out) (fun hHeld => ?_)
      refine wpAnyM_take (i := 0) (v := ?vm13) rfl (by kernel_rfl) (by decide) (by kernel_rfl) (by kernel_rfl) (by kernel_rfl) (fun _ _ _ h => h) (Or.inl ⟨by rfl, ?hm13⟩) (by assumption) ?_
      case hm13 => (intro w hSw; (try dsimp only at hSw); go_simp; first | done | with_reducible rfl)
      try simp only [Act.put, List.setIfInBounds_toArray, List.set_cons_zero, List.set_cons_succ]
      refine wpAnyM_take (i := 1) (v := ?vm14) rfl (by kernel_rfl) (by decide) (by kernel_rfl) (by kernel_rfl) (by kernel_rfl) (fun _ _ _ h => h) (Or.inl ⟨by rfl, ?hm14⟩) (by assumption) ?_
      case hm14 => (intro w hSw; (try dsimp only at hSw); go_simp; first | done | with_reducible rfl)
      try simp only [Act.put, List.setIfInBounds_toArray, List.set_cons_zero, List.set_cons_succ]
      refine wpAnyM_one (i := 2) (by kernel_rfl) rfl (fun K hK => ?_)
      go_simp
      refine hK.out _ _ (fun _ => HSv.out _ Ke.out) (fun hHeld => ?_)
      have hHeld := hHeld (by decide)
      clear hK K
      try simp only [Act.put, List.setIfInBounds_toArray, List.set_cons_zero, List.set_cons_succ]
      have mA : MaskAt wy (w.heap.size + 1 + 1) (fun _ => false) := bRx.out.below Ky.out
      have z0 := mA.c0
      have fz0 := mA.frozen 0
      have z1 := mA.c1
      have fz1 := mA.frozen 1
      have z2 := mA.c2
      have fz2 := mA.frozen 2
      have z3 := mA.c3
      have fz3 := mA.frozen 3
      have mq := Lib.hid (mA.put4 S)
      clear hHeld mA
      refine wpAnyM_one (i := 3) (by kernel_rfl) rfl (fun K hK => ?_)
      go_simp
      refine hK.out _ _ (fun h => absurd h (by decide)) (fun _ => ?_)
      clear hK K
      try simp only [Act.put, List.setIfInBounds_toArray, List.set_cons_zero, List.set_cons_succ]
      refine wpAnyM_done (by kernel_rfl) ?_ _
      go_wp2_with fail
      refine ret_num_mask (K := S) (g := w.heap.size + 1 + 1) rfl rfl mq.out ⟨by rw [hr]; first | rfl | (rw [show IntKind.i64.wrap 1 = 1 from rfl]; rfl) | (rw [show IntKind.i64.wrap 0 = 0 from rfl]; rfl), ?_, ?_⟩
      · refine only_drew ?_
        exact only_put4 (S := fun k => k = kb ∨ w.heap.size ≤ k) (((Only.of_below HB.out |>.mono fun k hk => by exact hk).trans (Ox.out.mono fun k hk => by have := HS1.out; omega)).trans (Only.of_below Ky.out)) (.inr (by omega)) _ _ _ _ 0
      · exact ((Mx.out.below Ky.out).only (only_put4 (S := fun k => k = w.heap.size + 1 + 1) (Only.refl _ _) rfl _ _ _ _ 0) (by have := HKW.out; omega)).below (Below.refl _ _).drew
    | false =>
      rw [hr] at HCE
      go_wp2_with (go_at_call 131; refine (HCE.out _).mono ?_; rintro e wy ⟨rfl, hb⟩; have Ky := Lib.hid hb; clear hb)
      have HSv : Hid (∀ W', Below wy.heap.size wy W' → W'.cell? ⟨gL, 0, none⟩ = some (.int .u64 (maskW L 0)) ∧ W'.cell? ⟨gL, 1, none⟩ = some (.int .u64 (maskW L 1)) ∧ W'.cell? ⟨gL, 2, none⟩ = some (.int .u64 (maskW L 2)) ∧ W'.cell? ⟨gL, 3, none⟩ = some (.int .u64 (maskW L 3))) := fun W' hb => by
        have m1 := (HL.out.below Ky.out).below hb
        exact ⟨m1.c0, m1.c1, m1.c2, m1.c3⟩
      have Ke : Hid (Below wy.heap.size wy wy.drew) := (Below.refl _ _).drew
      go_wp2_with fail
      refine wp_region_M (S := (fun W' => W'.cell? ⟨gL, 0, none⟩ = some (.int .u64 (maskW L 0)) ∧ W'.cell? ⟨gL, 1, none⟩ = some (.int .u64 (maskW L 1)) ∧ W'.cell? ⟨gL, 2, none⟩ = some (.int .u64 (maskW L 2)) ∧ W'.cell? ⟨gL, 3, none⟩ = some (.int .u64 (maskW L 3)))) (m := 4) (by kernel_rfl) (HSv.out _ Ke.out) (fun hHeld => ?_)
      refine wpAnyM_take (i := 0) (v := ?vm15) rfl (by kernel_rfl) (by decide) (by kernel_rfl) (by kernel_rfl) (by kernel_rfl) (fun _ _ _ h => h) (Or.inl ⟨by rfl, ?hm15⟩) (by assumption) ?_
      case hm15 => (intro w hSw; (try dsimp only at hSw); go_simp; first | done | with_reducible rfl)
      try simp only [Act.put, List.setIfInBounds_toArray, List.set_cons_zero, List.set_cons_succ]
      refine wpAnyM_take (i := 1) (v := ?vm16) rfl (by kernel_rfl) (by decide) (by kernel_rfl) (by kernel_rfl) (by kernel_rfl) (fun _ _ _ h => h) (Or.inl ⟨by rfl, ?hm16⟩) (by assumption) ?_
      case hm16 => (intro w hSw; (try dsimp only at hSw); go_simp; first | done | with_reducible rfl)
      try simp only [Act.put, List.setIfInBounds_toArray, List.set_cons_zero, List.set_cons_succ]
      refine wpAnyM_take (i := 2) (v := ?vm17) rfl (by kernel_rfl) (by decide) (by kernel_rfl) (by kernel_rfl) (by kernel_rfl) (fun _ _ _ h => h) (Or.inl ⟨by rfl, ?hm17⟩) (by assumption) ?_
      case hm17 => (intro w hSw; (try dsimp only at hSw); go_simp; first | done | with_reducible rfl)
      try simp only [Act.put, List.setIfInBounds_toArray, List.set_cons_zero, List.set_cons_succ]
      refine wpAnyM_one (i := 3) (by kernel_rfl) rfl (fun K hK => ?_)
      go_simp
      refine hK.out _ _ (fun _ => HSv.out _ Ke.out) (fun hHeld => ?_)
      have hHeld := hHeld (by decide)
      clear hK K
      try simp only [Act.put, List.setIfInBounds_toArray, List.set_cons_zero, List.set_cons_succ]
      have mA : MaskAt wy (w.heap.size + 1 + 1) (fun _ => false) := bRx.out.below Ky.out
      have z0 := mA.c0
      have fz0 := mA.frozen 0
      have z1 := mA.c1
      have fz1 := mA.frozen 1
      have z2 := mA.c2
      have fz2 := mA.frozen 2
      have z3 := mA.c3
      have fz3 := mA.frozen 3
      have mq := Lib.hid (mA.put4 L)
      clear hHeld mA
      refine wpAnyM_one (i := 4) (by kernel_rfl) rfl (fun K hK => ?_)
      go_simp
      refine hK.out _ _ (fun h => absurd h (by decide)) (fun _ => ?_)
      clear hK K
      try simp only [Act.put, List.setIfInBounds_toArray, List.set_cons_zero, List.set_cons_succ]
      refine wpAnyM_done (by kernel_rfl) ?_ _
      go_wp2_with fail
      refine ret_num_mask (K := L) (g := w.heap.size + 1 + 1) rfl rfl mq.out ⟨by rw [hr]; first | rfl | (rw [show IntKind.i64.wrap 1 = 1 from rfl]; rfl) | (rw [show IntKind.i64.wrap 0 = 0 from rfl]; rfl), ?_, ?_⟩
      · refine only_drew ?_
        exact only_put4 (S := fun k => k = kb ∨ w.heap.size ≤ k) (((Only.of_below HB.out |>.mono fun k hk => by exact hk).trans (Ox.out.mono fun k hk => by have := HS1.out; omega)).trans (Only.of_below Ky.out)) (.inr (by omega)) _ _ _ _ 0
      · exact ((Mx.out.below Ky.out).only (only_put4 (S := fun k => k = w.heap.size + 1 + 1) (Only.refl _ _) rfl _ _ _ _ 0) (by have := HKW.out; omega)).below (Below.refl _ _).drew

set_option linter.unusedSimpArgs false in
set_option maxRecDepth 100000 in
set_option maxHeartbeats 8000000 in
theorem gain1_is {w : World} {b n nb pb kb top : Nat} {Ow Lv E Pd : Nat → Nat → Bool} {zss : List (List Int)} {O : List Int} {p : Nat → Int} {S T : Nat → Bool} (hT : TabW w) (hR : RecAt w b n nb pb kb Ow Lv E Pd) (hM : MemoAt w kb (OutQ zss O p)) (hG : GameE zss O n Ow E Pd) (htop : top < 1000) (hij : top % 2 = 1)
    (hS : ∀ v, S v = true → v < n) (hTS : ∀ v, T v = true → S v = true) (hsol : SolveAt zss O p b n nb pb kb Ow Lv E Pd (lessB S (attrB zss O 1 S T))) {r : Bool} (hr : noneB (outB zss O p (lessB S (attrB zss O 1 S T)) 0) = r) :
    Calls Tryd.prog 134 #[.pointer (some ⟨b, 0, none⟩), maskV S, .int .i64 (top : Int), maskV T] w fun e w' => e = .returned (.tuple #[.int .i64 (cond r 1 0), maskV (cond r S (outB zss O p (lessB S (attrB zss O 1 S T)) 0))]) ∧ Only (fun k => k = kb ∨ w.heap.size ≤ k) w w' ∧ MemoAt w' kb (OutQ zss O p) := by
  have hkt := memo_ne_tab hM hT
  have HTS := Lib.hid hTS
  have HSOL := Lib.hid hsol
  have HM := Lib.hid hM
  have HKW : Hid (kb < w.heap.size) := hM.lt
  have HEnv : Hid (∀ W', Only (fun k => k = kb ∨ w.heap.size ≤ k) w W' → TabW W' ∧ RecAt W' b n nb pb kb Ow Lv E Pd) := fun W' ho =>
    ⟨hT.only ho (by have := hT.lt; omega), hR.only ho (by have := hR.lt; have := hR.apart; omega) (by have := hR.lt; have := hR.apart; omega) (by have := hR.lt; have := hR.apart; omega)⟩
  have HA : Hid (∀ W', TabW W' → RecAt W' b n nb pb kb Ow Lv E Pd → Calls Tryd.prog 135 #[.pointer (some ⟨b, 0, none⟩), .int .i64 1, maskV S, maskV T] W' fun e w' => e = .returned (maskV (attrB zss O 1 S T)) ∧ Below W'.heap.size W' w') := fun W' a b' => attract_is (i := 1) a b' hG (by omega) hS hTS
  obtain ⟨D, hD⟩ : ∃ D, attrB zss O 1 S T = D := ⟨_, rfl⟩
  rw [hD] at HA HSOL hr ⊢
  obtain ⟨L, hL⟩ : ∃ L, outB zss O p (lessB S D) 0 = L := ⟨_, rfl⟩
  obtain ⟨M, hMM⟩ : ∃ M, outB zss O p (lessB S D) 1 = M := ⟨_, rfl⟩
  unfold SolveAt at HSOL
  rw [hL] at HSOL hr ⊢
  rw [hMM] at HSOL
  have HRR := Lib.hid hr
  have eI : ((top : Int) % 2) = 1 := by omega
  clear hT hR hG hS hTS hsol hM hr hkt hij hD hL hMM
  go_enter Tryd.func134, Tryd.ntmps134
  go_wp2_with fail
  simp only [eI]
  obtain ⟨w1, hw1⟩ : ∃ y, y = (((w.alloc (.cells #[.int .u64 (maskW S 0), .int .u64 (maskW S 1), .int .u64 (maskW S 2), .int .u64 (maskW S 3)] 67)).alloc (.cells #[.int .u64 (maskW T 0), .int .u64 (maskW T 1), .int .u64 (maskW T 2), .int .u64 (maskW T 3)] 67)).alloc (.cells #[.int .u64 0, .int .u64 0, .int .u64 0, .int .u64 0] 67)) := ⟨_, rfl⟩
  rw [← hw1]
  have HB : Hid (Below w.heap.size w w1) := by
    rw [hw1]
    exact (((Below.refl _ _).alloc (Nat.le_refl _) _).alloc (by simp) _).alloc (by simp; omega) _
  have bS : Hid (MaskAt w1 (w.heap.size) S) := by
    rw [hw1]; exact ((mask_new_at S _ (by simp)).below (below1 _ _)).below (below1 _ _)
  have bT : Hid (MaskAt w1 (w.heap.size + 1) T) := by
    rw [hw1]; exact (mask_new_at T _ (by simp)).below (below1 _ _)
  have bR : Hid (MaskAt w1 (w.heap.size + 1 + 1) (fun _ => false)) := by
    rw [hw1, mask_zero]; exact mask_new_at _ _ (by simp)
  have HS1 : Hid (w1.heap.size = w.heap.size + 3) := by rw [hw1]; simp [Hid]
  clear hw1
  have HM1 := Lib.hid (HM.out.below HB.out)
  have HSw : Hid (∀ W', Only (fun k => k = kb ∨ w1.heap.size ≤ k) w1 W' → W'.cell? ⟨w.heap.size, 0, none⟩ = some (.int .u64 (maskW S 0)) ∧ W'.cell? ⟨w.heap.size, 1, none⟩ = some (.int .u64 (maskW S 1)) ∧ W'.cell? ⟨w.heap.size, 2, none⟩ = some (.int .u64 (maskW S 2)) ∧ W'.cell? ⟨w.heap.size, 3, none⟩ = some (.int .u64 (maskW S 3)) ∧ W'.cell? ⟨w.heap.size + 1, 0, none⟩ = some (.int .u64 (maskW T 0)) ∧ W'.cell? ⟨w.heap.size + 1, 1, none⟩ = some (.int .u64 (maskW T 1)) ∧ W'.cell? ⟨w.heap.size + 1, 2, none⟩ = some (.int .u64 (maskW T 2)) ∧ W'.cell? ⟨w.heap.size + 1, 3, none⟩ = some (.int .u64 (maskW T 3))) := fun W' ho => by
    have h1 := HS1.out
    have h2 := HKW.out
    have m1 := bS.out.only ho (by omega)
    have m2 := bT.out.only ho (by omega)
    exact ⟨m1.c0, m1.c1, m1.c2, m1.c3, m2.c0, m2.c1, m2.c2, m2.c3⟩
  have Kd : Hid (Only (fun k => k = kb ∨ w1.heap.size ≤ k) w1 w1.drew) := only_drew (Only.refl _ _)
  have Md : Hid (MemoAt w1.drew kb (OutQ zss O p)) := HM1.out.below (Below.refl _ _).drew
  have HE1 : Hid (∀ W', Only (fun k => k = kb ∨ w1.heap.size ≤ k) w1 W' → TabW W' ∧ RecAt W' b n nb pb kb Ow Lv E Pd) := fun W' ho => HEnv.out _ ((Only.of_below HB.out |>.mono fun k hk => by exact hk).trans (ho.mono fun k hk => by have := HS1.out; omega))
  refine wp_cut (fun a' wx => ∃ (gL : Nat) (u13 u14 u15 u16 u17 u18 u19 u20 u21 u22 u23 u24 : Value), (w1.heap.size ≤ gL ∧ Hid (MaskAt wx gL L) ∧ Hid (Only (fun k => k = kb ∨ w1.heap.size ≤ k) w1 wx) ∧ Hid (MemoAt wx kb (OutQ zss O p))) ∧ a' = { tmps := #[.pointer (some ⟨b, 0, none⟩), maskV S, .int .i64 (top : Int), maskV T, undef, .pointer (some ⟨w.heap.size, 0, none⟩), undef, .pointer (some ⟨w.heap.size + 1, 0, none⟩), .int .i64 1, .pointer (some ⟨w.heap.size + 1 + 1, 0, none⟩), .pointer (some ⟨gL, 0, none⟩), .int .i64 (top : Int), .int .i64 1, u13, u14, u15, u16, u17, u18, u19, u20, u21, u22, u23, u24, undef, undef, undef, undef, undef, undef, undef], defers := [] }) ?reg2 ?rest2
  case reg2 =>
    refine wp_region_M (S := (fun W' => W'.cell? ⟨w.heap.size, 0, none⟩ = some (.int .u64 (maskW S 0)) ∧ W'.cell? ⟨w.heap.size, 1, none⟩ = some (.int .u64 (maskW S 1)) ∧ W'.cell? ⟨w.heap.size, 2, none⟩ = some (.int .u64 (maskW S 2)) ∧ W'.cell? ⟨w.heap.size, 3, none⟩ = some (.int .u64 (maskW S 3)) ∧ W'.cell? ⟨w.heap.size + 1, 0, none⟩ = some (.int .u64 (maskW T 0)) ∧ W'.cell? ⟨w.heap.size + 1, 1, none⟩ = some (.int .u64 (maskW T 1)) ∧ W'.cell? ⟨w.heap.size + 1, 2, none⟩ = some (.int .u64 (maskW T 2)) ∧ W'.cell? ⟨w.heap.size + 1, 3, none⟩ = some (.int .u64 (maskW T 3)))) (m := 13) (by kernel_rfl) (HSw.out _ Kd.out) (fun hHeld => ?_)
    refine wpAnyM_take (i := 0) (v := ?vm18) rfl (by kernel_rfl) (by decide) (by kernel_rfl) (by kernel_rfl) (by kernel_rfl) (fun _ _ _ h => h) (Or.inl ⟨by rfl, ?hm18⟩) (by assumption) ?_
    case hm18 => (intro w hSw; (try dsimp only at hSw); go_simp; first | done | with_reducible rfl)
    try simp only [Act.put, List.setIfInBounds_toArray, List.set_cons_zero, List.set_cons_succ]
    refine wpAnyM_take (i := 1) (v := ?vm19) rfl (by kernel_rfl) (by decide) (by kernel_rfl) (by kernel_rfl) (by kernel_rfl) (fun _ _ _ h => h) (Or.inl ⟨by rfl, ?hm19⟩) (by assumption) ?_
    case hm19 => (intro w hSw; (try dsimp only at hSw); go_simp; first | done | with_reducible rfl)
    try simp only [Act.put, List.setIfInBounds_toArray, List.set_cons_zero, List.set_cons_succ]
    refine wpAnyM_take (i := 2) (v := ?vm20) rfl (by kernel_rfl) (by decide) (by kernel_rfl) (by kernel_rfl) (by kernel_rfl) (fun _ _ _ h => h) (Or.inl ⟨by rfl, ?hm20⟩) (by assumption) ?_
    case hm20 => (intro w hSw; (try dsimp only at hSw); go_simp; first | done | with_reducible rfl)
    try simp only [Act.put, List.setIfInBounds_toArray, List.set_cons_zero, List.set_cons_succ]
    refine wpAnyM_take (i := 3) (v := ?vm21) rfl (by kernel_rfl) (by decide) (by kernel_rfl) (by kernel_rfl) (by kernel_rfl) (fun _ _ _ h => h) (Or.inl ⟨by rfl, ?hm21⟩) (by assumption) ?_
    case hm21 => (intro w hSw; (try dsimp only at hSw); go_simp; first | done | with_reducible rfl)
    try simp only [Act.put, List.setIfInBounds_toArray, List.set_cons_zero, List.set_cons_succ]
    refine wpAnyM_take (i := 4) (v := ?vm22) rfl (by kernel_rfl) (by decide) (by kernel_rfl) (by kernel_rfl) (by kernel_rfl) (fun _ _ _ h => h) (Or.inl ⟨by rfl, ?hm22⟩) (by assumption) ?_
    case hm22 => (intro w hSw; (try dsimp only at hSw); go_simp; first | done | with_reducible rfl)
    try simp only [Act.put, List.setIfInBounds_toArray, List.set_cons_zero, List.set_cons_succ]
    refine wpAnyM_take (i := 5) (v := ?vm23) rfl (by kernel_rfl) (by decide) (by kernel_rfl) (by kernel_rfl) (by kernel_rfl) (fun _ _ _ h => h) (Or.inl ⟨by rfl, ?hm23⟩) (by assumption) ?_
    case hm23 => (intro w hSw; (try dsimp only at hSw); go_simp; first | done | with_reducible rfl)
    try simp only [Act.put, List.setIfInBounds_toArray, List.set_cons_zero, List.set_cons_succ]
    refine wpAnyM_take (i := 9) (v := ?vm24) rfl (by kernel_rfl) (by decide) (by kernel_rfl) (by kernel_rfl) (by kernel_rfl) (fun _ _ _ h => h) (Or.inl ⟨by rfl, ?hm24⟩) (by assumption) ?_
    case hm24 => (intro w hSw; (try dsimp only at hSw); go_simp; first | done | with_reducible rfl)
    try simp only [Act.put, List.setIfInBounds_toArray, List.set_cons_zero, List.set_cons_succ]
    refine wpAnyM_take (i := 10) (v := ?vm25) rfl (by kernel_rfl) (by decide) (by kernel_rfl) (by kernel_rfl) (by kernel_rfl) (fun _ _ _ h => h) (Or.inl ⟨by rfl, ?hm25⟩) (by assumption) ?_
    case hm25 => (intro w hSw; (try dsimp only at hSw); go_simp; first | done | with_reducible rfl)
    try simp only [Act.put, List.setIfInBounds_toArray, List.set_cons_zero, List.set_cons_succ]
    refine wpAnyM_two (i := 6) (j := 12) (by kernel_rfl) rfl rfl (fun K hK => ?_) (fun K hK => ?_)
    · skip
      go_simp
      go_at_call 135
      refine (HA.out _ (HE1.out _ Kd.out).1 (HE1.out _ Kd.out).2).mono ?_
      rintro e wx14 ⟨rfl, hb⟩
      have Kx14 := Lib.hid (Kd.out.trans (Only.of_below hb))
      have Mx14 := Lib.hid (Md.out.below hb)
      clear hb
      go_wp2_with fail
      refine hK.out _ _ (fun _ => HSw.out _ Kx14.out) (fun hHeld => ?_)
      have hHeld := hHeld (by decide)
      clear hK K
      try simp only [Act.put, List.setIfInBounds_toArray, List.set_cons_zero, List.set_cons_succ]
      refine wpAnyM_two (i := 7) (j := 12) (by kernel_rfl) rfl rfl (fun K hK => ?_) (fun K hK => ?_)
      · skip
        go_simp
        go_at_call 136
        refine (mask_less _ _).mono ?_
        rintro e wx15 ⟨rfl, hb⟩
        have Kx15 := Lib.hid (Kx14.out.trans (Only.of_below hb))
        have Mx15 := Lib.hid (Mx14.out.below hb)
        clear hb
        go_wp2_with fail
        refine hK.out _ _ (fun _ => HSw.out _ Kx15.out) (fun hHeld => ?_)
        have hHeld := hHeld (by decide)
        clear hK K
        try simp only [Act.put, List.setIfInBounds_toArray, List.set_cons_zero, List.set_cons_succ]
        refine wpAnyM_two (i := 8) (j := 12) (by kernel_rfl) rfl rfl (fun K hK => ?_) (fun K hK => ?_)
        · skip
          go_simp
          go_at_call 103
          refine (HSOL.out _ (HE1.out _ Kx15.out).1 (HE1.out _ Kx15.out).2 Mx15.out).mono ?_
          rintro e wx16 ⟨rfl, hb, hmm⟩
          have Kx16 : Hid (Only (fun k => k = kb ∨ w1.heap.size ≤ k) w1 wx16) := Kx15.out.trans (hb.mono fun k hk => by have := Kx15.out.size; omega)
          have Mx16 := Lib.hid hmm
          clear hb hmm
          go_wp2_with fail
          refine hK.out _ _ (fun _ => HSw.out _ Kx16.out) (fun hHeld => ?_)
          have hHeld := hHeld (by decide)
          clear hK K
          try simp only [Act.put, List.setIfInBounds_toArray, List.set_cons_zero, List.set_cons_succ]
          refine wpAnyM_take (i := 11) (v := ?vm26) rfl (by kernel_rfl) (by decide) (by kernel_rfl) (by kernel_rfl) (by kernel_rfl) (fun _ _ _ h => h) (Or.inl ⟨by rfl, ?hm26⟩) (by assumption) ?_
          case hm26 => (intro w hSw; (try dsimp only at hSw); go_simp; rw [run_index0]; rfl)
          try simp only [Act.put, List.setIfInBounds_toArray, List.set_cons_zero, List.set_cons_succ]
          refine wpAnyM_one (i := 12) (by kernel_rfl) rfl (fun K hK => ?_)
          go_simp
          have mx17 : Hid (MaskAt (wx16.alloc (.cells #[.int .u64 0, .int .u64 0, .int .u64 0, .int .u64 0] 67)) wx16.heap.size (fun _ => false)) := by rw [mask_zero]; exact mask_new_at _ _ rfl
          have Kx17 : Hid (Only (fun k => k = kb ∨ w1.heap.size ≤ k) w1 (wx16.alloc (.cells #[.int .u64 0, .int .u64 0, .int .u64 0, .int .u64 0] 67))) := Kx16.out.trans (Only.of_below (below1 _ _))
          have Mx17 : Hid (MemoAt (wx16.alloc (.cells #[.int .u64 0, .int .u64 0, .int .u64 0, .int .u64 0] 67)) kb (OutQ zss O p)) := Mx16.out.below (below1 _ _)
          have gx : w1.heap.size ≤ wx16.heap.size := Kx16.out.size
          have gk : kb < wx16.heap.size := by have := HM1.out.lt; omega
          refine hK.out _ _ (fun _ => HSw.out _ Kx17.out) (fun hHeld => ?_)
          have hHeld := hHeld (by decide)
          clear hK K
          try simp only [Act.put, List.setIfInBounds_toArray, List.set_cons_zero, List.set_cons_succ]
          have mz := Lib.hid (mx17.out.put4 L)
          have z0 := mx17.out.c0
          have fz0 := mx17.out.frozen 0
          have z1 := mx17.out.c1
          have fz1 := mx17.out.frozen 1
          have z2 := mx17.out.c2
          have fz2 := mx17.out.frozen 2
          have z3 := mx17.out.c3
          have fz3 := mx17.out.frozen 3
          clear hHeld
          refine wpAnyM_one (i := 13) (by kernel_rfl) rfl (fun K hK => ?_)
          go_simp
          refine hK.out _ _ (fun h => absurd h (by decide)) (fun _ => ?_)
          clear hK K
          try simp only [Act.put, List.setIfInBounds_toArray, List.set_cons_zero, List.set_cons_succ]
          refine wpAnyM_done (by kernel_rfl) ?_ _
          first | exact ⟨_, _, _, _, _, _, _, _, _, _, _, _, _, ⟨gx, mz.out, only_put4 (S := fun k => k = kb ∨ w1.heap.size ≤ k) Kx17.out (.inr gx) _ _ _ _ 0, Mx17.out.only (only_put4 (S := fun k => w1.heap.size ≤ k) (Only.refl _ _) gx _ _ _ _ 0) (by have := HM1.out.lt; omega)⟩, rfl⟩ | exact ⟨_, _, _, _, _, _, _, _, _, _, _, _, _, ⟨gx, mask_new_at _ _ rfl, only_swap Kx17.out gx, memo_swap Mx17.out gk⟩, rfl⟩
        · skip
          go_simp
          have mx18 : Hid (MaskAt (wx15.alloc (.cells #[.int .u64 0, .int .u64 0, .int .u64 0, .int .u64 0] 67)) wx15.heap.size (fun _ => false)) := by rw [mask_zero]; exact mask_new_at _ _ rfl
          have Kx18 : Hid (Only (fun k => k = kb ∨ w1.heap.size ≤ k) w1 (wx15.alloc (.cells #[.int .u64 0, .int .u64 0, .int .u64 0, .int .u64 0] 67))) := Kx15.out.trans (Only.of_below (below1 _ _))
          have Mx18 : Hid (MemoAt (wx15.alloc (.cells #[.int .u64 0, .int .u64 0, .int .u64 0, .int .u64 0] 67)) kb (OutQ zss O p)) := Mx15.out.below (below1 _ _)
          have gx : w1.heap.size ≤ wx15.heap.size := Kx15.out.size
          have gk : kb < wx15.heap.size := by have := HM1.out.lt; omega
          refine hK.out _ _ (fun _ => HSw.out _ Kx18.out) (fun hHeld => ?_)
          have hHeld := hHeld (by decide)
          clear hK K
          try simp only [Act.put, List.setIfInBounds_toArray, List.set_cons_zero, List.set_cons_succ]
          refine wpAnyM_one (i := 8) (by kernel_rfl) rfl (fun K hK => ?_)
          go_simp
          go_at_call 103
          refine (HSOL.out _ (HE1.out _ Kx18.out).1 (HE1.out _ Kx18.out).2 Mx18.out).mono ?_
          rintro e wx19 ⟨rfl, hb, hmm⟩
          have Kx19 : Hid (Only (fun k => k = kb ∨ w1.heap.size ≤ k) w1 wx19) := Kx18.out.trans (hb.mono fun k hk => by have := Kx18.out.size; omega)
          have Mx19 := Lib.hid hmm
          have mx19 := Lib.hid (mx18.out.only hb (by have := HM1.out.lt; have := mx18.out.lt; omega))
          clear hb hmm
          go_wp2_with fail
          refine hK.out _ _ (fun _ => HSw.out _ Kx19.out) (fun hHeld => ?_)
          have hHeld := hHeld (by decide)
          clear hK K
          try simp only [Act.put, List.setIfInBounds_toArray, List.set_cons_zero, List.set_cons_succ]
          refine wpAnyM_take (i := 11) (v := ?vm27) rfl (by kernel_rfl) (by decide) (by kernel_rfl) (by kernel_rfl) (by kernel_rfl) (fun _ _ _ h => h) (Or.inl ⟨by rfl, ?hm27⟩) (by assumption) ?_
          case hm27 => (intro w hSw; (try dsimp only at hSw); go_simp; rw [run_index0]; rfl)
          try simp only [Act.put, List.setIfInBounds_toArray, List.set_cons_zero, List.set_cons_succ]
          have mz := Lib.hid (mx19.out.put4 L)
          have z0 := mx19.out.c0
          have fz0 := mx19.out.frozen 0
          have z1 := mx19.out.c1
          have fz1 := mx19.out.frozen 1
          have z2 := mx19.out.c2
          have fz2 := mx19.out.frozen 2
          have z3 := mx19.out.c3
          have fz3 := mx19.out.frozen 3
          clear hHeld
          refine wpAnyM_one (i := 13) (by kernel_rfl) rfl (fun K hK => ?_)
          go_simp
          refine hK.out _ _ (fun h => absurd h (by decide)) (fun _ => ?_)
          clear hK K
          try simp only [Act.put, List.setIfInBounds_toArray, List.set_cons_zero, List.set_cons_succ]
          refine wpAnyM_done (by kernel_rfl) ?_ _
          first | exact ⟨_, _, _, _, _, _, _, _, _, _, _, _, _, ⟨gx, mz.out, only_put4 (S := fun k => k = kb ∨ w1.heap.size ≤ k) Kx19.out (.inr gx) _ _ _ _ 0, Mx19.out.only (only_put4 (S := fun k => w1.heap.size ≤ k) (Only.refl _ _) gx _ _ _ _ 0) (by have := HM1.out.lt; omega)⟩, rfl⟩ | exact ⟨_, _, _, _, _, _, _, _, _, _, _, _, _, ⟨gx, mask_new_at _ _ rfl, only_swap Kx19.out gx, memo_swap Mx19.out gk⟩, rfl⟩
      · skip
        go_simp
        have mx20 : Hid (MaskAt (wx14.alloc (.cells #[.int .u64 0, .int .u64 0, .int .u64 0, .int .u64 0] 67)) wx14.heap.size (fun _ => false)) := by rw [mask_zero]; exact mask_new_at _ _ rfl
        have Kx20 : Hid (Only (fun k => k = kb ∨ w1.heap.size ≤ k) w1 (wx14.alloc (.cells #[.int .u64 0, .int .u64 0, .int .u64 0, .int .u64 0] 67))) := Kx14.out.trans (Only.of_below (below1 _ _))
        have Mx20 : Hid (MemoAt (wx14.alloc (.cells #[.int .u64 0, .int .u64 0, .int .u64 0, .int .u64 0] 67)) kb (OutQ zss O p)) := Mx14.out.below (below1 _ _)
        have gx : w1.heap.size ≤ wx14.heap.size := Kx14.out.size
        have gk : kb < wx14.heap.size := by have := HM1.out.lt; omega
        refine hK.out _ _ (fun _ => HSw.out _ Kx20.out) (fun hHeld => ?_)
        have hHeld := hHeld (by decide)
        clear hK K
        try simp only [Act.put, List.setIfInBounds_toArray, List.set_cons_zero, List.set_cons_succ]
        refine wpAnyM_one (i := 7) (by kernel_rfl) rfl (fun K hK => ?_)
        go_simp
        go_at_call 136
        refine (mask_less _ _).mono ?_
        rintro e wx21 ⟨rfl, hb⟩
        have Kx21 := Lib.hid (Kx20.out.trans (Only.of_below hb))
        have Mx21 := Lib.hid (Mx20.out.below hb)
        have mx21 := Lib.hid (mx20.out.below hb)
        clear hb
        go_wp2_with fail
        refine hK.out _ _ (fun _ => HSw.out _ Kx21.out) (fun hHeld => ?_)
        have hHeld := hHeld (by decide)
        clear hK K
        try simp only [Act.put, List.setIfInBounds_toArray, List.set_cons_zero, List.set_cons_succ]
        refine wpAnyM_one (i := 8) (by kernel_rfl) rfl (fun K hK => ?_)
        go_simp
        go_at_call 103
        refine (HSOL.out _ (HE1.out _ Kx21.out).1 (HE1.out _ Kx21.out).2 Mx21.out).mono ?_
        rintro e wx22 ⟨rfl, hb, hmm⟩
        have Kx22 : Hid (Only (fun k => k = kb ∨ w1.heap.size ≤ k) w1 wx22) := Kx21.out.trans (hb.mono fun k hk => by have := Kx21.out.size; omega)
        have Mx22 := Lib.hid hmm
        have mx22 := Lib.hid (mx21.out.only hb (by have := HM1.out.lt; have := mx21.out.lt; omega))
        clear hb hmm
        go_wp2_with fail
        refine hK.out _ _ (fun _ => HSw.out _ Kx22.out) (fun hHeld => ?_)
        have hHeld := hHeld (by decide)
        clear hK K
        try simp only [Act.put, List.setIfInBounds_toArray, List.set_cons_zero, List.set_cons_succ]
        refine wpAnyM_take (i := 11) (v := ?vm28) rfl (by kernel_rfl) (by decide) (by kernel_rfl) (by kernel_rfl) (by kernel_rfl) (fun _ _ _ h => h) (Or.inl ⟨by rfl, ?hm28⟩) (by assumption) ?_
        case hm28 => (intro w hSw; (try dsimp only at hSw); go_simp; rw [run_index0]; rfl)
        try simp only [Act.put, List.setIfInBounds_toArray, List.set_cons_zero, List.set_cons_succ]
        have mz := Lib.hid (mx22.out.put4 L)
        have z0 := mx22.out.c0
        have fz0 := mx22.out.frozen 0
        have z1 := mx22.out.c1
        have fz1 := mx22.out.frozen 1
        have z2 := mx22.out.c2
        have fz2 := mx22.out.frozen 2
        have z3 := mx22.out.c3
        have fz3 := mx22.out.frozen 3
        clear hHeld
        refine wpAnyM_one (i := 13) (by kernel_rfl) rfl (fun K hK => ?_)
        go_simp
        refine hK.out _ _ (fun h => absurd h (by decide)) (fun _ => ?_)
        clear hK K
        try simp only [Act.put, List.setIfInBounds_toArray, List.set_cons_zero, List.set_cons_succ]
        refine wpAnyM_done (by kernel_rfl) ?_ _
        first | exact ⟨_, _, _, _, _, _, _, _, _, _, _, _, _, ⟨gx, mz.out, only_put4 (S := fun k => k = kb ∨ w1.heap.size ≤ k) Kx22.out (.inr gx) _ _ _ _ 0, Mx22.out.only (only_put4 (S := fun k => w1.heap.size ≤ k) (Only.refl _ _) gx _ _ _ _ 0) (by have := HM1.out.lt; omega)⟩, rfl⟩ | exact ⟨_, _, _, _, _, _, _, _, _, _, _, _, _, ⟨gx, mask_new_at _ _ rfl, only_swap Kx22.out gx, memo_swap Mx22.out gk⟩, rfl⟩
    · skip
      go_simp
      have mx23 : Hid (MaskAt (w1.drew.alloc (.cells #[.int .u64 0, .int .u64 0, .int .u64 0, .int .u64 0] 67)) w1.heap.size (fun _ => false)) := by rw [mask_zero]; exact mask_new_at _ _ rfl
      have Kx23 : Hid (Only (fun k => k = kb ∨ w1.heap.size ≤ k) w1 (w1.drew.alloc (.cells #[.int .u64 0, .int .u64 0, .int .u64 0, .int .u64 0] 67))) := Kd.out.trans (Only.of_below (below1 _ _))
      have Mx23 : Hid (MemoAt (w1.drew.alloc (.cells #[.int .u64 0, .int .u64 0, .int .u64 0, .int .u64 0] 67)) kb (OutQ zss O p)) := Md.out.below (below1 _ _)
      have gx : w1.heap.size ≤ w1.heap.size := Kd.out.size
      have gk : kb < w1.heap.size := by have := HM1.out.lt; omega
      refine hK.out _ _ (fun _ => HSw.out _ Kx23.out) (fun hHeld => ?_)
      have hHeld := hHeld (by decide)
      clear hK K
      try simp only [Act.put, List.setIfInBounds_toArray, List.set_cons_zero, List.set_cons_succ]
      refine wpAnyM_one (i := 6) (by kernel_rfl) rfl (fun K hK => ?_)
      go_simp
      go_at_call 135
      refine (HA.out _ (HE1.out _ Kx23.out).1 (HE1.out _ Kx23.out).2).mono ?_
      rintro e wx24 ⟨rfl, hb⟩
      have Kx24 := Lib.hid (Kx23.out.trans (Only.of_below hb))
      have Mx24 := Lib.hid (Mx23.out.below hb)
      have mx24 := Lib.hid (mx23.out.below hb)
      clear hb
      go_wp2_with fail
      refine hK.out _ _ (fun _ => HSw.out _ Kx24.out) (fun hHeld => ?_)
      have hHeld := hHeld (by decide)
      clear hK K
      try simp only [Act.put, List.setIfInBounds_toArray, List.set_cons_zero, List.set_cons_succ]
      refine wpAnyM_one (i := 7) (by kernel_rfl) rfl (fun K hK => ?_)
      go_simp
      go_at_call 136
      refine (mask_less _ _).mono ?_
      rintro e wx25 ⟨rfl, hb⟩
      have Kx25 := Lib.hid (Kx24.out.trans (Only.of_below hb))
      have Mx25 := Lib.hid (Mx24.out.below hb)
      have mx25 := Lib.hid (mx24.out.below hb)
      clear hb
      go_wp2_with fail
      refine hK.out _ _ (fun _ => HSw.out _ Kx25.out) (fun hHeld => ?_)
      have hHeld := hHeld (by decide)
      clear hK K
      try simp only [Act.put, List.setIfInBounds_toArray, List.set_cons_zero, List.set_cons_succ]
      refine wpAnyM_one (i := 8) (by kernel_rfl) rfl (fun K hK => ?_)
      go_simp
      go_at_call 103
      refine (HSOL.out _ (HE1.out _ Kx25.out).1 (HE1.out _ Kx25.out).2 Mx25.out).mono ?_
      rintro e wx26 ⟨rfl, hb, hmm⟩
      have Kx26 : Hid (Only (fun k => k = kb ∨ w1.heap.size ≤ k) w1 wx26) := Kx25.out.trans (hb.mono fun k hk => by have := Kx25.out.size; omega)
      have Mx26 := Lib.hid hmm
      have mx26 := Lib.hid (mx25.out.only hb (by have := HM1.out.lt; have := mx25.out.lt; omega))
      clear hb hmm
      go_wp2_with fail
      refine hK.out _ _ (fun _ => HSw.out _ Kx26.out) (fun hHeld => ?_)
      have hHeld := hHeld (by decide)
      clear hK K
      try simp only [Act.put, List.setIfInBounds_toArray, List.set_cons_zero, List.set_cons_succ]
      refine wpAnyM_take (i := 11) (v := ?vm29) rfl (by kernel_rfl) (by decide) (by kernel_rfl) (by kernel_rfl) (by kernel_rfl) (fun _ _ _ h => h) (Or.inl ⟨by rfl, ?hm29⟩) (by assumption) ?_
      case hm29 => (intro w hSw; (try dsimp only at hSw); go_simp; rw [run_index0]; rfl)
      try simp only [Act.put, List.setIfInBounds_toArray, List.set_cons_zero, List.set_cons_succ]
      have mz := Lib.hid (mx26.out.put4 L)
      have z0 := mx26.out.c0
      have fz0 := mx26.out.frozen 0
      have z1 := mx26.out.c1
      have fz1 := mx26.out.frozen 1
      have z2 := mx26.out.c2
      have fz2 := mx26.out.frozen 2
      have z3 := mx26.out.c3
      have fz3 := mx26.out.frozen 3
      clear hHeld
      refine wpAnyM_one (i := 13) (by kernel_rfl) rfl (fun K hK => ?_)
      go_simp
      refine hK.out _ _ (fun h => absurd h (by decide)) (fun _ => ?_)
      clear hK K
      try simp only [Act.put, List.setIfInBounds_toArray, List.set_cons_zero, List.set_cons_succ]
      refine wpAnyM_done (by kernel_rfl) ?_ _
      first | exact ⟨_, _, _, _, _, _, _, _, _, _, _, _, _, ⟨gx, mz.out, only_put4 (S := fun k => k = kb ∨ w1.heap.size ≤ k) Kx26.out (.inr gx) _ _ _ _ 0, Mx26.out.only (only_put4 (S := fun k => w1.heap.size ≤ k) (Only.refl _ _) gx _ _ _ _ 0) (by have := HM1.out.lt; omega)⟩, rfl⟩ | exact ⟨_, _, _, _, _, _, _, _, _, _, _, _, _, ⟨gx, mask_new_at _ _ rfl, only_swap Kx26.out gx, memo_swap Mx26.out gk⟩, rfl⟩
  case rest2 =>
    rintro a' wx ⟨gL, u13, u14, u15, u16, u17, u18, u19, u20, u21, u22, u23, u24, ⟨hgL, HL, Ox, Mx⟩, rfl⟩
    have c0 := HL.out.c0
    have c1 := HL.out.c1
    have c2 := HL.out.c2
    have c3 := HL.out.c3
    have hh1 := HS1.out
    have hh2 := HKW.out
    have bSx := Lib.hid (bS.out.only Ox.out (by omega))
    have bRx := Lib.hid (bR.out.only Ox.out (by omega))
    have HCE := Lib.hid (fun w => mask_isEmpty (w := w) L HRR.out)
    clear HSw Kd Md HE1 HM HM1 bS bT bR hh1 hh2
    cases hr : r with
    | true =>
      rw [hr] at HCE
      go_wp2_with (go_at_call 131; refine (HCE.out _).mono ?_; rintro e wy ⟨rfl, hb⟩; have Ky := Lib.hid hb; clear hb)
      have HSv : Hid (∀ W', Below wy.heap.size wy W' → W'.cell? ⟨w.heap.size, 0, none⟩ = some (.int .u64 (maskW S 0)) ∧ W'.cell? ⟨w.heap.size, 1, none⟩ = some (.int .u64 (maskW S 1)) ∧ W'.cell? ⟨w.heap.size, 2, none⟩ = some (.int .u64 (maskW S 2)) ∧ W'.cell? ⟨w.heap.size, 3, none⟩ = some (.int .u64 (maskW S 3))) := fun W' hb => by
        have m1 := (bSx.out.below Ky.out).below hb
        exact ⟨m1.c0, m1.c1, m1.c2, m1.c3⟩
      have Ke : Hid (Below wy.heap.size wy wy.drew) := (Below.refl _ _).drew
      go_wp2_with fail
      refine wp_region_M (S := (fun W' => W'.cell? ⟨w.heap.size, 0, none⟩ = some (.int .u64 (maskW S 0)) ∧ W'.cell? ⟨w.heap.size, 1, none⟩ = some (.int .u64 (maskW S 1)) ∧ W'.cell? ⟨w.heap.size, 2, none⟩ = some (.int .u64 (maskW S 2)) ∧ W'.cell? ⟨w.heap.size, 3, none⟩ = some (.int .u64 (maskW S 3)))) (m := 3) (by kernel_rfl) (HSv.out _ Ke.out) (fun hHeld => ?_)
      refine wpAnyM_take (i := 0) (v := ?vm30) rfl (by kernel_rfl) (by decide) (by kernel_rfl) (by kernel_rfl) (by kernel_rfl) (fun _ _ _ h => h) (Or.inl ⟨by rfl, ?hm30⟩) (by assumption) ?_
      case hm30 => (intro w hSw; (try dsimp only at hSw); go_simp; first | done | with_reducible rfl)
      try simp only [Act.put, List.setIfInBounds_toArray, List.set_cons_zero, List.set_cons_succ]
      refine wpAnyM_take (i := 1) (v := ?vm31) rfl (by kernel_rfl) (by decide) (by kernel_rfl) (by kernel_rfl) (by kernel_rfl) (fun _ _ _ h => h) (Or.inl ⟨by rfl, ?hm31⟩) (by assumption) ?_
      case hm31 => (intro w hSw; (try dsimp only at hSw); go_simp; first | done | with_reducible rfl)
      try simp only [Act.put, List.setIfInBounds_toArray, List.set_cons_zero, List.set_cons_succ]
      refine wpAnyM_one (i := 2) (by kernel_rfl) rfl (fun K hK => ?_)
      go_simp
      refine hK.out _ _ (fun _ => HSv.out _ Ke.out) (fun hHeld => ?_)
      have hHeld := hHeld (by decide)
      clear hK K
      try simp only [Act.put, List.setIfInBounds_toArray, List.set_cons_zero, List.set_cons_succ]
      have mA : MaskAt wy (w.heap.size + 1 + 1) (fun _ => false) := bRx.out.below Ky.out
      have z0 := mA.c0
      have fz0 := mA.frozen 0
      have z1 := mA.c1
      have fz1 := mA.frozen 1
      have z2 := mA.c2
      have fz2 := mA.frozen 2
      have z3 := mA.c3
      have fz3 := mA.frozen 3
      have mq := Lib.hid (mA.put4 S)
      clear hHeld mA
      refine wpAnyM_one (i := 3) (by kernel_rfl) rfl (fun K hK => ?_)
      go_simp
      refine hK.out _ _ (fun h => absurd h (by decide)) (fun _ => ?_)
      clear hK K
      try simp only [Act.put, List.setIfInBounds_toArray, List.set_cons_zero, List.set_cons_succ]
      refine wpAnyM_done (by kernel_rfl) ?_ _
      go_wp2_with fail
      refine ret_num_mask (K := S) (g := w.heap.size + 1 + 1) rfl rfl mq.out ⟨by rw [hr]; first | rfl | (rw [show IntKind.i64.wrap 1 = 1 from rfl]; rfl) | (rw [show IntKind.i64.wrap 0 = 0 from rfl]; rfl), ?_, ?_⟩
      · refine only_drew ?_
        exact only_put4 (S := fun k => k = kb ∨ w.heap.size ≤ k) (((Only.of_below HB.out |>.mono fun k hk => by exact hk).trans (Ox.out.mono fun k hk => by have := HS1.out; omega)).trans (Only.of_below Ky.out)) (.inr (by omega)) _ _ _ _ 0
      · exact ((Mx.out.below Ky.out).only (only_put4 (S := fun k => k = w.heap.size + 1 + 1) (Only.refl _ _) rfl _ _ _ _ 0) (by have := HKW.out; omega)).below (Below.refl _ _).drew
    | false =>
      rw [hr] at HCE
      go_wp2_with (go_at_call 131; refine (HCE.out _).mono ?_; rintro e wy ⟨rfl, hb⟩; have Ky := Lib.hid hb; clear hb)
      have HSv : Hid (∀ W', Below wy.heap.size wy W' → W'.cell? ⟨gL, 0, none⟩ = some (.int .u64 (maskW L 0)) ∧ W'.cell? ⟨gL, 1, none⟩ = some (.int .u64 (maskW L 1)) ∧ W'.cell? ⟨gL, 2, none⟩ = some (.int .u64 (maskW L 2)) ∧ W'.cell? ⟨gL, 3, none⟩ = some (.int .u64 (maskW L 3))) := fun W' hb => by
        have m1 := (HL.out.below Ky.out).below hb
        exact ⟨m1.c0, m1.c1, m1.c2, m1.c3⟩
      have Ke : Hid (Below wy.heap.size wy wy.drew) := (Below.refl _ _).drew
      go_wp2_with fail
      refine wp_region_M (S := (fun W' => W'.cell? ⟨gL, 0, none⟩ = some (.int .u64 (maskW L 0)) ∧ W'.cell? ⟨gL, 1, none⟩ = some (.int .u64 (maskW L 1)) ∧ W'.cell? ⟨gL, 2, none⟩ = some (.int .u64 (maskW L 2)) ∧ W'.cell? ⟨gL, 3, none⟩ = some (.int .u64 (maskW L 3)))) (m := 4) (by kernel_rfl) (HSv.out _ Ke.out) (fun hHeld => ?_)
      refine wpAnyM_take (i := 0) (v := ?vm32) rfl (by kernel_rfl) (by decide) (by kernel_rfl) (by kernel_rfl) (by kernel_rfl) (fun _ _ _ h => h) (Or.inl ⟨by rfl, ?hm32⟩) (by assumption) ?_
      case hm32 => (intro w hSw; (try dsimp only at hSw); go_simp; first | done | with_reducible rfl)
      try simp only [Act.put, List.setIfInBounds_toArray, List.set_cons_zero, List.set_cons_succ]
      refine wpAnyM_take (i := 1) (v := ?vm33) rfl (by kernel_rfl) (by decide) (by kernel_rfl) (by kernel_rfl) (by kernel_rfl) (fun _ _ _ h => h) (Or.inl ⟨by rfl, ?hm33⟩) (by assumption) ?_
      case hm33 => (intro w hSw; (try dsimp only at hSw); go_simp; first | done | with_reducible rfl)
      try simp only [Act.put, List.setIfInBounds_toArray, List.set_cons_zero, List.set_cons_succ]
      refine wpAnyM_take (i := 2) (v := ?vm34) rfl (by kernel_rfl) (by decide) (by kernel_rfl) (by kernel_rfl) (by kernel_rfl) (fun _ _ _ h => h) (Or.inl ⟨by rfl, ?hm34⟩) (by assumption) ?_
      case hm34 => (intro w hSw; (try dsimp only at hSw); go_simp; first | done | with_reducible rfl)
      try simp only [Act.put, List.setIfInBounds_toArray, List.set_cons_zero, List.set_cons_succ]
      refine wpAnyM_one (i := 3) (by kernel_rfl) rfl (fun K hK => ?_)
      go_simp
      refine hK.out _ _ (fun _ => HSv.out _ Ke.out) (fun hHeld => ?_)
      have hHeld := hHeld (by decide)
      clear hK K
      try simp only [Act.put, List.setIfInBounds_toArray, List.set_cons_zero, List.set_cons_succ]
      have mA : MaskAt wy (w.heap.size + 1 + 1) (fun _ => false) := bRx.out.below Ky.out
      have z0 := mA.c0
      have fz0 := mA.frozen 0
      have z1 := mA.c1
      have fz1 := mA.frozen 1
      have z2 := mA.c2
      have fz2 := mA.frozen 2
      have z3 := mA.c3
      have fz3 := mA.frozen 3
      have mq := Lib.hid (mA.put4 L)
      clear hHeld mA
      refine wpAnyM_one (i := 4) (by kernel_rfl) rfl (fun K hK => ?_)
      go_simp
      refine hK.out _ _ (fun h => absurd h (by decide)) (fun _ => ?_)
      clear hK K
      try simp only [Act.put, List.setIfInBounds_toArray, List.set_cons_zero, List.set_cons_succ]
      refine wpAnyM_done (by kernel_rfl) ?_ _
      go_wp2_with fail
      refine ret_num_mask (K := L) (g := w.heap.size + 1 + 1) rfl rfl mq.out ⟨by rw [hr]; first | rfl | (rw [show IntKind.i64.wrap 1 = 1 from rfl]; rfl) | (rw [show IntKind.i64.wrap 0 = 0 from rfl]; rfl), ?_, ?_⟩
      · refine only_drew ?_
        exact only_put4 (S := fun k => k = kb ∨ w.heap.size ≤ k) (((Only.of_below HB.out |>.mono fun k hk => by exact hk).trans (Ox.out.mono fun k hk => by have := HS1.out; omega)).trans (Only.of_below Ky.out)) (.inr (by omega)) _ _ _ _ 0
      · exact ((Mx.out.below Ky.out).only (only_put4 (S := fun k => k = w.heap.size + 1 + 1) (Only.refl _ _) rfl _ _ _ _ 0) (by have := HKW.out; omega)).below (Below.refl _ _).drew
end
end Go.Proofs.YtphkgnpkcfbnkabDoor
