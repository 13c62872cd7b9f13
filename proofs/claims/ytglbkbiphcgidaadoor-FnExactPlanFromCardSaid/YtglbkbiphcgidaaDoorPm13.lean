import Derived.Test.YtglbkbiphcgidaaDoorPm12
namespace Go.Proofs.YtglbkbiphcgidaaDoor
section
open Go.RowKit Go.Shelf
attribute [local go_sem] Oper.semAt_some
theorem JH {w : World} {kb : Nat} {Q : (Nat → Bool) → Value → Prop} (hM : dH w kb Q) (hT : dS w) : kb ≠ 1 := fun e => by
 obtain ⟨es, c, h, _⟩ := hM
 have h1 := hT 0 (by omega)
 rw [← e] at h1
 simp [World.cell?, h] at h1
theorem ahi {P : Program} {fn : Func} {q p : Tmp} {ty : TypeId} (h : fn.results = #[.tmp q, .cell p ty]) (tmps : Array Value) (w : World) (g : Nat) (t : TypeId) (cs : Array Value) (fr : Nat × Nat) (d : TypeDesc)
 (hp : tmps.getD p undef = .pointer (some ⟨g, 0, none⟩)) (hg : w.heap[g]? = some (.cells cs t fr))
 (hu : P.underlying ty = some d) (hd : (match d with | .struct _ | .array _ _ => true | _ => false) = true) (hi : (P.info? ty).map (·.size) = some cs.size) :
 (results fn tmps).run P w = .ok (.tuple #[tmps.getD q undef, .agg cs]) w := by
 have hp' : tmps[p]?.getD undef = .pointer (some ⟨g, 0, none⟩) := by simpa using hp
 simp [results, h, hp', asAddr, run_loadVar_row w g t ty cs fr d hg hu hd hi]
theorem Pg {fn : Func} {q p : Tmp} {tmps : Array Value} {W : World} {g : Nat} {K : Nat → Bool} {R : Ending → World → Prop} (hr : fn.results = #[.tmp q, .cell p 69]) (hp : tmps.getD p undef = .pointer (some ⟨g, 0, none⟩))
 (hM : aH W g K) (hR : R (.returned (.tuple #[tmps.getD q undef, aW K])) W) : bodyPost Tryd.prog fn R .ret { tmps := tmps, defers := [] } W :=
 bodyPost_ret (v := .tuple #[tmps.getD q undef, aW K]) (ahi hr tmps _ g _ _ _ (.array 4 67) hp hM (by kernel_rfl) rfl (by kernel_rfl)) rfl hR
def gQ (ah : List (List Int)) (O : List Int) (p : Nat → Int) (J : Nat → Bool) (u : Value) : Prop := u = jc (dM ah O p J 0) (dM ah O p J 1)
theorem JI (w : World) (I J : Nat → Bool) : (Instr.index 71 (jc I J) (.int .i64 (IntKind.i64.wrap 0))).run Tryd.prog w = .ok (aW I) w := by
 have h : ∀ a b c d e f g h : Value, (Instr.index 71 (.agg #[a, b, c, d, e, f, g, h]) (.int .i64 (IntKind.i64.wrap 0))).run Tryd.prog w = .ok (.agg #[a, b, c, d]) w := fun a b c d e f g h => by kernel_rfl
 exact h _ _ _ _ _ _ _ _
theorem JK (w : World) (I J : Nat → Bool) : (Instr.index 71 (jc I J) (.int .i64 (IntKind.i64.wrap 1))).run Tryd.prog w = .ok (aW J) w := by
 have h : ∀ a b c d e f g h : Value, (Instr.index 71 (.agg #[a, b, c, d, e, f, g, h]) (.int .i64 (IntKind.i64.wrap 1))).run Tryd.prog w = .ok (.agg #[e, f, g, h]) w := fun a b c d e f g h => by kernel_rfl
 exact h _ _ _ _ _ _ _ _
theorem BJ {w X : World} {kb : Nat} {o o' : Obj} (h : Only (fun k => k = kb ∨ w.heap.size ≤ k) w (X.alloc o)) (hg : w.heap.size ≤ X.heap.size) : Only (fun k => k = kb ∨ w.heap.size ≤ k) w (X.alloc o') :=
 ⟨h.os, h.tape, h.output, Nat.le_trans h.size (by simp), fun i hi hk => ((aA X o').block i (by omega)).trans (((aA X o).block i (by omega)).symm.trans (h.block i hi hk))⟩
theorem BK {X : World} {kb : Nat} {Q : (Nat → Bool) → Value → Prop} {o o' : Obj} (h : dH (X.alloc o) kb Q) (hg : kb < X.heap.size) : dH (X.alloc o') kb Q := by
 obtain ⟨es, c, h1, h2⟩ := h
 exact ⟨es, c, ((aA X o').block kb hg).trans (((aA X o).block kb hg).symm.trans h1), h2⟩
def BL (ah : List (List Int)) (O : List Int) (p : Nat → Int) (b n nb pb kb : Nat) (Ow Lv E Pd : Nat → Nat → Bool) (J : Nat → Bool) : Prop :=
 ∀ w, dS w → dX w b n nb pb kb Ow Lv E Pd → dH w kb (gQ ah O p) →
  Calls Tryd.prog 102 #[.pointer (some ⟨b, 0, none⟩), aW J] w fun e w' => e = .returned (jc (dM ah O p J 0) (dM ah O p J 1)) ∧ Only (fun k => k = kb ∨ w.heap.size ≤ k) w w' ∧ dH w' kb (gQ ah O p)
set_option linter.unusedSimpArgs false in
set_option maxRecDepth 100000 in
set_option maxHeartbeats 8000000 in
theorem ahj {w : World} {b n nb pb kb top : Nat} {Ow Lv E Pd : Nat → Nat → Bool} {ah : List (List Int)} {O : List Int} {p : Nat → Int} {S T : Nat → Bool} (hT : dS w) (hR : dX w b n nb pb kb Ow Lv E Pd) (hM : dH w kb (gQ ah O p)) (hG : jC ah O n Ow E Pd) (htop : top < 1000) (hij : top % 2 = 0)
 (hS : ∀ v, S v = true → v < n) (sH : ∀ v, T v = true → S v = true) (JL : BL ah O p b n nb pb kb Ow Lv E Pd (aQ S (aN ah O 0 S T))) {r : Bool} (hr : lQ (dM ah O p (aQ S (aN ah O 0 S T)) 1) = r) :
 Calls Tryd.prog 131 #[.pointer (some ⟨b, 0, none⟩), aW S, .int .i64 (top : Int), aW T] w fun e w' => e = .returned (.tuple #[.int .i64 (cond r 0 1), aW (cond r S (dM ah O p (aQ S (aN ah O 0 S T)) 1))]) ∧ Only (fun k => k = kb ∨ w.heap.size ≤ k) w w' ∧ dH w' kb (gQ ah O p) := by
 have hkt := JH hM hT
 have HTS := Lib.hid sH
 have nD := Lib.hid JL
 have HM := Lib.hid hM
 have qj : Hid (kb < w.heap.size) := hM.lt
 have eU : Hid (∀ W', Only (fun k => k = kb ∨ w.heap.size ≤ k) w W' → dS W' ∧ dX W' b n nb pb kb Ow Lv E Pd) := fun W' ho =>
  ⟨hT.only ho (by have := hT.lt; omega), hR.only ho (by have := hR.lt; have := hR.apart; omega) (by have := hR.lt; have := hR.apart; omega) (by have := hR.lt; have := hR.apart; omega)⟩
 have HA : Hid (∀ W', dS W' → dX W' b n nb pb kb Ow Lv E Pd → Calls Tryd.prog 132 #[.pointer (some ⟨b, 0, none⟩), .int .i64 0, aW S, aW T] W' fun e w' => e = .returned (aW (aN ah O 0 S T)) ∧ Below W'.heap.size W' w') := fun W' a b' => NZ (i := 0) a b' hG (by omega) hS sH
 obtain ⟨D, hD⟩ : ∃ D, aN ah O 0 S T = D := ⟨_, rfl⟩
 rw [hD] at HA nD hr ⊢
 obtain ⟨L, hL⟩ : ∃ L, dM ah O p (aQ S D) 1 = L := ⟨_, rfl⟩
 obtain ⟨M, JM⟩ : ∃ M, dM ah O p (aQ S D) 0 = M := ⟨_, rfl⟩
 unfold BL at nD
 rw [hL] at nD hr ⊢
 rw [JM] at nD
 have HRR := Lib.hid hr
 have eI : ((top : Int) % 2) = 0 := by omega
 clear hT hR hG hS sH JL hM hr hkt hij hD hL JM
 go_enter Tryd.func131, Tryd.ntmps131
 go_wp2_with fail
 simp only [eI]
 obtain ⟨w1, hw1⟩ : ∃ y, y = (((w.alloc (.cells #[.int .u64 (aj S 0), .int .u64 (aj S 1), .int .u64 (aj S 2), .int .u64 (aj S 3)] 69)).alloc (.cells #[.int .u64 (aj T 0), .int .u64 (aj T 1), .int .u64 (aj T 2), .int .u64 (aj T 3)] 69)).alloc (.cells #[.int .u64 0, .int .u64 0, .int .u64 0, .int .u64 0] 69)) := ⟨_, rfl⟩
 rw [← hw1]
 have HB : Hid (Below w.heap.size w w1) := by
  rw [hw1]
  exact (((Below.refl _ _).alloc (Nat.le_refl _) _).alloc (by simp) _).alloc (by simp; omega) _
 have bS : Hid (aH w1 (w.heap.size) S) := by
  rw [hw1]; exact ((dP S _ (by simp)).below (aA _ _)).below (aA _ _)
 have bT : Hid (aH w1 (w.heap.size + 1) T) := by
  rw [hw1]; exact (dP T _ (by simp)).below (aA _ _)
 have bR : Hid (aH w1 (w.heap.size + 1 + 1) (fun _ => false)) := by
  rw [hw1, jP]; exact dP _ _ (by simp)
 have cO : Hid (w1.heap.size = w.heap.size + 3) := by rw [hw1]; simp [Hid]
 clear hw1
 have gq := Lib.hid (HM.out.below HB.out)
 have aC : Hid (∀ W', Only (fun k => k = kb ∨ w1.heap.size ≤ k) w1 W' → W'.cell? ⟨w.heap.size, 0, none⟩ = some (.int .u64 (aj S 0)) ∧ W'.cell? ⟨w.heap.size, 1, none⟩ = some (.int .u64 (aj S 1)) ∧ W'.cell? ⟨w.heap.size, 2, none⟩ = some (.int .u64 (aj S 2)) ∧ W'.cell? ⟨w.heap.size, 3, none⟩ = some (.int .u64 (aj S 3)) ∧ W'.cell? ⟨w.heap.size + 1, 0, none⟩ = some (.int .u64 (aj T 0)) ∧ W'.cell? ⟨w.heap.size + 1, 1, none⟩ = some (.int .u64 (aj T 1)) ∧ W'.cell? ⟨w.heap.size + 1, 2, none⟩ = some (.int .u64 (aj T 2)) ∧ W'.cell? ⟨w.heap.size + 1, 3, none⟩ = some (.int .u64 (aj T 3))) := fun W' ho => by
  have h1 := cO.out
  have h2 := qj.out
  have m1 := bS.out.only ho (by omega)
  have m2 := bT.out.only ho (by omega)
  exact ⟨m1.c0, m1.c1, m1.c2, m1.c3, m2.c0, m2.c1, m2.c2, m2.c3⟩
 have Kd : Hid (Only (fun k => k = kb ∨ w1.heap.size ≤ k) w1 w1.drew) := kS (Only.refl _ _)
 have Md : Hid (dH w1.drew kb (gQ ah O p)) := gq.out.below (Below.refl _ _).drew
 have fH : Hid (∀ W', Only (fun k => k = kb ∨ w1.heap.size ≤ k) w1 W' → dS W' ∧ dX W' b n nb pb kb Ow Lv E Pd) := fun W' ho => eU.out _ ((Only.of_below HB.out |>.mono fun k hk => by exact hk).trans (ho.mono fun k hk => by have := cO.out; omega))
 refine wp_cut (fun a' wx => ∃ (gL : Nat) (u13 u14 u15 u16 iT jJ kU u20 u21 u22 u23 u24 : Value), (w1.heap.size ≤ gL ∧ Hid (aH wx gL L) ∧ Hid (Only (fun k => k = kb ∨ w1.heap.size ≤ k) w1 wx) ∧ Hid (dH wx kb (gQ ah O p))) ∧ a' = { tmps := #[.pointer (some ⟨b, 0, none⟩), aW S, .int .i64 (top : Int), aW T, undef, .pointer (some ⟨w.heap.size, 0, none⟩), undef, .pointer (some ⟨w.heap.size + 1, 0, none⟩), .int .i64 0, .pointer (some ⟨w.heap.size + 1 + 1, 0, none⟩), .pointer (some ⟨gL, 0, none⟩), .int .i64 (top : Int), .int .i64 0, u13, u14, u15, u16, iT, jJ, kU, u20, u21, u22, u23, u24, undef, undef, undef, undef, undef, undef, undef], defers := [] }) ?Vl ?Vm
 case Vl =>
  refine jB (S := (fun W' => W'.cell? ⟨w.heap.size, 0, none⟩ = some (.int .u64 (aj S 0)) ∧ W'.cell? ⟨w.heap.size, 1, none⟩ = some (.int .u64 (aj S 1)) ∧ W'.cell? ⟨w.heap.size, 2, none⟩ = some (.int .u64 (aj S 2)) ∧ W'.cell? ⟨w.heap.size, 3, none⟩ = some (.int .u64 (aj S 3)) ∧ W'.cell? ⟨w.heap.size + 1, 0, none⟩ = some (.int .u64 (aj T 0)) ∧ W'.cell? ⟨w.heap.size + 1, 1, none⟩ = some (.int .u64 (aj T 1)) ∧ W'.cell? ⟨w.heap.size + 1, 2, none⟩ = some (.int .u64 (aj T 2)) ∧ W'.cell? ⟨w.heap.size + 1, 3, none⟩ = some (.int .u64 (aj T 3)))) (m := 13) (by kernel_rfl) (aC.out _ Kd.out) (fun hHd => ?_)
  refine aB (i := 0) (v := ?rW) rfl (by kernel_rfl) (by decide) (by kernel_rfl) (by kernel_rfl) (by kernel_rfl) (fun _ _ _ h => h) (Or.inl ⟨by rfl, ?hm1⟩) (by assumption) ?_
  case hm1 => (intro w hSw; (try dsimp only at hSw); go_simp; first | done | with_reducible rfl)
  try simp only [Act.put, g1, g2, g3]
  refine aB (i := 1) (v := ?rZ) rfl (by kernel_rfl) (by decide) (by kernel_rfl) (by kernel_rfl) (by kernel_rfl) (fun _ _ _ h => h) (Or.inl ⟨by rfl, ?hm2⟩) (by assumption) ?_
  case hm2 => (intro w hSw; (try dsimp only at hSw); go_simp; first | done | with_reducible rfl)
  try simp only [Act.put, g1, g2, g3]
  refine aB (i := 2) (v := ?su) rfl (by kernel_rfl) (by decide) (by kernel_rfl) (by kernel_rfl) (by kernel_rfl) (fun _ _ _ h => h) (Or.inl ⟨by rfl, ?iR⟩) (by assumption) ?_
  case iR => (intro w hSw; (try dsimp only at hSw); go_simp; first | done | with_reducible rfl)
  try simp only [Act.put, g1, g2, g3]
  refine aB (i := 3) (v := ?uF) rfl (by kernel_rfl) (by decide) (by kernel_rfl) (by kernel_rfl) (by kernel_rfl) (fun _ _ _ h => h) (Or.inl ⟨by rfl, ?hm4⟩) (by assumption) ?_
  case hm4 => (intro w hSw; (try dsimp only at hSw); go_simp; first | done | with_reducible rfl)
  try simp only [Act.put, g1, g2, g3]
  refine aB (i := 4) (v := ?wW) rfl (by kernel_rfl) (by decide) (by kernel_rfl) (by kernel_rfl) (by kernel_rfl) (fun _ _ _ h => h) (Or.inl ⟨by rfl, ?jQ⟩) (by assumption) ?_
  case jQ => (intro w hSw; (try dsimp only at hSw); go_simp; first | done | with_reducible rfl)
  try simp only [Act.put, g1, g2, g3]
  refine aB (i := 5) (v := ?yF) rfl (by kernel_rfl) (by decide) (by kernel_rfl) (by kernel_rfl) (by kernel_rfl) (fun _ _ _ h => h) (Or.inl ⟨by rfl, ?kV⟩) (by assumption) ?_
  case kV => (intro w hSw; (try dsimp only at hSw); go_simp; first | done | with_reducible rfl)
  try simp only [Act.put, g1, g2, g3]
  refine aB (i := 9) (v := ?AX) rfl (by kernel_rfl) (by decide) (by kernel_rfl) (by kernel_rfl) (by kernel_rfl) (fun _ _ _ h => h) (Or.inl ⟨by rfl, ?mV⟩) (by assumption) ?_
  case mV => (intro w hSw; (try dsimp only at hSw); go_simp; first | done | with_reducible rfl)
  try simp only [Act.put, g1, g2, g3]
  refine aB (i := 10) (v := ?AZ) rfl (by kernel_rfl) (by decide) (by kernel_rfl) (by kernel_rfl) (by kernel_rfl) (fun _ _ _ h => h) (Or.inl ⟨by rfl, ?mW⟩) (by assumption) ?_
  case mW => (intro w hSw; (try dsimp only at hSw); go_simp; first | done | with_reducible rfl)
  try simp only [Act.put, g1, g2, g3]
  refine jA (i := 6) (j := 12) (by kernel_rfl) rfl rfl (fun K hK => ?_) (fun K hK => ?_)
  · skip
    go_simp
    go_at_call 132
    refine (HA.out _ (fH.out _ Kd.out).1 (fH.out _ Kd.out).2).mono ?_
    rintro e uI ⟨rfl, hb⟩
    have iU := Lib.hid (Kd.out.trans (Only.of_below hb))
    have Mx1 := Lib.hid (Md.out.below hb)
    clear hb
    go_wp2_with fail
    refine hK.out _ _ (fun _ => aC.out _ iU.out) (fun hHd => ?_)
    have hHd := hHd (by decide)
    clear hK K
    try simp only [Act.put, g1, g2, g3]
    refine jA (i := 7) (j := 12) (by kernel_rfl) rfl rfl (fun K hK => ?_) (fun K hK => ?_)
    · skip
      go_simp
      go_at_call 133
      refine (mJ _ _).mono ?_
      rintro e uJ ⟨rfl, hb⟩
      have iq := Lib.hid (iU.out.trans (Only.of_below hb))
      have Mx2 := Lib.hid (Mx1.out.below hb)
      clear hb
      go_wp2_with fail
      refine hK.out _ _ (fun _ => aC.out _ iq.out) (fun hHd => ?_)
      have hHd := hHd (by decide)
      clear hK K
      try simp only [Act.put, g1, g2, g3]
      refine jA (i := 8) (j := 12) (by kernel_rfl) rfl rfl (fun K hK => ?_) (fun K hK => ?_)
      · skip
        go_simp
        go_at_call 102
        refine (nD.out _ (fH.out _ iq.out).1 (fH.out _ iq.out).2 Mx2.out).mono ?_
        rintro e sF ⟨rfl, hb, hmm⟩
        have lW : Hid (Only (fun k => k = kb ∨ w1.heap.size ≤ k) w1 sF) := iq.out.trans (hb.mono fun k hk => by have := iq.out.size; omega)
        have Mx3 := Lib.hid hmm
        clear hb hmm
        go_wp2_with fail
        refine hK.out _ _ (fun _ => aC.out _ lW.out) (fun hHd => ?_)
        have hHd := hHd (by decide)
        clear hK K
        try simp only [Act.put, g1, g2, g3]
        refine aB (i := 11) (v := ?Bg) rfl (by kernel_rfl) (by decide) (by kernel_rfl) (by kernel_rfl) (by kernel_rfl) (fun _ _ _ h => h) (Or.inl ⟨by rfl, ?mX⟩) (by assumption) ?_
        case mX => (intro w hSw; (try dsimp only at hSw); go_simp; rw [JK]; rfl)
        try simp only [Act.put, g1, g2, g3]
        refine aG (i := 12) (by kernel_rfl) rfl (fun K hK => ?_)
        go_simp
        have kW : Hid (aH (sF.alloc (.cells #[.int .u64 0, .int .u64 0, .int .u64 0, .int .u64 0] 69)) sF.heap.size (fun _ => false)) := by rw [jP]; exact dP _ _ rfl
        have pX : Hid (Only (fun k => k = kb ∨ w1.heap.size ≤ k) w1 (sF.alloc (.cells #[.int .u64 0, .int .u64 0, .int .u64 0, .int .u64 0] 69))) := lW.out.trans (Only.of_below (aA _ _))
        have Mx4 : Hid (dH (sF.alloc (.cells #[.int .u64 0, .int .u64 0, .int .u64 0, .int .u64 0] 69)) kb (gQ ah O p)) := Mx3.out.below (aA _ _)
        have gx : w1.heap.size ≤ sF.heap.size := lW.out.size
        have gk : kb < sF.heap.size := by have := gq.out.lt; omega
        refine hK.out _ _ (fun _ => aC.out _ pX.out) (fun hHd => ?_)
        have hHd := hHd (by decide)
        clear hK K
        try simp only [Act.put, g1, g2, g3]
        have mz := Lib.hid (kW.out.gV L)
        have z0 := kW.out.c0
        have fz0 := kW.out.frozen 0
        have z1 := kW.out.c1
        have gz := kW.out.frozen 1
        have z2 := kW.out.c2
        have gB := kW.out.frozen 2
        have z3 := kW.out.c3
        have fz3 := kW.out.frozen 3
        clear hHd
        refine aG (i := 13) (by kernel_rfl) rfl (fun K hK => ?_)
        go_simp
        refine hK.out _ _ (fun h => absurd h (by decide)) (fun _ => ?_)
        clear hK K
        try simp only [Act.put, g1, g2, g3]
        refine dA (by kernel_rfl) ?_ _
        first | exact ⟨_, _, _, _, _, _, _, _, _, _, _, _, _, ⟨gx, mz.out, dw (S := fun k => k = kb ∨ w1.heap.size ≤ k) pX.out (.inr gx) _ _ _ _ 0, Mx4.out.only (dw (S := fun k => w1.heap.size ≤ k) (Only.refl _ _) gx _ _ _ _ 0) (by have := gq.out.lt; omega)⟩, rfl⟩ | exact ⟨_, _, _, _, _, _, _, _, _, _, _, _, _, ⟨gx, dP _ _ rfl, BJ pX.out gx, BK Mx4.out gk⟩, rfl⟩
      · skip
        go_simp
        have N7 : Hid (aH (uJ.alloc (.cells #[.int .u64 0, .int .u64 0, .int .u64 0, .int .u64 0] 69)) uJ.heap.size (fun _ => false)) := by rw [jP]; exact dP _ _ rfl
        have jR : Hid (Only (fun k => k = kb ∨ w1.heap.size ≤ k) w1 (uJ.alloc (.cells #[.int .u64 0, .int .u64 0, .int .u64 0, .int .u64 0] 69))) := iq.out.trans (Only.of_below (aA _ _))
        have Mx5 : Hid (dH (uJ.alloc (.cells #[.int .u64 0, .int .u64 0, .int .u64 0, .int .u64 0] 69)) kb (gQ ah O p)) := Mx2.out.below (aA _ _)
        have gx : w1.heap.size ≤ uJ.heap.size := iq.out.size
        have gk : kb < uJ.heap.size := by have := gq.out.lt; omega
        refine hK.out _ _ (fun _ => aC.out _ jR.out) (fun hHd => ?_)
        have hHd := hHd (by decide)
        clear hK K
        try simp only [Act.put, g1, g2, g3]
        refine aG (i := 8) (by kernel_rfl) rfl (fun K hK => ?_)
        go_simp
        go_at_call 102
        refine (nD.out _ (fH.out _ jR.out).1 (fH.out _ jR.out).2 Mx5.out).mono ?_
        rintro e wx6 ⟨rfl, hb, hmm⟩
        have wY : Hid (Only (fun k => k = kb ∨ w1.heap.size ≤ k) w1 wx6) := jR.out.trans (hb.mono fun k hk => by have := jR.out.size; omega)
        have Mx6 := Lib.hid hmm
        have kX := Lib.hid (N7.out.only hb (by have := gq.out.lt; have := N7.out.lt; omega))
        clear hb hmm
        go_wp2_with fail
        refine hK.out _ _ (fun _ => aC.out _ wY.out) (fun hHd => ?_)
        have hHd := hHd (by decide)
        clear hK K
        try simp only [Act.put, g1, g2, g3]
        refine aB (i := 11) (v := ?Bj) rfl (by kernel_rfl) (by decide) (by kernel_rfl) (by kernel_rfl) (by kernel_rfl) (fun _ _ _ h => h) (Or.inl ⟨by rfl, ?mY⟩) (by assumption) ?_
        case mY => (intro w hSw; (try dsimp only at hSw); go_simp; rw [JK]; rfl)
        try simp only [Act.put, g1, g2, g3]
        have mz := Lib.hid (kX.out.gV L)
        have z0 := kX.out.c0
        have fz0 := kX.out.frozen 0
        have z1 := kX.out.c1
        have gz := kX.out.frozen 1
        have z2 := kX.out.c2
        have gB := kX.out.frozen 2
        have z3 := kX.out.c3
        have fz3 := kX.out.frozen 3
        clear hHd
        refine aG (i := 13) (by kernel_rfl) rfl (fun K hK => ?_)
        go_simp
        refine hK.out _ _ (fun h => absurd h (by decide)) (fun _ => ?_)
        clear hK K
        try simp only [Act.put, g1, g2, g3]
        refine dA (by kernel_rfl) ?_ _
        first | exact ⟨_, _, _, _, _, _, _, _, _, _, _, _, _, ⟨gx, mz.out, dw (S := fun k => k = kb ∨ w1.heap.size ≤ k) wY.out (.inr gx) _ _ _ _ 0, Mx6.out.only (dw (S := fun k => w1.heap.size ≤ k) (Only.refl _ _) gx _ _ _ _ 0) (by have := gq.out.lt; omega)⟩, rfl⟩ | exact ⟨_, _, _, _, _, _, _, _, _, _, _, _, _, ⟨gx, dP _ _ rfl, BJ wY.out gx, BK Mx6.out gk⟩, rfl⟩
    · skip
      go_simp
      have UK : Hid (aH (uI.alloc (.cells #[.int .u64 0, .int .u64 0, .int .u64 0, .int .u64 0] 69)) uI.heap.size (fun _ => false)) := by rw [jP]; exact dP _ _ rfl
      have pY : Hid (Only (fun k => k = kb ∨ w1.heap.size ≤ k) w1 (uI.alloc (.cells #[.int .u64 0, .int .u64 0, .int .u64 0, .int .u64 0] 69))) := iU.out.trans (Only.of_below (aA _ _))
      have Mx7 : Hid (dH (uI.alloc (.cells #[.int .u64 0, .int .u64 0, .int .u64 0, .int .u64 0] 69)) kb (gQ ah O p)) := Mx1.out.below (aA _ _)
      have gx : w1.heap.size ≤ uI.heap.size := iU.out.size
      have gk : kb < uI.heap.size := by have := gq.out.lt; omega
      refine hK.out _ _ (fun _ => aC.out _ pY.out) (fun hHd => ?_)
      have hHd := hHd (by decide)
      clear hK K
      try simp only [Act.put, g1, g2, g3]
      refine aG (i := 7) (by kernel_rfl) rfl (fun K hK => ?_)
      go_simp
      go_at_call 133
      refine (mJ _ _).mono ?_
      rintro e wx8 ⟨rfl, hb⟩
      have jS := Lib.hid (pY.out.trans (Only.of_below hb))
      have Mx8 := Lib.hid (Mx7.out.below hb)
      have N8 := Lib.hid (UK.out.below hb)
      clear hb
      go_wp2_with fail
      refine hK.out _ _ (fun _ => aC.out _ jS.out) (fun hHd => ?_)
      have hHd := hHd (by decide)
      clear hK K
      try simp only [Act.put, g1, g2, g3]
      refine aG (i := 8) (by kernel_rfl) rfl (fun K hK => ?_)
      go_simp
      go_at_call 102
      refine (nD.out _ (fH.out _ jS.out).1 (fH.out _ jS.out).2 Mx8.out).mono ?_
      rintro e wx9 ⟨rfl, hb, hmm⟩
      have wZ : Hid (Only (fun k => k = kb ∨ w1.heap.size ≤ k) w1 wx9) := jS.out.trans (hb.mono fun k hk => by have := jS.out.size; omega)
      have Mx9 := Lib.hid hmm
      have mx9 := Lib.hid (N8.out.only hb (by have := gq.out.lt; have := N8.out.lt; omega))
      clear hb hmm
      go_wp2_with fail
      refine hK.out _ _ (fun _ => aC.out _ wZ.out) (fun hHd => ?_)
      have hHd := hHd (by decide)
      clear hK K
      try simp only [Act.put, g1, g2, g3]
      refine aB (i := 11) (v := ?Bo) rfl (by kernel_rfl) (by decide) (by kernel_rfl) (by kernel_rfl) (by kernel_rfl) (fun _ _ _ h => h) (Or.inl ⟨by rfl, ?mZ⟩) (by assumption) ?_
      case mZ => (intro w hSw; (try dsimp only at hSw); go_simp; rw [JK]; rfl)
      try simp only [Act.put, g1, g2, g3]
      have mz := Lib.hid (mx9.out.gV L)
      have z0 := mx9.out.c0
      have fz0 := mx9.out.frozen 0
      have z1 := mx9.out.c1
      have gz := mx9.out.frozen 1
      have z2 := mx9.out.c2
      have gB := mx9.out.frozen 2
      have z3 := mx9.out.c3
      have fz3 := mx9.out.frozen 3
      clear hHd
      refine aG (i := 13) (by kernel_rfl) rfl (fun K hK => ?_)
      go_simp
      refine hK.out _ _ (fun h => absurd h (by decide)) (fun _ => ?_)
      clear hK K
      try simp only [Act.put, g1, g2, g3]
      refine dA (by kernel_rfl) ?_ _
      first | exact ⟨_, _, _, _, _, _, _, _, _, _, _, _, _, ⟨gx, mz.out, dw (S := fun k => k = kb ∨ w1.heap.size ≤ k) wZ.out (.inr gx) _ _ _ _ 0, Mx9.out.only (dw (S := fun k => w1.heap.size ≤ k) (Only.refl _ _) gx _ _ _ _ 0) (by have := gq.out.lt; omega)⟩, rfl⟩ | exact ⟨_, _, _, _, _, _, _, _, _, _, _, _, _, ⟨gx, dP _ _ rfl, BJ wZ.out gx, BK Mx9.out gk⟩, rfl⟩
  · skip
    go_simp
    have UL : Hid (aH (w1.drew.alloc (.cells #[.int .u64 0, .int .u64 0, .int .u64 0, .int .u64 0] 69)) w1.heap.size (fun _ => false)) := by rw [jP]; exact dP _ _ rfl
    have lX : Hid (Only (fun k => k = kb ∨ w1.heap.size ≤ k) w1 (w1.drew.alloc (.cells #[.int .u64 0, .int .u64 0, .int .u64 0, .int .u64 0] 69))) := Kd.out.trans (Only.of_below (aA _ _))
    have ahk : Hid (dH (w1.drew.alloc (.cells #[.int .u64 0, .int .u64 0, .int .u64 0, .int .u64 0] 69)) kb (gQ ah O p)) := Md.out.below (aA _ _)
    have gx : w1.heap.size ≤ w1.heap.size := Kd.out.size
    have gk : kb < w1.heap.size := by have := gq.out.lt; omega
    refine hK.out _ _ (fun _ => aC.out _ lX.out) (fun hHd => ?_)
    have hHd := hHd (by decide)
    clear hK K
    try simp only [Act.put, g1, g2, g3]
    refine aG (i := 6) (by kernel_rfl) rfl (fun K hK => ?_)
    go_simp
    go_at_call 132
    refine (HA.out _ (fH.out _ lX.out).1 (fH.out _ lX.out).2).mono ?_
    rintro e ag8 ⟨rfl, hb⟩
    have qh := Lib.hid (lX.out.trans (Only.of_below hb))
    have ahl := Lib.hid (ahk.out.below hb)
    have UM := Lib.hid (UL.out.below hb)
    clear hb
    go_wp2_with fail
    refine hK.out _ _ (fun _ => aC.out _ qh.out) (fun hHd => ?_)
    have hHd := hHd (by decide)
    clear hK K
    try simp only [Act.put, g1, g2, g3]
    refine aG (i := 7) (by kernel_rfl) rfl (fun K hK => ?_)
    go_simp
    go_at_call 133
    refine (mJ _ _).mono ?_
    rintro e ag9 ⟨rfl, hb⟩
    have jT := Lib.hid (qh.out.trans (Only.of_below hb))
    have ahm := Lib.hid (ahl.out.below hb)
    have Oa := Lib.hid (UM.out.below hb)
    clear hb
    go_wp2_with fail
    refine hK.out _ _ (fun _ => aC.out _ jT.out) (fun hHd => ?_)
    have hHd := hHd (by decide)
    clear hK K
    try simp only [Act.put, g1, g2, g3]
    refine aG (i := 8) (by kernel_rfl) rfl (fun K hK => ?_)
    go_simp
    go_at_call 102
    refine (nD.out _ (fH.out _ jT.out).1 (fH.out _ jT.out).2 ahm.out).mono ?_
    rintro e aa8 ⟨rfl, hb, hmm⟩
    have xg : Hid (Only (fun k => k = kb ∨ w1.heap.size ≤ k) w1 aa8) := jT.out.trans (hb.mono fun k hk => by have := jT.out.size; omega)
    have abf := Lib.hid hmm
    have kY := Lib.hid (Oa.out.only hb (by have := gq.out.lt; have := Oa.out.lt; omega))
    clear hb hmm
    go_wp2_with fail
    refine hK.out _ _ (fun _ => aC.out _ xg.out) (fun hHd => ?_)
    have hHd := hHd (by decide)
    clear hK K
    try simp only [Act.put, g1, g2, g3]
    refine aB (i := 11) (v := ?Bq) rfl (by kernel_rfl) (by decide) (by kernel_rfl) (by kernel_rfl) (by kernel_rfl) (fun _ _ _ h => h) (Or.inl ⟨by rfl, ?ng⟩) (by assumption) ?_
    case ng => (intro w hSw; (try dsimp only at hSw); go_simp; rw [JK]; rfl)
    try simp only [Act.put, g1, g2, g3]
    have mz := Lib.hid (kY.out.gV L)
    have z0 := kY.out.c0
    have fz0 := kY.out.frozen 0
    have z1 := kY.out.c1
    have gz := kY.out.frozen 1
    have z2 := kY.out.c2
    have gB := kY.out.frozen 2
    have z3 := kY.out.c3
    have fz3 := kY.out.frozen 3
    clear hHd
    refine aG (i := 13) (by kernel_rfl) rfl (fun K hK => ?_)
    go_simp
    refine hK.out _ _ (fun h => absurd h (by decide)) (fun _ => ?_)
    clear hK K
    try simp only [Act.put, g1, g2, g3]
    refine dA (by kernel_rfl) ?_ _
    first | exact ⟨_, _, _, _, _, _, _, _, _, _, _, _, _, ⟨gx, mz.out, dw (S := fun k => k = kb ∨ w1.heap.size ≤ k) xg.out (.inr gx) _ _ _ _ 0, abf.out.only (dw (S := fun k => w1.heap.size ≤ k) (Only.refl _ _) gx _ _ _ _ 0) (by have := gq.out.lt; omega)⟩, rfl⟩ | exact ⟨_, _, _, _, _, _, _, _, _, _, _, _, _, ⟨gx, dP _ _ rfl, BJ xg.out gx, BK abf.out gk⟩, rfl⟩
 case Vm =>
  rintro a' wx ⟨gL, u13, u14, u15, u16, iT, jJ, kU, u20, u21, u22, u23, u24, ⟨hgL, HL, Ox, Mx⟩, rfl⟩
  have c0 := HL.out.c0
  have c1 := HL.out.c1
  have c2 := HL.out.c2
  have c3 := HL.out.c3
  have hh1 := cO.out
  have hh2 := qj.out
  have Vo := Lib.hid (bS.out.only Ox.out (by omega))
  have xw := Lib.hid (bR.out.only Ox.out (by omega))
  have yR := Lib.hid (fun w => rQ (w := w) L HRR.out)
  clear aC Kd Md fH HM gq bS bT bR hh1 hh2
  cases hr : r with
  | true =>
    rw [hr] at yR
    go_wp2_with (go_at_call 128; refine (yR.out _).mono ?_; rintro e wy ⟨rfl, hb⟩; have Ky := Lib.hid hb; clear hb)
    have bM : Hid (∀ W', Below wy.heap.size wy W' → W'.cell? ⟨w.heap.size, 0, none⟩ = some (.int .u64 (aj S 0)) ∧ W'.cell? ⟨w.heap.size, 1, none⟩ = some (.int .u64 (aj S 1)) ∧ W'.cell? ⟨w.heap.size, 2, none⟩ = some (.int .u64 (aj S 2)) ∧ W'.cell? ⟨w.heap.size, 3, none⟩ = some (.int .u64 (aj S 3))) := fun W' hb => by
     have m1 := (Vo.out.below Ky.out).below hb
     exact ⟨m1.c0, m1.c1, m1.c2, m1.c3⟩
    have Ke : Hid (Below wy.heap.size wy wy.drew) := (Below.refl _ _).drew
    go_wp2_with fail
    refine jB (S := (fun W' => W'.cell? ⟨w.heap.size, 0, none⟩ = some (.int .u64 (aj S 0)) ∧ W'.cell? ⟨w.heap.size, 1, none⟩ = some (.int .u64 (aj S 1)) ∧ W'.cell? ⟨w.heap.size, 2, none⟩ = some (.int .u64 (aj S 2)) ∧ W'.cell? ⟨w.heap.size, 3, none⟩ = some (.int .u64 (aj S 3)))) (m := 3) (by kernel_rfl) (bM.out _ Ke.out) (fun hHd => ?_)
    refine aB (i := 0) (v := ?BA) rfl (by kernel_rfl) (by decide) (by kernel_rfl) (by kernel_rfl) (by kernel_rfl) (fun _ _ _ h => h) (Or.inl ⟨by rfl, ?ni⟩) (by assumption) ?_
    case ni => (intro w hSw; (try dsimp only at hSw); go_simp; first | done | with_reducible rfl)
    try simp only [Act.put, g1, g2, g3]
    refine aB (i := 1) (v := ?BD) rfl (by kernel_rfl) (by decide) (by kernel_rfl) (by kernel_rfl) (by kernel_rfl) (fun _ _ _ h => h) (Or.inl ⟨by rfl, ?ny⟩) (by assumption) ?_
    case ny => (intro w hSw; (try dsimp only at hSw); go_simp; first | done | with_reducible rfl)
    try simp only [Act.put, g1, g2, g3]
    refine aG (i := 2) (by kernel_rfl) rfl (fun K hK => ?_)
    go_simp
    refine hK.out _ _ (fun _ => bM.out _ Ke.out) (fun hHd => ?_)
    have hHd := hHd (by decide)
    clear hK K
    try simp only [Act.put, g1, g2, g3]
    have mA : aH wy (w.heap.size + 1 + 1) (fun _ => false) := xw.out.below Ky.out
    have z0 := mA.c0
    have fz0 := mA.frozen 0
    have z1 := mA.c1
    have gz := mA.frozen 1
    have z2 := mA.c2
    have gB := mA.frozen 2
    have z3 := mA.c3
    have fz3 := mA.frozen 3
    have mq := Lib.hid (mA.gV S)
    clear hHd mA
    refine aG (i := 3) (by kernel_rfl) rfl (fun K hK => ?_)
    go_simp
    refine hK.out _ _ (fun h => absurd h (by decide)) (fun _ => ?_)
    clear hK K
    try simp only [Act.put, g1, g2, g3]
    refine dA (by kernel_rfl) ?_ _
    go_wp2_with fail
    refine Pg (K := S) (g := w.heap.size + 1 + 1) rfl rfl mq.out ⟨by rw [hr]; first | rfl | (rw [show IntKind.i64.wrap 1 = 1 from rfl]; rfl) | (rw [show IntKind.i64.wrap 0 = 0 from rfl]; rfl), ?_, ?_⟩
    · refine kS ?_
      exact dw (S := fun k => k = kb ∨ w.heap.size ≤ k) (((Only.of_below HB.out |>.mono fun k hk => by exact hk).trans (Ox.out.mono fun k hk => by have := cO.out; omega)).trans (Only.of_below Ky.out)) (.inr (by omega)) _ _ _ _ 0
    · exact ((Mx.out.below Ky.out).only (dw (S := fun k => k = w.heap.size + 1 + 1) (Only.refl _ _) rfl _ _ _ _ 0) (by have := qj.out; omega)).below (Below.refl _ _).drew
  | false =>
    rw [hr] at yR
    go_wp2_with (go_at_call 128; refine (yR.out _).mono ?_; rintro e wy ⟨rfl, hb⟩; have Ky := Lib.hid hb; clear hb)
    have bM : Hid (∀ W', Below wy.heap.size wy W' → W'.cell? ⟨gL, 0, none⟩ = some (.int .u64 (aj L 0)) ∧ W'.cell? ⟨gL, 1, none⟩ = some (.int .u64 (aj L 1)) ∧ W'.cell? ⟨gL, 2, none⟩ = some (.int .u64 (aj L 2)) ∧ W'.cell? ⟨gL, 3, none⟩ = some (.int .u64 (aj L 3))) := fun W' hb => by
     have m1 := (HL.out.below Ky.out).below hb
     exact ⟨m1.c0, m1.c1, m1.c2, m1.c3⟩
    have Ke : Hid (Below wy.heap.size wy wy.drew) := (Below.refl _ _).drew
    go_wp2_with fail
    refine jB (S := (fun W' => W'.cell? ⟨gL, 0, none⟩ = some (.int .u64 (aj L 0)) ∧ W'.cell? ⟨gL, 1, none⟩ = some (.int .u64 (aj L 1)) ∧ W'.cell? ⟨gL, 2, none⟩ = some (.int .u64 (aj L 2)) ∧ W'.cell? ⟨gL, 3, none⟩ = some (.int .u64 (aj L 3)))) (m := 4) (by kernel_rfl) (bM.out _ Ke.out) (fun hHd => ?_)
    refine aB (i := 0) (v := ?BH) rfl (by kernel_rfl) (by decide) (by kernel_rfl) (by kernel_rfl) (by kernel_rfl) (fun _ _ _ h => h) (Or.inl ⟨by rfl, ?nC⟩) (by assumption) ?_
    case nC => (intro w hSw; (try dsimp only at hSw); go_simp; first | done | with_reducible rfl)
    try simp only [Act.put, g1, g2, g3]
    refine aB (i := 1) (v := ?DL) rfl (by kernel_rfl) (by decide) (by kernel_rfl) (by kernel_rfl) (by kernel_rfl) (fun _ _ _ h => h) (Or.inl ⟨by rfl, ?nN⟩) (by assumption) ?_
    case nN => (intro w hSw; (try dsimp only at hSw); go_simp; first | done | with_reducible rfl)
    try simp only [Act.put, g1, g2, g3]
    refine aB (i := 2) (v := ?GR) rfl (by kernel_rfl) (by decide) (by kernel_rfl) (by kernel_rfl) (by kernel_rfl) (fun _ _ _ h => h) (Or.inl ⟨by rfl, ?qX⟩) (by assumption) ?_
    case qX => (intro w hSw; (try dsimp only at hSw); go_simp; first | done | with_reducible rfl)
    try simp only [Act.put, g1, g2, g3]
    refine aG (i := 3) (by kernel_rfl) rfl (fun K hK => ?_)
    go_simp
    refine hK.out _ _ (fun _ => bM.out _ Ke.out) (fun hHd => ?_)
    have hHd := hHd (by decide)
    clear hK K
    try simp only [Act.put, g1, g2, g3]
    have mA : aH wy (w.heap.size + 1 + 1) (fun _ => false) := xw.out.below Ky.out
    have z0 := mA.c0
    have fz0 := mA.frozen 0
    have z1 := mA.c1
    have gz := mA.frozen 1
    have z2 := mA.c2
    have gB := mA.frozen 2
    have z3 := mA.c3
    have fz3 := mA.frozen 3
    have mq := Lib.hid (mA.gV L)
    clear hHd mA
    refine aG (i := 4) (by kernel_rfl) rfl (fun K hK => ?_)
    go_simp
    refine hK.out _ _ (fun h => absurd h (by decide)) (fun _ => ?_)
    clear hK K
    try simp only [Act.put, g1, g2, g3]
    refine dA (by kernel_rfl) ?_ _
    go_wp2_with fail
    refine Pg (K := L) (g := w.heap.size + 1 + 1) rfl rfl mq.out ⟨by rw [hr]; first | rfl | (rw [show IntKind.i64.wrap 1 = 1 from rfl]; rfl) | (rw [show IntKind.i64.wrap 0 = 0 from rfl]; rfl), ?_, ?_⟩
    · refine kS ?_
      exact dw (S := fun k => k = kb ∨ w.heap.size ≤ k) (((Only.of_below HB.out |>.mono fun k hk => by exact hk).trans (Ox.out.mono fun k hk => by have := cO.out; omega)).trans (Only.of_below Ky.out)) (.inr (by omega)) _ _ _ _ 0
    · exact ((Mx.out.below Ky.out).only (dw (S := fun k => k = w.heap.size + 1 + 1) (Only.refl _ _) rfl _ _ _ _ 0) (by have := qj.out; omega)).below (Below.refl _ _).drew
set_option linter.unusedSimpArgs false in
set_option maxRecDepth 100000 in
set_option maxHeartbeats 8000000 in
theorem ahn {w : World} {b n nb pb kb top : Nat} {Ow Lv E Pd : Nat → Nat → Bool} {ah : List (List Int)} {O : List Int} {p : Nat → Int} {S T : Nat → Bool} (hT : dS w) (hR : dX w b n nb pb kb Ow Lv E Pd) (hM : dH w kb (gQ ah O p)) (hG : jC ah O n Ow E Pd) (htop : top < 1000) (hij : top % 2 = 1)
 (hS : ∀ v, S v = true → v < n) (sH : ∀ v, T v = true → S v = true) (JL : BL ah O p b n nb pb kb Ow Lv E Pd (aQ S (aN ah O 1 S T))) {r : Bool} (hr : lQ (dM ah O p (aQ S (aN ah O 1 S T)) 0) = r) :
 Calls Tryd.prog 131 #[.pointer (some ⟨b, 0, none⟩), aW S, .int .i64 (top : Int), aW T] w fun e w' => e = .returned (.tuple #[.int .i64 (cond r 1 0), aW (cond r S (dM ah O p (aQ S (aN ah O 1 S T)) 0))]) ∧ Only (fun k => k = kb ∨ w.heap.size ≤ k) w w' ∧ dH w' kb (gQ ah O p) := by
 have hkt := JH hM hT
 have HTS := Lib.hid sH
 have nD := Lib.hid JL
 have HM := Lib.hid hM
 have qj : Hid (kb < w.heap.size) := hM.lt
 have eU : Hid (∀ W', Only (fun k => k = kb ∨ w.heap.size ≤ k) w W' → dS W' ∧ dX W' b n nb pb kb Ow Lv E Pd) := fun W' ho =>
  ⟨hT.only ho (by have := hT.lt; omega), hR.only ho (by have := hR.lt; have := hR.apart; omega) (by have := hR.lt; have := hR.apart; omega) (by have := hR.lt; have := hR.apart; omega)⟩
 have HA : Hid (∀ W', dS W' → dX W' b n nb pb kb Ow Lv E Pd → Calls Tryd.prog 132 #[.pointer (some ⟨b, 0, none⟩), .int .i64 1, aW S, aW T] W' fun e w' => e = .returned (aW (aN ah O 1 S T)) ∧ Below W'.heap.size W' w') := fun W' a b' => NZ (i := 1) a b' hG (by omega) hS sH
 obtain ⟨D, hD⟩ : ∃ D, aN ah O 1 S T = D := ⟨_, rfl⟩
 rw [hD] at HA nD hr ⊢
 obtain ⟨L, hL⟩ : ∃ L, dM ah O p (aQ S D) 0 = L := ⟨_, rfl⟩
 obtain ⟨M, JM⟩ : ∃ M, dM ah O p (aQ S D) 1 = M := ⟨_, rfl⟩
 unfold BL at nD
 rw [hL] at nD hr ⊢
 rw [JM] at nD
 have HRR := Lib.hid hr
 have eI : ((top : Int) % 2) = 1 := by omega
 clear hT hR hG hS sH JL hM hr hkt hij hD hL JM
 go_enter Tryd.func131, Tryd.ntmps131
 go_wp2_with fail
 simp only [eI]
 obtain ⟨w1, hw1⟩ : ∃ y, y = (((w.alloc (.cells #[.int .u64 (aj S 0), .int .u64 (aj S 1), .int .u64 (aj S 2), .int .u64 (aj S 3)] 69)).alloc (.cells #[.int .u64 (aj T 0), .int .u64 (aj T 1), .int .u64 (aj T 2), .int .u64 (aj T 3)] 69)).alloc (.cells #[.int .u64 0, .int .u64 0, .int .u64 0, .int .u64 0] 69)) := ⟨_, rfl⟩
 rw [← hw1]
 have HB : Hid (Below w.heap.size w w1) := by
  rw [hw1]
  exact (((Below.refl _ _).alloc (Nat.le_refl _) _).alloc (by simp) _).alloc (by simp; omega) _
 have bS : Hid (aH w1 (w.heap.size) S) := by
  rw [hw1]; exact ((dP S _ (by simp)).below (aA _ _)).below (aA _ _)
 have bT : Hid (aH w1 (w.heap.size + 1) T) := by
  rw [hw1]; exact (dP T _ (by simp)).below (aA _ _)
 have bR : Hid (aH w1 (w.heap.size + 1 + 1) (fun _ => false)) := by
  rw [hw1, jP]; exact dP _ _ (by simp)
 have cO : Hid (w1.heap.size = w.heap.size + 3) := by rw [hw1]; simp [Hid]
 clear hw1
 have gq := Lib.hid (HM.out.below HB.out)
 have aC : Hid (∀ W', Only (fun k => k = kb ∨ w1.heap.size ≤ k) w1 W' → W'.cell? ⟨w.heap.size, 0, none⟩ = some (.int .u64 (aj S 0)) ∧ W'.cell? ⟨w.heap.size, 1, none⟩ = some (.int .u64 (aj S 1)) ∧ W'.cell? ⟨w.heap.size, 2, none⟩ = some (.int .u64 (aj S 2)) ∧ W'.cell? ⟨w.heap.size, 3, none⟩ = some (.int .u64 (aj S 3)) ∧ W'.cell? ⟨w.heap.size + 1, 0, none⟩ = some (.int .u64 (aj T 0)) ∧ W'.cell? ⟨w.heap.size + 1, 1, none⟩ = some (.int .u64 (aj T 1)) ∧ W'.cell? ⟨w.heap.size + 1, 2, none⟩ = some (.int .u64 (aj T 2)) ∧ W'.cell? ⟨w.heap.size + 1, 3, none⟩ = some (.int .u64 (aj T 3))) := fun W' ho => by
  have h1 := cO.out
  have h2 := qj.out
  have m1 := bS.out.only ho (by omega)
  have m2 := bT.out.only ho (by omega)
  exact ⟨m1.c0, m1.c1, m1.c2, m1.c3, m2.c0, m2.c1, m2.c2, m2.c3⟩
 have Kd : Hid (Only (fun k => k = kb ∨ w1.heap.size ≤ k) w1 w1.drew) := kS (Only.refl _ _)
 have Md : Hid (dH w1.drew kb (gQ ah O p)) := gq.out.below (Below.refl _ _).drew
 have fH : Hid (∀ W', Only (fun k => k = kb ∨ w1.heap.size ≤ k) w1 W' → dS W' ∧ dX W' b n nb pb kb Ow Lv E Pd) := fun W' ho => eU.out _ ((Only.of_below HB.out |>.mono fun k hk => by exact hk).trans (ho.mono fun k hk => by have := cO.out; omega))
 refine wp_cut (fun a' wx => ∃ (gL : Nat) (u13 u14 u15 u16 iT jJ kU u20 u21 u22 u23 u24 : Value), (w1.heap.size ≤ gL ∧ Hid (aH wx gL L) ∧ Hid (Only (fun k => k = kb ∨ w1.heap.size ≤ k) w1 wx) ∧ Hid (dH wx kb (gQ ah O p))) ∧ a' = { tmps := #[.pointer (some ⟨b, 0, none⟩), aW S, .int .i64 (top : Int), aW T, undef, .pointer (some ⟨w.heap.size, 0, none⟩), undef, .pointer (some ⟨w.heap.size + 1, 0, none⟩), .int .i64 1, .pointer (some ⟨w.heap.size + 1 + 1, 0, none⟩), .pointer (some ⟨gL, 0, none⟩), .int .i64 (top : Int), .int .i64 1, u13, u14, u15, u16, iT, jJ, kU, u20, u21, u22, u23, u24, undef, undef, undef, undef, undef, undef, undef], defers := [] }) ?Vl ?Vm
 case Vl =>
  refine jB (S := (fun W' => W'.cell? ⟨w.heap.size, 0, none⟩ = some (.int .u64 (aj S 0)) ∧ W'.cell? ⟨w.heap.size, 1, none⟩ = some (.int .u64 (aj S 1)) ∧ W'.cell? ⟨w.heap.size, 2, none⟩ = some (.int .u64 (aj S 2)) ∧ W'.cell? ⟨w.heap.size, 3, none⟩ = some (.int .u64 (aj S 3)) ∧ W'.cell? ⟨w.heap.size + 1, 0, none⟩ = some (.int .u64 (aj T 0)) ∧ W'.cell? ⟨w.heap.size + 1, 1, none⟩ = some (.int .u64 (aj T 1)) ∧ W'.cell? ⟨w.heap.size + 1, 2, none⟩ = some (.int .u64 (aj T 2)) ∧ W'.cell? ⟨w.heap.size + 1, 3, none⟩ = some (.int .u64 (aj T 3)))) (m := 13) (by kernel_rfl) (aC.out _ Kd.out) (fun hHd => ?_)
  refine aB (i := 0) (v := ?JD) rfl (by kernel_rfl) (by decide) (by kernel_rfl) (by kernel_rfl) (by kernel_rfl) (fun _ _ _ h => h) (Or.inl ⟨by rfl, ?hm18⟩) (by assumption) ?_
  case hm18 => (intro w hSw; (try dsimp only at hSw); go_simp; first | done | with_reducible rfl)
  try simp only [Act.put, g1, g2, g3]
  refine aB (i := 1) (v := ?JE) rfl (by kernel_rfl) (by decide) (by kernel_rfl) (by kernel_rfl) (by kernel_rfl) (fun _ _ _ h => h) (Or.inl ⟨by rfl, ?uK⟩) (by assumption) ?_
  case uK => (intro w hSw; (try dsimp only at hSw); go_simp; first | done | with_reducible rfl)
  try simp only [Act.put, g1, g2, g3]
  refine aB (i := 2) (v := ?JF) rfl (by kernel_rfl) (by decide) (by kernel_rfl) (by kernel_rfl) (by kernel_rfl) (fun _ _ _ h => h) (Or.inl ⟨by rfl, ?uM⟩) (by assumption) ?_
  case uM => (intro w hSw; (try dsimp only at hSw); go_simp; first | done | with_reducible rfl)
  try simp only [Act.put, g1, g2, g3]
  refine aB (i := 3) (v := ?Oj) rfl (by kernel_rfl) (by decide) (by kernel_rfl) (by kernel_rfl) (by kernel_rfl) (fun _ _ _ h => h) (Or.inl ⟨by rfl, ?yH⟩) (by assumption) ?_
  case yH => (intro w hSw; (try dsimp only at hSw); go_simp; first | done | with_reducible rfl)
  try simp only [Act.put, g1, g2, g3]
  refine aB (i := 4) (v := ?Ol) rfl (by kernel_rfl) (by decide) (by kernel_rfl) (by kernel_rfl) (by kernel_rfl) (fun _ _ _ h => h) (Or.inl ⟨by rfl, ?yI⟩) (by assumption) ?_
  case yI => (intro w hSw; (try dsimp only at hSw); go_simp; first | done | with_reducible rfl)
  try simp only [Act.put, g1, g2, g3]
  refine aB (i := 5) (v := ?Om) rfl (by kernel_rfl) (by decide) (by kernel_rfl) (by kernel_rfl) (by kernel_rfl) (fun _ _ _ h => h) (Or.inl ⟨by rfl, ?yJ⟩) (by assumption) ?_
  case yJ => (intro w hSw; (try dsimp only at hSw); go_simp; first | done | with_reducible rfl)
  try simp only [Act.put, g1, g2, g3]
  refine aB (i := 9) (v := ?Oo) rfl (by kernel_rfl) (by decide) (by kernel_rfl) (by kernel_rfl) (by kernel_rfl) (fun _ _ _ h => h) (Or.inl ⟨by rfl, ?yK⟩) (by assumption) ?_
  case yK => (intro w hSw; (try dsimp only at hSw); go_simp; first | done | with_reducible rfl)
  try simp only [Act.put, g1, g2, g3]
  refine aB (i := 10) (v := ?Oq) rfl (by kernel_rfl) (by decide) (by kernel_rfl) (by kernel_rfl) (by kernel_rfl) (fun _ _ _ h => h) (Or.inl ⟨by rfl, ?yL⟩) (by assumption) ?_
  case yL => (intro w hSw; (try dsimp only at hSw); go_simp; first | done | with_reducible rfl)
  try simp only [Act.put, g1, g2, g3]
  refine jA (i := 6) (j := 12) (by kernel_rfl) rfl rfl (fun K hK => ?_) (fun K hK => ?_)
  · skip
    go_simp
    go_at_call 132
    refine (HA.out _ (fH.out _ Kd.out).1 (fH.out _ Kd.out).2).mono ?_
    rintro e GU ⟨rfl, hb⟩
    have sJ := Lib.hid (Kd.out.trans (Only.of_below hb))
    have abg := Lib.hid (Md.out.below hb)
    clear hb
    go_wp2_with fail
    refine hK.out _ _ (fun _ => aC.out _ sJ.out) (fun hHd => ?_)
    have hHd := hHd (by decide)
    clear hK K
    try simp only [Act.put, g1, g2, g3]
    refine jA (i := 7) (j := 12) (by kernel_rfl) rfl rfl (fun K hK => ?_) (fun K hK => ?_)
    · skip
      go_simp
      go_at_call 133
      refine (mJ _ _).mono ?_
      rintro e GV ⟨rfl, hb⟩
      have qY := Lib.hid (sJ.out.trans (Only.of_below hb))
      have abh := Lib.hid (abg.out.below hb)
      clear hb
      go_wp2_with fail
      refine hK.out _ _ (fun _ => aC.out _ qY.out) (fun hHd => ?_)
      have hHd := hHd (by decide)
      clear hK K
      try simp only [Act.put, g1, g2, g3]
      refine jA (i := 8) (j := 12) (by kernel_rfl) rfl rfl (fun K hK => ?_) (fun K hK => ?_)
      · skip
        go_simp
        go_at_call 102
        refine (nD.out _ (fH.out _ qY.out).1 (fH.out _ qY.out).2 abh.out).mono ?_
        rintro e DZ ⟨rfl, hb, hmm⟩
        have D5 : Hid (Only (fun k => k = kb ∨ w1.heap.size ≤ k) w1 DZ) := qY.out.trans (hb.mono fun k hk => by have := qY.out.size; omega)
        have aho := Lib.hid hmm
        clear hb hmm
        go_wp2_with fail
        refine hK.out _ _ (fun _ => aC.out _ D5.out) (fun hHd => ?_)
        have hHd := hHd (by decide)
        clear hK K
        try simp only [Act.put, g1, g2, g3]
        refine aB (i := 11) (v := ?Ou) rfl (by kernel_rfl) (by decide) (by kernel_rfl) (by kernel_rfl) (by kernel_rfl) (fun _ _ _ h => h) (Or.inl ⟨by rfl, ?yM⟩) (by assumption) ?_
        case yM => (intro w hSw; (try dsimp only at hSw); go_simp; rw [JI]; rfl)
        try simp only [Act.put, g1, g2, g3]
        refine aG (i := 12) (by kernel_rfl) rfl (fun K hK => ?_)
        go_simp
        have yS : Hid (aH (DZ.alloc (.cells #[.int .u64 0, .int .u64 0, .int .u64 0, .int .u64 0] 69)) DZ.heap.size (fun _ => false)) := by rw [jP]; exact dP _ _ rfl
        have BN : Hid (Only (fun k => k = kb ∨ w1.heap.size ≤ k) w1 (DZ.alloc (.cells #[.int .u64 0, .int .u64 0, .int .u64 0, .int .u64 0] 69))) := D5.out.trans (Only.of_below (aA _ _))
        have abj : Hid (dH (DZ.alloc (.cells #[.int .u64 0, .int .u64 0, .int .u64 0, .int .u64 0] 69)) kb (gQ ah O p)) := aho.out.below (aA _ _)
        have gx : w1.heap.size ≤ DZ.heap.size := D5.out.size
        have gk : kb < DZ.heap.size := by have := gq.out.lt; omega
        refine hK.out _ _ (fun _ => aC.out _ BN.out) (fun hHd => ?_)
        have hHd := hHd (by decide)
        clear hK K
        try simp only [Act.put, g1, g2, g3]
        have mz := Lib.hid (yS.out.gV L)
        have z0 := yS.out.c0
        have fz0 := yS.out.frozen 0
        have z1 := yS.out.c1
        have gz := yS.out.frozen 1
        have z2 := yS.out.c2
        have gB := yS.out.frozen 2
        have z3 := yS.out.c3
        have fz3 := yS.out.frozen 3
        clear hHd
        refine aG (i := 13) (by kernel_rfl) rfl (fun K hK => ?_)
        go_simp
        refine hK.out _ _ (fun h => absurd h (by decide)) (fun _ => ?_)
        clear hK K
        try simp only [Act.put, g1, g2, g3]
        refine dA (by kernel_rfl) ?_ _
        first | exact ⟨_, _, _, _, _, _, _, _, _, _, _, _, _, ⟨gx, mz.out, dw (S := fun k => k = kb ∨ w1.heap.size ≤ k) BN.out (.inr gx) _ _ _ _ 0, abj.out.only (dw (S := fun k => w1.heap.size ≤ k) (Only.refl _ _) gx _ _ _ _ 0) (by have := gq.out.lt; omega)⟩, rfl⟩ | exact ⟨_, _, _, _, _, _, _, _, _, _, _, _, _, ⟨gx, dP _ _ rfl, BJ BN.out gx, BK abj.out gk⟩, rfl⟩
      · skip
        go_simp
        have abk : Hid (aH (GV.alloc (.cells #[.int .u64 0, .int .u64 0, .int .u64 0, .int .u64 0] 69)) GV.heap.size (fun _ => false)) := by rw [jP]; exact dP _ _ rfl
        have JO : Hid (Only (fun k => k = kb ∨ w1.heap.size ≤ k) w1 (GV.alloc (.cells #[.int .u64 0, .int .u64 0, .int .u64 0, .int .u64 0] 69))) := qY.out.trans (Only.of_below (aA _ _))
        have ahp : Hid (dH (GV.alloc (.cells #[.int .u64 0, .int .u64 0, .int .u64 0, .int .u64 0] 69)) kb (gQ ah O p)) := abh.out.below (aA _ _)
        have gx : w1.heap.size ≤ GV.heap.size := qY.out.size
        have gk : kb < GV.heap.size := by have := gq.out.lt; omega
        refine hK.out _ _ (fun _ => aC.out _ JO.out) (fun hHd => ?_)
        have hHd := hHd (by decide)
        clear hK K
        try simp only [Act.put, g1, g2, g3]
        refine aG (i := 8) (by kernel_rfl) rfl (fun K hK => ?_)
        go_simp
        go_at_call 102
        refine (nD.out _ (fH.out _ JO.out).1 (fH.out _ JO.out).2 ahp.out).mono ?_
        rintro e ahq ⟨rfl, hb, hmm⟩
        have D6 : Hid (Only (fun k => k = kb ∨ w1.heap.size ≤ k) w1 ahq) := JO.out.trans (hb.mono fun k hk => by have := JO.out.size; omega)
        have abl := Lib.hid hmm
        have yT := Lib.hid (abk.out.only hb (by have := gq.out.lt; have := abk.out.lt; omega))
        clear hb hmm
        go_wp2_with fail
        refine hK.out _ _ (fun _ => aC.out _ D6.out) (fun hHd => ?_)
        have hHd := hHd (by decide)
        clear hK K
        try simp only [Act.put, g1, g2, g3]
        refine aB (i := 11) (v := ?Ov) rfl (by kernel_rfl) (by decide) (by kernel_rfl) (by kernel_rfl) (by kernel_rfl) (fun _ _ _ h => h) (Or.inl ⟨by rfl, ?yN⟩) (by assumption) ?_
        case yN => (intro w hSw; (try dsimp only at hSw); go_simp; rw [JI]; rfl)
        try simp only [Act.put, g1, g2, g3]
        have mz := Lib.hid (yT.out.gV L)
        have z0 := yT.out.c0
        have fz0 := yT.out.frozen 0
        have z1 := yT.out.c1
        have gz := yT.out.frozen 1
        have z2 := yT.out.c2
        have gB := yT.out.frozen 2
        have z3 := yT.out.c3
        have fz3 := yT.out.frozen 3
        clear hHd
        refine aG (i := 13) (by kernel_rfl) rfl (fun K hK => ?_)
        go_simp
        refine hK.out _ _ (fun h => absurd h (by decide)) (fun _ => ?_)
        clear hK K
        try simp only [Act.put, g1, g2, g3]
        refine dA (by kernel_rfl) ?_ _
        first | exact ⟨_, _, _, _, _, _, _, _, _, _, _, _, _, ⟨gx, mz.out, dw (S := fun k => k = kb ∨ w1.heap.size ≤ k) D6.out (.inr gx) _ _ _ _ 0, abl.out.only (dw (S := fun k => w1.heap.size ≤ k) (Only.refl _ _) gx _ _ _ _ 0) (by have := gq.out.lt; omega)⟩, rfl⟩ | exact ⟨_, _, _, _, _, _, _, _, _, _, _, _, _, ⟨gx, dP _ _ rfl, BJ D6.out gx, BK abl.out gk⟩, rfl⟩
    · skip
      go_simp
      have ahr : Hid (aH (GU.alloc (.cells #[.int .u64 0, .int .u64 0, .int .u64 0, .int .u64 0] 69)) GU.heap.size (fun _ => false)) := by rw [jP]; exact dP _ _ rfl
      have D7 : Hid (Only (fun k => k = kb ∨ w1.heap.size ≤ k) w1 (GU.alloc (.cells #[.int .u64 0, .int .u64 0, .int .u64 0, .int .u64 0] 69))) := sJ.out.trans (Only.of_below (aA _ _))
      have ahs : Hid (dH (GU.alloc (.cells #[.int .u64 0, .int .u64 0, .int .u64 0, .int .u64 0] 69)) kb (gQ ah O p)) := abg.out.below (aA _ _)
      have gx : w1.heap.size ≤ GU.heap.size := sJ.out.size
      have gk : kb < GU.heap.size := by have := gq.out.lt; omega
      refine hK.out _ _ (fun _ => aC.out _ D7.out) (fun hHd => ?_)
      have hHd := hHd (by decide)
      clear hK K
      try simp only [Act.put, g1, g2, g3]
      refine aG (i := 7) (by kernel_rfl) rfl (fun K hK => ?_)
      go_simp
      go_at_call 133
      refine (mJ _ _).mono ?_
      rintro e akl ⟨rfl, hb⟩
      have JQ := Lib.hid (D7.out.trans (Only.of_below hb))
      have aht := Lib.hid (ahs.out.below hb)
      have abm := Lib.hid (ahr.out.below hb)
      clear hb
      go_wp2_with fail
      refine hK.out _ _ (fun _ => aC.out _ JQ.out) (fun hHd => ?_)
      have hHd := hHd (by decide)
      clear hK K
      try simp only [Act.put, g1, g2, g3]
      refine aG (i := 8) (by kernel_rfl) rfl (fun K hK => ?_)
      go_simp
      go_at_call 102
      refine (nD.out _ (fH.out _ JQ.out).1 (fH.out _ JQ.out).2 aht.out).mono ?_
      rintro e ahu ⟨rfl, hb, hmm⟩
      have yU : Hid (Only (fun k => k = kb ∨ w1.heap.size ≤ k) w1 ahu) := JQ.out.trans (hb.mono fun k hk => by have := JQ.out.size; omega)
      have abn := Lib.hid hmm
      have yV := Lib.hid (abm.out.only hb (by have := gq.out.lt; have := abm.out.lt; omega))
      clear hb hmm
      go_wp2_with fail
      refine hK.out _ _ (fun _ => aC.out _ yU.out) (fun hHd => ?_)
      have hHd := hHd (by decide)
      clear hK K
      try simp only [Act.put, g1, g2, g3]
      refine aB (i := 11) (v := ?OA) rfl (by kernel_rfl) (by decide) (by kernel_rfl) (by kernel_rfl) (by kernel_rfl) (fun _ _ _ h => h) (Or.inl ⟨by rfl, ?yO⟩) (by assumption) ?_
      case yO => (intro w hSw; (try dsimp only at hSw); go_simp; rw [JI]; rfl)
      try simp only [Act.put, g1, g2, g3]
      have mz := Lib.hid (yV.out.gV L)
      have z0 := yV.out.c0
      have fz0 := yV.out.frozen 0
      have z1 := yV.out.c1
      have gz := yV.out.frozen 1
      have z2 := yV.out.c2
      have gB := yV.out.frozen 2
      have z3 := yV.out.c3
      have fz3 := yV.out.frozen 3
      clear hHd
      refine aG (i := 13) (by kernel_rfl) rfl (fun K hK => ?_)
      go_simp
      refine hK.out _ _ (fun h => absurd h (by decide)) (fun _ => ?_)
      clear hK K
      try simp only [Act.put, g1, g2, g3]
      refine dA (by kernel_rfl) ?_ _
      first | exact ⟨_, _, _, _, _, _, _, _, _, _, _, _, _, ⟨gx, mz.out, dw (S := fun k => k = kb ∨ w1.heap.size ≤ k) yU.out (.inr gx) _ _ _ _ 0, abn.out.only (dw (S := fun k => w1.heap.size ≤ k) (Only.refl _ _) gx _ _ _ _ 0) (by have := gq.out.lt; omega)⟩, rfl⟩ | exact ⟨_, _, _, _, _, _, _, _, _, _, _, _, _, ⟨gx, dP _ _ rfl, BJ yU.out gx, BK abn.out gk⟩, rfl⟩
  · skip
    go_simp
    have ahv : Hid (aH (w1.drew.alloc (.cells #[.int .u64 0, .int .u64 0, .int .u64 0, .int .u64 0] 69)) w1.heap.size (fun _ => false)) := by rw [jP]; exact dP _ _ rfl
    have BO : Hid (Only (fun k => k = kb ∨ w1.heap.size ≤ k) w1 (w1.drew.alloc (.cells #[.int .u64 0, .int .u64 0, .int .u64 0, .int .u64 0] 69))) := Kd.out.trans (Only.of_below (aA _ _))
    have ahw : Hid (dH (w1.drew.alloc (.cells #[.int .u64 0, .int .u64 0, .int .u64 0, .int .u64 0] 69)) kb (gQ ah O p)) := Md.out.below (aA _ _)
    have gx : w1.heap.size ≤ w1.heap.size := Kd.out.size
    have gk : kb < w1.heap.size := by have := gq.out.lt; omega
    refine hK.out _ _ (fun _ => aC.out _ BO.out) (fun hHd => ?_)
    have hHd := hHd (by decide)
    clear hK K
    try simp only [Act.put, g1, g2, g3]
    refine aG (i := 6) (by kernel_rfl) rfl (fun K hK => ?_)
    go_simp
    go_at_call 132
    refine (HA.out _ (fH.out _ BO.out).1 (fH.out _ BO.out).2).mono ?_
    rintro e akm ⟨rfl, hb⟩
    have D8 := Lib.hid (BO.out.trans (Only.of_below hb))
    have ahx := Lib.hid (ahw.out.below hb)
    have ahy := Lib.hid (ahv.out.below hb)
    clear hb
    go_wp2_with fail
    refine hK.out _ _ (fun _ => aC.out _ D8.out) (fun hHd => ?_)
    have hHd := hHd (by decide)
    clear hK K
    try simp only [Act.put, g1, g2, g3]
    refine aG (i := 7) (by kernel_rfl) rfl (fun K hK => ?_)
    go_simp
    go_at_call 133
    refine (mJ _ _).mono ?_
    rintro e akn ⟨rfl, hb⟩
    have JR := Lib.hid (D8.out.trans (Only.of_below hb))
    have ahz := Lib.hid (ahx.out.below hb)
    have abo := Lib.hid (ahy.out.below hb)
    clear hb
    go_wp2_with fail
    refine hK.out _ _ (fun _ => aC.out _ JR.out) (fun hHd => ?_)
    have hHd := hHd (by decide)
    clear hK K
    try simp only [Act.put, g1, g2, g3]
    refine aG (i := 8) (by kernel_rfl) rfl (fun K hK => ?_)
    go_simp
    go_at_call 102
    refine (nD.out _ (fH.out _ JR.out).1 (fH.out _ JR.out).2 ahz.out).mono ?_
    rintro e ahA ⟨rfl, hb, hmm⟩
    have D9 : Hid (Only (fun k => k = kb ∨ w1.heap.size ≤ k) w1 ahA) := JR.out.trans (hb.mono fun k hk => by have := JR.out.size; omega)
    have abp := Lib.hid hmm
    have yX := Lib.hid (abo.out.only hb (by have := gq.out.lt; have := abo.out.lt; omega))
    clear hb hmm
    go_wp2_with fail
    refine hK.out _ _ (fun _ => aC.out _ D9.out) (fun hHd => ?_)
    have hHd := hHd (by decide)
    clear hK K
    try simp only [Act.put, g1, g2, g3]
    refine aB (i := 11) (v := ?OD) rfl (by kernel_rfl) (by decide) (by kernel_rfl) (by kernel_rfl) (by kernel_rfl) (fun _ _ _ h => h) (Or.inl ⟨by rfl, ?yP⟩) (by assumption) ?_
    case yP => (intro w hSw; (try dsimp only at hSw); go_simp; rw [JI]; rfl)
    try simp only [Act.put, g1, g2, g3]
    have mz := Lib.hid (yX.out.gV L)
    have z0 := yX.out.c0
    have fz0 := yX.out.frozen 0
    have z1 := yX.out.c1
    have gz := yX.out.frozen 1
    have z2 := yX.out.c2
    have gB := yX.out.frozen 2
    have z3 := yX.out.c3
    have fz3 := yX.out.frozen 3
    clear hHd
    refine aG (i := 13) (by kernel_rfl) rfl (fun K hK => ?_)
    go_simp
    refine hK.out _ _ (fun h => absurd h (by decide)) (fun _ => ?_)
    clear hK K
    try simp only [Act.put, g1, g2, g3]
    refine dA (by kernel_rfl) ?_ _
    first | exact ⟨_, _, _, _, _, _, _, _, _, _, _, _, _, ⟨gx, mz.out, dw (S := fun k => k = kb ∨ w1.heap.size ≤ k) D9.out (.inr gx) _ _ _ _ 0, abp.out.only (dw (S := fun k => w1.heap.size ≤ k) (Only.refl _ _) gx _ _ _ _ 0) (by have := gq.out.lt; omega)⟩, rfl⟩ | exact ⟨_, _, _, _, _, _, _, _, _, _, _, _, _, ⟨gx, dP _ _ rfl, BJ D9.out gx, BK abp.out gk⟩, rfl⟩
 case Vm =>
  rintro a' wx ⟨gL, u13, u14, u15, u16, iT, jJ, kU, u20, u21, u22, u23, u24, ⟨hgL, HL, Ox, Mx⟩, rfl⟩
  have c0 := HL.out.c0
  have c1 := HL.out.c1
  have c2 := HL.out.c2
  have c3 := HL.out.c3
  have hh1 := cO.out
  have hh2 := qj.out
  have Vo := Lib.hid (bS.out.only Ox.out (by omega))
  have xw := Lib.hid (bR.out.only Ox.out (by omega))
  have yR := Lib.hid (fun w => rQ (w := w) L HRR.out)
  clear aC Kd Md fH HM gq bS bT bR hh1 hh2
  cases hr : r with
  | true =>
    rw [hr] at yR
    go_wp2_with (go_at_call 128; refine (yR.out _).mono ?_; rintro e wy ⟨rfl, hb⟩; have Ky := Lib.hid hb; clear hb)
    have bM : Hid (∀ W', Below wy.heap.size wy W' → W'.cell? ⟨w.heap.size, 0, none⟩ = some (.int .u64 (aj S 0)) ∧ W'.cell? ⟨w.heap.size, 1, none⟩ = some (.int .u64 (aj S 1)) ∧ W'.cell? ⟨w.heap.size, 2, none⟩ = some (.int .u64 (aj S 2)) ∧ W'.cell? ⟨w.heap.size, 3, none⟩ = some (.int .u64 (aj S 3))) := fun W' hb => by
     have m1 := (Vo.out.below Ky.out).below hb
     exact ⟨m1.c0, m1.c1, m1.c2, m1.c3⟩
    have Ke : Hid (Below wy.heap.size wy wy.drew) := (Below.refl _ _).drew
    go_wp2_with fail
    refine jB (S := (fun W' => W'.cell? ⟨w.heap.size, 0, none⟩ = some (.int .u64 (aj S 0)) ∧ W'.cell? ⟨w.heap.size, 1, none⟩ = some (.int .u64 (aj S 1)) ∧ W'.cell? ⟨w.heap.size, 2, none⟩ = some (.int .u64 (aj S 2)) ∧ W'.cell? ⟨w.heap.size, 3, none⟩ = some (.int .u64 (aj S 3)))) (m := 3) (by kernel_rfl) (bM.out _ Ke.out) (fun hHd => ?_)
    refine aB (i := 0) (v := ?UU) rfl (by kernel_rfl) (by decide) (by kernel_rfl) (by kernel_rfl) (by kernel_rfl) (fun _ _ _ h => h) (Or.inl ⟨by rfl, ?DN⟩) (by assumption) ?_
    case DN => (intro w hSw; (try dsimp only at hSw); go_simp; first | done | with_reducible rfl)
    try simp only [Act.put, g1, g2, g3]
    refine aB (i := 1) (v := ?UW) rfl (by kernel_rfl) (by decide) (by kernel_rfl) (by kernel_rfl) (by kernel_rfl) (fun _ _ _ h => h) (Or.inl ⟨by rfl, ?DR⟩) (by assumption) ?_
    case DR => (intro w hSw; (try dsimp only at hSw); go_simp; first | done | with_reducible rfl)
    try simp only [Act.put, g1, g2, g3]
    refine aG (i := 2) (by kernel_rfl) rfl (fun K hK => ?_)
    go_simp
    refine hK.out _ _ (fun _ => bM.out _ Ke.out) (fun hHd => ?_)
    have hHd := hHd (by decide)
    clear hK K
    try simp only [Act.put, g1, g2, g3]
    have mA : aH wy (w.heap.size + 1 + 1) (fun _ => false) := xw.out.below Ky.out
    have z0 := mA.c0
    have fz0 := mA.frozen 0
    have z1 := mA.c1
    have gz := mA.frozen 1
    have z2 := mA.c2
    have gB := mA.frozen 2
    have z3 := mA.c3
    have fz3 := mA.frozen 3
    have mq := Lib.hid (mA.gV S)
    clear hHd mA
    refine aG (i := 3) (by kernel_rfl) rfl (fun K hK => ?_)
    go_simp
    refine hK.out _ _ (fun h => absurd h (by decide)) (fun _ => ?_)
    clear hK K
    try simp only [Act.put, g1, g2, g3]
    refine dA (by kernel_rfl) ?_ _
    go_wp2_with fail
    refine Pg (K := S) (g := w.heap.size + 1 + 1) rfl rfl mq.out ⟨by rw [hr]; first | rfl | (rw [show IntKind.i64.wrap 1 = 1 from rfl]; rfl) | (rw [show IntKind.i64.wrap 0 = 0 from rfl]; rfl), ?_, ?_⟩
    · refine kS ?_
      exact dw (S := fun k => k = kb ∨ w.heap.size ≤ k) (((Only.of_below HB.out |>.mono fun k hk => by exact hk).trans (Ox.out.mono fun k hk => by have := cO.out; omega)).trans (Only.of_below Ky.out)) (.inr (by omega)) _ _ _ _ 0
    · exact ((Mx.out.below Ky.out).only (dw (S := fun k => k = w.heap.size + 1 + 1) (Only.refl _ _) rfl _ _ _ _ 0) (by have := qj.out; omega)).below (Below.refl _ _).drew
  | false =>
    rw [hr] at yR
    go_wp2_with (go_at_call 128; refine (yR.out _).mono ?_; rintro e wy ⟨rfl, hb⟩; have Ky := Lib.hid hb; clear hb)
    have bM : Hid (∀ W', Below wy.heap.size wy W' → W'.cell? ⟨gL, 0, none⟩ = some (.int .u64 (aj L 0)) ∧ W'.cell? ⟨gL, 1, none⟩ = some (.int .u64 (aj L 1)) ∧ W'.cell? ⟨gL, 2, none⟩ = some (.int .u64 (aj L 2)) ∧ W'.cell? ⟨gL, 3, none⟩ = some (.int .u64 (aj L 3))) := fun W' hb => by
     have m1 := (HL.out.below Ky.out).below hb
     exact ⟨m1.c0, m1.c1, m1.c2, m1.c3⟩
    have Ke : Hid (Below wy.heap.size wy wy.drew) := (Below.refl _ _).drew
    go_wp2_with fail
    refine jB (S := (fun W' => W'.cell? ⟨gL, 0, none⟩ = some (.int .u64 (aj L 0)) ∧ W'.cell? ⟨gL, 1, none⟩ = some (.int .u64 (aj L 1)) ∧ W'.cell? ⟨gL, 2, none⟩ = some (.int .u64 (aj L 2)) ∧ W'.cell? ⟨gL, 3, none⟩ = some (.int .u64 (aj L 3)))) (m := 4) (by kernel_rfl) (bM.out _ Ke.out) (fun hHd => ?_)
    refine aB (i := 0) (v := ?UY) rfl (by kernel_rfl) (by decide) (by kernel_rfl) (by kernel_rfl) (by kernel_rfl) (fun _ _ _ h => h) (Or.inl ⟨by rfl, ?DT⟩) (by assumption) ?_
    case DT => (intro w hSw; (try dsimp only at hSw); go_simp; first | done | with_reducible rfl)
    try simp only [Act.put, g1, g2, g3]
    refine aB (i := 1) (v := ?UZ) rfl (by kernel_rfl) (by decide) (by kernel_rfl) (by kernel_rfl) (by kernel_rfl) (fun _ _ _ h => h) (Or.inl ⟨by rfl, ?DU⟩) (by assumption) ?_
    case DU => (intro w hSw; (try dsimp only at hSw); go_simp; first | done | with_reducible rfl)
    try simp only [Act.put, g1, g2, g3]
    refine aB (i := 2) (v := ?U0) rfl (by kernel_rfl) (by decide) (by kernel_rfl) (by kernel_rfl) (by kernel_rfl) (fun _ _ _ h => h) (Or.inl ⟨by rfl, ?DV⟩) (by assumption) ?_
    case DV => (intro w hSw; (try dsimp only at hSw); go_simp; first | done | with_reducible rfl)
    try simp only [Act.put, g1, g2, g3]
    refine aG (i := 3) (by kernel_rfl) rfl (fun K hK => ?_)
    go_simp
    refine hK.out _ _ (fun _ => bM.out _ Ke.out) (fun hHd => ?_)
    have hHd := hHd (by decide)
    clear hK K
    try simp only [Act.put, g1, g2, g3]
    have mA : aH wy (w.heap.size + 1 + 1) (fun _ => false) := xw.out.below Ky.out
    have z0 := mA.c0
    have fz0 := mA.frozen 0
    have z1 := mA.c1
    have gz := mA.frozen 1
    have z2 := mA.c2
    have gB := mA.frozen 2
    have z3 := mA.c3
    have fz3 := mA.frozen 3
    have mq := Lib.hid (mA.gV L)
    clear hHd mA
    refine aG (i := 4) (by kernel_rfl) rfl (fun K hK => ?_)
    go_simp
    refine hK.out _ _ (fun h => absurd h (by decide)) (fun _ => ?_)
    clear hK K
    try simp only [Act.put, g1, g2, g3]
    refine dA (by kernel_rfl) ?_ _
    go_wp2_with fail
    refine Pg (K := L) (g := w.heap.size + 1 + 1) rfl rfl mq.out ⟨by rw [hr]; first | rfl | (rw [show IntKind.i64.wrap 1 = 1 from rfl]; rfl) | (rw [show IntKind.i64.wrap 0 = 0 from rfl]; rfl), ?_, ?_⟩
    · refine kS ?_
      exact dw (S := fun k => k = kb ∨ w.heap.size ≤ k) (((Only.of_below HB.out |>.mono fun k hk => by exact hk).trans (Ox.out.mono fun k hk => by have := cO.out; omega)).trans (Only.of_below Ky.out)) (.inr (by omega)) _ _ _ _ 0
    · exact ((Mx.out.below Ky.out).only (dw (S := fun k => k = w.heap.size + 1 + 1) (Only.refl _ _) rfl _ _ _ _ 0) (by have := qj.out; omega)).below (Below.refl _ _).drew
end
end Go.Proofs.YtglbkbiphcgidaaDoor
