/-
  Contract: lead.
-/
import Derived.Deep.DeepCutAuto
import Derived.Test.YtphkgnpkcfbnkabDoorPk19
namespace Go.Proofs.YtphkgnpkcfbnkabDoor
section
open Go.RowKit Go.Shelf
attribute [local go_sem] Oper.semAt_some

/-- The sets of those in pre, each put through f. -/
noncomputable def mapE {J : Nat → Bool} (P : Nat → Nat → Bool) (f : (Nat → Bool) → Nat → Bool) (pre : List (MemI J)) : Nat → Nat → Bool := fun u => @ite _ (∃ y ∈ pre, y.1 = u) (Classical.propDecidable _) (f (P u)) (P u)
theorem mapE_nil {J : Nat → Bool} {P : Nat → Nat → Bool} {f : (Nat → Bool) → Nat → Bool} : mapE P f ([] : List (MemI J)) = P := funext fun u => by unfold mapE; simp
theorem mapE_snoc {J : Nat → Bool} {P : Nat → Nat → Bool} {f : (Nat → Bool) → Nat → Bool} (hf : ∀ X, f (f X) = f X) {pre : List (MemI J)} {x : MemI J} : mapE P f (pre ++ [x]) = putE (mapE P f pre) x.1 (f (mapE P f pre x.1)) := funext fun u => by
  by_cases e : u = x.1
  · subst e
    rw [putE_same]
    have h1 : ∃ y ∈ pre ++ [x], y.1 = x.1 := ⟨x, by simp, rfl⟩
    unfold mapE
    rw [if_pos h1]
    by_cases h2 : ∃ y ∈ pre, y.1 = x.1
    · rw [if_pos h2, hf]
    · rw [if_neg h2]
  · rw [putE_other e]
    unfold mapE
    by_cases h2 : ∃ y ∈ pre, y.1 = u
    · obtain ⟨y, hy, hyu⟩ := h2
      rw [if_pos ⟨y, by simp [hy], hyu⟩, if_pos ⟨y, hy, hyu⟩]
    · rw [if_neg h2, if_neg]
      rintro ⟨y, hy, hyu⟩
      rcases List.mem_append.1 hy with hy | hy
      · exact h2 ⟨y, hy, hyu⟩
      · rw [List.mem_singleton.1 hy] at hyu; exact e hyu.symm
theorem mapE_all {J : Nat → Bool} {P : Nat → Nat → Bool} {f : (Nat → Bool) → Nat → Bool} {xs : List (MemI J)} (h : valI xs = markedK J 256) {u : Nat} (hu : u < 256) : mapE P f xs u = cond (J u) (f (P u)) (P u) := by
  unfold mapE
  cases hJ : J u with
  | true =>
    obtain ⟨y, hy, e⟩ := mem_vals h hu hJ
    rw [if_pos ⟨y, hy, e⟩]; rfl
  | false =>
    rw [if_neg]
    · rfl
    · rintro ⟨y, _, e⟩
      have := y.2.2
      rw [e, hJ] at this; cases this
theorem less_twice {X K : Nat → Bool} : lessB (lessB X K) K = lessB X K := funext fun v => by unfold lessB; cases X v <;> cases K v <;> rfl
theorem or_twice {X K : Nat → Bool} : orB (orB X K) K = orB X K := funext fun v => by unfold orB; cases X v <;> cases K v <;> rfl

/-- No cell of a block is frozen. -/
def FreeAt (w : World) (g : Nat) : Prop := g < w.heap.size ∧ ∀ k, w.frozen? ⟨g, k, none⟩ = false
theorem FreeAt.only {S : Nat → Prop} {w w' : World} {g : Nat} (h : FreeAt w g) (hk : Only S w w') (hs : ¬ S g) : FreeAt w' g :=
  ⟨Nat.lt_of_lt_of_le h.1 hk.size, fun k => by
    have e := hk.block g h.1 hs
    have h2 := h.2 k
    unfold World.frozen? at h2 ⊢
    simpa [e] using h2⟩
theorem FreeAt.below {w w' : World} {g : Nat} (h : FreeAt w g) (hb : Below w.heap.size w w') : FreeAt w' g := h.only (S := fun _ => False) (Only.of_below hb) fun x => x
theorem FreeAt.set {w : World} {g : Nat} (h : FreeAt w g) (p : Addr) (u : Value) : FreeAt (w.setCell p u) g := ⟨by simpa [World.setCell] using h.1, fun k => by simpa using h.2 k⟩
theorem FreeAt.alloc {w : World} {g : Nat} (h : FreeAt w g) (o : Obj) : FreeAt (w.alloc o) g := h.below (below1 _ _)

/-- A cut whose frame is said by the frame before. -/
theorem wp_cutA {P : Program} {c : Code} {Q : Exit → Act → World → Prop} {a : Act} {w : World} (R : Act → Act → World → Prop) (h1 : Code.wp P c (Exit.then (R a) fun _ _ _ => False) a w) (h2 : ∀ a' w', R a a' w' → Q .normal a' w') : Code.wp P c Q a w := wp_cut (R a) h1 h2

/-- A function without results is left behind its loops over functions. -/
theorem leaves_none {fn : Func} {tmps : Array Value} {B : Nat} {R : Ending → World → Prop} (hr : fn.results = #[]) : ∀ {ds : List Deferred} {W : World},
    MarksAt W B ds → (∀ u W', Only (fun k => B ≤ k) W W' → R (.returned u) W') → bodyPostM Fence.wide 4 Tryd.prog fn R .normal { tmps := tmps, defers := ds } W
  | [], W, _, hR => by
    exact ⟨_, by simp [results, hr]; rfl, hR _ W (Only.refl _ _)⟩
  | d :: ds, W, hK, hR => by
    obtain ⟨⟨D, hd, hB, hD, hne⟩, ht⟩ := hK
    subst hd
    have ho : Only (fun k => B ≤ k) W (W.putObj D (.deferred none)) := (Only.of_grown (grownBy_putObj' W D _)).mono fun k hk => by cases hk; exact hB
    have hod : Only (fun k => k = D) W (W.putObj D (.deferred none)) := (Only.of_grown (grownBy_putObj' W D _)).mono fun k hk => by cases hk; rfl
    have ht2 : ∀ {es : List Deferred}, MarksAt W B es → (∀ d' ∈ es, d' ≠ { target := .collected D, args := #[] }) → MarksAt (W.putObj D (.deferred none)) B es := fun {es} => by
      induction es with
      | nil => intro _ _; trivial
      | cons x es ih =>
        intro h hn
        obtain ⟨⟨E, hx, hBE, hE, hnx⟩, h2⟩ := h
        have hED : E ≠ D := fun e => hn x (by simp) (by rw [hx, e])
        exact ⟨⟨E, hx, hBE, (hod.block E (Array.getElem?_eq_some_iff.1 hE).1 hED).trans hE, hnx⟩, ih h2 fun d' hd' => hn d' (by simp [hd'])⟩
    have rest := leaves_none (R := R) (B := B) hr (ds := ds) (W := W.putObj D (.deferred none)) (tmps := tmps) (ht2 ht hne) fun u W' hW => hR u W' (ho.trans hW)
    exact ⟨by simp, .inl ⟨_, _, rfl, run_takeDeferred hD, rest⟩⟩

set_option linter.unusedSimpArgs false in
set_option maxRecDepth 100000 in
set_option maxHeartbeats 8000000 in
theorem lead_is {w : World} {b n nb pb kb v : Nat} {Ow Lv E Pd : Nat → Nat → Bool} {N : Nat → Bool} {Q Q' : (Nat → Bool) → Value → Prop} (hT : TabW w) (hR : RecAt w b n nb pb kb Ow Lv E Pd) (hM : MemoAt w kb Q) (hFp : FreeAt w pb) (hFn : FreeAt w nb) (htb : pb ≠ 1 ∧ nb ≠ 1) (hv : v < n) (hE : ∀ x, E v x = true → x < n) (hN : ∀ x, N x = true → x < n) :
    Calls Tryd.prog 108 #[.pointer (some ⟨b, 0, none⟩), .int .i64 (v : Int), maskV N] w fun e w' => ∃ Pd', (∃ u, e = .returned u) ∧ RecAt w' b n nb pb kb Ow Lv (putE E v N) Pd' ∧ (∀ u, u < n → Pd' u = cond (N u) (orB (cond (E v u) (lessB (Pd u) (oneB v)) (Pd u)) (oneB v)) (cond (E v u) (lessB (Pd u) (oneB v)) (Pd u))) ∧ MemoAt w' kb Q' ∧ FreeAt w' nb ∧ FreeAt w' pb ∧ Only (fun k => k = nb ∨ k = pb ∨ k = kb ∨ w.heap.size ≤ k) w w' := by
  have hkt := memo_ne_tab hM hT
  have HM := Lib.hid hM
  have HR := Lib.hid hR
  have HT := Lib.hid hT
  have HE := Lib.hid hE
  have HN := Lib.hid hN
  have hn := hR.small
  have hap := hR.apart
  have hlt := hR.lt
  have HKT := Lib.hid hkt
  clear hT hR hM hE hN hkt
  have hv0 : (0 : Int) ≤ (v : Int) := by omega
  have hv1 : (v : Int) < (n : Int) := by omega
  refine (callsIn_wide (n := 4)).1 ?_
  refine callsIn_of_wp_marks Tryd.func108 rfl trivial ?_ rfl
  simp only [Tryd.ntmps108, List.size_toArray, List.length_cons, List.length_nil, Nat.reduceAdd, Nat.reduceSub, Array.replicate_succ, Array.replicate_zero, List.push_toArray, List.append_toArray, List.nil_append, List.cons_append]
  refine wpIn_wide.2 ?_
  go_wp2_with fail
  obtain ⟨w1, hw1⟩ : ∃ y, y = (((w.alloc (.cells #[.pointer (some ⟨b, 0, none⟩)] 79)).alloc (.cells #[.int .u64 (maskW N 0), .int .u64 (maskW N 1), .int .u64 (maskW N 2), .int .u64 (maskW N 3)] 67)).alloc (.cells #[.int .i64 (v : Int)] 2)) := ⟨_, rfl⟩
  rw [← hw1]
  have B1 : Hid (Below w.heap.size w w1) := by
    rw [hw1]
    exact (((Below.refl _ _).alloc (Nat.le_refl _) _).alloc (by simp) _).alloc (by simp; omega) _
  have bP1 : Hid (Boxed w1 (w.heap.size) 79 (.pointer (some ⟨b, 0, none⟩))) := by
    rw [hw1]; exact bx_below (bx_below (Boxed.new w 79 _) (below1 _ _)) (below1 _ _)
  have bN1 : Hid (MaskAt w1 (w.heap.size + 1) N) := by
    rw [hw1]; exact (mask_new_at N _ (by simp)).below (below1 _ _)
  have bV1 : Hid (w1.cell? ⟨w.heap.size + 1 + 1, 0, none⟩ = some (.int .i64 (v : Int))) := by rw [hw1]; exact (boxed_at _ _ _ (by simp)).cell
  have HS1 : Hid (w1.heap.size = w.heap.size + 3) := by rw [hw1]; simp [Hid]
  clear hw1
  refine (maskOf_one bV1.out (by omega)).mono ?_
  rintro e w2 ⟨rfl, hb2⟩
  have HS2 : Hid (w1.heap.size ≤ w2.heap.size) := hb2.size
  have B2 := Lib.hid (B1.out.trans (hb2.mono B1.out.size))
  have bP2 := Lib.hid (bx_below bP1.out hb2)
  have bN2 := Lib.hid (bN1.out.below hb2)
  clear hb2 bP1 bN1 bV1
  go_upto_region 2 with fail
  obtain ⟨w3, hw3⟩ : ∃ y, y = w2.alloc (maskO (oneB v)) := ⟨_, rfl⟩
  rw [← hw3]
  have B23 : Hid (Below w2.heap.size w2 w3) := by rw [hw3]; exact below1 _ _
  have bO3 : Hid (MaskAt w3 w2.heap.size (oneB v)) := by rw [hw3]; exact MaskAt.new _ _
  have HS3 : Hid (w3.heap.size = w2.heap.size + 1) := by rw [hw3]; simp [Hid]
  clear hw3
  have B3 := Lib.hid (B2.out.trans (B23.out.mono B2.out.size))
  have bP3 := Lib.hid (bx_below bP2.out B23.out)
  have bN3 := Lib.hid (bN2.out.below B23.out)
  have R3 := Lib.hid (HR.out.below B3.out)
  clear bP2 bN2
  have x0 := bP3.out.cell
  have x1 := R3.out.next
  have y0 := R3.out.succ v hv 0 (by omega)
  have y1 := R3.out.succ v hv 1 (by omega)
  have y2 := R3.out.succ v hv 2 (by omega)
  have y3 := R3.out.succ v hv 3 (by omega)
  rw [Nat.zero_add] at y0 y1 y2 y3
  rw [Nat.add_zero] at y0
  go_wp2_with fail
  refine (mask_all _ (E v)).mono ?_
  rintro e w4 ⟨rfl, hw4⟩
  have B34 : Hid (Below w3.heap.size w3 w4) := by rw [hw4]; exact below1 _ _
  have bJ4 : Hid (MaskAt w4 w3.heap.size (E v)) := by rw [hw4]; exact MaskAt.new _ _
  have HS4 : Hid (w4.heap.size = w3.heap.size + 1) := by rw [hw4]; simp [Hid]
  clear hw4 x0 x1 y0 y1 y2 y3
  have B4 := Lib.hid (B3.out.trans (B34.out.mono B3.out.size))
  have bP4 := Lib.hid (bx_below bP3.out B34.out)
  have bN4 := Lib.hid (bN3.out.below B34.out)
  have bO4 := Lib.hid (bO3.out.below B34.out)
  have R4 := Lib.hid (HR.out.below B4.out)
  have T4 := Lib.hid (HT.out.below B4.out)
  have T0 := Lib.hid HT.out.lt
  clear bP3 bN3 bO3 R3
  go_wp2_with fail
  have hs1 := HS1.out
  have hs2 := HS2.out
  have hs3 := HS3.out
  have hs4 := HS4.out
  have hpb := htb.1
  have F4 := Lib.hid (hFp.below B4.out)
  have HPC : Hid (∀ W', Only (fun k => k = pb ∨ w4.heap.size ≤ k) w4 W' → W'.cell? ⟨b, 173, none⟩ = some (.slice (some ⟨pb, 0, none⟩) n n)) := fun W' ho => (World.cell?_of_block (ho.block b (by omega) (by omega))).trans R4.out.preds
  refine wp_members (Bs := w3.heap.size) (I := E v) rfl T4.out bJ4.out rfl (fun k => k = pb)
    (fun k hk => by rw [hk]; exact ⟨by omega, hpb⟩)
    (fun pre W => EdgesAt W pb 0 n (mapE Pd (fun X => lessB X (oneB v)) pre) ∧ FreeAt W pb) (fun _ _ _ => False)
    (fun pre A A' h ho => ⟨h.1.only ho (by omega), h.2.only ho (by omega)⟩) (fun _ _ _ _ h _ => h)
    (by rw [mapE_nil]; exact ⟨R4.out.back, F4.out⟩) ?act ?assign ?body ?done ?stop
  case assign =>
    intro l x W K hK
    dsimp only [encI]
    gi_wp2
    exact hK
  case body =>
    intro l pre x W hR hO
    obtain ⟨u, hu⟩ : ∃ u : Nat, u = x.1 := ⟨_, rfl⟩
    have hun : u < n := by rw [hu]; exact HE.out _ x.2.2
    have hu0 : (0 : Int) ≤ (u : Int) := by omega
    have hu1 : (u : Int) < (n : Int) := by omega
    have HX := Lib.hid (mapE_snoc (P := Pd) (f := fun X => lessB X (oneB v)) (fun _ => less_twice) (pre := pre) (x := x))
    rw [← hu] at HX ⊢
    clear hu
    have hsW := hO.size
    have bPW := Lib.hid (bx_only bP4.out hO (by omega))
    have bOW := Lib.hid (bO4.out.only hO (by omega))
    have HPW := Lib.hid (HPC.out W hO)
    have hbW : b < W.heap.size := by omega
    obtain ⟨K, hK⟩ : ∃ K, mapE Pd (fun X => lessB X (oneB v)) pre u = K := ⟨_, rfl⟩
    have HR5 := Lib.hid hR.1
    have HF5 := Lib.hid hR.2
    have HKK := Lib.hid hK
    have HSw : Hid (∀ W', Below W.heap.size W W' → W'.cell? ⟨w.heap.size, 0, none⟩ = some (.pointer (some ⟨b, 0, none⟩)) ∧ W'.cell? ⟨b, 173, none⟩ = some (.slice (some ⟨pb, 0, none⟩) n n) ∧ W'.cell? ⟨pb, u * 4, none⟩ = some (.int .u64 (maskW K 0)) ∧ W'.cell? ⟨pb, u * 4 + 1, none⟩ = some (.int .u64 (maskW K 1)) ∧ W'.cell? ⟨pb, u * 4 + 2, none⟩ = some (.int .u64 (maskW K 2)) ∧ W'.cell? ⟨pb, u * 4 + 3, none⟩ = some (.int .u64 (maskW K 3)) ∧ W'.cell? ⟨w2.heap.size, 0, none⟩ = some (.int .u64 (maskW (oneB v) 0)) ∧ W'.cell? ⟨w2.heap.size, 1, none⟩ = some (.int .u64 (maskW (oneB v) 1)) ∧ W'.cell? ⟨w2.heap.size, 2, none⟩ = some (.int .u64 (maskW (oneB v) 2)) ∧ W'.cell? ⟨w2.heap.size, 3, none⟩ = some (.int .u64 (maskW (oneB v) 3))) := fun W' hb => by
      have m1 := bOW.out.below hb
      have m4 := bx_below bPW.out hb
      have m5 : W'.cell? ⟨b, 173, none⟩ = some (.slice (some ⟨pb, 0, none⟩) n n) := (World.cell?_of_block (hb.block b hbW)).trans HPW.out
      have q := HR5.out.below hb
      have q0 := q u hun 0 (by omega)
      have q1 := q u hun 1 (by omega)
      have q2 := q u hun 2 (by omega)
      have q3 := q u hun 3 (by omega)
      rw [Nat.zero_add, HKK.out] at q0 q1 q2 q3
      rw [Nat.add_zero] at q0
      exact ⟨m4.cell, m5, q0, q1, q2, q3, m1.c0, m1.c1, m1.c2, m1.c3⟩
    have Kd : Hid (Below W.heap.size W W.drew) := (Below.refl _ _).drew
    clear hR hO hK
    gi_wp2
    refine wpIn_region_M (S := (fun W' => W'.cell? ⟨w.heap.size, 0, none⟩ = some (.pointer (some ⟨b, 0, none⟩)) ∧ W'.cell? ⟨b, 173, none⟩ = some (.slice (some ⟨pb, 0, none⟩) n n) ∧ W'.cell? ⟨pb, u * 4, none⟩ = some (.int .u64 (maskW K 0)) ∧ W'.cell? ⟨pb, u * 4 + 1, none⟩ = some (.int .u64 (maskW K 1)) ∧ W'.cell? ⟨pb, u * 4 + 2, none⟩ = some (.int .u64 (maskW K 2)) ∧ W'.cell? ⟨pb, u * 4 + 3, none⟩ = some (.int .u64 (maskW K 3)) ∧ W'.cell? ⟨w2.heap.size, 0, none⟩ = some (.int .u64 (maskW (oneB v) 0)) ∧ W'.cell? ⟨w2.heap.size, 1, none⟩ = some (.int .u64 (maskW (oneB v) 1)) ∧ W'.cell? ⟨w2.heap.size, 2, none⟩ = some (.int .u64 (maskW (oneB v) 2)) ∧ W'.cell? ⟨w2.heap.size, 3, none⟩ = some (.int .u64 (maskW (oneB v) 3)))) (m := 15) (by kernel_rfl) (by kernel_rfl) (HSw.out _ Kd.out) (fun hHeld => ?_)
    refine wpAnyM_take (i := 0) (v := ?vm1) rfl (by kernel_rfl) (by decide) (by kernel_rfl) (by kernel_rfl) (by kernel_rfl) (fun _ _ _ h => h) (Or.inl ⟨by rfl, ?hm1⟩) (by assumption) ?_
    case hm1 => (intro w hSw; (try dsimp only at hSw); go_simp; first | done | with_reducible rfl)
    try simp only [Act.put, List.setIfInBounds_toArray, List.set_cons_zero, List.set_cons_succ]
    refine wpAnyM_take (i := 1) (v := ?vm2) rfl (by kernel_rfl) (by decide) (by kernel_rfl) (by kernel_rfl) (by kernel_rfl) (fun _ _ _ h => h) (Or.inl ⟨by rfl, ?hm2⟩) (by assumption) ?_
    case hm2 => (intro w hSw; (try dsimp only at hSw); go_simp; first | done | with_reducible rfl)
    try simp only [Act.put, List.setIfInBounds_toArray, List.set_cons_zero, List.set_cons_succ]
    refine wpAnyM_take (i := 2) (v := ?vm3) rfl (by kernel_rfl) (by decide) (by kernel_rfl) (by kernel_rfl) (by kernel_rfl) (fun _ _ _ h => h) (Or.inl ⟨by rfl, ?hm3⟩) (by assumption) ?_
    case hm3 => (intro w hSw; (try dsimp only at hSw); go_simp; first | done | with_reducible rfl)
    try simp only [Act.put, List.setIfInBounds_toArray, List.set_cons_zero, List.set_cons_succ]
    refine wpAnyM_take (i := 3) (v := ?vm4) rfl (by kernel_rfl) (by decide) (by kernel_rfl) (by kernel_rfl) (by kernel_rfl) (fun _ _ _ h => h) (Or.inl ⟨by rfl, ?hm4⟩) (by assumption) ?_
    case hm4 => (intro w hSw; (try dsimp only at hSw); go_simp; first | done | with_reducible rfl)
    try simp only [Act.put, List.setIfInBounds_toArray, List.set_cons_zero, List.set_cons_succ]
    refine wpAnyM_take (i := 4) (v := ?vm5) rfl (by kernel_rfl) (by decide) (by kernel_rfl) (by kernel_rfl) (by kernel_rfl) (fun _ _ _ h => h) (Or.inl ⟨by rfl, ?hm5⟩) (by assumption) ?_
    case hm5 => (intro w hSw; (try dsimp only at hSw); go_simp; first | done | with_reducible rfl)
    try simp only [Act.put, List.setIfInBounds_toArray, List.set_cons_zero, List.set_cons_succ]
    refine wpAnyM_take (i := 5) (v := ?vm6) rfl (by kernel_rfl) (by decide) (by kernel_rfl) (by kernel_rfl) (by kernel_rfl) (fun _ _ _ h => h) (Or.inl ⟨by rfl, ?hm6⟩) (by assumption) ?_
    case hm6 => (intro w hSw; (try dsimp only at hSw); go_simp; first | done | with_reducible rfl)
    try simp only [Act.put, List.setIfInBounds_toArray, List.set_cons_zero, List.set_cons_succ]
    refine wpAnyM_take (i := 6) (v := ?vm7) rfl (by kernel_rfl) (by decide) (by kernel_rfl) (by kernel_rfl) (by kernel_rfl) (fun _ _ _ h => h) (Or.inl ⟨by rfl, ?hm7⟩) (by assumption) ?_
    case hm7 => (intro w hSw; (try dsimp only at hSw); go_simp; first | done | with_reducible rfl)
    try simp only [Act.put, List.setIfInBounds_toArray, List.set_cons_zero, List.set_cons_succ]
    refine wpAnyM_take (i := 7) (v := ?vm8) rfl (by kernel_rfl) (by decide) (by kernel_rfl) (by kernel_rfl) (by kernel_rfl) (fun _ _ _ h => h) (Or.inl ⟨by rfl, ?hm8⟩) (by assumption) ?_
    case hm8 => (intro w hSw; (try dsimp only at hSw); go_simp; first | done | with_reducible rfl)
    try simp only [Act.put, List.setIfInBounds_toArray, List.set_cons_zero, List.set_cons_succ]
    refine wpAnyM_take (i := 8) (v := ?vm9) rfl (by kernel_rfl) (by decide) (by kernel_rfl) (by kernel_rfl) (by kernel_rfl) (fun _ _ _ h => h) (Or.inl ⟨by rfl, ?hm9⟩) (by assumption) ?_
    case hm9 => (intro w hSw; (try dsimp only at hSw); go_simp; first | done | with_reducible rfl)
    try simp only [Act.put, List.setIfInBounds_toArray, List.set_cons_zero, List.set_cons_succ]
    refine wpAnyM_take (i := 9) (v := ?vm10) rfl (by kernel_rfl) (by decide) (by kernel_rfl) (by kernel_rfl) (by kernel_rfl) (fun _ _ _ h => h) (Or.inl ⟨by rfl, ?hm10⟩) (by assumption) ?_
    case hm10 => (intro w hSw; (try dsimp only at hSw); go_simp; first | done | with_reducible rfl)
    try simp only [Act.put, List.setIfInBounds_toArray, List.set_cons_zero, List.set_cons_succ]
    refine wpAnyM_take (i := 10) (v := ?vm11) rfl (by kernel_rfl) (by decide) (by kernel_rfl) (by kernel_rfl) (by kernel_rfl) (fun _ _ _ h => h) (Or.inl ⟨by rfl, ?hm11⟩) (by assumption) ?_
    case hm11 => (intro w hSw; (try dsimp only at hSw); go_simp; first | done | with_reducible rfl)
    try simp only [Act.put, List.setIfInBounds_toArray, List.set_cons_zero, List.set_cons_succ]
    refine wpAnyM_take (i := 11) (v := ?vm12) rfl (by kernel_rfl) (by decide) (by kernel_rfl) (by kernel_rfl) (by kernel_rfl) (fun _ _ _ h => h) (Or.inl ⟨by rfl, ?hm12⟩) (by assumption) ?_
    case hm12 => (intro w hSw; (try dsimp only at hSw); go_simp; first | done | with_reducible rfl)
    try simp only [Act.put, List.setIfInBounds_toArray, List.set_cons_zero, List.set_cons_succ]
    refine wpAnyM_take (i := 12) (v := ?vm13) rfl (by kernel_rfl) (by decide) (by kernel_rfl) (by kernel_rfl) (by kernel_rfl) (fun _ _ _ h => h) (Or.inl ⟨by rfl, ?hm13⟩) (by assumption) ?_
    case hm13 => (intro w hSw; (try dsimp only at hSw); go_simp; first | done | with_reducible rfl)
    try simp only [Act.put, List.setIfInBounds_toArray, List.set_cons_zero, List.set_cons_succ]
    refine wpAnyM_one (i := 13) (by kernel_rfl) rfl (fun K hK => ?_)
    go_simp
    go_at_call 136
    refine (mask_less _ _).mono ?_
    rintro e Wa ⟨rfl, hb⟩
    have Ka := Lib.hid (Kd.out.trans (hb.mono Kd.out.size))
    clear hb
    go_wp2_with fail
    refine hK.out _ _ (fun _ => HSw.out _ Ka.out) (fun hHeld => ?_)
    have hHeld := hHeld (by decide)
    clear hK K
    try simp only [Act.put, List.setIfInBounds_toArray, List.set_cons_zero, List.set_cons_succ]
    refine wpAnyM_take (i := 14) (v := ?vm14) rfl (by kernel_rfl) (by decide) (by kernel_rfl) (by kernel_rfl) (by kernel_rfl) (fun _ _ _ h => h) (Or.inl ⟨by rfl, ?hm14⟩) (by assumption) ?_
    case hm14 => (intro w hSw; (try dsimp only at hSw); go_simp; first | done | with_reducible rfl)
    try simp only [Act.put, List.setIfInBounds_toArray, List.set_cons_zero, List.set_cons_succ]
    have q := HR5.out.below Ka.out
    have q0 := q u hun 0 (by omega)
    have q1 := q u hun 1 (by omega)
    have q2 := q u hun 2 (by omega)
    have q3 := q u hun 3 (by omega)
    rw [Nat.zero_add, HKK.out] at q0 q1 q2 q3
    rw [Nat.add_zero] at q0
    have FA := HF5.out.below Ka.out
    have f0 := FA.2 (u * 4)
    have f1 := FA.2 (u * 4 + 1)
    have f2 := FA.2 (u * 4 + 2)
    have f3 := FA.2 (u * 4 + 3)
    have mq := Lib.hid (q.put hun (lessB K (oneB v)))
    have mf := Lib.hid FA
    clear hHeld q FA
    refine wpAnyM_one (i := 15) (by kernel_rfl) rfl (fun K hK => ?_)
    go_simp
    refine hK.out _ _ (fun h => absurd h (by decide)) (fun _ => ?_)
    clear hK K
    try simp only [Act.put, List.setIfInBounds_toArray, List.set_cons_zero, List.set_cons_succ]
    refine wpAnyM_done (by kernel_rfl) ?_ _
    refine calm_normal ?_
    refine ⟨only_put4 (S := fun k => k = pb ∨ W.heap.size ≤ k) (Only.of_below Ka.out) (.inl rfl) _ _ _ _ (u * 4), ?_, ?_⟩
    · have h1 := mq.out
      simp only [Nat.zero_add] at h1
      rw [HX.out, HKK.out]
      exact h1
    · exact (((mf.out.set _ _).set _ _).set _ _).set _ _
  case done =>
    intro D xs W hD hxs hR hO hK
    have hsW := hO.size
    obtain ⟨P1, hP1⟩ : ∃ P, P = mapE Pd (fun X => lessB X (oneB v)) xs := ⟨_, rfl⟩
    have HP1 : Hid (∀ u, u < 256 → P1 u = cond (E v u) (lessB (Pd u) (oneB v)) (Pd u)) := fun u hu => by rw [hP1]; exact mapE_all hxs hu
    rw [← hP1] at hR
    clear hP1 hxs
    have E5 := Lib.hid hR.1
    have F5 := Lib.hid hR.2
    have bP5 := Lib.hid (bx_only bP4.out hO (by omega))
    have bN5 := Lib.hid (bN4.out.only hO (by omega))
    have bO5 := Lib.hid (bO4.out.only hO (by omega))
    have t0 := T0.out
    have T5 := Lib.hid (T4.out.only hO (by omega))
    have O5 : Hid (Only (fun k => k = pb ∨ w.heap.size ≤ k) w W) := ((Only.of_below B4.out).mono fun k hk => .inr hk).trans (hO.mono fun k hk => by omega)
    have HPC5 := Lib.hid (HPC.out W hO)
    have HDK : Hid (w4.heap.size ≤ D ∧ W.heap[D]? = some (.deferred (some []))) := ⟨hD, hK⟩
    have hDs := (Array.getElem?_eq_some_iff.1 hK).1
    have c0 := bN5.out.c0
    have c1 := bN5.out.c1
    have c2 := bN5.out.c2
    have c3 := bN5.out.c3
    clear hR hK hO bP4 bN4 bO4 T4 F4 HPC
    go_wp2_with fail
    refine (mask_all _ N).mono ?_
    rintro e w5 ⟨rfl, hw5⟩
    have B56 : Hid (Below W.heap.size W w5) := by rw [hw5]; exact below1 _ _
    have bJ6 : Hid (MaskAt w5 W.heap.size N) := by rw [hw5]; exact MaskAt.new _ _
    have HS6 : Hid (w5.heap.size = W.heap.size + 1) := by rw [hw5]; simp [Hid]
    clear hw5 c0 c1 c2 c3
    have hs6 := HS6.out
    have E6 := Lib.hid (E5.out.below B56.out)
    have F6 := Lib.hid (F5.out.below B56.out)
    have bP6 := Lib.hid (bx_below bP5.out B56.out)
    have bN6 := Lib.hid (bN5.out.below B56.out)
    have bO6 := Lib.hid (bO5.out.below B56.out)
    have T6 := Lib.hid (T5.out.below B56.out)
    have O6 : Hid (Only (fun k => k = pb ∨ w.heap.size ≤ k) w w5) := O5.out.trans ((Only.of_below B56.out).mono fun k hk => by omega)
    have HPC6 : Hid (w5.cell? ⟨b, 173, none⟩ = some (.slice (some ⟨pb, 0, none⟩) n n)) := (World.cell?_of_block (B56.out.block b (by omega))).trans HPC5.out
    have HDK6 : Hid (w5.heap[D]? = some (.deferred (some []))) := (B56.out.block D hDs).trans HDK.out.2
    clear E5 F5 bP5 bN5 bO5 T5 O5 HPC5
    go_wp2_with fail
    have HPC2 : Hid (∀ W', Only (fun k => k = pb ∨ w5.heap.size ≤ k) w5 W' → W'.cell? ⟨b, 173, none⟩ = some (.slice (some ⟨pb, 0, none⟩) n n)) := fun W' ho => (World.cell?_of_block (ho.block b (by omega) (by omega))).trans HPC6.out
    refine wp_members (Bs := W.heap.size) (I := N) rfl T6.out bJ6.out rfl (fun k => k = pb)
      (fun k hk => by rw [hk]; exact ⟨by omega, hpb⟩)
      (fun pre W => EdgesAt W pb 0 n (mapE P1 (fun X => orB X (oneB v)) pre) ∧ FreeAt W pb) (fun _ _ _ => False)
      (fun pre A A' h ho => ⟨h.1.only ho (by omega), h.2.only ho (by omega)⟩) (fun _ _ _ _ h _ => h)
      (by rw [mapE_nil]; exact ⟨E6.out, F6.out⟩) ?act2 ?assign2 ?body2 ?done2 ?stop2
    case assign2 =>
      intro l x W K hK
      dsimp only [encI]
      gi_wp2
      exact hK
    case body2 =>
      intro l pre x W hR hO
      obtain ⟨u, hu⟩ : ∃ u : Nat, u = x.1 := ⟨_, rfl⟩
      have hun : u < n := by rw [hu]; exact HN.out _ x.2.2
      have hu0 : (0 : Int) ≤ (u : Int) := by omega
      have hu1 : (u : Int) < (n : Int) := by omega
      have HX := Lib.hid (mapE_snoc (P := P1) (f := fun X => orB X (oneB v)) (fun _ => or_twice) (pre := pre) (x := x))
      rw [← hu] at HX ⊢
      clear hu
      have hsW := hO.size
      have bPW := Lib.hid (bx_only bP6.out hO (by omega))
      have bOW := Lib.hid (bO6.out.only hO (by omega))
      have HPW := Lib.hid (HPC2.out W hO)
      have hbW : b < W.heap.size := by omega
      obtain ⟨K, hK⟩ : ∃ K, mapE P1 (fun X => orB X (oneB v)) pre u = K := ⟨_, rfl⟩
      have HR5 := Lib.hid hR.1
      have HF5 := Lib.hid hR.2
      have HKK := Lib.hid hK
      have HSw : Hid (∀ W', Below W.heap.size W W' → W'.cell? ⟨w.heap.size, 0, none⟩ = some (.pointer (some ⟨b, 0, none⟩)) ∧ W'.cell? ⟨b, 173, none⟩ = some (.slice (some ⟨pb, 0, none⟩) n n) ∧ W'.cell? ⟨pb, u * 4, none⟩ = some (.int .u64 (maskW K 0)) ∧ W'.cell? ⟨pb, u * 4 + 1, none⟩ = some (.int .u64 (maskW K 1)) ∧ W'.cell? ⟨pb, u * 4 + 2, none⟩ = some (.int .u64 (maskW K 2)) ∧ W'.cell? ⟨pb, u * 4 + 3, none⟩ = some (.int .u64 (maskW K 3)) ∧ W'.cell? ⟨w2.heap.size, 0, none⟩ = some (.int .u64 (maskW (oneB v) 0)) ∧ W'.cell? ⟨w2.heap.size, 1, none⟩ = some (.int .u64 (maskW (oneB v) 1)) ∧ W'.cell? ⟨w2.heap.size, 2, none⟩ = some (.int .u64 (maskW (oneB v) 2)) ∧ W'.cell? ⟨w2.heap.size, 3, none⟩ = some (.int .u64 (maskW (oneB v) 3))) := fun W' hb => by
        have m1 := bOW.out.below hb
        have m4 := bx_below bPW.out hb
        have m5 : W'.cell? ⟨b, 173, none⟩ = some (.slice (some ⟨pb, 0, none⟩) n n) := (World.cell?_of_block (hb.block b hbW)).trans HPW.out
        have q := HR5.out.below hb
        have q0 := q u hun 0 (by omega)
        have q1 := q u hun 1 (by omega)
        have q2 := q u hun 2 (by omega)
        have q3 := q u hun 3 (by omega)
        rw [Nat.zero_add, HKK.out] at q0 q1 q2 q3
        rw [Nat.add_zero] at q0
        exact ⟨m4.cell, m5, q0, q1, q2, q3, m1.c0, m1.c1, m1.c2, m1.c3⟩
      have Kd : Hid (Below W.heap.size W W.drew) := (Below.refl _ _).drew
      clear hR hO hK
      gi_wp2
      refine wpIn_region_M (S := (fun W' => W'.cell? ⟨w.heap.size, 0, none⟩ = some (.pointer (some ⟨b, 0, none⟩)) ∧ W'.cell? ⟨b, 173, none⟩ = some (.slice (some ⟨pb, 0, none⟩) n n) ∧ W'.cell? ⟨pb, u * 4, none⟩ = some (.int .u64 (maskW K 0)) ∧ W'.cell? ⟨pb, u * 4 + 1, none⟩ = some (.int .u64 (maskW K 1)) ∧ W'.cell? ⟨pb, u * 4 + 2, none⟩ = some (.int .u64 (maskW K 2)) ∧ W'.cell? ⟨pb, u * 4 + 3, none⟩ = some (.int .u64 (maskW K 3)) ∧ W'.cell? ⟨w2.heap.size, 0, none⟩ = some (.int .u64 (maskW (oneB v) 0)) ∧ W'.cell? ⟨w2.heap.size, 1, none⟩ = some (.int .u64 (maskW (oneB v) 1)) ∧ W'.cell? ⟨w2.heap.size, 2, none⟩ = some (.int .u64 (maskW (oneB v) 2)) ∧ W'.cell? ⟨w2.heap.size, 3, none⟩ = some (.int .u64 (maskW (oneB v) 3)))) (m := 15) (by kernel_rfl) (by kernel_rfl) (HSw.out _ Kd.out) (fun hHeld => ?_)
      refine wpAnyM_take (i := 0) (v := ?vm15) rfl (by kernel_rfl) (by decide) (by kernel_rfl) (by kernel_rfl) (by kernel_rfl) (fun _ _ _ h => h) (Or.inl ⟨by rfl, ?hm15⟩) (by assumption) ?_
      case hm15 => (intro w hSw; (try dsimp only at hSw); go_simp; first | done | with_reducible rfl)
      try simp only [Act.put, List.setIfInBounds_toArray, List.set_cons_zero, List.set_cons_succ]
      refine wpAnyM_take (i := 1) (v := ?vm16) rfl (by kernel_rfl) (by decide) (by kernel_rfl) (by kernel_rfl) (by kernel_rfl) (fun _ _ _ h => h) (Or.inl ⟨by rfl, ?hm16⟩) (by assumption) ?_
      case hm16 => (intro w hSw; (try dsimp only at hSw); go_simp; first | done | with_reducible rfl)
      try simp only [Act.put, List.setIfInBounds_toArray, List.set_cons_zero, List.set_cons_succ]
      refine wpAnyM_take (i := 2) (v := ?vm17) rfl (by kernel_rfl) (by decide) (by kernel_rfl) (by kernel_rfl) (by kernel_rfl) (fun _ _ _ h => h) (Or.inl ⟨by rfl, ?hm17⟩) (by assumption) ?_
      case hm17 => (intro w hSw; (try dsimp only at hSw); go_simp; first | done | with_reducible rfl)
      try simp only [Act.put, List.setIfInBounds_toArray, List.set_cons_zero, List.set_cons_succ]
      refine wpAnyM_take (i := 3) (v := ?vm18) rfl (by kernel_rfl) (by decide) (by kernel_rfl) (by kernel_rfl) (by kernel_rfl) (fun _ _ _ h => h) (Or.inl ⟨by rfl, ?hm18⟩) (by assumption) ?_
      case hm18 => (intro w hSw; (try dsimp only at hSw); go_simp; first | done | with_reducible rfl)
      try simp only [Act.put, List.setIfInBounds_toArray, List.set_cons_zero, List.set_cons_succ]
      refine wpAnyM_take (i := 4) (v := ?vm19) rfl (by kernel_rfl) (by decide) (by kernel_rfl) (by kernel_rfl) (by kernel_rfl) (fun _ _ _ h => h) (Or.inl ⟨by rfl, ?hm19⟩) (by assumption) ?_
      case hm19 => (intro w hSw; (try dsimp only at hSw); go_simp; first | done | with_reducible rfl)
      try simp only [Act.put, List.setIfInBounds_toArray, List.set_cons_zero, List.set_cons_succ]
      refine wpAnyM_take (i := 5) (v := ?vm20) rfl (by kernel_rfl) (by decide) (by kernel_rfl) (by kernel_rfl) (by kernel_rfl) (fun _ _ _ h => h) (Or.inl ⟨by rfl, ?hm20⟩) (by assumption) ?_
      case hm20 => (intro w hSw; (try dsimp only at hSw); go_simp; first | done | with_reducible rfl)
      try simp only [Act.put, List.setIfInBounds_toArray, List.set_cons_zero, List.set_cons_succ]
      refine wpAnyM_take (i := 6) (v := ?vm21) rfl (by kernel_rfl) (by decide) (by kernel_rfl) (by kernel_rfl) (by kernel_rfl) (fun _ _ _ h => h) (Or.inl ⟨by rfl, ?hm21⟩) (by assumption) ?_
      case hm21 => (intro w hSw; (try dsimp only at hSw); go_simp; first | done | with_reducible rfl)
      try simp only [Act.put, List.setIfInBounds_toArray, List.set_cons_zero, List.set_cons_succ]
      refine wpAnyM_take (i := 7) (v := ?vm22) rfl (by kernel_rfl) (by decide) (by kernel_rfl) (by kernel_rfl) (by kernel_rfl) (fun _ _ _ h => h) (Or.inl ⟨by rfl, ?hm22⟩) (by assumption) ?_
      case hm22 => (intro w hSw; (try dsimp only at hSw); go_simp; first | done | with_reducible rfl)
      try simp only [Act.put, List.setIfInBounds_toArray, List.set_cons_zero, List.set_cons_succ]
      refine wpAnyM_take (i := 8) (v := ?vm23) rfl (by kernel_rfl) (by decide) (by kernel_rfl) (by kernel_rfl) (by kernel_rfl) (fun _ _ _ h => h) (Or.inl ⟨by rfl, ?hm23⟩) (by assumption) ?_
      case hm23 => (intro w hSw; (try dsimp only at hSw); go_simp; first | done | with_reducible rfl)
      try simp only [Act.put, List.setIfInBounds_toArray, List.set_cons_zero, List.set_cons_succ]
      refine wpAnyM_take (i := 9) (v := ?vm24) rfl (by kernel_rfl) (by decide) (by kernel_rfl) (by kernel_rfl) (by kernel_rfl) (fun _ _ _ h => h) (Or.inl ⟨by rfl, ?hm24⟩) (by assumption) ?_
      case hm24 => (intro w hSw; (try dsimp only at hSw); go_simp; first | done | with_reducible rfl)
      try simp only [Act.put, List.setIfInBounds_toArray, List.set_cons_zero, List.set_cons_succ]
      refine wpAnyM_take (i := 10) (v := ?vm25) rfl (by kernel_rfl) (by decide) (by kernel_rfl) (by kernel_rfl) (by kernel_rfl) (fun _ _ _ h => h) (Or.inl ⟨by rfl, ?hm25⟩) (by assumption) ?_
      case hm25 => (intro w hSw; (try dsimp only at hSw); go_simp; first | done | with_reducible rfl)
      try simp only [Act.put, List.setIfInBounds_toArray, List.set_cons_zero, List.set_cons_succ]
      refine wpAnyM_take (i := 11) (v := ?vm26) rfl (by kernel_rfl) (by decide) (by kernel_rfl) (by kernel_rfl) (by kernel_rfl) (fun _ _ _ h => h) (Or.inl ⟨by rfl, ?hm26⟩) (by assumption) ?_
      case hm26 => (intro w hSw; (try dsimp only at hSw); go_simp; first | done | with_reducible rfl)
      try simp only [Act.put, List.setIfInBounds_toArray, List.set_cons_zero, List.set_cons_succ]
      refine wpAnyM_take (i := 12) (v := ?vm27) rfl (by kernel_rfl) (by decide) (by kernel_rfl) (by kernel_rfl) (by kernel_rfl) (fun _ _ _ h => h) (Or.inl ⟨by rfl, ?hm27⟩) (by assumption) ?_
      case hm27 => (intro w hSw; (try dsimp only at hSw); go_simp; first | done | with_reducible rfl)
      try simp only [Act.put, List.setIfInBounds_toArray, List.set_cons_zero, List.set_cons_succ]
      refine wpAnyM_one (i := 13) (by kernel_rfl) rfl (fun K hK => ?_)
      go_simp
      go_at_call 107
      refine (mask_with _ _).mono ?_
      rintro e Wa ⟨rfl, hb⟩
      have Ka := Lib.hid (Kd.out.trans (hb.mono Kd.out.size))
      clear hb
      go_wp2_with fail
      refine hK.out _ _ (fun _ => HSw.out _ Ka.out) (fun hHeld => ?_)
      have hHeld := hHeld (by decide)
      clear hK K
      try simp only [Act.put, List.setIfInBounds_toArray, List.set_cons_zero, List.set_cons_succ]
      refine wpAnyM_take (i := 14) (v := ?vm28) rfl (by kernel_rfl) (by decide) (by kernel_rfl) (by kernel_rfl) (by kernel_rfl) (fun _ _ _ h => h) (Or.inl ⟨by rfl, ?hm28⟩) (by assumption) ?_
      case hm28 => (intro w hSw; (try dsimp only at hSw); go_simp; first | done | with_reducible rfl)
      try simp only [Act.put, List.setIfInBounds_toArray, List.set_cons_zero, List.set_cons_succ]
      have q := HR5.out.below Ka.out
      have q0 := q u hun 0 (by omega)
      have q1 := q u hun 1 (by omega)
      have q2 := q u hun 2 (by omega)
      have q3 := q u hun 3 (by omega)
      rw [Nat.zero_add, HKK.out] at q0 q1 q2 q3
      rw [Nat.add_zero] at q0
      have FA := HF5.out.below Ka.out
      have f0 := FA.2 (u * 4)
      have f1 := FA.2 (u * 4 + 1)
      have f2 := FA.2 (u * 4 + 2)
      have f3 := FA.2 (u * 4 + 3)
      have mq := Lib.hid (q.put hun (orB K (oneB v)))
      have mf := Lib.hid FA
      clear hHeld q FA
      refine wpAnyM_one (i := 15) (by kernel_rfl) rfl (fun K hK => ?_)
      go_simp
      refine hK.out _ _ (fun h => absurd h (by decide)) (fun _ => ?_)
      clear hK K
      try simp only [Act.put, List.setIfInBounds_toArray, List.set_cons_zero, List.set_cons_succ]
      refine wpAnyM_done (by kernel_rfl) ?_ _
      refine calm_normal ?_
      refine ⟨only_put4 (S := fun k => k = pb ∨ W.heap.size ≤ k) (Only.of_below Ka.out) (.inl rfl) _ _ _ _ (u * 4), ?_, ?_⟩
      · have h1 := mq.out
        simp only [Nat.zero_add] at h1
        rw [HX.out, HKK.out]
        exact h1
      · exact (((mf.out.set _ _).set _ _).set _ _).set _ _
    case done2 =>
      intro D2 xs2 W2 hD2 hxs2 hR2 hO2 hK2
      have hsW2 := hO2.size
      obtain ⟨P2, hP2⟩ : ∃ P, P = mapE P1 (fun X => orB X (oneB v)) xs2 := ⟨_, rfl⟩
      have HP2 : Hid (∀ u, u < 256 → P2 u = cond (N u) (orB (P1 u) (oneB v)) (P1 u)) := fun u hu => by rw [hP2]; exact mapE_all hxs2 hu
      rw [← hP2] at hR2
      clear hP2 hxs2
      have E7 := Lib.hid hR2.1
      have F7 := Lib.hid hR2.2
      have bP7 := Lib.hid (bx_only bP6.out hO2 (by omega))
      have bN7 := Lib.hid (bN6.out.only hO2 (by omega))
      have O7 : Hid (Only (fun k => k = pb ∨ w.heap.size ≤ k) w W2) := O6.out.trans (hO2.mono fun k hk => by omega)
      have HD1 : Hid (W2.heap[D]? = some (.deferred (some []))) := (hO2.block D (by omega) (by have := HDK.out.1; omega)).trans HDK6.out
      have HD2 : Hid (W2.heap[D2]? = some (.deferred (some []))) := hK2
      have HDD : Hid (w4.heap.size ≤ D ∧ D < D2 ∧ D2 < W2.heap.size) := ⟨HDK.out.1, by omega, (Array.getElem?_eq_some_iff.1 hK2).1⟩
      have keepB : ∀ k, W2.cell? ⟨b, k, none⟩ = w.cell? ⟨b, k, none⟩ := fun k => World.cell?_of_block (O7.out.block b (by omega) (by omega))
      have hnx : W2.cell? ⟨b, 172, none⟩ = some (.slice (some ⟨nb, 0, none⟩) n n) := (keepB 172).trans HR.out.next
      have hkn : W2.cell? ⟨b, 174, none⟩ = some (.map (some kb)) := (keepB 174).trans HR.out.known
      have EN7 := Lib.hid (HR.out.succ.only O7.out (by omega))
      have FN7 := Lib.hid (hFn.only O7.out (by omega))
      have M7 := Lib.hid (HM.out.only O7.out (by omega))
      have HSw : Hid (∀ W', Below W2.heap.size W2 W' → W'.cell? ⟨w.heap.size, 0, none⟩ = some (.pointer (some ⟨b, 0, none⟩)) ∧ W'.cell? ⟨b, 172, none⟩ = some (.slice (some ⟨nb, 0, none⟩) n n) ∧ W'.cell? ⟨w.heap.size + 1, 0, none⟩ = some (.int .u64 (maskW N 0)) ∧ W'.cell? ⟨w.heap.size + 1, 1, none⟩ = some (.int .u64 (maskW N 1)) ∧ W'.cell? ⟨w.heap.size + 1, 2, none⟩ = some (.int .u64 (maskW N 2)) ∧ W'.cell? ⟨w.heap.size + 1, 3, none⟩ = some (.int .u64 (maskW N 3))) := fun W' hb => by
        have m1 := bN7.out.below hb
        have m4 := bx_below bP7.out hb
        exact ⟨m4.cell, (World.cell?_of_block (hb.block b (by omega))).trans hnx, m1.c0, m1.c1, m1.c2, m1.c3⟩
      have HKN := Lib.hid hkn
      have Kd : Hid (Below W2.heap.size W2 W2.drew) := (Below.refl _ _).drew
      clear hR2 hO2 hK2 keepB hnx hkn
      go_wp2_with fail
      refine wp_cutA (fun a a' wy => (Hid (EdgesAt wy nb 0 n (putE E v N)) ∧ Hid (Only (fun k => k = nb ∨ k = pb ∨ w.heap.size ≤ k) w wy) ∧ Hid (Only (fun k => k = nb ∨ W2.heap.size ≤ k) W2 wy) ∧ Hid (FreeAt wy nb)) ∧ ∃ u54 u55 u56 u57 u58 u59 u60 : Value, a' = { tmps := ((((((a.tmps.setIfInBounds 54 u54).setIfInBounds 55 u55).setIfInBounds 56 u56).setIfInBounds 57 u57).setIfInBounds 58 u58).setIfInBounds 59 u59).setIfInBounds 60 u60, defers := a.defers }) ?reg8 ?rest8
      case reg8 =>
        refine wp_region_M (S := (fun W' => W'.cell? ⟨w.heap.size, 0, none⟩ = some (.pointer (some ⟨b, 0, none⟩)) ∧ W'.cell? ⟨b, 172, none⟩ = some (.slice (some ⟨nb, 0, none⟩) n n) ∧ W'.cell? ⟨w.heap.size + 1, 0, none⟩ = some (.int .u64 (maskW N 0)) ∧ W'.cell? ⟨w.heap.size + 1, 1, none⟩ = some (.int .u64 (maskW N 1)) ∧ W'.cell? ⟨w.heap.size + 1, 2, none⟩ = some (.int .u64 (maskW N 2)) ∧ W'.cell? ⟨w.heap.size + 1, 3, none⟩ = some (.int .u64 (maskW N 3)))) (m := 7) (by kernel_rfl) (HSw.out _ Kd.out) (fun hHeld => ?_)
        refine wpAnyM_take (i := 0) (v := ?vm29) rfl (by kernel_rfl) (by decide) (by kernel_rfl) (by kernel_rfl) (by kernel_rfl) (fun _ _ _ h => h) (Or.inl ⟨by rfl, ?hm29⟩) (by assumption) ?_
        case hm29 => (intro w hSw; (try dsimp only at hSw); go_simp; first | done | with_reducible rfl)
        try simp only [Act.put, List.setIfInBounds_toArray, List.set_cons_zero, List.set_cons_succ]
        refine wpAnyM_take (i := 1) (v := ?vm30) rfl (by kernel_rfl) (by decide) (by kernel_rfl) (by kernel_rfl) (by kernel_rfl) (fun _ _ _ h => h) (Or.inl ⟨by rfl, ?hm30⟩) (by assumption) ?_
        case hm30 => (intro w hSw; (try dsimp only at hSw); go_simp; first | done | with_reducible rfl)
        try simp only [Act.put, List.setIfInBounds_toArray, List.set_cons_zero, List.set_cons_succ]
        refine wpAnyM_take (i := 2) (v := ?vm31) rfl (by kernel_rfl) (by decide) (by kernel_rfl) (by kernel_rfl) (by kernel_rfl) (fun _ _ _ h => h) (Or.inl ⟨by rfl, ?hm31⟩) (by assumption) ?_
        case hm31 => (intro w hSw; (try dsimp only at hSw); go_simp; first | done | with_reducible rfl)
        try simp only [Act.put, List.setIfInBounds_toArray, List.set_cons_zero, List.set_cons_succ]
        refine wpAnyM_take (i := 3) (v := ?vm32) rfl (by kernel_rfl) (by decide) (by kernel_rfl) (by kernel_rfl) (by kernel_rfl) (fun _ _ _ h => h) (Or.inl ⟨by rfl, ?hm32⟩) (by assumption) ?_
        case hm32 => (intro w hSw; (try dsimp only at hSw); go_simp; first | done | with_reducible rfl)
        try simp only [Act.put, List.setIfInBounds_toArray, List.set_cons_zero, List.set_cons_succ]
        refine wpAnyM_take (i := 4) (v := ?vm33) rfl (by kernel_rfl) (by decide) (by kernel_rfl) (by kernel_rfl) (by kernel_rfl) (fun _ _ _ h => h) (Or.inl ⟨by rfl, ?hm33⟩) (by assumption) ?_
        case hm33 => (intro w hSw; (try dsimp only at hSw); go_simp; first | done | with_reducible rfl)
        try simp only [Act.put, List.setIfInBounds_toArray, List.set_cons_zero, List.set_cons_succ]
        refine wpAnyM_take (i := 5) (v := ?vm34) rfl (by kernel_rfl) (by decide) (by kernel_rfl) (by kernel_rfl) (by kernel_rfl) (fun _ _ _ h => h) (Or.inl ⟨by rfl, ?hm34⟩) (by assumption) ?_
        case hm34 => (intro w hSw; (try dsimp only at hSw); go_simp; first | done | with_reducible rfl)
        try simp only [Act.put, List.setIfInBounds_toArray, List.set_cons_zero, List.set_cons_succ]
        refine wpAnyM_take (i := 6) (v := ?vm35) rfl (by kernel_rfl) (by decide) (by kernel_rfl) (by kernel_rfl) (by kernel_rfl) (fun _ _ _ h => h) (Or.inl ⟨by rfl, ?hm35⟩) (by assumption) ?_
        case hm35 => (intro w hSw; (try dsimp only at hSw); go_simp; first | done | with_reducible rfl)
        try simp only [Act.put, List.setIfInBounds_toArray, List.set_cons_zero, List.set_cons_succ]
        obtain ⟨wz, hwz⟩ : ∃ y, y = W2.drew := ⟨_, rfl⟩
        have Kz : Hid (Below W2.heap.size W2 wz) := by rw [hwz]; exact Kd.out
        rw [← hwz]
        clear hwz hHeld
        have q := EN7.out.below Kz.out
        have q0 := q v hv 0 (by omega)
        have q1 := q v hv 1 (by omega)
        have q2 := q v hv 2 (by omega)
        have q3 := q v hv 3 (by omega)
        rw [Nat.zero_add] at q0 q1 q2 q3
        rw [Nat.add_zero] at q0
        have FA := FN7.out.below Kz.out
        have f0 := FA.2 (v * 4)
        have f1 := FA.2 (v * 4 + 1)
        have f2 := FA.2 (v * 4 + 2)
        have f3 := FA.2 (v * 4 + 3)
        have mq := Lib.hid (q.put hv N)
        have fq := Lib.hid FA
        have oq := Lib.hid (only_put4 (S := fun k => k = nb) (Only.refl _ wz) (g := nb) rfl (.int .u64 (maskW N 0)) (.int .u64 (maskW N 1)) (.int .u64 (maskW N 2)) (.int .u64 (maskW N 3)) (v * 4))
        clear q FA
        refine wpAnyM_one (i := 7) (by kernel_rfl) rfl (fun K hK => ?_)
        go_simp
        refine hK.out _ _ (fun h => absurd h (by decide)) (fun _ => ?_)
        clear hK K
        try simp only [Act.put, List.setIfInBounds_toArray, List.set_cons_zero, List.set_cons_succ]
        refine wpAnyM_done (by kernel_rfl) ?_ _
        obtain ⟨wy, hwy⟩ : ∃ y, y = ((((wz.setCell ⟨nb, v * 4, none⟩ (.int .u64 (maskW N 0))).setCell ⟨nb, v * 4 + 1, none⟩ (.int .u64 (maskW N 1))).setCell ⟨nb, v * 4 + 2, none⟩ (.int .u64 (maskW N 2))).setCell ⟨nb, v * 4 + 3, none⟩ (.int .u64 (maskW N 3))) := ⟨_, rfl⟩
        rw [← hwy]
        have MQ : Hid (EdgesAt wy nb 0 n (putE E v N)) := by rw [hwy]; have h1 := mq.out; simp only [Nat.zero_add] at h1; exact h1
        have OQ : Hid (Only (fun k => k = nb ∨ k = pb ∨ w.heap.size ≤ k) w wy) := by rw [hwy]; exact (O7.out.mono fun k hk => by omega).trans (((Only.of_below Kz.out).mono fun k hk => by omega).trans (oq.out.mono fun k hk => .inl hk))
        have OY : Hid (Only (fun k => k = nb ∨ W2.heap.size ≤ k) W2 wy) := by rw [hwy]; exact ((Only.of_below Kz.out).mono fun k hk => .inr hk).trans (oq.out.mono fun k hk => .inl hk)
        have FNY : Hid (FreeAt wy nb) := by rw [hwy]; exact (((fq.out.set _ _).set _ _).set _ _).set _ _
        try simp only [List.setIfInBounds_toArray, List.set_cons_zero, List.set_cons_succ]
        exact ⟨⟨MQ, OQ, OY, FNY⟩, _, _, _, _, _, _, _, rfl⟩
      case rest8 =>
      rintro a' wy ⟨⟨MQ, OQ, OY, FNY⟩, u54, u55, u56, u57, u58, u59, u60, rfl⟩
      try simp only [List.setIfInBounds_toArray, List.set_cons_zero, List.set_cons_succ]
      clear HSw Kd
      have hdd := HDD.out
      have hp := bx_only bP7.out OY.out (by omega)
      have hpc := hp.cell
      have hkn : wy.cell? ⟨b, 174, none⟩ = some (.map (some kb)) := (World.cell?_of_block (OY.out.block b (by omega) (by omega))).trans HKN.out
      have M8 := M7.out.only OY.out (by omega)
      obtain ⟨wx, hrun, hM9, hO9⟩ := run_clear (Q' := Q') 0 M8
      have HM9 := Lib.hid hM9
      have HO9 := Lib.hid hO9
      clear hM9 hO9 M8 hp
      go_wp2_with fail
      have hD1 : wx.heap[D]? = some (.deferred (some [])) := (HO9.out.block D (by have := OY.out.size; omega) (by omega)).trans ((OY.out.block D (by omega) (by omega)).trans HD1.out)
      have hD2 : wx.heap[D2]? = some (.deferred (some [])) := (HO9.out.block D2 (by have := OY.out.size; omega) (by omega)).trans ((OY.out.block D2 (by omega) (by omega)).trans HD2.out)
      have hsy := OY.out.size
      have hFn : FreeAt wx nb := FNY.out.only HO9.out (by omega)
      have hFp : FreeAt wx pb := (F7.out.only OY.out (by omega)).only HO9.out (by omega)
      have hall : Only (fun k => k = nb ∨ k = pb ∨ k = kb ∨ w.heap.size ≤ k) w wx := (OQ.out.mono fun k hk => by omega).trans (HO9.out.mono fun k hk => by omega)
      have hle := HR.out.lev.only hall (by omega)
      have keep : ∀ k, wx.cell? ⟨b, k, none⟩ = w.cell? ⟨b, k, none⟩ := fun k => World.cell?_of_block (hall.block b (by omega) (by omega))
      have hsw := hall.size
      refine leaves_none (B := w.heap.size) rfl ⟨⟨D2, rfl, by omega, hD2, fun d' hd' e => ?_⟩, ⟨D, rfl, by omega, hD1, fun d' hd' => by simp at hd'⟩, trivial⟩ fun u W' ho => ⟨P2, ⟨u, rfl⟩, ?_, fun x hx => ?_, HM9.out.only ho (by omega), hFn.only ho (by omega), hFp.only ho (by omega), hall.trans (ho.mono fun k hk => by omega)⟩
      · rw [List.mem_singleton] at hd'
        rw [hd'] at e
        injection e with e1
        injection e1 with e2
        omega
      · exact (⟨fun i hi j hj => (keep _).trans (HR.out.own i hi j hj), hle, (keep _).trans HR.out.next, (keep _).trans HR.out.preds, (keep _).trans HR.out.known, MQ.out.only HO9.out (by omega), (E7.out.only OY.out (by omega)).only HO9.out (by omega), HR.out.pos, HR.out.small, HR.out.apart, by omega⟩ : RecAt wx b n nb pb kb Ow Lv (putE E v N) P2).only ho (by omega) (by omega) (by omega)
      · rw [HP2.out x (by omega), HP1.out x (by omega)]
    case stop2 => intro D2 c pre W2 _ _ h _ _; exact h.elim
  case stop => intro D c pre W _ _ h _ _; exact h.elim
end
end Go.Proofs.YtphkgnpkcfbnkabDoor
