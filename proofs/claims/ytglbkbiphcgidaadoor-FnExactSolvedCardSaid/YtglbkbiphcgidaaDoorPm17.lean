import Derived.Deep.DeepCutAuto
import Derived.Test.YtglbkbiphcgidaaDoorPm16
namespace Go.Proofs.YtglbkbiphcgidaaDoor
section
open Go.RowKit Go.Shelf
attribute [local go_sem] Oper.semAt_some
noncomputable def oL {J : Nat → Bool} (P : Nat → Nat → Bool) (f : (Nat → Bool) → Nat → Bool) (pre : List (eH J)) : Nat → Nat → Bool := fun u => @ite _ (∃ y ∈ pre, y.1 = u) (Classical.propDecidable _) (f (P u)) (P u)
theorem abx {J : Nat → Bool} {P : Nat → Nat → Bool} {f : (Nat → Bool) → Nat → Bool} : oL P f ([] : List (eH J)) = P := funext fun u => by unfold oL; simp
theorem aby {J : Nat → Bool} {P : Nat → Nat → Bool} {f : (Nat → Bool) → Nat → Bool} (hf : ∀ X, f (f X) = f X) {pre : List (eH J)} {x : eH J} : oL P f (pre ++ [x]) = nT (oL P f pre) x.1 (f (oL P f pre x.1)) := funext fun u => by
 by_cases e : u = x.1
 · subst e
   rw [G9]
   have h1 : ∃ y ∈ pre ++ [x], y.1 = x.1 := ⟨x, by simp, rfl⟩
   unfold oL
   rw [if_pos h1]
   by_cases h2 : ∃ y ∈ pre, y.1 = x.1
   · rw [if_pos h2, hf]
   · rw [if_neg h2]
 · rw [He e]
   unfold oL
   by_cases h2 : ∃ y ∈ pre, y.1 = u
   · obtain ⟨y, hy, hyu⟩ := h2
     rw [if_pos ⟨y, by simp [hy], hyu⟩, if_pos ⟨y, hy, hyu⟩]
   · rw [if_neg h2, if_neg]
     rintro ⟨y, hy, hyu⟩
     rcases List.mem_append.1 hy with hy | hy
     · exact h2 ⟨y, hy, hyu⟩
     · rw [List.mem_singleton.1 hy] at hyu; exact e hyu.symm
theorem abz {J : Nat → Bool} {P : Nat → Nat → Bool} {f : (Nat → Bool) → Nat → Bool} {xs : List (eH J)} (h : jd xs = aU J 256) {u : Nat} (hu : u < 256) : oL P f xs u = cond (J u) (f (P u)) (P u) := by
 unfold oL
 cases hJ : J u with
 | true =>
   obtain ⟨y, hy, e⟩ := UD h hu hJ
   rw [if_pos ⟨y, hy, e⟩]; rfl
 | false =>
   rw [if_neg]
   · rfl
   · rintro ⟨y, _, e⟩
     have := y.2.2
     rw [e, hJ] at this; cases this
theorem ahV {X K : Nat → Bool} : aQ (aQ X K) K = aQ X K := funext fun v => by unfold aQ; cases X v <;> cases K v <;> rfl
theorem ahW {X K : Nat → Bool} : aO (aO X K) K = aO X K := funext fun v => by unfold aO; cases X v <;> cases K v <;> rfl
def eY (w : World) (g : Nat) : Prop := g < w.heap.size ∧ ∀ k, w.frozen? ⟨g, k, none⟩ = false
theorem eY.only {S : Nat → Prop} {w w' : World} {g : Nat} (h : eY w g) (hk : Only S w w') (hs : ¬ S g) : eY w' g :=
 ⟨Nat.lt_of_lt_of_le h.1 hk.size, fun k => by
  have e := hk.block g h.1 hs
  have h2 := h.2 k
  unfold World.frozen? at h2 ⊢
  simpa [e] using h2⟩
theorem eY.below {w w' : World} {g : Nat} (h : eY w g) (hb : Below w.heap.size w w') : eY w' g := h.only (S := fun _ => False) (Only.of_below hb) fun x => x
theorem eY.set {w : World} {g : Nat} (h : eY w g) (p : Addr) (u : Value) : eY (w.setCell p u) g := ⟨by simpa [World.setCell] using h.1, fun k => by simpa using h.2 k⟩
theorem eY.alloc {w : World} {g : Nat} (h : eY w g) (o : Obj) : eY (w.alloc o) g := h.below (aA _ _)
theorem abA {P : Program} {c : Code} {Q : Exit → Act → World → Prop} {a : Act} {w : World} (R : Act → Act → World → Prop) (h1 : Code.wp P c (Exit.then (R a) fun _ _ _ => False) a w) (h2 : ∀ a' w', R a a' w' → Q .normal a' w') : Code.wp P c Q a w := wp_cut (R a) h1 h2
theorem abB {fn : Func} {tmps : Array Value} {B : Nat} {R : Ending → World → Prop} (hr : fn.results = #[]) : ∀ {ds : List Deferred} {W : World},
 fQ W B ds → (∀ u W', Only (fun k => B ≤ k) W W' → R (.returned u) W') → bodyPostM Fence.wide 4 Tryd.prog fn R .normal { tmps := tmps, defers := ds } W
 | [], W, _, hR => by
   exact ⟨_, by simp [results, hr]; rfl, hR _ W (Only.refl _ _)⟩
 | d :: ds, W, hK, hR => by
   obtain ⟨⟨D, hd, hB, hD, hne⟩, ht⟩ := hK
   subst hd
   have ho : Only (fun k => B ≤ k) W (W.putObj D (.deferred none)) := (Only.dV (grownBy_putObj' W D _)).mono fun k hk => by cases hk; exact hB
   have hod : Only (fun k => k = D) W (W.putObj D (.deferred none)) := (Only.dV (grownBy_putObj' W D _)).mono fun k hk => by cases hk; rfl
   have ht2 : ∀ {es : List Deferred}, fQ W B es → (∀ d' ∈ es, d' ≠ { target := .collected D, args := #[] }) → fQ (W.putObj D (.deferred none)) B es := fun {es} => by
    induction es with
    | nil => intro _ _; trivial
    | cons x es ih =>
      intro h hn
      obtain ⟨⟨E, hx, Jz, hE, hnx⟩, h2⟩ := h
      have JA : E ≠ D := fun e => hn x (by simp) (by rw [hx, e])
      exact ⟨⟨E, hx, Jz, (hod.block E (Array.getElem?_eq_some_iff.1 hE).1 JA).trans hE, hnx⟩, ih h2 fun d' hd' => hn d' (by simp [hd'])⟩
   have rest := abB (R := R) (B := B) hr (ds := ds) (W := W.putObj D (.deferred none)) (tmps := tmps) (ht2 ht hne) fun u W' hW => hR u W' (ho.trans hW)
   exact ⟨by simp, .inl ⟨_, _, rfl, run_takeDeferred hD, rest⟩⟩
set_option linter.unusedSimpArgs false in
set_option maxRecDepth 100000 in
set_option maxHeartbeats 8000000 in
theorem abC {w : World} {b n nb pb kb v : Nat} {Ow Lv E Pd : Nat → Nat → Bool} {N : Nat → Bool} {Q Q' : (Nat → Bool) → Value → Prop} (hT : dS w) (hR : dX w b n nb pb kb Ow Lv E Pd) (hM : dH w kb Q) (xB : eY w pb) (hFn : eY w nb) (htb : pb ≠ 1 ∧ nb ≠ 1) (hv : v < n) (hE : ∀ x, E v x = true → x < n) (hN : ∀ x, N x = true → x < n) :
 Calls Tryd.prog 110 #[.pointer (some ⟨b, 0, none⟩), .int .i64 (v : Int), aW N] w fun e w' => ∃ ru, (∃ u, e = .returned u) ∧ dX w' b n nb pb kb Ow Lv (nT E v N) ru ∧ (∀ u, u < n → ru u = cond (N u) (aO (cond (E v u) (aQ (Pd u) (aS v)) (Pd u)) (aS v)) (cond (E v u) (aQ (Pd u) (aS v)) (Pd u))) ∧ dH w' kb Q' ∧ eY w' nb ∧ eY w' pb ∧ Only (fun k => k = nb ∨ k = pb ∨ k = kb ∨ w.heap.size ≤ k) w w' := by
 have hkt := JH hM hT
 have HM := Lib.hid hM
 have HR := Lib.hid hR
 have HT := Lib.hid hT
 have HE := Lib.hid hE
 have HN := Lib.hid hN
 have hn := hR.small
 have hap := hR.apart
 have hlt := hR.lt
 have HKT := Lib.hid hkt
 clear hT hR hM hE hN hkt
 have hv0 : (0 : Int) ≤ (v : Int) := by omega
 have hv1 : (v : Int) < (n : Int) := by omega
 refine (callsIn_wide (n := 4)).1 ?_
 refine callsIn_of_wp_marks Tryd.func110 rfl trivial ?_ rfl
 simp only [Tryd.ntmps110, List.size_toArray, List.length_cons, List.length_nil, Nat.reduceAdd, Nat.reduceSub, Array.replicate_succ, Array.replicate_zero, List.push_toArray, List.append_toArray, List.nil_append, List.cons_append]
 refine wpIn_wide.2 ?_
 go_wp2_with fail
 obtain ⟨w1, hw1⟩ : ∃ y, y = (((w.alloc (.cells #[.pointer (some ⟨b, 0, none⟩)] 76)).alloc (.cells #[.int .u64 (aj N 0), .int .u64 (aj N 1), .int .u64 (aj N 2), .int .u64 (aj N 3)] 69)).alloc (.cells #[.int .i64 (v : Int)] 2)) := ⟨_, rfl⟩
 rw [← hw1]
 have B1 : Hid (Below w.heap.size w w1) := by
  rw [hw1]
  exact (((Below.refl _ _).alloc (Nat.le_refl _) _).alloc (by simp) _).alloc (by simp; omega) _
 have yQ : Hid (Boxed w1 (w.heap.size) 76 (.pointer (some ⟨b, 0, none⟩))) := by
  rw [hw1]; exact dh (dh (Boxed.new w 76 _) (aA _ _)) (aA _ _)
 have bN1 : Hid (aH w1 (w.heap.size + 1) N) := by
  rw [hw1]; exact (dP N _ (by simp)).below (aA _ _)
 have Hf : Hid (w1.cell? ⟨w.heap.size + 1 + 1, 0, none⟩ = some (.int .i64 (v : Int))) := by rw [hw1]; exact (uD _ _ _ (by simp)).cell
 have cO : Hid (w1.heap.size = w.heap.size + 3) := by rw [hw1]; simp [Hid]
 clear hw1
 refine (Jw Hf.out (by omega)).mono ?_
 rintro e w2 ⟨rfl, hb2⟩
 have HS2 : Hid (w1.heap.size ≤ w2.heap.size) := hb2.size
 have B2 := Lib.hid (B1.out.trans (hb2.mono B1.out.size))
 have AV := Lib.hid (dh yQ.out hb2)
 have bN2 := Lib.hid (bN1.out.below hb2)
 clear hb2 yQ bN1 Hf
 go_upto_region 2 with fail
 obtain ⟨w3, hw3⟩ : ∃ y, y = w2.alloc (xA (aS v)) := ⟨_, rfl⟩
 rw [← hw3]
 have VJ : Hid (Below w2.heap.size w2 w3) := by rw [hw3]; exact aA _ _
 have bO3 : Hid (aH w3 w2.heap.size (aS v)) := by rw [hw3]; exact aH.new _ _
 have wI : Hid (w3.heap.size = w2.heap.size + 1) := by rw [hw3]; simp [Hid]
 clear hw3
 have B3 := Lib.hid (B2.out.trans (VJ.out.mono B2.out.size))
 have AY := Lib.hid (dh AV.out VJ.out)
 have bN3 := Lib.hid (bN2.out.below VJ.out)
 have R3 := Lib.hid (HR.out.below B3.out)
 clear AV bN2
 have x0 := AY.out.cell
 have x1 := R3.out.next
 have y0 := R3.out.succ v hv 0 (by omega)
 have y1 := R3.out.succ v hv 1 (by omega)
 have y2 := R3.out.succ v hv 2 (by omega)
 have y3 := R3.out.succ v hv 3 (by omega)
 rw [Nat.zero_add] at y0 y1 y2 y3
 rw [Nat.add_zero] at y0
 go_wp2_with fail
 refine (Gn _ (E v)).mono ?_
 rintro e w4 ⟨rfl, hw4⟩
 have PD : Hid (Below w3.heap.size w3 w4) := by rw [hw4]; exact aA _ _
 have bJ4 : Hid (aH w4 w3.heap.size (E v)) := by rw [hw4]; exact aH.new _ _
 have zO : Hid (w4.heap.size = w3.heap.size + 1) := by rw [hw4]; simp [Hid]
 clear hw4 x0 x1 y0 y1 y2 y3
 have B4 := Lib.hid (B3.out.trans (PD.out.mono B3.out.size))
 have BF := Lib.hid (dh AY.out PD.out)
 have bN4 := Lib.hid (bN3.out.below PD.out)
 have VK := Lib.hid (bO3.out.below PD.out)
 have R4 := Lib.hid (HR.out.below B4.out)
 have T4 := Lib.hid (HT.out.below B4.out)
 have T0 := Lib.hid HT.out.lt
 clear AY bN3 bO3 R3
 go_wp2_with fail
 have hs1 := cO.out
 have hs2 := HS2.out
 have hs3 := wI.out
 have hs4 := zO.out
 have hpb := htb.1
 have F4 := Lib.hid (xB.below B4.out)
 have Gu : Hid (∀ W', Only (fun k => k = pb ∨ w4.heap.size ≤ k) w4 W' → W'.cell? ⟨b, 173, none⟩ = some (.slice (some ⟨pb, 0, none⟩) n n)) := fun W' ho => (World.cell?_of_block (ho.block b (by omega) (by omega))).trans R4.out.AQ
 refine Gx (Bs := w3.heap.size) (I := E v) rfl T4.out bJ4.out rfl (fun k => k = pb)
  (fun k hk => by rw [hk]; exact ⟨by omega, hpb⟩)
  (fun pre W => iL W pb 0 n (oL Pd (fun X => aQ X (aS v)) pre) ∧ eY W pb) (fun _ _ _ => False)
  (fun pre A A' h ho => ⟨h.1.only ho (by omega), h.2.only ho (by omega)⟩) (fun _ _ _ _ h _ => h)
  (by rw [abx]; exact ⟨R4.out.back, F4.out⟩) ?act ?assign ?body ?done ?stop
 case assign =>
  intro l x W K hK
  dsimp only [encI]
  gi_wp2
  exact hK
 case body =>
  intro l pre x W hR hO
  obtain ⟨u, hu⟩ : ∃ u : Nat, u = x.1 := ⟨_, rfl⟩
  have hun : u < n := by rw [hu]; exact HE.out _ x.2.2
  have hu0 : (0 : Int) ≤ (u : Int) := by omega
  have hu1 : (u : Int) < (n : Int) := by omega
  have HX := Lib.hid (aby (P := Pd) (f := fun X => aQ X (aS v)) (fun _ => ahV) (pre := pre) (x := x))
  rw [← hu] at HX ⊢
  clear hu
  have hsW := hO.size
  have oJ := Lib.hid (gK BF.out hO (by omega))
  have VL := Lib.hid (VK.out.only hO (by omega))
  have VN := Lib.hid (Gu.out W hO)
  have hbW : b < W.heap.size := by omega
  obtain ⟨K, hK⟩ : ∃ K, oL Pd (fun X => aQ X (aS v)) pre u = K := ⟨_, rfl⟩
  have lM := Lib.hid hR.1
  have GK := Lib.hid hR.2
  have HKK := Lib.hid hK
  have aC : Hid (∀ W', Below W.heap.size W W' → W'.cell? ⟨w.heap.size, 0, none⟩ = some (.pointer (some ⟨b, 0, none⟩)) ∧ W'.cell? ⟨b, 173, none⟩ = some (.slice (some ⟨pb, 0, none⟩) n n) ∧ W'.cell? ⟨pb, u * 4, none⟩ = some (.int .u64 (aj K 0)) ∧ W'.cell? ⟨pb, u * 4 + 1, none⟩ = some (.int .u64 (aj K 1)) ∧ W'.cell? ⟨pb, u * 4 + 2, none⟩ = some (.int .u64 (aj K 2)) ∧ W'.cell? ⟨pb, u * 4 + 3, none⟩ = some (.int .u64 (aj K 3)) ∧ W'.cell? ⟨w2.heap.size, 0, none⟩ = some (.int .u64 (aj (aS v) 0)) ∧ W'.cell? ⟨w2.heap.size, 1, none⟩ = some (.int .u64 (aj (aS v) 1)) ∧ W'.cell? ⟨w2.heap.size, 2, none⟩ = some (.int .u64 (aj (aS v) 2)) ∧ W'.cell? ⟨w2.heap.size, 3, none⟩ = some (.int .u64 (aj (aS v) 3))) := fun W' hb => by
   have m1 := VL.out.below hb
   have m4 := dh oJ.out hb
   have m5 : W'.cell? ⟨b, 173, none⟩ = some (.slice (some ⟨pb, 0, none⟩) n n) := (World.cell?_of_block (hb.block b hbW)).trans VN.out
   have q := lM.out.below hb
   have q0 := q u hun 0 (by omega)
   have q1 := q u hun 1 (by omega)
   have q2 := q u hun 2 (by omega)
   have q3 := q u hun 3 (by omega)
   rw [Nat.zero_add, HKK.out] at q0 q1 q2 q3
   rw [Nat.add_zero] at q0
   exact ⟨m4.cell, m5, q0, q1, q2, q3, m1.c0, m1.c1, m1.c2, m1.c3⟩
  have Kd : Hid (Below W.heap.size W W.drew) := (Below.refl _ _).drew
  clear hR hO hK
  gi_wp2
  refine uy (S := (fun W' => W'.cell? ⟨w.heap.size, 0, none⟩ = some (.pointer (some ⟨b, 0, none⟩)) ∧ W'.cell? ⟨b, 173, none⟩ = some (.slice (some ⟨pb, 0, none⟩) n n) ∧ W'.cell? ⟨pb, u * 4, none⟩ = some (.int .u64 (aj K 0)) ∧ W'.cell? ⟨pb, u * 4 + 1, none⟩ = some (.int .u64 (aj K 1)) ∧ W'.cell? ⟨pb, u * 4 + 2, none⟩ = some (.int .u64 (aj K 2)) ∧ W'.cell? ⟨pb, u * 4 + 3, none⟩ = some (.int .u64 (aj K 3)) ∧ W'.cell? ⟨w2.heap.size, 0, none⟩ = some (.int .u64 (aj (aS v) 0)) ∧ W'.cell? ⟨w2.heap.size, 1, none⟩ = some (.int .u64 (aj (aS v) 1)) ∧ W'.cell? ⟨w2.heap.size, 2, none⟩ = some (.int .u64 (aj (aS v) 2)) ∧ W'.cell? ⟨w2.heap.size, 3, none⟩ = some (.int .u64 (aj (aS v) 3)))) (m := 15) (by kernel_rfl) (by kernel_rfl) (aC.out _ Kd.out) (fun hHd => ?_)
  refine aB (i := 0) (v := ?rW) rfl (by kernel_rfl) (by decide) (by kernel_rfl) (by kernel_rfl) (by kernel_rfl) (fun _ _ _ h => h) (Or.inl ⟨by rfl, ?hm1⟩) (by assumption) ?_
  case hm1 => (intro w hSw; (try dsimp only at hSw); go_simp; first | done | with_reducible rfl)
  try simp only [Act.put, g1, g2, g3]
  refine aB (i := 1) (v := ?rZ) rfl (by kernel_rfl) (by decide) (by kernel_rfl) (by kernel_rfl) (by kernel_rfl) (fun _ _ _ h => h) (Or.inl ⟨by rfl, ?hm2⟩) (by assumption) ?_
  case hm2 => (intro w hSw; (try dsimp only at hSw); go_simp; first | done | with_reducible rfl)
  try simp only [Act.put, g1, g2, g3]
  refine aB (i := 2) (v := ?su) rfl (by kernel_rfl) (by decide) (by kernel_rfl) (by kernel_rfl) (by kernel_rfl) (fun _ _ _ h => h) (Or.inl ⟨by rfl, ?iR⟩) (by assumption) ?_
  case iR => (intro w hSw; (try dsimp only at hSw); go_simp; first | done | with_reducible rfl)
  try simp only [Act.put, g1, g2, g3]
  refine aB (i := 3) (v := ?uF) rfl (by kernel_rfl) (by decide) (by kernel_rfl) (by kernel_rfl) (by kernel_rfl) (fun _ _ _ h => h) (Or.inl ⟨by rfl, ?hm4⟩) (by assumption) ?_
  case hm4 => (intro w hSw; (try dsimp only at hSw); go_simp; first | done | with_reducible rfl)
  try simp only [Act.put, g1, g2, g3]
  refine aB (i := 4) (v := ?wW) rfl (by kernel_rfl) (by decide) (by kernel_rfl) (by kernel_rfl) (by kernel_rfl) (fun _ _ _ h => h) (Or.inl ⟨by rfl, ?jQ⟩) (by assumption) ?_
  case jQ => (intro w hSw; (try dsimp only at hSw); go_simp; first | done | with_reducible rfl)
  try simp only [Act.put, g1, g2, g3]
  refine aB (i := 5) (v := ?yF) rfl (by kernel_rfl) (by decide) (by kernel_rfl) (by kernel_rfl) (by kernel_rfl) (fun _ _ _ h => h) (Or.inl ⟨by rfl, ?kV⟩) (by assumption) ?_
  case kV => (intro w hSw; (try dsimp only at hSw); go_simp; first | done | with_reducible rfl)
  try simp only [Act.put, g1, g2, g3]
  refine aB (i := 6) (v := ?AX) rfl (by kernel_rfl) (by decide) (by kernel_rfl) (by kernel_rfl) (by kernel_rfl) (fun _ _ _ h => h) (Or.inl ⟨by rfl, ?mV⟩) (by assumption) ?_
  case mV => (intro w hSw; (try dsimp only at hSw); go_simp; first | done | with_reducible rfl)
  try simp only [Act.put, g1, g2, g3]
  refine aB (i := 7) (v := ?AZ) rfl (by kernel_rfl) (by decide) (by kernel_rfl) (by kernel_rfl) (by kernel_rfl) (fun _ _ _ h => h) (Or.inl ⟨by rfl, ?mW⟩) (by assumption) ?_
  case mW => (intro w hSw; (try dsimp only at hSw); go_simp; first | done | with_reducible rfl)
  try simp only [Act.put, g1, g2, g3]
  refine aB (i := 8) (v := ?Bg) rfl (by kernel_rfl) (by decide) (by kernel_rfl) (by kernel_rfl) (by kernel_rfl) (fun _ _ _ h => h) (Or.inl ⟨by rfl, ?mX⟩) (by assumption) ?_
  case mX => (intro w hSw; (try dsimp only at hSw); go_simp; first | done | with_reducible rfl)
  try simp only [Act.put, g1, g2, g3]
  refine aB (i := 9) (v := ?Bj) rfl (by kernel_rfl) (by decide) (by kernel_rfl) (by kernel_rfl) (by kernel_rfl) (fun _ _ _ h => h) (Or.inl ⟨by rfl, ?mY⟩) (by assumption) ?_
  case mY => (intro w hSw; (try dsimp only at hSw); go_simp; first | done | with_reducible rfl)
  try simp only [Act.put, g1, g2, g3]
  refine aB (i := 10) (v := ?Bo) rfl (by kernel_rfl) (by decide) (by kernel_rfl) (by kernel_rfl) (by kernel_rfl) (fun _ _ _ h => h) (Or.inl ⟨by rfl, ?mZ⟩) (by assumption) ?_
  case mZ => (intro w hSw; (try dsimp only at hSw); go_simp; first | done | with_reducible rfl)
  try simp only [Act.put, g1, g2, g3]
  refine aB (i := 11) (v := ?Bq) rfl (by kernel_rfl) (by decide) (by kernel_rfl) (by kernel_rfl) (by kernel_rfl) (fun _ _ _ h => h) (Or.inl ⟨by rfl, ?ng⟩) (by assumption) ?_
  case ng => (intro w hSw; (try dsimp only at hSw); go_simp; first | done | with_reducible rfl)
  try simp only [Act.put, g1, g2, g3]
  refine aB (i := 12) (v := ?BA) rfl (by kernel_rfl) (by decide) (by kernel_rfl) (by kernel_rfl) (by kernel_rfl) (fun _ _ _ h => h) (Or.inl ⟨by rfl, ?ni⟩) (by assumption) ?_
  case ni => (intro w hSw; (try dsimp only at hSw); go_simp; first | done | with_reducible rfl)
  try simp only [Act.put, g1, g2, g3]
  refine aG (i := 13) (by kernel_rfl) rfl (fun K hK => ?_)
  go_simp
  go_at_call 133
  refine (mJ _ _).mono ?_
  rintro e Wa ⟨rfl, hb⟩
  have Ka := Lib.hid (Kd.out.trans (hb.mono Kd.out.size))
  clear hb
  go_wp2_with fail
  refine hK.out _ _ (fun _ => aC.out _ Ka.out) (fun hHd => ?_)
  have hHd := hHd (by decide)
  clear hK K
  try simp only [Act.put, g1, g2, g3]
  refine aB (i := 14) (v := ?BD) rfl (by kernel_rfl) (by decide) (by kernel_rfl) (by kernel_rfl) (by kernel_rfl) (fun _ _ _ h => h) (Or.inl ⟨by rfl, ?ny⟩) (by assumption) ?_
  case ny => (intro w hSw; (try dsimp only at hSw); go_simp; first | done | with_reducible rfl)
  try simp only [Act.put, g1, g2, g3]
  have q := lM.out.below Ka.out
  have q0 := q u hun 0 (by omega)
  have q1 := q u hun 1 (by omega)
  have q2 := q u hun 2 (by omega)
  have q3 := q u hun 3 (by omega)
  rw [Nat.zero_add, HKK.out] at q0 q1 q2 q3
  rw [Nat.add_zero] at q0
  have FA := GK.out.below Ka.out
  have f0 := FA.2 (u * 4)
  have f1 := FA.2 (u * 4 + 1)
  have f2 := FA.2 (u * 4 + 2)
  have f3 := FA.2 (u * 4 + 3)
  have mq := Lib.hid (q.put hun (aQ K (aS v)))
  have mf := Lib.hid FA
  clear hHd q FA
  refine aG (i := 15) (by kernel_rfl) rfl (fun K hK => ?_)
  go_simp
  refine hK.out _ _ (fun h => absurd h (by decide)) (fun _ => ?_)
  clear hK K
  try simp only [Act.put, g1, g2, g3]
  refine dA (by kernel_rfl) ?_ _
  refine uw ?_
  refine ⟨dw (S := fun k => k = pb ∨ W.heap.size ≤ k) (Only.of_below Ka.out) (.inl rfl) _ _ _ _ (u * 4), ?_, ?_⟩
  · have h1 := mq.out
    simp only [Nat.zero_add] at h1
    rw [HX.out, HKK.out]
    exact h1
  · exact (((mf.out.set _ _).set _ _).set _ _).set _ _
 case done =>
  intro D xs W hD hxs hR hO hK
  have hsW := hO.size
  obtain ⟨P1, hP1⟩ : ∃ P, P = oL Pd (fun X => aQ X (aS v)) xs := ⟨_, rfl⟩
  have Jq : Hid (∀ u, u < 256 → P1 u = cond (E v u) (aQ (Pd u) (aS v)) (Pd u)) := fun u hu => by rw [hP1]; exact abz hxs hu
  rw [← hP1] at hR
  clear hP1 hxs
  have E5 := Lib.hid hR.1
  have F5 := Lib.hid hR.2
  have bP5 := Lib.hid (gK BF.out hO (by omega))
  have Hg := Lib.hid (bN4.out.only hO (by omega))
  have bO5 := Lib.hid (VK.out.only hO (by omega))
  have t0 := T0.out
  have T5 := Lib.hid (T4.out.only hO (by omega))
  have O5 : Hid (Only (fun k => k = pb ∨ w.heap.size ≤ k) w W) := ((Only.of_below B4.out).mono fun k hk => .inr hk).trans (hO.mono fun k hk => by omega)
  have abD := Lib.hid (Gu.out W hO)
  have HDK : Hid (w4.heap.size ≤ D ∧ W.heap[D]? = some (.deferred (some []))) := ⟨hD, hK⟩
  have hDs := (Array.getElem?_eq_some_iff.1 hK).1
  have c0 := Hg.out.c0
  have c1 := Hg.out.c1
  have c2 := Hg.out.c2
  have c3 := Hg.out.c3
  clear hR hK hO BF bN4 VK T4 F4 Gu
  go_wp2_with fail
  refine (Gn _ N).mono ?_
  rintro e w5 ⟨rfl, hw5⟩
  have y5 : Hid (Below W.heap.size W w5) := by rw [hw5]; exact aA _ _
  have bJ6 : Hid (aH w5 W.heap.size N) := by rw [hw5]; exact aH.new _ _
  have Ef : Hid (w5.heap.size = W.heap.size + 1) := by rw [hw5]; simp [Hid]
  clear hw5 c0 c1 c2 c3
  have hs6 := Ef.out
  have E6 := Lib.hid (E5.out.below y5.out)
  have F6 := Lib.hid (F5.out.below y5.out)
  have GL := Lib.hid (dh bP5.out y5.out)
  have bN6 := Lib.hid (Hg.out.below y5.out)
  have bO6 := Lib.hid (bO5.out.below y5.out)
  have T6 := Lib.hid (T5.out.below y5.out)
  have O6 : Hid (Only (fun k => k = pb ∨ w.heap.size ≤ k) w w5) := O5.out.trans ((Only.of_below y5.out).mono fun k hk => by omega)
  have ahX : Hid (w5.cell? ⟨b, 173, none⟩ = some (.slice (some ⟨pb, 0, none⟩) n n)) := (World.cell?_of_block (y5.out.block b (by omega))).trans abD.out
  have ahY : Hid (w5.heap[D]? = some (.deferred (some []))) := (y5.out.block D hDs).trans HDK.out.2
  clear E5 F5 bP5 Hg bO5 T5 O5 abD
  go_wp2_with fail
  have ahZ : Hid (∀ W', Only (fun k => k = pb ∨ w5.heap.size ≤ k) w5 W' → W'.cell? ⟨b, 173, none⟩ = some (.slice (some ⟨pb, 0, none⟩) n n)) := fun W' ho => (World.cell?_of_block (ho.block b (by omega) (by omega))).trans ahX.out
  refine Gx (Bs := W.heap.size) (I := N) rfl T6.out bJ6.out rfl (fun k => k = pb)
   (fun k hk => by rw [hk]; exact ⟨by omega, hpb⟩)
   (fun pre W => iL W pb 0 n (oL P1 (fun X => aO X (aS v)) pre) ∧ eY W pb) (fun _ _ _ => False)
   (fun pre A A' h ho => ⟨h.1.only ho (by omega), h.2.only ho (by omega)⟩) (fun _ _ _ _ h _ => h)
   (by rw [abx]; exact ⟨E6.out, F6.out⟩) ?ako ?assign2 ?body2 ?done2 ?stop2
  case assign2 =>
   intro l x W K hK
   dsimp only [encI]
   gi_wp2
   exact hK
  case body2 =>
   intro l pre x W hR hO
   obtain ⟨u, hu⟩ : ∃ u : Nat, u = x.1 := ⟨_, rfl⟩
   have hun : u < n := by rw [hu]; exact HN.out _ x.2.2
   have hu0 : (0 : Int) ≤ (u : Int) := by omega
   have hu1 : (u : Int) < (n : Int) := by omega
   have HX := Lib.hid (aby (P := P1) (f := fun X => aO X (aS v)) (fun _ => ahW) (pre := pre) (x := x))
   rw [← hu] at HX ⊢
   clear hu
   have hsW := hO.size
   have oJ := Lib.hid (gK GL.out hO (by omega))
   have VL := Lib.hid (bO6.out.only hO (by omega))
   have VN := Lib.hid (ahZ.out W hO)
   have hbW : b < W.heap.size := by omega
   obtain ⟨K, hK⟩ : ∃ K, oL P1 (fun X => aO X (aS v)) pre u = K := ⟨_, rfl⟩
   have lM := Lib.hid hR.1
   have GK := Lib.hid hR.2
   have HKK := Lib.hid hK
   have aC : Hid (∀ W', Below W.heap.size W W' → W'.cell? ⟨w.heap.size, 0, none⟩ = some (.pointer (some ⟨b, 0, none⟩)) ∧ W'.cell? ⟨b, 173, none⟩ = some (.slice (some ⟨pb, 0, none⟩) n n) ∧ W'.cell? ⟨pb, u * 4, none⟩ = some (.int .u64 (aj K 0)) ∧ W'.cell? ⟨pb, u * 4 + 1, none⟩ = some (.int .u64 (aj K 1)) ∧ W'.cell? ⟨pb, u * 4 + 2, none⟩ = some (.int .u64 (aj K 2)) ∧ W'.cell? ⟨pb, u * 4 + 3, none⟩ = some (.int .u64 (aj K 3)) ∧ W'.cell? ⟨w2.heap.size, 0, none⟩ = some (.int .u64 (aj (aS v) 0)) ∧ W'.cell? ⟨w2.heap.size, 1, none⟩ = some (.int .u64 (aj (aS v) 1)) ∧ W'.cell? ⟨w2.heap.size, 2, none⟩ = some (.int .u64 (aj (aS v) 2)) ∧ W'.cell? ⟨w2.heap.size, 3, none⟩ = some (.int .u64 (aj (aS v) 3))) := fun W' hb => by
    have m1 := VL.out.below hb
    have m4 := dh oJ.out hb
    have m5 : W'.cell? ⟨b, 173, none⟩ = some (.slice (some ⟨pb, 0, none⟩) n n) := (World.cell?_of_block (hb.block b hbW)).trans VN.out
    have q := lM.out.below hb
    have q0 := q u hun 0 (by omega)
    have q1 := q u hun 1 (by omega)
    have q2 := q u hun 2 (by omega)
    have q3 := q u hun 3 (by omega)
    rw [Nat.zero_add, HKK.out] at q0 q1 q2 q3
    rw [Nat.add_zero] at q0
    exact ⟨m4.cell, m5, q0, q1, q2, q3, m1.c0, m1.c1, m1.c2, m1.c3⟩
   have Kd : Hid (Below W.heap.size W W.drew) := (Below.refl _ _).drew
   clear hR hO hK
   gi_wp2
   refine uy (S := (fun W' => W'.cell? ⟨w.heap.size, 0, none⟩ = some (.pointer (some ⟨b, 0, none⟩)) ∧ W'.cell? ⟨b, 173, none⟩ = some (.slice (some ⟨pb, 0, none⟩) n n) ∧ W'.cell? ⟨pb, u * 4, none⟩ = some (.int .u64 (aj K 0)) ∧ W'.cell? ⟨pb, u * 4 + 1, none⟩ = some (.int .u64 (aj K 1)) ∧ W'.cell? ⟨pb, u * 4 + 2, none⟩ = some (.int .u64 (aj K 2)) ∧ W'.cell? ⟨pb, u * 4 + 3, none⟩ = some (.int .u64 (aj K 3)) ∧ W'.cell? ⟨w2.heap.size, 0, none⟩ = some (.int .u64 (aj (aS v) 0)) ∧ W'.cell? ⟨w2.heap.size, 1, none⟩ = some (.int .u64 (aj (aS v) 1)) ∧ W'.cell? ⟨w2.heap.size, 2, none⟩ = some (.int .u64 (aj (aS v) 2)) ∧ W'.cell? ⟨w2.heap.size, 3, none⟩ = some (.int .u64 (aj (aS v) 3)))) (m := 15) (by kernel_rfl) (by kernel_rfl) (aC.out _ Kd.out) (fun hHd => ?_)
   refine aB (i := 0) (v := ?BH) rfl (by kernel_rfl) (by decide) (by kernel_rfl) (by kernel_rfl) (by kernel_rfl) (fun _ _ _ h => h) (Or.inl ⟨by rfl, ?nC⟩) (by assumption) ?_
   case nC => (intro w hSw; (try dsimp only at hSw); go_simp; first | done | with_reducible rfl)
   try simp only [Act.put, g1, g2, g3]
   refine aB (i := 1) (v := ?DL) rfl (by kernel_rfl) (by decide) (by kernel_rfl) (by kernel_rfl) (by kernel_rfl) (fun _ _ _ h => h) (Or.inl ⟨by rfl, ?nN⟩) (by assumption) ?_
   case nN => (intro w hSw; (try dsimp only at hSw); go_simp; first | done | with_reducible rfl)
   try simp only [Act.put, g1, g2, g3]
   refine aB (i := 2) (v := ?GR) rfl (by kernel_rfl) (by decide) (by kernel_rfl) (by kernel_rfl) (by kernel_rfl) (fun _ _ _ h => h) (Or.inl ⟨by rfl, ?qX⟩) (by assumption) ?_
   case qX => (intro w hSw; (try dsimp only at hSw); go_simp; first | done | with_reducible rfl)
   try simp only [Act.put, g1, g2, g3]
   refine aB (i := 3) (v := ?JD) rfl (by kernel_rfl) (by decide) (by kernel_rfl) (by kernel_rfl) (by kernel_rfl) (fun _ _ _ h => h) (Or.inl ⟨by rfl, ?hm18⟩) (by assumption) ?_
   case hm18 => (intro w hSw; (try dsimp only at hSw); go_simp; first | done | with_reducible rfl)
   try simp only [Act.put, g1, g2, g3]
   refine aB (i := 4) (v := ?JE) rfl (by kernel_rfl) (by decide) (by kernel_rfl) (by kernel_rfl) (by kernel_rfl) (fun _ _ _ h => h) (Or.inl ⟨by rfl, ?uK⟩) (by assumption) ?_
   case uK => (intro w hSw; (try dsimp only at hSw); go_simp; first | done | with_reducible rfl)
   try simp only [Act.put, g1, g2, g3]
   refine aB (i := 5) (v := ?JF) rfl (by kernel_rfl) (by decide) (by kernel_rfl) (by kernel_rfl) (by kernel_rfl) (fun _ _ _ h => h) (Or.inl ⟨by rfl, ?uM⟩) (by assumption) ?_
   case uM => (intro w hSw; (try dsimp only at hSw); go_simp; first | done | with_reducible rfl)
   try simp only [Act.put, g1, g2, g3]
   refine aB (i := 6) (v := ?Oj) rfl (by kernel_rfl) (by decide) (by kernel_rfl) (by kernel_rfl) (by kernel_rfl) (fun _ _ _ h => h) (Or.inl ⟨by rfl, ?yH⟩) (by assumption) ?_
   case yH => (intro w hSw; (try dsimp only at hSw); go_simp; first | done | with_reducible rfl)
   try simp only [Act.put, g1, g2, g3]
   refine aB (i := 7) (v := ?Ol) rfl (by kernel_rfl) (by decide) (by kernel_rfl) (by kernel_rfl) (by kernel_rfl) (fun _ _ _ h => h) (Or.inl ⟨by rfl, ?yI⟩) (by assumption) ?_
   case yI => (intro w hSw; (try dsimp only at hSw); go_simp; first | done | with_reducible rfl)
   try simp only [Act.put, g1, g2, g3]
   refine aB (i := 8) (v := ?Om) rfl (by kernel_rfl) (by decide) (by kernel_rfl) (by kernel_rfl) (by kernel_rfl) (fun _ _ _ h => h) (Or.inl ⟨by rfl, ?yJ⟩) (by assumption) ?_
   case yJ => (intro w hSw; (try dsimp only at hSw); go_simp; first | done | with_reducible rfl)
   try simp only [Act.put, g1, g2, g3]
   refine aB (i := 9) (v := ?Oo) rfl (by kernel_rfl) (by decide) (by kernel_rfl) (by kernel_rfl) (by kernel_rfl) (fun _ _ _ h => h) (Or.inl ⟨by rfl, ?yK⟩) (by assumption) ?_
   case yK => (intro w hSw; (try dsimp only at hSw); go_simp; first | done | with_reducible rfl)
   try simp only [Act.put, g1, g2, g3]
   refine aB (i := 10) (v := ?Oq) rfl (by kernel_rfl) (by decide) (by kernel_rfl) (by kernel_rfl) (by kernel_rfl) (fun _ _ _ h => h) (Or.inl ⟨by rfl, ?yL⟩) (by assumption) ?_
   case yL => (intro w hSw; (try dsimp only at hSw); go_simp; first | done | with_reducible rfl)
   try simp only [Act.put, g1, g2, g3]
   refine aB (i := 11) (v := ?Ou) rfl (by kernel_rfl) (by decide) (by kernel_rfl) (by kernel_rfl) (by kernel_rfl) (fun _ _ _ h => h) (Or.inl ⟨by rfl, ?yM⟩) (by assumption) ?_
   case yM => (intro w hSw; (try dsimp only at hSw); go_simp; first | done | with_reducible rfl)
   try simp only [Act.put, g1, g2, g3]
   refine aB (i := 12) (v := ?Ov) rfl (by kernel_rfl) (by decide) (by kernel_rfl) (by kernel_rfl) (by kernel_rfl) (fun _ _ _ h => h) (Or.inl ⟨by rfl, ?yN⟩) (by assumption) ?_
   case yN => (intro w hSw; (try dsimp only at hSw); go_simp; first | done | with_reducible rfl)
   try simp only [Act.put, g1, g2, g3]
   refine aG (i := 13) (by kernel_rfl) rfl (fun K hK => ?_)
   go_simp
   go_at_call 109
   refine (yu _ _).mono ?_
   rintro e Wa ⟨rfl, hb⟩
   have Ka := Lib.hid (Kd.out.trans (hb.mono Kd.out.size))
   clear hb
   go_wp2_with fail
   refine hK.out _ _ (fun _ => aC.out _ Ka.out) (fun hHd => ?_)
   have hHd := hHd (by decide)
   clear hK K
   try simp only [Act.put, g1, g2, g3]
   refine aB (i := 14) (v := ?OA) rfl (by kernel_rfl) (by decide) (by kernel_rfl) (by kernel_rfl) (by kernel_rfl) (fun _ _ _ h => h) (Or.inl ⟨by rfl, ?yO⟩) (by assumption) ?_
   case yO => (intro w hSw; (try dsimp only at hSw); go_simp; first | done | with_reducible rfl)
   try simp only [Act.put, g1, g2, g3]
   have q := lM.out.below Ka.out
   have q0 := q u hun 0 (by omega)
   have q1 := q u hun 1 (by omega)
   have q2 := q u hun 2 (by omega)
   have q3 := q u hun 3 (by omega)
   rw [Nat.zero_add, HKK.out] at q0 q1 q2 q3
   rw [Nat.add_zero] at q0
   have FA := GK.out.below Ka.out
   have f0 := FA.2 (u * 4)
   have f1 := FA.2 (u * 4 + 1)
   have f2 := FA.2 (u * 4 + 2)
   have f3 := FA.2 (u * 4 + 3)
   have mq := Lib.hid (q.put hun (aO K (aS v)))
   have mf := Lib.hid FA
   clear hHd q FA
   refine aG (i := 15) (by kernel_rfl) rfl (fun K hK => ?_)
   go_simp
   refine hK.out _ _ (fun h => absurd h (by decide)) (fun _ => ?_)
   clear hK K
   try simp only [Act.put, g1, g2, g3]
   refine dA (by kernel_rfl) ?_ _
   refine uw ?_
   refine ⟨dw (S := fun k => k = pb ∨ W.heap.size ≤ k) (Only.of_below Ka.out) (.inl rfl) _ _ _ _ (u * 4), ?_, ?_⟩
   · have h1 := mq.out
     simp only [Nat.zero_add] at h1
     rw [HX.out, HKK.out]
     exact h1
   · exact (((mf.out.set _ _).set _ _).set _ _).set _ _
  case done2 =>
   intro D2 xs2 W2 hD2 abE hR2 hO2 hK2
   have akp := hO2.size
   obtain ⟨P2, hP2⟩ : ∃ P, P = oL P1 (fun X => aO X (aS v)) xs2 := ⟨_, rfl⟩
   have HP2 : Hid (∀ u, u < 256 → P2 u = cond (N u) (aO (P1 u) (aS v)) (P1 u)) := fun u hu => by rw [hP2]; exact abz abE hu
   rw [← hP2] at hR2
   clear hP2 abE
   have E7 := Lib.hid hR2.1
   have F7 := Lib.hid hR2.2
   have bP7 := Lib.hid (gK GL.out hO2 (by omega))
   have bN7 := Lib.hid (bN6.out.only hO2 (by omega))
   have O7 : Hid (Only (fun k => k = pb ∨ w.heap.size ≤ k) w W2) := O6.out.trans (hO2.mono fun k hk => by omega)
   have HD1 : Hid (W2.heap[D]? = some (.deferred (some []))) := (hO2.block D (by omega) (by have := HDK.out.1; omega)).trans ahY.out
   have HD2 : Hid (W2.heap[D2]? = some (.deferred (some []))) := hK2
   have Ed : Hid (w4.heap.size ≤ D ∧ D < D2 ∧ D2 < W2.heap.size) := ⟨HDK.out.1, by omega, (Array.getElem?_eq_some_iff.1 hK2).1⟩
   have VO : ∀ k, W2.cell? ⟨b, k, none⟩ = w.cell? ⟨b, k, none⟩ := fun k => World.cell?_of_block (O7.out.block b (by omega) (by omega))
   have hnx : W2.cell? ⟨b, 172, none⟩ = some (.slice (some ⟨nb, 0, none⟩) n n) := (VO 172).trans HR.out.next
   have hkn : W2.cell? ⟨b, 174, none⟩ = some (.map (some kb)) := (VO 174).trans HR.out.known
   have EN7 := Lib.hid (HR.out.succ.only O7.out (by omega))
   have FN7 := Lib.hid (hFn.only O7.out (by omega))
   have M7 := Lib.hid (HM.out.only O7.out (by omega))
   have aC : Hid (∀ W', Below W2.heap.size W2 W' → W'.cell? ⟨w.heap.size, 0, none⟩ = some (.pointer (some ⟨b, 0, none⟩)) ∧ W'.cell? ⟨b, 172, none⟩ = some (.slice (some ⟨nb, 0, none⟩) n n) ∧ W'.cell? ⟨w.heap.size + 1, 0, none⟩ = some (.int .u64 (aj N 0)) ∧ W'.cell? ⟨w.heap.size + 1, 1, none⟩ = some (.int .u64 (aj N 1)) ∧ W'.cell? ⟨w.heap.size + 1, 2, none⟩ = some (.int .u64 (aj N 2)) ∧ W'.cell? ⟨w.heap.size + 1, 3, none⟩ = some (.int .u64 (aj N 3))) := fun W' hb => by
    have m1 := bN7.out.below hb
    have m4 := dh bP7.out hb
    exact ⟨m4.cell, (World.cell?_of_block (hb.block b (by omega))).trans hnx, m1.c0, m1.c1, m1.c2, m1.c3⟩
   have HKN := Lib.hid hkn
   have Kd : Hid (Below W2.heap.size W2 W2.drew) := (Below.refl _ _).drew
   clear hR2 hO2 hK2 VO hnx hkn
   go_wp2_with fail
   refine abA (fun a a' wy => (Hid (iL wy nb 0 n (nT E v N)) ∧ Hid (Only (fun k => k = nb ∨ k = pb ∨ w.heap.size ≤ k) w wy) ∧ Hid (Only (fun k => k = nb ∨ W2.heap.size ≤ k) W2 wy) ∧ Hid (eY wy nb)) ∧ ∃ mO u55 mP mQ u58 u59 u60 : Value, a' = { tmps := ((((((a.tmps.setIfInBounds 54 mO).setIfInBounds 55 u55).setIfInBounds 56 mP).setIfInBounds 57 mQ).setIfInBounds 58 u58).setIfInBounds 59 u59).setIfInBounds 60 u60, defers := a.defers }) ?ah0 ?ah1
   case ah0 =>
    refine jB (S := (fun W' => W'.cell? ⟨w.heap.size, 0, none⟩ = some (.pointer (some ⟨b, 0, none⟩)) ∧ W'.cell? ⟨b, 172, none⟩ = some (.slice (some ⟨nb, 0, none⟩) n n) ∧ W'.cell? ⟨w.heap.size + 1, 0, none⟩ = some (.int .u64 (aj N 0)) ∧ W'.cell? ⟨w.heap.size + 1, 1, none⟩ = some (.int .u64 (aj N 1)) ∧ W'.cell? ⟨w.heap.size + 1, 2, none⟩ = some (.int .u64 (aj N 2)) ∧ W'.cell? ⟨w.heap.size + 1, 3, none⟩ = some (.int .u64 (aj N 3)))) (m := 7) (by kernel_rfl) (aC.out _ Kd.out) (fun hHd => ?_)
    refine aB (i := 0) (v := ?OD) rfl (by kernel_rfl) (by decide) (by kernel_rfl) (by kernel_rfl) (by kernel_rfl) (fun _ _ _ h => h) (Or.inl ⟨by rfl, ?yP⟩) (by assumption) ?_
    case yP => (intro w hSw; (try dsimp only at hSw); go_simp; first | done | with_reducible rfl)
    try simp only [Act.put, g1, g2, g3]
    refine aB (i := 1) (v := ?UU) rfl (by kernel_rfl) (by decide) (by kernel_rfl) (by kernel_rfl) (by kernel_rfl) (fun _ _ _ h => h) (Or.inl ⟨by rfl, ?DN⟩) (by assumption) ?_
    case DN => (intro w hSw; (try dsimp only at hSw); go_simp; first | done | with_reducible rfl)
    try simp only [Act.put, g1, g2, g3]
    refine aB (i := 2) (v := ?UW) rfl (by kernel_rfl) (by decide) (by kernel_rfl) (by kernel_rfl) (by kernel_rfl) (fun _ _ _ h => h) (Or.inl ⟨by rfl, ?DR⟩) (by assumption) ?_
    case DR => (intro w hSw; (try dsimp only at hSw); go_simp; first | done | with_reducible rfl)
    try simp only [Act.put, g1, g2, g3]
    refine aB (i := 3) (v := ?UY) rfl (by kernel_rfl) (by decide) (by kernel_rfl) (by kernel_rfl) (by kernel_rfl) (fun _ _ _ h => h) (Or.inl ⟨by rfl, ?DT⟩) (by assumption) ?_
    case DT => (intro w hSw; (try dsimp only at hSw); go_simp; first | done | with_reducible rfl)
    try simp only [Act.put, g1, g2, g3]
    refine aB (i := 4) (v := ?UZ) rfl (by kernel_rfl) (by decide) (by kernel_rfl) (by kernel_rfl) (by kernel_rfl) (fun _ _ _ h => h) (Or.inl ⟨by rfl, ?DU⟩) (by assumption) ?_
    case DU => (intro w hSw; (try dsimp only at hSw); go_simp; first | done | with_reducible rfl)
    try simp only [Act.put, g1, g2, g3]
    refine aB (i := 5) (v := ?U0) rfl (by kernel_rfl) (by decide) (by kernel_rfl) (by kernel_rfl) (by kernel_rfl) (fun _ _ _ h => h) (Or.inl ⟨by rfl, ?DV⟩) (by assumption) ?_
    case DV => (intro w hSw; (try dsimp only at hSw); go_simp; first | done | with_reducible rfl)
    try simp only [Act.put, g1, g2, g3]
    refine aB (i := 6) (v := ?ah2) rfl (by kernel_rfl) (by decide) (by kernel_rfl) (by kernel_rfl) (by kernel_rfl) (fun _ _ _ h => h) (Or.inl ⟨by rfl, ?VP⟩) (by assumption) ?_
    case VP => (intro w hSw; (try dsimp only at hSw); go_simp; first | done | with_reducible rfl)
    try simp only [Act.put, g1, g2, g3]
    obtain ⟨wz, hwz⟩ : ∃ y, y = W2.drew := ⟨_, rfl⟩
    have Kz : Hid (Below W2.heap.size W2 wz) := by rw [hwz]; exact Kd.out
    rw [← hwz]
    clear hwz hHd
    have q := EN7.out.below Kz.out
    have q0 := q v hv 0 (by omega)
    have q1 := q v hv 1 (by omega)
    have q2 := q v hv 2 (by omega)
    have q3 := q v hv 3 (by omega)
    rw [Nat.zero_add] at q0 q1 q2 q3
    rw [Nat.add_zero] at q0
    have FA := FN7.out.below Kz.out
    have f0 := FA.2 (v * 4)
    have f1 := FA.2 (v * 4 + 1)
    have f2 := FA.2 (v * 4 + 2)
    have f3 := FA.2 (v * 4 + 3)
    have mq := Lib.hid (q.put hv N)
    have fq := Lib.hid FA
    have oq := Lib.hid (dw (S := fun k => k = nb) (Only.refl _ wz) (g := nb) rfl (.int .u64 (aj N 0)) (.int .u64 (aj N 1)) (.int .u64 (aj N 2)) (.int .u64 (aj N 3)) (v * 4))
    clear q FA
    refine aG (i := 7) (by kernel_rfl) rfl (fun K hK => ?_)
    go_simp
    refine hK.out _ _ (fun h => absurd h (by decide)) (fun _ => ?_)
    clear hK K
    try simp only [Act.put, g1, g2, g3]
    refine dA (by kernel_rfl) ?_ _
    obtain ⟨wy, hwy⟩ : ∃ y, y = ((((wz.setCell ⟨nb, v * 4, none⟩ (.int .u64 (aj N 0))).setCell ⟨nb, v * 4 + 1, none⟩ (.int .u64 (aj N 1))).setCell ⟨nb, v * 4 + 2, none⟩ (.int .u64 (aj N 2))).setCell ⟨nb, v * 4 + 3, none⟩ (.int .u64 (aj N 3))) := ⟨_, rfl⟩
    rw [← hwy]
    have MQ : Hid (iL wy nb 0 n (nT E v N)) := by rw [hwy]; have h1 := mq.out; simp only [Nat.zero_add] at h1; exact h1
    have OQ : Hid (Only (fun k => k = nb ∨ k = pb ∨ w.heap.size ≤ k) w wy) := by rw [hwy]; exact (O7.out.mono fun k hk => by omega).trans (((Only.of_below Kz.out).mono fun k hk => by omega).trans (oq.out.mono fun k hk => .inl hk))
    have OY : Hid (Only (fun k => k = nb ∨ W2.heap.size ≤ k) W2 wy) := by rw [hwy]; exact ((Only.of_below Kz.out).mono fun k hk => .inr hk).trans (oq.out.mono fun k hk => .inl hk)
    have VQ : Hid (eY wy nb) := by rw [hwy]; exact (((fq.out.set _ _).set _ _).set _ _).set _ _
    try simp only [List.setIfInBounds_toArray, List.set_cons_zero, List.set_cons_succ]
    exact ⟨⟨MQ, OQ, OY, VQ⟩, _, _, _, _, _, _, _, rfl⟩
   case ah1 =>
   rintro a' wy ⟨⟨MQ, OQ, OY, VQ⟩, mO, u55, mP, mQ, u58, u59, u60, rfl⟩
   try simp only [List.setIfInBounds_toArray, List.set_cons_zero, List.set_cons_succ]
   clear aC Kd
   have hdd := Ed.out
   have hp := gK bP7.out OY.out (by omega)
   have hpc := hp.cell
   have hkn : wy.cell? ⟨b, 174, none⟩ = some (.map (some kb)) := (World.cell?_of_block (OY.out.block b (by omega) (by omega))).trans HKN.out
   have M8 := M7.out.only OY.out (by omega)
   obtain ⟨wx, hrun, hM9, zX⟩ := ahU (Q' := Q') 0 M8
   have HM9 := Lib.hid hM9
   have BG := Lib.hid zX
   clear hM9 zX M8 hp
   go_wp2_with fail
   have hD1 : wx.heap[D]? = some (.deferred (some [])) := (BG.out.block D (by have := OY.out.size; omega) (by omega)).trans ((OY.out.block D (by omega) (by omega)).trans HD1.out)
   have hD2 : wx.heap[D2]? = some (.deferred (some [])) := (BG.out.block D2 (by have := OY.out.size; omega) (by omega)).trans ((OY.out.block D2 (by omega) (by omega)).trans HD2.out)
   have hsy := OY.out.size
   have hFn : eY wx nb := VQ.out.only BG.out (by omega)
   have xB : eY wx pb := (F7.out.only OY.out (by omega)).only BG.out (by omega)
   have hall : Only (fun k => k = nb ∨ k = pb ∨ k = kb ∨ w.heap.size ≤ k) w wx := (OQ.out.mono fun k hk => by omega).trans (BG.out.mono fun k hk => by omega)
   have hle := HR.out.pJ.only hall (by omega)
   have keep : ∀ k, wx.cell? ⟨b, k, none⟩ = w.cell? ⟨b, k, none⟩ := fun k => World.cell?_of_block (hall.block b (by omega) (by omega))
   have hsw := hall.size
   refine abB (B := w.heap.size) rfl ⟨⟨D2, rfl, by omega, hD2, fun d' hd' e => ?_⟩, ⟨D, rfl, by omega, hD1, fun d' hd' => by simp at hd'⟩, trivial⟩ fun u W' ho => ⟨P2, ⟨u, rfl⟩, ?_, fun x hx => ?_, HM9.out.only ho (by omega), hFn.only ho (by omega), xB.only ho (by omega), hall.trans (ho.mono fun k hk => by omega)⟩
   · rw [List.mem_singleton] at hd'
     rw [hd'] at e
     injection e with e1
     injection e1 with e2
     omega
   · exact (⟨fun i hi j hj => (keep _).trans (HR.out.own i hi j hj), hle, (keep _).trans HR.out.next, (keep _).trans HR.out.AQ, (keep _).trans HR.out.known, MQ.out.only BG.out (by omega), (E7.out.only OY.out (by omega)).only BG.out (by omega), HR.out.pos, HR.out.small, HR.out.apart, by omega⟩ : dX wx b n nb pb kb Ow Lv (nT E v N) P2).only ho (by omega) (by omega) (by omega)
   · rw [HP2.out x (by omega), Jq.out x (by omega)]
  case stop2 => intro D2 c pre W2 _ _ h _ _; exact h.elim
 case stop => intro D c pre W _ _ h _ _; exact h.elim
end
end Go.Proofs.YtglbkbiphcgidaaDoor
