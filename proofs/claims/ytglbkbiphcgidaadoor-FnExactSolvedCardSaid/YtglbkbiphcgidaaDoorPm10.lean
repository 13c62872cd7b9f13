import Derived.Deep.LoopGhost
import Derived.Test.YtglbkbiphcgidaaDoorPm08
namespace Go.Proofs.YtglbkbiphcgidaaDoor
section
open Go.RowKit Go.Shelf
def agT {I : Nat → Bool} (C : Nat → Prop) (R : List (eH I) → World → Prop) (Rx : Code → List (eH I) → World → Prop) (xs : List (eH I)) (W : World) : Exit → Act → World → Prop
 | .normal, _, W' => Only (fun k => C k ∨ W.heap.size ≤ k) W W' ∧ R xs W'
 | .ret, _, W' => Only (fun k => C k ∨ W.heap.size ≤ k) W W' ∧ Rx .ret xs W'
 | .exit id, _, W' => Only (fun k => C k ∨ W.heap.size ≤ k) W W' ∧ Rx (.exit id) xs W'
 | _, _, _ => False
theorem Gx {w : World} {Bs : Nat} {I : Nat → Bool} {g : Operand} {ps : Array Tmp} {assign body : Code} {Q : Exit → Act → World → Prop} {a : Act}
 (hg : a.eval g = .func (.func 139) #[] #[.pointer (some ⟨Bs, 0, none⟩)]) (hT : dS w) (hB : aH w Bs I) (hps : ps.size = 1)
 (C : Nat → Prop) (hC : ∀ k, C k → k < w.heap.size ∧ k ≠ 1)
 (R : List (eH I) → World → Prop) (Rx : Code → List (eH I) → World → Prop)
 (hR : ∀ pre A A', R pre A → Only (fun k => w.heap.size ≤ k) A A' → R pre A')
 (DC : ∀ c pre A A', Rx c pre A → Only (fun k => w.heap.size ≤ k) A A' → Rx c pre A')
 (h0 : R [] w) (a₁ : eH I → Act)
 (hassign : ∀ (l : Nat) (x : eH I) (W : World) (K : Act → World → Prop), K (a₁ x) W →
  assign.wpIn (Fence.wide.inRound l) 2 Tryd.prog (Exit.then K (fun _ _ _ => False)) { tmps := (ps.zip (encI x)).foldl (fun t (p, v) => t.setIfInBounds p v) a.tmps, defers := [] } W)
 (hbody : ∀ (l : Nat) (pre : List (eH I)) (x : eH I) (W : World), R pre W → Only (fun k => C k ∨ w.heap.size ≤ k) w W → body.wpIn (Fence.wide.inRound l) 2 Tryd.prog (agT C R Rx (pre ++ [x]) W) (a₁ x) W)
 (hdone : ∀ (D : Nat) (xs : List (eH I)) (W : World), w.heap.size ≤ D → jd xs = aU I 256 → R xs W → Only (fun k => C k ∨ w.heap.size ≤ k) w W → W.heap[D]? = some (.deferred (some [])) → Q .normal { a with defers := { target := .collected D, args := #[] } :: a.defers } W)
 (hstop : ∀ (D : Nat) (c : Code) (pre : List (eH I)) (W : World), w.heap.size ≤ D → (∃ k, jd pre = (aU I 256).take k) → Rx c pre W → Only (fun k => C k ∨ w.heap.size ≤ k) w W → W.heap[D]? = some (.deferred (some [])) → c.wp Tryd.prog Q { a with defers := { target := .collected D, args := #[] } :: a.defers } W) :
 (Code.rangeFunc g ps assign body).wp Tryd.prog Q a w := by
 have hTl := hT.lt
 have keep : ∀ {W W' : World}, Only (fun k => C k ∨ w.heap.size ≤ k) w W → Only (fun k => C k ∨ W.heap.size ≤ k) W W' → KeepsFrom w.heap.size W W' ∧ nS W W' ∧ Only (fun k => C k ∨ w.heap.size ≤ k) w W' := fun {W W'} ho hk => by
  have hs := ho.size
  refine ⟨⟨hk.size, fun k o hBk hok _ => (hk.block k (Array.getElem?_eq_some_iff.1 hok).1 fun hh => ?_).trans hok⟩, hk.block _ (by omega) fun hh => ?_, ho.trans (hk.mono fun k hh => hh.imp id fun h => by omega)⟩
  · rcases hh with hh | hh
    · have := (hC k hh).1; omega
    · have := (Array.getElem?_eq_some_iff.1 hok).1; omega
  · rcases hh with hh | hh
    · exact (hC _ hh).2 rfl
    · omega
 have grow : ∀ {A A' : World} {row : Option Nat}, A.grownBy A' row → (∀ r, row = some r → w.heap.size ≤ r ∧ ∃ o : Obj, A.heap[r]? = some o ∧ o.isCells = false) → Only (fun k => w.heap.size ≤ k) A A' := fun hg hr => (Only.dV hg).mono fun k hk => (hr k hk).1
 refine (wpIn_wide (n := 4)).1 ?_
 refine wpIn_rangeFunc_ownG (n := 4) rfl (by omega) (gf := 139) (lb := #[.pointer (some ⟨Bs, 0, none⟩)]) hg trivial (enters_of Tryd.func139 (by kernel_rfl) rfl)
  (all_stops 3 (by omega) Bs I w hT hB) nS.trans (agG hT) (Below.refl _ _) (fun _ => hps.symm)
  (fun pre W => R pre W ∧ Only (fun k => C k ∨ w.heap.size ≤ k) w W) (fun c pre W => Rx c pre W ∧ Only (fun k => C k ∨ w.heap.size ≤ k) w W)
  (fun pre A A' row hs hg hr => ⟨hR pre A A' hs.1 (grow hg hr), hs.2.trans ((grow hg hr).mono fun k hk => .inr hk)⟩)
  (fun c pre A A' row hs hg hr => ⟨DC c pre A A' hs.1 (grow hg hr), hs.2.trans ((grow hg hr).mono fun k hk => .inr hk)⟩)
  ⟨h0, Only.refl _ _⟩ a₁ hassign ?body (fun D xs W hD hS hi hK => hdone D xs W hD hS hi.1 hi.2 hK) (fun D c pre W hD hS hi hK => wpIn_wide.2 (hstop D c pre W hD hS hi.1 hi.2 hK))
 case body =>
  intro l pre x W hi _
  refine wpIn_mono (hbody l pre x W hi.1 hi.2) ?_
  intro e a3 W3 hp
  cases e with
  | normal =>
    obtain ⟨ho, hr⟩ := hp
    obtain ⟨k1, k2, k3⟩ := keep hi.2 ho
    exact ⟨k1, k2, hr, k3⟩
  | ret =>
    obtain ⟨ho, hr⟩ := hp
    obtain ⟨k1, k2, k3⟩ := keep hi.2 ho
    exact ⟨k1, hr, k3⟩
  | exit id =>
    obtain ⟨ho, hr⟩ := hp
    obtain ⟨k1, k2, k3⟩ := keep hi.2 ho
    exact ⟨k1, hr, k3⟩
  | goto t => exact hp.elim
  | panic ch => exact hp.elim
  | outgrown => exact hp.elim
end
end Go.Proofs.YtglbkbiphcgidaaDoor
namespace Go.Proofs.YtglbkbiphcgidaaDoor
section
open Go.RowKit Go.Shelf
attribute [local go_sem] Oper.semAt_some
def iL (w : World) (b off n : Nat) (E : Nat → Nat → Bool) : Prop := ∀ u, u < n → ∀ j, j < 4 → w.cell? ⟨b, off + u * 4 + j, none⟩ = some (.int .u64 (aj (E u) j))
theorem iL.below {w w' : World} {b off n : Nat} {E : Nat → Nat → Bool} (h : iL w b off n E) (hb : Below w.heap.size w w') : iL w' b off n E := fun u hu j hj => Below.CJ (B := 0) hb rfl (h u hu j hj)
theorem iL.only {S : Nat → Prop} {w w' : World} {b off n : Nat} {E : Nat → Nat → Bool} (h : iL w b off n E) (hk : Only S w w') (hs : ¬ S b) : iL w' b off n E := fun u hu j hj => by
 have h1 := h u hu j hj
 exact (World.cell?_of_block (hk.block b (World.block_lt_of_cell? _ _ h1) hs)).trans h1
def lT {I : Nat → Bool} (E : Nat → Nat → Bool) (pre : List (eH I)) : Nat → Bool := fun x => pre.any fun v => E v.1 x
def lU (E : Nat → Nat → Bool) (I : Nat → Bool) : Nat → Bool := fun x => (List.range 256).any fun v => I v && E v x
theorem UC {E : Nat → Nat → Bool} {I : Nat → Bool} {x : Nat} : lU E I x = true ↔ ∃ v, v < 256 ∧ I v = true ∧ E v x = true := by
 unfold lU
 rw [List.any_eq_true]
 constructor
 · rintro ⟨v, hv, h⟩
   rw [Bool.and_eq_true] at h
   exact ⟨v, List.mem_range.1 hv, h⟩
 · rintro ⟨v, hv, h⟩
   exact ⟨v, List.mem_range.2 hv, Bool.and_eq_true_iff.2 h⟩
theorem UD {I : Nat → Bool} {ys : List (eH I)} (h : jd ys = aU I 256) {v : Nat} (hv : v < 256) (hI : I v = true) : ∃ x ∈ ys, x.1 = v := by
 have h1 : (v : Int) ∈ aU I 256 := (zJ I 256 _).2 ⟨v, rfl, hv, hI⟩
 rw [← h] at h1
 obtain ⟨x, hx, e⟩ := List.mem_map.1 h1
 exact ⟨x, hx, Int.natCast_inj.1 e⟩
theorem agU {I : Nat → Bool} {E : Nat → Nat → Bool} {ys : List (eH I)} (h : jd ys = aU I 256) : lT E ys = lU E I := funext fun x => by
 rw [Bool.eq_iff_iff, UC]
 unfold lT
 rw [List.any_eq_true]
 constructor
 · rintro ⟨v, _, hv⟩
   exact ⟨v.1, v.2.1, v.2.2, hv⟩
 · rintro ⟨v, hv, hI, hE⟩
   obtain ⟨y, hy, rfl⟩ := UD h hv hI
   exact ⟨y, hy, hE⟩
theorem agV {I : Nat → Bool} {E : Nat → Nat → Bool} {pre : List (eH I)} {x : eH I} : lT E (pre ++ [x]) = aO (lT E pre) (E x.1) := funext fun y => by
 unfold lT aO; rw [List.any_append]; simp
theorem agW {w : World} {I J K : Nat → Bool} (hK : dR I J = K) : Calls Tryd.prog 111 #[aW I, aW J] w fun e w' => e = .returned (aW K) ∧ Below w.heap.size w w' := by rw [← hK]; exact yw I J
theorem aaU {w : World} {I J K : Nat → Bool} (hK : aQ I J = K) : Calls Tryd.prog 133 #[aW I, aW J] w fun e w' => e = .returned (aW K) ∧ Below w.heap.size w w' := by rw [← hK]; exact mJ I J
theorem uD {w : World} (t : TypeId) (v : Value) (g : Nat) (hg : w.heap.size = g) : Boxed (w.alloc (.cells #[v] t)) g t v := by rw [← hg]; exact Boxed.new w t v
theorem dP {w : World} (I : Nat → Bool) (g : Nat) (hg : w.heap.size = g) : aH (w.alloc (.cells #[.int .u64 (aj I 0), .int .u64 (aj I 1), .int .u64 (aj I 2), .int .u64 (aj I 3)] 69)) g I := by rw [← hg]; exact aH.new w I
theorem jP : (.cells #[.int .u64 0, .int .u64 0, .int .u64 0, .int .u64 0] 69 : Obj) = .cells #[.int .u64 (aj (fun _ => false) 0), .int .u64 (aj (fun _ => false) 1), .int .u64 (aj (fun _ => false) 2), .int .u64 (aj (fun _ => false) 3)] 69 := by
 rw [jG, jG, jG, jG]; rfl
theorem dh {w w' : World} {g : Nat} {t : TypeId} {v : Value} (h : Boxed w g t v) (hb : Below w.heap.size w w') : Boxed w' g t v := (hb.block g h.lt).trans h
theorem gK {S : Nat → Prop} {w w' : World} {g : Nat} {t : TypeId} {v : Value} (h : Boxed w g t v) (hk : Only S w w') (hs : ¬ S g) : Boxed w' g t v := (hk.block g h.lt hs).trans h
theorem aH.gV {w : World} {g : Nat} {I : Nat → Bool} (J : Nat → Bool) (h : aH w g I) : aH ((((w.setCell ⟨g, 0, none⟩ (.int .u64 (aj J 0))).setCell ⟨g, 1, none⟩ (.int .u64 (aj J 1))).setCell ⟨g, 2, none⟩ (.int .u64 (aj J 2))).setCell ⟨g, 3, none⟩ (.int .u64 (aj J 3))) g J := by
 refine aH.aaH (World.rowIs.congr ((((h.row.set 0 _).set 1 _).set 2 _).set 3 _) fun i hi => ?_)
 have : i = 0 ∨ i = 1 ∨ i = 2 ∨ i = 3 := by omega
 rcases this with rfl | rfl | rfl | rfl <;> simp
theorem dw {S : Nat → Prop} {a w : World} {g : Nat} (h : Only S a w) (hg : S g) (x0 x1 x2 x3 : Value) (o : Nat) : Only S a ((((w.setCell ⟨g, o, none⟩ x0).setCell ⟨g, o + 1, none⟩ x1).setCell ⟨g, o + 2, none⟩ x2).setCell ⟨g, o + 3, none⟩ x3) :=
 (((h.setCell (p := ⟨g, o, none⟩) hg _).setCell (p := ⟨g, o + 1, none⟩) hg _).setCell (p := ⟨g, o + 2, none⟩) hg _).setCell (p := ⟨g, o + 3, none⟩) hg _
theorem agX {fn : Func} {p : Tmp} {tmps : Array Value} {W : World} {g : Nat} {K : Nat → Bool} {R : Ending → World → Prop} (hr : fn.results = #[.cell p 69]) (hp : tmps.getD p undef = .pointer (some ⟨g, 0, none⟩))
 (hM : aH W g K) (hR : R (.returned (aW K)) W) : bodyPost Tryd.prog fn R .ret { tmps := tmps, defers := [] } W :=
 bodyPost_ret (v := aW K) (results_cell_row hr tmps _ g _ _ _ (.array 4 67) hp hM (by kernel_rfl) rfl (by kernel_rfl)) rfl hR
theorem aaV {fn : Func} {p : Tmp} {tmps : Array Value} {W : World} {D g : Nat} {K : Nat → Bool} {R : Ending → World → Prop} (hr : fn.results = #[.cell p 69]) (hp : tmps.getD p undef = .pointer (some ⟨g, 0, none⟩))
 (hM : aH W g K) (hK : W.heap[D]? = some (.deferred (some []))) (hR : R (.returned (aW K)) (W.putObj D (.deferred none))) :
 bodyPostM Fence.wide 4 Tryd.prog fn R .ret { tmps := tmps, defers := [{ target := .collected D, args := #[] }] } W := by
 refine ⟨by simp, .inl ⟨_, _, rfl, run_takeDeferred hK, ?_⟩⟩
 have hg : (W.putObj D (.deferred none)).heap[g]? = some (.cells #[.int .u64 (aj K 0), .int .u64 (aj K 1), .int .u64 (aj K 2), .int .u64 (aj K 3)] 69 (0, 0)) := by
  refine (World.putObj_heap_other fun e => ?_).trans hM
  unfold aH at hM
  rw [e, hK] at hM
  cases hM
 exact ⟨_, results_cell_row hr tmps _ g _ _ _ (.array 4 67) hp hg (by kernel_rfl) rfl (by kernel_rfl), hR⟩
set_option linter.unusedSimpArgs false in
set_option maxRecDepth 100000 in
set_option maxHeartbeats 8000000 in
theorem UE {w : World} {nb no n cap : Nat} {E : Nat → Nat → Bool} {I : Nat → Bool} (hT : dS w) (hE : iL w nb no n E) (hI : ∀ v, I v = true → v < n) (_hn : n ≤ 256) :
 Calls Tryd.prog 156 #[.slice (some ⟨nb, no, none⟩) n cap, aW I] w fun e w' => e = .returned (aW (lU E I)) ∧ Below w.heap.size w w' := by
 have HE := Lib.hid hE
 have HT := Lib.hid hT
 have HI := Lib.hid hI
 clear hE hT hI
 refine (callsIn_wide (n := 4)).1 ?_
 refine callsIn_of_wp_marks Tryd.func156 rfl trivial ?_ rfl
 simp only [Tryd.ntmps156, List.size_toArray, List.length_cons, List.length_nil, Nat.reduceAdd, Nat.reduceSub, Array.replicate_succ, Array.replicate_zero, List.push_toArray, List.append_toArray, List.nil_append, List.cons_append]
 refine wpIn_wide.2 ?_
 go_wp2_with fail
 obtain ⟨w1, hw1⟩ : ∃ y, y = (((w.alloc (.cells #[.slice (some ⟨nb, no, none⟩) n cap] 125)).alloc (.cells #[.int .u64 (aj I 0), .int .u64 (aj I 1), .int .u64 (aj I 2), .int .u64 (aj I 3)] 69)).alloc (.cells #[.int .u64 0, .int .u64 0, .int .u64 0, .int .u64 0] 69)).alloc (.cells #[.int .u64 0, .int .u64 0, .int .u64 0, .int .u64 0] 69) := ⟨_, rfl⟩
 have HB : Hid (Below w.heap.size w w1) := by rw [hw1]; exact ((((Below.refl _ _).alloc (Nat.le_refl _) _).alloc (by simp) _).alloc (by simp; omega) _).alloc (by simp; omega) _
 have bE : Hid (Boxed w1 w.heap.size 125 (.slice (some ⟨nb, no, none⟩) n cap)) := by
  rw [hw1]; exact dh (dh (dh (Boxed.new w 125 (.slice (some ⟨nb, no, none⟩) n cap)) (aA _ _)) (aA _ _)) (aA _ _)
 have bF : Hid (aH w1 (w.heap.size + 1) I) := by
  rw [hw1]; exact ((dP I _ (by simp)).below (aA _ _)).below (aA _ _)
 have bR : Hid (aH w1 (w.heap.size + 1 + 1) (fun _ => false)) := by
  rw [hw1, jP]; exact (dP _ _ (by simp)).below (aA _ _)
 have bT : Hid (aH w1 (w.heap.size + 1 + 1 + 1) (fun _ => false)) := by
  rw [hw1, jP]; exact dP _ _ (by simp)
 have hs1 : w1.heap.size = w.heap.size + 4 := by rw [hw1]; simp
 have cO := Lib.hid hs1
 rw [← hw1]
 clear hw1 hs1
 refine (Gn w1 I).mono ?_
 rintro e w2 ⟨rfl, hw2⟩
 have B2 : Hid (Below w1.heap.size w1 w2) := by rw [hw2]; exact aA _ _
 have bI : Hid (aH w2 w1.heap.size I) := by rw [hw2]; exact aH.new _ _
 have HS2 : Hid (w2.heap.size = w1.heap.size + 1) := by rw [hw2]; simp [Hid]
 clear hw2
 have T2 := Lib.hid ((HT.out.below HB.out).below B2.out)
 go_wp2_with fail
 refine Gx (Bs := w1.heap.size) (I := I) rfl T2.out bI.out rfl (fun k => k = w.heap.size + 1 + 1 + 1)
  (fun k hk => by
   have h1 := cO.out
   have h2 := HS2.out
   have h3 := HT.out.lt
   omega)
  (fun pre W => aH W (w.heap.size + 1 + 1 + 1) (lT E pre)) (fun _ _ _ => False)
  (fun pre A A' h ho => h.only ho (by have h1 := cO.out; have h2 := HS2.out; omega)) (fun _ _ _ _ h _ => h)
  (bT.out.below B2.out) ?act ?assign ?body ?done ?stop
 case assign =>
  intro l x W K hK
  dsimp only [encI]
  gi_wp2
  exact hK
 case body =>
  intro l pre x W hR hO
  obtain ⟨v, hv⟩ : ∃ v : Nat, v = x.1 := ⟨_, rfl⟩
  have hvn : v < n := by rw [hv]; exact HI.out _ x.2.2
  have hv0 : (0 : Int) ≤ (v : Int) := by omega
  have hv1 : (v : Int) < (n : Int) := by omega
  rw [← hv]
  have h1 := cO.out
  have h2 := HS2.out
  have hsW := hO.size
  have bEW := Lib.hid (gK (dh bE.out B2.out) hO (by omega))
  have hnb : nb < w.heap.size := World.block_lt_of_cell? _ _ (HE.out v hvn 0 (by omega))
  have HEW := Lib.hid (((HE.out.below HB.out).below B2.out).only hO (by omega))
  have HR := Lib.hid hR
  have HO := Lib.hid hO
  have HX : Hid (lT E (pre ++ [x]) = aO (lT E pre) (E v)) := by rw [agV, ← hv]; rfl
  have aC : Hid (∀ W', Below W.heap.size W W' → W'.cell? ⟨w.heap.size, 0, none⟩ = some (.slice (some ⟨nb, no, none⟩) n cap) ∧
   W'.cell? ⟨nb, no + v * 4, none⟩ = some (.int .u64 (aj (E v) 0)) ∧ W'.cell? ⟨nb, no + v * 4 + 1, none⟩ = some (.int .u64 (aj (E v) 1)) ∧ W'.cell? ⟨nb, no + v * 4 + 2, none⟩ = some (.int .u64 (aj (E v) 2)) ∧ W'.cell? ⟨nb, no + v * 4 + 3, none⟩ = some (.int .u64 (aj (E v) 3)) ∧
   W'.cell? ⟨w.heap.size + 1 + 1 + 1, 0, none⟩ = some (.int .u64 (aj (lT E pre) 0)) ∧ W'.cell? ⟨w.heap.size + 1 + 1 + 1, 1, none⟩ = some (.int .u64 (aj (lT E pre) 1)) ∧ W'.cell? ⟨w.heap.size + 1 + 1 + 1, 2, none⟩ = some (.int .u64 (aj (lT E pre) 2)) ∧ W'.cell? ⟨w.heap.size + 1 + 1 + 1, 3, none⟩ = some (.int .u64 (aj (lT E pre) 3))) := fun W' hb => by
   have m := HR.out.below hb
   have q := HEW.out.below hb
   exact ⟨(dh bEW.out hb).cell, q v hvn 0 (by omega), q v hvn 1 (by omega), q v hvn 2 (by omega), q v hvn 3 (by omega), m.c0, m.c1, m.c2, m.c3⟩
  have Kd : Hid (Below W.heap.size W W.drew) := (Below.refl _ _).drew
  clear hR hO hv
  gi_wp2
  refine uy (S := (fun W' => W'.cell? ⟨w.heap.size, 0, none⟩ = some (.slice (some ⟨nb, no, none⟩) n cap) ∧ W'.cell? ⟨nb, no + v * 4, none⟩ = some (.int .u64 (aj (E v) 0)) ∧ W'.cell? ⟨nb, no + v * 4 + 1, none⟩ = some (.int .u64 (aj (E v) 1)) ∧ W'.cell? ⟨nb, no + v * 4 + 2, none⟩ = some (.int .u64 (aj (E v) 2)) ∧ W'.cell? ⟨nb, no + v * 4 + 3, none⟩ = some (.int .u64 (aj (E v) 3)) ∧ W'.cell? ⟨w.heap.size + 1 + 1 + 1, 0, none⟩ = some (.int .u64 (aj (lT E pre) 0)) ∧ W'.cell? ⟨w.heap.size + 1 + 1 + 1, 1, none⟩ = some (.int .u64 (aj (lT E pre) 1)) ∧ W'.cell? ⟨w.heap.size + 1 + 1 + 1, 2, none⟩ = some (.int .u64 (aj (lT E pre) 2)) ∧ W'.cell? ⟨w.heap.size + 1 + 1 + 1, 3, none⟩ = some (.int .u64 (aj (lT E pre) 3)))) (m := 6) (by kernel_rfl) (by kernel_rfl) (aC.out _ Kd.out) (fun hHd => ?_)
  refine aB (i := 0) (v := ?rW) rfl (by kernel_rfl) (by decide) (by kernel_rfl) (by kernel_rfl) (by kernel_rfl) (fun _ _ _ h => h) (Or.inl ⟨by rfl, ?hm1⟩) (by assumption) ?_
  case hm1 => (intro w hSw; (try dsimp only at hSw); go_simp; first | done | with_reducible rfl)
  try simp only [Act.put, g1, g2, g3]
  refine aB (i := 1) (v := ?rZ) rfl (by kernel_rfl) (by decide) (by kernel_rfl) (by kernel_rfl) (by kernel_rfl) (fun _ _ _ h => h) (Or.inl ⟨by rfl, ?hm2⟩) (by assumption) ?_
  case hm2 => (intro w hSw; (try dsimp only at hSw); go_simp; first | done | with_reducible rfl)
  try simp only [Act.put, g1, g2, g3]
  refine aB (i := 2) (v := ?su) rfl (by kernel_rfl) (by decide) (by kernel_rfl) (by kernel_rfl) (by kernel_rfl) (fun _ _ _ h => h) (Or.inl ⟨by rfl, ?iR⟩) (by assumption) ?_
  case iR => (intro w hSw; (try dsimp only at hSw); go_simp; first | done | with_reducible rfl)
  try simp only [Act.put, g1, g2, g3]
  refine aB (i := 3) (v := ?uF) rfl (by kernel_rfl) (by decide) (by kernel_rfl) (by kernel_rfl) (by kernel_rfl) (fun _ _ _ h => h) (Or.inl ⟨by rfl, ?hm4⟩) (by assumption) ?_
  case hm4 => (intro w hSw; (try dsimp only at hSw); go_simp; first | done | with_reducible rfl)
  try simp only [Act.put, g1, g2, g3]
  refine aB (i := 4) (v := ?wW) rfl (by kernel_rfl) (by decide) (by kernel_rfl) (by kernel_rfl) (by kernel_rfl) (fun _ _ _ h => h) (Or.inl ⟨by rfl, ?jQ⟩) (by assumption) ?_
  case jQ => (intro w hSw; (try dsimp only at hSw); go_simp; first | done | with_reducible rfl)
  try simp only [Act.put, g1, g2, g3]
  refine aG (i := 5) (by kernel_rfl) rfl (fun K hK => ?_)
  go_simp
  go_at_call 109
  refine (yu _ _).mono ?_
  rintro e wa ⟨rfl, hb⟩
  have Ka := Lib.hid (Kd.out.trans (hb.mono Kd.out.size))
  clear hb
  go_wp2_with fail
  refine hK.out _ _ (fun _ => aC.out _ Ka.out) (fun hHd => ?_)
  have hHd := hHd (by decide)
  clear hK K
  try simp only [Act.put, g1, g2, g3]
  have mA := HR.out.below Ka.out
  have f0 := mA.frozen 0
  have f1 := mA.frozen 1
  have f2 := mA.frozen 2
  have f3 := mA.frozen 3
  have m4 := Lib.hid (mA.gV (aO (lT E pre) (E v)))
  have HS : Hid (W.heap.size ≤ wa.heap.size) := Ka.out.size
  obtain ⟨y0, y1, y2, y3, y4, z0, z1, z2, z3⟩ := hHd
  clear mA h1 h2 hsW
  refine aG (i := 6) (by kernel_rfl) rfl (fun K hK => ?_)
  go_simp
  refine hK.out _ _ (fun h => absurd h (by decide)) (fun _ => ?_)
  clear hK K
  try simp only [Act.put, g1, g2, g3]
  refine dA (by kernel_rfl) ?_ _
  refine uw ?_
  refine ⟨dw (Only.of_below Ka.out) (.inl rfl) _ _ _ _ 0, ?_⟩
  show aH _ _ (lT E (pre ++ [x]))
  rw [HX.out]
  exact m4.out
 case done =>
  intro D xs W hD hxs hR hO hK
  have h1 := cO.out
  have h2 := HS2.out
  have hsW := hO.size
  have e1 := agU (E := E) hxs
  have hR2 : aH W (w.heap.size + 1 + 1 + 1) (lU E I) := by rw [← e1]; exact hR
  have c0 := hR2.c0
  have c1 := hR2.c1
  have c2 := hR2.c2
  have c3 := hR2.c3
  have HRR := Lib.hid ((bR.out.below B2.out).only hO (by omega))
  have f0 := HRR.out.frozen 0
  have f1 := HRR.out.frozen 1
  have f2 := HRR.out.frozen 2
  have f3 := HRR.out.frozen 3
  have d0 := HRR.out.c0
  have d1 := HRR.out.c1
  have d2 := HRR.out.c2
  have d3 := HRR.out.c3
  have HO := Lib.hid hO
  have HD := Lib.hid hD
  have HK := Lib.hid hK
  clear hR hR2 e1 h1 h2 hsW hO hxs hD hK
  go_wp2
  have h1 := cO.out
  have h2 := HS2.out
  have h3 := HD.out
  have hO2 := dw (S := fun k => w.heap.size ≤ k) (HO.out.mono fun k hk => by omega) (g := w.heap.size + 1 + 1) (by omega) (.int .u64 (aj (lU E I) 0)) (.int .u64 (aj (lU E I) 1)) (.int .u64 (aj (lU E I) 2)) (.int .u64 (aj (lU E I) 3)) 0
  have hDk := ((dw (S := fun k => k = w.heap.size + 1 + 1) (Only.refl _ W) (g := w.heap.size + 1 + 1) rfl (.int .u64 (aj (lU E I) 0)) (.int .u64 (aj (lU E I) 1)) (.int .u64 (aj (lU E I) 2)) (.int .u64 (aj (lU E I) 3)) 0).block D (Array.getElem?_eq_some_iff.1 HK.out).1 (by omega)).trans HK.out
  exact aaV (K := lU E I) (g := w.heap.size + 1 + 1) rfl rfl (HRR.out.gV (lU E I)) hDk
   ⟨rfl, (HB.out.trans (B2.out.mono HB.out.size)).trans ((hO2.trans ((Only.dV (grownBy_putObj' _ D _)).mono fun k hk => by cases hk; omega)).below (by omega) (fun k h => h))⟩
 case stop => intro D c pre W _ _ h _ _; exact h.elim
end
end Go.Proofs.YtglbkbiphcgidaaDoor
namespace Go.Proofs.YtglbkbiphcgidaaDoor
section
open Go.RowKit
variable {ah : List (List Int)} {O : List Int} {p : Nat → Int}
theorem mM {I J : Nat → Bool} {v : Nat} : aO I J v = true ↔ I v = true ∨ J v = true := by unfold aO; simp
theorem aaW {x v : Nat} : aS x v = true ↔ v = x := by unfold aS; simp
theorem not_true {b : Bool} (h : ¬ b = true) : b = false := by simpa using h
theorem agY {who : Int} {I : Nat → Bool} : aQ I (aN ah O who I (fun _ => false)) = I := funext fun v => by
 have key : ∀ k u, aZ ah O who I (fun _ => false) k u < 0 := fun k => by
  induction k with
  | zero => intro u; simp [aZ]
  | succ k ih =>
    intro u
    rw [aZ, if_neg (by have := ih u; omega), if_neg]
    · omega
    · rintro ⟨_, hc⟩
      refine fK.none (hc.mono (B := fun _ => False) fun x _ hx => ?_)
      have := ih x.toNat; omega
 have h0 : aN ah O who I (fun _ => false) v = false := by
  unfold aN; exact decide_eq_false (by have := key ah.length v; omega)
 unfold aQ; rw [h0]; simp
theorem aaX (hin : ig ah) (hO : ∀ v, v < ah.length → nth O v = 0 ∨ nth O v = 1) {I G W : Nat → Bool} {who bQ : Int} (hwo : (who = 0 ∧ bQ = 1) ∨ (who = 1 ∧ bQ = 0)) (ht : fE ah I) {s s2 : Nat → Nat}
 (h : dF ah O p I G bQ s) (h2 : dF ah O p (aQ I (aN ah O bQ I G)) W bQ s2) : ∃ s', dF ah O p I (aO (aN ah O bQ I G) W) bQ s' := by
 refine ZC (G := fun _ => false) (s := s) hin hO hwo ht ?_ h2
 rw [agY]; exact h
theorem agZ (hin : ig ah) (hO : ∀ v, v < ah.length → nth O v = 0 ∨ nth O v = 1) (hp : ∀ v, v < ah.length → 0 ≤ p v) {I W0 W1 : Nat → Bool} {s0 s1 : Nat → Nat} (hI : ∀ v, I v = true → v < ah.length) (ht : fE ah I)
 (h0 : dF ah O p I W0 0 s0) (h1 : dF ah O p I W1 1 s1) (hc : ∀ v, I v = true → W0 v = true ∨ W1 v = true) :
 W0 = dK 0 I (dO ah O p ah.length I) ∧ W1 = dK 1 I (dO ah O p ah.length I) := by
 obtain ⟨⟨t0, g0⟩, t1, g1⟩ := winZ_holds hin hO hp ah.length I hI (sV _ _) ht
 have ho : ∀ v, v < ah.length → (nth O v = 0 ↔ nth O v ≠ 1) := fun v hv => by have := hO v hv; omega
 have n1 := ND hin h0 g1 ho (by decide)
 have n2 := ND hin g0 h1 ho (by decide)
 have e0 : ∀ v, I v = true → dK 0 I (dO ah O p ah.length I) v = dO ah O p ah.length I v := fun v hv => by unfold dK; rw [hv]; simp
 have e1 : ∀ v, I v = true → dK 1 I (dO ah O p ah.length I) v = !dO ah O p ah.length I v := fun v hv => by unfold dK; rw [hv]; simp
 have f0 : ∀ v, I v = false → dK 0 I (dO ah O p ah.length I) v = false := fun v hv => by unfold dK; rw [hv]; simp
 have f1 : ∀ v, I v = false → dK 1 I (dO ah O p ah.length I) v = false := fun v hv => by unfold dK; rw [hv]; simp
 have both : ∀ v, W0 v = dK 0 I (dO ah O p ah.length I) v ∧ W1 v = dK 1 I (dO ah O p ah.length I) v := fun v => by
  cases hv : I v with
  | false =>
    rw [f0 v hv, f1 v hv]
    exact ⟨not_true fun hw => (by have := h0.sub v hw; rw [hv] at this; cases this), not_true fun hw => (by have := h1.sub v hw; rw [hv] at this; cases this)⟩
  | true =>
    have hn := hI v hv
    have a1 := n1 v hn
    have a2 := n2 v hn
    have a3 := hc v hv
    rw [e1 v hv] at a1
    rw [e0 v hv] at a2
    rw [e0 v hv, e1 v hv]
    cases hw : dO ah O p ah.length I v with
    | true =>
      rw [hw] at a2
      have b1 : W1 v = false := not_true fun hh => a2 ⟨rfl, hh⟩
      rw [b1] at a3
      simp at a3
      exact ⟨a3, b1⟩
    | false =>
      rw [hw] at a1
      have b0 : W0 v = false := not_true fun hh => a1 ⟨hh, rfl⟩
      rw [b0] at a3
      simp at a3
      exact ⟨b0, a3⟩
 exact ⟨funext fun v => (both v).1, funext fun v => (both v).2⟩
noncomputable def dM (ah : List (List Int)) (O : List Int) (p : Nat → Int) (I : Nat → Bool) (who : Int) : Nat → Bool := dK who I (dO ah O p ah.length I)
theorem NS {I : Nat → Bool} {who : Int} {v : Nat} (h : dM ah O p I who v = true) : I v = true := by
 unfold dM dK at h; simp at h; exact h.1
theorem aaY {I : Nat → Bool} {v : Nat} (h : I v = true) : dM ah O p I 1 v = !dM ah O p I 0 v := by
 unfold dM dK; rw [h]; simp
structure qW (ah : List (List Int)) (O : List Int) (p : Nat → Int) (I L W0 W1 : Nat → Bool) : Prop where
 sub : ∀ v, L v = true → I v = true
 tot : fE ah L
 cover : ∀ v, I v = true → L v = true ∨ W0 v = true ∨ W1 v = true
 won : ∀ v, W0 v = true ∨ W1 v = true → I v = true
 step : ∀ X0 X1 s0 s1, dF ah O p L X0 0 s0 → dF ah O p L X1 1 s1 → (∃ t0, dF ah O p I (aO W0 X0) 0 t0) ∧ ∃ t1, dF ah O p I (aO W1 X1) 1 t1
theorem qW.start {I : Nat → Bool} (ht : fE ah I) : qW ah O p I I (fun _ => false) (fun _ => false) where
 sub := fun v h => h
 tot := ht
 cover := fun v h => .inl h
 won := fun v h => by simp at h
 step := fun X0 X1 s0 s1 h0 h1 => ⟨⟨s0, h0.congr fun v => by simp [aO]⟩, s1, h1.congr fun v => by simp [aO]⟩
theorem aaZ {W A X : Nat → Bool} (v : Nat) : aO W (aO A X) v = aO (aO W A) X v := by unfold aO; rw [Bool.or_assoc]
theorem qW.zero (hin : ig ah) (hO : ∀ v, v < ah.length → nth O v = 0 ∨ nth O v = 1) {I L W0 W1 G : Nat → Bool} (h : qW ah O p I L W0 W1) {s : Nat → Nat} (hg : dF ah O p L G 0 s) :
 qW ah O p I (aQ L (aN ah O 0 L G)) (aO W0 (aN ah O 0 L G)) W1 where
 sub := fun v hv => h.sub v (eP.1 hv).1
 tot := CZ hin h.tot
 cover := fun v hv => by
  rcases h.cover v hv with hl | hw | hw
  · cases ha : aN ah O 0 L G v with
    | true => exact .inr (.inl (mM.2 (.inr ha)))
    | false => exact .inl (eP.2 ⟨hl, ha⟩)
  · exact .inr (.inl (mM.2 (.inl hw)))
  · exact .inr (.inr hw)
 won := fun v hv => by
  rcases hv with hv | hv
  · rcases mM.1 hv with hv | hv
    · exact h.won v (.inl hv)
    · exact h.sub v (rH hv)
  · exact h.won v (.inr hv)
 step := fun X0 X1 s0 s1 h0 h1 => by
  obtain ⟨t, ht⟩ := aaX (who := 1) hin hO (.inr ⟨rfl, rfl⟩) h.tot hg h0
  obtain ⟨⟨a, ha⟩, hb⟩ := h.step _ _ _ _ ht (Jb (who := 1) (bQ := 0) hin hO (.inr ⟨rfl, rfl⟩) h.tot h1)
  exact ⟨⟨a, ha.congr aaZ⟩, hb⟩
theorem qW.one (hin : ig ah) (hO : ∀ v, v < ah.length → nth O v = 0 ∨ nth O v = 1) {I L W0 W1 G : Nat → Bool} (h : qW ah O p I L W0 W1) {s : Nat → Nat} (hg : dF ah O p L G 1 s) :
 qW ah O p I (aQ L (aN ah O 1 L G)) W0 (aO W1 (aN ah O 1 L G)) where
 sub := fun v hv => h.sub v (eP.1 hv).1
 tot := CZ hin h.tot
 cover := fun v hv => by
  rcases h.cover v hv with hl | hw | hw
  · cases ha : aN ah O 1 L G v with
    | true => exact .inr (.inr (mM.2 (.inr ha)))
    | false => exact .inl (eP.2 ⟨hl, ha⟩)
  · exact .inr (.inl hw)
  · exact .inr (.inr (mM.2 (.inl hw)))
 won := fun v hv => by
  rcases hv with hv | hv
  · exact h.won v (.inl hv)
  · rcases mM.1 hv with hv | hv
    · exact h.won v (.inr hv)
    · exact h.sub v (rH hv)
 step := fun X0 X1 s0 s1 h0 h1 => by
  obtain ⟨t, ht⟩ := aaX (who := 0) hin hO (.inl ⟨rfl, rfl⟩) h.tot hg h1
  obtain ⟨ha, b, hb⟩ := h.step _ _ _ _ (Jb (who := 0) (bQ := 1) hin hO (.inl ⟨rfl, rfl⟩) h.tot h0) ht
  exact ⟨ha, b, hb.congr aaZ⟩
theorem qW.done (hin : ig ah) (hO : ∀ v, v < ah.length → nth O v = 0 ∨ nth O v = 1) (hp : ∀ v, v < ah.length → 0 ≤ p v) {I L W0 W1 : Nat → Bool} (hI : ∀ v, I v = true → v < ah.length) (ht : fE ah I) (h : qW ah O p I L W0 W1) (hn : ∀ v, L v = false) :
 W0 = dM ah O p I 0 ∧ W1 = dM ah O p I 1 := by
 obtain ⟨⟨t0, h0⟩, t1, h1⟩ := h.step (fun _ => false) (fun _ => false) _ _ (dF.none fun _ => rfl) (dF.none fun _ => rfl)
 have e0 : aO W0 (fun _ => false) = W0 := funext fun v => by simp [aO]
 have e1 : aO W1 (fun _ => false) = W1 := funext fun v => by simp [aO]
 rw [e0] at h0
 rw [e1] at h1
 refine agZ hin hO hp hI ht h0 h1 fun v hv => ?_
 rcases h.cover v hv with hl | hl
 · rw [hn v] at hl; cases hl
 · exact hl
def yB (ah : List (List Int)) (L S : Nat → Bool) : Prop := (∀ v, S v = true → L v = true) ∧ ∀ v, v < ah.length → S v = true → ∀ x ∈ row ah v, L x.toNat = true → S x.toNat = true
theorem yB.total {L S : Nat → Bool} (h : yB ah L S) (ht : fE ah L) : fE ah S := fun v hv hs => by
 obtain ⟨x, hx, hl⟩ := ht v hv (h.1 v hs)
 exact ⟨x, hx, h.2 v hv hs x hx hl⟩
theorem yB.holds {L S W : Nat → Bool} (h : yB ah L S) {who : Int} {s : Nat → Nat} (hw : dF ah O p S W who s) : dF ah O p L W who s where
 sub := fun v hv => h.1 v (hw.sub v hv)
 own := hw.own
 bQ := fun v hv hW ho x hx hl => hw.bQ v hv hW ho x hx (h.2 v hv (hw.sub v hW) x hx hl)
 wins := hw.wins
theorem aa0 (hin : ig ah) (hO : ∀ v, v < ah.length → nth O v = 0 ∨ nth O v = 1) (hp : ∀ v, v < ah.length → 0 ≤ p v) {L S T : Nat → Bool} {who bQ top : Int} (hwo : (who = 0 ∧ bQ = 1) ∨ (who = 1 ∧ bQ = 0)) (hL : ∀ v, L v = true → v < ah.length) (ht : fE ah L) (hs : yB ah L S)
 (hT : ∀ v, T v = true ↔ S v = true ∧ p v = top) (htop : ∀ v, S v = true → p v ≤ top) (hpar : top % 2 = who) (hno : ∀ v, dM ah O p (aQ S (aN ah O who S T)) bQ v = false) : ∃ s, dF ah O p L S who s := by
 have Gy := hs.total ht
 have hR : ∀ v, aQ S (aN ah O who S T) v = true → v < ah.length := fun v hv => hL v (hs.1 v (eP.1 hv).1)
 obtain ⟨⟨t0, g0⟩, t1, g1⟩ := winZ_holds hin hO hp ah.length (aQ S (aN ah O who S T)) hR (sV _ _) (CZ hin Gy)
 have key : ∃ t, dF ah O p (aQ S (aN ah O who S T)) (aQ S (aN ah O who S T)) who t := by
  rcases hwo with ⟨rfl, rfl⟩ | ⟨rfl, rfl⟩
  · refine ⟨t0, g0.congr fun v => ?_⟩
    have h1 := hno v
    cases hv : aQ S (aN ah O 0 S T) v with
    | false => unfold dK; rw [hv]; rfl
    | true =>
      rw [aaY hv] at h1
      unfold dM at h1
      simpa using h1
  · refine ⟨t1, g1.congr fun v => ?_⟩
    have h1 := hno v
    cases hv : aQ S (aN ah O 1 S T) v with
    | false => unfold dK; rw [hv]; rfl
    | true =>
      have h2 := aaY (ah := ah) (O := O) (p := p) hv
      rw [h1] at h2
      exact h2
 obtain ⟨t, hk⟩ := key
 obtain ⟨s, h⟩ := ZB hin Gy hT htop hpar hk
 exact ⟨s, hs.holds h⟩
theorem aa1 (hin : ig ah) (hO : ∀ v, v < ah.length → nth O v = 0 ∨ nth O v = 1) (hp : ∀ v, v < ah.length → 0 ≤ p v) {L S T : Nat → Bool} {who bQ : Int} (hwo : (who = 0 ∧ bQ = 1) ∨ (who = 1 ∧ bQ = 0)) (hL : ∀ v, L v = true → v < ah.length) (ht : fE ah L) (hs : yB ah L S) :
 ∃ s, dF ah O p L (dM ah O p (aQ S (aN ah O who S T)) bQ) bQ s := by
 have Gy := hs.total ht
 have hR : ∀ v, aQ S (aN ah O who S T) v = true → v < ah.length := fun v hv => hL v (hs.1 v (eP.1 hv).1)
 obtain ⟨⟨t0, g0⟩, t1, g1⟩ := winZ_holds hin hO hp ah.length (aQ S (aN ah O who S T)) hR (sV _ _) (CZ hin Gy)
 rcases hwo with ⟨rfl, rfl⟩ | ⟨rfl, rfl⟩
 · exact ⟨t1, hs.holds (Jb (who := 1) (bQ := 0) hin hO (.inr ⟨rfl, rfl⟩) Gy g1)⟩
 · exact ⟨t0, hs.holds (Jb (who := 0) (bQ := 1) hin hO (.inl ⟨rfl, rfl⟩) Gy g0)⟩
structure yC (ah : List (List Int)) (O : List Int) (who : Int) (I G A F : Nat → Bool) : Prop where
 goal : ∀ v, G v = true → A v = true
 sound : ∀ v, A v = true → aN ah O who I G v = true
 front : ∀ v, F v = true → A v = true
 past : ∀ v, v < ah.length → I v = true → A v = false → ¬ fK (ownB O who v) (fun x => I x = true) (fun x => A x = true ∧ F x = false) (row ah v)
theorem yC.start (hin : ig ah) {who : Int} {I G : Nat → Bool} (hI : ∀ v, I v = true → v < ah.length) (hG : ∀ v, G v = true → I v = true) : yC ah O who I G G G where
 goal := fun v h => h
 sound := fun v h => (qL hin (hI v (hG v h))).2 ⟨hG v h, .inl h⟩
 front := fun v h => h
 past := fun v _ _ _ hc => fK.none (hc.mono (B := fun _ => False) fun x _ hx => by rw [hx.1] at hx; cases hx.2)
def NT (ah : List (List Int)) (F : Nat → Bool) (v : Nat) : Prop := ∃ x ∈ row ah v, F x.toNat = true
structure aa2 (ah : List (List Int)) (O : List Int) (who : Int) (I A F F' : Nat → Bool) : Prop where
 is : ∀ v, F' v = true ↔ v < ah.length ∧ I v = true ∧ A v = false ∧ NT ah F v ∧ (nth O v = who ∨ ∀ x ∈ row ah v, I x.toNat = true → A x.toNat = true)
theorem yC.next (hin : ig ah) {who : Int} {I G A F F' : Nat → Bool} (h : yC ah O who I G A F) (hn : aa2 ah O who I A F F') : yC ah O who I G (aO A F') F' where
 goal := fun v hv => mM.2 (.inl (h.goal v hv))
 sound := fun v hv => by
  rcases mM.1 hv with hv | hv
  · exact h.sound v hv
  · obtain ⟨h1, h2, h3, ⟨x, hx, hFx⟩, h5⟩ := (hn.is v).1 hv
    have hAx := h.front _ hFx
    refine (qL hin h1).2 ⟨h2, .inr ?_⟩
    unfold fK ownB
    by_cases ho : nth O v = who
    · rw [if_pos (decide_eq_true ho)]
      exact ⟨x, hx, rH (h.sound _ hAx), h.sound _ hAx⟩
    · rw [if_neg (by simp [ho])]
      exact ⟨⟨x, hx, rH (h.sound _ hAx)⟩, fun y hy uG => h.sound _ ((h5.resolve_left ho) y hy uG)⟩
 front := fun v hv => mM.2 (.inr hv)
 past := fun v hv iE hA hc => by
  have hA1 : A v = false := not_true fun hh => by rw [mM.2 (.inl hh)] at hA; cases hA
  have hF1 : F' v = false := not_true fun hh => by rw [mM.2 (.inr hh)] at hA; cases hA
  have hp := h.past v hv iE hA1
  have back : ∀ x, aO A F' x = true ∧ F' x = false → A x = true := fun x hx => by
   rcases mM.1 hx.1 with hh | hh
   · exact hh
   · rw [hx.2] at hh; cases hh
  have hto : NT ah F v → (nth O v = who ∨ ∀ x ∈ row ah v, I x.toNat = true → A x.toNat = true) → False := fun h4 h5 => by
   have := (hn.is v).2 ⟨hv, iE, hA1, h4, h5⟩
   rw [hF1] at this; cases this
  unfold fK ownB at hc hp
  by_cases ho : nth O v = who
  · rw [if_pos (decide_eq_true ho)] at hc hp
    obtain ⟨x, hx, hIx, hAx⟩ := hc
    have hAx := back _ hAx
    cases hF : F x.toNat with
    | true => exact hto ⟨x, hx, hF⟩ (.inl ho)
    | false => exact hp ⟨x, hx, hIx, hAx, hF⟩
  · rw [if_neg (by simp [ho])] at hc hp
    by_cases hex : NT ah F v
    · exact hto hex (.inr fun x hx hIx => back _ (hc.2 x hx hIx))
    · exact hp ⟨hc.1, fun x hx hIx => ⟨back _ (hc.2 x hx hIx), not_true fun hF => hex ⟨x, hx, hF⟩⟩⟩
theorem yC.done (hin : ig ah) {who : Int} {I G A F : Nat → Bool} (hI : ∀ v, I v = true → v < ah.length) (h : yC ah O who I G A F) (hF : ∀ v, F v = false) : A = aN ah O who I G := funext fun v => by
 have key : ∀ k u, u < ah.length → 0 ≤ aZ ah O who I G k u → A u = true := fun k => by
  induction k with
  | zero =>
    intro u _ hu
    rw [aZ] at hu
    split at hu
    · next hc => exact h.goal u hc.2
    · omega
  | succ k ih =>
    intro u hu hr
    obtain ⟨gY, hq⟩ := (RH k u).1 hr
    rcases hq with hq | hq
    · exact h.goal u hq
    · cases hA : A u with
      | true => rfl
      | false =>
        refine absurd (hq.mono fun x hx hxr => ?_) (h.past u hu gY hA)
        obtain ⟨y, rfl, hy⟩ := hin u hu x hx
        exact ⟨ih _ (by rw [Int.toNat_natCast]; exact hy) hxr, hF _⟩
 cases ha : aN ah O who I G v with
 | true => exact key ah.length v (hI v (rH ha)) (wK.1 ha)
 | false => exact not_true fun hh => by rw [h.sound v hh] at ha; cases ha
structure uH (E : Nat → Nat → Bool) (v : Nat) (I R F : Nat → Bool) : Prop where
 here : R v = true
 sub : ∀ u, R u = true → u = v ∨ I u = true
 front : ∀ u, F u = true → R u = true
 past : ∀ u, R u = true → F u = false → ∀ x, E u x = true → I x = true → R x = true
theorem uH.start {E : Nat → Nat → Bool} {v : Nat} {I : Nat → Bool} : uH E v I (aS v) (aS v) where
 here := aaW.2 rfl
 sub := fun u h => .inl (aaW.1 h)
 front := fun u h => h
 past := fun u h1 h2 => by rw [h1] at h2; cases h2
def aa3 (E : Nat → Nat → Bool) (F : Nat → Bool) (x : Nat) : Prop := ∃ u, F u = true ∧ E u x = true
theorem uH.next {E : Nat → Nat → Bool} {v : Nat} {I R F F' : Nat → Bool} (h : uH E v I R F) (hn : ∀ x, F' x = true ↔ aa3 E F x ∧ I x = true ∧ R x = false) : uH E v I (aO R F') F' where
 here := mM.2 (.inl h.here)
 sub := fun u hu => by
  rcases mM.1 hu with hu | hu
  · exact h.sub u hu
  · exact .inr ((hn u).1 hu).2.1
 front := fun u hu => mM.2 (.inr hu)
 past := fun u hu hF x hE hI => by
  have hR : R u = true := by
   rcases mM.1 hu with hh | hh
   · exact hh
   · rw [hF] at hh; cases hh
  refine mM.2 ?_
  cases yD : F u with
  | false => exact .inl (h.past u hR yD x hE hI)
  | true =>
    cases DC : R x with
    | true => exact .inl rfl
    | false => exact .inr ((hn x).2 ⟨⟨u, yD, hE⟩, hI, DC⟩)
theorem uH.shut {E : Nat → Nat → Bool} {v : Nat} {L R F : Nat → Bool} (h : uH E v L R F) (hF : ∀ u, F u = false) (hv : L v = true) (hE : ∀ u x : Nat, u < ah.length → (x : Int) ∈ row ah u → E u x = true) (hin : ig ah) : yB ah L R :=
 ⟨fun u hu => by
  rcases h.sub u hu with rfl | hh
  · exact hv
  · exact hh, fun u hu hR x hx hLx => by
  obtain ⟨y, rfl, hy⟩ := hin u hu x hx
  rw [Int.toNat_natCast] at hLx ⊢
  exact h.past u hR (hF u) y (hE u y hu hx) hLx⟩
end
end Go.Proofs.YtglbkbiphcgidaaDoor
namespace Go.Proofs.YtglbkbiphcgidaaDoor
section
open Go.RowKit Go.Shelf
theorem ag0 (v : Nat) : eX [(v : Int)] = aS v := by
 have h := aaI (zs := []) (v := v)
 rw [List.nil_append] at h
 rw [h]
 exact funext fun x => by
  unfold aO
  have : eX [] x = false := rfl
  rw [this, Bool.false_or]
theorem Jw {w : World} {g v : Nat} (hc : w.cell? ⟨g, 0, none⟩ = some (.int .i64 (v : Int))) (hv : v < 256) :
 Calls Tryd.prog 103 #[.slice (some ⟨g, 0, none⟩) 1 1] w fun e w' => e = .returned (aW (aS v)) ∧ Below w.heap.size w w' := by
 have h := Uh (w := w) (a := some ⟨g, 0, none⟩) (zs := [(v : Int)]) 1 ⟨by simp, fun k hk => by
  obtain rfl : k = 0 := by simpa using hk
  show Fits (v : Int)
  unfold Fits; omega, fun _ => ⟨g, 0, rfl, fun k hk => by
  obtain rfl : k = 0 := by simpa using hk
  exact hc⟩⟩ (fun x hx => ⟨v, by simpa using hx, hv⟩) (by simp)
 rw [ag0] at h
 exact h
def yE (R F : Nat → Bool) : Nat := 2 * (256 - (aU R 256).length) + if (aU F 256).length = 0 then 0 else 1
theorem UF {F : Nat → Bool} {n : Nat} : (aU F n).length = 0 ↔ ∀ v, v < n → F v = false := by
 constructor
 · intro h v hv
   cases hF : F v with
   | false => rfl
   | true =>
     have h1 : (v : Int) ∈ aU F n := (zJ F n _).2 ⟨v, rfl, hv, hF⟩
     rw [List.length_eq_zero_iff.1 h] at h1
     cases h1
 · intro h
   rw [List.length_eq_zero_iff]
   cases he : aU F n with
   | nil => rfl
   | cons x xs =>
     obtain ⟨v, _, hv, hF⟩ := (zJ F n x).1 (by rw [he]; simp)
     rw [h v hv] at hF; cases hF
theorem aa4 {R F F' : Nat → Bool} (h0 : lQ F = false) (hoff : ∀ v, F' v = true → R v = false) : yE (aO R F') F' < yE R F := by
 have hF : ¬ (aU F 256).length = 0 := fun h => by
  have := uq.2 (UF.1 h)
  rw [h0] at this; cases this
 unfold yE
 rw [if_neg hF]
 have hle : (aU R 256).length ≤ (aU (aO R F') 256).length := Nc 256 fun v _ hv => by unfold aO; rw [hv]; rfl
 have hlt := sV (aO R F') 256
 by_cases h1 : (aU F' 256).length = 0
 · rw [if_pos h1]; omega
 · rw [if_neg h1]
   have hex : ∃ v, v < 256 ∧ F' v = true := by
    apply Classical.byContradiction
    intro hn
    refine h1 (UF.2 fun v hv => ?_)
    cases hv2 : F' v with
    | false => rfl
    | true => exact absurd ⟨v, hv, hv2⟩ hn
   obtain ⟨v, hv, hFv⟩ := hex
   have := wL (n := 256) (I := aO R F') (J := R) (fun u _ hu => by unfold aO; rw [hu]; rfl) hv (by unfold aO; rw [hFv]; simp) (hoff v hFv)
   omega
def nextR (E : Nat → Nat → Bool) (I R F : Nat → Bool) : Nat → Bool := aQ (dR (lU E F) I) R
theorem ag1 {E : Nat → Nat → Bool} {I R F : Nat → Bool} (x : Nat) : nextR E I R F x = true ↔ aa3 (fun a b => decide (a < 256) && E a b) F x ∧ I x = true ∧ R x = false := by
 unfold nextR aQ dR
 simp only [Bool.and_eq_true, Bool.not_eq_true']
 rw [UC]
 constructor
 · rintro ⟨⟨⟨u, hu, hF, hE⟩, hI⟩, hR⟩
   exact ⟨⟨u, hF, by simp [hE, hu]⟩, hI, hR⟩
 · rintro ⟨⟨u, hF, hE⟩, hI, hR⟩
   simp at hE
   exact ⟨⟨⟨u, hE.1, hF, hE.2⟩, hI⟩, hR⟩
set_option linter.unusedSimpArgs false in
set_option maxRecDepth 100000 in
set_option maxHeartbeats 8000000 in
theorem aa5 {w : World} {nb no n cap v : Nat} {E : Nat → Nat → Bool} {I : Nat → Bool} (hT : dS w) (hE : iL w nb no n E) (hI : ∀ v, I v = true → v < n) (hv : v < n) (hn : n ≤ 256) :
 Calls Tryd.prog 154 #[.slice (some ⟨nb, no, none⟩) n cap, .int .i64 v, aW I] w fun e w' => ∃ R, e = .returned (aW R) ∧ (∃ F, uH (fun a b => decide (a < 256) && E a b) v I R F ∧ ∀ u, u < 256 → F u = false) ∧ Below w.heap.size w w' := by
 have HE := Lib.hid hE
 have HT := Lib.hid hT
 have HI := Lib.hid hI
 have eU : Hid (∀ W', Only (fun k => w.heap.size ≤ k) w W' → dS W' ∧ iL W' nb no n E) := fun W' ho =>
  ⟨hT.only ho (by have := hT.lt; omega), hE.only ho (by have := World.block_lt_of_cell? _ _ (hE v hv 0 (by omega)); simp at this; omega)⟩
 clear hE hT hI
 go_enter Tryd.func154, Tryd.ntmps154
 go_wp2_with fail
 obtain ⟨w1, hw1⟩ : ∃ y, y = ((w.alloc (.cells #[.int .u64 (aj I 0), .int .u64 (aj I 1), .int .u64 (aj I 2), .int .u64 (aj I 3)] 69)).alloc (.cells #[.int .u64 0, .int .u64 0, .int .u64 0, .int .u64 0] 69)).alloc (.cells #[.int .i64 (v : Int)] 2) := ⟨_, rfl⟩
 have HB : Hid (Below w.heap.size w w1) := by rw [hw1]; exact (((Below.refl _ _).alloc (Nat.le_refl _) _).alloc (by simp) _).alloc (by simp; omega) _
 have bI : Hid (aH w1 w.heap.size I) := by rw [hw1]; exact ((aH.new w I).below (aA _ _)).below (aA _ _)
 have bR : Hid (aH w1 (w.heap.size + 1) (fun _ => false)) := by rw [hw1, jP]; exact (dP _ _ (by simp)).below (aA _ _)
 have bV : Hid (Boxed w1 (w.heap.size + 1 + 1) 2 (.int .i64 (v : Int))) := by rw [hw1]; exact uD _ _ _ (by simp)
 have cO : Hid (w1.heap.size = w.heap.size + 3) := by rw [hw1]; simp [Hid]
 rw [← hw1]
 clear hw1
 refine (Jw bV.out.cell (by omega)).mono ?_
 rintro e w2 ⟨rfl, hb2⟩
 have B2 := Lib.hid (HB.out.trans (hb2.mono HB.out.size))
 have UG := Lib.hid (bI.out.below hb2)
 have bR2 := Lib.hid (bR.out.below hb2)
 have HS2 : Hid (w1.heap.size ≤ w2.heap.size) := hb2.size
 clear hb2 bI bR bV
 go_wp2
 obtain ⟨wl, hwl⟩ : ∃ y, y = (w2.alloc (.cells #[.int .u64 (aj (aS v) 0), .int .u64 (aj (aS v) 1), .int .u64 (aj (aS v) 2), .int .u64 (aj (aS v) 3)] 69)).alloc (.cells #[.int .u64 (aj (aS v) 0), .int .u64 (aj (aS v) 1), .int .u64 (aj (aS v) 2), .int .u64 (aj (aS v) 3)] 69) := ⟨_, rfl⟩
 rw [← hwl]
 have Bl : Hid (Below w2.heap.size w2 wl) := by rw [hwl]; exact below2 _ _ _
 have mR : Hid (aH wl w2.heap.size (aS v)) := by rw [hwl]; exact (aH.new w2 _).below (aA _ _)
 have mF : Hid (aH wl (w2.heap.size + 1) (aS v)) := by rw [hwl]; exact dP _ _ (by simp)
 have UH : Hid (wl.heap.size = w2.heap.size + 2) := by rw [hwl]; simp [Hid]
 clear hwl
 go_loopg [8] (yE (aS v) (aS v)) (fun gk fv wr => ∃ (gF : Nat) (R F : Nat → Bool), fv = .pointer (some ⟨gF, 0, none⟩) ∧ w2.heap.size < gF ∧ gk = yE R F ∧ Hid (uH (fun a b => decide (a < 256) && E a b) v I R F) ∧ Hid (aH wr w2.heap.size R) ∧ Hid (aH wr gF F) ∧ Hid (Only (fun b => b = w2.heap.size ∨ w2.heap.size + 1 ≤ b) wl wr))
 case atStart => exact ⟨_, _, _, rfl, by omega, rfl, uH.start, mR, mF, Only.refl _ _⟩
 case round =>
  obtain ⟨gF, R, F, rfl, hgF, hgk, NU, HM, HF, HO⟩ := hrel
  have hs1 := cO.out
  have hs2 := HS2.out
  have hsl := UH.out
  have NV := Lib.hid ((UG.out.below Bl.out).only HO.out (by omega))
  have a0 := HF.out.c0
  have a1 := HF.out.c1
  have a2 := HF.out.c2
  have a3 := HF.out.c3
  cases h0 : lQ F with
  | true =>
    have HC := Lib.hid (fun w => rQ (w := w) F h0)
    have jI := Lib.hid ((bR2.out.below Bl.out).only HO.out (by omega))
    have HN : Hid (∀ u, u < 256 → F u = false) := uq.1 h0
    clear h0 hgk
    go_wp2_with (go_at_call 128; refine (HC.out _).mono ?_; rintro e wb ⟨rfl, hb⟩; have Kb := Lib.hid hb; have z1 := (HM.out.below hb).c0; have z2 := (HM.out.below hb).c1; have z3 := (HM.out.below hb).c2; have z4 := (HM.out.below hb).c3; have q1 := (jI.out.below hb).frozen 0; have q2 := (jI.out.below hb).frozen 1; have q3 := (jI.out.below hb).frozen 2; have q4 := (jI.out.below hb).frozen 3; have y1 := (jI.out.below hb).c0; have y2 := (jI.out.below hb).c1; have y3 := (jI.out.below hb).c2; have y4 := (jI.out.below hb).c3; clear hb)
    have hO2 := dw (S := fun k => w.heap.size ≤ k) ((HO.out.mono fun k hk => by omega).trans (Only.of_below Kb.out)) (g := w.heap.size + 1) (by omega) (.int .u64 (aj R 0)) (.int .u64 (aj R 1)) (.int .u64 (aj R 2)) (.int .u64 (aj R 3)) 0
    refine agX (K := R) (g := w.heap.size + 1) rfl rfl ((jI.out.below Kb.out).gV R) ⟨R, rfl, ⟨F, NU.out, HN.out⟩, ?_⟩
    exact (B2.out.trans (Bl.out.mono B2.out.size)).trans (hO2.below (by have := B2.out.size; omega) (fun k h => h))
  | false =>
    have HC := Lib.hid (fun w => rQ (w := w) F h0)
    obtain ⟨N, hN⟩ : ∃ N, nextR E I R F = N := ⟨_, rfl⟩
    have Jy := Lib.hid (NU.out.next (F' := nextR E I R F) ag1)
    rw [hN] at Jy
    have Az := Lib.hid (aa4 (R := R) (F := F) (F' := nextR E I R F) h0 (fun u hu => by
     unfold nextR aQ at hu
     simp at hu
     exact hu.2))
    rw [hN] at Az
    have HN := Lib.hid hN
    clear hN
    have DF : Hid (∀ u, F u = true → u < n) := fun u hu => by
     rcases NU.out.sub u (NU.out.front u hu) with h | h
     · omega
     · exact HI.out u h
    clear h0
    go_wp2_with (go_at_call 128; refine (HC.out _).mono ?_; rintro e wb ⟨rfl, hb⟩)
    have Kb := Lib.hid hb
    have Gz := Lib.hid (HM.out.below hb)
    have HF2 := Lib.hid (HF.out.below hb)
    have HI2 := Lib.hid (NV.out.below hb)
    have O1 : Hid (Only (fun k => w.heap.size ≤ k) w wb) := (Only.of_below B2.out).trans ((Only.of_below (Bl.out.mono (Nat.le_refl _))).trans ((HO.out.mono fun k hk => by omega).trans (Only.of_below hb)))
    have O2 : Hid (Only (fun b => b = w2.heap.size ∨ w2.heap.size + 1 ≤ b) wl wb) := HO.out.trans (Only.of_below hb)
    have DI : Hid (wr.heap.size ≤ wb.heap.size) := hb.size
    have Dk : Hid (wl.heap.size ≤ wr.heap.size) := HO.out.size
    have aC : Hid (∀ W', Below wb.heap.size wb W' → W'.cell? ⟨gF, 0, none⟩ = some (.int .u64 (aj F 0)) ∧ W'.cell? ⟨gF, 1, none⟩ = some (.int .u64 (aj F 1)) ∧ W'.cell? ⟨gF, 2, none⟩ = some (.int .u64 (aj F 2)) ∧ W'.cell? ⟨gF, 3, none⟩ = some (.int .u64 (aj F 3)) ∧ W'.cell? ⟨w.heap.size, 0, none⟩ = some (.int .u64 (aj I 0)) ∧ W'.cell? ⟨w.heap.size, 1, none⟩ = some (.int .u64 (aj I 1)) ∧ W'.cell? ⟨w.heap.size, 2, none⟩ = some (.int .u64 (aj I 2)) ∧ W'.cell? ⟨w.heap.size, 3, none⟩ = some (.int .u64 (aj I 3)) ∧ W'.cell? ⟨w2.heap.size, 0, none⟩ = some (.int .u64 (aj R 0)) ∧ W'.cell? ⟨w2.heap.size, 1, none⟩ = some (.int .u64 (aj R 1)) ∧ W'.cell? ⟨w2.heap.size, 2, none⟩ = some (.int .u64 (aj R 2)) ∧ W'.cell? ⟨w2.heap.size, 3, none⟩ = some (.int .u64 (aj R 3))) := fun W' hb => by
     have m1 := HF2.out.below hb
     have m2 := HI2.out.below hb
     have m3 := Gz.out.below hb
     exact ⟨m1.c0, m1.c1, m1.c2, m1.c3, m2.c0, m2.c1, m2.c2, m2.c3, m3.c0, m3.c1, m3.c2, m3.c3⟩
    have Kd : Hid (Below wb.heap.size wb wb.drew) := (Below.refl _ _).drew
    clear hb a0 a1 a2 a3
    go_wp2_with fail
    refine jB (S := (fun W' => W'.cell? ⟨gF, 0, none⟩ = some (.int .u64 (aj F 0)) ∧ W'.cell? ⟨gF, 1, none⟩ = some (.int .u64 (aj F 1)) ∧ W'.cell? ⟨gF, 2, none⟩ = some (.int .u64 (aj F 2)) ∧ W'.cell? ⟨gF, 3, none⟩ = some (.int .u64 (aj F 3)) ∧ W'.cell? ⟨w.heap.size, 0, none⟩ = some (.int .u64 (aj I 0)) ∧ W'.cell? ⟨w.heap.size, 1, none⟩ = some (.int .u64 (aj I 1)) ∧ W'.cell? ⟨w.heap.size, 2, none⟩ = some (.int .u64 (aj I 2)) ∧ W'.cell? ⟨w.heap.size, 3, none⟩ = some (.int .u64 (aj I 3)) ∧ W'.cell? ⟨w2.heap.size, 0, none⟩ = some (.int .u64 (aj R 0)) ∧ W'.cell? ⟨w2.heap.size, 1, none⟩ = some (.int .u64 (aj R 1)) ∧ W'.cell? ⟨w2.heap.size, 2, none⟩ = some (.int .u64 (aj R 2)) ∧ W'.cell? ⟨w2.heap.size, 3, none⟩ = some (.int .u64 (aj R 3)))) (m := 7) (by kernel_rfl) (aC.out _ Kd.out) (fun hHd => ?_)
    refine aB (i := 0) (v := ?rW) rfl (by kernel_rfl) (by decide) (by kernel_rfl) (by kernel_rfl) (by kernel_rfl) (fun _ _ _ h => h) (Or.inl ⟨by rfl, ?hm1⟩) (by assumption) ?_
    case hm1 => (intro w hSw; (try dsimp only at hSw); go_simp; first | done | with_reducible rfl)
    try simp only [Act.put, g1, g2, g3]
    refine aB (i := 1) (v := ?rZ) rfl (by kernel_rfl) (by decide) (by kernel_rfl) (by kernel_rfl) (by kernel_rfl) (fun _ _ _ h => h) (Or.inl ⟨by rfl, ?hm2⟩) (by assumption) ?_
    case hm2 => (intro w hSw; (try dsimp only at hSw); go_simp; first | done | with_reducible rfl)
    try simp only [Act.put, g1, g2, g3]
    refine aB (i := 3) (v := ?su) rfl (by kernel_rfl) (by decide) (by kernel_rfl) (by kernel_rfl) (by kernel_rfl) (fun _ _ _ h => h) (Or.inl ⟨by rfl, ?iR⟩) (by assumption) ?_
    case iR => (intro w hSw; (try dsimp only at hSw); go_simp; first | done | with_reducible rfl)
    try simp only [Act.put, g1, g2, g3]
    refine aB (i := 5) (v := ?uF) rfl (by kernel_rfl) (by decide) (by kernel_rfl) (by kernel_rfl) (by kernel_rfl) (fun _ _ _ h => h) (Or.inl ⟨by rfl, ?hm4⟩) (by assumption) ?_
    case hm4 => (intro w hSw; (try dsimp only at hSw); go_simp; first | done | with_reducible rfl)
    try simp only [Act.put, g1, g2, g3]
    refine aG (i := 2) (by kernel_rfl) rfl (fun K hK => ?_)
    go_simp
    go_at_call 156
    refine (UE (eU.out _ (O1.out.trans (Only.of_below Kd.out))).1 (eU.out _ (O1.out.trans (Only.of_below Kd.out))).2 DF.out hn).mono ?_
    rintro e wc ⟨rfl, hb⟩
    have Kc := Lib.hid (Kd.out.trans (hb.mono Kd.out.size))
    clear hb
    go_wp2_with fail
    refine hK.out _ _ (fun _ => aC.out _ Kc.out) (fun hHd => ?_)
    have hHd := hHd (by decide)
    clear hK K
    try simp only [Act.put, g1, g2, g3]
    refine aG (i := 4) (by kernel_rfl) rfl (fun K hK => ?_)
    go_simp
    go_at_call 111
    refine (yw _ _).mono ?_
    rintro e we ⟨rfl, hb⟩
    have Ke := Lib.hid (Kc.out.trans (hb.mono Kc.out.size))
    clear hb
    go_wp2_with fail
    refine hK.out _ _ (fun _ => aC.out _ Ke.out) (fun hHd => ?_)
    have hHd := hHd (by decide)
    clear hK K
    try simp only [Act.put, g1, g2, g3]
    refine aG (i := 6) (by kernel_rfl) rfl (fun K hK => ?_)
    go_simp
    go_at_call 133
    refine (aaU HN.out).mono ?_
    rintro e wf ⟨rfl, hb⟩
    have Kf := Lib.hid (Ke.out.trans (hb.mono Ke.out.size))
    clear hb
    go_wp2_with fail
    refine hK.out _ _ (fun _ => aC.out _ Kf.out) (fun hHd => ?_)
    have hHd := hHd (by decide)
    clear hK K
    try simp only [Act.put, g1, g2, g3]
    have mA := HF2.out.below Kf.out
    have f0 := mA.frozen 0
    have f1 := mA.frozen 1
    have f2 := mA.frozen 2
    have f3 := mA.frozen 3
    have m4 := Lib.hid (mA.gV N)
    obtain ⟨y0, y1, y2, y3, -⟩ := hHd
    clear mA
    refine aG (i := 7) (by kernel_rfl) rfl (fun K hK => ?_)
    go_simp
    refine hK.out _ _ (fun h => absurd h (by decide)) (fun _ => ?_)
    clear hK K
    try simp only [Act.put, g1, g2, g3]
    refine dA (by kernel_rfl) ?_ _
    obtain ⟨wg, hwg⟩ : ∃ y, y = ((((wf.setCell ⟨gF, 0, none⟩ (.int .u64 (aj N 0))).setCell ⟨gF, 1, none⟩ (.int .u64 (aj N 1))).setCell ⟨gF, 2, none⟩ (.int .u64 (aj N 2))).setCell ⟨gF, 3, none⟩ (.int .u64 (aj N 3))) := ⟨_, rfl⟩
    rw [← hwg] at m4 ⊢
    have Og : Hid (Only (fun b => b = gF) wf wg) := by rw [hwg]; exact dw (S := fun b => b = gF) (Only.refl _ wf) (g := gF) rfl _ _ _ _ 0
    have HSf : Hid (wb.heap.size ≤ wf.heap.size) := Kf.out.size
    clear hwg f0 f1 f2 f3 y0 y1 y2 y3
    have NW : Hid (wf.heap.size ≤ wg.heap.size) := Og.out.size
    have hgb : gF < wb.heap.size := HF2.out.lt
    have wX := Lib.hid ((Gz.out.below Kf.out).only Og.out (by omega))
    have n0 := m4.out.c0
    have n1 := m4.out.c1
    have n2 := m4.out.c2
    have n3 := m4.out.c3
    have r0 := wX.out.c0
    have r1 := wX.out.c1
    have r2 := wX.out.c2
    have r3 := wX.out.c3
    have s0 := wX.out.lt
    clear hgb
    have s1 := Dk.out
    have s2 := DI.out
    have s3 := HSf.out
    have s4 := NW.out
    go_wp2_with fail
    refine (yu R N).mono ?_
    rintro e wh ⟨rfl, hb⟩
    have sD := Lib.hid ((wX.out.below (aA wg _)).below hb)
    have AP := Lib.hid ((aH.new wg N).below hb)
    have Oh : Hid (Only (fun b => b = w2.heap.size ∨ w2.heap.size + 1 ≤ b) wl wh) := O2.out.trans ((Only.of_below Kf.out).trans ((Og.out.mono fun k hk => by omega).trans ((Only.of_below (aA wg _)).trans (Only.of_below hb))))
    have k0 := sD.out.frozen 0
    have k1 := sD.out.frozen 1
    have k2 := sD.out.frozen 2
    have k3 := sD.out.frozen 3
    have l0 := sD.out.c0
    have l1 := sD.out.c1
    have l2 := sD.out.c2
    have l3 := sD.out.c3
    clear hb n0 n1 n2 n3 r0 r1 r2 r3
    go_wp2
    go_roundg (yE (aO R N) N)
    case measure => rw [hgk]; exact Az.out
    case rel =>
     refine ⟨wg.heap.size, aO R N, N, rfl, by omega, rfl, Jy.out, sD.out.gV _, ?_, dw (S := fun b => b = w2.heap.size ∨ w2.heap.size + 1 ≤ b) Oh.out (.inl rfl) _ _ _ _ 0⟩
     exact AP.out.only (dw (S := fun b => b = w2.heap.size) (Only.refl _ wh) (g := w2.heap.size) rfl (.int .u64 (aj (aO R N) 0)) (.int .u64 (aj (aO R N) 1)) (.int .u64 (aj (aO R N) 2)) (.int .u64 (aj (aO R N) 3)) 0) (by omega)
end
end Go.Proofs.YtglbkbiphcgidaaDoor
namespace Go.Proofs.YtglbkbiphcgidaaDoor
section
open Go.RowKit Go.Shelf
structure dX (w : World) (b n nb pb kb : Nat) (Ow Lv E Pd : Nat → Nat → Bool) : Prop where
 own : ∀ i, i < 2 → ∀ j, j < 4 → w.cell? ⟨b, i * 4 + j, none⟩ = some (.int .u64 (aj (Ow i) j))
 pJ : iL w b 8 41 Lv
 next : w.cell? ⟨b, 172, none⟩ = some (.slice (some ⟨nb, 0, none⟩) n n)
 AQ : w.cell? ⟨b, 173, none⟩ = some (.slice (some ⟨pb, 0, none⟩) n n)
 known : w.cell? ⟨b, 174, none⟩ = some (.map (some kb))
 succ : iL w nb 0 n E
 back : iL w pb 0 n Pd
 pos : 0 < n
 small : n ≤ 256
 apart : b ≠ nb ∧ b ≠ pb ∧ b ≠ kb ∧ nb ≠ pb ∧ nb ≠ kb ∧ pb ≠ kb
 map : kb < w.heap.size
section
variable {w w' : World} {b n nb pb kb : Nat} {Ow Lv E Pd : Nat → Nat → Bool}
theorem dX.lt (h : dX w b n nb pb kb Ow Lv E Pd) : b < w.heap.size ∧ nb < w.heap.size ∧ pb < w.heap.size ∧ kb < w.heap.size :=
 ⟨World.block_lt_of_cell? _ _ h.next, World.block_lt_of_cell? _ _ (h.succ 0 h.pos 0 (by omega)), World.block_lt_of_cell? _ _ (h.back 0 h.pos 0 (by omega)), h.map⟩
theorem dX.only {S : Nat → Prop} (h : dX w b n nb pb kb Ow Lv E Pd) (hk : Only S w w') (h1 : ¬ S b) (h2 : ¬ S nb) (h3 : ¬ S pb) : dX w' b n nb pb kb Ow Lv E Pd := by
 have hl := h.lt
 have keep : ∀ k, (World.cell? w' ⟨b, k, none⟩ = World.cell? w ⟨b, k, none⟩) := fun k => World.cell?_of_block (hk.block b hl.1 h1)
 exact ⟨fun i hi j hj => (keep _).trans (h.own i hi j hj), h.pJ.only hk h1, (keep _).trans h.next, (keep _).trans h.AQ, (keep _).trans h.known, h.succ.only hk h2, h.back.only hk h3, h.pos, h.small, h.apart, Nat.lt_of_lt_of_le h.map hk.size⟩
theorem dX.below (h : dX w b n nb pb kb Ow Lv E Pd) (hb : Below w.heap.size w w') : dX w' b n nb pb kb Ow Lv E Pd :=
 h.only (S := fun _ => False) (Only.of_below hb) (fun x => x) (fun x => x) (fun x => x)
end
structure jC (ah : List (List Int)) (O : List Int) (n : Nat) (Ow E Pd : Nat → Nat → Bool) : Prop where
 len : ah.length = n
 rows : iO ah
 own : ∀ i, i < 2 → ∀ v, Ow i v = true ↔ v < n ∧ nth O v = (i : Int)
 succ : ∀ v, v < n → ∀ x, E v x = true ↔ (x : Int) ∈ row ah v
 back : ∀ x, x < n → ∀ v, Pd x v = true ↔ v < n ∧ E v x = true
section
variable {ah : List (List Int)} {O : List Int} {n : Nat} {Ow E Pd : Nat → Nat → Bool}
theorem jC.lt (h : jC ah O n Ow E Pd) {v x : Nat} (hv : v < n) (hE : E v x = true) : x < n := by
 obtain ⟨y, hy, hyn⟩ := h.rows.eu v (by rw [h.len]; exact hv) _ ((h.succ v hv x).1 hE)
 rw [h.len] at hyn
 rw [Int.natCast_inj.1 hy]; exact hyn
theorem jC.toF (h : jC ah O n Ow E Pd) {F : Nat → Bool} (hF : ∀ v, F v = true → v < n) (hn : n ≤ 256) {v : Nat} : lU Pd F v = true ↔ v < n ∧ NT ah F v := by
 rw [UC]
 constructor
 · rintro ⟨u, _, yD, hP⟩
   obtain ⟨hv, hE⟩ := (h.back u (hF u yD) v).1 hP
   exact ⟨hv, (u : Int), (h.succ v hv u).1 hE, by rw [Int.toNat_natCast]; exact yD⟩
 · rintro ⟨hv, x, hx, hFx⟩
   obtain ⟨y, rfl, hy⟩ := h.rows.eu v (by rw [h.len]; exact hv) x hx
   rw [Int.toNat_natCast] at hFx
   have := hF y hFx
   exact ⟨y, by omega, hFx, (h.back y this v).2 ⟨hv, (h.succ v hv y).2 hx⟩⟩
def fJ (Pd : Nat → Nat → Bool) (I A F : Nat → Bool) : Nat → Bool := aQ (dR (lU Pd F) I) A
noncomputable def pK (E : Nat → Nat → Bool) (I A : Nat → Bool) (v : Nat) : Bool := lQ (aQ (dR (E v) I) A)
noncomputable def AU (E Pd : Nat → Nat → Bool) (Ow I A F : Nat → Bool) : Nat → Bool := fun v => fJ Pd I A F v && (Ow v || pK E I A v)
theorem jC.next (h : jC ah O n Ow E Pd) {i : Nat} (hi : i < 2) {I A F : Nat → Bool} (hF : ∀ v, F v = true → v < n) (hn : n ≤ 256) : aa2 ah O (i : Int) I A F (AU E Pd (Ow i) I A F) where
 is := fun v => by
  unfold AU fJ aQ dR
  simp only [Bool.and_eq_true, Bool.or_eq_true, Bool.not_eq_true']
  rw [h.toF hF hn, h.len, h.own i hi]
  constructor
  · rintro ⟨⟨⟨⟨hv, ht⟩, hI⟩, hA⟩, ho⟩
    refine ⟨hv, hI, hA, ht, ?_⟩
    rcases ho with ho | ho
    · exact .inl ho.2
    · refine .inr fun x hx hIx => ?_
      obtain ⟨y, rfl, hy⟩ := h.rows.eu v (by rw [h.len]; exact hv) x hx
      rw [Int.toNat_natCast] at hIx ⊢
      have h1 := uq.1 ho y (by rw [h.len] at hy; omega)
      unfold aQ dR at h1
      rw [(h.succ v hv y).2 hx, hIx] at h1
      simpa using h1
  · rintro ⟨hv, hI, hA, ht, ho⟩
    refine ⟨⟨⟨⟨hv, ht⟩, hI⟩, hA⟩, ?_⟩
    rcases ho with ho | ho
    · exact .inl ⟨hv, ho⟩
    · refine .inr (uq.2 fun y _ => ?_)
      unfold aQ dR
      cases hE : E v y with
      | false => rfl
      | true =>
        cases uG : I y with
        | false => rfl
        | true =>
          have := ho (y : Int) ((h.succ v hv y).1 hE) (by rw [Int.toNat_natCast]; exact uG)
          rw [Int.toNat_natCast] at this
          rw [this]; rfl
end
end
end Go.Proofs.YtglbkbiphcgidaaDoor
