/-
  Several texts in one: Members, Across, Same, DiceSet.
-/
import Derived.Deep.RegionHeld3
import Derived.Test.YtphkgnpkcfbnkaaDoorPk01
import Derived.Test.YtphkgnpkcfbnkaaDoorPk03
import Derived.Test.YtphkgnpkcfbnkaaDoorPk05
namespace Go.Proofs.YtphkgnpkcfbnkaaDoor
section
open Go.RowKit Go.Shelf

/-- How the body of a round is left. -/
def memPost {I : Nat → Bool} (C : Nat → Prop) (R : List (MemI I) → World → Prop) (Rx : Code → List (MemI I) → World → Prop) (xs : List (MemI I)) (W : World) : Exit → Act → World → Prop
  | .normal, _, W' => Only (fun k => C k ∨ W.heap.size ≤ k) W W' ∧ R xs W'
  | .ret, _, W' => Only (fun k => C k ∨ W.heap.size ≤ k) W W' ∧ Rx .ret xs W'
  | .exit id, _, W' => Only (fun k => C k ∨ W.heap.size ≤ k) W W' ∧ Rx (.exit id) xs W'
  | _, _, _ => False

theorem wp_members {w : World} {Bs : Nat} {I : Nat → Bool} {g : Operand} {ps : Array Tmp} {assign body : Code} {Q : Exit → Act → World → Prop} {a : Act}
    (hg : a.eval g = .func (.func 175) #[] #[.pointer (some ⟨Bs, 0, none⟩)]) (hT : TabW w) (hB : MaskAt w Bs I) (hps : ps.size = 1)
    (C : Nat → Prop) (hC : ∀ k, C k → k < w.heap.size ∧ k ≠ 1)
    (R : List (MemI I) → World → Prop) (Rx : Code → List (MemI I) → World → Prop)
    (hR : ∀ pre A A', R pre A → Only (fun k => w.heap.size ≤ k) A A' → R pre A')
    (hRx : ∀ c pre A A', Rx c pre A → Only (fun k => w.heap.size ≤ k) A A' → Rx c pre A')
    (h0 : R [] w) (a₁ : MemI I → Act)
    (hassign : ∀ (l : Nat) (x : MemI I) (W : World) (K : Act → World → Prop), K (a₁ x) W →
      assign.wpIn (Fence.wide.inRound l) 2 Tryd.prog (Exit.then K (fun _ _ _ => False)) { tmps := (ps.zip (encI x)).foldl (fun t (p, v) => t.setIfInBounds p v) a.tmps, defers := [] } W)
    (hbody : ∀ (l : Nat) (pre : List (MemI I)) (x : MemI I) (W : World), R pre W → Only (fun k => C k ∨ w.heap.size ≤ k) w W → body.wpIn (Fence.wide.inRound l) 2 Tryd.prog (memPost C R Rx (pre ++ [x]) W) (a₁ x) W)
    (hdone : ∀ (D : Nat) (xs : List (MemI I)) (W : World), w.heap.size ≤ D → valI xs = markedK I 256 → R xs W → Only (fun k => C k ∨ w.heap.size ≤ k) w W → W.heap[D]? = some (.deferred (some [])) → Q .normal { a with defers := { target := .collected D, args := #[] } :: a.defers } W)
    (hstop : ∀ (D : Nat) (c : Code) (pre : List (MemI I)) (W : World), w.heap.size ≤ D → (∃ k, valI pre = (markedK I 256).take k) → Rx c pre W → Only (fun k => C k ∨ w.heap.size ≤ k) w W → W.heap[D]? = some (.deferred (some [])) → c.wp Tryd.prog Q { a with defers := { target := .collected D, args := #[] } :: a.defers } W) :
    (Code.rangeFunc g ps assign body).wp Tryd.prog Q a w := by
  have hTl := hT.lt
  have keep : ∀ {W W' : World}, Only (fun k => C k ∨ w.heap.size ≤ k) w W → Only (fun k => C k ∨ W.heap.size ≤ k) W W' → KeepsFrom w.heap.size W W' ∧ StayT W W' ∧ Only (fun k => C k ∨ w.heap.size ≤ k) w W' := fun {W W'} ho hk => by
    have hs := ho.size
    refine ⟨⟨hk.size, fun k o hBk hok _ => (hk.block k (Array.getElem?_eq_some_iff.1 hok).1 fun hh => ?_).trans hok⟩, hk.block _ (by omega) fun hh => ?_, ho.trans (hk.mono fun k hh => hh.imp id fun h => by omega)⟩
    · rcases hh with hh | hh
      · have := (hC k hh).1; omega
      · have := (Array.getElem?_eq_some_iff.1 hok).1; omega
    · rcases hh with hh | hh
      · exact (hC _ hh).2 rfl
      · omega
  have grow : ∀ {A A' : World} {row : Option Nat}, A.grownBy A' row → (∀ r, row = some r → w.heap.size ≤ r ∧ ∃ o : Obj, A.heap[r]? = some o ∧ o.isCells = false) → Only (fun k => w.heap.size ≤ k) A A' := fun hg hr => (Only.of_grown hg).mono fun k hk => (hr k hk).1
  refine (wpIn_wide (n := 4)).1 ?_
  refine wpIn_rangeFunc_ownG (n := 4) rfl (by omega) (gf := 175) (lb := #[.pointer (some ⟨Bs, 0, none⟩)]) hg trivial (enters_of Tryd.func175 (by kernel_rfl) rfl)
    (all_stops 3 (by omega) Bs I w hT hB) StayT.trans (stayT_b hT) (Below.refl _ _) (fun _ => hps.symm)
    (fun pre W => R pre W ∧ Only (fun k => C k ∨ w.heap.size ≤ k) w W) (fun c pre W => Rx c pre W ∧ Only (fun k => C k ∨ w.heap.size ≤ k) w W)
    (fun pre A A' row hs hg hr => ⟨hR pre A A' hs.1 (grow hg hr), hs.2.trans ((grow hg hr).mono fun k hk => .inr hk)⟩)
    (fun c pre A A' row hs hg hr => ⟨hRx c pre A A' hs.1 (grow hg hr), hs.2.trans ((grow hg hr).mono fun k hk => .inr hk)⟩)
    ⟨h0, Only.refl _ _⟩ a₁ hassign ?body (fun D xs W hD hS hi hK => hdone D xs W hD hS hi.1 hi.2 hK) (fun D c pre W hD hS hi hK => wpIn_wide.2 (hstop D c pre W hD hS hi.1 hi.2 hK))
  case body =>
    intro l pre x W hi _
    refine wpIn_mono (hbody l pre x W hi.1 hi.2) ?_
    intro e a3 W3 hp
    cases e with
    | normal =>
      obtain ⟨ho, hr⟩ := hp
      obtain ⟨k1, k2, k3⟩ := keep hi.2 ho
      exact ⟨k1, k2, hr, k3⟩
    | ret =>
      obtain ⟨ho, hr⟩ := hp
      obtain ⟨k1, k2, k3⟩ := keep hi.2 ho
      exact ⟨k1, hr, k3⟩
    | exit id =>
      obtain ⟨ho, hr⟩ := hp
      obtain ⟨k1, k2, k3⟩ := keep hi.2 ho
      exact ⟨k1, hr, k3⟩
    | goto t => exact hp.elim
    | panic ch => exact hp.elim
    | outgrown => exact hp.elim
end
end Go.Proofs.YtphkgnpkcfbnkaaDoor
namespace Go.Proofs.YtphkgnpkcfbnkaaDoor
section
open Go.RowKit Go.Shelf
attribute [local go_sem] Oper.semAt_some

/-- A slice of masks. -/
def EdgesAt (w : World) (b off n : Nat) (E : Nat → Nat → Bool) : Prop := ∀ u, u < n → ∀ j, j < 4 → w.cell? ⟨b, off + u * 4 + j, none⟩ = some (.int .u64 (maskW (E u) j))
theorem EdgesAt.below {w w' : World} {b off n : Nat} {E : Nat → Nat → Bool} (h : EdgesAt w b off n E) (hb : Below w.heap.size w w') : EdgesAt w' b off n E := fun u hu j hj => Below.cell_some (B := 0) hb rfl (h u hu j hj)
theorem EdgesAt.only {S : Nat → Prop} {w w' : World} {b off n : Nat} {E : Nat → Nat → Bool} (h : EdgesAt w b off n E) (hk : Only S w w') (hs : ¬ S b) : EdgesAt w' b off n E := fun u hu j hj => by
  have h1 := h u hu j hj
  exact (World.cell?_of_block (hk.block b (World.block_lt_of_cell? _ _ h1) hs)).trans h1

/-- Those to which an edge leads from the list. -/
def anyE {I : Nat → Bool} (E : Nat → Nat → Bool) (pre : List (MemI I)) : Nat → Bool := fun x => pre.any fun v => E v.1 x
/-- Those to which an edge leads from the set. -/
def acrossB (E : Nat → Nat → Bool) (I : Nat → Bool) : Nat → Bool := fun x => (List.range 256).any fun v => I v && E v x
theorem acrossB_iff {E : Nat → Nat → Bool} {I : Nat → Bool} {x : Nat} : acrossB E I x = true ↔ ∃ v, v < 256 ∧ I v = true ∧ E v x = true := by
  unfold acrossB
  rw [List.any_eq_true]
  constructor
  · rintro ⟨v, hv, h⟩
    rw [Bool.and_eq_true] at h
    exact ⟨v, List.mem_range.1 hv, h⟩
  · rintro ⟨v, hv, h⟩
    exact ⟨v, List.mem_range.2 hv, Bool.and_eq_true_iff.2 h⟩
theorem mem_vals {I : Nat → Bool} {ys : List (MemI I)} (h : valI ys = markedK I 256) {v : Nat} (hv : v < 256) (hI : I v = true) : ∃ x ∈ ys, x.1 = v := by
  have h1 : (v : Int) ∈ markedK I 256 := (markedK_mem I 256 _).2 ⟨v, rfl, hv, hI⟩
  rw [← h] at h1
  obtain ⟨x, hx, e⟩ := List.mem_map.1 h1
  exact ⟨x, hx, Int.natCast_inj.1 e⟩
theorem anyE_all {I : Nat → Bool} {E : Nat → Nat → Bool} {ys : List (MemI I)} (h : valI ys = markedK I 256) : anyE E ys = acrossB E I := funext fun x => by
  rw [Bool.eq_iff_iff, acrossB_iff]
  unfold anyE
  rw [List.any_eq_true]
  constructor
  · rintro ⟨v, _, hv⟩
    exact ⟨v.1, v.2.1, v.2.2, hv⟩
  · rintro ⟨v, hv, hI, hE⟩
    obtain ⟨y, hy, rfl⟩ := mem_vals h hv hI
    exact ⟨y, hy, hE⟩
theorem anyE_snoc {I : Nat → Bool} {E : Nat → Nat → Bool} {pre : List (MemI I)} {x : MemI I} : anyE E (pre ++ [x]) = orB (anyE E pre) (E x.1) := funext fun y => by
  unfold anyE orB; rw [List.any_append]; simp

theorem mask_meet_as {w : World} {I J K : Nat → Bool} (hK : andB I J = K) : Calls Tryd.prog 70 #[maskV I, maskV J] w fun e w' => e = .returned (maskV K) ∧ Below w.heap.size w w' := by rw [← hK]; exact mask_meet I J
theorem mask_less_as {w : World} {I J K : Nat → Bool} (hK : lessB I J = K) : Calls Tryd.prog 151 #[maskV I, maskV J] w fun e w' => e = .returned (maskV K) ∧ Below w.heap.size w w' := by rw [← hK]; exact mask_less I J

theorem boxed_at {w : World} (t : TypeId) (v : Value) (g : Nat) (hg : w.heap.size = g) : Boxed (w.alloc (.cells #[v] t)) g t v := by rw [← hg]; exact Boxed.new w t v
theorem mask_new_at {w : World} (I : Nat → Bool) (g : Nat) (hg : w.heap.size = g) : MaskAt (w.alloc (.cells #[.int .u64 (maskW I 0), .int .u64 (maskW I 1), .int .u64 (maskW I 2), .int .u64 (maskW I 3)] 81)) g I := by rw [← hg]; exact MaskAt.new w I
theorem mask_zero : (.cells #[.int .u64 0, .int .u64 0, .int .u64 0, .int .u64 0] 81 : Obj) = .cells #[.int .u64 (maskW (fun _ => false) 0), .int .u64 (maskW (fun _ => false) 1), .int .u64 (maskW (fun _ => false) 2), .int .u64 (maskW (fun _ => false) 3)] 81 := by
  rw [maskW_none, maskW_none, maskW_none, maskW_none]; rfl
theorem bx_below {w w' : World} {g : Nat} {t : TypeId} {v : Value} (h : Boxed w g t v) (hb : Below w.heap.size w w') : Boxed w' g t v := (hb.block g h.lt).trans h
theorem bx_only {S : Nat → Prop} {w w' : World} {g : Nat} {t : TypeId} {v : Value} (h : Boxed w g t v) (hk : Only S w w') (hs : ¬ S g) : Boxed w' g t v := (hk.block g h.lt hs).trans h
/-- The four words of a mask's variable written. -/
theorem MaskAt.put4 {w : World} {g : Nat} {I : Nat → Bool} (J : Nat → Bool) (h : MaskAt w g I) : MaskAt ((((w.setCell ⟨g, 0, none⟩ (.int .u64 (maskW J 0))).setCell ⟨g, 1, none⟩ (.int .u64 (maskW J 1))).setCell ⟨g, 2, none⟩ (.int .u64 (maskW J 2))).setCell ⟨g, 3, none⟩ (.int .u64 (maskW J 3))) g J := by
  refine MaskAt.of_row (World.rowIs.congr ((((h.row.set 0 _).set 1 _).set 2 _).set 3 _) fun i hi => ?_)
  have : i = 0 ∨ i = 1 ∨ i = 2 ∨ i = 3 := by omega
  rcases this with rfl | rfl | rfl | rfl <;> simp
theorem only_put4 {S : Nat → Prop} {a w : World} {g : Nat} (h : Only S a w) (hg : S g) (x0 x1 x2 x3 : Value) (o : Nat) : Only S a ((((w.setCell ⟨g, o, none⟩ x0).setCell ⟨g, o + 1, none⟩ x1).setCell ⟨g, o + 2, none⟩ x2).setCell ⟨g, o + 3, none⟩ x3) :=
  (((h.setCell (p := ⟨g, o, none⟩) hg _).setCell (p := ⟨g, o + 1, none⟩) hg _).setCell (p := ⟨g, o + 2, none⟩) hg _).setCell (p := ⟨g, o + 3, none⟩) hg _

theorem ret_mask {fn : Func} {p : Tmp} {tmps : Array Value} {W : World} {g : Nat} {K : Nat → Bool} {R : Ending → World → Prop} (hr : fn.results = #[.cell p 81]) (hp : tmps.getD p undef = .pointer (some ⟨g, 0, none⟩))
    (hM : MaskAt W g K) (hR : R (.returned (maskV K)) W) : bodyPost Tryd.prog fn R .ret { tmps := tmps, defers := [] } W :=
  bodyPost_ret (v := maskV K) (results_cell_row hr tmps _ g _ _ _ (.array 4 26) hp hM (by kernel_rfl) rfl (by kernel_rfl)) rfl hR

/-- A function whose result is a mask's variable leaves behind a loop over a function. -/
theorem leaves_mask {fn : Func} {p : Tmp} {tmps : Array Value} {W : World} {D g : Nat} {K : Nat → Bool} {R : Ending → World → Prop} (hr : fn.results = #[.cell p 81]) (hp : tmps.getD p undef = .pointer (some ⟨g, 0, none⟩))
    (hM : MaskAt W g K) (hK : W.heap[D]? = some (.deferred (some []))) (hR : R (.returned (maskV K)) (W.putObj D (.deferred none))) :
    bodyPostM Fence.wide 4 Tryd.prog fn R .ret { tmps := tmps, defers := [{ target := .collected D, args := #[] }] } W := by
  refine ⟨by simp, .inl ⟨_, _, rfl, run_takeDeferred hK, ?_⟩⟩
  have hg : (W.putObj D (.deferred none)).heap[g]? = some (.cells #[.int .u64 (maskW K 0), .int .u64 (maskW K 1), .int .u64 (maskW K 2), .int .u64 (maskW K 3)] 81 (0, 0)) := by
    refine (World.putObj_heap_other fun e => ?_).trans hM
    unfold MaskAt at hM
    rw [e, hK] at hM
    cases hM
  exact ⟨_, results_cell_row hr tmps _ g _ _ _ (.array 4 26) hp hg (by kernel_rfl) rfl (by kernel_rfl), hR⟩

set_option linter.unusedSimpArgs false in
set_option maxRecDepth 100000 in
set_option maxHeartbeats 8000000 in
theorem across_is {w : World} {nb no n cap : Nat} {E : Nat → Nat → Bool} {I : Nat → Bool} (hT : TabW w) (hE : EdgesAt w nb no n E) (hI : ∀ v, I v = true → v < n) (_hn : n ≤ 256) :
    Calls Tryd.prog 188 #[.slice (some ⟨nb, no, none⟩) n cap, maskV I] w fun e w' => e = .returned (maskV (acrossB E I)) ∧ Below w.heap.size w w' := by
  have HE := Lib.hid hE
  have HT := Lib.hid hT
  have HI := Lib.hid hI
  clear hE hT hI
  refine (callsIn_wide (n := 4)).1 ?_
  refine callsIn_of_wp_marks Tryd.func188 rfl trivial ?_ rfl
  simp only [Tryd.ntmps188, List.size_toArray, List.length_cons, List.length_nil, Nat.reduceAdd, Nat.reduceSub, Array.replicate_succ, Array.replicate_zero, List.push_toArray, List.append_toArray, List.nil_append, List.cons_append]
  refine wpIn_wide.2 ?_
  go_wp2_with fail
  obtain ⟨w1, hw1⟩ : ∃ y, y = (((w.alloc (.cells #[.slice (some ⟨nb, no, none⟩) n cap] 142)).alloc (.cells #[.int .u64 (maskW I 0), .int .u64 (maskW I 1), .int .u64 (maskW I 2), .int .u64 (maskW I 3)] 81)).alloc (.cells #[.int .u64 0, .int .u64 0, .int .u64 0, .int .u64 0] 81)).alloc (.cells #[.int .u64 0, .int .u64 0, .int .u64 0, .int .u64 0] 81) := ⟨_, rfl⟩
  have HB : Hid (Below w.heap.size w w1) := by rw [hw1]; exact ((((Below.refl _ _).alloc (Nat.le_refl _) _).alloc (by simp) _).alloc (by simp; omega) _).alloc (by simp; omega) _
  have bE : Hid (Boxed w1 w.heap.size 142 (.slice (some ⟨nb, no, none⟩) n cap)) := by
    rw [hw1]; exact bx_below (bx_below (bx_below (Boxed.new w 142 (.slice (some ⟨nb, no, none⟩) n cap)) (below1 _ _)) (below1 _ _)) (below1 _ _)
  have bF : Hid (MaskAt w1 (w.heap.size + 1) I) := by
    rw [hw1]; exact ((mask_new_at I _ (by simp)).below (below1 _ _)).below (below1 _ _)
  have bR : Hid (MaskAt w1 (w.heap.size + 1 + 1) (fun _ => false)) := by
    rw [hw1, mask_zero]; exact (mask_new_at _ _ (by simp)).below (below1 _ _)
  have bT : Hid (MaskAt w1 (w.heap.size + 1 + 1 + 1) (fun _ => false)) := by
    rw [hw1, mask_zero]; exact mask_new_at _ _ (by simp)
  have hs1 : w1.heap.size = w.heap.size + 4 := by rw [hw1]; simp
  have HS1 := Lib.hid hs1
  rw [← hw1]
  clear hw1 hs1
  refine (mask_all w1 I).mono ?_
  rintro e w2 ⟨rfl, hw2⟩
  have B2 : Hid (Below w1.heap.size w1 w2) := by rw [hw2]; exact below1 _ _
  have bI : Hid (MaskAt w2 w1.heap.size I) := by rw [hw2]; exact MaskAt.new _ _
  have HS2 : Hid (w2.heap.size = w1.heap.size + 1) := by rw [hw2]; simp [Hid]
  clear hw2
  have T2 := Lib.hid ((HT.out.below HB.out).below B2.out)
  go_wp2_with fail
  refine wp_members (Bs := w1.heap.size) (I := I) rfl T2.out bI.out rfl (fun k => k = w.heap.size + 1 + 1 + 1)
    (fun k hk => by
      have h1 := HS1.out
      have h2 := HS2.out
      have h3 := HT.out.lt
      omega)
    (fun pre W => MaskAt W (w.heap.size + 1 + 1 + 1) (anyE E pre)) (fun _ _ _ => False)
    (fun pre A A' h ho => h.only ho (by have h1 := HS1.out; have h2 := HS2.out; omega)) (fun _ _ _ _ h _ => h)
    (bT.out.below B2.out) ?act ?assign ?body ?done ?stop
  case assign =>
    intro l x W K hK
    dsimp only [encI]
    gi_wp2
    exact hK
  case body =>
    intro l pre x W hR hO
    obtain ⟨v, hv⟩ : ∃ v : Nat, v = x.1 := ⟨_, rfl⟩
    have hvn : v < n := by rw [hv]; exact HI.out _ x.2.2
    have hv0 : (0 : Int) ≤ (v : Int) := by omega
    have hv1 : (v : Int) < (n : Int) := by omega
    rw [← hv]
    have h1 := HS1.out
    have h2 := HS2.out
    have hsW := hO.size
    have bEW := Lib.hid (bx_only (bx_below bE.out B2.out) hO (by omega))
    have hnb : nb < w.heap.size := World.block_lt_of_cell? _ _ (HE.out v hvn 0 (by omega))
    have HEW := Lib.hid (((HE.out.below HB.out).below B2.out).only hO (by omega))
    have HR := Lib.hid hR
    have HO := Lib.hid hO
    have HX : Hid (anyE E (pre ++ [x]) = orB (anyE E pre) (E v)) := by rw [anyE_snoc, ← hv]; rfl
    have HSw : Hid (∀ W', Below W.heap.size W W' → W'.cell? ⟨w.heap.size, 0, none⟩ = some (.slice (some ⟨nb, no, none⟩) n cap) ∧
        W'.cell? ⟨nb, no + v * 4, none⟩ = some (.int .u64 (maskW (E v) 0)) ∧ W'.cell? ⟨nb, no + v * 4 + 1, none⟩ = some (.int .u64 (maskW (E v) 1)) ∧ W'.cell? ⟨nb, no + v * 4 + 2, none⟩ = some (.int .u64 (maskW (E v) 2)) ∧ W'.cell? ⟨nb, no + v * 4 + 3, none⟩ = some (.int .u64 (maskW (E v) 3)) ∧
        W'.cell? ⟨w.heap.size + 1 + 1 + 1, 0, none⟩ = some (.int .u64 (maskW (anyE E pre) 0)) ∧ W'.cell? ⟨w.heap.size + 1 + 1 + 1, 1, none⟩ = some (.int .u64 (maskW (anyE E pre) 1)) ∧ W'.cell? ⟨w.heap.size + 1 + 1 + 1, 2, none⟩ = some (.int .u64 (maskW (anyE E pre) 2)) ∧ W'.cell? ⟨w.heap.size + 1 + 1 + 1, 3, none⟩ = some (.int .u64 (maskW (anyE E pre) 3))) := fun W' hb => by
      have m := HR.out.below hb
      have q := HEW.out.below hb
      exact ⟨(bx_below bEW.out hb).cell, q v hvn 0 (by omega), q v hvn 1 (by omega), q v hvn 2 (by omega), q v hvn 3 (by omega), m.c0, m.c1, m.c2, m.c3⟩
    have Kd : Hid (Below W.heap.size W W.drew) := (Below.refl _ _).drew
    clear hR hO hv
    gi_wp2
    refine wpIn_region_M (S := (fun W' => W'.cell? ⟨w.heap.size, 0, none⟩ = some (.slice (some ⟨nb, no, none⟩) n cap) ∧ W'.cell? ⟨nb, no + v * 4, none⟩ = some (.int .u64 (maskW (E v) 0)) ∧ W'.cell? ⟨nb, no + v * 4 + 1, none⟩ = some (.int .u64 (maskW (E v) 1)) ∧ W'.cell? ⟨nb, no + v * 4 + 2, none⟩ = some (.int .u64 (maskW (E v) 2)) ∧ W'.cell? ⟨nb, no + v * 4 + 3, none⟩ = some (.int .u64 (maskW (E v) 3)) ∧ W'.cell? ⟨w.heap.size + 1 + 1 + 1, 0, none⟩ = some (.int .u64 (maskW (anyE E pre) 0)) ∧ W'.cell? ⟨w.heap.size + 1 + 1 + 1, 1, none⟩ = some (.int .u64 (maskW (anyE E pre) 1)) ∧ W'.cell? ⟨w.heap.size + 1 + 1 + 1, 2, none⟩ = some (.int .u64 (maskW (anyE E pre) 2)) ∧ W'.cell? ⟨w.heap.size + 1 + 1 + 1, 3, none⟩ = some (.int .u64 (maskW (anyE E pre) 3)))) (m := 6) (by kernel_rfl) (by kernel_rfl) (HSw.out _ Kd.out) (fun hHeld => ?_)
    refine wpAnyM_take (i := 0) (v := ?vm1) rfl (by kernel_rfl) (by decide) (by kernel_rfl) (by kernel_rfl) (by kernel_rfl) (fun _ _ _ h => h) (Or.inl ⟨by rfl, ?hm1⟩) (by assumption) ?_
    case hm1 => (intro w hSw; (try dsimp only at hSw); go_simp; first | done | with_reducible rfl)
    try simp only [Act.put, List.setIfInBounds_toArray, List.set_cons_zero, List.set_cons_succ]
    refine wpAnyM_take (i := 1) (v := ?vm2) rfl (by kernel_rfl) (by decide) (by kernel_rfl) (by kernel_rfl) (by kernel_rfl) (fun _ _ _ h => h) (Or.inl ⟨by rfl, ?hm2⟩) (by assumption) ?_
    case hm2 => (intro w hSw; (try dsimp only at hSw); go_simp; first | done | with_reducible rfl)
    try simp only [Act.put, List.setIfInBounds_toArray, List.set_cons_zero, List.set_cons_succ]
    refine wpAnyM_take (i := 2) (v := ?vm3) rfl (by kernel_rfl) (by decide) (by kernel_rfl) (by kernel_rfl) (by kernel_rfl) (fun _ _ _ h => h) (Or.inl ⟨by rfl, ?hm3⟩) (by assumption) ?_
    case hm3 => (intro w hSw; (try dsimp only at hSw); go_simp; first | done | with_reducible rfl)
    try simp only [Act.put, List.setIfInBounds_toArray, List.set_cons_zero, List.set_cons_succ]
    refine wpAnyM_take (i := 3) (v := ?vm4) rfl (by kernel_rfl) (by decide) (by kernel_rfl) (by kernel_rfl) (by kernel_rfl) (fun _ _ _ h => h) (Or.inl ⟨by rfl, ?hm4⟩) (by assumption) ?_
    case hm4 => (intro w hSw; (try dsimp only at hSw); go_simp; first | done | with_reducible rfl)
    try simp only [Act.put, List.setIfInBounds_toArray, List.set_cons_zero, List.set_cons_succ]
    refine wpAnyM_take (i := 4) (v := ?vm5) rfl (by kernel_rfl) (by decide) (by kernel_rfl) (by kernel_rfl) (by kernel_rfl) (fun _ _ _ h => h) (Or.inl ⟨by rfl, ?hm5⟩) (by assumption) ?_
    case hm5 => (intro w hSw; (try dsimp only at hSw); go_simp; first | done | with_reducible rfl)
    try simp only [Act.put, List.setIfInBounds_toArray, List.set_cons_zero, List.set_cons_succ]
    refine wpAnyM_one (i := 5) (by kernel_rfl) rfl (fun K hK => ?_)
    go_simp
    go_at_call 129
    refine (mask_with _ _).mono ?_
    rintro e wa ⟨rfl, hb⟩
    have Ka := Lib.hid (Kd.out.trans (hb.mono Kd.out.size))
    clear hb
    go_wp2_with fail
    refine hK.out _ _ (fun _ => HSw.out _ Ka.out) (fun hHeld => ?_)
    have hHeld := hHeld (by decide)
    clear hK K
    try simp only [Act.put, List.setIfInBounds_toArray, List.set_cons_zero, List.set_cons_succ]
    have mA := HR.out.below Ka.out
    have f0 := mA.frozen 0
    have f1 := mA.frozen 1
    have f2 := mA.frozen 2
    have f3 := mA.frozen 3
    have m4 := Lib.hid (mA.put4 (orB (anyE E pre) (E v)))
    have HS : Hid (W.heap.size ≤ wa.heap.size) := Ka.out.size
    obtain ⟨y0, y1, y2, y3, y4, z0, z1, z2, z3⟩ := hHeld
    clear mA h1 h2 hsW
    refine wpAnyM_one (i := 6) (by kernel_rfl) rfl (fun K hK => ?_)
    go_simp
    refine hK.out _ _ (fun h => absurd h (by decide)) (fun _ => ?_)
    clear hK K
    try simp only [Act.put, List.setIfInBounds_toArray, List.set_cons_zero, List.set_cons_succ]
    refine wpAnyM_done (by kernel_rfl) ?_ _
    refine calm_normal ?_
    refine ⟨only_put4 (Only.of_below Ka.out) (.inl rfl) _ _ _ _ 0, ?_⟩
    show MaskAt _ _ (anyE E (pre ++ [x]))
    rw [HX.out]
    exact m4.out
  case done =>
    intro D xs W hD hxs hR hO hK
    have h1 := HS1.out
    have h2 := HS2.out
    have hsW := hO.size
    have e1 := anyE_all (E := E) hxs
    have hR2 : MaskAt W (w.heap.size + 1 + 1 + 1) (acrossB E I) := by rw [← e1]; exact hR
    have c0 := hR2.c0
    have c1 := hR2.c1
    have c2 := hR2.c2
    have c3 := hR2.c3
    have HRR := Lib.hid ((bR.out.below B2.out).only hO (by omega))
    have f0 := HRR.out.frozen 0
    have f1 := HRR.out.frozen 1
    have f2 := HRR.out.frozen 2
    have f3 := HRR.out.frozen 3
    have d0 := HRR.out.c0
    have d1 := HRR.out.c1
    have d2 := HRR.out.c2
    have d3 := HRR.out.c3
    have HO := Lib.hid hO
    have HD := Lib.hid hD
    have HK := Lib.hid hK
    clear hR hR2 e1 h1 h2 hsW hO hxs hD hK
    go_wp2
    have h1 := HS1.out
    have h2 := HS2.out
    have h3 := HD.out
    have hO2 := only_put4 (S := fun k => w.heap.size ≤ k) (HO.out.mono fun k hk => by omega) (g := w.heap.size + 1 + 1) (by omega) (.int .u64 (maskW (acrossB E I) 0)) (.int .u64 (maskW (acrossB E I) 1)) (.int .u64 (maskW (acrossB E I) 2)) (.int .u64 (maskW (acrossB E I) 3)) 0
    have hDk := ((only_put4 (S := fun k => k = w.heap.size + 1 + 1) (Only.refl _ W) (g := w.heap.size + 1 + 1) rfl (.int .u64 (maskW (acrossB E I) 0)) (.int .u64 (maskW (acrossB E I) 1)) (.int .u64 (maskW (acrossB E I) 2)) (.int .u64 (maskW (acrossB E I) 3)) 0).block D (Array.getElem?_eq_some_iff.1 HK.out).1 (by omega)).trans HK.out
    exact leaves_mask (K := acrossB E I) (g := w.heap.size + 1 + 1) rfl rfl (HRR.out.put4 (acrossB E I)) hDk
      ⟨rfl, (HB.out.trans (B2.out.mono HB.out.size)).trans ((hO2.trans ((Only.of_grown (grownBy_putObj' _ D _)).mono fun k hk => by cases hk; omega)).below (by omega) (fun k h => h))⟩
  case stop => intro D c pre W _ _ h _ _; exact h.elim
end
end Go.Proofs.YtphkgnpkcfbnkaaDoor
namespace Go.Proofs.YtphkgnpkcfbnkaaDoor
open Go.RowKit

end Go.Proofs.YtphkgnpkcfbnkaaDoor
namespace Go.Proofs.YtphkgnpkcfbnkaaDoor
section
open Go.RowKit

/-- Dice over bytes that lie below B, in block p. -/
structure Di (w : World) (B p : Nat) (ab : Option Addr) (cb : Nat) (bs : List Int) (i : Nat) (h : Int) : Prop where
  str : w.rowIs p 73 3 (tri (.slice ab bs.length cb) (.int .i64 i) (.int .u64 h))
  idx : i ≤ bs.length
  len : bs.length ≤ 4096
  low : B ≤ p
  byt : ∀ k, k < bs.length → ∃ b off, ab = some ⟨b, off, none⟩ ∧ b < B ∧ w.cell? ⟨b, off + k, none⟩ = some (.int .u8 (nth bs k)) ∧ 0 ≤ nth bs k ∧ nth bs k ≤ 255

variable {w w' : World} {B p : Nat} {ab : Option Addr} {cb : Nat} {bs : List Int} {i : Nat} {h : Int}

theorem Di.c0 (d : Di w B p ab cb bs i h) : w.cell? ⟨p, 0, none⟩ = some (.slice ab bs.length cb) := d.str.cell (i := 0) (by omega)
theorem Di.c1 (d : Di w B p ab cb bs i h) : w.cell? ⟨p, 1, none⟩ = some (.int .i64 i) := d.str.cell (i := 1) (by omega)
theorem Di.c2 (d : Di w B p ab cb bs i h) : w.cell? ⟨p, 2, none⟩ = some (.int .u64 h) := d.str.cell (i := 2) (by omega)
theorem Di.lt (d : Di w B p ab cb bs i h) : p < w.heap.size := d.str.lt
theorem Di.below (d : Di w B p ab cb bs i h) (hb : Below w.heap.size w w') : Di w' B p ab cb bs i h :=
  ⟨rowIs_below d.str hb, d.idx, d.len, d.low, fun k hk => by
    obtain ⟨b, off, h1, h2, h3, h4⟩ := d.byt k hk
    exact ⟨b, off, h1, h2, Below.cell_some (B := 0) hb rfl h3, h4⟩⟩
theorem Di.only {S : Nat → Prop} (d : Di w B p ab cb bs i h) (hk : Only S w w') (hs : ∀ b, S b → B ≤ b ∧ b ≠ p) : Di w' B p ab cb bs i h :=
  ⟨rowIs_only d.str hk (fun e => (hs p e).2 rfl), d.idx, d.len, d.low, fun k hk' => by
    obtain ⟨b, off, h1, h2, h3, h4⟩ := d.byt k hk'
    refine ⟨b, off, h1, h2, ?_, h4⟩
    rw [World.cell?_of_block (w := w) (hk.block b (World.block_lt_of_cell? w _ h3) (fun e => by have := (hs b e).1; omega))]
    exact h3⟩
theorem Di.set2 (d : Di w B p ab cb bs i h) (h' : Int) : Di (w.setCell ⟨p, 2, none⟩ (.int .u64 h')) B p ab cb bs i h' :=
  ⟨(d.str.set 2 _).congr tri_set2, d.idx, d.len, d.low, fun k hk => by
    obtain ⟨b, off, h1, h2, h3, h4⟩ := d.byt k hk
    have := d.low
    have hb : Below p w (w.setCell ⟨p, 2, none⟩ (.int .u64 h')) := (Below.refl p w).setCell (p := ⟨p, 2, none⟩) (Nat.le_refl _) _
    exact ⟨b, off, h1, h2, (hb.cell (by show b < p; omega)).trans h3, h4⟩⟩
theorem Di.set1 (d : Di w B p ab cb bs i h) (hi : i + 1 ≤ bs.length) : Di (w.setCell ⟨p, 1, none⟩ (.int .i64 ((i + 1 : Nat) : Int))) B p ab cb bs (i + 1) h :=
  ⟨(d.str.set 1 _).congr tri_set1, hi, d.len, d.low, fun k hk => by
    obtain ⟨b, off, h1, h2, h3, h4⟩ := d.byt k hk
    have := d.low
    have hb : Below p w (w.setCell ⟨p, 1, none⟩ (.int .i64 ((i + 1 : Nat) : Int))) := (Below.refl p w).setCell (p := ⟨p, 1, none⟩) (Nat.le_refl _) _
    exact ⟨b, off, h1, h2, (hb.cell (by show b < p; omega)).trans h3, h4⟩⟩

end

section
open Go.RowKit

variable {w w' : World} {B p : Nat} {ab : Option Addr} {cb : Nat} {bs : List Int} {i : Nat} {h : Int}

/-- Dice in a call that began in w: nothing that was there has turned but the dice. -/
structure Din (w wr : World) (B p : Nat) (ab : Option Addr) (cb : Nat) (bs : List Int) : Prop where
  cur : ∃ i h, Di wr B p ab cb bs i h
  only : Only (fun b => b = p) w wr
  lt : p < w.heap.size
  low : B ≤ p

theorem Din.start (d : Di w B p ab cb bs i h) : Din w w B p ab cb bs := ⟨⟨i, h, d⟩, Only.refl _ _, d.lt, d.low⟩
theorem Din.call {wr wr' : World} {j : Nat} {g : Int} (d : Din w wr B p ab cb bs) (hd : Di wr' B p ab cb bs j g) (ho : Only (fun b => b = p) wr wr') : Din w wr' B p ab cb bs :=
  ⟨⟨j, g, hd⟩, d.only.trans ho, d.lt, d.low⟩
theorem Din.new {wr wr' : World} (d : Din w wr B p ab cb bs) (ho : Only (fun b => w.heap.size ≤ b) wr wr') : Din w wr' B p ab cb bs := by
  obtain ⟨i, h, hd⟩ := d.cur
  have h1 := d.lt
  have h2 := d.low
  refine ⟨⟨i, h, hd.only ho (fun b hb => ⟨by omega, by omega⟩)⟩, ?_, h1, h2⟩
  exact ⟨ho.os.trans d.only.os, ho.tape.trans d.only.tape, ho.output.trans d.only.output, Nat.le_trans d.only.size ho.size, fun k hk hn => (ho.block k (Nat.lt_of_lt_of_le hk d.only.size) (by omega)).trans (d.only.block k hk hn)⟩
theorem Din.below {wr wr' : World} (d : Din w wr B p ab cb bs) (hb : Below wr.heap.size wr wr') : Din w wr' B p ab cb bs := d.new (Only.of_below hb)

/-- A rising list of numbers below n. -/
def UpTo (n : Int) (zs : List Int) : Prop := zs.Pairwise (· < ·) ∧ ∀ x ∈ zs, 0 ≤ x ∧ x < n

theorem UpTo.len {n : Nat} {zs : List Int} (h : UpTo n zs) : zs.length ≤ n := by
  have key : ∀ (k : Nat) (zs : List Int), UpTo k zs → zs.length ≤ k := fun k => by
    induction k with
    | zero =>
      intro zs hz
      cases zs with
      | nil => simp
      | cons x xs => have := hz.2 x (by simp); omega
    | succ k ih =>
      intro zs hz
      rcases List.eq_nil_or_concat zs with rfl | ⟨xs, x, rfl⟩
      · simp
      · have hp := hz.1
        rw [List.concat_eq_append, List.pairwise_append] at hp
        have := ih xs ⟨hp.1, fun y hy => by
          have h1 := hp.2.2 y hy x (by simp)
          have h2 := hz.2 x (by simp)
          have h3 := hz.2 y (by simp [hy])
          omega⟩
        simp; omega
  exact key n zs h

end

end Go.Proofs.YtphkgnpkcfbnkaaDoor
