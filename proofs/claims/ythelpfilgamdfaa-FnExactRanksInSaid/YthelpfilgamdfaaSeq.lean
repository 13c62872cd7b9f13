/-
  A range over a function whose iterator keeps state of its own in memory, and whose body writes what the set C names. No program text.
-/
import Derived.RangeFuncBox
import Derived.RangeFuncLeaves
import Derived.RangeFuncNested
import Derived.RangeFuncBound
import Derived.RangeFuncCalls
import Derived.Test.YthelpfilgamdfaaWalk
namespace Go.Proofs.Ythelpfilgamdfaa
open Go.RowKit

/-- What an iterator owes: it writes blocks of its own alone, hands on what Ok allows, and comes to an end at S. The blocks of C are the caller's; those of T are read. -/
def SeqC {α : Type} (F : Fence) (n : Nat) (P : Program) (g : Nat) (lb : Array Value) (encs : α → Array Value) (T : Nat → Prop) (Ok : List α → α → Prop) (S : List α → Prop) (w : World) : Prop :=
  ∀ (l : Nat) (C : World → Nat → Prop) (J : List α → World → Prop) (W : World), Below w.heap.size w W →
    (∀ s A A', J s A → Only (fun k => W.heap.size ≤ k ∧ ¬ C A k) A A' → J s A' ∧ ∀ k, C A' k ↔ C A k) →
    (∀ s A k, J s A → C A k → k < A.heap.size ∧ ¬ T k) →
    (∀ pre x A, J pre A → Ok pre x → YieldAt F (n - 1) P l (encs x) A fun e A' => e = .returned (.bool true) ∧ J (pre ++ [x]) A' ∧ Only (C A) A A' ∧ ∀ k, C A' k → C A k ∨ A.heap.size ≤ k) →
    J [] W →
    CallsIn F n P g (#[.func (.yield l) #[] #[]] ++ lb) W fun e W' => (∃ v, e = .returned v) ∧ ∃ xs, S xs ∧ J xs W'

/-- How a round's body is left: it goes on. -/
def postC {α : Type} (C : World → Nat → Prop) (I : List α → World → Prop) (xs : List α) (W : World) : Exit → Act → World → Prop
  | .normal, _, W' => Only (C W) W W' ∧ (∀ k, C W' k → C W k ∨ W.heap.size ≤ k) ∧ I xs W'
  | _, _, _ => False

theorem box_only {S : Nat → Prop} {W W' : World} {g : Nat} {t : TypeId} {v : Value} (h : Boxed W g t v) (hk : Only S W W') (hs : ¬ S g) : Boxed W' g t v := (hk.block g h.lt hs).trans h
theorem box_below {W W' : World} {g : Nat} {t : TypeId} {v : Value} (h : Boxed W g t v) (hb : Below W.heap.size W W') : Boxed W' g t v := (hb.block g h.lt).trans h
theorem only_putObj (W : World) (l : Nat) (o : Obj) {S : Nat → Prop} (h : S l) : Only S W (W.putObj l o) :=
  (Only.of_grown (grownBy_putObj' W l o)).mono fun k hk => by cases hk; exact h

theorem wpIn_rangeFunc_C {α : Type} {F : Fence} {n : Nat} {P : Program} {g : Operand} {ps : Array Tmp} {assign body : Code} {Q : Exit → Act → World → Prop} {a : Act} {w : World}
    (hro : F.round = none) (h1 : 1 ≤ n) {gf : Nat} {lb : Array Value} (hg : a.eval g = .func (.func gf) #[] lb) (hFg : F.fn gf) (eg : ∀ args w, (callFunc gf args).run P w = .ok (.enter gf args) w)
    {encs : α → Array Value} {T : Nat → Prop} {Ok : List α → α → Prop} {S : List α → Prop} (hseq : SeqC F (n - 1) P gf lb encs T Ok S w) (hps : ∀ x, (encs x).size = ps.size) (hT : ∀ k, T k → k < w.heap.size)
    (C : World → Nat → Prop) (I : List α → World → Prop)
    (hI : ∀ s A A', I s A → Only (fun k => w.heap.size ≤ k ∧ ¬ C A k) A A' → I s A' ∧ ∀ k, C A' k ↔ C A k)
    (hC : ∀ s A k, I s A → C A k → k < A.heap.size ∧ ¬ T k ∧ (k < w.heap.size ∨ w.heap.size + 2 ≤ k)) (h0 : I [] w) (a₁ : α → Act)
    (hassign : ∀ (l : Nat) (x : α) (W : World) (K : Act → World → Prop), K (a₁ x) W →
      assign.wpIn (F.inRound l) (n - 1 - 1) P (Exit.then K (fun _ _ _ => False)) { tmps := (ps.zip (encs x)).foldl (fun t (p, v) => t.setIfInBounds p v) a.tmps, defers := [] } W)
    (hbody : ∀ (l : Nat) (pre : List α) (x : α) (W : World), w.heap.size + 2 ≤ W.heap.size → I pre W → Ok pre x → body.wpIn (F.inRound l) (n - 1 - 1) P (postC C I (pre ++ [x]) W) (a₁ x) W)
    (hdone : ∀ (xs : List α) (W : World), S xs → I xs W → W.heap[w.heap.size]? = some (.deferred (some [])) → Q .normal { a with defers := { target := .collected w.heap.size, args := #[] } :: a.defers } W) :
    (Code.rangeFunc g ps assign body).wpIn F n P Q a w := by
  refine wpIn_rangeFunc fun fn hfn => ?_
  rw [hro]
  obtain ⟨D, hD⟩ : ∃ D, D = w.heap.size := ⟨_, rfl⟩
  obtain ⟨lp, hlp⟩ : ∃ lp : LoopState → Loop, lp = fun st => { state := st, pending := none, fn, tmps := a.tmps, params := ps, assign, body, defers := D } := ⟨_, rfl⟩
  obtain ⟨W1, hW1⟩ : ∃ W1, W1 = (w.alloc (.deferred (some []))).alloc (.loop (lp .ready)) := ⟨_, rfl⟩
  have hs1 : W1.heap.size = D + 2 := by rw [hW1, hD]; simp
  have hl1 : W1.heap[D + 1]? = some (.loop (lp .ready)) := by
    have h := World.alloc_heap_new (w.alloc (.deferred (some []))) (.loop (lp .ready))
    rw [World.size_alloc] at h
    rw [hW1, hD]; exact h
  have hd1 : W1.heap[D]? = some (.deferred (some [])) := by
    rw [hW1, hD]; exact (Below.heap_alloc _ _ _ (by simp)).trans (World.alloc_heap_new w _)
  have hb1 : Below w.heap.size w W1 := by rw [hW1]; exact below2 w _ _
  have hI1 : I [] W1 := (hI _ _ _ h0 (Only.of_below hb1)).1
  rw [← hD] at hI hC hbody hdone
  refine ⟨D + 1, [{ target := .collected D, args := #[] }], W1, { target := .fn (.func gf) lb, args := #[.func (.yield (D + 1)) #[] #[]] }, W1, gf, #[.func (.yield (D + 1)) #[] #[]] ++ lb, W1, ?_, ?_, ?_, ?_, fun _ => h1, ?_⟩
  · rw [hW1, hlp, hD]; exact run_enterLoop_outer _ _ _ _ _
  · simp only [resolve, hg]
    simp [go_sem]
  · intro f' hf'; simp [Target.leads] at hf'; subst hf'; exact hFg
  · simp [invoke, go_sem, eg]
  · refine (hseq (D + 1) (fun A k => C A k ∨ k = D ∨ k = D + 1)
      (fun pre W => I pre W ∧ W.heap[D + 1]? = some (.loop (lp .ready)) ∧ W.heap[D]? = some (.deferred (some [])) ∧ D + 2 ≤ W.heap.size)
      W1 hb1 ?_ ?_ ?_ ⟨hI1, hl1, hd1, by omega⟩).mono ?_
    · rintro s A A' ⟨hi, hl, hd, hsz⟩ ho
      have hk := hI s A A' hi (ho.mono fun k hk => ⟨by omega, fun hc => hk.2 (.inl hc)⟩)
      refine ⟨⟨hk.1, ?_, ?_, Nat.le_trans hsz ho.size⟩, fun k => or_congr (hk.2 k) Iff.rfl⟩
      · rw [ho.block _ (by omega) (fun h => h.2 (.inr (.inr rfl)))]; exact hl
      · rw [ho.block _ (by omega) (fun h => h.2 (.inr (.inl rfl)))]; exact hd
    · rintro s A k ⟨hi, hl, hd, hsz⟩ hc
      rcases hc with hc | hc
      · exact ⟨(hC s A k hi hc).1, (hC s A k hi hc).2.1⟩
      · exact ⟨by omega, fun ht => by have := hT k ht; omega⟩
    · -- one round
      rintro pre x W ⟨hi, hl, hd, hsz⟩ hok
      have hy := run_yield (P := P) (args := encs x) hl (by rw [hlp]; exact hps x)
      rw [hlp] at hy
      refine ⟨fn, _, assign, body, hy, roundIn_of_wpIn hfn (hassign _ x W _ ⟨_, run_beginRound hl (by rw [hlp]), ?_⟩)⟩
      obtain ⟨W2, hW2⟩ : ∃ W2, W2 = W.putObj (D + 1) (.loop (lp .busy)) := ⟨_, rfl⟩
      have e2 : W.putObj (D + 1) (.loop { lp .ready with state := .busy }) = W2 := by rw [hW2, hlp]
      rw [e2]
      have hnC : ¬ C W (D + 1) ∧ ¬ C W D := ⟨fun h => by have := (hC _ _ _ hi h).2.2; omega, fun h => by have := (hC _ _ _ hi h).2.2; omega⟩
      have ho2 : Only (fun k => k = D + 1) W W2 := by rw [hW2]; exact only_putObj W _ _ rfl
      have hi2 := hI _ _ _ hi (ho2.mono fun k hk => by subst hk; exact ⟨by omega, hnC.1⟩)
      have hl2 : W2.heap[D + 1]? = some (.loop (lp .busy)) := by rw [hW2]; exact World.putObj_heap_same (by omega)
      have hd2 : W2.heap[D]? = some (.deferred (some [])) := (ho2.block _ (by omega) (by omega)).trans hd
      have hs2 := ho2.size
      refine wpIn_mono (hbody _ pre x W2 (by omega) hi2.1 hok) ?_
      rintro e a3 W3 hp
      cases e with
      | normal =>
        obtain ⟨ho3, hc3, hi3⟩ := hp
        have hs3 := ho3.size
        have hl3 : W3.heap[D + 1]? = some (.loop (lp .busy)) := (ho3.block _ (by omega) (fun h => hnC.1 ((hi2.2 _).1 h))).trans hl2
        have hd3 : W3.heap[D]? = some (.deferred (some [])) := (ho3.block _ (by omega) (fun h => hnC.2 ((hi2.2 _).1 h))).trans hd2
        have hnC3 : ¬ C W3 (D + 1) := fun h => by
          have h := hC _ _ _ hi3 h
          omega
        have hr := run_endRound (P := P) none hl3
        have ho4 : Only (fun k => k = D + 1) W3 (W3.putObj (D + 1) (.loop (lp .ready))) := only_putObj W3 _ _ rfl
        have hi4 := hI _ _ _ hi3 (ho4.mono fun k hk => by subst hk; exact ⟨by omega, hnC3⟩)
        have e4 : W3.putObj (D + 1) (.loop { lp .busy with state := .ready, pending := none }) = W3.putObj (D + 1) (.loop (lp .ready)) := by rw [hlp]
        refine ⟨_, _, hr, ?_⟩
        simp only [Option.isNone_none, if_true]
        rw [e4]
        refine ⟨trivial, ⟨hi4.1, World.putObj_heap_same (by omega), (ho4.block _ (by omega) (by omega)).trans hd3, by have := ho4.size; omega⟩, ?_, ?_⟩
        · exact (ho2.mono (fun k hk => .inr (.inr hk))).trans ((ho3.mono (fun k hk => .inl ((hi2.2 k).1 hk))).trans (ho4.mono (fun k hk => .inr (.inr hk))))
        · rintro k (hk | hk)
          · rcases hc3 k ((hi4.2 k).1 hk) with h | h
            · exact .inl (.inl ((hi2.2 k).1 h))
            · exact .inr (by omega)
          · exact .inl (.inr hk)
      | ret => exact hp.elim
      | exit id => exact hp.elim
      | goto t => exact hp.elim
      | panic ch => exact hp.elim
      | outgrown => exact hp.elim
    · -- behind the iterator
      rintro e W2 ⟨⟨v, rfl⟩, xs, hS, hi, hl, hd, hsz⟩
      have hr : (Instr.endLoop (D + 1)).run P W2 = .ok none (W2.putObj (D + 1) (.loop { lp .ready with state := .exhausted })) := by
        have h := run_endLoop (P := P) hl (by rw [hlp]; simp)
        rw [hlp] at h ⊢
        exact h
      have ho : Only (fun k => k = D + 1) W2 (W2.putObj (D + 1) (.loop { lp .ready with state := .exhausted })) := only_putObj W2 _ _ rfl
      have hnC : ¬ C W2 (D + 1) := fun h => by have := (hC _ _ _ hi h).2.2; omega
      exact ⟨none, _, hr, hdone xs _ hS (hI _ _ _ hi (ho.mono fun k hk => by subst hk; exact ⟨by omega, hnC⟩)).1 ((ho.block _ (by omega) (by omega)).trans hd)⟩

end Go.Proofs.Ythelpfilgamdfaa
