/-
  A range over a function whose iterator keeps state of its own in memory, and whose body writes what the set C names. No program text.
-/
import Derived.RangeFuncBox
import Derived.RangeFuncLeaves
import Derived.RangeFuncNested
import Derived.RangeFuncBound
import Derived.RangeFuncCalls
import Derived.Test.YtaoagikipbcjpaaWalk
import Derived.Test.YtaoagikipbcjpaaLayers
namespace Go.Proofs.Ytaoagikipbcjpaa
section
open Go.RowKit

/-- What an iterator owes: it writes blocks of its own alone, hands on what Ok allows, and comes to an end at S. The blocks of C are the caller's; those of T are read. -/
def SeqC {α : Type} (F : Fence) (n : Nat) (P : Program) (g : Nat) (lb : Array Value) (encs : α → Array Value) (T : Nat → Prop) (Ok : List α → α → Prop) (S : List α → Prop) (w : World) : Prop :=
  ∀ (l : Nat) (C : World → Nat → Prop) (J : List α → World → Prop) (W : World), Below w.heap.size w W →
    (∀ s A A', J s A → Only (fun k => W.heap.size ≤ k ∧ ¬ C A k) A A' → J s A' ∧ ∀ k, C A' k ↔ C A k) →
    (∀ s A k, J s A → C A k → k < A.heap.size ∧ ¬ T k) →
    (∀ pre x A, J pre A → Ok pre x → YieldAt F (n - 1) P l (encs x) A fun e A' => e = .returned (.bool true) ∧ J (pre ++ [x]) A' ∧ Only (C A) A A' ∧ ∀ k, C A' k → C A k ∨ A.heap.size ≤ k) →
    J [] W →
    CallsIn F n P g (#[.func (.yield l) #[] #[]] ++ lb) W fun e W' => (∃ v, e = .returned v) ∧ ∃ xs, S xs ∧ J xs W'

/-- How a round's body is left: it goes on. -/
def postC {α : Type} (C : World → Nat → Prop) (I : List α → World → Prop) (xs : List α) (W : World) : Exit → Act → World → Prop
  | .normal, _, W' => Only (C W) W W' ∧ (∀ k, C W' k → C W k ∨ W.heap.size ≤ k) ∧ I xs W'
  | _, _, _ => False

theorem box_only {S : Nat → Prop} {W W' : World} {g : Nat} {t : TypeId} {v : Value} (h : Boxed W g t v) (hk : Only S W W') (hs : ¬ S g) : Boxed W' g t v := (hk.block g h.lt hs).trans h
theorem box_below {W W' : World} {g : Nat} {t : TypeId} {v : Value} (h : Boxed W g t v) (hb : Below W.heap.size W W') : Boxed W' g t v := (hb.block g h.lt).trans h
theorem only_putObj (W : World) (l : Nat) (o : Obj) {S : Nat → Prop} (h : S l) : Only S W (W.putObj l o) :=
  (Only.of_grown (grownBy_putObj' W l o)).mono fun k hk => by cases hk; exact h

theorem wpIn_rangeFunc_C {α : Type} {F : Fence} {n : Nat} {P : Program} {g : Operand} {ps : Array Tmp} {assign body : Code} {Q : Exit → Act → World → Prop} {a : Act} {w : World}
    (hro : F.round = none) (h1 : 1 ≤ n) {gf : Nat} {lb : Array Value} (hg : a.eval g = .func (.func gf) #[] lb) (hFg : F.fn gf) (eg : ∀ args w, (callFunc gf args).run P w = .ok (.enter gf args) w)
    {encs : α → Array Value} {T : Nat → Prop} {Ok : List α → α → Prop} {S : List α → Prop} (hseq : SeqC F (n - 1) P gf lb encs T Ok S w) (hps : ∀ x, (encs x).size = ps.size) (hT : ∀ k, T k → k < w.heap.size)
    (C : World → Nat → Prop) (I : List α → World → Prop)
    (hI : ∀ s A A', I s A → Only (fun k => w.heap.size ≤ k ∧ ¬ C A k) A A' → I s A' ∧ ∀ k, C A' k ↔ C A k)
    (hC : ∀ s A k, I s A → C A k → k < A.heap.size ∧ ¬ T k ∧ (k < w.heap.size ∨ w.heap.size + 2 ≤ k)) (h0 : I [] w) (a₁ : α → Act)
    (hassign : ∀ (l : Nat) (x : α) (W : World) (K : Act → World → Prop), K (a₁ x) W →
      assign.wpIn (F.inRound l) (n - 1 - 1) P (Exit.then K (fun _ _ _ => False)) { tmps := (ps.zip (encs x)).foldl (fun t (p, v) => t.setIfInBounds p v) a.tmps, defers := [] } W)
    (hbody : ∀ (l : Nat) (pre : List α) (x : α) (W : World), w.heap.size + 2 ≤ W.heap.size → I pre W → Ok pre x → body.wpIn (F.inRound l) (n - 1 - 1) P (postC C I (pre ++ [x]) W) (a₁ x) W)
    (hdone : ∀ (xs : List α) (W : World), S xs → I xs W → W.heap[w.heap.size]? = some (.deferred (some [])) → Q .normal { a with defers := { target := .collected w.heap.size, args := #[] } :: a.defers } W) :
    (Code.rangeFunc g ps assign body).wpIn F n P Q a w := by
  refine wpIn_rangeFunc fun fn hfn => ?_
  rw [hro]
  obtain ⟨D, hD⟩ : ∃ D, D = w.heap.size := ⟨_, rfl⟩
  obtain ⟨lp, hlp⟩ : ∃ lp : LoopState → Loop, lp = fun st => { state := st, pending := none, fn, tmps := a.tmps, params := ps, assign, body, defers := D } := ⟨_, rfl⟩
  obtain ⟨W1, hW1⟩ : ∃ W1, W1 = (w.alloc (.deferred (some []))).alloc (.loop (lp .ready)) := ⟨_, rfl⟩
  have hs1 : W1.heap.size = D + 2 := by rw [hW1, hD]; simp
  have hl1 : W1.heap[D + 1]? = some (.loop (lp .ready)) := by
    have h := World.alloc_heap_new (w.alloc (.deferred (some []))) (.loop (lp .ready))
    rw [World.size_alloc] at h
    rw [hW1, hD]; exact h
  have hd1 : W1.heap[D]? = some (.deferred (some [])) := by
    rw [hW1, hD]; exact (Below.heap_alloc _ _ _ (by simp)).trans (World.alloc_heap_new w _)
  have hb1 : Below w.heap.size w W1 := by rw [hW1]; exact below2 w _ _
  have hI1 : I [] W1 := (hI _ _ _ h0 (Only.of_below hb1)).1
  rw [← hD] at hI hC hbody hdone
  refine ⟨D + 1, [{ target := .collected D, args := #[] }], W1, { target := .fn (.func gf) lb, args := #[.func (.yield (D + 1)) #[] #[]] }, W1, gf, #[.func (.yield (D + 1)) #[] #[]] ++ lb, W1, ?_, ?_, ?_, ?_, fun _ => h1, ?_⟩
  · rw [hW1, hlp, hD]; exact run_enterLoop_outer _ _ _ _ _
  · simp only [resolve, hg]
    simp [go_sem]
  · intro f' hf'; simp [Target.leads] at hf'; subst hf'; exact hFg
  · simp [invoke, go_sem, eg]
  · refine (hseq (D + 1) (fun A k => C A k ∨ k = D ∨ k = D + 1)
      (fun pre W => I pre W ∧ W.heap[D + 1]? = some (.loop (lp .ready)) ∧ W.heap[D]? = some (.deferred (some [])) ∧ D + 2 ≤ W.heap.size)
      W1 hb1 ?_ ?_ ?_ ⟨hI1, hl1, hd1, by omega⟩).mono ?_
    · rintro s A A' ⟨hi, hl, hd, hsz⟩ ho
      have hk := hI s A A' hi (ho.mono fun k hk => ⟨by omega, fun hc => hk.2 (.inl hc)⟩)
      refine ⟨⟨hk.1, ?_, ?_, Nat.le_trans hsz ho.size⟩, fun k => or_congr (hk.2 k) Iff.rfl⟩
      · rw [ho.block _ (by omega) (fun h => h.2 (.inr (.inr rfl)))]; exact hl
      · rw [ho.block _ (by omega) (fun h => h.2 (.inr (.inl rfl)))]; exact hd
    · rintro s A k ⟨hi, hl, hd, hsz⟩ hc
      rcases hc with hc | hc
      · exact ⟨(hC s A k hi hc).1, (hC s A k hi hc).2.1⟩
      · exact ⟨by omega, fun ht => by have := hT k ht; omega⟩
    · -- one round
      rintro pre x W ⟨hi, hl, hd, hsz⟩ hok
      have hy := run_yield (P := P) (args := encs x) hl (by rw [hlp]; exact hps x)
      rw [hlp] at hy
      refine ⟨fn, _, assign, body, hy, roundIn_of_wpIn hfn (hassign _ x W _ ⟨_, run_beginRound hl (by rw [hlp]), ?_⟩)⟩
      obtain ⟨W2, hW2⟩ : ∃ W2, W2 = W.putObj (D + 1) (.loop (lp .busy)) := ⟨_, rfl⟩
      have e2 : W.putObj (D + 1) (.loop { lp .ready with state := .busy }) = W2 := by rw [hW2, hlp]
      rw [e2]
      have hnC : ¬ C W (D + 1) ∧ ¬ C W D := ⟨fun h => by have := (hC _ _ _ hi h).2.2; omega, fun h => by have := (hC _ _ _ hi h).2.2; omega⟩
      have ho2 : Only (fun k => k = D + 1) W W2 := by rw [hW2]; exact only_putObj W _ _ rfl
      have hi2 := hI _ _ _ hi (ho2.mono fun k hk => by subst hk; exact ⟨by omega, hnC.1⟩)
      have hl2 : W2.heap[D + 1]? = some (.loop (lp .busy)) := by rw [hW2]; exact World.putObj_heap_same (by omega)
      have hd2 : W2.heap[D]? = some (.deferred (some [])) := (ho2.block _ (by omega) (by omega)).trans hd
      have hs2 := ho2.size
      refine wpIn_mono (hbody _ pre x W2 (by omega) hi2.1 hok) ?_
      rintro e a3 W3 hp
      cases e with
      | normal =>
        obtain ⟨ho3, hc3, hi3⟩ := hp
        have hs3 := ho3.size
        have hl3 : W3.heap[D + 1]? = some (.loop (lp .busy)) := (ho3.block _ (by omega) (fun h => hnC.1 ((hi2.2 _).1 h))).trans hl2
        have hd3 : W3.heap[D]? = some (.deferred (some [])) := (ho3.block _ (by omega) (fun h => hnC.2 ((hi2.2 _).1 h))).trans hd2
        have hnC3 : ¬ C W3 (D + 1) := fun h => by
          have h := hC _ _ _ hi3 h
          omega
        have hr := run_endRound (P := P) none hl3
        have ho4 : Only (fun k => k = D + 1) W3 (W3.putObj (D + 1) (.loop (lp .ready))) := only_putObj W3 _ _ rfl
        have hi4 := hI _ _ _ hi3 (ho4.mono fun k hk => by subst hk; exact ⟨by omega, hnC3⟩)
        have e4 : W3.putObj (D + 1) (.loop { lp .busy with state := .ready, pending := none }) = W3.putObj (D + 1) (.loop (lp .ready)) := by rw [hlp]
        refine ⟨_, _, hr, ?_⟩
        simp only [Option.isNone_none, if_true]
        rw [e4]
        refine ⟨trivial, ⟨hi4.1, World.putObj_heap_same (by omega), (ho4.block _ (by omega) (by omega)).trans hd3, by have := ho4.size; omega⟩, ?_, ?_⟩
        · exact (ho2.mono (fun k hk => .inr (.inr hk))).trans ((ho3.mono (fun k hk => .inl ((hi2.2 k).1 hk))).trans (ho4.mono (fun k hk => .inr (.inr hk))))
        · rintro k (hk | hk)
          · rcases hc3 k ((hi4.2 k).1 hk) with h | h
            · exact .inl (.inl ((hi2.2 k).1 h))
            · exact .inr (by omega)
          · exact .inl (.inr hk)
      | ret => exact hp.elim
      | exit id => exact hp.elim
      | goto t => exact hp.elim
      | panic ch => exact hp.elim
      | outgrown => exact hp.elim
    · -- behind the iterator
      rintro e W2 ⟨⟨v, rfl⟩, xs, hS, hi, hl, hd, hsz⟩
      have hr : (Instr.endLoop (D + 1)).run P W2 = .ok none (W2.putObj (D + 1) (.loop { lp .ready with state := .exhausted })) := by
        have h := run_endLoop (P := P) hl (by rw [hlp]; simp)
        rw [hlp] at h ⊢
        exact h
      have ho : Only (fun k => k = D + 1) W2 (W2.putObj (D + 1) (.loop { lp .ready with state := .exhausted })) := only_putObj W2 _ _ rfl
      have hnC : ¬ C W2 (D + 1) := fun h => by have := (hC _ _ _ hi h).2.2; omega
      exact ⟨none, _, hr, hdone xs _ hS (hI _ _ _ hi (ho.mono fun k hk => by subst hk; exact ⟨by omega, hnC⟩)).1 ((ho.block _ (by omega) (by omega)).trans hd)⟩
end

section
open Go.RowKit

/-- What the iterator has captured. -/
structure ReadsR (W : World) (bI bG bA bW : Nat) (ao an aI aG : Option Addr) (co cn cI cG : Nat) (O : List Int) (zss : List (List Int)) (n0 : Int) (In G : List Int) : Prop where
  arena : ArenaAt W (.agg #[.slice ao O.length co, .slice an zss.length cn]) O zss
  ins : IntsAt W aI In
  goal : IntsAt W aG G
  box : Box2 W bA 30 (.slice ao O.length co) (.slice an zss.length cn)
  who : W.cell? ⟨bW, 0, none⟩ = some (.int .i64 n0)
  inc : W.cell? ⟨bI, 0, none⟩ = some (.slice aI In.length cI)
  goc : W.cell? ⟨bG, 0, none⟩ = some (.slice aG G.length cG)

/-- What holds all along: the caller's blocks, the iterator's own. -/
structure EnvR (C : World → Nat → Prop) (J : List (Nat × Nat) → World → Prop) (W Wc : World) (s1 s3 gw : Nat) : Prop where
  hJ : ∀ s A A', J s A → Only (fun k => W.heap.size ≤ k ∧ ¬ C A k) A A' → J s A' ∧ ∀ k, C A' k ↔ C A k
  hC : ∀ s A k, J s A → C A k → k < A.heap.size
  c0 : ∀ k, C W k → k < W.heap.size
  le1 : W.heap.size ≤ s1
  le2 : s1 ≤ gw
  le3 : gw < s3
  top : Wc.heap.size = s3

/-- Between two steps: wait reads as f, the layer as L, what comes next as ab. -/
structure StR (C : World → Nat → Prop) (J : List (Nat × Nat) → World → Prop) (W Wc : World) (s1 s3 gw n sr : Nat) (pre : List (Nat × Nat)) (f : Nat → Int) (vl : Value) (L : List Int) (va : Value) (ab : List Int) (A : World) : Prop where
  j : J pre A
  cset : ∀ k, C A k → C W k ∨ s3 ≤ k
  wait : OwnF A s1 gw n n f
  only : Only (fun k => C W k ∨ k = gw ∨ s3 ≤ k) Wc A
  lay : OwnInts A W.heap.size sr vl L
  layb : ∀ b, vl.ownBlock = some b → (b < s1 ∨ s3 ≤ b) ∧ ¬ C A b
  abv : A.ownsRow sr 2 1 va ab.length (ab.map (Value.int .i64))
  abvb : ∀ b, va.ownBlock = some b → ¬ C A b
  big : sr ≤ A.heap.size
  sr3 : s3 ≤ sr

theorem OwnInts.ints {w : World} {B D n c : Nat} {a : Option Addr} {zs : List Int} (h : OwnInts w B D (.slice a n c) zs) : IntsAt w a zs := by
  obtain ⟨a', c', hv, hi, _⟩ := h.shape
  simp only [Value.slice.injEq] at hv
  rw [hv.1]; exact hi

section
variable {C : World → Nat → Prop} {J : List (Nat × Nat) → World → Prop} {W Wc : World} {s1 s3 gw n sr : Nat} {pre : List (Nat × Nat)} {f : Nat → Int} {vl va : Value} {L ab : List Int} {A : World}

theorem StR.noW (E : EnvR C J W Wc s1 s3 gw) (h : StR C J W Wc s1 s3 gw n sr pre f vl L va ab A) : ¬ C A gw := fun hc => by
  have h1 := E.le1; have h2 := E.le2; have h3 := E.le3
  rcases h.cset _ hc with h | h
  · have := E.c0 _ h; omega
  · omega

theorem StR.yield (E : EnvR C J W Wc s1 s3 gw) (h : StR C J W Wc s1 s3 gw n sr pre f vl L va ab A) {pre' : List (Nat × Nat)} {A' : World} (hj : J pre' A') (ho : Only (C A) A A') (hc : ∀ k, C A' k → C A k ∨ A.heap.size ≤ k) : StR C J W Wc s1 s3 gw n sr pre' f vl L va ab A' where
  j := hj
  cset := fun k hk => by
    have h1 := h.big; have h2 := h.sr3
    rcases hc k hk with hh | hh
    · exact h.cset k hh
    · exact .inr (by omega)
  wait := OwnF.only h.wait ho (h.noW E)
  only := h.only.trans (ho.mono fun k hk => by
    rcases h.cset k hk with hh | hh
    · exact .inl hh
    · exact .inr (.inr hh))
  lay := h.lay.only ho fun b hb => (h.layb b hb).2
  layb := fun b hb => ⟨(h.layb b hb).1, fun hk => by
    have h1 := h.big; have h2 := h.lay.top b hb
    rcases hc b hk with hh | hh
    · exact (h.layb b hb).2 hh
    · omega⟩
  abv := ownsRow_only h.abv ho h.abvb
  abvb := fun b hb hk => by
    have h2 := (h.abv.lt b hb).2
    rcases hc b hk with hh | hh
    · exact h.abvb b hb hh
    · omega
  big := Nat.le_trans h.big ho.size
  sr3 := h.sr3

theorem StR.dec (E : EnvR C J W Wc s1 s3 gw) (h : StR C J W Wc s1 s3 gw n sr pre f vl L va ab A) {v : Nat} {x : Int} (hx : Fits x) : StR C J W Wc s1 s3 gw n sr pre (fun i => if i = v then x else f i) vl L va ab (A.setCell ⟨gw, v, none⟩ (.int .i64 x)) := by
  have ho : Only (fun k => k = gw) A (A.setCell ⟨gw, v, none⟩ (.int .i64 x)) := Only.setCell (S := fun k => k = gw) (Only.refl _ _) (p := ⟨gw, v, none⟩) rfl _
  have h1 := E.le1; have h2 := E.le2; have h3 := E.le3; have h4 := h.sr3
  have hj := E.hJ _ _ _ h.j (ho.mono fun k hk => by subst hk; exact ⟨by omega, h.noW E⟩)
  refine ⟨hj.1, fun k hk => h.cset k ((hj.2 k).1 hk), h.wait.put hx, h.only.trans (ho.mono fun k hk => .inr (.inl hk)), h.lay.only ho fun b hb e => ?_, fun b hb => ⟨(h.layb b hb).1, fun hk => (h.layb b hb).2 ((hj.2 b).1 hk)⟩, ownsRow_only h.abv ho fun b hb e => ?_, fun b hb hk => h.abvb b hb ((hj.2 b).1 hk), Nat.le_trans h.big ho.size, h.sr3⟩
  · have := (h.layb b hb).1; omega
  · have := (h.abv.lt b hb).1; omega

theorem StR.congr {f' : Nat → Int} (h : StR C J W Wc s1 s3 gw n sr pre f vl L va ab A) (he : ∀ i, i < n → f i = f' i) : StR C J W Wc s1 s3 gw n sr pre f' vl L va ab A :=
  ⟨h.j, h.cset, h.wait.congr he, h.only, h.lay, h.layb, h.abv, h.abvb, h.big, h.sr3⟩

theorem StR.app (E : EnvR C J W Wc s1 s3 gw) (h : StR C J W Wc s1 s3 gw n sr pre f vl L va ab A) {A' : World} {va' : Value} {ab' : List Int} (ho : Only (fun b => va.ownBlock = some b) A A') (hown : A'.ownsRow sr 2 1 va' ab'.length (ab'.map (Value.int .i64)))
    (hw : va'.ownBlock = va.ownBlock ∨ ∃ X, va'.ownBlock = some X ∧ A.heap.size ≤ X) : StR C J W Wc s1 s3 gw n sr pre f vl L va' ab' A' := by
  have h1 := E.le1; have h2 := E.le2; have h3 := E.le3; have h4 := h.sr3; have h5 := h.big
  have hj := E.hJ _ _ _ h.j (ho.mono fun k hk => ⟨by have := (h.abv.lt k hk).1; omega, h.abvb k hk⟩)
  refine ⟨hj.1, fun k hk => h.cset k ((hj.2 k).1 hk), OwnF.only h.wait ho fun hg => ?_, h.only.trans (ho.mono fun k hk => .inr (.inr ?_)), h.lay.only ho fun b hb e => ?_, fun b hb => ⟨(h.layb b hb).1, fun hk => (h.layb b hb).2 ((hj.2 b).1 hk)⟩, hown, fun b hb hk => ?_, Nat.le_trans h.big ho.size, h.sr3⟩
  · have := (h.abv.lt _ hg).1; omega
  · have := (h.abv.lt k hk).1; omega
  · have := (h.abv.lt b e).1; have := h.lay.top b hb; omega
  · have hk' := (hj.2 b).1 hk
    rcases hw with hh | ⟨X, hh, hX⟩
    · exact h.abvb b (by rw [← hh]; exact hb) hk'
    · rw [hh] at hb
      cases hb
      have := E.hC _ _ _ h.j hk'
      omega

theorem StR.next (E : EnvR C J W Wc s1 s3 gw) (h : StR C J W Wc s1 s3 gw n sr pre f vl L va ab A) (hl : ab.length ≤ 1048576) (hf : ∀ k, k < ab.length → Fits (nth ab k)) : StR C J W Wc s1 s3 gw n A.heap.size pre f va ab (.slice none 0 0) [] A := by
  have h1 := E.le1; have h2 := E.le2; have h3 := E.le3; have h4 := h.sr3; have h5 := h.big
  refine ⟨h.j, h.cset, h.wait, h.only, OwnInts.base (OwnInts.mk' h.abv (by omega) hf) (by omega), fun b hb => ⟨.inr ?_, h.abvb b hb⟩, World.ownsRow_nil _ _ _ _, fun b hb => by simp [Value.ownBlock] at hb, Nat.le_refl _, by omega⟩
  have := (h.abv.lt b hb).1; omega

end
end

end Go.Proofs.Ytaoagikipbcjpaa
