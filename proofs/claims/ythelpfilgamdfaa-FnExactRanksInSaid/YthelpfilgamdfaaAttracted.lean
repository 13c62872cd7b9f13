/-
  What the attractor's iterator has in memory, step by step. No program text.
-/
import Derived.Test.YthelpfilgamdfaaLayers
import Derived.Test.YthelpfilgamdfaaSeq
namespace Go.Proofs.Ythelpfilgamdfaa
open Go.RowKit

/-- What the iterator has captured. -/
structure ReadsR (W : World) (bI bG bA bW : Nat) (ao an aI aG : Option Addr) (co cn cI cG : Nat) (O : List Int) (zss : List (List Int)) (n0 : Int) (In G : List Int) : Prop where
  arena : ArenaAt W (.agg #[.slice ao O.length co, .slice an zss.length cn]) O zss
  ins : IntsAt W aI In
  goal : IntsAt W aG G
  box : Box2 W bA 30 (.slice ao O.length co) (.slice an zss.length cn)
  who : W.cell? ⟨bW, 0, none⟩ = some (.int .i64 n0)
  inc : W.cell? ⟨bI, 0, none⟩ = some (.slice aI In.length cI)
  goc : W.cell? ⟨bG, 0, none⟩ = some (.slice aG G.length cG)

/-- What holds all along: the caller's blocks, the iterator's own. -/
structure EnvR (C : World → Nat → Prop) (J : List (Nat × Nat) → World → Prop) (W Wc : World) (s1 s3 gw : Nat) : Prop where
  hJ : ∀ s A A', J s A → Only (fun k => W.heap.size ≤ k ∧ ¬ C A k) A A' → J s A' ∧ ∀ k, C A' k ↔ C A k
  hC : ∀ s A k, J s A → C A k → k < A.heap.size
  c0 : ∀ k, C W k → k < W.heap.size
  le1 : W.heap.size ≤ s1
  le2 : s1 ≤ gw
  le3 : gw < s3
  top : Wc.heap.size = s3

/-- Between two steps: wait reads as f, the layer as L, what comes next as ab. -/
structure StR (C : World → Nat → Prop) (J : List (Nat × Nat) → World → Prop) (W Wc : World) (s1 s3 gw n sr : Nat) (pre : List (Nat × Nat)) (f : Nat → Int) (vl : Value) (L : List Int) (va : Value) (ab : List Int) (A : World) : Prop where
  j : J pre A
  cset : ∀ k, C A k → C W k ∨ s3 ≤ k
  wait : OwnF A s1 gw n n f
  only : Only (fun k => C W k ∨ k = gw ∨ s3 ≤ k) Wc A
  lay : OwnInts A W.heap.size sr vl L
  layb : ∀ b, vl.ownBlock = some b → (b < s1 ∨ s3 ≤ b) ∧ ¬ C A b
  abv : A.ownsRow sr 2 1 va ab.length (ab.map (Value.int .i64))
  abvb : ∀ b, va.ownBlock = some b → ¬ C A b
  big : sr ≤ A.heap.size
  sr3 : s3 ≤ sr

theorem OwnInts.ints {w : World} {B D n c : Nat} {a : Option Addr} {zs : List Int} (h : OwnInts w B D (.slice a n c) zs) : IntsAt w a zs := by
  obtain ⟨a', c', hv, hi, _⟩ := h.shape
  simp only [Value.slice.injEq] at hv
  rw [hv.1]; exact hi

section
variable {C : World → Nat → Prop} {J : List (Nat × Nat) → World → Prop} {W Wc : World} {s1 s3 gw n sr : Nat} {pre : List (Nat × Nat)} {f : Nat → Int} {vl va : Value} {L ab : List Int} {A : World}

theorem StR.noW (E : EnvR C J W Wc s1 s3 gw) (h : StR C J W Wc s1 s3 gw n sr pre f vl L va ab A) : ¬ C A gw := fun hc => by
  have h1 := E.le1; have h2 := E.le2; have h3 := E.le3
  rcases h.cset _ hc with h | h
  · have := E.c0 _ h; omega
  · omega

theorem StR.yield (E : EnvR C J W Wc s1 s3 gw) (h : StR C J W Wc s1 s3 gw n sr pre f vl L va ab A) {pre' : List (Nat × Nat)} {A' : World} (hj : J pre' A') (ho : Only (C A) A A') (hc : ∀ k, C A' k → C A k ∨ A.heap.size ≤ k) : StR C J W Wc s1 s3 gw n sr pre' f vl L va ab A' where
  j := hj
  cset := fun k hk => by
    have h1 := h.big; have h2 := h.sr3
    rcases hc k hk with hh | hh
    · exact h.cset k hh
    · exact .inr (by omega)
  wait := OwnF.only h.wait ho (h.noW E)
  only := h.only.trans (ho.mono fun k hk => by
    rcases h.cset k hk with hh | hh
    · exact .inl hh
    · exact .inr (.inr hh))
  lay := h.lay.only ho fun b hb => (h.layb b hb).2
  layb := fun b hb => ⟨(h.layb b hb).1, fun hk => by
    have h1 := h.big; have h2 := h.lay.top b hb
    rcases hc b hk with hh | hh
    · exact (h.layb b hb).2 hh
    · omega⟩
  abv := ownsRow_only h.abv ho h.abvb
  abvb := fun b hb hk => by
    have h2 := (h.abv.lt b hb).2
    rcases hc b hk with hh | hh
    · exact h.abvb b hb hh
    · omega
  big := Nat.le_trans h.big ho.size
  sr3 := h.sr3

theorem StR.dec (E : EnvR C J W Wc s1 s3 gw) (h : StR C J W Wc s1 s3 gw n sr pre f vl L va ab A) {v : Nat} {x : Int} (hx : Fits x) : StR C J W Wc s1 s3 gw n sr pre (fun i => if i = v then x else f i) vl L va ab (A.setCell ⟨gw, v, none⟩ (.int .i64 x)) := by
  have ho : Only (fun k => k = gw) A (A.setCell ⟨gw, v, none⟩ (.int .i64 x)) := Only.setCell (S := fun k => k = gw) (Only.refl _ _) (p := ⟨gw, v, none⟩) rfl _
  have h1 := E.le1; have h2 := E.le2; have h3 := E.le3; have h4 := h.sr3
  have hj := E.hJ _ _ _ h.j (ho.mono fun k hk => by subst hk; exact ⟨by omega, h.noW E⟩)
  refine ⟨hj.1, fun k hk => h.cset k ((hj.2 k).1 hk), h.wait.put hx, h.only.trans (ho.mono fun k hk => .inr (.inl hk)), h.lay.only ho fun b hb e => ?_, fun b hb => ⟨(h.layb b hb).1, fun hk => (h.layb b hb).2 ((hj.2 b).1 hk)⟩, ownsRow_only h.abv ho fun b hb e => ?_, fun b hb hk => h.abvb b hb ((hj.2 b).1 hk), Nat.le_trans h.big ho.size, h.sr3⟩
  · have := (h.layb b hb).1; omega
  · have := (h.abv.lt b hb).1; omega

theorem StR.congr {f' : Nat → Int} (h : StR C J W Wc s1 s3 gw n sr pre f vl L va ab A) (he : ∀ i, i < n → f i = f' i) : StR C J W Wc s1 s3 gw n sr pre f' vl L va ab A :=
  ⟨h.j, h.cset, h.wait.congr he, h.only, h.lay, h.layb, h.abv, h.abvb, h.big, h.sr3⟩

theorem StR.app (E : EnvR C J W Wc s1 s3 gw) (h : StR C J W Wc s1 s3 gw n sr pre f vl L va ab A) {A' : World} {va' : Value} {ab' : List Int} (ho : Only (fun b => va.ownBlock = some b) A A') (hown : A'.ownsRow sr 2 1 va' ab'.length (ab'.map (Value.int .i64)))
    (hw : va'.ownBlock = va.ownBlock ∨ ∃ X, va'.ownBlock = some X ∧ A.heap.size ≤ X) : StR C J W Wc s1 s3 gw n sr pre f vl L va' ab' A' := by
  have h1 := E.le1; have h2 := E.le2; have h3 := E.le3; have h4 := h.sr3; have h5 := h.big
  have hj := E.hJ _ _ _ h.j (ho.mono fun k hk => ⟨by have := (h.abv.lt k hk).1; omega, h.abvb k hk⟩)
  refine ⟨hj.1, fun k hk => h.cset k ((hj.2 k).1 hk), OwnF.only h.wait ho fun hg => ?_, h.only.trans (ho.mono fun k hk => .inr (.inr ?_)), h.lay.only ho fun b hb e => ?_, fun b hb => ⟨(h.layb b hb).1, fun hk => (h.layb b hb).2 ((hj.2 b).1 hk)⟩, hown, fun b hb hk => ?_, Nat.le_trans h.big ho.size, h.sr3⟩
  · have := (h.abv.lt _ hg).1; omega
  · have := (h.abv.lt k hk).1; omega
  · have := (h.abv.lt b e).1; have := h.lay.top b hb; omega
  · have hk' := (hj.2 b).1 hk
    rcases hw with hh | ⟨X, hh, hX⟩
    · exact h.abvb b (by rw [← hh]; exact hb) hk'
    · rw [hh] at hb
      cases hb
      have := E.hC _ _ _ h.j hk'
      omega

theorem StR.next (E : EnvR C J W Wc s1 s3 gw) (h : StR C J W Wc s1 s3 gw n sr pre f vl L va ab A) (hl : ab.length ≤ 1048576) (hf : ∀ k, k < ab.length → Fits (nth ab k)) : StR C J W Wc s1 s3 gw n A.heap.size pre f va ab (.slice none 0 0) [] A := by
  have h1 := E.le1; have h2 := E.le2; have h3 := E.le3; have h4 := h.sr3; have h5 := h.big
  refine ⟨h.j, h.cset, h.wait, h.only, OwnInts.base (OwnInts.mk' h.abv (by omega) hf) (by omega), fun b hb => ⟨.inr ?_, h.abvb b hb⟩, World.ownsRow_nil _ _ _ _, fun b hb => by simp [Value.ownBlock] at hb, Nat.le_refl _, by omega⟩
  have := (h.abv.lt b hb).1; omega

end

end Go.Proofs.Ythelpfilgamdfaa
