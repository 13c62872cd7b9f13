/-
  Words for what a call has made: a slice of numbers of its own, a slice of such slices, an arena; and what a call may have turned. No program text.
-/
import Derived.Test.YtaoagikipbcjpaaSpecArena
import Derived.Deep.OwnRows
namespace Go.Proofs.Ytaoagikipbcjpaa
open Go.RowKit

/-- Of what was there, blocks of which S holds alone may have turned. -/
structure Only (S : Nat → Prop) (w w' : World) : Prop where
  os : w'.os = w.os
  tape : w'.tape = w.tape
  output : w'.output = w.output
  size : w.heap.size ≤ w'.heap.size
  block : ∀ k, k < w.heap.size → ¬ S k → w'.heap[k]? = w.heap[k]?

theorem Only.refl (S : Nat → Prop) (w : World) : Only S w w := ⟨rfl, rfl, rfl, Nat.le_refl _, fun _ _ _ => rfl⟩
theorem Only.trans {S : Nat → Prop} {a b c : World} (h : Only S a b) (k : Only S b c) : Only S a c :=
  ⟨k.os.trans h.os, k.tape.trans h.tape, k.output.trans h.output, Nat.le_trans h.size k.size, fun i hi hs => (k.block i (Nat.lt_of_lt_of_le hi h.size) hs).trans (h.block i hi hs)⟩
theorem Only.mono {S T : Nat → Prop} {w w' : World} (h : Only S w w') (hs : ∀ k, S k → T k) : Only T w w' :=
  ⟨h.os, h.tape, h.output, h.size, fun i hi ht => h.block i hi (fun hk => ht (hs i hk))⟩
theorem Only.of_below {S : Nat → Prop} {w w' : World} (h : Below w.heap.size w w') : Only S w w' := ⟨h.os, h.tape, h.output, h.size, fun i hi _ => h.block i hi⟩
theorem Only.setCell {S : Nat → Prop} {a w : World} (h : Only S a w) {p : Addr} (hp : S p.block) (u : Value) : Only S a (w.setCell p u) :=
  h.trans ⟨rfl, rfl, rfl, by simp [World.setCell], fun k _ hk => Below.heap_setCell _ _ _ _ (fun e => hk (by rw [e]; exact hp))⟩
theorem Only.below {S : Nat → Prop} {B : Nat} {w w' : World} (h : Only S w w') (hB : B ≤ w.heap.size) (hs : ∀ k, S k → B ≤ k) : Below B w w' :=
  ⟨h.os, h.tape, h.output, h.size, fun k hk => h.block k (by omega) (fun hS => by have := hs k hS; omega)⟩

/-- The slice v owns the numbers zs, in a block from B on and below D. -/
structure OwnInts (w : World) (B D : Nat) (v : Value) (zs : List Int) : Prop where
  own : w.ownsRow B 2 1 v zs.length (zs.map (Value.int .i64))
  top : ∀ g, v.ownBlock = some g → g < D
  len : zs.length ≤ 17592186044416
  fits : ∀ k, k < zs.length → Fits (nth zs k)

theorem OwnInts.shape {w : World} {B D : Nat} {v : Value} {zs : List Int} (h : OwnInts w B D v zs) :
    ∃ a cap, v = .slice a zs.length cap ∧ IntsAt w a zs ∧ (0 < zs.length → ∃ g, a = some ⟨g, 0, none⟩ ∧ B ≤ g ∧ g < D ∧ v.ownBlock = some g ∧ ∀ k, w.frozen? ⟨g, k, none⟩ = false) := by
  have hown := h.own
  rcases h.own.2 with ⟨hv, h0⟩ | ⟨g, cap, cur, hv, hg, hh, hn, hm, hcs, htake⟩
  · rw [h0]
    refine ⟨none, 0, hv, ⟨h.len, h.fits, fun hp => absurd hp (by omega)⟩, fun hp => absurd hp (by omega)⟩
  · subst hv
    refine ⟨some ⟨g, 0, none⟩, cap, rfl, ⟨h.len, h.fits, fun _ => ⟨g, 0, rfl, fun k hk => ?_⟩⟩, fun _ => ⟨g, rfl, hg, h.top g rfl, rfl, fun k => hown.frozenAt k⟩⟩
    rw [Nat.zero_add, hown.cellAt k (by omega)]
    simp [nth, hk]

theorem ownsRow_only {w w' : World} {S : Nat → Prop} {B : Nat} {e : TypeId} {size : Nat} {v : Value} {n : Nat} {xs : List Value} (h : w.ownsRow B e size v n xs) (hk : Only S w w') (hs : ∀ g, v.ownBlock = some g → ¬ S g) : w'.ownsRow B e size v n xs := by
  refine ⟨h.1, ?_⟩
  rcases h.2 with hn | ⟨g, cap, cur, rfl, hb, hgg, rest⟩
  · exact .inl hn
  · refine .inr ⟨g, cap, cur, rfl, hb, ?_, rest⟩
    rw [hk.block g (Array.getElem?_eq_some_iff.1 hgg).1 (hs g rfl)]
    exact hgg

theorem OwnInts.only {w w' : World} {S : Nat → Prop} {B D : Nat} {v : Value} {zs : List Int} (h : OwnInts w B D v zs) (hk : Only S w w') (hs : ∀ g, v.ownBlock = some g → ¬ S g) : OwnInts w' B D v zs :=
  ⟨ownsRow_only h.own hk hs, h.top, h.len, h.fits⟩
theorem OwnInts.below {w w' : World} {B D : Nat} {v : Value} {zs : List Int} (h : OwnInts w B D v zs) (hb : Below w.heap.size w w') : OwnInts w' B D v zs :=
  h.only (S := fun _ => False) (Only.of_below hb) (fun _ _ h => h)

def addrOf : Value → Option Addr | .slice a _ _ => a | _ => none
def capOf : Value → Nat | .slice _ _ c => c | _ => 0

/-- The slice v owns the rows zss: row k is the value V k. -/
structure OwnRows (w : World) (B D : Nat) (v : Value) (V : Nat → Value) (zss : List (List Int)) : Prop where
  own : w.ownsRow B 27 1 v zss.length ((List.range zss.length).map V)
  top : ∀ g, v.ownBlock = some g → g < D
  len : zss.length ≤ 17592186044416
  rows : ∀ k, k < zss.length → OwnInts w B D (V k) (row zss k)
  apart : ∀ i j, i < zss.length → j < zss.length → i ≠ j → ∀ g, (V i).ownBlock = some g → (V j).ownBlock ≠ some g

theorem OwnRows.shape {w : World} {B D : Nat} {v : Value} {V : Nat → Value} {zss : List (List Int)} (h : OwnRows w B D v V zss) :
    ∃ a cap, v = .slice a zss.length cap ∧ RowsAt w a (fun k => addrOf (V k)) (fun k => capOf (V k)) zss ∧ (∀ k, k < zss.length → V k = .slice (addrOf (V k)) (row zss k).length (capOf (V k))) := by
  have hV : ∀ k, k < zss.length → V k = .slice (addrOf (V k)) (row zss k).length (capOf (V k)) ∧ IntsAt w (addrOf (V k)) (row zss k) := fun k hk => by
    obtain ⟨a, cap, hv, hi, _⟩ := (h.rows k hk).shape
    rw [hv]; exact ⟨rfl, hi⟩
  have hown := h.own
  rcases h.own.2 with ⟨hv, h0⟩ | ⟨g, cap, cur, hv, hg, hh, hn, hm, hcs, htake⟩
  · refine ⟨none, 0, by rw [hv, h0], ⟨h.len, fun hp => absurd hp (by omega), fun k hk => absurd hk (by omega)⟩, fun k hk => (hV k hk).1⟩
  · subst hv
    refine ⟨some ⟨g, 0, none⟩, cap, rfl, ⟨h.len, fun _ => ⟨g, 0, rfl, fun k hk => ?_⟩, fun k hk => (hV k hk).2⟩, fun k hk => (hV k hk).1⟩
    rw [Nat.zero_add, hown.cellAt k (by omega)]
    rw [← (hV k hk).1]
    simp [hk]

theorem OwnRows.only {w w' : World} {S : Nat → Prop} {B D : Nat} {v : Value} {V : Nat → Value} {zss : List (List Int)} (h : OwnRows w B D v V zss) (hk : Only S w w') (hs : ∀ g, v.ownBlock = some g → ¬ S g)
    (hr : ∀ k, k < zss.length → ∀ g, (V k).ownBlock = some g → ¬ S g) : OwnRows w' B D v V zss :=
  ⟨ownsRow_only h.own hk hs, h.top, h.len, fun k hk' => (h.rows k hk').only hk (hr k hk'), h.apart⟩
theorem OwnRows.below {w w' : World} {B D : Nat} {v : Value} {V : Nat → Value} {zss : List (List Int)} (h : OwnRows w B D v V zss) (hb : Below w.heap.size w w') : OwnRows w' B D v V zss :=
  h.only (S := fun _ => False) (Only.of_below hb) (fun _ _ h => h) (fun _ _ _ _ h => h)

/-- The outer row's block is no row's block: their cells are of two types. -/
theorem own_types {w : World} {B : Nat} {v u : Value} {n m : Nat} {xs ys : List Value} (h : w.ownsRow B 27 1 v n xs) (k : w.ownsRow B 2 1 u m ys) : ∀ g, v.ownBlock = some g → u.ownBlock ≠ some g := by
  intro g hg hu
  rcases h.2 with ⟨rfl, _⟩ | ⟨g1, _, _, rfl, _, h1, _⟩
  · simp [Value.ownBlock] at hg
  · rcases k.2 with ⟨rfl, _⟩ | ⟨g2, _, _, rfl, _, h2, _⟩
    · simp [Value.ownBlock] at hu
    · simp [Value.ownBlock] at hg hu
      subst hg; subst hu
      rw [h1] at h2
      simp at h2

/-- The struct v owns an arena. -/
def OwnArena (w : World) (B D : Nat) (v : Value) (O : List Int) (zss : List (List Int)) : Prop :=
  ∃ vo vn V, v = .agg #[vo, vn] ∧ OwnInts w B D vo O ∧ OwnRows w B D vn V zss ∧ ∀ k, k < zss.length → ∀ g, (V k).ownBlock = some g → vo.ownBlock ≠ some g

theorem OwnArena.at {w : World} {B D : Nat} {v : Value} {O : List Int} {zss : List (List Int)} (h : OwnArena w B D v O zss) : ArenaAt w v O zss := by
  obtain ⟨vo, vn, V, rfl, h1, h2, _⟩ := h
  obtain ⟨a, c, rfl, hi, _⟩ := h1.shape
  obtain ⟨a', c', rfl, hr, _⟩ := h2.shape
  exact ⟨_, _, _, _, _, _, rfl, hi, hr⟩

theorem OwnArena.below {w w' : World} {B D : Nat} {v : Value} {O : List Int} {zss : List (List Int)} (h : OwnArena w B D v O zss) (hb : Below w.heap.size w w') : OwnArena w' B D v O zss := by
  obtain ⟨vo, vn, V, hv, h1, h2, h3⟩ := h
  exact ⟨vo, vn, V, hv, h1.below hb, h2.below hb, h3⟩

theorem OwnArena.only {w w' : World} {S : Nat → Prop} {B D : Nat} {v : Value} {O : List Int} {zss : List (List Int)} (h : OwnArena w B D v O zss) (hk : Only S w w') (hs : ∀ g, B ≤ g → g < D → ¬ S g) : OwnArena w' B D v O zss := by
  obtain ⟨vo, vn, V, hv, h1, h2, h3⟩ := h
  refine ⟨vo, vn, V, hv, h1.only hk (fun g hg => hs g ?_ (h1.top g hg)), h2.only hk (fun g hg => hs g ?_ (h2.top g hg)) (fun k hk' g hg => hs g ?_ ((h2.rows k hk').top g hg)), h3⟩
  · exact (h1.own.lt g hg).1
  · exact (h2.own.lt g hg).1
  · exact ((h2.rows k hk').own.lt g hg).1

theorem ownsRow_of_rowIs {w : World} {B b n : Nat} {t : TypeId} {f : Nat → Value} (h : w.rowIs b t n f) (hB : B ≤ b) (hn : n ≤ maxLen) : w.ownsRow B t 1 (.slice (some ⟨b, 0, none⟩) n n) n ((List.range n).map f) := by
  obtain ⟨c, hh, hs, hc⟩ := h
  refine ⟨by simp, .inr ⟨b, n, c, rfl, hB, hh, Nat.le_refl _, hn, by omega, ?_⟩⟩
  apply List.ext_getElem?
  intro i
  by_cases hi : i < n
  · have := hc i hi
    simp [hi, this]
  · simp [List.getElem?_take, hi]

theorem map_nth (zs : List Int) : (List.range zs.length).map (fun i => Value.int .i64 (nth zs i)) = zs.map (Value.int .i64) := by
  apply List.ext_getElem?
  intro i
  by_cases hi : i < zs.length
  · simp [hi, nth_eq hi]
  · simp [hi]

theorem OwnInts.of_rowIs {w : World} {B D b : Nat} {zs : List Int} (h : w.rowIs b 2 zs.length (fun i => .int .i64 (nth zs i))) (hB : B ≤ b) (hD : b < D) (hl : zs.length ≤ 17592186044416) (hf : ∀ k, k < zs.length → Fits (nth zs k)) :
    OwnInts w B D (.slice (some ⟨b, 0, none⟩) zs.length zs.length) zs := by
  refine ⟨?_, fun g hg => by simp [Value.ownBlock] at hg; omega, hl, hf⟩
  rw [← map_nth]
  exact ownsRow_of_rowIs h hB (by unfold maxLen; omega)

end Go.Proofs.Ytaoagikipbcjpaa
