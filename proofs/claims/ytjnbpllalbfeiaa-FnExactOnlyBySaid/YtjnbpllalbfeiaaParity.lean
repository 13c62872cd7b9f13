/-
  A parity game in memory. No program text.
-/
import Derived.Test.YtjnbpllalbfeiaaBase1
import Derived.Test.YtjnbpllalbfeiaaWalks1
import Derived.Test.YtjnbpllalbfeiaaDraw1
import Derived.Deep.AppendLies
namespace Go.Proofs.Ytjnbpllalbfeiaa
section
open Go.RowKit

/-- A struct of three slices that reads as a game. -/
def GameAt (w : World) (v : Value) (O : List Int) (zss : List (List Int)) (P : List Int) : Prop :=
  ∃ ao an ap co cn cp A C, v = .agg #[.slice ao O.length co, .slice an zss.length cn, .slice ap P.length cp] ∧ IntsAt w ao O ∧ RowsAt w an A C zss ∧ IntsAt w ap P

theorem GameAt.below {w w' : World} {v : Value} {O : List Int} {zss : List (List Int)} {P : List Int} (h : GameAt w v O zss P) (hb : Below w.heap.size w w') : GameAt w' v O zss P := by
  obtain ⟨ao, an, ap, co, cn, cp, A, C, hv, h1, h2, h3⟩ := h
  exact ⟨ao, an, ap, co, cn, cp, A, C, hv, h1.below hb, h2.below hb, h3.below hb⟩

/-- All priorities are from 0 to 40. -/
def priosB (P : List Int) : Bool := decide (∀ x ∈ P, 0 ≤ x ∧ x ≤ 40)
/-- A valid game. -/
noncomputable def parityB (O : List Int) (zss : List (List Int)) (P : List Int) : Bool := arenaB O zss && (decide (P.length = O.length) && priosB P)

theorem priosB_yes {P : List Int} (h : ∀ k, k < P.length → 0 ≤ nth P k ∧ nth P k ≤ 40) : priosB P = true := decide_eq_true fun x hx => by
  obtain ⟨k, hk, rfl⟩ := mem_nth.1 hx
  exact h k hk
theorem priosB_no {P : List Int} {k : Nat} (hk : k < P.length) (h : ¬ (0 ≤ nth P k ∧ nth P k ≤ 40)) : priosB P = false := decide_eq_false fun hh => h (hh _ (nth_mem hk))
theorem parityB_iff {O : List Int} {zss : List (List Int)} {P : List Int} : parityB O zss P = true ↔ ArenaP O zss ∧ P.length = O.length ∧ ∀ x ∈ P, 0 ≤ x ∧ x ≤ 40 := by
  unfold parityB priosB
  rw [Bool.and_eq_true, Bool.and_eq_true, arenaB_iff, decide_eq_true_eq, decide_eq_true_eq]

theorem tri3_new (w : World) (T : TypeId) (a b c : Value) : (w.alloc (.cells #[a, b, c] T)).rowIs w.heap.size T 3 (tri a b c) := by
  refine ⟨_, heap_alloc_new w _, by simp, fun j hj => ?_⟩
  have hj3 : j = 0 ∨ j = 1 ∨ j = 2 := by omega
  rcases hj3 with rfl | rfl | rfl <;> rfl

/-- A box of a game. -/
def Box3 (w : World) (g : Nat) (t : TypeId) (a b c : Value) : Prop := w.rowIs g t 3 (tri a b c)
theorem Box3.new (w : World) (T : TypeId) (a b c : Value) : Box3 (w.alloc (.cells #[a, b, c] T)) w.heap.size T a b c := tri3_new w T a b c
theorem Box3.below {w w' : World} {g : Nat} {t : TypeId} {a b c : Value} (h : Box3 w g t a b c) (hb : Below w.heap.size w w') : Box3 w' g t a b c := rowIs_below h hb
theorem Box3.c0 {w : World} {g : Nat} {t : TypeId} {a b c : Value} (h : Box3 w g t a b c) : w.cell? ⟨g, 0, none⟩ = some a := World.rowIs.cell (i := 0) h (by omega)
theorem Box3.c1 {w : World} {g : Nat} {t : TypeId} {a b c : Value} (h : Box3 w g t a b c) : w.cell? ⟨g, 1, none⟩ = some b := World.rowIs.cell (i := 1) h (by omega)
theorem Box3.c2 {w : World} {g : Nat} {t : TypeId} {a b c : Value} (h : Box3 w g t a b c) : w.cell? ⟨g, 2, none⟩ = some c := World.rowIs.cell (i := 2) h (by omega)
theorem Box3.lt {w : World} {g : Nat} {t : TypeId} {a b c : Value} (h : Box3 w g t a b c) : g < w.heap.size := World.rowIs.lt h
end

section
open Go.RowKit

theorem OwnRows.base2 {w : World} {B B' D : Nat} {v : Value} {V : Nat → Value} {zss : List (List Int)} (h : OwnRows w B D v V zss) (hB : B' ≤ B) : OwnRows w B' D v V zss := h.base hB

/-- The struct v owns a game. -/
def OwnGame (w : World) (B D : Nat) (v : Value) (O : List Int) (zss : List (List Int)) (P : List Int) : Prop :=
  ∃ vo vn vp V, v = .agg #[vo, vn, vp] ∧ OwnInts w B D vo O ∧ OwnRows w B D vn V zss ∧ OwnInts w B D vp P ∧ (∀ k, k < zss.length → ∀ g, (V k).ownBlock = some g → vo.ownBlock ≠ some g) ∧
    (∀ k, k < zss.length → ∀ g, (V k).ownBlock = some g → vp.ownBlock ≠ some g) ∧ ∀ g, vo.ownBlock = some g → vp.ownBlock ≠ some g

section
variable {w w' : World} {B B' D : Nat} {v : Value} {O P : List Int} {zss : List (List Int)}

theorem OwnGame.at (h : OwnGame w B D v O zss P) : GameAt w v O zss P := by
  obtain ⟨vo, vn, vp, V, rfl, h1, h2, h3, _⟩ := h
  obtain ⟨a, c, rfl, hi, _⟩ := h1.shape
  obtain ⟨a', c', rfl, hr, _⟩ := h2.shape
  obtain ⟨b, d, rfl, hp, _⟩ := h3.shape
  exact ⟨_, _, _, _, _, _, _, _, rfl, hi, hr, hp⟩
theorem OwnGame.only {S : Nat → Prop} (h : OwnGame w B D v O zss P) (hk : Only S w w') (hs : ∀ g, B ≤ g → g < D → ¬ S g) : OwnGame w' B D v O zss P := by
  obtain ⟨vo, vn, vp, V, hv, h1, h2, h3, h4⟩ := h
  refine ⟨vo, vn, vp, V, hv, h1.only hk (fun g hg => hs g (h1.own.lt g hg).1 (h1.top g hg)), h2.only hk (fun g hg => hs g (h2.own.lt g hg).1 (h2.top g hg)) (fun k hk' g hg => hs g ((h2.rows k hk').own.lt g hg).1 ((h2.rows k hk').top g hg)), h3.only hk (fun g hg => hs g (h3.own.lt g hg).1 (h3.top g hg)), h4⟩
theorem OwnGame.below (h : OwnGame w B D v O zss P) (hb : Below w.heap.size w w') : OwnGame w' B D v O zss P := by
  obtain ⟨vo, vn, vp, V, hv, h1, h2, h3, h4⟩ := h
  exact ⟨vo, vn, vp, V, hv, h1.below hb, h2.below hb, h3.below hb, h4⟩
theorem OwnGame.base (h : OwnGame w B D v O zss P) (hB : B' ≤ B) : OwnGame w B' D v O zss P := by
  obtain ⟨vo, vn, vp, V, hv, h1, h2, h3, h4⟩ := h
  exact ⟨vo, vn, vp, V, hv, h1.base hB, h2.base hB, h3.base hB, h4⟩
theorem OwnGame.retop (h : OwnGame w B D v O zss P) : OwnGame w B w.heap.size v O zss P := by
  obtain ⟨vo, vn, vp, V, hv, h1, h2, h3, h4⟩ := h
  exact ⟨vo, vn, vp, V, hv, h1.retop, h2.retop, h3.retop, h4⟩
theorem OwnGame.zero (w : World) (B D : Nat) : OwnGame w B D (.agg #[.slice none 0 0, .slice none 0 0, .slice none 0 0]) [] [] [] :=
  ⟨_, _, _, _, rfl, OwnInts.nil _ _ _, OwnRows.nil _ _ _, OwnInts.nil _ _ _, fun k hk => absurd hk (by simp), fun k hk => absurd hk (by simp), fun g hg => by simp [Value.ownBlock] at hg⟩
theorem OwnGame.shape (h : OwnGame w B D v O zss P) : ∃ a0 c0 a1 c1 a2 c2, v = .agg #[.slice a0 O.length c0, .slice a1 zss.length c1, .slice a2 P.length c2] := by
  obtain ⟨ao, an, ap, co, cn, cp, A, C, hv, _⟩ := h.at
  exact ⟨_, _, _, _, _, _, hv⟩
/-- The arena of a game of one's own. -/
theorem OwnGame.arena {vo vn vp : Value} (h : OwnGame w B D (.agg #[vo, vn, vp]) O zss P) : OwnArena w B D (.agg #[vo, vn]) O zss ∧ OwnInts w B D vp P := by
  obtain ⟨vo', vn', vp', V, hv, h1, h2, h3, h4, _⟩ := h
  cases hv
  exact ⟨⟨_, _, V, rfl, h1, h2, h4⟩, h3⟩
/-- An arena and a slice of numbers, of one's own, one made behind the other. -/
theorem OwnGame.of_parts {vo vn vp : Value} {M : Nat} (h : OwnArena w B M (.agg #[vo, vn]) O zss) (hp : OwnInts w M D vp P) (hBM : B ≤ M) (hMD : M ≤ D) : OwnGame w B D (.agg #[vo, vn, vp]) O zss P := by
  obtain ⟨vo', vn', V, hv, h1, h2, h4⟩ := h
  cases hv
  refine ⟨_, _, _, V, rfl, ⟨h1.own, fun g hg => by have := h1.top g hg; omega, h1.len, h1.fits⟩, ⟨h2.own, fun g hg => by have := h2.top g hg; omega, h2.len, fun k hk => ?_, h2.apart⟩, hp.base hBM, h4, fun k hk g hg hh => ?_, fun g hg hh => ?_⟩
  · have h := h2.rows k hk
    exact ⟨h.own, fun g hg => by have := h.top g hg; omega, h.len, h.fits⟩
  · have := (h2.rows k hk).top g hg
    have := (hp.own.lt g hh).1
    omega
  · have := h1.top g hg
    have := (hp.own.lt g hh).1
    omega
end

/-- A call hands back a game of its own. -/
def GivesGame (w : World) (O : List Int) (zss : List (List Int)) (P : List Int) (e : Ending) (w' : World) : Prop :=
  ∃ v, e = .returned v ∧ OwnGame w' w.heap.size w'.heap.size v O zss P ∧ Below w.heap.size w w'
/-- A call hands back a game of its own and a bool. -/
def GivesGameB (w : World) (O : List Int) (zss : List (List Int)) (P : List Int) (r : Bool) (e : Ending) (w' : World) : Prop :=
  ∃ v, e = .returned (.tuple #[v, .bool r]) ∧ OwnGame w' w.heap.size w'.heap.size v O zss P ∧ Below w.heap.size w w'

theorem zero_stored3 {w wr : World} {r : Nat} (hb : Below w.heap.size w wr) (hr : w.heap.size ≤ r) : Below w.heap.size w (((wr.setCell ⟨r, 0, none⟩ (.slice none 0 0)).setCell ⟨r, 1, none⟩ (.slice none 0 0)).setCell ⟨r, 2, none⟩ (.slice none 0 0)) :=
  ((hb.setCell (p := ⟨r, 0, none⟩) hr _).setCell (p := ⟨r, 1, none⟩) hr _).setCell (p := ⟨r, 2, none⟩) hr _
end

section
open Go.RowKit

theorem game_row {w : World} {b n B size m : Nat} {t e : TypeId} {f : Nat → Value} {v : Value} {xs : List Value} (h : w.rowIs b t n f) (ho : w.ownsRow B e size v m xs) (hte : e ≠ t) : v.ownBlock ≠ some b := by
  intro hb
  obtain ⟨c, hc, _⟩ := h
  rcases ho.2 with ⟨rfl, _⟩ | ⟨g, _, _, rfl, _, h1, _⟩
  · simp [Value.ownBlock] at hb
  · simp [Value.ownBlock] at hb
    subst hb
    rw [hc] at h1
    simp at h1
    exact hte h1.2.symm
theorem game_grown {w w1 : World} {b n B size m : Nat} {t e : TypeId} {f : Nat → Value} {v : Value} {xs : List Value} (h : w.rowIs b t n f) (ho : w.ownsRow B e size v m xs) (hte : e ≠ t) (hg : w.grownBy w1 v.ownBlock) : w1.rowIs b t n f :=
  rowIs_only h (Only.of_grown hg) (fun hb => game_row h ho hte hb)
theorem tri_set0 {a b c d : Value} : ∀ i, i < 3 → (if i = 0 then d else tri a b c i) = tri d b c i := fun i hi => by
  by_cases h : i = 0 <;> simp [tri, h]
theorem tri_new (w : World) (T : TypeId) (a b c : Value) : (w.alloc (.cells #[a, b, c] T)).rowIs w.heap.size T 3 (tri a b c) := by
  refine ⟨_, heap_alloc_new w _, by simp, fun j hj => ?_⟩
  have hj3 : j = 0 ∨ j = 1 ∨ j = 2 := by omega
  rcases hj3 with rfl | rfl | rfl <;> rfl

/-- t: the game that grows, with the owners vo, the rows vn (row k is V k) and the priorities vp, all from block n on. -/
structure Half5 (n : Nat) (wr : World) (t : Nat) (vo vn vp : Value) (V : Nat → Value) (O : List Int) (zss : List (List Int)) (P : List Int) : Prop where
  base : n ≤ t
  str : wr.rowIs t 31 3 (tri vo vn vp)
  ints : OwnInts wr n wr.heap.size vo O
  rows : OwnRows wr n wr.heap.size vn V zss
  prio : OwnInts wr n wr.heap.size vp P
  apart : ∀ i, i < zss.length → ∀ g, (V i).ownBlock = some g → vo.ownBlock ≠ some g
  app : ∀ i, i < zss.length → ∀ g, (V i).ownBlock = some g → vp.ownBlock ≠ some g
  apo : ∀ g, vo.ownBlock = some g → vp.ownBlock ≠ some g

section
variable {n t : Nat} {wr wr' w1 : World} {vo vn vp : Value} {V : Nat → Value} {O P : List Int} {zss : List (List Int)}

theorem Half5.only {S : Nat → Prop} (h : Half5 n wr t vo vn vp V O zss P) (hk : Only S wr wr') (hs : ∀ b, S b → b < n) : Half5 n wr' t vo vn vp V O zss P :=
  ⟨h.base, rowIs_only h.str hk (fun e => by have := hs _ e; have := h.base; omega), (h.ints.only hk (fun g hg e => by have := hs _ e; have := (h.ints.own.lt g hg).1; omega)).retop,
    (h.rows.only hk (fun g hg e => by have := hs _ e; have := (h.rows.own.lt g hg).1; omega) (fun k hk' g hg e => by have := hs _ e; have := ((h.rows.rows k hk').own.lt g hg).1; omega)).retop,
    (h.prio.only hk (fun g hg e => by have := hs _ e; have := (h.prio.own.lt g hg).1; omega)).retop, h.apart, h.app, h.apo⟩
theorem Half5.keep (h : Half5 n wr t vo vn vp V O zss P) (hb : Below wr.heap.size wr wr') : Half5 n wr' t vo vn vp V O zss P :=
  h.only (S := fun _ => False) (Only.of_below hb) (fun _ h => h.elim)

/-- A cell of the game's box is written: the rest stays. -/
theorem Half5.ints_set (hT : wr.rowIs t 31 3 (tri vo vn vp)) {u : Value} {zs : List Int} (h : OwnInts wr n wr.heap.size u zs) (i : Nat) (x : Value) : OwnInts (wr.setCell ⟨t, i, none⟩ x) n (wr.setCell ⟨t, i, none⟩ x).heap.size u zs :=
  (h.only ((Only.refl (fun b => b = t) wr).setCell (p := ⟨t, i, none⟩) rfl x) (fun g hg e => game_row hT h.own (by decide) (by rw [hg, e]))).retop
theorem Half5.rows_set (hT : wr.rowIs t 31 3 (tri vo vn vp)) {u : Value} (h : OwnRows wr n wr.heap.size u V zss) (i : Nat) (x : Value) : OwnRows (wr.setCell ⟨t, i, none⟩ x) n (wr.setCell ⟨t, i, none⟩ x).heap.size u V zss :=
  (h.only ((Only.refl (fun b => b = t) wr).setCell (p := ⟨t, i, none⟩) rfl x) (fun g hg e => game_row hT h.own (by decide) (by rw [hg, e])) (fun k hk g hg e => game_row hT (h.rows k hk).own (by decide) (by rw [hg, e]))).retop

theorem Half5.owner {gg cap : Nat} {x : Int} (h : Half5 n wr t vo vn vp V O zss P) (hl : O.length ≤ 1048576) (hx : Fits x)
    (hown1 : w1.ownsRow n 2 1 (.slice (some ⟨gg, 0, none⟩) (O.length + 1) cap) (O.length + 1) (O.map (Value.int .i64) ++ [.int .i64 x])) (hgrow : wr.grownBy w1 vo.ownBlock) (hat : vo.ownBlock = some gg ∨ wr.heap.size ≤ gg) :
    Half5 n (w1.setCell ⟨t, 0, none⟩ (.slice (some ⟨gg, 0, none⟩) (O.length + 1) cap)) t (.slice (some ⟨gg, 0, none⟩) (O.length + 1) cap) vn vp V (O ++ [x]) zss P ∧
      Only (fun b => n ≤ b) wr (w1.setCell ⟨t, 0, none⟩ (.slice (some ⟨gg, 0, none⟩) (O.length + 1) cap)) := by
  have hown := h.ints.own
  have hT1 := game_grown h.str hown (by decide) hgrow
  have hI : OwnInts w1 n w1.heap.size (.slice (some ⟨gg, 0, none⟩) (O.length + 1) cap) (O ++ [x]) := h.ints.snoc hx hl hown1
  have hR := (h.rows.only (Only.of_grown hgrow) (fun g h1 h2 => own_types h.rows.own hown g h1 h2) (fun k hk g h1 h2 => h.apart k hk g h1 h2)).retop
  have hP := (h.prio.only (Only.of_grown hgrow) (fun g h1 h2 => h.apo g h2 h1)).retop
  have hS : Only (fun b => b = t) w1 (w1.setCell ⟨t, 0, none⟩ (.slice (some ⟨gg, 0, none⟩) (O.length + 1) cap)) := Box2.set0_only _
  refine ⟨⟨h.base, (hT1.set 0 _).congr tri_set0, Half5.ints_set hT1 hI 0 _, Half5.rows_set hT1 hR 0 _, Half5.ints_set hT1 hP 0 _, fun i hi g hg hh => ?_, h.app, fun g hg hh => ?_⟩, ?_⟩
  · simp [Value.ownBlock] at hh
    subst hh
    rcases hat with h' | h'
    · exact h.apart i hi _ hg h'
    · have := (h.rows.rows i hi).top _ hg
      omega
  · simp [Value.ownBlock] at hg
    subst hg
    rcases hat with h' | h'
    · exact h.apo _ h' hh
    · have := h.prio.top _ hh
      omega
  · exact ((Only.of_grown hgrow).mono fun b hb => (hown.lt b hb).1).trans (hS.mono fun b hb => by rw [hb]; exact h.base)

theorem Half5.push {gg cap : Nat} {u : Value} {zs : List Int} {B D : Nat} (h : Half5 n wr t vo vn vp V O zss P) (hl : zss.length ≤ 1048576)
    (hu : OwnInts wr B D u zs) (hB : n ≤ B) (hapu : ∀ i, i < zss.length → ∀ g, u.ownBlock = some g → (V i).ownBlock ≠ some g) (hvu : ∀ g, u.ownBlock = some g → vo.ownBlock ≠ some g) (hpu : ∀ g, u.ownBlock = some g → vp.ownBlock ≠ some g)
    (hown3 : w1.ownsRow n 22 1 (.slice (some ⟨gg, 0, none⟩) (zss.length + 1) cap) (zss.length + 1) ((List.range zss.length).map V ++ [u])) (hgrow : wr.grownBy w1 vn.ownBlock) :
    Half5 n (w1.setCell ⟨t, 1, none⟩ (.slice (some ⟨gg, 0, none⟩) (zss.length + 1) cap)) t vo (.slice (some ⟨gg, 0, none⟩) (zss.length + 1) cap) vp (fun i => if i = zss.length then u else V i) O (zss ++ [zs]) P ∧
      Only (fun b => n ≤ b) wr (w1.setCell ⟨t, 1, none⟩ (.slice (some ⟨gg, 0, none⟩) (zss.length + 1) cap)) := by
  have hown := h.rows.own
  have hT3 := game_grown h.str hown (by decide) hgrow
  have hvo3 : OwnInts w1 n w1.heap.size vo O := (h.ints.only (Only.of_grown hgrow) (fun g h1 h2 => own_types hown h.ints.own g h2 h1)).retop
  have hvp3 : OwnInts w1 n w1.heap.size vp P := (h.prio.only (Only.of_grown hgrow) (fun g h1 h2 => own_types hown h.prio.own g h2 h1)).retop
  have hrows := (h.rows.push (w1 := w1) (hu.base hB) (fun i hi g h1 h3 => hapu i hi g h1 h3) hown3 (Only.of_grown hgrow) (by omega)).retop
  have hS : Only (fun b => b = t) w1 (w1.setCell ⟨t, 1, none⟩ (.slice (some ⟨gg, 0, none⟩) (zss.length + 1) cap)) := Box2.set1_only _
  refine ⟨⟨h.base, (hT3.set 1 _).congr tri_set1, Half5.ints_set hT3 hvo3 1 _, Half5.rows_set hT3 hrows 1 _, Half5.ints_set hT3 hvp3 1 _, fun i hi g hg => ?_, fun i hi g hg => ?_, h.apo⟩, ?_⟩
  · by_cases e : i = zss.length
    · subst e
      simp only [if_true] at hg
      exact hvu g hg
    · simp only [if_neg e] at hg
      exact h.apart i (by simp at hi; omega) g hg
  · by_cases e : i = zss.length
    · subst e
      simp only [if_true] at hg
      exact hpu g hg
    · simp only [if_neg e] at hg
      exact h.app i (by simp at hi; omega) g hg
  · exact ((Only.of_grown hgrow).mono fun b hb => (hown.lt b hb).1).trans (hS.mono fun b hb => by rw [hb]; exact h.base)

theorem Half5.prior {gg cap : Nat} {x : Int} (h : Half5 n wr t vo vn vp V O zss P) (hl : P.length ≤ 1048576) (hx : Fits x)
    (hown1 : w1.ownsRow n 2 1 (.slice (some ⟨gg, 0, none⟩) (P.length + 1) cap) (P.length + 1) (P.map (Value.int .i64) ++ [.int .i64 x])) (hgrow : wr.grownBy w1 vp.ownBlock) (hat : vp.ownBlock = some gg ∨ wr.heap.size ≤ gg) :
    Half5 n (w1.setCell ⟨t, 2, none⟩ (.slice (some ⟨gg, 0, none⟩) (P.length + 1) cap)) t vo vn (.slice (some ⟨gg, 0, none⟩) (P.length + 1) cap) V O zss (P ++ [x]) ∧
      Only (fun b => n ≤ b) wr (w1.setCell ⟨t, 2, none⟩ (.slice (some ⟨gg, 0, none⟩) (P.length + 1) cap)) := by
  have hown := h.prio.own
  have hT1 := game_grown h.str hown (by decide) hgrow
  have hI : OwnInts w1 n w1.heap.size (.slice (some ⟨gg, 0, none⟩) (P.length + 1) cap) (P ++ [x]) := h.prio.snoc hx hl hown1
  have hR := (h.rows.only (Only.of_grown hgrow) (fun g h1 h2 => own_types h.rows.own hown g h1 h2) (fun k hk g h1 h2 => h.app k hk g h1 h2)).retop
  have hO := (h.ints.only (Only.of_grown hgrow) (fun g h1 h2 => h.apo g h1 h2)).retop
  have hS : Only (fun b => b = t) w1 (w1.setCell ⟨t, 2, none⟩ (.slice (some ⟨gg, 0, none⟩) (P.length + 1) cap)) := (Only.refl (fun b => b = t) w1).setCell (p := ⟨t, 2, none⟩) rfl _
  refine ⟨⟨h.base, (hT1.set 2 _).congr tri_set2, Half5.ints_set hT1 hO 2 _, Half5.rows_set hT1 hR 2 _, Half5.ints_set hT1 hI 2 _, h.apart, fun i hi g hg hh => ?_, fun g hg hh => ?_⟩, ?_⟩
  · simp [Value.ownBlock] at hh
    subst hh
    rcases hat with h' | h'
    · exact h.app i hi _ hg h'
    · have := (h.rows.rows i hi).top _ hg
      omega
  · simp [Value.ownBlock] at hh
    subst hh
    rcases hat with h' | h'
    · exact h.apo _ hg h'
    · have := h.ints.top _ hg
      omega
  · exact ((Only.of_grown hgrow).mono fun b hb => (hown.lt b hb).1).trans (hS.mono fun b hb => by rw [hb]; exact h.base)
end

/-- The game that has grown. -/
theorem Half5.game {n t : Nat} {wr : World} {vo vn vp : Value} {V : Nat → Value} {O P : List Int} {zss : List (List Int)} (h : Half5 n wr t vo vn vp V O zss P) : OwnGame wr n wr.heap.size (.agg #[vo, vn, vp]) O zss P :=
  ⟨_, _, _, V, rfl, h.ints, h.rows, h.prio, h.apart, h.app, h.apo⟩
end

end Go.Proofs.Ytjnbpllalbfeiaa
