/-
  An arena that grows: a row is appended to the rows, a number to the numbers. No program text.
-/
import Derived.Test.YtaoagikipbcjpaaCopies
import Derived.Test.YtaoagikipbcjpaaPreds
import Derived.Deep.RegionLaw
import Derived.Deep.AppendLies
import Derived.Test.YtaoagikipbcjpaaMark
namespace Go.Proofs.Ytaoagikipbcjpaa
section
open Go.RowKit

theorem row_snoc {zss : List (List Int)} {zs : List Int} : row (zss ++ [zs]) zss.length = zs := by simp [row]
theorem row_snoc_old {zss : List (List Int)} {zs : List Int} {k : Nat} (h : k < zss.length) : row (zss ++ [zs]) k = row zss k := by simp [row, List.getElem?_append_left h]

/-- A row is appended: behind the outer append. -/
theorem OwnRows.push {w w1 : World} {B D D' : Nat} {v v' u : Value} {V : Nat → Value} {zss : List (List Int)} {zs : List Int} (h : OwnRows w B D v V zss) (hu : OwnInts w B D' u zs) (hap : ∀ i, i < zss.length → ∀ g, u.ownBlock = some g → (V i).ownBlock ≠ some g)
    (ho : w1.ownsRow B 27 1 v' (zss.length + 1) ((List.range zss.length).map V ++ [u])) (hg : Only (fun b => v.ownBlock = some b) w w1) (hl : zss.length + 1 ≤ 17592186044416) :
    OwnRows w1 B w1.heap.size v' (fun i => if i = zss.length then u else V i) (zss ++ [zs]) := by
  refine ⟨?_, fun g hg => (ho.lt g hg).2, by simpa using hl, fun k hk => ?_, fun i j hi hj hne g hg1 hg2 => ?_⟩
  · have e : (List.range (zss ++ [zs]).length).map (fun i => if i = zss.length then u else V i) = (List.range zss.length).map V ++ [u] := by
      simp only [List.length_append, List.length_cons, List.length_nil, List.range_succ, List.map_append, List.map_cons, List.map_nil, Nat.zero_add, if_true]
      congr 1
      exact List.map_congr_left fun i hi => by rw [if_neg (by have := List.mem_range.1 hi; omega)]
    rw [e]
    simpa using ho
  · by_cases e : k = zss.length
    · subst e
      simp only [if_true]
      rw [row_snoc]
      exact (hu.only hg (fun g h1 h2 => own_types h.own hu.own g h2 h1)).retop
    · have hk' : k < zss.length := by simp at hk; omega
      simp only [if_neg e]
      rw [row_snoc_old hk']
      exact ((h.rows k hk').only hg (fun g h1 h2 => own_types h.own (h.rows k hk').own g h2 h1)).retop
  · simp only [List.length_append, List.length_cons, List.length_nil] at hi hj
    by_cases e : i = zss.length
    · subst e
      simp only [if_true] at hg1
      simp only [if_neg (Ne.symm hne)] at hg2
      exact hap j (by omega) g hg1 hg2
    · simp only [if_neg e] at hg1
      by_cases e' : j = zss.length
      · subst e'
        simp only [if_true] at hg2
        exact hap i (by omega) g hg2 hg1
      · simp only [if_neg e'] at hg2
        exact h.apart i j (by omega) (by omega) hne g hg1 hg2

theorem OwnRows.nil (w : World) (B D : Nat) : OwnRows w B D (.slice none 0 0) (fun _ => .slice none 0 0) [] :=
  ⟨World.ownsRow_nil _ _ _ _, fun g hg => by simp [Value.ownBlock] at hg, by simp, fun k hk => absurd hk (by simp), fun i j hi => absurd hi (by simp)⟩
theorem OwnRows.retop {w : World} {B D : Nat} {v : Value} {V : Nat → Value} {zss : List (List Int)} (h : OwnRows w B D v V zss) : OwnRows w B w.heap.size v V zss :=
  ⟨h.own, fun g hg => (h.own.lt g hg).2, h.len, fun k hk => (h.rows k hk).retop, h.apart⟩
theorem OwnInts.base {w : World} {B B' D : Nat} {v : Value} {zs : List Int} (h : OwnInts w B D v zs) (hB : B' ≤ B) : OwnInts w B' D v zs := ⟨ownsRow_base h.own hB, h.top, h.len, h.fits⟩
theorem OwnRows.base {w : World} {B B' D : Nat} {v : Value} {V : Nat → Value} {zss : List (List Int)} (h : OwnRows w B D v V zss) (hB : B' ≤ B) : OwnRows w B' D v V zss :=
  ⟨ownsRow_base h.own hB, h.top, h.len, fun k hk => (h.rows k hk).base hB, h.apart⟩
theorem Only.of_grown {w w' : World} {r : Option Nat} (h : w.grownBy w' r) : Only (fun b => r = some b) w w' := ⟨h.os, h.tape, h.output, h.size, fun b hb hne => h.block b hb (fun e => hne e.symm)⟩

theorem take_snoc_rows {zss : List (List Int)} {k : Nat} (h : k < zss.length) : zss.take (k + 1) = zss.take k ++ [row zss k] := by
  rw [List.take_succ_eq_append_getElem h, row_eq h]

theorem Box2.not_own {w : World} {g : Nat} {t e : TypeId} {u v x : Value} {B size n : Nat} {xs : List Value} (h : Box2 w g t u v) (ho : w.ownsRow B e size x n xs) (hte : e ≠ t) : x.ownBlock ≠ some g := by
  intro hx
  rcases ho.2 with ⟨rfl, _⟩ | ⟨g1, _, _, rfl, _, h1, _⟩
  · simp [Value.ownBlock] at hx
  · simp [Value.ownBlock] at hx
    subst hx
    unfold Box2 at h
    rw [h] at h1
    simp at h1
    exact hte h1.2.symm

theorem Box2.only {w w' : World} {g : Nat} {t : TypeId} {u v : Value} {S : Nat → Prop} (h : Box2 w g t u v) (hk : Only S w w') (hs : ¬ S g) : Box2 w' g t u v := (hk.block g h.lt hs).trans h

/-- A struct's own box behind an append that wrote the row x. -/
theorem Box2.grown {w w' : World} {g : Nat} {t e : TypeId} {u v x : Value} {B size n : Nat} {xs : List Value} (h : Box2 w g t u v) (ho : w.ownsRow B e size x n xs) (hte : e ≠ t) (hg : w.grownBy w' x.ownBlock) : Box2 w' g t u v :=
  h.only (Only.of_grown hg) (h.not_own ho hte)

/-- What holds when k rows are copied: t: the copy's own struct, b: the argument's box. -/
structure Half2 (w wr : World) (t b : Nat) (vo sa sb : Value) (O : List Int) (zss : List (List Int)) : Prop where
  below : Below w.heap.size w wr
  box : Box2 wr b 30 sa sb
  own : ∃ vn V, Box2 wr t 30 vo vn ∧ OwnInts wr w.heap.size wr.heap.size vo O ∧ OwnRows wr w.heap.size wr.heap.size vn V zss ∧ ∀ i, i < zss.length → ∀ g, (V i).ownBlock = some g → vo.ownBlock ≠ some g

/-- A row u is appended to the rows: w2: behind the row's making, o: the one-element slice, w3: behind the append; then the new rows are stored into the struct. -/
theorem Half2.step {w wr w2 w3 : World} {t b gg cap : Nat} {o : Obj} {vo sa sb vn u : Value} {V : Nat → Value} {O zs : List Int} {zss : List (List Int)} (hbel : Below w.heap.size w wr) (hb : Box2 wr b 30 sa sb) (hT : Box2 wr t 30 vo vn)
    (hvo : OwnInts wr w.heap.size wr.heap.size vo O) (hvn : OwnRows wr w.heap.size wr.heap.size vn V zss) (hap : ∀ i, i < zss.length → ∀ g, (V i).ownBlock = some g → vo.ownBlock ≠ some g) (htw : w.heap.size ≤ t) (hbt : b ≠ t) (hl : zss.length ≤ 1048576)
    (h2 : Below wr.heap.size wr w2) (hu : OwnInts w2 wr.heap.size w2.heap.size u zs) (hown3 : w3.ownsRow w.heap.size 27 1 (.slice (some ⟨gg, 0, none⟩) (zss.length + 1) cap) (zss.length + 1) ((List.range zss.length).map V ++ [u])) (hgrow : (w2.alloc o).grownBy w3 vn.ownBlock) :
    Half2 w (w3.setCell ⟨t, 1, none⟩ (.slice (some ⟨gg, 0, none⟩) (zss.length + 1) cap)) t b vo sa sb O (zss ++ [zs]) := by
  have h2a : Below wr.heap.size wr (w2.alloc o) := h2.alloc h2.size o
  have hown : (w2.alloc o).ownsRow w.heap.size 27 1 vn zss.length ((List.range zss.length).map V) := ownsRow_only hvn.own (S := fun _ => False) (Only.of_below h2a) (fun _ _ h => h)
  have hT3 := (hT.below h2a).grown hown (by decide) hgrow
  have hb3 := (hb.below h2a).grown hown (by decide) hgrow
  have hvo3 : OwnInts w3 w.heap.size w3.heap.size vo O := ((hvo.below h2a).only (Only.of_grown hgrow) (fun g h1 h2 => own_types hown (hvo.below h2a).own g h2 h1)).retop
  have hu' : OwnInts (w2.alloc o) w.heap.size w2.heap.size u zs := (hu.below (below1 _ _)).base hbel.size
  have hlow : ∀ g, u.ownBlock = some g → wr.heap.size ≤ g := fun g hg => (hu.own.lt g hg).1
  have hrows := (hvn.below h2a).push (w1 := w3) hu' (fun i hi g h1 h3 => by have := (hvn.rows i hi).top g h3; have := hlow g h1; omega) hown3 (Only.of_grown hgrow) (by omega)
  have hS : Only (fun b => b = t) w3 (w3.setCell ⟨t, 1, none⟩ (.slice (some ⟨gg, 0, none⟩) (zss.length + 1) cap)) := Only.setCell (S := fun b => b = t) (Only.refl _ _) (p := ⟨t, 1, none⟩) rfl _
  refine ⟨?_, hb3.only hS hbt, _, _, hT3.set1 _, (hvo3.only hS (fun g hg e => hT3.not_own hvo3.own (by decide) (by rw [hg, e]))).retop, (hrows.only hS (fun g hg e => hT3.not_own hrows.own (by decide) (by rw [hg, e])) (fun k hk g hg e => hT3.not_own (hrows.rows k hk).own (by decide) (by rw [hg, e]))).retop, fun i hi g hg => ?_⟩
  · have h3 : Below w.heap.size w (w2.alloc o) := hbel.trans (h2a.mono hbel.size)
    exact (h3.trans ((Only.of_grown hgrow).below h3.size (fun g hg => (hown.lt g hg).1))).setCell htw _
  · by_cases e : i = zss.length
    · subst e
      simp only [if_true] at hg
      intro hh
      have := hvo.top g hh
      have := hlow g hg
      omega
    · simp only [if_neg e] at hg
      exact hap i (by simp at hi; omega) g hg
end

section
open Go.RowKit

theorem info_rows : (Try.prog.info? 27).map (fun i => (i.zero, i.size, i.bytes)) = some (some (.slice none 0 0), 1, 24) := by kernel_rfl

/-- A call hands back an arena of its own. -/
def GivesArena (w : World) (O : List Int) (zss : List (List Int)) (e : Ending) (w' : World) : Prop :=
  ∃ v, e = .returned v ∧ OwnArena w' w.heap.size w'.heap.size v O zss ∧ Below w.heap.size w w'

end

section
open Go.RowKit

theorem Box2.set0_only {w : World} {t : Nat} (x : Value) : Only (fun b => b = t) w (w.setCell ⟨t, 0, none⟩ x) := Only.setCell (S := fun b => b = t) (Only.refl _ _) (p := ⟨t, 0, none⟩) rfl _
theorem Box2.set1_only {w : World} {t : Nat} (x : Value) : Only (fun b => b = t) w (w.setCell ⟨t, 1, none⟩ x) := Only.setCell (S := fun b => b = t) (Only.refl _ _) (p := ⟨t, 1, none⟩) rfl _

/-- A number x is appended to the owners; then the new owners are stored into the struct. -/
theorem Half2.owner {w wr w1 : World} {t b gg cap : Nat} {ob : Obj} {vo sa sb vn : Value} {V : Nat → Value} {O : List Int} {x : Int} {zss : List (List Int)} (hbel : Below w.heap.size w wr) (hb : Box2 wr b 30 sa sb) (hT : Box2 wr t 30 vo vn)
    (hvo : OwnInts wr w.heap.size wr.heap.size vo O) (hvn : OwnRows wr w.heap.size wr.heap.size vn V zss) (hap : ∀ i, i < zss.length → ∀ g, (V i).ownBlock = some g → vo.ownBlock ≠ some g) (htw : w.heap.size ≤ t) (hbt : b ≠ t) (hl : O.length ≤ 1048576) (hx : Fits x)
    (hown1 : w1.ownsRow w.heap.size 2 1 (.slice (some ⟨gg, 0, none⟩) (O.length + 1) cap) (O.length + 1) (O.map (Value.int .i64) ++ [.int .i64 x])) (hgrow : (wr.alloc ob).grownBy w1 vo.ownBlock) (hat : vo.ownBlock = some gg ∨ gg = wr.heap.size + 1) :
    Half2 w (w1.setCell ⟨t, 0, none⟩ (.slice (some ⟨gg, 0, none⟩) (O.length + 1) cap)) t b (.slice (some ⟨gg, 0, none⟩) (O.length + 1) cap) sa sb (O ++ [x]) zss := by
  have h2a : Below wr.heap.size wr (wr.alloc ob) := below1 _ _
  have hown := (hvo.below h2a).own
  have hT1 := (hT.below h2a).grown hown (by decide) hgrow
  have hb1 := (hb.below h2a).grown hown (by decide) hgrow
  have hI : OwnInts w1 w.heap.size w1.heap.size (.slice (some ⟨gg, 0, none⟩) (O.length + 1) cap) (O ++ [x]) := by
    refine OwnInts.mk' (by simpa using hown1) (by simp; omega) fun k hk => ?_
    by_cases e : k < O.length
    · rw [show nth (O ++ [x]) k = nth O k from by simp [nth, List.getElem?_append_left e]]
      exact hvo.fits k e
    · have : k = O.length := by simp at hk; omega
      subst this
      rw [show nth (O ++ [x]) O.length = x from by simp [nth]]
      exact hx
  have hR := (hvn.below h2a).only (Only.of_grown hgrow) (fun g h1 h2 => own_types (hvn.below h2a).own hown g h1 h2) (fun k hk g h1 h2 => hap k hk g h1 h2)
  have hS := Box2.set0_only (w := w1) (t := t) (.slice (some ⟨gg, 0, none⟩) (O.length + 1) cap)
  refine ⟨?_, hb1.only hS hbt, _, V, hT1.set0 _, (hI.only hS (fun g hg e => hT1.not_own hI.own (by decide) (by rw [hg, e]))).retop, (hR.only hS (fun g hg e => hT1.not_own hR.own (by decide) (by rw [hg, e])) (fun k hk g hg e => hT1.not_own (hR.rows k hk).own (by decide) (by rw [hg, e]))).retop, fun i hi g hg hh => ?_⟩
  · have h3 : Below w.heap.size w (wr.alloc ob) := hbel.alloc hbel.size ob
    exact (h3.trans ((Only.of_grown hgrow).below h3.size (fun g hg => (hown.lt g hg).1))).setCell htw _
  · simp [Value.ownBlock] at hh
    subst hh
    rcases hat with h | h
    · exact hap i hi _ hg h
    · have := (hvn.rows i hi).top _ hg
      omega

def turnO (O : List Int) : List Int := O.map fun x => 1 - x
theorem turnO_len (O : List Int) : (turnO O).length = O.length := by simp [turnO]
theorem turnO_nth {O : List Int} {k : Nat} (h : k < O.length) : nth (turnO O) k = 1 - nth O k := by simp [turnO, nth, h]

open Classical in
noncomputable def turnedO (O : List Int) (zss : List (List Int)) : List Int := if ArenaP O zss then turnO O else []
open Classical in
noncomputable def turnedN (O : List Int) (zss : List (List Int)) : List (List Int) := if ArenaP O zss then zss else []

theorem ownArena_zero (w : World) (B D : Nat) : OwnArena w B D (.agg #[.slice none 0 0, .slice none 0 0]) [] [] := ⟨_, _, _, rfl, OwnInts.nil _ _ _, OwnRows.nil _ _ _, fun k hk => absurd hk (by simp)⟩

/-- k owners are exchanged in place. -/
structure Turn (w wr : World) (t r k : Nat) (vo vn : Value) (V : Nat → Value) (O : List Int) (zss : List (List Int)) : Prop where
  below : Below w.heap.size w wr
  box : Box2 wr t 30 vo vn
  res : Box2 wr r 30 (.slice none 0 0) (.slice none 0 0)
  own : ∃ P, P.length = O.length ∧ OwnInts wr w.heap.size wr.heap.size vo P ∧ ∀ i, i < O.length → nth P i = if i < k then 1 - nth O i else nth O i
  rows : OwnRows wr w.heap.size wr.heap.size vn V zss

theorem Turn.step {w wr : World} {t r k g n c : Nat} {vn : Value} {V : Nat → Value} {O : List Int} {zss : List (List Int)} (h : Turn w wr t r k (.slice (some ⟨g, 0, none⟩) n c) vn V O zss) (hn : n = O.length) (hk : k < O.length) (hf : Fits (1 - nth O k)) (hg : w.heap.size ≤ g) 
    (hap : ∀ i, i < zss.length → ∀ b, (V i).ownBlock = some b → b ≠ g) :
    Turn w (wr.setCell ⟨g, k, none⟩ (.int .i64 (1 - nth O k))) t r (k + 1) (.slice (some ⟨g, 0, none⟩) n c) vn V O zss := by
  obtain ⟨P, hl, ho, hm⟩ := h.own
  have hS : Only (fun b => b = g) wr (wr.setCell ⟨g, k, none⟩ (.int .i64 (1 - nth O k))) := Only.setCell (S := fun b => b = g) (Only.refl _ _) (p := ⟨g, k, none⟩) rfl _
  have htg : t ≠ g := fun e => h.box.not_own ho.own (by decide) (by simp [Value.ownBlock, e])
  have hrg : r ≠ g := fun e => h.res.not_own ho.own (by decide) (by simp [Value.ownBlock, e])
  refine ⟨h.below.setCell hg _, h.box.only hS htg, h.res.only hS hrg, ⟨P.set k (1 - nth O k), by simpa using hl, (ho.store (by omega) (by omega) hf).retop, fun i hi => ?_⟩, (h.rows.only hS (fun b hb e => own_types h.rows.own ho.own b hb (by simp [Value.ownBlock, e])) (fun i hi b hb e => hap i hi b hb e)).retop⟩
  rw [nth_set (by omega)]
  by_cases e : i = k
  · subst e; simp
  · rw [if_neg e, hm i hi]
    by_cases h' : i < k
    · rw [if_pos h', if_pos (by omega)]
    · rw [if_neg h', if_neg (by omega)]

theorem Turn.drew {w wr : World} {t r k : Nat} {vo vn : Value} {V : Nat → Value} {O : List Int} {zss : List (List Int)} (h : Turn w wr t r k vo vn V O zss) : Turn w wr.drew t r k vo vn V O zss := by
  have hb : Below wr.heap.size wr wr.drew := (Below.refl _ _).drew
  obtain ⟨P, hl, ho, hm⟩ := h.own
  exact ⟨h.below.drew, h.box.below hb, h.res.below hb, ⟨P, hl, (ho.below hb).retop, hm⟩, (h.rows.below hb).retop⟩

theorem turnO_take {O : List Int} {k : Nat} (h : k < O.length) : turnO (O.take (k + 1)) = turnO (O.take k) ++ [1 - nth O k] := by
  rw [List.take_succ_eq_append_getElem h, nth_eq h]; simp only [turnO, List.map_append, List.map_cons, List.map_nil]

theorem turned_size {O : List Int} {zss : List (List Int)} (h : sizeArena O zss ≤ 1048576) : sizeArena (turnedO O zss) (turnedN O zss) ≤ 1048576 := by
  unfold turnedO turnedN
  split
  · unfold sizeArena at *; rw [turnO_len]; exact h
  · simp [sizeArena, sumLen]
end

end Go.Proofs.Ytaoagikipbcjpaa
