/-
  An arena that grows, its parts named. No program text.
-/
import Derived.Test.YtokcinhopajniaaGreatDoorBase1
import Derived.WalkSmall
import Derived.Deep.RegionHeld3
import Derived.Laws.Closers25b
namespace Go.Proofs.YtokcinhopajniaaGreatDoor
section
section
open Go.RowKit

/-- t: the struct that grows, with the owners vo and the rows vn (row k is V k); b: the argument's box. -/
structure Half3 (w wr : World) (t b : Nat) (vo vn : Value) (V : Nat → Value) (sa sb : Value) (O : List Int) (zss : List (List Int)) : Prop where
  below : Below w.heap.size w wr
  box : Box2 wr b 30 sa sb
  str : Box2 wr t 30 vo vn
  ints : OwnInts wr w.heap.size wr.heap.size vo O
  rows : OwnRows wr w.heap.size wr.heap.size vn V zss
  apart : ∀ i, i < zss.length → ∀ g, (V i).ownBlock = some g → vo.ownBlock ≠ some g

theorem Half3.keep {w wr wr' : World} {t b : Nat} {vo vn : Value} {V : Nat → Value} {sa sb : Value} {O : List Int} {zss : List (List Int)} (h : Half3 w wr t b vo vn V sa sb O zss) (hb : Below wr.heap.size wr wr') : Half3 w wr' t b vo vn V sa sb O zss :=
  ⟨h.below.trans (hb.mono h.below.size), h.box.below hb, h.str.below hb, (h.ints.below hb).retop, (h.rows.below hb).retop, h.apart⟩

theorem Half3.owner {w wr w1 : World} {t b gg cap : Nat} {vo vn : Value} {V : Nat → Value} {sa sb : Value} {O : List Int} {x : Int} {zss : List (List Int)} (h : Half3 w wr t b vo vn V sa sb O zss) (htw : w.heap.size ≤ t) (hbt : b ≠ t) (hl : O.length ≤ 1048576) (hx : Fits x)
    (hown1 : w1.ownsRow w.heap.size 2 1 (.slice (some ⟨gg, 0, none⟩) (O.length + 1) cap) (O.length + 1) (O.map (Value.int .i64) ++ [.int .i64 x])) (hgrow : wr.grownBy w1 vo.ownBlock) (hat : vo.ownBlock = some gg ∨ wr.heap.size ≤ gg) :
    Half3 w (w1.setCell ⟨t, 0, none⟩ (.slice (some ⟨gg, 0, none⟩) (O.length + 1) cap)) t b (.slice (some ⟨gg, 0, none⟩) (O.length + 1) cap) vn V sa sb (O ++ [x]) zss := by
  have hown := h.ints.own
  have hT1 := h.str.grown hown (by decide) hgrow
  have hb1 := h.box.grown hown (by decide) hgrow
  have hI : OwnInts w1 w.heap.size w1.heap.size (.slice (some ⟨gg, 0, none⟩) (O.length + 1) cap) (O ++ [x]) := by
    refine OwnInts.mk' (by simpa using hown1) (by simp; omega) fun k hk => ?_
    by_cases e : k < O.length
    · rw [show nth (O ++ [x]) k = nth O k from by simp [nth, List.getElem?_append_left e]]
      exact h.ints.fits k e
    · have : k = O.length := by simp at hk; omega
      subst this
      rw [show nth (O ++ [x]) O.length = x from by simp [nth]]
      exact hx
  have hR := h.rows.only (Only.of_grown hgrow) (fun g h1 h2 => own_types h.rows.own hown g h1 h2) (fun k hk g h1 h2 => h.apart k hk g h1 h2)
  have hS := Box2.set0_only (w := w1) (t := t) (.slice (some ⟨gg, 0, none⟩) (O.length + 1) cap)
  refine ⟨?_, hb1.only hS hbt, hT1.set0 _, (hI.only hS (fun g hg e => hT1.not_own hI.own (by decide) (by rw [hg, e]))).retop, (hR.only hS (fun g hg e => hT1.not_own hR.own (by decide) (by rw [hg, e])) (fun k hk g hg e => hT1.not_own (hR.rows k hk).own (by decide) (by rw [hg, e]))).retop, fun i hi g hg hh => ?_⟩
  · exact (h.below.trans ((Only.of_grown hgrow).below h.below.size (fun g hg => (hown.lt g hg).1))).setCell htw _
  · simp [Value.ownBlock] at hh
    subst hh
    rcases hat with h' | h'
    · exact h.apart i hi _ hg h'
    · have := (h.rows.rows i hi).top _ hg
      omega

theorem Half3.push {w wr w3 : World} {t b gg cap : Nat} {vo vn u : Value} {V : Nat → Value} {sa sb : Value} {O zs : List Int} {zss : List (List Int)} {B D : Nat} (h : Half3 w wr t b vo vn V sa sb O zss) (htw : w.heap.size ≤ t) (hbt : b ≠ t) (hl : zss.length ≤ 1048576)
    (hu : OwnInts wr B D u zs) (hB : w.heap.size ≤ B) (hapu : ∀ i, i < zss.length → ∀ g, u.ownBlock = some g → (V i).ownBlock ≠ some g) (hvu : ∀ g, u.ownBlock = some g → vo.ownBlock ≠ some g)
    (hown3 : w3.ownsRow w.heap.size 27 1 (.slice (some ⟨gg, 0, none⟩) (zss.length + 1) cap) (zss.length + 1) ((List.range zss.length).map V ++ [u])) (hgrow : wr.grownBy w3 vn.ownBlock) :
    Half3 w (w3.setCell ⟨t, 1, none⟩ (.slice (some ⟨gg, 0, none⟩) (zss.length + 1) cap)) t b vo (.slice (some ⟨gg, 0, none⟩) (zss.length + 1) cap) (fun i => if i = zss.length then u else V i) sa sb O (zss ++ [zs]) := by
  have hown := h.rows.own
  have hT3 := h.str.grown hown (by decide) hgrow
  have hb3 := h.box.grown hown (by decide) hgrow
  have hvo3 : OwnInts w3 w.heap.size w3.heap.size vo O := (h.ints.only (Only.of_grown hgrow) (fun g h1 h2 => own_types hown h.ints.own g h2 h1)).retop
  have hrows := h.rows.push (w1 := w3) (hu.base hB) (fun i hi g h1 h3 => hapu i hi g h1 h3) hown3 (Only.of_grown hgrow) (by omega)
  have hS : Only (fun b => b = t) w3 (w3.setCell ⟨t, 1, none⟩ (.slice (some ⟨gg, 0, none⟩) (zss.length + 1) cap)) := Box2.set1_only _
  refine ⟨(h.below.trans ((Only.of_grown hgrow).below h.below.size (fun g hg => (hown.lt g hg).1))).setCell htw _, hb3.only hS hbt, hT3.set1 _, (hvo3.only hS (fun g hg e => hT3.not_own hvo3.own (by decide) (by rw [hg, e]))).retop, (hrows.only hS (fun g hg e => hT3.not_own hrows.own (by decide) (by rw [hg, e])) (fun k hk g hg e => hT3.not_own (hrows.rows k hk).own (by decide) (by rw [hg, e]))).retop, fun i hi g hg => ?_⟩
  by_cases e : i = zss.length
  · subst e
    simp only [if_true] at hg
    exact hvu g hg
  · simp only [if_neg e] at hg
    exact h.apart i (by simp at hi; omega) g hg

/-- The i-th row of the arena that S induces. -/
def inRow (S : List Int) (zss : List (List Int)) (i : Nat) : List Int := places S (row zss (nth S i).toNat) (row zss (nth S i).toNat).length
def inNK (S : List Int) (zss : List (List Int)) (k : Nat) : List (List Int) := (List.range k).map (inRow S zss)
def inOK (S : List Int) (O : List Int) (k : Nat) : List Int := (List.range k).map fun i => nth O (nth S i).toNat

theorem inNK_len (S : List Int) (zss : List (List Int)) (k : Nat) : (inNK S zss k).length = k := by simp [inNK]
theorem inOK_len (S O : List Int) (k : Nat) : (inOK S O k).length = k := by simp [inOK]
theorem inNK_succ (S : List Int) (zss : List (List Int)) (k : Nat) : inNK S zss (k + 1) = inNK S zss k ++ [inRow S zss k] := by simp [inNK, List.range_succ]
theorem inOK_succ (S O : List Int) (k : Nat) : inOK S O (k + 1) = inOK S O k ++ [nth O (nth S k).toNat] := by simp [inOK, List.range_succ]

/-- When InsideOf yields an arena. -/
def InsideP (O : List Int) (zss : List (List Int)) (S : List Int) : Prop := ArenaP O zss ∧ setB O.length S = true ∧ 0 < S.length ∧ ∀ i, i < S.length → 0 < (inRow S zss i).length

open Classical in
noncomputable def insideO (O : List Int) (zss : List (List Int)) (S : List Int) : List Int := if InsideP O zss S then inOK S O S.length else []
open Classical in
noncomputable def insideN (O : List Int) (zss : List (List Int)) (S : List Int) : List (List Int) := if InsideP O zss S then inNK S zss S.length else []
open Classical in
noncomputable def insideB (O : List Int) (zss : List (List Int)) (S : List Int) : Bool := decide (InsideP O zss S)

/-- A call hands back an arena of its own and a bool. -/
def GivesArenaB (w : World) (O : List Int) (zss : List (List Int)) (r : Bool) (e : Ending) (w' : World) : Prop :=
  ∃ v, e = .returned (.tuple #[v, .bool r]) ∧ OwnArena w' w.heap.size w'.heap.size v O zss ∧ Below w.heap.size w w'

theorem inside_no {O : List Int} {zss : List (List Int)} {S : List Int} (h : ¬ InsideP O zss S) : insideO O zss S = [] ∧ insideN O zss S = [] ∧ insideB O zss S = false := by
  unfold insideO insideN insideB
  rw [if_neg h, if_neg h]; exact ⟨rfl, rfl, by simp [h]⟩
theorem inside_yes {O : List Int} {zss : List (List Int)} {S : List Int} (h : InsideP O zss S) : insideO O zss S = inOK S O S.length ∧ insideN O zss S = inNK S zss S.length ∧ insideB O zss S = true := by
  unfold insideO insideN insideB
  rw [if_pos h, if_pos h]; exact ⟨rfl, rfl, by simp [h]⟩

theorem zero_stored {w wr : World} {r : Nat} (hb : Below w.heap.size w wr) (hr : w.heap.size ≤ r) : Below w.heap.size w ((wr.setCell ⟨r, 0, none⟩ (.slice none 0 0)).setCell ⟨r, 1, none⟩ (.slice none 0 0)) :=
  (hb.setCell (p := ⟨r, 0, none⟩) hr _).setCell (p := ⟨r, 1, none⟩) hr _
end

section
open Go.RowKit

/-- v is reached from F by at least one step, every vertex stepped to being one of I. -/
inductive Rch (zss : List (List Int)) (I : Nat → Bool) (F : List Int) : Nat → Prop
  | one {u v : Nat} : (u : Int) ∈ F → (v : Int) ∈ row zss u → I v = true → Rch zss I F v
  | more {u v : Nat} : Rch zss I F u → (v : Int) ∈ row zss u → I v = true → Rch zss I F v

/-- How many of the first n are not marked. -/
def cnt (xs : Nat → Bool) : Nat → Nat
  | 0 => 0
  | k + 1 => cnt xs k + if xs k = true then 0 else 1

theorem cnt_le (xs : Nat → Bool) (n : Nat) : cnt xs n ≤ n := by
  induction n with
  | zero => simp [cnt]
  | succ k ih => simp only [cnt]; split <;> omega

theorem cnt_congr {xs ys : Nat → Bool} {n : Nat} (h : ∀ i, i < n → xs i = ys i) : cnt xs n = cnt ys n := by
  induction n with
  | zero => rfl
  | succ k ih => simp only [cnt]; rw [ih (fun i hi => h i (by omega)), h k (by omega)]

/-- One more mark. -/
def mark1 (xs : Nat → Bool) (v : Nat) (b : Bool) : Nat → Bool := fun i => if i = v then b else xs i

theorem cnt_mark {xs : Nat → Bool} {n v : Nat} (hv : v < n) (hx : xs v = false) : cnt (mark1 xs v true) n + 1 = cnt xs n := by
  induction n with
  | zero => omega
  | succ k ih =>
    simp only [cnt]
    by_cases e : v = k
    · subst e
      have h1 : cnt (mark1 xs v true) v = cnt xs v := cnt_congr fun i hi => by simp [mark1, show i ≠ v from by omega]
      have h2 : mark1 xs v true v = true := by simp [mark1]
      rw [h1, h2, hx]; simp
    · have h1 := ih (by omega)
      have h2 : mark1 xs v true k = xs k := by simp [mark1, show k ≠ v from fun h => e h.symm]
      rw [h2]; omega

theorem mark1_self (xs : Nat → Bool) (v : Nat) (b : Bool) : mark1 xs v b v = b := by simp [mark1]
theorem mark1_mono {xs : Nat → Bool} {v i : Nat} (h : xs i = true) : mark1 xs v true i = true := by
  unfold mark1; split <;> simp_all

/-- The model's search: xs is marked, todo is still to be looked at. -/
structure Bey0 (zss : List (List Int)) (I : Nat → Bool) (F : List Int) (n : Nat) (xs : Nat → Bool) (todo : List Int) : Prop where
  snd : ∀ v, v < n → xs v = true → Rch zss I F v
  tin : ∀ t ∈ todo, ∃ u : Nat, t = (u : Int) ∧ u < n ∧ ((u : Int) ∈ F ∨ xs u = true)
  cmp : ∀ u : Nat, u < n → ((u : Int) ∈ F ∨ xs u = true) → (u : Int) ∈ todo ∨ ∀ v : Nat, (v : Int) ∈ row zss u → I v = true → xs v = true
  bnd : todo.length + cnt xs n ≤ F.length + n

/-- The same inside a round: p was taken, q of its successors have been looked at. -/
structure Bey (zss : List (List Int)) (I : Nat → Bool) (F : List Int) (n : Nat) (xs : Nat → Bool) (todo : List Int) (p q : Nat) : Prop where
  snd : ∀ v, v < n → xs v = true → Rch zss I F v
  tin : ∀ t ∈ todo, ∃ u : Nat, t = (u : Int) ∧ u < n ∧ ((u : Int) ∈ F ∨ xs u = true)
  cmp : ∀ u : Nat, u < n → ((u : Int) ∈ F ∨ xs u = true) → (u : Int) ∈ todo ∨ u = p ∨ ∀ v : Nat, (v : Int) ∈ row zss u → I v = true → xs v = true
  pin : (p : Int) ∈ F ∨ xs p = true
  prt : ∀ j, j < q → ∀ v : Nat, nth (row zss p) j = (v : Int) → I v = true → xs v = true
  bnd : todo.length + 1 + cnt xs n ≤ F.length + n

theorem Bey0.start {zss : List (List Int)} {I : Nat → Bool} {F : List Int} {n : Nat} (hF : ∀ f ∈ F, ∃ u : Nat, f = (u : Int) ∧ u < n) : Bey0 zss I F n (fun _ => false) F :=
  ⟨fun v _ h => by simp at h, fun t ht => (hF t ht).elim fun u hu => ⟨u, hu.1, hu.2, .inl (hu.1 ▸ ht)⟩,
    fun u _ h => by
      rcases h with h | h
      · exact .inl h
      · simp at h, by have := cnt_le (fun _ => false) n; omega⟩

theorem Bey0.take {zss : List (List Int)} {I : Nat → Bool} {F : List Int} {n : Nat} {xs : Nat → Bool} {ts : List Int} {p : Nat} (h : Bey0 zss I F n xs (ts ++ [(p : Int)])) : p < n ∧ Bey zss I F n xs ts p 0 := by
  obtain ⟨u, hu, hun, hx⟩ := h.tin (p : Int) (by simp)
  have : p = u := by omega
  subst this
  refine ⟨hun, h.snd, fun t ht => h.tin t (by simp [ht]), fun u hu hx => ?_, hx, fun j hj => by omega, by have := h.bnd; simp at this; omega⟩
  rcases h.cmp u hu hx with hm | hm
  · rcases List.mem_append.1 hm with hm | hm
    · exact .inl hm
    · simp at hm; exact .inr (.inl (by omega))
  · exact .inr (.inr hm)

theorem Bey.skip {zss : List (List Int)} {I : Nat → Bool} {F : List Int} {n : Nat} {xs : Nat → Bool} {ts : List Int} {p q u : Nat} (h : Bey zss I F n xs ts p q) (hu : nth (row zss p) q = (u : Int)) (hs : I u = false ∨ xs u = true) : Bey zss I F n xs ts p (q + 1) :=
  ⟨h.snd, h.tin, h.cmp, h.pin, fun j hj v hv hI => by
    by_cases e : j = q
    · subst e
      have : u = v := by omega
      subst this
      rcases hs with hs | hs
      · rw [hs] at hI; cases hI
      · exact hs
    · exact h.prt j (by omega) v hv hI, h.bnd⟩

theorem Bey.push {zss : List (List Int)} {I : Nat → Bool} {F : List Int} {n : Nat} {xs : Nat → Bool} {ts : List Int} {p q u : Nat} (h : Bey zss I F n xs ts p q) (hp : p < n) (hq : q < (row zss p).length) (hu : nth (row zss p) q = (u : Int)) (hun : u < n) (hI : I u = true) (hx : xs u = false) :
    Bey zss I F n (mark1 xs u true) (ts ++ [(u : Int)]) p (q + 1) := by
  have hmem : (u : Int) ∈ row zss p := by rw [← hu]; exact nth_mem hq
  refine ⟨fun v hv hm => ?_, fun t ht => ?_, fun v hv hm => ?_, ?_, fun j hj v hv hIv => ?_, ?_⟩
  · by_cases e : v = u
    · subst e
      rcases h.pin with hf | hf
      · exact .one hf hmem hI
      · exact .more (h.snd p hp hf) hmem hI
    · exact h.snd v hv (by simpa [mark1, e] using hm)
  · rcases List.mem_append.1 ht with ht | ht
    · obtain ⟨w, h1, h2, h3⟩ := h.tin t ht
      exact ⟨w, h1, h2, h3.imp_right mark1_mono⟩
    · simp at ht
      exact ⟨u, ht, hun, .inr (mark1_self _ _ _)⟩
  · by_cases e : v = u
    · subst e; exact .inl (by simp)
    · have hm' : (v : Int) ∈ F ∨ xs v = true := hm.imp_right fun hh => by simpa [mark1, e] using hh
      rcases h.cmp v hv hm' with h1 | h1 | h1
      · exact .inl (List.mem_append.2 (.inl h1))
      · exact .inr (.inl h1)
      · exact .inr (.inr fun z hz hIz => mark1_mono (h1 z hz hIz))
  · exact h.pin.imp_right mark1_mono
  · by_cases e : j = q
    · subst e
      have : u = v := by omega
      subst this
      exact mark1_self _ _ _
    · exact mark1_mono (h.prt j (by omega) v hv hIv)
  · have h1 := cnt_mark hun hx
    have h2 := h.bnd
    simp
    omega

theorem Bey.done {zss : List (List Int)} {I : Nat → Bool} {F : List Int} {n : Nat} {xs : Nat → Bool} {ts : List Int} {p q : Nat} (h : Bey zss I F n xs ts p q) (hq : (row zss p).length ≤ q) : Bey0 zss I F n xs ts :=
  ⟨h.snd, h.tin, fun u hu hx => by
    rcases h.cmp u hu hx with h1 | h1 | h1
    · exact .inl h1
    · subst h1
      refine .inr fun v hv hI => ?_
      obtain ⟨i, hi, he⟩ := mem_nth.1 hv
      exact h.prt i (by omega) v he hI
    · exact .inr h1, by have := h.bnd; omega⟩

/-- At the end all that is reached is marked. -/
theorem Bey0.all {zss : List (List Int)} {I : Nat → Bool} {F : List Int} {n : Nat} {xs : Nat → Bool} (h : Bey0 zss I F n xs []) (hin : ∀ u : Nat, u < n → ∀ v : Nat, (v : Int) ∈ row zss u → v < n) (hF : ∀ f ∈ F, ∃ u : Nat, f = (u : Int) ∧ u < n) (v : Nat) (hv : v < n) : xs v = true ↔ Rch zss I F v := by
  refine ⟨h.snd v hv, fun hr => ?_⟩
  have key : ∀ v, Rch zss I F v → v < n ∧ xs v = true := by
    intro v hr
    induction hr with
    | @one u v hf hm hI =>
      obtain ⟨u', h1, h2⟩ := hF _ hf
      have : u = u' := by omega
      subst this
      rcases h.cmp u h2 (.inl hf) with hh | hh
      · cases hh
      · exact ⟨hin u h2 v hm, hh v hm hI⟩
    | @more u v _ hm hI ih =>
      rcases h.cmp u ih.1 (.inr ih.2) with hh | hh
      · cases hh
      · exact ⟨hin u ih.1 v hm, hh v hm hI⟩
  exact (key v hr).2

/-- What is marked, rising. -/
def markedK (xs : Nat → Bool) : Nat → List Int
  | 0 => []
  | k + 1 => markedK xs k ++ if xs k = true then [(k : Int)] else []

theorem markedK_len (xs : Nat → Bool) (k : Nat) : (markedK xs k).length ≤ k := by
  induction k with
  | zero => simp [markedK]
  | succ k ih => simp only [markedK]; split <;> simp <;> omega

theorem markedK_mem (xs : Nat → Bool) (k : Nat) (x : Int) : x ∈ markedK xs k ↔ ∃ v : Nat, x = (v : Int) ∧ v < k ∧ xs v = true := by
  induction k with
  | zero => simp [markedK]
  | succ k ih =>
    simp only [markedK, List.mem_append, ih]
    constructor
    · rintro (⟨v, h1, h2, h3⟩ | h)
      · exact ⟨v, h1, by omega, h3⟩
      · split at h
        · simp at h; exact ⟨k, h, by omega, by assumption⟩
        · simp at h
    · rintro ⟨v, h1, h2, h3⟩
      by_cases e : v = k
      · subst e; right; rw [if_pos h3]; simp [h1]
      · exact .inl ⟨v, h1, by omega, h3⟩

theorem markedK_congr {xs ys : Nat → Bool} {n : Nat} (h : ∀ i, i < n → xs i = ys i) : markedK xs n = markedK ys n := by
  induction n with
  | zero => rfl
  | succ k ih => simp only [markedK]; rw [ih (fun i hi => h i (by omega)), h k (by omega)]

theorem markedK_fits (xs : Nat → Bool) (k : Nat) (hk : k ≤ 17592186044416) : ∀ j, j < (markedK xs k).length → Fits (nth (markedK xs k) j) := fun j hj => by
  obtain ⟨v, h1, h2, _⟩ := (markedK_mem xs k _).1 (nth_mem hj)
  unfold Fits; omega

open Classical in
/-- Reached from F by any number of steps. -/
noncomputable def reachM (zss : List (List Int)) (F : List Int) : Nat → Bool := fun v => decide ((v : Int) ∈ F ∨ Rch zss (fun _ => true) F v)

open Classical in
/-- The value of ReachOf. -/
noncomputable def reachL (O : List Int) (zss : List (List Int)) (F : List Int) : List Int := if ArenaP O zss ∧ setB O.length F = true then markedK (reachM zss F) zss.length else []
end
end

section
open Go.RowKit

theorem info_bool : (Tryz.prog.info? 4).map (fun i => (i.zero, i.size, i.bytes)) = some (some (.bool false), 1, 1) := by kernel_rfl

/-- What a row of marks reads as. -/
def marksV (xs : Nat → Bool) : Nat → Value := fun i => .bool (xs i)

theorem marks_set {w : World} {b n v : Nat} {t : TypeId} {xs : Nat → Bool} {c : Bool} (h : w.rowIs b t n (marksV xs)) : (w.setCell ⟨b, v, none⟩ (.bool c)).rowIs b t n (marksV (mark1 xs v c)) := by
  refine (h.set v _).congr fun i _ => ?_
  simp only [marksV, mark1]
  by_cases e : i = v
  · subst e; simp
  · simp [e]

end

section
open Go.RowKit

theorem rowIs_only {S : Nat → Prop} {w w' : World} {g n : Nat} {t : TypeId} {f : Nat → Value} (h : w.rowIs g t n f) (hk : Only S w w') (hs : ¬ S g) : w'.rowIs g t n f := h.of_block (hk.block g h.lt hs)

theorem own_top {w : World} {B n : Nat} {e : TypeId} {v : Value} {xs : List Value} (h : w.ownsRow B e 1 v n xs) (hn : 0 < n) : ∃ g cap, v = .slice (some ⟨g, 0, none⟩) n cap ∧ n ≤ cap ∧ cap ≤ maxLen ∧ B ≤ g := by
  rcases h.2 with ⟨_, h0⟩ | ⟨g, cap, cur, hv, hg, _, hc, hm, _⟩
  · omega
  · exact ⟨g, cap, hv, hc, hm, hg⟩

open Classical in
/-- How many cells of a block of marks are not set. -/
noncomputable def cntW (w : World) (b n : Nat) : Nat := cnt (fun k => decide (w.cell? ⟨b, k, none⟩ = some (.bool true))) n

theorem cntW_of {w : World} {b n : Nat} {t : TypeId} {xs : Nat → Bool} (h : w.rowIs b t n (marksV xs)) : cntW w b n = cnt xs n := by
  refine cnt_congr fun i hi => ?_
  have hc := h.cell hi
  rw [hc]
  by_cases hb : xs i = true
  · simp [marksV, hb]
  · have hb' : xs i = false := by simpa using hb
    simp [marksV, hb']

theorem own_shape {w : World} {B n : Nat} {e : TypeId} {v : Value} {xs : List Value} (h : w.ownsRow B e 1 v n xs) : ∃ a c, v = .slice a n c := by
  rcases h.2 with ⟨hv, h0⟩ | ⟨g, cap, cur, hv, _⟩
  · exact ⟨_, _, by rw [hv, h0]⟩
  · exact ⟨_, _, hv⟩

def lenOf : Value → Nat
  | .slice _ n _ => n
  | _ => 0

theorem lenOf_own {w : World} {B n : Nat} {e : TypeId} {v : Value} {xs : List Value} (h : w.ownsRow B e 1 v n xs) : lenOf v = n := by
  rcases h.2 with ⟨hv, h0⟩ | ⟨g, cap, cur, hv, _⟩
  · rw [hv, h0]; rfl
  · rw [hv]; rfl

open Classical in
/-- What l1Beyond marks. -/
noncomputable def beyM (zss : List (List Int)) (I : Nat → Bool) (F : List Int) : Nat → Bool := fun v => decide (Rch zss I F v)

set_option maxHeartbeats 4000000 in
set_option maxRecDepth 100000 in
theorem l1Beyond_is {w : World} {an aF : Option Addr} {A : Nat → Option Addr} {C : Nat → Nat} {zss : List (List Int)} {F : List Int} {I : Nat → Bool} {bI : Nat} (cn cF : Nat)
    (hN : RowsAt w an A C zss) (hI : w.rowIs bI 4 zss.length (marksV I)) (hF : IntsAt w aF F) (hn : zss.length ≤ 256) (hFl : F.length ≤ 256) (hl : ∀ u, u < zss.length → (row zss u).length ≤ 16)
    (hFn : ∀ f ∈ F, ∃ u : Nat, f = (u : Int) ∧ u < zss.length) (hin : ∀ u : Nat, u < zss.length → ∀ x ∈ row zss u, ∃ v : Nat, x = (v : Int) ∧ v < zss.length) :
    Calls Tryz.prog 50 #[.slice an zss.length cn, .slice (some ⟨bI, 0, none⟩) zss.length zss.length, .slice aF F.length cF] w fun e w' => e = .returned (.slice (some ⟨w.heap.size, 0, none⟩) zss.length zss.length) ∧
      w'.rowIs w.heap.size 4 zss.length (marksV (beyM zss I F)) ∧ Below w.heap.size w w' := by
  obtain ⟨j0, hj, hj0, hj1, hj2⟩ := info_parts info_int
  have hmk := run_make_row' (P := Tryz.prog) 84 4 (.bool false) 1 Tryz.underlying84 info_bool rfl .i64 .i64 zss.length (by omega) (by omega)
  have HNi := Lib.hid hN
  have HII := Lib.hid hI
  have hIl := hI.lt
  obtain ⟨w1, hw1⟩ : ∃ w1, w1 = w.alloc (.cells (madeCells #[.bool false] zss.length) 4) := ⟨_, rfl⟩
  have B1 : Hid (Below w.heap.size w w1) := by rw [hw1]; exact below1 _ _
  have R1 : Hid (w1.rowIs w.heap.size 4 zss.length (marksV fun _ => false)) := by rw [hw1]; exact (World.rowIs_made _ _ _ _).congr (fun i _ => by simp [marksV])
  have hs1 : w1.heap.size = w.heap.size + 1 := by rw [hw1]; simp
  have HC := Lib.hid (l1Copy_is cF (hF.below B1.out))
  have HL := Lib.hid hl
  have HIN := Lib.hid hin
  have HFN := Lib.hid hFn
  have H0 := Lib.hid (Bey0.start (zss := zss) (I := I) (n := zss.length) hFn)
  have HW1 := Lib.hid hw1
  clear hN hI hF hl hin hFn hw1
  go_enter Tryz.func50, Tryz.ntmps50
  go_wp2_with fail
  rw [← HW1.out]
  refine HC.out.mono ?_
  rintro e w2 ⟨u2, rfl, hg, hb⟩
  have B2 := Lib.hid (B1.out.trans (hb.mono B1.out.size))
  have R2 := Lib.hid (rowIs_only R1.out (S := fun _ => False) (Only.of_below hb) (fun h => h))
  have U2 : Hid (w2.ownsRow (w.heap.size + 1) 2 1 u2 F.length (F.map (Value.int .i64))) := by rw [← hs1]; exact hg.own
  clear hg hb hmk hs1
  go_wp2
  go_loopw [8] (fun u wr => ∃ uu ts xs, uu = u ∧ Hid (Bey0 zss I F zss.length xs ts) ∧ Hid (wr.ownsRow (w.heap.size + 1) 2 1 uu ts.length (ts.map (Value.int .i64))) ∧ Hid (wr.rowIs w.heap.size 4 zss.length (marksV xs)) ∧ Hid (Below w.heap.size w wr)) (fun u wr => 2 * cntW wr w.heap.size zss.length + lenOf u)
  case atStart => exact ⟨_, F, _, rfl, H0, U2, R2, B2⟩
  case round =>
    clear H0 U2 R2 B2 B1 R1
    obtain ⟨uu, ts, xs, hue, HBY, HU, HR, HB⟩ := hrel
    subst hue
    rcases List.eq_nil_or_concat ts with rfl | ⟨ts', t, rfl⟩
    · have hall := HBY.out.all (fun u hu v hv => by obtain ⟨v', h1, h2⟩ := HIN.out u hu _ hv; omega) HFN.out
      have hfin : Hid (wr.rowIs w.heap.size 4 zss.length (marksV (beyM zss I F))) := HR.out.congr fun i hi => by
        have := hall i hi
        by_cases hb : Rch zss I F i
        · simp [marksV, beyM, hb, this.2 hb]
        · have hb' : xs i = false := by cases hx : xs i; rfl; exact absurd (this.1 hx) hb
          simp [marksV, beyM, hb, hb']
      obtain ⟨ua, uc, hus⟩ := own_shape HU.out
      subst hus
      clear hall HU
      go_wp2
      go_ret
      exact ⟨rfl, hfin.out, HB.out⟩
    · simp only [List.concat_eq_append] at HBY HU ⊢
      obtain ⟨p, hp, _⟩ := HBY.out.tin t (by simp)
      subst hp
      obtain ⟨hpn, hb⟩ := HBY.out.take
      have HBE := Lib.hid hb
      clear hb
      have hM : Hid (2 * cntW wr w.heap.size zss.length + lenOf uu = 2 * cnt xs zss.length + (ts'.length + 1)) := by rw [cntW_of HR.out, lenOf_own HU.out]; simp [Hid]
      obtain ⟨M, hMM⟩ : ∃ M, M = 2 * cntW wr w.heap.size zss.length + lenOf uu := ⟨_, rfl⟩
      have hM1 : 2 * cnt xs zss.length + ts'.length + 1 ≤ M := by rw [hMM, hM.out]; omega
      have HMM := Lib.hid hMM
      clear hM hMM HBY
      have hU : wr.ownsRow (w.heap.size + 1) 2 1 uu (ts'.length + 1) (ts'.map (Value.int .i64) ++ [.int .i64 p]) := by have := HU.out; simpa using this
      obtain ⟨g, cap, hus, hc1, hc2, hgb⟩ := own_top hU (by omega)
      subst hus
      have hlast := hU.cellAt ts'.length (by omega)
      have hlast' : wr.cell? ⟨g, ts'.length, none⟩ = some (.int .i64 p) := by rw [hlast]; simp
      have HP := Lib.hid (ownsRow_pop (by simp) hU)
      clear HU hU hlast
      have hbn := HBE.out.bnd
      have hcl := cnt_le xs zss.length
      obtain ⟨bN, offN, ha, hc⟩ := (HNi.out.below HB.out).cell (by omega)
      subst ha
      clear hc
      go_wp2
      obtain ⟨wo, hwo⟩ : ∃ wo, wo = wr := ⟨_, rfl⟩
      go_loopw [8, 10] (fun u j wi => ∃ uu q ts xs, uu = u ∧ q ≤ (row zss p).length ∧ j = .int .i64 q ∧ Hid (Bey zss I F zss.length xs ts p q) ∧ Hid (wi.ownsRow (w.heap.size + 1) 2 1 uu ts.length (ts.map (Value.int .i64))) ∧ Hid (wi.rowIs w.heap.size 4 zss.length (marksV xs)) ∧ Hid (Below w.heap.size w wi) ∧ 2 * cnt xs zss.length + ts.length + 1 ≤ M) (fun _ j _ => (row zss p).length - (intOf j).toNat)
      case atStart => exact ⟨_, 0, ts', xs, rfl, Nat.zero_le _, rfl, HBE, HP, HR, HB, hM1⟩
      case round =>
        clear HBE HP hM1 hlast' hbn hcl HR HB
        subst hwo
        obtain ⟨uu, q, ts, xs, hue, hq, rfl, HBE, HU, HR, HB, hM1⟩ := hrel
        subst hue
        have N1 := Lib.hid (HNi.out.below HB.out)
        obtain ⟨bn, offn, ha, hc⟩ := N1.out.cell (by omega)
        obtain ⟨rfl, rfl⟩ : bN = bn ∧ offN = offn := by simpa using ha
        have hcn := hc p hpn
        clear hc ha
        have hl16 := HL.out p hpn
        have hi2 : (p : Int) < zss.length := by omega
        by_cases hltq : q < (row zss p).length
        · obtain ⟨b3, off3, ha3, hc3⟩ := (N1.out.rows p hpn).cell (by omega)
          have hck3 := hc3 q hltq
          rw [ha3] at hcn
          obtain ⟨x, hx, hxn⟩ := HIN.out p hpn _ (nth_mem hltq)
          rw [hx] at hck3
          have HX := Lib.hid hx
          clear hx hc3
          have hi4 : (q : Int) < (row zss p).length := by omega
          have hi5 : (x : Int) < zss.length := by omega
          have hcI := (rowIs_below HII.out HB.out).cell hxn
          have hcO := HR.out.cell hxn
          have hfO := HR.out.frozen x
          have hbn := HBE.out.bnd
          have hcl := cnt_le xs zss.length
          cases hIx : I x with
          | false =>
            have HS := Lib.hid (HBE.out.skip HX.out (.inl hIx))
            rw [marksV, hIx] at hcI
            clear hIx
            go_wp2
            go_roundw
            case rel => exact ⟨_, q + 1, ts, xs, rfl, by omega, by go_num, HS, HU, HR, HB, hM1⟩
            case measure => simp [intOf]; omega
          | true =>
            cases hxx : xs x with
            | true =>
              have HS := Lib.hid (HBE.out.skip HX.out (.inr hxx))
              rw [marksV, hIx] at hcI
              rw [marksV, hxx] at hcO
              clear hIx hxx
              go_wp2
              go_roundw
              case rel => exact ⟨_, q + 1, ts, xs, rfl, by omega, by go_num, HS, HU, HR, HB, hM1⟩
              case measure => simp [intOf]; omega
            | false =>
              have HS := Lib.hid (HBE.out.push hpn hltq HX.out hxn hIx hxx)
              have hcm := cnt_mark hxn hxx
              rw [marksV, hIx] at hcI
              rw [marksV, hxx] at hcO
              clear hIx hxx
              have O1 : Only (fun b => b = w.heap.size) wr (wr.setCell ⟨w.heap.size, x, none⟩ (.bool true)) := (Only.refl (fun b => b = w.heap.size) wr).setCell (p := ⟨w.heap.size, x, none⟩) rfl _
              have HU1 := Lib.hid (ownsRow_only HU.out O1 (fun g hg e => by have := (HU.out.lt g hg).1; omega))
              have HR1 := Lib.hid (marks_set (v := x) (c := true) HR.out)
              have HB1 := Lib.hid (HB.out.setCell (p := ⟨w.heap.size, x, none⟩) (Nat.le_refl _) (.bool true))
              have hsz := HB1.out.size
              have hlen : (wr.setCell ⟨w.heap.size, x, none⟩ (.bool true)).heap.size = wr.heap.size := by simp [World.setCell]
              clear O1
              go_wp2_with (at_builtin; refine wpList_append_own_at _ rfl _ _ 27 rfl (w.heap.size + 1) 2 j0 (.int .i64 0) 1 8 Tryz.underlying27 hj hj0 hj1 hj2 rfl (by decide) _ _ _ rfl (HU1.out.alloc _) ⟨wr.heap.size, 0, none⟩ 1 1 [.int .i64 x] rfl rfl ?c1 ?c2 ?c3 ?c4 ?c5 ?_)
              case c1 => have h1 := cell_one_new (wr.setCell ⟨w.heap.size, x, none⟩ (.bool true)) (.int .i64 x) 2; rw [hlen] at h1; exact h1
              case c2 => intro u hu; simp at hu; subst hu; rfl
              case c3 => unfold maxLen; omega
              case c4 => omega
              case c5 => simp; omega
              · intro v' w7 hown' hgrow _ _
                have HBn := Lib.hid ((HB1.out.alloc HB1.out.size _).grown hgrow (by simp; omega) (fun g hg => by have := (HU1.out.lt g hg).1; omega))
                have HRn := Lib.hid (rowIs_only (rowIs_below HR1.out (below1 _ _)) (Only.of_grown hgrow) (fun e => by have := (HU1.out.lt _ e).1; omega))
                have e1 : (ts ++ [(x : Int)]).length = ts.length + 1 := by simp
                have e2 : (ts ++ [(x : Int)]).map (Value.int .i64) = ts.map (Value.int .i64) ++ [.int .i64 x] := by simp
                have HOn := Lib.hid hown'
                rw [← e1, ← e2] at HOn
                clear hown' hgrow e1 e2
                go_wp2
                go_roundw
                case rel => exact ⟨_, q + 1, _, _, rfl, by omega, by go_num, HS, HOn, HRn, HBn, by simp; omega⟩
                case measure => simp [intOf]; omega
        · have HD := Lib.hid (HBE.out.done (by omega))
          have hi4 : ¬ (q : Int) < (row zss p).length := by omega
          have hi5 : ¬ q < (row zss p).length := hltq
          go_wp2
          go_roundw
          case rel => exact ⟨_, ts, xs, rfl, HD, HU, HR, HB⟩
          case measure => rw [← HMM.out, cntW_of HR.out, lenOf_own HU.out]; omega
end

section
section
open Go.RowKit

/-- One call after another; what each leaves behind is appended. -/
def dfsL (step : (Nat → Bool) → Nat → (Nat → Bool) × List Int) : (Nat → Bool) → List Int → (Nat → Bool) × List Int
  | o, [] => (o, [])
  | o, u :: us => ((dfsL step (step o u.toNat).1 us).1, (step o u.toNat).2 ++ (dfsL step (step o u.toNat).1 us).2)

/-- What the walk from v leaves open, and what it leaves behind, in its order. -/
def dfs (zss : List (List Int)) : Nat → (Nat → Bool) → Nat → (Nat → Bool) × List Int
  | 0, o, _ => (o, [])
  | f + 1, o, v => if o v = true then ((dfsL (dfs zss f) (mark1 o v false) (row zss v)).1, (dfsL (dfs zss f) (mark1 o v false) (row zss v)).2 ++ [(v : Int)]) else (o, [])

theorem dfsL_snoc (step : (Nat → Bool) → Nat → (Nat → Bool) × List Int) (us : List Int) (u : Int) : ∀ o, dfsL step o (us ++ [u]) = ((step (dfsL step o us).1 u.toNat).1, (dfsL step o us).2 ++ (step (dfsL step o us).1 u.toNat).2) := by
  induction us with
  | nil => intro o; simp [dfsL]
  | cons x xs ih => intro o; simp [dfsL, ih, List.append_assoc]

/-- How many of the first n are open. -/
def opens (o : Nat → Bool) : Nat → Nat
  | 0 => 0
  | k + 1 => opens o k + if o k = true then 1 else 0

theorem opens_le (o : Nat → Bool) (n : Nat) : opens o n ≤ n := by
  induction n with
  | zero => simp [opens]
  | succ k ih => simp only [opens]; split <;> omega

theorem opens_mono {o o' : Nat → Bool} {n : Nat} (h : ∀ i, i < n → o' i = true → o i = true) : opens o' n ≤ opens o n := by
  induction n with
  | zero => simp [opens]
  | succ k ih =>
    have h1 := ih (fun i hi => h i (by omega))
    simp only [opens]
    by_cases e : o' k = true
    · rw [if_pos e, if_pos (h k (by omega) e)]; omega
    · rw [if_neg e]; omega

theorem opens_shut {o : Nat → Bool} {n v : Nat} (hv : v < n) (ho : o v = true) : opens (mark1 o v false) n + 1 = opens o n := by
  induction n with
  | zero => omega
  | succ k ih =>
    simp only [opens]
    by_cases e : v = k
    · subst e
      have h1 : opens (mark1 o v false) v = opens o v := by
        apply Nat.le_antisymm
        · exact opens_mono fun i hi h => by simpa [mark1, show i ≠ v from by omega] using h
        · exact opens_mono fun i hi h => by simpa [mark1, show i ≠ v from by omega] using h
      rw [h1, mark1_self, ho]; simp
    · have h1 := ih (by omega)
      have h2 : mark1 o v false k = o k := by simp [mark1, show k ≠ v from fun h => e h.symm]
      rw [h2]; omega

/-- A step that opens nothing. -/
def Shuts (step : (Nat → Bool) → Nat → (Nat → Bool) × List Int) : Prop := ∀ o v i, (step o v).1 i = true → o i = true

theorem dfsL_shuts {step : (Nat → Bool) → Nat → (Nat → Bool) × List Int} (h : Shuts step) (us : List Int) : ∀ o i, (dfsL step o us).1 i = true → o i = true := by
  induction us with
  | nil => intro o i hi; exact hi
  | cons u us ih => intro o i hi; exact h o _ i (ih _ i hi)

theorem dfs_shuts (zss : List (List Int)) : ∀ f, Shuts (dfs zss f) := by
  intro f
  induction f with
  | zero => intro o v i h; exact h
  | succ f ih =>
    intro o v i h
    simp only [dfs] at h
    split at h
    · have := dfsL_shuts ih _ _ _ h
      simp only [mark1] at this
      split at this
      · simp at this
      · exact this
    · exact h

def tri (a b c : Value) : Nat → Value := fun i => if i = 0 then a else if i = 1 then b else c

theorem tri_set {a b c d : Value} : ∀ i, i < 3 → (if i = 2 then d else tri a b c i) = tri a b d i := fun i hi => by
  have h : i = 0 ∨ i = 1 ∨ i = 2 := by omega
  rcases h with rfl | rfl | rfl <;> simp [tri]

/-- The cursor in block p: its marks in block bo, what it has left behind in vl. -/
structure Cur (w : World) (p bo B n : Nat) (sn vl : Value) (o : Nat → Bool) (left : List Int) : Prop where
  str : w.rowIs p 221 3 (tri sn (.slice (some ⟨bo, 0, none⟩) n n) vl)
  opn : w.rowIs bo 4 n (marksV o)
  lft : w.ownsRow B 2 1 vl left.length (left.map (Value.int .i64))

theorem dfsL_len {step : (Nat → Bool) → Nat → (Nat → Bool) × List Int} {n : Nat} (h : ∀ o v, v < n → (step o v).2.length + opens (step o v).1 n ≤ opens o n) (us : List Int) (hus : ∀ x ∈ us, ∃ v : Nat, x = (v : Int) ∧ v < n) : ∀ o, (dfsL step o us).2.length + opens (dfsL step o us).1 n ≤ opens o n := by
  induction us with
  | nil => intro o; simp [dfsL]
  | cons u us ih =>
    intro o
    obtain ⟨v, h1, h2⟩ := hus u (by simp)
    subst h1
    have h3 := h o v h2
    have h4 := ih (fun x hx => hus x (by simp [hx])) (step o v).1
    simp only [dfsL, Int.toNat_natCast, List.length_append]
    omega

theorem dfs_len {zss : List (List Int)} (hin : ∀ u : Nat, u < zss.length → ∀ x ∈ row zss u, ∃ v : Nat, x = (v : Int) ∧ v < zss.length) : ∀ f o v, v < zss.length → (dfs zss f o v).2.length + opens (dfs zss f o v).1 zss.length ≤ opens o zss.length := by
  intro f
  induction f with
  | zero => intro o v _; simp [dfs]
  | succ f ih =>
    intro o v hv
    simp only [dfs]
    split
    · next ho =>
      have h1 := opens_shut hv ho
      have h2 := dfsL_len (step := dfs zss f) ih (row zss v) (hin v hv) (mark1 o v false)
      simp only [List.length_append, List.length_singleton]
      omega
    · simp

theorem Cur.c0 {w : World} {p bo B n : Nat} {sn vl : Value} {o : Nat → Bool} {left : List Int} (h : Cur w p bo B n sn vl o left) : w.cell? ⟨p, 0, none⟩ = some sn := h.str.cell (i := 0) (by omega)
theorem Cur.c1 {w : World} {p bo B n : Nat} {sn vl : Value} {o : Nat → Bool} {left : List Int} (h : Cur w p bo B n sn vl o left) : w.cell? ⟨p, 1, none⟩ = some (.slice (some ⟨bo, 0, none⟩) n n) := h.str.cell (i := 1) (by omega)
theorem Cur.c2 {w : World} {p bo B n : Nat} {sn vl : Value} {o : Nat → Bool} {left : List Int} (h : Cur w p bo B n sn vl o left) : w.cell? ⟨p, 2, none⟩ = some vl := h.str.cell (i := 2) (by omega)

theorem Cur.below {w w' : World} {p bo B n : Nat} {sn vl : Value} {o : Nat → Bool} {left : List Int} (h : Cur w p bo B n sn vl o left) (hb : Below w.heap.size w w') : Cur w' p bo B n sn vl o left :=
  ⟨rowIs_below h.str hb, rowIs_below h.opn hb, ownsRow_only h.lft (S := fun _ => False) (Only.of_below hb) (fun _ _ h => h)⟩

set_option maxHeartbeats 4000000 in
set_option maxRecDepth 100000 in
theorem follow_is {w0 : World} {an : Option Addr} {A : Nat → Option Addr} {C : Nat → Nat} {cn : Nat} {zss : List (List Int)} {p bo B : Nat} (hN : RowsAt w0 an A C zss) (hn : zss.length ≤ 256) (hl : ∀ u, u < zss.length → (row zss u).length ≤ 256)
    (hin : ∀ u : Nat, u < zss.length → ∀ x ∈ row zss u, ∃ v : Nat, x = (v : Int) ∧ v < zss.length) (hp : w0.heap.size ≤ p) (hbo : w0.heap.size ≤ bo) (hpB : p < B) (hboB : bo < B) (hne : p ≠ bo) :
    ∀ f, ∀ (w : World) (vl : Value) (o : Nat → Bool) (left : List Int) (v : Nat), v < zss.length → opens o zss.length < f → left.length + opens o zss.length ≤ 256 → B ≤ w.heap.size → Below w0.heap.size w0 w → Cur w p bo B zss.length (.slice an zss.length cn) vl o left →
      Calls Tryz.prog 164 #[.pointer (some ⟨p, 0, none⟩), .int .i64 v] w fun e w' => e = .returned (.tuple #[]) ∧
        (∃ vl', Cur w' p bo B zss.length (.slice an zss.length cn) vl' (dfs zss f o v).1 (left ++ (dfs zss f o v).2)) ∧ Only (fun b => b = p ∨ b = bo ∨ B ≤ b) w w' := by
  intro f
  induction f with
  | zero => intro w vl o left v _ h; omega
  | succ f ih =>
    intro w vl o left v hv hf hll hBw hb0 hc
    obtain ⟨j0, hj, hj0, hj1, hj2⟩ := info_parts info_int
    have HNi := Lib.hid hN
    have HIN := Lib.hid hin
    have HL := Lib.hid hl
    have HC := Lib.hid hc
    have HB0 := Lib.hid hb0
    have IH := Lib.hid ih
    clear ih hN hin hc hb0 hl
    have p1 := HC.out.c1
    have hov := HC.out.opn.cell hv
    have hi1 : (v : Int) < zss.length := by omega
    cases ho : o v with
    | false =>
      have HE : Hid ((dfs zss (f + 1) o v).1 = o ∧ left ++ (dfs zss (f + 1) o v).2 = left) := by simp [dfs, ho, Hid]
      rw [marksV, ho] at hov
      clear ho
      go_enter Tryz.func164, Tryz.ntmps164
      go_wp2
      exact bodyPost_ret (v := .tuple #[]) (by simp [results, Tryz.results164, go_sem]) rfl ⟨rfl, ⟨vl, by rw [HE.out.1, HE.out.2]; exact HC.out⟩, Only.refl _ _⟩
    | true =>
      have HSH := Lib.hid (opens_shut hv ho)
      have HE : Hid ((dfs zss (f + 1) o v).1 = (dfsL (dfs zss f) (mark1 o v false) (row zss v)).1 ∧ left ++ (dfs zss (f + 1) o v).2 = (left ++ (dfsL (dfs zss f) (mark1 o v false) (row zss v)).2) ++ [(v : Int)]) := by simp [dfs, ho, Hid]
      rw [marksV, ho] at hov
      have hfo := HC.out.opn.frozen v
      obtain ⟨bn, offn, ha, hcs⟩ := (HNi.out.below HB0.out).cell (by omega)
      subst ha
      have O1 : Hid (Only (fun b => b = p ∨ b = bo ∨ B ≤ b) w (w.setCell ⟨bo, v, none⟩ (.bool false))) := (Only.refl (fun b => b = p ∨ b = bo ∨ B ≤ b) w).setCell (p := ⟨bo, v, none⟩) (.inr (.inl rfl)) _
      have O1' : Only (fun b => b = bo) w (w.setCell ⟨bo, v, none⟩ (.bool false)) := (Only.refl (fun b => b = bo) w).setCell (p := ⟨bo, v, none⟩) rfl _
      have C1 : Hid (Cur (w.setCell ⟨bo, v, none⟩ (.bool false)) p bo B zss.length (.slice (some ⟨bn, offn, none⟩) zss.length cn) vl (mark1 o v false) left) :=
        ⟨rowIs_only HC.out.str O1' hne, marks_set HC.out.opn, ownsRow_only HC.out.lft O1' (fun g hg e => by have := (HC.out.lft.lt g hg).1; omega)⟩
      have p0 := C1.out.c0
      have hvn := (HNi.out.below (HB0.out.setCell (p := ⟨bo, v, none⟩) hbo (.bool false))).cell (by omega)
      obtain ⟨bn', offn', ha, hcs'⟩ := hvn
      obtain ⟨rfl, rfl⟩ : bn = bn' ∧ offn = offn' := by simpa using ha
      have hvn := hcs' v hv
      clear ho O1' hcs hcs' ha
      go_enter Tryz.func164, Tryz.ntmps164
      obtain ⟨w1, hw1⟩ : ∃ w1, w1 = w.setCell ⟨bo, v, none⟩ (.bool false) := ⟨_, rfl⟩
      have HW1 := Lib.hid hw1
      have O1w : Hid (Only (fun b => b = p ∨ b = bo ∨ B ≤ b) w w1) := by rw [hw1]; exact O1.out
      have C1w : Hid (Cur w1 p bo B zss.length (.slice (some ⟨bn, offn, none⟩) zss.length cn) vl (mark1 o v false) left) := by rw [hw1]; exact C1.out
      have hs1 : w.heap.size ≤ w1.heap.size := O1w.out.size
      clear hw1 O1 C1
      have hl16 := HL.out v hv
      have hop := HSH.out
      go_wp2
      rw [← HW1.out]
      go_loopw [28] (fun i wr => ∃ k : Nat, k ≤ (row zss v).length ∧ i = .int .i64 k ∧ Hid (∃ vl, Cur wr p bo B zss.length (.slice (some ⟨bn, offn, none⟩) zss.length cn) vl (dfsL (dfs zss f) (mark1 o v false) ((row zss v).take k)).1 (left ++ (dfsL (dfs zss f) (mark1 o v false) ((row zss v).take k)).2)) ∧ Hid (Only (fun b => b = p ∨ b = bo ∨ B ≤ b) w wr)) (fun i _ => (row zss v).length - (intOf i).toNat)
      case atStart => exact ⟨0, Nat.zero_le _, rfl, ⟨vl, by simpa [dfsL] using C1w.out⟩, O1w.out⟩
      case round =>
        clear C1w O1w p0 p1 hvn hov hfo
        obtain ⟨k, hk, rfl, HCC, HO⟩ := hrel
        have hsr := HO.out.size
        have HBr := Lib.hid (HB0.out.trans (HO.out.below (B := w0.heap.size) HB0.out.size (fun b hb => by omega)))
        have hlen := dfsL_len (step := dfs zss f) (dfs_len HIN.out f) ((row zss v).take k) (fun x hx => HIN.out v hv x (List.mem_of_mem_take hx)) (mark1 o v false)
        by_cases hlt : k < (row zss v).length
        · obtain ⟨b3, off3, ha3, hc3⟩ := ((HNi.out.below HBr.out).rows v hv).cell (by omega)
          have hck3 := hc3 k hlt
          obtain ⟨x, hx, hxn⟩ := HIN.out v hv _ (nth_mem hlt)
          have HX : Hid ((row zss v).take (k + 1) = (row zss v).take k ++ [(x : Int)]) := by
            rw [List.take_add_one, List.getElem?_eq_getElem hlt, ← hx, nth_eq hlt]; rfl
          rw [hx] at hck3
          clear hx hc3
          rw [ha3]
          have hi4 : (k : Int) < (row zss v).length := by omega
          obtain ⟨vl', hcc⟩ := HCC.out
          have HI := Lib.hid (IH.out wr vl' _ _ x hxn (by omega) (by simp only [List.length_append]; omega) (by omega) HBr.out hcc)
          clear hcc
          go_wp2_with fail
          refine HI.out.mono ?_
          rintro e w2 ⟨rfl, hc2, ho2⟩
          have HN2 : Hid (∃ vl, Cur w2 p bo B zss.length (.slice (some ⟨bn, offn, none⟩) zss.length cn) vl (dfsL (dfs zss f) (mark1 o v false) ((row zss v).take (k + 1))).1 (left ++ (dfsL (dfs zss f) (mark1 o v false) ((row zss v).take (k + 1))).2)) := by
            rw [HX.out, dfsL_snoc]
            simpa [List.append_assoc, Hid] using hc2
          have HO2 := Lib.hid (HO.out.trans ho2)
          clear hc2 ho2
          go_wp2
          go_roundw
          case rel => exact ⟨k + 1, by omega, by go_num, HN2, HO2⟩
          case measure => simp [intOf]; omega
        · have hkk : k = (row zss v).length := by omega
          obtain ⟨vl', hcc⟩ := HCC.out
          rw [hkk, List.take_length] at hcc hlen
          rw [← HE.out.1] at hcc
          have HCf := Lib.hid hcc
          have hi4 : ¬ (k : Int) < (row zss v).length := by omega
          have hi5 : ¬ k < (row zss v).length := hlt
          have q2 := hcc.c2
          have qf := hcc.str.frozen 2
          obtain ⟨L, hL⟩ : ∃ L, L = left ++ (dfsL (dfs zss f) (mark1 o v false) (row zss v)).2 := ⟨_, rfl⟩
          have hLl : L.length ≤ 256 := by rw [hL]; simp only [List.length_append]; omega
          have HLE : Hid (left ++ (dfs zss (f + 1) o v).2 = L ++ [(v : Int)]) := by rw [hL]; exact HE.out.2
          rw [← hL] at HCf
          have hfr := HCf.out.lft
          clear hcc hkk hL
          go_wp2_with (at_builtin; refine wpList_append_own_at _ rfl _ _ 27 rfl B 2 j0 (.int .i64 0) 1 8 Tryz.underlying27 hj hj0 hj1 hj2 rfl (by decide) _ _ _ rfl (hfr.alloc _) ⟨wr.heap.size, 0, none⟩ 1 1 [.int .i64 v] rfl rfl ?c1 ?c2 ?c3 ?c4 ?c5 ?_)
          case c2 => rfl
          case c3 => unfold maxLen; omega
          case c4 => omega
          case c5 => first | omega | (simp; omega)
          · intro v' w7 hown' hgrow _ _
            have e1 : (L ++ [(v : Int)]).length = L.length + 1 := by simp
            have e2 : (L ++ [(v : Int)]).map (Value.int .i64) = L.map (Value.int .i64) ++ [.int .i64 v] := by simp
            have hO7 : Only (fun b => b = p ∨ b = bo ∨ B ≤ b) (wr.alloc (.cells #[.int .i64 v] 2)) w7 := (Only.of_grown hgrow).mono fun b hb => .inr (.inr (HCf.out.lft.lt b hb).1)
            have hs7 := rowIs_only (rowIs_below HCf.out.str (below1 wr (.cells #[.int .i64 v] 2))) (Only.of_grown hgrow) (fun e => by have := (HCf.out.lft.lt _ e).1; omega)
            have ho7 := rowIs_only (rowIs_below HCf.out.opn (below1 wr (.cells #[.int .i64 v] 2))) (Only.of_grown hgrow) (fun e => by have := (HCf.out.lft.lt _ e).1; omega)
            obtain ⟨g7, cap7, hv7, _, _, hg7⟩ := own_top hown' (by omega)
            subst hv7
            have hown2 : w7.ownsRow B 2 1 (.slice (some ⟨g7, 0, none⟩) (L.length + 1) cap7) (L ++ [(v : Int)]).length ((L ++ [(v : Int)]).map (Value.int .i64)) := by rw [e1, e2]; exact hown'
            have O8 : Only (fun b => b = p) w7 (w7.setCell ⟨p, 2, none⟩ (.slice (some ⟨g7, 0, none⟩) (L.length + 1) cap7)) := (Only.refl (fun b => b = p) w7).setCell (p := ⟨p, 2, none⟩) rfl _
            have C8 : Hid (Cur (w7.setCell ⟨p, 2, none⟩ (.slice (some ⟨g7, 0, none⟩) (L.length + 1) cap7)) p bo B zss.length (.slice (some ⟨bn, offn, none⟩) zss.length cn) (.slice (some ⟨g7, 0, none⟩) (L.length + 1) cap7) (dfs zss (f + 1) o v).1 (L ++ [(v : Int)])) :=
              ⟨(hs7.set 2 _).congr tri_set, rowIs_only ho7 O8 (fun e => hne e.symm), ownsRow_only hown2 O8 (fun g hg e => by have := (hown2.lt g hg).1; omega)⟩
            have HO8 : Hid (Only (fun b => b = p ∨ b = bo ∨ B ≤ b) w (w7.setCell ⟨p, 2, none⟩ (.slice (some ⟨g7, 0, none⟩) (L.length + 1) cap7))) :=
              ((HO.out.trans (Only.of_below (below1 wr (.cells #[.int .i64 v] 2)))).trans hO7).trans (O8.mono fun b hb => .inl hb)
            have q8 := hs7.frozen 2
            have q9 := hs7.cell (i := 2) (by omega)
            simp only [tri] at q9
            clear hown' hown2 hgrow e1 e2 hO7 hs7 ho7 O8
            go_wp2
            exact bodyPost_end (v := .tuple #[]) (by simp [results, Tryz.results164, go_sem]) rfl ⟨rfl, ⟨_, by rw [HLE.out]; exact C8.out⟩, HO8.out⟩
end

section
open Go.RowKit

/-- 0, ..., n-1. -/
def upL (n : Nat) : List Int := (List.range n).map (fun (i : Nat) => Int.ofNat i)
theorem upL_len (n : Nat) : (upL n).length = n := by simp [upL]
theorem upL_nth {n i : Nat} (h : i < n) : nth (upL n) i = i := by simp [nth, upL, h]

def upPart (k : Nat) : Nat → Value := fun i => if i < k then .int .i64 i else .int .i64 0

theorem up_step {w : World} {g n k : Nat} {t : TypeId} (h : w.rowIs g t n (upPart k)) : (w.setCell ⟨g, k, none⟩ (.int .i64 k)).rowIs g t n (upPart (k + 1)) := by
  refine (h.set k _).congr fun i _ => ?_
  simp only [upPart]
  by_cases e : i = k
  · subst e; simp
  · by_cases hlt : i < k
    · rw [if_neg e, if_pos hlt, if_pos (by omega)]
    · rw [if_neg e, if_neg hlt, if_neg (by omega)]

/-- What is open at first: the elements of a list. -/
def openS (S : List Int) (k : Nat) : Nat → Bool := fun v => decide ((v : Int) ∈ S.take k)

theorem openS_succ {S : List Int} {k u : Nat} (hk : k < S.length) (hu : nth S k = (u : Int)) : openS S (k + 1) = mark1 (openS S k) u true := by
  funext v
  have ht : S.take (k + 1) = S.take k ++ [(u : Int)] := by
    rw [List.take_add_one, List.getElem?_eq_getElem hk, ← hu, nth_eq hk]; rfl
  by_cases e : v = u
  · subst e; simp [mark1, openS, ht]
  · have e' : (v : Int) ≠ (u : Int) := by omega
    simp [mark1, openS, ht, e, e']

set_option maxHeartbeats 2000000 in
theorem newCursor_is {w : World} {an aS : Option Addr} {n : Nat} {S : List Int} (cn cS : Nat) (hS : IntsAt w aS S) (hn : n ≤ 1048576) (hSn : ∀ f ∈ S, ∃ u : Nat, f = (u : Int) ∧ u < n) :
    Calls Tryz.prog 163 #[.slice an n cn, .slice aS S.length cS] w fun e w' => e = .returned (.pointer (some ⟨w.heap.size + 1, 0, none⟩)) ∧
      Cur w' (w.heap.size + 1) w.heap.size (w.heap.size + 2) n (.slice an n cn) (.slice none 0 0) (openS S S.length) [] ∧ Below w.heap.size w w' ∧ w'.heap.size = w.heap.size + 2 := by
  have hmk := run_make_row' (P := Tryz.prog) 84 4 (.bool false) 1 Tryz.underlying84 info_bool rfl .i64 .i64 n (by omega) (by omega)
  have HSi := Lib.hid hS
  have hlS := hS.len
  have HSN := Lib.hid hSn
  clear hS hSn
  obtain ⟨W, hW⟩ : ∃ W, W = (w.alloc (.cells (madeCells #[.bool false] n) 4)).alloc (.cells #[.slice an n cn, .slice (some ⟨w.heap.size, 0, none⟩) n n, .slice none 0 0] 221) := ⟨_, rfl⟩
  have HW := Lib.hid hW
  have S1 : Hid (W.rowIs (w.heap.size + 1) 221 3 (tri (.slice an n cn) (.slice (some ⟨w.heap.size, 0, none⟩) n n) (.slice none 0 0))) := by
    rw [hW]
    have := World.rowIs_alloc (w.alloc (.cells (madeCells #[.bool false] n) 4)) #[.slice an n cn, .slice (some ⟨w.heap.size, 0, none⟩) n n, .slice none 0 0] 221 (tri (.slice an n cn) (.slice (some ⟨w.heap.size, 0, none⟩) n n) (.slice none 0 0)) (fun i hi => by
      have h : i = 0 ∨ i = 1 ∨ i = 2 := by simp at hi; omega
      rcases h with rfl | rfl | rfl <;> simp [tri])
    simpa [Hid] using this
  have R1 : Hid (W.rowIs w.heap.size 4 n (marksV (openS S 0))) := by
    rw [hW]
    exact (rowIs_below (World.rowIs_made _ _ _ _) (below1 _ _)).congr (fun i _ => by simp [marksV, openS])
  have BW : Hid (Below w.heap.size w W) := by rw [hW]; exact below2 _ _ _
  have hsz : W.heap.size = w.heap.size + 2 := by rw [hW]; simp
  have HSZ := Lib.hid hsz
  clear hW hsz
  go_enter Tryz.func163, Tryz.ntmps163
  go_wp2
  rw [← HW.out]
  go_loopw [16] (fun i wr => ∃ k : Nat, k ≤ S.length ∧ i = .int .i64 k ∧ Hid (wr.rowIs (w.heap.size + 1) 221 3 (tri (.slice an n cn) (.slice (some ⟨w.heap.size, 0, none⟩) n n) (.slice none 0 0))) ∧ Hid (wr.rowIs w.heap.size 4 n (marksV (openS S k))) ∧ Hid (Below w.heap.size w wr) ∧ Hid (wr.heap.size = w.heap.size + 2)) (fun i _ => S.length - (intOf i).toNat)
  case atStart => exact ⟨0, Nat.zero_le _, rfl, S1, R1, BW, HSZ⟩
  case round =>
    clear hmk S1 R1 BW
    obtain ⟨k, hk, rfl, HST, HR, HB, HZ⟩ := hrel
    by_cases hlt : k < S.length
    · obtain ⟨b, off, ha, hc⟩ := (HSi.out.below HB.out).cell (by omega)
      subst ha
      have hck := hc k hlt
      obtain ⟨u, hu, hun⟩ := HSN.out _ (nth_mem hlt)
      rw [hu] at hck
      have HO := Lib.hid (openS_succ hlt hu)
      clear hc hu
      have p1 := HST.out.cell (i := 1) (by omega)
      simp only [tri] at p1
      have hcs := HR.out.cell hun
      have hcf := HR.out.frozen u
      have hi1 : (k : Int) < S.length := by omega
      have hi2 : (u : Int) < n := by omega
      have O1 : Only (fun b => b = w.heap.size) wr (wr.setCell ⟨w.heap.size, u, none⟩ (.bool true)) := (Only.refl (fun b => b = w.heap.size) wr).setCell (p := ⟨w.heap.size, u, none⟩) rfl _
      have HST1 := Lib.hid (rowIs_only HST.out O1 (by omega))
      clear O1
      go_wp2
      go_roundw
      case rel => exact ⟨k + 1, by omega, by go_num, HST1, by rw [HO.out]; exact marks_set HR.out, HB.out.setCell (Nat.le_refl _) _, by simp only [Hid, World.setCell]; have := HZ.out; simpa using this⟩
      case measure => simp [intOf]; omega
    · have hkk : k = S.length := by omega
      rw [hkk] at HR
      clear hkk
      have hi1 : ¬ (k : Int) < S.length := by omega
      have hi2 : ¬ k < S.length := hlt
      go_wp2
      go_ret
      exact ⟨rfl, ⟨HST.out, HR.out, World.ownsRow_nil _ _ _ _⟩, HB.out, HZ.out⟩

theorem take_is {w : World} {p bo B n : Nat} {sn vl : Value} {o : Nat → Bool} {left : List Int} (h : Cur w p bo B n sn vl o left) (hpB : p < B) (hne : p ≠ bo) :
    Calls Tryz.prog 167 #[.pointer (some ⟨p, 0, none⟩)] w fun e w' => e = .returned vl ∧ Cur w' p bo B n sn (.slice none 0 0) o [] ∧ w'.ownsRow B 2 1 vl left.length (left.map (Value.int .i64)) ∧ Only (fun b => b = p) w w' := by
  have HC := Lib.hid h
  have p2 := h.c2
  have pf := h.str.frozen 2
  clear h
  have O1 : Hid (Only (fun b => b = p) w (w.setCell ⟨p, 2, none⟩ (.slice none 0 0))) := (Only.refl (fun b => b = p) w).setCell (p := ⟨p, 2, none⟩) rfl _
  have C1 : Hid (Cur (w.setCell ⟨p, 2, none⟩ (.slice none 0 0)) p bo B n sn (.slice none 0 0) o []) := ⟨(HC.out.str.set 2 _).congr tri_set, rowIs_only HC.out.opn O1.out (fun e => hne e.symm), World.ownsRow_nil _ _ _ _⟩
  have L1 := Lib.hid (ownsRow_only HC.out.lft O1.out (fun g hg e => by have := (HC.out.lft.lt g hg).1; omega))
  go_enter Tryz.func167, Tryz.ntmps167
  go_wp2
  go_ret
  exact ⟨rfl, C1.out, L1.out, O1.out⟩
end
end

section
open Go.RowKit

def fnL (n : Nat) (f : Nat → Int) : List Int := (List.range n).map f
theorem fnL_len (n : Nat) (f : Nat → Int) : (fnL n f).length = n := by simp [fnL]
theorem fnL_nth {n i : Nat} {f : Nat → Int} (h : i < n) : nth (fnL n f) i = f i := by simp [nth, fnL, h]
theorem fnL_succ (n : Nat) (f : Nat → Int) : fnL (n + 1) f = fnL n f ++ [f n] := by simp [fnL, List.range_succ]
theorem fnL_congr {n : Nat} {f g : Nat → Int} (h : ∀ i, i < n → f i = g i) : fnL n f = fnL n g := List.map_congr_left fun i hi => h i (List.mem_range.1 hi)
theorem fnL_eq {n : Nat} {f g : Nat → Int} (h : fnL n f = fnL n g) : ∀ i, i < n → f i = g i := fun i hi => by
  have := congrArg (fun l => nth l i) h
  simpa [fnL_nth hi] using this
theorem fnL_set {n u : Nat} {f : Nat → Int} {x : Int} : (fnL n f).set u x = fnL n (fun i => if i = u then x else f i) := by
  apply List.ext_getElem?
  intro i
  by_cases hi : i < n
  · by_cases e : i = u
    · subst e; simp [fnL, hi]
    · simp [fnL, hi, e, Ne.symm e]
  · simp [fnL, hi]

/-- The slice at the head of block g owns f's values. -/
def OwnF (w : World) (B g cap n : Nat) (f : Nat → Int) : Prop := OwnInts w B w.heap.size (.slice (some ⟨g, 0, none⟩) n cap) (fnL n f)

theorem OwnF.row {w : World} {B g cap n : Nat} {f : Nat → Int} (h : OwnF w B g cap n f) : w.ownsRow B 2 1 (.slice (some ⟨g, 0, none⟩) n cap) n ((fnL n f).map (Value.int .i64)) := by
  have := h.own
  rw [fnL_len] at this
  exact this
theorem OwnF.lt {w : World} {B g cap n : Nat} {f : Nat → Int} (h : OwnF w B g cap n f) : B ≤ g ∧ g < w.heap.size := h.own.lt g rfl
theorem OwnF.ints {w : World} {B g cap n : Nat} {f : Nat → Int} (h : OwnF w B g cap n f) : IntsAt w (some ⟨g, 0, none⟩) (fnL n f) := by
  obtain ⟨a, c, hv, hi, _⟩ := h.shape
  simp only [Value.slice.injEq] at hv
  rw [hv.1]
  exact hi
theorem OwnF.cell {w : World} {B g cap n u : Nat} {f : Nat → Int} (h : OwnF w B g cap n f) (hu : u < n) : w.cell? ⟨g, u, none⟩ = some (.int .i64 (f u)) := by
  rw [h.row.cellAt u (by omega)]
  simp [fnL, hu]
theorem OwnF.frozen {w : World} {B g cap n : Nat} {f : Nat → Int} (h : OwnF w B g cap n f) (u : Nat) : w.frozen? ⟨g, u, none⟩ = false := h.row.frozenAt u
theorem OwnF.only {w w' : World} {S : Nat → Prop} {B g cap n : Nat} {f : Nat → Int} (h : OwnF w B g cap n f) (hk : Only S w w') (hs : ¬ S g) : OwnF w' B g cap n f :=
  (OwnInts.only h hk (fun b hb => by simp [Value.ownBlock] at hb; subst hb; exact hs)).retop
theorem OwnF.congr {w : World} {B g cap n : Nat} {f f' : Nat → Int} (h : OwnF w B g cap n f) (he : ∀ i, i < n → f i = f' i) : OwnF w B g cap n f' := by
  unfold OwnF at *; rw [← fnL_congr he]; exact h
theorem OwnF.put {w : World} {B g cap n u : Nat} {f : Nat → Int} {x : Int} (h : OwnF w B g cap n f) (hx : Fits x) : OwnF (w.setCell ⟨g, u, none⟩ (.int .i64 x)) B g cap n (fun i => if i = u then x else f i) := by
  obtain ⟨hs, _⟩ := h.row.stored u (.int .i64 x)
  have hm : ((fnL n f).map (Value.int .i64)).set u (.int .i64 x) = (fnL n (fun i => if i = u then x else f i)).map (Value.int .i64) := by rw [← fnL_set, List.map_set]
  rw [hm] at hs
  refine OwnInts.mk' (by rw [fnL_len]; exact hs) (by rw [fnL_len]; have := h.len; rw [fnL_len] at this; exact this) fun k hk => ?_
  rw [fnL_len] at hk
  rw [fnL_nth hk]
  have hf := h.fits k (by rw [fnL_len]; exact hk)
  rw [fnL_nth hk] at hf
  by_cases e : k = u
  · rw [if_pos e]; exact hx
  · rw [if_neg e]; exact hf
end

section
open Go.RowKit

/-- What was there in each of these worlds is there still. -/
def Keep : List World → World → Prop
  | [], _ => True
  | a :: l, w => Below a.heap.size a w ∧ Keep l w
theorem Keep.step : ∀ {l : List World} {w w' : World}, Keep l w → Below w.heap.size w w' → Keep l w'
  | [], _, _, _, _ => trivial
  | _ :: _, _, _, h, hb => ⟨h.1.trans (hb.mono h.1.size), Keep.step h.2 hb⟩
theorem Keep.add {l : List World} {w : World} (h : Keep l w) : Keep (w :: l) w := ⟨Below.refl _ _, h⟩
theorem Keep.only : ∀ {l : List World} {w w' : World} {S : Nat → Prop}, Keep l w → Only S w w' → (∀ a ∈ l, ∀ b, S b → a.heap.size ≤ b) → Keep l w'
  | [], _, _, _, _, _, _ => trivial
  | a :: l, _, _, _, h, ho, hs => ⟨h.1.trans (ho.below h.1.size (hs a (by simp))), Keep.only h.2 ho fun a ha => hs a (by simp [ha])⟩
theorem only2 {a b : World} {B D : Nat} (ha : a.heap.size ≤ B) (hb : b.heap.size ≤ B) : ∀ x ∈ [b, a], ∀ k, (B ≤ k ∧ k < D) → x.heap.size ≤ k := fun x hx k hk => by
  simp only [List.mem_cons, List.not_mem_nil, or_false] at hx
  rcases hx with rfl | rfl <;> omega
theorem only3 {a b c : World} {B D : Nat} (ha : a.heap.size ≤ B) (hb : b.heap.size ≤ B) (hc : c.heap.size ≤ B) : ∀ x ∈ [c, b, a], ∀ k, (B ≤ k ∧ k < D) → x.heap.size ≤ k := fun x hx k hk => by
  simp only [List.mem_cons, List.not_mem_nil, or_false] at hx
  rcases hx with rfl | rfl | rfl <;> omega

theorem toArena_own {w : World} {v : Value} {O : List Int} {zss : List (List Int)} (h : ArenaAt w v O zss) (hn : zss.length ≤ 1048576) :
    Calls Tryz.prog 62 #[v] w (GivesArena w O zss) :=
  (toArena_at h hn).mono fun _ _ ⟨he, hc, _⟩ => ⟨_, he, hc.owned h, hc.below⟩
theorem toInts_own {w : World} {v : Value} {zs : List Int} (h : IntsV w v zs) :
    Calls Tryz.prog 24 #[v] w (GivesInts w zs) := toInts_at h
theorem heldInts_own {w : World} {v : Value} {k r : Int} {n : Nat} (hr : k + (n : Int) = r) (h : IntsV w v (marks k n)) (h0 : 0 ≤ k) (h1 : k ≤ 1152921504606846976) :
    Calls Tryz.prog 29 #[v, .int .i64 k] w fun e w' => e = .returned (.int .i64 r) ∧ Below w.heap.size w w' :=
  (heldInts_is hr h h0 h1).mono fun _ _ ⟨he, hw⟩ => ⟨he, hw ▸ Below.refl _ _⟩

theorem OwnArena.shape2 {w : World} {B D : Nat} {v : Value} {O : List Int} {zss : List (List Int)} (h : OwnArena w B D v O zss) : ∃ a0 c0 a1 c1, v = .agg #[.slice a0 O.length c0, .slice a1 zss.length c1] := by
  obtain ⟨ao, an, co, cn, A, C, hv, _, _⟩ := h.at
  exact ⟨ao, co, an, cn, hv⟩
theorem OwnInts.shape2 {w : World} {B D : Nat} {v : Value} {zs : List Int} (h : OwnInts w B D v zs) : ∃ a c, v = .slice a zs.length c := by
  obtain ⟨a, c, hv, _, _⟩ := h.shape
  exact ⟨a, c, hv⟩
theorem IntsV.at {w : World} {a : Option Addr} {n c : Nat} {zs : List Int} (h : IntsV w (.slice a n c) zs) : IntsAt w a zs := by
  obtain ⟨a', c', hv, hi⟩ := h
  cases hv; exact hi
end

section
open Go.RowKit

/-- What one walk from the vertices us does. -/
structure WalkP (zss : List (List Int)) (o : Nat → Bool) (us : List Int) (r : (Nat → Bool) × List Int) : Prop where
  shut : ∀ i, r.1 i = true → o i = true
  mem : ∀ i, i < zss.length → ((i : Int) ∈ r.2 ↔ o i = true ∧ r.1 i = false)
  nat : ∀ x ∈ r.2, ∃ i : Nat, x = (i : Int) ∧ i < zss.length
  nodup : r.2.Nodup
  reach : ∀ i, i < zss.length → o i = true → r.1 i = false → (i : Int) ∈ us ∨ Rch zss (fun _ => true) us i
  clos : ∀ i, i < zss.length → o i = true → r.1 i = false → ∀ j : Nat, (j : Int) ∈ row zss i → r.1 j = false
  self : ∀ u : Nat, (u : Int) ∈ us → r.1 u = false

theorem rch_mono {zss : List (List Int)} {I : Nat → Bool} {F G : List Int} (h : ∀ x ∈ F, x ∈ G) {v : Nat} (hr : Rch zss I F v) : Rch zss I G v := by
  induction hr with
  | one hf hm hI => exact .one (h _ hf) hm hI
  | more _ hm hI ih => exact .more ih hm hI

theorem rch_from {zss : List (List Int)} {I : Nat → Bool} {F : List Int} {w : Nat} (hw : ∀ u : Nat, (u : Int) ∈ F → (u : Int) ∈ row zss w ∧ I u = true) {G : List Int} (hG : (w : Int) ∈ G) {v : Nat} (hr : Rch zss I F v) : Rch zss I G v := by
  induction hr with
  | one hf hm hI => exact .more (.one hG (hw _ hf).1 (hw _ hf).2) hm hI
  | more _ hm hI ih => exact .more ih hm hI

theorem WalkP.list {zss : List (List Int)} {step : (Nat → Bool) → Nat → (Nat → Bool) × List Int} {m : Nat} (h : ∀ o v, v < zss.length → opens o zss.length < m → WalkP zss o [(v : Int)] (step o v)) (us : List Int) (hus : ∀ x ∈ us, ∃ v : Nat, x = (v : Int) ∧ v < zss.length) :
    ∀ o, opens o zss.length < m → WalkP zss o us (dfsL step o us) := by
  induction us with
  | nil => intro o _; exact ⟨fun i h => h, fun i _ => by simp [dfsL], fun x hx => by simp [dfsL] at hx, by simp [dfsL], fun i _ h1 h2 => by simp [dfsL, h1] at h2, fun i _ h1 h2 => by simp [dfsL, h1] at h2, fun u hu => by simp at hu⟩
  | cons u us ih =>
    intro o ho
    obtain ⟨v, hv, hvn⟩ := hus u (by simp)
    subst hv
    have h1 := h o v hvn ho
    have h2 := ih (fun x hx => hus x (by simp [hx])) (step o v).1 (Nat.lt_of_le_of_lt (opens_mono fun i _ hi => h1.shut i hi) ho)
    have hstay : ∀ i, (step o v).1 i = false → (dfsL step (step o v).1 us).1 i = false := fun i hi => by
      cases hb : (dfsL step (step o v).1 us).1 i with
      | false => rfl
      | true => rw [h2.shut i hb] at hi; cases hi
    refine ⟨fun i hi => ?_, fun i hi => ?_, fun x hx => ?_, ?_, fun i hi hoi hr => ?_, fun i hi hoi hr j hj => ?_, fun w hw => ?_⟩
    · simp only [dfsL, Int.toNat_natCast] at hi
      exact h1.shut i (h2.shut i hi)
    · simp only [dfsL, Int.toNat_natCast, List.mem_append, h1.mem i hi, h2.mem i hi]
      constructor
      · rintro (⟨ha, hb⟩ | ⟨ha, hb⟩)
        · exact ⟨ha, hstay i hb⟩
        · exact ⟨h1.shut i ha, hb⟩
      · rintro ⟨ha, hb⟩
        cases hc : (step o v).1 i with
        | false => exact .inl ⟨ha, rfl⟩
        | true => exact .inr ⟨rfl, hb⟩
    · simp only [dfsL, Int.toNat_natCast, List.mem_append] at hx
      exact hx.elim (h1.nat x) (h2.nat x)
    · simp only [dfsL, Int.toNat_natCast]
      refine List.nodup_append.2 ⟨h1.nodup, h2.nodup, fun a ha b hb hab => ?_⟩
      subst hab
      obtain ⟨i, rfl, hi⟩ := h1.nat a ha
      have q1 := ((h1.mem i hi).1 ha).2
      have q2 := ((h2.mem i hi).1 hb).1
      rw [q1] at q2; cases q2
    · simp only [dfsL, Int.toNat_natCast] at hr
      cases hc : (step o v).1 i with
      | false =>
        rcases h1.reach i hi hoi hc with hh | hh
        · left; simp at hh; simp; left; omega
        · right; exact rch_mono (fun x hx => by simp at hx; simp [hx]) hh
      | true =>
        rcases h2.reach i hi hc hr with hh | hh
        · left; simp [hh]
        · right; exact rch_mono (fun x hx => by simp [hx]) hh
    · simp only [dfsL, Int.toNat_natCast] at hr ⊢
      cases hc : (step o v).1 i with
      | false => exact hstay j (h1.clos i hi hoi hc j hj)
      | true => exact h2.clos i hi hc hr j hj
    · simp only [dfsL, Int.toNat_natCast]
      simp only [List.mem_cons] at hw
      rcases hw with hw | hw
      · exact hstay w (h1.self w (by simp; omega))
      · exact h2.self w hw

theorem dfs_walk {zss : List (List Int)} (hin : ∀ u : Nat, u < zss.length → ∀ x ∈ row zss u, ∃ v : Nat, x = (v : Int) ∧ v < zss.length) : ∀ f o v, v < zss.length → opens o zss.length < f → WalkP zss o [(v : Int)] (dfs zss f o v) := by
  intro f
  induction f with
  | zero => intro o v _ h; omega
  | succ f ih =>
    intro o v hv hf
    cases ho : o v with
    | false =>
      have hd : dfs zss (f + 1) o v = (o, []) := by simp [dfs, ho]
      rw [hd]
      refine ⟨fun i h => h, fun i _ => by simp, fun x hx => by simp at hx, by simp, fun i _ h1 h2 => by simp [h1] at h2, fun i _ h1 h2 => by simp [h1] at h2, fun u hu => ?_⟩
      have hu' : u = v := by simp at hu; omega
      subst hu'
      exact ho
    | true =>
      have hs := opens_shut hv ho
      have h := WalkP.list (m := f) ih (row zss v) (hin v hv) (mark1 o v false) (by omega)
      have hd : dfs zss (f + 1) o v = ((dfsL (dfs zss f) (mark1 o v false) (row zss v)).1, (dfsL (dfs zss f) (mark1 o v false) (row zss v)).2 ++ [(v : Int)]) := by simp [dfs, ho]
      rw [hd]
      have hvf : (dfsL (dfs zss f) (mark1 o v false) (row zss v)).1 v = false := by
        cases hb : (dfsL (dfs zss f) (mark1 o v false) (row zss v)).1 v with
        | false => rfl
        | true => have := h.shut v hb; simp [mark1] at this
      have hne : ∀ i, i ≠ v → mark1 o v false i = o i := fun i hi => by simp [mark1, hi]
      refine ⟨fun i hi => ?_, fun i hi => ?_, fun x hx => ?_, ?_, fun i hi hoi hr => ?_, fun i hi hoi hr j hj => ?_, fun w hw => ?_⟩
      · have := h.shut i hi
        by_cases e : i = v
        · subst e; exact ho
        · rwa [hne i e] at this
      · simp only [List.mem_append, h.mem i hi, List.mem_singleton]
        by_cases e : i = v
        · subst e; simp [hvf, ho]
        · rw [hne i e]
          constructor
          · rintro (h1 | h1)
            · exact h1
            · omega
          · exact .inl
      · rcases List.mem_append.1 hx with hx | hx
        · exact h.nat x hx
        · exact ⟨v, by simpa using hx, hv⟩
      · refine List.nodup_append.2 ⟨h.nodup, by simp, fun a ha b hb hab => ?_⟩
        subst hab
        have hb' : a = (v : Int) := by simpa using hb
        subst hb'
        have := ((h.mem v hv).1 ha).1
        simp [mark1] at this
      · by_cases e : i = v
        · subst e; left; simp
        · right
          rcases h.reach i hi (by rw [hne i e]; exact hoi) hr with hh | hh
          · exact .one (by simp) hh rfl
          · exact rch_from (w := v) (fun u hu => ⟨hu, rfl⟩) (by simp) hh
      · by_cases e : i = v
        · subst e; exact h.self j hj
        · exact h.clos i hi (by rw [hne i e]; exact hoi) hr j hj
      · have : w = v := by simp at hw; omega
        subst this; exact hvf

theorem markedK_rising (xs : Nat → Bool) (k : Nat) : (markedK xs k).Pairwise (· < ·) := by
  induction k with
  | zero => simp [markedK]
  | succ k ih =>
    simp only [markedK]
    refine List.pairwise_append.2 ⟨ih, by split <;> simp, fun a ha b hb => ?_⟩
    obtain ⟨v, rfl, hv, _⟩ := (markedK_mem xs k a).1 ha
    split at hb
    · simp at hb; omega
    · simp at hb

/-- What the walk from F leaves behind, sorted, is what is reached. -/
theorem walk_sorted {zss : List (List Int)} (hin : ∀ u : Nat, u < zss.length → ∀ x ∈ row zss u, ∃ v : Nat, x = (v : Int) ∧ v < zss.length) {F : List Int} (hF : ∀ x ∈ F, ∃ v : Nat, x = (v : Int) ∧ v < zss.length) {o : Nat → Bool} (ho : ∀ i, i < zss.length → o i = true) {f : Nat} (hf : opens o zss.length < f) :
    ((dfsL (dfs zss f) o F).2.mergeSort fun x y => decide (x ≤ y)) = markedK (reachM zss F) zss.length := by
  have h := WalkP.list (m := f) (dfs_walk hin f) F hF o hf
  have key : ∀ v, Rch zss (fun _ => true) F v → v < zss.length ∧ (dfsL (dfs zss f) o F).1 v = false := by
    intro v hr
    induction hr with
    | @one u v hu hm _ =>
      obtain ⟨u', h1, h2⟩ := hF _ hu
      have e : u = u' := by omega
      subst e
      obtain ⟨v', h3, h4⟩ := hin u h2 _ hm
      exact ⟨by omega, h.clos u h2 (ho u h2) (h.self u hu) v hm⟩
    | @more u v _ hm _ ih =>
      obtain ⟨v', h3, h4⟩ := hin u ih.1 _ hm
      exact ⟨by omega, h.clos u ih.1 (ho u ih.1) ih.2 v hm⟩
  have hmem : ∀ x, x ∈ (dfsL (dfs zss f) o F).2 ↔ x ∈ markedK (reachM zss F) zss.length := by
    intro x
    rw [markedK_mem]
    constructor
    · intro hx
      obtain ⟨i, rfl, hi⟩ := h.nat x hx
      have h2 := (h.mem i hi).1 hx
      exact ⟨i, rfl, hi, by simpa [reachM] using h.reach i hi h2.1 h2.2⟩
    · rintro ⟨v, rfl, hv, hr⟩
      refine (h.mem v hv).2 ⟨ho v hv, ?_⟩
      have hr' : (v : Int) ∈ F ∨ Rch zss (fun _ => true) F v := by simpa [reachM] using hr
      rcases hr' with hh | hh
      · exact h.self v hh
      · exact (key v hh).2
  have hnd : (markedK (reachM zss F) zss.length).Nodup := (markedK_rising _ _).imp fun hab => by omega
  have hp : ((dfsL (dfs zss f) o F).2.mergeSort fun x y => decide (x ≤ y)).Perm (markedK (reachM zss F) zss.length) :=
    (List.mergeSort_perm _ _).trans ((List.perm_ext_iff_of_nodup h.nodup hnd).2 hmem)
  refine hp.eq_of_pairwise (le := fun x y => x ≤ y) (fun a b _ _ h1 h2 => by omega) ?_ ((markedK_rising _ _).imp fun hab => by omega)
  have := List.pairwise_mergeSort (le := fun x y : Int => decide (x ≤ y)) (fun a b c h1 h2 => by simp at *; omega) (fun a b => by simp; omega) (dfsL (dfs zss f) o F).2
  exact this.imp fun hab => by simpa using hab
end

section
section
open Go.RowKit

end

section
open Go.RowKit

theorem set_nats {n : Nat} {zs : List Int} (h : setB n zs = true) : ∀ f ∈ zs, ∃ u : Nat, f = (u : Int) ∧ u < n := fun f hf => by
  obtain ⟨i, hi, he⟩ := mem_nth.1 hf
  obtain ⟨h0, h1, _⟩ := setB_bounds h hi
  exact ⟨f.toNat, by omega, by omega⟩

theorem arena_nats {O : List Int} {zss : List (List Int)} (h : ArenaP O zss) : ∀ u : Nat, u < zss.length → ∀ x ∈ row zss u, ∃ v : Nat, x = (v : Int) ∧ v < zss.length := fun u hu x hx => by
  have hl := h.2.2.1
  obtain ⟨v, h1, h2⟩ := set_nats (h.2.2.2 u (by omega)).2.2.2 x hx
  exact ⟨v, h1, by omega⟩

open Classical in
/-- What is marked when k of the starts are marked, too. -/
noncomputable def fromK (zss : List (List Int)) (F : List Int) (k : Nat) : Nat → Bool := fun v => decide ((v : Int) ∈ F.take k ∨ Rch zss (fun _ => true) F v)

theorem fromK_zero (zss : List (List Int)) (F : List Int) : fromK zss F 0 = beyM zss (fun _ => true) F := by
  funext v; unfold fromK beyM; congr 1; simp
theorem fromK_all (zss : List (List Int)) (F : List Int) : fromK zss F F.length = reachM zss F := by
  funext v; simp [fromK, reachM]
theorem fromK_succ {zss : List (List Int)} {F : List Int} {k u : Nat} (hk : k < F.length) (hu : nth F k = (u : Int)) : fromK zss F (k + 1) = mark1 (fromK zss F k) u true := by
  funext v
  have ht : F.take (k + 1) = F.take k ++ [(u : Int)] := by
    rw [List.take_add_one, List.getElem?_eq_getElem hk, ← hu, nth_eq hk]; rfl
  by_cases e : v = u
  · subst e; simp [mark1, fromK, ht]
  · have e' : (v : Int) ≠ (u : Int) := by omega
    simp [mark1, fromK, ht, e, e']

end
end

section
section
open Go.RowKit

theorem bits_and_small (x m : Int) (h0 : 0 ≤ m) (h1 : m ≤ 1073741823) : 0 ≤ bits .and .i64 x m ∧ bits .and .i64 x m ≤ m := by
  have hm : (BitVec.ofInt 64 m).toNat = m.toNat := by
    obtain ⟨k, rfl⟩ := Int.eq_ofNat_of_zero_le h0
    rw [BitVec.ofInt_natCast, BitVec.toNat_ofNat]; exact Nat.mod_eq_of_lt (by omega)
  have hle : (BitVec.ofInt 64 x &&& BitVec.ofInt 64 m).toNat ≤ m.toNat := by
    rw [BitVec.toNat_and, hm]; exact Nat.and_le_right
  have hb : bits .and .i64 x m = IntKind.i64.wrap ((BitVec.ofInt 64 x &&& BitVec.ofInt 64 m).toNat : Int) := rfl
  rw [hb]
  generalize (BitVec.ofInt 64 x &&& BitVec.ofInt 64 m).toNat = q at hle
  have hw : IntKind.i64.wrap (q : Int) = q := by
    have hq : q < 4294967296 := by omega
    simp only [IntKind.wrap, IntKind.bits, IntKind.signed]
    simp
    omega
  rw [hw]
  omega

/-- A cursor over bytes that lie below B, in block p. -/
structure Dr (w : World) (B p : Nat) (ab : Option Addr) (cb : Nat) (bs : List Int) (i : Nat) (h : Int) : Prop where
  str : w.rowIs p 108 3 (tri (.slice ab bs.length cb) (.int .i64 i) (.int .i64 h))
  idx : i ≤ bs.length
  len : bs.length ≤ 4096
  low : B ≤ p
  byt : ∀ k, k < bs.length → ∃ b off, ab = some ⟨b, off, none⟩ ∧ b < B ∧ w.cell? ⟨b, off + k, none⟩ = some (.int .u8 (nth bs k)) ∧ 0 ≤ nth bs k ∧ nth bs k ≤ 255

theorem tri_set2 {a b c d : Value} : ∀ i, i < 3 → (if i = 2 then d else tri a b c i) = tri a b d i := tri_set
theorem tri_set1 {a b c d : Value} : ∀ i, i < 3 → (if i = 1 then d else tri a b c i) = tri a d c i := fun i hi => by
  have h : i = 0 ∨ i = 1 ∨ i = 2 := by omega
  rcases h with rfl | rfl | rfl <;> simp [tri]

theorem Dr.c0 {w : World} {B p : Nat} {ab : Option Addr} {cb : Nat} {bs : List Int} {i : Nat} {h : Int} (d : Dr w B p ab cb bs i h) : w.cell? ⟨p, 0, none⟩ = some (.slice ab bs.length cb) := d.str.cell (i := 0) (by omega)
theorem Dr.c1 {w : World} {B p : Nat} {ab : Option Addr} {cb : Nat} {bs : List Int} {i : Nat} {h : Int} (d : Dr w B p ab cb bs i h) : w.cell? ⟨p, 1, none⟩ = some (.int .i64 i) := d.str.cell (i := 1) (by omega)
theorem Dr.c2 {w : World} {B p : Nat} {ab : Option Addr} {cb : Nat} {bs : List Int} {i : Nat} {h : Int} (d : Dr w B p ab cb bs i h) : w.cell? ⟨p, 2, none⟩ = some (.int .i64 h) := d.str.cell (i := 2) (by omega)

theorem Dr.below {w w' : World} {B p : Nat} {ab : Option Addr} {cb : Nat} {bs : List Int} {i : Nat} {h : Int} (d : Dr w B p ab cb bs i h) (hb : Below w.heap.size w w') : Dr w' B p ab cb bs i h :=
  ⟨rowIs_below d.str hb, d.idx, d.len, d.low, fun k hk => by
    obtain ⟨b, off, h1, h2, h3, h4⟩ := d.byt k hk
    exact ⟨b, off, h1, h2, Below.cell_some (B := 0) hb rfl h3, h4⟩⟩

theorem Dr.set2 {w : World} {B p : Nat} {ab : Option Addr} {cb : Nat} {bs : List Int} {i : Nat} {h : Int} (d : Dr w B p ab cb bs i h) (h' : Int) : Dr (w.setCell ⟨p, 2, none⟩ (.int .i64 h')) B p ab cb bs i h' :=
  ⟨(d.str.set 2 _).congr tri_set2, d.idx, d.len, d.low, fun k hk => by
    obtain ⟨b, off, h1, h2, h3, h4⟩ := d.byt k hk
    have := d.low
    have hb : Below p w (w.setCell ⟨p, 2, none⟩ (.int .i64 h')) := (Below.refl p w).setCell (p := ⟨p, 2, none⟩) (Nat.le_refl _) _
    exact ⟨b, off, h1, h2, (hb.cell (by show b < p; omega)).trans h3, h4⟩⟩

theorem Dr.set1 {w : World} {B p : Nat} {ab : Option Addr} {cb : Nat} {bs : List Int} {i : Nat} {h : Int} (d : Dr w B p ab cb bs i h) (hi : i + 1 ≤ bs.length) : Dr (w.setCell ⟨p, 1, none⟩ (.int .i64 ((i + 1 : Nat) : Int))) B p ab cb bs (i + 1) h :=
  ⟨(d.str.set 1 _).congr tri_set1, hi, d.len, d.low, fun k hk => by
    obtain ⟨b, off, h1, h2, h3, h4⟩ := d.byt k hk
    have := d.low
    have hb : Below p w (w.setCell ⟨p, 1, none⟩ (.int .i64 ((i + 1 : Nat) : Int))) := (Below.refl p w).setCell (p := ⟨p, 1, none⟩) (Nat.le_refl _) _
    exact ⟨b, off, h1, h2, (hb.cell (by show b < p; omega)).trans h3, h4⟩⟩
end

section
open Go.RowKit

/-- A number from lo to hi is handed back, and the cursor stands somewhere on. -/
def Rolls (w : World) (B p : Nat) (ab : Option Addr) (cb : Nat) (bs : List Int) (lo hi : Int) (e : Ending) (w' : World) : Prop :=
  ∃ x i h, e = .returned (.int .i64 x) ∧ lo ≤ x ∧ x ≤ hi ∧ Dr w' B p ab cb bs i h ∧ Only (fun b => b = p) w w'

set_option maxHeartbeats 2000000 in
theorem l1Byte_is {w : World} {B p : Nat} {ab : Option Addr} {cb : Nat} {bs : List Int} {i : Nat} {h : Int} (d : Dr w B p ab cb bs i h) :
    Calls Tryz.prog 122 #[.pointer (some ⟨p, 0, none⟩)] w (Rolls w B p ab cb bs 0 255) := by
  have HD := Lib.hid d
  have c2 := d.c2
  have f2 := d.str.frozen 2
  clear d
  go_enter Tryz.func122, Tryz.ntmps122
  go_wp2
  obtain ⟨h1, hh1⟩ : ∃ x, x = wrap64 (wrap64 (h * 6364136223846793005) + 1442695040888963407) := ⟨_, rfl⟩
  rw [← hh1]
  obtain ⟨w1, hw1⟩ : ∃ x, x = w.setCell ⟨p, 2, none⟩ (.int .i64 h1) := ⟨_, rfl⟩
  rw [← hw1]
  have D1 : Hid (Dr w1 B p ab cb bs i h1) := by rw [hw1]; exact HD.out.set2 h1
  have O1 : Hid (Only (fun b => b = p) w w1) := by rw [hw1]; exact (Only.refl (fun b => b = p) w).setCell (p := ⟨p, 2, none⟩) rfl _
  clear hw1 hh1 c2 f2
  have c2 := D1.out.c2
  go_quiet (fail)
  obtain ⟨w2, hw2⟩ : ∃ x, x = w1.drewN nq := ⟨_, rfl⟩
  rw [← hw2]
  have hb2 : Below w1.heap.size w1 w2 := by rw [hw2]; exact below_drewN (Below.refl _ _) _
  have D2 := Lib.hid (D1.out.below hb2)
  have O2 := Lib.hid (O1.out.trans (Only.of_below hb2))
  clear hw2 hb2 c2
  obtain ⟨x, hx0, hx1, hxe⟩ : ∃ x, 0 ≤ x ∧ x ≤ 255 ∧ bits .and .i64 (bits .xor .i64 (h1 / 8589934592) (h1 / 35184372088832)) 255 = x := ⟨_, (bits_and_small _ 255 (by omega) (by omega)).1, (bits_and_small _ 255 (by omega) (by omega)).2, rfl⟩
  rw [hxe]
  clear hxe
  have c0 := D2.out.c0
  have c1 := D2.out.c1
  have hl := D2.out.len
  go_wp2
  by_cases hlt : i < bs.length
  · have hi1 : (i : Int) < bs.length := by omega
    go_quiet (fail)
    go_wp2
    obtain ⟨w3, hw3⟩ : ∃ x, x = w2.drewN nq := ⟨_, rfl⟩
    rw [← hw3]
    have hb3 : Below w2.heap.size w2 w3 := by rw [hw3]; exact below_drewN (Below.refl _ _) _
    have D3 := Lib.hid (D2.out.below hb3)
    have O3 := Lib.hid (O2.out.trans (Only.of_below hb3))
    clear hw3 hb3 c0 c1
    have c0 := D3.out.c0
    have c1 := D3.out.c1
    obtain ⟨b, off, ha, _, hcb, hb0, hb1⟩ := D3.out.byt i hlt
    subst ha
    have f1 := D3.out.str.frozen 1
    go_quiet (fail)
    have D4 : Hid (Dr ((w3.drewN nq).setCell ⟨p, 1, none⟩ (.int .i64 ((i : Int) + 1))) B p (some ⟨b, off, none⟩) cb bs (i + 1) h1) := (D3.out.below (below_drewN (Below.refl _ _) nq)).set1 (by omega)
    have O4 : Hid (Only (fun b => b = p) w ((w3.drewN nq).setCell ⟨p, 1, none⟩ (.int .i64 ((i : Int) + 1)))) := (O3.out.trans (Only.of_below (below_drewN (Below.refl _ _) nq))).setCell (p := ⟨p, 1, none⟩) rfl _
    have hz := bits_and_small (x + nth bs i) 255 (by omega) (by omega)
    go_wp2
    go_ret
    exact ⟨_, i + 1, h1, rfl, hz.1, hz.2, D4.out, O4.out⟩
  · have hi1 : ¬ (i : Int) < bs.length := by omega
    go_quiet (fail)
    go_wp2
    go_ret
    exact ⟨x, i, h1, rfl, hx0, hx1, D2.out.below (below_drewN (Below.refl _ _) _), O2.out.trans (Only.of_below (below_drewN (Below.refl _ _) _))⟩

theorem Dr.only {w w' : World} {B p : Nat} {ab : Option Addr} {cb : Nat} {bs : List Int} {i : Nat} {h : Int} {S : Nat → Prop} (d : Dr w B p ab cb bs i h) (hk : Only S w w') (hs : ∀ b, S b → B ≤ b ∧ b ≠ p) : Dr w' B p ab cb bs i h :=
  ⟨rowIs_only d.str hk (fun e => (hs p e).2 rfl), d.idx, d.len, d.low, fun k hk' => by
    obtain ⟨b, off, h1, h2, h3, h4⟩ := d.byt k hk'
    refine ⟨b, off, h1, h2, ?_, h4⟩
    rw [World.cell?_of_block (w := w) (hk.block b (World.block_lt_of_cell? w _ h3) (fun e => by have := (hs b e).1; omega))]
    exact h3⟩

set_option maxHeartbeats 4000000 in
theorem l1Below_is {w : World} {B p : Nat} {ab : Option Addr} {cb : Nat} {bs : List Int} {i : Nat} {h n hi : Int} (d : Dr w B p ab cb bs i h) (h0 : n ≤ 0 → hi = 0) (h1 : 0 < n → hi = n - 1) (h2 : n ≤ 9223372036854775807) :
    Calls Tryz.prog 76 #[.pointer (some ⟨p, 0, none⟩), .int .i64 n] w (Rolls w B p ab cb bs 0 hi) := by
  have HD := Lib.hid d
  clear d
  by_cases hn0 : n ≤ 0
  · have hh := h0 hn0
    subst hh
    go_enter Tryz.func76, Tryz.ntmps76
    go_wp2
    go_ret
    exact ⟨0, i, h, rfl, by omega, by omega, HD.out, Only.refl _ _⟩
  · have hh := h1 (by omega)
    subst hh
    by_cases hn1 : n ≤ 256
    · go_enter Tryz.func76, Tryz.ntmps76
      go_wp2_with fail
      refine (l1Byte_is HD.out).mono ?_
      rintro e w1 ⟨x, i1, h1', rfl, hx0, hx1, hd, ho⟩
      have D1 := Lib.hid hd
      have O1 := Lib.hid ho
      clear hd ho
      go_wp2
      go_ret
      exact ⟨x % n, i1, h1', rfl, Int.emod_nonneg _ (by omega), by have := Int.emod_lt_of_pos x (show 0 < n by omega); omega, D1.out, O1.out⟩
    · go_enter Tryz.func76, Tryz.ntmps76
      go_wp2_with fail
      refine (l1Byte_is HD.out).mono ?_
      rintro e w1 ⟨x1, i1, g1, rfl, hx0, hx1, hd, ho⟩
      have D1 := Lib.hid hd
      have O1 := Lib.hid ho
      clear hd ho
      go_wp2_with fail
      refine (l1Byte_is D1.out).mono ?_
      rintro e w2 ⟨x2, i2, g2, rfl, hy0, hy1, hd, ho⟩
      have D2 := Lib.hid hd
      have O2 := Lib.hid (O1.out.trans ho)
      clear hd ho
      go_wp2_with fail
      refine (l1Byte_is D2.out).mono ?_
      rintro e w3 ⟨x3, i3, g3, rfl, hz0, hz1, hd, ho⟩
      have D3 := Lib.hid hd
      have O3 := Lib.hid (O2.out.trans ho)
      clear hd ho
      go_wp2_with fail
      refine (l1Byte_is D3.out).mono ?_
      rintro e w4 ⟨x4, i4, g4, rfl, hw0, hw1, hd, ho⟩
      have D4 := Lib.hid hd
      have O4 := Lib.hid (O3.out.trans ho)
      clear hd ho
      go_wp2
      go_ret
      exact ⟨_, i4, g4, rfl, Int.emod_nonneg _ (by omega), by have := Int.emod_lt_of_pos (x1 * 16777216 + x2 * 65536 + x3 * 256 + x4) (show 0 < n by omega); omega, D4.out, O4.out⟩

set_option maxHeartbeats 1000000 in
theorem l1Once_is {w : World} {B p : Nat} {ab : Option Addr} {cb : Nat} {bs : List Int} {i : Nat} {h n : Int} (d : Dr w B p ab cb bs i h) (h1 : 0 < n) (h2 : n ≤ 9223372036854775807) :
    Calls Tryz.prog 78 #[.pointer (some ⟨p, 0, none⟩), .int .i64 n] w fun e w' => ∃ r i h, e = .returned (.bool r) ∧ Dr w' B p ab cb bs i h ∧ Only (fun b => b = p) w w' := by
  have HD := Lib.hid d
  clear d
  go_enter Tryz.func78, Tryz.ntmps78
  go_wp2_with fail
  refine (l1Below_is (hi := n - 1) HD.out (by omega) (by omega) h2).mono ?_
  rintro e w1 ⟨x, i1, g1, rfl, hx0, hx1, hd, ho⟩
  have D1 := Lib.hid hd
  have O1 := Lib.hid ho
  clear hd ho
  go_wp2
  go_ret
  exact ⟨_, i1, g1, rfl, D1.out, O1.out⟩
end
end

end Go.Proofs.YtokcinhopajniaaGreatDoor
