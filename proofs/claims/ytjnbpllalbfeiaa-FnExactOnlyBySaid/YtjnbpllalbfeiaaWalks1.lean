/-
  An arena that grows, its parts named. No program text.
-/
import Derived.Test.YtjnbpllalbfeiaaBase1
import Derived.WalkSmall
import Derived.Deep.RegionHeld3
import Derived.Laws.Closers25b
namespace Go.Proofs.Ytjnbpllalbfeiaa
section
section
open Go.RowKit

/-- t: the struct that grows, with the owners vo and the rows vn (row k is V k); b: the argument's box. -/
structure Half3 (w wr : World) (t b : Nat) (vo vn : Value) (V : Nat → Value) (sa sb : Value) (O : List Int) (zss : List (List Int)) : Prop where
  below : Below w.heap.size w wr
  box : Box2 wr b 29 sa sb
  str : Box2 wr t 29 vo vn
  ints : OwnInts wr w.heap.size wr.heap.size vo O
  rows : OwnRows wr w.heap.size wr.heap.size vn V zss
  apart : ∀ i, i < zss.length → ∀ g, (V i).ownBlock = some g → vo.ownBlock ≠ some g

theorem Half3.keep {w wr wr' : World} {t b : Nat} {vo vn : Value} {V : Nat → Value} {sa sb : Value} {O : List Int} {zss : List (List Int)} (h : Half3 w wr t b vo vn V sa sb O zss) (hb : Below wr.heap.size wr wr') : Half3 w wr' t b vo vn V sa sb O zss :=
  ⟨h.below.trans (hb.mono h.below.size), h.box.below hb, h.str.below hb, (h.ints.below hb).retop, (h.rows.below hb).retop, h.apart⟩

theorem Half3.owner {w wr w1 : World} {t b gg cap : Nat} {vo vn : Value} {V : Nat → Value} {sa sb : Value} {O : List Int} {x : Int} {zss : List (List Int)} (h : Half3 w wr t b vo vn V sa sb O zss) (htw : w.heap.size ≤ t) (hbt : b ≠ t) (hl : O.length ≤ 1048576) (hx : Fits x)
    (hown1 : w1.ownsRow w.heap.size 2 1 (.slice (some ⟨gg, 0, none⟩) (O.length + 1) cap) (O.length + 1) (O.map (Value.int .i64) ++ [.int .i64 x])) (hgrow : wr.grownBy w1 vo.ownBlock) (hat : vo.ownBlock = some gg ∨ wr.heap.size ≤ gg) :
    Half3 w (w1.setCell ⟨t, 0, none⟩ (.slice (some ⟨gg, 0, none⟩) (O.length + 1) cap)) t b (.slice (some ⟨gg, 0, none⟩) (O.length + 1) cap) vn V sa sb (O ++ [x]) zss := by
  have hown := h.ints.own
  have hT1 := h.str.grown hown (by decide) hgrow
  have hb1 := h.box.grown hown (by decide) hgrow
  have hI : OwnInts w1 w.heap.size w1.heap.size (.slice (some ⟨gg, 0, none⟩) (O.length + 1) cap) (O ++ [x]) := by
    refine OwnInts.mk' (by simpa using hown1) (by simp; omega) fun k hk => ?_
    by_cases e : k < O.length
    · rw [show nth (O ++ [x]) k = nth O k from by simp [nth, List.getElem?_append_left e]]
      exact h.ints.fits k e
    · have : k = O.length := by simp at hk; omega
      subst this
      rw [show nth (O ++ [x]) O.length = x from by simp [nth]]
      exact hx
  have hR := h.rows.only (Only.of_grown hgrow) (fun g h1 h2 => own_types h.rows.own hown g h1 h2) (fun k hk g h1 h2 => h.apart k hk g h1 h2)
  have hS := Box2.set0_only (w := w1) (t := t) (.slice (some ⟨gg, 0, none⟩) (O.length + 1) cap)
  refine ⟨?_, hb1.only hS hbt, hT1.set0 _, (hI.only hS (fun g hg e => hT1.not_own hI.own (by decide) (by rw [hg, e]))).retop, (hR.only hS (fun g hg e => hT1.not_own hR.own (by decide) (by rw [hg, e])) (fun k hk g hg e => hT1.not_own (hR.rows k hk).own (by decide) (by rw [hg, e]))).retop, fun i hi g hg hh => ?_⟩
  · exact (h.below.trans ((Only.of_grown hgrow).below h.below.size (fun g hg => (hown.lt g hg).1))).setCell htw _
  · simp [Value.ownBlock] at hh
    subst hh
    rcases hat with h' | h'
    · exact h.apart i hi _ hg h'
    · have := (h.rows.rows i hi).top _ hg
      omega

theorem Half3.push {w wr w3 : World} {t b gg cap : Nat} {vo vn u : Value} {V : Nat → Value} {sa sb : Value} {O zs : List Int} {zss : List (List Int)} {B D : Nat} (h : Half3 w wr t b vo vn V sa sb O zss) (htw : w.heap.size ≤ t) (hbt : b ≠ t) (hl : zss.length ≤ 1048576)
    (hu : OwnInts wr B D u zs) (hB : w.heap.size ≤ B) (hapu : ∀ i, i < zss.length → ∀ g, u.ownBlock = some g → (V i).ownBlock ≠ some g) (hvu : ∀ g, u.ownBlock = some g → vo.ownBlock ≠ some g)
    (hown3 : w3.ownsRow w.heap.size 22 1 (.slice (some ⟨gg, 0, none⟩) (zss.length + 1) cap) (zss.length + 1) ((List.range zss.length).map V ++ [u])) (hgrow : wr.grownBy w3 vn.ownBlock) :
    Half3 w (w3.setCell ⟨t, 1, none⟩ (.slice (some ⟨gg, 0, none⟩) (zss.length + 1) cap)) t b vo (.slice (some ⟨gg, 0, none⟩) (zss.length + 1) cap) (fun i => if i = zss.length then u else V i) sa sb O (zss ++ [zs]) := by
  have hown := h.rows.own
  have hT3 := h.str.grown hown (by decide) hgrow
  have hb3 := h.box.grown hown (by decide) hgrow
  have hvo3 : OwnInts w3 w.heap.size w3.heap.size vo O := (h.ints.only (Only.of_grown hgrow) (fun g h1 h2 => own_types hown h.ints.own g h2 h1)).retop
  have hrows := h.rows.push (w1 := w3) (hu.base hB) (fun i hi g h1 h3 => hapu i hi g h1 h3) hown3 (Only.of_grown hgrow) (by omega)
  have hS : Only (fun b => b = t) w3 (w3.setCell ⟨t, 1, none⟩ (.slice (some ⟨gg, 0, none⟩) (zss.length + 1) cap)) := Box2.set1_only _
  refine ⟨(h.below.trans ((Only.of_grown hgrow).below h.below.size (fun g hg => (hown.lt g hg).1))).setCell htw _, hb3.only hS hbt, hT3.set1 _, (hvo3.only hS (fun g hg e => hT3.not_own hvo3.own (by decide) (by rw [hg, e]))).retop, (hrows.only hS (fun g hg e => hT3.not_own hrows.own (by decide) (by rw [hg, e])) (fun k hk g hg e => hT3.not_own (hrows.rows k hk).own (by decide) (by rw [hg, e]))).retop, fun i hi g hg => ?_⟩
  by_cases e : i = zss.length
  · subst e
    simp only [if_true] at hg
    exact hvu g hg
  · simp only [if_neg e] at hg
    exact h.apart i (by simp at hi; omega) g hg

/-- The i-th row of the arena that S induces. -/
def inRow (S : List Int) (zss : List (List Int)) (i : Nat) : List Int := places S (row zss (nth S i).toNat) (row zss (nth S i).toNat).length
def inNK (S : List Int) (zss : List (List Int)) (k : Nat) : List (List Int) := (List.range k).map (inRow S zss)
def inOK (S : List Int) (O : List Int) (k : Nat) : List Int := (List.range k).map fun i => nth O (nth S i).toNat

theorem inNK_len (S : List Int) (zss : List (List Int)) (k : Nat) : (inNK S zss k).length = k := by simp [inNK]
theorem inOK_len (S O : List Int) (k : Nat) : (inOK S O k).length = k := by simp [inOK]
theorem inNK_succ (S : List Int) (zss : List (List Int)) (k : Nat) : inNK S zss (k + 1) = inNK S zss k ++ [inRow S zss k] := by simp [inNK, List.range_succ]
theorem inOK_succ (S O : List Int) (k : Nat) : inOK S O (k + 1) = inOK S O k ++ [nth O (nth S k).toNat] := by simp [inOK, List.range_succ]

/-- When InsideOf yields an arena. -/
def InsideP (O : List Int) (zss : List (List Int)) (S : List Int) : Prop := ArenaP O zss ∧ setB O.length S = true ∧ 0 < S.length ∧ ∀ i, i < S.length → 0 < (inRow S zss i).length

open Classical in
noncomputable def insideO (O : List Int) (zss : List (List Int)) (S : List Int) : List Int := if InsideP O zss S then inOK S O S.length else []
open Classical in
noncomputable def insideN (O : List Int) (zss : List (List Int)) (S : List Int) : List (List Int) := if InsideP O zss S then inNK S zss S.length else []
open Classical in
noncomputable def insideB (O : List Int) (zss : List (List Int)) (S : List Int) : Bool := decide (InsideP O zss S)

/-- A call hands back an arena of its own and a bool. -/
def GivesArenaB (w : World) (O : List Int) (zss : List (List Int)) (r : Bool) (e : Ending) (w' : World) : Prop :=
  ∃ v, e = .returned (.tuple #[v, .bool r]) ∧ OwnArena w' w.heap.size w'.heap.size v O zss ∧ Below w.heap.size w w'

theorem inside_no {O : List Int} {zss : List (List Int)} {S : List Int} (h : ¬ InsideP O zss S) : insideO O zss S = [] ∧ insideN O zss S = [] ∧ insideB O zss S = false := by
  unfold insideO insideN insideB
  rw [if_neg h, if_neg h]; exact ⟨rfl, rfl, by simp [h]⟩
theorem inside_yes {O : List Int} {zss : List (List Int)} {S : List Int} (h : InsideP O zss S) : insideO O zss S = inOK S O S.length ∧ insideN O zss S = inNK S zss S.length ∧ insideB O zss S = true := by
  unfold insideO insideN insideB
  rw [if_pos h, if_pos h]; exact ⟨rfl, rfl, by simp [h]⟩

theorem zero_stored {w wr : World} {r : Nat} (hb : Below w.heap.size w wr) (hr : w.heap.size ≤ r) : Below w.heap.size w ((wr.setCell ⟨r, 0, none⟩ (.slice none 0 0)).setCell ⟨r, 1, none⟩ (.slice none 0 0)) :=
  (hb.setCell (p := ⟨r, 0, none⟩) hr _).setCell (p := ⟨r, 1, none⟩) hr _
end

section
open Go.RowKit

/-- v is reached from F by at least one step, every vertex stepped to being one of I. -/
inductive Rch (zss : List (List Int)) (I : Nat → Bool) (F : List Int) : Nat → Prop
  | one {u v : Nat} : (u : Int) ∈ F → (v : Int) ∈ row zss u → I v = true → Rch zss I F v
  | more {u v : Nat} : Rch zss I F u → (v : Int) ∈ row zss u → I v = true → Rch zss I F v

/-- How many of the first n are not marked. -/
def cnt (xs : Nat → Bool) : Nat → Nat
  | 0 => 0
  | k + 1 => cnt xs k + if xs k = true then 0 else 1

theorem cnt_le (xs : Nat → Bool) (n : Nat) : cnt xs n ≤ n := by
  induction n with
  | zero => simp [cnt]
  | succ k ih => simp only [cnt]; split <;> omega

theorem cnt_congr {xs ys : Nat → Bool} {n : Nat} (h : ∀ i, i < n → xs i = ys i) : cnt xs n = cnt ys n := by
  induction n with
  | zero => rfl
  | succ k ih => simp only [cnt]; rw [ih (fun i hi => h i (by omega)), h k (by omega)]

/-- One more mark. -/
def mark1 (xs : Nat → Bool) (v : Nat) (b : Bool) : Nat → Bool := fun i => if i = v then b else xs i

theorem cnt_mark {xs : Nat → Bool} {n v : Nat} (hv : v < n) (hx : xs v = false) : cnt (mark1 xs v true) n + 1 = cnt xs n := by
  induction n with
  | zero => omega
  | succ k ih =>
    simp only [cnt]
    by_cases e : v = k
    · subst e
      have h1 : cnt (mark1 xs v true) v = cnt xs v := cnt_congr fun i hi => by simp [mark1, show i ≠ v from by omega]
      have h2 : mark1 xs v true v = true := by simp [mark1]
      rw [h1, h2, hx]; simp
    · have h1 := ih (by omega)
      have h2 : mark1 xs v true k = xs k := by simp [mark1, show k ≠ v from fun h => e h.symm]
      rw [h2]; omega

theorem mark1_self (xs : Nat → Bool) (v : Nat) (b : Bool) : mark1 xs v b v = b := by simp [mark1]
theorem mark1_mono {xs : Nat → Bool} {v i : Nat} (h : xs i = true) : mark1 xs v true i = true := by
  unfold mark1; split <;> simp_all

/-- The model's search: xs is marked, todo is still to be looked at. -/
structure Bey0 (zss : List (List Int)) (I : Nat → Bool) (F : List Int) (n : Nat) (xs : Nat → Bool) (todo : List Int) : Prop where
  snd : ∀ v, v < n → xs v = true → Rch zss I F v
  tin : ∀ t ∈ todo, ∃ u : Nat, t = (u : Int) ∧ u < n ∧ ((u : Int) ∈ F ∨ xs u = true)
  cmp : ∀ u : Nat, u < n → ((u : Int) ∈ F ∨ xs u = true) → (u : Int) ∈ todo ∨ ∀ v : Nat, (v : Int) ∈ row zss u → I v = true → xs v = true
  bnd : todo.length + cnt xs n ≤ F.length + n

/-- The same inside a round: p was taken, q of its successors have been looked at. -/
structure Bey (zss : List (List Int)) (I : Nat → Bool) (F : List Int) (n : Nat) (xs : Nat → Bool) (todo : List Int) (p q : Nat) : Prop where
  snd : ∀ v, v < n → xs v = true → Rch zss I F v
  tin : ∀ t ∈ todo, ∃ u : Nat, t = (u : Int) ∧ u < n ∧ ((u : Int) ∈ F ∨ xs u = true)
  cmp : ∀ u : Nat, u < n → ((u : Int) ∈ F ∨ xs u = true) → (u : Int) ∈ todo ∨ u = p ∨ ∀ v : Nat, (v : Int) ∈ row zss u → I v = true → xs v = true
  pin : (p : Int) ∈ F ∨ xs p = true
  prt : ∀ j, j < q → ∀ v : Nat, nth (row zss p) j = (v : Int) → I v = true → xs v = true
  bnd : todo.length + 1 + cnt xs n ≤ F.length + n

theorem Bey0.start {zss : List (List Int)} {I : Nat → Bool} {F : List Int} {n : Nat} (hF : ∀ f ∈ F, ∃ u : Nat, f = (u : Int) ∧ u < n) : Bey0 zss I F n (fun _ => false) F :=
  ⟨fun v _ h => by simp at h, fun t ht => (hF t ht).elim fun u hu => ⟨u, hu.1, hu.2, .inl (hu.1 ▸ ht)⟩,
    fun u _ h => by
      rcases h with h | h
      · exact .inl h
      · simp at h, by have := cnt_le (fun _ => false) n; omega⟩

theorem Bey0.take {zss : List (List Int)} {I : Nat → Bool} {F : List Int} {n : Nat} {xs : Nat → Bool} {ts : List Int} {p : Nat} (h : Bey0 zss I F n xs (ts ++ [(p : Int)])) : p < n ∧ Bey zss I F n xs ts p 0 := by
  obtain ⟨u, hu, hun, hx⟩ := h.tin (p : Int) (by simp)
  have : p = u := by omega
  subst this
  refine ⟨hun, h.snd, fun t ht => h.tin t (by simp [ht]), fun u hu hx => ?_, hx, fun j hj => by omega, by have := h.bnd; simp at this; omega⟩
  rcases h.cmp u hu hx with hm | hm
  · rcases List.mem_append.1 hm with hm | hm
    · exact .inl hm
    · simp at hm; exact .inr (.inl (by omega))
  · exact .inr (.inr hm)

theorem Bey.skip {zss : List (List Int)} {I : Nat → Bool} {F : List Int} {n : Nat} {xs : Nat → Bool} {ts : List Int} {p q u : Nat} (h : Bey zss I F n xs ts p q) (hu : nth (row zss p) q = (u : Int)) (hs : I u = false ∨ xs u = true) : Bey zss I F n xs ts p (q + 1) :=
  ⟨h.snd, h.tin, h.cmp, h.pin, fun j hj v hv hI => by
    by_cases e : j = q
    · subst e
      have : u = v := by omega
      subst this
      rcases hs with hs | hs
      · rw [hs] at hI; cases hI
      · exact hs
    · exact h.prt j (by omega) v hv hI, h.bnd⟩

theorem Bey.push {zss : List (List Int)} {I : Nat → Bool} {F : List Int} {n : Nat} {xs : Nat → Bool} {ts : List Int} {p q u : Nat} (h : Bey zss I F n xs ts p q) (hp : p < n) (hq : q < (row zss p).length) (hu : nth (row zss p) q = (u : Int)) (hun : u < n) (hI : I u = true) (hx : xs u = false) :
    Bey zss I F n (mark1 xs u true) (ts ++ [(u : Int)]) p (q + 1) := by
  have hmem : (u : Int) ∈ row zss p := by rw [← hu]; exact nth_mem hq
  refine ⟨fun v hv hm => ?_, fun t ht => ?_, fun v hv hm => ?_, ?_, fun j hj v hv hIv => ?_, ?_⟩
  · by_cases e : v = u
    · subst e
      rcases h.pin with hf | hf
      · exact .one hf hmem hI
      · exact .more (h.snd p hp hf) hmem hI
    · exact h.snd v hv (by simpa [mark1, e] using hm)
  · rcases List.mem_append.1 ht with ht | ht
    · obtain ⟨w, h1, h2, h3⟩ := h.tin t ht
      exact ⟨w, h1, h2, h3.imp_right mark1_mono⟩
    · simp at ht
      exact ⟨u, ht, hun, .inr (mark1_self _ _ _)⟩
  · by_cases e : v = u
    · subst e; exact .inl (by simp)
    · have hm' : (v : Int) ∈ F ∨ xs v = true := hm.imp_right fun hh => by simpa [mark1, e] using hh
      rcases h.cmp v hv hm' with h1 | h1 | h1
      · exact .inl (List.mem_append.2 (.inl h1))
      · exact .inr (.inl h1)
      · exact .inr (.inr fun z hz hIz => mark1_mono (h1 z hz hIz))
  · exact h.pin.imp_right mark1_mono
  · by_cases e : j = q
    · subst e
      have : u = v := by omega
      subst this
      exact mark1_self _ _ _
    · exact mark1_mono (h.prt j (by omega) v hv hIv)
  · have h1 := cnt_mark hun hx
    have h2 := h.bnd
    simp
    omega

theorem Bey.done {zss : List (List Int)} {I : Nat → Bool} {F : List Int} {n : Nat} {xs : Nat → Bool} {ts : List Int} {p q : Nat} (h : Bey zss I F n xs ts p q) (hq : (row zss p).length ≤ q) : Bey0 zss I F n xs ts :=
  ⟨h.snd, h.tin, fun u hu hx => by
    rcases h.cmp u hu hx with h1 | h1 | h1
    · exact .inl h1
    · subst h1
      refine .inr fun v hv hI => ?_
      obtain ⟨i, hi, he⟩ := mem_nth.1 hv
      exact h.prt i (by omega) v he hI
    · exact .inr h1, by have := h.bnd; omega⟩

/-- At the end all that is reached is marked. -/
theorem Bey0.all {zss : List (List Int)} {I : Nat → Bool} {F : List Int} {n : Nat} {xs : Nat → Bool} (h : Bey0 zss I F n xs []) (hin : ∀ u : Nat, u < n → ∀ v : Nat, (v : Int) ∈ row zss u → v < n) (hF : ∀ f ∈ F, ∃ u : Nat, f = (u : Int) ∧ u < n) (v : Nat) (hv : v < n) : xs v = true ↔ Rch zss I F v := by
  refine ⟨h.snd v hv, fun hr => ?_⟩
  have key : ∀ v, Rch zss I F v → v < n ∧ xs v = true := by
    intro v hr
    induction hr with
    | @one u v hf hm hI =>
      obtain ⟨u', h1, h2⟩ := hF _ hf
      have : u = u' := by omega
      subst this
      rcases h.cmp u h2 (.inl hf) with hh | hh
      · cases hh
      · exact ⟨hin u h2 v hm, hh v hm hI⟩
    | @more u v _ hm hI ih =>
      rcases h.cmp u ih.1 (.inr ih.2) with hh | hh
      · cases hh
      · exact ⟨hin u ih.1 v hm, hh v hm hI⟩
  exact (key v hr).2

/-- What is marked, rising. -/
def markedK (xs : Nat → Bool) : Nat → List Int
  | 0 => []
  | k + 1 => markedK xs k ++ if xs k = true then [(k : Int)] else []

theorem markedK_len (xs : Nat → Bool) (k : Nat) : (markedK xs k).length ≤ k := by
  induction k with
  | zero => simp [markedK]
  | succ k ih => simp only [markedK]; split <;> simp <;> omega

theorem markedK_mem (xs : Nat → Bool) (k : Nat) (x : Int) : x ∈ markedK xs k ↔ ∃ v : Nat, x = (v : Int) ∧ v < k ∧ xs v = true := by
  induction k with
  | zero => simp [markedK]
  | succ k ih =>
    simp only [markedK, List.mem_append, ih]
    constructor
    · rintro (⟨v, h1, h2, h3⟩ | h)
      · exact ⟨v, h1, by omega, h3⟩
      · split at h
        · simp at h; exact ⟨k, h, by omega, by assumption⟩
        · simp at h
    · rintro ⟨v, h1, h2, h3⟩
      by_cases e : v = k
      · subst e; right; rw [if_pos h3]; simp [h1]
      · exact .inl ⟨v, h1, by omega, h3⟩

theorem markedK_congr {xs ys : Nat → Bool} {n : Nat} (h : ∀ i, i < n → xs i = ys i) : markedK xs n = markedK ys n := by
  induction n with
  | zero => rfl
  | succ k ih => simp only [markedK]; rw [ih (fun i hi => h i (by omega)), h k (by omega)]

theorem markedK_fits (xs : Nat → Bool) (k : Nat) (hk : k ≤ 17592186044416) : ∀ j, j < (markedK xs k).length → Fits (nth (markedK xs k) j) := fun j hj => by
  obtain ⟨v, h1, h2, _⟩ := (markedK_mem xs k _).1 (nth_mem hj)
  unfold Fits; omega

open Classical in
/-- Reached from F by any number of steps. -/
noncomputable def reachM (zss : List (List Int)) (F : List Int) : Nat → Bool := fun v => decide ((v : Int) ∈ F ∨ Rch zss (fun _ => true) F v)

open Classical in
/-- The value of ReachOf. -/
noncomputable def reachL (O : List Int) (zss : List (List Int)) (F : List Int) : List Int := if ArenaP O zss ∧ setB O.length F = true then markedK (reachM zss F) zss.length else []
end
end

section
open Go.RowKit

theorem info_bool : (Try.prog.info? 4).map (fun i => (i.zero, i.size, i.bytes)) = some (some (.bool false), 1, 1) := by kernel_rfl

/-- What a row of marks reads as. -/
def marksV (xs : Nat → Bool) : Nat → Value := fun i => .bool (xs i)

theorem marks_set {w : World} {b n v : Nat} {t : TypeId} {xs : Nat → Bool} {c : Bool} (h : w.rowIs b t n (marksV xs)) : (w.setCell ⟨b, v, none⟩ (.bool c)).rowIs b t n (marksV (mark1 xs v c)) := by
  refine (h.set v _).congr fun i _ => ?_
  simp only [marksV, mark1]
  by_cases e : i = v
  · subst e; simp
  · simp [e]

end

section
open Go.RowKit

theorem rowIs_only {S : Nat → Prop} {w w' : World} {g n : Nat} {t : TypeId} {f : Nat → Value} (h : w.rowIs g t n f) (hk : Only S w w') (hs : ¬ S g) : w'.rowIs g t n f := h.of_block (hk.block g h.lt hs)

theorem own_top {w : World} {B n : Nat} {e : TypeId} {v : Value} {xs : List Value} (h : w.ownsRow B e 1 v n xs) (hn : 0 < n) : ∃ g cap, v = .slice (some ⟨g, 0, none⟩) n cap ∧ n ≤ cap ∧ cap ≤ maxLen ∧ B ≤ g := by
  rcases h.2 with ⟨_, h0⟩ | ⟨g, cap, cur, hv, hg, _, hc, hm, _⟩
  · omega
  · exact ⟨g, cap, hv, hc, hm, hg⟩

open Classical in
/-- How many cells of a block of marks are not set. -/
noncomputable def cntW (w : World) (b n : Nat) : Nat := cnt (fun k => decide (w.cell? ⟨b, k, none⟩ = some (.bool true))) n

theorem cntW_of {w : World} {b n : Nat} {t : TypeId} {xs : Nat → Bool} (h : w.rowIs b t n (marksV xs)) : cntW w b n = cnt xs n := by
  refine cnt_congr fun i hi => ?_
  have hc := h.cell hi
  rw [hc]
  by_cases hb : xs i = true
  · simp [marksV, hb]
  · have hb' : xs i = false := by simpa using hb
    simp [marksV, hb']

theorem own_shape {w : World} {B n : Nat} {e : TypeId} {v : Value} {xs : List Value} (h : w.ownsRow B e 1 v n xs) : ∃ a c, v = .slice a n c := by
  rcases h.2 with ⟨hv, h0⟩ | ⟨g, cap, cur, hv, _⟩
  · exact ⟨_, _, by rw [hv, h0]⟩
  · exact ⟨_, _, hv⟩

def lenOf : Value → Nat
  | .slice _ n _ => n
  | _ => 0

theorem lenOf_own {w : World} {B n : Nat} {e : TypeId} {v : Value} {xs : List Value} (h : w.ownsRow B e 1 v n xs) : lenOf v = n := by
  rcases h.2 with ⟨hv, h0⟩ | ⟨g, cap, cur, hv, _⟩
  · rw [hv, h0]; rfl
  · rw [hv]; rfl

open Classical in
/-- What l1Beyond marks. -/
noncomputable def beyM (zss : List (List Int)) (I : Nat → Bool) (F : List Int) : Nat → Bool := fun v => decide (Rch zss I F v)

end

section
section
open Go.RowKit

/-- One call after another; what each leaves behind is appended. -/
def dfsL (step : (Nat → Bool) → Nat → (Nat → Bool) × List Int) : (Nat → Bool) → List Int → (Nat → Bool) × List Int
  | o, [] => (o, [])
  | o, u :: us => ((dfsL step (step o u.toNat).1 us).1, (step o u.toNat).2 ++ (dfsL step (step o u.toNat).1 us).2)

/-- What the walk from v leaves open, and what it leaves behind, in its order. -/
def dfs (zss : List (List Int)) : Nat → (Nat → Bool) → Nat → (Nat → Bool) × List Int
  | 0, o, _ => (o, [])
  | f + 1, o, v => if o v = true then ((dfsL (dfs zss f) (mark1 o v false) (row zss v)).1, (dfsL (dfs zss f) (mark1 o v false) (row zss v)).2 ++ [(v : Int)]) else (o, [])

theorem dfsL_snoc (step : (Nat → Bool) → Nat → (Nat → Bool) × List Int) (us : List Int) (u : Int) : ∀ o, dfsL step o (us ++ [u]) = ((step (dfsL step o us).1 u.toNat).1, (dfsL step o us).2 ++ (step (dfsL step o us).1 u.toNat).2) := by
  induction us with
  | nil => intro o; simp [dfsL]
  | cons x xs ih => intro o; simp [dfsL, ih, List.append_assoc]

/-- How many of the first n are open. -/
def opens (o : Nat → Bool) : Nat → Nat
  | 0 => 0
  | k + 1 => opens o k + if o k = true then 1 else 0

theorem opens_le (o : Nat → Bool) (n : Nat) : opens o n ≤ n := by
  induction n with
  | zero => simp [opens]
  | succ k ih => simp only [opens]; split <;> omega

theorem opens_mono {o o' : Nat → Bool} {n : Nat} (h : ∀ i, i < n → o' i = true → o i = true) : opens o' n ≤ opens o n := by
  induction n with
  | zero => simp [opens]
  | succ k ih =>
    have h1 := ih (fun i hi => h i (by omega))
    simp only [opens]
    by_cases e : o' k = true
    · rw [if_pos e, if_pos (h k (by omega) e)]; omega
    · rw [if_neg e]; omega

theorem opens_shut {o : Nat → Bool} {n v : Nat} (hv : v < n) (ho : o v = true) : opens (mark1 o v false) n + 1 = opens o n := by
  induction n with
  | zero => omega
  | succ k ih =>
    simp only [opens]
    by_cases e : v = k
    · subst e
      have h1 : opens (mark1 o v false) v = opens o v := by
        apply Nat.le_antisymm
        · exact opens_mono fun i hi h => by simpa [mark1, show i ≠ v from by omega] using h
        · exact opens_mono fun i hi h => by simpa [mark1, show i ≠ v from by omega] using h
      rw [h1, mark1_self, ho]; simp
    · have h1 := ih (by omega)
      have h2 : mark1 o v false k = o k := by simp [mark1, show k ≠ v from fun h => e h.symm]
      rw [h2]; omega

/-- A step that opens nothing. -/
def Shuts (step : (Nat → Bool) → Nat → (Nat → Bool) × List Int) : Prop := ∀ o v i, (step o v).1 i = true → o i = true

theorem dfsL_shuts {step : (Nat → Bool) → Nat → (Nat → Bool) × List Int} (h : Shuts step) (us : List Int) : ∀ o i, (dfsL step o us).1 i = true → o i = true := by
  induction us with
  | nil => intro o i hi; exact hi
  | cons u us ih => intro o i hi; exact h o _ i (ih _ i hi)

theorem dfs_shuts (zss : List (List Int)) : ∀ f, Shuts (dfs zss f) := by
  intro f
  induction f with
  | zero => intro o v i h; exact h
  | succ f ih =>
    intro o v i h
    simp only [dfs] at h
    split at h
    · have := dfsL_shuts ih _ _ _ h
      simp only [mark1] at this
      split at this
      · simp at this
      · exact this
    · exact h

def tri (a b c : Value) : Nat → Value := fun i => if i = 0 then a else if i = 1 then b else c

theorem tri_set {a b c d : Value} : ∀ i, i < 3 → (if i = 2 then d else tri a b c i) = tri a b d i := fun i hi => by
  have h : i = 0 ∨ i = 1 ∨ i = 2 := by omega
  rcases h with rfl | rfl | rfl <;> simp [tri]

theorem dfsL_len {step : (Nat → Bool) → Nat → (Nat → Bool) × List Int} {n : Nat} (h : ∀ o v, v < n → (step o v).2.length + opens (step o v).1 n ≤ opens o n) (us : List Int) (hus : ∀ x ∈ us, ∃ v : Nat, x = (v : Int) ∧ v < n) : ∀ o, (dfsL step o us).2.length + opens (dfsL step o us).1 n ≤ opens o n := by
  induction us with
  | nil => intro o; simp [dfsL]
  | cons u us ih =>
    intro o
    obtain ⟨v, h1, h2⟩ := hus u (by simp)
    subst h1
    have h3 := h o v h2
    have h4 := ih (fun x hx => hus x (by simp [hx])) (step o v).1
    simp only [dfsL, Int.toNat_natCast, List.length_append]
    omega

theorem dfs_len {zss : List (List Int)} (hin : ∀ u : Nat, u < zss.length → ∀ x ∈ row zss u, ∃ v : Nat, x = (v : Int) ∧ v < zss.length) : ∀ f o v, v < zss.length → (dfs zss f o v).2.length + opens (dfs zss f o v).1 zss.length ≤ opens o zss.length := by
  intro f
  induction f with
  | zero => intro o v _; simp [dfs]
  | succ f ih =>
    intro o v hv
    simp only [dfs]
    split
    · next ho =>
      have h1 := opens_shut hv ho
      have h2 := dfsL_len (step := dfs zss f) ih (row zss v) (hin v hv) (mark1 o v false)
      simp only [List.length_append, List.length_singleton]
      omega
    · simp

end

section
open Go.RowKit

/-- 0, ..., n-1. -/
def upL (n : Nat) : List Int := (List.range n).map (fun (i : Nat) => Int.ofNat i)
theorem upL_len (n : Nat) : (upL n).length = n := by simp [upL]
theorem upL_nth {n i : Nat} (h : i < n) : nth (upL n) i = i := by simp [nth, upL, h]

def upPart (k : Nat) : Nat → Value := fun i => if i < k then .int .i64 i else .int .i64 0

theorem up_step {w : World} {g n k : Nat} {t : TypeId} (h : w.rowIs g t n (upPart k)) : (w.setCell ⟨g, k, none⟩ (.int .i64 k)).rowIs g t n (upPart (k + 1)) := by
  refine (h.set k _).congr fun i _ => ?_
  simp only [upPart]
  by_cases e : i = k
  · subst e; simp
  · by_cases hlt : i < k
    · rw [if_neg e, if_pos hlt, if_pos (by omega)]
    · rw [if_neg e, if_neg hlt, if_neg (by omega)]

/-- What is open at first: the elements of a list. -/
def openS (S : List Int) (k : Nat) : Nat → Bool := fun v => decide ((v : Int) ∈ S.take k)

theorem openS_succ {S : List Int} {k u : Nat} (hk : k < S.length) (hu : nth S k = (u : Int)) : openS S (k + 1) = mark1 (openS S k) u true := by
  funext v
  have ht : S.take (k + 1) = S.take k ++ [(u : Int)] := by
    rw [List.take_add_one, List.getElem?_eq_getElem hk, ← hu, nth_eq hk]; rfl
  by_cases e : v = u
  · subst e; simp [mark1, openS, ht]
  · have e' : (v : Int) ≠ (u : Int) := by omega
    simp [mark1, openS, ht, e, e']

end
end

section
open Go.RowKit

def fnL (n : Nat) (f : Nat → Int) : List Int := (List.range n).map f
theorem fnL_len (n : Nat) (f : Nat → Int) : (fnL n f).length = n := by simp [fnL]
theorem fnL_nth {n i : Nat} {f : Nat → Int} (h : i < n) : nth (fnL n f) i = f i := by simp [nth, fnL, h]
theorem fnL_succ (n : Nat) (f : Nat → Int) : fnL (n + 1) f = fnL n f ++ [f n] := by simp [fnL, List.range_succ]
theorem fnL_congr {n : Nat} {f g : Nat → Int} (h : ∀ i, i < n → f i = g i) : fnL n f = fnL n g := List.map_congr_left fun i hi => h i (List.mem_range.1 hi)
theorem fnL_eq {n : Nat} {f g : Nat → Int} (h : fnL n f = fnL n g) : ∀ i, i < n → f i = g i := fun i hi => by
  have := congrArg (fun l => nth l i) h
  simpa [fnL_nth hi] using this
theorem fnL_set {n u : Nat} {f : Nat → Int} {x : Int} : (fnL n f).set u x = fnL n (fun i => if i = u then x else f i) := by
  apply List.ext_getElem?
  intro i
  by_cases hi : i < n
  · by_cases e : i = u
    · subst e; simp [fnL, hi]
    · simp [fnL, hi, e, Ne.symm e]
  · simp [fnL, hi]

/-- The slice at the head of block g owns f's values. -/
def OwnF (w : World) (B g cap n : Nat) (f : Nat → Int) : Prop := OwnInts w B w.heap.size (.slice (some ⟨g, 0, none⟩) n cap) (fnL n f)

theorem OwnF.row {w : World} {B g cap n : Nat} {f : Nat → Int} (h : OwnF w B g cap n f) : w.ownsRow B 2 1 (.slice (some ⟨g, 0, none⟩) n cap) n ((fnL n f).map (Value.int .i64)) := by
  have := h.own
  rw [fnL_len] at this
  exact this
theorem OwnF.lt {w : World} {B g cap n : Nat} {f : Nat → Int} (h : OwnF w B g cap n f) : B ≤ g ∧ g < w.heap.size := h.own.lt g rfl
theorem OwnF.ints {w : World} {B g cap n : Nat} {f : Nat → Int} (h : OwnF w B g cap n f) : IntsAt w (some ⟨g, 0, none⟩) (fnL n f) := by
  obtain ⟨a, c, hv, hi, _⟩ := h.shape
  simp only [Value.slice.injEq] at hv
  rw [hv.1]
  exact hi
theorem OwnF.cell {w : World} {B g cap n u : Nat} {f : Nat → Int} (h : OwnF w B g cap n f) (hu : u < n) : w.cell? ⟨g, u, none⟩ = some (.int .i64 (f u)) := by
  rw [h.row.cellAt u (by omega)]
  simp [fnL, hu]
theorem OwnF.frozen {w : World} {B g cap n : Nat} {f : Nat → Int} (h : OwnF w B g cap n f) (u : Nat) : w.frozen? ⟨g, u, none⟩ = false := h.row.frozenAt u
theorem OwnF.only {w w' : World} {S : Nat → Prop} {B g cap n : Nat} {f : Nat → Int} (h : OwnF w B g cap n f) (hk : Only S w w') (hs : ¬ S g) : OwnF w' B g cap n f :=
  (OwnInts.only h hk (fun b hb => by simp [Value.ownBlock] at hb; subst hb; exact hs)).retop
theorem OwnF.congr {w : World} {B g cap n : Nat} {f f' : Nat → Int} (h : OwnF w B g cap n f) (he : ∀ i, i < n → f i = f' i) : OwnF w B g cap n f' := by
  unfold OwnF at *; rw [← fnL_congr he]; exact h
theorem OwnF.put {w : World} {B g cap n u : Nat} {f : Nat → Int} {x : Int} (h : OwnF w B g cap n f) (hx : Fits x) : OwnF (w.setCell ⟨g, u, none⟩ (.int .i64 x)) B g cap n (fun i => if i = u then x else f i) := by
  obtain ⟨hs, _⟩ := h.row.stored u (.int .i64 x)
  have hm : ((fnL n f).map (Value.int .i64)).set u (.int .i64 x) = (fnL n (fun i => if i = u then x else f i)).map (Value.int .i64) := by rw [← fnL_set, List.map_set]
  rw [hm] at hs
  refine OwnInts.mk' (by rw [fnL_len]; exact hs) (by rw [fnL_len]; have := h.len; rw [fnL_len] at this; exact this) fun k hk => ?_
  rw [fnL_len] at hk
  rw [fnL_nth hk]
  have hf := h.fits k (by rw [fnL_len]; exact hk)
  rw [fnL_nth hk] at hf
  by_cases e : k = u
  · rw [if_pos e]; exact hx
  · rw [if_neg e]; exact hf
end

section
open Go.RowKit

/-- What was there in each of these worlds is there still. -/
def Keep : List World → World → Prop
  | [], _ => True
  | a :: l, w => Below a.heap.size a w ∧ Keep l w
theorem Keep.step : ∀ {l : List World} {w w' : World}, Keep l w → Below w.heap.size w w' → Keep l w'
  | [], _, _, _, _ => trivial
  | _ :: _, _, _, h, hb => ⟨h.1.trans (hb.mono h.1.size), Keep.step h.2 hb⟩
theorem Keep.add {l : List World} {w : World} (h : Keep l w) : Keep (w :: l) w := ⟨Below.refl _ _, h⟩
theorem Keep.only : ∀ {l : List World} {w w' : World} {S : Nat → Prop}, Keep l w → Only S w w' → (∀ a ∈ l, ∀ b, S b → a.heap.size ≤ b) → Keep l w'
  | [], _, _, _, _, _, _ => trivial
  | a :: l, _, _, _, h, ho, hs => ⟨h.1.trans (ho.below h.1.size (hs a (by simp))), Keep.only h.2 ho fun a ha => hs a (by simp [ha])⟩
theorem only2 {a b : World} {B D : Nat} (ha : a.heap.size ≤ B) (hb : b.heap.size ≤ B) : ∀ x ∈ [b, a], ∀ k, (B ≤ k ∧ k < D) → x.heap.size ≤ k := fun x hx k hk => by
  simp only [List.mem_cons, List.not_mem_nil, or_false] at hx
  rcases hx with rfl | rfl <;> omega
theorem only3 {a b c : World} {B D : Nat} (ha : a.heap.size ≤ B) (hb : b.heap.size ≤ B) (hc : c.heap.size ≤ B) : ∀ x ∈ [c, b, a], ∀ k, (B ≤ k ∧ k < D) → x.heap.size ≤ k := fun x hx k hk => by
  simp only [List.mem_cons, List.not_mem_nil, or_false] at hx
  rcases hx with rfl | rfl | rfl <;> omega

theorem toArena_own {w : World} {v : Value} {O : List Int} {zss : List (List Int)} (h : ArenaAt w v O zss) (hn : zss.length ≤ 1048576) :
    Calls Try.prog 19 #[v] w (GivesArena w O zss) :=
  (toArena_at h hn).mono fun _ _ ⟨he, hc, _⟩ => ⟨_, he, hc.owned h, hc.below⟩
theorem toInts_own {w : World} {v : Value} {zs : List Int} (h : IntsV w v zs) :
    Calls Try.prog 7 #[v] w (GivesInts w zs) := toInts_at h
theorem heldArena_own {w : World} {v : Value} {O : List Int} {zss : List (List Int)} {k r : Int} (hr : k + O.length + sumLen zss zss.length = r) (h : ArenaAt w v (marks k O.length) (markRows (k + O.length) zss)) (h0 : 0 ≤ k) (h1 : k ≤ 1073741824) (hs : sizeArena O zss ≤ 1048576) :
    Calls Try.prog 26 #[v, .int .i64 k] w fun e w' => e = .returned (.int .i64 r) ∧ Below w.heap.size w w' := by
  unfold sizeArena at hs
  exact heldArena_at hr h h0 h1 (by omega) (by omega)
theorem heldInts_own {w : World} {v : Value} {k r : Int} {n : Nat} (hr : k + (n : Int) = r) (h : IntsV w v (marks k n)) (h0 : 0 ≤ k) (h1 : k ≤ 1152921504606846976) :
    Calls Try.prog 27 #[v, .int .i64 k] w fun e w' => e = .returned (.int .i64 r) ∧ Below w.heap.size w w' :=
  (heldInts_is hr h h0 h1).mono fun _ _ ⟨he, hw⟩ => ⟨he, hw ▸ Below.refl _ _⟩

theorem OwnArena.shape2 {w : World} {B D : Nat} {v : Value} {O : List Int} {zss : List (List Int)} (h : OwnArena w B D v O zss) : ∃ a0 c0 a1 c1, v = .agg #[.slice a0 O.length c0, .slice a1 zss.length c1] := by
  obtain ⟨ao, an, co, cn, A, C, hv, _, _⟩ := h.at
  exact ⟨ao, co, an, cn, hv⟩
theorem OwnInts.shape2 {w : World} {B D : Nat} {v : Value} {zs : List Int} (h : OwnInts w B D v zs) : ∃ a c, v = .slice a zs.length c := by
  obtain ⟨a, c, hv, _, _⟩ := h.shape
  exact ⟨a, c, hv⟩
theorem IntsV.at {w : World} {a : Option Addr} {n c : Nat} {zs : List Int} (h : IntsV w (.slice a n c) zs) : IntsAt w a zs := by
  obtain ⟨a', c', hv, hi⟩ := h
  cases hv; exact hi
end

section
open Go.RowKit

/-- What one walk from the vertices us does. -/
structure WalkP (zss : List (List Int)) (o : Nat → Bool) (us : List Int) (r : (Nat → Bool) × List Int) : Prop where
  shut : ∀ i, r.1 i = true → o i = true
  mem : ∀ i, i < zss.length → ((i : Int) ∈ r.2 ↔ o i = true ∧ r.1 i = false)
  nat : ∀ x ∈ r.2, ∃ i : Nat, x = (i : Int) ∧ i < zss.length
  nodup : r.2.Nodup
  reach : ∀ i, i < zss.length → o i = true → r.1 i = false → (i : Int) ∈ us ∨ Rch zss (fun _ => true) us i
  clos : ∀ i, i < zss.length → o i = true → r.1 i = false → ∀ j : Nat, (j : Int) ∈ row zss i → r.1 j = false
  self : ∀ u : Nat, (u : Int) ∈ us → r.1 u = false

theorem rch_mono {zss : List (List Int)} {I : Nat → Bool} {F G : List Int} (h : ∀ x ∈ F, x ∈ G) {v : Nat} (hr : Rch zss I F v) : Rch zss I G v := by
  induction hr with
  | one hf hm hI => exact .one (h _ hf) hm hI
  | more _ hm hI ih => exact .more ih hm hI

theorem rch_from {zss : List (List Int)} {I : Nat → Bool} {F : List Int} {w : Nat} (hw : ∀ u : Nat, (u : Int) ∈ F → (u : Int) ∈ row zss w ∧ I u = true) {G : List Int} (hG : (w : Int) ∈ G) {v : Nat} (hr : Rch zss I F v) : Rch zss I G v := by
  induction hr with
  | one hf hm hI => exact .more (.one hG (hw _ hf).1 (hw _ hf).2) hm hI
  | more _ hm hI ih => exact .more ih hm hI

theorem WalkP.list {zss : List (List Int)} {step : (Nat → Bool) → Nat → (Nat → Bool) × List Int} {m : Nat} (h : ∀ o v, v < zss.length → opens o zss.length < m → WalkP zss o [(v : Int)] (step o v)) (us : List Int) (hus : ∀ x ∈ us, ∃ v : Nat, x = (v : Int) ∧ v < zss.length) :
    ∀ o, opens o zss.length < m → WalkP zss o us (dfsL step o us) := by
  induction us with
  | nil => intro o _; exact ⟨fun i h => h, fun i _ => by simp [dfsL], fun x hx => by simp [dfsL] at hx, by simp [dfsL], fun i _ h1 h2 => by simp [dfsL, h1] at h2, fun i _ h1 h2 => by simp [dfsL, h1] at h2, fun u hu => by simp at hu⟩
  | cons u us ih =>
    intro o ho
    obtain ⟨v, hv, hvn⟩ := hus u (by simp)
    subst hv
    have h1 := h o v hvn ho
    have h2 := ih (fun x hx => hus x (by simp [hx])) (step o v).1 (Nat.lt_of_le_of_lt (opens_mono fun i _ hi => h1.shut i hi) ho)
    have hstay : ∀ i, (step o v).1 i = false → (dfsL step (step o v).1 us).1 i = false := fun i hi => by
      cases hb : (dfsL step (step o v).1 us).1 i with
      | false => rfl
      | true => rw [h2.shut i hb] at hi; cases hi
    refine ⟨fun i hi => ?_, fun i hi => ?_, fun x hx => ?_, ?_, fun i hi hoi hr => ?_, fun i hi hoi hr j hj => ?_, fun w hw => ?_⟩
    · simp only [dfsL, Int.toNat_natCast] at hi
      exact h1.shut i (h2.shut i hi)
    · simp only [dfsL, Int.toNat_natCast, List.mem_append, h1.mem i hi, h2.mem i hi]
      constructor
      · rintro (⟨ha, hb⟩ | ⟨ha, hb⟩)
        · exact ⟨ha, hstay i hb⟩
        · exact ⟨h1.shut i ha, hb⟩
      · rintro ⟨ha, hb⟩
        cases hc : (step o v).1 i with
        | false => exact .inl ⟨ha, rfl⟩
        | true => exact .inr ⟨rfl, hb⟩
    · simp only [dfsL, Int.toNat_natCast, List.mem_append] at hx
      exact hx.elim (h1.nat x) (h2.nat x)
    · simp only [dfsL, Int.toNat_natCast]
      refine List.nodup_append.2 ⟨h1.nodup, h2.nodup, fun a ha b hb hab => ?_⟩
      subst hab
      obtain ⟨i, rfl, hi⟩ := h1.nat a ha
      have q1 := ((h1.mem i hi).1 ha).2
      have q2 := ((h2.mem i hi).1 hb).1
      rw [q1] at q2; cases q2
    · simp only [dfsL, Int.toNat_natCast] at hr
      cases hc : (step o v).1 i with
      | false =>
        rcases h1.reach i hi hoi hc with hh | hh
        · left; simp at hh; simp; left; omega
        · right; exact rch_mono (fun x hx => by simp at hx; simp [hx]) hh
      | true =>
        rcases h2.reach i hi hc hr with hh | hh
        · left; simp [hh]
        · right; exact rch_mono (fun x hx => by simp [hx]) hh
    · simp only [dfsL, Int.toNat_natCast] at hr ⊢
      cases hc : (step o v).1 i with
      | false => exact hstay j (h1.clos i hi hoi hc j hj)
      | true => exact h2.clos i hi hc hr j hj
    · simp only [dfsL, Int.toNat_natCast]
      simp only [List.mem_cons] at hw
      rcases hw with hw | hw
      · exact hstay w (h1.self w (by simp; omega))
      · exact h2.self w hw

theorem dfs_walk {zss : List (List Int)} (hin : ∀ u : Nat, u < zss.length → ∀ x ∈ row zss u, ∃ v : Nat, x = (v : Int) ∧ v < zss.length) : ∀ f o v, v < zss.length → opens o zss.length < f → WalkP zss o [(v : Int)] (dfs zss f o v) := by
  intro f
  induction f with
  | zero => intro o v _ h; omega
  | succ f ih =>
    intro o v hv hf
    cases ho : o v with
    | false =>
      have hd : dfs zss (f + 1) o v = (o, []) := by simp [dfs, ho]
      rw [hd]
      refine ⟨fun i h => h, fun i _ => by simp, fun x hx => by simp at hx, by simp, fun i _ h1 h2 => by simp [h1] at h2, fun i _ h1 h2 => by simp [h1] at h2, fun u hu => ?_⟩
      have hu' : u = v := by simp at hu; omega
      subst hu'
      exact ho
    | true =>
      have hs := opens_shut hv ho
      have h := WalkP.list (m := f) ih (row zss v) (hin v hv) (mark1 o v false) (by omega)
      have hd : dfs zss (f + 1) o v = ((dfsL (dfs zss f) (mark1 o v false) (row zss v)).1, (dfsL (dfs zss f) (mark1 o v false) (row zss v)).2 ++ [(v : Int)]) := by simp [dfs, ho]
      rw [hd]
      have hvf : (dfsL (dfs zss f) (mark1 o v false) (row zss v)).1 v = false := by
        cases hb : (dfsL (dfs zss f) (mark1 o v false) (row zss v)).1 v with
        | false => rfl
        | true => have := h.shut v hb; simp [mark1] at this
      have hne : ∀ i, i ≠ v → mark1 o v false i = o i := fun i hi => by simp [mark1, hi]
      refine ⟨fun i hi => ?_, fun i hi => ?_, fun x hx => ?_, ?_, fun i hi hoi hr => ?_, fun i hi hoi hr j hj => ?_, fun w hw => ?_⟩
      · have := h.shut i hi
        by_cases e : i = v
        · subst e; exact ho
        · rwa [hne i e] at this
      · simp only [List.mem_append, h.mem i hi, List.mem_singleton]
        by_cases e : i = v
        · subst e; simp [hvf, ho]
        · rw [hne i e]
          constructor
          · rintro (h1 | h1)
            · exact h1
            · omega
          · exact .inl
      · rcases List.mem_append.1 hx with hx | hx
        · exact h.nat x hx
        · exact ⟨v, by simpa using hx, hv⟩
      · refine List.nodup_append.2 ⟨h.nodup, by simp, fun a ha b hb hab => ?_⟩
        subst hab
        have hb' : a = (v : Int) := by simpa using hb
        subst hb'
        have := ((h.mem v hv).1 ha).1
        simp [mark1] at this
      · by_cases e : i = v
        · subst e; left; simp
        · right
          rcases h.reach i hi (by rw [hne i e]; exact hoi) hr with hh | hh
          · exact .one (by simp) hh rfl
          · exact rch_from (w := v) (fun u hu => ⟨hu, rfl⟩) (by simp) hh
      · by_cases e : i = v
        · subst e; exact h.self j hj
        · exact h.clos i hi (by rw [hne i e]; exact hoi) hr j hj
      · have : w = v := by simp at hw; omega
        subst this; exact hvf

theorem markedK_rising (xs : Nat → Bool) (k : Nat) : (markedK xs k).Pairwise (· < ·) := by
  induction k with
  | zero => simp [markedK]
  | succ k ih =>
    simp only [markedK]
    refine List.pairwise_append.2 ⟨ih, by split <;> simp, fun a ha b hb => ?_⟩
    obtain ⟨v, rfl, hv, _⟩ := (markedK_mem xs k a).1 ha
    split at hb
    · simp at hb; omega
    · simp at hb

/-- What the walk from F leaves behind, sorted, is what is reached. -/
theorem walk_sorted {zss : List (List Int)} (hin : ∀ u : Nat, u < zss.length → ∀ x ∈ row zss u, ∃ v : Nat, x = (v : Int) ∧ v < zss.length) {F : List Int} (hF : ∀ x ∈ F, ∃ v : Nat, x = (v : Int) ∧ v < zss.length) {o : Nat → Bool} (ho : ∀ i, i < zss.length → o i = true) {f : Nat} (hf : opens o zss.length < f) :
    ((dfsL (dfs zss f) o F).2.mergeSort fun x y => decide (x ≤ y)) = markedK (reachM zss F) zss.length := by
  have h := WalkP.list (m := f) (dfs_walk hin f) F hF o hf
  have key : ∀ v, Rch zss (fun _ => true) F v → v < zss.length ∧ (dfsL (dfs zss f) o F).1 v = false := by
    intro v hr
    induction hr with
    | @one u v hu hm _ =>
      obtain ⟨u', h1, h2⟩ := hF _ hu
      have e : u = u' := by omega
      subst e
      obtain ⟨v', h3, h4⟩ := hin u h2 _ hm
      exact ⟨by omega, h.clos u h2 (ho u h2) (h.self u hu) v hm⟩
    | @more u v _ hm _ ih =>
      obtain ⟨v', h3, h4⟩ := hin u ih.1 _ hm
      exact ⟨by omega, h.clos u ih.1 (ho u ih.1) ih.2 v hm⟩
  have hmem : ∀ x, x ∈ (dfsL (dfs zss f) o F).2 ↔ x ∈ markedK (reachM zss F) zss.length := by
    intro x
    rw [markedK_mem]
    constructor
    · intro hx
      obtain ⟨i, rfl, hi⟩ := h.nat x hx
      have h2 := (h.mem i hi).1 hx
      exact ⟨i, rfl, hi, by simpa [reachM] using h.reach i hi h2.1 h2.2⟩
    · rintro ⟨v, rfl, hv, hr⟩
      refine (h.mem v hv).2 ⟨ho v hv, ?_⟩
      have hr' : (v : Int) ∈ F ∨ Rch zss (fun _ => true) F v := by simpa [reachM] using hr
      rcases hr' with hh | hh
      · exact h.self v hh
      · exact (key v hh).2
  have hnd : (markedK (reachM zss F) zss.length).Nodup := (markedK_rising _ _).imp fun hab => by omega
  have hp : ((dfsL (dfs zss f) o F).2.mergeSort fun x y => decide (x ≤ y)).Perm (markedK (reachM zss F) zss.length) :=
    (List.mergeSort_perm _ _).trans ((List.perm_ext_iff_of_nodup h.nodup hnd).2 hmem)
  refine hp.eq_of_pairwise (le := fun x y => x ≤ y) (fun a b _ _ h1 h2 => by omega) ?_ ((markedK_rising _ _).imp fun hab => by omega)
  have := List.pairwise_mergeSort (le := fun x y : Int => decide (x ≤ y)) (fun a b c h1 h2 => by simp at *; omega) (fun a b => by simp; omega) (dfsL (dfs zss f) o F).2
  exact this.imp fun hab => by simpa using hab
end

section
section
open Go.RowKit

end

section
open Go.RowKit

theorem set_nats {n : Nat} {zs : List Int} (h : setB n zs = true) : ∀ f ∈ zs, ∃ u : Nat, f = (u : Int) ∧ u < n := fun f hf => by
  obtain ⟨i, hi, he⟩ := mem_nth.1 hf
  obtain ⟨h0, h1, _⟩ := setB_bounds h hi
  exact ⟨f.toNat, by omega, by omega⟩

theorem arena_nats {O : List Int} {zss : List (List Int)} (h : ArenaP O zss) : ∀ u : Nat, u < zss.length → ∀ x ∈ row zss u, ∃ v : Nat, x = (v : Int) ∧ v < zss.length := fun u hu x hx => by
  have hl := h.2.2.1
  obtain ⟨v, h1, h2⟩ := set_nats (h.2.2.2 u (by omega)).2.2.2 x hx
  exact ⟨v, h1, by omega⟩

open Classical in
/-- What is marked when k of the starts are marked, too. -/
noncomputable def fromK (zss : List (List Int)) (F : List Int) (k : Nat) : Nat → Bool := fun v => decide ((v : Int) ∈ F.take k ∨ Rch zss (fun _ => true) F v)

theorem fromK_zero (zss : List (List Int)) (F : List Int) : fromK zss F 0 = beyM zss (fun _ => true) F := by
  funext v; unfold fromK beyM; congr 1; simp
theorem fromK_all (zss : List (List Int)) (F : List Int) : fromK zss F F.length = reachM zss F := by
  funext v; simp [fromK, reachM]
theorem fromK_succ {zss : List (List Int)} {F : List Int} {k u : Nat} (hk : k < F.length) (hu : nth F k = (u : Int)) : fromK zss F (k + 1) = mark1 (fromK zss F k) u true := by
  funext v
  have ht : F.take (k + 1) = F.take k ++ [(u : Int)] := by
    rw [List.take_add_one, List.getElem?_eq_getElem hk, ← hu, nth_eq hk]; rfl
  by_cases e : v = u
  · subst e; simp [mark1, fromK, ht]
  · have e' : (v : Int) ≠ (u : Int) := by omega
    simp [mark1, fromK, ht, e, e']

end
end

section
section
open Go.RowKit

theorem bits_and_small (x m : Int) (h0 : 0 ≤ m) (h1 : m ≤ 1073741823) : 0 ≤ bits .and .i64 x m ∧ bits .and .i64 x m ≤ m := by
  have hm : (BitVec.ofInt 64 m).toNat = m.toNat := by
    obtain ⟨k, rfl⟩ := Int.eq_ofNat_of_zero_le h0
    rw [BitVec.ofInt_natCast, BitVec.toNat_ofNat]; exact Nat.mod_eq_of_lt (by omega)
  have hle : (BitVec.ofInt 64 x &&& BitVec.ofInt 64 m).toNat ≤ m.toNat := by
    rw [BitVec.toNat_and, hm]; exact Nat.and_le_right
  have hb : bits .and .i64 x m = IntKind.i64.wrap ((BitVec.ofInt 64 x &&& BitVec.ofInt 64 m).toNat : Int) := rfl
  rw [hb]
  generalize (BitVec.ofInt 64 x &&& BitVec.ofInt 64 m).toNat = q at hle
  have hw : IntKind.i64.wrap (q : Int) = q := by
    have hq : q < 4294967296 := by omega
    simp only [IntKind.wrap, IntKind.bits, IntKind.signed]
    simp
    omega
  rw [hw]
  omega

theorem tri_set2 {a b c d : Value} : ∀ i, i < 3 → (if i = 2 then d else tri a b c i) = tri a b d i := tri_set
theorem tri_set1 {a b c d : Value} : ∀ i, i < 3 → (if i = 1 then d else tri a b c i) = tri a d c i := fun i hi => by
  have h : i = 0 ∨ i = 1 ∨ i = 2 := by omega
  rcases h with rfl | rfl | rfl <;> simp [tri]

end

section
open Go.RowKit

end
end

end Go.Proofs.Ytjnbpllalbfeiaa
