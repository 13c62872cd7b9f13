/-
  An arena that grows, its parts named. No program text.
-/
import Derived.Test.YtaoagikipbcjpaaTurned
import Derived.Test.YtaoagikipbcjpaaSearch
namespace Go.Proofs.Ytaoagikipbcjpaa
section
open Go.RowKit

/-- t: the struct that grows, with the owners vo and the rows vn (row k is V k); b: the argument's box. -/
structure Half3 (w wr : World) (t b : Nat) (vo vn : Value) (V : Nat → Value) (sa sb : Value) (O : List Int) (zss : List (List Int)) : Prop where
  below : Below w.heap.size w wr
  box : Box2 wr b 30 sa sb
  str : Box2 wr t 30 vo vn
  ints : OwnInts wr w.heap.size wr.heap.size vo O
  rows : OwnRows wr w.heap.size wr.heap.size vn V zss
  apart : ∀ i, i < zss.length → ∀ g, (V i).ownBlock = some g → vo.ownBlock ≠ some g

theorem Half3.keep {w wr wr' : World} {t b : Nat} {vo vn : Value} {V : Nat → Value} {sa sb : Value} {O : List Int} {zss : List (List Int)} (h : Half3 w wr t b vo vn V sa sb O zss) (hb : Below wr.heap.size wr wr') : Half3 w wr' t b vo vn V sa sb O zss :=
  ⟨h.below.trans (hb.mono h.below.size), h.box.below hb, h.str.below hb, (h.ints.below hb).retop, (h.rows.below hb).retop, h.apart⟩

theorem Half3.owner {w wr w1 : World} {t b gg cap : Nat} {vo vn : Value} {V : Nat → Value} {sa sb : Value} {O : List Int} {x : Int} {zss : List (List Int)} (h : Half3 w wr t b vo vn V sa sb O zss) (htw : w.heap.size ≤ t) (hbt : b ≠ t) (hl : O.length ≤ 1048576) (hx : Fits x)
    (hown1 : w1.ownsRow w.heap.size 2 1 (.slice (some ⟨gg, 0, none⟩) (O.length + 1) cap) (O.length + 1) (O.map (Value.int .i64) ++ [.int .i64 x])) (hgrow : wr.grownBy w1 vo.ownBlock) (hat : vo.ownBlock = some gg ∨ wr.heap.size ≤ gg) :
    Half3 w (w1.setCell ⟨t, 0, none⟩ (.slice (some ⟨gg, 0, none⟩) (O.length + 1) cap)) t b (.slice (some ⟨gg, 0, none⟩) (O.length + 1) cap) vn V sa sb (O ++ [x]) zss := by
  have hown := h.ints.own
  have hT1 := h.str.grown hown (by decide) hgrow
  have hb1 := h.box.grown hown (by decide) hgrow
  have hI : OwnInts w1 w.heap.size w1.heap.size (.slice (some ⟨gg, 0, none⟩) (O.length + 1) cap) (O ++ [x]) := by
    refine OwnInts.mk' (by simpa using hown1) (by simp; omega) fun k hk => ?_
    by_cases e : k < O.length
    · rw [show nth (O ++ [x]) k = nth O k from by simp [nth, List.getElem?_append_left e]]
      exact h.ints.fits k e
    · have : k = O.length := by simp at hk; omega
      subst this
      rw [show nth (O ++ [x]) O.length = x from by simp [nth]]
      exact hx
  have hR := h.rows.only (Only.of_grown hgrow) (fun g h1 h2 => own_types h.rows.own hown g h1 h2) (fun k hk g h1 h2 => h.apart k hk g h1 h2)
  have hS := Box2.set0_only (w := w1) (t := t) (.slice (some ⟨gg, 0, none⟩) (O.length + 1) cap)
  refine ⟨?_, hb1.only hS hbt, hT1.set0 _, (hI.only hS (fun g hg e => hT1.not_own hI.own (by decide) (by rw [hg, e]))).retop, (hR.only hS (fun g hg e => hT1.not_own hR.own (by decide) (by rw [hg, e])) (fun k hk g hg e => hT1.not_own (hR.rows k hk).own (by decide) (by rw [hg, e]))).retop, fun i hi g hg hh => ?_⟩
  · exact (h.below.trans ((Only.of_grown hgrow).below h.below.size (fun g hg => (hown.lt g hg).1))).setCell htw _
  · simp [Value.ownBlock] at hh
    subst hh
    rcases hat with h' | h'
    · exact h.apart i hi _ hg h'
    · have := (h.rows.rows i hi).top _ hg
      omega

theorem Half3.push {w wr w3 : World} {t b gg cap : Nat} {vo vn u : Value} {V : Nat → Value} {sa sb : Value} {O zs : List Int} {zss : List (List Int)} {B D : Nat} (h : Half3 w wr t b vo vn V sa sb O zss) (htw : w.heap.size ≤ t) (hbt : b ≠ t) (hl : zss.length ≤ 1048576)
    (hu : OwnInts wr B D u zs) (hB : w.heap.size ≤ B) (hapu : ∀ i, i < zss.length → ∀ g, u.ownBlock = some g → (V i).ownBlock ≠ some g) (hvu : ∀ g, u.ownBlock = some g → vo.ownBlock ≠ some g)
    (hown3 : w3.ownsRow w.heap.size 27 1 (.slice (some ⟨gg, 0, none⟩) (zss.length + 1) cap) (zss.length + 1) ((List.range zss.length).map V ++ [u])) (hgrow : wr.grownBy w3 vn.ownBlock) :
    Half3 w (w3.setCell ⟨t, 1, none⟩ (.slice (some ⟨gg, 0, none⟩) (zss.length + 1) cap)) t b vo (.slice (some ⟨gg, 0, none⟩) (zss.length + 1) cap) (fun i => if i = zss.length then u else V i) sa sb O (zss ++ [zs]) := by
  have hown := h.rows.own
  have hT3 := h.str.grown hown (by decide) hgrow
  have hb3 := h.box.grown hown (by decide) hgrow
  have hvo3 : OwnInts w3 w.heap.size w3.heap.size vo O := (h.ints.only (Only.of_grown hgrow) (fun g h1 h2 => own_types hown h.ints.own g h2 h1)).retop
  have hrows := h.rows.push (w1 := w3) (hu.base hB) (fun i hi g h1 h3 => hapu i hi g h1 h3) hown3 (Only.of_grown hgrow) (by omega)
  have hS : Only (fun b => b = t) w3 (w3.setCell ⟨t, 1, none⟩ (.slice (some ⟨gg, 0, none⟩) (zss.length + 1) cap)) := Box2.set1_only _
  refine ⟨(h.below.trans ((Only.of_grown hgrow).below h.below.size (fun g hg => (hown.lt g hg).1))).setCell htw _, hb3.only hS hbt, hT3.set1 _, (hvo3.only hS (fun g hg e => hT3.not_own hvo3.own (by decide) (by rw [hg, e]))).retop, (hrows.only hS (fun g hg e => hT3.not_own hrows.own (by decide) (by rw [hg, e])) (fun k hk g hg e => hT3.not_own (hrows.rows k hk).own (by decide) (by rw [hg, e]))).retop, fun i hi g hg => ?_⟩
  by_cases e : i = zss.length
  · subst e
    simp only [if_true] at hg
    exact hvu g hg
  · simp only [if_neg e] at hg
    exact h.apart i (by simp at hi; omega) g hg

/-- The i-th row of the arena that S induces. -/
def inRow (S : List Int) (zss : List (List Int)) (i : Nat) : List Int := places S (row zss (nth S i).toNat) (row zss (nth S i).toNat).length
def inNK (S : List Int) (zss : List (List Int)) (k : Nat) : List (List Int) := (List.range k).map (inRow S zss)
def inOK (S : List Int) (O : List Int) (k : Nat) : List Int := (List.range k).map fun i => nth O (nth S i).toNat

theorem inNK_len (S : List Int) (zss : List (List Int)) (k : Nat) : (inNK S zss k).length = k := by simp [inNK]
theorem inOK_len (S O : List Int) (k : Nat) : (inOK S O k).length = k := by simp [inOK]
theorem inNK_succ (S : List Int) (zss : List (List Int)) (k : Nat) : inNK S zss (k + 1) = inNK S zss k ++ [inRow S zss k] := by simp [inNK, List.range_succ]
theorem inOK_succ (S O : List Int) (k : Nat) : inOK S O (k + 1) = inOK S O k ++ [nth O (nth S k).toNat] := by simp [inOK, List.range_succ]

/-- When InsideOf yields an arena. -/
def InsideP (O : List Int) (zss : List (List Int)) (S : List Int) : Prop := ArenaP O zss ∧ setB O.length S = true ∧ 0 < S.length ∧ ∀ i, i < S.length → 0 < (inRow S zss i).length

open Classical in
noncomputable def insideO (O : List Int) (zss : List (List Int)) (S : List Int) : List Int := if InsideP O zss S then inOK S O S.length else []
open Classical in
noncomputable def insideN (O : List Int) (zss : List (List Int)) (S : List Int) : List (List Int) := if InsideP O zss S then inNK S zss S.length else []
open Classical in
noncomputable def insideB (O : List Int) (zss : List (List Int)) (S : List Int) : Bool := decide (InsideP O zss S)

/-- A call hands back an arena of its own and a bool. -/
def GivesArenaB (w : World) (O : List Int) (zss : List (List Int)) (r : Bool) (e : Ending) (w' : World) : Prop :=
  ∃ v, e = .returned (.tuple #[v, .bool r]) ∧ OwnArena w' w.heap.size w'.heap.size v O zss ∧ Below w.heap.size w w'

theorem inside_no {O : List Int} {zss : List (List Int)} {S : List Int} (h : ¬ InsideP O zss S) : insideO O zss S = [] ∧ insideN O zss S = [] ∧ insideB O zss S = false := by
  unfold insideO insideN insideB
  rw [if_neg h, if_neg h]; exact ⟨rfl, rfl, by simp [h]⟩
theorem inside_yes {O : List Int} {zss : List (List Int)} {S : List Int} (h : InsideP O zss S) : insideO O zss S = inOK S O S.length ∧ insideN O zss S = inNK S zss S.length ∧ insideB O zss S = true := by
  unfold insideO insideN insideB
  rw [if_pos h, if_pos h]; exact ⟨rfl, rfl, by simp [h]⟩

theorem zero_stored {w wr : World} {r : Nat} (hb : Below w.heap.size w wr) (hr : w.heap.size ≤ r) : Below w.heap.size w ((wr.setCell ⟨r, 0, none⟩ (.slice none 0 0)).setCell ⟨r, 1, none⟩ (.slice none 0 0)) :=
  (hb.setCell (p := ⟨r, 0, none⟩) hr _).setCell (p := ⟨r, 1, none⟩) hr _
end

section
open Go.RowKit

/-- v is reached from F by at least one step, every vertex stepped to being one of I. -/
inductive Rch (zss : List (List Int)) (I : Nat → Bool) (F : List Int) : Nat → Prop
  | one {u v : Nat} : (u : Int) ∈ F → (v : Int) ∈ row zss u → I v = true → Rch zss I F v
  | more {u v : Nat} : Rch zss I F u → (v : Int) ∈ row zss u → I v = true → Rch zss I F v

/-- How many of the first n are not marked. -/
def cnt (xs : Nat → Bool) : Nat → Nat
  | 0 => 0
  | k + 1 => cnt xs k + if xs k = true then 0 else 1

theorem cnt_le (xs : Nat → Bool) (n : Nat) : cnt xs n ≤ n := by
  induction n with
  | zero => simp [cnt]
  | succ k ih => simp only [cnt]; split <;> omega

theorem cnt_congr {xs ys : Nat → Bool} {n : Nat} (h : ∀ i, i < n → xs i = ys i) : cnt xs n = cnt ys n := by
  induction n with
  | zero => rfl
  | succ k ih => simp only [cnt]; rw [ih (fun i hi => h i (by omega)), h k (by omega)]

/-- One more mark. -/
def mark1 (xs : Nat → Bool) (v : Nat) (b : Bool) : Nat → Bool := fun i => if i = v then b else xs i

theorem cnt_mark {xs : Nat → Bool} {n v : Nat} (hv : v < n) (hx : xs v = false) : cnt (mark1 xs v true) n + 1 = cnt xs n := by
  induction n with
  | zero => omega
  | succ k ih =>
    simp only [cnt]
    by_cases e : v = k
    · subst e
      have h1 : cnt (mark1 xs v true) v = cnt xs v := cnt_congr fun i hi => by simp [mark1, show i ≠ v from by omega]
      have h2 : mark1 xs v true v = true := by simp [mark1]
      rw [h1, h2, hx]; simp
    · have h1 := ih (by omega)
      have h2 : mark1 xs v true k = xs k := by simp [mark1, show k ≠ v from fun h => e h.symm]
      rw [h2]; omega

theorem mark1_self (xs : Nat → Bool) (v : Nat) (b : Bool) : mark1 xs v b v = b := by simp [mark1]
theorem mark1_mono {xs : Nat → Bool} {v i : Nat} (h : xs i = true) : mark1 xs v true i = true := by
  unfold mark1; split <;> simp_all

/-- The model's search: xs is marked, todo is still to be looked at. -/
structure Bey0 (zss : List (List Int)) (I : Nat → Bool) (F : List Int) (n : Nat) (xs : Nat → Bool) (todo : List Int) : Prop where
  snd : ∀ v, v < n → xs v = true → Rch zss I F v
  tin : ∀ t ∈ todo, ∃ u : Nat, t = (u : Int) ∧ u < n ∧ ((u : Int) ∈ F ∨ xs u = true)
  cmp : ∀ u : Nat, u < n → ((u : Int) ∈ F ∨ xs u = true) → (u : Int) ∈ todo ∨ ∀ v : Nat, (v : Int) ∈ row zss u → I v = true → xs v = true
  bnd : todo.length + cnt xs n ≤ F.length + n

/-- The same inside a round: p was taken, q of its successors have been looked at. -/
structure Bey (zss : List (List Int)) (I : Nat → Bool) (F : List Int) (n : Nat) (xs : Nat → Bool) (todo : List Int) (p q : Nat) : Prop where
  snd : ∀ v, v < n → xs v = true → Rch zss I F v
  tin : ∀ t ∈ todo, ∃ u : Nat, t = (u : Int) ∧ u < n ∧ ((u : Int) ∈ F ∨ xs u = true)
  cmp : ∀ u : Nat, u < n → ((u : Int) ∈ F ∨ xs u = true) → (u : Int) ∈ todo ∨ u = p ∨ ∀ v : Nat, (v : Int) ∈ row zss u → I v = true → xs v = true
  pin : (p : Int) ∈ F ∨ xs p = true
  prt : ∀ j, j < q → ∀ v : Nat, nth (row zss p) j = (v : Int) → I v = true → xs v = true
  bnd : todo.length + 1 + cnt xs n ≤ F.length + n

theorem Bey0.start {zss : List (List Int)} {I : Nat → Bool} {F : List Int} {n : Nat} (hF : ∀ f ∈ F, ∃ u : Nat, f = (u : Int) ∧ u < n) : Bey0 zss I F n (fun _ => false) F :=
  ⟨fun v _ h => by simp at h, fun t ht => (hF t ht).elim fun u hu => ⟨u, hu.1, hu.2, .inl (hu.1 ▸ ht)⟩,
    fun u _ h => by
      rcases h with h | h
      · exact .inl h
      · simp at h, by have := cnt_le (fun _ => false) n; omega⟩

theorem Bey0.take {zss : List (List Int)} {I : Nat → Bool} {F : List Int} {n : Nat} {xs : Nat → Bool} {ts : List Int} {p : Nat} (h : Bey0 zss I F n xs (ts ++ [(p : Int)])) : p < n ∧ Bey zss I F n xs ts p 0 := by
  obtain ⟨u, hu, hun, hx⟩ := h.tin (p : Int) (by simp)
  have : p = u := by omega
  subst this
  refine ⟨hun, h.snd, fun t ht => h.tin t (by simp [ht]), fun u hu hx => ?_, hx, fun j hj => by omega, by have := h.bnd; simp at this; omega⟩
  rcases h.cmp u hu hx with hm | hm
  · rcases List.mem_append.1 hm with hm | hm
    · exact .inl hm
    · simp at hm; exact .inr (.inl (by omega))
  · exact .inr (.inr hm)

theorem Bey.skip {zss : List (List Int)} {I : Nat → Bool} {F : List Int} {n : Nat} {xs : Nat → Bool} {ts : List Int} {p q u : Nat} (h : Bey zss I F n xs ts p q) (hu : nth (row zss p) q = (u : Int)) (hs : I u = false ∨ xs u = true) : Bey zss I F n xs ts p (q + 1) :=
  ⟨h.snd, h.tin, h.cmp, h.pin, fun j hj v hv hI => by
    by_cases e : j = q
    · subst e
      have : u = v := by omega
      subst this
      rcases hs with hs | hs
      · rw [hs] at hI; cases hI
      · exact hs
    · exact h.prt j (by omega) v hv hI, h.bnd⟩

theorem Bey.push {zss : List (List Int)} {I : Nat → Bool} {F : List Int} {n : Nat} {xs : Nat → Bool} {ts : List Int} {p q u : Nat} (h : Bey zss I F n xs ts p q) (hp : p < n) (hq : q < (row zss p).length) (hu : nth (row zss p) q = (u : Int)) (hun : u < n) (hI : I u = true) (hx : xs u = false) :
    Bey zss I F n (mark1 xs u true) (ts ++ [(u : Int)]) p (q + 1) := by
  have hmem : (u : Int) ∈ row zss p := by rw [← hu]; exact nth_mem hq
  refine ⟨fun v hv hm => ?_, fun t ht => ?_, fun v hv hm => ?_, ?_, fun j hj v hv hIv => ?_, ?_⟩
  · by_cases e : v = u
    · subst e
      rcases h.pin with hf | hf
      · exact .one hf hmem hI
      · exact .more (h.snd p hp hf) hmem hI
    · exact h.snd v hv (by simpa [mark1, e] using hm)
  · rcases List.mem_append.1 ht with ht | ht
    · obtain ⟨w, h1, h2, h3⟩ := h.tin t ht
      exact ⟨w, h1, h2, h3.imp_right mark1_mono⟩
    · simp at ht
      exact ⟨u, ht, hun, .inr (mark1_self _ _ _)⟩
  · by_cases e : v = u
    · subst e; exact .inl (by simp)
    · have hm' : (v : Int) ∈ F ∨ xs v = true := hm.imp_right fun hh => by simpa [mark1, e] using hh
      rcases h.cmp v hv hm' with h1 | h1 | h1
      · exact .inl (List.mem_append.2 (.inl h1))
      · exact .inr (.inl h1)
      · exact .inr (.inr fun z hz hIz => mark1_mono (h1 z hz hIz))
  · exact h.pin.imp_right mark1_mono
  · by_cases e : j = q
    · subst e
      have : u = v := by omega
      subst this
      exact mark1_self _ _ _
    · exact mark1_mono (h.prt j (by omega) v hv hIv)
  · have h1 := cnt_mark hun hx
    have h2 := h.bnd
    simp
    omega

theorem Bey.done {zss : List (List Int)} {I : Nat → Bool} {F : List Int} {n : Nat} {xs : Nat → Bool} {ts : List Int} {p q : Nat} (h : Bey zss I F n xs ts p q) (hq : (row zss p).length ≤ q) : Bey0 zss I F n xs ts :=
  ⟨h.snd, h.tin, fun u hu hx => by
    rcases h.cmp u hu hx with h1 | h1 | h1
    · exact .inl h1
    · subst h1
      refine .inr fun v hv hI => ?_
      obtain ⟨i, hi, he⟩ := mem_nth.1 hv
      exact h.prt i (by omega) v he hI
    · exact .inr h1, by have := h.bnd; omega⟩

/-- At the end all that is reached is marked. -/
theorem Bey0.all {zss : List (List Int)} {I : Nat → Bool} {F : List Int} {n : Nat} {xs : Nat → Bool} (h : Bey0 zss I F n xs []) (hin : ∀ u : Nat, u < n → ∀ v : Nat, (v : Int) ∈ row zss u → v < n) (hF : ∀ f ∈ F, ∃ u : Nat, f = (u : Int) ∧ u < n) (v : Nat) (hv : v < n) : xs v = true ↔ Rch zss I F v := by
  refine ⟨h.snd v hv, fun hr => ?_⟩
  have key : ∀ v, Rch zss I F v → v < n ∧ xs v = true := by
    intro v hr
    induction hr with
    | @one u v hf hm hI =>
      obtain ⟨u', h1, h2⟩ := hF _ hf
      have : u = u' := by omega
      subst this
      rcases h.cmp u h2 (.inl hf) with hh | hh
      · cases hh
      · exact ⟨hin u h2 v hm, hh v hm hI⟩
    | @more u v _ hm hI ih =>
      rcases h.cmp u ih.1 (.inr ih.2) with hh | hh
      · cases hh
      · exact ⟨hin u ih.1 v hm, hh v hm hI⟩
  exact (key v hr).2

/-- What is marked, rising. -/
def markedK (xs : Nat → Bool) : Nat → List Int
  | 0 => []
  | k + 1 => markedK xs k ++ if xs k = true then [(k : Int)] else []

theorem markedK_len (xs : Nat → Bool) (k : Nat) : (markedK xs k).length ≤ k := by
  induction k with
  | zero => simp [markedK]
  | succ k ih => simp only [markedK]; split <;> simp <;> omega

theorem markedK_mem (xs : Nat → Bool) (k : Nat) (x : Int) : x ∈ markedK xs k ↔ ∃ v : Nat, x = (v : Int) ∧ v < k ∧ xs v = true := by
  induction k with
  | zero => simp [markedK]
  | succ k ih =>
    simp only [markedK, List.mem_append, ih]
    constructor
    · rintro (⟨v, h1, h2, h3⟩ | h)
      · exact ⟨v, h1, by omega, h3⟩
      · split at h
        · simp at h; exact ⟨k, h, by omega, by assumption⟩
        · simp at h
    · rintro ⟨v, h1, h2, h3⟩
      by_cases e : v = k
      · subst e; right; rw [if_pos h3]; simp [h1]
      · exact .inl ⟨v, h1, by omega, h3⟩

theorem markedK_congr {xs ys : Nat → Bool} {n : Nat} (h : ∀ i, i < n → xs i = ys i) : markedK xs n = markedK ys n := by
  induction n with
  | zero => rfl
  | succ k ih => simp only [markedK]; rw [ih (fun i hi => h i (by omega)), h k (by omega)]

theorem markedK_fits (xs : Nat → Bool) (k : Nat) (hk : k ≤ 17592186044416) : ∀ j, j < (markedK xs k).length → Fits (nth (markedK xs k) j) := fun j hj => by
  obtain ⟨v, h1, h2, _⟩ := (markedK_mem xs k _).1 (nth_mem hj)
  unfold Fits; omega

open Classical in
/-- Reached from F by any number of steps. -/
noncomputable def reachM (zss : List (List Int)) (F : List Int) : Nat → Bool := fun v => decide ((v : Int) ∈ F ∨ Rch zss (fun _ => true) F v)

open Classical in
/-- The value of ReachOf. -/
noncomputable def reachL (O : List Int) (zss : List (List Int)) (F : List Int) : List Int := if ArenaP O zss ∧ setB O.length F = true then markedK (reachM zss F) zss.length else []
end

end Go.Proofs.Ytaoagikipbcjpaa
