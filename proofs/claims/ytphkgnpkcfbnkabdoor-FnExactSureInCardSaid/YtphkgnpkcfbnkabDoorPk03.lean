/-
  Several texts in one: Walks1, Draw1, Parity, Loops.
-/
import Derived.WalkSmall
import Derived.Deep.RegionHeld3
import Derived.Laws.Closers25b
import Derived.Deep.AppendLies
import Derived.Test.YtphkgnpkcfbnkabDoorBase1
namespace Go.Proofs.YtphkgnpkcfbnkabDoor
section
section
open Go.RowKit

/-- t: the struct that grows, with the owners vo and the rows vn (row k is V k); b: the argument's box. -/
structure Half3 (w wr : World) (t b : Nat) (vo vn : Value) (V : Nat → Value) (sa sb : Value) (O : List Int) (zss : List (List Int)) : Prop where
  below : Below w.heap.size w wr
  box : Box2 wr b 30 sa sb
  str : Box2 wr t 30 vo vn
  ints : OwnInts wr w.heap.size wr.heap.size vo O
  rows : OwnRows wr w.heap.size wr.heap.size vn V zss
  apart : ∀ i, i < zss.length → ∀ g, (V i).ownBlock = some g → vo.ownBlock ≠ some g

theorem Half3.keep {w wr wr' : World} {t b : Nat} {vo vn : Value} {V : Nat → Value} {sa sb : Value} {O : List Int} {zss : List (List Int)} (h : Half3 w wr t b vo vn V sa sb O zss) (hb : Below wr.heap.size wr wr') : Half3 w wr' t b vo vn V sa sb O zss :=
  ⟨h.below.trans (hb.mono h.below.size), h.box.below hb, h.str.below hb, (h.ints.below hb).retop, (h.rows.below hb).retop, h.apart⟩

theorem Half3.owner {w wr w1 : World} {t b gg cap : Nat} {vo vn : Value} {V : Nat → Value} {sa sb : Value} {O : List Int} {x : Int} {zss : List (List Int)} (h : Half3 w wr t b vo vn V sa sb O zss) (htw : w.heap.size ≤ t) (hbt : b ≠ t) (hl : O.length ≤ 1048576) (hx : Fits x)
    (hown1 : w1.ownsRow w.heap.size 2 1 (.slice (some ⟨gg, 0, none⟩) (O.length + 1) cap) (O.length + 1) (O.map (Value.int .i64) ++ [.int .i64 x])) (hgrow : wr.grownBy w1 vo.ownBlock) (hat : vo.ownBlock = some gg ∨ wr.heap.size ≤ gg) :
    Half3 w (w1.setCell ⟨t, 0, none⟩ (.slice (some ⟨gg, 0, none⟩) (O.length + 1) cap)) t b (.slice (some ⟨gg, 0, none⟩) (O.length + 1) cap) vn V sa sb (O ++ [x]) zss := by
  have hown := h.ints.own
  have hT1 := h.str.grown hown (by decide) hgrow
  have hb1 := h.box.grown hown (by decide) hgrow
  have hI : OwnInts w1 w.heap.size w1.heap.size (.slice (some ⟨gg, 0, none⟩) (O.length + 1) cap) (O ++ [x]) := by
    refine OwnInts.mk' (by simpa using hown1) (by simp; omega) fun k hk => ?_
    by_cases e : k < O.length
    · rw [show nth (O ++ [x]) k = nth O k from by simp [nth, List.getElem?_append_left e]]
      exact h.ints.fits k e
    · have : k = O.length := by simp at hk; omega
      subst this
      rw [show nth (O ++ [x]) O.length = x from by simp [nth]]
      exact hx
  have hR := h.rows.only (Only.of_grown hgrow) (fun g h1 h2 => own_types h.rows.own hown g h1 h2) (fun k hk g h1 h2 => h.apart k hk g h1 h2)
  have hS := Box2.set0_only (w := w1) (t := t) (.slice (some ⟨gg, 0, none⟩) (O.length + 1) cap)
  refine ⟨?_, hb1.only hS hbt, hT1.set0 _, (hI.only hS (fun g hg e => hT1.not_own hI.own (by decide) (by rw [hg, e]))).retop, (hR.only hS (fun g hg e => hT1.not_own hR.own (by decide) (by rw [hg, e])) (fun k hk g hg e => hT1.not_own (hR.rows k hk).own (by decide) (by rw [hg, e]))).retop, fun i hi g hg hh => ?_⟩
  · exact (h.below.trans ((Only.of_grown hgrow).below h.below.size (fun g hg => (hown.lt g hg).1))).setCell htw _
  · simp [Value.ownBlock] at hh
    subst hh
    rcases hat with h' | h'
    · exact h.apart i hi _ hg h'
    · have := (h.rows.rows i hi).top _ hg
      omega

theorem Half3.push {w wr w3 : World} {t b gg cap : Nat} {vo vn u : Value} {V : Nat → Value} {sa sb : Value} {O zs : List Int} {zss : List (List Int)} {B D : Nat} (h : Half3 w wr t b vo vn V sa sb O zss) (htw : w.heap.size ≤ t) (hbt : b ≠ t) (hl : zss.length ≤ 1048576)
    (hu : OwnInts wr B D u zs) (hB : w.heap.size ≤ B) (hapu : ∀ i, i < zss.length → ∀ g, u.ownBlock = some g → (V i).ownBlock ≠ some g) (hvu : ∀ g, u.ownBlock = some g → vo.ownBlock ≠ some g)
    (hown3 : w3.ownsRow w.heap.size 22 1 (.slice (some ⟨gg, 0, none⟩) (zss.length + 1) cap) (zss.length + 1) ((List.range zss.length).map V ++ [u])) (hgrow : wr.grownBy w3 vn.ownBlock) :
    Half3 w (w3.setCell ⟨t, 1, none⟩ (.slice (some ⟨gg, 0, none⟩) (zss.length + 1) cap)) t b vo (.slice (some ⟨gg, 0, none⟩) (zss.length + 1) cap) (fun i => if i = zss.length then u else V i) sa sb O (zss ++ [zs]) := by
  have hown := h.rows.own
  have hT3 := h.str.grown hown (by decide) hgrow
  have hb3 := h.box.grown hown (by decide) hgrow
  have hvo3 : OwnInts w3 w.heap.size w3.heap.size vo O := (h.ints.only (Only.of_grown hgrow) (fun g h1 h2 => own_types hown h.ints.own g h2 h1)).retop
  have hrows := h.rows.push (w1 := w3) (hu.base hB) (fun i hi g h1 h3 => hapu i hi g h1 h3) hown3 (Only.of_grown hgrow) (by omega)
  have hS : Only (fun b => b = t) w3 (w3.setCell ⟨t, 1, none⟩ (.slice (some ⟨gg, 0, none⟩) (zss.length + 1) cap)) := Box2.set1_only _
  refine ⟨(h.below.trans ((Only.of_grown hgrow).below h.below.size (fun g hg => (hown.lt g hg).1))).setCell htw _, hb3.only hS hbt, hT3.set1 _, (hvo3.only hS (fun g hg e => hT3.not_own hvo3.own (by decide) (by rw [hg, e]))).retop, (hrows.only hS (fun g hg e => hT3.not_own hrows.own (by decide) (by rw [hg, e])) (fun k hk g hg e => hT3.not_own (hrows.rows k hk).own (by decide) (by rw [hg, e]))).retop, fun i hi g hg => ?_⟩
  by_cases e : i = zss.length
  · subst e
    simp only [if_true] at hg
    exact hvu g hg
  · simp only [if_neg e] at hg
    exact h.apart i (by simp at hi; omega) g hg

end

section
open Go.RowKit

/-- v is reached from F by at least one step, every vertex stepped to being one of I. -/
inductive Rch (zss : List (List Int)) (I : Nat → Bool) (F : List Int) : Nat → Prop
  | one {u v : Nat} : (u : Int) ∈ F → (v : Int) ∈ row zss u → I v = true → Rch zss I F v
  | more {u v : Nat} : Rch zss I F u → (v : Int) ∈ row zss u → I v = true → Rch zss I F v

/-- How many of the first n are not marked. -/
def cnt (xs : Nat → Bool) : Nat → Nat
  | 0 => 0
  | k + 1 => cnt xs k + if xs k = true then 0 else 1

theorem cnt_le (xs : Nat → Bool) (n : Nat) : cnt xs n ≤ n := by
  induction n with
  | zero => simp [cnt]
  | succ k ih => simp only [cnt]; split <;> omega

theorem cnt_congr {xs ys : Nat → Bool} {n : Nat} (h : ∀ i, i < n → xs i = ys i) : cnt xs n = cnt ys n := by
  induction n with
  | zero => rfl
  | succ k ih => simp only [cnt]; rw [ih (fun i hi => h i (by omega)), h k (by omega)]

/-- One more mark. -/
def mark1 (xs : Nat → Bool) (v : Nat) (b : Bool) : Nat → Bool := fun i => if i = v then b else xs i

theorem cnt_mark {xs : Nat → Bool} {n v : Nat} (hv : v < n) (hx : xs v = false) : cnt (mark1 xs v true) n + 1 = cnt xs n := by
  induction n with
  | zero => omega
  | succ k ih =>
    simp only [cnt]
    by_cases e : v = k
    · subst e
      have h1 : cnt (mark1 xs v true) v = cnt xs v := cnt_congr fun i hi => by simp [mark1, show i ≠ v from by omega]
      have h2 : mark1 xs v true v = true := by simp [mark1]
      rw [h1, h2, hx]; simp
    · have h1 := ih (by omega)
      have h2 : mark1 xs v true k = xs k := by simp [mark1, show k ≠ v from fun h => e h.symm]
      rw [h2]; omega

theorem mark1_self (xs : Nat → Bool) (v : Nat) (b : Bool) : mark1 xs v b v = b := by simp [mark1]
theorem mark1_mono {xs : Nat → Bool} {v i : Nat} (h : xs i = true) : mark1 xs v true i = true := by
  unfold mark1; split <;> simp_all

/-- The model's search: xs is marked, todo is still to be looked at. -/
structure Bey0 (zss : List (List Int)) (I : Nat → Bool) (F : List Int) (n : Nat) (xs : Nat → Bool) (todo : List Int) : Prop where
  snd : ∀ v, v < n → xs v = true → Rch zss I F v
  tin : ∀ t ∈ todo, ∃ u : Nat, t = (u : Int) ∧ u < n ∧ ((u : Int) ∈ F ∨ xs u = true)
  cmp : ∀ u : Nat, u < n → ((u : Int) ∈ F ∨ xs u = true) → (u : Int) ∈ todo ∨ ∀ v : Nat, (v : Int) ∈ row zss u → I v = true → xs v = true
  bnd : todo.length + cnt xs n ≤ F.length + n

/-- The same inside a round: p was taken, q of its successors have been looked at. -/
structure Bey (zss : List (List Int)) (I : Nat → Bool) (F : List Int) (n : Nat) (xs : Nat → Bool) (todo : List Int) (p q : Nat) : Prop where
  snd : ∀ v, v < n → xs v = true → Rch zss I F v
  tin : ∀ t ∈ todo, ∃ u : Nat, t = (u : Int) ∧ u < n ∧ ((u : Int) ∈ F ∨ xs u = true)
  cmp : ∀ u : Nat, u < n → ((u : Int) ∈ F ∨ xs u = true) → (u : Int) ∈ todo ∨ u = p ∨ ∀ v : Nat, (v : Int) ∈ row zss u → I v = true → xs v = true
  pin : (p : Int) ∈ F ∨ xs p = true
  prt : ∀ j, j < q → ∀ v : Nat, nth (row zss p) j = (v : Int) → I v = true → xs v = true
  bnd : todo.length + 1 + cnt xs n ≤ F.length + n

theorem Bey0.start {zss : List (List Int)} {I : Nat → Bool} {F : List Int} {n : Nat} (hF : ∀ f ∈ F, ∃ u : Nat, f = (u : Int) ∧ u < n) : Bey0 zss I F n (fun _ => false) F :=
  ⟨fun v _ h => by simp at h, fun t ht => (hF t ht).elim fun u hu => ⟨u, hu.1, hu.2, .inl (hu.1 ▸ ht)⟩,
    fun u _ h => by
      rcases h with h | h
      · exact .inl h
      · simp at h, by have := cnt_le (fun _ => false) n; omega⟩

theorem Bey0.take {zss : List (List Int)} {I : Nat → Bool} {F : List Int} {n : Nat} {xs : Nat → Bool} {ts : List Int} {p : Nat} (h : Bey0 zss I F n xs (ts ++ [(p : Int)])) : p < n ∧ Bey zss I F n xs ts p 0 := by
  obtain ⟨u, hu, hun, hx⟩ := h.tin (p : Int) (by simp)
  have : p = u := by omega
  subst this
  refine ⟨hun, h.snd, fun t ht => h.tin t (by simp [ht]), fun u hu hx => ?_, hx, fun j hj => by omega, by have := h.bnd; simp at this; omega⟩
  rcases h.cmp u hu hx with hm | hm
  · rcases List.mem_append.1 hm with hm | hm
    · exact .inl hm
    · simp at hm; exact .inr (.inl (by omega))
  · exact .inr (.inr hm)

theorem Bey.skip {zss : List (List Int)} {I : Nat → Bool} {F : List Int} {n : Nat} {xs : Nat → Bool} {ts : List Int} {p q u : Nat} (h : Bey zss I F n xs ts p q) (hu : nth (row zss p) q = (u : Int)) (hs : I u = false ∨ xs u = true) : Bey zss I F n xs ts p (q + 1) :=
  ⟨h.snd, h.tin, h.cmp, h.pin, fun j hj v hv hI => by
    by_cases e : j = q
    · subst e
      have : u = v := by omega
      subst this
      rcases hs with hs | hs
      · rw [hs] at hI; cases hI
      · exact hs
    · exact h.prt j (by omega) v hv hI, h.bnd⟩

theorem Bey.push {zss : List (List Int)} {I : Nat → Bool} {F : List Int} {n : Nat} {xs : Nat → Bool} {ts : List Int} {p q u : Nat} (h : Bey zss I F n xs ts p q) (hp : p < n) (hq : q < (row zss p).length) (hu : nth (row zss p) q = (u : Int)) (hun : u < n) (hI : I u = true) (hx : xs u = false) :
    Bey zss I F n (mark1 xs u true) (ts ++ [(u : Int)]) p (q + 1) := by
  have hmem : (u : Int) ∈ row zss p := by rw [← hu]; exact nth_mem hq
  refine ⟨fun v hv hm => ?_, fun t ht => ?_, fun v hv hm => ?_, ?_, fun j hj v hv hIv => ?_, ?_⟩
  · by_cases e : v = u
    · subst e
      rcases h.pin with hf | hf
      · exact .one hf hmem hI
      · exact .more (h.snd p hp hf) hmem hI
    · exact h.snd v hv (by simpa [mark1, e] using hm)
  · rcases List.mem_append.1 ht with ht | ht
    · obtain ⟨w, h1, h2, h3⟩ := h.tin t ht
      exact ⟨w, h1, h2, h3.imp_right mark1_mono⟩
    · simp at ht
      exact ⟨u, ht, hun, .inr (mark1_self _ _ _)⟩
  · by_cases e : v = u
    · subst e; exact .inl (by simp)
    · have hm' : (v : Int) ∈ F ∨ xs v = true := hm.imp_right fun hh => by simpa [mark1, e] using hh
      rcases h.cmp v hv hm' with h1 | h1 | h1
      · exact .inl (List.mem_append.2 (.inl h1))
      · exact .inr (.inl h1)
      · exact .inr (.inr fun z hz hIz => mark1_mono (h1 z hz hIz))
  · exact h.pin.imp_right mark1_mono
  · by_cases e : j = q
    · subst e
      have : u = v := by omega
      subst this
      exact mark1_self _ _ _
    · exact mark1_mono (h.prt j (by omega) v hv hIv)
  · have h1 := cnt_mark hun hx
    have h2 := h.bnd
    simp
    omega

theorem Bey.done {zss : List (List Int)} {I : Nat → Bool} {F : List Int} {n : Nat} {xs : Nat → Bool} {ts : List Int} {p q : Nat} (h : Bey zss I F n xs ts p q) (hq : (row zss p).length ≤ q) : Bey0 zss I F n xs ts :=
  ⟨h.snd, h.tin, fun u hu hx => by
    rcases h.cmp u hu hx with h1 | h1 | h1
    · exact .inl h1
    · subst h1
      refine .inr fun v hv hI => ?_
      obtain ⟨i, hi, he⟩ := mem_nth.1 hv
      exact h.prt i (by omega) v he hI
    · exact .inr h1, by have := h.bnd; omega⟩

/-- At the end all that is reached is marked. -/
theorem Bey0.all {zss : List (List Int)} {I : Nat → Bool} {F : List Int} {n : Nat} {xs : Nat → Bool} (h : Bey0 zss I F n xs []) (hin : ∀ u : Nat, u < n → ∀ v : Nat, (v : Int) ∈ row zss u → v < n) (hF : ∀ f ∈ F, ∃ u : Nat, f = (u : Int) ∧ u < n) (v : Nat) (hv : v < n) : xs v = true ↔ Rch zss I F v := by
  refine ⟨h.snd v hv, fun hr => ?_⟩
  have key : ∀ v, Rch zss I F v → v < n ∧ xs v = true := by
    intro v hr
    induction hr with
    | @one u v hf hm hI =>
      obtain ⟨u', h1, h2⟩ := hF _ hf
      have : u = u' := by omega
      subst this
      rcases h.cmp u h2 (.inl hf) with hh | hh
      · cases hh
      · exact ⟨hin u h2 v hm, hh v hm hI⟩
    | @more u v _ hm hI ih =>
      rcases h.cmp u ih.1 (.inr ih.2) with hh | hh
      · cases hh
      · exact ⟨hin u ih.1 v hm, hh v hm hI⟩
  exact (key v hr).2

/-- What is marked, rising. -/
def markedK (xs : Nat → Bool) : Nat → List Int
  | 0 => []
  | k + 1 => markedK xs k ++ if xs k = true then [(k : Int)] else []

theorem markedK_len (xs : Nat → Bool) (k : Nat) : (markedK xs k).length ≤ k := by
  induction k with
  | zero => simp [markedK]
  | succ k ih => simp only [markedK]; split <;> simp <;> omega

theorem markedK_mem (xs : Nat → Bool) (k : Nat) (x : Int) : x ∈ markedK xs k ↔ ∃ v : Nat, x = (v : Int) ∧ v < k ∧ xs v = true := by
  induction k with
  | zero => simp [markedK]
  | succ k ih =>
    simp only [markedK, List.mem_append, ih]
    constructor
    · rintro (⟨v, h1, h2, h3⟩ | h)
      · exact ⟨v, h1, by omega, h3⟩
      · split at h
        · simp at h; exact ⟨k, h, by omega, by assumption⟩
        · simp at h
    · rintro ⟨v, h1, h2, h3⟩
      by_cases e : v = k
      · subst e; right; rw [if_pos h3]; simp [h1]
      · exact .inl ⟨v, h1, by omega, h3⟩

theorem markedK_fits (xs : Nat → Bool) (k : Nat) (hk : k ≤ 17592186044416) : ∀ j, j < (markedK xs k).length → Fits (nth (markedK xs k) j) := fun j hj => by
  obtain ⟨v, h1, h2, _⟩ := (markedK_mem xs k _).1 (nth_mem hj)
  unfold Fits; omega

end
end

section
open Go.RowKit

theorem info_bool : (Tryd.prog.info? 4).map (fun i => (i.zero, i.size, i.bytes)) = some (some (.bool false), 1, 1) := by kernel_rfl

/-- What a row of marks reads as. -/
def marksV (xs : Nat → Bool) : Nat → Value := fun i => .bool (xs i)

theorem marks_set {w : World} {b n v : Nat} {t : TypeId} {xs : Nat → Bool} {c : Bool} (h : w.rowIs b t n (marksV xs)) : (w.setCell ⟨b, v, none⟩ (.bool c)).rowIs b t n (marksV (mark1 xs v c)) := by
  refine (h.set v _).congr fun i _ => ?_
  simp only [marksV, mark1]
  by_cases e : i = v
  · subst e; simp
  · simp [e]

end

section
open Go.RowKit

theorem rowIs_only {S : Nat → Prop} {w w' : World} {g n : Nat} {t : TypeId} {f : Nat → Value} (h : w.rowIs g t n f) (hk : Only S w w') (hs : ¬ S g) : w'.rowIs g t n f := h.of_block (hk.block g h.lt hs)

theorem own_top {w : World} {B n : Nat} {e : TypeId} {v : Value} {xs : List Value} (h : w.ownsRow B e 1 v n xs) (hn : 0 < n) : ∃ g cap, v = .slice (some ⟨g, 0, none⟩) n cap ∧ n ≤ cap ∧ cap ≤ maxLen ∧ B ≤ g := by
  rcases h.2 with ⟨_, h0⟩ | ⟨g, cap, cur, hv, hg, _, hc, hm, _⟩
  · omega
  · exact ⟨g, cap, hv, hc, hm, hg⟩

theorem own_shape {w : World} {B n : Nat} {e : TypeId} {v : Value} {xs : List Value} (h : w.ownsRow B e 1 v n xs) : ∃ a c, v = .slice a n c := by
  rcases h.2 with ⟨hv, h0⟩ | ⟨g, cap, cur, hv, _⟩
  · exact ⟨_, _, by rw [hv, h0]⟩
  · exact ⟨_, _, hv⟩

def lenOf : Value → Nat
  | .slice _ n _ => n
  | _ => 0

end

section
section
open Go.RowKit

/-- One call after another; what each leaves behind is appended. -/
def dfsL (step : (Nat → Bool) → Nat → (Nat → Bool) × List Int) : (Nat → Bool) → List Int → (Nat → Bool) × List Int
  | o, [] => (o, [])
  | o, u :: us => ((dfsL step (step o u.toNat).1 us).1, (step o u.toNat).2 ++ (dfsL step (step o u.toNat).1 us).2)

/-- How many of the first n are open. -/
def opens (o : Nat → Bool) : Nat → Nat
  | 0 => 0
  | k + 1 => opens o k + if o k = true then 1 else 0

theorem opens_mono {o o' : Nat → Bool} {n : Nat} (h : ∀ i, i < n → o' i = true → o i = true) : opens o' n ≤ opens o n := by
  induction n with
  | zero => simp [opens]
  | succ k ih =>
    have h1 := ih (fun i hi => h i (by omega))
    simp only [opens]
    by_cases e : o' k = true
    · rw [if_pos e, if_pos (h k (by omega) e)]; omega
    · rw [if_neg e]; omega

def tri (a b c : Value) : Nat → Value := fun i => if i = 0 then a else if i = 1 then b else c

end

section
open Go.RowKit

/-- 0, ..., n-1. -/
def upL (n : Nat) : List Int := (List.range n).map (fun (i : Nat) => Int.ofNat i)
theorem upL_len (n : Nat) : (upL n).length = n := by simp [upL]
theorem upL_nth {n i : Nat} (h : i < n) : nth (upL n) i = i := by simp [nth, upL, h]

def upPart (k : Nat) : Nat → Value := fun i => if i < k then .int .i64 i else .int .i64 0

theorem up_step {w : World} {g n k : Nat} {t : TypeId} (h : w.rowIs g t n (upPart k)) : (w.setCell ⟨g, k, none⟩ (.int .i64 k)).rowIs g t n (upPart (k + 1)) := by
  refine (h.set k _).congr fun i _ => ?_
  simp only [upPart]
  by_cases e : i = k
  · subst e; simp
  · by_cases hlt : i < k
    · rw [if_neg e, if_pos hlt, if_pos (by omega)]
    · rw [if_neg e, if_neg hlt, if_neg (by omega)]

set_option maxHeartbeats 1000000 in
theorem upTo_is (n : Nat) (hn : n ≤ 1048576) (w : World) :
    Calls Tryd.prog 104 #[.int .i64 n] w fun e w' => e = .returned (.slice (some ⟨w.heap.size, 0, none⟩) n n) ∧ IntsAt w' (some ⟨w.heap.size, 0, none⟩) (upL n) ∧ Below w.heap.size w w' := by
  have hmk := run_make_row' (P := Tryd.prog) 22 2 (.int .i64 0) 8 Tryd.underlying22 info_int rfl .i64 .i64 n (by omega) (by omega)
  go_enter Tryd.func104, Tryd.ntmps104
  go_wp2
  go_loopw [9] (fun i wr => ∃ k : Nat, k ≤ n ∧ i = .int .i64 k ∧ Hid (wr.rowIs w.heap.size 2 n (upPart k)) ∧ Hid (Below w.heap.size w wr)) (fun i _ => n - (intOf i).toNat)
  case atStart => exact ⟨0, Nat.zero_le _, rfl, (World.rowIs_made _ _ _ _).congr (fun i _ => by simp [upPart]), below1 _ _⟩
  case round =>
    clear hmk
    obtain ⟨k, hk, rfl, HR, HB⟩ := hrel
    by_cases hlt : k < n
    · have hcs := HR.out.cell hlt
      have hcf := HR.out.frozen k
      have hi1 : (k : Int) < n := by omega
      go_wp2
      go_roundw
      case rel => exact ⟨k + 1, by omega, by go_num, up_step HR.out, HB.out.setCell (Nat.le_refl _) _⟩
      case measure => simp [intOf]; omega
    · have HE : Hid (IntsAt wr (some ⟨w.heap.size, 0, none⟩) (upL n)) :=
        ⟨by rw [upL_len]; omega, fun i hi => by rw [upL_len] at hi; rw [upL_nth hi]; unfold Fits; omega, fun _ => ⟨_, _, rfl, fun i hi => by
          rw [upL_len] at hi
          rw [Nat.zero_add, HR.out.cell hi, upL_nth hi]; simp only [upPart]; rw [if_pos (by omega)]⟩⟩
      have hi1 : ¬ (k : Int) < n := by omega
      have hi2 : ¬ k < n := hlt
      go_wp2
      go_ret
      exact ⟨rfl, HE.out, HB.out⟩

end
end

section
open Go.RowKit

def fnL (n : Nat) (f : Nat → Int) : List Int := (List.range n).map f
theorem fnL_len (n : Nat) (f : Nat → Int) : (fnL n f).length = n := by simp [fnL]
theorem fnL_nth {n i : Nat} {f : Nat → Int} (h : i < n) : nth (fnL n f) i = f i := by simp [nth, fnL, h]
theorem fnL_succ (n : Nat) (f : Nat → Int) : fnL (n + 1) f = fnL n f ++ [f n] := by simp [fnL, List.range_succ]
theorem fnL_congr {n : Nat} {f g : Nat → Int} (h : ∀ i, i < n → f i = g i) : fnL n f = fnL n g := List.map_congr_left fun i hi => h i (List.mem_range.1 hi)
theorem fnL_set {n u : Nat} {f : Nat → Int} {x : Int} : (fnL n f).set u x = fnL n (fun i => if i = u then x else f i) := by
  apply List.ext_getElem?
  intro i
  by_cases hi : i < n
  · by_cases e : i = u
    · subst e; simp [fnL, hi]
    · simp [fnL, hi, e, Ne.symm e]
  · simp [fnL, hi]

/-- The slice at the head of block g owns f's values. -/
def OwnF (w : World) (B g cap n : Nat) (f : Nat → Int) : Prop := OwnInts w B w.heap.size (.slice (some ⟨g, 0, none⟩) n cap) (fnL n f)

theorem OwnF.row {w : World} {B g cap n : Nat} {f : Nat → Int} (h : OwnF w B g cap n f) : w.ownsRow B 2 1 (.slice (some ⟨g, 0, none⟩) n cap) n ((fnL n f).map (Value.int .i64)) := by
  have := h.own
  rw [fnL_len] at this
  exact this
theorem OwnF.lt {w : World} {B g cap n : Nat} {f : Nat → Int} (h : OwnF w B g cap n f) : B ≤ g ∧ g < w.heap.size := h.own.lt g rfl
theorem OwnF.ints {w : World} {B g cap n : Nat} {f : Nat → Int} (h : OwnF w B g cap n f) : IntsAt w (some ⟨g, 0, none⟩) (fnL n f) := by
  obtain ⟨a, c, hv, hi, _⟩ := h.shape
  simp only [Value.slice.injEq] at hv
  rw [hv.1]
  exact hi
theorem OwnF.cell {w : World} {B g cap n u : Nat} {f : Nat → Int} (h : OwnF w B g cap n f) (hu : u < n) : w.cell? ⟨g, u, none⟩ = some (.int .i64 (f u)) := by
  rw [h.row.cellAt u (by omega)]
  simp [fnL, hu]
theorem OwnF.frozen {w : World} {B g cap n : Nat} {f : Nat → Int} (h : OwnF w B g cap n f) (u : Nat) : w.frozen? ⟨g, u, none⟩ = false := h.row.frozenAt u
theorem OwnF.only {w w' : World} {S : Nat → Prop} {B g cap n : Nat} {f : Nat → Int} (h : OwnF w B g cap n f) (hk : Only S w w') (hs : ¬ S g) : OwnF w' B g cap n f :=
  (OwnInts.only h hk (fun b hb => by simp [Value.ownBlock] at hb; subst hb; exact hs)).retop
theorem OwnF.congr {w : World} {B g cap n : Nat} {f f' : Nat → Int} (h : OwnF w B g cap n f) (he : ∀ i, i < n → f i = f' i) : OwnF w B g cap n f' := by
  unfold OwnF at *; rw [← fnL_congr he]; exact h
theorem OwnF.put {w : World} {B g cap n u : Nat} {f : Nat → Int} {x : Int} (h : OwnF w B g cap n f) (hx : Fits x) : OwnF (w.setCell ⟨g, u, none⟩ (.int .i64 x)) B g cap n (fun i => if i = u then x else f i) := by
  obtain ⟨hs, _⟩ := h.row.stored u (.int .i64 x)
  have hm : ((fnL n f).map (Value.int .i64)).set u (.int .i64 x) = (fnL n (fun i => if i = u then x else f i)).map (Value.int .i64) := by rw [← fnL_set, List.map_set]
  rw [hm] at hs
  refine OwnInts.mk' (by rw [fnL_len]; exact hs) (by rw [fnL_len]; have := h.len; rw [fnL_len] at this; exact this) fun k hk => ?_
  rw [fnL_len] at hk
  rw [fnL_nth hk]
  have hf := h.fits k (by rw [fnL_len]; exact hk)
  rw [fnL_nth hk] at hf
  by_cases e : k = u
  · rw [if_pos e]; exact hx
  · rw [if_neg e]; exact hf
end

section
open Go.RowKit

/-- What was there in each of these worlds is there still. -/
def Keep : List World → World → Prop
  | [], _ => True
  | a :: l, w => Below a.heap.size a w ∧ Keep l w
theorem Keep.step : ∀ {l : List World} {w w' : World}, Keep l w → Below w.heap.size w w' → Keep l w'
  | [], _, _, _, _ => trivial
  | _ :: _, _, _, h, hb => ⟨h.1.trans (hb.mono h.1.size), Keep.step h.2 hb⟩
theorem Keep.add {l : List World} {w : World} (h : Keep l w) : Keep (w :: l) w := ⟨Below.refl _ _, h⟩
theorem Keep.only : ∀ {l : List World} {w w' : World} {S : Nat → Prop}, Keep l w → Only S w w' → (∀ a ∈ l, ∀ b, S b → a.heap.size ≤ b) → Keep l w'
  | [], _, _, _, _, _, _ => trivial
  | a :: l, _, _, _, h, ho, hs => ⟨h.1.trans (ho.below h.1.size (hs a (by simp))), Keep.only h.2 ho fun a ha => hs a (by simp [ha])⟩
theorem toInts_own {w : World} {v : Value} {zs : List Int} (h : IntsV w v zs) :
    Calls Tryd.prog 16 #[v] w (GivesInts w zs) := toInts_at h
theorem heldInts_own {w : World} {v : Value} {k r : Int} {n : Nat} (hr : k + (n : Int) = r) (h : IntsV w v (marks k n)) (h0 : 0 ≤ k) (h1 : k ≤ 1152921504606846976) :
    Calls Tryd.prog 31 #[v, .int .i64 k] w fun e w' => e = .returned (.int .i64 r) ∧ Below w.heap.size w w' :=
  (heldInts_is hr h h0 h1).mono fun _ _ ⟨he, hw⟩ => ⟨he, hw ▸ Below.refl _ _⟩

theorem OwnArena.shape2 {w : World} {B D : Nat} {v : Value} {O : List Int} {zss : List (List Int)} (h : OwnArena w B D v O zss) : ∃ a0 c0 a1 c1, v = .agg #[.slice a0 O.length c0, .slice a1 zss.length c1] := by
  obtain ⟨ao, an, co, cn, A, C, hv, _, _⟩ := h.at
  exact ⟨ao, co, an, cn, hv⟩
theorem OwnInts.shape2 {w : World} {B D : Nat} {v : Value} {zs : List Int} (h : OwnInts w B D v zs) : ∃ a c, v = .slice a zs.length c := by
  obtain ⟨a, c, hv, _, _⟩ := h.shape
  exact ⟨a, c, hv⟩
theorem IntsV.at {w : World} {a : Option Addr} {n c : Nat} {zs : List Int} (h : IntsV w (.slice a n c) zs) : IntsAt w a zs := by
  obtain ⟨a', c', hv, hi⟩ := h
  cases hv; exact hi
end

section
open Go.RowKit

/-- What one walk from the vertices us does. -/
structure WalkP (zss : List (List Int)) (o : Nat → Bool) (us : List Int) (r : (Nat → Bool) × List Int) : Prop where
  shut : ∀ i, r.1 i = true → o i = true
  mem : ∀ i, i < zss.length → ((i : Int) ∈ r.2 ↔ o i = true ∧ r.1 i = false)
  nat : ∀ x ∈ r.2, ∃ i : Nat, x = (i : Int) ∧ i < zss.length
  nodup : r.2.Nodup
  reach : ∀ i, i < zss.length → o i = true → r.1 i = false → (i : Int) ∈ us ∨ Rch zss (fun _ => true) us i
  clos : ∀ i, i < zss.length → o i = true → r.1 i = false → ∀ j : Nat, (j : Int) ∈ row zss i → r.1 j = false
  self : ∀ u : Nat, (u : Int) ∈ us → r.1 u = false

theorem rch_mono {zss : List (List Int)} {I : Nat → Bool} {F G : List Int} (h : ∀ x ∈ F, x ∈ G) {v : Nat} (hr : Rch zss I F v) : Rch zss I G v := by
  induction hr with
  | one hf hm hI => exact .one (h _ hf) hm hI
  | more _ hm hI ih => exact .more ih hm hI

theorem WalkP.list {zss : List (List Int)} {step : (Nat → Bool) → Nat → (Nat → Bool) × List Int} {m : Nat} (h : ∀ o v, v < zss.length → opens o zss.length < m → WalkP zss o [(v : Int)] (step o v)) (us : List Int) (hus : ∀ x ∈ us, ∃ v : Nat, x = (v : Int) ∧ v < zss.length) :
    ∀ o, opens o zss.length < m → WalkP zss o us (dfsL step o us) := by
  induction us with
  | nil => intro o _; exact ⟨fun i h => h, fun i _ => by simp [dfsL], fun x hx => by simp [dfsL] at hx, by simp [dfsL], fun i _ h1 h2 => by simp [dfsL, h1] at h2, fun i _ h1 h2 => by simp [dfsL, h1] at h2, fun u hu => by simp at hu⟩
  | cons u us ih =>
    intro o ho
    obtain ⟨v, hv, hvn⟩ := hus u (by simp)
    subst hv
    have h1 := h o v hvn ho
    have h2 := ih (fun x hx => hus x (by simp [hx])) (step o v).1 (Nat.lt_of_le_of_lt (opens_mono fun i _ hi => h1.shut i hi) ho)
    have hstay : ∀ i, (step o v).1 i = false → (dfsL step (step o v).1 us).1 i = false := fun i hi => by
      cases hb : (dfsL step (step o v).1 us).1 i with
      | false => rfl
      | true => rw [h2.shut i hb] at hi; cases hi
    refine ⟨fun i hi => ?_, fun i hi => ?_, fun x hx => ?_, ?_, fun i hi hoi hr => ?_, fun i hi hoi hr j hj => ?_, fun w hw => ?_⟩
    · simp only [dfsL, Int.toNat_natCast] at hi
      exact h1.shut i (h2.shut i hi)
    · simp only [dfsL, Int.toNat_natCast, List.mem_append, h1.mem i hi, h2.mem i hi]
      constructor
      · rintro (⟨ha, hb⟩ | ⟨ha, hb⟩)
        · exact ⟨ha, hstay i hb⟩
        · exact ⟨h1.shut i ha, hb⟩
      · rintro ⟨ha, hb⟩
        cases hc : (step o v).1 i with
        | false => exact .inl ⟨ha, rfl⟩
        | true => exact .inr ⟨rfl, hb⟩
    · simp only [dfsL, Int.toNat_natCast, List.mem_append] at hx
      exact hx.elim (h1.nat x) (h2.nat x)
    · simp only [dfsL, Int.toNat_natCast]
      refine List.nodup_append.2 ⟨h1.nodup, h2.nodup, fun a ha b hb hab => ?_⟩
      subst hab
      obtain ⟨i, rfl, hi⟩ := h1.nat a ha
      have q1 := ((h1.mem i hi).1 ha).2
      have q2 := ((h2.mem i hi).1 hb).1
      rw [q1] at q2; cases q2
    · simp only [dfsL, Int.toNat_natCast] at hr
      cases hc : (step o v).1 i with
      | false =>
        rcases h1.reach i hi hoi hc with hh | hh
        · left; simp at hh; simp; left; omega
        · right; exact rch_mono (fun x hx => by simp at hx; simp [hx]) hh
      | true =>
        rcases h2.reach i hi hc hr with hh | hh
        · left; simp [hh]
        · right; exact rch_mono (fun x hx => by simp [hx]) hh
    · simp only [dfsL, Int.toNat_natCast] at hr ⊢
      cases hc : (step o v).1 i with
      | false => exact hstay j (h1.clos i hi hoi hc j hj)
      | true => exact h2.clos i hi hc hr j hj
    · simp only [dfsL, Int.toNat_natCast]
      simp only [List.mem_cons] at hw
      rcases hw with hw | hw
      · exact hstay w (h1.self w (by simp; omega))
      · exact h2.self w hw

theorem markedK_rising (xs : Nat → Bool) (k : Nat) : (markedK xs k).Pairwise (· < ·) := by
  induction k with
  | zero => simp [markedK]
  | succ k ih =>
    simp only [markedK]
    refine List.pairwise_append.2 ⟨ih, by split <;> simp, fun a ha b hb => ?_⟩
    obtain ⟨v, rfl, hv, _⟩ := (markedK_mem xs k a).1 ha
    split at hb
    · simp at hb; omega
    · simp at hb

end

section
section
open Go.RowKit

end

section
open Go.RowKit

end
end

section
section
open Go.RowKit

theorem tri_set1 {a b c d : Value} : ∀ i, i < 3 → (if i = 1 then d else tri a b c i) = tri a d c i := fun i hi => by
  have h : i = 0 ∨ i = 1 ∨ i = 2 := by omega
  rcases h with rfl | rfl | rfl <;> simp [tri]

end

section
open Go.RowKit

end
end

end Go.Proofs.YtphkgnpkcfbnkabDoor
namespace Go.Proofs.YtphkgnpkcfbnkabDoor
section
section
open Go.RowKit

end

section
open Go.RowKit

end
end

section
section
open Go.RowKit

theorem IntsAt.take {w : World} {a : Option Addr} {zs : List Int} (h : IntsAt w a zs) (k : Nat) (hk : k ≤ zs.length) : IntsAt w a (zs.take k) := by
  have hl : (zs.take k).length = k := by simp; omega
  have hn : ∀ j, j < k → nth (zs.take k) j = nth zs j := fun j hj => by simp [nth, hj]
  refine ⟨by rw [hl]; have := h.len; omega, fun j hj => ?_, fun h0 => ?_⟩
  · rw [hl] at hj; rw [hn j hj]; exact h.fits j (by omega)
  · rw [hl] at h0
    obtain ⟨b, off, ha, hc⟩ := h.cell (by omega)
    exact ⟨b, off, ha, fun j hj => by rw [hl] at hj; rw [hn j hj]; exact hc j (by omega)⟩

end

section
open Go.RowKit

/-- The bytes of a slice. -/
structure BytesAt (w : World) (a : Option Addr) (bs : List Int) : Prop where
  len : bs.length ≤ 140737488355328
  byt : ∀ k, k < bs.length → ∃ b off, a = some ⟨b, off, none⟩ ∧ w.cell? ⟨b, off + k, none⟩ = some (.int .u8 (nth bs k)) ∧ 0 ≤ nth bs k ∧ nth bs k ≤ 255

theorem Only.new {S T : Nat → Prop} {a b c : World} (h : Only S a b) (k : Only T b c) (ht : ∀ x, T x → S x ∨ a.heap.size ≤ x) : Only S a c :=
  ⟨k.os.trans h.os, k.tape.trans h.tape, k.output.trans h.output, Nat.le_trans h.size k.size, fun i hi hs => (k.block i (Nat.lt_of_lt_of_le hi h.size) (fun hT => by
    rcases ht i hT with h1 | h1
    · exact hs h1
    · omega)).trans (h.block i hi hs)⟩

theorem IntsAt.only {w w' : World} {S : Nat → Prop} {b : Nat} {zs : List Int} (h : IntsAt w (some ⟨b, 0, none⟩) zs) (hk : Only S w w') (hb : b < w.heap.size) (hs : ¬ S b) : IntsAt w' (some ⟨b, 0, none⟩) zs :=
  ⟨h.len, h.fits, fun h0 => by
    obtain ⟨b', off, ha, hc⟩ := h.cell h0
    cases ha
    exact ⟨b, 0, rfl, fun k hk' => by
      rw [World.cell?_of_block (w := w) (hk.block b hb hs)]
      exact hc k hk'⟩⟩

theorem OwnInts.snoc {w : World} {B D : Nat} {v v' : Value} {zs : List Int} {x : Int} {w' : World} (h : OwnInts w B D v zs) (hx : Fits x) (hl : zs.length ≤ 1048576) (ho : w'.ownsRow B 2 1 v' (zs.length + 1) (zs.map (Value.int .i64) ++ [.int .i64 x])) : OwnInts w' B w'.heap.size v' (zs ++ [x]) := by
  refine OwnInts.mk' (by simpa using ho) (by simp; omega) fun k hk => ?_
  have hm := nth_mem hk
  generalize nth (zs ++ [x]) k = y at hm
  rcases List.mem_append.1 hm with hm | hm
  · obtain ⟨j, hj, e⟩ := mem_nth.1 hm
    rw [← e]; exact h.fits j hj
  · simp at hm; rw [hm]; exact hx

end
end

section
open Go.RowKit

end

section
open Go.RowKit

section
open Go.RowKit
theorem BytesAt.below {w w' : World} {a : Option Addr} {bs : List Int} (h : BytesAt w a bs) (hb : Below w.heap.size w w') : BytesAt w' a bs :=
  ⟨h.len, fun k hk => by
    obtain ⟨b, off, h1, h2, h3⟩ := h.byt k hk
    exact ⟨b, off, h1, Below.cell_some (B := 0) hb rfl h2, h3⟩⟩
end
end

section
open Go.RowKit

/-- t: the struct that grows, with the owners vo and the rows vn (row k is V k), all from block n on. -/
structure Half4 (n : Nat) (wr : World) (t : Nat) (vo vn : Value) (V : Nat → Value) (O : List Int) (zss : List (List Int)) : Prop where
  base : n ≤ t
  str : Box2 wr t 30 vo vn
  ints : OwnInts wr n wr.heap.size vo O
  rows : OwnRows wr n wr.heap.size vn V zss
  apart : ∀ i, i < zss.length → ∀ g, (V i).ownBlock = some g → vo.ownBlock ≠ some g

theorem Half4.only {n t : Nat} {wr wr' : World} {vo vn : Value} {V : Nat → Value} {O : List Int} {zss : List (List Int)} {S : Nat → Prop} (h : Half4 n wr t vo vn V O zss) (hk : Only S wr wr') (hs : ∀ b, S b → b < n) : Half4 n wr' t vo vn V O zss :=
  ⟨h.base, h.str.only hk (fun e => by have := hs _ e; have := h.base; omega), (h.ints.only hk (fun g hg e => by have := hs _ e; have := (h.ints.own.lt g hg).1; omega)).retop,
    (h.rows.only hk (fun g hg e => by have := hs _ e; have := (h.rows.own.lt g hg).1; omega) (fun k hk' g hg e => by have := hs _ e; have := ((h.rows.rows k hk').own.lt g hg).1; omega)).retop, h.apart⟩
theorem Half4.keep {n t : Nat} {wr wr' : World} {vo vn : Value} {V : Nat → Value} {O : List Int} {zss : List (List Int)} (h : Half4 n wr t vo vn V O zss) (hb : Below wr.heap.size wr wr') : Half4 n wr' t vo vn V O zss :=
  h.only (S := fun _ => False) (Only.of_below hb) (fun _ h => h.elim)

theorem Half4.owner {n t gg cap : Nat} {wr w1 : World} {vo vn : Value} {V : Nat → Value} {O : List Int} {x : Int} {zss : List (List Int)} (h : Half4 n wr t vo vn V O zss) (hl : O.length ≤ 1048576) (hx : Fits x)
    (hown1 : w1.ownsRow n 2 1 (.slice (some ⟨gg, 0, none⟩) (O.length + 1) cap) (O.length + 1) (O.map (Value.int .i64) ++ [.int .i64 x])) (hgrow : wr.grownBy w1 vo.ownBlock) (hat : vo.ownBlock = some gg ∨ wr.heap.size ≤ gg) :
    Half4 n (w1.setCell ⟨t, 0, none⟩ (.slice (some ⟨gg, 0, none⟩) (O.length + 1) cap)) t (.slice (some ⟨gg, 0, none⟩) (O.length + 1) cap) vn V (O ++ [x]) zss ∧
      Only (fun b => n ≤ b) wr (w1.setCell ⟨t, 0, none⟩ (.slice (some ⟨gg, 0, none⟩) (O.length + 1) cap)) := by
  have hown := h.ints.own
  have hT1 := h.str.grown hown (by decide) hgrow
  have hI : OwnInts w1 n w1.heap.size (.slice (some ⟨gg, 0, none⟩) (O.length + 1) cap) (O ++ [x]) := h.ints.snoc hx hl hown1
  have hR := h.rows.only (Only.of_grown hgrow) (fun g h1 h2 => own_types h.rows.own hown g h1 h2) (fun k hk g h1 h2 => h.apart k hk g h1 h2)
  have hS := Box2.set0_only (w := w1) (t := t) (.slice (some ⟨gg, 0, none⟩) (O.length + 1) cap)
  refine ⟨⟨h.base, hT1.set0 _, (hI.only hS (fun g hg e => hT1.not_own hI.own (by decide) (by rw [hg, e]))).retop, (hR.only hS (fun g hg e => hT1.not_own hR.own (by decide) (by rw [hg, e])) (fun k hk g hg e => hT1.not_own (hR.rows k hk).own (by decide) (by rw [hg, e]))).retop, fun i hi g hg hh => ?_⟩, ?_⟩
  · simp [Value.ownBlock] at hh
    subst hh
    rcases hat with h' | h'
    · exact h.apart i hi _ hg h'
    · have := (h.rows.rows i hi).top _ hg
      omega
  · exact ((Only.of_grown hgrow).mono fun b hb => (hown.lt b hb).1).trans (hS.mono fun b hb => by rw [hb]; exact h.base)

theorem Half4.push {n t gg cap : Nat} {wr w3 : World} {vo vn u : Value} {V : Nat → Value} {O zs : List Int} {zss : List (List Int)} {B D : Nat} (h : Half4 n wr t vo vn V O zss) (hl : zss.length ≤ 1048576)
    (hu : OwnInts wr B D u zs) (hB : n ≤ B) (hapu : ∀ i, i < zss.length → ∀ g, u.ownBlock = some g → (V i).ownBlock ≠ some g) (hvu : ∀ g, u.ownBlock = some g → vo.ownBlock ≠ some g)
    (hown3 : w3.ownsRow n 22 1 (.slice (some ⟨gg, 0, none⟩) (zss.length + 1) cap) (zss.length + 1) ((List.range zss.length).map V ++ [u])) (hgrow : wr.grownBy w3 vn.ownBlock) :
    Half4 n (w3.setCell ⟨t, 1, none⟩ (.slice (some ⟨gg, 0, none⟩) (zss.length + 1) cap)) t vo (.slice (some ⟨gg, 0, none⟩) (zss.length + 1) cap) (fun i => if i = zss.length then u else V i) O (zss ++ [zs]) ∧
      Only (fun b => n ≤ b) wr (w3.setCell ⟨t, 1, none⟩ (.slice (some ⟨gg, 0, none⟩) (zss.length + 1) cap)) := by
  have hown := h.rows.own
  have hT3 := h.str.grown hown (by decide) hgrow
  have hvo3 : OwnInts w3 n w3.heap.size vo O := (h.ints.only (Only.of_grown hgrow) (fun g h1 h2 => own_types hown h.ints.own g h2 h1)).retop
  have hrows := h.rows.push (w1 := w3) (hu.base hB) (fun i hi g h1 h3 => hapu i hi g h1 h3) hown3 (Only.of_grown hgrow) (by omega)
  have hS : Only (fun b => b = t) w3 (w3.setCell ⟨t, 1, none⟩ (.slice (some ⟨gg, 0, none⟩) (zss.length + 1) cap)) := Box2.set1_only _
  refine ⟨⟨h.base, hT3.set1 _, (hvo3.only hS (fun g hg e => hT3.not_own hvo3.own (by decide) (by rw [hg, e]))).retop, (hrows.only hS (fun g hg e => hT3.not_own hrows.own (by decide) (by rw [hg, e])) (fun k hk g hg e => hT3.not_own (hrows.rows k hk).own (by decide) (by rw [hg, e]))).retop, fun i hi g hg => ?_⟩, ?_⟩
  · by_cases e : i = zss.length
    · subst e
      simp only [if_true] at hg
      exact hvu g hg
    · simp only [if_neg e] at hg
      exact h.apart i (by simp at hi; omega) g hg
  · exact ((Only.of_grown hgrow).mono fun b hb => (hown.lt b hb).1).trans (hS.mono fun b hb => by rw [hb]; exact h.base)

/-- What a struct and a box of results give: the results. -/
theorem Half4.give {w wr : World} {t r : Nat} {vo vn : Value} {V : Nat → Value} {O : List Int} {zss : List (List Int)} {x y : Value} (h : Half4 w.heap.size wr t vo vn V O zss) (hr : Box2 wr r 30 x y) :
    OwnArena ((wr.setCell ⟨r, 0, none⟩ vo).setCell ⟨r, 1, none⟩ vn) w.heap.size ((wr.setCell ⟨r, 0, none⟩ vo).setCell ⟨r, 1, none⟩ vn).heap.size (.agg #[vo, vn]) O zss := by
  have hS : Only (fun b => b = r) wr ((wr.setCell ⟨r, 0, none⟩ vo).setCell ⟨r, 1, none⟩ vn) := (Box2.set0_only _).trans (Box2.set1_only _)
  exact ⟨_, _, V, rfl, (h.ints.only hS (fun g hg e => hr.not_own h.ints.own (by decide) (by rw [hg, e]))).retop, (h.rows.only hS (fun g hg e => hr.not_own h.rows.own (by decide) (by rw [hg, e])) (fun k hk g hg e => hr.not_own (h.rows.rows k hk).own (by decide) (by rw [hg, e]))).retop, h.apart⟩
end

section
open Go.RowKit

theorem row_set {zss : List (List Int)} {v k : Nat} {zs : List Int} (hv : v < zss.length) : row (zss.set v zs) k = if k = v then zs else row zss k := by
  unfold row
  by_cases e : k = v
  · subst e; simp [hv]
  · rw [if_neg e]; simp [Ne.symm e]

theorem Half4.putRow {n t g cap v : Nat} {wr w7 : World} {vo u : Value} {V : Nat → Value} {O zs : List Int} {zss : List (List Int)} (h : Half4 n wr t vo (.slice (some ⟨g, 0, none⟩) zss.length cap) V O zss) (hv : v < zss.length)
    (hg : Only (fun b => (V v).ownBlock = some b) wr w7) (hu : OwnInts w7 n w7.heap.size u zs) (hw : u.ownBlock = (V v).ownBlock ∨ ∃ X, u.ownBlock = some X ∧ wr.heap.size ≤ X) :
    Half4 n (w7.setCell ⟨g, v, none⟩ u) t vo (.slice (some ⟨g, 0, none⟩) zss.length cap) (fun i => if i = v then u else V i) O (zss.set v zs) ∧ Only (fun b => n ≤ b) wr (w7.setCell ⟨g, v, none⟩ u) := by
  have hVv := h.rows.rows v hv
  have ho := ownsRow_only h.rows.own hg (own_types h.rows.own hVv.own)
  obtain ⟨hs, hgr⟩ := ho.stored v u
  have hgn : n ≤ g := (ho.lt g rfl).1
  have hS : Only (fun b => b = g) w7 (w7.setCell ⟨g, v, none⟩ u) := Only.setCell (S := fun b => b = g) (Only.refl _ _) (p := ⟨g, v, none⟩) rfl _
  have hl : (zss.set v zs).length = zss.length := by simp
  have e : ((List.range zss.length).map V).set v u = (List.range zss.length).map (fun i => if i = v then u else V i) := by
    apply List.ext_getElem?
    intro i
    by_cases hi : i < zss.length
    · by_cases e : i = v
      · subst e; simp [hi]
      · simp [hi, e, Ne.symm e]
    · simp [hi]
  rw [e] at hs
  have hI : OwnInts w7 n w7.heap.size vo O := (h.ints.only hg (fun b hb e => h.apart v hv b e hb)).retop
  have hR : ∀ k, k < zss.length → k ≠ v → OwnInts w7 n w7.heap.size (V k) (row zss k) := fun k hk hne => ((h.rows.rows k hk).only hg (h.rows.apart k v hk hv hne)).retop
  have hown : ∀ {zs' : List Int} {x : Value}, OwnInts w7 n w7.heap.size x zs' → ∀ b, x.ownBlock = some b → ¬ b = g := fun hx b hb e => own_types ho hx.own b (by rw [e]; rfl) hb
  have hstr : Box2 w7 t 30 vo (.slice (some ⟨g, 0, none⟩) zss.length cap) := h.str.only hg (fun e => h.str.not_own hVv.own (by decide) e)
  have hul : ∀ i, i < zss.length → i ≠ v → ∀ b, u.ownBlock = some b → (V i).ownBlock ≠ some b := fun i hi hne b hb hb' => by
    rcases hw with hw | ⟨X, hX, hge⟩
    · rw [hw] at hb; exact h.rows.apart i v hi hv hne b hb' hb
    · rw [hX] at hb; have := (h.rows.rows i hi).top b hb'; simp at hb; omega
  refine ⟨⟨h.base, hstr.only hS (fun e => hstr.not_own ho (by decide) (by rw [e]; rfl)), (hI.only hS (hown hI)).retop, ⟨by rw [hl]; exact hs, fun g' hg => (hs.lt g' hg).2, by rw [hl]; exact h.rows.len, fun k hk => ?_, fun i j hi hj hne b hb hb' => ?_⟩, fun i hi b hb => ?_⟩, ?_⟩
  · rw [hl] at hk
    rw [row_set hv]
    by_cases e : k = v
    · simp only [if_pos e]; exact (hu.only hS (hown hu)).retop
    · simp only [if_neg e]; exact ((hR k hk e).only hS (hown (hR k hk e))).retop
  · rw [hl] at hi hj
    by_cases e1 : i = v
    · rw [if_pos e1] at hb
      rw [if_neg (by omega)] at hb'
      exact hul j hj (by omega) b hb hb'
    · rw [if_neg e1] at hb
      by_cases e2 : j = v
      · rw [if_pos e2] at hb'
        exact hul i hi e1 b hb' hb
      · rw [if_neg e2] at hb'
        exact h.rows.apart i j hi hj hne b hb hb'
  · rw [hl] at hi
    by_cases e1 : i = v
    · simp only [if_pos e1] at hb
      intro hb'
      rcases hw with hw | ⟨X, hX, hge⟩
      · rw [hw] at hb; exact h.apart v hv b hb hb'
      · rw [hX] at hb; have := h.ints.top b hb'; simp at hb; omega
    · simp only [if_neg e1] at hb; exact h.apart i hi b hb
  · exact (hg.mono fun b hb => (hVv.own.lt b hb).1).trans (hS.mono fun b hb => by omega)

theorem Half4.rcell {n t g cap v : Nat} {wr : World} {vo : Value} {V : Nat → Value} {O : List Int} {zss : List (List Int)} (h : Half4 n wr t vo (.slice (some ⟨g, 0, none⟩) zss.length cap) V O zss) (hv : v < zss.length) : wr.cell? ⟨g, v, none⟩ = some (V v) ∧ wr.frozen? ⟨g, v, none⟩ = false := by
  have hc := h.rows.own.cellAt v (by omega)
  have hf := h.rows.own.frozenAt v
  refine ⟨?_, hf⟩
  rw [hc]; simp [hv]

theorem own_new (w : World) (x : Int) (hx : Fits x) : OwnInts (w.alloc (.cells #[.int .i64 x] 2)) w.heap.size (w.heap.size + 1) (.slice (some ⟨w.heap.size, 0, none⟩) 1 1) [x] :=
  ⟨⟨by simp, .inr ⟨w.heap.size, 1, _, rfl, Nat.le_refl _, heap_alloc_new w _, Nat.le_refl _, by unfold maxLen; omega, by simp, by simp⟩⟩, fun g hg => by simp [Value.ownBlock] at hg; omega, by simp, fun k hk => by
    have : k = 0 := by simp at hk; omega
    subst this; exact hx⟩

theorem OwnArena.base {w : World} {B B' D : Nat} {v : Value} {O : List Int} {zss : List (List Int)} (h : OwnArena w B D v O zss) (hB : B' ≤ B) : OwnArena w B' D v O zss := by
  obtain ⟨vo, vn, V, hv, h1, h2, h4⟩ := h
  exact ⟨vo, vn, V, hv, h1.base hB, h2.base hB, h4⟩

end

end Go.Proofs.YtphkgnpkcfbnkabDoor
namespace Go.Proofs.YtphkgnpkcfbnkabDoor
section
open Go.RowKit

/-- A struct of three slices that reads as a game. -/
def GameAt (w : World) (v : Value) (O : List Int) (zss : List (List Int)) (P : List Int) : Prop :=
  ∃ ao an ap co cn cp A C, v = .agg #[.slice ao O.length co, .slice an zss.length cn, .slice ap P.length cp] ∧ IntsAt w ao O ∧ RowsAt w an A C zss ∧ IntsAt w ap P

theorem GameAt.below {w w' : World} {v : Value} {O : List Int} {zss : List (List Int)} {P : List Int} (h : GameAt w v O zss P) (hb : Below w.heap.size w w') : GameAt w' v O zss P := by
  obtain ⟨ao, an, ap, co, cn, cp, A, C, hv, h1, h2, h3⟩ := h
  exact ⟨ao, an, ap, co, cn, cp, A, C, hv, h1.below hb, h2.below hb, h3.below hb⟩

/-- All priorities are from 0 to 40. -/
def priosB (P : List Int) : Bool := decide (∀ x ∈ P, 0 ≤ x ∧ x ≤ 40)
/-- A valid game. -/
noncomputable def parityB (O : List Int) (zss : List (List Int)) (P : List Int) : Bool := arenaB O zss && (decide (P.length = O.length) && priosB P)

theorem priosB_yes {P : List Int} (h : ∀ k, k < P.length → 0 ≤ nth P k ∧ nth P k ≤ 40) : priosB P = true := decide_eq_true fun x hx => by
  obtain ⟨k, hk, rfl⟩ := mem_nth.1 hx
  exact h k hk
theorem priosB_no {P : List Int} {k : Nat} (hk : k < P.length) (h : ¬ (0 ≤ nth P k ∧ nth P k ≤ 40)) : priosB P = false := decide_eq_false fun hh => h (hh _ (nth_mem hk))
theorem parityB_iff {O : List Int} {zss : List (List Int)} {P : List Int} : parityB O zss P = true ↔ ArenaP O zss ∧ P.length = O.length ∧ ∀ x ∈ P, 0 ≤ x ∧ x ≤ 40 := by
  unfold parityB priosB
  rw [Bool.and_eq_true, Bool.and_eq_true, arenaB_iff, decide_eq_true_eq, decide_eq_true_eq]

theorem tri3_new (w : World) (T : TypeId) (a b c : Value) : (w.alloc (.cells #[a, b, c] T)).rowIs w.heap.size T 3 (tri a b c) := by
  refine ⟨_, heap_alloc_new w _, by simp, fun j hj => ?_⟩
  have hj3 : j = 0 ∨ j = 1 ∨ j = 2 := by omega
  rcases hj3 with rfl | rfl | rfl <;> rfl

/-- A box of a game. -/
def Box3 (w : World) (g : Nat) (t : TypeId) (a b c : Value) : Prop := w.rowIs g t 3 (tri a b c)
theorem Box3.new (w : World) (T : TypeId) (a b c : Value) : Box3 (w.alloc (.cells #[a, b, c] T)) w.heap.size T a b c := tri3_new w T a b c
theorem Box3.below {w w' : World} {g : Nat} {t : TypeId} {a b c : Value} (h : Box3 w g t a b c) (hb : Below w.heap.size w w') : Box3 w' g t a b c := rowIs_below h hb
theorem Box3.c0 {w : World} {g : Nat} {t : TypeId} {a b c : Value} (h : Box3 w g t a b c) : w.cell? ⟨g, 0, none⟩ = some a := World.rowIs.cell (i := 0) h (by omega)
theorem Box3.c1 {w : World} {g : Nat} {t : TypeId} {a b c : Value} (h : Box3 w g t a b c) : w.cell? ⟨g, 1, none⟩ = some b := World.rowIs.cell (i := 1) h (by omega)
theorem Box3.c2 {w : World} {g : Nat} {t : TypeId} {a b c : Value} (h : Box3 w g t a b c) : w.cell? ⟨g, 2, none⟩ = some c := World.rowIs.cell (i := 2) h (by omega)
theorem Box3.lt {w : World} {g : Nat} {t : TypeId} {a b c : Value} (h : Box3 w g t a b c) : g < w.heap.size := World.rowIs.lt h
end

section
open Go.RowKit

/-- The struct v owns a game. -/
def OwnGame (w : World) (B D : Nat) (v : Value) (O : List Int) (zss : List (List Int)) (P : List Int) : Prop :=
  ∃ vo vn vp V, v = .agg #[vo, vn, vp] ∧ OwnInts w B D vo O ∧ OwnRows w B D vn V zss ∧ OwnInts w B D vp P ∧ (∀ k, k < zss.length → ∀ g, (V k).ownBlock = some g → vo.ownBlock ≠ some g) ∧
    (∀ k, k < zss.length → ∀ g, (V k).ownBlock = some g → vp.ownBlock ≠ some g) ∧ ∀ g, vo.ownBlock = some g → vp.ownBlock ≠ some g

section
variable {w w' : World} {B B' D : Nat} {v : Value} {O P : List Int} {zss : List (List Int)}

theorem OwnGame.at (h : OwnGame w B D v O zss P) : GameAt w v O zss P := by
  obtain ⟨vo, vn, vp, V, rfl, h1, h2, h3, _⟩ := h
  obtain ⟨a, c, rfl, hi, _⟩ := h1.shape
  obtain ⟨a', c', rfl, hr, _⟩ := h2.shape
  obtain ⟨b, d, rfl, hp, _⟩ := h3.shape
  exact ⟨_, _, _, _, _, _, _, _, rfl, hi, hr, hp⟩
theorem OwnGame.only {S : Nat → Prop} (h : OwnGame w B D v O zss P) (hk : Only S w w') (hs : ∀ g, B ≤ g → g < D → ¬ S g) : OwnGame w' B D v O zss P := by
  obtain ⟨vo, vn, vp, V, hv, h1, h2, h3, h4⟩ := h
  refine ⟨vo, vn, vp, V, hv, h1.only hk (fun g hg => hs g (h1.own.lt g hg).1 (h1.top g hg)), h2.only hk (fun g hg => hs g (h2.own.lt g hg).1 (h2.top g hg)) (fun k hk' g hg => hs g ((h2.rows k hk').own.lt g hg).1 ((h2.rows k hk').top g hg)), h3.only hk (fun g hg => hs g (h3.own.lt g hg).1 (h3.top g hg)), h4⟩
theorem OwnGame.below (h : OwnGame w B D v O zss P) (hb : Below w.heap.size w w') : OwnGame w' B D v O zss P := by
  obtain ⟨vo, vn, vp, V, hv, h1, h2, h3, h4⟩ := h
  exact ⟨vo, vn, vp, V, hv, h1.below hb, h2.below hb, h3.below hb, h4⟩
theorem OwnGame.base (h : OwnGame w B D v O zss P) (hB : B' ≤ B) : OwnGame w B' D v O zss P := by
  obtain ⟨vo, vn, vp, V, hv, h1, h2, h3, h4⟩ := h
  exact ⟨vo, vn, vp, V, hv, h1.base hB, h2.base hB, h3.base hB, h4⟩
theorem OwnGame.retop (h : OwnGame w B D v O zss P) : OwnGame w B w.heap.size v O zss P := by
  obtain ⟨vo, vn, vp, V, hv, h1, h2, h3, h4⟩ := h
  exact ⟨vo, vn, vp, V, hv, h1.retop, h2.retop, h3.retop, h4⟩
theorem OwnGame.zero (w : World) (B D : Nat) : OwnGame w B D (.agg #[.slice none 0 0, .slice none 0 0, .slice none 0 0]) [] [] [] :=
  ⟨_, _, _, _, rfl, OwnInts.nil _ _ _, OwnRows.nil _ _ _, OwnInts.nil _ _ _, fun k hk => absurd hk (by simp), fun k hk => absurd hk (by simp), fun g hg => by simp [Value.ownBlock] at hg⟩
theorem OwnGame.shape (h : OwnGame w B D v O zss P) : ∃ a0 c0 a1 c1 a2 c2, v = .agg #[.slice a0 O.length c0, .slice a1 zss.length c1, .slice a2 P.length c2] := by
  obtain ⟨ao, an, ap, co, cn, cp, A, C, hv, _⟩ := h.at
  exact ⟨_, _, _, _, _, _, hv⟩
/-- The arena of a game of one's own. -/
theorem OwnGame.arena {vo vn vp : Value} (h : OwnGame w B D (.agg #[vo, vn, vp]) O zss P) : OwnArena w B D (.agg #[vo, vn]) O zss ∧ OwnInts w B D vp P := by
  obtain ⟨vo', vn', vp', V, hv, h1, h2, h3, h4, _⟩ := h
  cases hv
  exact ⟨⟨_, _, V, rfl, h1, h2, h4⟩, h3⟩
/-- An arena and a slice of numbers, of one's own, one made behind the other. -/
theorem OwnGame.of_parts {vo vn vp : Value} {M : Nat} (h : OwnArena w B M (.agg #[vo, vn]) O zss) (hp : OwnInts w M D vp P) (hBM : B ≤ M) (hMD : M ≤ D) : OwnGame w B D (.agg #[vo, vn, vp]) O zss P := by
  obtain ⟨vo', vn', V, hv, h1, h2, h4⟩ := h
  cases hv
  refine ⟨_, _, _, V, rfl, ⟨h1.own, fun g hg => by have := h1.top g hg; omega, h1.len, h1.fits⟩, ⟨h2.own, fun g hg => by have := h2.top g hg; omega, h2.len, fun k hk => ?_, h2.apart⟩, hp.base hBM, h4, fun k hk g hg hh => ?_, fun g hg hh => ?_⟩
  · have h := h2.rows k hk
    exact ⟨h.own, fun g hg => by have := h.top g hg; omega, h.len, h.fits⟩
  · have := (h2.rows k hk).top g hg
    have := (hp.own.lt g hh).1
    omega
  · have := h1.top g hg
    have := (hp.own.lt g hh).1
    omega
end

/-- A call hands back a game of its own. -/
def GivesGame (w : World) (O : List Int) (zss : List (List Int)) (P : List Int) (e : Ending) (w' : World) : Prop :=
  ∃ v, e = .returned v ∧ OwnGame w' w.heap.size w'.heap.size v O zss P ∧ Below w.heap.size w w'
/-- A call hands back a game of its own and a bool. -/
def GivesGameB (w : World) (O : List Int) (zss : List (List Int)) (P : List Int) (r : Bool) (e : Ending) (w' : World) : Prop :=
  ∃ v, e = .returned (.tuple #[v, .bool r]) ∧ OwnGame w' w.heap.size w'.heap.size v O zss P ∧ Below w.heap.size w w'

theorem zero_stored3 {w wr : World} {r : Nat} (hb : Below w.heap.size w wr) (hr : w.heap.size ≤ r) : Below w.heap.size w (((wr.setCell ⟨r, 0, none⟩ (.slice none 0 0)).setCell ⟨r, 1, none⟩ (.slice none 0 0)).setCell ⟨r, 2, none⟩ (.slice none 0 0)) :=
  ((hb.setCell (p := ⟨r, 0, none⟩) hr _).setCell (p := ⟨r, 1, none⟩) hr _).setCell (p := ⟨r, 2, none⟩) hr _
end

section
open Go.RowKit

theorem game_row {w : World} {b n B size m : Nat} {t e : TypeId} {f : Nat → Value} {v : Value} {xs : List Value} (h : w.rowIs b t n f) (ho : w.ownsRow B e size v m xs) (hte : e ≠ t) : v.ownBlock ≠ some b := by
  intro hb
  obtain ⟨c, hc, _⟩ := h
  rcases ho.2 with ⟨rfl, _⟩ | ⟨g, _, _, rfl, _, h1, _⟩
  · simp [Value.ownBlock] at hb
  · simp [Value.ownBlock] at hb
    subst hb
    rw [hc] at h1
    simp at h1
    exact hte h1.2.symm
theorem game_grown {w w1 : World} {b n B size m : Nat} {t e : TypeId} {f : Nat → Value} {v : Value} {xs : List Value} (h : w.rowIs b t n f) (ho : w.ownsRow B e size v m xs) (hte : e ≠ t) (hg : w.grownBy w1 v.ownBlock) : w1.rowIs b t n f :=
  rowIs_only h (Only.of_grown hg) (fun hb => game_row h ho hte hb)
theorem tri_set0 {a b c d : Value} : ∀ i, i < 3 → (if i = 0 then d else tri a b c i) = tri d b c i := fun i hi => by
  by_cases h : i = 0 <;> simp [tri, h]
/-- t: the game that grows, with the owners vo, the rows vn (row k is V k) and the priorities vp, all from block n on. -/
structure Half5 (n : Nat) (wr : World) (t : Nat) (vo vn vp : Value) (V : Nat → Value) (O : List Int) (zss : List (List Int)) (P : List Int) : Prop where
  base : n ≤ t
  str : wr.rowIs t 32 3 (tri vo vn vp)
  ints : OwnInts wr n wr.heap.size vo O
  rows : OwnRows wr n wr.heap.size vn V zss
  prio : OwnInts wr n wr.heap.size vp P
  apart : ∀ i, i < zss.length → ∀ g, (V i).ownBlock = some g → vo.ownBlock ≠ some g
  app : ∀ i, i < zss.length → ∀ g, (V i).ownBlock = some g → vp.ownBlock ≠ some g
  apo : ∀ g, vo.ownBlock = some g → vp.ownBlock ≠ some g

section
variable {n t : Nat} {wr wr' w1 : World} {vo vn vp : Value} {V : Nat → Value} {O P : List Int} {zss : List (List Int)}

theorem Half5.only {S : Nat → Prop} (h : Half5 n wr t vo vn vp V O zss P) (hk : Only S wr wr') (hs : ∀ b, S b → b < n) : Half5 n wr' t vo vn vp V O zss P :=
  ⟨h.base, rowIs_only h.str hk (fun e => by have := hs _ e; have := h.base; omega), (h.ints.only hk (fun g hg e => by have := hs _ e; have := (h.ints.own.lt g hg).1; omega)).retop,
    (h.rows.only hk (fun g hg e => by have := hs _ e; have := (h.rows.own.lt g hg).1; omega) (fun k hk' g hg e => by have := hs _ e; have := ((h.rows.rows k hk').own.lt g hg).1; omega)).retop,
    (h.prio.only hk (fun g hg e => by have := hs _ e; have := (h.prio.own.lt g hg).1; omega)).retop, h.apart, h.app, h.apo⟩
theorem Half5.keep (h : Half5 n wr t vo vn vp V O zss P) (hb : Below wr.heap.size wr wr') : Half5 n wr' t vo vn vp V O zss P :=
  h.only (S := fun _ => False) (Only.of_below hb) (fun _ h => h.elim)

/-- A cell of the game's box is written: the rest stays. -/
theorem Half5.ints_set (hT : wr.rowIs t 32 3 (tri vo vn vp)) {u : Value} {zs : List Int} (h : OwnInts wr n wr.heap.size u zs) (i : Nat) (x : Value) : OwnInts (wr.setCell ⟨t, i, none⟩ x) n (wr.setCell ⟨t, i, none⟩ x).heap.size u zs :=
  (h.only ((Only.refl (fun b => b = t) wr).setCell (p := ⟨t, i, none⟩) rfl x) (fun g hg e => game_row hT h.own (by decide) (by rw [hg, e]))).retop
theorem Half5.rows_set (hT : wr.rowIs t 32 3 (tri vo vn vp)) {u : Value} (h : OwnRows wr n wr.heap.size u V zss) (i : Nat) (x : Value) : OwnRows (wr.setCell ⟨t, i, none⟩ x) n (wr.setCell ⟨t, i, none⟩ x).heap.size u V zss :=
  (h.only ((Only.refl (fun b => b = t) wr).setCell (p := ⟨t, i, none⟩) rfl x) (fun g hg e => game_row hT h.own (by decide) (by rw [hg, e])) (fun k hk g hg e => game_row hT (h.rows k hk).own (by decide) (by rw [hg, e]))).retop

theorem Half5.owner {gg cap : Nat} {x : Int} (h : Half5 n wr t vo vn vp V O zss P) (hl : O.length ≤ 1048576) (hx : Fits x)
    (hown1 : w1.ownsRow n 2 1 (.slice (some ⟨gg, 0, none⟩) (O.length + 1) cap) (O.length + 1) (O.map (Value.int .i64) ++ [.int .i64 x])) (hgrow : wr.grownBy w1 vo.ownBlock) (hat : vo.ownBlock = some gg ∨ wr.heap.size ≤ gg) :
    Half5 n (w1.setCell ⟨t, 0, none⟩ (.slice (some ⟨gg, 0, none⟩) (O.length + 1) cap)) t (.slice (some ⟨gg, 0, none⟩) (O.length + 1) cap) vn vp V (O ++ [x]) zss P ∧
      Only (fun b => n ≤ b) wr (w1.setCell ⟨t, 0, none⟩ (.slice (some ⟨gg, 0, none⟩) (O.length + 1) cap)) := by
  have hown := h.ints.own
  have hT1 := game_grown h.str hown (by decide) hgrow
  have hI : OwnInts w1 n w1.heap.size (.slice (some ⟨gg, 0, none⟩) (O.length + 1) cap) (O ++ [x]) := h.ints.snoc hx hl hown1
  have hR := (h.rows.only (Only.of_grown hgrow) (fun g h1 h2 => own_types h.rows.own hown g h1 h2) (fun k hk g h1 h2 => h.apart k hk g h1 h2)).retop
  have hP := (h.prio.only (Only.of_grown hgrow) (fun g h1 h2 => h.apo g h2 h1)).retop
  have hS : Only (fun b => b = t) w1 (w1.setCell ⟨t, 0, none⟩ (.slice (some ⟨gg, 0, none⟩) (O.length + 1) cap)) := Box2.set0_only _
  refine ⟨⟨h.base, (hT1.set 0 _).congr tri_set0, Half5.ints_set hT1 hI 0 _, Half5.rows_set hT1 hR 0 _, Half5.ints_set hT1 hP 0 _, fun i hi g hg hh => ?_, h.app, fun g hg hh => ?_⟩, ?_⟩
  · simp [Value.ownBlock] at hh
    subst hh
    rcases hat with h' | h'
    · exact h.apart i hi _ hg h'
    · have := (h.rows.rows i hi).top _ hg
      omega
  · simp [Value.ownBlock] at hg
    subst hg
    rcases hat with h' | h'
    · exact h.apo _ h' hh
    · have := h.prio.top _ hh
      omega
  · exact ((Only.of_grown hgrow).mono fun b hb => (hown.lt b hb).1).trans (hS.mono fun b hb => by rw [hb]; exact h.base)

theorem Half5.push {gg cap : Nat} {u : Value} {zs : List Int} {B D : Nat} (h : Half5 n wr t vo vn vp V O zss P) (hl : zss.length ≤ 1048576)
    (hu : OwnInts wr B D u zs) (hB : n ≤ B) (hapu : ∀ i, i < zss.length → ∀ g, u.ownBlock = some g → (V i).ownBlock ≠ some g) (hvu : ∀ g, u.ownBlock = some g → vo.ownBlock ≠ some g) (hpu : ∀ g, u.ownBlock = some g → vp.ownBlock ≠ some g)
    (hown3 : w1.ownsRow n 22 1 (.slice (some ⟨gg, 0, none⟩) (zss.length + 1) cap) (zss.length + 1) ((List.range zss.length).map V ++ [u])) (hgrow : wr.grownBy w1 vn.ownBlock) :
    Half5 n (w1.setCell ⟨t, 1, none⟩ (.slice (some ⟨gg, 0, none⟩) (zss.length + 1) cap)) t vo (.slice (some ⟨gg, 0, none⟩) (zss.length + 1) cap) vp (fun i => if i = zss.length then u else V i) O (zss ++ [zs]) P ∧
      Only (fun b => n ≤ b) wr (w1.setCell ⟨t, 1, none⟩ (.slice (some ⟨gg, 0, none⟩) (zss.length + 1) cap)) := by
  have hown := h.rows.own
  have hT3 := game_grown h.str hown (by decide) hgrow
  have hvo3 : OwnInts w1 n w1.heap.size vo O := (h.ints.only (Only.of_grown hgrow) (fun g h1 h2 => own_types hown h.ints.own g h2 h1)).retop
  have hvp3 : OwnInts w1 n w1.heap.size vp P := (h.prio.only (Only.of_grown hgrow) (fun g h1 h2 => own_types hown h.prio.own g h2 h1)).retop
  have hrows := (h.rows.push (w1 := w1) (hu.base hB) (fun i hi g h1 h3 => hapu i hi g h1 h3) hown3 (Only.of_grown hgrow) (by omega)).retop
  have hS : Only (fun b => b = t) w1 (w1.setCell ⟨t, 1, none⟩ (.slice (some ⟨gg, 0, none⟩) (zss.length + 1) cap)) := Box2.set1_only _
  refine ⟨⟨h.base, (hT3.set 1 _).congr tri_set1, Half5.ints_set hT3 hvo3 1 _, Half5.rows_set hT3 hrows 1 _, Half5.ints_set hT3 hvp3 1 _, fun i hi g hg => ?_, fun i hi g hg => ?_, h.apo⟩, ?_⟩
  · by_cases e : i = zss.length
    · subst e
      simp only [if_true] at hg
      exact hvu g hg
    · simp only [if_neg e] at hg
      exact h.apart i (by simp at hi; omega) g hg
  · by_cases e : i = zss.length
    · subst e
      simp only [if_true] at hg
      exact hpu g hg
    · simp only [if_neg e] at hg
      exact h.app i (by simp at hi; omega) g hg
  · exact ((Only.of_grown hgrow).mono fun b hb => (hown.lt b hb).1).trans (hS.mono fun b hb => by rw [hb]; exact h.base)

end

/-- The game that has grown. -/
theorem Half5.game {n t : Nat} {wr : World} {vo vn vp : Value} {V : Nat → Value} {O P : List Int} {zss : List (List Int)} (h : Half5 n wr t vo vn vp V O zss P) : OwnGame wr n wr.heap.size (.agg #[vo, vn, vp]) O zss P :=
  ⟨_, _, _, V, rfl, h.ints, h.rows, h.prio, h.apart, h.app, h.apo⟩
end

end Go.Proofs.YtphkgnpkcfbnkabDoor
namespace Go.Proofs.YtphkgnpkcfbnkabDoor
open Go.RowKit

theorem rowIs_not_own {w : World} {b n B size m : Nat} {t e : TypeId} {f : Nat → Value} {v : Value} {xs : List Value} (h : w.rowIs b t n f) (ho : w.ownsRow B e size v m xs) (hte : e ≠ t) : v.ownBlock ≠ some b := by
  intro hb
  obtain ⟨c, hc, _⟩ := h
  rcases ho.2 with ⟨rfl, _⟩ | ⟨g, _, _, rfl, _, h1, _⟩
  · simp [Value.ownBlock] at hb
  · simp [Value.ownBlock] at hb
    subst hb
    rw [hc] at h1
    simp at h1
    exact hte h1.2.symm

/-- Row j of far, where it is wanted. -/
def FarAt (wr : World) (n N k : Nat) (I : Nat → Bool) (f : Nat → Nat → Bool) (V : Nat → Value) : Prop :=
  ∀ j, j < k → I j = true → ∃ b, V j = .slice (some ⟨b, 0, none⟩) N N ∧ n ≤ b ∧ wr.rowIs b 4 N (marksV (f j))

theorem FarAt.only {wr w' : World} {n N k : Nat} {I : Nat → Bool} {f : Nat → Nat → Bool} {V : Nat → Value} {S : Nat → Prop} (h : FarAt wr n N k I f V) (hk : Only S wr w') (hs : ∀ b c, wr.rowIs b 4 N c → ¬ S b) : FarAt w' n N k I f V := fun j hj hI => by
  obtain ⟨b, h1, h2, h3⟩ := h j hj hI
  exact ⟨b, h1, h2, rowIs_only h3 hk (hs b _ h3)⟩

end Go.Proofs.YtphkgnpkcfbnkabDoor
