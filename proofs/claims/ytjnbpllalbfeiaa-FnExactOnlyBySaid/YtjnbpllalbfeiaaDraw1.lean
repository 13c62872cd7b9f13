/-
  Contracts of chapter 2 that need no new memory: sets, members; and what a set parts into.
-/
import Derived.Test.YtjnbpllalbfeiaaBase1
import Derived.Test.YtjnbpllalbfeiaaWalks1
namespace Go.Proofs.Ytjnbpllalbfeiaa
section
section
open Go.RowKit

/-- What SetOk says. -/
def setOk (n : Int) (zs : List Int) : Bool := inB n 0 256 && setB n zs

theorem setOk_yes {n : Int} {zs : List Int} (h : 0 ≤ n ∧ n ≤ 256) : setOk n zs = setB n zs := by unfold setOk; rw [inB_yes h.1 h.2]; rfl
theorem setOk_no {n : Int} {zs : List Int} (h : n < 0 ∨ 256 < n) : setOk n zs = false := by unfold setOk; rw [inB_no h]; rfl

/-- What HasIn says. -/
def hasIn (zs : List Int) (x : Int) : Bool := setB 256 zs && hasB zs x

theorem setOk_256 {zs : List Int} : setOk 256 zs = setB 256 zs := setOk_yes ⟨by decide, by decide⟩

/-- Both are sets of numbers from 0 to 255. -/
def bothOk (S T : List Int) : Bool := setB 256 S && setB 256 T

end

section
open Go.RowKit

theorem all_rows {p : List Int → Bool} {zss : List (List Int)} : zss.all p = true ↔ ∀ j, j < zss.length → p (row zss j) = true := by
  rw [List.all_eq_true]
  constructor
  · intro h j hj; rw [row_eq hj]; exact h _ (List.getElem_mem _)
  · intro h z hz
    obtain ⟨j, hj, rfl⟩ := List.mem_iff_getElem.1 hz
    rw [← row_eq hj]; exact h j hj

theorem rows_two {w : World} {a a' : Option Addr} {S T : List Int} {cs ct : Nat} (h : IntsAt w a S) (h' : IntsAt w a' T) :
    RowsAt (w.alloc (.cells #[.slice a S.length cs, .slice a' T.length ct] 22)) (some ⟨w.heap.size, 0, none⟩) (fun k => if k = 0 then a else a') (fun k => if k = 0 then cs else ct) [S, T] := by
  have hb := Box2.new w 22 (.slice a S.length cs) (.slice a' T.length ct)
  refine ⟨by simp, fun _ => ⟨_, 0, rfl, fun k hk => ?_⟩, fun k hk => ?_⟩
  · match k with
    | 0 => exact hb.cell0
    | 1 => exact hb.cell1
    | k + 2 => exact absurd hk (by simp)
  · match k with
    | 0 => exact h.alloc _
    | 1 => exact h'.alloc _
    | k + 2 => exact absurd hk (by simp)

theorem rows_one {w : World} {a : Option Addr} {S : List Int} {cs : Nat} (h : IntsAt w a S) :
    RowsAt (w.alloc (.cells #[.slice a S.length cs] 22)) (some ⟨w.heap.size, 0, none⟩) (fun _ => a) (fun _ => cs) [S] := by
  refine ⟨by simp, fun _ => ⟨_, 0, rfl, fun k hk => ?_⟩, fun k hk => ?_⟩
  · match k with
    | 0 =>
      have h0 := heap_alloc_new w (.cells #[.slice a S.length cs] 22)
      simp only [World.cell?, h0, row]
      rfl
    | k + 1 => exact absurd hk (by simp)
  · match k with
    | 0 => exact h.alloc _
    | k + 1 => exact absurd hk (by simp)

/-- What p picks of the first k elements. -/
def partK (p : Int → Bool) (S : List Int) : Nat → List Int
  | 0 => []
  | k + 1 => partK p S k ++ if p (nth S k) then [nth S k] else []

theorem partK_filter (p : Int → Bool) (S : List Int) : ∀ k, k ≤ S.length → partK p S k = (S.take k).filter p
  | 0, _ => rfl
  | k + 1, h => by
    rw [partK, partK_filter p S k (by omega), List.take_add_one, List.filter_append, nth_eq (by omega)]
    rw [List.getElem?_eq_getElem (by omega)]
    simp [List.filter_cons]
theorem partK_all (p : Int → Bool) (S : List Int) : partK p S S.length = S.filter p := by rw [partK_filter p S _ (Nat.le_refl _), List.take_length]
theorem partK_len (p : Int → Bool) (S : List Int) (k : Nat) : (partK p S k).length ≤ k := by
  induction k with
  | zero => simp [partK]
  | succ k ih => simp only [partK]; split <;> simp <;> omega
theorem filter_fits {S : List Int} (p : Int → Bool) (h : ∀ k, k < S.length → Fits (nth S k)) : ∀ k, k < (S.filter p).length → Fits (nth (S.filter p) k) := fun k hk => by
  have hm := (List.mem_filter.1 (nth_mem hk)).1
  obtain ⟨j, hj, e⟩ := mem_nth.1 hm
  rw [← e]; exact h j hj

/-- Who is in T; who isn't. -/
def inT (T : List Int) : Int → Bool := fun x => hasB T x
def outT (T : List Int) : Int → Bool := fun x => !hasB T x

/-- A row of one's own, that grows. -/
structure Grows (w wr : World) (v : Value) (zs : List Int) : Prop where
  own : wr.ownsRow w.heap.size 2 1 v zs.length (zs.map (Value.int .i64))

/-- What MeetOf, LessOf and PartIn say. -/
def meetL (S T : List Int) : List Int := if bothOk S T then S.filter (inT T) else []
def lessL (S T : List Int) : List Int := if bothOk S T then S.filter (outT T) else []
def partB (S T : List Int) : Bool := bothOk S T && decide ((S.filter (outT T)).length = 0)

theorem both_sets {S T : List Int} (h : bothOk S T = true) : setB 256 S = true ∧ setB 256 T = true := by simpa [bothOk] using h
theorem both_len {S T : List Int} (h : bothOk S T = true) : S.length ≤ 256 := by have := setB_len (by decide) (both_sets h).1; omega

end
end

section
section
open Go.RowKit

/-- How many elements stand ahead of x. -/
def lowK : List Int → Int → Nat
  | [], _ => 0
  | z :: r, x => if z < x then lowK r x + 1 else 0

theorem lowK_at : ∀ (zs : List Int) (x : Int) (k : Nat), k ≤ zs.length → (∀ j, j < k → nth zs j < x) → (k < zs.length → ¬ nth zs k < x) → lowK zs x = k
  | [], _, k, hk, _, _ => by simp at hk; subst hk; rfl
  | z :: r, x, 0, _, _, h => by
    have h0 : ¬ z < x := by simpa [nth] using h (by simp)
    simp [lowK, h0]
  | z :: r, x, k + 1, hk, hl, h => by
    have h0 : z < x := by simpa [nth] using hl 0 (by omega)
    have ih := lowK_at r x k (by simpa using hk) (fun j hj => by simpa [nth] using hl (j + 1) (by omega)) (fun hj => by simpa [nth] using h (by simpa using hj))
    simp [lowK, h0, ih]

/-- What l1Into hands back. -/
def intoL (zs : List Int) (x : Int) : List Int := if lowK zs x < zs.length ∧ nth zs (lowK zs x) = x then zs else zs.take (lowK zs x) ++ x :: zs.drop (lowK zs x)

theorem intoL_same {zs : List Int} {x : Int} {k : Nat} (hk : k < zs.length) (hl : ∀ j, j < k → nth zs j < x) (h : nth zs k = x) : intoL zs x = zs := by
  have e := lowK_at zs x k (by omega) hl (fun _ => by omega)
  unfold intoL; rw [e, if_pos ⟨hk, h⟩]
theorem intoL_new {zs : List Int} {x : Int} {k : Nat} (hk : k ≤ zs.length) (hl : ∀ j, j < k → nth zs j < x) (h : k < zs.length → x < nth zs k) : intoL zs x = zs.take k ++ x :: zs.drop k := by
  have e := lowK_at zs x k hk hl (fun hk => by have := h hk; omega)
  unfold intoL; rw [e, if_neg (fun ⟨h1, h2⟩ => by have := h h1; omega)]
theorem intoL_len (zs : List Int) (x : Int) : (intoL zs x).length ≤ zs.length + 1 := by
  unfold intoL; split
  · omega
  · simp; omega
theorem intoL_mem {zs : List Int} {x y : Int} : y ∈ intoL zs x ↔ y ∈ zs ∨ y = x := by
  unfold intoL; split
  · rename_i h
    constructor
    · exact Or.inl
    · rintro (h1 | rfl)
      · exact h1
      · rw [← h.2]; exact nth_mem h.1
  · have : y ∈ zs ↔ y ∈ zs.take (lowK zs x) ∨ y ∈ zs.drop (lowK zs x) := by
      rw [← List.mem_append, List.take_append_drop]
    rw [List.mem_append, List.mem_cons, this]
    constructor
    · rintro (h | rfl | h)
      · exact .inl (.inl h)
      · exact .inr rfl
      · exact .inl (.inr h)
    · rintro ((h | h) | rfl)
      · exact .inl h
      · exact .inr (.inr h)
      · exact .inr (.inl rfl)
theorem intoL_fits {zs : List Int} {x : Int} (h : ∀ k, k < zs.length → Fits (nth zs k)) (hx : Fits x) : ∀ k, k < (intoL zs x).length → Fits (nth (intoL zs x) k) := fun k hk => by
  rcases intoL_mem.1 (nth_mem hk) with hm | e
  · obtain ⟨j, hj, e⟩ := mem_nth.1 hm
    rw [← e]; exact h j hj
  · rw [e]; exact hx

theorem IntsAt.take {w : World} {a : Option Addr} {zs : List Int} (h : IntsAt w a zs) (k : Nat) (hk : k ≤ zs.length) : IntsAt w a (zs.take k) := by
  have hl : (zs.take k).length = k := by simp; omega
  have hn : ∀ j, j < k → nth (zs.take k) j = nth zs j := fun j hj => by simp [nth, hj]
  refine ⟨by rw [hl]; have := h.len; omega, fun j hj => ?_, fun h0 => ?_⟩
  · rw [hl] at hj; rw [hn j hj]; exact h.fits j (by omega)
  · rw [hl] at h0
    obtain ⟨b, off, ha, hc⟩ := h.cell (by omega)
    exact ⟨b, off, ha, fun j hj => by rw [hl] at hj; rw [hn j hj]; exact hc j (by omega)⟩

theorem news_drop {w : World} {g : Nat} {zs : List Int} (h : IntsAt w (some ⟨g, 0, none⟩) zs) (k : Nat) : ∀ j u, ((zs.drop k).map (Value.int .i64))[j]? = some u → w.cell? ((⟨g, k, none⟩ : Addr).add j) = some u := by
  intro j u hu
  have hj : j < (zs.drop k).length := by
    rcases Nat.lt_or_ge j (zs.drop k).length with h | h
    · exact h
    · simp only [List.getElem?_map, List.getElem?_eq_none h] at hu; cases hu
  have hl : (zs.drop k).length = zs.length - k := List.length_drop
  obtain ⟨b, off, ha, hc⟩ := h.cell (by omega)
  cases ha
  have hcj := hc (k + j) (by omega)
  rw [Nat.zero_add] at hcj
  rw [Go.WideShapes.add_plain, hcj]
  rw [List.getElem?_map, List.getElem?_eq_getElem hj] at hu
  rw [← hu]
  have : (zs.drop k)[j] = nth zs (k + j) := by rw [List.getElem_drop, nth_eq (by omega)]
  rw [this]; rfl

theorem into_own {w : World} {B k : Nat} {v : Value} {zs : List Int} {x : Int} (hk : k ≤ zs.length) (h : w.ownsRow B 2 1 v (k + 1 + (zs.length - k)) (List.take k (zs.map (Value.int .i64)) ++ .int .i64 x :: List.drop k (zs.map (Value.int .i64)))) :
    w.ownsRow B 2 1 v (zs.take k ++ x :: zs.drop k).length ((zs.take k ++ x :: zs.drop k).map (Value.int .i64)) := by
  have e : (zs.take k ++ x :: zs.drop k).length = k + 1 + (zs.length - k) := by simp; omega
  rw [e]
  simpa using h

/-- A slice of the call's own, that gives way to another one. -/
def GivesOwn (w : World) (B : Nat) (zs : List Int) (e : Ending) (w' : World) : Prop :=
  ∃ u, e = .returned u ∧ OwnInts w' B w'.heap.size u zs ∧ Below w.heap.size w w'

end

section
open Go.RowKit

/-- The bytes of a slice. -/
structure BytesAt (w : World) (a : Option Addr) (bs : List Int) : Prop where
  len : bs.length ≤ 140737488355328
  byt : ∀ k, k < bs.length → ∃ b off, a = some ⟨b, off, none⟩ ∧ w.cell? ⟨b, off + k, none⟩ = some (.int .u8 (nth bs k)) ∧ 0 ≤ nth bs k ∧ nth bs k ≤ 255

theorem Only.new {S T : Nat → Prop} {a b c : World} (h : Only S a b) (k : Only T b c) (ht : ∀ x, T x → S x ∨ a.heap.size ≤ x) : Only S a c :=
  ⟨k.os.trans h.os, k.tape.trans h.tape, k.output.trans h.output, Nat.le_trans h.size k.size, fun i hi hs => (k.block i (Nat.lt_of_lt_of_le hi h.size) (fun hT => by
    rcases ht i hT with h1 | h1
    · exact hs h1
    · omega)).trans (h.block i hi hs)⟩

/-- A literal row. -/
theorem ints_new (w : World) (t : TypeId) (L : List Int) (hl : L.length ≤ 4096) (hf : ∀ z ∈ L, Fits z) : IntsAt (w.alloc (.cells (L.map (Value.int .i64)).toArray t)) (some ⟨w.heap.size, 0, none⟩) L :=
  ⟨by omega, fun k hk => hf _ (nth_mem hk), fun _ => ⟨_, 0, rfl, fun k hk => by
    have h0 := heap_alloc_new w (.cells (L.map (Value.int .i64)).toArray t)
    simp only [World.cell?, h0, Nat.zero_add]
    simp [hk, nth_eq hk]⟩⟩

theorem IntsAt.only {w w' : World} {S : Nat → Prop} {b : Nat} {zs : List Int} (h : IntsAt w (some ⟨b, 0, none⟩) zs) (hk : Only S w w') (hb : b < w.heap.size) (hs : ¬ S b) : IntsAt w' (some ⟨b, 0, none⟩) zs :=
  ⟨h.len, h.fits, fun h0 => by
    obtain ⟨b', off, ha, hc⟩ := h.cell h0
    cases ha
    exact ⟨b, 0, rfl, fun k hk' => by
      rw [World.cell?_of_block (w := w) (hk.block b hb hs)]
      exact hc k hk'⟩⟩

theorem OwnInts.snoc {w : World} {B D : Nat} {v v' : Value} {zs : List Int} {x : Int} {w' : World} (h : OwnInts w B D v zs) (hx : Fits x) (hl : zs.length ≤ 1048576) (ho : w'.ownsRow B 2 1 v' (zs.length + 1) (zs.map (Value.int .i64) ++ [.int .i64 x])) : OwnInts w' B w'.heap.size v' (zs ++ [x]) := by
  refine OwnInts.mk' (by simpa using ho) (by simp; omega) fun k hk => ?_
  have hm := nth_mem hk
  generalize nth (zs ++ [x]) k = y at hm
  rcases List.mem_append.1 hm with hm | hm
  · obtain ⟨j, hj, e⟩ := mem_nth.1 hm
    rw [← e]; exact h.fits j hj
  · simp at hm; rw [hm]; exact hx

end
end

section
open Go.RowKit

/-- What AllOf says. -/
def allL (n : Int) : List Int := if 0 ≤ n ∧ n ≤ 256 then upL n.toNat else []

theorem allL_yes {n : Nat} (h : n ≤ 256) : allL (n : Int) = upL n := by unfold allL; rw [if_pos ⟨by omega, by omega⟩]; simp
theorem allL_no {n : Int} (h : ¬ (0 ≤ n ∧ n ≤ 256)) : allL n = [] := by unfold allL; rw [if_neg h]
theorem upL_succ (k : Nat) : upL (k + 1) = upL k ++ [(k : Int)] := by simp [upL, List.range_succ]
theorem upL_fits {n : Nat} (h : n ≤ 1048576) : ∀ k, k < (upL n).length → Fits (nth (upL n) k) := fun k hk => by
  rw [upL_len] at hk; rw [upL_nth hk]; unfold Fits; omega

end

section
open Go.RowKit

theorem allL_len (n : Int) : (allL n).length ≤ 256 := by
  unfold allL
  split
  · rw [upL_len]; omega
  · simp

/-- Two slices of one's own. -/
def GivesTwo (w : World) (e : Ending) (w' : World) : Prop :=
  ∃ u v S T, e = .returned (.tuple #[u, v]) ∧ OwnInts w' w.heap.size w'.heap.size u S ∧ OwnInts w' w.heap.size w'.heap.size v T ∧ S.length ≤ 301 ∧ T.length ≤ 301 ∧ Below w.heap.size w w'

section
open Go.RowKit
theorem BytesAt.below {w w' : World} {a : Option Addr} {bs : List Int} (h : BytesAt w a bs) (hb : Below w.heap.size w w') : BytesAt w' a bs :=
  ⟨h.len, fun k hk => by
    obtain ⟨b, off, h1, h2, h3⟩ := h.byt k hk
    exact ⟨b, off, h1, Below.cell_some (B := 0) hb rfl h2, h3⟩⟩
end
end

section
open Go.RowKit

/-- t: the struct that grows, with the owners vo and the rows vn (row k is V k), all from block n on. -/
structure Half4 (n : Nat) (wr : World) (t : Nat) (vo vn : Value) (V : Nat → Value) (O : List Int) (zss : List (List Int)) : Prop where
  base : n ≤ t
  str : Box2 wr t 29 vo vn
  ints : OwnInts wr n wr.heap.size vo O
  rows : OwnRows wr n wr.heap.size vn V zss
  apart : ∀ i, i < zss.length → ∀ g, (V i).ownBlock = some g → vo.ownBlock ≠ some g

theorem Half4.only {n t : Nat} {wr wr' : World} {vo vn : Value} {V : Nat → Value} {O : List Int} {zss : List (List Int)} {S : Nat → Prop} (h : Half4 n wr t vo vn V O zss) (hk : Only S wr wr') (hs : ∀ b, S b → b < n) : Half4 n wr' t vo vn V O zss :=
  ⟨h.base, h.str.only hk (fun e => by have := hs _ e; have := h.base; omega), (h.ints.only hk (fun g hg e => by have := hs _ e; have := (h.ints.own.lt g hg).1; omega)).retop,
    (h.rows.only hk (fun g hg e => by have := hs _ e; have := (h.rows.own.lt g hg).1; omega) (fun k hk' g hg e => by have := hs _ e; have := ((h.rows.rows k hk').own.lt g hg).1; omega)).retop, h.apart⟩
theorem Half4.keep {n t : Nat} {wr wr' : World} {vo vn : Value} {V : Nat → Value} {O : List Int} {zss : List (List Int)} (h : Half4 n wr t vo vn V O zss) (hb : Below wr.heap.size wr wr') : Half4 n wr' t vo vn V O zss :=
  h.only (S := fun _ => False) (Only.of_below hb) (fun _ h => h.elim)

theorem Half4.owner {n t gg cap : Nat} {wr w1 : World} {vo vn : Value} {V : Nat → Value} {O : List Int} {x : Int} {zss : List (List Int)} (h : Half4 n wr t vo vn V O zss) (hl : O.length ≤ 1048576) (hx : Fits x)
    (hown1 : w1.ownsRow n 2 1 (.slice (some ⟨gg, 0, none⟩) (O.length + 1) cap) (O.length + 1) (O.map (Value.int .i64) ++ [.int .i64 x])) (hgrow : wr.grownBy w1 vo.ownBlock) (hat : vo.ownBlock = some gg ∨ wr.heap.size ≤ gg) :
    Half4 n (w1.setCell ⟨t, 0, none⟩ (.slice (some ⟨gg, 0, none⟩) (O.length + 1) cap)) t (.slice (some ⟨gg, 0, none⟩) (O.length + 1) cap) vn V (O ++ [x]) zss ∧
      Only (fun b => n ≤ b) wr (w1.setCell ⟨t, 0, none⟩ (.slice (some ⟨gg, 0, none⟩) (O.length + 1) cap)) := by
  have hown := h.ints.own
  have hT1 := h.str.grown hown (by decide) hgrow
  have hI : OwnInts w1 n w1.heap.size (.slice (some ⟨gg, 0, none⟩) (O.length + 1) cap) (O ++ [x]) := h.ints.snoc hx hl hown1
  have hR := h.rows.only (Only.of_grown hgrow) (fun g h1 h2 => own_types h.rows.own hown g h1 h2) (fun k hk g h1 h2 => h.apart k hk g h1 h2)
  have hS := Box2.set0_only (w := w1) (t := t) (.slice (some ⟨gg, 0, none⟩) (O.length + 1) cap)
  refine ⟨⟨h.base, hT1.set0 _, (hI.only hS (fun g hg e => hT1.not_own hI.own (by decide) (by rw [hg, e]))).retop, (hR.only hS (fun g hg e => hT1.not_own hR.own (by decide) (by rw [hg, e])) (fun k hk g hg e => hT1.not_own (hR.rows k hk).own (by decide) (by rw [hg, e]))).retop, fun i hi g hg hh => ?_⟩, ?_⟩
  · simp [Value.ownBlock] at hh
    subst hh
    rcases hat with h' | h'
    · exact h.apart i hi _ hg h'
    · have := (h.rows.rows i hi).top _ hg
      omega
  · exact ((Only.of_grown hgrow).mono fun b hb => (hown.lt b hb).1).trans (hS.mono fun b hb => by rw [hb]; exact h.base)

theorem Half4.push {n t gg cap : Nat} {wr w3 : World} {vo vn u : Value} {V : Nat → Value} {O zs : List Int} {zss : List (List Int)} {B D : Nat} (h : Half4 n wr t vo vn V O zss) (hl : zss.length ≤ 1048576)
    (hu : OwnInts wr B D u zs) (hB : n ≤ B) (hapu : ∀ i, i < zss.length → ∀ g, u.ownBlock = some g → (V i).ownBlock ≠ some g) (hvu : ∀ g, u.ownBlock = some g → vo.ownBlock ≠ some g)
    (hown3 : w3.ownsRow n 22 1 (.slice (some ⟨gg, 0, none⟩) (zss.length + 1) cap) (zss.length + 1) ((List.range zss.length).map V ++ [u])) (hgrow : wr.grownBy w3 vn.ownBlock) :
    Half4 n (w3.setCell ⟨t, 1, none⟩ (.slice (some ⟨gg, 0, none⟩) (zss.length + 1) cap)) t vo (.slice (some ⟨gg, 0, none⟩) (zss.length + 1) cap) (fun i => if i = zss.length then u else V i) O (zss ++ [zs]) ∧
      Only (fun b => n ≤ b) wr (w3.setCell ⟨t, 1, none⟩ (.slice (some ⟨gg, 0, none⟩) (zss.length + 1) cap)) := by
  have hown := h.rows.own
  have hT3 := h.str.grown hown (by decide) hgrow
  have hvo3 : OwnInts w3 n w3.heap.size vo O := (h.ints.only (Only.of_grown hgrow) (fun g h1 h2 => own_types hown h.ints.own g h2 h1)).retop
  have hrows := h.rows.push (w1 := w3) (hu.base hB) (fun i hi g h1 h3 => hapu i hi g h1 h3) hown3 (Only.of_grown hgrow) (by omega)
  have hS : Only (fun b => b = t) w3 (w3.setCell ⟨t, 1, none⟩ (.slice (some ⟨gg, 0, none⟩) (zss.length + 1) cap)) := Box2.set1_only _
  refine ⟨⟨h.base, hT3.set1 _, (hvo3.only hS (fun g hg e => hT3.not_own hvo3.own (by decide) (by rw [hg, e]))).retop, (hrows.only hS (fun g hg e => hT3.not_own hrows.own (by decide) (by rw [hg, e])) (fun k hk g hg e => hT3.not_own (hrows.rows k hk).own (by decide) (by rw [hg, e]))).retop, fun i hi g hg => ?_⟩, ?_⟩
  · by_cases e : i = zss.length
    · subst e
      simp only [if_true] at hg
      exact hvu g hg
    · simp only [if_neg e] at hg
      exact h.apart i (by simp at hi; omega) g hg
  · exact ((Only.of_grown hgrow).mono fun b hb => (hown.lt b hb).1).trans (hS.mono fun b hb => by rw [hb]; exact h.base)

/-- What a struct and a box of results give: the results. -/
theorem Half4.give {w wr : World} {t r : Nat} {vo vn : Value} {V : Nat → Value} {O : List Int} {zss : List (List Int)} {x y : Value} (h : Half4 w.heap.size wr t vo vn V O zss) (hr : Box2 wr r 29 x y) :
    OwnArena ((wr.setCell ⟨r, 0, none⟩ vo).setCell ⟨r, 1, none⟩ vn) w.heap.size ((wr.setCell ⟨r, 0, none⟩ vo).setCell ⟨r, 1, none⟩ vn).heap.size (.agg #[vo, vn]) O zss := by
  have hS : Only (fun b => b = r) wr ((wr.setCell ⟨r, 0, none⟩ vo).setCell ⟨r, 1, none⟩ vn) := (Box2.set0_only _).trans (Box2.set1_only _)
  exact ⟨_, _, V, rfl, (h.ints.only hS (fun g hg e => hr.not_own h.ints.own (by decide) (by rw [hg, e]))).retop, (h.rows.only hS (fun g hg e => hr.not_own h.rows.own (by decide) (by rw [hg, e])) (fun k hk g hg e => hr.not_own (h.rows.rows k hk).own (by decide) (by rw [hg, e]))).retop, h.apart⟩
end

section
open Go.RowKit

theorem Half4.setOwner {n t g cap v : Nat} {wr : World} {vn : Value} {V : Nat → Value} {O : List Int} {zss : List (List Int)} {x : Int} (h : Half4 n wr t (.slice (some ⟨g, 0, none⟩) O.length cap) vn V O zss) (_hv : v < O.length) (hx : Fits x) :
    Half4 n (wr.setCell ⟨g, v, none⟩ (.int .i64 x)) t (.slice (some ⟨g, 0, none⟩) O.length cap) vn V (O.set v x) zss ∧ Only (fun b => n ≤ b) wr (wr.setCell ⟨g, v, none⟩ (.int .i64 x)) := by
  have ho := h.ints.own
  obtain ⟨hs, hgr⟩ := ho.stored v (.int .i64 x)
  have hgn : n ≤ g := (ho.lt g rfl).1
  have hS : Only (fun b => b = g) wr (wr.setCell ⟨g, v, none⟩ (.int .i64 x)) := Only.setCell (S := fun b => b = g) (Only.refl _ _) (p := ⟨g, v, none⟩) rfl _
  have hl : (O.set v x).length = O.length := by simp
  have hm : (O.map (Value.int .i64)).set v (.int .i64 x) = (O.set v x).map (Value.int .i64) := by rw [List.map_set]
  rw [hm] at hs
  refine ⟨⟨h.base, h.str.only hS (fun e => h.str.not_own ho (by decide) (by rw [e]; rfl)), ?_, (h.rows.only hS (fun g' hg e => own_types h.rows.own ho g' hg (by rw [e]; rfl)) (fun k hk g' hg e => h.apart k hk g' hg (by rw [e]; rfl))).retop, h.apart⟩, hS.mono fun b hb => by omega⟩
  refine OwnInts.mk' (by rw [hl]; exact hs) (by rw [hl]; exact h.ints.len) fun k hk => ?_
  have hm2 := nth_mem hk
  generalize nth (O.set v x) k = y at hm2
  rcases List.mem_or_eq_of_mem_set hm2 with hm2 | rfl
  · obtain ⟨j, hj, e⟩ := mem_nth.1 hm2
    rw [← e]; exact h.ints.fits j hj
  · exact hx

theorem row_set {zss : List (List Int)} {v k : Nat} {zs : List Int} (hv : v < zss.length) : row (zss.set v zs) k = if k = v then zs else row zss k := by
  unfold row
  by_cases e : k = v
  · subst e; simp [hv]
  · rw [if_neg e]; simp [Ne.symm e]

theorem Half4.putRow {n t g cap v : Nat} {wr w7 : World} {vo u : Value} {V : Nat → Value} {O zs : List Int} {zss : List (List Int)} (h : Half4 n wr t vo (.slice (some ⟨g, 0, none⟩) zss.length cap) V O zss) (hv : v < zss.length)
    (hg : Only (fun b => (V v).ownBlock = some b) wr w7) (hu : OwnInts w7 n w7.heap.size u zs) (hw : u.ownBlock = (V v).ownBlock ∨ ∃ X, u.ownBlock = some X ∧ wr.heap.size ≤ X) :
    Half4 n (w7.setCell ⟨g, v, none⟩ u) t vo (.slice (some ⟨g, 0, none⟩) zss.length cap) (fun i => if i = v then u else V i) O (zss.set v zs) ∧ Only (fun b => n ≤ b) wr (w7.setCell ⟨g, v, none⟩ u) := by
  have hVv := h.rows.rows v hv
  have ho := ownsRow_only h.rows.own hg (own_types h.rows.own hVv.own)
  obtain ⟨hs, hgr⟩ := ho.stored v u
  have hgn : n ≤ g := (ho.lt g rfl).1
  have hS : Only (fun b => b = g) w7 (w7.setCell ⟨g, v, none⟩ u) := Only.setCell (S := fun b => b = g) (Only.refl _ _) (p := ⟨g, v, none⟩) rfl _
  have hl : (zss.set v zs).length = zss.length := by simp
  have e : ((List.range zss.length).map V).set v u = (List.range zss.length).map (fun i => if i = v then u else V i) := by
    apply List.ext_getElem?
    intro i
    by_cases hi : i < zss.length
    · by_cases e : i = v
      · subst e; simp [hi]
      · simp [hi, e, Ne.symm e]
    · simp [hi]
  rw [e] at hs
  have hI : OwnInts w7 n w7.heap.size vo O := (h.ints.only hg (fun b hb e => h.apart v hv b e hb)).retop
  have hR : ∀ k, k < zss.length → k ≠ v → OwnInts w7 n w7.heap.size (V k) (row zss k) := fun k hk hne => ((h.rows.rows k hk).only hg (h.rows.apart k v hk hv hne)).retop
  have hown : ∀ {zs' : List Int} {x : Value}, OwnInts w7 n w7.heap.size x zs' → ∀ b, x.ownBlock = some b → ¬ b = g := fun hx b hb e => own_types ho hx.own b (by rw [e]; rfl) hb
  have hstr : Box2 w7 t 29 vo (.slice (some ⟨g, 0, none⟩) zss.length cap) := h.str.only hg (fun e => h.str.not_own hVv.own (by decide) e)
  have hul : ∀ i, i < zss.length → i ≠ v → ∀ b, u.ownBlock = some b → (V i).ownBlock ≠ some b := fun i hi hne b hb hb' => by
    rcases hw with hw | ⟨X, hX, hge⟩
    · rw [hw] at hb; exact h.rows.apart i v hi hv hne b hb' hb
    · rw [hX] at hb; have := (h.rows.rows i hi).top b hb'; simp at hb; omega
  refine ⟨⟨h.base, hstr.only hS (fun e => hstr.not_own ho (by decide) (by rw [e]; rfl)), (hI.only hS (hown hI)).retop, ⟨by rw [hl]; exact hs, fun g' hg => (hs.lt g' hg).2, by rw [hl]; exact h.rows.len, fun k hk => ?_, fun i j hi hj hne b hb hb' => ?_⟩, fun i hi b hb => ?_⟩, ?_⟩
  · rw [hl] at hk
    rw [row_set hv]
    by_cases e : k = v
    · simp only [if_pos e]; exact (hu.only hS (hown hu)).retop
    · simp only [if_neg e]; exact ((hR k hk e).only hS (hown (hR k hk e))).retop
  · rw [hl] at hi hj
    by_cases e1 : i = v
    · rw [if_pos e1] at hb
      rw [if_neg (by omega)] at hb'
      exact hul j hj (by omega) b hb hb'
    · rw [if_neg e1] at hb
      by_cases e2 : j = v
      · rw [if_pos e2] at hb'
        exact hul i hi e1 b hb' hb
      · rw [if_neg e2] at hb'
        exact h.rows.apart i j hi hj hne b hb hb'
  · rw [hl] at hi
    by_cases e1 : i = v
    · simp only [if_pos e1] at hb
      intro hb'
      rcases hw with hw | ⟨X, hX, hge⟩
      · rw [hw] at hb; exact h.apart v hv b hb hb'
      · rw [hX] at hb; have := h.ints.top b hb'; simp at hb; omega
    · simp only [if_neg e1] at hb; exact h.apart i hi b hb
  · exact (hg.mono fun b hb => (hVv.own.lt b hb).1).trans (hS.mono fun b hb => by omega)

theorem Half4.ocell {n t g cap v : Nat} {wr : World} {vn : Value} {V : Nat → Value} {O : List Int} {zss : List (List Int)} (h : Half4 n wr t (.slice (some ⟨g, 0, none⟩) O.length cap) vn V O zss) (hv : v < O.length) : wr.cell? ⟨g, v, none⟩ = some (.int .i64 (nth O v)) ∧ wr.frozen? ⟨g, v, none⟩ = false := by
  have hc := h.ints.own.cellAt v (by omega)
  have hf := h.ints.own.frozenAt v
  refine ⟨?_, hf⟩
  rw [hc]; simp [nth, hv]

theorem Half4.rcell {n t g cap v : Nat} {wr : World} {vo : Value} {V : Nat → Value} {O : List Int} {zss : List (List Int)} (h : Half4 n wr t vo (.slice (some ⟨g, 0, none⟩) zss.length cap) V O zss) (hv : v < zss.length) : wr.cell? ⟨g, v, none⟩ = some (V v) ∧ wr.frozen? ⟨g, v, none⟩ = false := by
  have hc := h.rows.own.cellAt v (by omega)
  have hf := h.rows.own.frozenAt v
  refine ⟨?_, hf⟩
  rw [hc]; simp [hv]

theorem own_new (w : World) (x : Int) (hx : Fits x) : OwnInts (w.alloc (.cells #[.int .i64 x] 2)) w.heap.size (w.heap.size + 1) (.slice (some ⟨w.heap.size, 0, none⟩) 1 1) [x] :=
  ⟨⟨by simp, .inr ⟨w.heap.size, 1, _, rfl, Nat.le_refl _, heap_alloc_new w _, Nat.le_refl _, by unfold maxLen; omega, by simp, by simp⟩⟩, fun g hg => by simp [Value.ownBlock] at hg; omega, by simp, fun k hk => by
    have : k = 0 := by simp at hk; omega
    subst this; exact hx⟩

theorem Half4.rcell_only {n t g cap v : Nat} {wr w7 : World} {vo : Value} {V : Nat → Value} {O : List Int} {zss : List (List Int)} (h : Half4 n wr t vo (.slice (some ⟨g, 0, none⟩) zss.length cap) V O zss) (hv : v < zss.length) (hg : Only (fun b => (V v).ownBlock = some b) wr w7) :
    w7.cell? ⟨g, v, none⟩ = some (V v) ∧ w7.frozen? ⟨g, v, none⟩ = false := by
  have ho := ownsRow_only h.rows.own hg (own_types h.rows.own (h.rows.rows v hv).own)
  have hc := ho.cellAt v (by omega)
  have hf := ho.frozenAt v
  refine ⟨?_, hf⟩
  rw [hc]; simp [hv]

theorem OwnArena.base {w : World} {B B' D : Nat} {v : Value} {O : List Int} {zss : List (List Int)} (h : OwnArena w B D v O zss) (hB : B' ≤ B) : OwnArena w B' D v O zss := by
  obtain ⟨vo, vn, V, hv, h1, h2, h4⟩ := h
  exact ⟨vo, vn, V, hv, h1.base hB, h2.base hB, h4⟩

theorem OwnArena.top34 {w : World} {B D D' : Nat} {v : Value} {O : List Int} {zss : List (List Int)} (h : OwnArena w B D v O zss) (hD : D ≤ D') : OwnArena w B D' v O zss := by
  obtain ⟨vo, vn, V, hv, h1, h2, h4⟩ := h
  refine ⟨vo, vn, V, hv, ⟨h1.own, fun g hg => by have := h1.top g hg; omega, h1.len, h1.fits⟩, ⟨h2.own, fun g hg => by have := h2.top g hg; omega, h2.len, fun k hk => ?_, h2.apart⟩, h4⟩
  have h := h2.rows k hk
  exact ⟨h.own, fun g hg => by have := h.top g hg; omega, h.len, h.fits⟩
end

end Go.Proofs.Ytjnbpllalbfeiaa
