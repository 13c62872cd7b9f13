/-
  Words for what a call has made: a slice of numbers of its own, a slice of such slices, an arena; and what a call may have turned. No program text.
-/
import Derived.Deep.OwnRows
import Derived.Maps.AppendAt
import Derived.Deep.AppendSrc
import Derived.Laws.AppendOwnNone
import Derived.Deep.RegionLaw
import Derived.Deep.AppendLies
import Derived.Test.YtphkgnpkcfbnkabDoorSpecArena
namespace Go.Proofs.YtphkgnpkcfbnkabDoor
section
open Go.RowKit

/-- Of what was there, blocks of which S holds alone may have turned. -/
structure Only (S : Nat → Prop) (w w' : World) : Prop where
  os : w'.os = w.os
  tape : w'.tape = w.tape
  output : w'.output = w.output
  size : w.heap.size ≤ w'.heap.size
  block : ∀ k, k < w.heap.size → ¬ S k → w'.heap[k]? = w.heap[k]?

theorem Only.refl (S : Nat → Prop) (w : World) : Only S w w := ⟨rfl, rfl, rfl, Nat.le_refl _, fun _ _ _ => rfl⟩
theorem Only.trans {S : Nat → Prop} {a b c : World} (h : Only S a b) (k : Only S b c) : Only S a c :=
  ⟨k.os.trans h.os, k.tape.trans h.tape, k.output.trans h.output, Nat.le_trans h.size k.size, fun i hi hs => (k.block i (Nat.lt_of_lt_of_le hi h.size) hs).trans (h.block i hi hs)⟩
theorem Only.mono {S T : Nat → Prop} {w w' : World} (h : Only S w w') (hs : ∀ k, S k → T k) : Only T w w' :=
  ⟨h.os, h.tape, h.output, h.size, fun i hi ht => h.block i hi (fun hk => ht (hs i hk))⟩
theorem Only.of_below {S : Nat → Prop} {w w' : World} (h : Below w.heap.size w w') : Only S w w' := ⟨h.os, h.tape, h.output, h.size, fun i hi _ => h.block i hi⟩
theorem Only.setCell {S : Nat → Prop} {a w : World} (h : Only S a w) {p : Addr} (hp : S p.block) (u : Value) : Only S a (w.setCell p u) :=
  h.trans ⟨rfl, rfl, rfl, by simp [World.setCell], fun k _ hk => Below.heap_setCell _ _ _ _ (fun e => hk (by rw [e]; exact hp))⟩
theorem Only.below {S : Nat → Prop} {B : Nat} {w w' : World} (h : Only S w w') (hB : B ≤ w.heap.size) (hs : ∀ k, S k → B ≤ k) : Below B w w' :=
  ⟨h.os, h.tape, h.output, h.size, fun k hk => h.block k (by omega) (fun hS => by have := hs k hS; omega)⟩

/-- The slice v owns the numbers zs, in a block from B on and below D. -/
structure OwnInts (w : World) (B D : Nat) (v : Value) (zs : List Int) : Prop where
  own : w.ownsRow B 2 1 v zs.length (zs.map (Value.int .i64))
  top : ∀ g, v.ownBlock = some g → g < D
  len : zs.length ≤ 17592186044416
  fits : ∀ k, k < zs.length → Fits (nth zs k)

theorem OwnInts.shape {w : World} {B D : Nat} {v : Value} {zs : List Int} (h : OwnInts w B D v zs) :
    ∃ a cap, v = .slice a zs.length cap ∧ IntsAt w a zs ∧ (0 < zs.length → ∃ g, a = some ⟨g, 0, none⟩ ∧ B ≤ g ∧ g < D ∧ v.ownBlock = some g ∧ ∀ k, w.frozen? ⟨g, k, none⟩ = false) := by
  have hown := h.own
  rcases h.own.2 with ⟨hv, h0⟩ | ⟨g, cap, cur, hv, hg, hh, hn, hm, hcs, htake⟩
  · rw [h0]
    refine ⟨none, 0, hv, ⟨h.len, h.fits, fun hp => absurd hp (by omega)⟩, fun hp => absurd hp (by omega)⟩
  · subst hv
    refine ⟨some ⟨g, 0, none⟩, cap, rfl, ⟨h.len, h.fits, fun _ => ⟨g, 0, rfl, fun k hk => ?_⟩⟩, fun _ => ⟨g, rfl, hg, h.top g rfl, rfl, fun k => hown.frozenAt k⟩⟩
    rw [Nat.zero_add, hown.cellAt k (by omega)]
    simp [nth, hk]

theorem ownsRow_only {w w' : World} {S : Nat → Prop} {B : Nat} {e : TypeId} {size : Nat} {v : Value} {n : Nat} {xs : List Value} (h : w.ownsRow B e size v n xs) (hk : Only S w w') (hs : ∀ g, v.ownBlock = some g → ¬ S g) : w'.ownsRow B e size v n xs := by
  refine ⟨h.1, ?_⟩
  rcases h.2 with hn | ⟨g, cap, cur, rfl, hb, hgg, rest⟩
  · exact .inl hn
  · refine .inr ⟨g, cap, cur, rfl, hb, ?_, rest⟩
    rw [hk.block g (Array.getElem?_eq_some_iff.1 hgg).1 (hs g rfl)]
    exact hgg

theorem OwnInts.only {w w' : World} {S : Nat → Prop} {B D : Nat} {v : Value} {zs : List Int} (h : OwnInts w B D v zs) (hk : Only S w w') (hs : ∀ g, v.ownBlock = some g → ¬ S g) : OwnInts w' B D v zs :=
  ⟨ownsRow_only h.own hk hs, h.top, h.len, h.fits⟩
theorem OwnInts.below {w w' : World} {B D : Nat} {v : Value} {zs : List Int} (h : OwnInts w B D v zs) (hb : Below w.heap.size w w') : OwnInts w' B D v zs :=
  h.only (S := fun _ => False) (Only.of_below hb) (fun _ _ h => h)

def addrOf : Value → Option Addr | .slice a _ _ => a | _ => none
def capOf : Value → Nat | .slice _ _ c => c | _ => 0

/-- The slice v owns the rows zss: row k is the value V k. -/
structure OwnRows (w : World) (B D : Nat) (v : Value) (V : Nat → Value) (zss : List (List Int)) : Prop where
  own : w.ownsRow B 22 1 v zss.length ((List.range zss.length).map V)
  top : ∀ g, v.ownBlock = some g → g < D
  len : zss.length ≤ 17592186044416
  rows : ∀ k, k < zss.length → OwnInts w B D (V k) (row zss k)
  apart : ∀ i j, i < zss.length → j < zss.length → i ≠ j → ∀ g, (V i).ownBlock = some g → (V j).ownBlock ≠ some g

theorem OwnRows.shape {w : World} {B D : Nat} {v : Value} {V : Nat → Value} {zss : List (List Int)} (h : OwnRows w B D v V zss) :
    ∃ a cap, v = .slice a zss.length cap ∧ RowsAt w a (fun k => addrOf (V k)) (fun k => capOf (V k)) zss ∧ (∀ k, k < zss.length → V k = .slice (addrOf (V k)) (row zss k).length (capOf (V k))) := by
  have hV : ∀ k, k < zss.length → V k = .slice (addrOf (V k)) (row zss k).length (capOf (V k)) ∧ IntsAt w (addrOf (V k)) (row zss k) := fun k hk => by
    obtain ⟨a, cap, hv, hi, _⟩ := (h.rows k hk).shape
    rw [hv]; exact ⟨rfl, hi⟩
  have hown := h.own
  rcases h.own.2 with ⟨hv, h0⟩ | ⟨g, cap, cur, hv, hg, hh, hn, hm, hcs, htake⟩
  · refine ⟨none, 0, by rw [hv, h0], ⟨h.len, fun hp => absurd hp (by omega), fun k hk => absurd hk (by omega)⟩, fun k hk => (hV k hk).1⟩
  · subst hv
    refine ⟨some ⟨g, 0, none⟩, cap, rfl, ⟨h.len, fun _ => ⟨g, 0, rfl, fun k hk => ?_⟩, fun k hk => (hV k hk).2⟩, fun k hk => (hV k hk).1⟩
    rw [Nat.zero_add, hown.cellAt k (by omega)]
    rw [← (hV k hk).1]
    simp [hk]

theorem OwnRows.only {w w' : World} {S : Nat → Prop} {B D : Nat} {v : Value} {V : Nat → Value} {zss : List (List Int)} (h : OwnRows w B D v V zss) (hk : Only S w w') (hs : ∀ g, v.ownBlock = some g → ¬ S g)
    (hr : ∀ k, k < zss.length → ∀ g, (V k).ownBlock = some g → ¬ S g) : OwnRows w' B D v V zss :=
  ⟨ownsRow_only h.own hk hs, h.top, h.len, fun k hk' => (h.rows k hk').only hk (hr k hk'), h.apart⟩
theorem OwnRows.below {w w' : World} {B D : Nat} {v : Value} {V : Nat → Value} {zss : List (List Int)} (h : OwnRows w B D v V zss) (hb : Below w.heap.size w w') : OwnRows w' B D v V zss :=
  h.only (S := fun _ => False) (Only.of_below hb) (fun _ _ h => h) (fun _ _ _ _ h => h)

/-- The outer row's block is no row's block: their cells are of two types. -/
theorem own_types {w : World} {B : Nat} {v u : Value} {n m : Nat} {xs ys : List Value} (h : w.ownsRow B 22 1 v n xs) (k : w.ownsRow B 2 1 u m ys) : ∀ g, v.ownBlock = some g → u.ownBlock ≠ some g := by
  intro g hg hu
  rcases h.2 with ⟨rfl, _⟩ | ⟨g1, _, _, rfl, _, h1, _⟩
  · simp [Value.ownBlock] at hg
  · rcases k.2 with ⟨rfl, _⟩ | ⟨g2, _, _, rfl, _, h2, _⟩
    · simp [Value.ownBlock] at hu
    · simp [Value.ownBlock] at hg hu
      subst hg; subst hu
      rw [h1] at h2
      simp at h2

/-- The struct v owns an arena. -/
def OwnArena (w : World) (B D : Nat) (v : Value) (O : List Int) (zss : List (List Int)) : Prop :=
  ∃ vo vn V, v = .agg #[vo, vn] ∧ OwnInts w B D vo O ∧ OwnRows w B D vn V zss ∧ ∀ k, k < zss.length → ∀ g, (V k).ownBlock = some g → vo.ownBlock ≠ some g

theorem OwnArena.at {w : World} {B D : Nat} {v : Value} {O : List Int} {zss : List (List Int)} (h : OwnArena w B D v O zss) : ArenaAt w v O zss := by
  obtain ⟨vo, vn, V, rfl, h1, h2, _⟩ := h
  obtain ⟨a, c, rfl, hi, _⟩ := h1.shape
  obtain ⟨a', c', rfl, hr, _⟩ := h2.shape
  exact ⟨_, _, _, _, _, _, rfl, hi, hr⟩

theorem OwnArena.below {w w' : World} {B D : Nat} {v : Value} {O : List Int} {zss : List (List Int)} (h : OwnArena w B D v O zss) (hb : Below w.heap.size w w') : OwnArena w' B D v O zss := by
  obtain ⟨vo, vn, V, hv, h1, h2, h3⟩ := h
  exact ⟨vo, vn, V, hv, h1.below hb, h2.below hb, h3⟩

theorem OwnArena.only {w w' : World} {S : Nat → Prop} {B D : Nat} {v : Value} {O : List Int} {zss : List (List Int)} (h : OwnArena w B D v O zss) (hk : Only S w w') (hs : ∀ g, B ≤ g → g < D → ¬ S g) : OwnArena w' B D v O zss := by
  obtain ⟨vo, vn, V, hv, h1, h2, h3⟩ := h
  refine ⟨vo, vn, V, hv, h1.only hk (fun g hg => hs g ?_ (h1.top g hg)), h2.only hk (fun g hg => hs g ?_ (h2.top g hg)) (fun k hk' g hg => hs g ?_ ((h2.rows k hk').top g hg)), h3⟩
  · exact (h1.own.lt g hg).1
  · exact (h2.own.lt g hg).1
  · exact ((h2.rows k hk').own.lt g hg).1

theorem ownsRow_of_rowIs {w : World} {B b n : Nat} {t : TypeId} {f : Nat → Value} (h : w.rowIs b t n f) (hB : B ≤ b) (hn : n ≤ maxLen) : w.ownsRow B t 1 (.slice (some ⟨b, 0, none⟩) n n) n ((List.range n).map f) := by
  obtain ⟨c, hh, hs, hc⟩ := h
  refine ⟨by simp, .inr ⟨b, n, c, rfl, hB, hh, Nat.le_refl _, hn, by omega, ?_⟩⟩
  apply List.ext_getElem?
  intro i
  by_cases hi : i < n
  · have := hc i hi
    simp [hi, this]
  · simp [List.getElem?_take, hi]

theorem map_nth (zs : List Int) : (List.range zs.length).map (fun i => Value.int .i64 (nth zs i)) = zs.map (Value.int .i64) := by
  apply List.ext_getElem?
  intro i
  by_cases hi : i < zs.length
  · simp [hi, nth_eq hi]
  · simp [hi]

theorem OwnInts.of_rowIs {w : World} {B D b : Nat} {zs : List Int} (h : w.rowIs b 2 zs.length (fun i => .int .i64 (nth zs i))) (hB : B ≤ b) (hD : b < D) (hl : zs.length ≤ 17592186044416) (hf : ∀ k, k < zs.length → Fits (nth zs k)) :
    OwnInts w B D (.slice (some ⟨b, 0, none⟩) zs.length zs.length) zs := by
  refine ⟨?_, fun g hg => by simp [Value.ownBlock] at hg; omega, hl, hf⟩
  rw [← map_nth]
  exact ownsRow_of_rowIs h hB (by unfold maxLen; omega)
end

section
open Go.RowKit

theorem info_int : (Tryd.prog.info? 2).map (fun i => (i.zero, i.size, i.bytes)) = some (some (.int .i64 0), 1, 8) := by kernel_rfl
theorem info_ints : (Tryd.prog.info? 22).map (fun i => (i.zero, i.size, i.bytes)) = some (some (.slice none 0 0), 1, 24) := by kernel_rfl

/-- What the copy's row holds when k numbers are copied. -/
def part (zs : List Int) (k : Nat) : Nat → Value := fun i => if i < k then .int .i64 (nth zs i) else .int .i64 0

theorem part_step {w : World} {g n k : Nat} {t : TypeId} {zs : List Int} (h : w.rowIs g t n (part zs k)) : (w.setCell ⟨g, k, none⟩ (.int .i64 (nth zs k))).rowIs g t n (part zs (k + 1)) := by
  refine (h.set k _).congr fun i _ => ?_
  simp only [part]
  by_cases e : i = k
  · subst e; simp
  · rw [if_neg e]
    by_cases hlt : i < k
    · rw [if_pos hlt, if_pos (by omega)]
    · rw [if_neg hlt, if_neg (by omega)]

set_option maxHeartbeats 1000000 in
theorem toInt64S_any (a : Option Addr) (zs : List Int) (cap : Nat) (w : World) (h : IntsAt w a zs) :
    Calls Tryd.prog 16 #[.slice a zs.length cap] w fun e w' => e = .returned (.slice (some ⟨w.heap.size, 0, none⟩) zs.length zs.length) ∧
      w'.rowIs w.heap.size 2 zs.length (fun i => .int .i64 (nth zs i)) ∧ w'.heap.size = w.heap.size + 1 ∧ Below w.heap.size w w' := by
  obtain ⟨hlen, _, hcell⟩ := h
  have hmk := run_make_row' (P := Tryd.prog) 22 2 (.int .i64 0) 8 Tryd.underlying22 info_int rfl .i64 .i64 zs.length (by omega) (by omega)
  have HC := Lib.hid hcell
  clear hcell
  go_enter Tryd.func16, Tryd.ntmps16
  go_wp2
  go_loopw [4] (fun i wr => ∃ k : Nat, k ≤ zs.length ∧ i = .int .i64 k ∧ Hid (wr.rowIs w.heap.size 2 zs.length (part zs k)) ∧ Hid (wr.heap.size = w.heap.size + 1) ∧ Hid (Below w.heap.size w wr)) (fun i _ => zs.length - (intOf i).toNat)
  case atStart => exact ⟨0, Nat.zero_le _, rfl, (World.rowIs_made _ _ _ _).congr (fun i _ => by simp [part]), by simp [Hid], below1 _ _⟩
  case round =>
    clear hmk
    obtain ⟨k, hk, rfl, HR, HS, HB⟩ := hrel
    by_cases hlt : k < zs.length
    · obtain ⟨b, off, ha, hc⟩ := HC.out (by omega)
      subst ha
      have hck := Below.cell_some (B := 0) HB.out rfl (hc k hlt)
      have hcs := HR.out.cell hlt
      have hcf := HR.out.frozen k
      clear hc
      go_wp2
      go_roundw
      case rel => exact ⟨k + 1, by omega, by go_num, part_step HR.out, by simp [Hid]; exact HS.out, HB.out.setCell (Nat.le_refl _) _⟩
      case measure => simp [intOf]; omega
    · have HE : Hid (wr.rowIs w.heap.size 2 zs.length (fun i => .int .i64 (nth zs i))) := HR.out.congr fun i hi => by simp only [part]; rw [if_pos (by omega)]
      go_wp2
      go_ret
      exact ⟨rfl, HE.out, HS.out, HB.out⟩

/-- The copied rows' outer row when k rows are copied. -/
def outer (N : Nat) (zss : List (List Int)) (k : Nat) : Nat → Value := fun j => if j < k then .slice (some ⟨N + 1 + j, 0, none⟩) (row zss j).length (row zss j).length else .slice none 0 0

/-- What holds when k rows are copied; N: the outer row's block. -/
structure Copied (w wr : World) (N : Nat) (zss : List (List Int)) (k : Nat) : Prop where
  below : Below w.heap.size w wr
  size : wr.heap.size = N + 1 + k
  top : wr.rowIs N 22 zss.length (outer N zss k)
  done : ∀ j, j < k → wr.rowIs (N + 1 + j) 2 (row zss j).length (fun i => .int .i64 (nth (row zss j) i))

theorem rowIs_below {w w' : World} {g n : Nat} {t : TypeId} {f : Nat → Value} (h : w.rowIs g t n f) (hb : Below w.heap.size w w') : w'.rowIs g t n f := h.of_block (hb.block g h.lt)

theorem Copied.step {w wr w1 : World} {N k : Nat} {zss : List (List Int)} (h : Copied w wr N zss k) (hN : w.heap.size ≤ N) (hb : Below wr.heap.size wr w1) (hs : w1.heap.size = wr.heap.size + 1)
    (hr : w1.rowIs wr.heap.size 2 (row zss k).length (fun i => .int .i64 (nth (row zss k) i))) :
    Copied w (w1.setCell ⟨N, k, none⟩ (.slice (some ⟨wr.heap.size, 0, none⟩) (row zss k).length (row zss k).length)) N zss (k + 1) := by
  refine ⟨(h.below.trans (hb.mono h.below.size)).setCell hN _, by simp [hs, h.size]; omega, ((rowIs_below h.top hb).set k _).congr fun j _ => ?_, fun j hj => ?_⟩
  · simp only [outer]
    by_cases e : j = k
    · subst e; simp [h.size]
    · rw [if_neg e]
      by_cases hlt : j < k
      · rw [if_pos hlt, if_pos (by omega)]
      · rw [if_neg hlt, if_neg (by omega)]
  · by_cases e : j = k
    · subst e
      have := hr.setOther (a := ⟨N, j, none⟩) (by rw [h.size]; show N + 1 + j ≠ N; omega) (.slice (some ⟨wr.heap.size, 0, none⟩) (row zss j).length (row zss j).length)
      rw [h.size] at this ⊢
      exact this
    · exact (rowIs_below (h.done j (by omega)) hb).setOther (by show N + 1 + j ≠ N; omega) _

set_option maxHeartbeats 1000000 in
theorem toInt64SS_any (a : Option Addr) (A : Nat → Option Addr) (C : Nat → Nat) (zss : List (List Int)) (cap : Nat) (w : World) (h : RowsAt w a A C zss) (hn : zss.length ≤ 1048576) :
    Calls Tryd.prog 40 #[.slice a zss.length cap] w fun e w' => e = .returned (.slice (some ⟨w.heap.size, 0, none⟩) zss.length zss.length) ∧ Copied w w' w.heap.size zss zss.length := by
  have hmk := run_make_row' (P := Tryd.prog) 23 22 (.slice none 0 0) 24 Tryd.underlying23 info_ints rfl .i64 .i64 zss.length (by omega) (by omega)
  have HC := Lib.hid h
  clear h
  go_enter Tryd.func40, Tryd.ntmps40
  go_wp2
  go_loopw [4] (fun i wr => ∃ k : Nat, k ≤ zss.length ∧ i = .int .i64 k ∧ Hid (Copied w wr w.heap.size zss k)) (fun i _ => zss.length - (intOf i).toNat)
  case atStart => exact ⟨0, Nat.zero_le _, rfl, below1 _ _, by simp, (World.rowIs_made _ _ _ _).congr (fun i _ => by simp [outer]), fun j hj => absurd hj (Nat.not_lt_zero _)⟩
  case round =>
    clear hmk
    obtain ⟨k, hk, rfl, HR⟩ := hrel
    by_cases hlt : k < zss.length
    · have HC' := Lib.hid (HC.out.below (HR.out.below))
      obtain ⟨b, off, ha, hc⟩ := HC'.out.cell (by omega)
      subst ha
      have hck := hc k hlt
      clear hc
      have HT := Lib.hid (toInt64S_any (A k) (row zss k) (C k) wr (HC'.out.rows k hlt))
      have HF : Hid (∀ w1, Below wr.heap.size wr w1 → w1.cell? ⟨w.heap.size, k, none⟩ = some (outer w.heap.size zss k k) ∧ w1.frozen? ⟨w.heap.size, k, none⟩ = false) := fun w1 hb => by
        have := rowIs_below HR.out.top hb
        exact ⟨this.cell hlt, this.frozen k⟩
      go_wp2_with (go_at_call 16; refine HT.out.mono ?_; rintro e w1 ⟨rfl, h1, h2, h3⟩; obtain ⟨hf1, hf2⟩ := HF.out w1 h3; have HS := Lib.hid (HR.out.step (Nat.le_refl _) h3 h2 h1); clear h1 h2 h3)
      go_roundw
      case rel => exact ⟨k + 1, by omega, by go_num, HS.out⟩
      case measure => simp [intOf]; omega
    · have hkk : k = zss.length := by omega
      have HE : Hid (Copied w wr w.heap.size zss zss.length) := by rw [← hkk]; exact HR.out
      clear hkk
      go_wp2
      go_ret
      exact ⟨rfl, HE.out⟩

/-- What toArena leaves: the owners' copy in the fourth new block, the rows' in the fifth and those behind it. -/
structure ArenaCopy (w w' : World) (O : List Int) (zss : List (List Int)) : Prop where
  below : Below w.heap.size w w'
  size : w'.heap.size = w.heap.size + 5 + zss.length
  owner : w'.rowIs (w.heap.size + 3) 2 O.length (fun i => .int .i64 (nth O i))
  top : w'.rowIs (w.heap.size + 4) 22 zss.length (outer (w.heap.size + 4) zss zss.length)
  done : ∀ j, j < zss.length → w'.rowIs (w.heap.size + 4 + 1 + j) 2 (row zss j).length (fun i => .int .i64 (nth (row zss j) i))

theorem ArenaCopy.ints {w w' w0 : World} {a : Option Addr} {O : List Int} {zss : List (List Int)} (h : ArenaCopy w w' O zss) (hO : IntsAt w0 a O) : IntsAt w' (some ⟨w.heap.size + 3, 0, none⟩) O :=
  ⟨hO.len, hO.fits, fun _ => ⟨_, _, rfl, fun k hk => by rw [Nat.zero_add]; exact h.owner.cell hk⟩⟩

theorem ArenaCopy.rows {w w' w0 : World} {a : Option Addr} {A : Nat → Option Addr} {C : Nat → Nat} {O : List Int} {zss : List (List Int)} (h : ArenaCopy w w' O zss) (hN : RowsAt w0 a A C zss) :
    RowsAt w' (some ⟨w.heap.size + 4, 0, none⟩) (fun j => some ⟨w.heap.size + 4 + 1 + j, 0, none⟩) (fun j => (row zss j).length) zss :=
  ⟨hN.len, fun _ => ⟨_, _, rfl, fun k hk => by rw [Nat.zero_add, h.top.cell hk]; simp only [outer]; rw [if_pos hk]⟩,
    fun k hk => ⟨(hN.rows k hk).len, (hN.rows k hk).fits, fun _ => ⟨_, _, rfl, fun i hi => by rw [Nat.zero_add]; exact (h.done k hk).cell hi⟩⟩⟩

set_option maxHeartbeats 1000000 in
theorem toArena_any (ao an : Option Addr) (O : List Int) (zss : List (List Int)) (co cn : Nat) (A : Nat → Option Addr) (C : Nat → Nat) (w : World) (hO : IntsAt w ao O) (hN : RowsAt w an A C zss) (hn : zss.length ≤ 1048576) :
    Calls Tryd.prog 54 #[.agg #[.slice ao O.length co, .slice an zss.length cn]] w fun e w' =>
      e = .returned (.agg #[.slice (some ⟨w.heap.size + 3, 0, none⟩) O.length O.length, .slice (some ⟨w.heap.size + 4, 0, none⟩) zss.length zss.length]) ∧ ArenaCopy w w' O zss := by
  have HO := Lib.hid hO
  have HN := Lib.hid hN
  clear hO hN
  go_enter Tryd.func54, Tryd.ntmps54
  go_wp2_with fail
  refine (toInt64S_any ao O co _ (((HO.out.alloc _).alloc _).alloc _)).mono ?_
  rintro e w1 ⟨rfl, h1, h2, h3⟩
  have hs1 : w1.heap.size = w.heap.size + 4 := by simp at h2; omega
  have HS1 := Lib.hid hs1
  have b0 := Lib.hid ((((Box2.new w 25 (.slice ao O.length co) (.slice an zss.length cn)).alloc _).alloc _).below h3)
  have b1 := Lib.hid (((Box2.new_at (g := w.heap.size + 1) (by simp) 30 (.slice none 0 0) (.slice none 0 0)).alloc _).below h3)
  have b2 := Lib.hid ((Box2.new_at (g := w.heap.size + 1 + 1) (by simp) 30 (.slice none 0 0) (.slice none 0 0)).below h3)
  have hB1 : Hid (Below w.heap.size w w1) := ((below2 w _ _).alloc (by simp; omega) _).trans (h3.mono (by simp; omega))
  have hR1 : Hid (w1.rowIs (w.heap.size + 3) 2 O.length (fun i => .int .i64 (nth O i))) := by simpa [Hid] using h1
  have c00 := b0.out.cell0
  have c01 := b0.out.cell1
  have c20 := b2.out.cell0
  have f20 := b2.out.frozen 0
  have hlt0 : w.heap.size ≠ w.heap.size + 1 + 1 := by omega
  clear h1 h2 h3 hs1
  go_wp2_with fail
  have hB4 : Hid (Below w.heap.size w (w1.setCell ⟨w.heap.size + 1 + 1, 0, none⟩ (.slice (some ⟨w.heap.size + 1 + 1 + 1, 0, none⟩) O.length O.length))) := hB1.out.setCell (by show w.heap.size ≤ w.heap.size + 1 + 1; omega) _
  refine (toInt64SS_any an A C zss cn _ (HN.out.below hB4.out) hn).mono ?_
  rintro e w2 ⟨rfl, h1⟩
  have b0' := Lib.hid ((b0.out.other (a := ⟨w.heap.size + 1 + 1, 0, none⟩) (by show w.heap.size ≠ w.heap.size + 1 + 1; omega) _).below h1.below)
  have b1' := Lib.hid ((b1.out.other (a := ⟨w.heap.size + 1 + 1, 0, none⟩) (by show w.heap.size + 1 ≠ w.heap.size + 1 + 1; omega) _).below h1.below)
  have b2' := Lib.hid ((b2.out.set0 (.slice (some ⟨w.heap.size + 1 + 1 + 1, 0, none⟩) O.length O.length)).below h1.below)
  have hB2 : Hid (Below w.heap.size w w2) := hB4.out.trans (h1.below.mono hB4.out.size)
  have hR2 : Hid (w2.rowIs (w.heap.size + 3) 2 O.length (fun i => .int .i64 (nth O i))) := rowIs_below (hR1.out.setOther (a := ⟨w.heap.size + 1 + 1, 0, none⟩) (by show w.heap.size + 3 ≠ w.heap.size + 1 + 1; omega) _) h1.below
  have HC := Lib.hid h1
  have hsz : Hid ((w1.setCell ⟨w.heap.size + 1 + 1, 0, none⟩ (.slice (some ⟨w.heap.size + 1 + 1 + 1, 0, none⟩) O.length O.length)).heap.size = w.heap.size + 4) := by simp [Hid]; exact HS1.out
  rw [hsz.out] at HC ⊢
  clear h1 c00 c01 c20 f20 hlt0
  have c20 := b2'.out.cell0
  have c21 := b2'.out.cell1
  have f21 := b2'.out.frozen 1
  have c10 := b1'.out.cell0
  have c11 := b1'.out.cell1
  have f10 := b1'.out.frozen 0
  have f11 := b1'.out.frozen 1
  go_wp2_with fail
  have b1f := Lib.hid (((b1'.out.other (a := ⟨w.heap.size + 1 + 1, 1, none⟩) (by show w.heap.size + 1 ≠ w.heap.size + 1 + 1; omega) (.slice (some ⟨w.heap.size + 4, 0, none⟩) zss.length zss.length)).set0 (.slice (some ⟨w.heap.size + 1 + 1 + 1, 0, none⟩) O.length O.length)).set1 (.slice (some ⟨w.heap.size + 4, 0, none⟩) zss.length zss.length))
  have d0 := b1f.out.cell0
  have d1 := b1f.out.cell1
  have hfin : Hid (ArenaCopy w (((w2.setCell ⟨w.heap.size + 1 + 1, 1, none⟩ (.slice (some ⟨w.heap.size + 4, 0, none⟩) zss.length zss.length)).setCell ⟨w.heap.size + 1, 0, none⟩ (.slice (some ⟨w.heap.size + 1 + 1 + 1, 0, none⟩) O.length O.length)).setCell
      ⟨w.heap.size + 1, 1, none⟩ (.slice (some ⟨w.heap.size + 4, 0, none⟩) zss.length zss.length)) O zss) := by
    have hh := HC.out
    refine ⟨((hB2.out.setCell (by show w.heap.size ≤ w.heap.size + 1 + 1; omega) _).setCell (by show w.heap.size ≤ w.heap.size + 1; omega) _).setCell (by show w.heap.size ≤ w.heap.size + 1; omega) _, by simp [hh.size], ?_, ?_, fun j hj => ?_⟩
    · exact ((hR2.out.setOther (by show w.heap.size + 3 ≠ w.heap.size + 1 + 1; omega) _).setOther (by show w.heap.size + 3 ≠ w.heap.size + 1; omega) _).setOther (by show w.heap.size + 3 ≠ w.heap.size + 1; omega) _
    · exact ((hh.top.setOther (by show w.heap.size + 4 ≠ w.heap.size + 1 + 1; omega) _).setOther (by show w.heap.size + 4 ≠ w.heap.size + 1; omega) _).setOther (by show w.heap.size + 4 ≠ w.heap.size + 1; omega) _
    · exact (((hh.done j hj).setOther (by show w.heap.size + 4 + 1 + j ≠ w.heap.size + 1 + 1; omega) _).setOther (by show w.heap.size + 4 + 1 + j ≠ w.heap.size + 1; omega) _).setOther (by show w.heap.size + 4 + 1 + j ≠ w.heap.size + 1; omega) _
  exact bodyPost_ret (v := .agg #[.slice (some ⟨w.heap.size + 1 + 1 + 1, 0, none⟩) O.length O.length, .slice (some ⟨w.heap.size + 4, 0, none⟩) zss.length zss.length]) (by simp [results, Tryd.results54, go_sem, c10, c11]) rfl ⟨rfl, hfin.out⟩

/-- The copy of an arena: it reads as the arena, and nothing that was there has turned. -/
theorem toArena_at {w : World} {v : Value} {O : List Int} {zss : List (List Int)} (h : ArenaAt w v O zss) (hn : zss.length ≤ 1048576) :
    Calls Tryd.prog 54 #[v] w fun e w' =>
      e = .returned (.agg #[.slice (some ⟨w.heap.size + 3, 0, none⟩) O.length O.length, .slice (some ⟨w.heap.size + 4, 0, none⟩) zss.length zss.length]) ∧ ArenaCopy w w' O zss ∧
      ArenaAt w' (.agg #[.slice (some ⟨w.heap.size + 3, 0, none⟩) O.length O.length, .slice (some ⟨w.heap.size + 4, 0, none⟩) zss.length zss.length]) O zss := by
  obtain ⟨ao, an, co, cn, A, C, rfl, h1, h2⟩ := h
  refine (toArena_any ao an O zss co cn A C w h1 h2 hn).mono fun e w' ⟨he, hc⟩ => ⟨he, hc, ?_⟩
  exact ⟨_, _, _, _, _, _, rfl, hc.ints h1, hc.rows h2⟩
end

section
open Go.RowKit

set_option maxHeartbeats 400000 in
theorem Index_is {a : Option Addr} {zs : List Int} {x i : Int} (hr : idx zs x = i) (cap : Nat) (w : World) (h : IntsAt w a zs) :
    Calls Tryd.prog 124 #[.slice a zs.length cap, .int .i64 x] w fun e w' => e = .returned (.int .i64 i) ∧ w = w' := by
  obtain ⟨hlen, _, hcell⟩ := h
  have HR := Lib.hid hr
  have HC := Lib.hid hcell
  clear hcell hr
  go_enter Tryd.func124, Tryd.ntmps124
  go_wp2
  go_loop [8] (fun i => ∃ k : Nat, k ≤ zs.length ∧ i = .int .i64 k ∧ Hid (∀ j, j < k → nth zs j ≠ x)) (fun i => zs.length - (intOf i).toNat)
  case atStart => exact ⟨0, Nat.zero_le _, rfl, fun j hj => absurd hj (Nat.not_lt_zero _)⟩
  case round =>
    obtain ⟨k, hk, rfl, HK⟩ := hrel
    by_cases hlt : k < zs.length
    · obtain ⟨b, off, ha, hc⟩ := HC.out (by omega)
      subst ha
      have hck := hc k hlt
      clear hc
      by_cases he : x = nth zs k
      · have HE : Hid ((k : Int) = i) := by rw [← HR.out]; exact (idx_at hlt he.symm HK.out).symm
        have he' : (x == nth zs k) = true := by simp [he]
        clear he
        go_wp2
        go_ret
        exact ⟨ret_i64 HE.out, rfl⟩
      · have HE : Hid (∀ j, j < k + 1 → nth zs j ≠ x) := fun j hj => by
          by_cases hj' : j < k
          · exact HK.out j hj'
          · obtain rfl : j = k := by omega
            exact fun e => he e.symm
        have he' : (x == nth zs k) = false := by simp [he]
        clear he
        go_wp2
        go_round
        case rel => exact ⟨k + 1, by omega, by go_num, HE⟩
        case measure => simp [intOf]; omega
    · have HE : Hid (i = -1) := by rw [← HR.out]; exact idx_none fun j hj => HK.out j (by omega)
      go_wp2
      go_ret
      exact ⟨ret_i64 HE.out.symm, rfl⟩

theorem idx_has (zs : List Int) (x : Int) : decide (0 ≤ idx zs x) = hasB zs x := by
  unfold idx hasB
  by_cases h : x ∈ zs
  · rw [if_pos h]; simp [h]
  · rw [if_neg h]; simp [h]

set_option maxHeartbeats 400000 in
theorem Contains_is {a : Option Addr} {zs : List Int} {x : Int} {r : Bool} (hr : hasB zs x = r) (cap : Nat) (w : World) (h : IntsAt w a zs) :
    Calls Tryd.prog 129 #[.slice a zs.length cap, .int .i64 x] w fun e w' => e = .returned (.bool r) ∧ w = w' := by
  obtain ⟨i, hi⟩ : ∃ i, idx zs x = i := ⟨_, rfl⟩
  have HE : Hid (decide (0 ≤ i) = r) := by rw [← hr, ← idx_has, hi]; rfl
  have HC := Lib.hid (Index_is hi cap w h)
  clear hr hi h
  go_enter Tryd.func129, Tryd.ntmps129
  go_wp2_with (go_at_call 124; refine HC.out.mono ?_; rintro e w' ⟨rfl, rfl⟩)
  go_ret
  exact ⟨ret_bool HE.out, rfl⟩

/-- Is v a vertex of an arena of n vertices? -/
def thereB (n : Nat) (v : Int) : Bool := decide (0 ≤ v ∧ v < n)

set_option maxHeartbeats 400000 in
theorem hasVertex_is {w : World} {va : Value} {O : List Int} {zss : List (List Int)} {x : Int} {r : Bool} (hr : thereB O.length x = r) (h : ArenaAt w va O zss) :
    Calls Tryd.prog 73 #[va, .int .i64 x] w fun e w' => e = .returned (.bool r) ∧ Below w.heap.size w w' := by
  obtain ⟨ao, an, co, cn, A, C, rfl, h1, h2⟩ := h
  have hl := h1.len
  clear h1 h2
  unfold thereB at hr
  by_cases h0 : 0 ≤ x
  · have HE : Hid (decide (x < O.length) = r) := by rw [← hr]; simp [Hid, h0]
    clear hr
    go_enter Tryd.func73, Tryd.ntmps73
    go_wp2
    go_ret
    exact ⟨ret_bool HE.out, below2 _ _ _⟩
  · have HE : Hid (r = false) := by rw [← hr]; simp [Hid, h0]
    clear hr
    go_enter Tryd.func73, Tryd.ntmps73
    go_wp2
    go_ret
    exact ⟨ret_bool HE.out.symm, below1 _ _⟩

set_option maxHeartbeats 1000000 in
theorem leads_is {w : World} {va : Value} {O : List Int} {zss : List (List Int)} {v : Nat} {u : Int} {r : Bool} (hr : hasB (row zss v) u = r) (hv : v < zss.length) (h : ArenaAt w va O zss) :
    Calls Tryd.prog 101 #[va, .int .i64 v, .int .i64 u] w fun e w' => e = .returned (.bool r) ∧ Below w.heap.size w w' := by
  obtain ⟨ao, an, co, cn, A, C, rfl, h1, h2⟩ := h
  have hlN := h2.len
  have hv0 : (0 : Int) ≤ (v : Int) := by omega
  have hv1 : (v : Int) < zss.length := by omega
  have B1 := Lib.hid (below1 w (.cells #[.slice ao O.length co, .slice an zss.length cn] 30))
  have b1 := Box2.new w 30 (.slice ao O.length co) (.slice an zss.length cn)
  have c1 := b1.cell1
  have N1 := Lib.hid (h2.below B1.out)
  obtain ⟨b, off, ha, hc⟩ := N1.out.cell (by omega)
  subst ha
  have hck := hc v hv
  have HH := Lib.hid (Contains_is hr (C v) _ (N1.out.rows v hv))
  clear hr h1 h2 hc b1
  go_enter Tryd.func101, Tryd.ntmps101
  go_wp2_with (go_at_call 129; refine HH.out.mono ?_; rintro e w' ⟨rfl, rfl⟩)
  go_ret
  exact ⟨rfl, B1.out⟩

end

section
section
open Go.RowKit

theorem OwnInts.mk' {w : World} {B : Nat} {v : Value} {zs : List Int} (h : w.ownsRow B 2 1 v zs.length (zs.map (Value.int .i64))) (hl : zs.length ≤ 17592186044416) (hf : ∀ k, k < zs.length → Fits (nth zs k)) : OwnInts w B w.heap.size v zs :=
  ⟨h, fun g hg => (h.lt g hg).2, hl, hf⟩
theorem ownsRow_base {w : World} {B B' : Nat} {e : TypeId} {size : Nat} {v : Value} {n : Nat} {xs : List Value} (h : w.ownsRow B e size v n xs) (hB : B' ≤ B) : w.ownsRow B' e size v n xs := by
  refine ⟨h.1, ?_⟩
  rcases h.2 with hn | ⟨g, cap, cur, hv, hb, r⟩
  · exact .inl hn
  · exact .inr ⟨g, cap, cur, hv, by omega, r⟩
theorem OwnInts.nil (w : World) (B D : Nat) : OwnInts w B D (.slice none 0 0) [] :=
  ⟨World.ownsRow_nil _ _ _ _, fun g hg => by simp [Value.ownBlock] at hg, by simp, fun k hk => absurd hk (by simp)⟩

/-- A call hands back a slice of its own that reads as zs, and nothing that was there has turned. -/
def GivesInts (w : World) (zs : List Int) (e : Ending) (w' : World) : Prop :=
  ∃ v, e = .returned v ∧ OwnInts w' w.heap.size w'.heap.size v zs ∧ Below w.heap.size w w'

/-- The predecessors of u among the first k vertices. -/
def predsK (zss : List (List Int)) (u : Int) : Nat → List Int
  | 0 => []
  | k + 1 => predsK zss u k ++ if hasB (row zss k) u then [(k : Int)] else []

theorem predsK_len (zss : List (List Int)) (u : Int) (k : Nat) : (predsK zss u k).length ≤ k := by
  induction k with
  | zero => simp [predsK]
  | succ k ih => simp only [predsK]; split <;> simp <;> omega

theorem predsK_mem (zss : List (List Int)) (u : Int) (k : Nat) : ∀ x ∈ predsK zss u k, 0 ≤ x ∧ x < k := by
  induction k with
  | zero => simp [predsK]
  | succ k ih =>
    intro x hx
    simp only [predsK, List.mem_append] at hx
    rcases hx with hx | hx
    · have := ih x hx; omega
    · split at hx
      · simp at hx; omega
      · simp at hx

theorem nth_mem {zs : List Int} {k : Nat} (h : k < zs.length) : nth zs k ∈ zs := by rw [nth_eq h]; exact List.getElem_mem _

end

section
open Go.RowKit

/-- n rows, row u is R u. -/
def rowsOf (n : Nat) (R : Nat → List Int) : List (List Int) := (List.range n).map R
theorem rowsOf_len (n : Nat) (R : Nat → List Int) : (rowsOf n R).length = n := by simp [rowsOf]
theorem rowsOf_row {n u : Nat} {R : Nat → List Int} (h : u < n) : row (rowsOf n R) u = R u := by simp [row, rowsOf, h]
/-- n rows in memory: the outer slice lies at the head of block g. -/
structure RowSet (w : World) (B g n : Nat) (V : Nat → Value) (R : Nat → List Int) : Prop where
  own : w.ownsRow B 22 1 (.slice (some ⟨g, 0, none⟩) n n) n ((List.range n).map V)
  rows : ∀ k, k < n → OwnInts w B w.heap.size (V k) (R k)
  apart : ∀ i j, i < n → j < n → i ≠ j → ∀ b, (V i).ownBlock = some b → (V j).ownBlock ≠ some b

theorem OwnInts.retop {w : World} {B D : Nat} {v : Value} {zs : List Int} (h : OwnInts w B D v zs) : OwnInts w B w.heap.size v zs := ⟨h.own, fun g hg => (h.own.lt g hg).2, h.len, h.fits⟩

theorem RowSet.put {w w1 : World} {B g n u : Nat} {V : Nat → Value} {R : Nat → List Int} (h : RowSet w B g n V R) (hu : u < n) {v' : Value} {zs' : List Int} (h1 : OwnInts w1 B w1.heap.size v' zs') (hg : Only (fun b => (V u).ownBlock = some b) w w1)
    (hw : v'.ownBlock = (V u).ownBlock ∨ ∃ X, v'.ownBlock = some X ∧ w.heap.size ≤ X) : RowSet (w1.setCell ⟨g, u, none⟩ v') B g n (fun i => if i = u then v' else V i) (fun i => if i = u then zs' else R i) := by
  have ho := ownsRow_only h.own hg (own_types h.own (h.rows u hu).own)
  obtain ⟨hs, hgr⟩ := ho.stored u v'
  have hS : Only (fun b => b = g) w1 (w1.setCell ⟨g, u, none⟩ v') := Only.setCell (S := fun b => b = g) (Only.refl _ _) (p := ⟨g, u, none⟩) rfl v'
  refine ⟨?_, fun k hk => ?_, fun i j hi hj hne b hb hb' => ?_⟩
  · have e : ((List.range n).map V).set u v' = (List.range n).map (fun i => if i = u then v' else V i) := by
      apply List.ext_getElem?
      intro i
      by_cases hi : i < n
      · by_cases e : i = u
        · subst e; simp [hi]
        · simp [hi, e, Ne.symm e]
      · simp [hi]
    rw [← e]; exact hs
  · by_cases e : k = u
    · subst e
      simp only [if_true]
      exact (h1.only hS (fun b hb e => own_types ho h1.own b (by simp [Value.ownBlock, e]) hb)).retop
    · simp only [if_neg e]
      have hr := (h.rows k hk).only hg (h.apart k u hk hu e)
      exact (hr.only hS (fun b hb e => own_types ho hr.own b (by simp [Value.ownBlock, e]) hb)).retop
  · have hlt : ∀ k, k < n → ∀ b, (V k).ownBlock = some b → b < w.heap.size := fun k hk b hb => ((h.rows k hk).own.lt b hb).2
    by_cases e : i = u
    · subst e
      simp only [if_true] at hb
      simp only [if_neg (Ne.symm hne)] at hb'
      rcases hw with hw | ⟨X, hX, hge⟩
      · rw [hw] at hb; exact h.apart i j hi hj hne b hb hb'
      · rw [hX] at hb; have := hlt j hj b hb'; simp at hb; omega
    · simp only [if_neg e] at hb
      by_cases e' : j = u
      · subst e'
        simp only [if_true] at hb'
        rcases hw with hw | ⟨X, hX, hge⟩
        · rw [hw] at hb'; exact h.apart i j hi hj hne b hb hb'
        · rw [hX] at hb'; have := hlt i hi b hb; simp at hb'; omega
      · simp only [if_neg e'] at hb'
        exact h.apart i j hi hj hne b hb hb'

theorem RowSet.congr {w : World} {B g n : Nat} {V : Nat → Value} {R R' : Nat → List Int} (h : RowSet w B g n V R) (e : ∀ u, u < n → R u = R' u) : RowSet w B g n V R' :=
  ⟨h.own, fun k hk => by rw [← e k hk]; exact h.rows k hk, h.apart⟩
theorem RowSet.below {w w' : World} {B g n : Nat} {V : Nat → Value} {R : Nat → List Int} (h : RowSet w B g n V R) (hb : Below w.heap.size w w') : RowSet w' B g n V R :=
  ⟨ownsRow_only h.own (S := fun _ => False) (Only.of_below hb) (fun _ _ h => h), fun k hk => ((h.rows k hk).below hb).retop, h.apart⟩
theorem RowSet.start (w : World) {B g : Nat} (hg : g = w.heap.size) (hB : B ≤ w.heap.size) (n : Nat) (hn : n ≤ maxLen) : RowSet (w.alloc (.cells (madeCells #[.slice none 0 0] n) 22)) B g n (fun _ => .slice none 0 0) (fun _ => []) := by
  subst hg
  exact ⟨ownsRow_of_rowIs (World.rowIs_made w (.slice none 0 0) n 22) hB hn, fun k _ => OwnInts.nil _ _ _, fun i j _ _ _ b hb => by simp [Value.ownBlock] at hb⟩
theorem RowSet.shape {w : World} {B g n u : Nat} {V : Nat → Value} {R : Nat → List Int} (h : RowSet w B g n V R) (hu : u < n) : V u = .slice (addrOf (V u)) (R u).length (capOf (V u)) ∧ w.cell? ⟨g, u, none⟩ = some (.slice (addrOf (V u)) (R u).length (capOf (V u))) ∧ w.frozen? ⟨g, u, none⟩ = false := by
  obtain ⟨a, cap, hv, _, _⟩ := (h.rows u hu).shape
  have e : V u = .slice (addrOf (V u)) (R u).length (capOf (V u)) := by rw [hv]; rfl
  refine ⟨e, ?_, h.own.frozenAt u⟩
  rw [h.own.cellAt u (by omega), ← e]
  simp [hu]

/-- A valid row's numbers rise and are vertices. -/
theorem setFrom_bounds (n : Int) : ∀ (zs : List Int) (l : Int), setFrom n l zs = true → ∀ k, k < zs.length → l < nth zs k ∧ nth zs k < n ∧ ∀ j, j < k → nth zs j < nth zs k
  | [], _, _, k, hk => absurd hk (by simp)
  | z :: r, l, h, k, hk => by
    simp only [setFrom, Bool.and_eq_true, decide_eq_true_eq] at h
    have ih := setFrom_bounds n r z h.2
    cases k with
    | zero => exact ⟨by simpa [nth] using h.1.1, by simpa [nth] using h.1.2, fun j hj => absurd hj (Nat.not_lt_zero _)⟩
    | succ k =>
      have hk' : k < r.length := by simpa using hk
      have := ih k hk'
      have e : nth (z :: r) (k + 1) = nth r k := by simp [nth]
      rw [e]
      refine ⟨by omega, this.2.1, fun j hj => ?_⟩
      cases j with
      | zero => have : nth (z :: r) 0 = z := by simp [nth]
                omega
      | succ j => have e' : nth (z :: r) (j + 1) = nth r j := by simp [nth]
                  rw [e']; exact this.2.2 j (by omega)

theorem setB_bounds {n : Int} {zs : List Int} (h : setB n zs = true) {k : Nat} (hk : k < zs.length) : 0 ≤ nth zs k ∧ nth zs k < n ∧ ∀ j, j < k → nth zs j < nth zs k := by
  have := setFrom_bounds n zs (-1) h k hk
  exact ⟨by omega, this.2.1, this.2.2⟩

/-- Row u when v vertices and i successors of v are through. -/
def partP (zss : List (List Int)) (v i u : Nat) : List Int := predsK zss u v ++ if ∃ j, j < i ∧ nth (row zss v) j = (u : Int) then [(v : Int)] else []

theorem partP_zero (zss : List (List Int)) (v u : Nat) : partP zss v 0 u = predsK zss u v := by simp [partP]
theorem partP_full (zss : List (List Int)) (v u : Nat) : partP zss v (row zss v).length u = predsK zss u (v + 1) := by
  simp only [partP, predsK]
  congr 1
  by_cases h : hasB (row zss v) u = true
  · rw [if_pos h, if_pos (mem_nth.1 (hasB_iff.1 h))]
  · rw [if_neg h, if_neg (fun hh => h (hasB_iff.2 (mem_nth.2 hh)))]
theorem partP_hit {zss : List (List Int)} {v i u : Nat} (hi : nth (row zss v) i = (u : Int)) (hj : ∀ j, j < i → nth (row zss v) j < nth (row zss v) i) : partP zss v (i + 1) u = partP zss v i u ++ [(v : Int)] ∧ partP zss v i u = predsK zss u v := by
  have h1 : ¬ ∃ j, j < i ∧ nth (row zss v) j = (u : Int) := fun ⟨j, h, e⟩ => by have := hj j h; omega
  have h2 : ∃ j, j < i + 1 ∧ nth (row zss v) j = (u : Int) := ⟨i, by omega, hi⟩
  simp only [partP]
  rw [if_neg h1, if_pos h2]
  simp
theorem partP_miss {zss : List (List Int)} {v i u u' : Nat} (hi : nth (row zss v) i = (u : Int)) (hne : u' ≠ u) : partP zss v (i + 1) u' = partP zss v i u' := by
  simp only [partP]
  congr 1
  by_cases h : ∃ j, j < i ∧ nth (row zss v) j = (u' : Int)
  · obtain ⟨j, h1, h2⟩ := h
    rw [if_pos ⟨j, by omega, h2⟩, if_pos ⟨j, h1, h2⟩]
  · rw [if_neg (c := ∃ j, j < i ∧ nth (row zss v) j = (u' : Int)) h, if_neg]
    rintro ⟨j, h1, h2⟩
    by_cases e : j = i
    · subst e; omega
    · exact h ⟨j, by omega, h2⟩

set_option maxHeartbeats 400000 in
theorem size_is (ao an : Option Addr) (n m co cn : Nat) (w : World) (_hn : n ≤ 17592186044416) :
    Calls Tryd.prog 64 #[.agg #[.slice ao n co, .slice an m cn]] w fun e w' => e = .returned (.int .i64 n) ∧ w.alloc (.cells #[.slice ao n co, .slice an m cn] 30) = w' := by
  go_enter Tryd.func64, Tryd.ntmps64
  go_wp2
  go_ret
  exact ⟨rfl, rfl⟩

end
end

section
open Go.RowKit

theorem wpList_append_nil {P : Program} {w : World} {ops : Array Oper} {rest : List Oper} {o : Oper} {a : Act} {Q : Exit → Act → World → Prop} (hgd : o.guard = none) (s x : Operand) (t : TypeId)
    (ho : o.op = .call { callee := .builtin .append, args := #[s, x], argTypes := #[t, t] })
    (base : Nat) (e : TypeId) (i : TypeInfo) (size : Nat) (ht : P.underlying t = some (.slice e)) (hi : P.info? e = some i)
    (v : Value) (n : Nat) (xs : List Value) (hs : a.eval s = v) (hown : w.ownsRow base e size v n xs) (c : Nat) (hx : a.eval x = .slice none 0 c)
    (h : wpList P ops Q rest (a.put o.dst v) w) : wpList P ops Q (o :: rest) a w := by
  refine wpList_plain hgd fun K hK => ?_
  have hrun : (Builtin.append_ #[t, t] o.type #[v, .slice none 0 c]).run P w = .ok v w := by
    rcases hown.2 with ⟨rfl, rfl⟩ | ⟨g, cap, cur, rfl, _, _, hnc, _⟩
    · simp [Builtin.append_, run_underlying ht, sizeOf, typeInfo, hi, Builtin.lenOf, Builtin.firstCells]
    · simp [Builtin.append_, run_underlying ht, sizeOf, typeInfo, hi, Builtin.lenOf, Builtin.firstCells, hnc, storeCells]
  unfold Oper.wp
  simp [execOp, ho, resolve, invoke, builtin, hs, hx, hrun, Result.andThen]
  exact hK _ _ h

theorem news_of {w : World} {ad : Addr} {zs : List Int} (h : IntsAt w (some ad) zs) : ∀ j u, (zs.map (Value.int .i64))[j]? = some u → w.cell? (ad.add j) = some u := by
  intro j u hu
  have hj : j < zs.length := by
    rcases Nat.lt_or_ge j zs.length with h | h
    · exact h
    · simp [h] at hu
  obtain ⟨b, off, ha, hc⟩ := h.cell (by omega)
  cases ha
  rw [Go.WideShapes.add_plain, hc j hj]
  simp [hj] at hu
  rw [← hu, nth_eq hj]

theorem one_of (zs : List Int) : ∀ u ∈ zs.map (Value.int .i64), u.oneCell' = true := by
  intro u hu
  obtain ⟨z, _, rfl⟩ := List.mem_map.1 hu
  rfl

set_option maxHeartbeats 1000000 in
theorem l1Copy_is {w : World} {a : Option Addr} {zs : List Int} (cap : Nat) (h : IntsAt w a zs) :
    Calls Tryd.prog 97 #[.slice a zs.length cap] w (GivesInts w zs) := by
  obtain ⟨i0, hi, hz0, hz1, hz2⟩ := info_parts info_int
  have hlen := h.len
  have HF := Lib.hid h.fits
  have oW : Hid ((w.alloc (.cells #[] 2)).ownsRow w.heap.size 2 1 (.slice (some ⟨w.heap.size, 0, none⟩) 0 0) 0 []) := World.ownsRow_made w #[] 0 (Nat.le_refl _) (by unfold maxLen; omega) rfl
  have hI := Lib.hid (h.alloc (.cells #[] 2))
  clear h
  cases a with
  | none =>
    have hz : zs = [] := List.length_eq_zero_iff.1 (by
      rcases Nat.eq_zero_or_pos zs.length with h | h
      · exact h
      · obtain ⟨b, off, ha, _⟩ := hI.out.cell h; cases ha)
    subst hz
    go_enter Tryd.func97, Tryd.ntmps97
    go_wp2_with (at_builtin; refine wpList_append_nil rfl _ _ 22 rfl w.heap.size 2 i0 1 Tryd.underlying22 hi _ _ _ rfl oW.out _ rfl ?_)
    go_ret
    exact ⟨_, rfl, OwnInts.mk' oW.out (by simp) (fun k hk => absurd hk (by simp)), below1 _ _⟩
  | some ad =>
    go_enter Tryd.func97, Tryd.ntmps97
    go_wp2_with (at_builtin; refine wpList_append_own _ rfl _ _ 22 rfl w.heap.size 2 i0 (.int .i64 0) 1 8 Tryd.underlying22 hi hz0 hz1 hz2 rfl (by decide) _ _ _ rfl oW.out ad zs.length cap (zs.map (Value.int .i64)) rfl (by simp) (news_of hI.out) (one_of zs) ?c3 ?c4 ?c5 ?_)
    case c3 => unfold maxLen; omega
    case c4 => omega
    case c5 => simp
    · intro v' w1 hown hgrow _
      have hfin : Hid (OwnInts w1 w.heap.size w1.heap.size v' zs ∧ Below w.heap.size w w1) := by
        exact ⟨OwnInts.mk' (by simpa using hown) hlen HF.out, (below1 w _).grown hgrow (by simp) (fun k hk => by simp [Value.ownBlock] at hk; omega)⟩
      clear hown hgrow
      go_wp2
      go_ret
      exact ⟨_, rfl, hfin.out⟩

set_option maxHeartbeats 1000000 in
set_option maxRecDepth 10000 in
theorem Clone_is {w : World} {a : Option Addr} {zs : List Int} (cap : Nat) (h : IntsAt w a zs) :
    Calls Tryd.prog 62 #[.slice a zs.length cap] w (GivesInts w zs) := by
  obtain ⟨i0, hi, hz0, hz1, hz2⟩ := info_parts info_int
  have hlen := h.len
  have HF := Lib.hid h.fits
  have oW : Hid ((w.alloc (.cells #[] 2)).ownsRow w.heap.size 2 1 (.slice (some ⟨w.heap.size, 0, none⟩) 0 0) 0 []) := World.ownsRow_made w #[] 0 (Nat.le_refl _) (by unfold maxLen; omega) rfl
  have hI := Lib.hid (h.alloc (.cells #[] 2))
  clear h
  cases a with
  | none =>
    have hz : zs = [] := List.length_eq_zero_iff.1 (by
      rcases Nat.eq_zero_or_pos zs.length with h | h
      · exact h
      · obtain ⟨b, off, ha, _⟩ := hI.out.cell h; cases ha)
    subst hz
    have hq : ∀ wx, (binOp .eql 22 (.slice none 0 cap) (.slice none 0 0)).run Tryd.prog wx = .ok (.bool true) wx := fun wx => Lib.run_eql_slice_nil wx 22 2 none 0 cap 0 0 Tryd.underlying22
    go_enter Tryd.func62, Tryd.ntmps62
    go_wp2
    go_ret
    exact ⟨_, rfl, OwnInts.nil _ _ _, Below.refl _ _⟩
  | some ad =>
    have hq : ∀ wx, (binOp .eql 22 (.slice (some ad) zs.length cap) (.slice none 0 0)).run Tryd.prog wx = .ok (.bool false) wx := fun wx => Lib.run_eql_slice_nil wx 22 2 (some ad) zs.length cap 0 0 Tryd.underlying22
    go_enter Tryd.func62, Tryd.ntmps62
    go_wp2_with (at_builtin; refine wpList_append_own _ rfl _ _ 22 rfl w.heap.size 2 i0 (.int .i64 0) 1 8 Tryd.underlying22 hi hz0 hz1 hz2 rfl (by decide) _ _ _ rfl oW.out ad zs.length cap (zs.map (Value.int .i64)) rfl (by simp) (news_of hI.out) (one_of zs) ?c3 ?c4 ?c5 ?_)
    case c3 => unfold maxLen; omega
    case c4 => omega
    case c5 => simp
    · intro v' w1 hown hgrow _
      have hfin : Hid (OwnInts w1 w.heap.size w1.heap.size v' zs ∧ Below w.heap.size w w1) := by
        exact ⟨OwnInts.mk' (by simpa using hown) hlen HF.out, (below1 w _).grown hgrow (by simp) (fun k hk => by simp [Value.ownBlock] at hk; omega)⟩
      clear hown hgrow
      go_wp2
      go_ret
      exact ⟨_, rfl, hfin.out⟩
end

section
open Go.RowKit

/-- What is left of 'left' behind n: -1 if there is not enough. -/
def leftOf (left : Int) (n : Nat) : Int := if left < n then -1 else left - n

theorem leftOf_no {left : Int} {n : Nat} (h : left < n) : leftOf left n = -1 := by simp [leftOf, h]
theorem leftOf_yes {left : Int} {n : Nat} (h : (n : Int) ≤ left) : leftOf left n = left - n := by unfold leftOf; rw [if_neg (by omega)]

/-- How many numbers the first k rows hold. -/
def sumLen (zss : List (List Int)) : Nat → Nat
  | 0 => 0
  | k + 1 => sumLen zss k + (row zss k).length

theorem sumLen_mono (zss : List (List Int)) {j k : Nat} (h : j ≤ k) : sumLen zss j ≤ sumLen zss k := by
  induction k with
  | zero => obtain rfl : j = 0 := by omega
            exact Nat.le_refl _
  | succ k ih =>
    by_cases e : j = k + 1
    · subst e; exact Nat.le_refl _
    · have := ih (by omega); simp only [sumLen]; omega


set_option maxHeartbeats 400000 in
theorem szInt64S_any (a : Option Addr) (n : Nat) (cap : Nat) (left : Int) (w : World) (_hn : n ≤ 17592186044416) (_h0 : -1048576 ≤ left) (_h1 : left ≤ 1048576) :
    Calls Tryd.prog 50 #[.slice a n cap, .int .i64 left] w fun e w' => e = .returned (.int .i64 (leftOf left n)) ∧ w = w' := by
  by_cases h : left < n
  · have HE := Lib.hid (leftOf_no h)
    go_enter Tryd.func50, Tryd.ntmps50
    go_wp2
    go_ret
    exact ⟨ret_i64 HE.out.symm, rfl⟩
  · have HE := Lib.hid (leftOf_yes (left := left) (n := n) (by omega))
    go_enter Tryd.func50, Tryd.ntmps50
    go_wp2
    go_ret
    exact ⟨ret_i64 HE.out.symm, rfl⟩

theorem szInt64S_no {a : Option Addr} {n : Nat} {left : Int} (h : left < n) (cap : Nat) (w : World) (hn : n ≤ 17592186044416) (h0 : -1048576 ≤ left) (h1 : left ≤ 1048576) :
    Calls Tryd.prog 50 #[.slice a n cap, .int .i64 left] w fun e w' => e = .returned (.int .i64 (-1)) ∧ w = w' := by
  have := szInt64S_any a n cap left w hn h0 h1
  rw [leftOf_no h] at this; exact this

theorem szInt64S_yes {a : Option Addr} {n : Nat} {left : Int} (h : (n : Int) ≤ left) (cap : Nat) (w : World) (hn : n ≤ 17592186044416) (h0 : -1048576 ≤ left) (h1 : left ≤ 1048576) :
    Calls Tryd.prog 50 #[.slice a n cap, .int .i64 left] w fun e w' => e = .returned (.int .i64 (left - n)) ∧ w = w' := by
  have := szInt64S_any a n cap left w hn h0 h1
  rw [leftOf_yes h] at this; exact this

set_option maxHeartbeats 1000000 in
theorem szInt64SS_any (a : Option Addr) (A : Nat → Option Addr) (C : Nat → Nat) (zss : List (List Int)) (cap : Nat) (left : Int) (w : World) (h : RowsAt w a A C zss) (_h0 : 0 ≤ left) (_h1 : left ≤ 1048576) :
    Calls Tryd.prog 38 #[.slice a zss.length cap, .int .i64 left] w fun e w' => e = .returned (.int .i64 (leftOf left (zss.length + sumLen zss zss.length))) ∧ w = w' := by
  have hlen := h.len
  have HR := Lib.hid h
  clear h
  by_cases hlt : left < zss.length
  · have HE := Lib.hid (leftOf_no (left := left) (n := zss.length + sumLen zss zss.length) (by omega))
    go_enter Tryd.func38, Tryd.ntmps38
    go_wp2
    go_ret
    exact ⟨ret_i64 HE.out.symm, rfl⟩
  · go_enter Tryd.func38, Tryd.ntmps38
    go_wp2
    go_loop [1, 5] (fun l i => ∃ (k : Nat) (x : Int), k ≤ zss.length ∧ i = .int .i64 k ∧ l = .int .i64 x ∧ 0 ≤ x ∧ x ≤ 1048576 ∧ Hid (x = left - zss.length - sumLen zss k)) (fun _ i => zss.length - (intOf i).toNat)
    case atStart => exact ⟨0, _, Nat.zero_le _, rfl, rfl, by omega, by omega, by simp [Hid, sumLen]⟩
    case round =>
      obtain ⟨k, x, hk, rfl, rfl, hx0, hx1, HX⟩ := hrel
      by_cases hkl : k < zss.length
      · obtain ⟨b, off, ha, hc⟩ := HR.out.cell (by omega)
        subst ha
        have hck := hc k hkl
        clear hc
        have hrl := (HR.out.rows k hkl).len
        by_cases hfit : ((row zss k).length : Int) ≤ x
        · have HC := Lib.hid (szInt64S_yes (a := A k) hfit (C k) w hrl (by omega) (by omega))
          have HX' : Hid (x - (row zss k).length = left - zss.length - sumLen zss (k + 1)) := by have := HX.out; simp only [Hid, sumLen]; omega
          go_wp2_with (go_at_call 50; refine HC.out.mono ?_; rintro e w' ⟨rfl, rfl⟩)
          go_round
          case rel => exact ⟨k + 1, _, by omega, by go_num, rfl, by omega, by omega, HX'⟩
          case measure => simp [intOf]; omega
        · have HC := Lib.hid (szInt64S_no (a := A k) (left := x) (n := (row zss k).length) (by omega) (C k) w hrl (by omega) (by omega))
          have HE : Hid (leftOf left (zss.length + sumLen zss zss.length) = -1) := leftOf_no (by
            have h1 := sumLen_mono zss (show k + 1 ≤ zss.length by omega)
            have h2 := HX.out
            simp only [sumLen] at h1
            omega)
          go_wp2_with (go_at_call 50; refine HC.out.mono ?_; rintro e w' ⟨rfl, rfl⟩)
          go_ret
          exact ⟨ret_i64 HE.out.symm, rfl⟩
      · have HE : Hid (x = leftOf left (zss.length + sumLen zss zss.length)) := by
          have h2 := HX.out
          obtain rfl : k = zss.length := by omega
          rw [leftOf_yes (by omega)]; simp only [Hid]; omega
        go_wp2
        go_ret
        exact ⟨ret_i64 HE.out, rfl⟩

theorem szInt64SS_no {a : Option Addr} {A : Nat → Option Addr} {C : Nat → Nat} {zss : List (List Int)} {left : Int} (hlt : left < ((zss.length + sumLen zss zss.length : Nat) : Int)) (cap : Nat) (w : World) (h : RowsAt w a A C zss) (h0 : 0 ≤ left) (h1 : left ≤ 1048576) :
    Calls Tryd.prog 38 #[.slice a zss.length cap, .int .i64 left] w fun e w' => e = .returned (.int .i64 (-1)) ∧ w = w' := by
  have := szInt64SS_any a A C zss cap left w h h0 h1
  rw [leftOf_no hlt] at this; exact this

theorem szInt64SS_yes {a : Option Addr} {A : Nat → Option Addr} {C : Nat → Nat} {zss : List (List Int)} {left : Int} (hle : ((zss.length + sumLen zss zss.length : Nat) : Int) ≤ left) (cap : Nat) (w : World) (h : RowsAt w a A C zss) (h0 : 0 ≤ left) (h1 : left ≤ 1048576) :
    Calls Tryd.prog 38 #[.slice a zss.length cap, .int .i64 left] w fun e w' => e = .returned (.int .i64 (left - (zss.length + sumLen zss zss.length : Nat))) ∧ w = w' := by
  have := szInt64SS_any a A C zss cap left w h h0 h1
  rw [leftOf_yes hle] at this; exact this

/-- How many places an arena takes. -/
def sizeArena (O : List Int) (zss : List (List Int)) : Nat := O.length + (zss.length + sumLen zss zss.length)

set_option maxHeartbeats 1000000 in
theorem szArena_any (ao an : Option Addr) (O : List Int) (zss : List (List Int)) (co cn : Nat) (A : Nat → Option Addr) (C : Nat → Nat) (left : Int) (w : World) (hO : IntsAt w ao O) (hN : RowsAt w an A C zss) (_h0 : 0 ≤ left) (_h1 : left ≤ 1048576) :
    Calls Tryd.prog 49 #[.agg #[.slice ao O.length co, .slice an zss.length cn], .int .i64 left] w fun e w' => e = .returned (.int .i64 (leftOf left (sizeArena O zss))) ∧ Below w.heap.size w w' := by
  have hlO := hO.len
  have HN := Lib.hid hN
  clear hO hN
  by_cases h1 : left < O.length
  · have HC := Lib.hid (szInt64S_no (a := ao) h1 co (w.alloc (.cells #[.slice ao O.length co, .slice an zss.length cn] 25)) hlO (by omega) (by omega))
    have HE : Hid (leftOf left (sizeArena O zss) = -1) := leftOf_no (by unfold sizeArena; omega)
    go_enter Tryd.func49, Tryd.ntmps49
    go_wp2_with (go_at_call 50; refine HC.out.mono ?_; rintro e w' ⟨rfl, rfl⟩)
    go_ret
    exact ⟨ret_i64 HE.out.symm, below1 _ _⟩
  · have HC := Lib.hid (szInt64S_yes (a := ao) (left := left) (n := O.length) (by omega) co (w.alloc (.cells #[.slice ao O.length co, .slice an zss.length cn] 25)) hlO (by omega) (by omega))
    have hx0 : 0 ≤ left - O.length := by omega
    have hx1 : left - O.length ≤ 1048576 := by omega
    by_cases h2 : left - O.length < ((zss.length + sumLen zss zss.length : Nat) : Int)
    · have HC' := Lib.hid (szInt64SS_no h2 cn (w.alloc (.cells #[.slice ao O.length co, .slice an zss.length cn] 25)) (HN.out.alloc _) hx0 hx1)
      have HE : Hid (leftOf left (sizeArena O zss) = -1) := leftOf_no (by unfold sizeArena; omega)
      clear h2
      go_enter Tryd.func49, Tryd.ntmps49
      go_wp2_with (first | (go_at_call 50; refine HC.out.mono ?_; rintro e w' ⟨rfl, rfl⟩) | (go_at_call 38; refine HC'.out.mono ?_; rintro e w' ⟨rfl, rfl⟩))
      go_ret
      exact ⟨ret_i64 HE.out.symm, below1 _ _⟩
    · have HC' := Lib.hid (szInt64SS_yes (left := left - O.length) (zss := zss) (by omega) cn (w.alloc (.cells #[.slice ao O.length co, .slice an zss.length cn] 25)) (HN.out.alloc _) hx0 hx1)
      have HE : Hid (left - O.length - ((zss.length + sumLen zss zss.length : Nat) : Int) = leftOf left (sizeArena O zss)) := by
        rw [leftOf_yes (by unfold sizeArena; omega)]; unfold sizeArena Hid; omega
      obtain ⟨m, hm⟩ : ∃ m, m = left - O.length - ((zss.length + sumLen zss zss.length : Nat) : Int) := ⟨_, rfl⟩
      have hm0 : 0 ≤ m := by omega
      rw [← hm] at HC' HE
      clear h2 hm
      go_enter Tryd.func49, Tryd.ntmps49
      go_wp2_with (first | (go_at_call 50; refine HC.out.mono ?_; rintro e w' ⟨rfl, rfl⟩) | (go_at_call 38; refine HC'.out.mono ?_; rintro e w' ⟨rfl, rfl⟩))
      go_ret
      exact ⟨ret_i64 HE.out, below1 _ _⟩

theorem szArena_at {w : World} {v : Value} {O : List Int} {zss : List (List Int)} {left r : Int} (hr : leftOf left (sizeArena O zss) = r) (h : ArenaAt w v O zss) (h0 : 0 ≤ left) (h1 : left ≤ 1048576) :
    Calls Tryd.prog 49 #[v, .int .i64 left] w fun e w' => e = .returned (.int .i64 r) ∧ Below w.heap.size w w' := by
  obtain ⟨ao, an, co, cn, A, C, rfl, h2, h3⟩ := h
  subst hr
  exact szArena_any ao an O zss co cn A C left w h2 h3 h0 h1

end

section
open Go.RowKit

theorem ArenaCopy.owned {w w' w0 : World} {v : Value} {O : List Int} {zss : List (List Int)} (h : ArenaCopy w w' O zss) (hA : ArenaAt w0 v O zss) :
    OwnArena w' w.heap.size w'.heap.size (.agg #[.slice (some ⟨w.heap.size + 3, 0, none⟩) O.length O.length, .slice (some ⟨w.heap.size + 4, 0, none⟩) zss.length zss.length]) O zss := by
  obtain ⟨ao, an, co, cn, A, C, _, hO, hN⟩ := hA
  have hs := h.size
  refine ⟨_, _, outer (w.heap.size + 4) zss zss.length, rfl, OwnInts.of_rowIs h.owner (by omega) (by omega) hO.len hO.fits, ⟨ownsRow_of_rowIs h.top (by omega) (by have := hN.len; unfold maxLen; omega), fun g hg => by simp [Value.ownBlock] at hg; omega, hN.len, fun k hk => ?_, fun i j hi hj hne g hg hg' => ?_⟩, fun k hk g hg hg' => ?_⟩
  · have e : outer (w.heap.size + 4) zss zss.length k = .slice (some ⟨w.heap.size + 4 + 1 + k, 0, none⟩) (row zss k).length (row zss k).length := by simp only [outer]; rw [if_pos hk]
    rw [e]
    exact OwnInts.of_rowIs (h.done k hk) (by omega) (by omega) (hN.rows k hk).len (hN.rows k hk).fits
  · simp only [outer] at hg hg'
    rw [if_pos hi] at hg
    rw [if_pos hj] at hg'
    simp [Value.ownBlock] at hg hg'
    omega
  · simp only [outer] at hg
    rw [if_pos hk] at hg
    simp [Value.ownBlock] at hg hg'
    omega

/-- n marks from k on. -/
def marks (k : Int) (n : Nat) : List Int := (List.range n).map fun i : Nat => k + (i : Int)
theorem marks_len (k : Int) (n : Nat) : (marks k n).length = n := by simp [marks]
theorem marks_nth {k : Int} {n i : Nat} (h : i < n) : nth (marks k n) i = k + i := by simp [nth, marks, h]

theorem list_ext {xs ys : List Int} (hl : xs.length = ys.length) (h : ∀ i, i < xs.length → nth xs i = nth ys i) : xs = ys := by
  apply List.ext_getElem hl
  intro i h1 h2
  have := h i h1
  rwa [nth_eq h1, nth_eq h2] at this

theorem nth_set {zs : List Int} {j i : Nat} {x : Int} (hj : j < zs.length) : nth (zs.set j x) i = if i = j then x else nth zs i := by
  unfold nth
  simp only [List.getD, List.getElem?_set]
  by_cases e : j = i
  · subst e; simp [hj]
  · rw [if_neg e, if_neg (fun h => e h.symm)]

theorem OwnInts.store {w : World} {B D g n cap : Nat} {zs : List Int} (h : OwnInts w B D (.slice (some ⟨g, 0, none⟩) n cap) zs) (hn : n = zs.length) {j : Nat} (_hj : j < zs.length) {x : Int} (hx : Fits x) :
    OwnInts (w.setCell ⟨g, j, none⟩ (.int .i64 x)) B D (.slice (some ⟨g, 0, none⟩) n cap) (zs.set j x) := by
  subst hn
  have ho := h.own
  obtain ⟨h1, _⟩ := ho.stored j (.int .i64 x)
  refine ⟨?_, h.top, by simpa using h.len, fun k hk => ?_⟩
  · rw [← List.map_set] at h1
    simpa using h1
  · rw [nth_set _hj]
    split
    · exact hx
    · exact h.fits k (by simpa using hk)

set_option maxHeartbeats 1000000 in
theorem markInt64S_is {w : World} {B D : Nat} {v : Value} {zs : List Int} (h : OwnInts w B D v zs) (k : Int) (_h0 : 0 ≤ k) (_h1 : k ≤ 1152921504606846976) :
    Calls Tryd.prog 24 #[v, .int .i64 k] w fun e w' => e = .returned (.int .i64 (k + zs.length)) ∧ OwnInts w' B D v (marks k zs.length) ∧ Only (fun b => v.ownBlock = some b) w w' := by
  obtain ⟨a, cap, hv, hI, hg⟩ := h.shape
  have hlen := h.len
  have HG := Lib.hid hg
  have HH : Hid (∃ zs', zs'.length = zs.length ∧ OwnInts w B D v zs' ∧ ∀ i, i < 0 → nth zs' i = k + i) := ⟨zs, rfl, h, fun i hi => absurd hi (Nat.not_lt_zero _)⟩
  have HV := Lib.hid hv
  clear h hI hg
  rw [hv]
  rw [hv] at HH HG
  have HO : Hid (Only (fun b => (Value.slice a zs.length cap).ownBlock = some b) w w) := Only.refl _ _
  clear hv
  go_enter Tryd.func24, Tryd.ntmps24
  go_wp2
  go_loopw [1, 5] (fun x i wr => ∃ j : Nat, j ≤ zs.length ∧ i = .int .i64 j ∧ x = .int .i64 (k + j) ∧ Hid (∃ zs', zs'.length = zs.length ∧ OwnInts wr B D (.slice a zs.length cap) zs' ∧ ∀ i, i < j → nth zs' i = k + i) ∧ Hid (Only (fun b => (Value.slice a zs.length cap).ownBlock = some b) w wr))
    (fun _ i _ => zs.length - (intOf i).toNat)
  case atStart => exact ⟨0, Nat.zero_le _, rfl, by simp, HH, HO⟩
  case round =>
    clear HH HO
    obtain ⟨j, hj, rfl, rfl, HH, HO⟩ := hrel
    by_cases hlt : j < zs.length
    · obtain ⟨g, ha, hgB, hgD, hgo, hfr⟩ := HG.out (by omega)
      subst ha
      have hHn : Hid (∃ zs', zs'.length = zs.length ∧ OwnInts (wr.setCell ⟨g, j, none⟩ (.int .i64 (k + j))) B D (.slice (some ⟨g, 0, none⟩) zs.length cap) zs' ∧ ∀ i, i < j + 1 → nth zs' i = k + i) := by
        obtain ⟨zs', hl, ho, hm⟩ := HH.out
        refine ⟨zs'.set j (k + j), by simpa using hl, ho.store hl.symm (by omega) (by unfold Fits; omega), fun i hi => ?_⟩
        rw [nth_set (by omega)]
        by_cases e : i = j
        · subst e; simp
        · rw [if_neg e]; exact hm i (by omega)
      have hOn : Hid (Only (fun b => (Value.slice (some ⟨g, 0, none⟩) zs.length cap).ownBlock = some b) w (wr.setCell ⟨g, j, none⟩ (.int .i64 (k + j)))) := HO.out.setCell (by simp [Value.ownBlock]) _
      obtain ⟨c, hc⟩ : ∃ c, wr.cell? ⟨g, j, none⟩ = some c := by
        obtain ⟨zs', hl, ho, hm⟩ := HH.out
        have ho' := ho.own
        rw [hl] at ho'
        exact ⟨_, (ho'.cellAt j (by omega)).trans (by simp [hl, hlt]; rfl)⟩
      have hf : wr.frozen? ⟨g, j, none⟩ = false := by
        obtain ⟨zs', hl, ho, hm⟩ := HH.out
        have ho' := ho.own
        rw [hl] at ho'
        exact ho'.frozenAt j
      clear hgo hfr
      go_wp2
      go_roundw
      case rel => exact ⟨j + 1, by omega, by go_num, by go_num, hHn, hOn⟩
      case measure => simp [intOf]; omega
    · have hjj : j = zs.length := by omega
      have HE : Hid (OwnInts wr B D (.slice a zs.length cap) (marks k zs.length)) := by
        obtain ⟨zs', hl, ho, hm⟩ := HH.out
        have : zs' = marks k zs.length := list_ext (by rw [hl, marks_len]) fun i hi => by rw [hm i (by omega), marks_nth (by omega)]
        rw [← this]; exact ho
      have HX : Hid (k + (j : Int) = k + (zs.length : Int)) := by rw [hjj]; rfl
      clear hjj
      go_wp2
      go_ret
      exact ⟨ret_i64 HX.out, HE.out, HO.out⟩

set_option maxHeartbeats 400000 in
theorem heldInt64S_is {w : World} {a : Option Addr} {zs : List Int} (k : Int) (cap : Nat) (h : IntsAt w a (marks k zs.length)) (_h0 : 0 ≤ k) (_h1 : k ≤ 1152921504606846976) :
    Calls Tryd.prog 31 #[.slice a zs.length cap, .int .i64 k] w fun e w' => e = .returned (.int .i64 (k + zs.length)) ∧ w = w' := by
  have hlen := h.len
  rw [marks_len] at hlen
  have HC := Lib.hid h.cell
  clear h
  go_enter Tryd.func31, Tryd.ntmps31
  go_wp2
  go_loop [1, 5] (fun x i => ∃ j : Nat, j ≤ zs.length ∧ i = .int .i64 j ∧ x = .int .i64 (k + j)) (fun _ i => zs.length - (intOf i).toNat)
  case atStart => exact ⟨0, Nat.zero_le _, rfl, by simp⟩
  case round =>
    obtain ⟨j, hj, rfl, rfl⟩ := hrel
    by_cases hlt : j < zs.length
    · obtain ⟨b, off, ha, hc⟩ := HC.out (by rw [marks_len]; omega)
      subst ha
      have hck := hc j (by rw [marks_len]; exact hlt)
      rw [marks_nth hlt] at hck
      clear hc
      have hn : (k + (j : Int) != k + (j : Int)) = false := by simp
      go_wp2
      go_round
      case rel => exact ⟨j + 1, by omega, by go_num, by go_num⟩
      case measure => simp [intOf]; omega
    · have HX : Hid (k + (j : Int) = k + (zs.length : Int)) := by have : j = zs.length := by omega
                                                                  rw [this]; rfl
      go_wp2
      go_ret
      exact ⟨ret_i64 HX.out, rfl⟩

/-- The rows' marks, from k on. -/
def markRows (k : Int) (zss : List (List Int)) : List (List Int) := (List.range zss.length).map fun j : Nat => marks (k + (sumLen zss j : Int)) (row zss j).length
theorem markRows_len (k : Int) (zss : List (List Int)) : (markRows k zss).length = zss.length := by simp [markRows]
theorem markRows_row {k : Int} {zss : List (List Int)} {j : Nat} (h : j < zss.length) : row (markRows k zss) j = marks (k + (sumLen zss j : Int)) (row zss j).length := by simp [row, markRows, h]

/-- j of the rows are marked. -/
structure Half (w wr : World) (B D : Nat) (v : Value) (V : Nat → Value) (zss : List (List Int)) (k : Int) (j : Nat) : Prop where
  own : wr.ownsRow B 22 1 v zss.length ((List.range zss.length).map V)
  done : ∀ i, i < j → i < zss.length → OwnInts wr B D (V i) (marks (k + (sumLen zss i : Int)) (row zss i).length)
  todo : ∀ i, j ≤ i → i < zss.length → OwnInts wr B D (V i) (row zss i)
  only : Only (fun b => ∃ i, i < zss.length ∧ (V i).ownBlock = some b) w wr

theorem Half.step {w wr w1 : World} {B D : Nat} {v : Value} {V : Nat → Value} {zss : List (List Int)} {k : Int} {j : Nat} (h : Half w wr B D v V zss k j) (hj : j < zss.length)
    (ap : ∀ i j, i < zss.length → j < zss.length → i ≠ j → ∀ g, (V i).ownBlock = some g → (V j).ownBlock ≠ some g)
    (h1 : OwnInts w1 B D (V j) (marks (k + (sumLen zss j : Int)) (row zss j).length)) (h2 : Only (fun b => (V j).ownBlock = some b) wr w1) : Half w w1 B D v V zss k (j + 1) := by
  refine ⟨ownsRow_only h.own h2 (own_types h.own (h.todo j (Nat.le_refl _) hj).own), fun i hi hin => ?_, fun i hi hin => (h.todo i (by omega) hin).only h2 (ap i j hin hj (by omega)), h.only.trans (h2.mono fun b hb => ⟨j, hj, hb⟩)⟩
  by_cases e : i = j
  · subst e; exact h1
  · exact (h.done i (by omega) hin).only h2 (ap i j hin hj e)

set_option maxHeartbeats 1000000 in
theorem markInt64SS_is {w : World} {B D : Nat} {v : Value} {V : Nat → Value} {zss : List (List Int)} (h : OwnRows w B D v V zss) (k : Int) (_h0 : 0 ≤ k) (_h1 : k ≤ 1099511627776) (_h2 : sumLen zss zss.length ≤ 1099511627776) :
    Calls Tryd.prog 47 #[v, .int .i64 k] w fun e w' => e = .returned (.int .i64 (k + sumLen zss zss.length)) ∧ OwnRows w' B D v V (markRows k zss) ∧ Only (fun b => ∃ i, i < zss.length ∧ (V i).ownBlock = some b) w w' := by
  obtain ⟨a, cap, hv, hI, hVs⟩ := h.shape
  have hlen := h.len
  have HA := Lib.hid h.apart
  have HT := Lib.hid h.top
  have HX := Lib.hid hVs
  have HH : Hid (Half w w B D v V zss k 0) := ⟨h.own, fun i hi => absurd hi (Nat.not_lt_zero _), fun i _ hi => h.rows i hi, Only.refl _ _⟩
  clear h hI hVs
  subst hv
  go_enter Tryd.func47, Tryd.ntmps47
  go_wp2
  go_loopw [1, 5] (fun x i wr => ∃ (j : Nat) (m : Int), j ≤ zss.length ∧ i = .int .i64 j ∧ x = .int .i64 m ∧ 0 ≤ m ∧ m ≤ 2199023255552 ∧ Hid (m = k + sumLen zss j) ∧ Hid (Half w wr B D (.slice a zss.length cap) V zss k j)) (fun _ i _ => zss.length - (intOf i).toNat)
  case atStart => exact ⟨0, k, Nat.zero_le _, rfl, rfl, by omega, by omega, by simp [Hid, sumLen], HH⟩
  case round =>
    clear HH
    obtain ⟨j, m, hj, rfl, rfl, hm0, hm1, HM, HH⟩ := hrel
    by_cases hlt : j < zss.length
    · have hsl := sumLen_mono zss (show j + 1 ≤ zss.length from hlt)
      have HM' : Hid (m + ((row zss j).length : Int) = k + sumLen zss (j + 1)) := by have := HM.out; simp only [Hid, sumLen]; omega
      have hm2 : m + ((row zss j).length : Int) ≤ 2199023255552 := by have := HM'.out; omega
      clear hsl
      have hVj := HX.out j hlt
      obtain ⟨g, ha⟩ : ∃ g, a = some ⟨g, 0, none⟩ := by
        rcases HH.out.own.2 with ⟨hv, h0⟩ | ⟨g, cap', cur, hv, _⟩
        · omega
        · simp only [Value.slice.injEq] at hv
          exact ⟨g, hv.1⟩
      subst ha
      have hck : wr.cell? ⟨g, j, none⟩ = some (.slice (addrOf (V j)) (row zss j).length (capOf (V j))) := by
        rw [HH.out.own.cellAt j (by omega), ← hVj]
        simp [hlt]
      have hmk := markInt64S_is (HH.out.todo j (Nat.le_refl _) hlt) m hm0 (by omega)
      rw [hVj] at hmk
      have HK := Lib.hid hmk
      have HVj := Lib.hid hVj
      clear hmk hVj
      go_wp2_with (go_at_call 24; refine HK.out.mono ?_; rintro e w1 ⟨rfl, h1, h2⟩; rw [← HVj.out] at h1 h2; rw [HM.out] at h1; have HN := Lib.hid (HH.out.step hlt HA.out h1 h2); clear h1 h2)
      go_roundw
      case rel => exact ⟨j + 1, _, by omega, by go_num, rfl, by omega, hm2, HM', HN⟩
      case measure => simp [intOf]; omega
    · have hjj : j = zss.length := by omega
      have HE : Hid (OwnRows wr B D (.slice a zss.length cap) V (markRows k zss)) := by
        subst hjj
        refine ⟨by rw [markRows_len]; exact HH.out.own, HT.out, by rw [markRows_len]; exact hlen, fun i hi => ?_, fun i j hi hj => ?_⟩
        · rw [markRows_len] at hi
          rw [markRows_row hi]
          exact HH.out.done i hi hi
        · rw [markRows_len] at hi hj
          exact HA.out i j hi hj
      have HY : Hid (m = k + (sumLen zss zss.length : Int)) := by rw [← hjj]; exact HM.out
      clear hjj
      go_wp2
      go_ret
      exact ⟨ret_i64 HY.out, HE.out, HH.out.only⟩

end

section
section
open Go.RowKit

theorem row_snoc {zss : List (List Int)} {zs : List Int} : row (zss ++ [zs]) zss.length = zs := by simp [row]
theorem row_snoc_old {zss : List (List Int)} {zs : List Int} {k : Nat} (h : k < zss.length) : row (zss ++ [zs]) k = row zss k := by simp [row, List.getElem?_append_left h]

/-- A row is appended: behind the outer append. -/
theorem OwnRows.push {w w1 : World} {B D D' : Nat} {v v' u : Value} {V : Nat → Value} {zss : List (List Int)} {zs : List Int} (h : OwnRows w B D v V zss) (hu : OwnInts w B D' u zs) (hap : ∀ i, i < zss.length → ∀ g, u.ownBlock = some g → (V i).ownBlock ≠ some g)
    (ho : w1.ownsRow B 22 1 v' (zss.length + 1) ((List.range zss.length).map V ++ [u])) (hg : Only (fun b => v.ownBlock = some b) w w1) (hl : zss.length + 1 ≤ 17592186044416) :
    OwnRows w1 B w1.heap.size v' (fun i => if i = zss.length then u else V i) (zss ++ [zs]) := by
  refine ⟨?_, fun g hg => (ho.lt g hg).2, by simpa using hl, fun k hk => ?_, fun i j hi hj hne g hg1 hg2 => ?_⟩
  · have e : (List.range (zss ++ [zs]).length).map (fun i => if i = zss.length then u else V i) = (List.range zss.length).map V ++ [u] := by
      simp only [List.length_append, List.length_cons, List.length_nil, List.range_succ, List.map_append, List.map_cons, List.map_nil, Nat.zero_add, if_true]
      congr 1
      exact List.map_congr_left fun i hi => by rw [if_neg (by have := List.mem_range.1 hi; omega)]
    rw [e]
    simpa using ho
  · by_cases e : k = zss.length
    · subst e
      simp only [if_true]
      rw [row_snoc]
      exact (hu.only hg (fun g h1 h2 => own_types h.own hu.own g h2 h1)).retop
    · have hk' : k < zss.length := by simp at hk; omega
      simp only [if_neg e]
      rw [row_snoc_old hk']
      exact ((h.rows k hk').only hg (fun g h1 h2 => own_types h.own (h.rows k hk').own g h2 h1)).retop
  · simp only [List.length_append, List.length_cons, List.length_nil] at hi hj
    by_cases e : i = zss.length
    · subst e
      simp only [if_true] at hg1
      simp only [if_neg (Ne.symm hne)] at hg2
      exact hap j (by omega) g hg1 hg2
    · simp only [if_neg e] at hg1
      by_cases e' : j = zss.length
      · subst e'
        simp only [if_true] at hg2
        exact hap i (by omega) g hg2 hg1
      · simp only [if_neg e'] at hg2
        exact h.apart i j (by omega) (by omega) hne g hg1 hg2

theorem OwnRows.nil (w : World) (B D : Nat) : OwnRows w B D (.slice none 0 0) (fun _ => .slice none 0 0) [] :=
  ⟨World.ownsRow_nil _ _ _ _, fun g hg => by simp [Value.ownBlock] at hg, by simp, fun k hk => absurd hk (by simp), fun i j hi => absurd hi (by simp)⟩
theorem OwnRows.retop {w : World} {B D : Nat} {v : Value} {V : Nat → Value} {zss : List (List Int)} (h : OwnRows w B D v V zss) : OwnRows w B w.heap.size v V zss :=
  ⟨h.own, fun g hg => (h.own.lt g hg).2, h.len, fun k hk => (h.rows k hk).retop, h.apart⟩
theorem OwnInts.base {w : World} {B B' D : Nat} {v : Value} {zs : List Int} (h : OwnInts w B D v zs) (hB : B' ≤ B) : OwnInts w B' D v zs := ⟨ownsRow_base h.own hB, h.top, h.len, h.fits⟩
theorem OwnRows.base {w : World} {B B' D : Nat} {v : Value} {V : Nat → Value} {zss : List (List Int)} (h : OwnRows w B D v V zss) (hB : B' ≤ B) : OwnRows w B' D v V zss :=
  ⟨ownsRow_base h.own hB, h.top, h.len, fun k hk => (h.rows k hk).base hB, h.apart⟩
theorem Only.of_grown {w w' : World} {r : Option Nat} (h : w.grownBy w' r) : Only (fun b => r = some b) w w' := ⟨h.os, h.tape, h.output, h.size, fun b hb hne => h.block b hb (fun e => hne e.symm)⟩

theorem take_snoc_rows {zss : List (List Int)} {k : Nat} (h : k < zss.length) : zss.take (k + 1) = zss.take k ++ [row zss k] := by
  rw [List.take_succ_eq_append_getElem h, row_eq h]

theorem Box2.not_own {w : World} {g : Nat} {t e : TypeId} {u v x : Value} {B size n : Nat} {xs : List Value} (h : Box2 w g t u v) (ho : w.ownsRow B e size x n xs) (hte : e ≠ t) : x.ownBlock ≠ some g := by
  intro hx
  rcases ho.2 with ⟨rfl, _⟩ | ⟨g1, _, _, rfl, _, h1, _⟩
  · simp [Value.ownBlock] at hx
  · simp [Value.ownBlock] at hx
    subst hx
    unfold Box2 at h
    rw [h] at h1
    simp at h1
    exact hte h1.2.symm

theorem Box2.only {w w' : World} {g : Nat} {t : TypeId} {u v : Value} {S : Nat → Prop} (h : Box2 w g t u v) (hk : Only S w w') (hs : ¬ S g) : Box2 w' g t u v := (hk.block g h.lt hs).trans h

/-- A struct's own box behind an append that wrote the row x. -/
theorem Box2.grown {w w' : World} {g : Nat} {t e : TypeId} {u v x : Value} {B size n : Nat} {xs : List Value} (h : Box2 w g t u v) (ho : w.ownsRow B e size x n xs) (hte : e ≠ t) (hg : w.grownBy w' x.ownBlock) : Box2 w' g t u v :=
  h.only (Only.of_grown hg) (h.not_own ho hte)

/-- What holds when k rows are copied: t: the copy's own struct, b: the argument's box. -/
structure Half2 (w wr : World) (t b : Nat) (vo sa sb : Value) (O : List Int) (zss : List (List Int)) : Prop where
  below : Below w.heap.size w wr
  box : Box2 wr b 30 sa sb
  own : ∃ vn V, Box2 wr t 30 vo vn ∧ OwnInts wr w.heap.size wr.heap.size vo O ∧ OwnRows wr w.heap.size wr.heap.size vn V zss ∧ ∀ i, i < zss.length → ∀ g, (V i).ownBlock = some g → vo.ownBlock ≠ some g

/-- A row u is appended to the rows: w2: behind the row's making, o: the one-element slice, w3: behind the append; then the new rows are stored into the struct. -/
theorem Half2.step {w wr w2 w3 : World} {t b gg cap : Nat} {o : Obj} {vo sa sb vn u : Value} {V : Nat → Value} {O zs : List Int} {zss : List (List Int)} (hbel : Below w.heap.size w wr) (hb : Box2 wr b 30 sa sb) (hT : Box2 wr t 30 vo vn)
    (hvo : OwnInts wr w.heap.size wr.heap.size vo O) (hvn : OwnRows wr w.heap.size wr.heap.size vn V zss) (hap : ∀ i, i < zss.length → ∀ g, (V i).ownBlock = some g → vo.ownBlock ≠ some g) (htw : w.heap.size ≤ t) (hbt : b ≠ t) (hl : zss.length ≤ 1048576)
    (h2 : Below wr.heap.size wr w2) (hu : OwnInts w2 wr.heap.size w2.heap.size u zs) (hown3 : w3.ownsRow w.heap.size 22 1 (.slice (some ⟨gg, 0, none⟩) (zss.length + 1) cap) (zss.length + 1) ((List.range zss.length).map V ++ [u])) (hgrow : (w2.alloc o).grownBy w3 vn.ownBlock) :
    Half2 w (w3.setCell ⟨t, 1, none⟩ (.slice (some ⟨gg, 0, none⟩) (zss.length + 1) cap)) t b vo sa sb O (zss ++ [zs]) := by
  have h2a : Below wr.heap.size wr (w2.alloc o) := h2.alloc h2.size o
  have hown : (w2.alloc o).ownsRow w.heap.size 22 1 vn zss.length ((List.range zss.length).map V) := ownsRow_only hvn.own (S := fun _ => False) (Only.of_below h2a) (fun _ _ h => h)
  have hT3 := (hT.below h2a).grown hown (by decide) hgrow
  have hb3 := (hb.below h2a).grown hown (by decide) hgrow
  have hvo3 : OwnInts w3 w.heap.size w3.heap.size vo O := ((hvo.below h2a).only (Only.of_grown hgrow) (fun g h1 h2 => own_types hown (hvo.below h2a).own g h2 h1)).retop
  have hu' : OwnInts (w2.alloc o) w.heap.size w2.heap.size u zs := (hu.below (below1 _ _)).base hbel.size
  have hlow : ∀ g, u.ownBlock = some g → wr.heap.size ≤ g := fun g hg => (hu.own.lt g hg).1
  have hrows := (hvn.below h2a).push (w1 := w3) hu' (fun i hi g h1 h3 => by have := (hvn.rows i hi).top g h3; have := hlow g h1; omega) hown3 (Only.of_grown hgrow) (by omega)
  have hS : Only (fun b => b = t) w3 (w3.setCell ⟨t, 1, none⟩ (.slice (some ⟨gg, 0, none⟩) (zss.length + 1) cap)) := Only.setCell (S := fun b => b = t) (Only.refl _ _) (p := ⟨t, 1, none⟩) rfl _
  refine ⟨?_, hb3.only hS hbt, _, _, hT3.set1 _, (hvo3.only hS (fun g hg e => hT3.not_own hvo3.own (by decide) (by rw [hg, e]))).retop, (hrows.only hS (fun g hg e => hT3.not_own hrows.own (by decide) (by rw [hg, e])) (fun k hk g hg e => hT3.not_own (hrows.rows k hk).own (by decide) (by rw [hg, e]))).retop, fun i hi g hg => ?_⟩
  · have h3 : Below w.heap.size w (w2.alloc o) := hbel.trans (h2a.mono hbel.size)
    exact (h3.trans ((Only.of_grown hgrow).below h3.size (fun g hg => (hown.lt g hg).1))).setCell htw _
  · by_cases e : i = zss.length
    · subst e
      simp only [if_true] at hg
      intro hh
      have := hvo.top g hh
      have := hlow g hg
      omega
    · simp only [if_neg e] at hg
      exact hap i (by simp at hi; omega) g hg
end

section
open Go.RowKit

theorem info_rows : (Tryd.prog.info? 22).map (fun i => (i.zero, i.size, i.bytes)) = some (some (.slice none 0 0), 1, 24) := by kernel_rfl

/-- A call hands back an arena of its own. -/
def GivesArena (w : World) (O : List Int) (zss : List (List Int)) (e : Ending) (w' : World) : Prop :=
  ∃ v, e = .returned v ∧ OwnArena w' w.heap.size w'.heap.size v O zss ∧ Below w.heap.size w w'

end

section
open Go.RowKit

theorem Box2.set0_only {w : World} {t : Nat} (x : Value) : Only (fun b => b = t) w (w.setCell ⟨t, 0, none⟩ x) := Only.setCell (S := fun b => b = t) (Only.refl _ _) (p := ⟨t, 0, none⟩) rfl _
theorem Box2.set1_only {w : World} {t : Nat} (x : Value) : Only (fun b => b = t) w (w.setCell ⟨t, 1, none⟩ x) := Only.setCell (S := fun b => b = t) (Only.refl _ _) (p := ⟨t, 1, none⟩) rfl _

/-- A number x is appended to the owners; then the new owners are stored into the struct. -/
theorem Half2.owner {w wr w1 : World} {t b gg cap : Nat} {ob : Obj} {vo sa sb vn : Value} {V : Nat → Value} {O : List Int} {x : Int} {zss : List (List Int)} (hbel : Below w.heap.size w wr) (hb : Box2 wr b 30 sa sb) (hT : Box2 wr t 30 vo vn)
    (hvo : OwnInts wr w.heap.size wr.heap.size vo O) (hvn : OwnRows wr w.heap.size wr.heap.size vn V zss) (hap : ∀ i, i < zss.length → ∀ g, (V i).ownBlock = some g → vo.ownBlock ≠ some g) (htw : w.heap.size ≤ t) (hbt : b ≠ t) (hl : O.length ≤ 1048576) (hx : Fits x)
    (hown1 : w1.ownsRow w.heap.size 2 1 (.slice (some ⟨gg, 0, none⟩) (O.length + 1) cap) (O.length + 1) (O.map (Value.int .i64) ++ [.int .i64 x])) (hgrow : (wr.alloc ob).grownBy w1 vo.ownBlock) (hat : vo.ownBlock = some gg ∨ gg = wr.heap.size + 1) :
    Half2 w (w1.setCell ⟨t, 0, none⟩ (.slice (some ⟨gg, 0, none⟩) (O.length + 1) cap)) t b (.slice (some ⟨gg, 0, none⟩) (O.length + 1) cap) sa sb (O ++ [x]) zss := by
  have h2a : Below wr.heap.size wr (wr.alloc ob) := below1 _ _
  have hown := (hvo.below h2a).own
  have hT1 := (hT.below h2a).grown hown (by decide) hgrow
  have hb1 := (hb.below h2a).grown hown (by decide) hgrow
  have hI : OwnInts w1 w.heap.size w1.heap.size (.slice (some ⟨gg, 0, none⟩) (O.length + 1) cap) (O ++ [x]) := by
    refine OwnInts.mk' (by simpa using hown1) (by simp; omega) fun k hk => ?_
    by_cases e : k < O.length
    · rw [show nth (O ++ [x]) k = nth O k from by simp [nth, List.getElem?_append_left e]]
      exact hvo.fits k e
    · have : k = O.length := by simp at hk; omega
      subst this
      rw [show nth (O ++ [x]) O.length = x from by simp [nth]]
      exact hx
  have hR := (hvn.below h2a).only (Only.of_grown hgrow) (fun g h1 h2 => own_types (hvn.below h2a).own hown g h1 h2) (fun k hk g h1 h2 => hap k hk g h1 h2)
  have hS := Box2.set0_only (w := w1) (t := t) (.slice (some ⟨gg, 0, none⟩) (O.length + 1) cap)
  refine ⟨?_, hb1.only hS hbt, _, V, hT1.set0 _, (hI.only hS (fun g hg e => hT1.not_own hI.own (by decide) (by rw [hg, e]))).retop, (hR.only hS (fun g hg e => hT1.not_own hR.own (by decide) (by rw [hg, e])) (fun k hk g hg e => hT1.not_own (hR.rows k hk).own (by decide) (by rw [hg, e]))).retop, fun i hi g hg hh => ?_⟩
  · have h3 : Below w.heap.size w (wr.alloc ob) := hbel.alloc hbel.size ob
    exact (h3.trans ((Only.of_grown hgrow).below h3.size (fun g hg => (hown.lt g hg).1))).setCell htw _
  · simp [Value.ownBlock] at hh
    subst hh
    rcases hat with h | h
    · exact hap i hi _ hg h
    · have := (hvn.rows i hi).top _ hg
      omega

/-- k owners are exchanged in place. -/
structure Turn (w wr : World) (t r k : Nat) (vo vn : Value) (V : Nat → Value) (O : List Int) (zss : List (List Int)) : Prop where
  below : Below w.heap.size w wr
  box : Box2 wr t 30 vo vn
  res : Box2 wr r 30 (.slice none 0 0) (.slice none 0 0)
  own : ∃ P, P.length = O.length ∧ OwnInts wr w.heap.size wr.heap.size vo P ∧ ∀ i, i < O.length → nth P i = if i < k then 1 - nth O i else nth O i
  rows : OwnRows wr w.heap.size wr.heap.size vn V zss

theorem Turn.step {w wr : World} {t r k g n c : Nat} {vn : Value} {V : Nat → Value} {O : List Int} {zss : List (List Int)} (h : Turn w wr t r k (.slice (some ⟨g, 0, none⟩) n c) vn V O zss) (hn : n = O.length) (hk : k < O.length) (hf : Fits (1 - nth O k)) (hg : w.heap.size ≤ g) 
    (hap : ∀ i, i < zss.length → ∀ b, (V i).ownBlock = some b → b ≠ g) :
    Turn w (wr.setCell ⟨g, k, none⟩ (.int .i64 (1 - nth O k))) t r (k + 1) (.slice (some ⟨g, 0, none⟩) n c) vn V O zss := by
  obtain ⟨P, hl, ho, hm⟩ := h.own
  have hS : Only (fun b => b = g) wr (wr.setCell ⟨g, k, none⟩ (.int .i64 (1 - nth O k))) := Only.setCell (S := fun b => b = g) (Only.refl _ _) (p := ⟨g, k, none⟩) rfl _
  have htg : t ≠ g := fun e => h.box.not_own ho.own (by decide) (by simp [Value.ownBlock, e])
  have hrg : r ≠ g := fun e => h.res.not_own ho.own (by decide) (by simp [Value.ownBlock, e])
  refine ⟨h.below.setCell hg _, h.box.only hS htg, h.res.only hS hrg, ⟨P.set k (1 - nth O k), by simpa using hl, (ho.store (by omega) (by omega) hf).retop, fun i hi => ?_⟩, (h.rows.only hS (fun b hb e => own_types h.rows.own ho.own b hb (by simp [Value.ownBlock, e])) (fun i hi b hb e => hap i hi b hb e)).retop⟩
  rw [nth_set (by omega)]
  by_cases e : i = k
  · subst e; simp
  · rw [if_neg e, hm i hi]
    by_cases h' : i < k
    · rw [if_pos h', if_pos (by omega)]
    · rw [if_neg h', if_neg (by omega)]

theorem Turn.drew {w wr : World} {t r k : Nat} {vo vn : Value} {V : Nat → Value} {O : List Int} {zss : List (List Int)} (h : Turn w wr t r k vo vn V O zss) : Turn w wr.drew t r k vo vn V O zss := by
  have hb : Below wr.heap.size wr wr.drew := (Below.refl _ _).drew
  obtain ⟨P, hl, ho, hm⟩ := h.own
  exact ⟨h.below.drew, h.box.below hb, h.res.below hb, ⟨P, hl, (ho.below hb).retop, hm⟩, (h.rows.below hb).retop⟩

set_option maxHeartbeats 2000000 in
set_option maxRecDepth 100000 in
theorem clone_is {w : World} {va : Value} {O : List Int} {zss : List (List Int)} (h : ArenaAt w va O zss) (hn : zss.length ≤ 1048576) :
    Calls Tryd.prog 130 #[va] w (GivesArena w O zss) := by
  obtain ⟨i0, hi, hz0, hz1, hz2⟩ := info_parts info_rows
  obtain ⟨ao, an, co, cn, A, C, rfl, h1, h2⟩ := h
  have HO := Lib.hid h1
  have HN := Lib.hid h2
  clear h1 h2
  go_enter Tryd.func130, Tryd.ntmps130
  go_wp2_with fail
  refine (Clone_is co ((HO.out.alloc _).alloc _)).mono ?_
  rintro e w1 ⟨vo, rfl, ho, hb⟩
  have B1 := Lib.hid ((below2 w _ _).trans (hb.mono (by simp; omega)))
  have b1 := Lib.hid (((Box2.new w 30 (.slice ao O.length co) (.slice an zss.length cn)).alloc _).below hb)
  have r1 := Lib.hid ((Box2.new_at (g := w.heap.size + 1) (by simp) 30 (.slice none 0 0) (.slice none 0 0)).below hb)
  have hvo : ∃ ag cg, vo = .slice ag O.length cg := by obtain ⟨a, c, hv, _⟩ := ho.shape; exact ⟨a, c, hv⟩
  obtain ⟨ag, cg, hvo⟩ := hvo
  subst hvo
  have hs1 : w.heap.size + 2 ≤ w1.heap.size := by have := hb.size; simp at this; omega
  have o1 : Hid (OwnInts w1 w.heap.size w1.heap.size (.slice ag O.length cg) O) := ho.base (by simp; omega)
  have HS1 := Lib.hid hs1
  clear ho hb hs1
  have S0 : Hid (Half2 w (w1.alloc (.cells #[.slice ag O.length cg, .slice none 0 0] 30)) w1.heap.size w.heap.size (.slice ag O.length cg) (.slice ao O.length co) (.slice an zss.length cn) O (zss.take 0)) :=
    ⟨B1.out.alloc B1.out.size _, b1.out.alloc _, _, _, Box2.new _ _ _ _, (o1.out.below (below1 _ _)).retop, OwnRows.nil _ _ _, fun i hi => absurd hi (by simp)⟩
  have R0 := Lib.hid (r1.out.alloc (.cells #[.slice ag O.length cg, .slice none 0 0] 30))
  have hlz := HN.out.len
  have c1a := (b1.out.alloc (.cells #[.slice ag O.length cg, .slice none 0 0] 30)).cell1
  go_wp2
  clear c1a
  go_loopw [13] (fun i wr => ∃ k : Nat, k ≤ zss.length ∧ i = .int .i64 k ∧ Hid (Half2 w wr w1.heap.size w.heap.size (.slice ag O.length cg) (.slice ao O.length co) (.slice an zss.length cn) O (zss.take k)) ∧ Hid (Box2 wr (w.heap.size + 1) 30 (.slice none 0 0) (.slice none 0 0))) (fun i _ => zss.length - (intOf i).toNat)
  case atStart => exact ⟨0, Nat.zero_le _, rfl, S0, R0⟩
  case round =>
    clear S0 R0
    obtain ⟨k, hk, rfl, HS, HR⟩ := hrel
    have hlen1 := HS1.out
    have hlen1' : w.heap.size ≤ w1.heap.size := by omega
    have bc1 := HS.out.box.cell1
    by_cases hlt : k < zss.length
    · obtain ⟨vn, V, hT, hvo, hvn, hap⟩ := HS.out.own
      have htk : (zss.take k).length = k := by simp; omega
      obtain ⟨a', c', hvs, _, _⟩ := hvn.shape
      rw [htk] at hvs
      subst hvs
      have HT := Lib.hid hT
      have HVO := Lib.hid hvo
      have HVN := Lib.hid hvn
      have HAP := Lib.hid hap
      have hown := hvn.own
      rw [htk] at hown
      have HOWN := Lib.hid hown
      have HTK := Lib.hid htk
      clear hT hvo hvn hap hown htk
      have N1 := Lib.hid (HN.out.below HS.out.below)
      obtain ⟨b, off, ha, hc⟩ := N1.out.cell (by omega)
      subst ha
      have hck := hc k hlt
      clear hc
      have hi1 : (k : Int) < zss.length := by omega
      have ht1 := HT.out.cell1
      have HD : Hid (Below wr.heap.size wr wr.drew) := (Below.refl _ _).drew
      have HRow := Lib.hid ((N1.out.rows k hlt).below HD.out)
      go_wp2
      go_region_law (first
        | (refine step_append_lies _ (by rfl) _ _ _ (by rfl) w.heap.size 22 i0 (.slice none 0 0) 1 24 Tryd.underlying23 hi hz0 hz1 hz2 rfl (by decide) (.slice a' k c') k ((List.range k).map V) (by rfl) (HOWN2.out.alloc _) ⟨w2.heap.size, 0, none⟩ 1 1 [.slice au (row zss k).length cu] (by rfl) (by rfl) (World.news_of_block (cs := #[.slice au (row zss k).length cu]) (t := 22) (fr := (0, 0)) (heap_alloc_new w2 _)) (by simp [Value.oneCell']) (by omega) (by unfold maxLen; omega) (by omega) (by have := HB2.out.size; simp; omega) (w2.heap.size + 1) (by simp) ?_; intro gg cap w3 hown3 hgrow hat hlt3; have hbx := (HT2.out.alloc (.cells #[.slice au (row zss k).length cu] 22)).grown (HOWN2.out.alloc _) (by decide) hgrow; have q3 := hbx.cell1; have p3 := hbx.frozen 1)
        | (go_simp; go_at_call 62; refine (Clone_is (C k) HRow.out).mono ?_; rintro e w2 ⟨u, rfl, hu, hb⟩; obtain ⟨au, cu, hus, _, _⟩ := hu.shape; subst hus; have HU := Lib.hid hu; have HB2 := Lib.hid (HS.out.below.trans ((HD.out.trans (hb.mono HD.out.size)).mono HS.out.below.size)); have HK2 := Lib.hid (HD.out.trans (hb.mono HD.out.size)); have t2 := (HT.out.below HK2.out).cell1; have t2a := ((HT.out.below HK2.out).alloc (.cells #[.slice au (row zss k).length cu] 22)).cell1; have HT2 := Lib.hid (HT.out.below HK2.out); have HOWN2 := Lib.hid (ownsRow_only HOWN.out (S := fun _ => False) (Only.of_below HK2.out) (fun _ _ h => h)); have hlt2 := HK2.out.size; have htl := HT.out.lt; clear hu hb))
      all_goals (
        have hstep := Half2.step (zs := row zss k) HS.out.below HS.out.box HT.out HVO.out HVN.out HAP.out hlen1' (by omega) (by rw [HTK.out]; omega) HK2.out HU.out (by rw [HTK.out]; exact hown3) hgrow
        rw [← take_snoc_rows hlt, HTK.out] at hstep
        have hR3 := (((HR.out.below HK2.out).alloc (.cells #[.slice au (row zss k).length cu] 22)).grown (HOWN2.out.alloc _) (by decide) hgrow).other (a := ⟨w1.heap.size, 1, none⟩) (by show w.heap.size + 1 ≠ w1.heap.size; omega) (.slice (some ⟨gg, 0, none⟩) (k + 1) cap)
        have HST := Lib.hid hstep
        have HR3 := Lib.hid hR3
        clear hstep hR3 hown3 hgrow hat hbx
        go_wp2
        go_roundw
        case rel => exact ⟨k + 1, by omega, by go_num, HST, HR3⟩
        case measure => simp [intOf]; omega)
    · have hkk : k = zss.length := by omega
      rw [hkk, List.take_length] at HS
      have HS' := HS
      obtain ⟨vn, V, hT, hvo, hvn, hap⟩ := HS.out.own
      obtain ⟨a', c', hvs, _, _⟩ := hvn.shape
      subst hvs
      clear hkk
      have t0 := hT.cell0
      have t1 := hT.cell1
      have d0 := HR.out.cell0
      have d1 := HR.out.cell1
      have g0 := HR.out.frozen 0
      have g1 := HR.out.frozen 1
      have HT := Lib.hid hT
      have HVO := Lib.hid hvo
      have HVN := Lib.hid hvn
      have HAP := Lib.hid hap
      clear hT hvo hvn hap
      go_wp2
      have hS1 : Only (fun b => b = w.heap.size + 1) wr ((wr.setCell ⟨w.heap.size + 1, 0, none⟩ (.slice ag O.length cg)).setCell ⟨w.heap.size + 1, 1, none⟩ (.slice a' zss.length c')) :=
        Only.setCell (S := fun b => b = w.heap.size + 1) (Only.setCell (S := fun b => b = w.heap.size + 1) (Only.refl _ _) (p := ⟨w.heap.size + 1, 0, none⟩) rfl _) (p := ⟨w.heap.size + 1, 1, none⟩) rfl _
      have hfin : GivesArena w O zss (.returned (.agg #[.slice ag O.length cg, .slice a' zss.length c'])) ((wr.setCell ⟨w.heap.size + 1, 0, none⟩ (.slice ag O.length cg)).setCell ⟨w.heap.size + 1, 1, none⟩ (.slice a' zss.length c')) :=
        ⟨_, rfl, ⟨_, _, V, rfl, (HVO.out.only hS1 (fun g hg e => HR.out.not_own HVO.out.own (by decide) (by rw [hg, e]))).retop, (HVN.out.only hS1 (fun g hg e => HR.out.not_own HVN.out.own (by decide) (by rw [hg, e])) (fun k hk g hg e => HR.out.not_own (HVN.out.rows k hk).own (by decide) (by rw [hg, e]))).retop, HAP.out⟩,
          (HS'.out.below.setCell (by show w.heap.size ≤ w.heap.size + 1; omega) _).setCell (by show w.heap.size ≤ w.heap.size + 1; omega) _⟩
      exact bodyPost_ret (v := .agg #[.slice ag O.length cg, .slice a' zss.length c']) (by simp [results, Tryd.results130, go_sem, d0, d1]) rfl hfin

end
end

section
open Go.RowKit

/-- The numbers rise. -/
def Rises (zs : List Int) : Prop := ∀ j k, j < k → k < zs.length → nth zs j < nth zs k

theorem rises_of {n : Int} {zs : List Int} (h : setB n zs = true) : Rises zs := fun j _ hjk hk => (setB_bounds h hk).2.2 j hjk

/-- Where the numbers of r stand that S has. -/
def places (S : List Int) : List Int → Nat → List Int
  | _, 0 => []
  | r, k + 1 => places S r k ++ if hasB S (nth r k) then [idx S (nth r k)] else []

end

section
open Go.RowKit

set_option maxHeartbeats 1000000 in
theorem eqInt64S_yes {a c : Option Addr} {zs : List Int} (w : World) (ca cc : Nat) (ha : IntsAt w a zs) (hc : IntsAt w c zs) :
    Calls Tryd.prog 19 #[.slice a zs.length ca, .slice c zs.length cc] w fun e w' => e = .returned (.bool true) ∧ ∃ q, w' = w.drewN q := by
  have hlen := ha.len
  have HA := Lib.hid ha
  have HC := Lib.hid hc
  clear ha hc
  have hne : ((zs.length : Int) != (zs.length : Int)) = false := by simp
  go_enter Tryd.func19, Tryd.ntmps19
  go_wp2
  go_loopw [5] (fun i wr => ∃ k : Nat, k ≤ zs.length ∧ i = .int .i64 k ∧ Hid (∃ q, wr = w.drewN q)) (fun i _ => zs.length - (intOf i).toNat)
  case atStart => exact ⟨0, Nat.zero_le _, rfl, 0, rfl⟩
  case round =>
    obtain ⟨k, hk, rfl, HW⟩ := hrel
    by_cases hlt : k < zs.length
    · obtain ⟨b, off, e1, h1⟩ := (HA.out.same HW.out).cell (by omega)
      obtain ⟨b2, off2, e2, h2⟩ := (HC.out.same HW.out).cell (by omega)
      subst e1
      subst e2
      have hck := h1 k hlt
      have hck2 := h2 k hlt
      clear h1 h2
      have hi1 : (k : Int) < zs.length := by omega
      have hn : (nth zs k != nth zs k) = false := by simp
      go_wp2
      go_quiet (fail)
      go_wp2
      go_roundw
      case rel => exact ⟨k + 1, by omega, by go_num, drewn HW.out⟩
      case measure => simp [intOf]; omega
    · go_wp2
      go_ret
      exact ⟨rfl, HW.out⟩

set_option maxHeartbeats 1000000 in
theorem eqInt64SS_yes {a c : Option Addr} {A A' : Nat → Option Addr} {C C' : Nat → Nat} {zss : List (List Int)} (w : World) (ca cc : Nat) (ha : RowsAt w a A C zss) (hc : RowsAt w c A' C' zss) :
    Calls Tryd.prog 42 #[.slice a zss.length ca, .slice c zss.length cc] w fun e w' => e = .returned (.bool true) ∧ ∃ q, w' = w.drewN q := by
  have hlen := ha.len
  have HA := Lib.hid ha
  have HC := Lib.hid hc
  clear ha hc
  have hne : ((zss.length : Int) != (zss.length : Int)) = false := by simp
  go_enter Tryd.func42, Tryd.ntmps42
  go_wp2
  go_loopw [5] (fun i wr => ∃ k : Nat, k ≤ zss.length ∧ i = .int .i64 k ∧ Hid (∃ q, wr = w.drewN q)) (fun i _ => zss.length - (intOf i).toNat)
  case atStart => exact ⟨0, Nat.zero_le _, rfl, 0, rfl⟩
  case round =>
    obtain ⟨k, hk, rfl, HW⟩ := hrel
    by_cases hlt : k < zss.length
    · have hA' := Lib.hid (HA.out.same HW.out)
      have hC' := Lib.hid (HC.out.same HW.out)
      obtain ⟨b, off, e1, h1⟩ := hA'.out.cell (by omega)
      obtain ⟨b2, off2, e2, h2⟩ := hC'.out.cell (by omega)
      subst e1
      subst e2
      have hck := h1 k hlt
      have hck2 := h2 k hlt
      clear h1 h2
      have hi1 : (k : Int) < zss.length := by omega
      have HE : Hid (∀ q, Calls Tryd.prog 19 #[.slice (A k) (row zss k).length (C k), .slice (A' k) (row zss k).length (C' k)] (wr.drewN q) fun e w' => e = .returned (.bool true) ∧ ∃ m, w' = (wr.drewN q).drewN m) := fun q =>
        eqInt64S_yes (wr.drewN q) (C k) (C' k) ((hA'.out.rows k hlt).same ⟨q, rfl⟩) ((hC'.out.rows k hlt).same ⟨q, rfl⟩)
      go_wp2
      go_quiet ((go_at_call 19; exact Calls.quiet_of (HE.out _)))
      go_wp2
      go_roundw
      case rel => exact ⟨k + 1, by omega, by go_num, drewn HW.out⟩
      case measure => simp [intOf]; omega
    · go_wp2
      go_ret
      exact ⟨rfl, HW.out⟩

set_option maxHeartbeats 1000000 in
theorem eqArena_yes {ao an co cn : Option Addr} {A A' : Nat → Option Addr} {C C' : Nat → Nat} {O : List Int} {zss : List (List Int)} (w : World) (k1 k2 k3 k4 : Nat)
    (h1 : IntsAt w ao O) (h2 : RowsAt w an A C zss) (h3 : IntsAt w co O) (h4 : RowsAt w cn A' C' zss) :
    Calls Tryd.prog 57 #[.agg #[.slice ao O.length k1, .slice an zss.length k2], .agg #[.slice co O.length k3, .slice cn zss.length k4]] w fun e w' => e = .returned (.bool true) ∧ Below w.heap.size w w' := by
  have HE := Lib.hid (eqInt64S_yes _ k1 k3 ((h1.alloc (.cells #[.slice ao O.length k1, .slice an zss.length k2] 30)).alloc (.cells #[.slice co O.length k3, .slice cn zss.length k4] 30)) ((h3.alloc _).alloc _))
  have HF : Hid (∀ q, Calls Tryd.prog 42 #[.slice an zss.length k2, .slice cn zss.length k4] (((w.alloc (.cells #[.slice ao O.length k1, .slice an zss.length k2] 30)).alloc (.cells #[.slice co O.length k3, .slice cn zss.length k4] 30)).drewN q) fun e w' => e = .returned (.bool true) ∧ ∃ m, w' = (((w.alloc (.cells #[.slice ao O.length k1, .slice an zss.length k2] 30)).alloc (.cells #[.slice co O.length k3, .slice cn zss.length k4] 30)).drewN q).drewN m) := fun q =>
    eqInt64SS_yes _ k2 k4 (((h2.alloc _).alloc _).same ⟨q, rfl⟩) (((h4.alloc _).alloc _).same ⟨q, rfl⟩)
  clear h1 h2 h3 h4
  go_enter Tryd.func57, Tryd.ntmps57
  go_wp2_with (first | (go_at_call 19; refine HE.out.mono ?_; rintro e w' ⟨rfl, q, rfl⟩) | (go_at_call 42; refine (HF.out _).mono ?_; rintro e w' ⟨rfl, q', rfl⟩))
  go_ret
  exact ⟨rfl, below_drewN (below2 _ _ _) _⟩

theorem eqArena_at {w : World} {v v' : Value} {O : List Int} {zss : List (List Int)} (h : ArenaAt w v O zss) (h' : ArenaAt w v' O zss) :
    Calls Tryd.prog 57 #[v, v'] w fun e w' => e = .returned (.bool true) ∧ Below w.heap.size w w' := by
  obtain ⟨ao, an, co, cn, A, C, rfl, h1, h2⟩ := h
  obtain ⟨ao', an', co', cn', A', C', rfl, h1', h2'⟩ := h'
  exact eqArena_yes w co cn co' cn' h1 h2 h1' h2'
end

section
open Go.RowKit

/-- The slice v reads as zs. -/
def IntsV (w : World) (v : Value) (zs : List Int) : Prop := ∃ a cap, v = .slice a zs.length cap ∧ IntsAt w a zs

theorem IntsV.below {w w' : World} {v : Value} {zs : List Int} (h : IntsV w v zs) (hb : Below w.heap.size w w') : IntsV w' v zs := by
  obtain ⟨a, cap, hv, hi⟩ := h
  exact ⟨a, cap, hv, hi.below hb⟩
theorem OwnInts.v {w : World} {B D : Nat} {v : Value} {zs : List Int} (h : OwnInts w B D v zs) : IntsV w v zs := by
  obtain ⟨a, cap, hv, hi, _⟩ := h.shape
  exact ⟨a, cap, hv, hi⟩

theorem eqInts_at {w : World} {v v' : Value} {zs : List Int} (h : IntsV w v zs) (h' : IntsV w v' zs) :
    Calls Tryd.prog 19 #[v, v'] w fun e w' => e = .returned (.bool true) ∧ Below w.heap.size w w' := by
  obtain ⟨a, cap, rfl, hi⟩ := h
  obtain ⟨a', cap', rfl, hi'⟩ := h'
  exact (eqInt64S_yes w cap cap' hi hi').mono fun e w' ⟨he, hq⟩ => ⟨he, below_same (Below.refl _ _) hq⟩

theorem heldInts_at {w : World} {v : Value} {k : Int} {n : Nat} (h : IntsV w v (marks k n)) (h0 : 0 ≤ k) (h1 : k ≤ 1152921504606846976) :
    Calls Tryd.prog 31 #[v, .int .i64 k] w fun e w' => e = .returned (.int .i64 (k + n)) ∧ w = w' := by
  obtain ⟨a, cap, rfl, hi⟩ := h
  have h := heldInt64S_is (zs := marks k n) k cap (by rw [marks_len]; exact hi) h0 h1
  rw [marks_len] at h ⊢
  exact h

theorem markInts_at {w : World} {B D : Nat} {v : Value} {zs : List Int} {k r : Int} (hr : k + zs.length = r) (h : OwnInts w B D v zs) (h0 : 0 ≤ k) (h1 : k ≤ 1152921504606846976) :
    Calls Tryd.prog 24 #[v, .int .i64 k] w fun e w' => e = .returned (.int .i64 r) ∧ OwnInts w' B D v (marks k zs.length) ∧ Only (fun b => B ≤ b ∧ b < D) w w' := by
  subst hr
  exact (markInt64S_is h k h0 h1).mono fun e w' ⟨he, ho, hn⟩ => ⟨he, ho, hn.mono fun b hb => ⟨(h.own.lt b hb).1, h.top b hb⟩⟩

theorem heldInts_is {w : World} {v : Value} {k r : Int} {n : Nat} (hr : k + (n : Int) = r) (h : IntsV w v (marks k n)) (h0 : 0 ≤ k) (h1 : k ≤ 1152921504606846976) :
    Calls Tryd.prog 31 #[v, .int .i64 k] w fun e w' => e = .returned (.int .i64 r) ∧ w = w' := by
  subst hr
  exact heldInts_at h h0 h1

theorem toInts_at {w : World} {v : Value} {zs : List Int} (h : IntsV w v zs) :
    Calls Tryd.prog 16 #[v] w fun e w' => ∃ u, e = .returned u ∧ OwnInts w' w.heap.size w'.heap.size u zs ∧ Below w.heap.size w w' := by
  obtain ⟨a, cap, rfl, hi⟩ := h
  refine (toInt64S_any a zs cap w hi).mono fun e w' ⟨he, hr, hs, hb⟩ => ⟨_, he, OwnInts.of_rowIs hr (Nat.le_refl _) (by omega) hi.len hi.fits, hb⟩
end

end Go.Proofs.YtphkgnpkcfbnkabDoor
