/-
  Contracts: the laws' dice.
-/
import Derived.Test.YtokcinhopajniaaGreatDoorDraw1
import Derived.Test.YtokcinhopajniaaGreatDoorWalks1
import Derived.Deep.RegionHeld3
namespace Go.Proofs.YtokcinhopajniaaGreatDoor
section
open Go.RowKit

theorem bits_and_u64 (x m : Int) (h0 : 0 ≤ m) (h1 : m ≤ 1073741823) : 0 ≤ bits .and .u64 x m ∧ bits .and .u64 x m ≤ m := by
  have hm : (BitVec.ofInt 64 m).toNat = m.toNat := by
    obtain ⟨k, rfl⟩ := Int.eq_ofNat_of_zero_le h0
    rw [BitVec.ofInt_natCast, BitVec.toNat_ofNat]; exact Nat.mod_eq_of_lt (by omega)
  have hle : (BitVec.ofInt 64 x &&& BitVec.ofInt 64 m).toNat ≤ m.toNat := by
    rw [BitVec.toNat_and, hm]; exact Nat.and_le_right
  have hb : bits .and .u64 x m = IntKind.u64.wrap ((BitVec.ofInt 64 x &&& BitVec.ofInt 64 m).toNat : Int) := rfl
  rw [hb]
  generalize (BitVec.ofInt 64 x &&& BitVec.ofInt 64 m).toNat = q at hle
  have hw : IntKind.u64.wrap (q : Int) = q := by
    have hq : q < 4294967296 := by omega
    simp only [IntKind.wrap, IntKind.bits, IntKind.signed]
    simp
    omega
  rw [hw]
  omega

/-- Dice over bytes that lie below B, in block p. -/
structure Di (w : World) (B p : Nat) (ab : Option Addr) (cb : Nat) (bs : List Int) (i : Nat) (h : Int) : Prop where
  str : w.rowIs p 70 3 (tri (.slice ab bs.length cb) (.int .i64 i) (.int .u64 h))
  idx : i ≤ bs.length
  len : bs.length ≤ 4096
  low : B ≤ p
  byt : ∀ k, k < bs.length → ∃ b off, ab = some ⟨b, off, none⟩ ∧ b < B ∧ w.cell? ⟨b, off + k, none⟩ = some (.int .u8 (nth bs k)) ∧ 0 ≤ nth bs k ∧ nth bs k ≤ 255

variable {w w' : World} {B p : Nat} {ab : Option Addr} {cb : Nat} {bs : List Int} {i : Nat} {h : Int}

theorem Di.c0 (d : Di w B p ab cb bs i h) : w.cell? ⟨p, 0, none⟩ = some (.slice ab bs.length cb) := d.str.cell (i := 0) (by omega)
theorem Di.c1 (d : Di w B p ab cb bs i h) : w.cell? ⟨p, 1, none⟩ = some (.int .i64 i) := d.str.cell (i := 1) (by omega)
theorem Di.c2 (d : Di w B p ab cb bs i h) : w.cell? ⟨p, 2, none⟩ = some (.int .u64 h) := d.str.cell (i := 2) (by omega)
theorem Di.lt (d : Di w B p ab cb bs i h) : p < w.heap.size := d.str.lt
theorem Di.below (d : Di w B p ab cb bs i h) (hb : Below w.heap.size w w') : Di w' B p ab cb bs i h :=
  ⟨rowIs_below d.str hb, d.idx, d.len, d.low, fun k hk => by
    obtain ⟨b, off, h1, h2, h3, h4⟩ := d.byt k hk
    exact ⟨b, off, h1, h2, Below.cell_some (B := 0) hb rfl h3, h4⟩⟩
theorem Di.only {S : Nat → Prop} (d : Di w B p ab cb bs i h) (hk : Only S w w') (hs : ∀ b, S b → B ≤ b ∧ b ≠ p) : Di w' B p ab cb bs i h :=
  ⟨rowIs_only d.str hk (fun e => (hs p e).2 rfl), d.idx, d.len, d.low, fun k hk' => by
    obtain ⟨b, off, h1, h2, h3, h4⟩ := d.byt k hk'
    refine ⟨b, off, h1, h2, ?_, h4⟩
    rw [World.cell?_of_block (w := w) (hk.block b (World.block_lt_of_cell? w _ h3) (fun e => by have := (hs b e).1; omega))]
    exact h3⟩
theorem Di.set2 (d : Di w B p ab cb bs i h) (h' : Int) : Di (w.setCell ⟨p, 2, none⟩ (.int .u64 h')) B p ab cb bs i h' :=
  ⟨(d.str.set 2 _).congr tri_set2, d.idx, d.len, d.low, fun k hk => by
    obtain ⟨b, off, h1, h2, h3, h4⟩ := d.byt k hk
    have := d.low
    have hb : Below p w (w.setCell ⟨p, 2, none⟩ (.int .u64 h')) := (Below.refl p w).setCell (p := ⟨p, 2, none⟩) (Nat.le_refl _) _
    exact ⟨b, off, h1, h2, (hb.cell (by show b < p; omega)).trans h3, h4⟩⟩
theorem Di.set1 (d : Di w B p ab cb bs i h) (hi : i + 1 ≤ bs.length) : Di (w.setCell ⟨p, 1, none⟩ (.int .i64 ((i + 1 : Nat) : Int))) B p ab cb bs (i + 1) h :=
  ⟨(d.str.set 1 _).congr tri_set1, hi, d.len, d.low, fun k hk => by
    obtain ⟨b, off, h1, h2, h3, h4⟩ := d.byt k hk
    have := d.low
    have hb : Below p w (w.setCell ⟨p, 1, none⟩ (.int .i64 ((i + 1 : Nat) : Int))) := (Below.refl p w).setCell (p := ⟨p, 1, none⟩) (Nat.le_refl _) _
    exact ⟨b, off, h1, h2, (hb.cell (by show b < p; omega)).trans h3, h4⟩⟩

/-- A throw: a number from 0 to hi. -/
def Throws (w : World) (B p : Nat) (ab : Option Addr) (cb : Nat) (bs : List Int) (hi : Int) (e : Ending) (w' : World) : Prop :=
  ∃ x i h, e = .returned (.int .i64 x) ∧ 0 ≤ x ∧ x ≤ hi ∧ Di w' B p ab cb bs i h ∧ Only (fun b => b = p) w w'

set_option maxHeartbeats 4000000 in
set_option maxRecDepth 100000 in
theorem below_is {n hi : Int} (d : Di w B p ab cb bs i h) (h0 : 0 < n) (h1 : hi = n - 1) (h2 : n ≤ 4611686018427387904) :
    Calls Tryz.prog 38 #[.pointer (some ⟨p, 0, none⟩), .int .i64 n] w (Throws w B p ab cb bs hi) := by
  have HD := Lib.hid d
  have HH := Lib.hid h1
  have c2 := d.c2
  have f2 := d.str.frozen 2
  clear d h1
  go_enter Tryz.func38, Tryz.ntmps38
  go_wp2
  obtain ⟨h1, hh1⟩ : ∃ x, x = IntKind.u64.wrap (IntKind.u64.wrap (h * 6364136223846793005) + 1442695040888963407) := ⟨_, rfl⟩
  rw [← hh1]
  obtain ⟨w1, hw1⟩ : ∃ x, x = w.setCell ⟨p, 2, none⟩ (.int .u64 h1) := ⟨_, rfl⟩
  rw [← hw1]
  have D1 : Hid (Di w1 B p ab cb bs i h1) := by rw [hw1]; exact HD.out.set2 h1
  have O1 : Hid (Only (fun b => b = p) w w1) := by rw [hw1]; exact (Only.refl (fun b => b = p) w).setCell (p := ⟨p, 2, none⟩) rfl _
  clear hw1 hh1 c2 f2
  obtain ⟨x, hx0, hx1, hxe⟩ : ∃ x, 0 ≤ x ∧ x ≤ 16777215 ∧ wrap64 (bits .and .u64 (h1 / 8589934592) 16777215) = x := by
    have hz := bits_and_u64 (h1 / 8589934592) 16777215 (by omega) (by omega)
    refine ⟨bits .and .u64 (h1 / 8589934592) 16777215, hz.1, hz.2, by generalize bits .and .u64 (h1 / 8589934592) 16777215 = y at hz ⊢; unfold wrap64; omega⟩
  rw [hxe]
  clear hxe
  have c0 := D1.out.c0
  have c1 := D1.out.c1
  have hl := D1.out.len
  have hn0 : n ≠ 0 := by omega
  by_cases hlt : i < bs.length
  · have hi1 : (i : Int) < bs.length := by omega
    go_quiet (fail)
    go_wp2
    obtain ⟨w3, hw3⟩ : ∃ x, x = w1.drewN nq := ⟨_, rfl⟩
    rw [← hw3]
    have hb3 : Below w1.heap.size w1 w3 := by rw [hw3]; exact below_drewN (Below.refl _ _) _
    have D3 := Lib.hid (D1.out.below hb3)
    have O3 := Lib.hid (O1.out.trans (Only.of_below hb3))
    clear hw3 hb3 c0 c1
    have c0 := D3.out.c0
    have c1 := D3.out.c1
    obtain ⟨b, off, ha, _, hcb, hb0, hb1⟩ := D3.out.byt i hlt
    subst ha
    have f1 := D3.out.str.frozen 1
    go_quiet (fail)
    have D4 : Hid (Di ((w3.drewN nq).setCell ⟨p, 1, none⟩ (.int .i64 ((i : Int) + 1))) B p (some ⟨b, off, none⟩) cb bs (i + 1) h1) := (D3.out.below (below_drewN (Below.refl _ _) nq)).set1 (by omega)
    have O4 : Hid (Only (fun b => b = p) w ((w3.drewN nq).setCell ⟨p, 1, none⟩ (.int .i64 ((i : Int) + 1)))) := (O3.out.trans (Only.of_below (below_drewN (Below.refl _ _) nq))).setCell (p := ⟨p, 1, none⟩) rfl _
    have hz1 := Int.emod_nonneg (x + nth bs i) hn0
    have hz2 := Int.emod_lt_of_pos (x + nth bs i) h0
    have hh := HH.out
    have hz3 : (x + nth bs i) % n ≤ hi := by omega
    clear hh
    go_wp2
    go_ret
    exact ⟨_, i + 1, h1, rfl, hz1, hz3, D4.out, O4.out⟩
  · have hi1 : ¬ (i : Int) < bs.length := by omega
    have hz1 := Int.emod_nonneg x hn0
    have hz2 := Int.emod_lt_of_pos x h0
    have hh := HH.out
    have hz3 : x % n ≤ hi := by omega
    clear hh
    go_quiet (fail)
    go_wp2
    go_ret
    exact ⟨_, i, h1, rfl, hz1, hz3, D1.out.below (below_drewN (Below.refl _ _) _), O1.out.trans (Only.of_below (below_drewN (Below.refl _ _) _))⟩

/-- New dice. -/
def GivesDice (w : World) (ab : Option Addr) (cb : Nat) (bs : List Int) (e : Ending) (w' : World) : Prop :=
  ∃ h, e = .returned (.pointer (some ⟨w.heap.size, 0, none⟩)) ∧ Di w' w.heap.size w.heap.size ab cb bs 0 h ∧ Below w.heap.size w w'

set_option maxHeartbeats 4000000 in
set_option maxRecDepth 100000 in
theorem roll_is {s : Int} (hb : BytesAt w ab bs) (hl : bs.length ≤ 4096) :
    Calls Tryz.prog 10 #[.slice ab bs.length cb, .int .u64 s] w (GivesDice w ab cb bs) := by
  have HB := Lib.hid hb
  clear hb
  go_enter Tryz.func10, Tryz.ntmps10
  go_wp2
  obtain ⟨h1, hh1⟩ : ∃ x, x = IntKind.u64.wrap (IntKind.u64.wrap (s * 7919) + (bs.length : Int)) := ⟨_, rfl⟩
  rw [← hh1]
  obtain ⟨w1, hw1⟩ : ∃ y, y = w.alloc (.cells #[.slice ab bs.length cb, .int .i64 0, .int .u64 h1] 70) := ⟨_, rfl⟩
  rw [← hw1]
  have D1 : Hid (Di w1 w.heap.size w.heap.size ab cb bs 0 h1) := by
    rw [hw1]
    refine ⟨⟨_, heap_alloc_new w _, by simp, fun j hj => ?_⟩, Nat.zero_le _, hl, Nat.le_refl _, fun j hj => ?_⟩
    · have hj3 : j = 0 ∨ j = 1 ∨ j = 2 := by omega
      rcases hj3 with rfl | rfl | rfl <;> rfl
    · obtain ⟨b, off, ha, hcb, hb0, hb1⟩ := HB.out.byt j hj
      exact ⟨b, off, ha, World.block_lt_of_cell? w _ hcb, Below.cell_some (B := 0) (below1 w _) rfl hcb, hb0, hb1⟩
  have B1 : Hid (Below w.heap.size w w1) := by rw [hw1]; exact below1 _ _
  clear hw1 hh1
  go_loopw [6] (fun iv wr => ∃ (k : Nat) (h : Int), k ≤ bs.length ∧ iv = .int .i64 k ∧ Hid (Di wr w.heap.size w.heap.size ab cb bs 0 h) ∧ Hid (Below w.heap.size w wr)) (fun iv _ => bs.length - (intOf iv).toNat)
  case atStart => exact ⟨0, h1, Nat.zero_le _, rfl, D1, B1⟩
  case round =>
    clear D1 B1
    obtain ⟨k, h, hk, rfl, HD, HW⟩ := hrel
    by_cases hlt : k < bs.length
    · have hi1 : (k : Int) < bs.length := by omega
      have hk0 : (0 : Int) ≤ (k : Int) := by omega
      obtain ⟨b, off, ha, _, hcb, hb0, hb1⟩ := HD.out.byt k hlt
      subst ha
      have c2 := HD.out.c2
      have f2 := HD.out.str.frozen 2
      go_wp2
      go_region_law (fail)
      all_goals (
        clear c2 f2
        go_wp2
        go_roundw
        case rel =>
          first
            | exact ⟨k + 1, _, by omega, by go_num, (HD.out.set2 _).below (Below.refl _ _).drew, (HW.out.setCell (p := ⟨w.heap.size, 2, none⟩) (Nat.le_refl _) _).drew⟩
            | exact ⟨k + 1, _, by omega, by go_num, (HD.out.below (Below.refl _ _).drew).set2 _, HW.out.drew.setCell (p := ⟨w.heap.size, 2, none⟩) (Nat.le_refl _) _⟩
            | exact ⟨k + 1, _, by omega, by go_num, HD.out.set2 _, HW.out.setCell (p := ⟨w.heap.size, 2, none⟩) (Nat.le_refl _) _⟩
        case measure => simp [intOf]; omega)
    · have hi1 : ¬ (k : Int) < bs.length := by omega
      go_wp2
      go_ret
      exact ⟨h, rfl, HD.out, HW.out⟩
end

section
open Go.RowKit

variable {w w' : World} {B p : Nat} {ab : Option Addr} {cb : Nat} {bs : List Int} {i : Nat} {h : Int}

/-- Dice in a call that began in w: nothing that was there has turned but the dice. -/
structure Din (w wr : World) (B p : Nat) (ab : Option Addr) (cb : Nat) (bs : List Int) : Prop where
  cur : ∃ i h, Di wr B p ab cb bs i h
  only : Only (fun b => b = p) w wr
  lt : p < w.heap.size
  low : B ≤ p

theorem Din.start (d : Di w B p ab cb bs i h) : Din w w B p ab cb bs := ⟨⟨i, h, d⟩, Only.refl _ _, d.lt, d.low⟩
theorem Din.call {wr wr' : World} {j : Nat} {g : Int} (d : Din w wr B p ab cb bs) (hd : Di wr' B p ab cb bs j g) (ho : Only (fun b => b = p) wr wr') : Din w wr' B p ab cb bs :=
  ⟨⟨j, g, hd⟩, d.only.trans ho, d.lt, d.low⟩
theorem Din.new {wr wr' : World} (d : Din w wr B p ab cb bs) (ho : Only (fun b => w.heap.size ≤ b) wr wr') : Din w wr' B p ab cb bs := by
  obtain ⟨i, h, hd⟩ := d.cur
  have h1 := d.lt
  have h2 := d.low
  refine ⟨⟨i, h, hd.only ho (fun b hb => ⟨by omega, by omega⟩)⟩, ?_, h1, h2⟩
  exact ⟨ho.os.trans d.only.os, ho.tape.trans d.only.tape, ho.output.trans d.only.output, Nat.le_trans d.only.size ho.size, fun k hk hn => (ho.block k (Nat.lt_of_lt_of_le hk d.only.size) (by omega)).trans (d.only.block k hk hn)⟩
theorem Din.below {wr wr' : World} (d : Din w wr B p ab cb bs) (hb : Below wr.heap.size wr wr') : Din w wr' B p ab cb bs := d.new (Only.of_below hb)

/-- A rising list of numbers below n. -/
def UpTo (n : Int) (zs : List Int) : Prop := zs.Pairwise (· < ·) ∧ ∀ x ∈ zs, 0 ≤ x ∧ x < n

theorem UpTo.len {n : Nat} {zs : List Int} (h : UpTo n zs) : zs.length ≤ n := by
  have key : ∀ (k : Nat) (zs : List Int), UpTo k zs → zs.length ≤ k := fun k => by
    induction k with
    | zero =>
      intro zs hz
      cases zs with
      | nil => simp
      | cons x xs => have := hz.2 x (by simp); omega
    | succ k ih =>
      intro zs hz
      rcases List.eq_nil_or_concat zs with rfl | ⟨xs, x, rfl⟩
      · simp
      · have hp := hz.1
        rw [List.concat_eq_append, List.pairwise_append] at hp
        have := ih xs ⟨hp.1, fun y hy => by
          have h1 := hp.2.2 y hy x (by simp)
          have h2 := hz.2 x (by simp)
          have h3 := hz.2 y (by simp [hy])
          omega⟩
        simp; omega
  exact key n zs h

/-- A random set below n. -/
def ThrowsSet (w : World) (B p : Nat) (ab : Option Addr) (cb : Nat) (bs : List Int) (n : Int) (e : Ending) (w' : World) : Prop :=
  ∃ v zs, e = .returned v ∧ OwnInts w' w.heap.size w'.heap.size v zs ∧ UpTo n zs ∧ Din w w' B p ab cb bs

/-- A full plan up to k. -/
def PlanTo (O : List Int) (zss : List (List Int)) (who : Int) (k : Nat) (P : Nat → Int) : Prop :=
  ∀ j, j < k → (nth O j = who → P j ∈ row zss j) ∧ (nth O j ≠ who → P j = -1)

/-- A random full plan. -/
def ThrowsPlan (w : World) (B p : Nat) (ab : Option Addr) (cb : Nat) (bs : List Int) (O : List Int) (zss : List (List Int)) (who : Int) (e : Ending) (w' : World) : Prop :=
  ∃ v P, e = .returned v ∧ OwnInts w' w.heap.size w'.heap.size v (fnL O.length P) ∧ PlanTo O zss who O.length P ∧ Din w w' B p ab cb bs

set_option maxHeartbeats 8000000 in
set_option maxRecDepth 100000 in
theorem w5Plan_is {ao an : Option Addr} {co cn : Nat} {A : Nat → Option Addr} {C : Nat → Nat} {O : List Int} {zss : List (List Int)} {who : Int} (d : Di w B p ab cb bs i h) (hap : ∀ W', Only (fun b => b = p) w W' → IntsAt W' ao O ∧ RowsAt W' an A C zss)
    (hz : zss.length = O.length) (hO : O.length ≤ 1048576) (hr : ∀ k, k < O.length → 0 < (row zss k).length ∧ (row zss k).length ≤ 1048576) :
    Calls Tryz.prog 19 #[.pointer (some ⟨p, 0, none⟩), .agg #[.slice ao O.length co, .slice an zss.length cn], .int .i64 who] w (ThrowsPlan w B p ab cb bs O zss who) := by
  obtain ⟨i0, hi, hz0, hz1, hz2⟩ := info_parts info_int
  have hp := d.lt
  obtain ⟨h1, h2⟩ := hap w (Only.refl _ _)
  have hlO := h1.len
  have hlN := h2.len
  have HR := Lib.hid hr
  have HAP := Lib.hid hap
  obtain ⟨w0, hw0⟩ : ∃ y, y = w.alloc (.cells #[.slice ao O.length co, .slice an zss.length cn] 30) := ⟨_, rfl⟩
  have HW0 := Lib.hid hw0
  have b0 : Hid (Box2 w0 w.heap.size 30 (.slice ao O.length co) (.slice an zss.length cn)) := by rw [hw0]; exact Box2.new _ _ _ _
  have hb0 : Below w.heap.size w w0 := by rw [hw0]; exact below1 _ _
  have hs0 : w0.heap.size = w.heap.size + 1 := by rw [hw0]; simp
  obtain ⟨w1, hw1⟩ : ∃ y, y = w0.alloc (.cells #[] 2) := ⟨_, rfl⟩
  have HW1 := Lib.hid hw1
  have hb1 : Below w0.heap.size w0 w1 := by rw [hw1]; exact below1 _ _
  have O1 : Hid (w1.ownsRow (w.heap.size + 1) 2 1 (.slice (some ⟨w0.heap.size, 0, none⟩) 0 0) 0 ((fnL 0 (fun _ => -1)).map (Value.int .i64))) := by rw [hw1]; exact World.ownsRow_made w0 #[] 0 (by omega) (by unfold maxLen; omega) rfl
  have b1 := Lib.hid (b0.out.below hb1)
  have D1 := Lib.hid (((Din.start d).below hb0).below hb1)
  rw [hs0] at O1
  have P1 : Hid (PlanTo O zss who 0 (fun _ => -1)) := fun k hk => absurd hk (Nat.not_lt_zero _)
  have F1 : Hid (∀ k, k < 0 → Fits ((fun _ : Nat => (-1 : Int)) k)) := fun k hk => absurd hk (Nat.not_lt_zero _)
  have HZ := Lib.hid hz
  clear hw0 hw1 hb0 hb1 hs0 b0 d h1 h2 hr hap hz
  go_enter Tryz.func19, Tryz.ntmps19
  go_wp2
  rw [← HW0.out, ← HW1.out]
  go_loopw [7, 8] (fun v iv wr => ∃ (k : Nat) (P : Nat → Int), k ≤ O.length ∧ iv = .int .i64 k ∧ Hid (wr.ownsRow (w.heap.size + 1) 2 1 v k ((fnL k P).map (Value.int .i64))) ∧ Hid (PlanTo O zss who k P) ∧ Hid (∀ j, j < k → Fits (P j)) ∧ Hid (Box2 wr w.heap.size 30 (.slice ao O.length co) (.slice an zss.length cn)) ∧ Hid (Din w wr B p ab cb bs)) (fun _ iv _ => O.length - (intOf iv).toNat)
  case atStart => exact ⟨0, fun _ => -1, Nat.zero_le _, rfl, O1, P1, F1, b1, D1⟩
  case round =>
    clear O1 P1 F1 b1 D1
    obtain ⟨k, P, hk, rfl, HO, HP, HF, HT, HD⟩ := hrel
    have hwr := HD.out.only.size
    have htl := HT.out.lt
    have t0 := HT.out.cell0
    have t1 := HT.out.cell1
    by_cases hlt : k < O.length
    · have hi1 : (k : Int) < O.length := by omega
      have hk0 : (0 : Int) ≤ (k : Int) := by omega
      have hkz : (k : Int) < zss.length := by have := HZ.out; omega
      have hkz' : k < zss.length := by omega
      obtain ⟨hoi, hni⟩ := HAP.out wr HD.out.only
      obtain ⟨ob, oo, hoa, hoc⟩ := hoi.cell (by omega)
      obtain ⟨nb, no, hna, hnc⟩ := hni.cell (by omega)
      have o1 := hoc k hlt
      have n1 := hnc k hkz'
      obtain ⟨hr0, hr1⟩ := HR.out k hlt
      subst hoa
      subst hna
      by_cases hw : nth O k = who
      · have hwe : (nth O k == who) = true := by simpa using hw
        have HWW := Lib.hid hw
        obtain ⟨m, hm⟩ : ∃ m, m = (row zss k).length := ⟨_, rfl⟩
        have HM := Lib.hid hm
        rw [← hm] at n1 hr0 hr1
        have HNC : Hid (∀ W', Only (fun b => b = p) w W' → W'.cell? ⟨nb, no + k, none⟩ = some (.slice (A k) m (C k))) := fun W' ho' => by
          obtain ⟨b', o', ha', hc'⟩ := (HAP.out W' ho').2.cell (by omega)
          cases ha'
          rw [hm]; exact hc' k hkz'
        have HRC : Hid (∀ W', Only (fun b => b = p) w W' → ∀ x, x < m → ∃ rb ro, A k = some ⟨rb, ro, none⟩ ∧ W'.cell? ⟨rb, ro + x, none⟩ = some (.int .i64 (nth (row zss k) x))) := fun W' ho' x hx => by
          obtain ⟨b', o', ha', hc'⟩ := ((HAP.out W' ho').2.rows k hkz').cell (by omega)
          exact ⟨b', o', ha', hc' x (by omega)⟩
        obtain ⟨rb, ro, hra, -⟩ := HRC.out wr HD.out.only 0 hr0
        have HRA := Lib.hid hra
        rw [hra] at HNC n1
        have hm1 : (m : Int) ≠ 0 := by omega
        have HDd : Hid (Din w wr.drew B p ab cb bs) := HD.out.below (Below.refl _ _).drew
        have HTd : Hid (Box2 wr.drew _ _ _ _) := HT.out.below (Below.refl _ _).drew
        have HOd : Hid (wr.drew.ownsRow _ _ _ _ _ _) := ownsRow_only HO.out (S := fun _ => False) (Only.of_below (Below.refl _ _).drew) (fun _ _ h => h)
        obtain ⟨j, g, hdc⟩ := HDd.out.cur
        have HBw := Lib.hid (below_is (n := (m : Int)) (hi := (m : Int) - 1) hdc (by omega) rfl (by omega))
        have HRX : Hid (∀ W', Only (fun b => b = p) w W' → ∀ x, x < m → W'.cell? ⟨rb, ro + x, none⟩ = some (.int .i64 (nth (row zss k) x))) := fun W' ho' x hx => by
          obtain ⟨rb', ro', ha', hc'⟩ := HRC.out W' ho' x hx
          rw [hra] at ha'
          simp only [Option.some.injEq, Addr.mk.injEq] at ha'
          obtain ⟨rfl, rfl, _⟩ := ha'
          exact hc'
        clear hm hra hdc hoc hnc hoi hni hw
        have t1' := HTd.out.cell1
        have n1' := HNC.out _ HDd.out.only
        have r1' := HRX.out _ HDd.out.only
        go_wp2_with fail
        go_region_held3 (fun w' => w'.cell? ⟨w.heap.size, 1, none⟩ = some (.slice (some ⟨nb, no, none⟩) zss.length cn) ∧ w'.cell? ⟨nb, no + k, none⟩ = some (.slice (some ⟨rb, ro, none⟩) m (C k)) ∧ ∀ x, x < m → w'.cell? ⟨rb, ro + x, none⟩ = some (.int .i64 (nth (row zss k) x)))
          (first
            | exact ⟨t1', n1', r1'⟩
            | exact ⟨d1, d2, d3⟩
            | go_keep)
          (first
            | (go_at_call 38; refine HBw.out.mono ?_; rintro e w2 ⟨x0, j2, g2, rfl, hx0, hx1, hd, ho⟩; obtain ⟨x, rfl⟩ := Int.eq_ofNat_of_zero_le hx0; have HT2 := Lib.hid (HTd.out.only ho (by omega)); have HD2 := Lib.hid (HDd.out.call hd ho); have HO2 := Lib.hid (ownsRow_only HOd.out ho (fun b hb e => by have := (HOd.out.lt b hb).1; omega)); have d1 := HT2.out.cell1; have d2 := HNC.out _ HD2.out.only; have d3 := HRX.out _ HD2.out.only; have hxm : x < m := (by omega); have hxi : (x : Int) < m := (by omega); have e1 := HRX.out _ HD2.out.only x hxm; clear hd ho))
        obtain ⟨to, hto⟩ : ∃ to, to = nth (row zss k) x := ⟨_, rfl⟩
        have HTO : Hid ((nth O k = who → to ∈ row zss k) ∧ (nth O k ≠ who → to = -1)) := ⟨fun _ => by rw [hto]; exact nth_mem (by have := HM.out; omega), fun h => absurd HWW.out h⟩
        have HTF : Hid (Fits to) := by rw [hto]; exact ((HAP.out w2 HD2.out.only).2.rows k hkz').fits x (by have := HM.out; omega)
        rw [← hto]
        clear hto t0 t1 o1 n1 t1' n1' r1' d1 d2 d3 e1
        go_wp2_with (at_builtin; refine wpList_append_own_at _ rfl _ _ 27 rfl (w.heap.size + 1) 2 i0 (.int .i64 0) 1 8 Tryz.underlying27 hi hz0 hz1 hz2 rfl (by decide) _ _ _ rfl (HO2.out.alloc _) ⟨w2.heap.size, 0, none⟩ 1 1 [.int .i64 to] rfl rfl ?c1 ?c2 ?c3 ?c4 ?c5 ?_)
        try (case c1 => exact cell_one_new _ _ _)
        case c2 => first | rfl | (intro u hu; simp at hu; subst hu; rfl)
        case c3 => unfold maxLen; omega
        case c4 => omega
        case c5 => have := HD2.out.only.size; have := HT2.out.lt; simp; omega
        intro v' w4 hown hgrow _ _
        have hg : Only (fun b => w.heap.size + 1 ≤ b) w2 w4 := (Only.of_below (below1 w2 _)).trans ((Only.of_grown hgrow).mono fun b hb => (HO2.out.lt b hb).1)
        have HDn := Lib.hid (HD2.out.new (hg.mono fun b hb => by omega))
        have HTn := Lib.hid (HT2.out.only hg (by omega))
        have e : fnL (k + 1) (fun i => if i = k then to else P i) = fnL k P ++ [to] := by
          rw [fnL_succ]
          congr 1
          · exact fnL_congr fun i hi => by rw [if_neg (by omega)]
          · simp
        have HOn : Hid (w4.ownsRow (w.heap.size + 1) 2 1 v' (k + 1) ((fnL (k + 1) (fun i => if i = k then to else P i)).map (Value.int .i64))) := by rw [e, List.map_append]; exact hown
        have HPn : Hid (PlanTo O zss who (k + 1) (fun i => if i = k then to else P i)) := fun j hj => by
          by_cases ej : j = k
          · subst ej; simpa using HTO.out
          · simpa [ej] using HP.out j (by omega)
        have HFn : Hid (∀ j, j < k + 1 → Fits ((fun i => if i = k then to else P i) j)) := fun j hj => by
          by_cases ej : j = k
          · subst ej; simpa using HTF.out
          · simpa [ej] using HF.out j (by omega)
        clear hown hgrow hg e
        go_wp2
        go_roundw
        case rel => exact ⟨k + 1, _, by omega, by go_num, HOn, HPn, HFn, HTn, HDn⟩
        case measure => simp [intOf]; omega
      · have hwe : (nth O k == who) = false := beq_eq_false_iff_ne.2 hw
        obtain ⟨to, hto⟩ : ∃ to : Int, to = -1 := ⟨_, rfl⟩
        have HTO : Hid ((nth O k = who → to ∈ row zss k) ∧ (nth O k ≠ who → to = -1)) := ⟨fun h => absurd h hw, fun _ => hto⟩
        have HTF : Hid (Fits to) := by rw [hto]; unfold Hid Fits; omega
        have HTE := Lib.hid hto
        clear hw hoc hnc hoi hni hto
        go_wp2_with (at_builtin; refine wpList_append_own_at _ rfl _ _ 27 rfl (w.heap.size + 1) 2 i0 (.int .i64 0) 1 8 Tryz.underlying27 hi hz0 hz1 hz2 rfl (by decide) _ _ _ rfl (HO.out.alloc _) ⟨wr.heap.size, 0, none⟩ 1 1 [.int .i64 (-1)] rfl rfl ?c1 ?c2 ?c3 ?c4 ?c5 ?_)
        try (case c1 => exact cell_one_new _ _ _)
        case c2 => first | rfl | (intro u hu; simp at hu; subst hu; rfl)
        case c3 => unfold maxLen; omega
        case c4 => omega
        case c5 => have := HD.out.only.size; have := HT.out.lt; simp; omega
        intro v' w4 hown hgrow _ _
        have hg : Only (fun b => w.heap.size + 1 ≤ b) wr w4 := (Only.of_below (below1 wr _)).trans ((Only.of_grown hgrow).mono fun b hb => (HO.out.lt b hb).1)
        have HDn := Lib.hid (HD.out.new (hg.mono fun b hb => by omega))
        have HTn := Lib.hid (HT.out.only hg (by omega))
        have e : fnL (k + 1) (fun i => if i = k then to else P i) = fnL k P ++ [to] := by
          rw [fnL_succ]
          congr 1
          · exact fnL_congr fun i hi => by rw [if_neg (by omega)]
          · simp
        have HOn : Hid (w4.ownsRow (w.heap.size + 1) 2 1 v' (k + 1) ((fnL (k + 1) (fun i => if i = k then to else P i)).map (Value.int .i64))) := by rw [e, List.map_append, HTE.out]; exact hown
        have HPn : Hid (PlanTo O zss who (k + 1) (fun i => if i = k then to else P i)) := fun j hj => by
          by_cases ej : j = k
          · subst ej; simpa using HTO.out
          · simpa [ej] using HP.out j (by omega)
        have HFn : Hid (∀ j, j < k + 1 → Fits ((fun i => if i = k then to else P i) j)) := fun j hj => by
          by_cases ej : j = k
          · subst ej; simpa using HTF.out
          · simpa [ej] using HF.out j (by omega)
        clear hown hgrow hg e
        go_wp2
        go_roundw
        case rel => exact ⟨k + 1, _, by omega, by go_num, HOn, HPn, HFn, HTn, HDn⟩
        case measure => simp [intOf]; omega
    · have hi1 : ¬ (k : Int) < O.length := by omega
      have hkk : k = O.length := by omega
      have ho := HO.out
      rw [hkk] at ho
      have hP := HP.out
      rw [hkk] at hP
      have hfin := Lib.hid (And.intro ((OwnInts.mk' (zs := fnL O.length P) (by rw [fnL_len]; exact ho) (by rw [fnL_len]; omega) (fun j hj => by rw [fnL_len] at hj; rw [fnL_nth hj]; exact HF.out j (by omega))).base (B' := w.heap.size) (by omega)) (And.intro hP HD.out))
      clear hkk ho hP
      go_wp2
      go_ret
      exact ⟨_, _, rfl, hfin.out.1, hfin.out.2.1, hfin.out.2.2⟩
end

end Go.Proofs.YtokcinhopajniaaGreatDoor
