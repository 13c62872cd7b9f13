/-
  Contracts: the laws' dice.
-/
import Derived.Test.YtmobegiojhlakaaDrawReach
import Derived.Test.YtmobegiojhlakaaFn
import Derived.Deep.RegionHeld3
namespace Go.Proofs.Ytmobegiojhlakaa
section
open Go.RowKit

theorem bits_and_u64 (x m : Int) (h0 : 0 ≤ m) (h1 : m ≤ 1073741823) : 0 ≤ bits .and .u64 x m ∧ bits .and .u64 x m ≤ m := by
  have hm : (BitVec.ofInt 64 m).toNat = m.toNat := by
    obtain ⟨k, rfl⟩ := Int.eq_ofNat_of_zero_le h0
    rw [BitVec.ofInt_natCast, BitVec.toNat_ofNat]; exact Nat.mod_eq_of_lt (by omega)
  have hle : (BitVec.ofInt 64 x &&& BitVec.ofInt 64 m).toNat ≤ m.toNat := by
    rw [BitVec.toNat_and, hm]; exact Nat.and_le_right
  have hb : bits .and .u64 x m = IntKind.u64.wrap ((BitVec.ofInt 64 x &&& BitVec.ofInt 64 m).toNat : Int) := rfl
  rw [hb]
  generalize (BitVec.ofInt 64 x &&& BitVec.ofInt 64 m).toNat = q at hle
  have hw : IntKind.u64.wrap (q : Int) = q := by
    have hq : q < 4294967296 := by omega
    simp only [IntKind.wrap, IntKind.bits, IntKind.signed]
    simp
    omega
  rw [hw]
  omega

/-- Dice over bytes that lie below B, in block p. -/
structure Di (w : World) (B p : Nat) (ab : Option Addr) (cb : Nat) (bs : List Int) (i : Nat) (h : Int) : Prop where
  str : w.rowIs p 67 3 (tri (.slice ab bs.length cb) (.int .i64 i) (.int .u64 h))
  idx : i ≤ bs.length
  len : bs.length ≤ 4096
  low : B ≤ p
  byt : ∀ k, k < bs.length → ∃ b off, ab = some ⟨b, off, none⟩ ∧ b < B ∧ w.cell? ⟨b, off + k, none⟩ = some (.int .u8 (nth bs k)) ∧ 0 ≤ nth bs k ∧ nth bs k ≤ 255

variable {w w' : World} {B p : Nat} {ab : Option Addr} {cb : Nat} {bs : List Int} {i : Nat} {h : Int}

theorem Di.c0 (d : Di w B p ab cb bs i h) : w.cell? ⟨p, 0, none⟩ = some (.slice ab bs.length cb) := d.str.cell (i := 0) (by omega)
theorem Di.c1 (d : Di w B p ab cb bs i h) : w.cell? ⟨p, 1, none⟩ = some (.int .i64 i) := d.str.cell (i := 1) (by omega)
theorem Di.c2 (d : Di w B p ab cb bs i h) : w.cell? ⟨p, 2, none⟩ = some (.int .u64 h) := d.str.cell (i := 2) (by omega)
theorem Di.lt (d : Di w B p ab cb bs i h) : p < w.heap.size := d.str.lt
theorem Di.below (d : Di w B p ab cb bs i h) (hb : Below w.heap.size w w') : Di w' B p ab cb bs i h :=
  ⟨rowIs_below d.str hb, d.idx, d.len, d.low, fun k hk => by
    obtain ⟨b, off, h1, h2, h3, h4⟩ := d.byt k hk
    exact ⟨b, off, h1, h2, Below.cell_some (B := 0) hb rfl h3, h4⟩⟩
theorem Di.only {S : Nat → Prop} (d : Di w B p ab cb bs i h) (hk : Only S w w') (hs : ∀ b, S b → B ≤ b ∧ b ≠ p) : Di w' B p ab cb bs i h :=
  ⟨rowIs_only d.str hk (fun e => (hs p e).2 rfl), d.idx, d.len, d.low, fun k hk' => by
    obtain ⟨b, off, h1, h2, h3, h4⟩ := d.byt k hk'
    refine ⟨b, off, h1, h2, ?_, h4⟩
    rw [World.cell?_of_block (w := w) (hk.block b (World.block_lt_of_cell? w _ h3) (fun e => by have := (hs b e).1; omega))]
    exact h3⟩
theorem Di.set2 (d : Di w B p ab cb bs i h) (h' : Int) : Di (w.setCell ⟨p, 2, none⟩ (.int .u64 h')) B p ab cb bs i h' :=
  ⟨(d.str.set 2 _).congr tri_set2, d.idx, d.len, d.low, fun k hk => by
    obtain ⟨b, off, h1, h2, h3, h4⟩ := d.byt k hk
    have := d.low
    have hb : Below p w (w.setCell ⟨p, 2, none⟩ (.int .u64 h')) := (Below.refl p w).setCell (p := ⟨p, 2, none⟩) (Nat.le_refl _) _
    exact ⟨b, off, h1, h2, (hb.cell (by show b < p; omega)).trans h3, h4⟩⟩
theorem Di.set1 (d : Di w B p ab cb bs i h) (hi : i + 1 ≤ bs.length) : Di (w.setCell ⟨p, 1, none⟩ (.int .i64 ((i + 1 : Nat) : Int))) B p ab cb bs (i + 1) h :=
  ⟨(d.str.set 1 _).congr tri_set1, hi, d.len, d.low, fun k hk => by
    obtain ⟨b, off, h1, h2, h3, h4⟩ := d.byt k hk
    have := d.low
    have hb : Below p w (w.setCell ⟨p, 1, none⟩ (.int .i64 ((i + 1 : Nat) : Int))) := (Below.refl p w).setCell (p := ⟨p, 1, none⟩) (Nat.le_refl _) _
    exact ⟨b, off, h1, h2, (hb.cell (by show b < p; omega)).trans h3, h4⟩⟩

/-- A throw: a number from 0 to hi. -/
def Throws (w : World) (B p : Nat) (ab : Option Addr) (cb : Nat) (bs : List Int) (hi : Int) (e : Ending) (w' : World) : Prop :=
  ∃ x i h, e = .returned (.int .i64 x) ∧ 0 ≤ x ∧ x ≤ hi ∧ Di w' B p ab cb bs i h ∧ Only (fun b => b = p) w w'

set_option maxHeartbeats 4000000 in
set_option maxRecDepth 100000 in
theorem below_is {n hi : Int} (d : Di w B p ab cb bs i h) (h0 : 0 < n) (h1 : hi = n - 1) (h2 : n ≤ 4611686018427387904) :
    Calls Try.prog 54 #[.pointer (some ⟨p, 0, none⟩), .int .i64 n] w (Throws w B p ab cb bs hi) := by
  have HD := Lib.hid d
  have HH := Lib.hid h1
  have c2 := d.c2
  have f2 := d.str.frozen 2
  clear d h1
  go_enter Try.func54, Try.ntmps54
  go_wp2
  obtain ⟨h1, hh1⟩ : ∃ x, x = IntKind.u64.wrap (IntKind.u64.wrap (h * 6364136223846793005) + 1442695040888963407) := ⟨_, rfl⟩
  rw [← hh1]
  obtain ⟨w1, hw1⟩ : ∃ x, x = w.setCell ⟨p, 2, none⟩ (.int .u64 h1) := ⟨_, rfl⟩
  rw [← hw1]
  have D1 : Hid (Di w1 B p ab cb bs i h1) := by rw [hw1]; exact HD.out.set2 h1
  have O1 : Hid (Only (fun b => b = p) w w1) := by rw [hw1]; exact (Only.refl (fun b => b = p) w).setCell (p := ⟨p, 2, none⟩) rfl _
  clear hw1 hh1 c2 f2
  obtain ⟨x, hx0, hx1, hxe⟩ : ∃ x, 0 ≤ x ∧ x ≤ 16777215 ∧ wrap64 (bits .and .u64 (h1 / 8589934592) 16777215) = x := by
    have hz := bits_and_u64 (h1 / 8589934592) 16777215 (by omega) (by omega)
    refine ⟨bits .and .u64 (h1 / 8589934592) 16777215, hz.1, hz.2, by generalize bits .and .u64 (h1 / 8589934592) 16777215 = y at hz ⊢; unfold wrap64; omega⟩
  rw [hxe]
  clear hxe
  have c0 := D1.out.c0
  have c1 := D1.out.c1
  have hl := D1.out.len
  have hn0 : n ≠ 0 := by omega
  by_cases hlt : i < bs.length
  · have hi1 : (i : Int) < bs.length := by omega
    go_quiet (fail)
    go_wp2
    obtain ⟨w3, hw3⟩ : ∃ x, x = w1.drewN nq := ⟨_, rfl⟩
    rw [← hw3]
    have hb3 : Below w1.heap.size w1 w3 := by rw [hw3]; exact below_drewN (Below.refl _ _) _
    have D3 := Lib.hid (D1.out.below hb3)
    have O3 := Lib.hid (O1.out.trans (Only.of_below hb3))
    clear hw3 hb3 c0 c1
    have c0 := D3.out.c0
    have c1 := D3.out.c1
    obtain ⟨b, off, ha, _, hcb, hb0, hb1⟩ := D3.out.byt i hlt
    subst ha
    have f1 := D3.out.str.frozen 1
    go_quiet (fail)
    have D4 : Hid (Di ((w3.drewN nq).setCell ⟨p, 1, none⟩ (.int .i64 ((i : Int) + 1))) B p (some ⟨b, off, none⟩) cb bs (i + 1) h1) := (D3.out.below (below_drewN (Below.refl _ _) nq)).set1 (by omega)
    have O4 : Hid (Only (fun b => b = p) w ((w3.drewN nq).setCell ⟨p, 1, none⟩ (.int .i64 ((i : Int) + 1)))) := (O3.out.trans (Only.of_below (below_drewN (Below.refl _ _) nq))).setCell (p := ⟨p, 1, none⟩) rfl _
    have hz1 := Int.emod_nonneg (x + nth bs i) hn0
    have hz2 := Int.emod_lt_of_pos (x + nth bs i) h0
    have hh := HH.out
    have hz3 : (x + nth bs i) % n ≤ hi := by omega
    clear hh
    go_wp2
    go_ret
    exact ⟨_, i + 1, h1, rfl, hz1, hz3, D4.out, O4.out⟩
  · have hi1 : ¬ (i : Int) < bs.length := by omega
    have hz1 := Int.emod_nonneg x hn0
    have hz2 := Int.emod_lt_of_pos x h0
    have hh := HH.out
    have hz3 : x % n ≤ hi := by omega
    clear hh
    go_quiet (fail)
    go_wp2
    go_ret
    exact ⟨_, i, h1, rfl, hz1, hz3, D1.out.below (below_drewN (Below.refl _ _) _), O1.out.trans (Only.of_below (below_drewN (Below.refl _ _) _))⟩

/-- New dice. -/
def GivesDice (w : World) (ab : Option Addr) (cb : Nat) (bs : List Int) (e : Ending) (w' : World) : Prop :=
  ∃ h, e = .returned (.pointer (some ⟨w.heap.size, 0, none⟩)) ∧ Di w' w.heap.size w.heap.size ab cb bs 0 h ∧ Below w.heap.size w w'

set_option maxHeartbeats 4000000 in
set_option maxRecDepth 100000 in
theorem roll_is {s : Int} (hb : BytesAt w ab bs) (hl : bs.length ≤ 4096) :
    Calls Try.prog 15 #[.slice ab bs.length cb, .int .u64 s] w (GivesDice w ab cb bs) := by
  have HB := Lib.hid hb
  clear hb
  go_enter Try.func15, Try.ntmps15
  go_wp2
  obtain ⟨h1, hh1⟩ : ∃ x, x = IntKind.u64.wrap (IntKind.u64.wrap (s * 7919) + (bs.length : Int)) := ⟨_, rfl⟩
  rw [← hh1]
  obtain ⟨w1, hw1⟩ : ∃ y, y = w.alloc (.cells #[.slice ab bs.length cb, .int .i64 0, .int .u64 h1] 67) := ⟨_, rfl⟩
  rw [← hw1]
  have D1 : Hid (Di w1 w.heap.size w.heap.size ab cb bs 0 h1) := by
    rw [hw1]
    refine ⟨⟨_, heap_alloc_new w _, by simp, fun j hj => ?_⟩, Nat.zero_le _, hl, Nat.le_refl _, fun j hj => ?_⟩
    · have hj3 : j = 0 ∨ j = 1 ∨ j = 2 := by omega
      rcases hj3 with rfl | rfl | rfl <;> rfl
    · obtain ⟨b, off, ha, hcb, hb0, hb1⟩ := HB.out.byt j hj
      exact ⟨b, off, ha, World.block_lt_of_cell? w _ hcb, Below.cell_some (B := 0) (below1 w _) rfl hcb, hb0, hb1⟩
  have B1 : Hid (Below w.heap.size w w1) := by rw [hw1]; exact below1 _ _
  clear hw1 hh1
  go_loopw [6] (fun iv wr => ∃ (k : Nat) (h : Int), k ≤ bs.length ∧ iv = .int .i64 k ∧ Hid (Di wr w.heap.size w.heap.size ab cb bs 0 h) ∧ Hid (Below w.heap.size w wr)) (fun iv _ => bs.length - (intOf iv).toNat)
  case atStart => exact ⟨0, h1, Nat.zero_le _, rfl, D1, B1⟩
  case round =>
    clear D1 B1
    obtain ⟨k, h, hk, rfl, HD, HW⟩ := hrel
    by_cases hlt : k < bs.length
    · have hi1 : (k : Int) < bs.length := by omega
      have hk0 : (0 : Int) ≤ (k : Int) := by omega
      obtain ⟨b, off, ha, _, hcb, hb0, hb1⟩ := HD.out.byt k hlt
      subst ha
      have c2 := HD.out.c2
      have f2 := HD.out.str.frozen 2
      go_wp2
      go_region_law (fail)
      all_goals (
        clear c2 f2
        go_wp2
        go_roundw
        case rel =>
          first
            | exact ⟨k + 1, _, by omega, by go_num, (HD.out.set2 _).below (Below.refl _ _).drew, (HW.out.setCell (p := ⟨w.heap.size, 2, none⟩) (Nat.le_refl _) _).drew⟩
            | exact ⟨k + 1, _, by omega, by go_num, (HD.out.below (Below.refl _ _).drew).set2 _, HW.out.drew.setCell (p := ⟨w.heap.size, 2, none⟩) (Nat.le_refl _) _⟩
            | exact ⟨k + 1, _, by omega, by go_num, HD.out.set2 _, HW.out.setCell (p := ⟨w.heap.size, 2, none⟩) (Nat.le_refl _) _⟩
        case measure => simp [intOf]; omega)
    · have hi1 : ¬ (k : Int) < bs.length := by omega
      go_wp2
      go_ret
      exact ⟨h, rfl, HD.out, HW.out⟩
end

section
open Go.RowKit

variable {w w' : World} {B p : Nat} {ab : Option Addr} {cb : Nat} {bs : List Int} {i : Nat} {h : Int}

/-- Dice in a call that began in w: nothing that was there has turned but the dice. -/
structure Din (w wr : World) (B p : Nat) (ab : Option Addr) (cb : Nat) (bs : List Int) : Prop where
  cur : ∃ i h, Di wr B p ab cb bs i h
  only : Only (fun b => b = p) w wr
  lt : p < w.heap.size
  low : B ≤ p

theorem Din.start (d : Di w B p ab cb bs i h) : Din w w B p ab cb bs := ⟨⟨i, h, d⟩, Only.refl _ _, d.lt, d.low⟩
theorem Din.call {wr wr' : World} {j : Nat} {g : Int} (d : Din w wr B p ab cb bs) (hd : Di wr' B p ab cb bs j g) (ho : Only (fun b => b = p) wr wr') : Din w wr' B p ab cb bs :=
  ⟨⟨j, g, hd⟩, d.only.trans ho, d.lt, d.low⟩
theorem Din.new {wr wr' : World} (d : Din w wr B p ab cb bs) (ho : Only (fun b => w.heap.size ≤ b) wr wr') : Din w wr' B p ab cb bs := by
  obtain ⟨i, h, hd⟩ := d.cur
  have h1 := d.lt
  have h2 := d.low
  refine ⟨⟨i, h, hd.only ho (fun b hb => ⟨by omega, by omega⟩)⟩, ?_, h1, h2⟩
  exact ⟨ho.os.trans d.only.os, ho.tape.trans d.only.tape, ho.output.trans d.only.output, Nat.le_trans d.only.size ho.size, fun k hk hn => (ho.block k (Nat.lt_of_lt_of_le hk d.only.size) (by omega)).trans (d.only.block k hk hn)⟩
theorem Din.below {wr wr' : World} (d : Din w wr B p ab cb bs) (hb : Below wr.heap.size wr wr') : Din w wr' B p ab cb bs := d.new (Only.of_below hb)

/-- A rising list of numbers below n. -/
def UpTo (n : Int) (zs : List Int) : Prop := zs.Pairwise (· < ·) ∧ ∀ x ∈ zs, 0 ≤ x ∧ x < n

theorem UpTo.len {n : Nat} {zs : List Int} (h : UpTo n zs) : zs.length ≤ n := by
  have key : ∀ (k : Nat) (zs : List Int), UpTo k zs → zs.length ≤ k := fun k => by
    induction k with
    | zero =>
      intro zs hz
      cases zs with
      | nil => simp
      | cons x xs => have := hz.2 x (by simp); omega
    | succ k ih =>
      intro zs hz
      rcases List.eq_nil_or_concat zs with rfl | ⟨xs, x, rfl⟩
      · simp
      · have hp := hz.1
        rw [List.concat_eq_append, List.pairwise_append] at hp
        have := ih xs ⟨hp.1, fun y hy => by
          have h1 := hp.2.2 y hy x (by simp)
          have h2 := hz.2 x (by simp)
          have h3 := hz.2 y (by simp [hy])
          omega⟩
        simp; omega
  exact key n zs h

/-- A random set below n. -/
def ThrowsSet (w : World) (B p : Nat) (ab : Option Addr) (cb : Nat) (bs : List Int) (n : Int) (e : Ending) (w' : World) : Prop :=
  ∃ v zs, e = .returned v ∧ OwnInts w' w.heap.size w'.heap.size v zs ∧ UpTo n zs ∧ Din w w' B p ab cb bs

/-- A full plan up to k. -/
def PlanTo (O : List Int) (zss : List (List Int)) (who : Int) (k : Nat) (P : Nat → Int) : Prop :=
  ∀ j, j < k → (nth O j = who → P j ∈ row zss j) ∧ (nth O j ≠ who → P j = -1)

/-- A random full plan. -/
def ThrowsPlan (w : World) (B p : Nat) (ab : Option Addr) (cb : Nat) (bs : List Int) (O : List Int) (zss : List (List Int)) (who : Int) (e : Ending) (w' : World) : Prop :=
  ∃ v P, e = .returned v ∧ OwnInts w' w.heap.size w'.heap.size v (fnL O.length P) ∧ PlanTo O zss who O.length P ∧ Din w w' B p ab cb bs

end

end Go.Proofs.Ytmobegiojhlakaa
