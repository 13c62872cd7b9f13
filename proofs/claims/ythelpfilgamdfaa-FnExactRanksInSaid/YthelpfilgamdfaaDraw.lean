/-
  Contracts: the draws' cursor (l1Byte, l1Below).
-/
import Derived.Test.YthelpfilgamdfaaCursor
import Derived.Laws.Closers25b
namespace Go.Proofs.Ythelpfilgamdfaa
open Go.RowKit

theorem bits_and_small (x m : Int) (h0 : 0 ≤ m) (h1 : m ≤ 1073741823) : 0 ≤ bits .and .i64 x m ∧ bits .and .i64 x m ≤ m := by
  have hm : (BitVec.ofInt 64 m).toNat = m.toNat := by
    obtain ⟨k, rfl⟩ := Int.eq_ofNat_of_zero_le h0
    rw [BitVec.ofInt_natCast, BitVec.toNat_ofNat]; exact Nat.mod_eq_of_lt (by omega)
  have hle : (BitVec.ofInt 64 x &&& BitVec.ofInt 64 m).toNat ≤ m.toNat := by
    rw [BitVec.toNat_and, hm]; exact Nat.and_le_right
  have hb : bits .and .i64 x m = IntKind.i64.wrap ((BitVec.ofInt 64 x &&& BitVec.ofInt 64 m).toNat : Int) := rfl
  rw [hb]
  generalize (BitVec.ofInt 64 x &&& BitVec.ofInt 64 m).toNat = q at hle
  have hw : IntKind.i64.wrap (q : Int) = q := by
    have hq : q < 4294967296 := by omega
    simp only [IntKind.wrap, IntKind.bits, IntKind.signed]
    simp
    omega
  rw [hw]
  omega

/-- A cursor over bytes that lie below B, in block p. -/
structure Dr (w : World) (B p : Nat) (ab : Option Addr) (cb : Nat) (bs : List Int) (i : Nat) (h : Int) : Prop where
  str : w.rowIs p 90 3 (tri (.slice ab bs.length cb) (.int .i64 i) (.int .i64 h))
  idx : i ≤ bs.length
  len : bs.length ≤ 4096
  low : B ≤ p
  byt : ∀ k, k < bs.length → ∃ b off, ab = some ⟨b, off, none⟩ ∧ b < B ∧ w.cell? ⟨b, off + k, none⟩ = some (.int .u8 (nth bs k)) ∧ 0 ≤ nth bs k ∧ nth bs k ≤ 255

theorem tri_set2 {a b c d : Value} : ∀ i, i < 3 → (if i = 2 then d else tri a b c i) = tri a b d i := tri_set
theorem tri_set1 {a b c d : Value} : ∀ i, i < 3 → (if i = 1 then d else tri a b c i) = tri a d c i := fun i hi => by
  have h : i = 0 ∨ i = 1 ∨ i = 2 := by omega
  rcases h with rfl | rfl | rfl <;> simp [tri]

theorem Dr.c0 {w : World} {B p : Nat} {ab : Option Addr} {cb : Nat} {bs : List Int} {i : Nat} {h : Int} (d : Dr w B p ab cb bs i h) : w.cell? ⟨p, 0, none⟩ = some (.slice ab bs.length cb) := d.str.cell (i := 0) (by omega)
theorem Dr.c1 {w : World} {B p : Nat} {ab : Option Addr} {cb : Nat} {bs : List Int} {i : Nat} {h : Int} (d : Dr w B p ab cb bs i h) : w.cell? ⟨p, 1, none⟩ = some (.int .i64 i) := d.str.cell (i := 1) (by omega)
theorem Dr.c2 {w : World} {B p : Nat} {ab : Option Addr} {cb : Nat} {bs : List Int} {i : Nat} {h : Int} (d : Dr w B p ab cb bs i h) : w.cell? ⟨p, 2, none⟩ = some (.int .i64 h) := d.str.cell (i := 2) (by omega)

theorem Dr.below {w w' : World} {B p : Nat} {ab : Option Addr} {cb : Nat} {bs : List Int} {i : Nat} {h : Int} (d : Dr w B p ab cb bs i h) (hb : Below w.heap.size w w') : Dr w' B p ab cb bs i h :=
  ⟨rowIs_below d.str hb, d.idx, d.len, d.low, fun k hk => by
    obtain ⟨b, off, h1, h2, h3, h4⟩ := d.byt k hk
    exact ⟨b, off, h1, h2, Below.cell_some (B := 0) hb rfl h3, h4⟩⟩

theorem Dr.set2 {w : World} {B p : Nat} {ab : Option Addr} {cb : Nat} {bs : List Int} {i : Nat} {h : Int} (d : Dr w B p ab cb bs i h) (h' : Int) : Dr (w.setCell ⟨p, 2, none⟩ (.int .i64 h')) B p ab cb bs i h' :=
  ⟨(d.str.set 2 _).congr tri_set2, d.idx, d.len, d.low, fun k hk => by
    obtain ⟨b, off, h1, h2, h3, h4⟩ := d.byt k hk
    have := d.low
    have hb : Below p w (w.setCell ⟨p, 2, none⟩ (.int .i64 h')) := (Below.refl p w).setCell (p := ⟨p, 2, none⟩) (Nat.le_refl _) _
    exact ⟨b, off, h1, h2, (hb.cell (by show b < p; omega)).trans h3, h4⟩⟩

theorem Dr.set1 {w : World} {B p : Nat} {ab : Option Addr} {cb : Nat} {bs : List Int} {i : Nat} {h : Int} (d : Dr w B p ab cb bs i h) (hi : i + 1 ≤ bs.length) : Dr (w.setCell ⟨p, 1, none⟩ (.int .i64 ((i + 1 : Nat) : Int))) B p ab cb bs (i + 1) h :=
  ⟨(d.str.set 1 _).congr tri_set1, hi, d.len, d.low, fun k hk => by
    obtain ⟨b, off, h1, h2, h3, h4⟩ := d.byt k hk
    have := d.low
    have hb : Below p w (w.setCell ⟨p, 1, none⟩ (.int .i64 ((i + 1 : Nat) : Int))) := (Below.refl p w).setCell (p := ⟨p, 1, none⟩) (Nat.le_refl _) _
    exact ⟨b, off, h1, h2, (hb.cell (by show b < p; omega)).trans h3, h4⟩⟩

end Go.Proofs.Ythelpfilgamdfaa
