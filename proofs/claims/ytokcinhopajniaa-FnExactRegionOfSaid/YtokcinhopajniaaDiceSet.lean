/-
  Contracts: the laws' dice.
-/
import Derived.Test.YtokcinhopajniaaDraw1
import Derived.Test.YtokcinhopajniaaWalks1
import Derived.Deep.RegionHeld3
namespace Go.Proofs.Ytokcinhopajniaa
section
open Go.RowKit

theorem bits_and_u64 (x m : Int) (h0 : 0 ≤ m) (h1 : m ≤ 1073741823) : 0 ≤ bits .and .u64 x m ∧ bits .and .u64 x m ≤ m := by
  have hm : (BitVec.ofInt 64 m).toNat = m.toNat := by
    obtain ⟨k, rfl⟩ := Int.eq_ofNat_of_zero_le h0
    rw [BitVec.ofInt_natCast, BitVec.toNat_ofNat]; exact Nat.mod_eq_of_lt (by omega)
  have hle : (BitVec.ofInt 64 x &&& BitVec.ofInt 64 m).toNat ≤ m.toNat := by
    rw [BitVec.toNat_and, hm]; exact Nat.and_le_right
  have hb : bits .and .u64 x m = IntKind.u64.wrap ((BitVec.ofInt 64 x &&& BitVec.ofInt 64 m).toNat : Int) := rfl
  rw [hb]
  generalize (BitVec.ofInt 64 x &&& BitVec.ofInt 64 m).toNat = q at hle
  have hw : IntKind.u64.wrap (q : Int) = q := by
    have hq : q < 4294967296 := by omega
    simp only [IntKind.wrap, IntKind.bits, IntKind.signed]
    simp
    omega
  rw [hw]
  omega

variable {w w' : World} {B p : Nat} {ab : Option Addr} {cb : Nat} {bs : List Int} {i : Nat} {h : Int}

end

section
open Go.RowKit

variable {w w' : World} {B p : Nat} {ab : Option Addr} {cb : Nat} {bs : List Int} {i : Nat} {h : Int}

/-- A rising list of numbers below n. -/
def UpTo (n : Int) (zs : List Int) : Prop := zs.Pairwise (· < ·) ∧ ∀ x ∈ zs, 0 ≤ x ∧ x < n

theorem UpTo.len {n : Nat} {zs : List Int} (h : UpTo n zs) : zs.length ≤ n := by
  have key : ∀ (k : Nat) (zs : List Int), UpTo k zs → zs.length ≤ k := fun k => by
    induction k with
    | zero =>
      intro zs hz
      cases zs with
      | nil => simp
      | cons x xs => have := hz.2 x (by simp); omega
    | succ k ih =>
      intro zs hz
      rcases List.eq_nil_or_concat zs with rfl | ⟨xs, x, rfl⟩
      · simp
      · have hp := hz.1
        rw [List.concat_eq_append, List.pairwise_append] at hp
        have := ih xs ⟨hp.1, fun y hy => by
          have h1 := hp.2.2 y hy x (by simp)
          have h2 := hz.2 x (by simp)
          have h3 := hz.2 y (by simp [hy])
          omega⟩
        simp; omega
  exact key n zs h

/-- A full plan up to k. -/
def PlanTo (O : List Int) (zss : List (List Int)) (who : Int) (k : Nat) (P : Nat → Int) : Prop :=
  ∀ j, j < k → (nth O j = who → P j ∈ row zss j) ∧ (nth O j ≠ who → P j = -1)

end

end Go.Proofs.Ytokcinhopajniaa
