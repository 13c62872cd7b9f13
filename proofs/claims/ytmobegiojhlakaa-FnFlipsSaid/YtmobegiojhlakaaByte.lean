/-
  Contracts: the draws' cursor (l1Byte, l1Below).
-/
import Derived.Test.YtmobegiojhlakaaCursor
import Derived.Laws.Closers25b
namespace Go.Proofs.Ytmobegiojhlakaa
section
open Go.RowKit

theorem bits_and_small (x m : Int) (h0 : 0 ≤ m) (h1 : m ≤ 1073741823) : 0 ≤ bits .and .i64 x m ∧ bits .and .i64 x m ≤ m := by
  have hm : (BitVec.ofInt 64 m).toNat = m.toNat := by
    obtain ⟨k, rfl⟩ := Int.eq_ofNat_of_zero_le h0
    rw [BitVec.ofInt_natCast, BitVec.toNat_ofNat]; exact Nat.mod_eq_of_lt (by omega)
  have hle : (BitVec.ofInt 64 x &&& BitVec.ofInt 64 m).toNat ≤ m.toNat := by
    rw [BitVec.toNat_and, hm]; exact Nat.and_le_right
  have hb : bits .and .i64 x m = IntKind.i64.wrap ((BitVec.ofInt 64 x &&& BitVec.ofInt 64 m).toNat : Int) := rfl
  rw [hb]
  generalize (BitVec.ofInt 64 x &&& BitVec.ofInt 64 m).toNat = q at hle
  have hw : IntKind.i64.wrap (q : Int) = q := by
    have hq : q < 4294967296 := by omega
    simp only [IntKind.wrap, IntKind.bits, IntKind.signed]
    simp
    omega
  rw [hw]
  omega

/-- A cursor over bytes that lie below B, in block p. -/
structure Dr (w : World) (B p : Nat) (ab : Option Addr) (cb : Nat) (bs : List Int) (i : Nat) (h : Int) : Prop where
  str : w.rowIs p 108 3 (tri (.slice ab bs.length cb) (.int .i64 i) (.int .i64 h))
  idx : i ≤ bs.length
  len : bs.length ≤ 4096
  low : B ≤ p
  byt : ∀ k, k < bs.length → ∃ b off, ab = some ⟨b, off, none⟩ ∧ b < B ∧ w.cell? ⟨b, off + k, none⟩ = some (.int .u8 (nth bs k)) ∧ 0 ≤ nth bs k ∧ nth bs k ≤ 255

theorem tri_set2 {a b c d : Value} : ∀ i, i < 3 → (if i = 2 then d else tri a b c i) = tri a b d i := tri_set
theorem tri_set1 {a b c d : Value} : ∀ i, i < 3 → (if i = 1 then d else tri a b c i) = tri a d c i := fun i hi => by
  have h : i = 0 ∨ i = 1 ∨ i = 2 := by omega
  rcases h with rfl | rfl | rfl <;> simp [tri]

theorem Dr.c0 {w : World} {B p : Nat} {ab : Option Addr} {cb : Nat} {bs : List Int} {i : Nat} {h : Int} (d : Dr w B p ab cb bs i h) : w.cell? ⟨p, 0, none⟩ = some (.slice ab bs.length cb) := d.str.cell (i := 0) (by omega)
theorem Dr.c1 {w : World} {B p : Nat} {ab : Option Addr} {cb : Nat} {bs : List Int} {i : Nat} {h : Int} (d : Dr w B p ab cb bs i h) : w.cell? ⟨p, 1, none⟩ = some (.int .i64 i) := d.str.cell (i := 1) (by omega)
theorem Dr.c2 {w : World} {B p : Nat} {ab : Option Addr} {cb : Nat} {bs : List Int} {i : Nat} {h : Int} (d : Dr w B p ab cb bs i h) : w.cell? ⟨p, 2, none⟩ = some (.int .i64 h) := d.str.cell (i := 2) (by omega)

theorem Dr.below {w w' : World} {B p : Nat} {ab : Option Addr} {cb : Nat} {bs : List Int} {i : Nat} {h : Int} (d : Dr w B p ab cb bs i h) (hb : Below w.heap.size w w') : Dr w' B p ab cb bs i h :=
  ⟨rowIs_below d.str hb, d.idx, d.len, d.low, fun k hk => by
    obtain ⟨b, off, h1, h2, h3, h4⟩ := d.byt k hk
    exact ⟨b, off, h1, h2, Below.cell_some (B := 0) hb rfl h3, h4⟩⟩

theorem Dr.set2 {w : World} {B p : Nat} {ab : Option Addr} {cb : Nat} {bs : List Int} {i : Nat} {h : Int} (d : Dr w B p ab cb bs i h) (h' : Int) : Dr (w.setCell ⟨p, 2, none⟩ (.int .i64 h')) B p ab cb bs i h' :=
  ⟨(d.str.set 2 _).congr tri_set2, d.idx, d.len, d.low, fun k hk => by
    obtain ⟨b, off, h1, h2, h3, h4⟩ := d.byt k hk
    have := d.low
    have hb : Below p w (w.setCell ⟨p, 2, none⟩ (.int .i64 h')) := (Below.refl p w).setCell (p := ⟨p, 2, none⟩) (Nat.le_refl _) _
    exact ⟨b, off, h1, h2, (hb.cell (by show b < p; omega)).trans h3, h4⟩⟩

theorem Dr.set1 {w : World} {B p : Nat} {ab : Option Addr} {cb : Nat} {bs : List Int} {i : Nat} {h : Int} (d : Dr w B p ab cb bs i h) (hi : i + 1 ≤ bs.length) : Dr (w.setCell ⟨p, 1, none⟩ (.int .i64 ((i + 1 : Nat) : Int))) B p ab cb bs (i + 1) h :=
  ⟨(d.str.set 1 _).congr tri_set1, hi, d.len, d.low, fun k hk => by
    obtain ⟨b, off, h1, h2, h3, h4⟩ := d.byt k hk
    have := d.low
    have hb : Below p w (w.setCell ⟨p, 1, none⟩ (.int .i64 ((i + 1 : Nat) : Int))) := (Below.refl p w).setCell (p := ⟨p, 1, none⟩) (Nat.le_refl _) _
    exact ⟨b, off, h1, h2, (hb.cell (by show b < p; omega)).trans h3, h4⟩⟩
end

section
open Go.RowKit

/-- A number from lo to hi is handed back, and the cursor stands somewhere on. -/
def Rolls (w : World) (B p : Nat) (ab : Option Addr) (cb : Nat) (bs : List Int) (lo hi : Int) (e : Ending) (w' : World) : Prop :=
  ∃ x i h, e = .returned (.int .i64 x) ∧ lo ≤ x ∧ x ≤ hi ∧ Dr w' B p ab cb bs i h ∧ Only (fun b => b = p) w w'

set_option maxHeartbeats 2000000 in
theorem l1Byte_is {w : World} {B p : Nat} {ab : Option Addr} {cb : Nat} {bs : List Int} {i : Nat} {h : Int} (d : Dr w B p ab cb bs i h) :
    Calls Try.prog 112 #[.pointer (some ⟨p, 0, none⟩)] w (Rolls w B p ab cb bs 0 255) := by
  have HD := Lib.hid d
  have c2 := d.c2
  have f2 := d.str.frozen 2
  clear d
  go_enter Try.func112, Try.ntmps112
  go_wp2
  obtain ⟨h1, hh1⟩ : ∃ x, x = wrap64 (wrap64 (h * 6364136223846793005) + 1442695040888963407) := ⟨_, rfl⟩
  rw [← hh1]
  obtain ⟨w1, hw1⟩ : ∃ x, x = w.setCell ⟨p, 2, none⟩ (.int .i64 h1) := ⟨_, rfl⟩
  rw [← hw1]
  have D1 : Hid (Dr w1 B p ab cb bs i h1) := by rw [hw1]; exact HD.out.set2 h1
  have O1 : Hid (Only (fun b => b = p) w w1) := by rw [hw1]; exact (Only.refl (fun b => b = p) w).setCell (p := ⟨p, 2, none⟩) rfl _
  clear hw1 hh1 c2 f2
  have c2 := D1.out.c2
  go_quiet (fail)
  obtain ⟨w2, hw2⟩ : ∃ x, x = w1.drewN nq := ⟨_, rfl⟩
  rw [← hw2]
  have hb2 : Below w1.heap.size w1 w2 := by rw [hw2]; exact below_drewN (Below.refl _ _) _
  have D2 := Lib.hid (D1.out.below hb2)
  have O2 := Lib.hid (O1.out.trans (Only.of_below hb2))
  clear hw2 hb2 c2
  obtain ⟨x, hx0, hx1, hxe⟩ : ∃ x, 0 ≤ x ∧ x ≤ 255 ∧ bits .and .i64 (bits .xor .i64 (h1 / 8589934592) (h1 / 35184372088832)) 255 = x := ⟨_, (bits_and_small _ 255 (by omega) (by omega)).1, (bits_and_small _ 255 (by omega) (by omega)).2, rfl⟩
  rw [hxe]
  clear hxe
  have c0 := D2.out.c0
  have c1 := D2.out.c1
  have hl := D2.out.len
  go_wp2
  by_cases hlt : i < bs.length
  · have hi1 : (i : Int) < bs.length := by omega
    go_quiet (fail)
    go_wp2
    obtain ⟨w3, hw3⟩ : ∃ x, x = w2.drewN nq := ⟨_, rfl⟩
    rw [← hw3]
    have hb3 : Below w2.heap.size w2 w3 := by rw [hw3]; exact below_drewN (Below.refl _ _) _
    have D3 := Lib.hid (D2.out.below hb3)
    have O3 := Lib.hid (O2.out.trans (Only.of_below hb3))
    clear hw3 hb3 c0 c1
    have c0 := D3.out.c0
    have c1 := D3.out.c1
    obtain ⟨b, off, ha, _, hcb, hb0, hb1⟩ := D3.out.byt i hlt
    subst ha
    have f1 := D3.out.str.frozen 1
    go_quiet (fail)
    have D4 : Hid (Dr ((w3.drewN nq).setCell ⟨p, 1, none⟩ (.int .i64 ((i : Int) + 1))) B p (some ⟨b, off, none⟩) cb bs (i + 1) h1) := (D3.out.below (below_drewN (Below.refl _ _) nq)).set1 (by omega)
    have O4 : Hid (Only (fun b => b = p) w ((w3.drewN nq).setCell ⟨p, 1, none⟩ (.int .i64 ((i : Int) + 1)))) := (O3.out.trans (Only.of_below (below_drewN (Below.refl _ _) nq))).setCell (p := ⟨p, 1, none⟩) rfl _
    have hz := bits_and_small (x + nth bs i) 255 (by omega) (by omega)
    go_wp2
    go_ret
    exact ⟨_, i + 1, h1, rfl, hz.1, hz.2, D4.out, O4.out⟩
  · have hi1 : ¬ (i : Int) < bs.length := by omega
    go_quiet (fail)
    go_wp2
    go_ret
    exact ⟨x, i, h1, rfl, hx0, hx1, D2.out.below (below_drewN (Below.refl _ _) _), O2.out.trans (Only.of_below (below_drewN (Below.refl _ _) _))⟩

theorem Dr.only {w w' : World} {B p : Nat} {ab : Option Addr} {cb : Nat} {bs : List Int} {i : Nat} {h : Int} {S : Nat → Prop} (d : Dr w B p ab cb bs i h) (hk : Only S w w') (hs : ∀ b, S b → B ≤ b ∧ b ≠ p) : Dr w' B p ab cb bs i h :=
  ⟨rowIs_only d.str hk (fun e => (hs p e).2 rfl), d.idx, d.len, d.low, fun k hk' => by
    obtain ⟨b, off, h1, h2, h3, h4⟩ := d.byt k hk'
    refine ⟨b, off, h1, h2, ?_, h4⟩
    rw [World.cell?_of_block (w := w) (hk.block b (World.block_lt_of_cell? w _ h3) (fun e => by have := (hs b e).1; omega))]
    exact h3⟩

set_option maxHeartbeats 4000000 in
theorem l1Below_is {w : World} {B p : Nat} {ab : Option Addr} {cb : Nat} {bs : List Int} {i : Nat} {h n hi : Int} (d : Dr w B p ab cb bs i h) (h0 : n ≤ 0 → hi = 0) (h1 : 0 < n → hi = n - 1) (h2 : n ≤ 9223372036854775807) :
    Calls Try.prog 71 #[.pointer (some ⟨p, 0, none⟩), .int .i64 n] w (Rolls w B p ab cb bs 0 hi) := by
  have HD := Lib.hid d
  clear d
  by_cases hn0 : n ≤ 0
  · have hh := h0 hn0
    subst hh
    go_enter Try.func71, Try.ntmps71
    go_wp2
    go_ret
    exact ⟨0, i, h, rfl, by omega, by omega, HD.out, Only.refl _ _⟩
  · have hh := h1 (by omega)
    subst hh
    by_cases hn1 : n ≤ 256
    · go_enter Try.func71, Try.ntmps71
      go_wp2_with fail
      refine (l1Byte_is HD.out).mono ?_
      rintro e w1 ⟨x, i1, h1', rfl, hx0, hx1, hd, ho⟩
      have D1 := Lib.hid hd
      have O1 := Lib.hid ho
      clear hd ho
      go_wp2
      go_ret
      exact ⟨x % n, i1, h1', rfl, Int.emod_nonneg _ (by omega), by have := Int.emod_lt_of_pos x (show 0 < n by omega); omega, D1.out, O1.out⟩
    · go_enter Try.func71, Try.ntmps71
      go_wp2_with fail
      refine (l1Byte_is HD.out).mono ?_
      rintro e w1 ⟨x1, i1, g1, rfl, hx0, hx1, hd, ho⟩
      have D1 := Lib.hid hd
      have O1 := Lib.hid ho
      clear hd ho
      go_wp2_with fail
      refine (l1Byte_is D1.out).mono ?_
      rintro e w2 ⟨x2, i2, g2, rfl, hy0, hy1, hd, ho⟩
      have D2 := Lib.hid hd
      have O2 := Lib.hid (O1.out.trans ho)
      clear hd ho
      go_wp2_with fail
      refine (l1Byte_is D2.out).mono ?_
      rintro e w3 ⟨x3, i3, g3, rfl, hz0, hz1, hd, ho⟩
      have D3 := Lib.hid hd
      have O3 := Lib.hid (O2.out.trans ho)
      clear hd ho
      go_wp2_with fail
      refine (l1Byte_is D3.out).mono ?_
      rintro e w4 ⟨x4, i4, g4, rfl, hw0, hw1, hd, ho⟩
      have D4 := Lib.hid hd
      have O4 := Lib.hid (O3.out.trans ho)
      clear hd ho
      go_wp2
      go_ret
      exact ⟨_, i4, g4, rfl, Int.emod_nonneg _ (by omega), by have := Int.emod_lt_of_pos (x1 * 16777216 + x2 * 65536 + x3 * 256 + x4) (show 0 < n by omega); omega, D4.out, O4.out⟩

set_option maxHeartbeats 1000000 in
theorem l1Once_is {w : World} {B p : Nat} {ab : Option Addr} {cb : Nat} {bs : List Int} {i : Nat} {h n : Int} (d : Dr w B p ab cb bs i h) (h1 : 0 < n) (h2 : n ≤ 9223372036854775807) :
    Calls Try.prog 109 #[.pointer (some ⟨p, 0, none⟩), .int .i64 n] w fun e w' => ∃ r i h, e = .returned (.bool r) ∧ Dr w' B p ab cb bs i h ∧ Only (fun b => b = p) w w' := by
  have HD := Lib.hid d
  clear d
  go_enter Try.func109, Try.ntmps109
  go_wp2_with fail
  refine (l1Below_is (hi := n - 1) HD.out (by omega) (by omega) h2).mono ?_
  rintro e w1 ⟨x, i1, g1, rfl, hx0, hx1, hd, ho⟩
  have D1 := Lib.hid hd
  have O1 := Lib.hid ho
  clear hd ho
  go_wp2
  go_ret
  exact ⟨_, i1, g1, rfl, D1.out, O1.out⟩
end

end Go.Proofs.Ytmobegiojhlakaa
