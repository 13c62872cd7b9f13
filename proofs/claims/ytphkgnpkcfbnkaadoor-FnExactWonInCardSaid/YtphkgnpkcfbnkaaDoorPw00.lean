import Derived.WalkKit
import Derived.WalkSpells
import Derived.WalkLawsBesides
import Derived.Deep.OwnRows
import Derived.Maps.AppendAt
import Derived.Deep.AppendSrc
import Derived.Laws.AppendOwnNone
import Derived.Deep.RegionLaw
import Derived.Deep.AppendLies
import Derived.WalkSmall
import Derived.Deep.RegionHeld3
import Derived.Laws.Closers25b
import Derived.Lib.SlicesCompact
import Derived.Deep.DeepCutAuto
import Derived.Test.YtphkgnpkcfbnkaaDoorRows
import Derived.Lib.LaidTab
import Derived.LaidSub
import Derived.LaidHandle
import Derived.Deep.DeepHandedRow
import Derived.ProofKit
import Derived.OpenShut
import Derived.Carry
import Derived.ChangeVars
import Derived.SizedLaws
import Derived.Deep.Matrix
import Derived.Lib.SmallJoins
import Derived.Test.YtphkgnpkcfbnkaaDoorPk00
import Derived.Test.YtphkgnpkcfbnkaaDoorPk01
import Derived.Test.YtphkgnpkcfbnkaaDoorPk02
import Derived.Test.YtphkgnpkcfbnkaaDoorPk03
import Derived.Test.YtphkgnpkcfbnkaaDoorPk04
import Derived.Test.YtphkgnpkcfbnkaaDoorPk05
import Derived.Test.YtphkgnpkcfbnkaaDoorPk06
import Derived.Test.YtphkgnpkcfbnkaaDoorPk07
import Derived.Test.YtphkgnpkcfbnkaaDoorPk08
import Derived.Test.YtphkgnpkcfbnkaaDoorPk09
import Derived.Test.YtphkgnpkcfbnkaaDoorPk10
import Derived.Test.YtphkgnpkcfbnkaaDoorPk11
import Derived.Test.YtphkgnpkcfbnkaaDoorPk12
import Derived.Test.YtphkgnpkcfbnkaaDoorPk13
import Derived.Test.YtphkgnpkcfbnkaaDoorPk14
import Derived.Test.YtphkgnpkcfbnkaaDoorPk15
import Derived.Test.YtphkgnpkcfbnkaaDoorPk16
import Derived.Test.YtphkgnpkcfbnkaaDoorPk17
import Derived.Test.YtphkgnpkcfbnkaaDoorPk18
import Derived.Test.YtphkgnpkcfbnkaaDoorPk19
import Derived.Test.YtphkgnpkcfbnkaaDoorPk20
import Derived.Test.YtphkgnpkcfbnkaaDoorPk21
import Derived.Test.YtphkgnpkcfbnkaaDoorPk22
namespace Go.Proofs.YtphkgnpkcfbnkaaDoor
section
open Go.RowKit

end

section
theorem hasB_yes {zs : List Int} {x : Int} {k : Nat} (hk : k < zs.length) (h : nth zs k = x) : hasB zs x = true := by
  simp only [hasB, decide_eq_true_eq]; exact mem_nth.2 ⟨k, hk, h⟩
theorem hasB_no {zs : List Int} {x : Int} (h : ∀ j, j < zs.length → nth zs j ≠ x) : hasB zs x = false := by
  simp only [hasB, decide_eq_false_iff_not]; exact fun hm => by obtain ⟨k, hk, e⟩ := mem_nth.1 hm; exact h k hk e
theorem idxOf_first : ∀ (zs : List Int) (x : Int) (k : Nat), k < zs.length → nth zs k = x → (∀ j, j < k → nth zs j ≠ x) → zs.idxOf x = k
  | [], _, _, h, _, _ => absurd h (by simp)
  | z :: r, x, 0, _, h, _ => by
    have : z = x := by simpa [nth] using h
    simp [this]
  | z :: r, x, k + 1, hk, h, hj => by
    have h0 : z ≠ x := by simpa [nth] using hj 0 (by omega)
    have ih := idxOf_first r x k (by simpa using hk) (by simpa [nth] using h) (fun j hjk => by simpa [nth] using hj (j + 1) (by omega))
    have hz : (z == x) = false := by simp [h0]
    simp [List.idxOf_cons, hz, ih]

theorem idx_at {zs : List Int} {x : Int} {k : Nat} (hk : k < zs.length) (h : nth zs k = x) (hj : ∀ j, j < k → nth zs j ≠ x) : idx zs x = k := by
  unfold idx; rw [if_pos (mem_nth.2 ⟨k, hk, h⟩), idxOf_first zs x k hk h hj]
end

end Go.Proofs.YtphkgnpkcfbnkaaDoor
namespace Go.Proofs.YtphkgnpkcfbnkaaDoor
section
open Go.RowKit

end

section
open Go.RowKit

end

section
open Go.RowKit

end

section
section
open Go.RowKit

end

section
open Go.RowKit

end
end

section
open Go.RowKit

end

section
open Go.RowKit

end

section
open Go.RowKit

end

section
section
open Go.RowKit

end

section
open Go.RowKit

theorem info_rows : (Tryd.prog.info? 27).map (fun i => (i.zero, i.size, i.bytes)) = some (some (.slice none 0 0), 1, 24) := by kernel_rfl

end

section
open Go.RowKit

theorem ownArena_zero (w : World) (B D : Nat) : OwnArena w B D (.agg #[.slice none 0 0, .slice none 0 0]) [] [] := ⟨_, _, _, rfl, OwnInts.nil _ _ _, OwnRows.nil _ _ _, fun k hk => absurd hk (by simp)⟩

end
end

section
open Go.RowKit

/-- The numbers rise. -/
def Rises (zs : List Int) : Prop := ∀ j k, j < k → k < zs.length → nth zs j < nth zs k

theorem rises_of {n : Int} {zs : List Int} (h : setB n zs = true) : Rises zs := fun j _ hjk hk => (setB_bounds h hk).2.2 j hjk

theorem idx_rises {zs : List Int} {x : Int} {k : Nat} (hr : Rises zs) (hk : k < zs.length) (h : nth zs k = x) : idx zs x = k :=
  idx_at hk h fun j hj => by have := hr j k hj hk; omega

theorem less_any (a b : Int) (w : World) : Calls Tryd.prog 212 #[.int .i64 a, .int .i64 b] w fun e w' => e = .returned (.bool (decide (a < b))) ∧ w = w' := by
  have h1 : (a != a) = false := by simp
  have h2 : (b != b) = false := by simp
  go_enter Tryd.func212, Tryd.ntmps212
  go_wp2
  go_ret
  exact ⟨rfl, rfl⟩

theorem less_is {a b : Int} {r : Bool} (hr : decide (a < b) = r) (w : World) : Calls Tryd.prog 212 #[.int .i64 a, .int .i64 b] w fun e w' => e = .returned (.bool r) ∧ w = w' := by
  subst hr; exact less_any a b w

theorem nan_any (a : Int) (w : World) : Calls Tryd.prog 213 #[.int .i64 a] w fun e w' => e = .returned (.bool false) ∧ w = w' := by
  have h1 : (a != a) = false := by simp
  go_enter Tryd.func213, Tryd.ntmps213
  go_wp2
  go_ret
  exact ⟨rfl, rfl⟩

/-- What BinarySearch hands back. -/
def Found (zs : List Int) (x : Int) (w : World) (e : Ending) (w' : World) : Prop :=
  ∃ i : Int, e = .returned (.tuple #[.int .i64 i, .bool (hasB zs x)]) ∧ (hasB zs x = true → i = idx zs x) ∧ w = w'

theorem found_mk {zs : List Int} {x : Int} {w : World} {i : Int} {b : Bool} (hb : hasB zs x = b) (hi : b = true → i = idx zs x) : Found zs x w (.returned (.tuple #[.int .i64 i, .bool b])) w :=
  ⟨i, by rw [hb], fun h => hi (by rw [← hb]; exact h), rfl⟩

set_option maxHeartbeats 1000000 in
theorem BinarySearch_is {w : World} {a : Option Addr} {zs : List Int} (x : Int) (cap : Nat) (h : IntsAt w a zs) (hr : Rises zs) :
    Calls Tryd.prog 203 #[.slice a zs.length cap, .int .i64 x] w (Found zs x w) := by
  have hlen := h.len
  have HC := Lib.hid h.cell
  have HR := Lib.hid hr
  clear h hr
  go_enter Tryd.func203, Tryd.ntmps203
  go_wp2
  go_loop [7, 8] (fun i j => ∃ p q : Nat, p ≤ q ∧ q ≤ zs.length ∧ i = .int .i64 p ∧ j = .int .i64 q ∧ Hid (∀ k, k < p → nth zs k < x) ∧ Hid (∀ k, q ≤ k → k < zs.length → x ≤ nth zs k)) (fun i j => (intOf j).toNat - (intOf i).toNat)
  case atStart => exact ⟨0, zs.length, Nat.zero_le _, Nat.le_refl _, rfl, rfl, fun k hk => absurd hk (Nat.not_lt_zero _), fun k h1 h2 => absurd h2 (by omega)⟩
  case round =>
    obtain ⟨p, q, hpq, hq, rfl, rfl, HP, HQ⟩ := hrel
    by_cases hlt : p < q
    · obtain ⟨b, off, ha, hc⟩ := HC.out (by omega)
      subst ha
      have hck := hc ((p + q) / 2) (by omega)
      clear hc
      have hmz : (p + q) / 2 < zs.length := by omega
      by_cases hl : nth zs ((p + q) / 2) < x
      · have HL := Lib.hid (less_is (decide_eq_true hl) w)
        have HP' : Hid (∀ k, k < (p + q) / 2 + 1 → nth zs k < x) := fun k hk => by
          by_cases e : k = (p + q) / 2
          · subst e; exact hl
          · have := HR.out k ((p + q) / 2) (by omega) hmz; omega
        clear hl
        go_wp2_with (go_at_call 212; refine HL.out.mono ?_; rintro e w' ⟨rfl, rfl⟩)
        go_round
        case rel => exact ⟨(p + q) / 2 + 1, q, by omega, hq, by go_num, rfl, HP', HQ⟩
        case measure => simp [intOf]; omega
      · have HL := Lib.hid (less_is (decide_eq_false hl) w)
        have HQ' : Hid (∀ k, (p + q) / 2 ≤ k → k < zs.length → x ≤ nth zs k) := fun k hk hkz => by
          by_cases e : k = (p + q) / 2
          · subst e; omega
          · have := HR.out ((p + q) / 2) k (by omega) hkz; omega
        clear hl
        go_wp2_with (go_at_call 212; refine HL.out.mono ?_; rintro e w' ⟨rfl, rfl⟩)
        go_round
        case rel => exact ⟨p, (p + q) / 2, by omega, by omega, rfl, by go_num, HP, HQ'⟩
        case measure => simp [intOf]; omega
    · have hpq' : p = q := by omega
      subst hpq'
      by_cases hz : p < zs.length
      · obtain ⟨b, off, ha, hc⟩ := HC.out (by omega)
        subst ha
        have hck := hc p hz
        clear hc
        by_cases he : nth zs p = x
        · have HF : Hid (hasB zs x = true ∧ (p : Int) = idx zs x) := ⟨hasB_yes hz he, (idx_rises HR.out hz he).symm⟩
          have hb : (nth zs p == x) = true := by simp [he]
          clear he
          go_wp2
          go_ret2
          exact found_mk (i := p) HF.out.1 (fun _ => HF.out.2)
        · have HF : Hid (hasB zs x = false) := hasB_no fun j hj e => by
            rcases Nat.lt_trichotomy j p with h | h | h
            · have := HP.out j h; omega
            · subst h; exact he e
            · have h1 := HQ.out p (Nat.le_refl _) hz
              have h2 := HR.out p j h hj
              omega
          have hb : (nth zs p == x) = false := by simp [he]
          have HN := Lib.hid (nan_any (nth zs p) w)
          clear he
          go_wp2_with (go_at_call 213; refine HN.out.mono ?_; rintro e w' ⟨rfl, rfl⟩)
          go_ret2
          exact found_mk (i := p) HF.out (fun h => by cases h)
      · have HF : Hid (hasB zs x = false) := hasB_no fun j hj e => by have := HP.out j (by omega); omega
        go_wp2
        go_ret2
        exact found_mk (i := p) HF.out (fun h => by cases h)

theorem places_len (S r : List Int) (k : Nat) : (places S r k).length ≤ k := by
  induction k with
  | zero => simp [places]
  | succ k ih => simp only [places]; split <;> simp <;> omega

theorem idx_bounds {S : List Int} {x : Int} (h : hasB S x = true) : 0 ≤ idx S x ∧ idx S x < S.length := by
  have hm := hasB_iff.1 h
  unfold idx
  rw [if_pos hm]
  have := List.idxOf_lt_length_iff.2 hm
  omega

theorem places_mem (S r : List Int) (k : Nat) : ∀ x ∈ places S r k, 0 ≤ x ∧ x < S.length := by
  induction k with
  | zero => simp [places]
  | succ k ih =>
    intro x hx
    simp only [places, List.mem_append] at hx
    rcases hx with hx | hx
    · exact ih x hx
    · split at hx
      · rename_i h
        simp at hx
        subst hx
        exact idx_bounds h
      · simp at hx

theorem places_fits {S r : List Int} {k : Nat} (hS : S.length ≤ 17592186044416) : ∀ j, j < (places S r k).length → Fits (nth (places S r k) j) := fun j hj => by
  have := places_mem S r k _ (nth_mem hj)
  unfold Fits; omega

set_option maxHeartbeats 2000000 in
theorem indicesIn_is {w : World} {a a' : Option Addr} {S r : List Int} (cs cr : Nat) (hS : IntsAt w a S) (hr : Rises S) (hR : IntsAt w a' r) (_hl : r.length ≤ 1048576) :
    Calls Tryd.prog 185 #[.slice a S.length cs, .slice a' r.length cr] w (GivesInts w (places S r r.length)) := by
  obtain ⟨i0, hi, hz0, hz1, hz2⟩ := info_parts info_int
  have HS := Lib.hid hS
  have HR := Lib.hid hR
  have HO := Lib.hid hr
  clear hS hR hr
  go_enter Tryd.func185, Tryd.ntmps185
  go_wp2
  go_loopw [5, 12] (fun v i wr => ∃ k : Nat, k ≤ r.length ∧ i = .int .i64 k ∧ Hid (wr.ownsRow w.heap.size 2 1 v (places S r k).length ((places S r k).map (Value.int .i64))) ∧ Hid (Below w.heap.size w wr)) (fun _ i _ => r.length - (intOf i).toNat)
  case atStart => exact ⟨0, Nat.zero_le _, rfl, World.ownsRow_nil _ _ _ _, Below.refl _ _⟩
  case round =>
    obtain ⟨k, hk, rfl, HV, HB⟩ := hrel
    by_cases hlt : k < r.length
    · obtain ⟨b, off, ha, hc⟩ := (HR.out.below HB.out).cell (by omega)
      subst ha
      have hck := hc k hlt
      clear hc
      have hpl := places_len S r k
      have hsz := HB.out.size
      have HF := Lib.hid (BinarySearch_is (nth r k) cs (HS.out.below HB.out) HO.out)
      cases hh : hasB S (nth r k) with
      | false =>
        have hS : places S r (k + 1) = places S r k := by simp [places, hh]
        have HSV := HV
        rw [← hS] at HSV
        have HH := Lib.hid hh
        clear hh hS
        go_wp2_with (go_at_call 203; refine HF.out.mono ?_; rintro e w' ⟨p, rfl, hp, rfl⟩; rw [HH.out]; clear hp)
        go_roundw
        case rel => exact ⟨k + 1, by omega, by go_num, HSV, HB⟩
        case measure => simp [intOf]; omega
      | true =>
        have HS1 : Hid (places S r (k + 1) = places S r k ++ [idx S (nth r k)]) := by simp [places, hh, Hid]
        have HH := Lib.hid hh
        clear hh
        go_wp2_with (first
          | (go_at_call 203; refine HF.out.mono ?_; rintro e w' ⟨p, rfl, hp, rfl⟩; rw [HH.out]; have hp' := hp HH.out; subst hp'; clear hp)
          | (at_builtin; refine wpList_append_own_at _ rfl _ _ 27 rfl w.heap.size 2 i0 (.int .i64 0) 1 8 Tryd.underlying27 hi hz0 hz1 hz2 rfl (by decide) _ _ _ rfl (HV.out.alloc _) ⟨wr.heap.size, 0, none⟩ 1 1 [.int .i64 (idx S (nth r k))] rfl rfl ?c1 ?c2 ?c3 ?c4 ?c5 ?_))
        case c1 => exact cell_one_new _ _ _
        case c2 => intro u hu; simp at hu; subst hu; rfl
        case c3 => unfold maxLen; omega
        case c4 => omega
        case c5 => simp; omega
        · intro v' w1' hown' hgrow _ _
          have HBn := Lib.hid ((HB.out.alloc HB.out.size _).grown hgrow (by simp; omega) (fun g hg => (HV.out.lt g hg).1))
          have e1 : (places S r (k + 1)).length = (places S r k).length + 1 := by rw [HS1.out]; simp
          have e2 : (places S r (k + 1)).map (Value.int .i64) = (places S r k).map (Value.int .i64) ++ [.int .i64 (idx S (nth r k))] := by rw [HS1.out]; simp
          have HOn := Lib.hid hown'
          rw [← e1, ← e2] at HOn
          clear hown' hgrow e1 e2
          go_wp2
          go_roundw
          case rel => exact ⟨k + 1, by omega, by go_num, HOn, HBn⟩
          case measure => simp [intOf]; omega
    · have hkk : k = r.length := by omega
      rw [hkk] at HV
      have hpl := places_len S r r.length
      have hfin := Lib.hid (OwnInts.mk' HV.out (by omega) (places_fits HS.out.len))
      clear hkk HV
      go_wp2
      go_ret
      exact ⟨_, rfl, hfin.out, HB.out⟩

end

section
open Go.RowKit

end

section
open Go.RowKit

end

end Go.Proofs.YtphkgnpkcfbnkaaDoor
namespace Go.Proofs.YtphkgnpkcfbnkaaDoor
section
section
open Go.RowKit

/-- The i-th row of the arena that S induces. -/
def inRow (S : List Int) (zss : List (List Int)) (i : Nat) : List Int := places S (row zss (nth S i).toNat) (row zss (nth S i).toNat).length
def inNK (S : List Int) (zss : List (List Int)) (k : Nat) : List (List Int) := (List.range k).map (inRow S zss)
def inOK (S : List Int) (O : List Int) (k : Nat) : List Int := (List.range k).map fun i => nth O (nth S i).toNat

theorem inNK_len (S : List Int) (zss : List (List Int)) (k : Nat) : (inNK S zss k).length = k := by simp [inNK]
theorem inOK_len (S O : List Int) (k : Nat) : (inOK S O k).length = k := by simp [inOK]
theorem inNK_succ (S : List Int) (zss : List (List Int)) (k : Nat) : inNK S zss (k + 1) = inNK S zss k ++ [inRow S zss k] := by simp [inNK, List.range_succ]
theorem inOK_succ (S O : List Int) (k : Nat) : inOK S O (k + 1) = inOK S O k ++ [nth O (nth S k).toNat] := by simp [inOK, List.range_succ]

/-- When InsideOf yields an arena. -/
def InsideP (O : List Int) (zss : List (List Int)) (S : List Int) : Prop := ArenaP O zss ∧ setB O.length S = true ∧ 0 < S.length ∧ ∀ i, i < S.length → 0 < (inRow S zss i).length

open Classical in
noncomputable def insideO (O : List Int) (zss : List (List Int)) (S : List Int) : List Int := if InsideP O zss S then inOK S O S.length else []
open Classical in
noncomputable def insideN (O : List Int) (zss : List (List Int)) (S : List Int) : List (List Int) := if InsideP O zss S then inNK S zss S.length else []
open Classical in
noncomputable def insideB (O : List Int) (zss : List (List Int)) (S : List Int) : Bool := decide (InsideP O zss S)

/-- A call hands back an arena of its own and a bool. -/
def GivesArenaB (w : World) (O : List Int) (zss : List (List Int)) (r : Bool) (e : Ending) (w' : World) : Prop :=
  ∃ v, e = .returned (.tuple #[v, .bool r]) ∧ OwnArena w' w.heap.size w'.heap.size v O zss ∧ Below w.heap.size w w'

theorem inside_no {O : List Int} {zss : List (List Int)} {S : List Int} (h : ¬ InsideP O zss S) : insideO O zss S = [] ∧ insideN O zss S = [] ∧ insideB O zss S = false := by
  unfold insideO insideN insideB
  rw [if_neg h, if_neg h]; exact ⟨rfl, rfl, by simp [h]⟩
theorem inside_yes {O : List Int} {zss : List (List Int)} {S : List Int} (h : InsideP O zss S) : insideO O zss S = inOK S O S.length ∧ insideN O zss S = inNK S zss S.length ∧ insideB O zss S = true := by
  unfold insideO insideN insideB
  rw [if_pos h, if_pos h]; exact ⟨rfl, rfl, by simp [h]⟩

theorem zero_stored {w wr : World} {r : Nat} (hb : Below w.heap.size w wr) (hr : w.heap.size ≤ r) : Below w.heap.size w ((wr.setCell ⟨r, 0, none⟩ (.slice none 0 0)).setCell ⟨r, 1, none⟩ (.slice none 0 0)) :=
  (hb.setCell (p := ⟨r, 0, none⟩) hr _).setCell (p := ⟨r, 1, none⟩) hr _
end

section
open Go.RowKit

end
end

section
open Go.RowKit

end

section
open Go.RowKit

end

section
section
open Go.RowKit

end

section
open Go.RowKit

/-- What is open at first: the elements of a list. -/
def openS (S : List Int) (k : Nat) : Nat → Bool := fun v => decide ((v : Int) ∈ S.take k)

theorem openS_succ {S : List Int} {k u : Nat} (hk : k < S.length) (hu : nth S k = (u : Int)) : openS S (k + 1) = mark1 (openS S k) u true := by
  funext v
  have ht : S.take (k + 1) = S.take k ++ [(u : Int)] := by
    rw [List.take_add_one, List.getElem?_eq_getElem hk, ← hu, nth_eq hk]; rfl
  by_cases e : v = u
  · subst e; simp [mark1, openS, ht]
  · have e' : (v : Int) ≠ (u : Int) := by omega
    simp [mark1, openS, ht, e, e']

end
end

section
open Go.RowKit

end

section
open Go.RowKit

theorem toInts_own {w : World} {v : Value} {zs : List Int} (h : IntsV w v zs) :
    Calls Tryd.prog 54 #[v] w (GivesInts w zs) := toInts_at h
end

section
open Go.RowKit

end

section
section
open Go.RowKit

end

section
open Go.RowKit

end
end

section
section
open Go.RowKit

end

section
open Go.RowKit

end
end

end Go.Proofs.YtphkgnpkcfbnkaaDoor
namespace Go.Proofs.YtphkgnpkcfbnkaaDoor
section
section
open Go.RowKit

/-- What SetOk says. -/
def setOk (n : Int) (zs : List Int) : Bool := inB n 0 256 && setB n zs

theorem setOk_yes {n : Int} {zs : List Int} (h : 0 ≤ n ∧ n ≤ 256) : setOk n zs = setB n zs := by unfold setOk; rw [inB_yes h.1 h.2]; rfl
theorem setOk_no {n : Int} {zs : List Int} (h : n < 0 ∨ 256 < n) : setOk n zs = false := by unfold setOk; rw [inB_no h]; rfl

set_option maxHeartbeats 400000 in
theorem specSetOk_is {w : World} {a : Option Addr} {zs : List Int} {n : Int} {r : Bool} (hr : setOk n zs = r) (cap : Nat) (h : IntsAt w a zs) :
    Calls Tryd.prog 88 #[.slice a zs.length cap, .int .i64 n] w fun e w' => e = .returned (.bool r) ∧ ∃ q, w' = w.drewN q := by
  by_cases hn : 0 ≤ n ∧ n ≤ 256
  · have HI := Lib.hid (l1In_is (inB_yes hn.1 hn.2))
    rw [setOk_yes hn] at hr
    have HC := Lib.hid (l1Set_is hr cap w h (by omega) (by omega))
    clear hr h
    go_enter Tryd.func88, Tryd.ntmps88
    go_wp2_with (first
      | (go_at_call 107; refine (HI.out _).mono ?_; rintro e w' ⟨rfl, rfl⟩)
      | (go_at_call 142; refine HC.out.mono ?_; rintro e w' ⟨rfl, HW⟩))
    go_ret
    exact ⟨rfl, HW⟩
  · have HI := Lib.hid (l1In_is (x := n) (lo := 0) (hi := 256) (inB_no (by omega)))
    have HR : Hid (r = false) := by rw [← hr]; exact setOk_no (by omega)
    clear hr h
    go_enter Tryd.func88, Tryd.ntmps88
    go_wp2_with (go_at_call 107; refine (HI.out _).mono ?_; rintro e w' ⟨rfl, rfl⟩)
    go_ret
    exact ⟨ret_bool HR.out.symm, 0, rfl⟩

end

section
open Go.RowKit

/-- What p picks of the first k elements. -/
def partK (p : Int → Bool) (S : List Int) : Nat → List Int
  | 0 => []
  | k + 1 => partK p S k ++ if p (nth S k) then [nth S k] else []

theorem partK_filter (p : Int → Bool) (S : List Int) : ∀ k, k ≤ S.length → partK p S k = (S.take k).filter p
  | 0, _ => rfl
  | k + 1, h => by
    rw [partK, partK_filter p S k (by omega), List.take_add_one, List.filter_append, nth_eq (by omega)]
    rw [List.getElem?_eq_getElem (by omega)]
    simp [List.filter_cons]
theorem partK_all (p : Int → Bool) (S : List Int) : partK p S S.length = S.filter p := by rw [partK_filter p S _ (Nat.le_refl _), List.take_length]
theorem partK_len (p : Int → Bool) (S : List Int) (k : Nat) : (partK p S k).length ≤ k := by
  induction k with
  | zero => simp [partK]
  | succ k ih => simp only [partK]; split <;> simp <;> omega
end
end

section
section
open Go.RowKit

end

section
open Go.RowKit

end
end

section
open Go.RowKit

end

section
open Go.RowKit

section
open Go.RowKit
end
end

section
open Go.RowKit

end

section
open Go.RowKit

theorem OwnArena.top34 {w : World} {B D D' : Nat} {v : Value} {O : List Int} {zss : List (List Int)} (h : OwnArena w B D v O zss) (hD : D ≤ D') : OwnArena w B D' v O zss := by
  obtain ⟨vo, vn, V, hv, h1, h2, h4⟩ := h
  refine ⟨vo, vn, V, hv, ⟨h1.own, fun g hg => by have := h1.top g hg; omega, h1.len, h1.fits⟩, ⟨h2.own, fun g hg => by have := h2.top g hg; omega, h2.len, fun k hk => ?_, h2.apart⟩, h4⟩
  have h := h2.rows k hk
  exact ⟨h.own, fun g hg => by have := h.top g hg; omega, h.len, h.fits⟩
end

end Go.Proofs.YtphkgnpkcfbnkaaDoor
namespace Go.Proofs.YtphkgnpkcfbnkaaDoor
section
open Go.RowKit

end

section
open Go.RowKit

section
variable {w w' : World} {B B' D : Nat} {v : Value} {O P : List Int} {zss : List (List Int)}

end

/-- A call hands back a game of its own and a bool. -/
def GivesGameB (w : World) (O : List Int) (zss : List (List Int)) (P : List Int) (r : Bool) (e : Ending) (w' : World) : Prop :=
  ∃ v, e = .returned (.tuple #[v, .bool r]) ∧ OwnGame w' w.heap.size w'.heap.size v O zss P ∧ Below w.heap.size w w'

theorem zero_stored3 {w wr : World} {r : Nat} (hb : Below w.heap.size w wr) (hr : w.heap.size ≤ r) : Below w.heap.size w (((wr.setCell ⟨r, 0, none⟩ (.slice none 0 0)).setCell ⟨r, 1, none⟩ (.slice none 0 0)).setCell ⟨r, 2, none⟩ (.slice none 0 0)) :=
  ((hb.setCell (p := ⟨r, 0, none⟩) hr _).setCell (p := ⟨r, 1, none⟩) hr _).setCell (p := ⟨r, 2, none⟩) hr _
end

section
open Go.RowKit

section
variable {n t : Nat} {wr wr' w1 : World} {vo vn vp : Value} {V : Nat → Value} {O P : List Int} {zss : List (List Int)}

end

end

end Go.Proofs.YtphkgnpkcfbnkaaDoor
namespace Go.Proofs.YtphkgnpkcfbnkaaDoor
section
section
open Go.RowKit

end

section
open Go.RowKit

end

section
open Go.RowKit

end

section
open Go.RowKit

end

section
open Go.RowKit

end
end

section
open Go.RowKit

end

section
section
open Go.RowKit

theorem Box3.new2 {w : World} {g : Nat} (hg : g = w.heap.size) (T : TypeId) (a b c : Value) : Box3 (w.alloc (.cells #[a, b, c] T)) g T a b c := by subst hg; exact Box3.new _ _ _ _ _

/-- The result's box takes a game: of what was made before it. -/
theorem game_stored {w wr : World} {t n D : Nat} {x y z a0 a1 a2 : Value} {O P : List Int} {zss : List (List Int)} (hR : Box3 wr t 32 x y z) (h : OwnGame wr n D (.agg #[a0, a1, a2]) O zss P) (hn : w.heap.size ≤ n) (ht : w.heap.size ≤ t) (htn : t < n) (hb : Below w.heap.size w wr) :
    OwnGame (((wr.setCell ⟨t, 0, none⟩ a0).setCell ⟨t, 1, none⟩ a1).setCell ⟨t, 2, none⟩ a2) w.heap.size (((wr.setCell ⟨t, 0, none⟩ a0).setCell ⟨t, 1, none⟩ a1).setCell ⟨t, 2, none⟩ a2).heap.size (.agg #[a0, a1, a2]) O zss P ∧
      Below w.heap.size w (((wr.setCell ⟨t, 0, none⟩ a0).setCell ⟨t, 1, none⟩ a1).setCell ⟨t, 2, none⟩ a2) ∧ Box3 (((wr.setCell ⟨t, 0, none⟩ a0).setCell ⟨t, 1, none⟩ a1).setCell ⟨t, 2, none⟩ a2) t 32 a0 a1 a2 := by
  have hS : Only (fun b => b = t) wr (((wr.setCell ⟨t, 0, none⟩ a0).setCell ⟨t, 1, none⟩ a1).setCell ⟨t, 2, none⟩ a2) :=
    (((Only.refl (fun b => b = t) wr).setCell (p := ⟨t, 0, none⟩) rfl _).setCell (p := ⟨t, 1, none⟩) rfl _).setCell (p := ⟨t, 2, none⟩) rfl _
  refine ⟨((h.only hS (fun g hg _ e => by omega)).base hn).retop, hb.trans (hS.below (B := w.heap.size) hb.size (fun b hb => by omega)), ?_⟩
  exact World.rowIs.congr (((World.rowIs.set hR 0 a0).set 1 a1).set 2 a2) fun i hi => by
    have h3 : i = 0 ∨ i = 1 ∨ i = 2 := by omega
    rcases h3 with rfl | rfl | rfl <;> simp [tri]

end

section
open Go.RowKit

/-- Has the game a part of its own on S? -/
noncomputable def subB (O : List Int) (zss : List (List Int)) (P S : List Int) : Bool := parityB O zss P && insideB O zss S
/-- The priorities of S. -/
def pickP (P S : List Int) : List Int := S.map fun x => nth P x.toNat
noncomputable def subO (O : List Int) (zss : List (List Int)) (P S : List Int) : List Int := if subB O zss P S = true then insideO O zss S else []
noncomputable def subN (O : List Int) (zss : List (List Int)) (P S : List Int) : List (List Int) := if subB O zss P S = true then insideN O zss S else []
noncomputable def subP (O : List Int) (zss : List (List Int)) (P S : List Int) : List Int := if subB O zss P S = true then pickP P S else []

theorem pickP_take {P S : List Int} {k : Nat} (h : k < S.length) : pickP P (S.take (k + 1)) = pickP P (S.take k) ++ [nth P (nth S k).toNat] := by
  unfold pickP
  rw [List.take_add_one, List.getElem?_eq_getElem h, List.map_append, nth_eq h]
  rfl
theorem pickP_len (P S : List Int) : (pickP P S).length = S.length := by simp [pickP]
theorem sub_no {O rO P rP S : List Int} {zss rN : List (List Int)} {r : Bool} (hr : subO O zss P S = rO ∧ subN O zss P S = rN ∧ subP O zss P S = rP ∧ subB O zss P S = r) (h : subB O zss P S = false) : rO = [] ∧ rN = [] ∧ rP = [] ∧ r = false := by
  obtain ⟨rfl, rfl, rfl, rfl⟩ := hr
  unfold subO subN subP
  rw [h]; simp
theorem sub_yes {O rO P rP S : List Int} {zss rN : List (List Int)} {r : Bool} (hr : subO O zss P S = rO ∧ subN O zss P S = rN ∧ subP O zss P S = rP ∧ subB O zss P S = r) (h : subB O zss P S = true) : rO = insideO O zss S ∧ rN = insideN O zss S ∧ rP = pickP P S ∧ r = true := by
  obtain ⟨rfl, rfl, rfl, rfl⟩ := hr
  unfold subO subN subP
  rw [h]; simp
theorem OwnArena.shape3 {w : World} {B D : Nat} {v : Value} {O : List Int} {zss : List (List Int)} (h : OwnArena w B D v O zss) : ∃ a0 c0 a1 c1 V, v = .agg #[.slice a0 O.length c0, .slice a1 zss.length c1] ∧ OwnInts w B D (.slice a0 O.length c0) O ∧ OwnRows w B D (.slice a1 zss.length c1) V zss ∧ ∀ k, k < zss.length → ∀ g, (V k).ownBlock = some g → (Value.slice a0 O.length c0).ownBlock ≠ some g := by
  obtain ⟨vo, vn, V, rfl, x1, x2, x3⟩ := h
  obtain ⟨a1, e1, hvs, _, _⟩ := x1.shape
  subst hvs
  obtain ⟨a2, e2, hvs, _, _⟩ := x2.shape
  subst hvs
  exact ⟨_, _, _, _, V, rfl, x1, x2, x3⟩

end
end

section
section
open Go.RowKit

theorem rises_pairwise {zs : List Int} : Rises zs ↔ zs.Pairwise (· < ·) := by
  rw [List.pairwise_iff_getElem]
  constructor
  · intro h i j hi hj hij
    have := h i j hij hj
    rwa [nth_eq hi, nth_eq hj] at this
  · intro h j k hjk hk
    have := h j k (by omega) hk hjk
    rwa [nth_eq (by omega), nth_eq hk]

end

section
open Go.RowKit

end
end

section
section
open Go.RowKit

section
variable {P ps : List Int} {k j : Nat}
end

section
variable {P ps : List Int}

end

section
variable {P : List Int}

end
end

section
open Go.RowKit

theorem OwnGame.shape3 {w : World} {B D : Nat} {v : Value} {O P : List Int} {zss : List (List Int)} (h : OwnGame w B D v O zss P) : ∃ a0 c0 a1 c1 a2 c2 V, v = .agg #[.slice a0 O.length c0, .slice a1 zss.length c1, .slice a2 P.length c2] ∧ OwnInts w B D (.slice a0 O.length c0) O ∧ OwnRows w B D (.slice a1 zss.length c1) V zss ∧ OwnInts w B D (.slice a2 P.length c2) P ∧
    (∀ k, k < zss.length → ∀ g, (V k).ownBlock = some g → (Value.slice a0 O.length c0).ownBlock ≠ some g) ∧ (∀ k, k < zss.length → ∀ g, (V k).ownBlock = some g → (Value.slice a2 P.length c2).ownBlock ≠ some g) ∧ ∀ g, (Value.slice a0 O.length c0).ownBlock = some g → (Value.slice a2 P.length c2).ownBlock ≠ some g := by
  obtain ⟨vo, vn, vp, V, rfl, x1, x2, x3, x4, x5, x6⟩ := h
  obtain ⟨a1, e1, hvs, _, _⟩ := x1.shape
  subst hvs
  obtain ⟨a2, e2, hvs, _, _⟩ := x2.shape
  subst hvs
  obtain ⟨a3, e3, hvs, _, _⟩ := x3.shape
  subst hvs
  exact ⟨_, _, _, _, _, _, V, rfl, x1, x2, x3, x4, x5, x6⟩

end
end

end Go.Proofs.YtphkgnpkcfbnkaaDoor
namespace Go.Proofs.YtphkgnpkcfbnkaaDoor
section
open Go.RowKit

section
variable {w w' : World} {g : Nat} {t : TypeId} {a b c d e : Value}
end

end

section
open Go.RowKit

set_option maxHeartbeats 1000000 in
theorem l7Part_is {w : World} {aS : Option Addr} {S : List Int} (cS n : Nat) (hS : IntsAt w aS S) (hn : n ≤ 1048576) (hSn : ∀ x ∈ S, ∃ u : Nat, x = (u : Int) ∧ u < n) :
    Calls Tryd.prog 114 #[.int .i64 n, .slice aS S.length cS] w (GivesMarks w n (openS S S.length)) := by
  have hmk := run_make_row' (P := Tryd.prog) 130 4 (.bool false) 1 Tryd.underlying130 info_bool rfl .i64 .i64 n (by omega) (by omega)
  have HS := Lib.hid hS
  have hlS := hS.len
  have HN := Lib.hid hSn
  have R0 : Hid ((w.alloc (.cells (madeCells #[.bool false] n) 4)).rowIs w.heap.size 4 n (marksV (openS S 0))) := (World.rowIs_made w _ _ _).congr (fun i _ => by simp [marksV, openS])
  have B0 := Lib.hid (below1 w (.cells (madeCells #[.bool false] n) 4))
  clear hS hSn
  go_enter Tryd.func114, Tryd.ntmps114
  go_wp2
  go_loopw [6] (fun iv wr => ∃ k : Nat, k ≤ S.length ∧ iv = .int .i64 k ∧ Hid (wr.rowIs w.heap.size 4 n (marksV (openS S k))) ∧ Hid (Below w.heap.size w wr)) (fun iv _ => S.length - (intOf iv).toNat)
  case atStart => exact ⟨0, Nat.zero_le _, rfl, R0, B0⟩
  case round =>
    clear hmk R0 B0
    obtain ⟨k, hk, rfl, HR, HB⟩ := hrel
    by_cases hlt : k < S.length
    · obtain ⟨b, off, ha, hc⟩ := (HS.out.below HB.out).cell (by omega)
      subst ha
      obtain ⟨u, hu, hun⟩ := HN.out _ (nth_mem hlt)
      have hck := hc k hlt
      rw [hu] at hck
      have hun' : (u : Int) < n := by omega
      have hcs := HR.out.cell hun
      have hcf := HR.out.frozen u
      have R1 : Hid ((wr.setCell ⟨w.heap.size, u, none⟩ (.bool true)).rowIs w.heap.size 4 n (marksV (openS S (k + 1)))) := by rw [openS_succ hlt hu]; exact marks_set HR.out
      have B1 := Lib.hid (HB.out.setCell (p := ⟨w.heap.size, u, none⟩) (Nat.le_refl _) (.bool true))
      clear hc hu
      go_wp2
      go_roundw
      case rel => exact ⟨k + 1, by omega, by go_num, R1, B1⟩
      case measure => simp [intOf]; omega
    · have hkk : k = S.length := by omega
      rw [hkk] at HR
      clear hkk
      go_wp2
      go_ret
      exact ⟨_, rfl, Nat.le_refl _, HR.out, HB.out⟩

end

section
open Go.RowKit

section
variable {zss : List (List Int)} {O Pk : List Int} {who : Int} {I G : Nat → Bool}

end

end

section
open Go.RowKit

section
variable {zss : List (List Int)} {O : List Int} {p : Nat → Int} {W : (Nat → Bool) → Nat → Bool} {I : Nat → Bool} {n : Nat} {top who : Int}

end

end

section
open Go.RowKit

end

end Go.Proofs.YtphkgnpkcfbnkaaDoor
namespace Go.Proofs.YtphkgnpkcfbnkaaDoor
section
open Go.RowKit Go.Shelf

noncomputable def wonInL (O : List Int) (zss : List (List Int)) (P In : List Int) (who : Int) : List Int := if subB O zss P In = true then In.filter (fun x => outB zss O (nth P) (ofL In) who x.toNat) else []
theorem wonIn_no {O P In X Y : List Int} {zss : List (List Int)} (hr : wonInL O zss P In 0 = X ∧ wonInL O zss P In 1 = Y) (h : subB O zss P In = false) : X = [] ∧ Y = [] := by
  obtain ⟨rfl, rfl⟩ := hr
  unfold wonInL
  rw [h]
  exact ⟨rfl, rfl⟩
theorem wonIn_yes {O P In X Y : List Int} {zss : List (List Int)} (hr : wonInL O zss P In 0 = X ∧ wonInL O zss P In 1 = Y) (h : subB O zss P In = true) : X = In.filter (fun x => outB zss O (nth P) (ofL In) 0 x.toNat) ∧ Y = In.filter (fun x => outB zss O (nth P) (ofL In) 1 x.toNat) := by
  obtain ⟨rfl, rfl⟩ := hr
  unfold wonInL
  rw [if_pos h, if_pos h]
  exact ⟨rfl, rfl⟩

theorem setB_memW {n : Int} {zs : List Int} (h : setB n zs = true) : ∀ x ∈ zs, 0 ≤ x ∧ x < n := fun x hx => by
  obtain ⟨k, hk, rfl⟩ := mem_nth.1 hx
  have := setB_bounds h hk
  exact ⟨this.1, this.2.1⟩

theorem places_some {S r : List Int} : ∀ {k : Nat}, k ≤ r.length → 0 < (places S r k).length → ∃ x ∈ r, x ∈ S
  | 0, _, h => by simp [places] at h
  | k + 1, hk, h => by
    rw [places, List.length_append] at h
    by_cases hb : hasB S (nth r k) = true
    · exact ⟨_, nth_mem (by omega), hasB_iff.1 hb⟩
    · rw [if_neg hb] at h
      exact places_some (k := k) (by omega) (by simpa using h)

theorem sub_parts {O P In : List Int} {zss : List (List Int)} (h : subB O zss P In = true) : parityB O zss P = true ∧ In.Pairwise (· < ·) ∧ (∀ x ∈ In, ∃ v : Nat, x = (v : Int) ∧ v < O.length) ∧ TotalP zss (ofL In) ∧ In.length ≤ O.length := by
  unfold subB at h
  rw [Bool.and_eq_true] at h
  obtain ⟨hp, hi⟩ := h
  unfold insideB at hi
  have hI : InsideP O zss In := @of_decide_eq_true _ (Classical.propDecidable _) hi
  obtain ⟨hA, hs, hpos, hall⟩ := hI
  have hpw := rises_pairwise.1 (rises_of hs)
  have hmem : ∀ x ∈ In, ∃ v : Nat, x = (v : Int) ∧ v < O.length := fun x hx => by
    have h1 := setB_memW hs x hx
    exact ⟨x.toNat, by omega, by omega⟩
  refine ⟨hp, hpw, hmem, fun v hv hIv => ?_, by have := setB_len (by omega) hs; omega⟩
  obtain ⟨i, hi, hiv⟩ := List.mem_iff_getElem.1 (ofL_iff.1 hIv)
  have h1 := hall i hi
  have h2 : nth In i = (v : Int) := by rw [nth_eq hi]; exact hiv
  unfold inRow at h1
  rw [h2, Int.toNat_natCast] at h1
  obtain ⟨x, hx, hxI⟩ := places_some (Nat.le_refl _) h1
  obtain ⟨u, rfl, _⟩ := hmem x hxI
  exact ⟨_, hx, by rw [Int.toNat_natCast]; exact ofL_iff.2 hxI⟩

theorem wonIn_list {O P In : List Int} {zss : List (List Int)} (h : subB O zss P In = true) (who : Int) : markedK (outB zss O (nth P) (ofL In) who) 256 = In.filter (fun x => outB zss O (nth P) (ofL In) who x.toNat) := by
  obtain ⟨hp, hpw, hmem, _, _⟩ := sub_parts h
  have hn := (parityB_iff.1 hp).1.2.1
  refine rising_eq (markedK_rising _ _) (hpw.filter _) fun x => ?_
  rw [markedK_mem, List.mem_filter]
  constructor
  · rintro ⟨u, rfl, _, hu⟩
    exact ⟨ofL_iff.1 (outB_sub hu), by rw [Int.toNat_natCast]; exact hu⟩
  · rintro ⟨hx, hu⟩
    obtain ⟨v, rfl, hv⟩ := hmem x hx
    rw [Int.toNat_natCast] at hu
    exact ⟨v, rfl, by omega, hu⟩

/-- A call hands back two slices of its own. -/
def GivesWonIn (w : World) (X Y : List Int) (e : Ending) (w' : World) : Prop :=
  ∃ vx vy, e = .returned (.tuple #[vx, vy]) ∧ OwnInts w' w.heap.size w'.heap.size vx X ∧ OwnInts w' w.heap.size w'.heap.size vy Y ∧ (∀ g, vx.ownBlock = some g → vy.ownBlock ≠ some g) ∧ Below w.heap.size w w'
end
end Go.Proofs.YtphkgnpkcfbnkaaDoor
namespace Go.Proofs.YtphkgnpkcfbnkaaDoor
section
open Go.RowKit

theorem open_ofL {In : List Int} : openS In In.length = ofL In := funext fun v => by
  unfold openS ofL hasB
  rw [List.take_length]
theorem places_pos {S r : List Int} {x : Int} (hx : x ∈ S) : ∀ {k j : Nat}, j < k → nth r j = x → 0 < (places S r k).length
  | 0, _, h, _ => absurd h (by omega)
  | k + 1, j, h, e => by
    rw [places, List.length_append]
    by_cases hj : j = k
    · subst hj
      rw [if_pos (by rw [e]; exact hasB_iff.2 hx)]
      simp
    · have := places_pos (S := S) (r := r) hx (k := k) (j := j) (by omega) e
      omega
/-- No successor of v in the part. -/
def degZ (zss : List (List Int)) (In : List Int) (v : Nat) : Bool := degK (ofL In) (List.replicate zss.length (-1)) v (row zss v) == 0
theorem degZ_iff {zss : List (List Int)} {In : List Int} (_hIn : ∀ j, j < In.length → ∃ u : Nat, nth In j = (u : Int) ∧ u < zss.length) (hz : RowsP zss) {v : Nat} (hv : v < zss.length) : degZ zss In v = true ↔ ∀ x ∈ row zss v, x ∉ In := by
  unfold degZ degK
  rw [beq_iff_eq]
  have e : ((List.filter (fun x => ofL In x.toNat && pickB (List.replicate zss.length (-1)) v x) (row zss v)).length : Int) = 0 ↔ List.filter (fun x => ofL In x.toNat && pickB (List.replicate zss.length (-1)) v x) (row zss v) = [] := by
    rw [← List.length_eq_zero_iff]; omega
  rw [e, List.filter_eq_nil_iff]
  refine forall₂_congr fun x hx => ?_
  obtain ⟨u, rfl, hun⟩ := hz.inG v hv x hx
  have : pickB (List.replicate zss.length (-1)) v (u : Int) = true := by unfold pickB; rw [none_nth hv]; rfl
  rw [this, Int.toNat_natCast, Bool.and_true, ofL_iff]
theorem set_in {n : Nat} {In : List Int} (h : setB (n : Int) In = true) : ∀ j, j < In.length → ∃ u : Nat, nth In j = (u : Int) ∧ u < n := fun j hj => by
  have := setB_bounds h hj
  exact ⟨(nth In j).toNat, by omega, by omega⟩
theorem wonIn_deg {O P In : List Int} {zss : List (List Int)} (hA : ArenaP O zss) (hs : setB (zss.length : Int) In = true) {j : Nat} (hj : j < In.length) (hd : degZ zss In (nth In j).toNat = true) : subB O zss P In = false := by
  have hIn := set_in hs
  obtain ⟨u, hu, hun⟩ := hIn j hj
  rw [hu, Int.toNat_natCast, degZ_iff hIn (rowsP_of hA) hun] at hd
  cases h : subB O zss P In with
  | false => rfl
  | true =>
    exfalso
    unfold subB at h
    rw [Bool.and_eq_true] at h
    have hI : InsideP O zss In := @of_decide_eq_true _ (Classical.propDecidable _) h.2
    have h1 := hI.2.2.2 j hj
    unfold inRow at h1
    rw [hu, Int.toNat_natCast] at h1
    obtain ⟨x, hx, hxI⟩ := places_some (Nat.le_refl _) h1
    exact hd x hx hxI
theorem wonIn_set {O P In : List Int} {zss : List (List Int)} (hA : ArenaP O zss) (hs : setB (zss.length : Int) In = false) : subB O zss P In = false := by
  cases h : subB O zss P In with
  | false => rfl
  | true =>
    exfalso
    unfold subB at h
    rw [Bool.and_eq_true] at h
    have hI : InsideP O zss In := @of_decide_eq_true _ (Classical.propDecidable _) h.2
    have h1 := hI.2.1
    rw [← hA.2.2.1, hs] at h1
    cases h1
theorem wonIn_par {O P In : List Int} {zss : List (List Int)} (hp : parityB O zss P = false) : subB O zss P In = false := by
  unfold subB; rw [hp]; rfl
noncomputable def winF (zss : List (List Int)) (O P In : List Int) : Nat → Bool := winZ zss O (nth P) zss.length (ofL In)
theorem wonIn_all {O P In X Y : List Int} {zss : List (List Int)} (hr : wonInL O zss P In 0 = X ∧ wonInL O zss P In 1 = Y) (hp : parityB O zss P = true) (hs : setB (zss.length : Int) In = true) (hd : ∀ j, j < In.length → degZ zss In (nth In j).toNat = false) : X = In.filter (fun x => winF zss O P In x.toNat) ∧ Y = In.filter (fun x => !winF zss O P In x.toNat) := by
  by_cases h0 : 0 < In.length
  · have hA := (parityB_iff.1 hp).1
    have hIn := set_in hs
    have hI : InsideP O zss In := ⟨hA, by rw [← hA.2.2.1]; exact hs, h0, fun j hj => by
      obtain ⟨u, hu, hun⟩ := hIn j hj
      have h1 := hd j hj
      unfold inRow
      rw [hu, Int.toNat_natCast] at h1 ⊢
      rw [← Bool.not_eq_true, degZ_iff hIn (rowsP_of hA) hun] at h1
      obtain ⟨x, hx⟩ := Classical.not_forall.1 h1
      obtain ⟨hxr, hxI⟩ := Classical.not_imp.1 hx
      obtain ⟨k, hk, e⟩ := mem_nth.1 hxr
      exact places_pos (Classical.not_not.1 hxI) hk e⟩
    have hb : subB O zss P In = true := by
      unfold subB insideB
      rw [hp, Bool.true_and]
      exact @decide_eq_true _ (Classical.propDecidable _) hI
    obtain ⟨h1, h2⟩ := wonIn_yes hr hb
    rw [h1, h2]
    have hm : ∀ x ∈ In, ofL In x.toNat = true := fun x hx => by
      obtain ⟨j, hj, rfl⟩ := mem_nth.1 hx
      obtain ⟨u, hu, _⟩ := hIn j hj
      rw [ofL_iff, hu, Int.toNat_natCast, ← hu]; exact nth_mem hj
    refine ⟨List.filter_congr fun x hx => ?_, List.filter_congr fun x hx => ?_⟩
    · unfold outB regZ winF; rw [hm x hx]; simp
    · unfold outB regZ winF; rw [hm x hx]; simp
  · have e : In = [] := List.length_eq_zero_iff.1 (by omega)
    subst e
    obtain ⟨rfl, rfl⟩ := hr
    unfold wonInL
    constructor <;> (split <;> rfl)

set_option linter.unusedSimpArgs false in
set_option maxHeartbeats 16000000 in
set_option maxRecDepth 100000 in
theorem specWonIn_is {w : World} {v : Value} {O P In X Y : List Int} {zss : List (List Int)} {aI : Option Addr} (cI : Nat) (hr : wonInL O zss P In 0 = X ∧ wonInL O zss P In 1 = Y) (h : GameAt w v O zss P) (hI : IntsAt w aI In) :
    Calls Tryd.prog 53 #[v, .slice aI In.length cI] w (GivesWonIn w X Y) := by
  obtain ⟨i0, hi, hz0, hz1, hz2⟩ := info_parts info_int
  have hG := h
  have HIi := Lib.hid hI
  obtain ⟨ao, an, ap, co, cn, cp, A, C, rfl, h1, h2, h3⟩ := h
  obtain ⟨w1, hw1⟩ : ∃ y, y = w.alloc (.cells #[.slice ao O.length co, .slice an zss.length cn, .slice ap P.length cp] 32) := ⟨_, rfl⟩
  have HW1 := Lib.hid hw1
  have B1 : Hid (Below w.heap.size w w1) := by rw [hw1]; exact below1 _ _
  have T1 : Hid (Box3 w1 w.heap.size 32 (.slice ao O.length co) (.slice an zss.length cn) (.slice ap P.length cp)) := by rw [hw1]; exact Box3.new _ _ _ _ _
  have hs1 : w1.heap.size = w.heap.size + 1 := by rw [hw1]; simp
  have HS1 := Lib.hid hs1
  obtain ⟨w2, hw2⟩ : ∃ y, y = (w1.alloc (.cells #[] 2)).alloc (.cells #[] 2) := ⟨_, rfl⟩
  have HW2 := Lib.hid hw2
  have K2 : Hid (Below w1.heap.size w1 w2) := by rw [hw2]; exact below2 _ _ _
  have OE2 : Hid (w2.ownsRow w1.heap.size 2 1 (.slice (some ⟨w1.heap.size, 0, none⟩) 0 0) 0 []) := by
    rw [hw2]; exact (World.ownsRow_made w1 #[] 0 (Nat.le_refl _) (by unfold maxLen; omega) rfl).alloc _
  have OD2 : Hid (w2.ownsRow w1.heap.size 2 1 (.slice (some ⟨w1.heap.size + 1, 0, none⟩) 0 0) 0 []) := by
    have h := World.ownsRow_made (w1.alloc (.cells #[] 2)) (base := w1.heap.size) (e := 2) (size := 1) #[] 0 (by simp) (by unfold maxLen; omega) rfl
    rw [World.size_alloc] at h
    rw [hw2]; exact h
  have B2 := Lib.hid (B1.out.trans (K2.out.mono B1.out.size))
  have T2 := Lib.hid (T1.out.below K2.out)
  have HEMP : Hid (∀ W, Below w1.heap.size w1 W → W.ownsRow w1.heap.size 2 1 (.slice (some ⟨w1.heap.size, 0, none⟩) 0 0) 0 [] → W.ownsRow w1.heap.size 2 1 (.slice (some ⟨w1.heap.size + 1, 0, none⟩) 0 0) 0 [] → X = [] ∧ Y = [] → GivesWonIn w X Y (.returned (.tuple #[.slice (some ⟨w1.heap.size, 0, none⟩) 0 0, .slice (some ⟨w1.heap.size + 1, 0, none⟩) 0 0])) W) := fun W hW h1 h2 he => by
    rw [he.1, he.2]
    have hb1 := B1.out.size
    exact ⟨_, _, rfl, OwnInts.mk' (ownsRow_base h1 hb1) (by simp) (fun k hk => absurd hk (by simp)), OwnInts.mk' (ownsRow_base h2 hb1) (by simp) (fun k hk => absurd hk (by simp)), fun g hg => by simp [Value.ownBlock] at hg ⊢; omega, B1.out.trans (hW.mono hb1)⟩
  clear hw1 hw2 hs1
  cases hp : parityB O zss P with
  | false =>
    have HE := Lib.hid (wonIn_no hr (wonIn_par hp))
    clear hr
    go_enter Tryd.func53, Tryd.ntmps53
    go_wp2_with fail
    rw [← HW1.out, ← HS1.out, ← HW2.out]
    refine (specParityOk_is hp (hG.below B2.out)).mono ?_
    rintro e w3 ⟨rfl, hb⟩
    have K3 := Lib.hid (K2.out.trans (hb.mono K2.out.size))
    have OE3 := Lib.hid (ownsRow_only OE2.out (S := fun _ => False) (Only.of_below hb) (fun _ _ h => h))
    have OD3 := Lib.hid (ownsRow_only OD2.out (S := fun _ => False) (Only.of_below hb) (fun _ _ h => h))
    clear hb
    go_wp2
    go_ret2
    exact HEMP.out _ K3.out OE3.out OD3.out HE.out
  | true =>
    obtain ⟨hA, hPO, hPB⟩ := parityB_iff.1 hp
    obtain ⟨n, hn⟩ : ∃ n, n = zss.length := ⟨_, rfl⟩
    have hOl : O.length = n := by rw [hn]; exact hA.2.2.1.symm
    have hPl : P.length = n := by omega
    have hn256 : n ≤ 256 := by have := hA.2.1; omega
    have hn1 : 1 ≤ n := by have := hA.1; omega
    have hz := rowsP_of hA
    have HC : Hid (∀ W, Below w.heap.size w W → Calls Tryd.prog 87 #[.agg #[.slice ao n co, .slice an n cn, .slice ap n cp]] W fun e w' => e = .returned (.bool true) ∧ Below W.heap.size W w') := fun W hb => by
      have h := specParityOk_is hp (hG.below hb)
      rw [hOl, hPl, ← hn] at h; exact h
    have HSet : Hid (∀ W, Below w.heap.size w W → Calls Tryd.prog 88 #[.slice aI In.length cI, .int .i64 n] W fun e w' => e = .returned (.bool (setB (n : Int) In)) ∧ ∃ q, w' = W.drewN q) := fun W hb => specSetOk_is (n := (n : Int)) (setOk_yes (by omega)) cI (HIi.out.below hb)
    cases hs : setB (n : Int) In with
    | false =>
      have HE := Lib.hid (wonIn_no hr (wonIn_set hA (by rw [← hn]; exact hs)))
      rw [hs] at HSet
      rw [hOl, hPl, ← hn] at HW1 T2
      rw [hOl, hPl, ← hn]
      clear hr hG h1 h2 h3 hI hA hPO hPB hp hz hOl hPl hn T1
      go_enter Tryd.func53, Tryd.ntmps53
      go_wp2_with fail
      rw [← HW1.out, ← HS1.out, ← HW2.out]
      refine (HC.out _ B2.out).mono ?_
      rintro e w3 ⟨rfl, hb⟩
      have K3 := Lib.hid (K2.out.trans (hb.mono K2.out.size))
      have B3 := Lib.hid (B1.out.trans (K3.out.mono B1.out.size))
      have T3 := Lib.hid (T2.out.below hb)
      have OE3 := Lib.hid (ownsRow_only OE2.out (S := fun _ => False) (Only.of_below hb) (fun _ _ h => h))
      have OD3 := Lib.hid (ownsRow_only OD2.out (S := fun _ => False) (Only.of_below hb) (fun _ _ h => h))
      have t2 := T3.out.c2
      clear hb HC K2 B2 T2 OE2 OD2
      go_wp2_with fail
      refine (HSet.out _ B3.out).mono ?_
      rintro e w4 ⟨rfl, q4, hq4⟩
      have hb : Below w3.heap.size w3 w4 := by rw [hq4]; exact below_drewN (Below.refl _ _) q4
      have K4 := Lib.hid (K3.out.trans (hb.mono K3.out.size))
      have OE4 := Lib.hid (ownsRow_only OE3.out (S := fun _ => False) (Only.of_below hb) (fun _ _ h => h))
      have OD4 := Lib.hid (ownsRow_only OD3.out (S := fun _ => False) (Only.of_below hb) (fun _ _ h => h))
      clear hb hq4 HSet K3 B3 T3 OE3 OD3 t2
      go_wp2
      go_ret2
      exact HEMP.out _ K4.out OE4.out OD4.out HE.out
    | true =>
      rw [hs] at HSet
      obtain ⟨m, hm⟩ : ∃ m, m = In.length := ⟨_, rfl⟩
      have hmn : m ≤ n := by have := setB_len (by omega) hs; omega
      have HO7 : Hid (∀ W, Below w.heap.size w W → Calls Tryd.prog 113 #[.agg #[.slice ao n co, .slice an n cn, .slice ap n cp]] W (GivesSolver W ao an ap co cn cp n zss)) := fun W hb => by
        have h := l7Of_is co cn cp (h1.below hb) (h2.below hb) (h3.below hb) hA (by omega)
        rw [hOl, hPl, ← hn] at h; exact h
      have HPart : Hid (∀ W, Below w.heap.size w W → Calls Tryd.prog 114 #[.int .i64 n, .slice aI m cI] W (GivesMarks W n (ofL In))) := fun W hb => by
        have h := l7Part_is cI n (HIi.out.below hb) (by omega) (fun x hx => by obtain ⟨j, hj, rfl⟩ := mem_nth.1 hx; exact set_in hs j hj)
        rw [open_ofL, ← hm] at h; exact h
      have HDeg : Hid (∀ W q k bI V, Below w.heap.size w W → RowSet W w.heap.size q n V (fun u => predsK zss u n) → W.rowIs k 2 n (fun _ => .int .i64 (-1)) → W.rowIs bI 4 n (marksV (ofL In)) → ∀ u, u < n →
          Calls Tryd.prog 115 #[.agg #[.slice ao n co, .slice ap n cp, .slice an n cn, .slice (some ⟨q, 0, none⟩) n n, .slice (some ⟨k, 0, none⟩) n n], .slice (some ⟨bI, 0, none⟩) n n, .int .i64 u] W fun e w' => ∃ d : Int, e = .returned (.int .i64 d) ∧ (d == 0) = degZ zss In u ∧ Below W.heap.size W w') := fun W q k bI V hb hq hk hM u hu => by
        rw [hn] at hk hM hu hn256
        have h := l7Degree_is (ao := ao) (ap := ap) (aq := some ⟨q, 0, none⟩) (v := u) n n n co cp cn n n n (h2.below hb) (ints_none hk hn256) hz (by simp) hM hu (by have := (arena_rows hA hu).2; omega)
        rw [List.length_replicate, ← hn] at h
        refine h.mono ?_
        rintro e w' ⟨he, hw⟩
        exact ⟨_, he, by unfold degZ; rw [← hn], hw⟩
      have HWin : Hid (∀ W q k bI V, Below w.heap.size w W → RowSet W w.heap.size q n V (fun u => predsK zss u n) → W.rowIs k 2 n (fun _ => .int .i64 (-1)) → W.rowIs bI 4 n (marksV (ofL In)) →
          Calls Tryd.prog 116 #[.agg #[.slice ao n co, .slice ap n cp, .slice an n cn, .slice (some ⟨q, 0, none⟩) n n, .slice (some ⟨k, 0, none⟩) n n], .slice (some ⟨bI, 0, none⟩) n n] W (GivesMarks W n (winF zss O P In))) := fun W q k bI V hb hq hk hM => by
        have hq' := prev_rows hq hn256
        rw [hn] at hk hM hq' hn256
        have h := l7Win_is (Pk := List.replicate zss.length (-1)) co cp cn n n hz (by omega) (by omega) (by simp) hn256 (fun v hv => (arena_rows hA hv).2.2) zss.length (h1.below hb) (h3.below hb) (h2.below hb) hq' (ints_none hk hn256) hM (markedK_len _ _)
        rw [zssE_none, List.length_replicate, hOl, hPl, ← hn] at h
        unfold winF
        rw [← hn]
        exact h
      have HI : Hid (∀ W, Below w.heap.size w W → ∀ j, j < m → ∃ b off, aI = some ⟨b, off, none⟩ ∧ W.cell? ⟨b, off + j, none⟩ = some (.int .i64 (nth In j))) := fun W hb j hj => by
        obtain ⟨b, off, ha, hc⟩ := (HIi.out.below hb).cell (by omega)
        exact ⟨b, off, ha, hc j (by omega)⟩
      have HIN : Hid (∀ j, j < m → ∃ u : Nat, nth In j = (u : Int) ∧ u < n) := fun j hj => set_in hs j (by omega)
      have HZ : Hid (∀ j, j < m → degZ zss In (nth In j).toNat = true → X = [] ∧ Y = []) := fun j hj hd => wonIn_no hr (wonIn_deg hA (by rw [← hn]; exact hs) (by omega) hd)
      have HXY : Hid ((∀ j, j < m → degZ zss In (nth In j).toNat = false) → X = In.filter (fun x => winF zss O P In x.toNat) ∧ Y = In.filter (fun x => !winF zss O P In x.toNat)) := fun hd => wonIn_all hr hp (by rw [← hn]; exact hs) (fun j hj => hd j (by omega))
      obtain ⟨D, hD⟩ : ∃ D, D = degZ zss In := ⟨_, rfl⟩
      obtain ⟨F, hF⟩ : ∃ F, F = winF zss O P In := ⟨_, rfl⟩
      rw [← hF] at HXY HWin
      rw [← hD] at HXY HZ HDeg
      have HML : Hid (m = In.length) := hm
      rw [hOl, hPl, ← hn] at HW1 T2
      rw [← hm] at HSet
      rw [hOl, hPl, ← hn, ← hm]
      clear hr hG h1 h2 h3 hI hA hPO hPB hp hz hOl hPl hn T1 hs hm hD hF HIi
      go_enter Tryd.func53, Tryd.ntmps53
      go_wp2_with fail
      rw [← HW1.out, ← HS1.out, ← HW2.out]
      refine (HC.out _ B2.out).mono ?_
      rintro e w3 ⟨rfl, hb⟩
      have K3 := Lib.hid (K2.out.trans (hb.mono K2.out.size))
      have B3 := Lib.hid (B1.out.trans (K3.out.mono B1.out.size))
      have T3 := Lib.hid (T2.out.below hb)
      have OE3 := Lib.hid (ownsRow_only OE2.out (S := fun _ => False) (Only.of_below hb) (fun _ _ h => h))
      have OD3 := Lib.hid (ownsRow_only OD2.out (S := fun _ => False) (Only.of_below hb) (fun _ _ h => h))
      have t2 := T3.out.c2
      clear hb HC K2 B2 T2 OE2 OD2
      go_wp2_with fail
      refine (HSet.out _ B3.out).mono ?_
      rintro e w4 ⟨rfl, q4, hq4⟩
      have hb : Below w3.heap.size w3 w4 := by rw [hq4]; exact below_drewN (Below.refl _ _) q4
      have K4 := Lib.hid (K3.out.trans (hb.mono K3.out.size))
      have B4 := Lib.hid (B1.out.trans (K4.out.mono B1.out.size))
      have T4 := Lib.hid (T3.out.below hb)
      have OE4 := Lib.hid (ownsRow_only OE3.out (S := fun _ => False) (Only.of_below hb) (fun _ _ h => h))
      have OD4 := Lib.hid (ownsRow_only OD3.out (S := fun _ => False) (Only.of_below hb) (fun _ _ h => h))
      clear hb hq4 HSet K3 B3 T3 OE3 OD3 t2
      have t0 := T4.out.c0
      have t1 := T4.out.c1
      have t2 := T4.out.c2
      go_wp2_with fail
      refine (HO7.out _ B4.out).mono ?_
      rintro e w5 ⟨q, k, V, rfl, hV, hK, hb⟩
      obtain ⟨w6, hw6⟩ : ∃ y, y = w5.alloc (.cells #[.slice ao n co, .slice ap n cp, .slice an n cn, .slice (some ⟨q, 0, none⟩) n n, .slice (some ⟨k, 0, none⟩) n n] 128) := ⟨_, rfl⟩
      have HW6 := Lib.hid hw6
      have hb56 : Below w5.heap.size w5 w6 := by rw [hw6]; exact below1 _ _
      have hb46 : Below w4.heap.size w4 w6 := hb.trans (hb56.mono hb.size)
      have X6 : Hid (Box5 w6 w5.heap.size 128 (.slice ao n co) (.slice ap n cp) (.slice an n cn) (.slice (some ⟨q, 0, none⟩) n n) (.slice (some ⟨k, 0, none⟩) n n)) := by rw [hw6]; exact Box5.new _ _ _ _ _ _ _
      have hwb : w.heap.size ≤ w4.heap.size := B4.out.size
      have V6 : Hid (RowSet w6 w.heap.size q n V (fun u => predsK zss u n)) := rowset_base (hV.below hb56) hwb
      have P6 := Lib.hid (rowIs_below hK hb56)
      have K6 := Lib.hid (K4.out.trans (hb46.mono K4.out.size))
      have B6 := Lib.hid (B1.out.trans (K6.out.mono B1.out.size))
      have T6 := Lib.hid (T4.out.below hb46)
      have OE6 := Lib.hid (ownsRow_only OE4.out (S := fun _ => False) (Only.of_below hb46) (fun _ _ h => h))
      have OD6 := Lib.hid (ownsRow_only OD4.out (S := fun _ => False) (Only.of_below hb46) (fun _ _ h => h))
      clear t0 t1 t2
      have t2 := T6.out.c2
      rw [hw6] at t2
      clear hb hw6 hb56 hb46 hV hK HO7 K4 B4 T4 OE4 OD4
      go_wp2_with fail
      rw [← HW6.out]
      refine (HPart.out _ B6.out).mono ?_
      rintro e w7 ⟨bI, rfl, hbI, hM, hb⟩
      have X7 := Lib.hid (X6.out.below hb)
      have V7 := Lib.hid (V6.out.below hb)
      have P7 := Lib.hid (rowIs_below P6.out hb)
      have M7 := Lib.hid hM
      have K7 := Lib.hid (K6.out.trans (hb.mono K6.out.size))
      have B7 := Lib.hid (B1.out.trans (K7.out.mono B1.out.size))
      have OE7 := Lib.hid (ownsRow_only OE6.out (S := fun _ => False) (Only.of_below hb) (fun _ _ h => h))
      have OD7 := Lib.hid (ownsRow_only OD6.out (S := fun _ => False) (Only.of_below hb) (fun _ _ h => h))
      clear t2 hb hM HPart X6 V6 P6 K6 B6 T6 OE6 OD6 HW6 hbI
      go_wp2
      go_loopw [10] (fun iv wr => ∃ i : Nat, i ≤ m ∧ iv = .int .i64 i ∧ Hid (∀ j, j < i → D (nth In j).toNat = false) ∧ Hid (Below w7.heap.size w7 wr)) (fun iv _ => m - (intOf iv).toNat)
      case atStart => exact ⟨0, Nat.zero_le _, rfl, fun j hj => absurd hj (by omega), Below.refl _ _⟩
      case round =>
        obtain ⟨i, hin, rfl, HDF, HB⟩ := hrel
        have Bw := Lib.hid (B7.out.trans (HB.out.mono B7.out.size))
        by_cases hlt : i < m
        · have hi1 : (i : Int) < m := by omega
          have hi0 : (0 : Int) ≤ (i : Int) := by omega
          obtain ⟨ib, io, hia, i1⟩ := HI.out _ Bw.out i hlt
          obtain ⟨u, hnj, hun⟩ := HIN.out i hlt
          rw [hnj] at i1
          have Xw := Lib.hid (X7.out.below HB.out)
          have x0 := Xw.out.c0
          have x1 := Xw.out.c1
          have x2 := Xw.out.c2
          have x3 := Xw.out.c3
          have x4 := Xw.out.c4
          have HD : Hid (Below wr.heap.size wr wr.drew) := (Below.refl _ _).drew
          have HBd := Lib.hid (HB.out.trans (HD.out.mono HB.out.size))
          have HDg := Lib.hid (HDeg.out wr.drew q k bI V (B7.out.trans (HBd.out.mono B7.out.size)) (V7.out.below HBd.out) (rowIs_below P7.out HBd.out) (rowIs_below M7.out HBd.out) u hun)
          have HNJ : Hid (nth In i = (u : Int)) := hnj
          subst hia
          clear hnj
          cases hDu : D u with
          | true =>
            rw [hDu] at HDg
            have HZi := Lib.hid (HZ.out i hlt (by rw [HNJ.out, Int.toNat_natCast]; exact hDu))
            clear hDu
            go_wp2
            go_region_held3 (fun w' => w'.cell? ⟨w5.heap.size, 0, none⟩ = some (.slice ao n co) ∧ w'.cell? ⟨w5.heap.size, 1, none⟩ = some (.slice ap n cp) ∧ w'.cell? ⟨w5.heap.size, 2, none⟩ = some (.slice an n cn) ∧ w'.cell? ⟨w5.heap.size, 3, none⟩ = some (.slice (some ⟨q, 0, none⟩) n n) ∧ w'.cell? ⟨w5.heap.size, 4, none⟩ = some (.slice (some ⟨k, 0, none⟩) n n) ∧ w'.cell? ⟨ib, io + i, none⟩ = some (.int .i64 u))
              (first
                | go_keep
                | exact ⟨y0, y1, y2, y3, y4, y5⟩)
              (first
                | (go_at_call 115; refine HDg.out.mono ?_; rintro e w8 ⟨d, rfl, hd, hb⟩; have HB8 := Lib.hid (HBd.out.trans (hb.mono HBd.out.size)); have hb8 := HD.out.trans (hb.mono HD.out.size); have y0 := (Xw.out.below hb8).c0; have y1 := (Xw.out.below hb8).c1; have y2 := (Xw.out.below hb8).c2; have y3 := (Xw.out.below hb8).c3; have y4 := (Xw.out.below hb8).c4; have y5 := (hb8.cell (World.block_lt_of_cell? _ _ i1)).trans i1; clear hb hb8))
            all_goals (
              clear x0 x1 x2 x3 x4 y0 y1 y2 y3 y4 y5 i1
              have K8 := Lib.hid (K7.out.trans (HB8.out.mono K7.out.size))
              have OE8 := Lib.hid (ownsRow_only OE7.out (S := fun _ => False) (Only.of_below HB8.out) (fun _ _ h => h))
              have OD8 := Lib.hid (ownsRow_only OD7.out (S := fun _ => False) (Only.of_below HB8.out) (fun _ _ h => h))
              go_wp2
              go_ret2
              exact HEMP.out _ K8.out OE8.out OD8.out HZi.out)
          | false =>
            rw [hDu] at HDg
            have HDn : Hid (∀ j, j < i + 1 → D (nth In j).toNat = false) := fun j hj => by
              by_cases e : j = i
              · subst e; rw [HNJ.out, Int.toNat_natCast]; exact hDu
              · exact HDF.out j (by omega)
            clear hDu
            go_wp2
            go_region_held3 (fun w' => w'.cell? ⟨w5.heap.size, 0, none⟩ = some (.slice ao n co) ∧ w'.cell? ⟨w5.heap.size, 1, none⟩ = some (.slice ap n cp) ∧ w'.cell? ⟨w5.heap.size, 2, none⟩ = some (.slice an n cn) ∧ w'.cell? ⟨w5.heap.size, 3, none⟩ = some (.slice (some ⟨q, 0, none⟩) n n) ∧ w'.cell? ⟨w5.heap.size, 4, none⟩ = some (.slice (some ⟨k, 0, none⟩) n n) ∧ w'.cell? ⟨ib, io + i, none⟩ = some (.int .i64 u))
              (first
                | go_keep
                | exact ⟨y0, y1, y2, y3, y4, y5⟩)
              (first
                | (go_at_call 115; refine HDg.out.mono ?_; rintro e w8 ⟨d, rfl, hd, hb⟩; have HB8 := Lib.hid (HBd.out.trans (hb.mono HBd.out.size)); have hb8 := HD.out.trans (hb.mono HD.out.size); have y0 := (Xw.out.below hb8).c0; have y1 := (Xw.out.below hb8).c1; have y2 := (Xw.out.below hb8).c2; have y3 := (Xw.out.below hb8).c3; have y4 := (Xw.out.below hb8).c4; have y5 := (hb8.cell (World.block_lt_of_cell? _ _ i1)).trans i1; clear hb hb8))
            all_goals (
              clear x0 x1 x2 x3 x4 y0 y1 y2 y3 y4 y5 i1
              go_wp2
              go_roundw
              case rel => exact ⟨i + 1, by omega, by go_num, HDn, HB8⟩
              case measure => simp [intOf]; omega)
        · have hi1 : ¬ (i : Int) < m := by omega
          have HXQ := Lib.hid (HXY.out (fun j hj => HDF.out j (by omega)))
          obtain ⟨wq, hwq⟩ : ∃ x, x = wr := ⟨_, rfl⟩
          subst hwq
          have Xw := Lib.hid (X7.out.below HB.out)
          have x0 := Xw.out.c0
          have x1 := Xw.out.c1
          have x2 := Xw.out.c2
          have x3 := Xw.out.c3
          have x4 := Xw.out.c4
          have HWn := Lib.hid (HWin.out wq q k bI V Bw.out (V7.out.below HB.out) (rowIs_below P7.out HB.out) (rowIs_below M7.out HB.out))
          go_wp2_with fail
          refine HWn.out.mono ?_
          rintro e w9 ⟨bW, rfl, hbW, hM, hb⟩
          have M9 := Lib.hid hM
          have K9 := Lib.hid (K7.out.trans ((HB.out.trans (hb.mono HB.out.size)).mono K7.out.size))
          have hb79 := HB.out.trans (hb.mono HB.out.size)
          have OE9 := Lib.hid (ownsRow_only OE7.out (S := fun _ => False) (Only.of_below hb79) (fun _ _ h => h))
          have OD9 := Lib.hid (ownsRow_only OD7.out (S := fun _ => False) (Only.of_below hb79) (fun _ _ h => h))
          have hK79 : w7.heap.size ≤ wq.heap.size := HB.out.size
          have hK17 : w1.heap.size ≤ w7.heap.size := K7.out.size
          have hod : w1.heap.size + 1 < w7.heap.size := (OD7.out.lt _ rfl).2
          clear hb hM hb79 x0 x1 x2 x3 x4 Xw HWn HWin HDeg X7 V7 P7 M7 OE7 OD7 HB
          go_wp2
          go_loopw [6, 7, 12] (fun u v iv wr => ∃ (j : Nat) (uu vv : Value), uu = u ∧ vv = v ∧ j ≤ m ∧ iv = .int .i64 j ∧ Hid (wr.ownsRow w1.heap.size 2 1 u (partK (fun x => F x.toNat) In j).length ((partK (fun x => F x.toNat) In j).map (Value.int .i64))) ∧ Hid (wr.ownsRow w1.heap.size 2 1 v (partK (fun x => !F x.toNat) In j).length ((partK (fun x => !F x.toNat) In j).map (Value.int .i64))) ∧ Hid (∀ g, u.ownBlock = some g → v.ownBlock ≠ some g) ∧ Hid ((∀ g, u.ownBlock = some g → g ≠ bW) ∧ ∀ g, v.ownBlock = some g → g ≠ bW) ∧ Hid (wr.rowIs bW 4 n (marksV F)) ∧ Hid (Below w1.heap.size w1 wr)) (fun _ _ iv _ => m - (intOf iv).toNat)
          case atStart => exact ⟨0, _, _, rfl, rfl, Nat.zero_le _, rfl, OE9.out, OD9.out, fun g hg => by simp [Value.ownBlock] at hg ⊢; omega, ⟨fun g hg => by simp [Value.ownBlock] at hg; omega, fun g hg => by simp [Value.ownBlock] at hg; omega⟩, M9, K9⟩
          case round =>
            clear OE9 OD9 M9 K9
            obtain ⟨j, uu, vv, hu0, hv0, hj, rfl, HU, HV, HDj, HNe, HM, HB⟩ := hrel
            subst hu0
            subst hv0
            have hsz := HB.out.size
            have Bw := Lib.hid (B1.out.trans (HB.out.mono B1.out.size))
            have hpe := partK_len (fun x => F x.toNat) In j
            have hpo := partK_len (fun x => !F x.toNat) In j
            by_cases hlt : j < m
            · have hj1 : (j : Int) < m := by omega
              have hj0 : (0 : Int) ≤ (j : Int) := by omega
              obtain ⟨ib, io, hia, i1⟩ := HI.out _ Bw.out j hlt
              obtain ⟨u, hnj, hun⟩ := HIN.out j hlt
              rw [hnj] at i1
              have hu1 : (u : Int) < n := by omega
              have hu0 : (0 : Int) ≤ (u : Int) := by omega
              have m1 := HM.out.cell hun
              unfold marksV at m1
              subst hia
              cases hF : F u with
              | true =>
                rw [hF] at m1
                have HS1 : Hid (partK (fun x => F x.toNat) In (j + 1) = partK (fun x => F x.toNat) In j ++ [(u : Int)]) := by simp [partK, hnj, hF, Hid]
                have hS2 : partK (fun x => !F x.toNat) In (j + 1) = partK (fun x => !F x.toNat) In j := by simp [partK, hnj, hF]
                have HV2 := HV
                rw [← hS2] at HV2
                clear hF hS2 hnj
                go_wp2_with (at_builtin; refine wpList_append_own_at _ rfl _ _ 27 rfl w1.heap.size 2 i0 (.int .i64 0) 1 8 Tryd.underlying27 hi hz0 hz1 hz2 rfl (by decide) _ _ _ rfl (HU.out.alloc _) ⟨wr.heap.size, 0, none⟩ 1 1 [.int .i64 (u : Int)] rfl rfl ?c1 ?c2 ?c3 ?c4 ?c5 ?_)
                try (case c1 => exact cell_one_new _ _ _)
                try (case c2 => first | rfl | (intro u hu; simp at hu; subst hu; rfl))
                case c3 => unfold maxLen; omega
                case c4 => omega
                case c5 => simp; omega
                intro v' w1' hown' hgrow _ hlie
                have HBn := Lib.hid ((HB.out.alloc HB.out.size _).grown hgrow (by simp; omega) (fun g hg => (HU.out.lt g hg).1))
                have e1 : (partK (fun x => F x.toNat) In (j + 1)).length = (partK (fun x => F x.toNat) In j).length + 1 := by rw [HS1.out]; simp
                have e2 : (partK (fun x => F x.toNat) In (j + 1)).map (Value.int .i64) = (partK (fun x => F x.toNat) In j).map (Value.int .i64) ++ [.int .i64 (u : Int)] := by rw [HS1.out]; simp
                have HOn := Lib.hid hown'
                rw [← e1, ← e2] at HOn
                have HVn := Lib.hid (ownsRow_only (HV2.out.alloc _) (Only.of_grown hgrow) (fun g hg e => HDj.out g e hg))
                have hlt2 := HM.out.lt
                have HMn := Lib.hid (rowIs_only (rowIs_below HM.out (below1 wr (.cells #[.int .i64 (u : Int)] 2))) (Only.of_grown hgrow) (fun e => HNe.out.1 _ e rfl))
                have HDn : Hid (∀ g, v'.ownBlock = some g → vv.ownBlock ≠ some g) := fun g hg hv => by
                  rcases hlie with h | h
                  · rw [h] at hg; exact HDj.out g hg hv
                  · rw [h] at hg; have := (HV2.out.lt g hv).2; simp at hg; omega
                have HNn : Hid ((∀ g, v'.ownBlock = some g → g ≠ bW) ∧ ∀ g, vv.ownBlock = some g → g ≠ bW) := ⟨fun g hg => by
                  rcases hlie with h | h
                  · rw [h] at hg; exact HNe.out.1 g hg
                  · rw [h] at hg; simp at hg; omega, HNe.out.2⟩
                clear hown' hgrow e1 e2 hlie hlt2
                go_wp2
                go_roundw
                case rel => exact ⟨j + 1, _, _, rfl, rfl, by omega, by go_num, HOn, HVn, HDn, HNn, HMn, HBn⟩
                case measure => simp [intOf]; omega
              | false =>
                rw [hF] at m1
                have HS1 : Hid (partK (fun x => !F x.toNat) In (j + 1) = partK (fun x => !F x.toNat) In j ++ [(u : Int)]) := by simp [partK, hnj, hF, Hid]
                have hS2 : partK (fun x => F x.toNat) In (j + 1) = partK (fun x => F x.toNat) In j := by simp [partK, hnj, hF]
                have HU2 := HU
                rw [← hS2] at HU2
                clear hF hS2 hnj
                go_wp2_with (at_builtin; refine wpList_append_own_at _ rfl _ _ 27 rfl w1.heap.size 2 i0 (.int .i64 0) 1 8 Tryd.underlying27 hi hz0 hz1 hz2 rfl (by decide) _ _ _ rfl (HV.out.alloc _) ⟨wr.heap.size, 0, none⟩ 1 1 [.int .i64 (u : Int)] rfl rfl ?c1 ?c2 ?c3 ?c4 ?c5 ?_)
                try (case c1 => exact cell_one_new _ _ _)
                try (case c2 => first | rfl | (intro u hu; simp at hu; subst hu; rfl))
                case c3 => unfold maxLen; omega
                case c4 => omega
                case c5 => simp; omega
                intro v' w1' hown' hgrow _ hlie
                have HBn := Lib.hid ((HB.out.alloc HB.out.size _).grown hgrow (by simp; omega) (fun g hg => (HV.out.lt g hg).1))
                have e1 : (partK (fun x => !F x.toNat) In (j + 1)).length = (partK (fun x => !F x.toNat) In j).length + 1 := by rw [HS1.out]; simp
                have e2 : (partK (fun x => !F x.toNat) In (j + 1)).map (Value.int .i64) = (partK (fun x => !F x.toNat) In j).map (Value.int .i64) ++ [.int .i64 (u : Int)] := by rw [HS1.out]; simp
                have HOn := Lib.hid hown'
                rw [← e1, ← e2] at HOn
                have HUn := Lib.hid (ownsRow_only (HU2.out.alloc _) (Only.of_grown hgrow) (fun g hg e => HDj.out g hg e))
                have hlt2 := HM.out.lt
                have HMn := Lib.hid (rowIs_only (rowIs_below HM.out (below1 wr (.cells #[.int .i64 (u : Int)] 2))) (Only.of_grown hgrow) (fun e => HNe.out.2 _ e rfl))
                have HDn : Hid (∀ g, uu.ownBlock = some g → v'.ownBlock ≠ some g) := fun g hg hv => by
                  rcases hlie with h | h
                  · rw [h] at hv; exact HDj.out g hg hv
                  · rw [h] at hv; have := (HU2.out.lt g hg).2; simp at hv; omega
                have HNn : Hid ((∀ g, uu.ownBlock = some g → g ≠ bW) ∧ ∀ g, v'.ownBlock = some g → g ≠ bW) := ⟨HNe.out.1, fun g hg => by
                  rcases hlie with h | h
                  · rw [h] at hg; exact HNe.out.2 g hg
                  · rw [h] at hg; simp at hg; omega⟩
                clear hown' hgrow e1 e2 hlie hlt2
                go_wp2
                go_roundw
                case rel => exact ⟨j + 1, _, _, rfl, rfl, by omega, by go_num, HUn, HOn, HDn, HNn, HMn, HBn⟩
                case measure => simp [intOf]; omega
            · have hj1 : ¬ (j : Int) < m := by omega
              have hjj : j = In.length := by have := HML.out; omega
              rw [hjj] at HU HV
              rw [partK_all] at HU HV
              have hu := HU.out
              have hv := HV.out
              rw [← HXQ.out.1] at hu
              rw [← HXQ.out.2] at hv
              have hfi : ∀ y ∈ In, Fits y := fun y hy => by
                obtain ⟨k, hk, rfl⟩ := mem_nth.1 hy
                obtain ⟨u, hu, hun⟩ := HIN.out k (by have := HML.out; omega)
                rw [hu]; unfold Fits; omega
              have hfe : ∀ k, k < X.length → Fits (nth X k) := fun k hk => by
                have hm := nth_mem hk
                generalize nth X k = y at hm
                rw [HXQ.out.1] at hm
                exact hfi y (List.mem_filter.1 hm).1
              have hfo : ∀ k, k < Y.length → Fits (nth Y k) := fun k hk => by
                have hm := nth_mem hk
                generalize nth Y k = y at hm
                rw [HXQ.out.2] at hm
                exact hfi y (List.mem_filter.1 hm).1
              have hle : X.length ≤ m := by rw [HXQ.out.1, HML.out]; exact List.length_filter_le _ _
              have hld : Y.length ≤ m := by rw [HXQ.out.2, HML.out]; exact List.length_filter_le _ _
              have hfin : Hid (GivesWonIn w X Y (.returned (.tuple #[uu, vv])) wr) := ⟨_, _, rfl, OwnInts.mk' (ownsRow_base hu B1.out.size) (by omega) hfe, OwnInts.mk' (ownsRow_base hv B1.out.size) (by omega) hfo, HDj.out, Bw.out⟩
              clear hjj HU HV hu hv hfe hfo hfi hle hld hpe hpo
              go_wp2
              go_ret2
              exact hfin.out
end

end Go.Proofs.YtphkgnpkcfbnkaaDoor
namespace Go.Proofs.YtphkgnpkcfbnkaaDoor
open Go.RowKit

set_option maxHeartbeats 8000000 in
set_option maxRecDepth 100000 in
theorem InsideOf_is {w : World} {va : Value} {O P : List Int} {zss yss : List (List Int)} {aS : Option Addr} {S : List Int} {r : Bool} (cs : Nat) (hr : insideO O zss S = P ∧ insideN O zss S = yss ∧ insideB O zss S = r) (h : ArenaAt w va O zss) (hS : IntsAt w aS S) :
    Calls Tryd.prog 144 #[va, .slice aS S.length cs] w (GivesArenaB w P yss r) := by
  obtain ⟨j0, hj, hj0, hj1, hj2⟩ := info_parts info_int
  obtain ⟨i0, hi, hz0, hz1, hz2⟩ := info_parts info_rows
  have HAt := Lib.hid h
  have HSi := Lib.hid hS
  have hlS := hS.len
  obtain ⟨ao, an, co, cn, A, C, rfl, h1, h2⟩ := h
  have hlO := h1.len
  have HOi := Lib.hid h1
  have HNi := Lib.hid h2
  clear h1 h2 hS
  obtain ⟨W, hW⟩ : ∃ W, W = (w.alloc (.cells #[.slice ao O.length co, .slice an zss.length cn] 30)).alloc (.cells #[.slice none 0 0, .slice none 0 0] 30) := ⟨_, rfl⟩
  have HW := Lib.hid hW
  have BW : Hid (Below w.heap.size w W) := by rw [hW]; exact below2 _ _ _
  have bW : Hid (Box2 W w.heap.size 30 (.slice ao O.length co) (.slice an zss.length cn)) := by rw [hW]; exact (Box2.new w _ _ _).alloc _
  have rW : Hid (Box2 W (w.heap.size + 1) 30 (.slice none 0 0) (.slice none 0 0)) := by rw [hW]; exact Box2.new_at (by simp) _ _ _
  clear hW
  cases hA : arenaB O zss with
  | false =>
    have hno := inside_no (O := O) (zss := zss) (S := S) (fun hh => by rw [arenaB_yes hh.1] at hA; cases hA)
    have HE : Hid (P = [] ∧ yss = [] ∧ r = false) := ⟨by rw [← hr.1, hno.1], by rw [← hr.2.1, hno.2.1], by rw [← hr.2.2, hno.2.2]⟩
    have HC := Lib.hid (ArenaOk_at hA (HAt.out.below BW.out))
    clear hA hr hno
    go_enter Tryd.func144, Tryd.ntmps144
    go_wp2_with fail
    rw [← HW.out]
    refine HC.out.mono ?_
    rintro e w1 ⟨rfl, hb⟩
    have B1 := Lib.hid (BW.out.trans (hb.mono BW.out.size))
    have r1 := rW.out.below hb
    have d0 := r1.cell0
    have d1 := r1.cell1
    have g0 := r1.frozen 0
    have g1 := r1.frozen 1
    clear hb r1
    go_wp2
    exact bodyPost_ret (v := .tuple #[.agg #[.slice none 0 0, .slice none 0 0], .bool false]) (by simp [results, Tryd.results144, go_sem, d0, d1]) rfl
      ⟨_, by rw [HE.out.2.2], by rw [HE.out.1, HE.out.2.1]; exact ownArena_zero _ _ _, zero_stored B1.out (by omega)⟩
  | true =>
    have hP := arenaB_iff.1 hA
    have HP := Lib.hid hP
    have hO256 := hP.2.1
    have HC := Lib.hid (ArenaOk_at hA (HAt.out.below BW.out))
    clear hA
    cases hB : setB O.length S with
    | false =>
      have hno := inside_no (O := O) (zss := zss) (S := S) (fun hh => by rw [hh.2.1] at hB; cases hB)
      have HE : Hid (P = [] ∧ yss = [] ∧ r = false) := ⟨by rw [← hr.1, hno.1], by rw [← hr.2.1, hno.2.1], by rw [← hr.2.2, hno.2.2]⟩
      have HB := Lib.hid hB
      clear hB hr hno hP
      go_enter Tryd.func144, Tryd.ntmps144
      go_wp2_with fail
      rw [← HW.out]
      refine HC.out.mono ?_
      rintro e w1 ⟨rfl, hb⟩
      have B1 := Lib.hid (BW.out.trans (hb.mono BW.out.size))
      have b1 := Lib.hid (bW.out.below hb)
      have r1 := Lib.hid (rW.out.below hb)
      clear hb
      have c0 := b1.out.cell0
      have c1 := b1.out.cell1
      go_wp2_with fail
      refine (size_is ao an O.length zss.length co cn w1 hlO).mono ?_
      rintro e w2 ⟨rfl, hw2⟩
      have B2 : Hid (Below w.heap.size w w2) := by rw [← hw2]; exact B1.out.alloc B1.out.size _
      have r2 : Hid (Box2 w2 (w.heap.size + 1) 30 (.slice none 0 0) (.slice none 0 0)) := by rw [← hw2]; exact r1.out.alloc _
      clear hw2 c0 c1
      go_wp2_with fail
      refine (isSet_is HB.out cs w2 (HSi.out.below B2.out) (by unfold Fits; omega)).mono ?_
      rintro e w3 ⟨rfl, rfl⟩
      have d0 := r2.out.cell0
      have d1 := r2.out.cell1
      have g0 := r2.out.frozen 0
      have g1 := r2.out.frozen 1
      go_wp2
      exact bodyPost_ret (v := .tuple #[.agg #[.slice none 0 0, .slice none 0 0], .bool false]) (by simp [results, Tryd.results144, go_sem, d0, d1]) rfl
        ⟨_, by rw [HE.out.2.2], by rw [HE.out.1, HE.out.2.1]; exact ownArena_zero _ _ _, zero_stored B2.out (by omega)⟩
    | true =>
      have HB := Lib.hid hB
      by_cases h0 : S.length = 0
      · have hno := inside_no (O := O) (zss := zss) (S := S) (fun hh => by have := hh.2.2.1; omega)
        have HE : Hid (P = [] ∧ yss = [] ∧ r = false) := ⟨by rw [← hr.1, hno.1], by rw [← hr.2.1, hno.2.1], by rw [← hr.2.2, hno.2.2]⟩
        have hz : ((S.length : Int) == 0) = true := by simp [h0]
        clear hB hr hno h0 hP
        go_enter Tryd.func144, Tryd.ntmps144
        go_wp2_with fail
        rw [← HW.out]
        refine HC.out.mono ?_
        rintro e w1 ⟨rfl, hb⟩
        have B1 := Lib.hid (BW.out.trans (hb.mono BW.out.size))
        have b1 := Lib.hid (bW.out.below hb)
        have r1 := Lib.hid (rW.out.below hb)
        clear hb
        have c0 := b1.out.cell0
        have c1 := b1.out.cell1
        go_wp2_with fail
        refine (size_is ao an O.length zss.length co cn w1 hlO).mono ?_
        rintro e w2 ⟨rfl, hw2⟩
        have B2 : Hid (Below w.heap.size w w2) := by rw [← hw2]; exact B1.out.alloc B1.out.size _
        have r2 : Hid (Box2 w2 (w.heap.size + 1) 30 (.slice none 0 0) (.slice none 0 0)) := by rw [← hw2]; exact r1.out.alloc _
        clear hw2 c0 c1
        go_wp2_with fail
        refine (isSet_is HB.out cs w2 (HSi.out.below B2.out) (by unfold Fits; omega)).mono ?_
        rintro e w3 ⟨rfl, rfl⟩
        have d0 := r2.out.cell0
        have d1 := r2.out.cell1
        have g0 := r2.out.frozen 0
        have g1 := r2.out.frozen 1
        go_wp2
        exact bodyPost_ret (v := .tuple #[.agg #[.slice none 0 0, .slice none 0 0], .bool false]) (by simp [results, Tryd.results144, go_sem, d0, d1]) rfl
          ⟨_, by rw [HE.out.2.2], by rw [HE.out.1, HE.out.2.1]; exact ownArena_zero _ _ _, zero_stored B2.out (by omega)⟩
      · have hz : ((S.length : Int) == 0) = false := beq_eq_false_iff_ne.2 (by omega)
        have hS0 : 0 < S.length := by omega
        have hSl : S.length ≤ 256 := by
          have hq : (S.length : Int) ≤ (O.length : Int) := setB_len (Int.natCast_nonneg _) hB
          omega
        have HRises := Lib.hid (rises_of hB)
        have hlz : zss.length ≤ 256 := by rw [hP.2.2.1]; omega
        have HR := Lib.hid hr
        clear hB hr h0 hP
        go_enter Tryd.func144, Tryd.ntmps144
        go_wp2_with fail
        rw [← HW.out]
        refine HC.out.mono ?_
        rintro e w1 ⟨rfl, hb⟩
        have B1 := Lib.hid (BW.out.trans (hb.mono BW.out.size))
        have b1 := Lib.hid (bW.out.below hb)
        have r1 := Lib.hid (rW.out.below hb)
        clear hb
        have c0 := b1.out.cell0
        have c1 := b1.out.cell1
        go_wp2_with fail
        refine (size_is ao an O.length zss.length co cn w1 hlO).mono ?_
        rintro e w2 ⟨rfl, hw2⟩
        have B2 : Hid (Below w.heap.size w w2) := by rw [← hw2]; exact B1.out.alloc B1.out.size _
        have b2 : Hid (Box2 w2 w.heap.size 30 (.slice ao O.length co) (.slice an zss.length cn)) := by rw [← hw2]; exact b1.out.alloc _
        have r2 : Hid (Box2 w2 (w.heap.size + 1) 30 (.slice none 0 0) (.slice none 0 0)) := by rw [← hw2]; exact r1.out.alloc _
        clear hw2 c0 c1
        go_wp2_with fail
        refine (isSet_is HB.out cs w2 (HSi.out.below B2.out) (by unfold Fits; omega)).mono ?_
        rintro e w3 ⟨rfl, rfl⟩
        have hs2 : w.heap.size + 2 ≤ w2.heap.size := by have := r2.out.lt; omega
        have S0 : Hid (∃ vo vn V, Half3 w (w2.alloc (.cells #[.slice none 0 0, .slice none 0 0] 30)) w2.heap.size w.heap.size vo vn V (.slice ao O.length co) (.slice an zss.length cn) (inOK S O 0) (inNK S zss 0)) :=
          ⟨_, _, _, B2.out.alloc B2.out.size _, b2.out.alloc _, Box2.new _ _ _ _, OwnInts.nil _ _ _, OwnRows.nil _ _ _, fun i hi => absurd hi (by simp [inNK])⟩
        have R0 := Lib.hid (r2.out.alloc (.cells #[.slice none 0 0, .slice none 0 0] 30))
        go_wp2
        go_loopw [28] (fun i wr => ∃ k : Nat, k ≤ S.length ∧ i = .int .i64 k ∧ Hid (∃ vo vn V, Half3 w wr w2.heap.size w.heap.size vo vn V (.slice ao O.length co) (.slice an zss.length cn) (inOK S O k) (inNK S zss k)) ∧ Hid (Box2 wr (w.heap.size + 1) 30 (.slice none 0 0) (.slice none 0 0)) ∧ Hid (∀ i, i < k → 0 < (inRow S zss i).length)) (fun i _ => S.length - (intOf i).toNat)
        case atStart => exact ⟨0, Nat.zero_le _, rfl, S0, R0, fun i hi => absurd hi (Nat.not_lt_zero _)⟩
        case round =>
          clear S0 R0
          obtain ⟨k, hk, rfl, HS, HRr, HG⟩ := hrel
          by_cases hlt : k < S.length
          · obtain ⟨vo, vn, V, hh⟩ := HS.out
            have HH := Lib.hid hh
            clear hh
            obtain ⟨bs, offs, ha, hc⟩ := (HSi.out.below HH.out.below).cell (by omega)
            subst ha
            have hck := hc k hlt
            clear hc
            obtain ⟨h0, h1, _⟩ := setB_bounds HB.out hlt
            obtain ⟨v, hv⟩ : ∃ v : Nat, nth S k = v := ⟨(nth S k).toNat, by omega⟩
            have hvO : v < O.length := by omega
            have hvz : v < zss.length := by rw [HP.out.2.2.1]; exact hvO
            rw [hv] at hck
            have HV := Lib.hid hv
            clear h0 h1 hv
            have hl16 := (HP.out.2.2.2 v hvO).2.2.1
            have N1 := Lib.hid (HNi.out.below HH.out.below)
            obtain ⟨bn, offn, ha, hc⟩ := N1.out.cell (by omega)
            subst ha
            have hcn := hc v hvz
            clear hc
            have bc1 := HH.out.box.cell1
            have hrowE : Hid (places S (row zss v) (row zss v).length = inRow S zss k) := by unfold inRow Hid; rw [HV.out, Int.toNat_natCast]
            have HI := Lib.hid (indicesIn_is cs (C v) (HSi.out.below HH.out.below) HRises.out (N1.out.rows v hvz) (by omega))
            go_wp2_with fail
            refine HI.out.mono ?_
            rintro e w3 ⟨u, rfl, hu, hb⟩
            rw [hrowE.out] at hu
            obtain ⟨au, cu, hus, _, _⟩ := hu.shape
            subst hus
            have HU := Lib.hid hu
            have H3 := Lib.hid (HH.out.keep hb)
            have R3 := Lib.hid (HRr.out.below hb)
            have hsz3 := hb.size
            have HSZ := Lib.hid hb.size
            have hpl : (inRow S zss k).length ≤ (row zss v).length := by rw [← hrowE.out]; exact places_len _ _ _
            clear hu hb bc1 hcn hck
            by_cases h0 : (inRow S zss k).length = 0
            · have hno := inside_no (O := O) (zss := zss) (S := S) (fun hh => by have := hh.2.2.2 k hlt; omega)
              have HE : Hid (P = [] ∧ yss = [] ∧ r = false) := ⟨by rw [← HR.out.1, hno.1], by rw [← HR.out.2.1, hno.2.1], by rw [← HR.out.2.2, hno.2.2]⟩
              have hzz : (((inRow S zss k).length : Int) == 0) = true := by simp [h0]
              clear hno h0
              have d0 := R3.out.cell0
              have d1 := R3.out.cell1
              have g0 := R3.out.frozen 0
              have g1 := R3.out.frozen 1
              go_wp2
              exact bodyPost_ret (v := .tuple #[.agg #[.slice none 0 0, .slice none 0 0], .bool false]) (by simp [results, Tryd.results144, go_sem, d0, d1]) rfl
                ⟨_, by rw [HE.out.2.2], by rw [HE.out.1, HE.out.2.1]; exact ownArena_zero _ _ _, zero_stored H3.out.below (by omega)⟩
            · have hzz : (((inRow S zss k).length : Int) == 0) = false := beq_eq_false_iff_ne.2 (by omega)
              have HG' : Hid (∀ i, i < k + 1 → 0 < (inRow S zss i).length) := fun i hi => by
                by_cases e : i = k
                · subst e; omega
                · exact HG.out i (by omega)
              clear h0
              obtain ⟨a1, c1, hvs, _, _⟩ := HH.out.ints.shape
              rw [inOK_len] at hvs
              subst hvs
              obtain ⟨a2, c2, hvs, _, _⟩ := HH.out.rows.shape
              rw [inNK_len] at hvs
              subst hvs
              have hown := H3.out.ints.own
              rw [inOK_len] at hown
              have HOWN := Lib.hid (ownsRow_only hown (S := fun _ => False) (Only.of_below (Below.refl _ w3).drew) (fun _ _ h => h))
              clear hown
              have HD : Hid (Below w3.heap.size w3 w3.drew) := (Below.refl _ _).drew
              have H3d := Lib.hid (H3.out.keep HD.out)
              have I1 := Lib.hid (HOi.out.below H3.out.below)
              obtain ⟨bo, offo, ha, hc⟩ := I1.out.cell (by omega)
              subst ha
              have hco := hc v hvO
              have hfo := I1.out.fits v hvO
              have HFO := Lib.hid hfo
              clear hc hfo
              have hi1 : (v : Int) < O.length := by omega
              have bc0 := H3.out.box.cell0
              have tc0 := H3.out.str.cell0
              have tca := (H3d.out.str.alloc (.cells #[.int .i64 (nth O v)] 2)).cell0
              have hbw := H3.out.below.size
              have htl := H3.out.str.lt
              go_wp2
              go_region_law (refine step_append_lies _ (by rfl) _ _ _ (by rfl) w.heap.size 2 j0 (.int .i64 0) 1 8 Tryd.underlying27 hj hj0 hj1 hj2 rfl (by decide) (.slice a1 k c1) k ((inOK S O k).map (Value.int .i64)) (by rfl) (HOWN.out.alloc _) ⟨w3.heap.size, 0, none⟩ 1 1 [.int .i64 (nth O v)] (by rfl) (by rfl) (World.news_of_block (cs := #[.int .i64 (nth O v)]) (t := 2) (fr := (0, 0)) (heap_alloc_new w3.drew _)) (by simp [Value.oneCell']) (by omega) (by unfold maxLen; omega) (by omega) (by simp; omega) (w3.heap.size + 1) (by simp) ?_; intro g6 cap6 w6 hown6 hgrow6 hat6 hlt6; have hbx := ((H3d.out.str.alloc (.cells #[.int .i64 (nth O v)] 2))).grown (HOWN.out.alloc _) (by decide) hgrow6; have q3 := hbx.cell0; have p3 := hbx.frozen 0)
              all_goals (
                have h7 := (H3d.out.keep (below1 _ (.cells #[.int .i64 (nth O v)] 2))).owner (by omega) (by omega) (by rw [inOK_len]; omega) HFO.out (by rw [inOK_len]; exact hown6) hgrow6 (hat6.imp_right fun h => by simp; omega)
                have e7 : inOK S O k ++ [nth O v] = inOK S O (k + 1) := by rw [inOK_succ, HV.out, Int.toNat_natCast]
                rw [e7, inOK_len] at h7
                have hu7 := ((HU.out.below (HD.out.alloc HD.out.size (.cells #[.int .i64 (nth O v)] 2))).only (Only.of_grown hgrow6) (fun g h1 h2 => by have := HH.out.ints.top g h2; have := (HU.out.own.lt g h1).1; omega))
                have hu7' := hu7.only (Box2.set0_only (t := w2.heap.size) (.slice (some ⟨g6, 0, none⟩) (k + 1) cap6)) (fun g h1 e => hbx.not_own hu7.own (by decide) (by rw [h1, e]))
                have hr7 := (((R3.out.below HD.out).alloc (.cells #[.int .i64 (nth O v)] 2)).grown (HOWN.out.alloc _) (by decide) hgrow6).other (a := ⟨w2.heap.size, 0, none⟩) (by show w.heap.size + 1 ≠ w2.heap.size; omega) (.slice (some ⟨g6, 0, none⟩) (k + 1) cap6)
                obtain ⟨W7, hW7⟩ : ∃ W7, W7 = w6.setCell ⟨w2.heap.size, 0, none⟩ (.slice (some ⟨g6, 0, none⟩) (k + 1) cap6) := ⟨_, rfl⟩
                rw [← hW7] at h7 hu7' hr7 ⊢
                have hvu : ∀ g, (Value.slice au (inRow S zss k).length cu).ownBlock = some g → (Value.slice (some (⟨g6, 0, none⟩ : Addr)) (k + 1) cap6).ownBlock ≠ some g := fun g h1 h2 => by
                  have h3 := (HU.out.own.lt g h1).1
                  have h4 := HU.out.top g h1
                  simp [Value.ownBlock] at h2
                  subst h2
                  rcases hat6 with h | h
                  · have := HH.out.ints.top _ h; omega
                  · omega
                have hapu : ∀ i, i < (inNK S zss k).length → ∀ g, (Value.slice au (inRow S zss k).length cu).ownBlock = some g → (V i).ownBlock ≠ some g := fun i hi g h1 h2 => by
                  have h3 := (HU.out.own.lt g h1).1
                  have h4 := (HH.out.rows.rows i hi).top g h2
                  omega
                have H7 := Lib.hid h7
                have HU7 := Lib.hid hu7'
                have HR7 := Lib.hid hr7
                have HVU := Lib.hid hvu
                have HAPU := Lib.hid hapu
                have HW7 := Lib.hid hW7
                have hown7 := h7.rows.own
                rw [inNK_len] at hown7
                have HOWN7 := Lib.hid hown7
                have hsz7 : w.heap.size ≤ W7.heap.size := h7.below.size
                clear h7 e7 hu7 hu7' hr7 hvu hapu hown6 hgrow6 hat6 hbx hown7
                clear hW7 q3 p3 tc0 tca bc0 hco
                have t71 := H7.out.str.cell1
                have t7f := H7.out.str.frozen 1
                have hone : ∀ u ∈ [Value.slice au (inRow S zss k).length cu], u.oneCell' = true := by intro u hu; simp at hu; subst hu; rfl
                have HONE := Lib.hid hone
                clear hone
                go_wp2_with (at_builtin; refine wpList_append_lies _ rfl _ _ 28 rfl w.heap.size 27 i0 (.slice none 0 0) 1 24 Tryd.underlying28 hi hz0 hz1 hz2 rfl (by decide) _ _ _ rfl (HOWN7.out.alloc _) ⟨W7.heap.size, 0, none⟩ 1 1 [.slice au (inRow S zss k).length cu] rfl rfl (cell_one_new _ _ _) HONE.out (Nat.le_refl _) (by unfold maxLen; omega) (by omega) (by simp; omega) (W7.heap.size + 1) (by simp) ?_; intro g8 cap8 w8 hown8 hgrow8 hat8 hlt8; have hbx8 := (H7.out.str.alloc (.cells #[.slice au (inRow S zss k).length cu] 27)).grown (HOWN7.out.alloc _) (by decide) hgrow8; have q8 := hbx8.cell1; have p8 := hbx8.frozen 1)
                have h9 := (H7.out.keep (below1 _ (.cells #[.slice au (inRow S zss k).length cu] 27))).push (by omega) (by omega) (by rw [inNK_len]; omega) (HU7.out.below (below1 _ _)) HH.out.below.size HAPU.out HVU.out (by rw [inNK_len]; exact hown8) hgrow8
                rw [← inNK_succ, inNK_len] at h9
                have hr9 := ((HR7.out.alloc (.cells #[.slice au (inRow S zss k).length cu] 27)).grown (HOWN7.out.alloc _) (by decide) hgrow8).other (a := ⟨w2.heap.size, 1, none⟩) (by show w.heap.size + 1 ≠ w2.heap.size; omega) (.slice (some ⟨g8, 0, none⟩) (k + 1) cap8)
                have H9 : Hid (∃ vo vn V, Half3 w (w8.setCell ⟨w2.heap.size, 1, none⟩ (.slice (some ⟨g8, 0, none⟩) (k + 1) cap8)) w2.heap.size w.heap.size vo vn V (.slice (some ⟨bo, offo, none⟩) O.length co) (.slice (some ⟨bn, offn, none⟩) zss.length cn) (inOK S O (k + 1)) (inNK S zss (k + 1))) := ⟨_, _, _, h9⟩
                have HR9 := Lib.hid hr9
                clear h9 hr9 hown8 hgrow8 hat8 hbx8
                go_wp2
                go_roundw
                case rel => exact ⟨k + 1, by omega, by go_num, H9, HR9, HG'⟩
                case measure => simp [intOf]; omega)
          · have hkk : k = S.length := by omega
            obtain ⟨vo, vn, V, hh⟩ := HS.out
            rw [hkk] at hh
            have hyes := inside_yes (O := O) (zss := zss) (S := S) ⟨HP.out, HB.out, hS0, fun i hi => HG.out i (by omega)⟩
            have HE : Hid (P = inOK S O S.length ∧ yss = inNK S zss S.length ∧ r = true) := ⟨by rw [← HR.out.1, hyes.1], by rw [← HR.out.2.1, hyes.2.1], by rw [← HR.out.2.2, hyes.2.2]⟩
            obtain ⟨a1, c1, hvs, _, _⟩ := hh.ints.shape
            rw [inOK_len] at hvs
            subst hvs
            obtain ⟨a2, c2, hvs, _, _⟩ := hh.rows.shape
            rw [inNK_len] at hvs
            subst hvs
            have HH := Lib.hid hh
            clear hkk hyes hh
            have t0 := HH.out.str.cell0
            have t1 := HH.out.str.cell1
            have d0 := HRr.out.cell0
            have d1 := HRr.out.cell1
            have g0 := HRr.out.frozen 0
            have g1 := HRr.out.frozen 1
            go_wp2
            have hS1 : Only (fun b => b = w.heap.size + 1) wr ((wr.setCell ⟨w.heap.size + 1, 0, none⟩ (.slice a1 S.length c1)).setCell ⟨w.heap.size + 1, 1, none⟩ (.slice a2 S.length c2)) :=
              (Box2.set0_only _).trans (Box2.set1_only _)
            have hfin : GivesArenaB w P yss r (.returned (.tuple #[.agg #[.slice a1 S.length c1, .slice a2 S.length c2], .bool true])) ((wr.setCell ⟨w.heap.size + 1, 0, none⟩ (.slice a1 S.length c1)).setCell ⟨w.heap.size + 1, 1, none⟩ (.slice a2 S.length c2)) := by
              rw [HE.out.1, HE.out.2.1, HE.out.2.2]
              exact ⟨_, rfl, ⟨_, _, V, rfl, (HH.out.ints.only hS1 (fun g hg e => HRr.out.not_own HH.out.ints.own (by decide) (by rw [hg, e]))).retop, (HH.out.rows.only hS1 (fun g hg e => HRr.out.not_own HH.out.rows.own (by decide) (by rw [hg, e])) (fun k hk g hg e => HRr.out.not_own (HH.out.rows.rows k hk).own (by decide) (by rw [hg, e]))).retop, HH.out.apart⟩,
                (HH.out.below.setCell (by show w.heap.size ≤ w.heap.size + 1; omega) _).setCell (by show w.heap.size ≤ w.heap.size + 1; omega) _⟩
            exact bodyPost_ret (v := .tuple #[.agg #[.slice a1 S.length c1, .slice a2 S.length c2], .bool true]) (by simp [results, Tryd.results144, go_sem, d0, d1]) rfl hfin

end Go.Proofs.YtphkgnpkcfbnkaaDoor
namespace Go.Proofs.YtphkgnpkcfbnkaaDoor
section
open Go.RowKit

theorem arenaSize_is {w : World} {va : Value} {O : List Int} {zss : List (List Int)} (h : ArenaAt w va O zss) :
    Calls Tryd.prog 64 #[va] w fun e w' => e = .returned (.int .i64 O.length) ∧ Below w.heap.size w w' := by
  obtain ⟨ao, an, co, cn, A, C, rfl, h1, h2⟩ := h
  exact (size_is ao an O.length zss.length co cn w h1.len).mono fun e w' ⟨he, hw⟩ => ⟨he, hw ▸ below1 _ _⟩

theorem min_ok {P : List Int} (hz : 0 < P.length) : 0 ≤ minN P (P.length - 1) ↔ ∀ x ∈ P, 0 ≤ x := by
  constructor
  · intro h x hx
    obtain ⟨k, hk, rfl⟩ := mem_nth.1 hx
    have := minN_le (zs := P) (k := P.length - 1) (j := k) (by omega)
    omega
  · intro h
    obtain ⟨j, hj, e⟩ := minN_at (zs := P) (P.length - 1)
    rw [← e]; exact h _ (nth_mem (by omega))
theorem max_ok {P : List Int} (hz : 0 < P.length) : maxN P (P.length - 1) ≤ 40 ↔ ∀ x ∈ P, x ≤ 40 := by
  constructor
  · intro h x hx
    obtain ⟨k, hk, rfl⟩ := mem_nth.1 hx
    have := maxN_ge (zs := P) (k := P.length - 1) (j := k) (by omega)
    omega
  · intro h
    obtain ⟨j, hj, e⟩ := maxN_at (zs := P) (P.length - 1)
    rw [← e]; exact h _ (nth_mem (by omega))

set_option maxHeartbeats 4000000 in
set_option maxRecDepth 100000 in
theorem ParityOk_is {w : World} {v : Value} {O : List Int} {zss : List (List Int)} {P : List Int} {r : Bool} (hr : parityB O zss P = r) (h : GameAt w v O zss P) :
    Calls Tryd.prog 67 #[v] w fun e w' => e = .returned (.bool r) ∧ Below w.heap.size w w' := by
  obtain ⟨ao, an, ap, co, cn, cp, A, C, rfl, h1, h2, h3⟩ := h
  have hlO := h1.len
  have hlP := h3.len
  have HP := Lib.hid h3
  obtain ⟨w1, hw1⟩ : ∃ y, y = w.alloc (.cells #[.slice ao O.length co, .slice an zss.length cn, .slice ap P.length cp] 32) := ⟨_, rfl⟩
  have HW1 := Lib.hid hw1
  have B1 : Hid (Below w.heap.size w w1) := by rw [hw1]; exact below1 _ _
  have T1 : Hid (Box3 w1 w.heap.size 32 (.slice ao O.length co) (.slice an zss.length cn) (.slice ap P.length cp)) := by rw [hw1]; exact Box3.new _ _ _ _ _
  have HA : Hid (ArenaAt w (.agg #[.slice ao O.length co, .slice an zss.length cn]) O zss) := ⟨_, _, _, _, _, _, rfl, h1, h2⟩
  clear h1 h2 h3 hw1
  have t0 := T1.out.c0
  have t1 := T1.out.c1
  have t2 := T1.out.c2
  have hd1 : Below w1.heap.size w1 w1.drew := (Below.refl _ _).drew
  have B1d := Lib.hid (B1.out.trans (hd1.mono B1.out.size))
  have T1d := Lib.hid (T1.out.below hd1)
  clear hd1
  cases hA : arenaB O zss with
  | false =>
    have HE : Hid (r = false) := by rw [← hr]; simp [parityB, hA, Hid]
    have HC := Lib.hid (ArenaOk_at hA (HA.out.below B1d.out))
    clear hA hr
    go_enter Tryd.func67, Tryd.ntmps67
    go_wp2_with fail
    rw [← HW1.out]
    first
      | go_region_law (first
          | (go_simp; go_at_call 132; refine HC.out.mono ?_; rintro e w2 ⟨rfl, hb⟩; have B2 := Lib.hid (B1d.out.trans (hb.mono B1d.out.size)); clear hb))
      | fail
    all_goals (
      go_wp2
      go_ret
      exact ⟨by rw [HE.out]; rfl, B2.out⟩)
  | true =>
    have HAP := Lib.hid (arenaB_iff.1 hA)
    have HC := Lib.hid (ArenaOk_at hA (HA.out.below B1d.out))
    by_cases hl : P.length = O.length
    · have hn0 : 0 < P.length := by have := HAP.out.1; omega
      have hne : ((P.length : Int) != (O.length : Int)) = false := by simp; omega
      have HR : Hid (priosB P = r) := by rw [← hr]; simp [parityB, hA, hl, Hid]
      have hmn := min_ok hn0
      have hmx := max_ok hn0
      obtain ⟨mn, hmnE⟩ : ∃ m, minN P (P.length - 1) = m := ⟨_, rfl⟩
      obtain ⟨mx, hmxE⟩ : ∃ m, maxN P (P.length - 1) = m := ⟨_, rfl⟩
      rw [hmnE] at hmn
      rw [hmxE] at hmx
      have HMN := Lib.hid hmn
      have HMX := Lib.hid hmx
      have HMNE := Lib.hid hmnE
      have HMXE := Lib.hid hmxE
      have HL := Lib.hid hl
      have HN0 := Lib.hid hn0
      clear hA hr hl hmn hmx hmnE hmxE hn0
      go_enter Tryd.func67, Tryd.ntmps67
      go_wp2_with fail
      rw [← HW1.out]
      go_region_held3 (fun w' => w'.cell? ⟨w.heap.size, 0, none⟩ = some (.slice ao O.length co) ∧ w'.cell? ⟨w.heap.size, 1, none⟩ = some (.slice an zss.length cn) ∧ w'.cell? ⟨w.heap.size, 2, none⟩ = some (.slice ap P.length cp))
        (first
          | go_keep
          | exact ⟨e0, e1, e2⟩
          | exact ⟨f0, f1, f2⟩)
        (first
          | (go_at_call 132; refine HC.out.mono ?_; rintro e w2 ⟨rfl, hb⟩; have B2 := Lib.hid (B1d.out.trans (hb.mono B1d.out.size)); have T2 := Lib.hid (T1d.out.below hb); have e0 := T2.out.c0; have e1 := T2.out.c1; have e2 := T2.out.c2; clear hb)
          | (go_at_call 64; refine (arenaSize_is (HA.out.below B2.out)).mono ?_; rintro e w3 ⟨rfl, hb⟩; have B3 := Lib.hid (B2.out.trans (hb.mono B2.out.size)); have T3 := Lib.hid (T2.out.below hb); have f0 := T3.out.c0; have f1 := T3.out.c1; have f2 := T3.out.c2; clear hb))
      all_goals (
        clear e0 e1 e2 t0 t1 t2
        have HMinC := Lib.hid (Min_is cp HMNE.out (HP.out.below B3.out) HN0.out)
        have HMaxC := Lib.hid (fun W hb => Max_is (w := W) cp HMXE.out (HP.out.below hb) HN0.out)
        go_wp2_with fail
        refine HMinC.out.mono ?_
        rintro e w4 ⟨rfl, rfl⟩
        clear HMinC
        by_cases h0 : 0 ≤ mn
        · have HE : Hid (decide (mx ≤ 40) = r) := by
            rw [← HR.out]
            unfold priosB Hid
            rw [decide_eq_decide]
            constructor
            · intro h x hx; exact ⟨HMN.out.1 h0 x hx, HMX.out.1 h x hx⟩
            · intro h; exact HMX.out.2 fun x hx => (h x hx).2
          go_wp2_with fail
          refine (HMaxC.out _ B3.out).mono ?_
          rintro e w5 ⟨rfl, rfl⟩
          clear HMaxC
          go_wp2
          go_ret
          exact ⟨ret_bool HE.out, B3.out⟩
        · have HE : Hid (r = false) := by
            rw [← HR.out]
            unfold priosB Hid
            refine decide_eq_false fun h => h0 (HMN.out.2 fun x hx => (h x hx).1)
          have h1 : ¬ 0 ≤ mn := h0
          go_wp2
          go_ret
          exact ⟨by rw [HE.out]; rfl, B3.out⟩)
    · have hne : ((P.length : Int) != (O.length : Int)) = true := by simp; omega
      have HE : Hid (r = false) := by rw [← hr]; simp [parityB, hl, Hid]
      clear hA hr hl
      go_enter Tryd.func67, Tryd.ntmps67
      go_wp2_with fail
      rw [← HW1.out]
      go_region_held3 (fun w' => w'.cell? ⟨w.heap.size, 0, none⟩ = some (.slice ao O.length co) ∧ w'.cell? ⟨w.heap.size, 1, none⟩ = some (.slice an zss.length cn) ∧ w'.cell? ⟨w.heap.size, 2, none⟩ = some (.slice ap P.length cp))
        (first
          | go_keep
          | exact ⟨e0, e1, e2⟩
          | exact ⟨f0, f1, f2⟩)
        (first
          | (go_at_call 132; refine HC.out.mono ?_; rintro e w2 ⟨rfl, hb⟩; have B2 := Lib.hid (B1d.out.trans (hb.mono B1d.out.size)); have T2 := Lib.hid (T1d.out.below hb); have e0 := T2.out.c0; have e1 := T2.out.c1; have e2 := T2.out.c2; clear hb)
          | (go_at_call 64; refine (arenaSize_is (HA.out.below B2.out)).mono ?_; rintro e w3 ⟨rfl, hb⟩; have B3 := Lib.hid (B2.out.trans (hb.mono B2.out.size)); have T3 := Lib.hid (T2.out.below hb); have f0 := T3.out.c0; have f1 := T3.out.c1; have f2 := T3.out.c2; clear hb))
      all_goals (
        clear e0 e1 e2 t0 t1 t2
        go_wp2
        go_ret
        exact ⟨by rw [HE.out]; rfl, B3.out⟩)
end

section
open Go.RowKit

theorem pickP_nth {P S : List Int} {k : Nat} (h : k < S.length) : nth (pickP P S) k = nth P (nth S k).toNat := by
  unfold pickP
  rw [nth_eq (by simpa using h), List.getElem_map, nth_eq h]
theorem pickP_mem {P S : List Int} (hin : ∀ x ∈ S, ∃ u : Nat, x = (u : Int) ∧ u < P.length) : ∀ x ∈ pickP P S, x ∈ P := fun x hx => by
  obtain ⟨k, hk, e⟩ := mem_nth.1 hx
  rw [pickP_len] at hk
  rw [pickP_nth hk] at e
  obtain ⟨u, hu, hup⟩ := hin _ (nth_mem hk)
  rw [hu, Int.toNat_natCast] at e
  rw [← e]; exact nth_mem hup

set_option maxHeartbeats 8000000 in
set_option maxRecDepth 100000 in
theorem prios_is {w : World} {v : Value} {O : List Int} {zss : List (List Int)} {P In : List Int} {aI : Option Addr} (cI : Nat) (h : GameAt w v O zss P) (hI : IntsAt w aI In) (hin : ∀ x ∈ In, ∃ u : Nat, x = (u : Int) ∧ u < P.length) (hl : In.length ≤ 1048576) :
    Calls Tryd.prog 145 #[v, .slice aI In.length cI] w (GivesInts w (pickP P In)) := by
  obtain ⟨i0, hi, hz0, hz1, hz2⟩ := info_parts info_int
  obtain ⟨ao, an, ap, co, cn, cp, A, C, rfl, h1, h2, h3⟩ := h
  have hlP := h3.len
  have HP := Lib.hid h3
  have HI := Lib.hid hI
  have HIN := Lib.hid hin
  obtain ⟨w1, hw1⟩ : ∃ y, y = w.alloc (.cells #[.slice ao O.length co, .slice an zss.length cn, .slice ap P.length cp] 32) := ⟨_, rfl⟩
  have HW1 := Lib.hid hw1
  have B1 : Hid (Below w.heap.size w w1) := by rw [hw1]; exact below1 _ _
  have T1 : Hid (Box3 w1 w.heap.size 32 (.slice ao O.length co) (.slice an zss.length cn) (.slice ap P.length cp)) := by rw [hw1]; exact Box3.new _ _ _ _ _
  clear hw1 h1 h2 h3 hI hin
  go_enter Tryd.func145, Tryd.ntmps145
  go_wp2
  rw [← HW1.out]
  go_loopw [5, 10] (fun ov iv wr => ∃ k : Nat, k ≤ In.length ∧ iv = .int .i64 k ∧ Hid (wr.ownsRow w1.heap.size 2 1 ov (pickP P (In.take k)).length ((pickP P (In.take k)).map (Value.int .i64))) ∧ Hid (Below w1.heap.size w1 wr)) (fun _ iv _ => In.length - (intOf iv).toNat)
  case atStart => exact ⟨0, Nat.zero_le _, rfl, by simpa [pickP, Hid] using World.ownsRow_nil w1 w1.heap.size 2 1, Below.refl _ _⟩
  case round =>
    obtain ⟨k, hk, rfl, HO, HK⟩ := hrel
    have hfl : (pickP P (In.take k)).length ≤ k := by rw [pickP_len]; simp; omega
    by_cases hlt : k < In.length
    · have hi1 : (k : Int) < In.length := by omega
      have hk0 : (0 : Int) ≤ (k : Int) := by omega
      obtain ⟨u, hu, hup⟩ := HIN.out _ (nth_mem hlt)
      have BWr := Lib.hid (B1.out.trans (HK.out.mono B1.out.size))
      obtain ⟨ib, io, hia, hic⟩ := (HI.out.below BWr.out).cell (by omega)
      obtain ⟨pb, po, hpa, hpc⟩ := (HP.out.below BWr.out).cell (by omega)
      have i1 := hic k hlt
      have p1 := hpc u hup
      rw [hu] at i1
      have hu0 : (0 : Int) ≤ (u : Int) := by omega
      have hup1 : (u : Int) < P.length := by omega
      have t2 := (T1.out.below HK.out).c2
      obtain ⟨z, hz⟩ : ∃ z, z = nth P u := ⟨_, rfl⟩
      have hst := pickP_take (P := P) hlt
      rw [hu, Int.toNat_natCast, ← hz] at hst
      rw [← hz] at p1
      subst hia
      subst hpa
      have HST := Lib.hid hst
      have hksz := HK.out.size
      clear hic hpc hst hu hz
      go_wp2_with (at_builtin; refine wpList_append_own_at _ rfl _ _ 27 rfl w1.heap.size 2 i0 (.int .i64 0) 1 8 Tryd.underlying27 hi hz0 hz1 hz2 rfl (by decide) _ _ _ rfl (HO.out.alloc _) ⟨wr.heap.size, 0, none⟩ 1 1 [.int .i64 z] rfl rfl ?c1 ?c2 ?c3 ?c4 ?c5 ?_)
      try (case c1 => exact cell_one_new _ _ _)
      case c2 => first | rfl | (intro u hu; simp at hu; subst hu; rfl)
      case c3 => unfold maxLen; omega
      case c4 => omega
      case c5 => simp; omega
      intro v' w4 hown hgrow _ _
      have hg : Only (fun b => w1.heap.size ≤ b) wr w4 := (Only.of_below (below1 wr _)).trans ((Only.of_grown hgrow).mono fun b hb => (HO.out.lt b hb).1)
      have Kn := Lib.hid (HK.out.trans (hg.below HK.out.size (fun _ h => h)))
      have HOn : Hid (w4.ownsRow w1.heap.size 2 1 v' (pickP P (In.take (k + 1))).length ((pickP P (In.take (k + 1))).map (Value.int .i64))) := by
        rw [HST.out, List.map_append, List.length_append]; exact hown
      clear hown hgrow hg
      go_wp2
      go_roundw
      case rel => exact ⟨k + 1, by omega, by go_num, HOn, Kn⟩
      case measure => simp [intOf]; omega
    · have hi1 : ¬ (k : Int) < In.length := by omega
      have hkk : k = In.length := by omega
      rw [hkk, List.take_length] at HO
      have hfin := Lib.hid (And.intro ((OwnInts.mk' (zs := pickP P In) HO.out (by rw [pickP_len]; omega) (fun j hj => by
        obtain ⟨i, hi, e⟩ := mem_nth.1 (pickP_mem HIN.out _ (nth_mem hj))
        rw [← e]; exact HP.out.fits i hi)).base (B' := w.heap.size) B1.out.size) (B1.out.trans (HK.out.mono B1.out.size)))
      clear hkk HO
      go_wp2
      go_ret
      exact ⟨_, rfl, hfin.out⟩

end

section
open Go.RowKit

end

section
open Go.RowKit

set_option maxHeartbeats 8000000 in
set_option maxRecDepth 100000 in
theorem SubgameOf_is {w : World} {v : Value} {O rO P rP S : List Int} {zss rN : List (List Int)} {aS : Option Addr} {r : Bool} (cS : Nat) (hr : subO O zss P S = rO ∧ subN O zss P S = rN ∧ subP O zss P S = rP ∧ subB O zss P S = r) (h : GameAt w v O zss P) (hS : IntsAt w aS S) :
    Calls Tryd.prog 84 #[v, .slice aS S.length cS] w (GivesGameB w rO rN rP r) := by
  have HGm := Lib.hid h
  have HSi := Lib.hid hS
  have hlS := hS.len
  obtain ⟨ao, an, ap, co, cn, cp, A, C, rfl, h1, h2, h3⟩ := h
  obtain ⟨w1, hw1⟩ : ∃ y, y = (w.alloc (.cells #[.slice ao O.length co, .slice an zss.length cn, .slice ap P.length cp] 32)).alloc (.cells #[.slice none 0 0, .slice none 0 0, .slice none 0 0] 32) := ⟨_, rfl⟩
  have HW1 := Lib.hid hw1
  have B1 : Hid (Below w.heap.size w w1) := by rw [hw1]; exact below2 _ _ _
  have hs1 : w1.heap.size = w.heap.size + 1 + 1 := by rw [hw1]; simp
  have HS1 := Lib.hid hs1
  have T1 : Hid (Box3 w1 w.heap.size 32 (.slice ao O.length co) (.slice an zss.length cn) (.slice ap P.length cp)) := by rw [hw1]; exact (Box3.new w _ _ _ _).below (below1 _ _)
  have R1 : Hid (Box3 w1 (w.heap.size + 1) 32 (.slice none 0 0) (.slice none 0 0) (.slice none 0 0)) := by rw [hw1]; exact Box3.new2 (by simp) _ _ _ _
  have HAt : Hid (ArenaAt w (.agg #[.slice ao O.length co, .slice an zss.length cn]) O zss) := ⟨_, _, _, _, _, _, rfl, h1, h2⟩
  have HPi := Lib.hid h3
  clear hw1 h1 h2 h3 hs1 hS
  obtain ⟨iO, hiO⟩ : ∃ x, insideO O zss S = x := ⟨_, rfl⟩
  obtain ⟨iN, hiN⟩ : ∃ x, insideN O zss S = x := ⟨_, rfl⟩
  have HIO := Lib.hid hiO
  have HIN := Lib.hid hiN
  cases hp : parityB O zss P with
  | false =>
    have HE := Lib.hid (sub_no hr (by unfold subB; rw [hp]; rfl))
    have HC := Lib.hid (ParityOk_is hp (HGm.out.below B1.out))
    clear hr hiO hiN hp
    go_enter Tryd.func84, Tryd.ntmps84
    go_wp2_with fail
    rw [← HW1.out]
    refine HC.out.mono ?_
    rintro e w2 ⟨rfl, hb⟩
    have B2 := Lib.hid (B1.out.trans (hb.mono B1.out.size))
    have R2 := Lib.hid (R1.out.below hb)
    have d0 := R2.out.c0
    have d1 := R2.out.c1
    have d2 := R2.out.c2
    have g0 := World.rowIs.frozen R2.out 0
    have g1 := World.rowIs.frozen R2.out 1
    have g2 := World.rowIs.frozen R2.out 2
    clear hb HC
    go_wp2
    exact bodyPost_ret (v := .tuple #[.agg #[.slice none 0 0, .slice none 0 0, .slice none 0 0], .bool false]) (by simp [results, Tryd.results84, go_sem, d0, d1, d2]) rfl
      ⟨_, by rw [HE.out.2.2.2], by rw [HE.out.1, HE.out.2.1, HE.out.2.2.1]; exact OwnGame.zero _ _ _, zero_stored3 B2.out (by omega)⟩
  | true =>
    have HC := Lib.hid (ParityOk_is hp (HGm.out.below B1.out))
    cases hi : insideB O zss S with
    | false =>
      have HE := Lib.hid (sub_no hr (by unfold subB; rw [hi]; simp))
      have HI := Lib.hid (And.intro HIO.out (And.intro HIN.out hi))
      clear hr hiO hiN hp hi
      go_enter Tryd.func84, Tryd.ntmps84
      go_wp2_with fail
      rw [← HW1.out]
      refine HC.out.mono ?_
      rintro e w2 ⟨rfl, hb⟩
      have B2 := Lib.hid (B1.out.trans (hb.mono B1.out.size))
      have R2 := Lib.hid (R1.out.below hb)
      have T2 := Lib.hid (T1.out.below hb)
      have t0 := T2.out.c0
      have t1 := T2.out.c1
      clear hb HC
      go_wp2_with fail
      refine (InsideOf_is cS HI.out (HAt.out.below B2.out) (HSi.out.below B2.out)).mono ?_
      rintro e w3 ⟨x, rfl, hx, hb⟩
      obtain ⟨a1, e1, a2, e2, V, rfl, x1, x2, x3⟩ := hx.shape3
      have hb3 := hb.trans ((below1 w3 (.cells #[.slice a1 iO.length e1, .slice a2 iN.length e2] 30)).mono hb.size)
      have B3 := Lib.hid (B2.out.trans (hb3.mono B2.out.size))
      have R3 := Lib.hid (R2.out.below hb3)
      have d0 := R3.out.c0
      have d1 := R3.out.c1
      have d2 := R3.out.c2
      have g0 := World.rowIs.frozen R3.out 0
      have g1 := World.rowIs.frozen R3.out 1
      have g2 := World.rowIs.frozen R3.out 2
      clear hx hb x1 x2 x3 hb3 t0 t1
      go_wp2
      exact bodyPost_ret (v := .tuple #[.agg #[.slice none 0 0, .slice none 0 0, .slice none 0 0], .bool false]) (by simp [results, Tryd.results84, go_sem, d0, d1, d2]) rfl
        ⟨_, by rw [HE.out.2.2.2], by rw [HE.out.1, HE.out.2.1, HE.out.2.2.1]; exact OwnGame.zero _ _ _, zero_stored3 B3.out (by omega)⟩
    | true =>
      have hPy := parityB_iff.1 hp
      have hiP : InsideP O zss S := by simpa [insideB] using hi
      have hlP : P.length ≤ 256 := by have := hPy.1.2.1; have := hPy.2.1; omega
      have HSB : Hid (∀ x ∈ S, ∃ u : Nat, x = (u : Int) ∧ u < P.length) := fun x hx => by
        obtain ⟨i, hi', rfl⟩ := mem_nth.1 hx
        obtain ⟨h0, h1, _⟩ := setB_bounds hiP.2.1 hi'
        have := hPy.2.1
        exact ⟨(nth S i).toNat, by omega, by omega⟩
      have hlS2 : S.length ≤ 256 := by
        have h := setB_len (Int.natCast_nonneg _) hiP.2.1
        have := hPy.1.2.1
        omega
      have HE := Lib.hid (sub_yes hr (by unfold subB; rw [hp, hi]; rfl))
      have HI := Lib.hid (And.intro HIO.out (And.intro HIN.out hi))
      clear hr hi hiO hiN hp hPy hiP
      go_enter Tryd.func84, Tryd.ntmps84
      go_wp2_with fail
      rw [← HW1.out]
      refine HC.out.mono ?_
      rintro e w2 ⟨rfl, hb⟩
      have B2 := Lib.hid (B1.out.trans (hb.mono B1.out.size))
      have R2 := Lib.hid (R1.out.below hb)
      have T2 := Lib.hid (T1.out.below hb)
      have K2 : Hid (w1.heap.size ≤ w2.heap.size) := hb.size
      have t0 := T2.out.c0
      have t1 := T2.out.c1
      clear hb HC
      go_wp2_with fail
      refine (InsideOf_is cS HI.out (HAt.out.below B2.out) (HSi.out.below B2.out)).mono ?_
      rintro e w3 ⟨x, rfl, hx, hb⟩
      obtain ⟨a1, e1, a2, e2, V, rfl, x1, x2, x3⟩ := hx.shape3
      have X3 := Lib.hid hx
      obtain ⟨w4, hw4⟩ : ∃ y, y = w3.alloc (.cells #[.slice a1 iO.length e1, .slice a2 iN.length e2] 30) := ⟨_, rfl⟩
      have HW4 := Lib.hid hw4
      have hb34 : Below w3.heap.size w3 w4 := by rw [hw4]; exact below1 w3 _
      have hb4 : Below w2.heap.size w2 w4 := hb.trans (hb34.mono hb.size)
      have A4 : Hid (Box2 w4 w3.heap.size 30 (.slice a1 iO.length e1) (.slice a2 iN.length e2)) := by rw [hw4]; exact Box2.new _ _ _ _
      have L4 := Lib.hid hb34
      have hs23 : w2.heap.size ≤ w3.heap.size := hb.size
      have hs34 : w3.heap.size ≤ w4.heap.size := hb34.size
      have B4 := Lib.hid (B2.out.trans (hb4.mono B2.out.size))
      have R4 := Lib.hid (R2.out.below hb4)
      have T4 := Lib.hid (T2.out.below hb4)
      clear hx hb x1 x2 x3 hb34 hb4 hw4 t0 t1
      go_wp2
      rw [← HW4.out]
      have t0 := T4.out.c0
      have t1 := T4.out.c1
      have t2 := T4.out.c2
      have s0 := A4.out.cell0
      have s1 := A4.out.cell1
      have hd4 : Below w4.heap.size w4 w4.drew := (Below.refl _ _).drew
      have HD4 := Lib.hid hd4
      have B5 := Lib.hid (B4.out.trans (hd4.mono B4.out.size))
      clear hd4
      have hne1 : w3.heap.size ≠ w.heap.size + 1 := by have := HS1.out; have := K2.out; omega
      have hne2 : w.heap.size + 1 ≠ w3.heap.size := fun e => hne1 e.symm
      go_region_held3 (fun w' => w'.cell? ⟨w.heap.size, 0, none⟩ = some (.slice ao O.length co) ∧ w'.cell? ⟨w.heap.size, 1, none⟩ = some (.slice an zss.length cn) ∧ w'.cell? ⟨w.heap.size, 2, none⟩ = some (.slice ap P.length cp) ∧ w'.cell? ⟨w3.heap.size, 0, none⟩ = some (.slice a1 iO.length e1) ∧ w'.cell? ⟨w3.heap.size, 1, none⟩ = some (.slice a2 iN.length e2))
        (first
          | go_keep
          | exact ⟨q0, q1, q2, q3, q4⟩
          | (refine ⟨?_, ?_, ?_, ?_, ?_⟩ <;> go_keep))
        (first
          | (go_at_call 145; refine (prios_is cS (HGm.out.below B5.out) (HSi.out.below B5.out) HSB.out (by omega)).mono ?_; rintro e w6 ⟨y, rfl, hy, hb⟩; obtain ⟨ya, yc, hys, _, _⟩ := hy.shape; rw [pickP_len] at hys; subst hys; have Y6 := Lib.hid hy; have K6 := Lib.hid (HD4.out.trans (hb.mono HD4.out.size)); have B6 := Lib.hid (B4.out.trans (K6.out.mono B4.out.size)); have R6 := Lib.hid (R4.out.below K6.out); have q0 := (T4.out.below K6.out).c0; have q1 := (T4.out.below K6.out).c1; have q2 := (T4.out.below K6.out).c2; have q3 := (A4.out.below K6.out).cell0; have q4 := (A4.out.below K6.out).cell1; have d0 := R6.out.c0; have d1 := R6.out.c1; have d2 := R6.out.c2; have g0 := World.rowIs.frozen R6.out 0; have g1 := World.rowIs.frozen R6.out 1; have g2 := World.rowIs.frozen R6.out 2; clear hy hb))
      all_goals (
        have hgame : OwnGame w6 w2.heap.size w6.heap.size (.agg #[.slice a1 iO.length e1, .slice a2 iN.length e2, .slice ya S.length yc]) iO iN (pickP P S) :=
          OwnGame.of_parts (M := w4.heap.size) (((X3.out.below L4.out).below K6.out).top34 hs34) (Y6.out.base (Nat.le_refl _)) (by omega) K6.out.size
        have hst := game_stored (w := w) (wr := w6) (t := w.heap.size + 1) (n := w2.heap.size) R6.out hgame (by have := B2.out.size; omega) (by omega) (by have := HS1.out; have := K2.out; omega) B6.out
        have HST := Lib.hid hst
        have u0 := hst.2.2.c0
        have u1 := hst.2.2.c1
        have u2 := hst.2.2.c2
        clear hst hgame
        go_wp2
        exact bodyPost_ret (v := .tuple #[.agg #[.slice a1 iO.length e1, .slice a2 iN.length e2, .slice ya S.length yc], .bool true]) (by simp [results, Tryd.results84, go_sem, u0, u1, u2]) rfl
          ⟨_, by rw [HE.out.2.2.2], by rw [HE.out.1, HE.out.2.1, HE.out.2.2.1, HIO.out, HIN.out]; exact HST.out.1, HST.out.2.1⟩)
end

section
open Go.RowKit

end

end Go.Proofs.YtphkgnpkcfbnkaaDoor
namespace Go.Proofs.YtphkgnpkcfbnkaaDoor
section
open Go.RowKit Go.Shelf

theorem own_marked {W : World} {B C : Nat} {v : Value} {I : Nat → Bool} (hu : W.ownsRow C 2 1 v (markedK I 256).length ((markedK I 256).map (Value.int .i64))) (hB : B ≤ C) : OwnInts W B W.heap.size v (markedK I 256) :=
  ⟨ownsRow_base hu hB, fun g hg => (hu.lt g hg).2, by have := markedK_len I 256; omega, markedK_fits I 256 (by omega)⟩

end
end Go.Proofs.YtphkgnpkcfbnkaaDoor
namespace Go.Proofs.YtphkgnpkcfbnkaaDoor
section
open Go.RowKit Go.Shelf
attribute [local go_sem] Oper.semAt_some

set_option linter.unusedSimpArgs false in
set_option maxHeartbeats 16000000 in
set_option maxRecDepth 100000 in
theorem wonIn_is {w : World} {v : Value} {O P In X Y : List Int} {zss : List (List Int)} {aI : Option Addr} (hT : TabW w) (cI : Nat) (hr : wonInL O zss P In 0 = X ∧ wonInL O zss P In 1 = Y) (h : GameAt w v O zss P) (hI : IntsAt w aI In) :
    Calls Tryd.prog 30 #[v, .slice aI In.length cI] w (GivesWonIn w X Y) := by
  have HT := Lib.hid hT
  have HGm := Lib.hid h
  have HIi := Lib.hid hI
  obtain ⟨ao, an, ap, co, cn, cp, A, C, rfl, h1, h2, h3⟩ := h
  obtain ⟨w1, hw1⟩ : ∃ y, y = w.alloc (.cells #[.slice ao O.length co, .slice an zss.length cn, .slice ap P.length cp] 32) := ⟨_, rfl⟩
  have HW1 := Lib.hid hw1
  have B1 : Hid (Below w.heap.size w w1) := by rw [hw1]; exact below1 _ _
  have T1 : Hid (Box3 w1 w.heap.size 32 (.slice ao O.length co) (.slice an zss.length cn) (.slice ap P.length cp)) := by rw [hw1]; exact Box3.new _ _ _ _ _
  clear hw1 h1 h2 h3 hT hI
  have HC := Lib.hid (SubgameOf_is cI ⟨rfl, rfl, rfl, rfl⟩ (HGm.out.below B1.out) (HIi.out.below B1.out))
  have c0 := T1.out.c0
  have c1 := T1.out.c1
  have c2 := T1.out.c2
  cases hs : subB O zss P In with
  | false =>
    have HE := Lib.hid (wonIn_no hr hs)
    rw [hs] at HC
    clear hr hs
    go_enter Tryd.func30, Tryd.ntmps30
    go_wp2_with fail
    rw [← HW1.out]
    refine HC.out.mono ?_
    rintro e w2 ⟨x, rfl, hx, hb⟩
    obtain ⟨a0, k0, a1, k1, a2, k2, V, rfl, _⟩ := hx.shape3
    have B2 := Lib.hid (B1.out.trans (hb.mono B1.out.size))
    have B3 : Hid (Below w.heap.size w (w2.alloc (.cells #[.slice a0 (subO O zss P In).length k0, .slice a1 (subN O zss P In).length k1, .slice a2 (subP O zss P In).length k2] 32))) := B2.out.alloc B2.out.size _
    clear hx hb HC c0 c1 c2
    go_wp2
    go_ret2
    rw [HE.out.1, HE.out.2]
    exact ⟨_, _, rfl, OwnInts.nil _ _ _, OwnInts.nil _ _ _, fun g hg => by simp [Value.ownBlock] at hg, B3.out⟩
  | true =>
    obtain ⟨hp, hpw, hmem, htot, hlen⟩ := sub_parts hs
    have HX : Hid (X = markedK (outB zss O (nth P) (ofL In) 0) 256 ∧ Y = markedK (outB zss O (nth P) (ofL In) 1) 256) := by
      rw [wonIn_list hs, wonIn_list hs]; exact wonIn_yes hr hs
    have HP := Lib.hid hp
    have hn := (parityB_iff.1 hp).1.2.1
    have HTO := Lib.hid htot
    have HME := Lib.hid hmem
    have hil : In.length ≤ 1048576 := by omega
    rw [hs] at HC
    clear hr hs hp hpw hmem htot
    go_enter Tryd.func30, Tryd.ntmps30
    go_wp2_with fail
    rw [← HW1.out]
    refine HC.out.mono ?_
    rintro e w2 ⟨x, rfl, hx, hb⟩
    obtain ⟨a0, k0, a1, k1, a2, k2, V, rfl, _⟩ := hx.shape3
    have B2 := Lib.hid (B1.out.trans (hb.mono B1.out.size))
    have T2 := Lib.hid (T1.out.below hb)
    clear hx hb HC c0 c1 c2
    obtain ⟨w3, hw3⟩ : ∃ y, y = w2.alloc (.cells #[.slice a0 (subO O zss P In).length k0, .slice a1 (subN O zss P In).length k1, .slice a2 (subP O zss P In).length k2] 32) := ⟨_, rfl⟩
    have HW3 := Lib.hid hw3
    have hb3 : Below w2.heap.size w2 w3 := by rw [hw3]; exact below1 _ _
    have B3 := Lib.hid (B2.out.trans (hb3.mono B2.out.size))
    have T3 := Lib.hid (T2.out.below hb3)
    have c0 := T3.out.c0
    have c1 := T3.out.c1
    have c2 := T3.out.c2
    rw [hw3] at c0 c1 c2
    clear hw3 hb3
    go_wp2_with fail
    rw [← HW3.out]
    refine (newRecursion_is (OutQ zss O (nth P)) (HT.out.below B3.out) (HGm.out.below B3.out) HP.out).mono ?_
    rintro e w4 ⟨b, nb, pb, kb, rfl, hR, hFn, hFp, hM, hge, hb⟩
    have B4 := Lib.hid (B3.out.trans (hb.mono B3.out.size))
    have HR4 := Lib.hid hR
    have HM4 := Lib.hid hM
    have hsz := B3.out.size
    clear hb hR hFn hFp hM c0 c1 c2
    go_wp2_with fail
    refine (maskOf_is cI (HIi.out.below B4.out) (fun x hx => by
      obtain ⟨u, hu, hun⟩ := HME.out x hx
      exact ⟨u, hu, by omega⟩) hil).mono ?_
    rintro e w4a ⟨rfl, hb⟩
    have B4a := Lib.hid (B4.out.trans (hb.mono B4.out.size))
    have HR5 := Lib.hid (HR4.out.below hb)
    have HM5 := Lib.hid (HM4.out.below hb)
    have hs4a := hb.size
    clear hb
    go_wp2_with fail
    refine (solve_is (gameE_of HP.out) (levE_of HP.out) _ (ofL In) (Nat.lt_succ_self _) (fun x hx => by
      obtain ⟨u, hu, hun⟩ := HME.out x (ofL_iff.1 hx)
      have := Int.natCast_inj.1 hu
      omega) HTO.out w4a (HT.out.below B4a.out) HR5.out HM5.out).mono ?_
    rintro e w5 ⟨rfl, ho, _⟩
    have B5 : Hid (Below w.heap.size w w5) := ((Only.of_below (S := fun k => w.heap.size ≤ k) B4a.out).trans (ho.mono fun k hk => by have := B4a.out.size; omega)).below (Nat.le_refl _) (fun k h => h)
    clear ho hge
    go_upto_region 5 with fail
    obtain ⟨w6, hw6⟩ : ∃ y, y = w5.alloc (.cells (wordsA (outB zss O (nth P) (ofL In) 0) (outB zss O (nth P) (ofL In) 1)) 83) := ⟨_, rfl⟩
    have hw6' := hw6
    simp only [wordsA] at hw6'
    try rw [← hw6']
    have B6 : Hid (Below w.heap.size w w6) := by rw [hw6]; exact B5.out.trans ((below1 _ _).mono B5.out.size)
    have O6 : Hid (OutAt w6 w5.heap.size (outB zss O (nth P) (ofL In) 0) (outB zss O (nth P) (ofL In) 1)) := by rw [hw6]; exact heap_alloc_new _ _
    clear hw6 hw6'
    have HSw : Hid (∀ W', Below w6.heap.size w6 W' → W'.cell? ⟨w5.heap.size, 0, none⟩ = some (.int .u64 (maskW (outB zss O (nth P) (ofL In) 0) 0)) ∧ W'.cell? ⟨w5.heap.size, 1, none⟩ = some (.int .u64 (maskW (outB zss O (nth P) (ofL In) 0) 1)) ∧ W'.cell? ⟨w5.heap.size, 2, none⟩ = some (.int .u64 (maskW (outB zss O (nth P) (ofL In) 0) 2)) ∧ W'.cell? ⟨w5.heap.size, 3, none⟩ = some (.int .u64 (maskW (outB zss O (nth P) (ofL In) 0) 3)) ∧ W'.cell? ⟨w5.heap.size, 4, none⟩ = some (.int .u64 (maskW (outB zss O (nth P) (ofL In) 1) 0)) ∧ W'.cell? ⟨w5.heap.size, 5, none⟩ = some (.int .u64 (maskW (outB zss O (nth P) (ofL In) 1) 1)) ∧ W'.cell? ⟨w5.heap.size, 6, none⟩ = some (.int .u64 (maskW (outB zss O (nth P) (ofL In) 1) 2)) ∧ W'.cell? ⟨w5.heap.size, 7, none⟩ = some (.int .u64 (maskW (outB zss O (nth P) (ofL In) 1) 3))) := fun W' hb => by
      have o := O6.out.below hb
      exact ⟨o.c0, o.c1, o.c2, o.c3, o.c4, o.c5, o.c6, o.c7⟩
    have Kd : Hid (Below w6.heap.size w6 w6.drew) := (Below.refl _ _).drew
    refine wp_region_M (S := (fun W' => W'.cell? ⟨w5.heap.size, 0, none⟩ = some (.int .u64 (maskW (outB zss O (nth P) (ofL In) 0) 0)) ∧ W'.cell? ⟨w5.heap.size, 1, none⟩ = some (.int .u64 (maskW (outB zss O (nth P) (ofL In) 0) 1)) ∧ W'.cell? ⟨w5.heap.size, 2, none⟩ = some (.int .u64 (maskW (outB zss O (nth P) (ofL In) 0) 2)) ∧ W'.cell? ⟨w5.heap.size, 3, none⟩ = some (.int .u64 (maskW (outB zss O (nth P) (ofL In) 0) 3)) ∧ W'.cell? ⟨w5.heap.size, 4, none⟩ = some (.int .u64 (maskW (outB zss O (nth P) (ofL In) 1) 0)) ∧ W'.cell? ⟨w5.heap.size, 5, none⟩ = some (.int .u64 (maskW (outB zss O (nth P) (ofL In) 1) 1)) ∧ W'.cell? ⟨w5.heap.size, 6, none⟩ = some (.int .u64 (maskW (outB zss O (nth P) (ofL In) 1) 2)) ∧ W'.cell? ⟨w5.heap.size, 7, none⟩ = some (.int .u64 (maskW (outB zss O (nth P) (ofL In) 1) 3)))) (m := 8) (by kernel_rfl) (HSw.out _ Kd.out) (fun hHeld => ?_)
    refine wpAnyM_take (i := 0) (v := ?vm1) rfl (by kernel_rfl) (by decide) (by kernel_rfl) (by kernel_rfl) (by kernel_rfl) (fun _ _ _ h => h) (Or.inl ⟨by rfl, ?hm1⟩) (by assumption) ?_
    case hm1 => (intro w hSw; (try dsimp only at hSw); go_simp; first | done | with_reducible rfl)
    try simp only [Act.put, List.setIfInBounds_toArray, List.set_cons_zero, List.set_cons_succ]
    refine wpAnyM_take (i := 1) (v := ?vm2) rfl (by kernel_rfl) (by decide) (by kernel_rfl) (by kernel_rfl) (by kernel_rfl) (fun _ _ _ h => h) (Or.inl ⟨by rfl, ?hm2⟩) (by assumption) ?_
    case hm2 => (intro w hSw; (try dsimp only at hSw); go_simp; first | done | with_reducible rfl)
    try simp only [Act.put, List.setIfInBounds_toArray, List.set_cons_zero, List.set_cons_succ]
    refine wpAnyM_take (i := 3) (v := ?vm3) rfl (by kernel_rfl) (by decide) (by kernel_rfl) (by kernel_rfl) (by kernel_rfl) (fun _ _ _ h => h) (Or.inl ⟨by rfl, ?hm3⟩) (by assumption) ?_
    case hm3 => (intro w hSw; (try dsimp only at hSw); go_simp; first | done | with_reducible rfl)
    try simp only [Act.put, List.setIfInBounds_toArray, List.set_cons_zero, List.set_cons_succ]
    refine wpAnyM_take (i := 4) (v := ?vm4) rfl (by kernel_rfl) (by decide) (by kernel_rfl) (by kernel_rfl) (by kernel_rfl) (fun _ _ _ h => h) (Or.inl ⟨by rfl, ?hm4⟩) (by assumption) ?_
    case hm4 => (intro w hSw; (try dsimp only at hSw); go_simp; first | done | with_reducible rfl)
    try simp only [Act.put, List.setIfInBounds_toArray, List.set_cons_zero, List.set_cons_succ]
    refine wpAnyM_one (i := 2) (by kernel_rfl) rfl (fun K hK => ?_)
    go_simp
    go_at_call 71
    refine (list_is (I := outB zss O (nth P) (ofL In) 0) (HT.out.below (B6.out.trans (Kd.out.mono B6.out.size)))).mono ?_
    rintro e wa ⟨u, rfl, hu, hb⟩
    have Ka := Lib.hid (Kd.out.trans (hb.mono Kd.out.size))
    have HU := Lib.hid (own_marked hu (Nat.le_refl _))
    clear hb hu
    go_wp2_with fail
    refine hK.out _ _ (fun _ => HSw.out _ Ka.out) (fun hHeld => ?_)
    have hHeld := hHeld (by decide)
    clear hK K
    try simp only [Act.put, List.setIfInBounds_toArray, List.set_cons_zero, List.set_cons_succ]
    refine wpAnyM_one (i := 5) (by kernel_rfl) rfl (fun K hK => ?_)
    go_simp
    go_at_call 71
    refine (list_is (I := outB zss O (nth P) (ofL In) 1) (HT.out.below (B6.out.trans (Ka.out.mono B6.out.size)))).mono ?_
    rintro e wb ⟨v, rfl, hv, hb⟩
    have Kb := Lib.hid (Ka.out.trans (hb.mono Ka.out.size))
    have HV := Lib.hid (own_marked hv (Nat.le_refl _))
    have HUb := Lib.hid (HU.out.below hb)
    have hsab := hb.size
    clear hb hv
    go_wp2_with fail
    refine hK.out _ _ (fun _ => HSw.out _ Kb.out) (fun hHeld => ?_)
    have hHeld := hHeld (by decide)
    clear hK K
    try simp only [Act.put, List.setIfInBounds_toArray, List.set_cons_zero, List.set_cons_succ]
    refine wpAnyM_one (i := 6) (by kernel_rfl) rfl (fun K hK => ?_)
    go_simp
    refine hK.out _ _ (fun _ => HSw.out _ Kb.out) (fun hHeld => ?_)
    have hHeld := hHeld (by decide)
    clear hK K
    try simp only [Act.put, List.setIfInBounds_toArray, List.set_cons_zero, List.set_cons_succ]
    refine wpAnyM_one (i := 7) (by kernel_rfl) rfl (fun K hK => ?_)
    go_simp
    refine hK.out _ _ (fun _ => HSw.out _ Kb.out) (fun hHeld => ?_)
    have hHeld := hHeld (by decide)
    clear hK K
    try simp only [Act.put, List.setIfInBounds_toArray, List.set_cons_zero, List.set_cons_succ]
    refine wpAnyM_done (by kernel_rfl) ?_ _
    have Bb := Lib.hid (B6.out.trans (Kb.out.mono B6.out.size))
    have hsw := B6.out.size
    have hsd := Kd.out.size
    have hsa := Ka.out.size
    go_wp2
    go_ret2
    rw [HX.out.1, HX.out.2]
    exact ⟨_, _, rfl, (HUb.out.base (by omega)).retop, HV.out.base (by omega), fun g hg h => by
      have h1 := HU.out.top g hg
      have h2 := (HV.out.own.lt g h).1
      omega, Bb.out⟩
end
end Go.Proofs.YtphkgnpkcfbnkaaDoor
namespace Go.Proofs.YtphkgnpkcfbnkaaDoor
open Go.RowKit

theorem wonIn_le {O P In : List Int} {zss : List (List Int)} {who : Int} : (wonInL O zss P In who).length ≤ In.length := by
  unfold wonInL
  split
  · exact List.length_filter_le _ _
  · simp
theorem markOne {w : World} {B D : Nat} {v : Value} {zs : List Int} {k r : Int} (hr : k + zs.length = r) (h : OwnInts w B D v zs) (h0 : 0 ≤ k) (h1 : k ≤ 1152921504606846976) :
    Calls Tryd.prog 51 #[v, .int .i64 k] w fun e w' => e = .returned (.int .i64 r) ∧ OwnInts w' B D v (marks k zs.length) ∧ Only (fun b => B ≤ b ∧ b < D) w w' ∧ Only (fun b => v.ownBlock = some b) w w' := by
  subst hr
  exact (markInt64S_is h k h0 h1).mono fun e w' ⟨he, ho, hn⟩ => ⟨he, ho, hn.mono fun b hb => ⟨(h.own.lt b hb).1, h.top b hb⟩, hn⟩


set_option maxHeartbeats 16000000 in
set_option maxRecDepth 100000 in
theorem lawWonIn {w : World} {v0 : Value} {O0 : List Int} {z0 : List (List Int)} {P0 : List Int} {aS1 : Option Addr} {S1 : List Int} {cs1 : Nat} (h0 : GameAt w v0 O0 z0 P0) (h1 : IntsAt w aS1 S1) (hE : TabW w) :
    Calls Tryd.prog 11 #[v0, .slice aS1 S1.length cs1] w fun e w' => e = .returned (.bool true) ∧ Below w.heap.size w w' := by
  have HE := Lib.hid hE
  clear hE
  have H0 := Lib.hid h0
  obtain ⟨u0_0, u0_1, u0_2, d0_0, d0_1, d0_2, A0, C0, rfl, q0, q1, q2⟩ := h0
  clear q0 q1 q2
  have H1 : Hid (IntsV w (.slice aS1 S1.length cs1) S1) := ⟨_, _, rfl, h1⟩
  have hl1 := h1.len
  clear h1
  obtain ⟨w1, hw1⟩ : ∃ y, y = (w.alloc (.cells #[.slice u0_0 O0.length d0_0, .slice u0_1 z0.length d0_1, .slice u0_2 P0.length d0_2] 62)) := ⟨_, rfl⟩
  have HW1 := Lib.hid hw1
  have B1 : Hid (Below w.heap.size w w1) := by rw [hw1]; exact below1 _ _
  have b0 : Hid (Box3 w1 (w.heap.size) 62 (.slice u0_0 O0.length d0_0) (.slice u0_1 z0.length d0_1) (.slice u0_2 P0.length d0_2)) := by rw [hw1]; exact Box3.new_at (by simp) _ _ _ _ 
  have K1 : Hid (Keep [w1, w] w1) := ⟨Below.refl _ _, B1.out, trivial⟩
  clear hw1
  by_cases hbig1 : (1048576 : Int) < S1.length
  · go_enter Tryd.func11, Tryd.ntmps11
    go_wp2
    go_ret
    exact ⟨rfl, by rw [← HW1.out]; exact B1.out⟩
  have hsm1 : (S1.length : Int) ≤ 1048576 := by omega
  have hsmN1 : S1.length ≤ 1048576 := by omega
  clear hbig1
  by_cases hs0 : (1048576 : Int) < (sizeGame O0 z0 P0 : Int)
  · skip
    have HSn0 : Hid (∀ W, Below w.heap.size w W → Calls Tryd.prog 42 #[.agg #[.slice u0_0 O0.length d0_0, .slice u0_1 z0.length d0_1, .slice u0_2 P0.length d0_2], .int .i64 (1048576 : Int)] W fun e w' => e = .returned (.int .i64 (-1)) ∧ Below W.heap.size W w') := fun W hb => szGame_at (leftOf_no hs0) (H0.out.below hb) (by omega) (by omega)
    clear hs0
    go_enter Tryd.func11, Tryd.ntmps11
    go_wp2_with fail
    rw [← HW1.out]
    refine (HSn0.out _ K1.out.2.1).mono ?_
    rintro e w2 ⟨rfl, hb⟩
    have Kw2 : Hid (Keep [w1, w] w2) := K1.out.step hb
    clear K1
    clear hb
    go_wp2
    go_ret
    exact ⟨rfl, Kw2.out.2.1⟩
  have hle0 : (sizeGame O0 z0 P0 : Int) ≤ (1048576 : Int) := by omega
  obtain ⟨m0, hm0⟩ : ∃ m, leftOf (1048576 : Int) (sizeGame O0 z0 P0) = m := ⟨_, rfl⟩
  have hmv0 : m0 = (1048576 : Int) - (sizeGame O0 z0 P0 : Int) := by rw [← hm0]; exact leftOf_yes hle0
  have hml0 : 0 ≤ m0 := by omega
  have hmu0 : m0 ≤ 1048576 := by omega
  have HLE0 : Hid (sizeGame O0 z0 P0 ≤ 1048576) := by simp only [Hid]; omega
  have HS0 : Hid (∀ W, Below w.heap.size w W → Calls Tryd.prog 42 #[.agg #[.slice u0_0 O0.length d0_0, .slice u0_1 z0.length d0_1, .slice u0_2 P0.length d0_2], .int .i64 (1048576 : Int)] W fun e w' => e = .returned (.int .i64 m0) ∧ Below W.heap.size W w') := fun W hb => szGame_at hm0 (H0.out.below hb) (by omega) (by omega)
  have hn0 : z0.length ≤ 1048576 := by have := HLE0.out; unfold sizeGame at this; (try unfold sizeArena at this); omega
  clear hs0 hm0 hle0 hmv0
  obtain ⟨rX, hrX⟩ : ∃ r, wonInL O0 z0 P0 S1 0 = r := ⟨_, rfl⟩
  obtain ⟨rY, hrY⟩ : ∃ r, wonInL O0 z0 P0 S1 1 = r := ⟨_, rfl⟩
  have R0 := Lib.hid (And.intro hrX hrY)
  clear hrX hrY
  have RLX : Hid (rX.length ≤ 1048576 ∧ rY.length ≤ 1048576) := by
    have h := (show (wonInL O0 z0 P0 S1 0).length ≤ 1048576 ∧ (wonInL O0 z0 P0 S1 1).length ≤ 1048576 from ⟨Nat.le_trans wonIn_le hsmN1, Nat.le_trans wonIn_le hsmN1⟩)
    have e := R0.out
    rw [e.1, e.2] at h
    exact h
  obtain ⟨mk0, hmk0⟩ : ∃ r : Int, (1 : Int) + (O0.length : Int) + (sumLen z0 z0.length : Int) + (P0.length : Int) = r := ⟨_, rfl⟩
  have MK0 := Lib.hid hmk0
  have hmkl0 : 0 ≤ mk0 := by omega
  have hmku0 : mk0 ≤ 1048577 := by have := HLE0.out; unfold sizeGame at this; (try unfold sizeArena at this); omega
  obtain ⟨mk1, hmk1⟩ : ∃ r : Int, mk0 + (S1.length : Int) = r := ⟨_, rfl⟩
  have MK1 := Lib.hid hmk1
  have hmkl1 : 0 ≤ mk1 := by omega
  have hmku1 : mk1 ≤ 2097153 := by omega
  obtain ⟨mg, hmg⟩ : ∃ r : Int, (1 : Int) + (rX.length : Int) = r := ⟨_, rfl⟩
  have MG1 := Lib.hid hmg
  have hmh0 : 0 ≤ mg := by omega
  clear hmg
  obtain ⟨mh, hmh⟩ : ∃ r : Int, r = mg := ⟨_, rfl⟩
  rw [← hmh] at MG1 hmh0
  clear hmh mg
  obtain ⟨mg, hmg⟩ : ∃ r : Int, mh + (rY.length : Int) = r := ⟨_, rfl⟩
  have hmhu : mh ≤ 1152921504606846976 := by have := MG1.out; have := RLX.out; omega
  have MG := Lib.hid hmg
  have hmg0 : 0 ≤ mg := by omega
  have hmgn : (mg != mg) = false := by simp
  clear hmg hmk0 hmk1
  go_enter Tryd.func11, Tryd.ntmps11
  go_wp2_with fail
  rw [← HW1.out]
  refine (HS0.out _ K1.out.2.1).mono ?_
  rintro e w2 ⟨rfl, hb⟩
  have Kw2 : Hid (Keep [w1, w] w2) := K1.out.step hb
  clear K1
  clear hb
  have c0 := (b0.out.below Kw2.out.1).c0
  have c1 := (b0.out.below Kw2.out.1).c1
  have c2 := (b0.out.below Kw2.out.1).c2
  go_wp2_with fail
  refine (toGame_at (H0.out.below Kw2.out.2.1) hn0).mono ?_
  rintro e w3 ⟨x, rfl, hu, hb⟩
  obtain ⟨pa0_0, pc0_0, pa0_1, pc0_1, pa0_2, pc0_2, hus⟩ := hu.shape
  subst hus
  have pX0 := Lib.hid hu
  have Kw3 : Hid (Keep [w1, w] w3) := Kw2.out.step hb
  clear Kw2
  clear hu hb
  have Kaw3 : Hid (Keep [w3, w1, w] w3) := Kw3.out.add
  clear Kw3
  clear c0 c1 c2
  go_wp2_with fail
  refine (toInts_own (H1.out.below Kaw3.out.2.2.1)).mono ?_
  rintro e w4 ⟨x, rfl, hu, hb⟩
  obtain ⟨pa1_0, pc1_0, hus⟩ := hu.shape2
  subst hus
  have pX1 := Lib.hid hu
  have Kw4 : Hid (Keep [w3, w1, w] w4) := Kaw3.out.step hb
  clear Kaw3
  clear hu hb
  have Kaw4 : Hid (Keep [w4, w3, w1, w] w4) := Kw4.out.add
  clear Kw4
  go_wp2_with fail
  refine (specWonIn_is pc1_0 R0.out (pX0.out.below Kaw4.out.2.1).at (pX1.out.below Kaw4.out.1).v.at).mono ?_
  rintro e w5 ⟨vx, vy, rfl, hg, hf, hd, hb⟩
  obtain ⟨pga_0, pgc_0, hus⟩ := hg.shape2
  subst hus
  obtain ⟨pga_1, pgc_1, hus⟩ := hf.shape2
  subst hus
  have pG := Lib.hid hg
  have pF := Lib.hid hf
  have pD := Lib.hid hd
  clear hf hd
  have Kw5 : Hid (Keep [w4, w3, w1, w] w5) := Kaw4.out.step hb
  clear Kaw4
  clear hb hg
  have Kaw5 : Hid (Keep [w5, w4, w3, w1, w] w5) := Kw5.out.add
  clear Kw5
  have OW : Hid (w.heap.size ≤ w1.heap.size) := B1.out.size
  have OC : Hid (w1.heap.size ≤ w5.heap.size) := Kaw5.out.2.2.2.1.size
  have OP : Hid (w5.heap.size ≤ w5.heap.size) := Kaw5.out.1.size
  have c0 := (b0.out.below Kaw5.out.2.2.2.1).c0
  have c1 := (b0.out.below Kaw5.out.2.2.2.1).c1
  have c2 := (b0.out.below Kaw5.out.2.2.2.1).c2
  go_wp2_with fail
  have HB0 : Hid (w5.heap.size ≤ w5.heap.size) := Kaw5.out.1.size
  refine (toGame_at (H0.out.below Kaw5.out.2.2.2.2.1) hn0).mono ?_
  rintro e w6 ⟨x, rfl, hu, hb⟩
  obtain ⟨xa0_0, xc0_0, xa0_1, xc0_1, xa0_2, xc0_2, hus⟩ := hu.shape
  subst hus
  have xX0 := Lib.hid hu
  have HE0 : Hid (w5.heap.size ≤ w6.heap.size) := hb.size
  have Kw6 : Hid (Keep [w5, w4, w3, w1, w] w6) := Kaw5.out.step hb
  clear Kaw5
  clear hu hb
  have Kaw6 : Hid (Keep [w6, w5, w4, w3, w1, w] w6) := Kw6.out.add
  clear Kw6
  clear c0 c1 c2
  obtain ⟨w7, hw7⟩ : ∃ y, y = w6.alloc (.cells #[.slice xa0_0 O0.length xc0_0, .slice xa0_1 z0.length xc0_1, .slice xa0_2 P0.length xc0_2] 32) := ⟨_, rfl⟩
  have Hw7 := Lib.hid hw7
  have hb : Below w6.heap.size w6 w7 := by rw [hw7]; exact below1 _ _
  have xb0 : Hid (Box3 w7 w6.heap.size 32 (.slice xa0_0 O0.length xc0_0) (.slice xa0_1 z0.length xc0_1) (.slice xa0_2 P0.length xc0_2)) := by rw [hw7]; exact Box3.new _ _ _ _ _ 
  have Kw7 : Hid (Keep [w6, w5, w4, w3, w1, w] w7) := Kaw6.out.step hb
  clear Kaw6
  clear hb
  have Kaw7 : Hid (Keep [w7, w6, w5, w4, w3, w1, w] w7) := Kw7.out.add
  clear Kw7
  clear hw7
  go_wp2_with fail
  rw [← Hw7.out]
  have HB1 : Hid (w5.heap.size ≤ w7.heap.size) := Kaw7.out.2.2.1.size
  have HD0_1 : Hid (w6.heap.size ≤ w7.heap.size) := Kaw7.out.2.1.size
  refine (toInts_own (H1.out.below Kaw7.out.2.2.2.2.2.2.1)).mono ?_
  rintro e w8 ⟨x, rfl, hu, hb⟩
  obtain ⟨xa1_0, xc1_0, hus⟩ := hu.shape2
  subst hus
  have xX1 := Lib.hid hu
  have HE1 : Hid (w7.heap.size ≤ w8.heap.size) := hb.size
  have Kw8 : Hid (Keep [w7, w6, w5, w4, w3, w1, w] w8) := Kaw7.out.step hb
  clear Kaw7
  clear hu hb
  have Kaw8 : Hid (Keep [w8, w7, w6, w5, w4, w3, w1, w] w8) := Kw8.out.add
  clear Kw8
  have c0 := (xb0.out.below Kaw8.out.2.1).c0
  have c1 := (xb0.out.below Kaw8.out.2.1).c1
  have c2 := (xb0.out.below Kaw8.out.2.1).c2
  go_wp2_with fail
  have HD0 : Hid (w6.heap.size ≤ w8.heap.size) := Kaw8.out.2.2.1.size
  have HD1 : Hid (w8.heap.size ≤ w8.heap.size) := Kaw8.out.1.size
  refine (wonIn_is (HE.out.below Kaw8.out.2.2.2.2.2.2.2.1) xc1_0 R0.out (xX0.out.below Kaw8.out.2.2.1).at (xX1.out.below Kaw8.out.1).v.at).mono ?_
  rintro e w9 ⟨vx, vy, rfl, hg, hf, hd, hb⟩
  obtain ⟨xga_0, xgc_0, hus⟩ := hg.shape2
  subst hus
  obtain ⟨xga_1, xgc_1, hus⟩ := hf.shape2
  subst hus
  have xG := Lib.hid hg
  have xF := Lib.hid hf
  have xD := Lib.hid hd
  clear hf hd
  have HEG : Hid (w8.heap.size ≤ w9.heap.size) := hb.size
  have Kw9 : Hid (Keep [w8, w7, w6, w5, w4, w3, w1, w] w9) := Kaw8.out.step hb
  clear Kaw8
  clear hb hg
  have Kaw9 : Hid (Keep [w9, w8, w7, w6, w5, w4, w3, w1, w] w9) := Kw9.out.add
  clear Kw9
  clear c0 c1 c2
  go_wp2_with fail
  refine (eqInts_at (xG.out.below Kaw9.out.1).v (pG.out.below Kaw9.out.2.2.2.2.1).v).mono ?_
  rintro e w10 ⟨rfl, hb⟩
  have Kw10 : Hid (Keep [w9, w8, w7, w6, w5, w4, w3, w1, w] w10) := Kaw9.out.step hb
  clear Kaw9
  clear hb
  go_wp2_with fail
  refine (eqInts_at (xF.out.below Kw10.out.1).v (pF.out.below Kw10.out.2.2.2.2.1).v).mono ?_
  rintro e w11 ⟨rfl, hb⟩
  have Kw11 : Hid (Keep [w9, w8, w7, w6, w5, w4, w3, w1, w] w11) := Kw10.out.step hb
  clear Kw10
  clear hb
  have c0 := (b0.out.below Kw11.out.2.2.2.2.2.2.2.1).c0
  have c1 := (b0.out.below Kw11.out.2.2.2.2.2.2.2.1).c1
  have c2 := (b0.out.below Kw11.out.2.2.2.2.2.2.2.1).c2
  have c3 := (xb0.out.below Kw11.out.2.2.1).c0
  have c4 := (xb0.out.below Kw11.out.2.2.1).c1
  have c5 := (xb0.out.below Kw11.out.2.2.1).c2
  have Kdw11 : Hid (Keep [w9, w8, w7, w6, w5, w4, w3, w1, w] w11.drew) := Kw11.out.step (Below.refl _ _).drew
  go_wp2_with fail
  go_region_held3 (fun w' => w'.cell? ⟨w.heap.size, 0, none⟩ = some (.slice u0_0 O0.length d0_0) ∧ w'.cell? ⟨w.heap.size, 1, none⟩ = some (.slice u0_1 z0.length d0_1) ∧ w'.cell? ⟨w.heap.size, 2, none⟩ = some (.slice u0_2 P0.length d0_2) ∧ w'.cell? ⟨w6.heap.size, 0, none⟩ = some (.slice xa0_0 O0.length xc0_0) ∧ w'.cell? ⟨w6.heap.size, 1, none⟩ = some (.slice xa0_1 z0.length xc0_1) ∧ w'.cell? ⟨w6.heap.size, 2, none⟩ = some (.slice xa0_2 P0.length xc0_2))
    (first
      | go_keep
      | exact ⟨d0, d1, d2, d3, d4, d5⟩
      | exact ⟨f0, f1, f2, f3, f4, f5⟩)
    (first
      | (go_at_call 44; refine (toGame_at (H0.out.below Kdw11.out.2.2.2.2.2.2.2.2.1) hn0).mono ?_; rintro e w12 ⟨x, rfl, hu, hb⟩; obtain ⟨ya0_0, yc0_0, ya0_1, yc0_1, ya0_2, yc0_2, hus⟩ := hu.shape; subst hus; have yX0 := Lib.hid hu; have Kw12 : Hid (Keep [w9, w8, w7, w6, w5, w4, w3, w1, w] w12) := Kdw11.out.step hb; have d0 := (b0.out.below Kw12.out.2.2.2.2.2.2.2.1).c0; have d1 := (b0.out.below Kw12.out.2.2.2.2.2.2.2.1).c1; have d2 := (b0.out.below Kw12.out.2.2.2.2.2.2.2.1).c2; have d3 := (xb0.out.below Kw12.out.2.2.1).c0; have d4 := (xb0.out.below Kw12.out.2.2.1).c1; have d5 := (xb0.out.below Kw12.out.2.2.1).c2; have Kaw12 : Hid (Keep [w12, w9, w8, w7, w6, w5, w4, w3, w1, w] w12) := Kw12.out.add; clear hu hb)
      | (go_at_call 46; refine (eqGame_at (xX0.out.below Kaw12.out.2.2.2.2.1).at (yX0.out.below Kaw12.out.1).at).mono ?_; rintro e w13 ⟨rfl, hb⟩; have Kw13 : Hid (Keep [w12, w9, w8, w7, w6, w5, w4, w3, w1, w] w13) := Kaw12.out.step hb; have f0 := (b0.out.below Kw13.out.2.2.2.2.2.2.2.2.1).c0; have f1 := (b0.out.below Kw13.out.2.2.2.2.2.2.2.2.1).c1; have f2 := (b0.out.below Kw13.out.2.2.2.2.2.2.2.2.1).c2; have f3 := (xb0.out.below Kw13.out.2.2.2.1).c0; have f4 := (xb0.out.below Kw13.out.2.2.2.1).c1; have f5 := (xb0.out.below Kw13.out.2.2.2.1).c2; clear hb))
  clear c0 d0 f0 c1 d1 f1 c2 d2 f2 c3 d3 f3 c4 d4 f4 c5 d5 f5
  have Kzw13 : Hid (Keep [w9, w8, w7, w6, w5, w4, w3, w1, w] w13) := Kw13.out.2
  clear Kdw11 Kw12 Kaw12 yX0
  go_wp2_with fail
  refine (toInts_own (H1.out.below Kzw13.out.2.2.2.2.2.2.2.2.1)).mono ?_
  rintro e w14 ⟨x, rfl, hu, hb⟩
  obtain ⟨y13a1_0, y13c1_0, hus⟩ := hu.shape2
  subst hus
  have y13X1 := Lib.hid hu
  have Kw14 : Hid (Keep [w9, w8, w7, w6, w5, w4, w3, w1, w] w14) := Kzw13.out.step hb
  clear Kzw13
  clear hu hb
  have Kaw14 : Hid (Keep [w14, w9, w8, w7, w6, w5, w4, w3, w1, w] w14) := Kw14.out.add
  clear Kw14
  go_wp2_with fail
  refine (eqInts_at (xX1.out.below Kaw14.out.2.2.1).v (y13X1.out.below Kaw14.out.1).v).mono ?_
  rintro e w15 ⟨rfl, hb⟩
  have Kw15 : Hid (Keep [w14, w9, w8, w7, w6, w5, w4, w3, w1, w] w15) := Kaw14.out.step hb
  clear Kaw14
  clear hb
  have xX0_w15 := Lib.hid (xX0.out.below Kw15.out.2.2.2.2.1)
  have xX1_w15 := Lib.hid (xX1.out.below Kw15.out.2.2.1)
  have xb0_w15 := Lib.hid (xb0.out.below Kw15.out.2.2.2.1)
  have xG_w15 := Lib.hid (xG.out.below Kw15.out.2.1)
  have xF_w15 := Lib.hid (xF.out.below Kw15.out.2.1)
  have KBw15 : Hid (Keep [w5, w1, w] w15) := ⟨Kw15.out.2.2.2.2.2.1, Kw15.out.2.2.2.2.2.2.2.2.1, Kw15.out.2.2.2.2.2.2.2.2.2.1, trivial⟩
  clear Kw15
  have c0 := xb0_w15.out.c0
  have c1 := xb0_w15.out.c1
  have c2 := xb0_w15.out.c2
  go_wp2_with fail
  refine (markGame_at MK0.out xX0_w15.out (by omega) (by omega) HLE0.out).mono ?_
  rintro e t16 ⟨rfl, hx, ho⟩
  have o0 := OW.out
  have o1 := OC.out
  have o2 := OP.out
  have o3 := HEG.out
  have oh0 := HB0.out
  have oe0 := HE0.out
  have od0 := HD0.out
  have oh1 := HB1.out
  have oe1 := HE1.out
  have od1 := HD1.out
  have oq0_1 := HD0_1.out
  have KOt16 : Hid (Keep [w5, w1, w] t16) := KBw15.out.only ho (fun a ha b hb => by
    simp only [List.mem_cons, List.not_mem_nil, or_false] at ha
    rcases ha with rfl | rfl | rfl <;> omega)
  clear KBw15
  clear xX0_w15
  have xX1_t16 := Lib.hid (xX1_w15.out.only ho (fun g hg hb => by have := (xX1_w15.out.own.lt g hg).1; omega))
  clear xX1_w15
  clear xb0_w15
  have xG_t16 := Lib.hid (xG_w15.out.only ho (fun g hg hb => by have := (xG_w15.out.own.lt g hg).1; omega))
  clear xG_w15
  have xF_t16 := Lib.hid (xF_w15.out.only ho (fun g hg hb => by have := (xF_w15.out.own.lt g hg).1; omega))
  clear xF_w15
  clear hx ho o0 o1 o2 o3 oh0 oe0 od0 oh1 oe1 od1 oq0_1 c0 c1 c2
  go_wp2_with fail
  refine (markInts_at MK1.out xX1_t16.out (by omega) (by omega)).mono ?_
  rintro e t17 ⟨rfl, hx, ho⟩
  have o0 := OW.out
  have o1 := OC.out
  have o2 := OP.out
  have o3 := HEG.out
  have oh0 := HB0.out
  have oe0 := HE0.out
  have od0 := HD0.out
  have oh1 := HB1.out
  have oe1 := HE1.out
  have od1 := HD1.out
  have oq0_1 := HD0_1.out
  have KOt17 : Hid (Keep [w5, w1, w] t17) := KOt16.out.only ho (fun a ha b hb => by
    simp only [List.mem_cons, List.not_mem_nil, or_false] at ha
    rcases ha with rfl | rfl | rfl <;> omega)
  clear KOt16
  clear xX1_t16
  have xG_t17 := Lib.hid (xG_t16.out.only ho (fun g hg hb => by have := (xG_t16.out.own.lt g hg).1; omega))
  clear xG_t16
  have xF_t17 := Lib.hid (xF_t16.out.only ho (fun g hg hb => by have := (xF_t16.out.own.lt g hg).1; omega))
  clear xF_t16
  clear hx ho o0 o1 o2 o3 oh0 oe0 od0 oh1 oe1 od1 oq0_1
  go_wp2_with fail
  refine (eqInts_at xG_t17.out.v (pG.out.below KOt17.out.1).v).mono ?_
  rintro e t18 ⟨rfl, hb⟩
  have xG_t18 := Lib.hid (xG_t17.out.below hb)
  clear xG_t17
  have xF_t18 := Lib.hid (xF_t17.out.below hb)
  clear xF_t17
  have Kt18 : Hid (Keep [w5, w1, w] t18) := KOt17.out.step hb
  clear KOt17
  clear hb
  go_wp2_with fail
  refine (eqInts_at xF_t18.out.v (pF.out.below Kt18.out.1).v).mono ?_
  rintro e t19 ⟨rfl, hb⟩
  have xG_t19 := Lib.hid (xG_t18.out.below hb)
  clear xG_t18
  have xF_t19 := Lib.hid (xF_t18.out.below hb)
  clear xF_t18
  have Kt19 : Hid (Keep [w5, w1, w] t19) := Kt18.out.step hb
  clear Kt18
  clear hb
  go_wp2_with fail
  refine (markOne MG1.out xG_t19.out (by omega) (by omega)).mono ?_
  rintro e t20 ⟨rfl, hx, ho, hp⟩
  have o0 := OW.out
  have o1 := OC.out
  have o2 := OP.out
  have o3 := HEG.out
  have oh0 := HB0.out
  have oe0 := HE0.out
  have od0 := HD0.out
  have oh1 := HB1.out
  have oe1 := HE1.out
  have od1 := HD1.out
  have oq0_1 := HD0_1.out
  have KOt20 : Hid (Keep [w5, w1, w] t20) := Kt19.out.only ho (fun a ha b hb => by
    simp only [List.mem_cons, List.not_mem_nil, or_false] at ha
    rcases ha with rfl | rfl | rfl <;> omega)
  clear Kt19
  have M_t20 := Lib.hid hx
  have F_t20 := Lib.hid (xF_t19.out.only hp (fun g hg hb => xD.out g hb hg))
  clear hx ho hp o0 o1 o2 o3 oh0 oe0 od0 oh1 oe1 od1 oq0_1
  go_wp2_with fail
  refine (markOne MG.out F_t20.out hmh0 hmhu).mono ?_
  rintro e t21 ⟨rfl, hx, ho, hp⟩
  have o0 := OW.out
  have o1 := OC.out
  have o2 := OP.out
  have o3 := HEG.out
  have oh0 := HB0.out
  have oe0 := HE0.out
  have od0 := HD0.out
  have oh1 := HB1.out
  have oe1 := HE1.out
  have od1 := HD1.out
  have oq0_1 := HD0_1.out
  have KOt21 : Hid (Keep [w5, w1, w] t21) := KOt20.out.only ho (fun a ha b hb => by
    simp only [List.mem_cons, List.not_mem_nil, or_false] at ha
    rcases ha with rfl | rfl | rfl <;> omega)
  clear KOt20
  have M := Lib.hid (M_t20.out.only hp (fun g hg hb => xD.out g hg hb))
  have MF := Lib.hid hx
  clear hx ho hp o0 o1 o2 o3 oh0 oe0 od0 oh1 oe1 od1 oq0_1
  have Kat21 : Hid (Keep [t21, w5, w1, w] t21) := KOt21.out.add
  clear KOt21
  go_wp2_with fail
  refine (heldInts_own MG1.out (M.out.below Kat21.out.1).v (by omega) (by omega)).mono ?_
  rintro e t22 ⟨rfl, hb⟩
  have Kt22 : Hid (Keep [t21, w5, w1, w] t22) := Kat21.out.step hb
  clear Kat21
  clear hb
  go_wp2_with fail
  refine (heldInts_own MG.out (MF.out.below Kt22.out.1).v hmh0 hmhu).mono ?_
  rintro e t23 ⟨rfl, hb⟩
  have Kt23 : Hid (Keep [t21, w5, w1, w] t23) := Kt22.out.step hb
  clear Kt22
  clear hb
  have c0 := (b0.out.below Kt23.out.2.2.1).c0
  have c1 := (b0.out.below Kt23.out.2.2.1).c1
  have c2 := (b0.out.below Kt23.out.2.2.1).c2
  go_wp2_with fail
  refine (toGame_at (H0.out.below Kt23.out.2.2.2.1) hn0).mono ?_
  rintro e w24 ⟨x, rfl, hu, hb⟩
  obtain ⟨ha0_0, hc0_0, ha0_1, hc0_1, ha0_2, hc0_2, hus⟩ := hu.shape
  subst hus
  have hX0 := Lib.hid hu
  have Kw24 : Hid (Keep [t21, w5, w1, w] w24) := Kt23.out.step hb
  clear Kt23
  clear hu hb
  have Kaw24 : Hid (Keep [w24, t21, w5, w1, w] w24) := Kw24.out.add
  clear Kw24
  clear c0 c1 c2
  go_wp2_with fail
  refine (toInts_own (H1.out.below Kaw24.out.2.2.2.2.1)).mono ?_
  rintro e w25 ⟨x, rfl, hu, hb⟩
  obtain ⟨ha1_0, hc1_0, hus⟩ := hu.shape2
  subst hus
  have hX1 := Lib.hid hu
  have Kw25 : Hid (Keep [w24, t21, w5, w1, w] w25) := Kaw24.out.step hb
  clear Kaw24
  clear hu hb
  have Kaw25 : Hid (Keep [w25, w24, t21, w5, w1, w] w25) := Kw25.out.add
  clear Kw25
  go_wp2_with fail
  refine (wonIn_is (HE.out.below Kaw25.out.2.2.2.2.2.1) hc1_0 R0.out (hX0.out.below Kaw25.out.2.1).at (hX1.out.below Kaw25.out.1).v.at).mono ?_
  rintro e w26 ⟨vx, vy, rfl, hg, hf, hd, hb⟩
  obtain ⟨hga_0, hgc_0, hus⟩ := hg.shape2
  subst hus
  obtain ⟨hga_1, hgc_1, hus⟩ := hf.shape2
  subst hus
  have hG := Lib.hid hg
  have hF := Lib.hid hf
  have hD := Lib.hid hd
  clear hf hd
  have Kw26 : Hid (Keep [w25, w24, t21, w5, w1, w] w26) := Kaw25.out.step hb
  clear Kaw25
  clear hb hg
  have Kaw26 : Hid (Keep [w26, w25, w24, t21, w5, w1, w] w26) := Kw26.out.add
  clear Kw26
  go_wp2_with fail
  refine (eqInts_at (hG.out.below Kaw26.out.1).v (pG.out.below Kaw26.out.2.2.2.2.1).v).mono ?_
  rintro e w27 ⟨rfl, hb⟩
  have Kw27 : Hid (Keep [w26, w25, w24, t21, w5, w1, w] w27) := Kaw26.out.step hb
  clear Kaw26
  clear hb
  go_wp2_with fail
  refine (eqInts_at (hF.out.below Kw27.out.1).v (pF.out.below Kw27.out.2.2.2.2.1).v).mono ?_
  rintro e w28 ⟨rfl, hb⟩
  have Kw28 : Hid (Keep [w26, w25, w24, t21, w5, w1, w] w28) := Kw27.out.step hb
  clear Kw27
  clear hb
  go_wp2_with fail
  refine (heldInts_own MG1.out (M.out.below Kw28.out.2.2.2.1).v (by omega) (by omega)).mono ?_
  rintro e t29 ⟨rfl, hb⟩
  have Kt29 : Hid (Keep [w26, w25, w24, t21, w5, w1, w] t29) := Kw28.out.step hb
  clear Kw28
  clear hb
  go_wp2_with fail
  refine (heldInts_own MG.out (MF.out.below Kt29.out.2.2.2.1).v hmh0 hmhu).mono ?_
  rintro e t30 ⟨rfl, hb⟩
  have Kt30 : Hid (Keep [w26, w25, w24, t21, w5, w1, w] t30) := Kt29.out.step hb
  clear Kt29
  clear hb
  go_wp2
  go_ret
  exact ⟨rfl, Kt30.out.2.2.2.2.2.2.1⟩

end Go.Proofs.YtphkgnpkcfbnkaaDoor
namespace Go.Proofs.YtphkgnpkcfbnkaaDoor
open Go.ChangeShapes Go.WideShapes Go.ChangeAt Go.RowKit

theorem lv_own : ownKnob Tryd.prog.godebug = none := by kernel_rfl
theorem lv_g : Tryd.prog.globalNamed "math/bits.deBruijn64tab" = some 1 := by kernel_rfl
theorem lv_t : (Tryd.prog.globals[1]?).map (·.type) = some 204 := by kernel_rfl
abbrev lvTab : String × DataW Unit := ("math/bits.deBruijn64tab", Rows.laid_math_bits_deBruijn64tab)
theorem lv_data : (Rows.laid_math_bits_deBruijn64tab : DataW Unit) = Lib.tabData .u8 (Lib.deBruijn64tab.map fun (x : Nat) => (x : Int)) := by kernel_rfl
theorem lv_tab {W : World} (h : laidMet Tryd.prog [lvTab] W) : TabW W := fun j hj => by
  unfold lvTab at h
  rw [lv_data] at h
  have h1 := Lib.tabIs_of_head lv_g lv_t (n := 64) (e := 5) (by kernel_rfl) (by kernel_rfl) (by kernel_rfl) (by kernel_rfl) h
  have h2 := h1.cell lv_g j (by simpa [Lib.deBruijn64tab] using hj)
  rw [h2]
  congr 2
  simp [List.getD, List.getElem?_map]
  cases Lib.deBruijn64tab[j]? <;> simp
theorem lv_S {W : World} (h : laidMetH Tryd.prog [lvTab] W) : laidMet Tryd.prog [lvTab] W := by
  have h2 := (laidMetH_iff.1 h).1
  rw [show ([lvTab].filter fun x => x.2.handleName?.isNone) = [lvTab] by kernel_rfl] at h2
  exact h2
/-- A world that meets the list. -/
noncomputable def lvWorld (os : Os) : World :=
  let w0 := World.holding Tryd.prog os ⟨#[], #[], []⟩
  { w0 with heap := (w0.heap.modify 1 fun
      | .cells _ t frozen => .cells #[.int .u8 0, .int .u8 1, .int .u8 56, .int .u8 2, .int .u8 57, .int .u8 49, .int .u8 28, .int .u8 3, .int .u8 61, .int .u8 58, .int .u8 42, .int .u8 50, .int .u8 38, .int .u8 29, .int .u8 17, .int .u8 4, .int .u8 62, .int .u8 47, .int .u8 59, .int .u8 36, .int .u8 45, .int .u8 43, .int .u8 51, .int .u8 22, .int .u8 53, .int .u8 39, .int .u8 33, .int .u8 30, .int .u8 24, .int .u8 18, .int .u8 12, .int .u8 5, .int .u8 63, .int .u8 55, .int .u8 48, .int .u8 27, .int .u8 60, .int .u8 41, .int .u8 37, .int .u8 16, .int .u8 46, .int .u8 35, .int .u8 44, .int .u8 21, .int .u8 52, .int .u8 32, .int .u8 23, .int .u8 11, .int .u8 54, .int .u8 26, .int .u8 40, .int .u8 15, .int .u8 34, .int .u8 20, .int .u8 31, .int .u8 10, .int .u8 25, .int .u8 14, .int .u8 19, .int .u8 9, .int .u8 13, .int .u8 8, .int .u8 7, .int .u8 6] t frozen
      | o => o) }
theorem lv_met (os : Os) (args : Array Value) : laidMet Tryd.prog [lvTab] ((lvWorld os).forCall (fun _ _ => 0) ⟨#[], args, []⟩).memory :=
  laidMet_of_run' 8 (by kernel_rfl) (by kernel_rfl)
theorem lv_metS (os : Os) (args : Array Value) : laidMetH Tryd.prog [lvTab] ((lvWorld os).forCall (fun _ _ => 0) ⟨#[], args, []⟩).memory :=
  laidMetH_of_parts (by rw [show ([lvTab].filter fun x => x.2.handleName?.isNone) = [lvTab] by kernel_rfl]; exact lv_met os args) (by kernel_rfl)
end Go.Proofs.YtphkgnpkcfbnkaaDoor
namespace Go.Proofs.YtphkgnpkcfbnkaaDoor
section
section
section
open Go.ChangeShapes Go.WideShapes Go.ChangeAt Go.RowKit Go.Deep

section
variable {H : Type} {enc : TypeId × Value → H} {W : World}

end
end

section
open Go.ChangeShapes Go.WideShapes Go.ChangeAt Go.RowKit Go.Deep

set_option maxRecDepth 100000 in
theorem slice_of {H : Type} {enc : TypeId × Value → H} {W : World} {v : Value} {d : DataW H} {p : List MemPlace} {r : Reach} {b0 : Nat} (hv : Value.okWide Tryd.prog W r b0 27 v) (h : DataW.Trod enc Tryd.prog W 0 (fun _ => true) true 27 v d p) (hw : ∀ n ∈ d.weights Tryd.prog 27, n ≤ reachBytes) :
    ∃ a zs cap, v = .slice a zs.length cap ∧ IntsAt W a zs := by
  obtain ⟨a, len, cap, rfl⟩ := okWide_slice Tryd.underlying27 hv
  obtain ⟨fuel, hf⟩ := h
  exact ints_of (y := (d, p)) (by simpa [Value.cells] using hf) hw
end

section
open Go.RowKit Go.ChangeShapes Go.Joins Go.WideShapes

end
end

section
open Go.ChangeShapes Go.WideShapes Go.ChangeAt Go.RowKit Go.Deep

end
end

section
open Go.ChangeShapes Go.WideShapes Go.ChangeAt Go.RowKit Go.Deep

end

section
open Go.ChangeShapes Go.WideShapes Go.ChangeAt Go.RowKit Go.Deep

end

end Go.Proofs.YtphkgnpkcfbnkaaDoor
