/-
  Several texts in one: WonIn, RecurSpec, Cat1, Distinct, MeasMath, OddsSpec, SameParity.
-/
import Derived.Deep.RegionHeld3
import Derived.Shelf.SlGeneric
import Derived.Shelf.SortM.Plain
import Derived.Shelf.SortM.SortNone
import Derived.Ground.SlgmProg
import Derived.Test.YtihaajcmephlmaaProg
import Derived.Sort.OwnSortedInts
import Derived.Shelf.SlicesE.Compact
import Derived.Ground.SlgnProg
import Derived.Lib.AppendZeros
import Derived.Lib.OwnBridge
import Derived.RangeFuncBox
import Derived.RangeFuncLeaves
import Derived.RangeFuncBound
import Derived.Shelf.Abstract
import Derived.WalkKit
import Derived.OwnWalkIn
import Derived.TacticsInMore
import Derived.LoopNIn
import Derived.LoopIn
import Derived.Maps.AppendAt
import Derived.Test.YtihaajcmephlmaaPo00
import Derived.Test.YtihaajcmephlmaaPo01
import Derived.Test.YtihaajcmephlmaaPo02
import Derived.Test.YtihaajcmephlmaaPo03
namespace Go.Proofs.Ytihaajcmephlmaa
section
open Go.RowKit

/-- All vertices. -/
def allI (n : Nat) : Nat → Bool := fun v => decide (v < n)
/-- The vertices that player 0 wins. -/
noncomputable def wonZ (zss : List (List Int)) (O P : List Int) : Nat → Bool := winZ zss O (nth P) zss.length (allI zss.length)

section
variable {zss : List (List Int)} {O P : List Int}

theorem arena_rows (h : ArenaP O zss) {v : Nat} (hv : v < zss.length) : (nth O v = 0 ∨ nth O v = 1) ∧ 1 ≤ (row zss v).length ∧ (row zss v).length ≤ 16 := by
  have h1 := h.2.2.2 v (by rw [← h.2.2.1]; exact hv)
  exact ⟨h1.1, h1.2.1, h1.2.2.1⟩
theorem total_all (h : ArenaP O zss) : TotalP zss (allI zss.length) := fun v hv _ => by
  have h1 := arena_rows h hv
  have hm := nth_mem (zs := row zss v) (k := 0) (by omega)
  obtain ⟨u, hu, hun⟩ := (rowsP_of h).inG v hv _ hm
  exact ⟨_, hm, by rw [hu, Int.toNat_natCast]; simp [allI, hun]⟩
theorem won_holds (h : ArenaP O zss) (hl : P.length = O.length) (hp : ∀ x ∈ P, 0 ≤ x) :
    (∃ s, HoldsP zss O (nth P) (allI zss.length) (regZ 0 (allI zss.length) (wonZ zss O P)) 0 s) ∧ ∃ s, HoldsP zss O (nth P) (allI zss.length) (regZ 1 (allI zss.length) (wonZ zss O P)) 1 s :=
  winZ_holds (rowsP_of h).inG (fun v hv => (arena_rows h hv).1) (fun v hv => hp _ (nth_mem (by have := h.2.2.1; omega))) _ _ (fun v hv => by simpa [allI] using hv) (markedK_len _ _) (total_all h)

theorem reg_at {who : Int} {win : Nat → Bool} {v : Nat} (hv : v < zss.length) : regZ who (allI zss.length) win v = (win v == decide (who = 0)) := by
  unfold regZ allI; simp [hv]

theorem turn_valid (h : ArenaP O zss) : ArenaP (turnO O) zss := by
  refine ⟨by rw [turnO_len]; exact h.1, by rw [turnO_len]; exact h.2.1, by rw [turnO_len]; exact h.2.2.1, fun k hk => ?_⟩
  rw [turnO_len] at hk
  obtain ⟨h1, h2, h3, h4⟩ := h.2.2.2 k hk
  refine ⟨?_, h2, h3, by rw [turnO_len]; exact h4⟩
  rw [turnO_nth hk]
  omega
theorem moreP_nth {v : Nat} (hv : v < P.length) : nth (moreP P) v = nth P v + 1 := by
  unfold moreP
  rw [nth_eq (by simpa using hv), List.getElem_map, nth_eq hv]
theorem moreP_pos (hp : ∀ x ∈ P, 0 ≤ x) : ∀ x ∈ moreP P, 0 ≤ x := fun x hx => by
  obtain ⟨y, hy, rfl⟩ := List.mem_map.1 hx
  have := hp y hy; omega

/-- The dual game exchanges the winners. -/
theorem won_dual (h : ArenaP O zss) (hl : P.length = O.length) (hp : ∀ x ∈ P, 0 ≤ x) {v : Nat} (hv : v < zss.length) : wonZ zss (turnO O) (moreP P) v = !wonZ zss O P v := by
  have hz := h.2.2.1
  obtain ⟨⟨s0, h0⟩, ⟨s1, h1⟩⟩ := won_holds h hl hp
  obtain ⟨⟨t0, g0⟩, ⟨t1, g1⟩⟩ := won_holds (turn_valid h) (P := moreP P) (by rw [moreP_len, turnO_len]; exact hl) (moreP_pos hp)
  have hI : ∀ u, u < zss.length → allI zss.length u = true := fun u hu => by simp [allI, hu]
  have ho : ∀ who who' : Int, (who = 0 ∧ who' = 0) ∨ (who = 1 ∧ who' = 1) → ∀ u, u < zss.length → (nth O u = who ↔ nth (turnO O) u ≠ who') := fun who who' hw u hu => by
    rw [turnO_nth (by omega)]
    have := (arena_rows h hu).1
    omega
  have hq : ∀ who who' : Int, (who = 0 ∧ who' = 0) ∨ (who = 1 ∧ who' = 1) → ∀ u w : Nat, u < zss.length → w < zss.length → nth P u ≤ nth P w → nth (moreP P) w ≤ nth (moreP P) u → nth P w % 2 = who → nth (moreP P) u % 2 = who' → False := fun who who' hw u w hu hw' h1 h2 h3 h4 => by
    rw [moreP_nth (by omega)] at h2 h4
    rw [moreP_nth (by omega)] at h2
    omega
  have n0 := no_both (rowsP_of h).inG h0 g0 hI hI (ho 0 0 (by omega)) (hq 0 0 (by omega)) v hv
  have n1 := no_both (rowsP_of h).inG h1 g1 hI hI (ho 1 1 (by omega)) (hq 1 1 (by omega)) v hv
  rw [reg_at hv, reg_at hv] at n0 n1
  cases e1 : wonZ zss O P v <;> cases e2 : wonZ zss (turnO O) (moreP P) v <;> rw [e1, e2] at n0 n1 <;> simp at n0 n1 ⊢

/-- Compressing the priorities keeps the winners. -/
theorem won_press (h : ArenaP O zss) (hl : P.length = O.length) (hp : ∀ x ∈ P, 0 ≤ x ∧ x ≤ 40) {v : Nat} (hv : v < zss.length) : wonZ zss O (pressL P) v = wonZ zss O P v := by
  have hz := h.2.2.1
  obtain ⟨⟨s0, h0⟩, ⟨s1, h1⟩⟩ := won_holds h hl (fun x hx => (hp x hx).1)
  obtain ⟨⟨t0, g0⟩, ⟨t1, g1⟩⟩ := won_holds h (P := pressL P) (by rw [pressL_len]; exact hl) (fun x hx => (press_bound hp x hx).1)
  have hI : ∀ u, u < zss.length → allI zss.length u = true := fun u hu => by simp [allI, hu]
  have ho : ∀ who who' : Int, (who = 0 ∧ who' = 1) ∨ (who = 1 ∧ who' = 0) → ∀ u, u < zss.length → (nth O u = who ↔ nth O u ≠ who') := fun who who' hw u hu => by
    have := (arena_rows h hu).1
    omega
  have hq : ∀ who who' : Int, (who = 0 ∧ who' = 1) ∨ (who = 1 ∧ who' = 0) → ∀ u w : Nat, u < zss.length → w < zss.length → nth P u ≤ nth P w → nth (pressL P) w ≤ nth (pressL P) u → nth P w % 2 = who → nth (pressL P) u % 2 = who' → False := fun who who' hw u w hu hw' h1 h2 h3 h4 => by
    have a1 := press_keeps hp (v := u) (by omega)
    have a2 := press_keeps hp (v := w) (by omega)
    have a3 := press_order (P := P) (u := u) (v := w) (by omega) (by omega) h1
    have a4 : nth (pressL P) u = nth (pressL P) w := by omega
    rw [a4] at h4
    omega
  have n0 := no_both (rowsP_of h).inG h0 g1 hI hI (ho 0 1 (by omega)) (hq 0 1 (by omega)) v hv
  have n1 := no_both (rowsP_of h).inG h1 g0 hI hI (ho 1 0 (by omega)) (hq 1 0 (by omega)) v hv
  rw [reg_at hv, reg_at hv] at n0 n1
  cases e1 : wonZ zss O P v <;> cases e2 : wonZ zss O (pressL P) v <;> rw [e1, e2] at n0 n1 <;> simp at n0 n1 ⊢
end
end

section
open Go.RowKit

noncomputable def evenL (zss : List (List Int)) (O P : List Int) : List Int := (upL zss.length).filter fun x => wonZ zss O P x.toNat
noncomputable def oddL (zss : List (List Int)) (O P : List Int) : List Int := (upL zss.length).filter fun x => !wonZ zss O P x.toNat

theorem none_nth {n v : Nat} (h : v < n) : nth (List.replicate n (-1 : Int)) v = -1 := by simp [nth, h]
theorem ints_none {w : World} {k n : Nat} (h : w.rowIs k 2 n (fun _ => .int .i64 (-1))) (hn : n ≤ 256) : IntsAt w (some ⟨k, 0, none⟩) (List.replicate n (-1)) := by
  refine ⟨by simp; omega, fun j hj => ?_, fun _ => ⟨k, 0, rfl, fun j hj => ?_⟩⟩
  · have hj' : j < n := by simpa using hj
    rw [none_nth hj']; unfold Fits; omega
  · have hj' : j < n := by simpa using hj
    rw [Nat.zero_add, none_nth hj']
    exact h.cell hj'
theorem zssE_none {zss : List (List Int)} : zssE zss (List.replicate zss.length (-1)) = zss := by
  refine List.ext_getElem (by rw [zssE_len]) fun v h1 h2 => ?_
  have e1 : (zssE zss (List.replicate zss.length (-1)))[v] = row (zssE zss (List.replicate zss.length (-1))) v := by simp [row, h1]
  have e2 : zss[v] = row zss v := by simp [row, h2]
  rw [e1, e2, zssE_row h2]
  refine List.filter_eq_self.2 fun x _ => ?_
  unfold pickB
  rw [none_nth h2]; rfl
theorem deg_all {zss : List (List Int)} (hz : RowsP zss) {v : Nat} (hv : v < zss.length) : degK (allI zss.length) (List.replicate zss.length (-1)) v (row zss v) = ((row zss v).length : Int) := by
  unfold degK
  rw [List.filter_eq_self.2 fun x hx => ?_]
  obtain ⟨u, hu, hun⟩ := hz.inG v hv x hx
  unfold pickB allI
  rw [none_nth hv, hu]
  simp [hun]
theorem open_allW (n : Nat) : openS (upL n) (upL n).length = allI n := funext fun v => by
  unfold openS allI
  rw [List.take_length, decide_eq_decide, mem_nth]
  constructor
  · rintro ⟨k, hk, e⟩; rw [upL_len] at hk; rw [upL_nth hk] at e; omega
  · intro h; exact ⟨v, by rw [upL_len]; exact h, upL_nth h⟩
theorem up_mem {n : Nat} : ∀ x ∈ upL n, ∃ u : Nat, x = (u : Int) ∧ u < n := fun x hx => by
  obtain ⟨k, hk, e⟩ := mem_nth.1 hx
  rw [upL_len] at hk
  rw [upL_nth hk] at e
  exact ⟨k, e.symm, hk⟩
theorem setFrom_up {n : Int} : ∀ (zs : List Int) (l : Int), zs.Pairwise (· < ·) → (∀ x ∈ zs, l < x ∧ x < n) → setFrom n l zs = true
  | [], _, _, _ => rfl
  | z :: r, l, hp, hb => by
    obtain ⟨h1, h2⟩ := List.pairwise_cons.1 hp
    have hz := hb z (by simp)
    rw [setFrom, decide_eq_true hz]
    exact setFrom_up r z h2 fun x hx => ⟨h1 x hx, (hb x (by simp [hx])).2⟩
theorem up_set (n : Nat) : setB (n : Int) (upL n) = true := by
  refine setFrom_up _ (-1) ?_ fun x hx => ?_
  · rw [← rises_pairwise]
    intro j k hjk hk
    rw [upL_len] at hk
    rw [upL_nth (by omega), upL_nth hk]; omega
  · obtain ⟨u, hu, hun⟩ := up_mem x hx
    omega
/-- Rows of the predecessors, as the solver reads them. -/
theorem prev_rows {w : World} {B g n : Nat} {V : Nat → Value} {R : Nat → List Int} (h : RowSet w B g n V R) (hn : n ≤ 256) : RowsAt w (some ⟨g, 0, none⟩) (fun k => addrOf (V k)) (fun k => capOf (V k)) (rowsOf n R) := by
  have hl := rowsOf_len n R
  refine ⟨by omega, fun _ => ⟨g, 0, rfl, fun k hk => ?_⟩, fun k hk => ?_⟩
  · rw [hl] at hk
    obtain ⟨a, cap, hv, _, _⟩ := (h.rows k hk).shape
    rw [rowsOf_row hk, Nat.zero_add, h.own.cellAt k (by omega)]
    simp [hk, hv, addrOf, capOf]
  · rw [hl] at hk
    obtain ⟨a, cap, hv, hi, _⟩ := (h.rows k hk).shape
    rw [rowsOf_row hk, hv]
    exact hi

theorem rowset_base {w : World} {B B' q n : Nat} {V : Nat → Value} {R : Nat → List Int} (h : RowSet w B q n V R) (hB : B' ≤ B) : RowSet w B' q n V R :=
  ⟨ownsRow_base h.own hB, fun u hu => (h.rows u hu).base hB, h.apart⟩

end

end Go.Proofs.Ytihaajcmephlmaa
namespace Go.Proofs.Ytihaajcmephlmaa
section
open Go.RowKit

theorem rep_take {k : Nat} : List.replicate (k + 1) (-1 : Int) = List.replicate k (-1) ++ [-1] := by
  rw [List.replicate_succ']

/-- Whose vertices they are. -/
def regI (X : List Int) (who : Int) : Nat → Bool := fun v => nth X v == who

theorem same_of {X Y : List Int} (hl : X.length = Y.length) (h : ∀ j, j < X.length → nth X j = nth Y j) : X = Y := by
  apply List.ext_getElem hl
  intro i h1 h2
  have := h i h1
  rwa [nth_eq h1, nth_eq h2] at this

set_option maxHeartbeats 4000000 in
set_option maxRecDepth 100000 in
theorem l7HasIn_is {w : World} {a : Option Addr} {zs : List Int} {x : Int} {r : Bool} (hr : hasB zs x = r) (cap : Nat) (h : IntsAt w a zs) :
    Calls Try.prog 98 #[.slice a zs.length cap, .int .i64 x] w fun e w' => e = .returned (.bool r) ∧ w = w' := by
  have H := Lib.hid h
  have hl := h.len
  have HN : Hid (x ∉ zs → r = false) := fun h => by rw [← hr]; unfold hasB; exact decide_eq_false h
  have HE : Hid (x ∈ zs → r = true) := fun h => by rw [← hr]; unfold hasB; exact decide_eq_true h
  clear h hr
  go_enter Try.func98, Try.ntmps98
  go_wp2
  go_loopw [5] (fun iv wr => ∃ k : Nat, k ≤ zs.length ∧ iv = .int .i64 k ∧ Hid (∀ j, j < k → nth zs j ≠ x) ∧ w = wr) (fun iv _ => zs.length - (intOf iv).toNat)
  case atStart => exact ⟨0, Nat.zero_le _, rfl, fun j hj => absurd hj (Nat.not_lt_zero _), rfl⟩
  case round =>
    obtain ⟨k, hk, rfl, HJ, rfl⟩ := hrel
    by_cases hlt : k < zs.length
    · have hi1 : (k : Int) < zs.length := by omega
      have hk0 : (0 : Int) ≤ (k : Int) := by omega
      obtain ⟨b, off, ha, hc⟩ := H.out.cell (by omega)
      have z1 := hc k hlt
      obtain ⟨z, hz⟩ : ∃ q, q = nth zs k := ⟨_, rfl⟩
      rw [← hz] at z1
      have HZ := Lib.hid hz
      subst ha
      clear hc hz
      by_cases e : z = x
      · have he : (z == x) = true := by simpa using e
        have HF : Hid (r = true) := HE.out (by rw [← e, HZ.out]; exact nth_mem hlt)
        clear e
        go_wp2
        go_ret
        exact ⟨ret_bool HF.out.symm, rfl⟩
      · have he : (z == x) = false := beq_eq_false_iff_ne.2 e
        have HJn : Hid (∀ j, j < k + 1 → nth zs j ≠ x) := fun j hj => by
          by_cases h : j = k
          · subst h; rw [← HZ.out]; exact e
          · exact HJ.out j (by omega)
        clear e
        go_wp2
        go_roundw
        case rel => exact ⟨k + 1, by omega, by go_num, HJn, by simp⟩
        case measure => simp [intOf]; omega
    · have hi1 : ¬ (k : Int) < zs.length := by omega
      have HF : Hid (r = false) := HN.out fun h => by
        obtain ⟨j, hj, e⟩ := mem_nth.1 h
        exact HJ.out j (by omega) e
      go_wp2
      go_ret
      exact ⟨ret_bool HF.out.symm, rfl⟩

/-- Does who win all of I, by the picks? -/
noncomputable def holdsZ (zss : List (List Int)) (O P Pk : List Int) (I : Nat → Bool) (who : Int) : Bool := !anyK (fun v => I v && (winZ (zssE zss Pk) O (nth P) zss.length I v != decide (who = 0))) zss.length
theorem anyK_no {f : Nat → Bool} : ∀ {n : Nat}, anyK f n = false ↔ ∀ v, v < n → f v = false
  | 0 => by simp [anyK]
  | n + 1 => by
    rw [anyK, Bool.or_eq_false_iff, anyK_no]
    constructor
    · rintro ⟨h1, h2⟩ v hv
      by_cases e : v = n
      · subst e; exact h2
      · exact h1 v (by omega)
    · exact fun h => ⟨fun v hv => h v (by omega), h n (by omega)⟩

end

section
open Go.RowKit

/-- The winners. -/
noncomputable def wonL (zss : List (List Int)) (O P : List Int) : List Int := fnL zss.length fun v => if wonZ zss O P v = true then 0 else 1
theorem wonL_len {zss : List (List Int)} {O P : List Int} : (wonL zss O P).length = zss.length := fnL_len _ _
theorem wonL_nth {zss : List (List Int)} {O P : List Int} {v : Nat} (h : v < zss.length) : nth (wonL zss O P) v = if wonZ zss O P v = true then 0 else 1 := fnL_nth h

end

section
open Go.RowKit

/-- Picks of successors. -/
def PicksP (zss : List (List Int)) (Pk : List Int) : Prop := Pk.length = zss.length ∧ ∀ v, v < Pk.length → nth Pk v = -1 ∨ nth Pk v ∈ row zss v
noncomputable def picksB (zss : List (List Int)) (Pk : List Int) : Bool := @decide (PicksP zss Pk) (Classical.propDecidable _)
theorem picksB_iff {zss : List (List Int)} {Pk : List Int} : picksB zss Pk = true ↔ PicksP zss Pk := by unfold picksB; rw [@decide_eq_true_eq _ (Classical.propDecidable _)]
theorem picksB_no {zss : List (List Int)} {Pk : List Int} (h : ¬ PicksP zss Pk) : picksB zss Pk = false := by
  cases hb : picksB zss Pk with
  | false => rfl
  | true => exact absurd (picksB_iff.1 hb) h

theorem ints_nums {w : World} {k n : Nat} {Pk : List Int} (h : w.rowIs k 2 n (numsV (nth Pk))) (hl : Pk.length = n) (hn : n ≤ 256) (hf : ∀ j, j < n → Fits (nth Pk j)) : IntsAt w (some ⟨k, 0, none⟩) Pk := by
  refine ⟨by omega, fun j hj => hf j (by omega), fun _ => ⟨k, 0, rfl, fun j hj => ?_⟩⟩
  have h1 := World.rowIs.cell (i := j) h (by omega)
  rw [Nat.zero_add]
  exact h1

/-- The first successor in the part with which it holds. -/
def pickZ (hold : Int → Bool) (I : Nat → Bool) : List Int → Int
  | [] => -1
  | u :: us => if I u.toNat && hold u then u else pickZ hold I us
theorem drop_nth {zs : List Int} {i : Nat} (h : i < zs.length) : zs.drop i = nth zs i :: zs.drop (i + 1) := by
  rw [List.drop_eq_getElem_cons h, nth_eq h]

/-- What is read of the solver's game but for the picks. -/
structure RestL (w : World) (ao ap an aq : Option Addr) (A : Nat → Option Addr) (C : Nat → Nat) (A' : Nat → Option Addr) (C' : Nat → Nat) (O P : List Int) (zss : List (List Int)) (bI : Nat) (I : Nat → Bool) : Prop where
  own : IntsAt w ao O
  prio : IntsAt w ap P
  next : RowsAt w an A C zss
  prev : RowsAt w aq A' C' (rowsOf zss.length fun u => predsK zss u zss.length)
  part : w.rowIs bI 4 zss.length (marksV I)

end

end Go.Proofs.Ytihaajcmephlmaa
namespace Go.Proofs.Ytihaajcmephlmaa
section
section
open Go.Shelf
def sortLays_ren : Go.Shelf.Ren := ⟨fun | 5 => 92 | 8 => 114 | 7 => 113 | 19 => 131 | 20 => 132 | 10 => 122 | 11 => 123 | 12 => 124 | 13 => 125 | 14 => 126 | 15 => 127 | 16 => 128 | 17 => 129 | 18 => 130 | 30 => 145 | 31 => 146 | 32 => 147 | 33 => 148 | 34 => 149 | 35 => 106 | 40 => 153 | n => n, fun | 23 => 27 | 25 => 2 | 3 => 3 | 32 => 67 | 22 => 27 | 0 => 0 | 44 => 140 | 46 => 26 | 4 => 4 | 36 => 133 | 35 => 132 | 41 => 137 | 5 => 5 | 9 => 9 | 53 => 151 | 57 => 155 | 63 => 159 | 64 => 160 | n => n, fun | n => n⟩
theorem sortLays : Go.Proofs.SlLaysM.n5 Try.prog sortLays_ren := {
  mixed := by kernel_rfl
  f5 := ⟨Try.f92.name, by decide, Try.func92.trans (congrArg some (by kernel_rfl))⟩
  f7 := ⟨Try.f113.name, by decide, Try.func113.trans (congrArg some (by kernel_rfl))⟩
  f8 := Try.func114.trans (congrArg some (by kernel_rfl))
  f10 := ⟨Try.f122.name, by decide, Try.func122.trans (congrArg some (by kernel_rfl))⟩
  f11 := ⟨Try.f123.name, by decide, Try.func123.trans (congrArg some (by kernel_rfl))⟩
  f12 := ⟨Try.f124.name, by decide, Try.func124.trans (congrArg some (by kernel_rfl))⟩
  f13 := ⟨Try.f125.name, by decide, Try.func125.trans (congrArg some (by kernel_rfl))⟩
  f14 := ⟨Try.f126.name, by decide, Try.func126.trans (congrArg some (by kernel_rfl))⟩
  f15 := ⟨Try.f127.name, by decide, Try.func127.trans (congrArg some (by kernel_rfl))⟩
  f16 := ⟨Try.f128.name, by decide, Try.func128.trans (congrArg some (by kernel_rfl))⟩
  f17 := ⟨Try.f129.name, by decide, Try.func129.trans (congrArg some (by kernel_rfl))⟩
  f18 := ⟨Try.f130.name, by decide, Try.func130.trans (congrArg some (by kernel_rfl))⟩
  f19 := Try.func131.trans (congrArg some (by kernel_rfl))
  f20 := Try.func132.trans (congrArg some (by kernel_rfl))
  f30 := ⟨Try.f145.name, by decide, Try.func145.trans (congrArg some (by kernel_rfl))⟩
  f31 := Try.func146.trans (congrArg some (by kernel_rfl))
  f32 := Try.func147.trans (congrArg some (by kernel_rfl))
  f33 := ⟨Try.f148.name, by decide, Try.func148.trans (congrArg some (by kernel_rfl))⟩
  f34 := ⟨Try.f149.name, by decide, Try.func149.trans (congrArg some (by kernel_rfl))⟩
  f35 := ⟨Try.f106.name, by decide, Try.func106.trans (congrArg some (by kernel_rfl))⟩
  f40 := ⟨Try.f153.name, by decide, Try.func153.trans (congrArg some (by kernel_rfl))⟩
  t0 := Try.underlying0
  a0 := Try.isAgg0
  z0 := Try.sizeOf0
  v0 := Try.zeroValue0
  t3 := Try.underlying3
  a3 := Try.isAgg3
  z3 := Try.sizeOf3
  v3 := Try.zeroValue3
  t4 := Try.underlying4
  a4 := Try.isAgg4
  z4 := Try.sizeOf4
  v4 := Try.zeroValue4
  t5 := Try.underlying5
  a5 := Try.isAgg5
  z5 := Try.sizeOf5
  v5 := Try.zeroValue5
  t9 := Try.underlying9
  a9 := Try.isAgg9
  z9 := Try.sizeOf9
  v9 := Try.zeroValue9
  t22 := Try.underlying27
  a22 := Try.isAgg27
  z22 := Try.sizeOf27
  v22 := Try.zeroValue27
  t23 := Try.underlying27
  a23 := Try.isAgg27
  z23 := Try.sizeOf27
  v23 := Try.zeroValue27
  t25 := Try.underlying2
  a25 := Try.isAgg2
  z25 := Try.sizeOf2
  v25 := Try.zeroValue2
  t32 := Try.underlying67
  a32 := Try.isAgg67
  z32 := Try.sizeOf67
  v32 := Try.zeroValue67
  t35 := Try.underlying132
  a35 := Try.isAgg132
  z35 := Try.sizeOf132
  v35 := Try.zeroValue132
  t36 := Try.underlying133
  a36 := Try.isAgg133
  z36 := Try.sizeOf133
  v36 := Try.zeroValue133
  t41 := Try.underlying137
  a41 := Try.isAgg137
  z41 := Try.sizeOf137
  v41 := Try.zeroValue137
  t44 := Try.underlying140
  a44 := Try.isAgg140
  z44 := Try.sizeOf140
  v44 := Try.zeroValue140
  t46 := Try.underlying26
  a46 := Try.isAgg26
  z46 := Try.sizeOf26
  v46 := Try.zeroValue26
  t53 := Try.underlying151
  a53 := Try.isAgg151
  z53 := Try.sizeOf151
  v53 := Try.zeroValue151
  t57 := Try.underlying155
  a57 := Try.isAgg155
  z57 := Try.sizeOf155
  v57 := Try.zeroValue155
  t63 := Try.underlying159
  a63 := Try.isAgg159
  z63 := Try.sizeOf159
  v63 := Try.zeroValue159
  t64 := Try.underlying160
  a64 := Try.isAgg160
  z64 := Try.sizeOf160
  v64 := Try.zeroValue160 }
end

section
open Go.RowKit Go.Sort

theorem sort_own {w : World} {B : Nat} {v : Value} {zs : List Int} (h : w.ownsRow B 2 1 v zs.length (zs.map (Value.int .i64))) (hl : zs.length ≤ 1048576) :
    Calls Try.prog 92 #[v] w fun e w' => e = .returned (.tuple #[]) ∧ w'.ownsRow B 2 1 v zs.length ((zs.mergeSort fun x y => decide (x ≤ y)).map (Value.int .i64)) ∧ Only (fun b => v.ownBlock = some b) w w' := by
  rcases h.2 with ⟨hv, h0⟩ | ⟨g, cap, cur, hv, hg, hb, hc, hm, hcs, ht⟩
  · have hz : zs = [] := List.length_eq_zero_iff.1 h0
    subst hz
    subst hv
    refine (AnyM.slices_Sort_int_none sortLays none 0 w).mono ?_
    rintro e w' ⟨rfl, rfl⟩
    exact ⟨rfl, by simpa using h, Only.refl _ _⟩
  · subst hv
    have hlt : g < w.heap.size := (Array.getElem?_eq_some_iff.1 hb).1
    refine (AnyM.slices_Sort_int sortLays g 0 cap zs w (holds_of_blockI hb (by simpa using ht)) hlt (by omega)).mono ?_
    rintro e w' ⟨rfl, n, os, rfl⟩
    refine ⟨rfl, ownsRow_sortedI (List.length_mergeSort _) hg hb hc hm hcs, ?_⟩
    exact (Only.of_grown (grownBy_sortedI (w := w) (g := g) (n := n) (os := os) _)).mono fun b hb => by simpa [Value.ownBlock] using hb
end
end

section
open Go.Shelf
end

section
open Go.Shelf
end

section
open Go.RowKit Go.Sort

theorem zero23 : ∀ w, (zeroValue 2).run Try.prog w = .ok (.int .i64 0) w := Try.zeroValue2

theorem rows_pair {w : World} {a a' : Option Addr} {S T : List Int} {cs ct : Nat} (t : TypeId) (h : IntsAt w a S) (h' : IntsAt w a' T) :
    RowsAt (w.alloc (.cells #[.slice a S.length cs, .slice a' T.length ct] t)) (some ⟨w.heap.size, 0, none⟩) (fun k => if k = 0 then a else a') (fun k => if k = 0 then cs else ct) [S, T] := by
  have hb := Box2.new w t (.slice a S.length cs) (.slice a' T.length ct)
  refine ⟨by simp, fun _ => ⟨_, 0, rfl, fun k hk => ?_⟩, fun k hk => ?_⟩
  · match k with
    | 0 => exact hb.cell0
    | 1 => exact hb.cell1
    | k + 2 => exact absurd hk (by simp)
  · match k with
    | 0 => exact h.alloc _
    | 1 => exact h'.alloc _
    | k + 2 => exact absurd hk (by simp)

theorem catK_fits {w : World} {a : Option Addr} {A : Nat → Option Addr} {C : Nat → Nat} {zss : List (List Int)} (h : RowsAt w a A C zss) : ∀ n, n ≤ zss.length → ∀ k, k < (catK zss n).length → Fits (nth (catK zss n) k)
  | 0, _, k, hk => absurd hk (by simp [catK])
  | n + 1, hn, k, hk => by
    have hm := nth_mem hk
    generalize nth (catK zss (n + 1)) k = y at hm
    rw [catK, List.mem_append] at hm
    rcases hm with hm | hm
    · obtain ⟨j, hj, e⟩ := mem_nth.1 hm
      rw [← e]; exact catK_fits h n (by omega) j hj
    · obtain ⟨j, hj, e⟩ := mem_nth.1 hm
      rw [← e]; exact (h.rows n (by omega)).fits j hj

end

section
open Go.RowKit

set_option maxHeartbeats 1000000 in
set_option maxRecDepth 100000 in
theorem Grow5_is {w : World} (n : Nat) (hn : n ≤ 2097152) :
    Calls Try.prog 112 #[.slice none 0 0, .int .i64 n] w fun e w' => ∃ v, e = .returned v ∧ w'.ownsRow w.heap.size 2 1 v 0 [] ∧ Below w.heap.size w w' := by
  obtain ⟨i0, hi, hz0, hz1, hz2⟩ := info_parts info_int
  by_cases h0 : 0 < n
  · have hrun := Go.Lib.run_append_nil_zeros (P := Try.prog) w 27 3 27 2 i0 (.int .i64 0) .i64 .i64 Try.underlying27 Try.underlying3 hi hz0 n h0 (by omega) (by omega) (by rw [hz2]; omega)
    obtain ⟨cp, hcp⟩ : ∃ c, grownCap w n 0 2 = c := ⟨_, rfl⟩
    have hcm := grownCap_le_maxLen w n 0 2 (by unfold maxLen; omega)
    have hcg := grownCap_ge w n 0 2
    rw [hcp] at hrun hcm hcg
    obtain ⟨cs, hcs⟩ : ∃ c, Builtin.zeroCells (Value.int .i64 0).cells n ++ Builtin.zeroCells (Value.int .i64 0).cells (cp - n) = c := ⟨_, rfl⟩
    have hcz : cs.size = cp := by
      rw [← hcs]; simp [Builtin.zeroCells, Value.cells]; omega
    rw [hcs] at hrun
    have HRUN := Lib.hid hrun
    clear hrun hcs hcp
    have hi1 : (0 : Int) < n := by omega
    go_enter Try.func112, Try.ntmps112
    go_wp2_with (at_builtin; refine Go.Lib.wpList_append_run _ rfl _ _ 27 3 rfl _ _ rfl rfl _ _ HRUN.out ?_)
    go_ret
    refine ⟨_, rfl, ⟨by simp, .inr ⟨w.heap.size, cp, cs, rfl, Nat.le_refl _, ?_, Nat.zero_le _, hcm, by omega, by simp⟩⟩, ?_⟩
    · exact heap_alloc_new w.drew _
    · exact (Below.refl _ _).drew.alloc (Nat.le_refl _) _
  · have hn0 : n = 0 := by omega
    subst hn0
    go_enter Try.func112, Try.ntmps112
    go_wp2
    go_ret
    exact ⟨_, rfl, World.ownsRow_nil _ _ _ _, Below.refl _ _⟩

theorem rows_three {w : World} {a a' b : Option Addr} {S T U : List Int} {cs ct cu : Nat} (t : TypeId) (h : IntsAt w a S) (h' : IntsAt w a' T) (h2 : IntsAt w b U) :
    RowsAt (w.alloc (.cells #[.slice a S.length cs, .slice a' T.length ct, .slice b U.length cu] t)) (some ⟨w.heap.size, 0, none⟩) (fun k => if k = 0 then a else if k = 1 then a' else b) (fun k => if k = 0 then cs else if k = 1 then ct else cu) [S, T, U] := by
  have hb := Box3.new w t (.slice a S.length cs) (.slice a' T.length ct) (.slice b U.length cu)
  refine ⟨by simp, fun _ => ⟨_, 0, rfl, fun k hk => ?_⟩, fun k hk => ?_⟩
  · match k with
    | 0 => exact hb.c0
    | 1 => exact hb.c1
    | 2 => exact hb.c2
    | k + 3 => exact absurd hk (by simp)
  · match k with
    | 0 => exact h.alloc _
    | 1 => exact h'.alloc _
    | 2 => exact h2.alloc _
    | k + 3 => exact absurd hk (by simp)

set_option maxHeartbeats 2000000 in
set_option maxRecDepth 100000 in
theorem Concat5_is {w : World} {a : Option Addr} {A : Nat → Option Addr} {C : Nat → Nat} {zss : List (List Int)} (cap : Nat) (h : RowsAt w a A C zss) (hl : zss.length ≤ 1048576) (hs : sumLen zss zss.length ≤ 1048576) :
    Calls Try.prog 87 #[.slice a zss.length cap] w (GivesInts w (catK zss zss.length)) := by
  obtain ⟨i0, hi, hz0, hz1, hz2⟩ := info_parts info_int
  have HR := Lib.hid h
  have HCF := Lib.hid (catK_fits h zss.length (Nat.le_refl _))
  have HG := Lib.hid (Grow5_is (w := w) (sumLen zss zss.length) (by omega))
  clear h
  go_enter Try.func87, Try.ntmps87
  go_wp2
  go_loop [3, 11] (fun s i => ∃ k : Nat, k ≤ zss.length ∧ i = .int .i64 k ∧ s = .int .i64 (sumLen zss k)) (fun _ i => zss.length - (intOf i).toNat)
  case atStart => exact ⟨0, Nat.zero_le _, rfl, rfl⟩
  case round =>
    obtain ⟨k, hk, rfl, rfl⟩ := hrel
    by_cases hlt : k < zss.length
    · obtain ⟨b, off, ha, hc⟩ := HR.out.cell (by omega)
      subst ha
      have hck := hc k hlt
      clear hc
      have hsum : sumLen zss k + (row zss k).length ≤ 1048576 := by have := sumLen_mono zss (show k + 1 ≤ zss.length by omega); simp only [sumLen] at this; omega
      have HE : Hid (((sumLen zss (k + 1) : Nat) : Int) = (sumLen zss k : Int) + ((row zss k).length : Int)) := by simp [sumLen, Hid]
      go_wp2
      go_round
      case rel => exact ⟨k + 1, by omega, by go_num, by rw [HE.out]⟩
      case measure => simp [intOf]; omega
    · have hkk : k = zss.length := by omega
      subst hkk
      go_wp2_with fail
      refine HG.out.mono ?_
      rintro e w1 ⟨v, rfl, hv, hb⟩
      have HV := Lib.hid hv
      have HB := Lib.hid hb
      clear hv hb
      go_wp2
      go_loopw [6, 27] (fun u i wr => ∃ (k : Nat) (uu : Value), uu = u ∧ k ≤ zss.length ∧ i = .int .i64 k ∧ Hid (wr.ownsRow w.heap.size 2 1 u (catK zss k).length ((catK zss k).map (Value.int .i64))) ∧ Hid (Below w.heap.size w wr)) (fun _ i _ => zss.length - (intOf i).toNat)
      case atStart => exact ⟨0, _, rfl, Nat.zero_le _, rfl, HV, HB⟩
      case round =>
        clear HV HB HG
        obtain ⟨k, uu, hu0, hk, rfl, HU, HB⟩ := hrel
        subst hu0
        have hsz := HB.out.size
        by_cases hlt : k < zss.length
        · obtain ⟨b, off, ha, hc⟩ := (HR.out.below HB.out).cell (by omega)
          subst ha
          have hck := hc k hlt
          clear hc
          have hsum : sumLen zss k + (row zss k).length ≤ 1048576 := by have := sumLen_mono zss (show k + 1 ≤ zss.length by omega); simp only [sumLen] at this; omega
          have HRow := Lib.hid ((HR.out.below HB.out).rows k hlt)
          have HCL := Lib.hid (catK_len zss k)
          have e1 : (catK zss (k + 1)).length = (catK zss k).length + (row zss k).length := by simp [catK]
          have e2 : (catK zss (k + 1)).map (Value.int .i64) = (catK zss k).map (Value.int .i64) ++ (row zss k).map (Value.int .i64) := by simp [catK]
          have E1 := Lib.hid e1
          have E2 := Lib.hid e2
          clear e1 e2
          cases hA : A k with
          | none =>
            rw [hA] at hck HRow
            have hz : row zss k = [] := List.length_eq_zero_iff.1 (by
              rcases Nat.eq_zero_or_pos (row zss k).length with h | h
              · exact h
              · obtain ⟨b, off, ha, _⟩ := HRow.out.cell h; cases ha)
            have HU2 : Hid (wr.ownsRow w.heap.size 2 1 uu (catK zss (k + 1)).length ((catK zss (k + 1)).map (Value.int .i64))) := Lib.hid (by
              rw [E1.out, E2.out, hz]; simpa using HU.out)
            rw [hz] at hck
            clear hA hz E1 E2
            go_wp2_with (at_builtin; refine wpList_append_nil rfl _ _ 27 rfl w.heap.size 2 i0 1 Try.underlying27 hi _ _ _ rfl HU.out _ rfl ?_)
            go_roundw
            case rel => exact ⟨k + 1, _, rfl, by omega, by go_num, HU2, HB⟩
            case measure => simp [intOf]; omega
          | some ad =>
            rw [hA] at hck HRow
            clear hA
            go_wp2_with (at_builtin; refine wpList_append_own_at _ rfl _ _ 27 rfl w.heap.size 2 i0 (.int .i64 0) 1 8 Try.underlying27 hi hz0 hz1 hz2 rfl (by decide) _ _ _ rfl HU.out ad (row zss k).length (C k) ((row zss k).map (Value.int .i64)) rfl ?c0 ?c1 ?c2 ?c3 ?c4 ?c5 ?_)
            case c0 => simp
            case c1 => exact news_of HRow.out
            case c2 => exact one_of _
            case c3 => have := HCL.out; unfold maxLen; omega
            case c4 => have := HCL.out; omega
            case c5 => exact hsz
            · intro v' w1' hown' hgrow _ _
              have HBn := Lib.hid (HB.out.grown hgrow hsz (fun g hg => (HU.out.lt g hg).1))
              have HOn := Lib.hid hown'
              rw [← E1.out, ← E2.out] at HOn
              clear hown' hgrow
              go_wp2
              go_roundw
              case rel => exact ⟨k + 1, _, rfl, by omega, by go_num, HOn, HBn⟩
              case measure => simp [intOf]; omega
        · have hkk : k = zss.length := by omega
          rw [hkk] at HU
          have hcl := catK_len zss zss.length
          have hfin := Lib.hid (And.intro (OwnInts.mk' HU.out (by omega) HCF.out) HB.out)
          clear hkk HU hcl
          go_wp2
          go_ret
          exact ⟨_, rfl, hfin.out⟩
end

end Go.Proofs.Ytihaajcmephlmaa
namespace Go.Proofs.Ytihaajcmephlmaa
section
open Go.RowKit

/-- The greatest of the first k + 1. -/
def maxN (zs : List Int) : Nat → Int
  | 0 => nth zs 0
  | k + 1 => if maxN zs k < nth zs (k + 1) then nth zs (k + 1) else maxN zs k
/-- The least of the first k + 1. -/
def minN (zs : List Int) : Nat → Int
  | 0 => nth zs 0
  | k + 1 => if nth zs (k + 1) < minN zs k then nth zs (k + 1) else minN zs k
theorem maxN_ge {zs : List Int} : ∀ {k j : Nat}, j ≤ k → nth zs j ≤ maxN zs k
  | 0, j, h => by have : j = 0 := by omega
                  subst this; exact Int.le_refl _
  | k + 1, j, h => by
    rw [maxN]
    by_cases e : j = k + 1
    · subst e; split <;> omega
    · have := maxN_ge (zs := zs) (k := k) (j := j) (by omega); split <;> omega
theorem maxN_at {zs : List Int} : ∀ k, ∃ j, j ≤ k ∧ nth zs j = maxN zs k
  | 0 => ⟨0, Nat.le_refl _, rfl⟩
  | k + 1 => by
    rw [maxN]
    obtain ⟨j, hj, e⟩ := maxN_at (zs := zs) k
    by_cases h : maxN zs k ≤ nth zs (k + 1)
    · exact ⟨k + 1, Nat.le_refl _, by split <;> omega⟩
    · exact ⟨j, by omega, by split <;> omega⟩
theorem minN_le {zs : List Int} : ∀ {k j : Nat}, j ≤ k → minN zs k ≤ nth zs j
  | 0, j, h => by have : j = 0 := by omega
                  subst this; exact Int.le_refl _
  | k + 1, j, h => by
    rw [minN]
    by_cases e : j = k + 1
    · subst e; split <;> omega
    · have := minN_le (zs := zs) (k := k) (j := j) (by omega); split <;> omega
theorem minN_at {zs : List Int} : ∀ k, ∃ j, j ≤ k ∧ nth zs j = minN zs k
  | 0 => ⟨0, Nat.le_refl _, rfl⟩
  | k + 1 => by
    rw [minN]
    obtain ⟨j, hj, e⟩ := minN_at (zs := zs) k
    by_cases h : nth zs (k + 1) ≤ minN zs k
    · exact ⟨k + 1, Nat.le_refl _, by split <;> omega⟩
    · exact ⟨j, by omega, by split <;> omega⟩

set_option maxHeartbeats 2000000 in
set_option maxRecDepth 100000 in
theorem Max_is {w : World} {a : Option Addr} {zs : List Int} {m : Int} (cap : Nat) (hm : maxN zs (zs.length - 1) = m) (h : IntsAt w a zs) (hz : 0 < zs.length) :
    Calls Try.prog 105 #[.slice a zs.length cap] w fun e w' => e = .returned (.int .i64 m) ∧ w = w' := by
  have hlen := h.len
  obtain ⟨b, off, ha, hc⟩ := h.cell hz
  subst ha
  have h0 := hc 0 hz
  rw [Nat.add_zero] at h0
  have HC := Lib.hid hc
  have HM := Lib.hid hm
  obtain ⟨n, hn⟩ : ∃ n, n = zs.length := ⟨_, rfl⟩
  rw [← hn] at hlen hz ⊢
  have HN := Lib.hid hn
  have h1 : ¬ (n : Int) < 1 := by omega
  have h2 : (0 : Int) < n := by omega
  clear hc hm h hn
  go_enter Try.func105, Try.ntmps105
  go_wp2
  go_loopw [3, 4] (fun mv iv wr => ∃ k : Nat, k + 1 ≤ n ∧ iv = .int .i64 ((k : Int) + 1) ∧ mv = .int .i64 (maxN zs k) ∧ wr = w) (fun _ iv _ => n + 1 - (intOf iv).toNat)
  case atStart => exact ⟨0, by omega, rfl, rfl, rfl⟩
  case round =>
    obtain ⟨k, hk, rfl, rfl, rfl⟩ := hrel
    by_cases hlt : k + 1 < n
    · have hi1 : (k : Int) + 1 < n := by omega
      have hi0 : (0 : Int) ≤ (k : Int) + 1 := by omega
      have hw : IntKind.i64.wrap ((k : Int) + 1 + 1) = (k : Int) + 1 + 1 := IntWalk.i64_in _ (by omega)
      have ht : ((k : Int) + 1).toNat = k + 1 := by omega
      have c1 := HC.out (k + 1) (by have := HN.out; omega)
      have HS : Hid (maxN zs (k + 1) = if maxN zs k < nth zs (k + 1) then nth zs (k + 1) else maxN zs k) := rfl
      obtain ⟨q, hq⟩ : ∃ q, q = maxN zs k := ⟨_, rfl⟩
      obtain ⟨x, hx⟩ : ∃ x, x = nth zs (k + 1) := ⟨_, rfl⟩
      rw [← hq, ← hx] at HS
      rw [← hx] at c1
      rw [← hq]
      clear hq hx
      go_wp2
      go_roundw
      case rel => exact ⟨k + 1, by omega, by go_num, by rw [HS.out]; first | done | (congr 1; split <;> omega), by first | rfl | trivial⟩
      case measure => simp [intOf]; omega
    · have hi1 : ¬ (k : Int) + 1 < n := by omega
      have HE : Hid (maxN zs k = m) := by rw [← HM.out, show zs.length - 1 = k by have := HN.out; omega]; rfl
      go_wp2
      go_ret
      exact ⟨ret_i64 HE.out, rfl⟩

set_option maxHeartbeats 2000000 in
set_option maxRecDepth 100000 in
theorem Min_is {w : World} {a : Option Addr} {zs : List Int} {m : Int} (cap : Nat) (hm : minN zs (zs.length - 1) = m) (h : IntsAt w a zs) (hz : 0 < zs.length) :
    Calls Try.prog 104 #[.slice a zs.length cap] w fun e w' => e = .returned (.int .i64 m) ∧ w = w' := by
  have hlen := h.len
  obtain ⟨b, off, ha, hc⟩ := h.cell hz
  subst ha
  have h0 := hc 0 hz
  rw [Nat.add_zero] at h0
  have HC := Lib.hid hc
  have HM := Lib.hid hm
  obtain ⟨n, hn⟩ : ∃ n, n = zs.length := ⟨_, rfl⟩
  rw [← hn] at hlen hz ⊢
  have HN := Lib.hid hn
  have h1 : ¬ (n : Int) < 1 := by omega
  have h2 : (0 : Int) < n := by omega
  clear hc hm h hn
  go_enter Try.func104, Try.ntmps104
  go_wp2
  go_loopw [3, 4] (fun mv iv wr => ∃ k : Nat, k + 1 ≤ n ∧ iv = .int .i64 ((k : Int) + 1) ∧ mv = .int .i64 (minN zs k) ∧ wr = w) (fun _ iv _ => n + 1 - (intOf iv).toNat)
  case atStart => exact ⟨0, by omega, rfl, rfl, rfl⟩
  case round =>
    obtain ⟨k, hk, rfl, rfl, rfl⟩ := hrel
    by_cases hlt : k + 1 < n
    · have hi1 : (k : Int) + 1 < n := by omega
      have hi0 : (0 : Int) ≤ (k : Int) + 1 := by omega
      have hw : IntKind.i64.wrap ((k : Int) + 1 + 1) = (k : Int) + 1 + 1 := IntWalk.i64_in _ (by omega)
      have ht : ((k : Int) + 1).toNat = k + 1 := by omega
      have c1 := HC.out (k + 1) (by have := HN.out; omega)
      have HS : Hid (minN zs (k + 1) = if nth zs (k + 1) < minN zs k then nth zs (k + 1) else minN zs k) := rfl
      obtain ⟨q, hq⟩ : ∃ q, q = minN zs k := ⟨_, rfl⟩
      obtain ⟨x, hx⟩ : ∃ x, x = nth zs (k + 1) := ⟨_, rfl⟩
      rw [← hq, ← hx] at HS
      rw [← hx] at c1
      rw [← hq]
      clear hq hx
      go_wp2
      go_roundw
      case rel => exact ⟨k + 1, by omega, by go_num, by rw [HS.out]; first | done | (congr 1; split <;> omega), by first | rfl | trivial⟩
      case measure => simp [intOf]; omega
    · have hi1 : ¬ (k : Int) + 1 < n := by omega
      have HE : Hid (minN zs k = m) := by rw [← HM.out, show zs.length - 1 = k by have := HN.out; omega]; rfl
      go_wp2
      go_ret
      exact ⟨ret_i64 HE.out, rfl⟩
end

section
open Go.Shelf
end

section
open Go.RowKit Go.Shelf Go.Sort

attribute [local go_sem] Oper.semAt_some

theorem take_next {zs : List Int} {k : Nat} (h : k < zs.length) : zs.take (k + 1) = zs.take k ++ [nth zs k] := by
  rw [List.take_add_one, List.getElem?_eq_getElem h, nth_eq h]; rfl

set_option maxRecDepth 100000 in
set_option maxHeartbeats 2000000 in
/-- What slices.Values hands back, called with a loop's body. -/
theorem values1_in (F : Fence) (m : Nat) (hF : F.fn 101) (hro : F.round = none) (hm : 1 ≤ m) (l Bs n₀ b off cap : Nat) (zs : List Int) (hreach : zs.length ≤ 1048576) (hb : b < n₀) (J Jx : List Int → World → Prop)
    (hY : ∀ pre x W, J pre W → pre.length < zs.length → YieldAt F (m - 1) Try.prog l #[.int .i64 x] W fun e W' =>
      (e = .returned (.bool true) ∧ J (pre ++ [x]) W' ∧ Below n₀ W W') ∨ (e = .returned (.bool false) ∧ Jx (pre ++ [x]) W'))
    (W : World) (hBs : W.cell? ⟨Bs, 0, none⟩ = some (.slice (some ⟨b, off, none⟩) zs.length cap)) (hc : ∀ j, j < zs.length → W.cell? ⟨b, off + j, none⟩ = some (.int .i64 (nth zs j))) (h0 : J [] W) :
    CallsIn F m Try.prog 101 #[.func (.yield l) #[] #[], .pointer (some ⟨Bs, 0, none⟩)] W fun e W' => (∃ v, e = .returned v) ∧
      ((∃ ys, ys = zs ∧ J ys W') ∨ (∃ pre, (∃ k, k ≤ zs.length ∧ pre = zs.take k) ∧ Jx pre W')) := by
  refine callsIn_of_wp Try.func101 rfl hF ?_ hro
  simp only [Try.ntmps101, List.size_toArray, List.length_cons, List.length_nil, Nat.reduceAdd, Nat.reduceSub, Array.replicate_succ, Array.replicate_zero, List.push_toArray, List.append_toArray, List.nil_append, List.cons_append]
  gi_wp2
  gi_loopw [7] (fun i wr => ∃ k : Nat, k ≤ zs.length ∧ i = .int .i64 k ∧ J (zs.take k) wr ∧ Below n₀ W wr) (fun i _ => zs.length - (intOf i).toNat)
  case atStart => exact ⟨0, Nat.zero_le _, rfl, by simpa using h0, Below.refl _ _⟩
  case round =>
    obtain ⟨k, hk, rfl, hJs, hnx⟩ := hrel
    by_cases hlt : k < zs.length
    · have hcx : wr.cell? ⟨b, off + k, none⟩ = some (.int .i64 (nth zs k)) := (hnx.cell (p := ⟨b, off + k, none⟩) hb).trans (hc k hlt)
      have hY1 := hY _ (nth zs k) wr hJs (by rw [List.length_take]; omega)
      rw [← take_next hlt] at hY1
      obtain ⟨fn, tmps, assign, body, hy, hR⟩ := hY1
      gi_wp2
      refine hR.mono ?_
      rintro e W3 (⟨rfl, hJ3, hk3⟩ | ⟨rfl, hJx3⟩)
      · gi_wp2
        go_roundw
        case rel => exact ⟨k + 1, by omega, by go_num, hJ3, hnx.trans hk3⟩
        case measure => simp [intOf]; omega
      · gi_wp2
        refine bodyPost_ret (results_none rfl _ _ _) rfl ?_
        exact ⟨⟨_, rfl⟩, .inr ⟨_, ⟨k + 1, by omega, rfl⟩, hJx3⟩⟩
    · obtain rfl : k = zs.length := by omega
      gi_wp2
      go_end0
      exact ⟨⟨_, rfl⟩, .inl ⟨_, List.take_length, hJs⟩⟩

set_option maxRecDepth 100000 in
set_option maxHeartbeats 1000000 in
/-- .. at no numbers. -/
theorem values1_nil_in (F : Fence) (m : Nat) (hF : F.fn 101) (hro : F.round = none) (l Bs : Nat) (J : List Int → World → Prop) (W : World) (a : Option Addr) (cap : Nat) (hBs : W.cell? ⟨Bs, 0, none⟩ = some (.slice a 0 cap)) (h0 : J [] W) :
    CallsIn F m Try.prog 101 #[.func (.yield l) #[] #[], .pointer (some ⟨Bs, 0, none⟩)] W fun e W' => (∃ v, e = .returned v) ∧ J [] W' := by
  refine callsIn_of_wp Try.func101 rfl hF ?_ hro
  simp only [Try.ntmps101, List.size_toArray, List.length_cons, List.length_nil, Nat.reduceAdd, Nat.reduceSub, Array.replicate_succ, Array.replicate_zero, List.push_toArray, List.append_toArray, List.nil_append, List.cons_append]
  gi_wp2
  gi_loopw [7] (fun i wr => i = .int .i64 0 ∧ J [] wr) (fun _ _ => 0)
  case atStart => exact ⟨rfl, h0⟩
  case round =>
    obtain ⟨rfl, hJs⟩ := hrel
    gi_wp2
    go_end0
    exact ⟨⟨_, rfl⟩, hJs⟩

set_option maxHeartbeats 1000000 in
theorem Values_is (a : Option Addr) (len cap : Nat) (w : World) :
    Calls Try.prog 71 #[.slice a len cap] w fun e w' => e = .returned (.func (.func 101) #[] #[.pointer (some ⟨w.heap.size, 0, none⟩)]) ∧ w' = w.alloc (.cells #[.slice a len cap] 27) := by
  go_enter Try.func71, Try.ntmps71
  go_wp2
  go_ret
  exact ⟨rfl, rfl⟩

/-- What slices.Values hands back goes over the numbers, in order. -/
theorem values_stops (F : Fence) (m : Nat) (hF : F.fn 101) (hro : F.round = none) (hm : 1 ≤ m) (Bs n₀ cap : Nat) (a : Option Addr) (zs : List Int) (hreach : zs.length ≤ 1048576) (w : World) (hBs : Bs < w.heap.size) (hn₀ : n₀ ≤ w.heap.size)
    (hc : w.cell? ⟨Bs, 0, none⟩ = some (.slice a zs.length cap)) (hI : zs ≠ [] → ∃ b off, a = some ⟨b, off, none⟩ ∧ b < n₀ ∧ ∀ j, j < zs.length → w.cell? ⟨b, off + j, none⟩ = some (.int .i64 (nth zs j))) :
    SeqStopsK F m Try.prog 101 #[.pointer (some ⟨Bs, 0, none⟩)] (fun x : Int => #[Value.int .i64 x]) (Below n₀) (fun ys => ys = zs) (fun pre => ∃ k, k ≤ zs.length ∧ pre = zs.take k) zs.length w := fun l J Jx W hW _ _ hY h0 => by
  have hc' := (hW.cell (p := ⟨Bs, 0, none⟩) hBs).trans hc
  by_cases hz : zs = []
  · subst hz
    exact (values1_nil_in F m hF hro l Bs J W a cap hc' h0).mono fun e W' ⟨he, hj⟩ => ⟨he, .inl ⟨_, rfl, hj⟩⟩
  · obtain ⟨b, off, rfl, hb, hcs⟩ := hI hz
    exact values1_in F m hF hro hm l Bs n₀ b off cap zs hreach hb J Jx hY W hc' (fun j hj => (hW.cell (p := ⟨b, off + j, none⟩) (by show b < w.heap.size; omega)).trans (hcs j hj)) h0

set_option maxRecDepth 100000 in
set_option maxHeartbeats 2000000 in
theorem AppendSeq_is {w : World} {a : Option Addr} {zs : List Int} (cap Bs : Nat) (hBs : Bs < w.heap.size) (hc : w.cell? ⟨Bs, 0, none⟩ = some (.slice a zs.length cap)) (hI : IntsAt w a zs) (hl : zs.length ≤ 1048576) :
    Calls Try.prog 116 #[.slice none 0 0, .func (.func 101) #[] #[.pointer (some ⟨Bs, 0, none⟩)]] w fun e W' => ∃ v, e = .returned v ∧ W'.ownsRow w.heap.size 2 1 v zs.length (zs.map (Value.int .i64)) ∧ Below w.heap.size w W' := by
  obtain ⟨i0, hi, hz0, hz1, hz2⟩ := info_parts info_int
  have hIb : zs ≠ [] → ∃ b off, a = some ⟨b, off, none⟩ ∧ b < w.heap.size ∧ ∀ j, j < zs.length → w.cell? ⟨b, off + j, none⟩ = some (.int .i64 (nth zs j)) := fun hz => by
    have hpos : 0 < zs.length := List.length_pos_iff.2 hz
    obtain ⟨b, off, ha, hcs⟩ := hI.cell hpos
    exact ⟨b, off, ha, World.block_lt_of_cell? _ _ (hcs 0 hpos), hcs⟩
  clear hI
  refine (callsIn_wide (n := 4)).1 ?_
  refine callsIn_of_wp_marks Try.func116 rfl trivial ?_ rfl
  simp only [Try.ntmps116, List.size_toArray, List.length_cons, List.length_nil, Nat.reduceAdd, Nat.reduceSub, Array.replicate_succ, Array.replicate_zero, List.push_toArray, List.append_toArray, List.nil_append, List.cons_append]
  gi_wp2
  have bO := Boxed.new w 27 (.slice none 0 0)
  have hB0 : Below w.heap.size w (w.alloc (.cells #[.slice none 0 0] 27)) := (Below.refl _ w).alloc (Nat.le_refl _) _
  refine wpIn_rangeFunc_ownG rfl (by omega) (gf := 101) (lb := #[.pointer (some ⟨Bs, 0, none⟩)]) rfl trivial (enters_of Try.func101 (by kernel_rfl) rfl)
    (values_stops Fence.wide 3 trivial rfl (by omega) Bs w.heap.size cap a zs hl (w.alloc (.cells #[.slice none 0 0] 27)) (by simp; omega) (by simp) ((hB0.cell (p := ⟨Bs, 0, none⟩) hBs).trans hc) (fun hz => by
      obtain ⟨b, off, ha, hb, hcs⟩ := hIb hz
      exact ⟨b, off, ha, hb, fun j hj => (hB0.cell (p := ⟨b, off + j, none⟩) hb).trans (hcs j hj)⟩)) belowK_t (belowK_b (by simp)) (Below.refl _ _) (fun _ => rfl)
    (fun (pre : List Int) W => (∃ v, Boxed W w.heap.size 27 v ∧ W.ownsRow w.heap.size 2 1 v pre.length (pre.map (Value.int .i64)) ∧ True) ∧ Below w.heap.size w W)
    (fun _ _ _ => False)
    (OwnFrom.and (Own.from (holdsRow_own w.heap.size w.heap.size 27 2 1 (fun pre : List Int => pre.length) (fun pre : List Int => pre.map (Value.int .i64)) (fun _ _ => True)) _) (ownFrom_below (Nat.le_refl _) (by simp)))
    (fun _ _ _ _ _ hs _ _ => hs)
    ⟨⟨_, bO, World.ownsRow_nil _ _ _ _, trivial⟩, hB0⟩
    (fun x => { tmps := #[.slice none 0 0, .func (.func 101) #[] #[.pointer (some ⟨Bs, 0, none⟩)], .pointer (some ⟨w.heap.size, 0, none⟩), undef, .slice none 0 0, .int .i64 x, .func (.func 101) #[] #[.pointer (some ⟨Bs, 0, none⟩)], .int .i64 x, undef, undef, undef, undef, undef], defers := [] }) ?assign ?body ?done ?stop
  case assign =>
    intro l x W K hK
    gi_wp2
    exact hK
  case body =>
    rintro l pre x W ⟨⟨v, hv, hrow, _⟩, hB⟩ hlt
    have hc := hv.cell
    gi_wp2_with (gi_at_builtin; refine wpListIn_append_own _ rfl _ _ 27 rfl w.heap.size 2 i0 (.int .i64 0) 1 8 Try.underlying27 hi hz0 hz1 hz2 rfl (by decide) _ _ _ rfl (hrow.alloc _) ⟨W.heap.size, 0, none⟩ 1 1 [.int .i64 x] rfl rfl (cell_one_new _ _ _) (by simp [Value.oneCell']) (by unfold maxLen; omega) (by omega) (by have := hB.size; simp; omega) ?_; intro v' w1 hown' hgrow _; obtain ⟨g', cap', rfl⟩ := ownsRow_succ hown'; obtain ⟨hv1, hv2, hr2, hk2, hb2⟩ := Boxed.appended hv (by decide) hrow hB.size (Nat.le_refl _) hown' hgrow; have hc1 := hv1.cell; have hf1 := hv1.frozen)
    exact ⟨hk2.from _, hb2, ⟨_, hv2, by simpa using hr2, trivial⟩, hB.trans hb2⟩
  case done =>
    rintro D ys W hD rfl ⟨⟨v, hv, hrow, _⟩, hB⟩ hK
    have hc := hv.cell
    gi_wp2
    refine ⟨by simp, .inl ⟨_, _, rfl, run_takeDeferred hK, ?_⟩⟩
    exact ⟨_, results_tmp rfl _ _ _, v, rfl, ownsRow_putObj hrow _ hK rfl, hB.trans (belowK_b (w := w) (Nat.le_refl _) W D _ _ (by simp at hD; omega) hK rfl rfl)⟩
  case stop =>
    rintro D c pre W _ _ h _
    exact h.elim

set_option maxHeartbeats 1000000 in
theorem Collect_is {w : World} {a : Option Addr} {zs : List Int} (cap Bs : Nat) (hBs : Bs < w.heap.size) (hc : w.cell? ⟨Bs, 0, none⟩ = some (.slice a zs.length cap)) (hI : IntsAt w a zs) (hl : zs.length ≤ 1048576) :
    Calls Try.prog 99 #[.func (.func 101) #[] #[.pointer (some ⟨Bs, 0, none⟩)]] w fun e W' => ∃ v, e = .returned v ∧ W'.ownsRow w.heap.size 2 1 v zs.length (zs.map (Value.int .i64)) ∧ Below w.heap.size w W' := by
  have HC := Lib.hid (AppendSeq_is cap Bs hBs hc hI hl)
  clear hBs hc hI hl
  go_enter Try.func99, Try.ntmps99
  go_wp2_with fail
  refine HC.out.mono ?_
  rintro e w1 ⟨v, rfl, hv, hb⟩
  have HV := Lib.hid (And.intro hv hb)
  clear hv hb
  go_wp2
  go_ret
  exact ⟨_, rfl, HV.out.1, HV.out.2⟩

/-- The different numbers, in ascending order. -/
def distL (zs : List Int) : List Int := compL (zs.mergeSort fun x y => decide (x ≤ y))
theorem distL_spec (zs : List Int) : (distL zs).Pairwise (· < ·) ∧ ∀ x, x ∈ distL zs ↔ x ∈ zs := by
  obtain ⟨m, hm⟩ : ∃ m, zs.mergeSort (fun x y => decide (x ≤ y)) = m := ⟨_, rfl⟩
  have hp := List.pairwise_mergeSort (le := fun x y : Int => decide (x ≤ y)) (fun a b c h1 h2 => by simp at *; omega) (fun a b => by simp; omega) zs
  unfold distL
  rw [hm] at hp ⊢
  have hs : ∀ i j, i ≤ j → j < m.length → nth m i ≤ nth m j := fun i j hij hj => by
    by_cases e : i = j
    · subst e; omega
    · have := List.pairwise_iff_getElem.1 hp i j (by omega) hj (by omega)
      rw [nth_eq (by omega), nth_eq hj]; simpa using this
  obtain ⟨h1, h2⟩ := comp_spec hs m.length (Nat.le_refl _)
  refine ⟨h1, fun x => ?_⟩
  unfold compL
  rw [h2 x, ← mem_nth, ← hm, List.mem_mergeSort]
theorem distL_len (zs : List Int) : (distL zs).length ≤ zs.length := by
  have := comp_len (zs.mergeSort fun x y => decide (x ≤ y))
  rw [List.length_mergeSort] at this
  exact this

end

end Go.Proofs.Ytihaajcmephlmaa
namespace Go.Proofs.Ytihaajcmephlmaa
section

/-- A small game. -/
noncomputable def smallB (O : List Int) (zss : List (List Int)) (P : List Int) : Bool := decide (P.length ≤ 12) && parityB O zss P
theorem smallB_iff {O : List Int} {zss : List (List Int)} {P : List Int} : smallB O zss P = true ↔ P.length ≤ 12 ∧ parityB O zss P = true := by
  unfold smallB
  rw [Bool.and_eq_true, decide_eq_true_eq]
theorem smallB_own {O : List Int} {zss : List (List Int)} {P : List Int} : smallB O zss P = (decide (O.length ≤ 12) && parityB O zss P) := by
  unfold smallB
  cases h : parityB O zss P with
  | false => simp
  | true => rw [(parityB_iff.1 h).2.1]

/-- The odd priorities from 39 on downwards, k of them looked at. -/
def downL (P : List Int) (k : Nat) : List Int := ((List.range k).map fun i : Nat => 39 - 2 * (i : Int)).filter fun p => hasB P p
theorem downL_zero (P : List Int) : downL P 0 = [] := rfl
theorem downL_yes {P : List Int} {k : Nat} (h : hasB P (39 - 2 * (k : Int)) = true) : downL P (k + 1) = downL P k ++ [39 - 2 * (k : Int)] := by
  unfold downL
  rw [List.range_succ, List.map_append, List.filter_append]
  simp [h]
theorem downL_no {P : List Int} {k : Nat} (h : hasB P (39 - 2 * (k : Int)) = false) : downL P (k + 1) = downL P k := by
  unfold downL
  rw [List.range_succ, List.map_append, List.filter_append]
  simp [h]
theorem downL_len (P : List Int) (k : Nat) : (downL P k).length ≤ k := by
  unfold downL
  refine Nat.le_trans (List.length_filter_le _ _) ?_
  simp
/-- The odds of a game, falling. -/
def oddsL (P : List Int) : List Int := downL P 20
theorem odds_mem {P : List Int} {p : Int} : p ∈ oddsL P ↔ p ∈ P ∧ p % 2 = 1 ∧ 0 < p ∧ p ≤ 39 := by
  unfold oddsL downL
  rw [List.mem_filter, List.mem_map, hasB_iff]
  constructor
  · rintro ⟨⟨i, hi, rfl⟩, h⟩
    have := List.mem_range.1 hi
    exact ⟨h, by omega, by omega, by omega⟩
  · rintro ⟨h, h2, h3, h4⟩
    exact ⟨⟨((39 - p) / 2).toNat, List.mem_range.2 (by omega), by omega⟩, h⟩
theorem odds_down (P : List Int) : (oddsL P).Pairwise (· > ·) := by
  unfold oddsL downL
  refine List.Pairwise.sublist List.filter_sublist ?_
  rw [List.pairwise_map]
  refine List.pairwise_lt_range.imp ?_
  intro a b h
  show (39 : Int) - 2 * a > 39 - 2 * b
  omega
theorem falls_eq {a b : List Int} (ha : a.Pairwise (· > ·)) (hb : b.Pairwise (· > ·)) (h : ∀ x, x ∈ a ↔ x ∈ b) : a = b := by
  refine List.Perm.eq_of_pairwise (le := fun x y => x ≥ y) (fun x y _ _ h1 h2 => Int.le_antisymm h2 h1) (ha.imp fun h => Int.le_of_lt h) (hb.imp fun h => Int.le_of_lt h) ?_
  exact (List.perm_ext_iff_of_nodup (ha.imp fun h => Int.ne_of_gt h) (hb.imp fun h => Int.ne_of_gt h)).2 h
theorem odds_eq {P : List Int} (h : ∀ x ∈ P, 0 ≤ x ∧ x ≤ 40) : ((distL P).filter fun p => !decide (p.tmod 2 = 0)).reverse = oddsL P := by
  refine falls_eq ?_ (odds_down P) fun x => ?_
  · rw [List.pairwise_reverse]
    exact (distL_spec P).1.sublist List.filter_sublist
  · rw [List.mem_reverse, List.mem_filter, (distL_spec P).2, odds_mem]
    constructor
    · rintro ⟨h1, h2⟩
      have := h x h1
      have h3 : ¬ x.tmod 2 = 0 := by simpa using h2
      rw [Int.tmod_eq_emod_of_nonneg this.1] at h3
      exact ⟨h1, by omega, by omega, by omega⟩
    · rintro ⟨h1, h2, h3, h4⟩
      refine ⟨h1, ?_⟩
      have : ¬ x.tmod 2 = 0 := by rw [Int.tmod_eq_emod_of_nonneg (by omega)]; omega
      simpa using this
theorem odds_len {P : List Int} (h : ∀ x ∈ P, 0 ≤ x ∧ x ≤ 40) : (oddsL P).length ≤ P.length := by
  rw [← odds_eq h, List.length_reverse]
  exact Nat.le_trans (List.length_filter_le _ _) (distL_len P)
/-- What OddsOf answers. -/
noncomputable def oddsV (O : List Int) (zss : List (List Int)) (P : List Int) : List Int := if smallB O zss P then oddsL P else []
theorem oddsV_len (O : List Int) (zss : List (List Int)) (P : List Int) : (oddsV O zss P).length ≤ 20 := by
  unfold oddsV
  split
  · exact downL_len P 20
  · simp
theorem oddsV_fits {O : List Int} {zss : List (List Int)} {P : List Int} : ∀ k, k < (oddsV O zss P).length → Fits (nth (oddsV O zss P) k) := fun k hk => by
  have := nth_mem hk
  unfold oddsV at this hk
  split at this
  · rename_i h
    rw [if_pos h] at hk
    obtain ⟨_, _, h3, h4⟩ := odds_mem.1 this
    unfold oddsV
    rw [if_pos h]
    unfold Fits
    omega
  · simp at this
end
end Go.Proofs.Ytihaajcmephlmaa
namespace Go.Proofs.Ytihaajcmephlmaa
section
open Go.RowKit Go.Shelf

set_option maxHeartbeats 2000000 in
theorem l8Small_is {w : World} {v : Value} {O : List Int} {zss : List (List Int)} {P : List Int} {r : Bool} (hr : smallB O zss P = r) (h : GameAt w v O zss P) :
    Calls Try.prog 44 #[v] w fun e w' => e = .returned (.bool r) ∧ Below w.heap.size w w' := by
  have HGm := Lib.hid h
  obtain ⟨ao, an, ap, co, cn, cp, A, C, rfl, h1, h2, h3⟩ := h
  obtain ⟨w1, hw1⟩ : ∃ y, y = w.alloc (.cells #[.slice ao O.length co, .slice an zss.length cn, .slice ap P.length cp] 32) := ⟨_, rfl⟩
  have HW1 := Lib.hid hw1
  have B1 : Hid (Below w.heap.size w w1) := by rw [hw1]; exact below1 _ _
  have T1 : Hid (Box3 w1 w.heap.size 32 (.slice ao O.length co) (.slice an zss.length cn) (.slice ap P.length cp)) := by rw [hw1]; exact Box3.new _ _ _ _ _
  clear hw1 h1 h2 h3
  have HC := Lib.hid (specParityOk_is rfl (HGm.out.below B1.out))
  have t0 := T1.out.c0
  have t1 := T1.out.c1
  have t2 := T1.out.c2
  by_cases hlt : P.length ≤ 12
  · have hlt1 : (P.length : Int) ≤ 12 := by omega
    have HE : Hid (r = parityB O zss P) := by rw [← hr]; unfold smallB; rw [decide_eq_true hlt]; rfl
    clear hr
    go_enter Try.func44, Try.ntmps44
    go_wp2_with fail
    rw [← HW1.out]
    go_wp2_with fail
    refine HC.out.mono ?_
    rintro e w2 ⟨rfl, hb⟩
    have B2 := Lib.hid (B1.out.trans (hb.mono B1.out.size))
    clear hb HC t0 t1 t2
    go_wp2
    go_ret
    exact ⟨ret_bool HE.out.symm, B2.out⟩
  · have hlt1 : ¬ (P.length : Int) ≤ 12 := by omega
    have HE : Hid (r = false) := by rw [← hr]; unfold smallB; rw [decide_eq_false hlt]; rfl
    clear hr HC
    go_enter Try.func44, Try.ntmps44
    go_wp2_with fail
    rw [← HW1.out]
    go_wp2
    go_ret
    exact ⟨ret_bool HE.out.symm, B1.out⟩

end
end Go.Proofs.Ytihaajcmephlmaa
namespace Go.Proofs.Ytihaajcmephlmaa
open Go.RowKit

/-- Are both games valid and equal? -/
noncomputable def samePB (O : List Int) (zss : List (List Int)) (P O' : List Int) (zss' : List (List Int)) (P' : List Int) : Bool := parityB O zss P && (parityB O' zss' P' && (sameB O zss O' zss' && decide (P = P')))

end Go.Proofs.Ytihaajcmephlmaa
