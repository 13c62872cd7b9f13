/-
  Contracts: slices.BinarySearch over a set, the program's indicesIn, the model's l1Place.
-/
import Derived.Test.YtmobegiojhlakaaTurned
namespace Go.Proofs.Ytmobegiojhlakaa
open Go.RowKit

/-- The numbers rise. -/
def Rises (zs : List Int) : Prop := ∀ j k, j < k → k < zs.length → nth zs j < nth zs k

theorem rises_of {n : Int} {zs : List Int} (h : setB n zs = true) : Rises zs := fun j _ hjk hk => (setB_bounds h hk).2.2 j hjk

theorem idx_rises {zs : List Int} {x : Int} {k : Nat} (hr : Rises zs) (hk : k < zs.length) (h : nth zs k = x) : idx zs x = k :=
  idx_at hk h fun j hj => by have := hr j k hj hk; omega

theorem less_any (a b : Int) (w : World) : Calls Try.prog 128 #[.int .i64 a, .int .i64 b] w fun e w' => e = .returned (.bool (decide (a < b))) ∧ w = w' := by
  have h1 : (a != a) = false := by simp
  have h2 : (b != b) = false := by simp
  go_enter Try.func128, Try.ntmps128
  go_wp2
  go_ret
  exact ⟨rfl, rfl⟩

theorem less_is {a b : Int} {r : Bool} (hr : decide (a < b) = r) (w : World) : Calls Try.prog 128 #[.int .i64 a, .int .i64 b] w fun e w' => e = .returned (.bool r) ∧ w = w' := by
  subst hr; exact less_any a b w

theorem nan_any (a : Int) (w : World) : Calls Try.prog 129 #[.int .i64 a] w fun e w' => e = .returned (.bool false) ∧ w = w' := by
  have h1 : (a != a) = false := by simp
  go_enter Try.func129, Try.ntmps129
  go_wp2
  go_ret
  exact ⟨rfl, rfl⟩

/-- What BinarySearch hands back. -/
def Found (zs : List Int) (x : Int) (w : World) (e : Ending) (w' : World) : Prop :=
  ∃ i : Int, e = .returned (.tuple #[.int .i64 i, .bool (hasB zs x)]) ∧ (hasB zs x = true → i = idx zs x) ∧ w = w'

theorem found_mk {zs : List Int} {x : Int} {w : World} {i : Int} {b : Bool} (hb : hasB zs x = b) (hi : b = true → i = idx zs x) : Found zs x w (.returned (.tuple #[.int .i64 i, .bool b])) w :=
  ⟨i, by rw [hb], fun h => hi (by rw [← hb]; exact h), rfl⟩

set_option maxHeartbeats 1000000 in
theorem BinarySearch_is {w : World} {a : Option Addr} {zs : List Int} (x : Int) (cap : Nat) (h : IntsAt w a zs) (hr : Rises zs) :
    Calls Try.prog 124 #[.slice a zs.length cap, .int .i64 x] w (Found zs x w) := by
  have hlen := h.len
  have HC := Lib.hid h.cell
  have HR := Lib.hid hr
  clear h hr
  go_enter Try.func124, Try.ntmps124
  go_wp2
  go_loop [7, 8] (fun i j => ∃ p q : Nat, p ≤ q ∧ q ≤ zs.length ∧ i = .int .i64 p ∧ j = .int .i64 q ∧ Hid (∀ k, k < p → nth zs k < x) ∧ Hid (∀ k, q ≤ k → k < zs.length → x ≤ nth zs k)) (fun i j => (intOf j).toNat - (intOf i).toNat)
  case atStart => exact ⟨0, zs.length, Nat.zero_le _, Nat.le_refl _, rfl, rfl, fun k hk => absurd hk (Nat.not_lt_zero _), fun k h1 h2 => absurd h2 (by omega)⟩
  case round =>
    obtain ⟨p, q, hpq, hq, rfl, rfl, HP, HQ⟩ := hrel
    by_cases hlt : p < q
    · obtain ⟨b, off, ha, hc⟩ := HC.out (by omega)
      subst ha
      have hck := hc ((p + q) / 2) (by omega)
      clear hc
      have hmz : (p + q) / 2 < zs.length := by omega
      by_cases hl : nth zs ((p + q) / 2) < x
      · have HL := Lib.hid (less_is (decide_eq_true hl) w)
        have HP' : Hid (∀ k, k < (p + q) / 2 + 1 → nth zs k < x) := fun k hk => by
          by_cases e : k = (p + q) / 2
          · subst e; exact hl
          · have := HR.out k ((p + q) / 2) (by omega) hmz; omega
        clear hl
        go_wp2_with (go_at_call 128; refine HL.out.mono ?_; rintro e w' ⟨rfl, rfl⟩)
        go_round
        case rel => exact ⟨(p + q) / 2 + 1, q, by omega, hq, by go_num, rfl, HP', HQ⟩
        case measure => simp [intOf]; omega
      · have HL := Lib.hid (less_is (decide_eq_false hl) w)
        have HQ' : Hid (∀ k, (p + q) / 2 ≤ k → k < zs.length → x ≤ nth zs k) := fun k hk hkz => by
          by_cases e : k = (p + q) / 2
          · subst e; omega
          · have := HR.out ((p + q) / 2) k (by omega) hkz; omega
        clear hl
        go_wp2_with (go_at_call 128; refine HL.out.mono ?_; rintro e w' ⟨rfl, rfl⟩)
        go_round
        case rel => exact ⟨p, (p + q) / 2, by omega, by omega, rfl, by go_num, HP, HQ'⟩
        case measure => simp [intOf]; omega
    · have hpq' : p = q := by omega
      subst hpq'
      by_cases hz : p < zs.length
      · obtain ⟨b, off, ha, hc⟩ := HC.out (by omega)
        subst ha
        have hck := hc p hz
        clear hc
        by_cases he : nth zs p = x
        · have HF : Hid (hasB zs x = true ∧ (p : Int) = idx zs x) := ⟨hasB_yes hz he, (idx_rises HR.out hz he).symm⟩
          have hb : (nth zs p == x) = true := by simp [he]
          clear he
          go_wp2
          go_ret2
          exact found_mk (i := p) HF.out.1 (fun _ => HF.out.2)
        · have HF : Hid (hasB zs x = false) := hasB_no fun j hj e => by
            rcases Nat.lt_trichotomy j p with h | h | h
            · have := HP.out j h; omega
            · subst h; exact he e
            · have h1 := HQ.out p (Nat.le_refl _) hz
              have h2 := HR.out p j h hj
              omega
          have hb : (nth zs p == x) = false := by simp [he]
          have HN := Lib.hid (nan_any (nth zs p) w)
          clear he
          go_wp2_with (go_at_call 129; refine HN.out.mono ?_; rintro e w' ⟨rfl, rfl⟩)
          go_ret2
          exact found_mk (i := p) HF.out (fun h => by cases h)
      · have HF : Hid (hasB zs x = false) := hasB_no fun j hj e => by have := HP.out j (by omega); omega
        go_wp2
        go_ret2
        exact found_mk (i := p) HF.out (fun h => by cases h)

/-- Where the numbers of r stand that S has. -/
def places (S : List Int) : List Int → Nat → List Int
  | _, 0 => []
  | r, k + 1 => places S r k ++ if hasB S (nth r k) then [idx S (nth r k)] else []

theorem places_len (S r : List Int) (k : Nat) : (places S r k).length ≤ k := by
  induction k with
  | zero => simp [places]
  | succ k ih => simp only [places]; split <;> simp <;> omega

theorem idx_bounds {S : List Int} {x : Int} (h : hasB S x = true) : 0 ≤ idx S x ∧ idx S x < S.length := by
  have hm := hasB_iff.1 h
  unfold idx
  rw [if_pos hm]
  have := List.idxOf_lt_length_iff.2 hm
  omega

theorem places_mem (S r : List Int) (k : Nat) : ∀ x ∈ places S r k, 0 ≤ x ∧ x < S.length := by
  induction k with
  | zero => simp [places]
  | succ k ih =>
    intro x hx
    simp only [places, List.mem_append] at hx
    rcases hx with hx | hx
    · exact ih x hx
    · split at hx
      · rename_i h
        simp at hx
        subst hx
        exact idx_bounds h
      · simp at hx

theorem places_fits {S r : List Int} {k : Nat} (hS : S.length ≤ 17592186044416) : ∀ j, j < (places S r k).length → Fits (nth (places S r k) j) := fun j hj => by
  have := places_mem S r k _ (nth_mem hj)
  unfold Fits; omega

set_option maxHeartbeats 2000000 in
theorem indicesIn_is {w : World} {a a' : Option Addr} {S r : List Int} (cs cr : Nat) (hS : IntsAt w a S) (hr : Rises S) (hR : IntsAt w a' r) (_hl : r.length ≤ 1048576) :
    Calls Try.prog 115 #[.slice a S.length cs, .slice a' r.length cr] w (GivesInts w (places S r r.length)) := by
  obtain ⟨i0, hi, hz0, hz1, hz2⟩ := info_parts info_int
  have HS := Lib.hid hS
  have HR := Lib.hid hR
  have HO := Lib.hid hr
  clear hS hR hr
  go_enter Try.func115, Try.ntmps115
  go_wp2
  go_loopw [5, 12] (fun v i wr => ∃ k : Nat, k ≤ r.length ∧ i = .int .i64 k ∧ Hid (wr.ownsRow w.heap.size 2 1 v (places S r k).length ((places S r k).map (Value.int .i64))) ∧ Hid (Below w.heap.size w wr)) (fun _ i _ => r.length - (intOf i).toNat)
  case atStart => exact ⟨0, Nat.zero_le _, rfl, World.ownsRow_nil _ _ _ _, Below.refl _ _⟩
  case round =>
    obtain ⟨k, hk, rfl, HV, HB⟩ := hrel
    by_cases hlt : k < r.length
    · obtain ⟨b, off, ha, hc⟩ := (HR.out.below HB.out).cell (by omega)
      subst ha
      have hck := hc k hlt
      clear hc
      have hpl := places_len S r k
      have hsz := HB.out.size
      have HF := Lib.hid (BinarySearch_is (nth r k) cs (HS.out.below HB.out) HO.out)
      cases hh : hasB S (nth r k) with
      | false =>
        have hS : places S r (k + 1) = places S r k := by simp [places, hh]
        have HSV := HV
        rw [← hS] at HSV
        have HH := Lib.hid hh
        clear hh hS
        go_wp2_with (go_at_call 124; refine HF.out.mono ?_; rintro e w' ⟨p, rfl, hp, rfl⟩; rw [HH.out]; clear hp)
        go_roundw
        case rel => exact ⟨k + 1, by omega, by go_num, HSV, HB⟩
        case measure => simp [intOf]; omega
      | true =>
        have HS1 : Hid (places S r (k + 1) = places S r k ++ [idx S (nth r k)]) := by simp [places, hh, Hid]
        have HH := Lib.hid hh
        clear hh
        go_wp2_with (first
          | (go_at_call 124; refine HF.out.mono ?_; rintro e w' ⟨p, rfl, hp, rfl⟩; rw [HH.out]; have hp' := hp HH.out; subst hp'; clear hp)
          | (at_builtin; refine wpList_append_own_at _ rfl _ _ 27 rfl w.heap.size 2 i0 (.int .i64 0) 1 8 Try.underlying27 hi hz0 hz1 hz2 rfl (by decide) _ _ _ rfl (HV.out.alloc _) ⟨wr.heap.size, 0, none⟩ 1 1 [.int .i64 (idx S (nth r k))] rfl rfl ?c1 ?c2 ?c3 ?c4 ?c5 ?_))
        case c1 => exact cell_one_new _ _ _
        case c2 => intro u hu; simp at hu; subst hu; rfl
        case c3 => unfold maxLen; omega
        case c4 => omega
        case c5 => simp; omega
        · intro v' w1' hown' hgrow _ _
          have HBn := Lib.hid ((HB.out.alloc HB.out.size _).grown hgrow (by simp; omega) (fun g hg => (HV.out.lt g hg).1))
          have e1 : (places S r (k + 1)).length = (places S r k).length + 1 := by rw [HS1.out]; simp
          have e2 : (places S r (k + 1)).map (Value.int .i64) = (places S r k).map (Value.int .i64) ++ [.int .i64 (idx S (nth r k))] := by rw [HS1.out]; simp
          have HOn := Lib.hid hown'
          rw [← e1, ← e2] at HOn
          clear hown' hgrow e1 e2
          go_wp2
          go_roundw
          case rel => exact ⟨k + 1, by omega, by go_num, HOn, HBn⟩
          case measure => simp [intOf]; omega
    · have hkk : k = r.length := by omega
      rw [hkk] at HV
      have hpl := places_len S r r.length
      have hfin := Lib.hid (OwnInts.mk' HV.out (by omega) (places_fits HS.out.len))
      clear hkk HV
      go_wp2
      go_ret
      exact ⟨_, rfl, hfin.out, HB.out⟩

set_option maxHeartbeats 400000 in
theorem l1Place_is {w : World} {a : Option Addr} {zs : List Int} {x i : Int} (hr : idx zs x = i) (cap : Nat) (h : IntsAt w a zs) :
    Calls Try.prog 114 #[.slice a zs.length cap, .int .i64 x] w fun e w' => e = .returned (.int .i64 i) ∧ w = w' := by
  obtain ⟨hlen, _, hcell⟩ := h
  have HR := Lib.hid hr
  have HC := Lib.hid hcell
  clear hcell hr
  go_enter Try.func114, Try.ntmps114
  go_wp2
  go_loop [5] (fun i => ∃ k : Nat, k ≤ zs.length ∧ i = .int .i64 k ∧ Hid (∀ j, j < k → nth zs j ≠ x)) (fun i => zs.length - (intOf i).toNat)
  case atStart => exact ⟨0, Nat.zero_le _, rfl, fun j hj => absurd hj (Nat.not_lt_zero _)⟩
  case round =>
    obtain ⟨k, hk, rfl, HK⟩ := hrel
    by_cases hlt : k < zs.length
    · obtain ⟨b, off, ha, hc⟩ := HC.out (by omega)
      subst ha
      have hck := hc k hlt
      clear hc
      by_cases he : nth zs k = x
      · have HE : Hid ((k : Int) = i) := by rw [← HR.out]; exact (idx_at hlt he HK.out).symm
        have he' : (nth zs k == x) = true := by simp [he]
        clear he
        go_wp2
        go_ret
        exact ⟨ret_i64 HE.out, rfl⟩
      · have HE : Hid (∀ j, j < k + 1 → nth zs j ≠ x) := fun j hj => by
          by_cases hj' : j < k
          · exact HK.out j hj'
          · obtain rfl : j = k := by omega
            exact he
        have he' : (nth zs k == x) = false := by simp [he]
        clear he
        go_wp2
        go_round
        case rel => exact ⟨k + 1, by omega, by go_num, HE⟩
        case measure => simp [intOf]; omega
    · have HE : Hid (i = -1) := by rw [← HR.out]; exact idx_none fun j hj => HK.out j (by omega)
      go_wp2
      go_ret
      exact ⟨ret_i64 HE.out.symm, rfl⟩

end Go.Proofs.Ytmobegiojhlakaa
