/-
  Contracts of chapter 2 that need no new memory: sets, members; and what a set parts into.
-/
import Derived.Test.YtokcinhopajniaaGreatDoorBase1
import Derived.Test.YtokcinhopajniaaGreatDoorWalks1
namespace Go.Proofs.YtokcinhopajniaaGreatDoor
section
section
open Go.RowKit

set_option maxHeartbeats 1000000 in
theorem BinSet_is {w : World} {a : Option Addr} {zs : List Int} (x : Int) (cap : Nat) (h : IntsAt w a zs) (hr : Rises zs) :
    Calls Tryz.prog 196 #[.slice a zs.length cap, .int .i64 x] w (Found zs x w) := by
  have hlen := h.len
  have HC := Lib.hid h.cell
  have HR := Lib.hid hr
  clear h hr
  go_enter Tryz.func196, Tryz.ntmps196
  go_wp2
  go_loop [7, 8] (fun i j => ∃ p q : Nat, p ≤ q ∧ q ≤ zs.length ∧ i = .int .i64 p ∧ j = .int .i64 q ∧ Hid (∀ k, k < p → nth zs k < x) ∧ Hid (∀ k, q ≤ k → k < zs.length → x ≤ nth zs k)) (fun i j => (intOf j).toNat - (intOf i).toNat)
  case atStart => exact ⟨0, zs.length, Nat.zero_le _, Nat.le_refl _, rfl, rfl, fun k hk => absurd hk (Nat.not_lt_zero _), fun k h1 h2 => absurd h2 (by omega)⟩
  case round =>
    obtain ⟨p, q, hpq, hq, rfl, rfl, HP, HQ⟩ := hrel
    by_cases hlt : p < q
    · obtain ⟨b, off, ha, hc⟩ := HC.out (by omega)
      subst ha
      have hck := hc ((p + q) / 2) (by omega)
      clear hc
      have hmz : (p + q) / 2 < zs.length := by omega
      by_cases hl : nth zs ((p + q) / 2) < x
      · have HL := Lib.hid (less_is (decide_eq_true hl) w)
        have HP' : Hid (∀ k, k < (p + q) / 2 + 1 → nth zs k < x) := fun k hk => by
          by_cases e : k = (p + q) / 2
          · subst e; exact hl
          · have := HR.out k ((p + q) / 2) (by omega) hmz; omega
        clear hl
        go_wp2_with (go_at_call 185; refine HL.out.mono ?_; rintro e w' ⟨rfl, rfl⟩)
        go_round
        case rel => exact ⟨(p + q) / 2 + 1, q, by omega, hq, by go_num, rfl, HP', HQ⟩
        case measure => simp [intOf]; omega
      · have HL := Lib.hid (less_is (decide_eq_false hl) w)
        have HQ' : Hid (∀ k, (p + q) / 2 ≤ k → k < zs.length → x ≤ nth zs k) := fun k hk hkz => by
          by_cases e : k = (p + q) / 2
          · subst e; omega
          · have := HR.out ((p + q) / 2) k (by omega) hkz; omega
        clear hl
        go_wp2_with (go_at_call 185; refine HL.out.mono ?_; rintro e w' ⟨rfl, rfl⟩)
        go_round
        case rel => exact ⟨p, (p + q) / 2, by omega, by omega, rfl, by go_num, HP, HQ'⟩
        case measure => simp [intOf]; omega
    · have hpq' : p = q := by omega
      subst hpq'
      by_cases hz : p < zs.length
      · obtain ⟨b, off, ha, hc⟩ := HC.out (by omega)
        subst ha
        have hck := hc p hz
        clear hc
        by_cases he : nth zs p = x
        · have HF : Hid (hasB zs x = true ∧ (p : Int) = idx zs x) := ⟨hasB_yes hz he, (idx_rises HR.out hz he).symm⟩
          have hb : (nth zs p == x) = true := by simp [he]
          clear he
          go_wp2
          go_ret2
          exact found_mk (i := p) HF.out.1 (fun _ => HF.out.2)
        · have HF : Hid (hasB zs x = false) := hasB_no fun j hj e => by
            rcases Nat.lt_trichotomy j p with h | h | h
            · have := HP.out j h; omega
            · subst h; exact he e
            · have h1 := HQ.out p (Nat.le_refl _) hz
              have h2 := HR.out p j h hj
              omega
          have hb : (nth zs p == x) = false := by simp [he]
          have HN := Lib.hid (nan_any (nth zs p) w)
          clear he
          go_wp2_with (go_at_call 214; refine HN.out.mono ?_; rintro e w' ⟨rfl, rfl⟩)
          go_ret2
          exact found_mk (i := p) HF.out (fun h => by cases h)
      · have HF : Hid (hasB zs x = false) := hasB_no fun j hj e => by have := HP.out j (by omega); omega
        go_wp2
        go_ret2
        exact found_mk (i := p) HF.out (fun h => by cases h)


theorem has_is {w : World} {a : Option Addr} {zs : List Int} {x : Int} {r : Bool} (hr : hasB zs x = r) (cap : Nat) (h : IntsAt w a zs) (hz : Rises zs) :
    Calls Tryz.prog 174 #[.slice a zs.length cap, .int .i64 x] w fun e w' => e = .returned (.bool r) ∧ w = w' := by
  have HB := Lib.hid (BinSet_is x cap h hz)
  have HR := Lib.hid hr
  clear hr h hz
  go_enter Tryz.func174, Tryz.ntmps174
  go_wp2_with (go_at_call 196; refine HB.out.mono ?_; rintro e w' ⟨p, rfl, hp, rfl⟩; rw [HR.out]; clear hp)
  go_ret
  exact ⟨rfl, rfl⟩

/-- What SetOk says. -/
def setOk (n : Int) (zs : List Int) : Bool := inB n 0 256 && setB n zs

theorem setOk_yes {n : Int} {zs : List Int} (h : 0 ≤ n ∧ n ≤ 256) : setOk n zs = setB n zs := by unfold setOk; rw [inB_yes h.1 h.2]; rfl
theorem setOk_no {n : Int} {zs : List Int} (h : n < 0 ∨ 256 < n) : setOk n zs = false := by unfold setOk; rw [inB_no h]; rfl

set_option maxHeartbeats 400000 in
theorem specSetOk_is {w : World} {a : Option Addr} {zs : List Int} {n : Int} {r : Bool} (hr : setOk n zs = r) (cap : Nat) (h : IntsAt w a zs) :
    Calls Tryz.prog 144 #[.slice a zs.length cap, .int .i64 n] w fun e w' => e = .returned (.bool r) ∧ ∃ q, w' = w.drewN q := by
  by_cases hn : 0 ≤ n ∧ n ≤ 256
  · have HI := Lib.hid (l1In_is (inB_yes hn.1 hn.2))
    rw [setOk_yes hn] at hr
    have HC := Lib.hid (l1Set_is hr cap w h (by omega) (by omega))
    clear hr h
    go_enter Tryz.func144, Tryz.ntmps144
    go_wp2_with (first
      | (go_at_call 99; refine (HI.out _).mono ?_; rintro e w' ⟨rfl, rfl⟩)
      | (go_at_call 93; refine HC.out.mono ?_; rintro e w' ⟨rfl, HW⟩))
    go_ret
    exact ⟨rfl, HW⟩
  · have HI := Lib.hid (l1In_is (x := n) (lo := 0) (hi := 256) (inB_no (by omega)))
    have HR : Hid (r = false) := by rw [← hr]; exact setOk_no (by omega)
    clear hr h
    go_enter Tryz.func144, Tryz.ntmps144
    go_wp2_with (go_at_call 99; refine (HI.out _).mono ?_; rintro e w' ⟨rfl, rfl⟩)
    go_ret
    exact ⟨ret_bool HR.out.symm, 0, rfl⟩

/-- What HasIn says. -/
def hasIn (zs : List Int) (x : Int) : Bool := setB 256 zs && hasB zs x

theorem setOk_256 {zs : List Int} : setOk 256 zs = setB 256 zs := setOk_yes ⟨by decide, by decide⟩

/-- Both are sets of numbers from 0 to 255. -/
def bothOk (S T : List Int) : Bool := setB 256 S && setB 256 T

set_option maxHeartbeats 400000 in
theorem l2Both_is {w : World} {a a' : Option Addr} {S T : List Int} {r : Bool} (hr : bothOk S T = r) (cs ct : Nat) (h : IntsAt w a S) (h' : IntsAt w a' T) :
    Calls Tryz.prog 108 #[.slice a S.length cs, .slice a' T.length ct] w fun e w' => e = .returned (.bool r) ∧ ∃ q, w' = w.drewN q := by
  cases hs : setB 256 S with
  | true =>
    have HC := Lib.hid (specSetOk_is (setOk_256.trans hs) cs h)
    have HH : Hid (∀ q, Calls Tryz.prog 144 #[.slice a' T.length ct, .int .i64 256] (w.drewN q) fun e w' => e = .returned (.bool r) ∧ ∃ q', w' = (w.drewN q).drewN q') := fun q =>
      specSetOk_is (by rw [← hr, setOk_256]; unfold bothOk; rw [hs]; rfl) ct (h'.same ⟨q, rfl⟩)
    clear hr h hs h'
    go_enter Tryz.func108, Tryz.ntmps108
    go_wp2_with fail
    refine HC.out.mono ?_
    rintro e w' ⟨rfl, q, rfl⟩
    go_wp2_with fail
    refine (HH.out _).mono ?_
    rintro e w' ⟨rfl, q', rfl⟩
    go_wp2
    go_ret
    exact ⟨rfl, _, rfl⟩
  | false =>
    have HC := Lib.hid (specSetOk_is (setOk_256.trans hs) cs h)
    have HR : Hid (r = false) := by rw [← hr]; unfold bothOk; rw [hs]; rfl
    clear hr h hs h'
    go_enter Tryz.func108, Tryz.ntmps108
    go_wp2_with (go_at_call 144; refine HC.out.mono ?_; rintro e w' ⟨rfl, q, rfl⟩)
    go_ret
    exact ⟨ret_bool HR.out.symm, _, rfl⟩
end

section
open Go.RowKit

theorem all_rows {p : List Int → Bool} {zss : List (List Int)} : zss.all p = true ↔ ∀ j, j < zss.length → p (row zss j) = true := by
  rw [List.all_eq_true]
  constructor
  · intro h j hj; rw [row_eq hj]; exact h _ (List.getElem_mem _)
  · intro h z hz
    obtain ⟨j, hj, rfl⟩ := List.mem_iff_getElem.1 hz
    rw [← row_eq hj]; exact h j hj

theorem areSets_is {w : World} {a : Option Addr} {A : Nat → Option Addr} {C : Nat → Nat} {zss : List (List Int)} {r : Bool} (hr : zss.all (setB 256) = r) (cap : Nat) (h : RowsAt w a A C zss) :
    Calls Tryz.prog 73 #[.slice a zss.length cap] w fun e w' => e = .returned (.bool r) ∧ w = w' := by
  have hlen := h.len
  have HRw := Lib.hid h
  have HR := Lib.hid hr
  clear h hr
  go_enter Tryz.func73, Tryz.ntmps73
  go_wp2
  go_loop [7] (fun i => ∃ k : Nat, k ≤ zss.length ∧ i = .int .i64 k ∧ Hid (∀ j, j < k → setB 256 (row zss j) = true)) (fun i => zss.length - (intOf i).toNat)
  case atStart => exact ⟨0, Nat.zero_le _, rfl, fun j hj => absurd hj (Nat.not_lt_zero _)⟩
  case round =>
    obtain ⟨k, hk, rfl, HK⟩ := hrel
    by_cases hlt : k < zss.length
    · obtain ⟨b, off, ha, hc⟩ := HRw.out.cell (by omega)
      subst ha
      have hck := hc k hlt
      clear hc
      have HRow := Lib.hid (HRw.out.rows k hlt)
      cases hs : setB 256 (row zss k) with
      | true =>
        have HC := Lib.hid (isSet_is hs (C k) w HRow.out (by unfold Fits; omega))
        have HK' : Hid (∀ j, j < k + 1 → setB 256 (row zss j) = true) := fun j hj => by
          by_cases e : j = k
          · subst e; exact hs
          · exact HK.out j (by omega)
        clear hs
        go_wp2_with (go_at_call 115; refine HC.out.mono ?_; rintro e w' ⟨rfl, rfl⟩)
        go_round
        case rel => exact ⟨k + 1, by omega, by go_num, HK'⟩
        case measure => simp [intOf]; omega
      | false =>
        have HC := Lib.hid (isSet_is hs (C k) w HRow.out (by unfold Fits; omega))
        have HE : Hid (r = false) := by
          rw [← HR.out]
          cases hall : zss.all (setB 256) with
          | false => rfl
          | true => rw [all_rows.1 hall k hlt] at hs; cases hs
        clear hs
        go_wp2_with (go_at_call 115; refine HC.out.mono ?_; rintro e w' ⟨rfl, rfl⟩)
        go_ret
        exact ⟨ret_bool HE.out.symm, rfl⟩
    · have HE : Hid (r = true) := by
        rw [← HR.out]; exact all_rows.2 fun j hj => HK.out j (by omega)
      go_wp2
      go_ret
      exact ⟨ret_bool HE.out.symm, rfl⟩

theorem rows_two {w : World} {a a' : Option Addr} {S T : List Int} {cs ct : Nat} (h : IntsAt w a S) (h' : IntsAt w a' T) :
    RowsAt (w.alloc (.cells #[.slice a S.length cs, .slice a' T.length ct] 27)) (some ⟨w.heap.size, 0, none⟩) (fun k => if k = 0 then a else a') (fun k => if k = 0 then cs else ct) [S, T] := by
  have hb := Box2.new w 27 (.slice a S.length cs) (.slice a' T.length ct)
  refine ⟨by simp, fun _ => ⟨_, 0, rfl, fun k hk => ?_⟩, fun k hk => ?_⟩
  · match k with
    | 0 => exact hb.cell0
    | 1 => exact hb.cell1
    | k + 2 => exact absurd hk (by simp)
  · match k with
    | 0 => exact h.alloc _
    | 1 => exact h'.alloc _
    | k + 2 => exact absurd hk (by simp)

theorem rows_one {w : World} {a : Option Addr} {S : List Int} {cs : Nat} (h : IntsAt w a S) :
    RowsAt (w.alloc (.cells #[.slice a S.length cs] 27)) (some ⟨w.heap.size, 0, none⟩) (fun _ => a) (fun _ => cs) [S] := by
  refine ⟨by simp, fun _ => ⟨_, 0, rfl, fun k hk => ?_⟩, fun k hk => ?_⟩
  · match k with
    | 0 =>
      have h0 := heap_alloc_new w (.cells #[.slice a S.length cs] 27)
      simp only [World.cell?, h0, row]
      rfl
    | k + 1 => exact absurd hk (by simp)
  · match k with
    | 0 => exact h.alloc _
    | k + 1 => exact absurd hk (by simp)

theorem areSets_two {w : World} {a a' : Option Addr} {S T : List Int} {r : Bool} (hr : bothOk S T = r) (cs ct : Nat) (h : IntsAt w a S) (h' : IntsAt w a' T) :
    Calls Tryz.prog 73 #[.slice (some ⟨w.heap.size, 0, none⟩) 2 2] (w.alloc (.cells #[.slice a S.length cs, .slice a' T.length ct] 27)) fun e w' => e = .returned (.bool r) ∧ w.alloc (.cells #[.slice a S.length cs, .slice a' T.length ct] 27) = w' :=
  areSets_is (zss := [S, T]) (by rw [← hr]; simp [bothOk]) 2 (rows_two h h')

theorem areSets_one {w : World} {a : Option Addr} {S : List Int} {r : Bool} (hr : setB 256 S = r) (cs : Nat) (h : IntsAt w a S) :
    Calls Tryz.prog 73 #[.slice (some ⟨w.heap.size, 0, none⟩) 1 1] (w.alloc (.cells #[.slice a S.length cs] 27)) fun e w' => e = .returned (.bool r) ∧ w.alloc (.cells #[.slice a S.length cs] 27) = w' :=
  areSets_is (zss := [S]) (by rw [← hr]; simp) 1 (rows_one h)

/-- What p picks of the first k elements. -/
def partK (p : Int → Bool) (S : List Int) : Nat → List Int
  | 0 => []
  | k + 1 => partK p S k ++ if p (nth S k) then [nth S k] else []

theorem partK_filter (p : Int → Bool) (S : List Int) : ∀ k, k ≤ S.length → partK p S k = (S.take k).filter p
  | 0, _ => rfl
  | k + 1, h => by
    rw [partK, partK_filter p S k (by omega), List.take_add_one, List.filter_append, nth_eq (by omega)]
    rw [List.getElem?_eq_getElem (by omega)]
    simp [List.filter_cons]
theorem partK_all (p : Int → Bool) (S : List Int) : partK p S S.length = S.filter p := by rw [partK_filter p S _ (Nat.le_refl _), List.take_length]
theorem partK_len (p : Int → Bool) (S : List Int) (k : Nat) : (partK p S k).length ≤ k := by
  induction k with
  | zero => simp [partK]
  | succ k ih => simp only [partK]; split <;> simp <;> omega
theorem filter_fits {S : List Int} (p : Int → Bool) (h : ∀ k, k < S.length → Fits (nth S k)) : ∀ k, k < (S.filter p).length → Fits (nth (S.filter p) k) := fun k hk => by
  have hm := (List.mem_filter.1 (nth_mem hk)).1
  obtain ⟨j, hj, e⟩ := mem_nth.1 hm
  rw [← e]; exact h j hj

/-- Who is in T; who isn't. -/
def inT (T : List Int) : Int → Bool := fun x => hasB T x
def outT (T : List Int) : Int → Bool := fun x => !hasB T x

/-- A row of one's own, that grows. -/
structure Grows (w wr : World) (v : Value) (zs : List Int) : Prop where
  own : wr.ownsRow w.heap.size 2 1 v zs.length (zs.map (Value.int .i64))

set_option maxHeartbeats 4000000 in
theorem split_is {w : World} {a a' : Option Addr} {S T : List Int} (cs ct : Nat) (hS : IntsAt w a S) (hT : IntsAt w a' T) (hr : Rises T) (hl : S.length ≤ 1048576) :
    Calls Tryz.prog 143 #[.slice a S.length cs, .slice a' T.length ct] w fun e w' => ∃ u v, e = .returned (.tuple #[u, v]) ∧
      OwnInts w' w.heap.size w'.heap.size u (S.filter (inT T)) ∧ OwnInts w' w.heap.size w'.heap.size v (S.filter (outT T)) ∧ Below w.heap.size w w' := by
  obtain ⟨i0, hi, hz0, hz1, hz2⟩ := info_parts info_int
  have HS := Lib.hid hS
  have HT := Lib.hid hT
  have HO := Lib.hid hr
  clear hS hT hr
  go_enter Tryz.func143, Tryz.ntmps143
  go_wp2
  go_loopw [4, 5, 10] (fun u v i wr => ∃ (k : Nat) (uu vv : Value), uu = u ∧ vv = v ∧ k ≤ S.length ∧ i = .int .i64 k ∧ Hid (wr.ownsRow w.heap.size 2 1 u (partK (inT T) S k).length ((partK (inT T) S k).map (Value.int .i64))) ∧ Hid (wr.ownsRow w.heap.size 2 1 v (partK (outT T) S k).length ((partK (outT T) S k).map (Value.int .i64))) ∧ Hid (∀ g, u.ownBlock = some g → v.ownBlock ≠ some g) ∧ Hid (Below w.heap.size w wr)) (fun _ _ i _ => S.length - (intOf i).toNat)
  case atStart => exact ⟨0, _, _, rfl, rfl, Nat.zero_le _, rfl, World.ownsRow_nil _ _ _ _, World.ownsRow_nil _ _ _ _, fun g hg => by simp [Value.ownBlock] at hg, Below.refl _ _⟩
  case round =>
    obtain ⟨k, uu, vv, hu0, hv0, hk, rfl, HU, HV, HD, HB⟩ := hrel
    subst hu0
    subst hv0
    have hsz := HB.out.size
    by_cases hlt : k < S.length
    · obtain ⟨b, off, ha, hc⟩ := (HS.out.below HB.out).cell (by omega)
      subst ha
      have hck := hc k hlt
      clear hc
      have hpl := partK_len (inT T) S k
      have hpo := partK_len (outT T) S k
      cases hh : hasB T (nth S k) with
      | true =>
        have HF := Lib.hid (has_is hh ct (HT.out.below HB.out) HO.out)
        have HS1 : Hid (partK (inT T) S (k + 1) = partK (inT T) S k ++ [nth S k]) := by simp [partK, hh, Hid, inT]
        have hS2 : partK (outT T) S (k + 1) = partK (outT T) S k := by simp [partK, hh, outT]
        have HV2 := HV
        rw [← hS2] at HV2
        clear hh hS2
        go_wp2_with (first
          | (go_at_call 174; refine HF.out.mono ?_; rintro e w' ⟨rfl, rfl⟩)
          | (at_builtin; refine wpList_append_own_at _ rfl _ _ 105 rfl w.heap.size 2 i0 (.int .i64 0) 1 8 Tryz.underlying105 hi hz0 hz1 hz2 rfl (by decide) _ _ _ rfl (HU.out.alloc _) ⟨wr.heap.size, 0, none⟩ 1 1 [.int .i64 (nth S k)] rfl rfl ?c1 ?c2 ?c3 ?c4 ?c5 ?_))
        case c1 => exact cell_one_new _ _ _
        case c2 => intro u hu; simp at hu; subst hu; rfl
        case c3 => unfold maxLen; omega
        case c4 => omega
        case c5 => simp; omega
        · intro v' w1' hown' hgrow _ hlie
          have HBn := Lib.hid ((HB.out.alloc HB.out.size _).grown hgrow (by simp; omega) (fun g hg => (HU.out.lt g hg).1))
          have e1 : (partK (inT T) S (k + 1)).length = (partK (inT T) S k).length + 1 := by rw [HS1.out]; simp
          have e2 : (partK (inT T) S (k + 1)).map (Value.int .i64) = (partK (inT T) S k).map (Value.int .i64) ++ [.int .i64 (nth S k)] := by rw [HS1.out]; simp
          have HOn := Lib.hid hown'
          rw [← e1, ← e2] at HOn
          have HVn := Lib.hid (ownsRow_only (HV2.out.alloc _) (Only.of_grown hgrow) (fun g hg e => HD.out g e hg))
          have HDn : Hid (∀ g, v'.ownBlock = some g → vv.ownBlock ≠ some g) := fun g hg hv => by
            rcases hlie with h | h
            · rw [h] at hg; exact HD.out g hg hv
            · rw [h] at hg; have := (HV2.out.lt g hv).2; simp at hg; omega
          clear hown' hgrow e1 e2 hlie
          go_wp2
          go_roundw
          case rel => exact ⟨k + 1, _, _, rfl, rfl, by omega, by go_num, HOn, HVn, HDn, HBn⟩
          case measure => simp [intOf]; omega
      | false =>
        have HF := Lib.hid (has_is hh ct (HT.out.below HB.out) HO.out)
        have HS1 : Hid (partK (outT T) S (k + 1) = partK (outT T) S k ++ [nth S k]) := by simp [partK, hh, Hid, outT]
        have hS2 : partK (inT T) S (k + 1) = partK (inT T) S k := by simp [partK, hh, inT]
        have HU2 := HU
        rw [← hS2] at HU2
        clear hh hS2
        go_wp2_with (first
          | (go_at_call 174; refine HF.out.mono ?_; rintro e w' ⟨rfl, rfl⟩)
          | (at_builtin; refine wpList_append_own_at _ rfl _ _ 105 rfl w.heap.size 2 i0 (.int .i64 0) 1 8 Tryz.underlying105 hi hz0 hz1 hz2 rfl (by decide) _ _ _ rfl (HV.out.alloc _) ⟨wr.heap.size, 0, none⟩ 1 1 [.int .i64 (nth S k)] rfl rfl ?c1 ?c2 ?c3 ?c4 ?c5 ?_))
        case c1 => exact cell_one_new _ _ _
        case c2 => intro u hu; simp at hu; subst hu; rfl
        case c3 => unfold maxLen; omega
        case c4 => omega
        case c5 => simp; omega
        · intro v' w1' hown' hgrow _ hlie
          have HBn := Lib.hid ((HB.out.alloc HB.out.size _).grown hgrow (by simp; omega) (fun g hg => (HV.out.lt g hg).1))
          have e1 : (partK (outT T) S (k + 1)).length = (partK (outT T) S k).length + 1 := by rw [HS1.out]; simp
          have e2 : (partK (outT T) S (k + 1)).map (Value.int .i64) = (partK (outT T) S k).map (Value.int .i64) ++ [.int .i64 (nth S k)] := by rw [HS1.out]; simp
          have HOn := Lib.hid hown'
          rw [← e1, ← e2] at HOn
          have HUn := Lib.hid (ownsRow_only (HU2.out.alloc _) (Only.of_grown hgrow) (fun g hg e => HD.out g hg e))
          have HDn : Hid (∀ g, uu.ownBlock = some g → v'.ownBlock ≠ some g) := fun g hg hv => by
            rcases hlie with h | h
            · rw [h] at hv; exact HD.out g hg hv
            · rw [h] at hv; have := (HU2.out.lt g hg).2; simp at hv; omega
          clear hown' hgrow e1 e2 hlie
          go_wp2
          go_roundw
          case rel => exact ⟨k + 1, _, _, rfl, rfl, by omega, by go_num, HUn, HOn, HDn, HBn⟩
          case measure => simp [intOf]; omega
    · have hkk : k = S.length := by omega
      rw [hkk] at HU HV
      rw [partK_all] at HU HV
      have hl1 := List.length_filter_le (inT T) S
      have hl2 := List.length_filter_le (outT T) S
      have hfin := Lib.hid (And.intro (OwnInts.mk' HU.out (by omega) (filter_fits _ HS.out.fits)) (OwnInts.mk' HV.out (by omega) (filter_fits _ HS.out.fits)))
      clear hkk HU HV
      go_wp2
      go_ret2
      exact ⟨_, _, rfl, hfin.out.1, hfin.out.2, HB.out⟩

/-- What MeetOf, LessOf and PartIn say. -/
def meetL (S T : List Int) : List Int := if bothOk S T then S.filter (inT T) else []
def lessL (S T : List Int) : List Int := if bothOk S T then S.filter (outT T) else []
def partB (S T : List Int) : Bool := bothOk S T && decide ((S.filter (outT T)).length = 0)

theorem both_sets {S T : List Int} (h : bothOk S T = true) : setB 256 S = true ∧ setB 256 T = true := by simpa [bothOk] using h
theorem both_len {S T : List Int} (h : bothOk S T = true) : S.length ≤ 256 := by have := setB_len (by decide) (both_sets h).1; omega

set_option maxHeartbeats 2000000 in
theorem specLessOf_is {w : World} {a a' : Option Addr} {S T r : List Int} (hr : lessL S T = r) (cs ct : Nat) (hS : IntsAt w a S) (hT : IntsAt w a' T) :
    Calls Tryz.prog 84 #[.slice a S.length cs, .slice a' T.length ct] w (GivesInts w r) := by
  obtain ⟨i0, hi, hz0, hz1, hz2⟩ := info_parts info_int
  have HS := Lib.hid hS
  have HT := Lib.hid hT
  have HC := Lib.hid (fun b (hb : bothOk S T = b) => l2Both_is hb cs ct (hS.alloc (.cells #[] 2)) (hT.alloc (.cells #[] 2)))
  have oW : Hid ((w.alloc (.cells #[] 2)).ownsRow w.heap.size 2 1 (.slice (some ⟨w.heap.size, 0, none⟩) 0 0) 0 []) := World.ownsRow_made w #[] 0 (Nat.le_refl _) (by unfold maxLen; omega) rfl
  have B0 := Lib.hid (below1 w (.cells #[] 2))
  clear hS hT
  cases hb : bothOk S T with
  | false =>
    have HC' := Lib.hid (HC.out _ hb)
    have HR : Hid (r = []) := by rw [← hr]; unfold lessL; rw [hb]; rfl
    clear hr hb HC
    go_enter Tryz.func84, Tryz.ntmps84
    go_wp2_with (go_at_call 108; refine HC'.out.mono ?_; rintro e w' ⟨rfl, q, rfl⟩)
    go_ret
    exact ⟨_, rfl, by rw [HR.out]; exact OwnInts.mk' (ownsRow_only oW.out (S := fun _ => False) (Only.of_below (below_drewN (Below.refl _ _) q)) (fun _ _ h => h)) (by simp) (fun k hk => absurd hk (by simp)), below_drewN B0.out q⟩
  | true =>
    have HC' := Lib.hid (HC.out _ hb)
    have HR : Hid (r = S.filter (outT T)) := by rw [← hr]; unfold lessL; rw [hb]; rfl
    have hl := both_len hb
    clear hr hb HC
    go_enter Tryz.func84, Tryz.ntmps84
    go_wp2_with (go_at_call 108; refine HC'.out.mono ?_; rintro e w' ⟨rfl, q, rfl⟩; have oQ : Hid (((w.alloc (.cells #[] 2)).drewN q).ownsRow w.heap.size 2 1 (.slice (some ⟨w.heap.size, 0, none⟩) 0 0) 0 []) := (ownsRow_only oW.out (S := fun _ => False) (Only.of_below (below_drewN (Below.refl _ _) q)) (fun _ _ h => h)); have BQ := Lib.hid (below_drewN B0.out q); clear oW B0)
    go_loopw [5, 6] (fun u i wr => ∃ k : Nat, k ≤ S.length ∧ i = .int .i64 k ∧ Hid (wr.ownsRow w.heap.size 2 1 u (partK (outT T) S k).length ((partK (outT T) S k).map (Value.int .i64))) ∧ Hid (Below w.heap.size w wr)) (fun _ i _ => S.length - (intOf i).toNat)
    case atStart => exact ⟨0, Nat.zero_le _, rfl, oQ, BQ⟩
    case round =>
      clear oQ BQ HC'
      obtain ⟨k, hk, rfl, HU, HB⟩ := hrel
      have hsz := HB.out.size
      by_cases hlt : k < S.length
      · obtain ⟨b, off, ha, hc⟩ := (HS.out.below HB.out).cell (by omega)
        subst ha
        have hck := hc k hlt
        clear hc
        have hpl := partK_len (outT T) S k
        cases hh : hasB T (nth S k) with
        | true =>
          have HF := Lib.hid (l1Has_is hh ct _ (HT.out.below HB.out))
          have hS2 : partK (outT T) S (k + 1) = partK (outT T) S k := by simp [partK, hh, outT]
          have HU2 := HU
          rw [← hS2] at HU2
          clear hh hS2
          go_wp2_with (go_at_call 54; refine HF.out.mono ?_; rintro e w' ⟨rfl, rfl⟩)
          go_roundw
          case rel => exact ⟨k + 1, by omega, by go_num, HU2, HB⟩
          case measure => simp [intOf]; omega
        | false =>
          have HF := Lib.hid (l1Has_is hh ct _ (HT.out.below HB.out))
          have HS1 : Hid (partK (outT T) S (k + 1) = partK (outT T) S k ++ [nth S k]) := by simp [partK, hh, Hid, outT]
          clear hh
          go_wp2_with (first
            | (go_at_call 54; refine HF.out.mono ?_; rintro e w' ⟨rfl, rfl⟩)
            | (at_builtin; refine wpList_append_own_at _ rfl _ _ 27 rfl w.heap.size 2 i0 (.int .i64 0) 1 8 Tryz.underlying27 hi hz0 hz1 hz2 rfl (by decide) _ _ _ rfl (HU.out.alloc _) ⟨wr.heap.size, 0, none⟩ 1 1 [.int .i64 (nth S k)] rfl rfl ?c1 ?c2 ?c3 ?c4 ?c5 ?_))
          case c1 => exact cell_one_new _ _ _
          case c2 => intro u hu; simp at hu; subst hu; rfl
          case c3 => unfold maxLen; omega
          case c4 => omega
          case c5 => simp; omega
          · intro v' w1' hown' hgrow _ _
            have HBn := Lib.hid ((HB.out.alloc HB.out.size _).grown hgrow (by simp; omega) (fun g hg => (HU.out.lt g hg).1))
            have e1 : (partK (outT T) S (k + 1)).length = (partK (outT T) S k).length + 1 := by rw [HS1.out]; simp
            have e2 : (partK (outT T) S (k + 1)).map (Value.int .i64) = (partK (outT T) S k).map (Value.int .i64) ++ [.int .i64 (nth S k)] := by rw [HS1.out]; simp
            have HOn := Lib.hid hown'
            rw [← e1, ← e2] at HOn
            clear hown' hgrow e1 e2
            go_wp2
            go_roundw
            case rel => exact ⟨k + 1, by omega, by go_num, HOn, HBn⟩
            case measure => simp [intOf]; omega
      · have hkk : k = S.length := by omega
        rw [hkk] at HU
        rw [partK_all] at HU
        have hl1 := List.length_filter_le (outT T) S
        have hfin := Lib.hid (OwnInts.mk' HU.out (by omega) (filter_fits _ HS.out.fits))
        clear hkk HU
        go_wp2
        go_ret
        exact ⟨_, rfl, by rw [HR.out]; exact hfin.out, HB.out⟩

end
end

section
section
open Go.RowKit

/-- How many elements stand ahead of x. -/
def lowK : List Int → Int → Nat
  | [], _ => 0
  | z :: r, x => if z < x then lowK r x + 1 else 0

theorem lowK_at : ∀ (zs : List Int) (x : Int) (k : Nat), k ≤ zs.length → (∀ j, j < k → nth zs j < x) → (k < zs.length → ¬ nth zs k < x) → lowK zs x = k
  | [], _, k, hk, _, _ => by simp at hk; subst hk; rfl
  | z :: r, x, 0, _, _, h => by
    have h0 : ¬ z < x := by simpa [nth] using h (by simp)
    simp [lowK, h0]
  | z :: r, x, k + 1, hk, hl, h => by
    have h0 : z < x := by simpa [nth] using hl 0 (by omega)
    have ih := lowK_at r x k (by simpa using hk) (fun j hj => by simpa [nth] using hl (j + 1) (by omega)) (fun hj => by simpa [nth] using h (by simpa using hj))
    simp [lowK, h0, ih]

/-- What l1Into hands back. -/
def intoL (zs : List Int) (x : Int) : List Int := if lowK zs x < zs.length ∧ nth zs (lowK zs x) = x then zs else zs.take (lowK zs x) ++ x :: zs.drop (lowK zs x)

theorem intoL_same {zs : List Int} {x : Int} {k : Nat} (hk : k < zs.length) (hl : ∀ j, j < k → nth zs j < x) (h : nth zs k = x) : intoL zs x = zs := by
  have e := lowK_at zs x k (by omega) hl (fun _ => by omega)
  unfold intoL; rw [e, if_pos ⟨hk, h⟩]
theorem intoL_new {zs : List Int} {x : Int} {k : Nat} (hk : k ≤ zs.length) (hl : ∀ j, j < k → nth zs j < x) (h : k < zs.length → x < nth zs k) : intoL zs x = zs.take k ++ x :: zs.drop k := by
  have e := lowK_at zs x k hk hl (fun hk => by have := h hk; omega)
  unfold intoL; rw [e, if_neg (fun ⟨h1, h2⟩ => by have := h h1; omega)]
theorem intoL_len (zs : List Int) (x : Int) : (intoL zs x).length ≤ zs.length + 1 := by
  unfold intoL; split
  · omega
  · simp; omega
theorem intoL_mem {zs : List Int} {x y : Int} : y ∈ intoL zs x ↔ y ∈ zs ∨ y = x := by
  unfold intoL; split
  · rename_i h
    constructor
    · exact Or.inl
    · rintro (h1 | rfl)
      · exact h1
      · rw [← h.2]; exact nth_mem h.1
  · have : y ∈ zs ↔ y ∈ zs.take (lowK zs x) ∨ y ∈ zs.drop (lowK zs x) := by
      rw [← List.mem_append, List.take_append_drop]
    rw [List.mem_append, List.mem_cons, this]
    constructor
    · rintro (h | rfl | h)
      · exact .inl (.inl h)
      · exact .inr rfl
      · exact .inl (.inr h)
    · rintro ((h | h) | rfl)
      · exact .inl h
      · exact .inr (.inr h)
      · exact .inr (.inl rfl)
theorem intoL_fits {zs : List Int} {x : Int} (h : ∀ k, k < zs.length → Fits (nth zs k)) (hx : Fits x) : ∀ k, k < (intoL zs x).length → Fits (nth (intoL zs x) k) := fun k hk => by
  rcases intoL_mem.1 (nth_mem hk) with hm | e
  · obtain ⟨j, hj, e⟩ := mem_nth.1 hm
    rw [← e]; exact h j hj
  · rw [e]; exact hx

theorem IntsAt.take {w : World} {a : Option Addr} {zs : List Int} (h : IntsAt w a zs) (k : Nat) (hk : k ≤ zs.length) : IntsAt w a (zs.take k) := by
  have hl : (zs.take k).length = k := by simp; omega
  have hn : ∀ j, j < k → nth (zs.take k) j = nth zs j := fun j hj => by simp [nth, hj]
  refine ⟨by rw [hl]; have := h.len; omega, fun j hj => ?_, fun h0 => ?_⟩
  · rw [hl] at hj; rw [hn j hj]; exact h.fits j (by omega)
  · rw [hl] at h0
    obtain ⟨b, off, ha, hc⟩ := h.cell (by omega)
    exact ⟨b, off, ha, fun j hj => by rw [hl] at hj; rw [hn j hj]; exact hc j (by omega)⟩

theorem news_drop {w : World} {g : Nat} {zs : List Int} (h : IntsAt w (some ⟨g, 0, none⟩) zs) (k : Nat) : ∀ j u, ((zs.drop k).map (Value.int .i64))[j]? = some u → w.cell? ((⟨g, k, none⟩ : Addr).add j) = some u := by
  intro j u hu
  have hj : j < (zs.drop k).length := by
    rcases Nat.lt_or_ge j (zs.drop k).length with h | h
    · exact h
    · simp only [List.getElem?_map, List.getElem?_eq_none h] at hu; cases hu
  have hl : (zs.drop k).length = zs.length - k := List.length_drop
  obtain ⟨b, off, ha, hc⟩ := h.cell (by omega)
  cases ha
  have hcj := hc (k + j) (by omega)
  rw [Nat.zero_add] at hcj
  rw [Go.WideShapes.add_plain, hcj]
  rw [List.getElem?_map, List.getElem?_eq_getElem hj] at hu
  rw [← hu]
  have : (zs.drop k)[j] = nth zs (k + j) := by rw [List.getElem_drop, nth_eq (by omega)]
  rw [this]; rfl

theorem into_own {w : World} {B k : Nat} {v : Value} {zs : List Int} {x : Int} (hk : k ≤ zs.length) (h : w.ownsRow B 2 1 v (k + 1 + (zs.length - k)) (List.take k (zs.map (Value.int .i64)) ++ .int .i64 x :: List.drop k (zs.map (Value.int .i64)))) :
    w.ownsRow B 2 1 v (zs.take k ++ x :: zs.drop k).length ((zs.take k ++ x :: zs.drop k).map (Value.int .i64)) := by
  have e : (zs.take k ++ x :: zs.drop k).length = k + 1 + (zs.length - k) := by simp; omega
  rw [e]
  simpa using h

/-- A slice of the call's own, that gives way to another one. -/
def GivesOwn (w : World) (B : Nat) (zs : List Int) (e : Ending) (w' : World) : Prop :=
  ∃ u, e = .returned u ∧ OwnInts w' B w'.heap.size u zs ∧ Below w.heap.size w w'

set_option maxHeartbeats 2000000 in
set_option maxRecDepth 100000 in
theorem l1Into_is {w : World} {B D : Nat} {v : Value} {zs : List Int} {x : Int} (h : OwnInts w B D v zs) (hB : B ≤ w.heap.size) (hl : zs.length ≤ 1048576) (hx : Fits x) :
    Calls Tryz.prog 109 #[v, .int .i64 x] w (GivesOwn w B (intoL zs x)) := by
  obtain ⟨i0, hi, hz0, hz1, hz2⟩ := info_parts info_int
  have HI := Lib.hid h
  have HX := Lib.hid hx
  unfold Fits at hx
  rcases h.own.2 with ⟨hv, h0⟩ | ⟨g, cap, cur, hv, hg, hbk, hnc, hm, hcs, ht⟩
  · have hz : zs = [] := List.length_eq_zero_iff.1 h0
    subst hz
    subst hv
    have HC : Hid (Calls Tryz.prog 56 #[.slice none 0 0] w (GivesInts w [])) := l1Copy_is (zs := []) 0 ⟨by simp, fun k hk => absurd hk (by simp), fun hp => absurd hp (by simp)⟩
    clear h h0
    go_enter Tryz.func109, Tryz.ntmps109
    go_wp2
    go_loop [5] (fun i => i = .int .i64 0) (fun _ => 0)
    case atStart => rfl
    case round =>
      subst hrel
      go_wp2_with (first
        | (go_at_call 56; refine HC.out.mono ?_; rintro e w1 ⟨u, rfl, hu, hb⟩; have HU := Lib.hid hu; have HB := Lib.hid hb; have hsz := hb.size; clear hu hb)
        | (at_builtin; refine wpList_append_own_at _ rfl _ _ 27 rfl w.heap.size 2 i0 (.int .i64 0) 1 8 Tryz.underlying27 hi hz0 hz1 hz2 rfl (by decide) _ _ _ rfl (HU.out.own.alloc _) ⟨w1.heap.size, 0, none⟩ 1 1 [.int .i64 x] rfl rfl ?c1 ?c2 ?c3 ?c4 ?c5 ?_))
      case c1 => exact cell_one_new _ _ _
      case c2 => intro u hu; simp at hu; subst hu; rfl
      case c3 => unfold maxLen; simp
      case c4 => simp
      case c5 => simp; omega
      · intro v' w2 hown' hgrow _ _
        have HOn : Hid (w2.ownsRow w.heap.size 2 1 v' 1 [.int .i64 x]) := Lib.hid (by simpa using hown')
        have HBn := Lib.hid ((HB.out.alloc hsz (.cells #[.int .i64 x] 2)).grown hgrow (by simp; omega) (fun g hg => (HU.out.own.lt g hg).1))
        clear hown' hgrow
        go_wp2_with (at_builtin; refine wpList_append_nil rfl _ _ 27 rfl w.heap.size 2 i0 1 Tryz.underlying27 hi _ _ _ rfl HOn.out _ rfl ?_)
        go_ret
        have e : intoL [] x = [x] := intoL_new (k := 0) (by simp) (fun j hj => absurd hj (by omega)) (fun h => absurd h (by simp))
        refine ⟨_, rfl, ?_, HBn.out⟩
        rw [e]
        exact (OwnInts.mk' (zs := [x]) HOn.out (by simp) (fun k hk => by have : k = 0 := by simp at hk; omega
                                                                         subst this; exact HX.out)).base hB
  · subst hv
    obtain ⟨a', cap', hva, hia, _⟩ := h.shape
    cases hva
    have HA := Lib.hid hia
    clear hia h
    go_enter Tryz.func109, Tryz.ntmps109
    go_wp2
    go_loop [5] (fun i => ∃ k : Nat, k ≤ zs.length ∧ i = .int .i64 k ∧ Hid (∀ j, j < k → nth zs j < x)) (fun i => zs.length - (intOf i).toNat)
    case atStart => exact ⟨0, Nat.zero_le _, rfl, fun j hj => absurd hj (Nat.not_lt_zero _)⟩
    case round =>
      obtain ⟨k, hk, rfl, HK⟩ := hrel
      by_cases hlt : k < zs.length
      · obtain ⟨b, off, ha, hc⟩ := HA.out.cell (by omega)
        cases ha
        have hck := hc k hlt
        rw [Nat.zero_add] at hck
        clear hc
        by_cases hlx : nth zs k < x
        · have HK' : Hid (∀ j, j < k + 1 → nth zs j < x) := fun j hj => by
            by_cases e : j = k
            · subst e; exact hlx
            · exact HK.out j (by omega)
          go_wp2
          go_round
          case rel => exact ⟨k + 1, by omega, by go_num, HK'⟩
          case measure => simp [intOf]; omega
        · by_cases he : nth zs k = x
          · have HE : Hid (intoL zs x = zs) := intoL_same hlt HK.out he
            have hb : (nth zs k == x) = true := by simp [he]
            clear he
            go_wp2
            go_ret
            exact ⟨_, rfl, by rw [HE.out]; exact HI.out.retop, Below.refl _ _⟩
          · have hb : (nth zs k == x) = false := by simp [he]
            have HC : Hid (Calls Tryz.prog 56 #[.slice (some ⟨g, 0, none⟩) k cap] w (GivesInts w (zs.take k))) := by
              have hc := l1Copy_is cap (HA.out.take k hk)
              rw [List.length_take_of_le hk] at hc
              exact hc
            have HE : Hid (intoL zs x = zs.take k ++ x :: zs.drop k) := intoL_new hk HK.out (fun _ => by omega)
            have hkc : k ≤ cap := by omega
            have hlt1 : (zs.take k).length = k := List.length_take_of_le hk
            clear he
            go_wp2_with (first
              | (go_at_call 56; refine HC.out.mono ?_; rintro e w1 ⟨u, rfl, hu, hb⟩; have HU := Lib.hid hu; have HB := Lib.hid hb; have hsz := hb.size; clear hu hb)
              | (at_builtin; refine wpList_append_own_at _ rfl _ _ 27 rfl w.heap.size 2 i0 (.int .i64 0) 1 8 Tryz.underlying27 hi hz0 hz1 hz2 rfl (by decide) _ _ _ rfl (HU.out.own.alloc _) ⟨w1.heap.size, 0, none⟩ 1 1 [.int .i64 x] rfl rfl ?c1 ?c2 ?c3 ?c4 ?c5 ?_))
            case c1 => exact cell_one_new _ _ _
            case c2 => intro u hu; simp at hu; subst hu; rfl
            case c3 => unfold maxLen; omega
            case c4 => omega
            case c5 => simp; omega
            · intro v' w2 hown' hgrow _ _
              have HOn := Lib.hid hown'
              have HBn := Lib.hid ((HB.out.alloc hsz (.cells #[.int .i64 x] 2)).grown hgrow (by simp; omega) (fun g hg => (HU.out.own.lt g hg).1))
              clear hown' hgrow
              go_wp2_with (at_builtin; refine wpList_append_own_at _ rfl _ _ 27 rfl w.heap.size 2 i0 (.int .i64 0) 1 8 Tryz.underlying27 hi hz0 hz1 hz2 rfl (by decide) _ _ _ rfl HOn.out ⟨g, k, none⟩ (zs.length - k) (cap - k) ((zs.drop k).map (Value.int .i64)) rfl ?d0 ?d1 ?d2 ?d3 ?d4 ?d5 ?_)
              case d0 => simp
              case d1 => exact news_drop (HA.out.below HBn.out) k
              case d2 => exact one_of _
              case d3 => unfold maxLen; omega
              case d4 => omega
              case d5 => exact HBn.out.size
              · intro v3 w3 hown3 hgrow3 _ _
                have HO3 := Lib.hid (into_own hk (by simpa [hlt1] using hown3))
                have HB3 := Lib.hid (HBn.out.grown hgrow3 HBn.out.size (fun g hg => (HOn.out.lt g hg).1))
                clear hown3 hgrow3
                go_wp2
                go_ret
                refine ⟨_, rfl, ?_, HB3.out⟩
                rw [HE.out]
                refine (OwnInts.mk' HO3.out (by simp; omega) (by rw [← HE.out]; exact intoL_fits HI.out.fits HX.out)).base hB
      · by_cases hcc : cap = k
        · subst hcc
          have HC : Hid (Calls Tryz.prog 56 #[.slice (some ⟨g, 0, none⟩) cap cap] w (GivesInts w (zs.take cap))) := by
            have hc := l1Copy_is cap (HA.out.take cap hk)
            rw [List.length_take_of_le hk] at hc
            exact hc
          have HE : Hid (intoL zs x = zs.take cap ++ x :: zs.drop cap) := intoL_new hk HK.out (fun h => absurd h hlt)
          have hkc : cap ≤ cap := by omega
          have hkk : ¬ (cap : Int) < zs.length := by omega
          have hlt1 : (zs.take cap).length = cap := List.length_take_of_le hk
          go_wp2_with (first
            | (go_at_call 56; refine HC.out.mono ?_; rintro e w1 ⟨u, rfl, hu, hb⟩; have HU := Lib.hid hu; have HB := Lib.hid hb; have hsz := hb.size; clear hu hb)
            | (at_builtin; refine wpList_append_own_at _ rfl _ _ 27 rfl w.heap.size 2 i0 (.int .i64 0) 1 8 Tryz.underlying27 hi hz0 hz1 hz2 rfl (by decide) _ _ _ rfl (HU.out.own.alloc _) ⟨w1.heap.size, 0, none⟩ 1 1 [.int .i64 x] rfl rfl ?c1 ?c2 ?c3 ?c4 ?c5 ?_))
          case c1 => exact cell_one_new _ _ _
          case c2 => intro u hu; simp at hu; subst hu; rfl
          case c3 => unfold maxLen; omega
          case c4 => omega
          case c5 => simp; omega
          · intro v' w2 hown' hgrow _ _
            have HOn := Lib.hid hown'
            have HBn := Lib.hid ((HB.out.alloc hsz (.cells #[.int .i64 x] 2)).grown hgrow (by simp; omega) (fun g hg => (HU.out.own.lt g hg).1))
            clear hown' hgrow
            go_wp2_with (at_builtin; refine wpList_append_own_at _ rfl _ _ 27 rfl w.heap.size 2 i0 (.int .i64 0) 1 8 Tryz.underlying27 hi hz0 hz1 hz2 rfl (by decide) _ _ _ rfl HOn.out ⟨g, 0, none⟩ _ _ [] rfl ?d0 ?d1 ?d2 ?d3 ?d4 ?d5 ?_)
            case d0 => simp
            case d1 => intro j u hu; simp at hu
            case d2 => intro u hu; simp at hu
            case d3 => unfold maxLen; omega
            case d4 => omega
            case d5 => exact HBn.out.size
            · intro v3 w3 hown3 hgrow3 _ _
              have hd : zs.drop cap = [] := List.drop_eq_nil_of_le (by omega)
              have h0 : zs.length - cap = 0 := by omega
              have HO3 := Lib.hid (into_own hk (by rw [← List.map_drop, hd]; rw [h0]; simpa [hlt1] using hown3))
              have HB3 := Lib.hid (HBn.out.grown hgrow3 HBn.out.size (fun g hg => (HOn.out.lt g hg).1))
              clear hown3 hgrow3 hd h0
              go_wp2
              go_ret
              refine ⟨_, rfl, ?_, HB3.out⟩
              rw [HE.out]
              refine (OwnInts.mk' HO3.out (by simp; omega) (by rw [← HE.out]; exact intoL_fits HI.out.fits HX.out)).base hB
        · have HC : Hid (Calls Tryz.prog 56 #[.slice (some ⟨g, 0, none⟩) k cap] w (GivesInts w (zs.take k))) := by
            have hc := l1Copy_is cap (HA.out.take k hk)
            rw [List.length_take_of_le hk] at hc
            exact hc
          have HE : Hid (intoL zs x = zs.take k ++ x :: zs.drop k) := intoL_new hk HK.out (fun h => absurd h hlt)
          have hkc : k ≤ cap := by omega
          have hkk : ¬ (k : Int) < zs.length := by omega
          have hlt1 : (zs.take k).length = k := List.length_take_of_le hk
          go_wp2_with (first
            | (go_at_call 56; refine HC.out.mono ?_; rintro e w1 ⟨u, rfl, hu, hb⟩; have HU := Lib.hid hu; have HB := Lib.hid hb; have hsz := hb.size; clear hu hb)
            | (at_builtin; refine wpList_append_own_at _ rfl _ _ 27 rfl w.heap.size 2 i0 (.int .i64 0) 1 8 Tryz.underlying27 hi hz0 hz1 hz2 rfl (by decide) _ _ _ rfl (HU.out.own.alloc _) ⟨w1.heap.size, 0, none⟩ 1 1 [.int .i64 x] rfl rfl ?c1 ?c2 ?c3 ?c4 ?c5 ?_))
          case c1 => exact cell_one_new _ _ _
          case c2 => intro u hu; simp at hu; subst hu; rfl
          case c3 => unfold maxLen; omega
          case c4 => omega
          case c5 => simp; omega
          · intro v' w2 hown' hgrow _ _
            have HOn := Lib.hid hown'
            have HBn := Lib.hid ((HB.out.alloc hsz (.cells #[.int .i64 x] 2)).grown hgrow (by simp; omega) (fun g hg => (HU.out.own.lt g hg).1))
            clear hown' hgrow
            go_wp2_with (at_builtin; refine wpList_append_own_at _ rfl _ _ 27 rfl w.heap.size 2 i0 (.int .i64 0) 1 8 Tryz.underlying27 hi hz0 hz1 hz2 rfl (by decide) _ _ _ rfl HOn.out ⟨g, k, none⟩ (zs.length - k) (cap - k) [] rfl ?d0 ?d1 ?d2 ?d3 ?d4 ?d5 ?_)
            case d0 => simp; omega
            case d1 => intro j u hu; simp at hu
            case d2 => intro u hu; simp at hu
            case d3 => unfold maxLen; omega
            case d4 => omega
            case d5 => exact HBn.out.size
            · intro v3 w3 hown3 hgrow3 _ _
              have hd : zs.drop k = [] := List.drop_eq_nil_of_le (by omega)
              have HO3 := Lib.hid (into_own hk (by rw [← List.map_drop, hd]; simpa [hlt1] using hown3))
              have HB3 := Lib.hid (HBn.out.grown hgrow3 HBn.out.size (fun g hg => (HOn.out.lt g hg).1))
              clear hown3 hgrow3 hd
              go_wp2
              go_ret
              refine ⟨_, rfl, ?_, HB3.out⟩
              rw [HE.out]
              refine (OwnInts.mk' HO3.out (by simp; omega) (by rw [← HE.out]; exact intoL_fits HI.out.fits HX.out)).base hB
end

section
open Go.RowKit

/-- The bytes of a slice. -/
structure BytesAt (w : World) (a : Option Addr) (bs : List Int) : Prop where
  len : bs.length ≤ 140737488355328
  byt : ∀ k, k < bs.length → ∃ b off, a = some ⟨b, off, none⟩ ∧ w.cell? ⟨b, off + k, none⟩ = some (.int .u8 (nth bs k)) ∧ 0 ≤ nth bs k ∧ nth bs k ≤ 255

theorem Only.new {S T : Nat → Prop} {a b c : World} (h : Only S a b) (k : Only T b c) (ht : ∀ x, T x → S x ∨ a.heap.size ≤ x) : Only S a c :=
  ⟨k.os.trans h.os, k.tape.trans h.tape, k.output.trans h.output, Nat.le_trans h.size k.size, fun i hi hs => (k.block i (Nat.lt_of_lt_of_le hi h.size) (fun hT => by
    rcases ht i hT with h1 | h1
    · exact hs h1
    · omega)).trans (h.block i hi hs)⟩

/-- A literal row. -/
theorem ints_new (w : World) (t : TypeId) (L : List Int) (hl : L.length ≤ 4096) (hf : ∀ z ∈ L, Fits z) : IntsAt (w.alloc (.cells (L.map (Value.int .i64)).toArray t)) (some ⟨w.heap.size, 0, none⟩) L :=
  ⟨by omega, fun k hk => hf _ (nth_mem hk), fun _ => ⟨_, 0, rfl, fun k hk => by
    have h0 := heap_alloc_new w (.cells (L.map (Value.int .i64)).toArray t)
    simp only [World.cell?, h0, Nat.zero_add]
    simp [hk, nth_eq hk]⟩⟩

theorem IntsAt.only {w w' : World} {S : Nat → Prop} {b : Nat} {zs : List Int} (h : IntsAt w (some ⟨b, 0, none⟩) zs) (hk : Only S w w') (hb : b < w.heap.size) (hs : ¬ S b) : IntsAt w' (some ⟨b, 0, none⟩) zs :=
  ⟨h.len, h.fits, fun h0 => by
    obtain ⟨b', off, ha, hc⟩ := h.cell h0
    cases ha
    exact ⟨b, 0, rfl, fun k hk' => by
      rw [World.cell?_of_block (w := w) (hk.block b hb hs)]
      exact hc k hk'⟩⟩

/-- Any number. -/
def RollsAny (w : World) (B p : Nat) (ab : Option Addr) (cb : Nat) (bs : List Int) (e : Ending) (w' : World) : Prop :=
  ∃ x i h, e = .returned (.int .i64 x) ∧ Fits x ∧ Dr w' B p ab cb bs i h ∧ Only (fun b => b = p) w w'

theorem Rolls.any {w : World} {B p : Nat} {ab : Option Addr} {cb : Nat} {bs : List Int} {lo hi : Int} {e : Ending} {w' : World} (h : Rolls w B p ab cb bs lo hi e w') (hl : -9223372036854775808 ≤ lo) (hh : hi ≤ 9223372036854775807) : RollsAny w B p ab cb bs e w' := by
  obtain ⟨x, i, h', he, h1, h2, h3, h4⟩ := h
  exact ⟨x, i, h', he, ⟨by omega, by omega⟩, h3, h4⟩

theorem Dr.lt {w : World} {B p : Nat} {ab : Option Addr} {cb : Nat} {bs : List Int} {i : Nat} {h : Int} (d : Dr w B p ab cb bs i h) : p < w.heap.size := d.str.lt

/-- A new cursor. -/
def GivesCur (w : World) (ab : Option Addr) (cb : Nat) (bs : List Int) (e : Ending) (w' : World) : Prop :=
  ∃ h, e = .returned (.pointer (some ⟨w.heap.size, 0, none⟩)) ∧ Dr w' w.heap.size w.heap.size ab cb bs 0 h ∧ Below w.heap.size w w'

set_option maxHeartbeats 2000000 in
set_option maxRecDepth 100000 in
theorem l1New_is {w : World} {ab : Option Addr} {cb : Nat} {bs : List Int} (hb : BytesAt w ab bs) (hl : bs.length ≤ 4096) :
    Calls Tryz.prog 42 #[.slice ab bs.length cb] w (GivesCur w ab cb bs) := by
  have HB := Lib.hid hb
  clear hb
  go_enter Tryz.func42, Tryz.ntmps42
  go_wp2
  go_loop [3, 4] (fun hv i => ∃ (k : Nat) (h : Int), k ≤ bs.length ∧ i = .int .i64 k ∧ hv = .int .i64 h ∧ 0 ≤ h ∧ h ≤ 1073741823) (fun _ i => bs.length - (intOf i).toNat)
  case atStart => exact ⟨0, _, Nat.zero_le _, rfl, rfl, by omega, by omega⟩
  case round =>
    obtain ⟨k, h, hk, rfl, rfl, h0, h1⟩ := hrel
    by_cases hlt : k < bs.length
    · have hi1 : (k : Int) < bs.length := by omega
      obtain ⟨b, off, ha, hcb, hb0, hb1⟩ := HB.out.byt k hlt
      subst ha
      have hz := bits_and_small (h * 313 + nth bs k + 11) 1073741823 (by omega) (by omega)
      go_wp2
      go_round
      case rel => exact ⟨k + 1, _, by omega, by go_num, rfl, hz.1, hz.2⟩
      case measure => simp [intOf]; omega
    · have hi1 : ¬ (k : Int) < bs.length := by omega
      go_wp2
      go_ret
      refine ⟨h, rfl, ⟨?_, Nat.zero_le _, hl, Nat.le_refl _, fun j hj => ?_⟩, below1 _ _⟩
      · refine ⟨_, heap_alloc_new w _, by simp, fun j hj => ?_⟩
        have hj3 : j = 0 ∨ j = 1 ∨ j = 2 := by omega
        rcases hj3 with rfl | rfl | rfl <;> rfl
      · obtain ⟨b, off, ha, hcb, hb0, hb1⟩ := HB.out.byt j hj
        exact ⟨b, off, ha, World.block_lt_of_cell? w _ hcb, Below.cell_some (B := 0) (below1 w _) rfl hcb, hb0, hb1⟩

set_option maxHeartbeats 1000000 in
set_option maxRecDepth 100000 in
theorem l1Odd_is {w : World} {B p : Nat} {ab : Option Addr} {cb : Nat} {bs : List Int} {i : Nat} {h : Int} (d : Dr w B p ab cb bs i h) :
    Calls Tryz.prog 155 #[.pointer (some ⟨p, 0, none⟩)] w (RollsAny w B p ab cb bs) := by
  have HL : Hid (IntsAt (w.alloc (.cells #[.int .i64 (-1), .int .i64 0, .int .i64 1, .int .i64 2147483648, .int .i64 (-2147483648), .int .i64 1099511627776, .int .i64 4611686018427387904, .int .i64 (-4611686018427387904), .int .i64 9223372036854775807, .int .i64 (-9223372036854775808)] 2)) (some ⟨w.heap.size, 0, none⟩) [-1, 0, 1, 2147483648, -2147483648, 1099511627776, 4611686018427387904, -4611686018427387904, 9223372036854775807, -9223372036854775808]) :=
    ints_new w 2 [-1, 0, 1, 2147483648, -2147483648, 1099511627776, 4611686018427387904, -4611686018427387904, 9223372036854775807, -9223372036854775808] (by simp) (by intro z hz; simp at hz; unfold Fits; omega)
  have D1 := Lib.hid (d.below (below1 w (.cells #[.int .i64 (-1), .int .i64 0, .int .i64 1, .int .i64 2147483648, .int .i64 (-2147483648), .int .i64 1099511627776, .int .i64 4611686018427387904, .int .i64 (-4611686018427387904), .int .i64 9223372036854775807, .int .i64 (-9223372036854775808)] 2)))
  have hp := d.lt
  have B1 := Lib.hid (below1 w (.cells #[.int .i64 (-1), .int .i64 0, .int .i64 1, .int .i64 2147483648, .int .i64 (-2147483648), .int .i64 1099511627776, .int .i64 4611686018427387904, .int .i64 (-4611686018427387904), .int .i64 9223372036854775807, .int .i64 (-9223372036854775808)] 2))
  clear d
  go_enter Tryz.func155, Tryz.ntmps155
  go_wp2_with fail
  refine (l1Below_is (hi := 9) D1.out (by omega) (by omega) (by omega)).mono ?_
  rintro e w2 ⟨x, i2, h2, rfl, hx0, hx1, hd, ho⟩
  have D2 := Lib.hid hd
  have O2 := Lib.hid ((Only.of_below (S := fun b => b = p) B1.out).trans ho)
  have hl2 := HL.out.only ho (by simp) (by omega)
  clear hd ho
  obtain ⟨j, rfl⟩ := Int.eq_ofNat_of_zero_le hx0
  have hj : j < 10 := by omega
  obtain ⟨b', off', ha', hc'⟩ := hl2.cell (by simp)
  cases ha'
  have hcj := hc' j (by simpa using hj)
  rw [Nat.zero_add] at hcj
  have HF := Lib.hid (hl2.fits j (by simpa using hj))
  obtain ⟨z, hz⟩ : ∃ z, nth [-1, 0, 1, 2147483648, -2147483648, 1099511627776, 4611686018427387904, -4611686018427387904, 9223372036854775807, -9223372036854775808] j = z := ⟨_, rfl⟩
  rw [hz] at hcj HF
  clear hc' hl2 hz HL
  go_wp2
  go_ret
  exact ⟨_, i2, h2, rfl, HF.out, D2.out, O2.out⟩

theorem l1Min_is {a b : Int} (w : World) : Calls Tryz.prog 156 #[.int .i64 a, .int .i64 b] w fun e w' => e = .returned (.int .i64 (min a b)) ∧ w = w' := by
  by_cases h : a < b
  · have E : Hid (min a b = a) := Lib.hid (by omega)
    go_enter Tryz.func156, Tryz.ntmps156
    go_wp2
    go_ret
    exact ⟨ret_i64 E.out.symm, rfl⟩
  · have E : Hid (min a b = b) := Lib.hid (by omega)
    go_enter Tryz.func156, Tryz.ntmps156
    go_wp2
    go_ret
    exact ⟨ret_i64 E.out.symm, rfl⟩

set_option maxHeartbeats 1000000 in
theorem l1From_is {w : World} {B p : Nat} {ab : Option Addr} {cb : Nat} {bs : List Int} {i : Nat} {h lo hi : Int} (d : Dr w B p ab cb bs i h) (h1 : lo ≤ hi) (h2 : -1048576 ≤ lo) (h3 : hi ≤ 1048576) :
    Calls Tryz.prog 123 #[.pointer (some ⟨p, 0, none⟩), .int .i64 lo, .int .i64 hi] w (Rolls w B p ab cb bs lo hi) := by
  have HD := Lib.hid d
  clear d
  go_enter Tryz.func123, Tryz.ntmps123
  go_wp2_with fail
  refine (l1Below_is (hi := hi - lo) HD.out (by omega) (by omega) (by omega)).mono ?_
  rintro e w1 ⟨x, i1, g1, rfl, hx0, hx1, hd, ho⟩
  have D1 := Lib.hid hd
  have O1 := Lib.hid ho
  clear hd ho
  go_wp2
  go_ret
  exact ⟨_, i1, g1, rfl, by omega, by omega, D1.out, O1.out⟩

set_option maxHeartbeats 2000000 in
set_option maxRecDepth 100000 in
theorem l1Num_is {w : World} {B p : Nat} {ab : Option Addr} {cb : Nat} {bs : List Int} {i : Nat} {h most : Int} (d : Dr w B p ab cb bs i h) (h1 : 0 ≤ most) (h2 : most ≤ 1048576) :
    Calls Tryz.prog 120 #[.pointer (some ⟨p, 0, none⟩), .int .i64 most] w (RollsAny w B p ab cb bs) := by
  have HD := Lib.hid d
  clear d
  go_enter Tryz.func120, Tryz.ntmps120
  go_wp2_with fail
  refine (l1Once_is HD.out (by omega) (by omega)).mono ?_
  rintro e w1 ⟨r, i1, g1, rfl, hd, ho⟩
  have D1 := Lib.hid hd
  have O1 := Lib.hid ho
  clear hd ho HD
  cases r with
  | true =>
    go_wp2_with fail
    refine (l1Odd_is D1.out).mono ?_
    rintro e w2 ⟨x, i2, g2, rfl, hx, hd, ho⟩
    have D2 := Lib.hid (hd.below (below1 w2 (.cells #[.int .i64 (-1), .int .i64 most, .int .i64 (most + 1), .int .i64 x] 2)))
    have hp := hd.lt
    have HL : Hid (IntsAt (w2.alloc (.cells #[.int .i64 (-1), .int .i64 most, .int .i64 (most + 1), .int .i64 x] 2)) (some ⟨w2.heap.size, 0, none⟩) [-1, most, most + 1, x]) :=
      ints_new w2 2 [-1, most, most + 1, x] (by simp) (by
        intro z hz
        simp at hz
        rcases hz with rfl | rfl | rfl | rfl
        · unfold Fits; omega
        · unfold Fits; omega
        · unfold Fits; omega
        · exact hx)
    have O2 := Lib.hid ((O1.out.trans ho).trans (Only.of_below (S := fun b => b = p) (below1 w2 (.cells #[.int .i64 (-1), .int .i64 most, .int .i64 (most + 1), .int .i64 x] 2))))
    clear hd ho D1 O1 hx
    go_wp2_with fail
    refine (l1Below_is (hi := 3) D2.out (by omega) (by omega) (by omega)).mono ?_
    rintro e w3 ⟨y, i3, g3, rfl, hy0, hy1, hd, ho⟩
    have D3 := Lib.hid hd
    have O3 := Lib.hid (O2.out.trans ho)
    have hl2 := HL.out.only ho (by simp) (by omega)
    clear hd ho O2 D2
    obtain ⟨j, rfl⟩ := Int.eq_ofNat_of_zero_le hy0
    have hj : j < 4 := by omega
    obtain ⟨b', off', ha', hc'⟩ := hl2.cell (by simp)
    cases ha'
    have hcj := hc' j (by simpa using hj)
    rw [Nat.zero_add] at hcj
    have HF := Lib.hid (hl2.fits j (by simpa using hj))
    obtain ⟨z, hz⟩ : ∃ z, nth [-1, most, most + 1, x] j = z := ⟨_, rfl⟩
    rw [hz] at hcj HF
    clear hc' hl2 hz HL
    go_wp2
    go_ret
    exact ⟨_, i3, g3, rfl, HF.out, D3.out, O3.out⟩
  | false =>
    go_wp2_with fail
    refine (l1Once_is D1.out (by omega) (by omega)).mono ?_
    rintro e w2 ⟨r2, i2, g2, rfl, hd, ho⟩
    have D2 := Lib.hid hd
    have O2 := Lib.hid (O1.out.trans ho)
    clear hd ho D1 O1
    cases r2 with
    | true =>
      have hm := Lib.hid (l1Min_is (a := most) (b := 4))
      have hmb : 0 ≤ min most 4 ∧ min most 4 ≤ 4 := by omega
      obtain ⟨m4, hm4⟩ : ∃ m, min most 4 = m := ⟨_, rfl⟩
      rw [hm4] at hm hmb
      clear hm4
      go_wp2_with fail
      refine (hm.out _).mono ?_
      rintro e w3 ⟨rfl, rfl⟩
      go_wp2_with fail
      refine (l1Below_is (hi := m4) D2.out (by omega) (by omega) (by omega)).mono ?_
      rintro e w4 ⟨y, i3, g3, rfl, hy0, hy1, hd, ho⟩
      have D3 := Lib.hid hd
      have O3 := Lib.hid (O2.out.trans ho)
      clear hd ho
      go_wp2
      go_ret
      exact ⟨_, i3, g3, rfl, ⟨by omega, by omega⟩, D3.out, O3.out⟩
    | false =>
      go_wp2_with fail
      refine (l1Below_is (hi := most) D2.out (by omega) (by omega) (by omega)).mono ?_
      rintro e w4 ⟨y, i3, g3, rfl, hy0, hy1, hd, ho⟩
      have D3 := Lib.hid hd
      have O3 := Lib.hid (O2.out.trans ho)
      clear hd ho
      go_wp2
      go_ret
      exact ⟨_, i3, g3, rfl, ⟨by omega, by omega⟩, D3.out, O3.out⟩

/-- A slice of numbers, whatever they are. -/
def RollsInts (w : World) (B p : Nat) (ab : Option Addr) (cb : Nat) (bs : List Int) (n : Int) (e : Ending) (w' : World) : Prop :=
  ∃ v zs i h, e = .returned v ∧ OwnInts w' w.heap.size w'.heap.size v zs ∧ (zs.length : Int) ≤ n ∧ Dr w' B p ab cb bs i h ∧ Only (fun b => b = p) w w'

theorem OwnInts.snoc {w : World} {B D : Nat} {v v' : Value} {zs : List Int} {x : Int} {w' : World} (h : OwnInts w B D v zs) (hx : Fits x) (hl : zs.length ≤ 1048576) (ho : w'.ownsRow B 2 1 v' (zs.length + 1) (zs.map (Value.int .i64) ++ [.int .i64 x])) : OwnInts w' B w'.heap.size v' (zs ++ [x]) := by
  refine OwnInts.mk' (by simpa using ho) (by simp; omega) fun k hk => ?_
  have hm := nth_mem hk
  generalize nth (zs ++ [x]) k = y at hm
  rcases List.mem_append.1 hm with hm | hm
  · obtain ⟨j, hj, e⟩ := mem_nth.1 hm
    rw [← e]; exact h.fits j hj
  · simp at hm; rw [hm]; exact hx

set_option maxHeartbeats 2000000 in
set_option maxRecDepth 100000 in
theorem l1DrawSet_is {w : World} {B p : Nat} {ab : Option Addr} {cb : Nat} {bs : List Int} {i : Nat} {h n : Int} (d : Dr w B p ab cb bs i h) (hn0 : 0 ≤ n) (hn1 : n ≤ 524288) :
    Calls Tryz.prog 79 #[.pointer (some ⟨p, 0, none⟩), .int .i64 n] w (RollsInts w B p ab cb bs (n + 1)) := by
  obtain ⟨j0, hi, hz0, hz1, hz2⟩ := info_parts info_int
  have oW : Hid (OwnInts (w.alloc (.cells #[] 2)) w.heap.size (w.alloc (.cells #[] 2)).heap.size (.slice (some ⟨w.heap.size, 0, none⟩) 0 0) []) := OwnInts.mk' (World.ownsRow_made w #[] 0 (Nat.le_refl _) (by unfold maxLen; omega) rfl) (by simp) (fun k hk => absurd hk (by simp))
  have B0 : Hid (Only (fun b => b = p) w (w.alloc (.cells #[] 2))) := Only.of_below (below1 _ _)
  have D0 := Lib.hid (d.below (below1 w (.cells #[] 2)))
  have hp := d.lt
  have hpB := d.low
  clear d
  go_enter Tryz.func79, Tryz.ntmps79
  go_wp2
  go_loopw [5, 6] (fun u iv wr => ∃ (k : Nat) (uu : Value) (zs : List Int) (i' : Nat) (h' : Int), uu = u ∧ (k : Int) ≤ n ∧ iv = .int .i64 k ∧ zs.length ≤ k ∧ Hid (OwnInts wr w.heap.size wr.heap.size uu zs) ∧ Hid (Dr wr B p ab cb bs i' h') ∧ Hid (Only (fun b => b = p) w wr)) (fun _ iv _ => n.toNat - (intOf iv).toNat)
  case atStart => exact ⟨0, _, [], i, h, rfl, by omega, rfl, by simp, oW, D0, B0⟩
  case round =>
    clear oW B0 D0
    obtain ⟨k, uu, zs, i', h', hu0, hk, rfl, hzk, HU, HD, HO⟩ := hrel
    subst hu0
    have hsz := HO.out.size
    by_cases hlt : (k : Int) < n
    · go_wp2_with fail
      refine (l1Once_is HD.out (by omega) (by omega)).mono ?_
      rintro e w1 ⟨r, i1, g1, rfl, hd, ho⟩
      have D1 := Lib.hid hd
      have O1 := Lib.hid (HO.out.trans ho)
      have U1 := Lib.hid ((HU.out.only ho (fun g hg e => by have := (HU.out.own.lt g hg).1; omega)).retop)
      have hs1 := O1.out.size
      clear hd ho HD HO HU
      cases r with
      | true =>
        go_wp2_with (at_builtin; refine wpList_append_own_at _ rfl _ _ 27 rfl w.heap.size 2 j0 (.int .i64 0) 1 8 Tryz.underlying27 hi hz0 hz1 hz2 rfl (by decide) _ _ _ rfl (U1.out.own.alloc _) ⟨w1.heap.size, 0, none⟩ 1 1 [.int .i64 k] rfl rfl ?c1 ?c2 ?c3 ?c4 ?c5 ?_)
        case c1 => exact cell_one_new _ _ _
        case c2 => intro u hu; simp at hu; subst hu; rfl
        case c3 => unfold maxLen; omega
        case c4 => omega
        case c5 => simp; omega
        · intro v' w2 hown' hgrow _ _
          have U2 := Lib.hid (U1.out.snoc (x := k) (by unfold Fits; omega) (by omega) hown')
          have hof := Only.of_grown hgrow
          have D2 := Lib.hid ((D1.out.below (below1 w1 (.cells #[.int .i64 k] 2))).only hof (fun b hb => by have := (U1.out.own.lt b hb).1; omega))
          have O2 := Lib.hid ((O1.out.trans (Only.of_below (below1 w1 (.cells #[.int .i64 k] 2)))).new hof (fun b hb => .inr (U1.out.own.lt b hb).1))
          have hl2 : (zs ++ [(k : Int)]).length ≤ k + 1 := by simp; omega
          clear hown' hgrow hof
          go_wp2
          go_roundw
          case rel => exact ⟨k + 1, _, zs ++ [(k : Int)], i1, g1, rfl, by omega, by go_num, hl2, U2, D2, O2⟩
          case measure => simp [intOf]; omega
      | false =>
        go_wp2
        go_roundw
        case rel => exact ⟨k + 1, _, zs, i1, g1, rfl, by omega, by go_num, by omega, U1, D1, O1⟩
        case measure => simp [intOf]; omega
    · go_wp2_with fail
      refine (l1Once_is HD.out (by omega) (by omega)).mono ?_
      rintro e w1 ⟨r, i1, g1, rfl, hd, ho⟩
      have D1 := Lib.hid hd
      have O1 := Lib.hid (HO.out.trans ho)
      have U1 := Lib.hid ((HU.out.only ho (fun g hg e => by have := (HU.out.own.lt g hg).1; omega)).retop)
      have hs1 := O1.out.size
      clear hd ho HD HO HU
      cases r with
      | true =>
        go_wp2_with fail
        refine (l1Num_is D1.out (by omega) (by omega)).mono ?_
        rintro e w2 ⟨x, i2, g2, rfl, hx, hd, ho⟩
        have D2 := Lib.hid hd
        have O2 := Lib.hid (O1.out.trans ho)
        have U2 := Lib.hid ((U1.out.only ho (fun g hg e => by have := (U1.out.own.lt g hg).1; omega)).retop)
        have HX := Lib.hid hx
        have hs2 := O2.out.size
        unfold Fits at hx
        clear hd ho D1 O1 U1
        go_wp2_with (at_builtin; refine wpList_append_own_at _ rfl _ _ 27 rfl w.heap.size 2 j0 (.int .i64 0) 1 8 Tryz.underlying27 hi hz0 hz1 hz2 rfl (by decide) _ _ _ rfl (U2.out.own.alloc _) ⟨w2.heap.size, 0, none⟩ 1 1 [.int .i64 x] rfl rfl ?c1 ?c2 ?c3 ?c4 ?c5 ?_)
        case c1 => exact cell_one_new _ _ _
        case c2 => intro u hu; simp at hu; subst hu; rfl
        case c3 => unfold maxLen; omega
        case c4 => omega
        case c5 => simp; omega
        · intro v' w3 hown' hgrow _ _
          have U3 := Lib.hid (U2.out.snoc HX.out (by omega) hown')
          have hof := Only.of_grown hgrow
          have D3 := Lib.hid ((D2.out.below (below1 w2 (.cells #[.int .i64 x] 2))).only hof (fun b hb => by have := (U2.out.own.lt b hb).1; omega))
          have O3 := Lib.hid ((O2.out.trans (Only.of_below (below1 w2 (.cells #[.int .i64 x] 2)))).new hof (fun b hb => .inr (U2.out.own.lt b hb).1))
          have hl3 : ((zs ++ [x]).length : Int) ≤ n + 1 := by simp; omega
          clear hown' hgrow hof
          go_wp2
          go_ret
          exact ⟨_, zs ++ [x], i2, g2, rfl, U3.out, hl3, D3.out, O3.out⟩
      | false =>
        go_wp2
        go_ret
        exact ⟨_, zs, i1, g1, rfl, U1.out, by omega, D1.out, O1.out⟩
end
end

section
open Go.RowKit

/-- What AllOf says. -/
def allL (n : Int) : List Int := if 0 ≤ n ∧ n ≤ 256 then upL n.toNat else []

theorem allL_yes {n : Nat} (h : n ≤ 256) : allL (n : Int) = upL n := by unfold allL; rw [if_pos ⟨by omega, by omega⟩]; simp
theorem allL_no {n : Int} (h : ¬ (0 ≤ n ∧ n ≤ 256)) : allL n = [] := by unfold allL; rw [if_neg h]
theorem upL_succ (k : Nat) : upL (k + 1) = upL k ++ [(k : Int)] := by simp [upL, List.range_succ]
theorem upL_fits {n : Nat} (h : n ≤ 1048576) : ∀ k, k < (upL n).length → Fits (nth (upL n) k) := fun k hk => by
  rw [upL_len] at hk; rw [upL_nth hk]; unfold Fits; omega

set_option maxHeartbeats 1000000 in
set_option maxRecDepth 100000 in
theorem specAllOf_is {w : World} {n : Int} {r : List Int} (hr : allL n = r) :
    Calls Tryz.prog 41 #[.int .i64 n] w (GivesInts w r) := by
  obtain ⟨i0, hi, hz0, hz1, hz2⟩ := info_parts info_int
  have oW : Hid ((w.alloc (.cells #[] 2)).ownsRow w.heap.size 2 1 (.slice (some ⟨w.heap.size, 0, none⟩) 0 0) 0 []) := World.ownsRow_made w #[] 0 (Nat.le_refl _) (by unfold maxLen; omega) rfl
  have B0 := Lib.hid (below1 w (.cells #[] 2))
  by_cases hn : 0 ≤ n ∧ n ≤ 256
  · obtain ⟨m, rfl⟩ := Int.eq_ofNat_of_zero_le hn.1
    have hm : m ≤ 256 := by omega
    rw [allL_yes hm] at hr
    have HR := Lib.hid hr
    clear hr hn
    have hm' : (m : Int) ≤ 256 := by omega
    go_enter Tryz.func41, Tryz.ntmps41
    go_wp2
    go_loopw [3, 4] (fun u i wr => ∃ k : Nat, k ≤ m ∧ i = .int .i64 k ∧ Hid (wr.ownsRow w.heap.size 2 1 u (upL k).length ((upL k).map (Value.int .i64))) ∧ Hid (Below w.heap.size w wr)) (fun _ i _ => m - (intOf i).toNat)
    case atStart => exact ⟨0, Nat.zero_le _, rfl, oW, B0⟩
    case round =>
      clear oW B0
      obtain ⟨k, hk, rfl, HU, HB⟩ := hrel
      have hsz := HB.out.size
      by_cases hlt : k < m
      · have hi1 : (k : Int) < m := by omega
        have HS1 := Lib.hid (upL_succ k)
        have hpl := upL_len k
        go_wp2_with (at_builtin; refine wpList_append_own_at _ rfl _ _ 27 rfl w.heap.size 2 i0 (.int .i64 0) 1 8 Tryz.underlying27 hi hz0 hz1 hz2 rfl (by decide) _ _ _ rfl (HU.out.alloc _) ⟨wr.heap.size, 0, none⟩ 1 1 [.int .i64 k] rfl rfl ?c1 ?c2 ?c3 ?c4 ?c5 ?_)
        case c1 => exact cell_one_new _ _ _
        case c2 => intro u hu; simp at hu; subst hu; rfl
        case c3 => unfold maxLen; omega
        case c4 => omega
        case c5 => simp; omega
        · intro v' w1' hown' hgrow _ _
          have HBn := Lib.hid ((HB.out.alloc HB.out.size _).grown hgrow (by simp; omega) (fun g hg => (HU.out.lt g hg).1))
          have e1 : (upL (k + 1)).length = k + 1 := upL_len _
          have e2 : (upL (k + 1)).map (Value.int .i64) = (upL k).map (Value.int .i64) ++ [.int .i64 k] := by rw [HS1.out]; simp
          have HOn := Lib.hid hown'
          rw [← e1, ← e2] at HOn
          clear hown' hgrow e1 e2 hpl
          go_wp2
          go_roundw
          case rel => exact ⟨k + 1, by omega, by go_num, HOn, HBn⟩
          case measure => simp [intOf]; omega
      · have hkk : k = m := by omega
        have hi1 : ¬ (k : Int) < m := by omega
        rw [hkk, HR.out] at HU
        have hl : r.length ≤ 256 := by rw [← HR.out, upL_len]; exact hm
        have hf : ∀ k, k < r.length → Fits (nth r k) := by rw [← HR.out]; exact upL_fits (by omega)
        have hfin := Lib.hid (And.intro (OwnInts.mk' HU.out (by omega) hf) HB.out)
        clear hkk HU hf
        go_wp2
        go_ret
        exact ⟨_, rfl, hfin.out⟩
  · have HR : Hid (r = []) := by rw [← hr]; exact allL_no hn
    have hfin := Lib.hid (OwnInts.mk' (zs := []) oW.out (by simp) (fun k hk => absurd hk (by simp)))
    clear hr oW
    by_cases hlo : 0 < n
    · have hhi : ¬ n ≤ 256 := by omega
      have hi1 : ((0 : Nat) : Int) < n := by omega
      go_enter Tryz.func41, Tryz.ntmps41
      go_wp2
      go_loopw [3, 4] (fun u i wr => i = .int .i64 0 ∧ Hid (u = .slice (some ⟨w.heap.size, 0, none⟩) 0 0) ∧ Hid (wr = w.alloc (.cells #[] 2))) (fun _ _ _ => 0)
      case atStart => exact ⟨rfl, rfl, rfl⟩
      case round =>
        obtain ⟨rfl, hu, hw⟩ := hrel
        go_wp2
        go_ret
        exact ⟨_, rfl, by rw [HR.out, hu.out, hw.out]; exact hfin.out, by rw [hw.out]; exact B0.out⟩
    · have hi1 : ¬ ((0 : Nat) : Int) < n := by omega
      go_enter Tryz.func41, Tryz.ntmps41
      go_wp2
      go_loopw [3, 4] (fun u i wr => i = .int .i64 0 ∧ Hid (u = .slice (some ⟨w.heap.size, 0, none⟩) 0 0) ∧ Hid (wr = w.alloc (.cells #[] 2))) (fun _ _ _ => 0)
      case atStart => exact ⟨rfl, rfl, rfl⟩
      case round =>
        obtain ⟨rfl, hu, hw⟩ := hrel
        go_wp2
        go_ret
        exact ⟨_, rfl, by rw [HR.out, hu.out, hw.out]; exact hfin.out, by rw [hw.out]; exact B0.out⟩
end

section
open Go.RowKit

set_option maxHeartbeats 1000000 in
theorem likeInts_yes {a c : Option Addr} {zs : List Int} (w : World) (ca cc : Nat) (ha : IntsAt w a zs) (hc : IntsAt w c zs) :
    Calls Tryz.prog 15 #[.slice a zs.length ca, .slice c zs.length cc] w fun e w' => e = .returned (.bool true) ∧ ∃ q, w' = w.drewN q := by
  have hlen := ha.len
  have HA := Lib.hid ha
  have HC := Lib.hid hc
  clear ha hc
  have hne : ((zs.length : Int) != (zs.length : Int)) = false := by simp
  go_enter Tryz.func15, Tryz.ntmps15
  go_wp2
  go_loopw [5] (fun i wr => ∃ k : Nat, k ≤ zs.length ∧ i = .int .i64 k ∧ Hid (∃ q, wr = w.drewN q)) (fun i _ => zs.length - (intOf i).toNat)
  case atStart => exact ⟨0, Nat.zero_le _, rfl, 0, rfl⟩
  case round =>
    obtain ⟨k, hk, rfl, HW⟩ := hrel
    by_cases hlt : k < zs.length
    · obtain ⟨b, off, e1, h1⟩ := (HA.out.same HW.out).cell (by omega)
      obtain ⟨b2, off2, e2, h2⟩ := (HC.out.same HW.out).cell (by omega)
      subst e1
      subst e2
      have hck := h1 k hlt
      have hck2 := h2 k hlt
      clear h1 h2
      have hi1 : (k : Int) < zs.length := by omega
      have hn : (nth zs k != nth zs k) = false := by simp
      go_wp2
      go_quiet (fail)
      go_wp2
      go_roundw
      case rel => exact ⟨k + 1, by omega, by go_num, drewn HW.out⟩
      case measure => simp [intOf]; omega
    · go_wp2
      go_ret
      exact ⟨rfl, HW.out⟩

theorem likeInts_at {w : World} {v v' : Value} {zs : List Int} (h : IntsV w v zs) (h' : IntsV w v' zs) :
    Calls Tryz.prog 15 #[v, v'] w fun e w' => e = .returned (.bool true) ∧ Below w.heap.size w w' := by
  obtain ⟨a, cap, rfl, hi⟩ := h
  obtain ⟨a', cap', rfl, hi'⟩ := h'
  exact (likeInts_yes w cap cap' hi hi').mono fun e w' ⟨he, hq⟩ => ⟨he, below_same (Below.refl _ _) hq⟩

theorem big_is {w : World} {ab : Option Addr} {n cb : Nat} {r : Bool} (hr : decide (4096 < (n : Int)) = r) :
    Calls Tryz.prog 9 #[.slice ab n cb] w fun e w' => e = .returned (.bool r) ∧ w = w' := by
  by_cases h : 4096 < (n : Int)
  · have HR : Hid (r = true) := by rw [← hr]; exact decide_eq_true h
    clear hr
    go_enter Tryz.func9, Tryz.ntmps9
    go_wp2
    go_ret
    exact ⟨ret_bool HR.out.symm, rfl⟩
  · have HR : Hid (r = false) := by rw [← hr]; exact decide_eq_false h
    clear hr
    go_enter Tryz.func9, Tryz.ntmps9
    go_wp2
    go_ret
    exact ⟨ret_bool HR.out.symm, rfl⟩

theorem allL_len (n : Int) : (allL n).length ≤ 256 := by
  unfold allL
  split
  · rw [upL_len]; omega
  · simp

/-- Two slices of one's own, whatever they hold. -/
def RollsTwo (w : World) (B p : Nat) (ab : Option Addr) (cb : Nat) (bs : List Int) (e : Ending) (w' : World) : Prop :=
  ∃ u v S T i h, e = .returned (.tuple #[u, v]) ∧ OwnInts w' w.heap.size w'.heap.size u S ∧ OwnInts w' w.heap.size w'.heap.size v T ∧ S.length ≤ 301 ∧ T.length ≤ 301 ∧ Dr w' B p ab cb bs i h ∧ Only (fun b => b = p) w w'

/-- Two slices of one's own. -/
def GivesTwo (w : World) (e : Ending) (w' : World) : Prop :=
  ∃ u v S T, e = .returned (.tuple #[u, v]) ∧ OwnInts w' w.heap.size w'.heap.size u S ∧ OwnInts w' w.heap.size w'.heap.size v T ∧ S.length ≤ 301 ∧ T.length ≤ 301 ∧ Below w.heap.size w w'

section
open Go.RowKit
theorem BytesAt.below {w w' : World} {a : Option Addr} {bs : List Int} (h : BytesAt w a bs) (hb : Below w.heap.size w w') : BytesAt w' a bs :=
  ⟨h.len, fun k hk => by
    obtain ⟨b, off, h1, h2, h3⟩ := h.byt k hk
    exact ⟨b, off, h1, Below.cell_some (B := 0) hb rfl h2, h3⟩⟩
end
end

section
open Go.RowKit

/-- The cursor stands somewhere, and besides it nothing that was there has turned. -/
structure Dwn (w wr : World) (B p : Nat) (ab : Option Addr) (cb : Nat) (bs : List Int) : Prop where
  cur : ∃ i h, Dr wr B p ab cb bs i h
  only : Only (fun b => b = p) w wr
  lt : p < w.heap.size
  low : B ≤ p

theorem Dwn.start {w : World} {B p : Nat} {ab : Option Addr} {cb : Nat} {bs : List Int} {i : Nat} {h : Int} (d : Dr w B p ab cb bs i h) : Dwn w w B p ab cb bs := ⟨⟨i, h, d⟩, Only.refl _ _, d.lt, d.low⟩
theorem Dwn.call {w wr wr' : World} {B p : Nat} {ab : Option Addr} {cb : Nat} {bs : List Int} {i : Nat} {h : Int} (d : Dwn w wr B p ab cb bs) (hd : Dr wr' B p ab cb bs i h) (ho : Only (fun b => b = p) wr wr') : Dwn w wr' B p ab cb bs :=
  ⟨⟨i, h, hd⟩, d.only.trans ho, d.lt, d.low⟩
theorem Dwn.new {w wr wr' : World} {B p : Nat} {ab : Option Addr} {cb : Nat} {bs : List Int} (d : Dwn w wr B p ab cb bs) (ho : Only (fun b => w.heap.size ≤ b) wr wr') : Dwn w wr' B p ab cb bs := by
  obtain ⟨i, h, hd⟩ := d.cur
  have h1 := d.lt
  have h2 := d.low
  exact ⟨⟨i, h, hd.only ho (fun b hb => ⟨by omega, by omega⟩)⟩, d.only.new ho (fun x hx => .inr hx), d.lt, d.low⟩
theorem Dwn.below {w wr wr' : World} {B p : Nat} {ab : Option Addr} {cb : Nat} {bs : List Int} (d : Dwn w wr B p ab cb bs) (hb : Below wr.heap.size wr wr') : Dwn w wr' B p ab cb bs :=
  d.new (Only.of_below hb)

/-- t: the struct that grows, with the owners vo and the rows vn (row k is V k), all from block n on. -/
structure Half4 (n : Nat) (wr : World) (t : Nat) (vo vn : Value) (V : Nat → Value) (O : List Int) (zss : List (List Int)) : Prop where
  base : n ≤ t
  str : Box2 wr t 30 vo vn
  ints : OwnInts wr n wr.heap.size vo O
  rows : OwnRows wr n wr.heap.size vn V zss
  apart : ∀ i, i < zss.length → ∀ g, (V i).ownBlock = some g → vo.ownBlock ≠ some g

theorem Half4.only {n t : Nat} {wr wr' : World} {vo vn : Value} {V : Nat → Value} {O : List Int} {zss : List (List Int)} {S : Nat → Prop} (h : Half4 n wr t vo vn V O zss) (hk : Only S wr wr') (hs : ∀ b, S b → b < n) : Half4 n wr' t vo vn V O zss :=
  ⟨h.base, h.str.only hk (fun e => by have := hs _ e; have := h.base; omega), (h.ints.only hk (fun g hg e => by have := hs _ e; have := (h.ints.own.lt g hg).1; omega)).retop,
    (h.rows.only hk (fun g hg e => by have := hs _ e; have := (h.rows.own.lt g hg).1; omega) (fun k hk' g hg e => by have := hs _ e; have := ((h.rows.rows k hk').own.lt g hg).1; omega)).retop, h.apart⟩
theorem Half4.keep {n t : Nat} {wr wr' : World} {vo vn : Value} {V : Nat → Value} {O : List Int} {zss : List (List Int)} (h : Half4 n wr t vo vn V O zss) (hb : Below wr.heap.size wr wr') : Half4 n wr' t vo vn V O zss :=
  h.only (S := fun _ => False) (Only.of_below hb) (fun _ h => h.elim)

theorem Half4.owner {n t gg cap : Nat} {wr w1 : World} {vo vn : Value} {V : Nat → Value} {O : List Int} {x : Int} {zss : List (List Int)} (h : Half4 n wr t vo vn V O zss) (hl : O.length ≤ 1048576) (hx : Fits x)
    (hown1 : w1.ownsRow n 2 1 (.slice (some ⟨gg, 0, none⟩) (O.length + 1) cap) (O.length + 1) (O.map (Value.int .i64) ++ [.int .i64 x])) (hgrow : wr.grownBy w1 vo.ownBlock) (hat : vo.ownBlock = some gg ∨ wr.heap.size ≤ gg) :
    Half4 n (w1.setCell ⟨t, 0, none⟩ (.slice (some ⟨gg, 0, none⟩) (O.length + 1) cap)) t (.slice (some ⟨gg, 0, none⟩) (O.length + 1) cap) vn V (O ++ [x]) zss ∧
      Only (fun b => n ≤ b) wr (w1.setCell ⟨t, 0, none⟩ (.slice (some ⟨gg, 0, none⟩) (O.length + 1) cap)) := by
  have hown := h.ints.own
  have hT1 := h.str.grown hown (by decide) hgrow
  have hI : OwnInts w1 n w1.heap.size (.slice (some ⟨gg, 0, none⟩) (O.length + 1) cap) (O ++ [x]) := h.ints.snoc hx hl hown1
  have hR := h.rows.only (Only.of_grown hgrow) (fun g h1 h2 => own_types h.rows.own hown g h1 h2) (fun k hk g h1 h2 => h.apart k hk g h1 h2)
  have hS := Box2.set0_only (w := w1) (t := t) (.slice (some ⟨gg, 0, none⟩) (O.length + 1) cap)
  refine ⟨⟨h.base, hT1.set0 _, (hI.only hS (fun g hg e => hT1.not_own hI.own (by decide) (by rw [hg, e]))).retop, (hR.only hS (fun g hg e => hT1.not_own hR.own (by decide) (by rw [hg, e])) (fun k hk g hg e => hT1.not_own (hR.rows k hk).own (by decide) (by rw [hg, e]))).retop, fun i hi g hg hh => ?_⟩, ?_⟩
  · simp [Value.ownBlock] at hh
    subst hh
    rcases hat with h' | h'
    · exact h.apart i hi _ hg h'
    · have := (h.rows.rows i hi).top _ hg
      omega
  · exact ((Only.of_grown hgrow).mono fun b hb => (hown.lt b hb).1).trans (hS.mono fun b hb => by rw [hb]; exact h.base)

theorem Half4.push {n t gg cap : Nat} {wr w3 : World} {vo vn u : Value} {V : Nat → Value} {O zs : List Int} {zss : List (List Int)} {B D : Nat} (h : Half4 n wr t vo vn V O zss) (hl : zss.length ≤ 1048576)
    (hu : OwnInts wr B D u zs) (hB : n ≤ B) (hapu : ∀ i, i < zss.length → ∀ g, u.ownBlock = some g → (V i).ownBlock ≠ some g) (hvu : ∀ g, u.ownBlock = some g → vo.ownBlock ≠ some g)
    (hown3 : w3.ownsRow n 27 1 (.slice (some ⟨gg, 0, none⟩) (zss.length + 1) cap) (zss.length + 1) ((List.range zss.length).map V ++ [u])) (hgrow : wr.grownBy w3 vn.ownBlock) :
    Half4 n (w3.setCell ⟨t, 1, none⟩ (.slice (some ⟨gg, 0, none⟩) (zss.length + 1) cap)) t vo (.slice (some ⟨gg, 0, none⟩) (zss.length + 1) cap) (fun i => if i = zss.length then u else V i) O (zss ++ [zs]) ∧
      Only (fun b => n ≤ b) wr (w3.setCell ⟨t, 1, none⟩ (.slice (some ⟨gg, 0, none⟩) (zss.length + 1) cap)) := by
  have hown := h.rows.own
  have hT3 := h.str.grown hown (by decide) hgrow
  have hvo3 : OwnInts w3 n w3.heap.size vo O := (h.ints.only (Only.of_grown hgrow) (fun g h1 h2 => own_types hown h.ints.own g h2 h1)).retop
  have hrows := h.rows.push (w1 := w3) (hu.base hB) (fun i hi g h1 h3 => hapu i hi g h1 h3) hown3 (Only.of_grown hgrow) (by omega)
  have hS : Only (fun b => b = t) w3 (w3.setCell ⟨t, 1, none⟩ (.slice (some ⟨gg, 0, none⟩) (zss.length + 1) cap)) := Box2.set1_only _
  refine ⟨⟨h.base, hT3.set1 _, (hvo3.only hS (fun g hg e => hT3.not_own hvo3.own (by decide) (by rw [hg, e]))).retop, (hrows.only hS (fun g hg e => hT3.not_own hrows.own (by decide) (by rw [hg, e])) (fun k hk g hg e => hT3.not_own (hrows.rows k hk).own (by decide) (by rw [hg, e]))).retop, fun i hi g hg => ?_⟩, ?_⟩
  · by_cases e : i = zss.length
    · subst e
      simp only [if_true] at hg
      exact hvu g hg
    · simp only [if_neg e] at hg
      exact h.apart i (by simp at hi; omega) g hg
  · exact ((Only.of_grown hgrow).mono fun b hb => (hown.lt b hb).1).trans (hS.mono fun b hb => by rw [hb]; exact h.base)

/-- An arena of one's own, whatever it holds. -/
def RollsArena (w : World) (B p : Nat) (ab : Option Addr) (cb : Nat) (bs : List Int) (m : Nat) (e : Ending) (w' : World) : Prop :=
  ∃ v O zss, e = .returned v ∧ OwnArena w' w.heap.size w'.heap.size v O zss ∧ O.length ≤ m ∧ zss.length ≤ m ∧ Dwn w w' B p ab cb bs

/-- The same, of as many rows as owners, each row short. -/
def RollsSmall (w : World) (B p : Nat) (ab : Option Addr) (cb : Nat) (bs : List Int) (e : Ending) (w' : World) : Prop :=
  ∃ v O zss, e = .returned v ∧ OwnArena w' w.heap.size w'.heap.size v O zss ∧ 1 ≤ O.length ∧ O.length ≤ 8 ∧ zss.length = O.length ∧ (∀ k, k < zss.length → (row zss k).length ≤ 3) ∧ Dwn w w' B p ab cb bs

/-- What a struct and a box of results give: the results. -/
theorem Half4.give {w wr : World} {t r : Nat} {vo vn : Value} {V : Nat → Value} {O : List Int} {zss : List (List Int)} {x y : Value} (h : Half4 w.heap.size wr t vo vn V O zss) (hr : Box2 wr r 30 x y) :
    OwnArena ((wr.setCell ⟨r, 0, none⟩ vo).setCell ⟨r, 1, none⟩ vn) w.heap.size ((wr.setCell ⟨r, 0, none⟩ vo).setCell ⟨r, 1, none⟩ vn).heap.size (.agg #[vo, vn]) O zss := by
  have hS : Only (fun b => b = r) wr ((wr.setCell ⟨r, 0, none⟩ vo).setCell ⟨r, 1, none⟩ vn) := (Box2.set0_only _).trans (Box2.set1_only _)
  exact ⟨_, _, V, rfl, (h.ints.only hS (fun g hg e => hr.not_own h.ints.own (by decide) (by rw [hg, e]))).retop, (h.rows.only hS (fun g hg e => hr.not_own h.rows.own (by decide) (by rw [hg, e])) (fun k hk g hg e => hr.not_own (h.rows.rows k hk).own (by decide) (by rw [hg, e]))).retop, h.apart⟩
end

section
open Go.RowKit

theorem Half4.setOwner {n t g cap v : Nat} {wr : World} {vn : Value} {V : Nat → Value} {O : List Int} {zss : List (List Int)} {x : Int} (h : Half4 n wr t (.slice (some ⟨g, 0, none⟩) O.length cap) vn V O zss) (_hv : v < O.length) (hx : Fits x) :
    Half4 n (wr.setCell ⟨g, v, none⟩ (.int .i64 x)) t (.slice (some ⟨g, 0, none⟩) O.length cap) vn V (O.set v x) zss ∧ Only (fun b => n ≤ b) wr (wr.setCell ⟨g, v, none⟩ (.int .i64 x)) := by
  have ho := h.ints.own
  obtain ⟨hs, hgr⟩ := ho.stored v (.int .i64 x)
  have hgn : n ≤ g := (ho.lt g rfl).1
  have hS : Only (fun b => b = g) wr (wr.setCell ⟨g, v, none⟩ (.int .i64 x)) := Only.setCell (S := fun b => b = g) (Only.refl _ _) (p := ⟨g, v, none⟩) rfl _
  have hl : (O.set v x).length = O.length := by simp
  have hm : (O.map (Value.int .i64)).set v (.int .i64 x) = (O.set v x).map (Value.int .i64) := by rw [List.map_set]
  rw [hm] at hs
  refine ⟨⟨h.base, h.str.only hS (fun e => h.str.not_own ho (by decide) (by rw [e]; rfl)), ?_, (h.rows.only hS (fun g' hg e => own_types h.rows.own ho g' hg (by rw [e]; rfl)) (fun k hk g' hg e => h.apart k hk g' hg (by rw [e]; rfl))).retop, h.apart⟩, hS.mono fun b hb => by omega⟩
  refine OwnInts.mk' (by rw [hl]; exact hs) (by rw [hl]; exact h.ints.len) fun k hk => ?_
  have hm2 := nth_mem hk
  generalize nth (O.set v x) k = y at hm2
  rcases List.mem_or_eq_of_mem_set hm2 with hm2 | rfl
  · obtain ⟨j, hj, e⟩ := mem_nth.1 hm2
    rw [← e]; exact h.ints.fits j hj
  · exact hx

theorem row_set {zss : List (List Int)} {v k : Nat} {zs : List Int} (hv : v < zss.length) : row (zss.set v zs) k = if k = v then zs else row zss k := by
  unfold row
  by_cases e : k = v
  · subst e; simp [hv]
  · rw [if_neg e]; simp [Ne.symm e]

theorem Half4.putRow {n t g cap v : Nat} {wr w7 : World} {vo u : Value} {V : Nat → Value} {O zs : List Int} {zss : List (List Int)} (h : Half4 n wr t vo (.slice (some ⟨g, 0, none⟩) zss.length cap) V O zss) (hv : v < zss.length)
    (hg : Only (fun b => (V v).ownBlock = some b) wr w7) (hu : OwnInts w7 n w7.heap.size u zs) (hw : u.ownBlock = (V v).ownBlock ∨ ∃ X, u.ownBlock = some X ∧ wr.heap.size ≤ X) :
    Half4 n (w7.setCell ⟨g, v, none⟩ u) t vo (.slice (some ⟨g, 0, none⟩) zss.length cap) (fun i => if i = v then u else V i) O (zss.set v zs) ∧ Only (fun b => n ≤ b) wr (w7.setCell ⟨g, v, none⟩ u) := by
  have hVv := h.rows.rows v hv
  have ho := ownsRow_only h.rows.own hg (own_types h.rows.own hVv.own)
  obtain ⟨hs, hgr⟩ := ho.stored v u
  have hgn : n ≤ g := (ho.lt g rfl).1
  have hS : Only (fun b => b = g) w7 (w7.setCell ⟨g, v, none⟩ u) := Only.setCell (S := fun b => b = g) (Only.refl _ _) (p := ⟨g, v, none⟩) rfl _
  have hl : (zss.set v zs).length = zss.length := by simp
  have e : ((List.range zss.length).map V).set v u = (List.range zss.length).map (fun i => if i = v then u else V i) := by
    apply List.ext_getElem?
    intro i
    by_cases hi : i < zss.length
    · by_cases e : i = v
      · subst e; simp [hi]
      · simp [hi, e, Ne.symm e]
    · simp [hi]
  rw [e] at hs
  have hI : OwnInts w7 n w7.heap.size vo O := (h.ints.only hg (fun b hb e => h.apart v hv b e hb)).retop
  have hR : ∀ k, k < zss.length → k ≠ v → OwnInts w7 n w7.heap.size (V k) (row zss k) := fun k hk hne => ((h.rows.rows k hk).only hg (h.rows.apart k v hk hv hne)).retop
  have hown : ∀ {zs' : List Int} {x : Value}, OwnInts w7 n w7.heap.size x zs' → ∀ b, x.ownBlock = some b → ¬ b = g := fun hx b hb e => own_types ho hx.own b (by rw [e]; rfl) hb
  have hstr : Box2 w7 t 30 vo (.slice (some ⟨g, 0, none⟩) zss.length cap) := h.str.only hg (fun e => h.str.not_own hVv.own (by decide) e)
  have hul : ∀ i, i < zss.length → i ≠ v → ∀ b, u.ownBlock = some b → (V i).ownBlock ≠ some b := fun i hi hne b hb hb' => by
    rcases hw with hw | ⟨X, hX, hge⟩
    · rw [hw] at hb; exact h.rows.apart i v hi hv hne b hb' hb
    · rw [hX] at hb; have := (h.rows.rows i hi).top b hb'; simp at hb; omega
  refine ⟨⟨h.base, hstr.only hS (fun e => hstr.not_own ho (by decide) (by rw [e]; rfl)), (hI.only hS (hown hI)).retop, ⟨by rw [hl]; exact hs, fun g' hg => (hs.lt g' hg).2, by rw [hl]; exact h.rows.len, fun k hk => ?_, fun i j hi hj hne b hb hb' => ?_⟩, fun i hi b hb => ?_⟩, ?_⟩
  · rw [hl] at hk
    rw [row_set hv]
    by_cases e : k = v
    · simp only [if_pos e]; exact (hu.only hS (hown hu)).retop
    · simp only [if_neg e]; exact ((hR k hk e).only hS (hown (hR k hk e))).retop
  · rw [hl] at hi hj
    by_cases e1 : i = v
    · rw [if_pos e1] at hb
      rw [if_neg (by omega)] at hb'
      exact hul j hj (by omega) b hb hb'
    · rw [if_neg e1] at hb
      by_cases e2 : j = v
      · rw [if_pos e2] at hb'
        exact hul i hi e1 b hb' hb
      · rw [if_neg e2] at hb'
        exact h.rows.apart i j hi hj hne b hb hb'
  · rw [hl] at hi
    by_cases e1 : i = v
    · simp only [if_pos e1] at hb
      intro hb'
      rcases hw with hw | ⟨X, hX, hge⟩
      · rw [hw] at hb; exact h.apart v hv b hb hb'
      · rw [hX] at hb; have := h.ints.top b hb'; simp at hb; omega
    · simp only [if_neg e1] at hb; exact h.apart i hi b hb
  · exact (hg.mono fun b hb => (hVv.own.lt b hb).1).trans (hS.mono fun b hb => by omega)

theorem Half4.ocell {n t g cap v : Nat} {wr : World} {vn : Value} {V : Nat → Value} {O : List Int} {zss : List (List Int)} (h : Half4 n wr t (.slice (some ⟨g, 0, none⟩) O.length cap) vn V O zss) (hv : v < O.length) : wr.cell? ⟨g, v, none⟩ = some (.int .i64 (nth O v)) ∧ wr.frozen? ⟨g, v, none⟩ = false := by
  have hc := h.ints.own.cellAt v (by omega)
  have hf := h.ints.own.frozenAt v
  refine ⟨?_, hf⟩
  rw [hc]; simp [nth, hv]

theorem Half4.rcell {n t g cap v : Nat} {wr : World} {vo : Value} {V : Nat → Value} {O : List Int} {zss : List (List Int)} (h : Half4 n wr t vo (.slice (some ⟨g, 0, none⟩) zss.length cap) V O zss) (hv : v < zss.length) : wr.cell? ⟨g, v, none⟩ = some (V v) ∧ wr.frozen? ⟨g, v, none⟩ = false := by
  have hc := h.rows.own.cellAt v (by omega)
  have hf := h.rows.own.frozenAt v
  refine ⟨?_, hf⟩
  rw [hc]; simp [hv]

theorem own_new (w : World) (x : Int) (hx : Fits x) : OwnInts (w.alloc (.cells #[.int .i64 x] 2)) w.heap.size (w.heap.size + 1) (.slice (some ⟨w.heap.size, 0, none⟩) 1 1) [x] :=
  ⟨⟨by simp, .inr ⟨w.heap.size, 1, _, rfl, Nat.le_refl _, heap_alloc_new w _, Nat.le_refl _, by unfold maxLen; omega, by simp, by simp⟩⟩, fun g hg => by simp [Value.ownBlock] at hg; omega, by simp, fun k hk => by
    have : k = 0 := by simp at hk; omega
    subst this; exact hx⟩

theorem Half4.rcell_only {n t g cap v : Nat} {wr w7 : World} {vo : Value} {V : Nat → Value} {O : List Int} {zss : List (List Int)} (h : Half4 n wr t vo (.slice (some ⟨g, 0, none⟩) zss.length cap) V O zss) (hv : v < zss.length) (hg : Only (fun b => (V v).ownBlock = some b) wr w7) :
    w7.cell? ⟨g, v, none⟩ = some (V v) ∧ w7.frozen? ⟨g, v, none⟩ = false := by
  have ho := ownsRow_only h.rows.own hg (own_types h.rows.own (h.rows.rows v hv).own)
  have hc := ho.cellAt v (by omega)
  have hf := ho.frozenAt v
  refine ⟨?_, hf⟩
  rw [hc]; simp [hv]

theorem OwnArena.base {w : World} {B B' D : Nat} {v : Value} {O : List Int} {zss : List (List Int)} (h : OwnArena w B D v O zss) (hB : B' ≤ B) : OwnArena w B' D v O zss := by
  obtain ⟨vo, vn, V, hv, h1, h2, h4⟩ := h
  exact ⟨vo, vn, V, hv, h1.base hB, h2.base hB, h4⟩

theorem OwnArena.top34 {w : World} {B D D' : Nat} {v : Value} {O : List Int} {zss : List (List Int)} (h : OwnArena w B D v O zss) (hD : D ≤ D') : OwnArena w B D' v O zss := by
  obtain ⟨vo, vn, V, hv, h1, h2, h4⟩ := h
  refine ⟨vo, vn, V, hv, ⟨h1.own, fun g hg => by have := h1.top g hg; omega, h1.len, h1.fits⟩, ⟨h2.own, fun g hg => by have := h2.top g hg; omega, h2.len, fun k hk => ?_, h2.apart⟩, h4⟩
  have h := h2.rows k hk
  exact ⟨h.own, fun g hg => by have := h.top g hg; omega, h.len, h.fits⟩
end

end Go.Proofs.YtokcinhopajniaaGreatDoor
