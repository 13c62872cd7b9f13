/-
  Contracts of chapter 2 that need no new memory: sets, members; and what a set parts into.
-/
import Derived.Test.YtaoagikipbcjpaaSearch
import Derived.Test.YtaoagikipbcjpaaEdge
import Derived.Test.YtaoagikipbcjpaaInts
import Derived.Test.YtaoagikipbcjpaaCopies
import Derived.Test.YtaoagikipbcjpaaCursor
namespace Go.Proofs.Ytaoagikipbcjpaa
section
open Go.RowKit

set_option maxHeartbeats 1000000 in
theorem BinSet_is {w : World} {a : Option Addr} {zs : List Int} (x : Int) (cap : Nat) (h : IntsAt w a zs) (hr : Rises zs) :
    Calls Try.prog 68 #[.slice a zs.length cap, .int .i64 x] w (Found zs x w) := by
  have hlen := h.len
  have HC := Lib.hid h.cell
  have HR := Lib.hid hr
  clear h hr
  go_enter Try.func68, Try.ntmps68
  go_wp2
  go_loop [7, 8] (fun i j => ∃ p q : Nat, p ≤ q ∧ q ≤ zs.length ∧ i = .int .i64 p ∧ j = .int .i64 q ∧ Hid (∀ k, k < p → nth zs k < x) ∧ Hid (∀ k, q ≤ k → k < zs.length → x ≤ nth zs k)) (fun i j => (intOf j).toNat - (intOf i).toNat)
  case atStart => exact ⟨0, zs.length, Nat.zero_le _, Nat.le_refl _, rfl, rfl, fun k hk => absurd hk (Nat.not_lt_zero _), fun k h1 h2 => absurd h2 (by omega)⟩
  case round =>
    obtain ⟨p, q, hpq, hq, rfl, rfl, HP, HQ⟩ := hrel
    by_cases hlt : p < q
    · obtain ⟨b, off, ha, hc⟩ := HC.out (by omega)
      subst ha
      have hck := hc ((p + q) / 2) (by omega)
      clear hc
      have hmz : (p + q) / 2 < zs.length := by omega
      by_cases hl : nth zs ((p + q) / 2) < x
      · have HL := Lib.hid (less_is (decide_eq_true hl) w)
        have HP' : Hid (∀ k, k < (p + q) / 2 + 1 → nth zs k < x) := fun k hk => by
          by_cases e : k = (p + q) / 2
          · subst e; exact hl
          · have := HR.out k ((p + q) / 2) (by omega) hmz; omega
        clear hl
        go_wp2_with (go_at_call 57; refine HL.out.mono ?_; rintro e w' ⟨rfl, rfl⟩)
        go_round
        case rel => exact ⟨(p + q) / 2 + 1, q, by omega, hq, by go_num, rfl, HP', HQ⟩
        case measure => simp [intOf]; omega
      · have HL := Lib.hid (less_is (decide_eq_false hl) w)
        have HQ' : Hid (∀ k, (p + q) / 2 ≤ k → k < zs.length → x ≤ nth zs k) := fun k hk hkz => by
          by_cases e : k = (p + q) / 2
          · subst e; omega
          · have := HR.out ((p + q) / 2) k (by omega) hkz; omega
        clear hl
        go_wp2_with (go_at_call 57; refine HL.out.mono ?_; rintro e w' ⟨rfl, rfl⟩)
        go_round
        case rel => exact ⟨p, (p + q) / 2, by omega, by omega, rfl, by go_num, HP, HQ'⟩
        case measure => simp [intOf]; omega
    · have hpq' : p = q := by omega
      subst hpq'
      by_cases hz : p < zs.length
      · obtain ⟨b, off, ha, hc⟩ := HC.out (by omega)
        subst ha
        have hck := hc p hz
        clear hc
        by_cases he : nth zs p = x
        · have HF : Hid (hasB zs x = true ∧ (p : Int) = idx zs x) := ⟨hasB_yes hz he, (idx_rises HR.out hz he).symm⟩
          have hb : (nth zs p == x) = true := by simp [he]
          clear he
          go_wp2
          go_ret2
          exact found_mk (i := p) HF.out.1 (fun _ => HF.out.2)
        · have HF : Hid (hasB zs x = false) := hasB_no fun j hj e => by
            rcases Nat.lt_trichotomy j p with h | h | h
            · have := HP.out j h; omega
            · subst h; exact he e
            · have h1 := HQ.out p (Nat.le_refl _) hz
              have h2 := HR.out p j h hj
              omega
          have hb : (nth zs p == x) = false := by simp [he]
          have HN := Lib.hid (nan_any (nth zs p) w)
          clear he
          go_wp2_with (go_at_call 76; refine HN.out.mono ?_; rintro e w' ⟨rfl, rfl⟩)
          go_ret2
          exact found_mk (i := p) HF.out (fun h => by cases h)
      · have HF : Hid (hasB zs x = false) := hasB_no fun j hj e => by have := HP.out j (by omega); omega
        go_wp2
        go_ret2
        exact found_mk (i := p) HF.out (fun h => by cases h)


theorem has_is {w : World} {a : Option Addr} {zs : List Int} {x : Int} {r : Bool} (hr : hasB zs x = r) (cap : Nat) (h : IntsAt w a zs) (hz : Rises zs) :
    Calls Try.prog 50 #[.slice a zs.length cap, .int .i64 x] w fun e w' => e = .returned (.bool r) ∧ w = w' := by
  have HB := Lib.hid (BinSet_is x cap h hz)
  have HR := Lib.hid hr
  clear hr h hz
  go_enter Try.func50, Try.ntmps50
  go_wp2_with (go_at_call 68; refine HB.out.mono ?_; rintro e w' ⟨p, rfl, hp, rfl⟩; rw [HR.out]; clear hp)
  go_ret
  exact ⟨rfl, rfl⟩

/-- What SetOk says. -/
def setOk (n : Int) (zs : List Int) : Bool := inB n 0 256 && setB n zs

theorem setOk_yes {n : Int} {zs : List Int} (h : 0 ≤ n ∧ n ≤ 256) : setOk n zs = setB n zs := by unfold setOk; rw [inB_yes h.1 h.2]; rfl
theorem setOk_no {n : Int} {zs : List Int} (h : n < 0 ∨ 256 < n) : setOk n zs = false := by unfold setOk; rw [inB_no h]; rfl

set_option maxHeartbeats 400000 in
theorem specSetOk_is {w : World} {a : Option Addr} {zs : List Int} {n : Int} {r : Bool} (hr : setOk n zs = r) (cap : Nat) (h : IntsAt w a zs) :
    Calls Try.prog 29 #[.slice a zs.length cap, .int .i64 n] w fun e w' => e = .returned (.bool r) ∧ ∃ q, w' = w.drewN q := by
  by_cases hn : 0 ≤ n ∧ n ≤ 256
  · have HI := Lib.hid (l1In_is (inB_yes hn.1 hn.2))
    rw [setOk_yes hn] at hr
    have HC := Lib.hid (l1Set_is hr cap w h (by omega) (by omega))
    clear hr h
    go_enter Try.func29, Try.ntmps29
    go_wp2_with (first
      | (go_at_call 47; refine (HI.out _).mono ?_; rintro e w' ⟨rfl, rfl⟩)
      | (go_at_call 48; refine HC.out.mono ?_; rintro e w' ⟨rfl, HW⟩))
    go_ret
    exact ⟨rfl, HW⟩
  · have HI := Lib.hid (l1In_is (x := n) (lo := 0) (hi := 256) (inB_no (by omega)))
    have HR : Hid (r = false) := by rw [← hr]; exact setOk_no (by omega)
    clear hr h
    go_enter Try.func29, Try.ntmps29
    go_wp2_with (go_at_call 47; refine (HI.out _).mono ?_; rintro e w' ⟨rfl, rfl⟩)
    go_ret
    exact ⟨ret_bool HR.out.symm, 0, rfl⟩

/-- What HasIn says. -/
def hasIn (zs : List Int) (x : Int) : Bool := setB 256 zs && hasB zs x

theorem setOk_256 {zs : List Int} : setOk 256 zs = setB 256 zs := setOk_yes ⟨by decide, by decide⟩

set_option maxHeartbeats 400000 in
theorem specHasIn_is {w : World} {a : Option Addr} {zs : List Int} {x : Int} {r : Bool} (hr : hasIn zs x = r) (cap : Nat) (h : IntsAt w a zs) :
    Calls Try.prog 15 #[.slice a zs.length cap, .int .i64 x] w fun e w' => e = .returned (.bool r) ∧ ∃ q, w' = w.drewN q := by
  cases hs : setB 256 zs with
  | true =>
    have HC := Lib.hid (specSetOk_is (setOk_256.trans hs) cap h)
    have HH : Hid (∀ q, Calls Try.prog 30 #[.slice a zs.length cap, .int .i64 x] (w.drewN q) fun e w' => e = .returned (.bool r) ∧ w.drewN q = w') := fun q =>
      l1Has_is (by rw [← hr]; unfold hasIn; rw [hs]; rfl) cap _ (h.same ⟨q, rfl⟩)
    clear hr h hs
    go_enter Try.func15, Try.ntmps15
    go_wp2_with (first
      | (go_at_call 29; refine HC.out.mono ?_; rintro e w' ⟨rfl, q, rfl⟩)
      | (go_at_call 30; refine (HH.out _).mono ?_; rintro e w' ⟨rfl, rfl⟩))
    go_ret
    exact ⟨rfl, _, rfl⟩
  | false =>
    have HC := Lib.hid (specSetOk_is (setOk_256.trans hs) cap h)
    have HR : Hid (r = false) := by rw [← hr]; unfold hasIn; rw [hs]; rfl
    clear hr h hs
    go_enter Try.func15, Try.ntmps15
    go_wp2_with (go_at_call 29; refine HC.out.mono ?_; rintro e w' ⟨rfl, q, rfl⟩)
    go_ret
    exact ⟨ret_bool HR.out.symm, _, rfl⟩

/-- Both are sets of numbers from 0 to 255. -/
def bothOk (S T : List Int) : Bool := setB 256 S && setB 256 T

set_option maxHeartbeats 400000 in
theorem l2Both_is {w : World} {a a' : Option Addr} {S T : List Int} {r : Bool} (hr : bothOk S T = r) (cs ct : Nat) (h : IntsAt w a S) (h' : IntsAt w a' T) :
    Calls Try.prog 31 #[.slice a S.length cs, .slice a' T.length ct] w fun e w' => e = .returned (.bool r) ∧ ∃ q, w' = w.drewN q := by
  cases hs : setB 256 S with
  | true =>
    have HC := Lib.hid (specSetOk_is (setOk_256.trans hs) cs h)
    have HH : Hid (∀ q, Calls Try.prog 29 #[.slice a' T.length ct, .int .i64 256] (w.drewN q) fun e w' => e = .returned (.bool r) ∧ ∃ q', w' = (w.drewN q).drewN q') := fun q =>
      specSetOk_is (by rw [← hr, setOk_256]; unfold bothOk; rw [hs]; rfl) ct (h'.same ⟨q, rfl⟩)
    clear hr h hs h'
    go_enter Try.func31, Try.ntmps31
    go_wp2_with fail
    refine HC.out.mono ?_
    rintro e w' ⟨rfl, q, rfl⟩
    go_wp2_with fail
    refine (HH.out _).mono ?_
    rintro e w' ⟨rfl, q', rfl⟩
    go_wp2
    go_ret
    exact ⟨rfl, _, rfl⟩
  | false =>
    have HC := Lib.hid (specSetOk_is (setOk_256.trans hs) cs h)
    have HR : Hid (r = false) := by rw [← hr]; unfold bothOk; rw [hs]; rfl
    clear hr h hs h'
    go_enter Try.func31, Try.ntmps31
    go_wp2_with (go_at_call 29; refine HC.out.mono ?_; rintro e w' ⟨rfl, q, rfl⟩)
    go_ret
    exact ⟨ret_bool HR.out.symm, _, rfl⟩
end

section
open Go.RowKit

theorem all_rows {p : List Int → Bool} {zss : List (List Int)} : zss.all p = true ↔ ∀ j, j < zss.length → p (row zss j) = true := by
  rw [List.all_eq_true]
  constructor
  · intro h j hj; rw [row_eq hj]; exact h _ (List.getElem_mem _)
  · intro h z hz
    obtain ⟨j, hj, rfl⟩ := List.mem_iff_getElem.1 hz
    rw [← row_eq hj]; exact h j hj

theorem rows_two {w : World} {a a' : Option Addr} {S T : List Int} {cs ct : Nat} (h : IntsAt w a S) (h' : IntsAt w a' T) :
    RowsAt (w.alloc (.cells #[.slice a S.length cs, .slice a' T.length ct] 27)) (some ⟨w.heap.size, 0, none⟩) (fun k => if k = 0 then a else a') (fun k => if k = 0 then cs else ct) [S, T] := by
  have hb := Box2.new w 27 (.slice a S.length cs) (.slice a' T.length ct)
  refine ⟨by simp, fun _ => ⟨_, 0, rfl, fun k hk => ?_⟩, fun k hk => ?_⟩
  · match k with
    | 0 => exact hb.cell0
    | 1 => exact hb.cell1
    | k + 2 => exact absurd hk (by simp)
  · match k with
    | 0 => exact h.alloc _
    | 1 => exact h'.alloc _
    | k + 2 => exact absurd hk (by simp)

theorem rows_one {w : World} {a : Option Addr} {S : List Int} {cs : Nat} (h : IntsAt w a S) :
    RowsAt (w.alloc (.cells #[.slice a S.length cs] 27)) (some ⟨w.heap.size, 0, none⟩) (fun _ => a) (fun _ => cs) [S] := by
  refine ⟨by simp, fun _ => ⟨_, 0, rfl, fun k hk => ?_⟩, fun k hk => ?_⟩
  · match k with
    | 0 =>
      have h0 := heap_alloc_new w (.cells #[.slice a S.length cs] 27)
      simp only [World.cell?, h0, row]
      rfl
    | k + 1 => exact absurd hk (by simp)
  · match k with
    | 0 => exact h.alloc _
    | k + 1 => exact absurd hk (by simp)

/-- What p picks of the first k elements. -/
def partK (p : Int → Bool) (S : List Int) : Nat → List Int
  | 0 => []
  | k + 1 => partK p S k ++ if p (nth S k) then [nth S k] else []

theorem partK_filter (p : Int → Bool) (S : List Int) : ∀ k, k ≤ S.length → partK p S k = (S.take k).filter p
  | 0, _ => rfl
  | k + 1, h => by
    rw [partK, partK_filter p S k (by omega), List.take_add_one, List.filter_append, nth_eq (by omega)]
    rw [List.getElem?_eq_getElem (by omega)]
    simp [List.filter_cons]
theorem partK_all (p : Int → Bool) (S : List Int) : partK p S S.length = S.filter p := by rw [partK_filter p S _ (Nat.le_refl _), List.take_length]
theorem partK_len (p : Int → Bool) (S : List Int) (k : Nat) : (partK p S k).length ≤ k := by
  induction k with
  | zero => simp [partK]
  | succ k ih => simp only [partK]; split <;> simp <;> omega
theorem filter_fits {S : List Int} (p : Int → Bool) (h : ∀ k, k < S.length → Fits (nth S k)) : ∀ k, k < (S.filter p).length → Fits (nth (S.filter p) k) := fun k hk => by
  have hm := (List.mem_filter.1 (nth_mem hk)).1
  obtain ⟨j, hj, e⟩ := mem_nth.1 hm
  rw [← e]; exact h j hj

/-- Who is in T; who isn't. -/
def inT (T : List Int) : Int → Bool := fun x => hasB T x
def outT (T : List Int) : Int → Bool := fun x => !hasB T x

/-- A row of one's own, that grows. -/
structure Grows (w wr : World) (v : Value) (zs : List Int) : Prop where
  own : wr.ownsRow w.heap.size 2 1 v zs.length (zs.map (Value.int .i64))

set_option maxHeartbeats 4000000 in
theorem split_is {w : World} {a a' : Option Addr} {S T : List Int} (cs ct : Nat) (hS : IntsAt w a S) (hT : IntsAt w a' T) (hr : Rises T) (hl : S.length ≤ 1048576) :
    Calls Try.prog 40 #[.slice a S.length cs, .slice a' T.length ct] w fun e w' => ∃ u v, e = .returned (.tuple #[u, v]) ∧
      OwnInts w' w.heap.size w'.heap.size u (S.filter (inT T)) ∧ OwnInts w' w.heap.size w'.heap.size v (S.filter (outT T)) ∧ Below w.heap.size w w' := by
  obtain ⟨i0, hi, hz0, hz1, hz2⟩ := info_parts info_int
  have HS := Lib.hid hS
  have HT := Lib.hid hT
  have HO := Lib.hid hr
  clear hS hT hr
  go_enter Try.func40, Try.ntmps40
  go_wp2
  go_loopw [4, 5, 10] (fun u v i wr => ∃ (k : Nat) (uu vv : Value), uu = u ∧ vv = v ∧ k ≤ S.length ∧ i = .int .i64 k ∧ Hid (wr.ownsRow w.heap.size 2 1 u (partK (inT T) S k).length ((partK (inT T) S k).map (Value.int .i64))) ∧ Hid (wr.ownsRow w.heap.size 2 1 v (partK (outT T) S k).length ((partK (outT T) S k).map (Value.int .i64))) ∧ Hid (∀ g, u.ownBlock = some g → v.ownBlock ≠ some g) ∧ Hid (Below w.heap.size w wr)) (fun _ _ i _ => S.length - (intOf i).toNat)
  case atStart => exact ⟨0, _, _, rfl, rfl, Nat.zero_le _, rfl, World.ownsRow_nil _ _ _ _, World.ownsRow_nil _ _ _ _, fun g hg => by simp [Value.ownBlock] at hg, Below.refl _ _⟩
  case round =>
    obtain ⟨k, uu, vv, hu0, hv0, hk, rfl, HU, HV, HD, HB⟩ := hrel
    subst hu0
    subst hv0
    have hsz := HB.out.size
    by_cases hlt : k < S.length
    · obtain ⟨b, off, ha, hc⟩ := (HS.out.below HB.out).cell (by omega)
      subst ha
      have hck := hc k hlt
      clear hc
      have hpl := partK_len (inT T) S k
      have hpo := partK_len (outT T) S k
      cases hh : hasB T (nth S k) with
      | true =>
        have HF := Lib.hid (has_is hh ct (HT.out.below HB.out) HO.out)
        have HS1 : Hid (partK (inT T) S (k + 1) = partK (inT T) S k ++ [nth S k]) := by simp [partK, hh, Hid, inT]
        have hS2 : partK (outT T) S (k + 1) = partK (outT T) S k := by simp [partK, hh, outT]
        have HV2 := HV
        rw [← hS2] at HV2
        clear hh hS2
        go_wp2_with (first
          | (go_at_call 50; refine HF.out.mono ?_; rintro e w' ⟨rfl, rfl⟩)
          | (at_builtin; refine wpList_append_own_at _ rfl _ _ 61 rfl w.heap.size 2 i0 (.int .i64 0) 1 8 Try.underlying61 hi hz0 hz1 hz2 rfl (by decide) _ _ _ rfl (HU.out.alloc _) ⟨wr.heap.size, 0, none⟩ 1 1 [.int .i64 (nth S k)] rfl rfl ?c1 ?c2 ?c3 ?c4 ?c5 ?_))
        case c1 => exact cell_one_new _ _ _
        case c2 => intro u hu; simp at hu; subst hu; rfl
        case c3 => unfold maxLen; omega
        case c4 => omega
        case c5 => simp; omega
        · intro v' w1' hown' hgrow _ hlie
          have HBn := Lib.hid ((HB.out.alloc HB.out.size _).grown hgrow (by simp; omega) (fun g hg => (HU.out.lt g hg).1))
          have e1 : (partK (inT T) S (k + 1)).length = (partK (inT T) S k).length + 1 := by rw [HS1.out]; simp
          have e2 : (partK (inT T) S (k + 1)).map (Value.int .i64) = (partK (inT T) S k).map (Value.int .i64) ++ [.int .i64 (nth S k)] := by rw [HS1.out]; simp
          have HOn := Lib.hid hown'
          rw [← e1, ← e2] at HOn
          have HVn := Lib.hid (ownsRow_only (HV2.out.alloc _) (Only.of_grown hgrow) (fun g hg e => HD.out g e hg))
          have HDn : Hid (∀ g, v'.ownBlock = some g → vv.ownBlock ≠ some g) := fun g hg hv => by
            rcases hlie with h | h
            · rw [h] at hg; exact HD.out g hg hv
            · rw [h] at hg; have := (HV2.out.lt g hv).2; simp at hg; omega
          clear hown' hgrow e1 e2 hlie
          go_wp2
          go_roundw
          case rel => exact ⟨k + 1, _, _, rfl, rfl, by omega, by go_num, HOn, HVn, HDn, HBn⟩
          case measure => simp [intOf]; omega
      | false =>
        have HF := Lib.hid (has_is hh ct (HT.out.below HB.out) HO.out)
        have HS1 : Hid (partK (outT T) S (k + 1) = partK (outT T) S k ++ [nth S k]) := by simp [partK, hh, Hid, outT]
        have hS2 : partK (inT T) S (k + 1) = partK (inT T) S k := by simp [partK, hh, inT]
        have HU2 := HU
        rw [← hS2] at HU2
        clear hh hS2
        go_wp2_with (first
          | (go_at_call 50; refine HF.out.mono ?_; rintro e w' ⟨rfl, rfl⟩)
          | (at_builtin; refine wpList_append_own_at _ rfl _ _ 61 rfl w.heap.size 2 i0 (.int .i64 0) 1 8 Try.underlying61 hi hz0 hz1 hz2 rfl (by decide) _ _ _ rfl (HV.out.alloc _) ⟨wr.heap.size, 0, none⟩ 1 1 [.int .i64 (nth S k)] rfl rfl ?c1 ?c2 ?c3 ?c4 ?c5 ?_))
        case c1 => exact cell_one_new _ _ _
        case c2 => intro u hu; simp at hu; subst hu; rfl
        case c3 => unfold maxLen; omega
        case c4 => omega
        case c5 => simp; omega
        · intro v' w1' hown' hgrow _ hlie
          have HBn := Lib.hid ((HB.out.alloc HB.out.size _).grown hgrow (by simp; omega) (fun g hg => (HV.out.lt g hg).1))
          have e1 : (partK (outT T) S (k + 1)).length = (partK (outT T) S k).length + 1 := by rw [HS1.out]; simp
          have e2 : (partK (outT T) S (k + 1)).map (Value.int .i64) = (partK (outT T) S k).map (Value.int .i64) ++ [.int .i64 (nth S k)] := by rw [HS1.out]; simp
          have HOn := Lib.hid hown'
          rw [← e1, ← e2] at HOn
          have HUn := Lib.hid (ownsRow_only (HU2.out.alloc _) (Only.of_grown hgrow) (fun g hg e => HD.out g hg e))
          have HDn : Hid (∀ g, uu.ownBlock = some g → v'.ownBlock ≠ some g) := fun g hg hv => by
            rcases hlie with h | h
            · rw [h] at hv; exact HD.out g hg hv
            · rw [h] at hv; have := (HU2.out.lt g hg).2; simp at hv; omega
          clear hown' hgrow e1 e2 hlie
          go_wp2
          go_roundw
          case rel => exact ⟨k + 1, _, _, rfl, rfl, by omega, by go_num, HUn, HOn, HDn, HBn⟩
          case measure => simp [intOf]; omega
    · have hkk : k = S.length := by omega
      rw [hkk] at HU HV
      rw [partK_all] at HU HV
      have hl1 := List.length_filter_le (inT T) S
      have hl2 := List.length_filter_le (outT T) S
      have hfin := Lib.hid (And.intro (OwnInts.mk' HU.out (by omega) (filter_fits _ HS.out.fits)) (OwnInts.mk' HV.out (by omega) (filter_fits _ HS.out.fits)))
      clear hkk HU HV
      go_wp2
      go_ret2
      exact ⟨_, _, rfl, hfin.out.1, hfin.out.2, HB.out⟩

/-- What MeetOf, LessOf and PartIn say. -/
def meetL (S T : List Int) : List Int := if bothOk S T then S.filter (inT T) else []
def lessL (S T : List Int) : List Int := if bothOk S T then S.filter (outT T) else []
def partB (S T : List Int) : Bool := bothOk S T && decide ((S.filter (outT T)).length = 0)

theorem both_sets {S T : List Int} (h : bothOk S T = true) : setB 256 S = true ∧ setB 256 T = true := by simpa [bothOk] using h
theorem both_len {S T : List Int} (h : bothOk S T = true) : S.length ≤ 256 := by have := setB_len (by decide) (both_sets h).1; omega

set_option maxHeartbeats 2000000 in
theorem specLessOf_is {w : World} {a a' : Option Addr} {S T r : List Int} (hr : lessL S T = r) (cs ct : Nat) (hS : IntsAt w a S) (hT : IntsAt w a' T) :
    Calls Try.prog 16 #[.slice a S.length cs, .slice a' T.length ct] w (GivesInts w r) := by
  obtain ⟨i0, hi, hz0, hz1, hz2⟩ := info_parts info_int
  have HS := Lib.hid hS
  have HT := Lib.hid hT
  have HC := Lib.hid (fun b (hb : bothOk S T = b) => l2Both_is hb cs ct (hS.alloc (.cells #[] 2)) (hT.alloc (.cells #[] 2)))
  have oW : Hid ((w.alloc (.cells #[] 2)).ownsRow w.heap.size 2 1 (.slice (some ⟨w.heap.size, 0, none⟩) 0 0) 0 []) := World.ownsRow_made w #[] 0 (Nat.le_refl _) (by unfold maxLen; omega) rfl
  have B0 := Lib.hid (below1 w (.cells #[] 2))
  clear hS hT
  cases hb : bothOk S T with
  | false =>
    have HC' := Lib.hid (HC.out _ hb)
    have HR : Hid (r = []) := by rw [← hr]; unfold lessL; rw [hb]; rfl
    clear hr hb HC
    go_enter Try.func16, Try.ntmps16
    go_wp2_with (go_at_call 31; refine HC'.out.mono ?_; rintro e w' ⟨rfl, q, rfl⟩)
    go_ret
    exact ⟨_, rfl, by rw [HR.out]; exact OwnInts.mk' (ownsRow_only oW.out (S := fun _ => False) (Only.of_below (below_drewN (Below.refl _ _) q)) (fun _ _ h => h)) (by simp) (fun k hk => absurd hk (by simp)), below_drewN B0.out q⟩
  | true =>
    have HC' := Lib.hid (HC.out _ hb)
    have HR : Hid (r = S.filter (outT T)) := by rw [← hr]; unfold lessL; rw [hb]; rfl
    have hl := both_len hb
    clear hr hb HC
    go_enter Try.func16, Try.ntmps16
    go_wp2_with (go_at_call 31; refine HC'.out.mono ?_; rintro e w' ⟨rfl, q, rfl⟩; have oQ : Hid (((w.alloc (.cells #[] 2)).drewN q).ownsRow w.heap.size 2 1 (.slice (some ⟨w.heap.size, 0, none⟩) 0 0) 0 []) := (ownsRow_only oW.out (S := fun _ => False) (Only.of_below (below_drewN (Below.refl _ _) q)) (fun _ _ h => h)); have BQ := Lib.hid (below_drewN B0.out q); clear oW B0)
    go_loopw [5, 6] (fun u i wr => ∃ k : Nat, k ≤ S.length ∧ i = .int .i64 k ∧ Hid (wr.ownsRow w.heap.size 2 1 u (partK (outT T) S k).length ((partK (outT T) S k).map (Value.int .i64))) ∧ Hid (Below w.heap.size w wr)) (fun _ i _ => S.length - (intOf i).toNat)
    case atStart => exact ⟨0, Nat.zero_le _, rfl, oQ, BQ⟩
    case round =>
      clear oQ BQ HC'
      obtain ⟨k, hk, rfl, HU, HB⟩ := hrel
      have hsz := HB.out.size
      by_cases hlt : k < S.length
      · obtain ⟨b, off, ha, hc⟩ := (HS.out.below HB.out).cell (by omega)
        subst ha
        have hck := hc k hlt
        clear hc
        have hpl := partK_len (outT T) S k
        cases hh : hasB T (nth S k) with
        | true =>
          have HF := Lib.hid (l1Has_is hh ct _ (HT.out.below HB.out))
          have hS2 : partK (outT T) S (k + 1) = partK (outT T) S k := by simp [partK, hh, outT]
          have HU2 := HU
          rw [← hS2] at HU2
          clear hh hS2
          go_wp2_with (go_at_call 30; refine HF.out.mono ?_; rintro e w' ⟨rfl, rfl⟩)
          go_roundw
          case rel => exact ⟨k + 1, by omega, by go_num, HU2, HB⟩
          case measure => simp [intOf]; omega
        | false =>
          have HF := Lib.hid (l1Has_is hh ct _ (HT.out.below HB.out))
          have HS1 : Hid (partK (outT T) S (k + 1) = partK (outT T) S k ++ [nth S k]) := by simp [partK, hh, Hid, outT]
          clear hh
          go_wp2_with (first
            | (go_at_call 30; refine HF.out.mono ?_; rintro e w' ⟨rfl, rfl⟩)
            | (at_builtin; refine wpList_append_own_at _ rfl _ _ 27 rfl w.heap.size 2 i0 (.int .i64 0) 1 8 Try.underlying27 hi hz0 hz1 hz2 rfl (by decide) _ _ _ rfl (HU.out.alloc _) ⟨wr.heap.size, 0, none⟩ 1 1 [.int .i64 (nth S k)] rfl rfl ?c1 ?c2 ?c3 ?c4 ?c5 ?_))
          case c1 => exact cell_one_new _ _ _
          case c2 => intro u hu; simp at hu; subst hu; rfl
          case c3 => unfold maxLen; omega
          case c4 => omega
          case c5 => simp; omega
          · intro v' w1' hown' hgrow _ _
            have HBn := Lib.hid ((HB.out.alloc HB.out.size _).grown hgrow (by simp; omega) (fun g hg => (HU.out.lt g hg).1))
            have e1 : (partK (outT T) S (k + 1)).length = (partK (outT T) S k).length + 1 := by rw [HS1.out]; simp
            have e2 : (partK (outT T) S (k + 1)).map (Value.int .i64) = (partK (outT T) S k).map (Value.int .i64) ++ [.int .i64 (nth S k)] := by rw [HS1.out]; simp
            have HOn := Lib.hid hown'
            rw [← e1, ← e2] at HOn
            clear hown' hgrow e1 e2
            go_wp2
            go_roundw
            case rel => exact ⟨k + 1, by omega, by go_num, HOn, HBn⟩
            case measure => simp [intOf]; omega
      · have hkk : k = S.length := by omega
        rw [hkk] at HU
        rw [partK_all] at HU
        have hl1 := List.length_filter_le (outT T) S
        have hfin := Lib.hid (OwnInts.mk' HU.out (by omega) (filter_fits _ HS.out.fits))
        clear hkk HU
        go_wp2
        go_ret
        exact ⟨_, rfl, by rw [HR.out]; exact hfin.out, HB.out⟩

end

end Go.Proofs.Ytaoagikipbcjpaa
