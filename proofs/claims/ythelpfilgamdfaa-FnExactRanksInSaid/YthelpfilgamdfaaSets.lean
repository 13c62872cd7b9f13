/-
  Contracts of chapter 2 that need no new memory: sets, members; and what a set parts into.
-/
import Derived.Test.YthelpfilgamdfaaSearch
import Derived.Test.YthelpfilgamdfaaEdge
import Derived.Test.YthelpfilgamdfaaInts
namespace Go.Proofs.Ythelpfilgamdfaa
open Go.RowKit

set_option maxHeartbeats 1000000 in
theorem BinSet_is {w : World} {a : Option Addr} {zs : List Int} (x : Int) (cap : Nat) (h : IntsAt w a zs) (hr : Rises zs) :
    Calls Try.prog 104 #[.slice a zs.length cap, .int .i64 x] w (Found zs x w) := by
  have hlen := h.len
  have HC := Lib.hid h.cell
  have HR := Lib.hid hr
  clear h hr
  go_enter Try.func104, Try.ntmps104
  go_wp2
  go_loop [7, 8] (fun i j => ∃ p q : Nat, p ≤ q ∧ q ≤ zs.length ∧ i = .int .i64 p ∧ j = .int .i64 q ∧ Hid (∀ k, k < p → nth zs k < x) ∧ Hid (∀ k, q ≤ k → k < zs.length → x ≤ nth zs k)) (fun i j => (intOf j).toNat - (intOf i).toNat)
  case atStart => exact ⟨0, zs.length, Nat.zero_le _, Nat.le_refl _, rfl, rfl, fun k hk => absurd hk (Nat.not_lt_zero _), fun k h1 h2 => absurd h2 (by omega)⟩
  case round =>
    obtain ⟨p, q, hpq, hq, rfl, rfl, HP, HQ⟩ := hrel
    by_cases hlt : p < q
    · obtain ⟨b, off, ha, hc⟩ := HC.out (by omega)
      subst ha
      have hck := hc ((p + q) / 2) (by omega)
      clear hc
      have hmz : (p + q) / 2 < zs.length := by omega
      by_cases hl : nth zs ((p + q) / 2) < x
      · have HL := Lib.hid (less_is (decide_eq_true hl) w)
        have HP' : Hid (∀ k, k < (p + q) / 2 + 1 → nth zs k < x) := fun k hk => by
          by_cases e : k = (p + q) / 2
          · subst e; exact hl
          · have := HR.out k ((p + q) / 2) (by omega) hmz; omega
        clear hl
        go_wp2_with (go_at_call 92; refine HL.out.mono ?_; rintro e w' ⟨rfl, rfl⟩)
        go_round
        case rel => exact ⟨(p + q) / 2 + 1, q, by omega, hq, by go_num, rfl, HP', HQ⟩
        case measure => simp [intOf]; omega
      · have HL := Lib.hid (less_is (decide_eq_false hl) w)
        have HQ' : Hid (∀ k, (p + q) / 2 ≤ k → k < zs.length → x ≤ nth zs k) := fun k hk hkz => by
          by_cases e : k = (p + q) / 2
          · subst e; omega
          · have := HR.out ((p + q) / 2) k (by omega) hkz; omega
        clear hl
        go_wp2_with (go_at_call 92; refine HL.out.mono ?_; rintro e w' ⟨rfl, rfl⟩)
        go_round
        case rel => exact ⟨p, (p + q) / 2, by omega, by omega, rfl, by go_num, HP, HQ'⟩
        case measure => simp [intOf]; omega
    · have hpq' : p = q := by omega
      subst hpq'
      by_cases hz : p < zs.length
      · obtain ⟨b, off, ha, hc⟩ := HC.out (by omega)
        subst ha
        have hck := hc p hz
        clear hc
        by_cases he : nth zs p = x
        · have HF : Hid (hasB zs x = true ∧ (p : Int) = idx zs x) := ⟨hasB_yes hz he, (idx_rises HR.out hz he).symm⟩
          have hb : (nth zs p == x) = true := by simp [he]
          clear he
          go_wp2
          go_ret2
          exact found_mk (i := p) HF.out.1 (fun _ => HF.out.2)
        · have HF : Hid (hasB zs x = false) := hasB_no fun j hj e => by
            rcases Nat.lt_trichotomy j p with h | h | h
            · have := HP.out j h; omega
            · subst h; exact he e
            · have h1 := HQ.out p (Nat.le_refl _) hz
              have h2 := HR.out p j h hj
              omega
          have hb : (nth zs p == x) = false := by simp [he]
          have HN := Lib.hid (nan_any (nth zs p) w)
          clear he
          go_wp2_with (go_at_call 113; refine HN.out.mono ?_; rintro e w' ⟨rfl, rfl⟩)
          go_ret2
          exact found_mk (i := p) HF.out (fun h => by cases h)
      · have HF : Hid (hasB zs x = false) := hasB_no fun j hj e => by have := HP.out j (by omega); omega
        go_wp2
        go_ret2
        exact found_mk (i := p) HF.out (fun h => by cases h)


theorem has_is {w : World} {a : Option Addr} {zs : List Int} {x : Int} {r : Bool} (hr : hasB zs x = r) (cap : Nat) (h : IntsAt w a zs) (hz : Rises zs) :
    Calls Try.prog 85 #[.slice a zs.length cap, .int .i64 x] w fun e w' => e = .returned (.bool r) ∧ w = w' := by
  have HB := Lib.hid (BinSet_is x cap h hz)
  have HR := Lib.hid hr
  clear hr h hz
  go_enter Try.func85, Try.ntmps85
  go_wp2_with (go_at_call 104; refine HB.out.mono ?_; rintro e w' ⟨p, rfl, hp, rfl⟩; rw [HR.out]; clear hp)
  go_ret
  exact ⟨rfl, rfl⟩

/-- What SetOk says. -/
def setOk (n : Int) (zs : List Int) : Bool := inB n 0 256 && setB n zs

theorem setOk_yes {n : Int} {zs : List Int} (h : 0 ≤ n ∧ n ≤ 256) : setOk n zs = setB n zs := by unfold setOk; rw [inB_yes h.1 h.2]; rfl
theorem setOk_no {n : Int} {zs : List Int} (h : n < 0 ∨ 256 < n) : setOk n zs = false := by unfold setOk; rw [inB_no h]; rfl

set_option maxHeartbeats 400000 in
theorem specSetOk_is {w : World} {a : Option Addr} {zs : List Int} {n : Int} {r : Bool} (hr : setOk n zs = r) (cap : Nat) (h : IntsAt w a zs) :
    Calls Try.prog 48 #[.slice a zs.length cap, .int .i64 n] w fun e w' => e = .returned (.bool r) ∧ ∃ q, w' = w.drewN q := by
  by_cases hn : 0 ≤ n ∧ n ≤ 256
  · have HI := Lib.hid (l1In_is (inB_yes hn.1 hn.2))
    rw [setOk_yes hn] at hr
    have HC := Lib.hid (l1Set_is hr cap w h (by omega) (by omega))
    clear hr h
    go_enter Try.func48, Try.ntmps48
    go_wp2_with (first
      | (go_at_call 76; refine (HI.out _).mono ?_; rintro e w' ⟨rfl, rfl⟩)
      | (go_at_call 77; refine HC.out.mono ?_; rintro e w' ⟨rfl, HW⟩))
    go_ret
    exact ⟨rfl, HW⟩
  · have HI := Lib.hid (l1In_is (x := n) (lo := 0) (hi := 256) (inB_no (by omega)))
    have HR : Hid (r = false) := by rw [← hr]; exact setOk_no (by omega)
    clear hr h
    go_enter Try.func48, Try.ntmps48
    go_wp2_with (go_at_call 76; refine (HI.out _).mono ?_; rintro e w' ⟨rfl, rfl⟩)
    go_ret
    exact ⟨ret_bool HR.out.symm, 0, rfl⟩

/-- What HasIn says. -/
def hasIn (zs : List Int) (x : Int) : Bool := setB 256 zs && hasB zs x

theorem setOk_256 {zs : List Int} : setOk 256 zs = setB 256 zs := setOk_yes ⟨by decide, by decide⟩

set_option maxHeartbeats 400000 in
theorem specHasIn_is {w : World} {a : Option Addr} {zs : List Int} {x : Int} {r : Bool} (hr : hasIn zs x = r) (cap : Nat) (h : IntsAt w a zs) :
    Calls Try.prog 21 #[.slice a zs.length cap, .int .i64 x] w fun e w' => e = .returned (.bool r) ∧ ∃ q, w' = w.drewN q := by
  cases hs : setB 256 zs with
  | true =>
    have HC := Lib.hid (specSetOk_is (setOk_256.trans hs) cap h)
    have HH : Hid (∀ q, Calls Try.prog 49 #[.slice a zs.length cap, .int .i64 x] (w.drewN q) fun e w' => e = .returned (.bool r) ∧ w.drewN q = w') := fun q =>
      l1Has_is (by rw [← hr]; unfold hasIn; rw [hs]; rfl) cap _ (h.same ⟨q, rfl⟩)
    clear hr h hs
    go_enter Try.func21, Try.ntmps21
    go_wp2_with (first
      | (go_at_call 48; refine HC.out.mono ?_; rintro e w' ⟨rfl, q, rfl⟩)
      | (go_at_call 49; refine (HH.out _).mono ?_; rintro e w' ⟨rfl, rfl⟩))
    go_ret
    exact ⟨rfl, _, rfl⟩
  | false =>
    have HC := Lib.hid (specSetOk_is (setOk_256.trans hs) cap h)
    have HR : Hid (r = false) := by rw [← hr]; unfold hasIn; rw [hs]; rfl
    clear hr h hs
    go_enter Try.func21, Try.ntmps21
    go_wp2_with (go_at_call 48; refine HC.out.mono ?_; rintro e w' ⟨rfl, q, rfl⟩)
    go_ret
    exact ⟨ret_bool HR.out.symm, _, rfl⟩

/-- Both are sets of numbers from 0 to 255. -/
def bothOk (S T : List Int) : Bool := setB 256 S && setB 256 T

set_option maxHeartbeats 400000 in
theorem l2Both_is {w : World} {a a' : Option Addr} {S T : List Int} {r : Bool} (hr : bothOk S T = r) (cs ct : Nat) (h : IntsAt w a S) (h' : IntsAt w a' T) :
    Calls Try.prog 50 #[.slice a S.length cs, .slice a' T.length ct] w fun e w' => e = .returned (.bool r) ∧ ∃ q, w' = w.drewN q := by
  cases hs : setB 256 S with
  | true =>
    have HC := Lib.hid (specSetOk_is (setOk_256.trans hs) cs h)
    have HH : Hid (∀ q, Calls Try.prog 48 #[.slice a' T.length ct, .int .i64 256] (w.drewN q) fun e w' => e = .returned (.bool r) ∧ ∃ q', w' = (w.drewN q).drewN q') := fun q =>
      specSetOk_is (by rw [← hr, setOk_256]; unfold bothOk; rw [hs]; rfl) ct (h'.same ⟨q, rfl⟩)
    clear hr h hs h'
    go_enter Try.func50, Try.ntmps50
    go_wp2_with fail
    refine HC.out.mono ?_
    rintro e w' ⟨rfl, q, rfl⟩
    go_wp2_with fail
    refine (HH.out _).mono ?_
    rintro e w' ⟨rfl, q', rfl⟩
    go_wp2
    go_ret
    exact ⟨rfl, _, rfl⟩
  | false =>
    have HC := Lib.hid (specSetOk_is (setOk_256.trans hs) cs h)
    have HR : Hid (r = false) := by rw [← hr]; unfold bothOk; rw [hs]; rfl
    clear hr h hs h'
    go_enter Try.func50, Try.ntmps50
    go_wp2_with (go_at_call 48; refine HC.out.mono ?_; rintro e w' ⟨rfl, q, rfl⟩)
    go_ret
    exact ⟨ret_bool HR.out.symm, _, rfl⟩

end Go.Proofs.Ythelpfilgamdfaa
