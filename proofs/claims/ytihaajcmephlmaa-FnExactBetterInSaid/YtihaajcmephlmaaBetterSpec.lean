/-
  Contracts of the model: l10Even, l10Unlike, l10Better, BetterIn.
-/
import Derived.Test.YtihaajcmephlmaaPo04
import Derived.Test.YtihaajcmephlmaaWorthSpec
import Derived.Test.YtihaajcmephlmaaBetterVal
namespace Go.Proofs.Ytihaajcmephlmaa
section
open Go.RowKit Go.Shelf

set_option linter.unusedSimpArgs false in
set_option maxRecDepth 100000 in
set_option maxHeartbeats 8000000 in
theorem l10Even_is {w : World} {v : Value} {O P : List Int} {zss : List (List Int)} {x : Nat} {r : Bool} (hx : x < P.length) (hP : ∀ p ∈ P, 0 ≤ p ∧ p ≤ 40) (hr : evenB P x = r) (h : GameAt w v O zss P) :
    Calls Try.prog 96 #[v, .int .i64 x] w fun e w' => e = .returned (.bool r) ∧ Below w.heap.size w w' := by
  have HGm := Lib.hid h
  obtain ⟨ao, an, ap, co, cn, cp, A, C, rfl, h1, h2, h3⟩ := h
  obtain ⟨w1, hw1⟩ : ∃ y, y = w.alloc (.cells #[.slice ao O.length co, .slice an zss.length cn, .slice ap P.length cp] 32) := ⟨_, rfl⟩
  have HW1 := Lib.hid hw1
  have B1 : Hid (Below w.heap.size w w1) := by rw [hw1]; exact below1 _ _
  have T1 : Hid (Box3 w1 w.heap.size 32 (.slice ao O.length co) (.slice an zss.length cn) (.slice ap P.length cp)) := by rw [hw1]; exact Box3.new _ _ _ _ _
  have hl := h3.len
  obtain ⟨pb, po, hpa, hpc⟩ := (h3.below B1.out).cell (by omega)
  have p1 := hpc x hx
  have t2 := T1.out.c2
  have hx0 : (0 : Int) ≤ (x : Int) := by omega
  have hx1 : (x : Int) < P.length := by omega
  have hp := hP _ (nth_mem hx)
  obtain ⟨p, hpp⟩ : ∃ p, p = nth P x := ⟨_, rfl⟩
  have HE : Hid (decide (p % 2 = 0) = r) := by rw [← hr, hpp]; exact rfl
  rw [← hpp] at p1 hp
  have hp0 := hp.1
  have HM : Hid (p.tmod 2 = p % 2) := Int.tmod_eq_emod_of_nonneg hp0
  subst hpa
  rw [hw1] at p1 t2
  clear hw1 h1 h2 h3 hr hpp hpc hp
  go_enter Try.func96, Try.ntmps96
  go_wp2
  go_ret
  exact ⟨ret_bool (by rw [← HE.out, Bool.eq_iff_iff, decide_eq_true_eq]; try rw [HM.out]
                      simp), below1 _ _⟩

set_option linter.unusedSimpArgs false in
set_option maxRecDepth 100000 in
set_option maxHeartbeats 8000000 in
theorem l10Unlike_is {w : World} {v : Value} {O P S R : List Int} {zss : List (List Int)} {aS aR : Option Addr} {r : Int} (cS cR : Nat) (hr : unlikeL P S R = r) (h : GameAt w v O zss P) (hS : IntsAt w aS S) (hR : IntsAt w aR R) :
    Calls Try.prog 97 #[v, .slice aS S.length cS, .slice aR R.length cR] w fun e w' => e = .returned (.int .i64 r) ∧ Below w.heap.size w w' := by
  have HGm := Lib.hid h
  obtain ⟨ao, an, ap, co, cn, cp, A, C, rfl, h1, h2, h3⟩ := h
  obtain ⟨w1, hw1⟩ : ∃ y, y = w.alloc (.cells #[.slice ao O.length co, .slice an zss.length cn, .slice ap P.length cp] 32) := ⟨_, rfl⟩
  have HW1 := Lib.hid hw1
  have B1 : Hid (Below w.heap.size w w1) := by rw [hw1]; exact below1 _ _
  have T1 : Hid (Box3 w1 w.heap.size 32 (.slice ao O.length co) (.slice an zss.length cn) (.slice ap P.length cp)) := by rw [hw1]; exact Box3.new _ _ _ _ _
  have hl := h3.len
  have HSs := Lib.hid hS
  have HRr := Lib.hid hR
  have HR := Lib.hid hr
  unfold unlikeL at HR
  have t0 := T1.out.c0
  have t1 := T1.out.c1
  have t2 := T1.out.c2
  clear hw1 h1 h2 h3 hr hS hR
  go_enter Try.func97, Try.ntmps97
  go_wp2
  rw [← HW1.out]
  clear t0 t1 t2
  go_loopw [7, 8] (fun bv iv wr => ∃ k : Nat, k ≤ P.length ∧ bv = .int .i64 (unlikeK P S R k) ∧ iv = .int .i64 k ∧ Hid (Below w1.heap.size w1 wr)) (fun _ iv _ => P.length - (intOf iv).toNat)
  case atStart => exact ⟨0, Nat.zero_le _, rfl, rfl, Below.refl _ _⟩
  case round =>
    obtain ⟨k, hk, rfl, rfl, HB⟩ := hrel
    have Tr := Lib.hid (T1.out.below HB.out)
    have Br := Lib.hid (B1.out.trans (HB.out.mono B1.out.size))
    have t0 := Tr.out.c0
    have t1 := Tr.out.c1
    have t2 := Tr.out.c2
    by_cases hlt : k < P.length
    · have hi1 : (k : Int) < P.length := by omega
      have hk0 : (0 : Int) ≤ (k : Int) := by omega
      have HUK : Hid (unlikeK P S R (k + 1) = if hasB S (k : Int) ≠ hasB R (k : Int) ∧ (unlikeK P S R k < 0 ∨ heavyB P k (unlikeK P S R k).toNat = true) then (k : Int) else unlikeK P S R k) := rfl
      have hun : unlikeK P S R k = -1 ∨ ∃ u : Nat, u < P.length ∧ unlikeK P S R k = (u : Int) := by
        rcases unlikeK_is (P := P) (A := S) (B := R) k with ⟨h1, _⟩ | ⟨u, h1, h2, _⟩
        · exact .inl h1
        · exact .inr ⟨u, by omega, h2⟩
      obtain ⟨b, hbv⟩ : ∃ b, b = unlikeK P S R k := ⟨_, rfl⟩
      obtain ⟨n, hnv⟩ : ∃ n, n = unlikeK P S R (k + 1) := ⟨_, rfl⟩
      have HNV := Lib.hid hnv
      rw [← hbv] at HUK hun ⊢
      rw [← hnv] at HUK
      obtain ⟨p, hp⟩ : ∃ p, hasB S (k : Int) = p := ⟨_, rfl⟩
      obtain ⟨q, hq⟩ : ∃ q, hasB R (k : Int) = q := ⟨_, rfl⟩
      have HP := Lib.hid (l7HasIn_is hp cS (HSs.out.below Br.out))
      have HUN := Lib.hid hun
      rw [hp, hq] at HUK
      clear hbv hnv hun
      go_wp2_with fail
      refine HP.out.mono ?_
      rintro e wx ⟨rfl, rfl⟩
      go_wp2_with fail
      refine (l7HasIn_is hq cR (HRr.out.below Br.out)).mono ?_
      rintro e wy ⟨rfl, rfl⟩
      have Ky : Hid (Below wr.heap.size wr wr) := Below.refl _ _
      have Ty := Lib.hid (Tr.out.below Ky.out)
      clear t0 t1 t2 HP
      have t0 := Ty.out.c0
      have t1 := Ty.out.c1
      have t2 := Ty.out.c2
      cases p with
      | true =>
        cases q with
        | true =>
          have HE : Hid (n = b) := by rw [HUK.out, if_neg (fun hh => hh.1 rfl)]; exact rfl
          go_wp2
          go_roundw
          case rel => exact ⟨k + 1, by omega, by rw [← HNV.out, HE.out], by go_num, HB.out.trans (Ky.out.mono HB.out.size)⟩
          case measure => simp [intOf]; omega
        | false =>
          by_cases hb0 : b < 0
          · have HE : Hid (n = (k : Int)) := by rw [HUK.out, if_pos ⟨by decide, .inl hb0⟩]; exact rfl
            go_wp2
            go_roundw
            case rel => exact ⟨k + 1, by omega, by rw [← HNV.out, HE.out], by go_num, HB.out.trans (Ky.out.mono HB.out.size)⟩
            case measure => simp [intOf]; omega
          · obtain ⟨u, hu, hbu⟩ : ∃ u : Nat, u < P.length ∧ b = (u : Int) := by
              rcases HUN.out with h1 | h1
              · omega
              · exact h1
            subst hbu
            obtain ⟨c, hc⟩ : ∃ c, heavyB P k u = c := ⟨_, rfl⟩
            have HC := Lib.hid (l10Heavier_is hlt hu hc (HGm.out.below (Br.out.trans (Ky.out.mono Br.out.size))))
            rw [Int.toNat_natCast, hc] at HUK
            clear hc
            cases c with
            | true =>
              have HE : Hid (n = (k : Int)) := by rw [HUK.out, if_pos ⟨by decide, .inr rfl⟩]; exact rfl
              go_wp2_with fail
              refine HC.out.mono ?_
              rintro e wz ⟨rfl, hb⟩
              have Kz := Lib.hid (Ky.out.trans (hb.mono Ky.out.size))
              clear hb
              go_wp2
              go_roundw
              case rel => exact ⟨k + 1, by omega, by rw [← HNV.out, HE.out], by go_num, HB.out.trans (Kz.out.mono HB.out.size)⟩
              case measure => simp [intOf]; omega
            | false =>
              have HE : Hid (n = (u : Int)) := by rw [HUK.out, if_neg (fun hh => hh.2.elim hb0 (fun h1 => Bool.noConfusion h1))]; exact rfl
              go_wp2_with fail
              refine HC.out.mono ?_
              rintro e wz ⟨rfl, hb⟩
              have Kz := Lib.hid (Ky.out.trans (hb.mono Ky.out.size))
              clear hb
              go_wp2
              go_roundw
              case rel => exact ⟨k + 1, by omega, by rw [← HNV.out, HE.out], by go_num, HB.out.trans (Kz.out.mono HB.out.size)⟩
              case measure => simp [intOf]; omega
      | false =>
        cases q with
        | true =>
          by_cases hb0 : b < 0
          · have HE : Hid (n = (k : Int)) := by rw [HUK.out, if_pos ⟨by decide, .inl hb0⟩]; exact rfl
            go_wp2
            go_roundw
            case rel => exact ⟨k + 1, by omega, by rw [← HNV.out, HE.out], by go_num, HB.out.trans (Ky.out.mono HB.out.size)⟩
            case measure => simp [intOf]; omega
          · obtain ⟨u, hu, hbu⟩ : ∃ u : Nat, u < P.length ∧ b = (u : Int) := by
              rcases HUN.out with h1 | h1
              · omega
              · exact h1
            subst hbu
            obtain ⟨c, hc⟩ : ∃ c, heavyB P k u = c := ⟨_, rfl⟩
            have HC := Lib.hid (l10Heavier_is hlt hu hc (HGm.out.below (Br.out.trans (Ky.out.mono Br.out.size))))
            rw [Int.toNat_natCast, hc] at HUK
            clear hc
            cases c with
            | true =>
              have HE : Hid (n = (k : Int)) := by rw [HUK.out, if_pos ⟨by decide, .inr rfl⟩]; exact rfl
              go_wp2_with fail
              refine HC.out.mono ?_
              rintro e wz ⟨rfl, hb⟩
              have Kz := Lib.hid (Ky.out.trans (hb.mono Ky.out.size))
              clear hb
              go_wp2
              go_roundw
              case rel => exact ⟨k + 1, by omega, by rw [← HNV.out, HE.out], by go_num, HB.out.trans (Kz.out.mono HB.out.size)⟩
              case measure => simp [intOf]; omega
            | false =>
              have HE : Hid (n = (u : Int)) := by rw [HUK.out, if_neg (fun hh => hh.2.elim hb0 (fun h1 => Bool.noConfusion h1))]; exact rfl
              go_wp2_with fail
              refine HC.out.mono ?_
              rintro e wz ⟨rfl, hb⟩
              have Kz := Lib.hid (Ky.out.trans (hb.mono Ky.out.size))
              clear hb
              go_wp2
              go_roundw
              case rel => exact ⟨k + 1, by omega, by rw [← HNV.out, HE.out], by go_num, HB.out.trans (Kz.out.mono HB.out.size)⟩
              case measure => simp [intOf]; omega
        | false =>
          have HE : Hid (n = b) := by rw [HUK.out, if_neg (fun hh => hh.1 rfl)]; exact rfl
          go_wp2
          go_roundw
          case rel => exact ⟨k + 1, by omega, by rw [← HNV.out, HE.out], by go_num, HB.out.trans (Ky.out.mono HB.out.size)⟩
          case measure => simp [intOf]; omega
    · have hi1 : ¬ (k : Int) < P.length := by omega
      have HE : Hid (unlikeK P S R k = r) := by rw [← HR.out, show k = P.length by omega]; exact rfl
      go_wp2
      go_ret
      exact ⟨ret_i64 HE.out, Br.out⟩
end
end Go.Proofs.Ytihaajcmephlmaa
