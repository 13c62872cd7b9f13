/-
  Contracts of the model: l10Replies, RepliesIn.
-/
import Derived.Test.YtihaajcmephlmaaPo04
import Derived.Test.YtihaajcmephlmaaWorthMath
namespace Go.Proofs.Ytihaajcmephlmaa
section
open Go.RowKit Go.Shelf

set_option linter.unusedSimpArgs false in
set_option maxRecDepth 100000 in
set_option maxHeartbeats 8000000 in
theorem l10Replies_is {w : World} {v : Value} {O P : List Int} {zss : List (List Int)} {r : Int} (hr : (if repK O zss O.length ≤ 4096 then repK O zss O.length else -1) = r) (hA : ArenaP O zss) (hl : P.length = O.length) (h12 : O.length ≤ 12) (h : GameAt w v O zss P) :
    Calls Try.prog 65 #[v] w fun e w' => e = .returned (.int .i64 r) ∧ Below w.heap.size w w' := by
  have HGm := Lib.hid h
  obtain ⟨ao, an, ap, co, cn, cp, A, C, rfl, h1, h2, h3⟩ := h
  obtain ⟨w1, hw1⟩ : ∃ y, y = w.alloc (.cells #[.slice ao O.length co, .slice an zss.length cn, .slice ap P.length cp] 32) := ⟨_, rfl⟩
  have HW1 := Lib.hid hw1
  have B1 : Hid (Below w.heap.size w w1) := by rw [hw1]; exact below1 _ _
  have T1 : Hid (Box3 w1 w.heap.size 32 (.slice ao O.length co) (.slice an zss.length cn) (.slice ap P.length cp)) := by rw [hw1]; exact Box3.new _ _ _ _ _
  have HO := Lib.hid (h1.below B1.out)
  have HZ := Lib.hid (h2.below B1.out)
  have hzl : zss.length = O.length := hA.2.2.1
  have HA := Lib.hid hA
  have HL := Lib.hid hl
  have HZL := Lib.hid hzl
  have t0 := T1.out.c0
  have t1 := T1.out.c1
  have t2 := T1.out.c2
  have HRR := Lib.hid hr
  clear hr
  clear hw1 h1 h2 h3 hA hl hzl
  go_enter Try.func65, Try.ntmps65
  go_wp2
  rw [← HW1.out]
  go_loopw [3, 4] (fun nv iv wr => ∃ k : Nat, k ≤ O.length ∧ nv = .int .i64 (repK O zss k) ∧ iv = .int .i64 k ∧ Hid (repK O zss k ≤ 4096) ∧ w1 = wr) (fun _ iv _ => O.length - (intOf iv).toNat)
  case atStart => exact ⟨0, Nat.zero_le _, rfl, rfl, (by rw [Hid, repK]; decide), rfl⟩
  case round =>
    obtain ⟨k, hk, rfl, rfl, HS, rfl⟩ := hrel
    by_cases hlt : k < O.length
    · have hi1 : (k : Int) < P.length := by have := HL.out; omega
      have hi2 : (k : Int) < O.length := by omega
      have hi3 : (k : Int) < zss.length := by have := HZL.out; omega
      have hk0 : (0 : Int) ≤ (k : Int) := by omega
      have hkz : k < zss.length := by omega
      obtain ⟨ob, oo, hoa, hoc⟩ := HO.out.cell (by omega)
      obtain ⟨zb, zo, hza, hzc⟩ := HZ.out.cell (by omega)
      have o1 := hoc k hlt
      have z1 := hzc k hkz
      subst hoa
      subst hza
      clear hoc hzc
      obtain ⟨n, hn⟩ : ∃ n, n = repK O zss k := ⟨_, rfl⟩
      obtain ⟨m, hm⟩ : ∃ m, m = ((row zss k).length : Int) := ⟨_, rfl⟩
      have hb := rep_fits HA.out h12 hk
      have hb1 := rep_fits HA.out h12 (k := k + 1) (by omega)
      have HY := Lib.hid (repK_yes (O := O) (zss := zss) (k := k))
      have HN := Lib.hid (repK_no (O := O) (zss := zss) (k := k))
      rw [← hn] at hb HY HN ⊢
      rw [← hm] at HY
      obtain ⟨p, hp⟩ : ∃ p, p = repK O zss (k + 1) := ⟨_, rfl⟩
      rw [← hp] at hb1 HY HN
      have HP := Lib.hid hp
      have HM := Lib.hid hm
      obtain ⟨x, hx⟩ : ∃ x, x = nth O k := ⟨_, rfl⟩
      rw [← hx] at o1 HY HN
      have hlen : (row zss k).length ≤ 17592186044416 := (HZ.out.rows k hkz).len
      have HMO := Lib.hid (repK_mono HA.out (j := k + 1) (k := O.length) (by omega) (Nat.le_refl _))
      clear hn hm hp hx
      by_cases hx1 : x = 1
      · have heq : (x == 1) = true := by simpa using hx1
        have he := HY.out hx1
        have hwr : IntKind.i64.wrap (n * m) = p := by rw [← he, IntKind.wrap_i64]; omega
        have hmz : ((row zss k).length : Int) = m := HM.out.symm
        rw [show (row zss k).length = m.toNat by omega] at z1
        have hm0 : 0 ≤ m := by omega
        obtain ⟨q, rfl⟩ : ∃ q : Nat, m = (q : Int) := ⟨m.toNat, by omega⟩
        rw [Int.toNat_natCast] at z1
        clear he hx1 hmz hm0
        by_cases h4 : p ≤ 4096
        · have h4' : ¬ (4096 < p) := by omega
          have H4 : Hid (repK O zss (k + 1) ≤ 4096) := by rw [Hid, ← HP.out]; exact h4
          go_wp2
          go_roundw
          case rel => exact ⟨k + 1, by omega, by rw [← HP.out], by go_num, H4, by first | rfl | trivial⟩
          case measure => simp [intOf]; omega
        · have h4' : 4096 < p := by omega
          have HE : Hid ((-1 : Int) = r) := by
            have h5 := HMO.out
            rw [← HP.out] at h5
            rw [← HRR.out, if_neg (by omega)]
            exact rfl
          go_wp2
          go_ret
          exact ⟨ret_i64 HE.out, B1.out⟩
      · have heq : (x == 1) = false := by simpa using hx1
        have he := HN.out hx1
        clear hx1
        subst he
        by_cases h4 : p ≤ 4096
        · have h4' : ¬ (4096 < p) := by omega
          have H4 : Hid (repK O zss (k + 1) ≤ 4096) := by rw [Hid, ← HP.out]; exact h4
          go_wp2
          go_roundw
          case rel => exact ⟨k + 1, by omega, by rw [← HP.out], by go_num, H4, by first | rfl | trivial⟩
          case measure => simp [intOf]; omega
        · have h4' : 4096 < p := by omega
          have HE : Hid ((-1 : Int) = r) := by
            have h5 := HMO.out
            rw [← HP.out] at h5
            rw [← HRR.out, if_neg (by omega)]
            exact rfl
          go_wp2
          go_ret
          exact ⟨ret_i64 HE.out, B1.out⟩
    · have hi1 : ¬ (k : Int) < P.length := by have := HL.out; omega
      have hkk : k = O.length := by omega
      have HE : Hid (repK O zss k = r) := by
        have h5 := HS.out
        rw [hkk] at h5 ⊢
        rw [← HRR.out, if_pos h5]
        exact rfl
      clear hkk
      go_wp2
      go_ret
      exact ⟨ret_i64 HE.out, B1.out⟩

set_option linter.unusedSimpArgs false in
set_option maxRecDepth 100000 in
set_option maxHeartbeats 8000000 in
theorem specRepliesIn_is {w : World} {v : Value} {O P : List Int} {zss : List (List Int)} {r : Int} (hr : repliesV O zss P = r) (h : GameAt w v O zss P) :
    Calls Try.prog 35 #[v] w fun e w' => e = .returned (.int .i64 r) ∧ Below w.heap.size w w' := by
  have HGm := Lib.hid h
  obtain ⟨ao, an, ap, co, cn, cp, A, C, rfl, h1, h2, h3⟩ := h
  obtain ⟨w1, hw1⟩ : ∃ y, y = w.alloc (.cells #[.slice ao O.length co, .slice an zss.length cn, .slice ap P.length cp] 32) := ⟨_, rfl⟩
  have HW1 := Lib.hid hw1
  have B1 : Hid (Below w.heap.size w w1) := by rw [hw1]; exact below1 _ _
  have T1 : Hid (Box3 w1 w.heap.size 32 (.slice ao O.length co) (.slice an zss.length cn) (.slice ap P.length cp)) := by rw [hw1]; exact Box3.new _ _ _ _ _
  have t0 := T1.out.c0
  have t1 := T1.out.c1
  have t2 := T1.out.c2
  have HS := Lib.hid (l8Small_is rfl (HGm.out.below B1.out))
  clear h1 h2 h3
  cases hs : smallB O zss P with
  | false =>
    rw [hs] at HS
    have HE : Hid (r = -1) := by rw [← hr]; exact replies_small hs
    clear hr hw1
    go_enter Try.func35, Try.ntmps35
    go_wp2_with fail
    rw [← HW1.out]
    go_wp2_with fail
    refine HS.out.mono ?_
    rintro e w2 ⟨rfl, hb⟩
    have B2 := Lib.hid (B1.out.trans (hb.mono B1.out.size))
    have T2 := Lib.hid (T1.out.below hb)
    clear hb HS t0 t1 t2
    have t0 := T2.out.c0
    have t1 := T2.out.c1
    have t2 := T2.out.c2
    go_wp2
    go_ret
    exact ⟨ret_i64 HE.out.symm, B2.out⟩
  | true =>
    rw [hs] at HS
    obtain ⟨h12', hpar⟩ := smallB_iff.1 hs
    obtain ⟨hA, hlP, _⟩ := parityB_iff.1 hpar
    have h12 : O.length ≤ 12 := by omega
    have HA := Lib.hid hA
    have HLP := Lib.hid hlP
    have HH := Lib.hid h12
    have HE : Hid ((if repK O zss O.length ≤ 4096 then repK O zss O.length else -1) = r) := by
      rw [← hr]
      by_cases h4 : repK O zss O.length ≤ 4096
      · rw [if_pos h4, replies_yes hs h4]; exact rfl
      · rw [if_neg h4, replies_many h4]; exact rfl
    clear hr hw1 hA hlP h12
    go_enter Try.func35, Try.ntmps35
    go_wp2_with fail
    rw [← HW1.out]
    go_wp2_with fail
    refine HS.out.mono ?_
    rintro e w2 ⟨rfl, hb⟩
    have B2 := Lib.hid (B1.out.trans (hb.mono B1.out.size))
    have T2 := Lib.hid (T1.out.below hb)
    clear hb HS t0 t1 t2
    have t0 := T2.out.c0
    have t1 := T2.out.c1
    have t2 := T2.out.c2
    go_wp2_with fail
    refine (l10Replies_is HE.out HA.out HLP.out HH.out (HGm.out.below B2.out)).mono ?_
    rintro e w3 ⟨rfl, hb⟩
    have B3 := Lib.hid (B2.out.trans (hb.mono B2.out.size))
    have T3 := Lib.hid (T2.out.below hb)
    clear hb t0 t1 t2
    have t0 := T3.out.c0
    have t1 := T3.out.c1
    have t2 := T3.out.c2
    go_wp2
    go_ret
    exact ⟨rfl, B3.out⟩
end
end Go.Proofs.Ytihaajcmephlmaa
