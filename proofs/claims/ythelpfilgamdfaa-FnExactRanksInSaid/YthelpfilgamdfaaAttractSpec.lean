/-
  Contracts: the model's ranks, attractors and traps.
-/
import Derived.Test.YthelpfilgamdfaaRank
import Derived.Test.YthelpfilgamdfaaReachSpec
import Derived.Test.YthelpfilgamdfaaLoops
import Derived.Test.YthelpfilgamdfaaSame
import Derived.Test.YthelpfilgamdfaaWalk
namespace Go.Proofs.Ythelpfilgamdfaa
open Go.RowKit

theorem l1Max_is {x y r : Int} (hr : (if x < y then y else x) = r) (w : World) : Calls Try.prog 103 #[.int .i64 x, .int .i64 y] w fun e w' => e = .returned (.int .i64 r) ∧ w = w' := by
  by_cases h : y < x
  · have hE : Hid (r = x) := by rw [← hr, if_neg (by omega)]; rfl
    clear hr
    go_enter Try.func103, Try.ntmps103
    go_wp2
    go_ret
    exact ⟨by rw [hE.out]; rfl, rfl⟩
  · have hE : Hid (r = y) := by
      rw [← hr]; unfold Hid
      split <;> omega
    clear hr
    go_enter Try.func103, Try.ntmps103
    go_wp2
    go_ret
    exact ⟨by rw [hE.out]; rfl, rfl⟩

/-- Are the arena, the player and the set valid? -/
noncomputable def okB (O : List Int) (zss : List (List Int)) (who : Int) (S : List Int) : Bool := arenaB O zss && (inB who 0 1 && setB O.length S)

set_option maxHeartbeats 2000000 in
theorem l3Ok_is {w : World} {va : Value} {O : List Int} {zss : List (List Int)} {n0 : Int} {aS : Option Addr} {S : List Int} {r : Bool} (cS : Nat) (hr : okB O zss n0 S = r) (h : ArenaAt w va O zss) (hS : IntsAt w aS S) :
    Calls Try.prog 46 #[va, .int .i64 n0, .slice aS S.length cS] w fun e w' => e = .returned (.bool r) ∧ Below w.heap.size w w' := by
  have HAt := Lib.hid h
  have HSi := Lib.hid hS
  obtain ⟨ao, an, co, cn, A, C, rfl, h1, h2⟩ := h
  have hlO := h1.len
  clear h1 h2 hS
  have BW := Lib.hid (below1 w (.cells #[.slice ao O.length co, .slice an zss.length cn] 30))
  have bW := Lib.hid (Box2.new w 30 (.slice ao O.length co) (.slice an zss.length cn))
  cases hA : arenaB O zss with
  | false =>
    have HE : Hid (r = false) := by rw [← hr]; simp [okB, hA, Hid]
    have HC := Lib.hid (specArenaOk_at hA (HAt.out.below BW.out))
    clear hA hr
    go_enter Try.func46, Try.ntmps46
    go_wp2_with (go_at_call 75; refine HC.out.mono ?_; rintro e w1 ⟨rfl, hb⟩; have B1 := Lib.hid (BW.out.trans (hb.mono BW.out.size)); clear hb)
    go_ret
    exact ⟨by rw [HE.out]; rfl, B1.out⟩
  | true =>
    have HC := Lib.hid (specArenaOk_at hA (HAt.out.below BW.out))
    cases hW : inB n0 0 1 with
    | false =>
      have HE : Hid (r = false) := by rw [← hr]; simp [okB, hA, hW, Hid]
      have HIn := Lib.hid (fun W : World => l1In_is hW W)
      clear hA hr hW
      go_enter Try.func46, Try.ntmps46
      go_wp2_with (first
        | (go_at_call 75; refine HC.out.mono ?_; rintro e w1 ⟨rfl, hb⟩; have B1 := Lib.hid (BW.out.trans (hb.mono BW.out.size)); clear hb)
        | (go_at_call 76; refine (HIn.out _).mono ?_; rintro e w2 ⟨rfl, rfl⟩))
      go_ret
      exact ⟨by rw [HE.out]; rfl, B1.out⟩
    | true =>
      have HE : Hid (setB O.length S = r) := by rw [← hr]; simp [okB, hA, hW, Hid]
      have HIn := Lib.hid (fun W : World => l1In_is hW W)
      have hO256 : O.length ≤ 256 := (arenaB_iff.1 hA).2.1
      clear hA hr hW
      go_enter Try.func46, Try.ntmps46
      go_wp2_with (first
        | (go_at_call 75; refine HC.out.mono ?_; rintro e w1 ⟨rfl, hb⟩; have B1 := Lib.hid (BW.out.trans (hb.mono BW.out.size)); have c0 := (bW.out.below hb).cell0; clear hb)
        | (go_at_call 76; refine (HIn.out _).mono ?_; rintro e w2 ⟨rfl, rfl⟩)
        | (go_at_call 77; refine (l1Set_is HE.out cS _ (HSi.out.below B1.out) (Int.natCast_nonneg _) (by omega)).mono ?_; rintro e w3 ⟨rfl, hq⟩; have B3 := Lib.hid (below_same B1.out hq); clear hq))
      go_ret
      exact ⟨rfl, B3.out⟩

theorem drop_cons {zs : List Int} {k : Nat} (h : k < zs.length) : zs.drop k = nth zs k :: zs.drop (k + 1) := by
  rw [nth_eq h]; exact List.drop_eq_getElem_cons h

set_option maxHeartbeats 4000000 in
set_option maxRecDepth 100000 in
theorem l3Rank_is {w : World} {va : Value} {O : List Int} {zss : List (List Int)} {n0 r : Int} {aR : Option Addr} {rkl : List Int} {bI N v : Nat} {I : Nat → Bool} (cR : Nat)
    (hr : rkF (ownB O n0 v) I (nth rkl) (-1) (-1) (row zss v) = r) (h : ArenaAt w va O zss) (hO : O.length = N) (hz : zss.length = N) (hI : w.rowIs bI 4 N (marksV I)) (hR : IntsAt w aR rkl) (hRl : rkl.length = N)
    (hin : ∀ u : Nat, u < N → ∀ x ∈ row zss u, ∃ v : Nat, x = (v : Int) ∧ v < N) (hv : v < N) (hb : ∀ u, u < N → -1 ≤ nth rkl u ∧ nth rkl u ≤ 1048576) :
    Calls Try.prog 83 #[va, .int .i64 n0, .slice (some ⟨bI, 0, none⟩) N N, .slice aR rkl.length cR, .int .i64 v] w fun e w' => e = .returned (.int .i64 r) ∧ Below w.heap.size w w' := by
  obtain ⟨ao, an, co, cn, A, C, rfl, h1, h2⟩ := h
  have hlO := h1.len
  have hlN := h2.len
  obtain ⟨ob, oo, hoa, hoc⟩ := h1.cell (by omega)
  obtain ⟨nb, no, hna, hnc⟩ := h2.cell (by omega)
  obtain ⟨rb, ro, hra, hrc⟩ := hR.cell (by omega)
  subst hoa
  subst hna
  subst hra
  have o0 := hoc v (by omega)
  have n0' := hnc v (by omega)
  have hrows := h2.rows v (by omega)
  have hrl : (row zss v).length ≤ 17592186044416 := hrows.len
  have hnat := hin v hv
  obtain ⟨xs, hxs⟩ : ∃ xs, xs = row zss v := ⟨_, rfl⟩
  obtain ⟨own, hown⟩ : ∃ own, own = ownB O n0 v := ⟨_, rfl⟩
  have HOWN : Hid (own = decide (nth O v = n0)) := by rw [hown]; rfl
  rw [← hown, ← hxs] at hr
  rw [← hxs] at hrows hrl hnat n0'
  have HX := Lib.hid hr
  have HN := Lib.hid hnat
  have HRW := Lib.hid hrows
  have HMI := Lib.hid hI
  have HRC := Lib.hid (fun u (hu : u < N) => hrc u (by omega))
  have HB := Lib.hid hb
  have B1 := Lib.hid (below1 w (.cells #[.slice (some ⟨ob, oo, none⟩) O.length co, .slice (some ⟨nb, no, none⟩) zss.length cn] 30))
  obtain ⟨w1, hw1⟩ : ∃ y, y = w.alloc (.cells #[.slice (some ⟨ob, oo, none⟩) O.length co, .slice (some ⟨nb, no, none⟩) zss.length cn] 30) := ⟨_, rfl⟩
  have HW1 := Lib.hid hw1
  have T1 : Hid (Box2 w1 w.heap.size 30 (.slice (some ⟨ob, oo, none⟩) O.length co) (.slice (some ⟨nb, no, none⟩) zss.length cn)) := by rw [hw1]; exact Box2.new _ _ _ _
  rw [← hw1] at B1
  have t0 := T1.out.cell0
  have t1 := T1.out.cell1
  have o1 := (B1.out.cell (World.block_lt_of_cell? _ _ o0)).trans o0
  have n1 := (B1.out.cell (World.block_lt_of_cell? _ _ n0')).trans n0'
  have HRC1 := Lib.hid (fun u (hu : u < N) => (B1.out.cell (World.block_lt_of_cell? _ _ (HRC.out u hu))).trans (HRC.out u hu))
  have HMI1 := Lib.hid (rowIs_below HMI.out B1.out)
  have HRW1 := Lib.hid (HRW.out.below B1.out)
  have hvO : (v : Int) < O.length := by omega
  have hvz : (v : Int) < zss.length := by omega
  have hv0 : (0 : Int) ≤ (v : Int) := by omega
  have HRL := Lib.hid hRl
  clear hO hz hRl hr hnat hrows hI hrc hb hoc hnc o0 n0' h1 h2 hR hw1 hown hxs HRC HMI HRW
  go_enter Try.func83, Try.ntmps83
  go_wp2
  rw [← HW1.out]
  go_loopw [11, 12, 13] (fun lv mv iv wr => ∃ (k : Nat) (l m : Int), k ≤ xs.length ∧ iv = .int .i64 k ∧ lv = .int .i64 l ∧ mv = .int .i64 m ∧ -1 ≤ l ∧ l ≤ 1048576 ∧ -1 ≤ m ∧ m ≤ 1048576 ∧ Hid (rkF own I (nth rkl) l m (xs.drop k) = r) ∧ w1 = wr) (fun _ _ iv _ => xs.length - (intOf iv).toNat)
  case atStart => exact ⟨0, -1, -1, Nat.zero_le _, rfl, rfl, rfl, by omega, by omega, by omega, by omega, by rw [List.drop_zero]; exact HX, rfl⟩
  case round =>
    obtain ⟨k, l, m, hk, rfl, rfl, rfl, hl0, hl1, hm0, hm1, HK, rfl⟩ := hrel
    by_cases hlt : k < xs.length
    · have hi1 : (k : Int) < xs.length := by omega
      have hk0 : (0 : Int) ≤ (k : Int) := by omega
      obtain ⟨sb, so, hsa, hsc⟩ := HRW1.out.cell (by omega)
      have s1 := hsc k hlt
      obtain ⟨u, hu, hul⟩ := HN.out _ (nth_mem hlt)
      rw [hu] at s1
      have HD : Hid (xs.drop k = (u : Int) :: xs.drop (k + 1)) := by rw [← hu]; exact drop_cons hlt
      rw [hsa] at n1
      have i1 := HMI1.out.cell hul
      have r1 := HRC1.out u hul
      obtain ⟨b0, b1⟩ := HB.out u hul
      obtain ⟨q, hq⟩ : ∃ q, q = nth rkl u := ⟨_, rfl⟩
      rw [← hq] at r1 b0 b1
      have hu0 : (0 : Int) ≤ (u : Int) := by omega
      have huN : (u : Int) < N := by omega
      have hur : (u : Int) < rkl.length := by have := HRL.out; omega
      have HK2 := HK.out
      rw [HD.out, rkF, Int.toNat_natCast, ← hq] at HK2
      clear hsc hu hsa hq
      cases hIu : I u with
      | false =>
        rw [marksV, hIu] at i1
        rw [if_pos hIu] at HK2
        have HK3 := Lib.hid HK2
        clear HK2 hIu
        go_wp2
        go_roundw
        case rel => exact ⟨k + 1, l, m, by omega, by go_num, rfl, rfl, hl0, hl1, hm0, hm1, HK3, by first | rfl | trivial⟩
        case measure => simp [intOf]; omega
      | true =>
        rw [marksV, hIu] at i1
        rw [if_neg (by rw [hIu]; simp)] at HK2
        clear hIu
        by_cases hq0 : q < 0
        · have hq1 : ¬ 0 ≤ q := by omega
          cases own with
          | false =>
            rw [if_pos ⟨hq0, rfl⟩] at HK2
            have HE := Lib.hid HK2
            have hne : (nth O v != n0) = true := by
              have h := of_decide_eq_false HOWN.out.symm
              simpa using h
            clear HK2
            go_wp2
            go_ret
            exact ⟨by rw [← HE.out]; rfl, B1.out⟩
          | true =>
            rw [if_neg (by simp), if_neg hq1] at HK2
            have HK3 := Lib.hid HK2
            have hne : (nth O v != n0) = false := by
              have h := of_decide_eq_true HOWN.out.symm
              simpa using h
            clear HK2
            go_wp2
            go_roundw
            case rel => exact ⟨k + 1, l, m, by omega, by go_num, rfl, rfl, hl0, hl1, hm0, hm1, HK3, by first | rfl | trivial⟩
            case measure => simp [intOf]; omega
        · have hq1 : 0 ≤ q := by omega
          rw [if_neg (fun h => hq0 h.1), if_pos hq1] at HK2
          obtain ⟨m', hm'⟩ : ∃ m', (if m < q then q else m) = m' := ⟨_, rfl⟩
          have HMX := Lib.hid (fun W : World => l1Max_is hm' W)
          have hm2 : -1 ≤ m' ∧ m' ≤ 1048576 := by rw [← hm']; split <;> omega
          obtain ⟨hm3, hm4⟩ := hm2
          rw [hm'] at HK2
          clear hm'
          by_cases hl : l < 0
          · rw [if_pos (.inl hl)] at HK2
            have HK3 := Lib.hid HK2
            clear HK2
            go_wp2_with (go_at_call 103; refine (HMX.out _).mono ?_; rintro e w' ⟨rfl, rfl⟩)
            go_roundw
            case rel => exact ⟨k + 1, q, m', by omega, by go_num, rfl, rfl, by omega, by omega, hm3, hm4, HK3, by first | rfl | trivial⟩
            case measure => simp [intOf]; omega
          · by_cases hql : q < l
            · rw [if_pos (.inr hql)] at HK2
              have HK3 := Lib.hid HK2
              clear HK2
              go_wp2_with (go_at_call 103; refine (HMX.out _).mono ?_; rintro e w' ⟨rfl, rfl⟩)
              go_roundw
              case rel => exact ⟨k + 1, q, m', by omega, by go_num, rfl, rfl, by omega, by omega, hm3, hm4, HK3, by first | rfl | trivial⟩
              case measure => simp [intOf]; omega
            · rw [if_neg (by omega)] at HK2
              have HK3 := Lib.hid HK2
              clear HK2
              go_wp2_with (go_at_call 103; refine (HMX.out _).mono ?_; rintro e w' ⟨rfl, rfl⟩)
              go_roundw
              case rel => exact ⟨k + 1, l, m', by omega, by go_num, rfl, rfl, by omega, by omega, hm3, hm4, HK3, by first | rfl | trivial⟩
              case measure => simp [intOf]; omega
    · have hi1 : ¬ (k : Int) < xs.length := by omega
      have hkk : k = xs.length := by omega
      have HK2 := HK.out
      rw [hkk, List.drop_length, rkF] at HK2
      clear hkk
      by_cases hl : l < 0
      · rw [if_pos hl] at HK2
        have HE := Lib.hid HK2
        clear HK2
        go_wp2
        go_ret
        exact ⟨by rw [← HE.out]; rfl, B1.out⟩
      · rw [if_neg hl] at HK2
        cases own with
        | true =>
          rw [if_pos rfl] at HK2
          have HE := Lib.hid HK2
          have hne : (nth O v == n0) = true := by
            have h := of_decide_eq_true HOWN.out.symm
            simpa using h
          clear HK2
          go_wp2
          go_ret
          exact ⟨by rw [← HE.out]; go_num, B1.out⟩
        | false =>
          rw [if_neg (by simp)] at HK2
          have HE := Lib.hid HK2
          have hne : (nth O v == n0) = false := by
            have h := of_decide_eq_false HOWN.out.symm
            simpa using h
          clear HK2
          go_wp2
          go_ret
          exact ⟨by rw [← HE.out]; go_num, B1.out⟩

end Go.Proofs.Ythelpfilgamdfaa
