/-
  Contracts: the model's ranks, attractors and traps.
-/
import Derived.Test.YtokcinhopajniaaGreatDoorZielonka
import Derived.Test.YtokcinhopajniaaGreatDoorWalks1
import Derived.Test.YtokcinhopajniaaGreatDoorLoops
import Derived.Test.YtokcinhopajniaaGreatDoorSame
import Derived.Deep.RegionHeld3
import Derived.Test.YtokcinhopajniaaGreatDoorDraw1
import Derived.Maps.AppendAt
namespace Go.Proofs.YtokcinhopajniaaGreatDoor
section
section
open Go.RowKit

theorem l1Max_is {x y r : Int} (hr : (if x < y then y else x) = r) (w : World) : Calls Tryz.prog 59 #[.int .i64 x, .int .i64 y] w fun e w' => e = .returned (.int .i64 r) ∧ w = w' := by
  by_cases h : y < x
  · have hE : Hid (r = x) := by rw [← hr, if_neg (by omega)]; rfl
    clear hr
    go_enter Tryz.func59, Tryz.ntmps59
    go_wp2
    go_ret
    exact ⟨by rw [hE.out]; rfl, rfl⟩
  · have hE : Hid (r = y) := by
      rw [← hr]; unfold Hid
      split <;> omega
    clear hr
    go_enter Tryz.func59, Tryz.ntmps59
    go_wp2
    go_ret
    exact ⟨by rw [hE.out]; rfl, rfl⟩

/-- Are the arena, the player and the set valid? -/
noncomputable def okB (O : List Int) (zss : List (List Int)) (who : Int) (S : List Int) : Bool := arenaB O zss && (inB who 0 1 && setB O.length S)

theorem drop_cons {zs : List Int} {k : Nat} (h : k < zs.length) : zs.drop k = nth zs k :: zs.drop (k + 1) := by
  rw [nth_eq h]; exact List.drop_eq_getElem_cons h

set_option maxHeartbeats 4000000 in
set_option maxRecDepth 100000 in
theorem l3Rank_is {w : World} {va : Value} {O : List Int} {zss : List (List Int)} {n0 r : Int} {aR : Option Addr} {rkl : List Int} {bI N v : Nat} {I : Nat → Bool} (cR : Nat)
    (hr : rkF (ownB O n0 v) I (nth rkl) (-1) (-1) (row zss v) = r) (h : ArenaAt w va O zss) (hO : O.length = N) (hz : zss.length = N) (hI : w.rowIs bI 4 N (marksV I)) (hR : IntsAt w aR rkl) (hRl : rkl.length = N)
    (hin : ∀ u : Nat, u < N → ∀ x ∈ row zss u, ∃ v : Nat, x = (v : Int) ∧ v < N) (hv : v < N) (hb : ∀ u, u < N → -1 ≤ nth rkl u ∧ nth rkl u ≤ 1048576) :
    Calls Tryz.prog 157 #[va, .int .i64 n0, .slice (some ⟨bI, 0, none⟩) N N, .slice aR rkl.length cR, .int .i64 v] w fun e w' => e = .returned (.int .i64 r) ∧ Below w.heap.size w w' := by
  obtain ⟨ao, an, co, cn, A, C, rfl, h1, h2⟩ := h
  have hlO := h1.len
  have hlN := h2.len
  obtain ⟨ob, oo, hoa, hoc⟩ := h1.cell (by omega)
  obtain ⟨nb, no, hna, hnc⟩ := h2.cell (by omega)
  obtain ⟨rb, ro, hra, hrc⟩ := hR.cell (by omega)
  subst hoa
  subst hna
  subst hra
  have o0 := hoc v (by omega)
  have n0' := hnc v (by omega)
  have hrows := h2.rows v (by omega)
  have hrl : (row zss v).length ≤ 17592186044416 := hrows.len
  have hnat := hin v hv
  obtain ⟨xs, hxs⟩ : ∃ xs, xs = row zss v := ⟨_, rfl⟩
  obtain ⟨own, hown⟩ : ∃ own, own = ownB O n0 v := ⟨_, rfl⟩
  have HOWN : Hid (own = decide (nth O v = n0)) := by rw [hown]; rfl
  rw [← hown, ← hxs] at hr
  rw [← hxs] at hrows hrl hnat n0'
  have HX := Lib.hid hr
  have HN := Lib.hid hnat
  have HRW := Lib.hid hrows
  have HMI := Lib.hid hI
  have HRC := Lib.hid (fun u (hu : u < N) => hrc u (by omega))
  have HB := Lib.hid hb
  have B1 := Lib.hid (below1 w (.cells #[.slice (some ⟨ob, oo, none⟩) O.length co, .slice (some ⟨nb, no, none⟩) zss.length cn] 30))
  obtain ⟨w1, hw1⟩ : ∃ y, y = w.alloc (.cells #[.slice (some ⟨ob, oo, none⟩) O.length co, .slice (some ⟨nb, no, none⟩) zss.length cn] 30) := ⟨_, rfl⟩
  have HW1 := Lib.hid hw1
  have T1 : Hid (Box2 w1 w.heap.size 30 (.slice (some ⟨ob, oo, none⟩) O.length co) (.slice (some ⟨nb, no, none⟩) zss.length cn)) := by rw [hw1]; exact Box2.new _ _ _ _
  rw [← hw1] at B1
  have t0 := T1.out.cell0
  have t1 := T1.out.cell1
  have o1 := (B1.out.cell (World.block_lt_of_cell? _ _ o0)).trans o0
  have n1 := (B1.out.cell (World.block_lt_of_cell? _ _ n0')).trans n0'
  have HRC1 := Lib.hid (fun u (hu : u < N) => (B1.out.cell (World.block_lt_of_cell? _ _ (HRC.out u hu))).trans (HRC.out u hu))
  have HMI1 := Lib.hid (rowIs_below HMI.out B1.out)
  have HRW1 := Lib.hid (HRW.out.below B1.out)
  have hvO : (v : Int) < O.length := by omega
  have hvz : (v : Int) < zss.length := by omega
  have hv0 : (0 : Int) ≤ (v : Int) := by omega
  have HRL := Lib.hid hRl
  clear hO hz hRl hr hnat hrows hI hrc hb hoc hnc o0 n0' h1 h2 hR hw1 hown hxs HRC HMI HRW
  go_enter Tryz.func157, Tryz.ntmps157
  go_wp2
  rw [← HW1.out]
  go_loopw [11, 12, 13] (fun lv mv iv wr => ∃ (k : Nat) (l m : Int), k ≤ xs.length ∧ iv = .int .i64 k ∧ lv = .int .i64 l ∧ mv = .int .i64 m ∧ -1 ≤ l ∧ l ≤ 1048576 ∧ -1 ≤ m ∧ m ≤ 1048576 ∧ Hid (rkF own I (nth rkl) l m (xs.drop k) = r) ∧ w1 = wr) (fun _ _ iv _ => xs.length - (intOf iv).toNat)
  case atStart => exact ⟨0, -1, -1, Nat.zero_le _, rfl, rfl, rfl, by omega, by omega, by omega, by omega, by rw [List.drop_zero]; exact HX, rfl⟩
  case round =>
    obtain ⟨k, l, m, hk, rfl, rfl, rfl, hl0, hl1, hm0, hm1, HK, rfl⟩ := hrel
    by_cases hlt : k < xs.length
    · have hi1 : (k : Int) < xs.length := by omega
      have hk0 : (0 : Int) ≤ (k : Int) := by omega
      obtain ⟨sb, so, hsa, hsc⟩ := HRW1.out.cell (by omega)
      have s1 := hsc k hlt
      obtain ⟨u, hu, hul⟩ := HN.out _ (nth_mem hlt)
      rw [hu] at s1
      have HD : Hid (xs.drop k = (u : Int) :: xs.drop (k + 1)) := by rw [← hu]; exact drop_cons hlt
      rw [hsa] at n1
      have i1 := HMI1.out.cell hul
      have r1 := HRC1.out u hul
      obtain ⟨b0, b1⟩ := HB.out u hul
      obtain ⟨q, hq⟩ : ∃ q, q = nth rkl u := ⟨_, rfl⟩
      rw [← hq] at r1 b0 b1
      have hu0 : (0 : Int) ≤ (u : Int) := by omega
      have huN : (u : Int) < N := by omega
      have hur : (u : Int) < rkl.length := by have := HRL.out; omega
      have HK2 := HK.out
      rw [HD.out, rkF, Int.toNat_natCast, ← hq] at HK2
      clear hsc hu hsa hq
      cases hIu : I u with
      | false =>
        rw [marksV, hIu] at i1
        rw [if_pos hIu] at HK2
        have HK3 := Lib.hid HK2
        clear HK2 hIu
        go_wp2
        go_roundw
        case rel => exact ⟨k + 1, l, m, by omega, by go_num, rfl, rfl, hl0, hl1, hm0, hm1, HK3, by first | rfl | trivial⟩
        case measure => simp [intOf]; omega
      | true =>
        rw [marksV, hIu] at i1
        rw [if_neg (by rw [hIu]; simp)] at HK2
        clear hIu
        by_cases hq0 : q < 0
        · have hq1 : ¬ 0 ≤ q := by omega
          cases own with
          | false =>
            rw [if_pos ⟨hq0, rfl⟩] at HK2
            have HE := Lib.hid HK2
            have hne : (nth O v != n0) = true := by
              have h := of_decide_eq_false HOWN.out.symm
              simpa using h
            clear HK2
            go_wp2
            go_ret
            exact ⟨by rw [← HE.out]; rfl, B1.out⟩
          | true =>
            rw [if_neg (by simp), if_neg hq1] at HK2
            have HK3 := Lib.hid HK2
            have hne : (nth O v != n0) = false := by
              have h := of_decide_eq_true HOWN.out.symm
              simpa using h
            clear HK2
            go_wp2
            go_roundw
            case rel => exact ⟨k + 1, l, m, by omega, by go_num, rfl, rfl, hl0, hl1, hm0, hm1, HK3, by first | rfl | trivial⟩
            case measure => simp [intOf]; omega
        · have hq1 : 0 ≤ q := by omega
          rw [if_neg (fun h => hq0 h.1), if_pos hq1] at HK2
          obtain ⟨m', hm'⟩ : ∃ m', (if m < q then q else m) = m' := ⟨_, rfl⟩
          have HMX := Lib.hid (fun W : World => l1Max_is hm' W)
          have hm2 : -1 ≤ m' ∧ m' ≤ 1048576 := by rw [← hm']; split <;> omega
          obtain ⟨hm3, hm4⟩ := hm2
          rw [hm'] at HK2
          clear hm'
          by_cases hl : l < 0
          · rw [if_pos (.inl hl)] at HK2
            have HK3 := Lib.hid HK2
            clear HK2
            go_wp2_with (go_at_call 59; refine (HMX.out _).mono ?_; rintro e w' ⟨rfl, rfl⟩)
            go_roundw
            case rel => exact ⟨k + 1, q, m', by omega, by go_num, rfl, rfl, by omega, by omega, hm3, hm4, HK3, by first | rfl | trivial⟩
            case measure => simp [intOf]; omega
          · by_cases hql : q < l
            · rw [if_pos (.inr hql)] at HK2
              have HK3 := Lib.hid HK2
              clear HK2
              go_wp2_with (go_at_call 59; refine (HMX.out _).mono ?_; rintro e w' ⟨rfl, rfl⟩)
              go_roundw
              case rel => exact ⟨k + 1, q, m', by omega, by go_num, rfl, rfl, by omega, by omega, hm3, hm4, HK3, by first | rfl | trivial⟩
              case measure => simp [intOf]; omega
            · rw [if_neg (by omega)] at HK2
              have HK3 := Lib.hid HK2
              clear HK2
              go_wp2_with (go_at_call 59; refine (HMX.out _).mono ?_; rintro e w' ⟨rfl, rfl⟩)
              go_roundw
              case rel => exact ⟨k + 1, l, m', by omega, by go_num, rfl, rfl, by omega, by omega, hm3, hm4, HK3, by first | rfl | trivial⟩
              case measure => simp [intOf]; omega
    · have hi1 : ¬ (k : Int) < xs.length := by omega
      have hkk : k = xs.length := by omega
      have HK2 := HK.out
      rw [hkk, List.drop_length, rkF] at HK2
      clear hkk
      by_cases hl : l < 0
      · rw [if_pos hl] at HK2
        have HE := Lib.hid HK2
        clear HK2
        go_wp2
        go_ret
        exact ⟨by rw [← HE.out]; rfl, B1.out⟩
      · rw [if_neg hl] at HK2
        cases own with
        | true =>
          rw [if_pos rfl] at HK2
          have HE := Lib.hid HK2
          have hne : (nth O v == n0) = true := by
            have h := of_decide_eq_true HOWN.out.symm
            simpa using h
          clear HK2
          go_wp2
          go_ret
          exact ⟨by rw [← HE.out]; go_num, B1.out⟩
        | false =>
          rw [if_neg (by simp)] at HK2
          have HE := Lib.hid HK2
          have hne : (nth O v == n0) = false := by
            have h := of_decide_eq_false HOWN.out.symm
            simpa using h
          clear HK2
          go_wp2
          go_ret
          exact ⟨by rw [← HE.out]; go_num, B1.out⟩
end

section
open Go.RowKit

theorem rkF_congr {own : Bool} {I : Nat → Bool} {rk rk' : Nat → Int} : ∀ (us : List Int) (l m : Int), (∀ u ∈ us, rk u.toNat = rk' u.toNat) → rkF own I rk l m us = rkF own I rk' l m us
  | [], _, _, _ => rfl
  | u :: us, l, m, h => by
    have hu := h u (by simp)
    have ht : ∀ x ∈ us, rk x.toNat = rk' x.toNat := fun x hx => h x (by simp [hx])
    rw [rkF, rkF, hu, rkF_congr us l m ht, rkF_congr us _ _ ht]

theorem box2_keep {S : Nat → Prop} {W W' : World} {g : Nat} {t : TypeId} {u v : Value} (h : Box2 W g t u v) (hk : Only S W W') (hs : ¬ S g) : Box2 W' g t u v := (hk.block _ h.lt hs).trans h

/-- The first ranks while the goal is read. -/
def goalF (I : Nat → Bool) (G : List Int) (k : Nat) : Nat → Int := fun u => if I u = true ∧ openS G k u = true then 0 else -1

theorem openS_at {S : List Int} {k u v : Nat} (hk : k < S.length) (hu : nth S k = (u : Int)) : openS S (k + 1) v = (if v = u then true else openS S k v) := by
  rw [openS_succ hk hu]; rfl

theorem goalF_succ {I : Nat → Bool} {G : List Int} {k u : Nat} (hk : k < G.length) (hu : nth G k = (u : Int)) (i : Nat) : goalF I G (k + 1) i = if i = u ∧ I u = true then 0 else goalF I G k i := by
  unfold goalF
  rw [openS_at hk hu]
  by_cases e : i = u
  · subst e
    by_cases hI : I i = true <;> simp [hI]
  · simp [e]

theorem rkK_zero {zss : List (List Int)} {O : List Int} {who : Int} {I : Nat → Bool} {G : List Int} (u : Nat) : goalF I G G.length u = rkK zss O who I (openS G G.length) 0 u := rfl

/-- The ranks while the next ones are given. -/
noncomputable def midF (zss : List (List Int)) (O : List Int) (who : Int) (In : List Int) (G : Nat → Bool) (j k : Nat) : Nat → Int :=
  fun u => if openS In k u = true then rkK zss O who (openS In In.length) G (j + 1) u else rkK zss O who (openS In In.length) G j u

theorem midF_zero {zss : List (List Int)} {O : List Int} {who : Int} {In : List Int} {G : Nat → Bool} {j u : Nat} : midF zss O who In G j 0 u = rkK zss O who (openS In In.length) G j u := by simp [midF, openS]
theorem midF_succ {zss : List (List Int)} {O : List Int} {who : Int} {In : List Int} {G : Nat → Bool} {j k u : Nat} (hk : k < In.length) (hu : nth In k = (u : Int)) (i : Nat) :
    midF zss O who In G j (k + 1) i = if i = u then rkK zss O who (openS In In.length) G (j + 1) u else midF zss O who In G j k i := by
  unfold midF
  rw [openS_at hk hu]
  by_cases e : i = u
  · subst e; simp
  · simp [e]
theorem midF_full {zss : List (List Int)} {O : List Int} {who : Int} {In : List Int} {G : Nat → Bool} {j u : Nat} : midF zss O who In G j In.length u = rkK zss O who (openS In In.length) G (j + 1) u := by
  unfold midF
  split
  · rfl
  · next h =>
    by_cases h0 : 0 ≤ rkK zss O who (openS In In.length) G j u
    · rw [rkK_old h0]
    · rw [rkK, if_neg h0, if_neg (fun hh => h hh.1)]
      have := (rkK_bound (zss := zss) (O := O) (who := who) (I := openS In In.length) (G := G) j u).1
      omega

theorem midF_keep {zss : List (List Int)} {O : List Int} {who : Int} {In : List Int} {G : Nat → Bool} {j k u : Nat} (hk : k < In.length) (hu : nth In k = (u : Int)) (h : rkK zss O who (openS In In.length) G (j + 1) u = rkK zss O who (openS In In.length) G j u) (i : Nat) :
    midF zss O who In G j k i = midF zss O who In G j (k + 1) i := by
  rw [midF_succ hk hu]
  by_cases e : i = u
  · subst e
    unfold midF
    split <;> simp [h]
  · simp [e]

theorem copyF_at {w : World} {B g cap n : Nat} {f : Nat → Int} (hn : 0 < n) (h : OwnF w B g cap n f) :
    Calls Tryz.prog 56 #[.slice (some ⟨g, 0, none⟩) n cap] w fun e w' => ∃ g2 cap2, e = .returned (.slice (some ⟨g2, 0, none⟩) n cap2) ∧ OwnF w' w.heap.size g2 cap2 n f ∧ Below w.heap.size w w' := by
  have hc := l1Copy_is cap h.ints
  rw [fnL_len] at hc
  refine hc.mono ?_
  rintro e w' ⟨v, rfl, hv, hb⟩
  obtain ⟨a, c, hs, -, hbk⟩ := hv.shape
  obtain ⟨g2, rfl, _⟩ := hbk (by rw [fnL_len]; exact hn)
  rw [fnL_len] at hs
  subst hs
  exact ⟨g2, c, rfl, hv, hb⟩

theorem sameF_at {w : World} {B B' g g' cap cap' n : Nat} {f f' : Nat → Int} {r : Bool} (hr : decide (fnL n f = fnL n f') = r) (h : OwnF w B g cap n f) (h' : OwnF w B' g' cap' n f') :
    Calls Tryz.prog 158 #[.slice (some ⟨g, 0, none⟩) n cap, .slice (some ⟨g', 0, none⟩) n cap'] w fun e w' => e = .returned (.bool r) ∧ ∃ q, w' = w.drewN q := by
  have hc := l1Same_is hr w cap cap' h.ints h'.ints
  rw [fnL_len, fnL_len] at hc
  exact hc

theorem rankF_at {w : World} {va : Value} {O : List Int} {zss : List (List Int)} {n0 : Int} {B g cap bI u j : Nat} {In : List Int} {G : Nat → Bool} (h : ArenaAt w va O zss) (hz : zss.length = O.length) (hO256 : O.length ≤ 256) (hI : w.rowIs bI 4 O.length (marksV (openS In In.length)))
    (hR : OwnF w B g cap O.length (rkK zss O n0 (openS In In.length) G j)) (hin : ∀ u : Nat, u < O.length → ∀ x ∈ row zss u, ∃ v : Nat, x = (v : Int) ∧ v < O.length) (hj : j ≤ O.length) (hu : u < O.length) :
    Calls Tryz.prog 157 #[va, .int .i64 n0, .slice (some ⟨bI, 0, none⟩) O.length O.length, .slice (some ⟨g, 0, none⟩) O.length cap, .int .i64 u] w fun e w' => e = .returned (.int .i64 (rkF (ownB O n0 u) (openS In In.length) (rkK zss O n0 (openS In In.length) G j) (-1) (-1) (row zss u))) ∧ Below w.heap.size w w' := by
  have hc := l3Rank_is (n0 := n0) (v := u) cap rfl h rfl hz hI hR.ints (fnL_len _ _) hin hu (fun x hx => by
    rw [fnL_nth hx]
    have := rkK_bound (zss := zss) (O := O) (who := n0) (I := openS In In.length) (G := G) j x
    omega)
  rw [fnL_len] at hc
  rw [rkF_congr (rk := nth (fnL O.length (rkK zss O n0 (openS In In.length) G j))) (rk' := rkK zss O n0 (openS In In.length) G j) (row zss u) (-1) (-1) (fun x hx => by
    obtain ⟨y, rfl, hy⟩ := hin u hu x hx
    rw [Int.toNat_natCast, fnL_nth hy])] at hc
  exact hc

set_option maxHeartbeats 8000000 in
set_option maxRecDepth 100000 in
theorem l3Ranks_is {w : World} {va : Value} {O : List Int} {zss : List (List Int)} {n0 : Int} {aI aG : Option Addr} {In G : List Int} (cI cG : Nat) (h : ArenaAt w va O zss) (hP : ArenaP O zss) (hI : IntsAt w aI In) (hG : IntsAt w aG G)
    (hIs : setB O.length In = true) (hGs : setB O.length G = true) :
    Calls Tryz.prog 126 #[va, .int .i64 n0, .slice aI In.length cI, .slice aG G.length cG] w (GivesInts w (fnL zss.length (rkK zss O n0 (openS In In.length) (openS G G.length) zss.length))) := by
  obtain ⟨i0, hi, hz0, hz1, hz2⟩ := info_parts info_int
  have HAt := Lib.hid h
  have HIi := Lib.hid hI
  have HGi := Lib.hid hG
  have hIl := hI.len
  have hGl := hG.len
  obtain ⟨ao, an, co, cn, A, C, rfl, h1, h2⟩ := h
  clear h1 h2 hI hG
  have hzO := hP.2.2.1
  have hO256 := hP.2.1
  have hpos : 0 < O.length := by have := hP.1; omega
  have HIN : Hid (∀ u : Nat, u < O.length → ∀ x ∈ row zss u, ∃ v : Nat, x = (v : Int) ∧ v < O.length) := by rw [← hzO]; exact arena_nats hP
  have HSI : Hid (∀ x ∈ In, ∃ u : Nat, x = (u : Int) ∧ u < O.length) := set_nats hIs
  have HSG : Hid (∀ x ∈ G, ∃ u : Nat, x = (u : Int) ∧ u < O.length) := set_nats hGs
  have HZO := Lib.hid hzO
  obtain ⟨w1, hw1⟩ : ∃ y, y = w.alloc (.cells #[.slice ao O.length co, .slice an zss.length cn] 30) := ⟨_, rfl⟩
  have HW1 := Lib.hid hw1
  have T1 : Hid (Box2 w1 w.heap.size 30 (.slice ao O.length co) (.slice an zss.length cn)) := by rw [hw1]; exact Box2.new _ _ _ _
  have B1 : Hid (Below w.heap.size w w1) := by rw [hw1]; exact below1 _ _
  have HM := Lib.hid (l1Marks_is cI O.length (HIi.out.below B1.out) (by omega) HSI.out)
  have hs1 : w1.heap.size = w.heap.size + 1 := by rw [hw1]; simp
  have HS1 := Lib.hid hs1
  clear hw1 hs1 hIs hGs hP hzO
  have t0 := T1.out.cell0
  go_enter Tryz.func126, Tryz.ntmps126
  go_wp2_with fail
  rw [← HW1.out]
  refine HM.out.mono ?_
  rintro e w2 ⟨rfl, hm, hb⟩
  have B2 := Lib.hid (B1.out.trans (hb.mono B1.out.size))
  have M2 := Lib.hid hm
  have T2 := Lib.hid (T1.out.below hb)
  have hs12 : w1.heap.size < w2.heap.size := hm.lt
  have HS12 := Lib.hid hs12
  clear hm hb t0 hs12 HM
  obtain ⟨w3, hw3⟩ : ∃ y, y = w2.alloc (.cells #[] 2) := ⟨_, rfl⟩
  have HW3 := Lib.hid hw3
  have O3 : Hid (w3.ownsRow w2.heap.size 2 1 (.slice (some ⟨w2.heap.size, 0, none⟩) 0 0) 0 ((fnL 0 fun _ => -1).map (Value.int .i64))) := by rw [hw3]; exact World.ownsRow_made w2 #[] 0 (Nat.le_refl _) (by unfold maxLen; omega) rfl
  have hb3 : Below w2.heap.size w2 w3 := by rw [hw3]; exact below1 _ _
  have B3 := Lib.hid (B2.out.trans (hb3.mono B2.out.size))
  have M3 := Lib.hid (rowIs_below M2.out hb3)
  have T3 := Lib.hid (T2.out.below hb3)
  have HS23 := Lib.hid hb3.size
  clear hw3 hb3
  go_wp2
  rw [← HW3.out]
  go_loopw [11, 12] (fun v i wr => ∃ k : Nat, k ≤ O.length ∧ i = .int .i64 k ∧ Hid (wr.ownsRow w2.heap.size 2 1 v k ((fnL k fun _ => -1).map (Value.int .i64))) ∧ Hid (Below w.heap.size w wr) ∧ Hid (wr.rowIs w1.heap.size 4 O.length (marksV (openS In In.length))) ∧ Hid (Box2 wr w.heap.size 30 (.slice ao O.length co) (.slice an zss.length cn)) ∧ Hid (w2.heap.size ≤ wr.heap.size)) (fun _ i _ => O.length - (intOf i).toNat)
  case atStart => exact ⟨0, Nat.zero_le _, rfl, O3, B3, M3, T3, HS23⟩
  case round =>
    clear B3 M3 T3 O3 HS23
    obtain ⟨k, hk, rfl, HO, HB, HM, HT, HZ⟩ := hrel
    by_cases hlt : k < O.length
    · have hi1 : (k : Int) < O.length := by omega
      have hz := HZ.out
      go_wp2_with (at_builtin; refine wpList_append_own_at _ rfl _ _ 27 rfl w2.heap.size 2 i0 (.int .i64 0) 1 8 Tryz.underlying27 hi hz0 hz1 hz2 rfl (by decide) _ _ _ rfl (HO.out.alloc _) ⟨wr.heap.size, 0, none⟩ 1 1 [.int .i64 (-1)] rfl rfl ?c1 ?c2 ?c3 ?c4 ?c5 ?_)
      case c1 => exact cell_one_new _ _ _
      case c2 => intro u hu; simp at hu; subst hu; rfl
      case c3 => unfold maxLen; omega
      case c4 => omega
      case c5 => simp; omega
      intro v' w4 hown hgrow _ _
      have hbw := Below.size HB.out
      have hw12 := HS12.out
      have hw01 := HS1.out
      have hsz : wr.heap.size ≤ w4.heap.size := by have := hgrow.size; simp at this; omega
      have hg : Only (fun b => w2.heap.size ≤ b) wr w4 := ((Only.of_below (below1 wr _)).trans ((Only.of_grown hgrow).mono fun b hb => (HO.out.lt b hb).1))
      have HBn := Lib.hid (HB.out.trans (hg.below (B := w.heap.size) hbw (fun b hb => by omega)))
      have HMn := Lib.hid (rowIs_only HM.out hg (by omega))
      have HTn := Lib.hid (box2_keep HT.out hg (by omega))
      have HZn : Hid (w2.heap.size ≤ w4.heap.size) := Nat.le_trans hz hsz
      have HOn : Hid (w4.ownsRow w2.heap.size 2 1 v' (k + 1) ((fnL (k + 1) fun _ => -1).map (Value.int .i64))) := by rw [fnL_succ, List.map_append]; exact hown
      clear hown hgrow hg hsz hbw hw12 hw01
      go_wp2
      go_roundw
      case rel => exact ⟨k + 1, by omega, by go_num, HOn, HBn, HMn, HTn, HZn⟩
      case measure => simp [intOf]; omega
    · have hi1 : ¬ (k : Int) < O.length := by omega
      have hkk : k = O.length := by omega
      have ho := HO.out
      rw [hkk] at ho
      have hoi : OwnInts wr w2.heap.size wr.heap.size _ (fnL O.length fun _ => -1) := OwnInts.mk' (by rw [fnL_len]; exact ho) (by rw [fnL_len]; omega) (fun j hj => by rw [fnL_len] at hj; rw [fnL_nth hj]; unfold Fits; omega)
      obtain ⟨a, cap, hv, -, hbk⟩ := hoi.shape
      obtain ⟨g, rfl, hg0, hg1, -, -⟩ := hbk (by rw [fnL_len]; exact hpos)
      rw [fnL_len] at hv
      subst hv
      have HF : Hid (OwnF wr w2.heap.size g cap O.length (goalF (openS In In.length) G 0)) := by
        refine OwnF.congr (f := fun _ => -1) hoi fun i _ => ?_
        simp [goalF, openS]
      have HG0 := Lib.hid hg0
      clear ho hoi hbk hkk hg1 hg0
      go_wp2
      go_loopw [13] (fun iv wr => ∃ k : Nat, k ≤ G.length ∧ iv = .int .i64 k ∧ Hid (OwnF wr w2.heap.size g cap O.length (goalF (openS In In.length) G k)) ∧ Hid (Below w.heap.size w wr) ∧ Hid (wr.rowIs w1.heap.size 4 O.length (marksV (openS In In.length))) ∧ Hid (Box2 wr w.heap.size 30 (.slice ao O.length co) (.slice an zss.length cn))) (fun iv _ => G.length - (intOf iv).toNat)
      case atStart => exact ⟨0, Nat.zero_le _, rfl, HF, HB, HM, HT⟩
      case round =>
        clear HF HO HB HM HT HZ hi1 hlt hk
        obtain ⟨k, hk, rfl, HF, HB, HM, HT⟩ := hrel
        by_cases hlt : k < G.length
        · have hi1 : (k : Int) < G.length := by omega
          obtain ⟨sb, so, hsa, hsc⟩ := (HGi.out.below HB.out).cell (by omega)
          have s1 := hsc k hlt
          obtain ⟨u, hu, hul⟩ := HSG.out _ (nth_mem hlt)
          have HFs := Lib.hid (goalF_succ (I := openS In In.length) hlt hu)
          rw [hu] at s1
          subst hsa
          have m1 := HM.out.cell hul
          have huN : (u : Int) < O.length := by omega
          have f1 := HF.out.cell hul
          have f2 := HF.out.frozen u
          clear hsc hu
          cases hIu : openS In In.length u with
          | false =>
            rw [marksV, hIu] at m1
            have HF2 : Hid (OwnF wr w2.heap.size g cap O.length (goalF (openS In In.length) G (k + 1))) := HF.out.congr fun i _ => by
              rw [HFs.out i, if_neg (fun h => by rw [h.1, hIu] at h; simp at h)]
            clear hIu
            go_wp2
            go_roundw
            case rel => exact ⟨k + 1, by omega, by go_num, HF2, HB, HM, HT⟩
            case measure => simp [intOf]; omega
          | true =>
            rw [marksV, hIu] at m1
            have hS : Only (fun b => b = g) wr (wr.setCell ⟨g, u, none⟩ (.int .i64 0)) := (Only.refl (fun b => b = g) wr).setCell (p := ⟨g, u, none⟩) rfl _
            have HF2 : Hid (OwnF (wr.setCell ⟨g, u, none⟩ (.int .i64 0)) w2.heap.size g cap O.length (goalF (openS In In.length) G (k + 1))) := (HF.out.put (u := u) (x := 0) (by unfold Fits; omega)).congr fun i _ => by
              rw [HFs.out i]
              by_cases e : i = u
              · simp [e, hIu]
              · simp [e]
            have hw12 := HS12.out
            have hw01 := HS1.out
            have hgg := HG0.out
            have hbw := Below.size HB.out
            have HB2 := Lib.hid (HB.out.trans (hS.below (B := w.heap.size) hbw (fun b hb => by omega)))
            have HM2 := Lib.hid (rowIs_only HM.out hS (by omega))
            have HT2 := Lib.hid (box2_keep HT.out hS (by omega))
            clear hIu hS hw12 hw01 hgg hbw
            go_wp2
            go_roundw
            case rel => exact ⟨k + 1, by omega, by go_num, HF2, HB2, HM2, HT2⟩
            case measure => simp [intOf]; omega
        · have hi1 : ¬ (k : Int) < G.length := by omega
          have hkk : k = G.length := by omega
          have HF0 : Hid (OwnF wr w2.heap.size g cap O.length (rkK zss O n0 (openS In In.length) (openS G G.length) 0)) := by
            have h := HF.out
            rw [hkk] at h
            exact h.congr fun i _ => rkK_zero i
          clear hkk
          go_wp2
          go_loopw [11, 14] (fun v kv wr => ∃ (g cap j : Nat), v = .slice (some ⟨g, 0, none⟩) O.length cap ∧ kv = .int .i64 ((j : Int) + 1) ∧ j ≤ O.length ∧ w2.heap.size ≤ g ∧ Hid (OwnF wr w2.heap.size g cap O.length (rkK zss O n0 (openS In In.length) (openS G G.length) j)) ∧ Hid (Below w.heap.size w wr) ∧ Hid (wr.rowIs w1.heap.size 4 O.length (marksV (openS In In.length))) ∧ Hid (Box2 wr w.heap.size 30 (.slice ao O.length co) (.slice an zss.length cn))) (fun _ kv _ => O.length + 1 - (intOf kv).toNat)
          case atStart => exact ⟨g, cap, 0, rfl, by go_num, Nat.zero_le _, HG0.out, HF0, HB, HM, HT⟩
          case round =>
            clear HF0 HF HB HM HT hi1 hlt hk HG0
            obtain ⟨g, cap, j, rfl, rfl, hj, hg, HF, HB, HM, HT⟩ := hrel
            by_cases hlt : j < O.length
            · have hi1 : (j : Int) + 1 ≤ O.length := by omega
              have HCp := Lib.hid (copyF_at hpos HF.out)
              go_wp2_with fail
              refine HCp.out.mono ?_
              rintro e w4 ⟨g2, cap2, rfl, ho2, hb⟩
              have hsw : wr.heap.size ≤ w4.heap.size := hb.size
              have hbw := Below.size HB.out
              have hgw := HF.out.lt.2
              obtain ⟨M, hM⟩ : ∃ M, M = wr.heap.size := ⟨_, rfl⟩
              rw [← hM] at ho2 hsw hgw hbw
              have HF4 : Hid (OwnF w4 w2.heap.size g cap O.length (rkK zss O n0 (openS In In.length) (openS G G.length) j)) := HF.out.only (S := fun _ => False) (Only.of_below hb) id
              have HP4 : Hid (OwnF w4 M g2 cap2 O.length (midF zss O n0 In (openS G G.length) j 0)) := ho2.congr fun i _ => midF_zero.symm
              have HB4 := Lib.hid (HB.out.trans (hb.mono (Below.size HB.out)))
              have HM4 := Lib.hid (rowIs_below HM.out hb)
              have HT4 := Lib.hid (HT.out.below hb)
              have hg2 : M ≤ g2 := ho2.lt.1
              have HGG2 := Lib.hid hg2
              have hw12 := HS12.out
              have hw01 := HS1.out
              have HMw : Hid (w.heap.size + 1 < M ∧ w1.heap.size < M ∧ g < M ∧ M ≤ g2) := ⟨by omega, by omega, by omega, hg2⟩
              clear ho2 hb hsw hbw hgw hM hg2 hw12 hw01 HCp HF HB HM HT
              go_wp2
              go_loopw [16] (fun iv wr => ∃ k : Nat, k ≤ In.length ∧ iv = .int .i64 k ∧ Hid (OwnF wr w2.heap.size g cap O.length (rkK zss O n0 (openS In In.length) (openS G G.length) j)) ∧ Hid (OwnF wr M g2 cap2 O.length (midF zss O n0 In (openS G G.length) j k)) ∧ Hid (Below w.heap.size w wr) ∧ Hid (wr.rowIs w1.heap.size 4 O.length (marksV (openS In In.length))) ∧ Hid (Box2 wr w.heap.size 30 (.slice ao O.length co) (.slice an zss.length cn))) (fun iv _ => In.length - (intOf iv).toNat)
              case atStart => exact ⟨0, Nat.zero_le _, rfl, HF4, HP4, HB4, HM4, HT4⟩
              case round =>
                clear HF4 HP4 HB4 HM4 HT4
                obtain ⟨k, hk, rfl, HF, HQ, HB, HM, HT⟩ := hrel
                by_cases hlk : k < In.length
                · have hi2 : (k : Int) < In.length := by omega
                  obtain ⟨sb, so, hsa, hsc⟩ := (HIi.out.below HB.out).cell (by omega)
                  have s1 := hsc k hlk
                  obtain ⟨u, hu, hul⟩ := HSI.out _ (nth_mem hlk)
                  have HSB : Hid (∀ W', Below w.heap.size w W' → W'.cell? ⟨sb, so + k, none⟩ = some (.int .i64 u)) := fun W' hb' => by
                    obtain ⟨b', o', ha', hc'⟩ := (HIi.out.below hb').cell (by omega)
                    rw [hsa] at ha'
                    simp only [Option.some.injEq, Addr.mk.injEq] at ha'
                    obtain ⟨rfl, rfl, _⟩ := ha'
                    rw [hc' k hlk, hu]
                  have HU := Lib.hid hu
                  rw [hu] at s1
                  have huI : openS In In.length u = true := by simp [openS]; rw [← hu]; exact nth_mem hlk
                  have HUI := Lib.hid huI
                  subst hsa
                  have huN : (u : Int) < O.length := by omega
                  have hu0 : (0 : Int) ≤ (u : Int) := by omega
                  have f1 := HF.out.cell hul
                  have t0 := HT.out.cell0
                  have t1 := HT.out.cell1
                  clear hsc hu huI
                  obtain ⟨q, hq⟩ : ∃ q, q = rkK zss O n0 (openS In In.length) (openS G G.length) j u := ⟨_, rfl⟩
                  have HQE := Lib.hid hq
                  rw [← hq] at f1
                  have hdr : Below wr.heap.size wr wr.drew := (Below.refl _ _).drew
                  have HBd := Lib.hid (HB.out.trans (hdr.mono (Below.size HB.out)))
                  have HTd : Hid (Box2 wr.drew _ _ _ _) := HT.out.below hdr
                  have HMd : Hid (wr.drew.rowIs _ _ _ _) := rowIs_below HM.out hdr
                  have HFd : Hid (OwnF wr.drew _ _ _ _ _) := HF.out.only (S := fun _ => False) (Only.of_below hdr) id
                  have HQd : Hid (OwnF wr.drew _ _ _ _ _) := HQ.out.only (S := fun _ => False) (Only.of_below hdr) id
                  clear hq hdr
                  by_cases hq0 : q < 0
                  · have hqd : decide (q < 0) = true := decide_eq_true hq0
                    have HRk := Lib.hid (rankF_at (n0 := n0) (j := j) (u := u) (HAt.out.below HBd.out) HZO.out hO256 HMd.out HFd.out HIN.out (by omega) hul)
                    have HRI := Lib.hid (rkF_is (zss := zss) (O := O) (who := n0) (I := openS In In.length) (G := openS G G.length) (k := j) (u := u) (by rw [← HQE.out]; exact hq0) HUI.out)
                    obtain ⟨r, hr⟩ : ∃ r, r = rkF (ownB O n0 u) (openS In In.length) (rkK zss O n0 (openS In In.length) (openS G G.length) j) (-1) (-1) (row zss u) := ⟨_, rfl⟩
                    rw [← hr] at HRk HRI
                    clear hr
                    go_wp2_with fail
                    go_region_held3 (fun w' => w'.cell? ⟨sb, so + k, none⟩ = some (.int .i64 u) ∧ w'.cell? ⟨g, u, none⟩ = some (.int .i64 q) ∧ w'.cell? ⟨w.heap.size, 0, none⟩ = some (.slice ao O.length co) ∧ w'.cell? ⟨w.heap.size, 1, none⟩ = some (.slice an zss.length cn))
                      (first
                        | go_keep
                        | exact ⟨d1, d2, d3, d4⟩)
                      (first
                        | (go_at_call 157; refine HRk.out.mono ?_; rintro e w5 ⟨rfl, hb⟩; have HB5 := Lib.hid (HBd.out.trans (hb.mono (Below.size HBd.out))); have HT5 := Lib.hid (HTd.out.below hb); have HM5 := Lib.hid (rowIs_below HMd.out hb); have HF5 := Lib.hid (HFd.out.only (S := fun _ => False) (Only.of_below hb) id); have HQ5 := Lib.hid (HQd.out.only (S := fun _ => False) (Only.of_below hb) id); have d1 := HSB.out _ HB5.out; have d2 := HF5.out.cell hul; rw [← HQE.out] at d2; have d3 := HT5.out.cell0; have d4 := HT5.out.cell1; clear hb))
                    clear f1 s1 t0 t1 d1 d2 d3 d4
                    have d1 := HSB.out _ HB5.out
                    by_cases hc : 0 ≤ rkK zss O n0 (openS In In.length) (openS G G.length) (j + 1) u
                    · have hbe : (r == (j : Int) + 1) = true := by simpa using HRI.out.2 hc
                      have e1 := HQ5.out.cell hul
                      have e2 := HQ5.out.frozen u
                      have hN := rkK_new (zss := zss) (O := O) (who := n0) (I := openS In In.length) (G := openS G G.length) (k := j) (u := u) (by rw [← HQE.out]; exact hq0) hc
                      have hS : Only (fun b => b = g2) w5 (w5.setCell ⟨g2, u, none⟩ (.int .i64 ((j : Int) + 1))) := (Only.refl (fun b => b = g2) w5).setCell (p := ⟨g2, u, none⟩) rfl _
                      obtain ⟨m1, m2, m3, m4⟩ := HMw.out
                      have HQ7 : Hid (OwnF (w5.setCell ⟨g2, u, none⟩ (.int .i64 ((j : Int) + 1))) M g2 cap2 O.length (midF zss O n0 In (openS G G.length) j (k + 1))) := (HQ5.out.put (u := u) (x := (j : Int) + 1) (by unfold Fits; omega)).congr fun i _ => by
                        rw [midF_succ hlk HU.out, hN]
                      have hbw := Below.size HB5.out
                      have HB7 := Lib.hid (HB5.out.trans (hS.below (B := w.heap.size) hbw (fun b hb => by omega)))
                      have HM7 := Lib.hid (rowIs_only HM5.out hS (by omega))
                      have HT7 := Lib.hid (box2_keep HT5.out hS (by omega))
                      have HF7 := Lib.hid (HF5.out.only hS (by omega))
                      clear hc hN hS m1 m2 m3 m4 hbw
                      go_wp2
                      go_roundw
                      case rel => exact ⟨k + 1, by omega, by go_num, HF7, HQ7, HB7, HM7, HT7⟩
                      case measure => simp [intOf]; omega
                    · have hbe : (r == (j : Int) + 1) = false := beq_eq_false_iff_ne.2 fun h => hc (HRI.out.1 h)
                      have HK : Hid (∀ i, midF zss O n0 In (openS G G.length) j k i = midF zss O n0 In (openS G G.length) j (k + 1) i) := midF_keep hlk HU.out (by
                        have b1 := (rkK_bound (zss := zss) (O := O) (who := n0) (I := openS In In.length) (G := openS G G.length) (j + 1) u).1
                        have b2 := (rkK_bound (zss := zss) (O := O) (who := n0) (I := openS In In.length) (G := openS G G.length) j u).1
                        have b3 := HQE.out
                        omega)
                      have HQ7 := Lib.hid (HQ5.out.congr fun i _ => HK.out i)
                      clear hc
                      go_wp2
                      go_roundw
                      case rel => exact ⟨k + 1, by omega, by go_num, HF5, HQ7, HB5, HM5, HT5⟩
                      case measure => simp [intOf]; omega
                  · have HK : Hid (∀ i, midF zss O n0 In (openS G G.length) j k i = midF zss O n0 In (openS G G.length) j (k + 1) i) := midF_keep hlk HU.out (rkK_old (by rw [← HQE.out]; omega))
                    have hqd : decide (q < 0) = false := decide_eq_false hq0
                    go_wp2
                    go_quiet (fail)
                    obtain ⟨w6, hw6⟩ : ∃ y, y = wr.drewN nq := ⟨_, rfl⟩
                    rw [← hw6]
                    have hdn : Below wr.heap.size wr w6 := by rw [hw6]; exact below_drewN (Below.refl _ _) nq
                    have HB6 := Lib.hid (HB.out.trans (hdn.mono (Below.size HB.out)))
                    have HT6 := Lib.hid (HT.out.below hdn)
                    have HM6 := Lib.hid (rowIs_below HM.out hdn)
                    have HF6 := Lib.hid (HF.out.only (S := fun _ => False) (Only.of_below hdn) id)
                    have HQ6 : Hid (OwnF w6 M g2 cap2 O.length (midF zss O n0 In (openS G G.length) j (k + 1))) := (HQ.out.only (S := fun _ => False) (Only.of_below hdn) id).congr fun i _ => HK.out i
                    clear hw6 hdn f1 s1 t0 t1
                    go_wp2
                    go_roundw
                    case rel => exact ⟨k + 1, by omega, by go_num, HF6, HQ6, HB6, HM6, HT6⟩
                    case measure => simp [intOf]; omega
                · have hi2 : ¬ (k : Int) < In.length := by omega
                  have hkk : k = In.length := by omega
                  have HQ2 : Hid (OwnF wr M g2 cap2 O.length (rkK zss O n0 (openS In In.length) (openS G G.length) (j + 1))) := by
                    have h := HQ.out
                    rw [hkk] at h
                    exact h.congr fun i _ => midF_full
                  obtain ⟨same, hsame⟩ : ∃ same, decide (fnL O.length (rkK zss O n0 (openS In In.length) (openS G G.length) (j + 1)) = fnL O.length (rkK zss O n0 (openS In In.length) (openS G G.length) j)) = same := ⟨_, rfl⟩
                  have HSm := Lib.hid (sameF_at hsame HQ2.out HF.out)
                  have HSE := Lib.hid hsame
                  clear hkk hsame HQ
                  go_wp2_with fail
                  refine HSm.out.mono ?_
                  rintro e w5 ⟨rfl, hq⟩
                  have hdn : Below wr.heap.size wr w5 := below_same (Below.refl _ _) hq
                  have HB5 := Lib.hid (HB.out.trans (hdn.mono (Below.size HB.out)))
                  have HT5 := Lib.hid (HT.out.below hdn)
                  have HM5 := Lib.hid (rowIs_below HM.out hdn)
                  have HF5 := Lib.hid (HF.out.only (S := fun _ => False) (Only.of_below hdn) id)
                  have HQ5 := Lib.hid (HQ2.out.only (S := fun _ => False) (Only.of_below hdn) id)
                  clear hdn hq
                  cases same with
                  | true =>
                    have hst := fnL_eq (of_decide_eq_true HSE.out)
                    have hfin : Hid (OwnInts w5 w.heap.size w5.heap.size (.slice (some ⟨g, 0, none⟩) O.length cap) (fnL zss.length (rkK zss O n0 (openS In In.length) (openS G G.length) zss.length)) ∧ Below w.heap.size w w5) := by
                      have e : fnL zss.length (rkK zss O n0 (openS In In.length) (openS G G.length) zss.length) = fnL O.length (rkK zss O n0 (openS In In.length) (openS G G.length) j) := by
                        rw [HZO.out]
                        refine fnL_congr fun i hi => ?_
                        have h := rkK_still (zss := zss) (O := O) (who := n0) (I := openS In In.length) (G := openS G G.length) (k := j) (by rw [HZO.out]; exact HIN.out) (by rw [HZO.out]; exact hst) (O.length - j) i (by rw [HZO.out]; exact hi)
                        rw [show j + (O.length - j) = O.length by omega] at h
                        exact h
                      rw [e]
                      have hw12 := HS12.out
                      have hw01 := HS1.out
                      exact ⟨OwnInts.base HF5.out (by omega), HB5.out⟩
                    clear hst
                    go_wp2
                    go_ret
                    exact ⟨_, rfl, hfin.out⟩
                  | false =>
                    obtain ⟨m1, m2, m3, m4⟩ := HMw.out
                    have HQ6 : Hid (OwnF w5 w2.heap.size g2 cap2 O.length (rkK zss O n0 (openS In In.length) (openS G G.length) (j + 1))) := OwnInts.base HQ5.out (by omega)
                    go_wp2
                    go_roundw
                    case rel => exact ⟨g2, cap2, j + 1, rfl, by go_num, by omega, by omega, HQ6, HB5, HM5, HT5⟩
                    case measure => simp [intOf]; omega
            · have hi1 : ¬ (j : Int) + 1 ≤ O.length := by omega
              have hjj : j = O.length := by omega
              have hfin : Hid (OwnInts wr w.heap.size wr.heap.size (.slice (some ⟨g, 0, none⟩) O.length cap) (fnL zss.length (rkK zss O n0 (openS In In.length) (openS G G.length) zss.length)) ∧ Below w.heap.size w wr) := by
                have h := HF.out
                rw [hjj] at h
                rw [HZO.out]
                have hw12 := HS12.out
                have hw01 := HS1.out
                exact ⟨OwnInts.base h (by omega), HB.out⟩
              clear hjj
              go_wp2
              go_ret
              exact ⟨_, rfl, hfin.out⟩
end

section
open Go.RowKit

noncomputable def ranksF (O : List Int) (zss : List (List Int)) (who : Int) (In G : List Int) : Nat → Int := rkK zss O who (openS In In.length) (openS G G.length) zss.length
noncomputable def bothB (O : List Int) (zss : List (List Int)) (who : Int) (In G : List Int) : Bool := okB O zss who In && okB O zss who G
noncomputable def ranksL (O : List Int) (zss : List (List Int)) (who : Int) (In G : List Int) : List Int := if bothB O zss who In G = true then fnL zss.length (ranksF O zss who In G) else []
noncomputable def attractL (O : List Int) (zss : List (List Int)) (who : Int) (In G : List Int) : List Int := if bothB O zss who In G = true then markedK (fun v => decide (0 ≤ ranksF O zss who In G v)) zss.length else []
/-- The first of the rank r - 1. -/
def pullF (rk : Nat → Int) (r : Int) : List Int → Int
  | [] => -1
  | u :: us => if rk u.toNat = r - 1 then u else pullF rk r us
noncomputable def pullV (O : List Int) (zss : List (List Int)) (who : Int) (In G : List Int) (v : Nat) : Int :=
  if nth O v = who ∧ 0 < ranksF O zss who In G v then pullF (ranksF O zss who In G) (ranksF O zss who In G v) (row zss v) else -1
noncomputable def pullL (O : List Int) (zss : List (List Int)) (who : Int) (In G : List Int) : List Int := if bothB O zss who In G = true then fnL zss.length (pullV O zss who In G) else []

theorem okB_yes {O : List Int} {zss : List (List Int)} {who : Int} {S : List Int} (h : okB O zss who S = true) : ArenaP O zss ∧ (who = 0 ∨ who = 1) ∧ setB O.length S = true := by
  unfold okB at h
  rw [Bool.and_eq_true, Bool.and_eq_true] at h
  refine ⟨arenaB_iff.1 h.1, ?_, h.2.2⟩
  have := h.2.1
  unfold inB at this
  have := of_decide_eq_true this
  omega
theorem bothB_yes {O : List Int} {zss : List (List Int)} {who : Int} {In G : List Int} (h : bothB O zss who In G = true) : ArenaP O zss ∧ (who = 0 ∨ who = 1) ∧ setB O.length In = true ∧ setB O.length G = true := by
  unfold bothB at h
  rw [Bool.and_eq_true] at h
  exact ⟨(okB_yes h.1).1, (okB_yes h.1).2.1, (okB_yes h.1).2.2, (okB_yes h.2).2.2⟩

theorem l3Ranks_own {w : World} {va : Value} {O : List Int} {zss : List (List Int)} {n0 : Int} {aI aG : Option Addr} {In G : List Int} (cI cG : Nat) (hok : bothB O zss n0 In G = true) (h : ArenaAt w va O zss) (hI : IntsAt w aI In) (hG : IntsAt w aG G) :
    Calls Tryz.prog 126 #[va, .int .i64 n0, .slice aI In.length cI, .slice aG G.length cG] w fun e w' => ∃ g cap, e = .returned (.slice (some ⟨g, 0, none⟩) zss.length cap) ∧ OwnF w' w.heap.size g cap zss.length (ranksF O zss n0 In G) ∧ Below w.heap.size w w' := by
  obtain ⟨hP, _, h1, h2⟩ := bothB_yes hok
  have hpos : 0 < zss.length := by have := hP.1; have := hP.2.2.1; omega
  refine (l3Ranks_is cI cG h hP hI hG h1 h2).mono ?_
  rintro e w' ⟨v, rfl, hv, hb⟩
  obtain ⟨a, c, hs, -, hbk⟩ := hv.shape
  obtain ⟨g, rfl, _⟩ := hbk (by rw [fnL_len]; exact hpos)
  rw [fnL_len] at hs
  subst hs
  exact ⟨g, c, rfl, hv, hb⟩

/-- An empty slice of one's own. -/
theorem own_empty {w0 w : World} (hb : Below w0.heap.size w0 w) : OwnInts (w.alloc (.cells #[] 2)) w0.heap.size (w.alloc (.cells #[] 2)).heap.size (.slice (some ⟨w.heap.size, 0, none⟩) 0 0) [] ∧ Below w0.heap.size w0 (w.alloc (.cells #[] 2)) :=
  ⟨OwnInts.mk' (World.ownsRow_made w #[] 0 hb.size (by unfold maxLen; omega) rfl) (by simp) (fun k hk => absurd hk (by simp)), hb.alloc hb.size _⟩

set_option maxHeartbeats 4000000 in
set_option maxRecDepth 100000 in
theorem l3Attract_is {w : World} {va : Value} {O : List Int} {zss : List (List Int)} {n0 : Int} {aI aG : Option Addr} {In G : List Int} (cI cG : Nat) (hok : bothB O zss n0 In G = true) (h : ArenaAt w va O zss) (hI : IntsAt w aI In) (hG : IntsAt w aG G) :
    Calls Tryz.prog 83 #[va, .int .i64 n0, .slice aI In.length cI, .slice aG G.length cG] w (GivesInts w (markedK (fun v => decide (0 ≤ ranksF O zss n0 In G v)) zss.length)) := by
  obtain ⟨i0, hi, hz0, hz1, hz2⟩ := info_parts info_int
  have hz256 : zss.length ≤ 256 := by have := (bothB_yes hok).1.2.1; have := (bothB_yes hok).1.2.2.1; omega
  have HAt := Lib.hid h
  have HIi := Lib.hid hI
  have HGi := Lib.hid hG
  have HOK := Lib.hid hok
  obtain ⟨ao, an, co, cn, A, C, rfl, h1, h2⟩ := h
  clear h1 h2 hI hG hok
  have BW := Lib.hid (below1 w (.cells #[.slice ao O.length co, .slice an zss.length cn] 30))
  have HR := Lib.hid (l3Ranks_own cI cG HOK.out (HAt.out.below BW.out) (HIi.out.below BW.out) (HGi.out.below BW.out))
  obtain ⟨F, hF⟩ : ∃ F, F = ranksF O zss n0 In G := ⟨_, rfl⟩
  rw [← hF] at HR ⊢
  clear hF
  go_enter Tryz.func83, Tryz.ntmps83
  go_wp2_with fail
  refine HR.out.mono ?_
  rintro e w1 ⟨g, cap, rfl, ho, hb⟩
  have B1 := Lib.hid (BW.out.trans (hb.mono BW.out.size))
  have HF1 := Lib.hid ho
  have hgl := ho.lt.2
  have HGL := Lib.hid hgl
  clear ho hb hgl
  obtain ⟨w2, hw2⟩ : ∃ y, y = w1.alloc (.cells #[] 2) := ⟨_, rfl⟩
  have HW2 := Lib.hid hw2
  have O2 : Hid (w2.ownsRow w1.heap.size 2 1 (.slice (some ⟨w1.heap.size, 0, none⟩) 0 0) (markedK (fun v => decide (0 ≤ F v)) 0).length ((markedK (fun v => decide (0 ≤ F v)) 0).map (Value.int .i64))) := by rw [hw2]; exact World.ownsRow_made w1 #[] 0 (Nat.le_refl _) (by unfold maxLen; omega) rfl
  have hb2 : Below w1.heap.size w1 w2 := by rw [hw2]; exact below1 _ _
  have B2 := Lib.hid hb2
  clear hw2 hb2
  go_wp2
  rw [← HW2.out]
  go_loopw [10, 11] (fun v i wr => ∃ k : Nat, k ≤ zss.length ∧ i = .int .i64 k ∧ Hid (wr.ownsRow w1.heap.size 2 1 v (markedK (fun v => decide (0 ≤ F v)) k).length ((markedK (fun v => decide (0 ≤ F v)) k).map (Value.int .i64))) ∧ Hid (Below w1.heap.size w1 wr)) (fun _ i _ => zss.length - (intOf i).toNat)
  case atStart => exact ⟨0, Nat.zero_le _, rfl, O2, B2⟩
  case round =>
    clear O2 B2
    obtain ⟨k, hk, rfl, HO, HB⟩ := hrel
    by_cases hlt : k < zss.length
    · have hi1 : (k : Int) < zss.length := by omega
      have f1 := (HF1.out.only (S := fun _ => False) (Only.of_below HB.out) id).cell hlt
      have hml := markedK_len (fun v => decide (0 ≤ F v)) k
      obtain ⟨q, hq⟩ : ∃ q, q = F k := ⟨_, rfl⟩
      have HQ := Lib.hid hq
      rw [← hq] at f1
      clear hq
      by_cases hq0 : 0 ≤ q
      · have HS : Hid (markedK (fun v => decide (0 ≤ F v)) (k + 1) = markedK (fun v => decide (0 ≤ F v)) k ++ [(k : Int)]) := by simp [markedK, Hid]; rw [← HQ.out]; exact hq0
        go_wp2_with (at_builtin; refine wpList_append_own_at _ rfl _ _ 27 rfl w1.heap.size 2 i0 (.int .i64 0) 1 8 Tryz.underlying27 hi hz0 hz1 hz2 rfl (by decide) _ _ _ rfl (HO.out.alloc _) ⟨wr.heap.size, 0, none⟩ 1 1 [.int .i64 k] rfl rfl ?c1 ?c2 ?c3 ?c4 ?c5 ?_)
        case c1 => exact cell_one_new _ _ _
        case c2 => intro u hu; simp at hu; subst hu; rfl
        case c3 => unfold maxLen; omega
        case c4 => omega
        case c5 => have := HB.out.size; simp; omega
        intro v' w4 hown hgrow _ _
        have hbw := Below.size HB.out
        have HBn := Lib.hid ((HB.out.alloc hbw _).grown hgrow (by simp; omega) (fun g hg => (HO.out.lt g hg).1))
        have HOn : Hid (w4.ownsRow w1.heap.size 2 1 v' (markedK (fun v => decide (0 ≤ F v)) (k + 1)).length ((markedK (fun v => decide (0 ≤ F v)) (k + 1)).map (Value.int .i64))) := by rw [HS.out, List.map_append, List.length_append]; exact hown
        clear hown hgrow hbw
        go_wp2
        go_roundw
        case rel => exact ⟨k + 1, by omega, by go_num, HOn, HBn⟩
        case measure => simp [intOf]; omega
      · have HS : Hid (markedK (fun v => decide (0 ≤ F v)) (k + 1) = markedK (fun v => decide (0 ≤ F v)) k) := by simp [markedK, Hid]; rw [← HQ.out]; omega
        have HOn := HO
        rw [← HS.out] at HOn
        go_wp2
        go_roundw
        case rel => exact ⟨k + 1, by omega, by go_num, HOn, HB⟩
        case measure => simp [intOf]; omega
    · have hi1 : ¬ (k : Int) < zss.length := by omega
      have hkk : k = zss.length := by omega
      have h := HO.out
      rw [hkk] at h
      have hfin := Lib.hid (And.intro ((OwnInts.mk' h (by have := markedK_len (fun v => decide (0 ≤ F v)) zss.length; omega) (markedK_fits _ _ (by omega))).base B1.out.size) (B1.out.trans (HB.out.mono B1.out.size)))
      clear h
      clear hkk
      go_wp2
      go_ret
      exact ⟨_, rfl, hfin.out⟩

end
end

section
open Go.RowKit

/-- Does a vertex stay, by its successors? -/
def staysF (own : Bool) (I : Nat → Bool) : Bool → List Int → Bool
  | s, [] => s
  | s, u :: us => if I u.toNat = false ∧ own = true then false else staysF own I (s || I u.toNat) us

def escB (O : List Int) (zss : List (List Int)) (who : Int) (S : List Int) : Int → Bool := fun x => !staysF (ownB O who x.toNat) (openS S S.length) false (row zss x.toNat)
noncomputable def escapesL (O : List Int) (zss : List (List Int)) (who : Int) (S : List Int) : List Int := if okB O zss who S = true then S.filter (escB O zss who S) else []
noncomputable def trapB (O : List Int) (zss : List (List Int)) (who : Int) (S : List Int) : Bool := okB O zss who S && decide ((escapesL O zss who S).length = 0)

theorem filter_step (p : Int → Bool) {S : List Int} {k : Nat} (h : k < S.length) : (S.take (k + 1)).filter p = (S.take k).filter p ++ (if p (nth S k) = true then [nth S k] else []) := by
  rw [List.take_add_one, List.getElem?_eq_getElem h, List.filter_append, nth_eq h]
  congr 1
  simp [List.filter_cons]
theorem Only.later3 {S T : Nat → Prop} {a b c : World} (h : Only S a b) (k : Only T b c) (hT : ∀ i, T i → S i ∨ a.heap.size ≤ i) : Only S a c :=
  ⟨k.os.trans h.os, k.tape.trans h.tape, k.output.trans h.output, Nat.le_trans h.size k.size, fun i hi hs => (k.block i (Nat.lt_of_lt_of_le hi h.size) (fun ht => by rcases hT i ht with h1 | h1 <;> first | exact hs h1 | omega)).trans (h.block i hi hs)⟩

end

section
section
open Go.RowKit

theorem isPlayer_is {x : Int} {r : Bool} (hr : inB x 0 1 = r) (w : World) :
    Calls Tryz.prog 106 #[.int .i64 x] w fun e w' => e = .returned (.bool r) ∧ w = w' := by
  by_cases h0 : x = 0
  · subst h0
    have HR : Hid (true = r) := by rw [← hr]; rfl
    clear hr
    go_enter Tryz.func106, Tryz.ntmps106
    go_wp2
    go_ret
    exact ⟨ret_bool HR.out, rfl⟩
  · by_cases h1 : x = 1
    · subst h1
      have HR : Hid (true = r) := by rw [← hr]; rfl
      clear hr
      go_enter Tryz.func106, Tryz.ntmps106
      go_wp2
      go_ret
      exact ⟨ret_bool HR.out, rfl⟩
    · have HR : Hid (false = r) := by rw [← hr]; unfold Hid inB; simp; omega
      clear hr
      go_enter Tryz.func106, Tryz.ntmps106
      go_wp2
      go_ret
      exact ⟨ret_bool (by rw [← HR.out]; simp [h0, h1]), rfl⟩

noncomputable def askB (O : List Int) (zss : List (List Int)) (who : Int) (Ss : List (List Int)) : Bool := arenaB O zss && inB who 0 1 && Ss.all (setB O.length)

set_option maxHeartbeats 4000000 in
theorem isAsked_is {w : World} {va : Value} {O : List Int} {zss : List (List Int)} {n0 : Int} {a : Option Addr} {A : Nat → Option Addr} {C : Nat → Nat} {Ss : List (List Int)} {r : Bool} (hr : askB O zss n0 Ss = r) (cap : Nat) (h : ArenaAt w va O zss) (hR : RowsAt w a A C Ss) :
    Calls Tryz.prog 96 #[va, .int .i64 n0, .slice a Ss.length cap] w fun e w' => e = .returned (.bool r) ∧ Below w.heap.size w w' := by
  have hlen := hR.len
  have HAt := Lib.hid h
  have HRw := Lib.hid hR
  obtain ⟨ao, an, co, cn, AA, CC, rfl, h1, h2⟩ := h
  have hlO := h1.len
  clear h1 h2 hR
  have BW := Lib.hid (below1 w (.cells #[.slice ao O.length co, .slice an zss.length cn] 30))
  have bW := Lib.hid (Box2.new w 30 (.slice ao O.length co) (.slice an zss.length cn))
  cases hA : arenaB O zss with
  | false =>
    have HE : Hid (r = false) := by rw [← hr]; simp [askB, hA, Hid]
    have HC := Lib.hid (ArenaOk_at hA (HAt.out.below BW.out))
    clear hA hr
    go_enter Tryz.func96, Tryz.ntmps96
    go_wp2_with fail
    refine HC.out.mono ?_
    rintro e w1 ⟨rfl, hb⟩
    have B1 := Lib.hid (BW.out.trans (hb.mono BW.out.size))
    clear hb
    go_wp2
    go_ret
    exact ⟨ret_bool HE.out.symm, B1.out⟩
  | true =>
    have HC := Lib.hid (ArenaOk_at hA (HAt.out.below BW.out))
    cases hP : inB n0 0 1 with
    | false =>
      have HE : Hid (r = false) := by rw [← hr]; simp [askB, hP, Hid]
      have HP := Lib.hid hP
      clear hA hr hP
      go_enter Tryz.func96, Tryz.ntmps96
      go_wp2_with fail
      refine HC.out.mono ?_
      rintro e w1 ⟨rfl, hb⟩
      have B1 := Lib.hid (BW.out.trans (hb.mono BW.out.size))
      clear hb
      go_wp2_with fail
      refine (isPlayer_is HP.out w1).mono ?_
      rintro e w2 ⟨rfl, rfl⟩
      go_wp2
      go_ret
      exact ⟨ret_bool HE.out.symm, B1.out⟩
    | true =>
      have HR : Hid (Ss.all (setB O.length) = r) := by rw [← hr]; simp [askB, hA, hP, Hid]
      have HP := Lib.hid hP
      clear hA hr hP
      go_enter Tryz.func96, Tryz.ntmps96
      go_wp2_with fail
      refine HC.out.mono ?_
      rintro e w1 ⟨rfl, hb⟩
      have B1 := Lib.hid (BW.out.trans (hb.mono BW.out.size))
      have b1 := Lib.hid (bW.out.below hb)
      clear hb
      go_wp2_with fail
      refine (isPlayer_is HP.out w1).mono ?_
      rintro e w2 ⟨rfl, rfl⟩
      go_wp2
      go_loopw [19] (fun i wr => ∃ k : Nat, k ≤ Ss.length ∧ i = .int .i64 k ∧ Hid (∀ j, j < k → setB O.length (row Ss j) = true) ∧ Hid (Below w.heap.size w wr) ∧ Hid (Box2 wr w.heap.size 30 (.slice ao O.length co) (.slice an zss.length cn))) (fun i _ => Ss.length - (intOf i).toNat)
      case atStart => exact ⟨0, Nat.zero_le _, rfl, fun j hj => absurd hj (Nat.not_lt_zero _), B1, b1⟩
      case round =>
        obtain ⟨k, hk, rfl, HK, HB, hb⟩ := hrel
        by_cases hlt : k < Ss.length
        · have R1 := Lib.hid (HRw.out.below HB.out)
          obtain ⟨b, off, ha, hc⟩ := R1.out.cell (by omega)
          subst ha
          have hck := hc k hlt
          clear hc
          have c0 := hb.out.cell0
          have c1 := hb.out.cell1
          obtain ⟨w3, hw3⟩ : ∃ y, y = wr.alloc (.cells #[.slice ao O.length co, .slice an zss.length cn] 30) := ⟨_, rfl⟩
          have HZ := Lib.hid (size_is ao an O.length zss.length co cn wr (by omega))
          have B3 : Hid (Below w.heap.size w w3) := by rw [hw3]; exact HB.out.trans ((below1 _ _).mono HB.out.size)
          have b3 : Hid (Box2 w3 w.heap.size 30 (.slice ao O.length co) (.slice an zss.length cn)) := by rw [hw3]; exact hb.out.alloc _
          have R3 : Hid (IntsAt w3 (A k) (row Ss k)) := by rw [hw3]; exact (R1.out.rows k hlt).alloc _
          rw [← hw3] at HZ
          clear hw3
          cases hs : setB O.length (row Ss k) with
          | true =>
            have HI := Lib.hid (isSet_is hs (C k) _ R3.out (by unfold Fits; omega))
            have HK' : Hid (∀ j, j < k + 1 → setB O.length (row Ss j) = true) := fun j hj => by
              by_cases e : j = k
              · subst e; exact hs
              · exact HK.out j (by omega)
            clear hs
            go_wp2_with (first
              | (go_at_call 128; refine HZ.out.mono ?_; rintro e w' ⟨rfl, rfl⟩)
              | (go_at_call 115; refine HI.out.mono ?_; rintro e w' ⟨rfl, rfl⟩))
            go_roundw
            case rel => exact ⟨k + 1, by omega, by go_num, HK', B3, b3⟩
            case measure => simp [intOf]; omega
          | false =>
            have HI := Lib.hid (isSet_is hs (C k) _ R3.out (by unfold Fits; omega))
            have HE : Hid (r = false) := by
              rw [← HR.out]
              cases hall : Ss.all (setB O.length) with
              | false => rfl
              | true => rw [all_rows.1 hall k hlt] at hs; cases hs
            clear hs
            go_wp2_with (first
              | (go_at_call 128; refine HZ.out.mono ?_; rintro e w' ⟨rfl, rfl⟩)
              | (go_at_call 115; refine HI.out.mono ?_; rintro e w' ⟨rfl, rfl⟩))
            go_ret
            exact ⟨ret_bool HE.out.symm, B3.out⟩
        · have HE : Hid (r = true) := by
            rw [← HR.out]; exact all_rows.2 fun j hj => HK.out j (by omega)
          go_wp2
          go_ret
          exact ⟨ret_bool HE.out.symm, HB.out⟩
end

section
open Go.RowKit

theorem staysF_eq {own : Bool} {I : Nat → Bool} : ∀ (us : List Int) (s : Bool), staysF own I s us = (!(own && us.any fun u => !I u.toNat) && (s || us.any fun u => I u.toNat))
  | [], s => by simp [staysF]
  | u :: us, s => by
    rw [staysF]
    cases hI : I u.toNat with
    | false =>
      cases own with
      | true => simp [hI]
      | false => rw [if_neg (by simp), staysF_eq us]; simp [hI]
    | true => rw [if_neg (by simp), staysF_eq us]; simp [hI]

theorem inT_open {S : List Int} {x : Int} (hx : 0 ≤ x) : inT S x = openS S S.length x.toNat := by
  unfold inT hasB openS; rw [List.take_length, Int.toNat_of_nonneg hx]

/-- A vertex escapes, by what its successors part into. -/
theorem escB_eq {O : List Int} {zss : List (List Int)} {who : Int} {S : List Int} {u : Nat} (hpos : ∀ x ∈ row zss u, 0 ≤ x) :
    escB O zss who S (u : Int) = ((ownB O who u && decide (0 < ((row zss u).filter (outT S)).length)) || decide (((row zss u).filter (inT S)).length = 0)) := by
  have e1 : (row zss u).any (fun x => !openS S S.length x.toNat) = decide (0 < ((row zss u).filter (outT S)).length) := by
    rw [Bool.eq_iff_iff, List.any_eq_true, decide_eq_true_iff, List.length_pos_iff_exists_mem]
    constructor
    · rintro ⟨x, hx, h⟩
      exact ⟨x, List.mem_filter.2 ⟨hx, by rw [← inT_open (hpos x hx)] at h; exact h⟩⟩
    · rintro ⟨x, h⟩
      obtain ⟨hx, h⟩ := List.mem_filter.1 h
      exact ⟨x, hx, by rw [← inT_open (hpos x hx)]; exact h⟩
  have e2 : (row zss u).any (fun x => openS S S.length x.toNat) = decide (0 < ((row zss u).filter (inT S)).length) := by
    rw [Bool.eq_iff_iff, List.any_eq_true, decide_eq_true_iff, List.length_pos_iff_exists_mem]
    constructor
    · rintro ⟨x, hx, h⟩
      exact ⟨x, List.mem_filter.2 ⟨hx, by rw [← inT_open (hpos x hx)] at h; exact h⟩⟩
    · rintro ⟨x, h⟩
      obtain ⟨hx, h⟩ := List.mem_filter.1 h
      exact ⟨x, hx, by rw [← inT_open (hpos x hx)]; exact h⟩
  unfold escB
  rw [Int.toNat_natCast, staysF_eq, e1, e2]
  by_cases h : ((row zss u).filter (inT S)).length = 0
  · simp [h]
  · have h' : 0 < ((row zss u).filter (inT S)).length := by omega
    simp [h, h']

theorem askB_one {O : List Int} {zss : List (List Int)} {who : Int} {S : List Int} : askB O zss who [S] = okB O zss who S := by simp [askB, okB, Bool.and_assoc]
theorem askB_two {O : List Int} {zss : List (List Int)} {who : Int} {S T : List Int} : askB O zss who [S, T] = bothB O zss who S T := by
  unfold askB bothB okB
  cases arenaB O zss <;> cases inB who 0 1 <;> simp

theorem isAsked_one {w : World} {va : Value} {O : List Int} {zss : List (List Int)} {n0 : Int} {aS : Option Addr} {S : List Int} {r : Bool} (hr : okB O zss n0 S = r) (cS : Nat) (h : ArenaAt w va O zss) (hS : IntsAt w aS S) :
    Calls Tryz.prog 96 #[va, .int .i64 n0, .slice (some ⟨w.heap.size, 0, none⟩) 1 1] (w.alloc (.cells #[.slice aS S.length cS] 27)) fun e w' => e = .returned (.bool r) ∧ Below w.heap.size w w' :=
  (isAsked_is (Ss := [S]) (by rw [askB_one]; exact hr) 1 (h.alloc _) (rows_one hS)).mono fun _ _ ⟨he, hb⟩ => ⟨he, (below1 w _).trans (hb.mono (by simp))⟩
theorem isAsked_two {w : World} {va : Value} {O : List Int} {zss : List (List Int)} {n0 : Int} {aS aT : Option Addr} {S T : List Int} {r : Bool} (hr : bothB O zss n0 S T = r) (cS cT : Nat) (h : ArenaAt w va O zss) (hS : IntsAt w aS S) (hT : IntsAt w aT T) :
    Calls Tryz.prog 96 #[va, .int .i64 n0, .slice (some ⟨w.heap.size, 0, none⟩) 2 2] (w.alloc (.cells #[.slice aS S.length cS, .slice aT T.length cT] 27)) fun e w' => e = .returned (.bool r) ∧ Below w.heap.size w w' :=
  (isAsked_is (Ss := [S, T]) (by rw [askB_two]; exact hr) 2 (h.alloc _) (rows_two hS hT)).mono fun _ _ ⟨he, hb⟩ => ⟨he, (below1 w _).trans (hb.mono (by simp))⟩

end
end

end Go.Proofs.YtokcinhopajniaaGreatDoor
