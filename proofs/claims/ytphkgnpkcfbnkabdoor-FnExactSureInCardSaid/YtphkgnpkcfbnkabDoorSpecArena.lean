/-
  Contracts of the model's ArenaOk and of what it calls.
-/
import Derived.IntWalk
import Derived.Test.YtphkgnpkcfbnkabDoorPk00
namespace Go.Proofs.YtphkgnpkcfbnkabDoor
open Go.RowKit

theorem quiet_eq {P : Program} {f : FuncId} {args : Array Value} {w : World} {n : Nat} {v : Value}
    (h : Calls P f args (w.drewN n) fun e w' => e = .returned v ∧ w.drewN n = w') : Calls P f args (w.drewN n) fun e w'' => e = .returned v ∧ ∃ m, w'' = w.drewN m :=
  h.mono fun _ _ ⟨he, hm⟩ => ⟨he, n, hm.symm⟩

set_option maxHeartbeats 400000 in
theorem l1In_any (x lo hi : Int) (w : World) : Calls Tryd.prog 71 #[.int .i64 x, .int .i64 lo, .int .i64 hi] w fun e w' => e = .returned (.bool (inB x lo hi)) ∧ w = w' := by
  by_cases h1 : lo ≤ x
  · by_cases h2 : x ≤ hi
    · have HE := Lib.hid (inB_yes h1 h2)
      go_enter Tryd.func71, Tryd.ntmps71
      go_wp2
      go_ret
      exact ⟨ret_bool HE.out.symm, rfl⟩
    · have HE := Lib.hid (inB_no (x := x) (lo := lo) (hi := hi) (by omega))
      go_enter Tryd.func71, Tryd.ntmps71
      go_wp2
      go_ret
      exact ⟨ret_bool HE.out.symm, rfl⟩
  · have HE := Lib.hid (inB_no (x := x) (lo := lo) (hi := hi) (by omega))
    go_enter Tryd.func71, Tryd.ntmps71
    go_wp2
    go_ret
    exact ⟨ret_bool HE.out.symm, rfl⟩

theorem l1In_is {x lo hi : Int} {r : Bool} (hr : inB x lo hi = r) (w : World) : Calls Tryd.prog 71 #[.int .i64 x, .int .i64 lo, .int .i64 hi] w fun e w' => e = .returned (.bool r) ∧ w = w' := by
  subst hr; exact l1In_any x lo hi w

theorem lastAt_ge {zs : List Int} {k : Nat} (h : ∀ j, j < k → 0 ≤ nth zs j) : -1 ≤ lastAt zs k := by
  unfold lastAt
  split
  · omega
  · have := h (k - 1) (by omega); omega

theorem drewn {w wr : World} {m : Nat} (h : ∃ q, wr = w.drewN q) : ∃ q, wr.drewN m = w.drewN q := by
  obtain ⟨q, rfl⟩ := h
  exact ⟨q + m, by rw [World.drewN_drewN]⟩

set_option maxHeartbeats 1000000 in
theorem l1Rises_any (a : Option Addr) (zs : List Int) (cap : Nat) (n : Int) (w : World) (h : IntsAt w a zs) (_h0 : 0 ≤ n) (_hn : n ≤ 4611686018427387904) :
    Calls Tryd.prog 157 #[.slice a zs.length cap, .int .i64 n] w fun e w' => e = .returned (.bool (setB n zs)) ∧ ∃ q, w' = w.drewN q := by
  obtain ⟨hlen, hfit, hcell⟩ := h
  have HS : Hid (setFrom n (lastAt zs 0) (zs.drop 0) = setB n zs) := rfl
  have HC := Lib.hid hcell
  clear hcell hfit
  go_enter Tryd.func157, Tryd.ntmps157
  go_wp2
  go_loopw [5] (fun i wr => ∃ k : Nat, k ≤ zs.length ∧ i = .int .i64 k ∧ Hid (setFrom n (lastAt zs k) (zs.drop k) = setB n zs) ∧ Hid (∀ j, j < k → 0 ≤ nth zs j) ∧ Hid (∃ q, wr = w.drewN q))
    (fun i _ => zs.length - (intOf i).toNat)
  case atStart => exact ⟨0, Nat.zero_le _, rfl, HS, fun j hj => absurd hj (Nat.not_lt_zero _), ⟨0, rfl⟩⟩
  case round =>
    obtain ⟨k, hk, rfl, HK, HP, HW⟩ := hrel
    have hwc : ∀ a, wr.cell? a = w.cell? a := fun a => by obtain ⟨q, hq⟩ := HW.out; rw [hq]; simp
    by_cases hlt : k < zs.length
    · obtain ⟨b, off, ha, hc⟩ := HC.out (by omega)
      subst ha
      have hck := (hwc _).trans (hc k hlt)
      have hcp : 0 < k → wr.cell? ⟨b, off + (k - 1), none⟩ = some (.int .i64 (nth zs (k - 1))) := fun h => (hwc _).trans (hc (k - 1) (by omega))
      clear hc hwc
      have hw1 : IntKind.i64.wrap (n - 1) = n - 1 := IntWalk.i64_in _ (by omega)
      have HW1 := Lib.hid hw1
      clear hw1
      have hi1 : (k : Int) < zs.length := by omega
      have hi6 : IntKind.i64.wrap ((k : Int) - 1) = (k : Int) - 1 := IntWalk.i64_in _ (by omega)
      have HI6 := Lib.hid hi6
      clear hi6
      by_cases hr : 0 ≤ nth zs k ∧ nth zs k ≤ n - 1
      · have HA := Lib.hid (l1In_is (inB_yes hr.1 hr.2))
        have HQ : Hid (∀ j, j < k + 1 → 0 ≤ nth zs j) := fun j hj => by
          by_cases hj' : j < k
          · exact HP.out j hj'
          · obtain rfl : j = k := by omega
            exact hr.1
        by_cases hz : k = 0
        · have hz' : ¬ (0 : Int) < k := by omega
          have hz'' : decide ((0 : Int) < (k : Int)) = false := by simpa using hz'
          have hz3 : decide (0 < k) = false := by simpa using hz
          have HE : Hid (setFrom n (lastAt zs (k + 1)) (zs.drop (k + 1)) = setB n zs) := by
            have := HK.out
            rw [setFrom_yes n zs k hlt (by subst hz; simp [lastAt]; omega) (by omega)] at this; exact this
          clear hz hcp
          have hw1 := HW1.out
          go_wp2
          go_quiet ((go_at_call 71; exact quiet_eq (HA.out _)))
          go_wp2
          go_roundw
          case rel => exact ⟨k + 1, by omega, by go_num, HE, HQ, drewn HW.out⟩
          case measure => simp [intOf]; omega
        · have hkm : 0 < k := by omega
          have hcm := hcp hkm
          clear hcp
          have HL : Hid (lastAt zs k = nth zs (k - 1)) := by simp only [Hid, lastAt]; rw [if_neg hz]
          have hi2 : (0 : Int) < k := by omega
          have hi3 : (k : Int) - 1 < zs.length := by omega
          have hi4 : (0 : Int) ≤ (k : Int) - 1 := by omega
          by_cases hle : nth zs k ≤ nth zs (k - 1)
          · have HN := setFrom_no n zs k hlt (Or.inl (by rw [HL.out]; exact hle))
            have HE : Hid (setB n zs = false) := by rw [← HK.out]; exact HN
            clear HN
            have hi5 : ((k : Int) - 1).toNat = k - 1 := by omega
            have hi6 := HI6.out
            have hw1 := HW1.out
            go_wp2
            go_quiet ((go_at_call 71; exact quiet_eq (HA.out _)))
            go_wp2
            go_ret
            exact ⟨ret_bool HE.out.symm, drewn HW.out⟩
          · have HE : Hid (setFrom n (lastAt zs (k + 1)) (zs.drop (k + 1)) = setB n zs) := by
              have := HK.out
              rw [setFrom_yes n zs k hlt (by rw [HL.out]; omega) (by omega)] at this; exact this
            have hi5 : ((k : Int) - 1).toNat = k - 1 := by omega
            have hi6 := HI6.out
            have hw1 := HW1.out
            go_wp2
            go_quiet ((go_at_call 71; exact quiet_eq (HA.out _)))
            clear hi5 hi6 hw1
            go_wp2
            go_roundw
            case rel => exact ⟨k + 1, by omega, by go_num, HE, HQ, drewn HW.out⟩
            case measure => simp [intOf]; omega
      · have HA := Lib.hid (l1In_is (inB_no (x := nth zs k) (lo := 0) (hi := n - 1) (by omega)))
        have HE : Hid (setB n zs = false) := by
          rw [← HK.out]
          refine setFrom_no n zs k hlt ?_
          have := lastAt_ge HP.out
          omega
        clear hcp
        have hw1 := HW1.out
        go_wp2
        go_quiet ((go_at_call 71; exact quiet_eq (HA.out _)))
        go_wp2
        go_ret
        exact ⟨ret_bool HE.out.symm, drewn HW.out⟩
    · have HE : Hid (setB n zs = true) := by rw [← HK.out]; exact setFrom_end _ _ _ _ (by omega)
      clear hwc
      go_wp2
      go_ret
      exact ⟨ret_bool HE.out.symm, HW.out⟩

theorem l1Rises_is {a : Option Addr} {zs : List Int} {n : Int} {r : Bool} (hr : setB n zs = r) (cap : Nat) (w : World) (h : IntsAt w a zs) (h0 : 0 ≤ n) (hn : n ≤ 4611686018427387904) :
    Calls Tryd.prog 157 #[.slice a zs.length cap, .int .i64 n] w fun e w' => e = .returned (.bool r) ∧ ∃ q, w' = w.drewN q := by
  subst hr; exact l1Rises_any a zs cap n w h h0 hn

set_option maxHeartbeats 400000 in
theorem l1Set_is {a : Option Addr} {zs : List Int} {n : Int} {r : Bool} (hr : setB n zs = r) (cap : Nat) (w : World) (h : IntsAt w a zs) (_h0 : 0 ≤ n) (_hn : n ≤ 4611686018427387904) :
    Calls Tryd.prog 139 #[.slice a zs.length cap, .int .i64 n] w fun e w' => e = .returned (.bool r) ∧ ∃ q, w' = w.drewN q := by
  have hl := h.len
  by_cases hle : (zs.length : Int) ≤ n
  · have HC := Lib.hid (l1Rises_is hr cap w h _h0 _hn)
    clear hr h
    go_enter Tryd.func139, Tryd.ntmps139
    go_wp2_with (go_at_call 157; refine HC.out.mono ?_; rintro e w' ⟨rfl, HW⟩)
    go_ret
    exact ⟨rfl, HW⟩
  · have HE : Hid (r = false) := by
      rw [← hr]
      cases hb : setB n zs with
      | false => rfl
      | true => exact absurd (setB_len _h0 hb) hle
    clear hr h
    go_enter Tryd.func139, Tryd.ntmps139
    go_wp2
    go_ret
    exact ⟨ret_bool HE.out.symm, 0, rfl⟩

theorem below_drewN {B : Nat} {a w : World} (h : Below B a w) (n : Nat) : Below B a (w.drewN n) := ⟨h.os, h.tape, h.output, h.size, h.block⟩
theorem below_same {B : Nat} {a w w' : World} (h : Below B a w) (k : ∃ q, w' = w.drewN q) : Below B a w' := by
  obtain ⟨q, rfl⟩ := k; exact below_drewN h q
theorem same_trans {w wr w' : World} (h : ∃ q, wr = w.drewN q) (h' : ∃ q, w' = wr.drewN q) : ∃ q, w' = w.drewN q := by
  obtain ⟨q, rfl⟩ := h'; exact drewn h
theorem IntsAt.same {w w' : World} {a : Option Addr} {zs : List Int} (h : IntsAt w a zs) (k : ∃ q, w' = w.drewN q) : IntsAt w' a zs := h.below (below_same (Below.refl _ _) k)
theorem RowsAt.same {w w' : World} {a : Option Addr} {A : Nat → Option Addr} {C : Nat → Nat} {zss : List (List Int)} (h : RowsAt w a A C zss) (k : ∃ q, w' = w.drewN q) : RowsAt w' a A C zss := h.below (below_same (Below.refl _ _) k)

set_option maxHeartbeats 2000000 in
set_option maxRecDepth 100000 in
theorem specArenaOk_any (ao an : Option Addr) (O : List Int) (zss : List (List Int)) (co cn : Nat) (A : Nat → Option Addr) (C : Nat → Nat) (w : World) (hO : IntsAt w ao O) (hN : RowsAt w an A C zss) :
    Calls Tryd.prog 110 #[.agg #[.slice ao O.length co, .slice an zss.length cn]] w fun e w' => e = .returned (.bool (arenaB O zss)) ∧ Below w.heap.size w w' := by
  have hO1 := hO.alloc (.cells #[.slice ao O.length co, .slice an zss.length cn] 30)
  have hN1 := hN.alloc (.cells #[.slice ao O.length co, .slice an zss.length cn] 30)
  have hlO := hO.len
  have hlN := hN.len
  clear hO hN
  have HO := Lib.hid hO1
  have HN := Lib.hid hN1
  clear hO1 hN1
  by_cases h1 : O.length < 1
  · have HE : Hid (arenaB O zss = false) := arenaB_no fun h => by have := h.1; omega
    have HI := Lib.hid (l1In_is (inB_no (x := O.length) (lo := 1) (hi := 256) (by omega)))
    go_enter Tryd.func110, Tryd.ntmps110
    go_wp2_with (go_at_call 71; refine (HI.out _).mono ?_; rintro e w' ⟨rfl, rfl⟩)
    go_ret
    exact ⟨ret_bool HE.out.symm, below1 _ _⟩
  · by_cases h2 : 256 < O.length
    · have HE : Hid (arenaB O zss = false) := arenaB_no fun h => by have := h.2.1; omega
      have HI := Lib.hid (l1In_is (inB_no (x := O.length) (lo := 1) (hi := 256) (by omega)))
      go_enter Tryd.func110, Tryd.ntmps110
      go_wp2_with (go_at_call 71; refine (HI.out _).mono ?_; rintro e w' ⟨rfl, rfl⟩)
      go_ret
      exact ⟨ret_bool HE.out.symm, below1 _ _⟩
    · have HI := Lib.hid (l1In_is (inB_yes (x := O.length) (lo := 1) (hi := 256) (by omega) (by omega)))
      by_cases h3 : zss.length = O.length
      · have h3' : ((zss.length : Int) != (O.length : Int)) = false := by simp [h3]
        have HL := Lib.hid h3
        have h3a : zss.length ≤ O.length := by omega
        have h3b : O.length ≤ zss.length := by omega
        clear h3
        go_enter Tryd.func110, Tryd.ntmps110
        go_wp2_with (go_at_call 71; refine (HI.out _).mono ?_; rintro e w' ⟨rfl, rfl⟩)
        go_loopw [4] (fun i wr => ∃ k : Nat, k ≤ O.length ∧ i = .int .i64 k ∧ Hid (∀ j, j < k → VertexP O zss j) ∧ Hid (∃ q, wr = (w.alloc (.cells #[.slice ao O.length co, .slice an zss.length cn] 30)).drewN q)) (fun i _ => O.length - (intOf i).toNat)
        case atStart => exact ⟨0, Nat.zero_le _, rfl, fun j hj => absurd hj (Nat.not_lt_zero _), 0, rfl⟩
        case round =>
          obtain ⟨k, hk, rfl, HK, HW⟩ := hrel
          have hB : Hid (Below w.heap.size w wr) := below_same (below1 _ _) HW.out
          have hb0 : wr.cell? ⟨w.heap.size, 0, none⟩ = some (.slice ao O.length co) := by obtain ⟨q, hq⟩ := HW.out; rw [hq]; simp [World.cell?_alloc_at _ _ _ _ rfl]
          have hb1 : wr.cell? ⟨w.heap.size, 1, none⟩ = some (.slice an zss.length cn) := by obtain ⟨q, hq⟩ := HW.out; rw [hq]; simp [World.cell?_alloc_at _ _ _ _ rfl]
          by_cases hlt : k < O.length
          · obtain ⟨b, off, ha, hc⟩ := (HO.out.same HW.out).cell (by omega)
            subst ha
            have hck := hc k hlt
            clear hc
            obtain ⟨bn, offn, hn, hcn⟩ := (HN.out.same HW.out).cell (by omega)
            subst hn
            have hcnk := hcn k (by omega)
            clear hcn
            by_cases h4 : nth O k = 0 ∨ nth O k = 1
            · have HI' := Lib.hid (l1In_is (inB_yes (x := nth O k) (lo := 0) (hi := 1) (by omega) (by omega)))
              have H4 := Lib.hid h4
              clear h4
              have hltz : k < zss.length := by omega
              have HR := Lib.hid ((HN.out.same HW.out).rows k hltz)
              have hlr := HR.out.len
              by_cases h5 : (row zss k).length < 1
              · have HE : Hid (arenaB O zss = false) := arenaB_vertex hlt fun h => by have := h.2.1; omega
                go_wp2_with (go_at_call 71; refine (HI'.out _).mono ?_; rintro e w' ⟨rfl, rfl⟩)
                go_ret
                exact ⟨ret_bool HE.out.symm, hB.out⟩
              · by_cases h6 : 16 < (row zss k).length
                · have HE : Hid (arenaB O zss = false) := arenaB_vertex hlt fun h => by have := h.2.2.1; omega
                  go_wp2_with (go_at_call 71; refine (HI'.out _).mono ?_; rintro e w' ⟨rfl, rfl⟩)
                  go_ret
                  exact ⟨ret_bool HE.out.symm, hB.out⟩
                · by_cases h7 : setB O.length (row zss k) = true
                  · have HV : Hid (∀ j, j < k + 1 → VertexP O zss j) := fun j hj => by
                      by_cases hj' : j < k
                      · exact HK.out j hj'
                      · obtain rfl : j = k := by omega
                        exact ⟨H4.out, by omega, by omega, h7⟩
                    have HC' := Lib.hid (l1Set_is h7 (C k) _ HR.out (n := O.length) (by omega) (by omega))
                    clear h7
                    go_wp2_with (first | (go_at_call 71; refine (HI'.out _).mono ?_; rintro e w' ⟨rfl, rfl⟩) | (go_at_call 139; refine HC'.out.mono ?_; rintro e w' ⟨rfl, HW'⟩; have HX := Lib.hid (same_trans HW.out HW'); clear HW'))
                    go_roundw
                    case rel => exact ⟨k + 1, by omega, by go_num, HV, HX.out⟩
                    case measure => simp [intOf]; omega
                  · have h7' : setB O.length (row zss k) = false := by simpa using h7
                    have HE : Hid (arenaB O zss = false) := arenaB_vertex hlt fun h => h7 h.2.2.2
                    have HC' := Lib.hid (l1Set_is h7' (C k) _ HR.out (n := O.length) (by omega) (by omega))
                    clear h7 h7'
                    go_wp2_with (first | (go_at_call 71; refine (HI'.out _).mono ?_; rintro e w' ⟨rfl, rfl⟩) | (go_at_call 139; refine HC'.out.mono ?_; rintro e w' ⟨rfl, HW'⟩; have HX := Lib.hid (below_same hB.out HW'); clear HW'))
                    go_ret
                    exact ⟨ret_bool HE.out.symm, HX.out⟩
            · have HE : Hid (arenaB O zss = false) := arenaB_vertex hlt fun h => h4 h.1
              have HI' := Lib.hid (l1In_is (inB_no (x := nth O k) (lo := 0) (hi := 1) (by omega)))
              clear h4
              go_wp2_with (go_at_call 71; refine (HI'.out _).mono ?_; rintro e w' ⟨rfl, rfl⟩)
              go_ret
              exact ⟨ret_bool HE.out.symm, hB.out⟩
          · have HE : Hid (arenaB O zss = true) := arenaB_yes ⟨by omega, by omega, HL.out, fun j hj => HK.out j (by omega)⟩
            go_wp2
            go_ret
            exact ⟨ret_bool HE.out.symm, hB.out⟩
      · have HE : Hid (arenaB O zss = false) := arenaB_no fun h => h3 h.2.2.1
        have h3' : ((zss.length : Int) != (O.length : Int)) = true := by simp; omega
        clear h3
        go_enter Tryd.func110, Tryd.ntmps110
        go_wp2_with (go_at_call 71; refine (HI.out _).mono ?_; rintro e w' ⟨rfl, rfl⟩)
        go_ret
        exact ⟨ret_bool HE.out.symm, below1 _ _⟩

theorem specArenaOk_at {w : World} {v : Value} {O : List Int} {zss : List (List Int)} {r : Bool} (hr : arenaB O zss = r) (h : ArenaAt w v O zss) :
    Calls Tryd.prog 110 #[v] w fun e w' => e = .returned (.bool r) ∧ Below w.heap.size w w' := by
  obtain ⟨ao, an, co, cn, A, C, rfl, h1, h2⟩ := h
  subst hr
  exact specArenaOk_any ao an O zss co cn A C w h1 h2

theorem ArenaAt.same {w w' : World} {v : Value} {O : List Int} {zss : List (List Int)} (h : ArenaAt w v O zss) (k : ∃ q, w' = w.drewN q) : ArenaAt w' v O zss := h.below (below_same (Below.refl _ _) k)

end Go.Proofs.YtphkgnpkcfbnkabDoor
