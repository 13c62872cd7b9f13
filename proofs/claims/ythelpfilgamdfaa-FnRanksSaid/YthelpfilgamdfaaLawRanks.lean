/-
  The walk of the law FnRanks.
-/
import Derived.Test.YthelpfilgamdfaaDrawRanks
import Derived.Test.YthelpfilgamdfaaRanksMath
import Derived.Test.YthelpfilgamdfaaAttractImpl
import Derived.Test.YthelpfilgamdfaaPullImpl
import Derived.Test.YthelpfilgamdfaaDrawTwo
import Derived.Deep.RegionHeld3
namespace Go.Proofs.Ythelpfilgamdfaa
open Go.RowKit

theorem hasIn_at {w : World} {a : Option Addr} {zs : List Int} {n : Int} {r : Bool} (hr : hasIn zs n = r) (cap : Nat) (h : IntsAt w a zs) :
    Calls Try.prog 21 #[.slice a zs.length cap, .int .i64 n] w fun e w' => e = .returned (.bool r) ∧ Below w.heap.size w w' :=
  (specHasIn_is hr cap h).mono fun _ _ ⟨he, hq⟩ => ⟨he, below_same (Below.refl _ _) hq⟩

/-- What is given reads as a table. -/
theorem given_table {w w' : World} {v : Value} {N : Nat} {f : Nat → Int} (h : OwnInts w' w.heap.size w'.heap.size v (fnL N f)) : ∃ a cap, v = .slice a N cap ∧ IntsAt w' a (fnL N f) := by
  obtain ⟨a, cap, hv, hi, -⟩ := h.shape
  rw [fnL_len] at hv
  exact ⟨a, cap, hv, hi⟩

theorem table_cell {w : World} {a : Option Addr} {N : Nat} {f : Nat → Int} (h : IntsAt w a (fnL N f)) (hN : 0 < N) : ∃ b off, a = some ⟨b, off, none⟩ ∧ ∀ W', Below w.heap.size w W' → ∀ i, i < N → W'.cell? ⟨b, off + i, none⟩ = some (.int .i64 (f i)) := by
  obtain ⟨b, off, ha, hc⟩ := h.cell (by rw [fnL_len]; exact hN)
  refine ⟨b, off, ha, fun W' hb i hi => ?_⟩
  have h1 := hc i (by rw [fnL_len]; exact hi)
  rw [fnL_nth hi] at h1
  exact (hb.cell (World.block_lt_of_cell? _ _ h1)).trans h1

set_option maxHeartbeats 8000000 in
set_option maxRecDepth 100000 in
theorem lawRanks {w : World} {ab : Option Addr} {cb : Nat} {bs : List Int} (hby : BytesAt w ab bs) :
    Calls Try.prog 4 #[.slice ab bs.length cb] w fun e w' => e = .returned (.bool true) ∧ Below w.heap.size w w' := by
  have HY := Lib.hid hby
  have hbl := hby.len
  clear hby
  by_cases hbig : 4096 < (bs.length : Int)
  · have HG := Lib.hid (big_is (w := w) (ab := ab) (cb := cb) (decide_eq_true hbig))
    clear hbig
    go_enter Try.func4, Try.ntmps4
    go_wp2_with (go_at_call 10; refine HG.out.mono ?_; rintro e w' ⟨rfl, rfl⟩)
    go_ret
    exact ⟨rfl, Below.refl _ _⟩
  have HG := Lib.hid (big_is (w := w) (ab := ab) (cb := cb) (decide_eq_false hbig))
  have HDr := Lib.hid (DrawRanksIn_is (cb := cb) HY.out (by omega))
  clear hbig HY
  go_enter Try.func4, Try.ntmps4
  go_wp2_with fail
  refine HG.out.mono ?_
  rintro e w' ⟨rfl, rfl⟩
  go_wp2_with fail
  refine HDr.out.mono ?_
  rintro e w1 ⟨v, n0, u1, u2, O, zss, In, G, rfl, hA, hU1, hU2, hl1, hl2, hlO, hn0, hn1, hb⟩
  obtain ⟨ia, ic, rfl, hii⟩ := hU1
  obtain ⟨ga, gc, rfl, hgi⟩ := hU2
  have A1 := Lib.hid hA
  obtain ⟨ao, an, co, cn, A, C, rfl, -, -⟩ := hA
  have B1 := Lib.hid hb
  have I1 := Lib.hid hii
  have G1 := Lib.hid hgi
  clear hb hii hgi HG HDr
  obtain ⟨N, F, P, hall⟩ := ranks_all O zss n0 In G
  have HALL := Lib.hid hall
  have hNO := hall.le
  have hNb := hall.big
  clear hall
  go_wp2_with fail
  obtain ⟨w2, hw2⟩ : ∃ y, y = w1.alloc (.cells #[.slice ao O.length co, .slice an zss.length cn] 30) := ⟨_, rfl⟩
  rw [← hw2]
  have hb2 : Below w1.heap.size w1 w2 := by rw [hw2]; exact below1 _ _
  have T2 : Hid (Box2 w2 w1.heap.size 30 (.slice ao O.length co) (.slice an zss.length cn)) := by rw [hw2]; exact Box2.new _ _ _ _
  have A2 := Lib.hid (A1.out.below hb2)
  have I2 := Lib.hid (I1.out.below hb2)
  have G2 := Lib.hid (G1.out.below hb2)
  have B2 := Lib.hid (B1.out.trans (hb2.mono B1.out.size))
  clear hw2 hb2 A1 I1 G1 B1
  refine (RanksIn_is ic gc HALL.out.r A2.out I2.out G2.out).mono ?_
  rintro e w3 ⟨rv, rfl, hrv, hb⟩
  obtain ⟨ra, rc, hrs, hri⟩ := given_table hrv
  subst hrs
  have R3 := Lib.hid hri
  have T3 := Lib.hid (T2.out.below hb)
  have A3 := Lib.hid (A2.out.below hb)
  have I3 := Lib.hid (I2.out.below hb)
  have G3 := Lib.hid (G2.out.below hb)
  have B3 := Lib.hid (B2.out.trans (hb.mono B2.out.size))
  clear hrv hri hb T2 A2 I2 G2 B2
  have t0 := T3.out.cell0
  have t1 := T3.out.cell1
  go_wp2_with fail
  refine (PullIn_is ic gc HALL.out.p A3.out I3.out G3.out).mono ?_
  rintro e w4 ⟨pv, rfl, hpv, hb⟩
  obtain ⟨pa, pc, hps, hpi⟩ := given_table hpv
  subst hps
  have P4 := Lib.hid hpi
  have R4 := Lib.hid (R3.out.below hb)
  have T4 := Lib.hid (T3.out.below hb)
  have A4 := Lib.hid (A3.out.below hb)
  have I4 := Lib.hid (I3.out.below hb)
  have G4 := Lib.hid (G3.out.below hb)
  have B4 := Lib.hid (B3.out.trans (hb.mono B3.out.size))
  clear hpv hpi hb R3 T3 A3 I3 G3 B3 t0 t1
  have t0 := T4.out.cell0
  have t1 := T4.out.cell1
  go_wp2_with fail
  refine (Attract_is ic gc HALL.out.s A4.out I4.out G4.out).mono ?_
  rintro e w5 ⟨sv, rfl, hsv, hb⟩
  obtain ⟨sa, sc, hss, hsi, -⟩ := hsv.shape
  subst hss
  have S5 := Lib.hid hsi
  have P5 := Lib.hid (P4.out.below hb)
  have R5 := Lib.hid (R4.out.below hb)
  have T5 := Lib.hid (T4.out.below hb)
  have A5 := Lib.hid (A4.out.below hb)
  have I5 := Lib.hid (I4.out.below hb)
  have G5 := Lib.hid (G4.out.below hb)
  have B5 := Lib.hid (B4.out.trans (hb.mono B4.out.size))
  clear hsv hsi hb P4 R4 T4 A4 I4 G4 B4 t0 t1
  have t0 := T5.out.cell0
  have t1 := T5.out.cell1
  go_wp2_with fail
  refine (specRanksIn_is ic gc HALL.out.r A5.out I5.out G5.out).mono ?_
  rintro e w6 ⟨zv, rfl, hzv, hb⟩
  obtain ⟨za, zc, hzs, hzi⟩ := given_table hzv
  subst hzs
  have Z6 := Lib.hid hzi
  have S6 := Lib.hid (S5.out.below hb)
  have P6 := Lib.hid (P5.out.below hb)
  have R6 := Lib.hid (R5.out.below hb)
  have T6 := Lib.hid (T5.out.below hb)
  have A6 := Lib.hid (A5.out.below hb)
  have B6 := Lib.hid (B5.out.trans (hb.mono B5.out.size))
  clear hzv hzi hb S5 P5 R5 T5 A5 I5 G5 B5 t0 t1
  have hlen : (fnL N F).length = N := fnL_len N F
  have HLK := Lib.hid (likeInts_at (w := w6) (v := .slice ra N rc) (v' := .slice za N zc) ⟨ra, rc, by rw [hlen], R6.out⟩ ⟨za, zc, by rw [hlen], Z6.out⟩)
  have hnn : ((N : Int) != (N : Int)) = false := by simp
  clear hlen
  go_wp2_with fail
  refine HLK.out.mono ?_
  rintro e w7 ⟨rfl, hb⟩
  have S7 := Lib.hid (S6.out.below hb)
  have P7 := Lib.hid (P6.out.below hb)
  have R7 := Lib.hid (R6.out.below hb)
  have T7 := Lib.hid (T6.out.below hb)
  have A7 := Lib.hid (A6.out.below hb)
  have B7 := Lib.hid (B6.out.trans (hb.mono B6.out.size))
  have K7 := Lib.hid (Below.refl w7.heap.size w7)
  clear hb S6 P6 R6 T6 A6 B6 Z6 HLK
  have hml := markedK_len (fun v => decide (0 ≤ F v)) N
  go_wp2
  go_loopw [10, 11] (fun mv iv wr => ∃ k : Nat, k ≤ N ∧ iv = .int .i64 k ∧ mv = .int .i64 ((markedK (fun v => decide (0 ≤ F v)) k).length : Nat) ∧ Hid (Below w7.heap.size w7 wr)) (fun _ iv _ => N - (intOf iv).toNat)
  case atStart => exact ⟨0, Nat.zero_le _, rfl, rfl, K7⟩
  case round =>
    clear K7
    obtain ⟨k, hk, rfl, rfl, HK⟩ := hrel
    by_cases hlt : k < N
    · have hi1 : (k : Int) < N := by omega
      have hk0 : (0 : Int) ≤ (k : Int) := by omega
      obtain ⟨rb, ro, hra, hrc⟩ := table_cell R7.out (by omega)
      obtain ⟨pb, po, hpa, hpc⟩ := table_cell P7.out (by omega)
      obtain ⟨ao', an', co', cn', A', C', hae, hoi, -⟩ := A7.out
      simp only [Value.agg.injEq, Array.mk.injEq, List.cons.injEq, Value.slice.injEq, and_true] at hae
      obtain ⟨⟨hao, -⟩, -⟩ := hae
      rw [← hao] at hoi
      obtain ⟨ob, oo, hoa, hoc⟩ := hoi.cell (by omega)
      have HRC := Lib.hid hrc
      have HPC := Lib.hid hpc
      have HOC := Lib.hid (fun W' (hb : Below w7.heap.size w7 W') => (hb.cell (World.block_lt_of_cell? _ _ (hoc k (by omega)))).trans (hoc k (by omega)))
      subst hra
      subst hpa
      subst hoa
      clear hrc hpc hoc hoi hao
      have hkO : (k : Int) < O.length := by omega
      obtain ⟨q, hq⟩ : ∃ q, q = F k := ⟨_, rfl⟩
      obtain ⟨pp, hpp⟩ : ∃ pp, pp = P k := ⟨_, rfl⟩
      obtain ⟨ow, how⟩ : ∃ ow, ow = nth O k := ⟨_, rfl⟩
      have HQ := Lib.hid hq
      have HPP := Lib.hid hpp
      have HOW := Lib.hid how
      obtain ⟨b1, b2, b3, b4⟩ := HALL.out.bound k hlt
      rw [← hq] at b1 b2
      rw [← hpp] at b3 b4
      have HHS := Lib.hid (HALL.out.has k hlt)
      rw [← hq] at HHS
      have HPU := Lib.hid (HALL.out.pull k hlt)
      rw [← hq, ← hpp, ← how] at HPU
      have HNO := Lib.hid (HALL.out.none k hlt)
      rw [← hq, ← hpp, ← how] at HNO
      have hmk : (markedK (fun v => decide (0 ≤ F v)) k).length ≤ k := markedK_len _ _
      have HMK : Hid ((markedK (fun v => decide (0 ≤ F v)) (k + 1)).length = (markedK (fun v => decide (0 ≤ F v)) k).length + (if 0 ≤ q then 1 else 0)) := by
        simp only [Hid, markedK, List.length_append, ← HQ.out, decide_eq_true_eq]
        split <;> simp
      rw [← how] at HOC
      have HRk : Hid (∀ W', Below w7.heap.size w7 W' → W'.cell? ⟨rb, ro + k, none⟩ = some (.int .i64 q)) := fun W' hb => by rw [hq]; exact HRC.out W' hb k hlt
      have HPk : Hid (∀ W', Below w7.heap.size w7 W' → W'.cell? ⟨pb, po + k, none⟩ = some (.int .i64 pp)) := fun W' hb => by rw [hpp]; exact HPC.out W' hb k hlt
      obtain ⟨m, hm⟩ : ∃ m, m = (markedK (fun v => decide (0 ≤ F v)) k).length := ⟨_, rfl⟩
      rw [← hm] at HMK hmk ⊢
      have HD : Hid (Below w7.heap.size w7 wr.drew) := HK.out.trans (Below.refl _ _).drew
      have r1 := HRk.out _ HK.out
      clear hq hpp how hm
      by_cases hp0 : 0 ≤ pp
      · have hq0 : 0 < q := by
          obtain ⟨y, _, _, _, _, h⟩ := HPU.out hp0
          exact h
        have HHV : Hid (hasIn (markedK (fun v => decide (0 ≤ F v)) N) (k : Int) = true) := by rw [HHS.out]; exact decide_eq_true (by omega)
        have hmm : (markedK (fun v => decide (0 ≤ F v)) (k + 1)).length = m + 1 := by rw [HMK.out]; simp; omega
        have HMM := Lib.hid hmm
        have g1 : 0 ≤ q := by omega
        clear hmm
        go_wp2_with fail
        go_region_held3 (fun w' => w'.cell? ⟨rb, ro + k, none⟩ = some (.int .i64 q))
          (first
            | go_keep
            | exact d1)
          (first
            | (go_at_call 21; refine (hasIn_at HHV.out sc (S7.out.below HD.out)).mono ?_; rintro e w8 ⟨rfl, hb⟩; have K8 := Lib.hid (HD.out.trans (hb.mono HD.out.size)); have d1 := HRk.out _ K8.out; clear hb))
        clear r1
        have p1 := HPk.out _ K8.out
        obtain ⟨y, hy1, hy2, hy3, hy4, -⟩ := HPU.out (by omega)
        obtain ⟨z, hz⟩ : ∃ z, z = F y := ⟨_, rfl⟩
        have hyc : w8.cell? ⟨rb, ro + y, none⟩ = some (.int .i64 z) := by rw [hz]; exact HRC.out _ K8.out y hy2
        rw [← hz] at hy3
        clear hz
        have o2 := HOC.out _ K8.out
        have t2 := (T7.out.below K8.out).cell0
        rw [hy1] at p1
        have g2 : decide ((0 : Int) ≤ (y : Int)) = true := decide_eq_true (by omega)
        have g3 : decide (N ≤ y) = false := decide_eq_false (by omega)
        have gw : IntKind.i64.wrap (q - 1) = q - 1 := by simp [IntKind.wrap, IntKind.bits, IntKind.signed]; omega
        have g4 : (z != q - 1) = false := by rw [hy3]; simp
        have g5 : (ow != n0) = false := by simp [hy4]
        have g6 : (y : Int) < N := by omega
        have g7 : (0 : Int) ≤ (y : Int) := by omega
        have HY1 := Lib.hid hy1
        clear hy1 hy3 hy4
        go_wp2
        go_quiet (fail)
        obtain ⟨w9, hw9⟩ : ∃ y, y = w8.drewN nq := ⟨_, rfl⟩
        rw [← hw9]
        have K9 : Hid (Below w7.heap.size w7 w9) := by rw [hw9]; exact below_drewN K8.out nq
        clear hw9 d1 p1 hyc o2 t2 g2 g3 g4 g5 gw
        have p1 := HPk.out _ K9.out
        have d1 := HRk.out _ K9.out
        have o1 := HOC.out _ K9.out
        have t0 := (T7.out.below K9.out).cell0
        have g8 : decide (pp < 0) = false := decide_eq_false (by omega)
        go_wp2
        go_roundw
        case rel => exact ⟨k + 1, by omega, by go_num, by rw [HMM.out]; go_num, K9⟩
        case measure => simp [intOf]; omega
      · by_cases hq0 : 0 < q
        · skip
          have HHV : Hid (hasIn (markedK (fun v => decide (0 ≤ F v)) N) (k : Int) = true) := by rw [HHS.out]; exact decide_eq_true (by omega)
          have hmm : (markedK (fun v => decide (0 ≤ F v)) (k + 1)).length = m + 1 := by rw [HMK.out]; simp; omega
          have HMM := Lib.hid hmm
          have g1 : 0 ≤ q := by omega
          clear hmm
          go_wp2_with fail
          go_region_held3 (fun w' => w'.cell? ⟨rb, ro + k, none⟩ = some (.int .i64 q))
            (first
              | go_keep
              | exact d1)
            (first
              | (go_at_call 21; refine (hasIn_at HHV.out sc (S7.out.below HD.out)).mono ?_; rintro e w8 ⟨rfl, hb⟩; have K8 := Lib.hid (HD.out.trans (hb.mono HD.out.size)); have d1 := HRk.out _ K8.out; clear hb))
          clear r1
          have p1 := HPk.out _ K8.out
          have g2 : decide (0 ≤ pp) = false := decide_eq_false (by omega)
          go_wp2
          go_quiet (fail)
          obtain ⟨w9, hw9⟩ : ∃ y, y = w8.drewN nq := ⟨_, rfl⟩
          rw [← hw9]
          have K9 : Hid (Below w7.heap.size w7 w9) := by rw [hw9]; exact below_drewN K8.out nq
          clear hw9 d1 p1 g2
          have p1 := HPk.out _ K9.out
          have d1 := HRk.out _ K9.out
          have o1 := HOC.out _ K9.out
          have t0 := (T7.out.below K9.out).cell0
          have g8 : decide (pp < 0) = true := decide_eq_true (by omega)
          have g9 : decide (0 < q) = true := decide_eq_true (by omega)
          have g10 : (ow == n0) = false := beq_eq_false_iff_ne.2 (HNO.out (by omega) (by omega))
          go_wp2
          go_roundw
          case rel => exact ⟨k + 1, by omega, by go_num, by rw [HMM.out]; go_num, K9⟩
          case measure => simp [intOf]; omega
        · by_cases hq1 : 0 ≤ q
          · skip
            have HHV : Hid (hasIn (markedK (fun v => decide (0 ≤ F v)) N) (k : Int) = true) := by rw [HHS.out]; exact decide_eq_true (by omega)
            have hmm : (markedK (fun v => decide (0 ≤ F v)) (k + 1)).length = m + 1 := by rw [HMK.out]; simp; omega
            have HMM := Lib.hid hmm
            have g1 : 0 ≤ q := by omega
            clear hmm
            go_wp2_with fail
            go_region_held3 (fun w' => w'.cell? ⟨rb, ro + k, none⟩ = some (.int .i64 q))
              (first
                | go_keep
                | exact d1)
              (first
                | (go_at_call 21; refine (hasIn_at HHV.out sc (S7.out.below HD.out)).mono ?_; rintro e w8 ⟨rfl, hb⟩; have K8 := Lib.hid (HD.out.trans (hb.mono HD.out.size)); have d1 := HRk.out _ K8.out; clear hb))
            clear r1
            have p1 := HPk.out _ K8.out
            have g2 : decide (0 ≤ pp) = false := decide_eq_false (by omega)
            go_wp2
            go_quiet (fail)
            obtain ⟨w9, hw9⟩ : ∃ y, y = w8.drewN nq := ⟨_, rfl⟩
            rw [← hw9]
            have K9 : Hid (Below w7.heap.size w7 w9) := by rw [hw9]; exact below_drewN K8.out nq
            clear hw9 d1 p1 g2
            have p1 := HPk.out _ K9.out
            have d1 := HRk.out _ K9.out
            have o1 := HOC.out _ K9.out
            have t0 := (T7.out.below K9.out).cell0
            have g8 : decide (pp < 0) = true := decide_eq_true (by omega)
            have g9 : decide (0 < q) = false := decide_eq_false (by omega)
            go_wp2
            go_roundw
            case rel => exact ⟨k + 1, by omega, by go_num, by rw [HMM.out]; go_num, K9⟩
            case measure => simp [intOf]; omega
          · skip
            have HHV : Hid (hasIn (markedK (fun v => decide (0 ≤ F v)) N) (k : Int) = false) := by rw [HHS.out]; exact decide_eq_false (by omega)
            have hmm : (markedK (fun v => decide (0 ≤ F v)) (k + 1)).length = m + 0 := by rw [HMK.out]; simp; omega
            have HMM := Lib.hid hmm
            have g1 : ¬ 0 ≤ q := by omega
            clear hmm
            go_wp2_with fail
            go_region_held3 (fun w' => w'.cell? ⟨rb, ro + k, none⟩ = some (.int .i64 q))
              (first
                | go_keep
                | exact d1)
              (first
                | (go_at_call 21; refine (hasIn_at HHV.out sc (S7.out.below HD.out)).mono ?_; rintro e w8 ⟨rfl, hb⟩; have K8 := Lib.hid (HD.out.trans (hb.mono HD.out.size)); have d1 := HRk.out _ K8.out; clear hb))
            clear r1
            have p1 := HPk.out _ K8.out
            have g2 : decide (0 ≤ pp) = false := decide_eq_false (by omega)
            go_wp2
            go_quiet (fail)
            obtain ⟨w9, hw9⟩ : ∃ y, y = w8.drewN nq := ⟨_, rfl⟩
            rw [← hw9]
            have K9 : Hid (Below w7.heap.size w7 w9) := by rw [hw9]; exact below_drewN K8.out nq
            clear hw9 d1 p1 g2
            have p1 := HPk.out _ K9.out
            have d1 := HRk.out _ K9.out
            have o1 := HOC.out _ K9.out
            have t0 := (T7.out.below K9.out).cell0
            have g8 : decide (pp < 0) = true := decide_eq_true (by omega)
            have g9 : decide (0 < q) = false := decide_eq_false (by omega)
            go_wp2
            go_roundw
            case rel => exact ⟨k + 1, by omega, by go_num, by rw [HMM.out]; go_num, K9⟩
            case measure => simp [intOf]; omega
    · have hi1 : ¬ (k : Int) < N := by omega
      have hkk : k = N := by omega
      subst hkk
      have hfin := Lib.hid (B7.out.trans (HK.out.mono B7.out.size))
      go_wp2
      go_ret
      exact ⟨by simp, hfin.out⟩

end Go.Proofs.Ythelpfilgamdfaa
