/-
  The walk of the law FnChecked.
-/
import Derived.Test.YtokcinhopajniaaGreatDoorCheckImpl
import Derived.Test.YtokcinhopajniaaGreatDoorWinsSpec
import Derived.Test.YtokcinhopajniaaGreatDoorDrawWins
import Derived.Test.YtokcinhopajniaaGreatDoorPlaySpec
import Derived.Test.YtokcinhopajniaaGreatDoorWonSpec
import Derived.Test.YtokcinhopajniaaGreatDoorPlayTrue
import Derived.Test.YtokcinhopajniaaGreatDoorDiceSet
import Derived.Test.YtokcinhopajniaaGreatDoorKitGame
import Derived.Deep.RegionHeld3
namespace Go.Proofs.YtokcinhopajniaaGreatDoor
open Go.RowKit

/-- A plan's choices over another plan's, for the first k vertices. -/
def overF (Q : List Int) (F : Nat → Int) (k : Nat) : Nat → Int := fun j => if j < k ∧ 0 ≤ nth Q j then nth Q j else F j
theorem overF_zero (Q : List Int) (F : Nat → Int) : overF Q F 0 = F := funext fun j => by unfold overF; simp
theorem overF_yes {Q : List Int} {F : Nat → Int} {n k : Nat} (h : 0 ≤ nth Q k) : (fnL n (overF Q F k)).set k (nth Q k) = fnL n (overF Q F (k + 1)) := by
  rw [fnL_set]
  refine fnL_congr fun i _ => ?_
  unfold overF
  by_cases e : i = k
  · subst e; simp [h]
  · rw [if_neg e]
    by_cases hj : 0 ≤ nth Q i
    · have : (i < k ∧ 0 ≤ nth Q i) ↔ (i < k + 1 ∧ 0 ≤ nth Q i) := by omega
      simp only [this]
    · simp [hj]
theorem overF_no {Q : List Int} {F : Nat → Int} {n k : Nat} (h : ¬ 0 ≤ nth Q k) : fnL n (overF Q F k) = fnL n (overF Q F (k + 1)) := by
  refine fnL_congr fun i _ => ?_
  unfold overF
  by_cases e : i = k
  · subst e; simp [h]
  · have : (i < k ∧ 0 ≤ nth Q i) ↔ (i < k + 1 ∧ 0 ≤ nth Q i) := by omega
    simp only [this]
theorem overF_plan {O Q : List Int} {zss : List (List Int)} {who : Int} {F : Nat → Int} (hQ : PlanP O zss who Q) (h : PlanTo O zss who O.length F) : PlanTo O zss who O.length (overF Q F O.length) := fun j hj => by
  have h1 := hQ.2 j (by rw [hQ.1]; exact hj)
  unfold PlanV at h1
  unfold overF
  by_cases e : 0 ≤ nth Q j
  · rw [if_pos ⟨hj, e⟩]
    rcases h1 with h1 | h1
    · omega
    · exact ⟨fun _ => h1.2, fun hn => absurd h1.1 hn⟩
  · rw [if_neg (fun hh => e hh.2)]
    exact h j hj
theorem overF_at {Q : List Int} {F : Nat → Int} {n u : Nat} (hu : u < n) (h : 0 ≤ nth Q u) : nth (fnL n (overF Q F n)) u = nth Q u := by
  rw [fnL_nth hu]; unfold overF; rw [if_pos ⟨hu, h⟩]

set_option maxHeartbeats 16000000 in
set_option maxRecDepth 100000 in
theorem lawFnChecked {w : World} {ab : Option Addr} {cb : Nat} {bs : List Int} (hby : BytesAt w ab bs) (hErr : ErrB w) :
    Calls Tryz.prog 3 #[.slice ab bs.length cb] w fun e w' => e = .returned (.bool true) ∧ Below w.heap.size w w' := by
  have HErr := Lib.hid hErr
  clear hErr
  have HY := Lib.hid hby
  have hbl := hby.len
  clear hby
  by_cases hbig : 4096 < (bs.length : Int)
  · have HG := Lib.hid (big_is (w := w) (ab := ab) (cb := cb) (decide_eq_true hbig))
    clear hbig
    go_enter Tryz.func3, Tryz.ntmps3
    go_wp2_with (go_at_call 9; refine HG.out.mono ?_; rintro e w' ⟨rfl, rfl⟩)
    go_ret
    exact ⟨rfl, Below.refl _ _⟩
  have HG := Lib.hid (big_is (w := w) (ab := ab) (cb := cb) (decide_eq_false hbig))
  have HRo := Lib.hid (roll_is (cb := cb) (s := 606) HY.out (by omega))
  have hb4 : bs.length ≤ 4096 := by omega
  clear hbig
  go_enter Tryz.func3, Tryz.ntmps3
  go_wp2_with fail
  refine HG.out.mono ?_
  rintro e w' ⟨rfl, rfl⟩
  go_wp2_with fail
  refine HRo.out.mono ?_
  rintro e w1 ⟨h1, rfl, hd1, hb⟩
  have B1 := Lib.hid hb
  have D1 := Lib.hid hd1
  have hp1 : w.heap.size < w1.heap.size := hd1.lt
  have HY1 := Lib.hid (HY.out.below hb)
  clear hd1 hb HG HRo HY
  go_wp2_with fail
  refine (specDrawWinsBy_is HY1.out hb4).mono ?_
  rintro e w2 ⟨ao, an, ap, co, cn, cp, A, C, O, zss, P, who, aS, cS, S, aQ, cQ, Q, rfl, hR, hwho, hO3, hZ3, hP3, hb⟩
  have HR := Lib.hid hR
  have HWX : Hid (IntKind.i64.wrap (1 - who) = 1 - who) := IntWalk.i64_in _ (by omega)
  have HW0 : Hid (0 ≤ who ∧ who ≤ 1) := by unfold Hid; omega
  have HW1 : Hid (0 ≤ 1 - who ∧ 1 - who ≤ 1) := by unfold Hid; omega
  have hs2 : w1.heap.size ≤ w2.heap.size := hb.size
  have B2 := Lib.hid (B1.out.trans (hb.mono B1.out.size))
  have D2 := Lib.hid (D1.out.below hb)
  obtain ⟨w3, hw3⟩ : ∃ y, y = w2.alloc (.cells #[.slice ao O.length co, .slice an zss.length cn, .slice ap P.length cp] 32) := ⟨_, rfl⟩
  have HW3 := Lib.hid hw3
  have hb3 : Below w2.heap.size w2 w3 := by rw [hw3]; exact below1 _ _
  have T3 : Hid (Box3 w3 w2.heap.size 32 (.slice ao O.length co) (.slice an zss.length cn) (.slice ap P.length cp)) := by rw [hw3]; exact Box3.new _ _ _ _ _
  have B3 := Lib.hid (B2.out.trans (hb3.mono B2.out.size))
  have D3 := Lib.hid (D2.out.below hb3)
  have K3 : Hid (Only (fun b => b < w1.heap.size) w2 w3) := Only.of_below hb3
  have HGt : Hid (∀ W, Only (fun b => b < w1.heap.size) w2 W → GameAt W (.agg #[.slice ao O.length co, .slice an zss.length cn, .slice ap P.length cp]) O zss P) := fun W ho => ⟨_, _, _, _, _, _, _, _, rfl, (HR.out W ho).1, (HR.out W ho).2.1, (HR.out W ho).2.2.1⟩
  have HAt : Hid (∀ W, Only (fun b => b < w1.heap.size) w2 W → ArenaAt W (.agg #[.slice ao O.length co, .slice an zss.length cn]) O zss) := fun W ho => (HGt.out W ho).arenaC
  have HSt : Hid (∀ W, Only (fun b => b < w1.heap.size) w2 W → IntsAt W aS S) := fun W ho => (HR.out W ho).2.2.2.1
  have HQt : Hid (∀ W, Only (fun b => b < w1.heap.size) w2 W → IntsAt W aQ Q) := fun W ho => (HR.out W ho).2.2.2.2
  obtain ⟨b, hwb⟩ : ∃ b, winsB O zss P who S Q = b := ⟨_, rfl⟩
  obtain ⟨bl, hbl'⟩ : ∃ x, badL O zss P who S Q = x := ⟨_, rfl⟩
  have HWb := Lib.hid hwb
  have HBl := Lib.hid hbl'
  have c0 := T3.out.c0
  have c1 := T3.out.c1
  have c2 := T3.out.c2
  rw [hw3] at c0 c1 c2
  clear hR hb hw3 hb3 hwb hbl' D1 D2
  go_wp2_with fail
  rw [← HW3.out]
  refine (WinsBy_is (HErr.out.below B3.out).1 cS cQ HWb.out (HGt.out w3 K3.out) (HSt.out w3 K3.out) (HQt.out w3 K3.out)).mono ?_
  rintro e w4 ⟨rfl, hb⟩
  have T4 := Lib.hid (T3.out.below hb)
  have B4 := Lib.hid (B3.out.trans (hb.mono B3.out.size))
  have D4 := Lib.hid (D3.out.below hb)
  have hk4 : Only (fun b => b < w1.heap.size) w3 w4 := Only.of_below hb
  have K4 := Lib.hid (K3.out.trans hk4)
  clear hb hk4 T3 B3 D3 K3 c0 c1 c2
  have c0 := T4.out.c0
  have c1 := T4.out.c1
  have c2 := T4.out.c2
  go_wp2_with fail
  refine (BadLoops_is (HErr.out.below B4.out) cS cQ HBl.out (HGt.out w4 K4.out) (HSt.out w4 K4.out) (HQt.out w4 K4.out)).mono ?_
  rintro e w5 ⟨vx, rfl, hx, hb⟩
  obtain ⟨xa, xc, hxs, hxi, _⟩ := hx.shape
  subst hxs
  have X5 := Lib.hid hxi
  have T5 := Lib.hid (T4.out.below hb)
  have B5 := Lib.hid (B4.out.trans (hb.mono B4.out.size))
  have D5 := Lib.hid (D4.out.below hb)
  have hk5 : Only (fun b => b < w1.heap.size) w4 w5 := Only.of_below hb
  have K5 := Lib.hid (K4.out.trans hk5)
  clear hb hk5 hx hxi T4 B4 D4 K4 c0 c1 c2
  have c0 := T5.out.c0
  have c1 := T5.out.c1
  have c2 := T5.out.c2
  go_wp2_with fail
  refine (specWinsBy_is cS cQ HWb.out (HGt.out w5 K5.out) (HSt.out w5 K5.out) (HQt.out w5 K5.out)).mono ?_
  rintro e w6 ⟨rfl, hb⟩
  have X6 := Lib.hid (X5.out.below hb)
  have T6 := Lib.hid (T5.out.below hb)
  have B6 := Lib.hid (B5.out.trans (hb.mono B5.out.size))
  have D6 := Lib.hid (D5.out.below hb)
  have hk6 : Only (fun b => b < w1.heap.size) w5 w6 := Only.of_below hb
  have K6 := Lib.hid (K5.out.trans hk6)
  have hbb : (b != b) = false := by simp
  clear hb hk6 X5 T5 B5 D5 K5 c0 c1 c2
  have c0 := T6.out.c0
  have c1 := T6.out.c1
  have c2 := T6.out.c2
  go_wp2_with fail
  refine (specBadLoops_is cS cQ HBl.out (HGt.out w6 K6.out) (HSt.out w6 K6.out) (HQt.out w6 K6.out)).mono ?_
  rintro e w7 ⟨vx, rfl, hx, hb⟩
  obtain ⟨ya, yc, hxs, hxi, _⟩ := hx.shape
  subst hxs
  have Y7 := Lib.hid hxi
  have X7 := Lib.hid (X6.out.below hb)
  have T7 := Lib.hid (T6.out.below hb)
  have B7 := Lib.hid (B6.out.trans (hb.mono B6.out.size))
  have D7 := Lib.hid (D6.out.below hb)
  have hk7 : Only (fun b => b < w1.heap.size) w6 w7 := Only.of_below hb
  have K7 := Lib.hid (K6.out.trans hk7)
  clear hb hk7 hx hxi X6 T6 B6 D6 K6 c0 c1 c2
  go_wp2_with fail
  refine (likeInts_at ⟨xa, xc, rfl, X7.out⟩ ⟨ya, yc, rfl, Y7.out⟩).mono ?_
  rintro e w8 ⟨rfl, hb⟩
  have T8 := Lib.hid (T7.out.below hb)
  have B8 := Lib.hid (B7.out.trans (hb.mono B7.out.size))
  have D8 := Lib.hid (D7.out.below hb)
  have hk8 : Only (fun b => b < w1.heap.size) w7 w8 := Only.of_below hb
  have K8 := Lib.hid (K7.out.trans hk8)
  clear hb hk8 X7 Y7 T7 B7 D7 K7 hbb
  have c0 := T8.out.c0
  have c1 := T8.out.c1
  have c2 := T8.out.c2
  cases b with
  | false =>
    obtain ⟨b1, hb1⟩ : ∃ b, cleanB O zss P who S Q = b := ⟨_, rfl⟩
    obtain ⟨b2, hb2⟩ : ∃ b, closB O zss who S Q = b := ⟨_, rfl⟩
    have HAnd : Hid ((b1 && b2) = false) := by have := HWb.out; unfold winsB at this; rwa [hb1, hb2] at this
    have HC1 := Lib.hid (CleanIn_is (HErr.out.below B8.out).1 cS cQ hb1 (HGt.out w8 K8.out) (HSt.out w8 K8.out) (HQt.out w8 K8.out))
    have HB2 := Lib.hid hb2
    clear hb1 hb2
    go_wp2_with fail
    refine HC1.out.mono ?_
    rintro e w9 ⟨rfl, hb⟩
    have T9 := Lib.hid (T8.out.below hb)
    have B9 := Lib.hid (B8.out.trans (hb.mono B8.out.size))
    have hk9 : Only (fun b => b < w1.heap.size) w8 w9 := Only.of_below hb
    have K9 := Lib.hid (K8.out.trans hk9)
    clear hb hk9 c0 c1 c2 HC1
    cases b1 with
    | false =>
      go_wp2
      go_ret
      exact ⟨rfl, B9.out⟩
    | true =>
      have HE : Hid (b2 = false) := by have := HAnd.out; unfold Hid; simpa using this
      have c0 := T9.out.c0
      have c1 := T9.out.c1
      go_wp2_with fail
      refine (ClosedIn_is (HErr.out.below B9.out).1.c cS cQ HB2.out (HAt.out w9 K9.out) (HSt.out w9 K9.out) (HQt.out w9 K9.out)).mono ?_
      rintro e wa ⟨rfl, hb⟩
      have Ba := Lib.hid (B9.out.trans (hb.mono B9.out.size))
      have he := HE.out
      subst he
      clear hb c0 c1
      go_wp2
      go_ret
      exact ⟨rfl, Ba.out⟩
  | true =>
    have hwin := HWb.out
    unfold winsB at hwin
    rw [Bool.and_eq_true, cleanB_iff, closB_iff] at hwin
    obtain ⟨⟨hr, -⟩, hplan, hset, -⟩ := hwin
    have hpar : parityB O zss P = true := by unfold rightB at hr; rw [Bool.and_eq_true] at hr; exact hr.1
    obtain ⟨hA, hPl, hPb⟩ := parityB_iff.1 hpar
    have HPQ := Lib.hid (planB_iff.1 hplan).2.2
    have HAP := Lib.hid hA
    have HZO : Hid (zss.length = O.length) := hA.2.2.1
    have HQL : Hid (Q.length = O.length) := HPQ.out.1
    have hO1 : 1 ≤ O.length := hA.1
    have HSET := Lib.hid hset
    have HBL0 : Hid (bl.length = 0) := by
      have := HWb.out
      unfold winsB cleanB at this
      rw [HBl.out] at this
      simp at this
      unfold Hid
      simp [this]
    have HRW : Hid (∀ k, k < O.length → 0 < (row zss k).length ∧ (row zss k).length ≤ 1048576) := fun k hk => by
      have := (HAP.out.2.2.2 k hk).2
      omega
    have HQ0 := Lib.hid (w5Plan_is (co := co) (cn := cn) (who := who) D8.out (fun W' ho => ⟨(HR.out W' (K8.out.trans (ho.mono fun b hb => by omega))).1, (HR.out W' (K8.out.trans (ho.mono fun b hb => by omega))).2.1⟩) HZO.out (by omega) HRW.out)
    clear hr hplan hset hpar hA hPl hPb
    go_wp2_with fail
    refine HQ0.out.mono ?_
    rintro e w9 ⟨qv, F0, rfl, hqo, hqp, hdin⟩
    obtain ⟨fa, fc, hqv, hqi, hqg⟩ := hqo.shape
    subst hqv
    obtain ⟨fg, hfg, hfg1, hfg2, -, -⟩ := hqg (by rw [fnL_len]; omega)
    subst hfg
    rw [fnL_len] at hqo ⊢
    have ho := hdin.only
    have K9 := Lib.hid (K8.out.trans (ho.mono fun b hb => by omega))
    have T9 := Lib.hid (Box3.only T8.out ho (by omega))
    have B9 : Hid (Below w.heap.size w w9) := B8.out.trans (ho.below (B := w.heap.size) B8.out.size (fun b hb => by omega))
    have D9 := Lib.hid hdin.cur
    have U9 := Lib.hid hqo
    have HF0 := Lib.hid hqp
    have hs8 : w2.heap.size < w8.heap.size := T8.out.lt
    obtain ⟨qb, qo, hqa, -⟩ := (HQt.out w9 K9.out).cell (by have := HQL.out; omega)
    subst hqa
    have HQC : Hid (∀ W, Only (fun b => b < w1.heap.size) w2 W → ∀ x, x < Q.length → W.cell? ⟨qb, qo + x, none⟩ = some (.int .i64 (nth Q x))) := fun W ho x hx => by
      obtain ⟨b', o', ha', hc'⟩ := (HQt.out W ho).cell (by omega)
      simp only [Option.some.injEq, Addr.mk.injEq] at ha'
      obtain ⟨rfl, rfl, _⟩ := ha'
      exact hc' x hx
    have hQl : Q.length ≤ 300 := by have := HQL.out; omega
    have HQF : Hid (∀ x, x < Q.length → Fits (nth Q x)) := (HQt.out w9 K9.out).fits
    have U9' : Hid (OwnInts w9 w8.heap.size w9.heap.size (.slice (some ⟨fg, 0, none⟩) O.length fc) (fnL O.length (overF Q F0 0))) := by rw [overF_zero]; exact U9.out
    clear hqo hqp hdin hqi hqg ho HQ0 c0 c1 c2 D8 K8 B8 U9
    go_wp2
    go_loopw [11] (fun uv wr => ∃ k : Nat, k ≤ Q.length ∧ uv = .int .i64 k ∧ Hid (OwnInts wr w8.heap.size wr.heap.size (.slice (some ⟨fg, 0, none⟩) O.length fc) (fnL O.length (overF Q F0 k))) ∧ Hid (Only (fun b => b < w1.heap.size) w2 wr) ∧ Hid (Box3 wr w2.heap.size 32 (.slice ao O.length co) (.slice an zss.length cn) (.slice ap P.length cp)) ∧ Hid (Below w.heap.size w wr) ∧ Hid (∃ i h, Di wr w.heap.size w.heap.size ab cb bs i h)) (fun uv _ => Q.length - (intOf uv).toNat)
    case atStart => exact ⟨0, Nat.zero_le _, rfl, U9', K9, T9, B9, D9⟩
    case round =>
      clear U9' K9 T9 B9 D9
      obtain ⟨k, hk, rfl, HU, HK, HT, HB, HD⟩ := hrel
      by_cases hlt : k < Q.length
      · have hi1 : (k : Int) < Q.length := by omega
        have hk0 : (0 : Int) ≤ (k : Int) := by omega
        have hkO : k < O.length := by have := HQL.out; omega
        have hi2 : (k : Int) < O.length := by omega
        have q1 := HQC.out wr HK.out k hlt
        have hqf := HQF.out k hlt
        obtain ⟨q, hq⟩ : ∃ q, q = nth Q k := ⟨_, rfl⟩
        have HQ := Lib.hid hq
        rw [← hq] at q1 hqf
        clear hq
        by_cases hq0 : 0 ≤ q
        · have hUo := HU.out.own
          rw [fnL_len] at hUo
          have f1 := hUo.cellAt k (by omega)
          have f2 : wr.frozen? ⟨fg, k, none⟩ = false := hUo.frozenAt k
          obtain ⟨fv, hfv⟩ : ∃ fv, wr.cell? ⟨fg, k, none⟩ = some fv := by
            rw [f1, List.getElem?_eq_getElem (by rw [List.length_map, fnL_len]; exact hkO)]; exact ⟨_, rfl⟩
          have hun := HU.out.setAt (x := k) (y := q) (by rw [fnL_len]) hqf hkO
          have hov : (fnL O.length (overF Q F0 k)).set k q = fnL O.length (overF Q F0 (k + 1)) := by rw [HQ.out]; exact overF_yes (by rw [← HQ.out]; exact hq0)
          rw [hov] at hun
          have UN := Lib.hid hun
          have ho : Only (fun b => b = fg) wr (wr.setCell ⟨fg, k, none⟩ (.int .i64 q)) := (Only.refl (fun b => b = fg) wr).setCell (p := ⟨fg, k, none⟩) rfl _
          have KN : Hid (Only (fun b => b < w1.heap.size) w2 (wr.setCell ⟨fg, k, none⟩ (.int .i64 q))) := HK.out.new ho (fun x hx => .inr (by omega))
          have TN := Lib.hid (Box3.only HT.out ho (by omega))
          have BN : Hid (Below w.heap.size w (wr.setCell ⟨fg, k, none⟩ (.int .i64 q))) := HB.out.trans (ho.below (B := w.heap.size) HB.out.size (fun b hb => by omega))
          have DN : Hid (∃ i h, Di (wr.setCell ⟨fg, k, none⟩ (.int .i64 q)) w.heap.size w.heap.size ab cb bs i h) := by
            obtain ⟨i, h, hd⟩ := HD.out
            exact ⟨i, h, hd.only ho (fun b hb => ⟨by omega, by omega⟩)⟩
          clear f1 hUo hun hov ho HU HK HT HB HD
          go_wp2
          go_roundw
          case rel => exact ⟨k + 1, by omega, by go_num, UN, KN, TN, BN, DN⟩
          case measure => simp [intOf]; omega
        · have UN : Hid (OwnInts wr w8.heap.size wr.heap.size (.slice (some ⟨fg, 0, none⟩) O.length fc) (fnL O.length (overF Q F0 (k + 1)))) := by rw [← overF_no (by rw [← HQ.out]; exact hq0)]; exact HU.out
          clear HU
          go_wp2
          go_roundw
          case rel => exact ⟨k + 1, by omega, by go_num, UN, HK, HT, HB, HD⟩
          case measure => simp [intOf]; omega
      · have hi1 : ¬ (k : Int) < Q.length := by omega
        have hkO : k = O.length := by have := HQL.out; omega
        obtain ⟨E, hE⟩ : ∃ E, E = fnL O.length (overF Q F0 O.length) := ⟨_, rfl⟩
        have HFE : Hid (fullB O zss who E = true) := by rw [hE]; exact full_of HAP.out HW0.out (overF_plan HPQ.out HF0.out)
        have HFol : Hid (∀ u, u < O.length → 0 ≤ nth Q u → nth E u = nth Q u) := fun u hu h0 => by rw [hE]; exact overF_at hu h0
        have HEL : Hid (E.length = O.length) := by rw [hE, fnL_len]; rfl
        have UE := HU.out
        rw [hkO, ← hE] at UE
        have HUE := Lib.hid UE
        have c0 := HT.out.c0
        have c1 := HT.out.c1
        obtain ⟨jd, hh, hd⟩ := HD.out
        have hwx := HWX.out
        have HQ1 := Lib.hid (w5Plan_is (co := co) (cn := cn) (who := 1 - who) hd (fun W' ho => ⟨(HR.out W' (HK.out.trans (ho.mono fun b hb => by omega))).1, (HR.out W' (HK.out.trans (ho.mono fun b hb => by omega))).2.1⟩) HZO.out (by omega) HRW.out)
        clear hE UE HU hd HD
        go_wp2_with fail
        refine HQ1.out.mono ?_
        rintro e wx ⟨qv, F1, rfl, hqo, hqp, hdin⟩
        obtain ⟨D, hD⟩ : ∃ D, D = fnL O.length F1 := ⟨_, rfl⟩
        have HFD : Hid (fullB O zss (1 - who) D = true) := by rw [hD]; exact full_of HAP.out HW1.out hqp
        have HDL : Hid (D.length = O.length) := by rw [hD, fnL_len]; rfl
        rw [← hD] at hqo
        obtain ⟨da, dc, hqv, hqi, _⟩ := hqo.shape
        subst hqv
        have HDi := Lib.hid hqi
        have ho := hdin.only
        have hEi : IntsAt wx (some ⟨fg, 0, none⟩) E := by
          have h := HUE.out.only ho (fun g hg e => by have := (HUE.out.own.lt g hg).1; omega)
          rw [← HEL.out] at h
          exact dw_ints h
        have HEi := Lib.hid hEi
        have Kx := Lib.hid (HK.out.trans (ho.mono fun b hb => by omega))
        have Tx := Lib.hid (Box3.only HT.out ho (by omega))
        have Bx : Hid (Below w.heap.size w wx) := HB.out.trans (ho.below (B := w.heap.size) HB.out.size (fun b hb => by omega))
        rw [HDL.out]
        clear hD hqo hqp hqi ho hdin hEi HQ1 HUE HK HT HB c0 c1 hwx
        rcases hwho with rfl | rfl
        · -- player 0
          have HF0' := HFE
          have HF1' : Hid (fullB O zss 1 D = true) := HFD.out
          have HCt : Hid (∀ W v X Y, Below wx.heap.size wx W → 0 ≤ v ∧ v < (O.length : Int) → playX O zss E D v = X → playY O zss E D v = Y → Calls Tryz.prog 20 #[.agg #[.slice ao O.length co, .slice an zss.length cn], .slice (some ⟨fg, 0, none⟩) O.length fc, .slice da O.length dc, .int .i64 v] W (GivesLassoB W X Y true)) := fun W v X Y hb hv hX hY => by
            have hpb : playB O zss E D v = true := by unfold playB thereB; rw [HF0'.out, HF1'.out]; simpa using hv
            have h := specPlayOf_is fc dc (r := true) ⟨hX, hY, hpb⟩ (HAt.out W (Kx.out.trans (Only.of_below hb))) (HEi.out.below hb) (HDi.out.below hb)
            rw [HEL.out, HDL.out] at h
            exact h
          have HWt : Hid (∀ v : Int, v ∈ S → 0 ≤ v ∧ v < (O.length : Int) → wonV O zss P (playX O zss E D v) (playY O zss E D v) = 0) := fun v hv hb => checked_wins HF0'.out HF1'.out (by decide) HWb.out (fun u hu h0 => by rw [if_pos rfl]; exact HFol.out u hu h0) hb hv
          have HS0 : Hid (∀ W, Below wx.heap.size wx W → W.cell? ⟨w2.heap.size, 0, none⟩ = some (.slice ao O.length co) ∧ W.cell? ⟨w2.heap.size, 1, none⟩ = some (.slice an zss.length cn)) := fun W hb => ⟨(Tx.out.below hb).c0, (Tx.out.below hb).c1⟩
          have hSl : S.length ≤ 300 := by have := setB_len (by omega) HSET.out; omega
          go_wp2
          go_loopw [15, 16, 17] (fun iv lv bv wr => ∃ k : Nat, k ≤ S.length ∧ iv = .int .i64 k ∧ Hid (Below wx.heap.size wx wr)) (fun iv _ _ _ => S.length - (intOf iv).toNat)
          case atStart => exact ⟨0, Nat.zero_le _, rfl, Below.refl _ _⟩
          case round =>
            obtain ⟨k, hk, rfl, HB⟩ := hrel
            by_cases hlt : k < S.length
            · have hi1 : (k : Int) < S.length := by omega
              have hk0 : (0 : Int) ≤ (k : Int) := by omega
              obtain ⟨sb, so, hsa, -⟩ := (HSt.out wr (Kx.out.trans (Only.of_below HB.out))).cell (by omega)
              subst hsa
              have HSC : Hid (∀ W, Below wx.heap.size wx W → W.cell? ⟨sb, so + k, none⟩ = some (.int .i64 (nth S k))) := fun W hb => by
                obtain ⟨b', o', ha', hc'⟩ := (HSt.out W (Kx.out.trans (Only.of_below hb))).cell (by omega)
                simp only [Option.some.injEq, Addr.mk.injEq] at ha'
                obtain ⟨rfl, rfl, _⟩ := ha'
                exact hc' k hlt
              obtain ⟨v, hv⟩ : ∃ v, v = nth S k := ⟨_, rfl⟩
              have hvS : v ∈ S := by rw [hv]; exact nth_mem hlt
              have hvb : 0 ≤ v ∧ v < (O.length : Int) := dw_mem HSET.out v hvS
              rw [← hv] at HSC
              obtain ⟨X, hX⟩ : ∃ X, playX O zss E D v = X := ⟨_, rfl⟩
              obtain ⟨Y, hY⟩ : ∃ Y, playY O zss E D v = Y := ⟨_, rfl⟩
              have hwon := HWt.out v hvS hvb
              rw [hX, hY] at hwon
              have HWon := Lib.hid hwon
              have HC := Lib.hid (fun W hb => HCt.out W v X Y hb hvb hX hY)
              have HSv : Hid (∀ W, Below wx.heap.size wx W → W.cell? ⟨w2.heap.size, 0, none⟩ = some (.slice ao O.length co) ∧ W.cell? ⟨w2.heap.size, 1, none⟩ = some (.slice an zss.length cn) ∧ W.cell? ⟨sb, so + k, none⟩ = some (.int .i64 v)) := fun W hb => ⟨(HS0.out W hb).1, (HS0.out W hb).2, HSC.out W hb⟩
              have Kd : Hid (Below wx.heap.size wx wr.drew) := HB.out.drew
              have Ka : Hid (Below wx.heap.size wx (wr.alloc (.cells #[.slice none 0 0, .slice none 0 0] 41)).drew) := (HB.out.alloc HB.out.size _).drew
              have Ba : Hid (Box2 (wr.alloc (.cells #[.slice none 0 0, .slice none 0 0] 41)).drew wr.heap.size 41 (.slice none 0 0) (.slice none 0 0)) := Box2.below (Box2.new wr _ _ _) (Below.refl _ _).drew
              have hsr : wx.heap.size ≤ wr.heap.size := HB.out.size
              have h0 := HSv.out _ Kd.out
              clear hv hvS hvb hX hY hwon
              go_wp2
              go_region_held3 (fun W => W.cell? ⟨w2.heap.size, 0, none⟩ = some (.slice ao O.length co) ∧ W.cell? ⟨w2.heap.size, 1, none⟩ = some (.slice an zss.length cn) ∧ W.cell? ⟨sb, so + k, none⟩ = some (.int .i64 v))
                (first
                  | exact HSv.out _ Kd.out
                  | exact HSv.out _ Kl.out
                  | exact HSv.out _ Ka.out
                  | exact HSv.out _ (Kl.out.alloc Kl.out.size _)
                  | exact HSv.out _ (Kl.out.alloc Kl.out.size _).drew
                  | exact HSv.out _ ((Kl.out.setCell (p := ⟨wr.heap.size, 0, none⟩) hsr _).setCell (p := ⟨wr.heap.size, 1, none⟩) hsr _)
                  | exact HSv.out _ (((Kl.out.alloc Kl.out.size _).drew.setCell (p := ⟨wl.heap.size, 0, none⟩) Kl.out.size _).setCell (p := ⟨wl.heap.size, 1, none⟩) Kl.out.size _)
                  | exact HSv.out _ (((Kl.out.alloc Kl.out.size _).setCell (p := ⟨wl.heap.size, 0, none⟩) Kl.out.size _).setCell (p := ⟨wl.heap.size, 1, none⟩) Kl.out.size _)
                  | go_keep)
                (first
                  | (go_at_call 20; refine (HC.out _ Kd.out).mono ?_; rintro e wl ⟨x, rfl, hx, hb⟩; obtain ⟨la, lc, lb, ld, hus⟩ := hx.shape; subst hus; have Kl := Lib.hid (Kd.out.trans (hb.mono Kd.out.size)); have Ll := Lib.hid hx; have bx : Box2 (wl.alloc (.cells #[.slice none 0 0, .slice none 0 0] 41)).drew wl.heap.size 41 (.slice none 0 0) (.slice none 0 0) := (Box2.below (Box2.new wl _ _ _) (Below.refl _ _).drew); have b0 := bx.cell0; have b1 := bx.cell1; have b2 := bx.frozen 0; have b3 := bx.frozen 1; clear bx hx hb)
                  | (go_at_call 20; refine (HC.out _ Ka.out).mono ?_; rintro e wl ⟨x, rfl, hx, hb⟩; obtain ⟨la, lc, lb, ld, hus⟩ := hx.shape; subst hus; have Kl := Lib.hid (Ka.out.trans (hb.mono Ka.out.size)); have Ll := Lib.hid hx; have Bl := Lib.hid (Ba.out.below hb); have b0 := Bl.out.cell0; have b1 := Bl.out.cell1; have b2 := Bl.out.frozen 0; have b3 := Bl.out.frozen 1; clear hx hb))
              · obtain ⟨wm, hwm⟩ : ∃ y, y = wl.alloc (.cells #[.slice la X.length lc, .slice lb Y.length ld] 41) := ⟨_, rfl⟩
                have HWM := Lib.hid hwm
                have hbm : Below wl.heap.size wl wm := by rw [hwm]; exact below1 _ _
                have Rm : Hid (Box2 wm wl.heap.size 41 (.slice la X.length lc) (.slice lb Y.length ld)) := by rw [hwm]; exact Box2.new _ _ _ _
                have Km := Lib.hid (Kl.out.trans (hbm.mono Kl.out.size))
                have Lm := Lib.hid (Ll.out.below hbm).at
                rw [← HWM.out]
                clear hwm hbm b0 b1 b2 b3 h0
                have m0 := (Tx.out.below Km.out).c0
                have m1 := (Tx.out.below Km.out).c1
                have m2 := (Tx.out.below Km.out).c2
                have n0 := Rm.out.cell0
                have n1 := Rm.out.cell1
                go_wp2_with fail
                refine (specPlayWon_is HWon.out (HGt.out wm (Kx.out.trans (Only.of_below Km.out))) Lm.out).mono ?_
                rintro e wn ⟨rfl, hb⟩
                have Kn := Lib.hid (Km.out.trans (hb.mono Km.out.size))
                clear hb m0 m1 m2 n0 n1 Rm Lm
                go_wp2
                go_roundw
                case rel => exact ⟨k + 1, by omega, by go_num, Kn⟩
                case measure => simp [intOf]; omega
              · obtain ⟨wm, hwm⟩ : ∃ y, y = (wl.setCell ⟨wr.heap.size, 0, none⟩ (.slice la X.length lc)).setCell ⟨wr.heap.size, 1, none⟩ (.slice lb Y.length ld) := ⟨_, rfl⟩
                have HWM := Lib.hid hwm
                have Rm : Hid (Box2 wm wr.heap.size 41 (.slice la X.length lc) (.slice lb Y.length ld)) := by rw [hwm]; exact (Bl.out.set0 _).set1 _
                have Km : Hid (Below wx.heap.size wx wm) := by rw [hwm]; exact (Kl.out.setCell (p := ⟨wr.heap.size, 0, none⟩) hsr _).setCell (p := ⟨wr.heap.size, 1, none⟩) hsr _
                have Lm : Hid (LassoAt wm (.agg #[.slice la X.length lc, .slice lb Y.length ld]) X Y) := by
                  rw [hwm]
                  exact (Ll.out.only ((Box2.set0_only _).trans (Box2.set1_only _)) (fun g hg _ e => by
                    have h1 : (wr.alloc (.cells #[.slice none 0 0, .slice none 0 0] 41)).drew.heap.size = wr.heap.size + 1 := by
                      show (wr.alloc (.cells #[.slice none 0 0, .slice none 0 0] 41)).heap.size = wr.heap.size + 1
                      simp
                    omega)).at
                rw [← HWM.out]
                clear hwm b0 b1 b2 b3 h0
                have m0 := (Tx.out.below Km.out).c0
                have m1 := (Tx.out.below Km.out).c1
                have m2 := (Tx.out.below Km.out).c2
                have n0 := Rm.out.cell0
                have n1 := Rm.out.cell1
                go_wp2_with fail
                refine (specPlayWon_is HWon.out (HGt.out wm (Kx.out.trans (Only.of_below Km.out))) Lm.out).mono ?_
                rintro e wn ⟨rfl, hb⟩
                have Kn := Lib.hid (Km.out.trans (hb.mono Km.out.size))
                clear hb m0 m1 m2 n0 n1 Rm Lm
                go_wp2
                go_roundw
                case rel => exact ⟨k + 1, by omega, by go_num, Kn⟩
                case measure => simp [intOf]; omega
            · have hi1 : ¬ (k : Int) < S.length := by omega
              have hbz := HBL0.out
              have hbe : ((bl.length : Int) == 0) = true := by rw [hbz]; rfl
              go_wp2
              go_ret
              exact ⟨rfl, Bx.out.trans (HB.out.mono Bx.out.size)⟩
        · have HF1' := HFE
          have HF0' : Hid (fullB O zss 0 D = true) := HFD.out
          have HCt : Hid (∀ W v X Y, Below wx.heap.size wx W → 0 ≤ v ∧ v < (O.length : Int) → playX O zss D E v = X → playY O zss D E v = Y → Calls Tryz.prog 20 #[.agg #[.slice ao O.length co, .slice an zss.length cn], .slice da O.length dc, .slice (some ⟨fg, 0, none⟩) O.length fc, .int .i64 v] W (GivesLassoB W X Y true)) := fun W v X Y hb hv hX hY => by
            have hpb : playB O zss D E v = true := by unfold playB thereB; rw [HF0'.out, HF1'.out]; simpa using hv
            have h := specPlayOf_is dc fc (r := true) ⟨hX, hY, hpb⟩ (HAt.out W (Kx.out.trans (Only.of_below hb))) (HDi.out.below hb) (HEi.out.below hb)
            rw [HDL.out, HEL.out] at h
            exact h
          have HWt : Hid (∀ v : Int, v ∈ S → 0 ≤ v ∧ v < (O.length : Int) → wonV O zss P (playX O zss D E v) (playY O zss D E v) = 1) := fun v hv hb => checked_wins HF0'.out HF1'.out (by decide) HWb.out (fun u hu h0 => by rw [if_neg (by decide)]; exact HFol.out u hu h0) hb hv
          have HS0 : Hid (∀ W, Below wx.heap.size wx W → W.cell? ⟨w2.heap.size, 0, none⟩ = some (.slice ao O.length co) ∧ W.cell? ⟨w2.heap.size, 1, none⟩ = some (.slice an zss.length cn)) := fun W hb => ⟨(Tx.out.below hb).c0, (Tx.out.below hb).c1⟩
          have hSl : S.length ≤ 300 := by have := setB_len (by omega) HSET.out; omega
          go_wp2
          go_loopw [15, 16, 17] (fun iv lv bv wr => ∃ k : Nat, k ≤ S.length ∧ iv = .int .i64 k ∧ Hid (Below wx.heap.size wx wr)) (fun iv _ _ _ => S.length - (intOf iv).toNat)
          case atStart => exact ⟨0, Nat.zero_le _, rfl, Below.refl _ _⟩
          case round =>
            obtain ⟨k, hk, rfl, HB⟩ := hrel
            by_cases hlt : k < S.length
            · have hi1 : (k : Int) < S.length := by omega
              have hk0 : (0 : Int) ≤ (k : Int) := by omega
              obtain ⟨sb, so, hsa, -⟩ := (HSt.out wr (Kx.out.trans (Only.of_below HB.out))).cell (by omega)
              subst hsa
              have HSC : Hid (∀ W, Below wx.heap.size wx W → W.cell? ⟨sb, so + k, none⟩ = some (.int .i64 (nth S k))) := fun W hb => by
                obtain ⟨b', o', ha', hc'⟩ := (HSt.out W (Kx.out.trans (Only.of_below hb))).cell (by omega)
                simp only [Option.some.injEq, Addr.mk.injEq] at ha'
                obtain ⟨rfl, rfl, _⟩ := ha'
                exact hc' k hlt
              obtain ⟨v, hv⟩ : ∃ v, v = nth S k := ⟨_, rfl⟩
              have hvS : v ∈ S := by rw [hv]; exact nth_mem hlt
              have hvb : 0 ≤ v ∧ v < (O.length : Int) := dw_mem HSET.out v hvS
              rw [← hv] at HSC
              obtain ⟨X, hX⟩ : ∃ X, playX O zss D E v = X := ⟨_, rfl⟩
              obtain ⟨Y, hY⟩ : ∃ Y, playY O zss D E v = Y := ⟨_, rfl⟩
              have hwon := HWt.out v hvS hvb
              rw [hX, hY] at hwon
              have HWon := Lib.hid hwon
              have HC := Lib.hid (fun W hb => HCt.out W v X Y hb hvb hX hY)
              have HSv : Hid (∀ W, Below wx.heap.size wx W → W.cell? ⟨w2.heap.size, 0, none⟩ = some (.slice ao O.length co) ∧ W.cell? ⟨w2.heap.size, 1, none⟩ = some (.slice an zss.length cn) ∧ W.cell? ⟨sb, so + k, none⟩ = some (.int .i64 v)) := fun W hb => ⟨(HS0.out W hb).1, (HS0.out W hb).2, HSC.out W hb⟩
              have Kd : Hid (Below wx.heap.size wx wr.drew) := HB.out.drew
              have Ka : Hid (Below wx.heap.size wx (wr.alloc (.cells #[.slice none 0 0, .slice none 0 0] 41)).drew) := (HB.out.alloc HB.out.size _).drew
              have Ba : Hid (Box2 (wr.alloc (.cells #[.slice none 0 0, .slice none 0 0] 41)).drew wr.heap.size 41 (.slice none 0 0) (.slice none 0 0)) := Box2.below (Box2.new wr _ _ _) (Below.refl _ _).drew
              have hsr : wx.heap.size ≤ wr.heap.size := HB.out.size
              have h0 := HSv.out _ Kd.out
              clear hv hvS hvb hX hY hwon
              go_wp2
              go_region_held3 (fun W => W.cell? ⟨w2.heap.size, 0, none⟩ = some (.slice ao O.length co) ∧ W.cell? ⟨w2.heap.size, 1, none⟩ = some (.slice an zss.length cn) ∧ W.cell? ⟨sb, so + k, none⟩ = some (.int .i64 v))
                (first
                  | exact HSv.out _ Kd.out
                  | exact HSv.out _ Kl.out
                  | exact HSv.out _ Ka.out
                  | exact HSv.out _ (Kl.out.alloc Kl.out.size _)
                  | exact HSv.out _ (Kl.out.alloc Kl.out.size _).drew
                  | exact HSv.out _ ((Kl.out.setCell (p := ⟨wr.heap.size, 0, none⟩) hsr _).setCell (p := ⟨wr.heap.size, 1, none⟩) hsr _)
                  | exact HSv.out _ (((Kl.out.alloc Kl.out.size _).drew.setCell (p := ⟨wl.heap.size, 0, none⟩) Kl.out.size _).setCell (p := ⟨wl.heap.size, 1, none⟩) Kl.out.size _)
                  | exact HSv.out _ (((Kl.out.alloc Kl.out.size _).setCell (p := ⟨wl.heap.size, 0, none⟩) Kl.out.size _).setCell (p := ⟨wl.heap.size, 1, none⟩) Kl.out.size _)
                  | go_keep)
                (first
                  | (go_at_call 20; refine (HC.out _ Kd.out).mono ?_; rintro e wl ⟨x, rfl, hx, hb⟩; obtain ⟨la, lc, lb, ld, hus⟩ := hx.shape; subst hus; have Kl := Lib.hid (Kd.out.trans (hb.mono Kd.out.size)); have Ll := Lib.hid hx; have bx : Box2 (wl.alloc (.cells #[.slice none 0 0, .slice none 0 0] 41)).drew wl.heap.size 41 (.slice none 0 0) (.slice none 0 0) := (Box2.below (Box2.new wl _ _ _) (Below.refl _ _).drew); have b0 := bx.cell0; have b1 := bx.cell1; have b2 := bx.frozen 0; have b3 := bx.frozen 1; clear bx hx hb)
                  | (go_at_call 20; refine (HC.out _ Ka.out).mono ?_; rintro e wl ⟨x, rfl, hx, hb⟩; obtain ⟨la, lc, lb, ld, hus⟩ := hx.shape; subst hus; have Kl := Lib.hid (Ka.out.trans (hb.mono Ka.out.size)); have Ll := Lib.hid hx; have Bl := Lib.hid (Ba.out.below hb); have b0 := Bl.out.cell0; have b1 := Bl.out.cell1; have b2 := Bl.out.frozen 0; have b3 := Bl.out.frozen 1; clear hx hb))
              · obtain ⟨wm, hwm⟩ : ∃ y, y = wl.alloc (.cells #[.slice la X.length lc, .slice lb Y.length ld] 41) := ⟨_, rfl⟩
                have HWM := Lib.hid hwm
                have hbm : Below wl.heap.size wl wm := by rw [hwm]; exact below1 _ _
                have Rm : Hid (Box2 wm wl.heap.size 41 (.slice la X.length lc) (.slice lb Y.length ld)) := by rw [hwm]; exact Box2.new _ _ _ _
                have Km := Lib.hid (Kl.out.trans (hbm.mono Kl.out.size))
                have Lm := Lib.hid (Ll.out.below hbm).at
                rw [← HWM.out]
                clear hwm hbm b0 b1 b2 b3 h0
                have m0 := (Tx.out.below Km.out).c0
                have m1 := (Tx.out.below Km.out).c1
                have m2 := (Tx.out.below Km.out).c2
                have n0 := Rm.out.cell0
                have n1 := Rm.out.cell1
                go_wp2_with fail
                refine (specPlayWon_is HWon.out (HGt.out wm (Kx.out.trans (Only.of_below Km.out))) Lm.out).mono ?_
                rintro e wn ⟨rfl, hb⟩
                have Kn := Lib.hid (Km.out.trans (hb.mono Km.out.size))
                clear hb m0 m1 m2 n0 n1 Rm Lm
                go_wp2
                go_roundw
                case rel => exact ⟨k + 1, by omega, by go_num, Kn⟩
                case measure => simp [intOf]; omega
              · obtain ⟨wm, hwm⟩ : ∃ y, y = (wl.setCell ⟨wr.heap.size, 0, none⟩ (.slice la X.length lc)).setCell ⟨wr.heap.size, 1, none⟩ (.slice lb Y.length ld) := ⟨_, rfl⟩
                have HWM := Lib.hid hwm
                have Rm : Hid (Box2 wm wr.heap.size 41 (.slice la X.length lc) (.slice lb Y.length ld)) := by rw [hwm]; exact (Bl.out.set0 _).set1 _
                have Km : Hid (Below wx.heap.size wx wm) := by rw [hwm]; exact (Kl.out.setCell (p := ⟨wr.heap.size, 0, none⟩) hsr _).setCell (p := ⟨wr.heap.size, 1, none⟩) hsr _
                have Lm : Hid (LassoAt wm (.agg #[.slice la X.length lc, .slice lb Y.length ld]) X Y) := by
                  rw [hwm]
                  exact (Ll.out.only ((Box2.set0_only _).trans (Box2.set1_only _)) (fun g hg _ e => by
                    have h1 : (wr.alloc (.cells #[.slice none 0 0, .slice none 0 0] 41)).drew.heap.size = wr.heap.size + 1 := by
                      show (wr.alloc (.cells #[.slice none 0 0, .slice none 0 0] 41)).heap.size = wr.heap.size + 1
                      simp
                    omega)).at
                rw [← HWM.out]
                clear hwm b0 b1 b2 b3 h0
                have m0 := (Tx.out.below Km.out).c0
                have m1 := (Tx.out.below Km.out).c1
                have m2 := (Tx.out.below Km.out).c2
                have n0 := Rm.out.cell0
                have n1 := Rm.out.cell1
                go_wp2_with fail
                refine (specPlayWon_is HWon.out (HGt.out wm (Kx.out.trans (Only.of_below Km.out))) Lm.out).mono ?_
                rintro e wn ⟨rfl, hb⟩
                have Kn := Lib.hid (Km.out.trans (hb.mono Km.out.size))
                clear hb m0 m1 m2 n0 n1 Rm Lm
                go_wp2
                go_roundw
                case rel => exact ⟨k + 1, by omega, by go_num, Kn⟩
                case measure => simp [intOf]; omega
            · have hi1 : ¬ (k : Int) < S.length := by omega
              have hbz := HBL0.out
              have hbe : ((bl.length : Int) == 0) = true := by rw [hbz]; rfl
              go_wp2
              go_ret
              exact ⟨rfl, Bx.out.trans (HB.out.mono Bx.out.size)⟩

end Go.Proofs.YtokcinhopajniaaGreatDoor
