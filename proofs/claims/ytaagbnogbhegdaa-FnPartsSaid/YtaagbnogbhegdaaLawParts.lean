/-
  What FnParts asks of the components, and the walk of the law.
-/
import Derived.Test.YtaagbnogbhegdaaKosa
import Derived.Test.YtaagbnogbhegdaaLoopsSpec
import Derived.Test.YtaagbnogbhegdaaDraw1
import Derived.Test.YtaagbnogbhegdaaDrawLoops
import Derived.Test.YtaagbnogbhegdaaLoopsImpl
import Derived.Deep.RegionHeld3
namespace Go.Proofs.Ytaagbnogbhegdaa
open Go.RowKit

theorem setFrom_all {n : Int} : ∀ (zs : List Int) (l : Int), zs.Pairwise (· < ·) → (∀ x ∈ zs, l < x ∧ x < n) → setFrom n l zs = true
  | [], _, _, _ => rfl
  | z :: r, l, hp, hb => by
    obtain ⟨h1, h2⟩ := List.pairwise_cons.1 hp
    have hz := hb z (by simp)
    rw [setFrom, decide_eq_true hz]
    exact setFrom_all r z h2 fun x hx => ⟨h1 x hx, (hb x (by simp [hx])).2⟩
theorem setB_all {n : Int} {zs : List Int} (hp : zs.Pairwise (· < ·)) (hb : ∀ x ∈ zs, 0 ≤ x ∧ x < n) : setB n zs = true := setFrom_all zs (-1) hp fun x hx => ⟨by have := (hb x hx).1; omega, (hb x hx).2⟩
theorem setB_each {n : Int} {zs : List Int} (h : setB n zs = true) : ∀ x ∈ zs, 0 ≤ x ∧ x < n := fun x hx => by
  obtain ⟨k, hk, rfl⟩ := mem_nth.1 hx
  have := setB_bounds h hk
  exact ⟨this.1, this.2.1⟩
theorem setB_up {n : Int} {zs : List Int} (h : setB n zs = true) : zs.Pairwise (· < ·) := rises_pairwise.1 (rises_of h)

theorem partB_yes {S T : List Int} (hS : setB 256 S = true) (hT : setB 256 T = true) (h : ∀ x ∈ S, x ∈ T) : partB S T = true := by
  unfold partB bothOk
  rw [hS, hT]
  have : S.filter (outT T) = [] := List.filter_eq_nil_iff.2 fun x hx => by simp [outT, hasB_iff.2 (h x hx)]
  simp [this]
theorem meetL_no {S T : List Int} (h : ∀ x ∈ S, x ∉ T) : meetL S T = [] := by
  unfold meetL
  split
  · exact List.filter_eq_nil_iff.2 fun x hx => by
      intro hh
      exact h x hx (hasB_iff.1 hh)
  · rfl

theorem rch_any {zss : List (List Int)} {o : Nat → Bool} {F : List Int} {v : Nat} (h : Rch zss o F v) : Rch zss (fun _ => true) F v := by
  induction h with
  | one h hm _ => exact .one h hm rfl
  | more _ hm _ ih => exact .more ih hm rfl

/-- What the law asks of the rows. -/
structure PartsP (O : List Int) (zss : List (List Int)) (F : List Int) (R : List (List Int)) : Prop where
  pos : ∀ i, i < R.length → 0 < (row R i).length
  part : ∀ i, i < R.length → partB (row R i) F = true
  meet : ∀ i k, i < R.length → k < i → meetL (row R i) (row R k) = []
  reach : ∀ i, i < R.length → partB (row R i) (reachL O zss [nth (row R i) 0]) = true
  fit : ∀ i, i < R.length → Fits (nth (row R i) 0)

theorem parts_are {O : List Int} {zss R : List (List Int)} {F : List Int} (hr : loopsL O zss F = R) : PartsP O zss F R := by
  by_cases hv : ArenaP O zss ∧ setB O.length F = true
  · have hR : loopsS zss F = R := by rw [← hr]; unfold loopsL; rw [if_pos hv]
    obtain ⟨hA, hF⟩ := hv
    have hn := hA.2.2.1
    have hO := hA.2.1
    have hFb := setB_each hF
    have hFu := setB_up hF
    have hSO := setO_of hFu hF
    have hm := loopsK_mod (zss := zss) hSO F.length (Nat.le_refl _)
    rw [show (loopsK (farF zss F) F F.length).1 = R from hR] at hm
    have hmem : ∀ i : Nat, openS F F.length i = true → (i : Int) ∈ F := fun i hi => (hSO.iff i).1 hi
    have hF256 : setB 256 F = true := setB_all hFu fun x hx => by have := hFb x hx; omega
    have hrow : ∀ i, i < R.length → row R i ∈ R := fun i hi => by rw [row_eq hi]; exact List.getElem_mem _
    have hsub : ∀ p ∈ R, (∀ x ∈ p, x ∈ F) ∧ p.Pairwise (· < ·) := fun p hp => by
      obtain ⟨v, _, _, rfl⟩ := hm.a p hp
      exact ⟨fun x hx => (List.mem_filter.1 hx).1, hFu.sublist List.filter_sublist⟩
    have hp256 : ∀ p ∈ R, setB 256 p = true := fun p hp => setB_all (hsub p hp).2 fun x hx => by have := hFb x ((hsub p hp).1 x hx); omega
    have hin : ∀ p ∈ R, ∃ v : Nat, (v : Int) ∈ F ∧ p = cls zss (openS F F.length) F v ∧ (v : Int) ∈ p := fun p hp => by
      obtain ⟨v, h1, h2, h3⟩ := hm.a p hp
      rw [List.take_length] at h1
      exact ⟨v, h1, h3, by rw [h3]; exact (cls_mem hmem).2 (.refl ((hSO.iff v).2 h1))⟩
    have hpos : ∀ p ∈ R, 0 < p.length := fun p hp => by
      obtain ⟨v, _, _, hvp⟩ := hin p hp
      exact List.length_pos_of_mem hvp
    have hhd : ∀ p ∈ R, hd p ∈ p := fun p hp => by
      obtain ⟨v, _, _, hvp⟩ := hin p hp
      exact hd_mem hvp
    have hnat : ∀ x ∈ F, ∃ u : Nat, x = (u : Int) ∧ u < zss.length := by rw [hn]; exact set_nats hF
    refine ⟨fun i hi => hpos _ (hrow i hi), fun i hi => partB_yes (hp256 _ (hrow i hi)) hF256 (hsub _ (hrow i hi)).1, fun i k hi hk => ?_, fun i hi => ?_, fun i hi => ?_⟩
    · refine meetL_no fun x hx hx2 => ?_
      have hki : k < R.length := by omega
      obtain ⟨v, _, e1, _⟩ := hin _ (hrow i hi)
      obtain ⟨u, _, e2, _⟩ := hin _ (hrow k hki)
      obtain ⟨y, rfl, _⟩ := hnat x ((hsub _ (hrow i hi)).1 x hx)
      rw [e1] at hx
      rw [e2] at hx2
      have h1 := (cls_mem hmem).1 hx
      have h2 := (cls_mem hmem).1 hx2
      have e : row R i = row R k := by rw [e1, e2]; exact cls_congr (h1.symm.trans h2)
      have hlt := List.pairwise_iff_getElem.1 hm.e k i hki hi hk
      rw [row_eq hi, row_eq hki] at e
      rw [e] at hlt
      omega
    · have hpR := hrow i hi
      obtain ⟨v, hvF, e1, _⟩ := hin _ hpR
      have hh : hd (row R i) ∈ row R i := hhd _ hpR
      obtain ⟨q, hq, hqn⟩ := hnat _ ((hsub _ hpR).1 _ hh)
      have hset : setB O.length [hd (row R i)] = true := setB_all (by simp) fun x hx => by
        have : x = hd (row R i) := by simpa using hx
        rw [this]; exact hFb _ ((hsub _ hpR).1 _ hh)
      show partB (row R i) (reachL O zss [hd (row R i)]) = true
      have hrl : reachL O zss [hd (row R i)] = markedK (reachM zss [hd (row R i)]) zss.length := by unfold reachL; rw [if_pos ⟨hA, hset⟩]
      rw [hrl]
      refine partB_yes (hp256 _ hpR) (setB_all (markedK_rising _ _) fun x hx => ?_) fun x hx => ?_
      · obtain ⟨u, hu, hun, _⟩ := (markedK_mem _ _ _).1 hx
        omega
      · obtain ⟨u, rfl, hun⟩ := hnat x ((hsub _ hpR).1 x hx)
        refine (markedK_mem _ _ _).2 ⟨u, rfl, hun, ?_⟩
        have hq2 : ((q : Nat) : Int) ∈ cls zss (openS F F.length) F v := by rw [← e1, ← hq]; exact hh
        have hx2 : (u : Int) ∈ cls zss (openS F F.length) F v := by rw [← e1]; exact hx
        have m1 := (cls_mem hmem).1 hq2
        have m2 := (cls_mem hmem).1 hx2
        have hp : Pth zss (openS F F.length) q u := m1.1.trans m2.2
        simp only [reachM, decide_eq_true_eq, hq]
        by_cases e : u = q
        · left; rw [e]; simp
        · right; exact rch_any (pth_rch hp e)
    · have hpR := hrow i hi
      have := hFb _ ((hsub _ hpR).1 _ (hhd _ hpR))
      show Fits (hd (row R i))
      unfold Fits; omega
  · have hR : R = [] := by rw [← hr]; unfold loopsL; rw [if_neg hv]
    subst hR
    exact ⟨fun i hi => absurd hi (by simp), fun i hi => absurd hi (by simp), fun i k hi => absurd hi (by simp), fun i hi => absurd hi (by simp), fun i hi => absurd hi (by simp)⟩

open Go.RowKit

theorem new_ints (w : World) (x : Int) (hx : Fits x) : IntsAt (w.alloc (.cells #[.int .i64 x] 2)) (some ⟨w.heap.size, 0, none⟩) [x] := by
  obtain ⟨a, cap, hv, hi, -⟩ := (own_new w x hx).shape
  cases hv
  exact hi

set_option maxHeartbeats 8000000 in
set_option maxRecDepth 100000 in
theorem lawParts {w : World} {ab : Option Addr} {cb : Nat} {bs : List Int} (hby : BytesAt w ab bs) :
    Calls Try.prog 3 #[.slice ab bs.length cb] w fun e w' => e = .returned (.bool true) ∧ Below w.heap.size w w' := by
  have HY := Lib.hid hby
  have hbl := hby.len
  clear hby
  by_cases hbig : 4096 < (bs.length : Int)
  · have HG := Lib.hid (big_is (w := w) (ab := ab) (cb := cb) (decide_eq_true hbig))
    clear hbig
    go_enter Try.func3, Try.ntmps3
    go_wp2_with (go_at_call 14; refine HG.out.mono ?_; rintro e w' ⟨rfl, rfl⟩)
    go_ret
    exact ⟨rfl, Below.refl _ _⟩
  have HG := Lib.hid (big_is (w := w) (ab := ab) (cb := cb) (decide_eq_false hbig))
  have HDr := Lib.hid (DrawLoopsOf_is (cb := cb) HY.out (by omega))
  clear hbig HY
  go_enter Try.func3, Try.ntmps3
  go_wp2_with fail
  refine HG.out.mono ?_
  rintro e w' ⟨rfl, rfl⟩
  go_wp2_with fail
  refine HDr.out.mono ?_
  rintro e w1 ⟨v, u, O, zss, F, rfl, hA, hU, hlF, hlO, hb⟩
  obtain ⟨ua, uc, rfl, hui⟩ := hU
  have A1 := Lib.hid hA
  obtain ⟨ao, an, co, cn, A, C, rfl, -, -⟩ := hA
  have B1 := Lib.hid hb
  have U1 := Lib.hid hui
  clear hb hui HG HDr
  go_wp2_with fail
  obtain ⟨w2, hw2⟩ : ∃ y, y = w1.alloc (.cells #[.slice ao O.length co, .slice an zss.length cn] 27) := ⟨_, rfl⟩
  rw [← hw2]
  have hb2 : Below w1.heap.size w1 w2 := by rw [hw2]; exact below1 _ _
  have T2 : Hid (Box2 w2 w1.heap.size 27 (.slice ao O.length co) (.slice an zss.length cn)) := by rw [hw2]; exact Box2.new _ _ _ _
  have A2 := Lib.hid (A1.out.below hb2)
  have U2 := Lib.hid (U1.out.below hb2)
  have B2 := Lib.hid (B1.out.trans (hb2.mono B1.out.size))
  clear hw2 hb2 A1 U1 B1
  obtain ⟨R, hR⟩ : ∃ R, loopsL O zss F = R := ⟨_, rfl⟩
  have HP := Lib.hid (parts_are hR)
  have HR := Lib.hid hR
  clear hR
  refine (LoopsOf_is uc HR.out A2.out U2.out).mono ?_
  rintro e w3 ⟨lv, LV, rfl, hlv, hb⟩
  obtain ⟨la, lc, hls, hli, -⟩ := hlv.shape
  have hRl := hlv.len
  subst hls
  obtain ⟨LA, hLA⟩ : ∃ LA, LA = fun k => addrOf (LV k) := ⟨_, rfl⟩
  obtain ⟨LC, hLC⟩ : ∃ LC, LC = fun k => capOf (LV k) := ⟨_, rfl⟩
  rw [← hLA, ← hLC] at hli
  clear hLA hLC
  have L3 := Lib.hid hli
  have T3 := Lib.hid (T2.out.below hb)
  have A3 := Lib.hid (A2.out.below hb)
  have U3 := Lib.hid (U2.out.below hb)
  have B3 := Lib.hid (B2.out.trans (hb.mono B2.out.size))
  clear hlv hli hb T2 A2 U2 B2
  have t0 := T3.out.cell0
  have t1 := T3.out.cell1
  go_wp2_with fail
  refine (specLoopsOf_is uc HR.out A3.out U3.out).mono ?_
  rintro e w4 ⟨zv, ZV, rfl, hzv, hb⟩
  obtain ⟨za, zc, hzs, hzi, -⟩ := hzv.shape
  subst hzs
  obtain ⟨ZA, hZA⟩ : ∃ ZA, ZA = fun k => addrOf (ZV k) := ⟨_, rfl⟩
  obtain ⟨ZC, hZC⟩ : ∃ ZC, ZC = fun k => capOf (ZV k) := ⟨_, rfl⟩
  rw [← hZA, ← hZC] at hzi
  clear hZA hZC
  have Z4 := Lib.hid hzi
  have L4 := Lib.hid (L3.out.below hb)
  have T4 := Lib.hid (T3.out.below hb)
  have A4 := Lib.hid (A3.out.below hb)
  have U4 := Lib.hid (U3.out.below hb)
  have B4 := Lib.hid (B3.out.trans (hb.mono B3.out.size))
  clear hzv hzi hb t0 t1 T3 A3 B3 L3 U3
  have hne : ((R.length : Int) != (R.length : Int)) = false := by simp
  have K4 := Lib.hid (Below.refl w4.heap.size w4)
  go_wp2
  go_loopw [7] (fun iv wr => ∃ k : Nat, k ≤ R.length ∧ iv = .int .i64 k ∧ Hid (Below w4.heap.size w4 wr)) (fun iv _ => R.length - (intOf iv).toNat)
  case atStart => exact ⟨0, Nat.zero_le _, rfl, K4⟩
  case round =>
    clear K4
    obtain ⟨k, hk, rfl, HK⟩ := hrel
    by_cases hlt : k < R.length
    · have hi1 : (k : Int) < R.length := by omega
      have hk0 : (0 : Int) ≤ (k : Int) := by omega
      obtain ⟨lb, loff, hla, hlc⟩ := L4.out.cell (by omega)
      obtain ⟨zb, zoff, hza, hzc⟩ := Z4.out.cell (by omega)
      subst hla
      subst hza
      have HLC := Lib.hid hlc
      have HZC := Lib.hid hzc
      have HD : Hid (Below w4.heap.size w4 wr.drew) := HK.out.trans (Below.refl _ _).drew
      have c1 : wr.cell? ⟨lb, loff + k, none⟩ = some (.slice (LA k) (row R k).length (LC k)) := (HK.out.cell (World.block_lt_of_cell? _ _ (hlc k hlt))).trans (hlc k hlt)
      have c2 : wr.cell? ⟨zb, zoff + k, none⟩ = some (.slice (ZA k) (row R k).length (ZC k)) := (HK.out.cell (World.block_lt_of_cell? _ _ (hzc k hlt))).trans (hzc k hlt)
      have hpos := HP.out.pos k hlt
      have hp0 : (((row R k).length : Int) == 0) = false := beq_eq_false_iff_ne.2 (by omega)
      clear hlc hzc
      have HLk := Lib.hid (fun W' (hb : Below w4.heap.size w4 W') => (L4.out.below hb).rows k hlt)
      have HZk := Lib.hid (fun W' (hb : Below w4.heap.size w4 W') => (Z4.out.below hb).rows k hlt)
      have HPk := Lib.hid (HP.out.part k hlt)
      have HC1 := Lib.hid (fun W' (hb : Below w4.heap.size w4 W') => (hb.cell (World.block_lt_of_cell? _ _ (HLC.out k hlt))).trans (HLC.out k hlt))
      have HC2 := Lib.hid (fun W' (hb : Below w4.heap.size w4 W') => (hb.cell (World.block_lt_of_cell? _ _ (HZC.out k hlt))).trans (HZC.out k hlt))
      have HPos := Lib.hid hpos
      clear hpos
      go_wp2_with fail
      go_region_held3 (fun w' => w'.cell? ⟨lb, loff + k, none⟩ = some (.slice (LA k) (row R k).length (LC k)) ∧ w'.cell? ⟨zb, zoff + k, none⟩ = some (.slice (ZA k) (row R k).length (ZC k)))
        (first
          | go_keep
          | exact ⟨d1, d2⟩
          | exact ⟨e1, e2⟩)
        (first
          | (go_at_call 18; refine (likeInts_at ⟨_, _, rfl, HLk.out _ HD.out⟩ ⟨_, _, rfl, HZk.out _ HD.out⟩).mono ?_; rintro e w5 ⟨rfl, hb⟩; have K5 := Lib.hid (HD.out.trans (hb.mono HD.out.size)); have d1 := HC1.out _ K5.out; have d2 := HC2.out _ K5.out; clear hb)
          | (go_at_call 19; refine (specPartIn_is HPk.out (LC k) uc (HLk.out _ K5.out) (U4.out.below K5.out)).mono ?_; rintro e w6 ⟨rfl, hb⟩; have K6 := Lib.hid (K5.out.trans (hb.mono K5.out.size)); have e1 := HC1.out _ K6.out; have e2 := HC2.out _ K6.out; clear hb))
      clear c1 c2 d1 d2 e1 e2 hp0
      go_wp2
      go_loopw [8] (fun jv wr => ∃ j : Nat, j ≤ k ∧ jv = .int .i64 j ∧ Hid (Below w4.heap.size w4 wr)) (fun jv _ => k - (intOf jv).toNat)
      case atStart => exact ⟨0, Nat.zero_le _, rfl, K6⟩
      case round =>
        clear K5 K6 HD HK
        obtain ⟨j, hj, rfl, HK⟩ := hrel
        have HD : Hid (Below w4.heap.size w4 wr.drew) := HK.out.trans (Below.refl _ _).drew
        have c1 := HC1.out _ HK.out
        by_cases hjk : j < k
        · have hi2 : (j : Int) < (k : Int) := by omega
          have hj0 : (0 : Int) ≤ (j : Int) := by omega
          have hjl : (j : Int) < R.length := by omega
          have hjR : j < R.length := by omega
          have HCj := Lib.hid (fun W' (hb : Below w4.heap.size w4 W') => (hb.cell (World.block_lt_of_cell? _ _ (HLC.out j hjR))).trans (HLC.out j hjR))
          have HLj := Lib.hid (fun W' (hb : Below w4.heap.size w4 W') => (L4.out.below hb).rows j hjR)
          have HMt := Lib.hid (HP.out.meet k j hlt hjk)
          have c3 := HCj.out _ HK.out
          go_wp2_with fail
          go_region_held3 (fun w' => w'.cell? ⟨lb, loff + k, none⟩ = some (.slice (LA k) (row R k).length (LC k)) ∧ w'.cell? ⟨lb, loff + j, none⟩ = some (.slice (LA j) (row R j).length (LC j)))
            (first
              | go_keep
              | exact ⟨d1, d2⟩)
            (first
              | (go_at_call 20; refine (specMeetOf_is HMt.out (LC k) (LC j) (HLk.out _ HD.out) (HLj.out _ HD.out)).mono ?_; rintro e w5 ⟨mv, rfl, hmv, hb⟩; obtain ⟨ma, mc, hms, -, -⟩ := hmv.shape; subst hms; have K5 := Lib.hid (HD.out.trans (hb.mono HD.out.size)); have d1 := HC1.out _ K5.out; have d2 := HCj.out _ K5.out; clear hb hmv))
          clear c1 c3 d1 d2
          go_wp2
          go_roundw
          case rel => exact ⟨j + 1, by omega, by go_num, K5⟩
          case measure => simp [intOf]; omega
        · have hi2 : ¬ (j : Int) < (k : Int) := by omega
          obtain ⟨rb, roff, hra, hrc⟩ := (HLk.out w4 (Below.refl _ _)).cell HPos.out
          have h0 := hrc 0 HPos.out
          rw [Nat.add_zero] at h0
          have HC4 := Lib.hid (fun W' (hb : Below w4.heap.size w4 W') => (hb.cell (World.block_lt_of_cell? _ _ h0)).trans h0)
          have HC1' := Lib.hid (fun W' (hb : Below w4.heap.size w4 W') => HC1.out W' hb)
          have HLk' := Lib.hid (fun W' (hb : Below w4.heap.size w4 W') => HLk.out W' hb)
          rw [hra] at HC1' HLk'
          obtain ⟨x, hx⟩ : ∃ x, x = nth (row R k) 0 := ⟨_, rfl⟩
          have hfx : Fits x := by rw [hx]; exact HP.out.fit k hlt
          obtain ⟨rr, hrr⟩ : ∃ rr, reachL O zss [x] = rr := ⟨_, rfl⟩
          have HRR := Lib.hid hrr
          have HPR : Hid (partB (row R k) rr = true) := by rw [← hrr, hx]; exact HP.out.reach k hlt
          rw [← hx] at HC4
          have HFX := Lib.hid hfx
          have HPart := Lib.hid (fun W' (hb : Below w4.heap.size w4 W') (ma : Option Addr) (mc : Nat) (hM : IntsAt W' ma rr) => PartIn_is HPR.out (LC k) mc (HLk'.out W' hb) hM)
          obtain ⟨m, hm⟩ : ∃ m, m = (row R k).length := ⟨_, rfl⟩
          have hl0 : (0 : Int) < m := by have := HPos.out; omega
          have hl1 : 0 < m := by omega
          have hl2 : ¬ m = 0 := by omega
          rw [← hm] at HC1' HPart
          clear hrc hra h0 hx hrr hfx c1 hm HLk'
          have c1 := HC1'.out _ HK.out
          have c4 := HC4.out _ HK.out
          have t0 := (T4.out.below HK.out).cell0
          have t1 := (T4.out.below HK.out).cell1
          go_wp2_with fail
          go_region_held3 (fun w' => w'.cell? ⟨lb, loff + k, none⟩ = some (.slice (some ⟨rb, roff, none⟩) m (LC k)) ∧ w'.cell? ⟨rb, roff, none⟩ = some (.int .i64 x) ∧ w'.cell? ⟨w1.heap.size, 0, none⟩ = some (.slice ao O.length co) ∧ w'.cell? ⟨w1.heap.size, 1, none⟩ = some (.slice an zss.length cn))
            (first
              | go_keep
              | exact ⟨d1, d2, d3, d4⟩
              | exact ⟨e1, e2, e3, e4⟩)
            (first
              | (go_at_call 22; refine (specReachOf_is (F := [x]) 1 HRR.out (A4.out.below (HD.out.alloc HD.out.size (.cells #[.int .i64 x] 2))) (new_ints wr.drew x HFX.out)).mono ?_; rintro e w5 ⟨mv, rfl, hmv, hb⟩; obtain ⟨ma, mc, hms, hmi, -⟩ := hmv.shape; subst hms; have K5 := Lib.hid ((HD.out.alloc HD.out.size (.cells #[.int .i64 x] 2)).trans (hb.mono (HD.out.alloc HD.out.size (.cells #[.int .i64 x] 2)).size)); have M5 := Lib.hid hmi; have d1 := HC1'.out _ K5.out; have d2 := HC4.out _ K5.out; have d3 := (T4.out.below K5.out).cell0; have d4 := (T4.out.below K5.out).cell1; clear hb hmv hmi)
              | (go_at_call 21; refine (HPart.out _ K5.out _ _ M5.out).mono ?_; rintro e w6 ⟨rfl, hb⟩; have K6 := Lib.hid (K5.out.trans (hb.mono K5.out.size)); have e1 := HC1'.out _ K6.out; have e2 := HC4.out _ K6.out; have e3 := (T4.out.below K6.out).cell0; have e4 := (T4.out.below K6.out).cell1; clear hb))
          clear c1 c4 t0 t1 d1 d2 d3 d4 e1 e2 e3 e4
          go_wp2
          go_roundw
          case rel => exact ⟨k + 1, by omega, by go_num, K6⟩
          case measure => simp [intOf]; omega
    · have hi1 : ¬ (k : Int) < R.length := by omega
      go_wp2
      go_ret
      exact ⟨rfl, B4.out.trans (HK.out.mono B4.out.size)⟩

end Go.Proofs.Ytaagbnogbhegdaa
