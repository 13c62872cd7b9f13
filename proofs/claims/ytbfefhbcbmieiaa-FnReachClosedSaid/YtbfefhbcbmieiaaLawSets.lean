/-
  The walk of the law FnSets.
-/
import Derived.Test.YtbfefhbcbmieiaaDrawTwo
import Derived.Test.YtbfefhbcbmieiaaBoth
namespace Go.Proofs.Ytbfefhbcbmieiaa
open Go.RowKit

theorem setFrom_of {n : Int} : ∀ (zs : List Int) (l : Int), zs.Pairwise (· < ·) → (∀ x ∈ zs, l < x ∧ x < n) → setFrom n l zs = true
  | [], _, _, _ => rfl
  | z :: r, l, hp, hb => by
    obtain ⟨h1, h2⟩ := List.pairwise_cons.1 hp
    have hz := hb z (by simp)
    rw [setFrom, decide_eq_true hz]
    exact setFrom_of r z h2 fun x hx => ⟨h1 x hx, (hb x (by simp [hx])).2⟩
theorem setB_of {n : Int} {zs : List Int} (hp : zs.Pairwise (· < ·)) (hb : ∀ x ∈ zs, 0 ≤ x ∧ x < n) : setB n zs = true := setFrom_of zs (-1) hp fun x hx => ⟨by have := (hb x hx).1; omega, (hb x hx).2⟩
theorem setB_mem {n : Int} {zs : List Int} (h : setB n zs = true) : ∀ x ∈ zs, 0 ≤ x ∧ x < n := fun x hx => by
  obtain ⟨k, hk, rfl⟩ := mem_nth.1 hx
  have := setB_bounds h hk
  exact ⟨this.1, this.2.1⟩
theorem setB_rising {n : Int} {zs : List Int} (h : setB n zs = true) : zs.Pairwise (· < ·) := rises_pairwise.1 (rises_of h)
theorem setB_filter {n : Int} {zs : List Int} (p : Int → Bool) (h : setB n zs = true) : setB n (zs.filter p) = true :=
  setB_of ((setB_rising h).sublist List.filter_sublist) fun x hx => setB_mem h x (List.mem_filter.1 hx).1
theorem setB_union {n : Int} {S T : List Int} (hS : setB n S = true) (hT : setB n T = true) : setB n (unionL S T) = true :=
  setB_of (unionK_rising (setB_rising hS) _ (Nat.le_refl _)) fun x hx => by
    rcases unionL_mem.1 hx with h | h
    · exact setB_mem hS x h
    · exact setB_mem hT x h
theorem inT_iff {T : List Int} {x : Int} : inT T x = true ↔ x ∈ T := hasB_iff
theorem outT_iff {T : List Int} {x : Int} : outT T x = true ↔ x ∉ T := by
  unfold outT; rw [Bool.not_eq_true', ← Bool.not_eq_true, hasB_iff]

theorem specHasIn_b2 {w : World} {a : Option Addr} {zs : List Int} {x : Int} {r : Bool} (hr : hasIn zs x = r) (cap : Nat) (h : IntsAt w a zs) :
    Calls Try.prog 20 #[.slice a zs.length cap, .int .i64 x] w fun e w' => e = .returned (.bool r) ∧ Below w.heap.size w w' :=
  (specHasIn_is hr cap h).mono fun _ _ ⟨he, hq⟩ => ⟨he, below_same (Below.refl _ _) hq⟩

/-- The five lists of the law. -/
structure SetsP (S T : List Int) : Prop where
  s : setB 256 S = true
  t : setB 256 T = true

theorem SetsP.both {S T : List Int} (h : SetsP S T) : bothL S T = unionL S T := by unfold bothL; rw [show bothOk S T = true from by simp [bothOk, h.s, h.t]]; rfl
theorem SetsP.meet {S T : List Int} (h : SetsP S T) : meetL S T = S.filter (inT T) := by unfold meetL; rw [show bothOk S T = true from by simp [bothOk, h.s, h.t]]; rfl
theorem SetsP.less {S T : List Int} (h : SetsP S T) : lessL S T = S.filter (outT T) := by unfold lessL; rw [show bothOk S T = true from by simp [bothOk, h.s, h.t]]; rfl
theorem SetsP.union1 {S T : List Int} (h : SetsP S T) : bothL (S.filter (inT T)) (S.filter (outT T)) = S := by
  have hm := setB_filter (inT T) h.s
  have hl := setB_filter (outT T) h.s
  have hq : SetsP (S.filter (inT T)) (S.filter (outT T)) := ⟨hm, hl⟩
  rw [hq.both]
  refine rising_ext (unionK_rising (setB_rising hm) _ (Nat.le_refl _)) (setB_rising h.s) fun x => ?_
  refine unionL_mem.trans ?_
  rw [List.mem_filter, List.mem_filter, inT_iff, outT_iff]
  constructor
  · rintro (h | h)
    · exact h.1
    · exact h.1
  · intro hx
    by_cases ht : x ∈ T
    · exact .inl ⟨hx, ht⟩
    · exact .inr ⟨hx, ht⟩
theorem SetsP.union2 {S T : List Int} (h : SetsP S T) : bothL (S.filter (outT T)) T = unionL S T := by
  have hl := setB_filter (outT T) h.s
  have hq : SetsP (S.filter (outT T)) T := ⟨hl, h.t⟩
  rw [hq.both]
  refine rising_ext (unionK_rising (setB_rising hl) _ (Nat.le_refl _)) (unionK_rising (setB_rising h.s) _ (Nat.le_refl _)) fun x => ?_
  refine unionL_mem.trans (Iff.trans ?_ unionL_mem.symm)
  rw [List.mem_filter, outT_iff]
  constructor
  · rintro (h | h)
    · exact .inl h.1
    · exact .inr h
  · rintro (hs | ht)
    · by_cases ht : x ∈ T
      · exact .inr ht
      · exact .inl ⟨hs, ht⟩
    · exact .inr ht
theorem part_true {S T : List Int} (hS : setB 256 S = true) (hT : setB 256 T = true) (h : ∀ x ∈ S, x ∈ T) : partB S T = true := by
  have e : S.filter (outT T) = [] := by
    rw [List.filter_eq_nil_iff]
    intro x hx ho
    exact outT_iff.1 ho (h x hx)
  unfold partB
  rw [show bothOk S T = true from by simp [bothOk, hS, hT], e]
  rfl
theorem SetsP.part1 {S T : List Int} (h : SetsP S T) : partB (S.filter (inT T)) S = true := part_true (setB_filter _ h.s) h.s fun x hx => (List.mem_filter.1 hx).1
theorem SetsP.part2 {S T : List Int} (h : SetsP S T) : partB S (unionL S T) = true := part_true h.s (setB_union h.s h.t) fun x hx => unionL_mem.2 (.inl hx)
theorem SetsP.part3 {S T : List Int} (h : SetsP S T) : partB S T = decide ((S.filter (outT T)).length = 0) := by
  unfold partB; rw [show bothOk S T = true from by simp [bothOk, h.s, h.t]]; rfl
theorem SetsP.hasBoth {S T : List Int} (h : SetsP S T) (x : Int) : hasIn (unionL S T) x = (hasB S x || hasB T x) := by
  unfold hasIn
  rw [setB_union h.s h.t, Bool.true_and, Bool.eq_iff_iff, hasB_iff, unionL_mem, Bool.or_eq_true, hasB_iff, hasB_iff]
theorem SetsP.hasMeet {S T : List Int} (h : SetsP S T) (x : Int) : hasIn (S.filter (inT T)) x = (hasB S x && hasB T x) := by
  unfold hasIn
  rw [setB_filter _ h.s, Bool.true_and, Bool.eq_iff_iff, hasB_iff, List.mem_filter, Bool.and_eq_true, hasB_iff, hasB_iff, inT_iff]
theorem hasIn_set {S : List Int} (h : setB 256 S = true) (x : Int) : hasIn S x = hasB S x := by unfold hasIn; rw [h]; rfl

set_option maxHeartbeats 8000000 in
set_option maxRecDepth 100000 in
theorem lawSets {w : World} {ab : Option Addr} {cb : Nat} {bs : List Int} (hby : BytesAt w ab bs) :
    Calls Try.prog 6 #[.slice ab bs.length cb] w fun e w' => e = .returned (.bool true) ∧ Below w.heap.size w w' := by
  have HY := Lib.hid hby
  have hbl := hby.len
  clear hby
  by_cases hbig : 4096 < (bs.length : Int)
  · have HG := Lib.hid (big_is (w := w) (ab := ab) (cb := cb) (decide_eq_true hbig))
    clear hbig
    go_enter Try.func6, Try.ntmps6
    go_wp2_with (go_at_call 15; refine HG.out.mono ?_; rintro e w' ⟨rfl, rfl⟩)
    go_ret
    exact ⟨rfl, Below.refl _ _⟩
  have HG := Lib.hid (big_is (w := w) (ab := ab) (cb := cb) (decide_eq_false hbig))
  have HDr := Lib.hid (DrawBothOf_is (cb := cb) HY.out (by omega))
  clear hbig HY
  go_enter Try.func6, Try.ntmps6
  go_wp2_with fail
  refine HG.out.mono ?_
  rintro e w' ⟨rfl, rfl⟩
  go_wp2_with fail
  refine HDr.out.mono ?_
  rintro e w1 ⟨u, v, S, T, rfl, hu, hv, hlS, hlT, hb⟩
  obtain ⟨ua, uc, hus, hui, _⟩ := hu.shape
  obtain ⟨va, vc, hvs, hvi, _⟩ := hv.shape
  subst hus
  subst hvs
  have B1 := Lib.hid hb
  have U1 := Lib.hid hui
  have V1 := Lib.hid hvi
  clear hu hv hb hui hvi HG HDr
  go_wp2_with fail
  refine (BothOf_is (rfl : bothL S T = _) uc vc U1.out V1.out).mono ?_
  rintro e w2 ⟨bo, rfl, hbo, hb⟩
  obtain ⟨ba, bc, hbs, hbi, _⟩ := hbo.shape
  subst hbs
  have B2 := Lib.hid (B1.out.trans (hb.mono B1.out.size))
  have U2 := Lib.hid (U1.out.below hb)
  have V2 := Lib.hid (V1.out.below hb)
  have BO2 := Lib.hid hbi
  clear hbo hb hbi B1 U1 V1
  go_wp2_with fail
  refine (MeetOf_is (rfl : meetL S T = _) uc vc U2.out V2.out).mono ?_
  rintro e w3 ⟨me, rfl, hme, hb⟩
  obtain ⟨ma, mc, hms, hmi, _⟩ := hme.shape
  subst hms
  have B3 := Lib.hid (B2.out.trans (hb.mono B2.out.size))
  have U3 := Lib.hid (U2.out.below hb)
  have V3 := Lib.hid (V2.out.below hb)
  have BO3 := Lib.hid (BO2.out.below hb)
  have ME3 := Lib.hid hmi
  clear hme hb hmi B2 U2 V2 BO2
  go_wp2_with fail
  refine (LessOf_is (rfl : lessL S T = _) uc vc U3.out V3.out).mono ?_
  rintro e w4 ⟨le, rfl, hle, hb⟩
  obtain ⟨la, lc, hls, hli, _⟩ := hle.shape
  subst hls
  have B4 := Lib.hid (B3.out.trans (hb.mono B3.out.size))
  have U4 := Lib.hid (U3.out.below hb)
  have V4 := Lib.hid (V3.out.below hb)
  have BO4 := Lib.hid (BO3.out.below hb)
  have ME4 := Lib.hid (ME3.out.below hb)
  have LE4 := Lib.hid hli
  clear hle hb hli B3 U3 V3 BO3 ME3
  have HSa := Lib.hid (fun b (h : setB 256 S = b) => specSetOk_is (setOk_256.trans h) uc U4.out)
  have HSb : Hid (∀ q b, setB 256 T = b → Calls Try.prog 41 #[.slice va T.length vc, .int .i64 256] (w4.drewN q) fun e w' => e = .returned (.bool b) ∧ ∃ q', w' = (w4.drewN q).drewN q') := fun q b h => specSetOk_is (setOk_256.trans h) vc (V4.out.same ⟨q, rfl⟩)
  cases hsS : setB 256 S with
  | false =>
    have hno : bothOk S T = false := by simp [bothOk, hsS]
    have HA := Lib.hid (HSa.out _ hsS)
    have HP : Hid (∀ q, Calls Try.prog 36 #[.slice ua S.length uc, .slice va T.length vc] (w4.drewN q) fun e w' => e = .returned (.bool false) ∧ Below (w4.drewN q).heap.size (w4.drewN q) w') := fun q =>
      PartIn_is (by unfold partB; rw [hno]; rfl) uc vc (U4.out.same ⟨q, rfl⟩) (V4.out.same ⟨q, rfl⟩)
    have h1 : (bothL S T).length = 0 := by unfold bothL; rw [hno]; rfl
    have h2 : (meetL S T).length = 0 := by unfold meetL; rw [hno]; rfl
    have h3 : (lessL S T).length = 0 := by unfold lessL; rw [hno]; rfl
    rw [h1, h2, h3]
    clear h1 h2 h3 hno hsS HSa HSb BO4 ME4 LE4
    go_wp2_with fail
    refine HA.out.mono ?_
    rintro e w' ⟨rfl, q, rfl⟩
    go_wp2_with fail
    refine (HP.out q).mono ?_
    rintro e w5 ⟨rfl, hb⟩
    have B5 := Lib.hid ((below_drewN B4.out q).trans (hb.mono B4.out.size))
    clear hb
    go_wp2
    go_ret
    exact ⟨rfl, B5.out⟩
  | true =>
    have HA := Lib.hid (HSa.out _ hsS)
    cases hsT : setB 256 T with
    | false =>
      have hno : bothOk S T = false := by simp [bothOk, hsS, hsT]
      have HB : Hid (∀ q, Calls Try.prog 41 #[.slice va T.length vc, .int .i64 256] (w4.drewN q) fun e w' => e = .returned (.bool false) ∧ ∃ q', w' = (w4.drewN q).drewN q') := fun q => HSb.out q _ hsT
      have HP : Hid (∀ q, Calls Try.prog 36 #[.slice ua S.length uc, .slice va T.length vc] (w4.drewN q) fun e w' => e = .returned (.bool false) ∧ Below (w4.drewN q).heap.size (w4.drewN q) w') := fun q =>
        PartIn_is (by unfold partB; rw [hno]; rfl) uc vc (U4.out.same ⟨q, rfl⟩) (V4.out.same ⟨q, rfl⟩)
      have h1 : (bothL S T).length = 0 := by unfold bothL; rw [hno]; rfl
      have h2 : (meetL S T).length = 0 := by unfold meetL; rw [hno]; rfl
      have h3 : (lessL S T).length = 0 := by unfold lessL; rw [hno]; rfl
      rw [h1, h2, h3]
      clear h1 h2 h3 hno hsS hsT HSa HSb BO4 ME4 LE4
      go_wp2_with fail
      refine HA.out.mono ?_
      rintro e w' ⟨rfl, q, rfl⟩
      go_wp2_with fail
      refine (HB.out q).mono ?_
      rintro e w' ⟨rfl, q', hw'⟩
      have hw2 : ∃ q2, w' = w4.drewN q2 := by rw [hw']; exact drewn ⟨q, rfl⟩
      clear hw'
      obtain ⟨q2, rfl⟩ := hw2
      go_wp2_with fail
      refine (HP.out q2).mono ?_
      rintro e w5 ⟨rfl, hb⟩
      have B5 := Lib.hid ((below_drewN B4.out q2).trans (hb.mono B4.out.size))
      clear hb
      go_wp2
      go_ret
      exact ⟨rfl, B5.out⟩
    | true =>
      have HB : Hid (∀ q, Calls Try.prog 41 #[.slice va T.length vc, .int .i64 256] (w4.drewN q) fun e w' => e = .returned (.bool true) ∧ ∃ q', w' = (w4.drewN q).drewN q') := fun q => HSb.out q _ hsT
      have SP : Hid (SetsP S T) := ⟨hsS, hsT⟩
      rw [SP.out.both, SP.out.meet, SP.out.less]
      have BO4' : Hid (IntsAt w4 ba (unionL S T)) := by rw [← SP.out.both]; exact BO4.out
      have ME4' : Hid (IntsAt w4 ma (S.filter (inT T))) := by rw [← SP.out.meet]; exact ME4.out
      have LE4' : Hid (IntsAt w4 la (S.filter (outT T))) := by rw [← SP.out.less]; exact LE4.out
      obtain ⟨UN, hUN⟩ : ∃ x, unionL S T = x := ⟨_, rfl⟩
      obtain ⟨MN, hMN⟩ : ∃ x, S.filter (inT T) = x := ⟨_, rfl⟩
      obtain ⟨LN, hLN⟩ : ∃ x, S.filter (outT T) = x := ⟨_, rfl⟩
      rw [hUN] at BO4' ⊢
      rw [hMN] at ME4' ⊢
      rw [hLN] at LE4' ⊢
      have e1 := SP.out.union1
      have e2 := SP.out.union2
      have e3 := SP.out.part1
      have e4 := SP.out.part2
      have e5 := SP.out.part3
      have e6 := SP.out.hasBoth
      have e7 := SP.out.hasMeet
      rw [hMN, hLN] at e1
      rw [hLN, hUN] at e2
      rw [hMN] at e3
      rw [hUN] at e4
      rw [hLN] at e5
      rw [hUN] at e6
      rw [hMN] at e7
      have E1 := Lib.hid e1
      have E2 := Lib.hid e2
      have E3 := Lib.hid e3
      have E4 := Lib.hid e4
      have E5 := Lib.hid e5
      have E6 := Lib.hid e6
      have E7 := Lib.hid e7
      have E8 := Lib.hid (fun x => hasIn_set hsS x)
      have E9 := Lib.hid (fun x => hasIn_set hsT x)
      have hlS2 : S.length ≤ 256 := by have := setB_len (by decide) hsS; omega
      have hlL := LE4'.out.len
      clear hsS hsT HSa HSb BO4 ME4 LE4 hUN hMN hLN e1 e2 e3 e4 e5 e6 e7
      go_wp2_with fail
      refine HA.out.mono ?_
      rintro e w' ⟨rfl, q, rfl⟩
      go_wp2_with fail
      refine (HB.out q).mono ?_
      rintro e w' ⟨rfl, q', hw'⟩
      have hw2 : ∃ q2, w' = w4.drewN q2 := by rw [hw']; exact drewn ⟨q, rfl⟩
      clear hw'
      obtain ⟨q2, hw2⟩ := hw2
      have K4 : Hid (Below w4.heap.size w4 w') := by rw [hw2]; exact below_drewN (Below.refl _ _) _
      clear hw2 HA HB
      go_wp2
      go_loopw [8] (fun i wr => ∃ k : Nat, k ≤ 12 ∧ i = .int .i64 k ∧ Hid (Below w4.heap.size w4 wr)) (fun i _ => 12 - (intOf i).toNat)
      case atStart => exact ⟨0, by omega, rfl, K4⟩
      case round =>
        clear K4
        obtain ⟨k, hk, rfl, HK⟩ := hrel
        by_cases hlt : k < 12
        · have hi1 : (k : Int) < 12 := by omega
          cases hcS : hasB S k with
          | true =>
            cases hcT : hasB T k with
            | true =>
              have hE6 : hasIn UN k = true := by rw [E6.out, hcS, hcT]; rfl
              have hE7 : hasIn MN k = true := by rw [E7.out, hcS, hcT]; rfl
              have HE6 := Lib.hid hE6
              have HE7 := Lib.hid hE7
              have HcS := Lib.hid hcS
              have HcT := Lib.hid hcT
              clear hE6 hE7 hcS hcT
              go_wp2_with fail
              refine (HasIn_is (HE6.out) bc (BO4'.out.below HK.out)).mono ?_
              rintro e x1 ⟨rfl, hb⟩
              have K1 := Lib.hid (HK.out.trans (hb.mono HK.out.size))
              clear hb
              go_wp2_with fail
              refine (specHasIn_b2 ((E8.out _).trans HcS.out) uc (U4.out.below K1.out)).mono ?_
              rintro e x2 ⟨rfl, hb⟩
              have K2 := Lib.hid (K1.out.trans (hb.mono K1.out.size))
              clear hb
              go_wp2_with fail
              refine (HasIn_is (HE7.out) mc (ME4'.out.below K2.out)).mono ?_
              rintro e x3 ⟨rfl, hb⟩
              have K3 := Lib.hid (K2.out.trans (hb.mono K2.out.size))
              clear hb
              go_wp2_with fail
              refine (specHasIn_b2 ((E8.out _).trans HcS.out) uc (U4.out.below K3.out)).mono ?_
              rintro e x4 ⟨rfl, hb⟩
              have K4 := Lib.hid (K3.out.trans (hb.mono K3.out.size))
              clear hb
              go_wp2_with fail
              refine (specHasIn_b2 ((E9.out _).trans HcT.out) vc (V4.out.below K4.out)).mono ?_
              rintro e x5 ⟨rfl, hb⟩
              have K5 := Lib.hid (K4.out.trans (hb.mono K4.out.size))
              clear hb
              go_wp2
              go_roundw
              case rel => exact ⟨k + 1, by omega, by go_num, K5⟩
              case measure => simp [intOf]; omega
            | false =>
              have hE6 : hasIn UN k = true := by rw [E6.out, hcS, hcT]; rfl
              have hE7 : hasIn MN k = false := by rw [E7.out, hcS, hcT]; rfl
              have HE6 := Lib.hid hE6
              have HE7 := Lib.hid hE7
              have HcS := Lib.hid hcS
              have HcT := Lib.hid hcT
              clear hE6 hE7 hcS hcT
              go_wp2_with fail
              refine (HasIn_is (HE6.out) bc (BO4'.out.below HK.out)).mono ?_
              rintro e x1 ⟨rfl, hb⟩
              have K1 := Lib.hid (HK.out.trans (hb.mono HK.out.size))
              clear hb
              go_wp2_with fail
              refine (specHasIn_b2 ((E8.out _).trans HcS.out) uc (U4.out.below K1.out)).mono ?_
              rintro e x2 ⟨rfl, hb⟩
              have K2 := Lib.hid (K1.out.trans (hb.mono K1.out.size))
              clear hb
              go_wp2_with fail
              refine (HasIn_is (HE7.out) mc (ME4'.out.below K2.out)).mono ?_
              rintro e x3 ⟨rfl, hb⟩
              have K3 := Lib.hid (K2.out.trans (hb.mono K2.out.size))
              clear hb
              go_wp2_with fail
              refine (specHasIn_b2 ((E8.out _).trans HcS.out) uc (U4.out.below K3.out)).mono ?_
              rintro e x4 ⟨rfl, hb⟩
              have K4 := Lib.hid (K3.out.trans (hb.mono K3.out.size))
              clear hb
              go_wp2_with fail
              refine (specHasIn_b2 ((E9.out _).trans HcT.out) vc (V4.out.below K4.out)).mono ?_
              rintro e x5 ⟨rfl, hb⟩
              have K5 := Lib.hid (K4.out.trans (hb.mono K4.out.size))
              clear hb
              go_wp2
              go_roundw
              case rel => exact ⟨k + 1, by omega, by go_num, K5⟩
              case measure => simp [intOf]; omega
          | false =>
            cases hcT : hasB T k with
            | true =>
              have hE6 : hasIn UN k = true := by rw [E6.out, hcS, hcT]; rfl
              have hE7 : hasIn MN k = false := by rw [E7.out, hcS, hcT]; rfl
              have HE6 := Lib.hid hE6
              have HE7 := Lib.hid hE7
              have HcS := Lib.hid hcS
              have HcT := Lib.hid hcT
              clear hE6 hE7 hcS hcT
              go_wp2_with fail
              refine (HasIn_is (HE6.out) bc (BO4'.out.below HK.out)).mono ?_
              rintro e x1 ⟨rfl, hb⟩
              have K1 := Lib.hid (HK.out.trans (hb.mono HK.out.size))
              clear hb
              go_wp2_with fail
              refine (specHasIn_b2 ((E8.out _).trans HcS.out) uc (U4.out.below K1.out)).mono ?_
              rintro e x2 ⟨rfl, hb⟩
              have K2 := Lib.hid (K1.out.trans (hb.mono K1.out.size))
              clear hb
              go_wp2_with fail
              refine (specHasIn_b2 ((E9.out _).trans HcT.out) vc (V4.out.below K2.out)).mono ?_
              rintro e x3 ⟨rfl, hb⟩
              have K3 := Lib.hid (K2.out.trans (hb.mono K2.out.size))
              clear hb
              go_wp2_with fail
              refine (HasIn_is (HE7.out) mc (ME4'.out.below K3.out)).mono ?_
              rintro e x4 ⟨rfl, hb⟩
              have K4 := Lib.hid (K3.out.trans (hb.mono K3.out.size))
              clear hb
              go_wp2_with fail
              refine (specHasIn_b2 ((E8.out _).trans HcS.out) uc (U4.out.below K4.out)).mono ?_
              rintro e x5 ⟨rfl, hb⟩
              have K5 := Lib.hid (K4.out.trans (hb.mono K4.out.size))
              clear hb
              go_wp2
              go_roundw
              case rel => exact ⟨k + 1, by omega, by go_num, K5⟩
              case measure => simp [intOf]; omega
            | false =>
              have hE6 : hasIn UN k = false := by rw [E6.out, hcS, hcT]; rfl
              have hE7 : hasIn MN k = false := by rw [E7.out, hcS, hcT]; rfl
              have HE6 := Lib.hid hE6
              have HE7 := Lib.hid hE7
              have HcS := Lib.hid hcS
              have HcT := Lib.hid hcT
              clear hE6 hE7 hcS hcT
              go_wp2_with fail
              refine (HasIn_is (HE6.out) bc (BO4'.out.below HK.out)).mono ?_
              rintro e x1 ⟨rfl, hb⟩
              have K1 := Lib.hid (HK.out.trans (hb.mono HK.out.size))
              clear hb
              go_wp2_with fail
              refine (specHasIn_b2 ((E8.out _).trans HcS.out) uc (U4.out.below K1.out)).mono ?_
              rintro e x2 ⟨rfl, hb⟩
              have K2 := Lib.hid (K1.out.trans (hb.mono K1.out.size))
              clear hb
              go_wp2_with fail
              refine (specHasIn_b2 ((E9.out _).trans HcT.out) vc (V4.out.below K2.out)).mono ?_
              rintro e x3 ⟨rfl, hb⟩
              have K3 := Lib.hid (K2.out.trans (hb.mono K2.out.size))
              clear hb
              go_wp2_with fail
              refine (HasIn_is (HE7.out) mc (ME4'.out.below K3.out)).mono ?_
              rintro e x4 ⟨rfl, hb⟩
              have K4 := Lib.hid (K3.out.trans (hb.mono K3.out.size))
              clear hb
              go_wp2_with fail
              refine (specHasIn_b2 ((E8.out _).trans HcS.out) uc (U4.out.below K4.out)).mono ?_
              rintro e x5 ⟨rfl, hb⟩
              have K5 := Lib.hid (K4.out.trans (hb.mono K4.out.size))
              clear hb
              go_wp2
              go_roundw
              case rel => exact ⟨k + 1, by omega, by go_num, K5⟩
              case measure => simp [intOf]; omega
        · have hi1 : ¬ (k : Int) < 12 := by omega
          have hs4 := HK.out.size
          go_wp2_with fail
          refine (BothOf_is E1.out mc lc (ME4'.out.below HK.out) (LE4'.out.below HK.out)).mono ?_
          rintro e x1 ⟨r1, rfl, hR1, hb⟩
          have K1 := Lib.hid (HK.out.trans (hb.mono HK.out.size))
          have R1 := Lib.hid hR1.v
          clear hR1
          clear hb
          go_wp2_with fail
          refine (likeInts_at R1.out ⟨_, _, rfl, U4.out.below K1.out⟩).mono ?_
          rintro e x2 ⟨rfl, hb⟩
          have K2 := Lib.hid (K1.out.trans (hb.mono K1.out.size))
          clear hb
          go_wp2_with fail
          refine (BothOf_is E2.out lc vc (LE4'.out.below K2.out) (V4.out.below K2.out)).mono ?_
          rintro e x3 ⟨r2, rfl, hR2, hb⟩
          have K3 := Lib.hid (K2.out.trans (hb.mono K2.out.size))
          have R2 := Lib.hid hR2.v
          clear hR2
          clear hb
          go_wp2_with fail
          refine (likeInts_at R2.out ⟨_, _, rfl, BO4'.out.below K3.out⟩).mono ?_
          rintro e x4 ⟨rfl, hb⟩
          have K4 := Lib.hid (K3.out.trans (hb.mono K3.out.size))
          clear hb
          go_wp2_with fail
          refine (PartIn_is E3.out mc uc (ME4'.out.below K4.out) (U4.out.below K4.out)).mono ?_
          rintro e x5 ⟨rfl, hb⟩
          have K5 := Lib.hid (K4.out.trans (hb.mono K4.out.size))
          clear hb
          go_wp2_with fail
          refine (PartIn_is E4.out uc bc (U4.out.below K5.out) (BO4'.out.below K5.out)).mono ?_
          rintro e x6 ⟨rfl, hb⟩
          have K6 := Lib.hid (K5.out.trans (hb.mono K5.out.size))
          clear hb
          go_wp2_with fail
          refine (PartIn_is E5.out uc vc (U4.out.below K6.out) (V4.out.below K6.out)).mono ?_
          rintro e x7 ⟨rfl, hb⟩
          have K7 := Lib.hid (K6.out.trans (hb.mono K6.out.size))
          clear hb
          by_cases hz : LN.length = 0
          · have hz2 : ((LN.length : Nat) : Int) = 0 := by omega
            have hz3 : decide (LN.length = 0) = true := decide_eq_true hz
            rw [hz3]
            go_wp2_with fail
            refine (AllOf_is (allL_yes hlS2)).mono ?_
            rintro e x8 ⟨r3, rfl, hR3, hb⟩
            obtain ⟨ra, rc, hrs, hri, _⟩ := hR3.shape
            subst hrs
            have BZ := Lib.hid (B4.out.trans ((K7.out.trans (hb.mono K7.out.size)).mono B4.out.size))
            have hul := upL_len S.length
            rw [hul]
            clear hR3 hb hri hul
            have hll : (((S.length : Nat) : Int) == ((S.length : Nat) : Int)) = true := by simp
            go_wp2
            go_ret
            exact ⟨rfl, BZ.out⟩
          · have hz2 : ((((LN.length : Nat) : Int)) == 0) = false := by simp only [beq_eq_false_iff_ne]; omega
            have hz3 : decide (LN.length = 0) = false := decide_eq_false hz
            rw [hz3]
            go_wp2_with fail
            refine (AllOf_is (allL_yes hlS2)).mono ?_
            rintro e x8 ⟨r3, rfl, hR3, hb⟩
            obtain ⟨ra, rc, hrs, hri, _⟩ := hR3.shape
            subst hrs
            have BZ := Lib.hid (B4.out.trans ((K7.out.trans (hb.mono K7.out.size)).mono B4.out.size))
            have hul := upL_len S.length
            rw [hul]
            clear hR3 hb hri hul
            have hll : (((S.length : Nat) : Int) == ((S.length : Nat) : Int)) = true := by simp
            go_wp2
            go_ret
            exact ⟨rfl, BZ.out⟩

end Go.Proofs.Ytbfefhbcbmieiaa
