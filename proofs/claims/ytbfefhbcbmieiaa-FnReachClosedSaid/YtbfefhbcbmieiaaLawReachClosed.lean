/-
  The walk of the law FnReachClosed.
-/
import Derived.Test.YtbfefhbcbmieiaaDrawReach
import Derived.Test.YtbfefhbcbmieiaaLawSets
import Derived.Test.YtbfefhbcbmieiaaReachImpl
namespace Go.Proofs.Ytbfefhbcbmieiaa
open Go.RowKit

theorem rch_nil {zss : List (List Int)} {I : Nat → Bool} : ∀ v, ¬ Rch zss I [] v := fun v h => by
  induction h with
  | one h _ _ => cases h
  | more _ _ _ ih => exact ih

theorem marked_none {xs : Nat → Bool} (h : ∀ v, xs v = false) (n : Nat) : markedK xs n = [] := by
  induction n with
  | zero => rfl
  | succ k ih => simp [markedK, ih, h k]

/-- The reached set is closed, and what is reached from it is it. -/
structure ClosedP (O : List Int) (zss : List (List Int)) (s : List Int) : Prop where
  at_ : ∀ k, k < s.length → ∃ v : Nat, nth s k = (v : Int) ∧ v < zss.length ∧ ∀ j, j < (row zss v).length → hasIn s (nth (row zss v) j) = true
  idem : reachL O zss s = s

theorem reach_closed {O : List Int} {zss : List (List Int)} {F s : List Int} (hs : reachL O zss F = s) : ClosedP O zss s := by
  by_cases hv : ArenaP O zss ∧ setB O.length F = true
  · have hse : s = markedK (reachM zss F) zss.length := by rw [← hs]; unfold reachL; rw [if_pos hv]
    obtain ⟨⟨h1, h2, h3, hver⟩, hF⟩ := hv
    have hmem : ∀ v : Nat, (v : Int) ∈ s ↔ v < zss.length ∧ ((v : Int) ∈ F ∨ Rch zss (fun _ => true) F v) := fun v => by
      rw [hse, markedK_mem]
      constructor
      · rintro ⟨u, hu, hun, hr⟩
        have : u = v := by omega
        subst this
        exact ⟨hun, by simpa [reachM] using hr⟩
      · rintro ⟨hvn, hr⟩
        exact ⟨v, rfl, hvn, by simpa [reachM] using hr⟩
    have hsb : ∀ x ∈ s, 0 ≤ x ∧ x < (O.length : Int) := fun x hx => by
      rw [hse, markedK_mem] at hx
      obtain ⟨u, hu, hun, _⟩ := hx
      omega
    have hset : setB O.length s = true := setB_of (by rw [hse]; exact markedK_rising _ _) hsb
    have hset2 : setB 256 s = true := setB_of (by rw [hse]; exact markedK_rising _ _) fun x hx => by have := hsb x hx; omega
    have hrow : ∀ v, v < zss.length → ∀ x ∈ row zss v, ∃ u : Nat, x = (u : Int) ∧ u < zss.length := fun v hv x hx => by
      have hb := setB_mem (hver v (by omega)).2.2.2 x hx
      exact ⟨x.toNat, by omega, by omega⟩
    have hstep : ∀ v u : Nat, (v : Int) ∈ s → (u : Int) ∈ row zss v → (u : Int) ∈ s := fun v u hv hu => by
      obtain ⟨hvn, hr⟩ := (hmem v).1 hv
      obtain ⟨u', hu', hun⟩ := hrow v hvn _ hu
      have : u = u' := by omega
      subst this
      refine (hmem u).2 ⟨hun, .inr ?_⟩
      rcases hr with hr | hr
      · exact .one hr hu rfl
      · exact .more hr hu rfl
    refine ⟨fun k hk => ?_, ?_⟩
    · have hx := nth_mem hk
      have hb := hsb _ hx
      refine ⟨(nth s k).toNat, by omega, by omega, fun j hj => ?_⟩
      have hv : (((nth s k).toNat : Nat) : Int) ∈ s := by rw [Int.toNat_of_nonneg hb.1]; exact hx
      obtain ⟨u, hu, hun⟩ := hrow (nth s k).toNat (by omega) _ (nth_mem hj)
      unfold hasIn
      rw [hset2, Bool.true_and, hasB_iff, hu]
      exact hstep _ u hv (by rw [← hu]; exact nth_mem hj)
    · have e : markedK (reachM zss s) zss.length = markedK (reachM zss F) zss.length := markedK_congr fun v hv => by
        have key : ((v : Int) ∈ s ∨ Rch zss (fun _ => true) s v) ↔ ((v : Int) ∈ F ∨ Rch zss (fun _ => true) F v) := by
          constructor
          · rintro (h | h)
            · exact ((hmem v).1 h).2
            · have : ∀ v, Rch zss (fun _ => true) s v → (v : Int) ∈ s := fun v h => by
                induction h with
                | one h hm _ => exact hstep _ _ h hm
                | more _ hm _ ih => exact hstep _ _ ih hm
              exact ((hmem v).1 (this v h)).2
          · intro h; exact .inl ((hmem v).2 ⟨hv, h⟩)
        unfold reachM
        exact decide_eq_decide.2 key
      unfold reachL
      rw [if_pos ⟨⟨h1, h2, h3, hver⟩, hset⟩, e, ← hse]
  · have hse : s = [] := by rw [← hs]; unfold reachL; rw [if_neg hv]
    subst hse
    refine ⟨fun k hk => absurd hk (by simp), ?_⟩
    unfold reachL
    split
    · exact marked_none (fun v => by simp only [reachM, decide_eq_false_iff_not]; rintro (h | h); (cases h); (exact rch_nil v h)) _
    · rfl

set_option maxHeartbeats 8000000 in
set_option maxRecDepth 100000 in
theorem lawReachClosed {w : World} {ab : Option Addr} {cb : Nat} {bs : List Int} (hby : BytesAt w ab bs) :
    Calls Try.prog 3 #[.slice ab bs.length cb] w fun e w' => e = .returned (.bool true) ∧ Below w.heap.size w w' := by
  have HY := Lib.hid hby
  have hbl := hby.len
  clear hby
  by_cases hbig : 4096 < (bs.length : Int)
  · have HG := Lib.hid (big_is (w := w) (ab := ab) (cb := cb) (decide_eq_true hbig))
    clear hbig
    go_enter Try.func3, Try.ntmps3
    go_wp2_with (go_at_call 15; refine HG.out.mono ?_; rintro e w' ⟨rfl, rfl⟩)
    go_ret
    exact ⟨rfl, Below.refl _ _⟩
  have HG := Lib.hid (big_is (w := w) (ab := ab) (cb := cb) (decide_eq_false hbig))
  have HDr := Lib.hid (DrawReachOf_is (cb := cb) HY.out (by omega))
  clear hbig HY
  go_enter Try.func3, Try.ntmps3
  go_wp2_with fail
  refine HG.out.mono ?_
  rintro e w' ⟨rfl, rfl⟩
  go_wp2_with fail
  refine HDr.out.mono ?_
  rintro e w1 ⟨v, u, O, zss, F, rfl, hA, hU, hlF, hlO, hb⟩
  obtain ⟨ua, uc, rfl, hui⟩ := hU
  have A1 := Lib.hid hA
  obtain ⟨ao, an, co, cn, A, C, rfl, -, hrows⟩ := hA
  have B1 := Lib.hid hb
  have U1 := Lib.hid hui
  have N1 := Lib.hid hrows
  clear hb hui hrows HG HDr
  go_wp2_with fail
  obtain ⟨w2, hw2⟩ : ∃ y, y = w1.alloc (.cells #[.slice ao O.length co, .slice an zss.length cn] 27) := ⟨_, rfl⟩
  rw [← hw2]
  have hb2 : Below w1.heap.size w1 w2 := by rw [hw2]; exact below1 _ _
  have T2 : Hid (Box2 w2 w1.heap.size 27 (.slice ao O.length co) (.slice an zss.length cn)) := by rw [hw2]; exact Box2.new _ _ _ _
  have A2 := Lib.hid (A1.out.below hb2)
  have U2 := Lib.hid (U1.out.below hb2)
  have N2 := Lib.hid (N1.out.below hb2)
  have B2 := Lib.hid (B1.out.trans (hb2.mono B1.out.size))
  clear hw2 hb2 A1 U1 N1 B1
  obtain ⟨s, hs⟩ : ∃ s, reachL O zss F = s := ⟨_, rfl⟩
  have HCl := Lib.hid (reach_closed hs)
  have HS := Lib.hid hs
  clear hs
  refine (ReachOf_is uc HS.out A2.out U2.out).mono ?_
  rintro e w3 ⟨sv, rfl, hsv, hb⟩
  obtain ⟨sa, sc, hss, hsi, -⟩ := hsv.shape
  subst hss
  have S3 := Lib.hid hsi
  have T3 := Lib.hid (T2.out.below hb)
  have A3 := Lib.hid (A2.out.below hb)
  have U3 := Lib.hid (U2.out.below hb)
  have N3 := Lib.hid (N2.out.below hb)
  have B3 := Lib.hid (B2.out.trans (hb.mono B2.out.size))
  clear hsv hsi hb T2 A2 U2 N2 B2
  have t0 := T3.out.cell0
  have t1 := T3.out.cell1
  go_wp2_with fail
  refine (specReachOf_is uc HS.out A3.out U3.out).mono ?_
  rintro e w4 ⟨zv, rfl, hzv, hb⟩
  have Z4 := Lib.hid hzv.v
  have S4 := Lib.hid (S3.out.below hb)
  have T4 := Lib.hid (T3.out.below hb)
  have A4 := Lib.hid (A3.out.below hb)
  have N4 := Lib.hid (N3.out.below hb)
  have B4 := Lib.hid (B3.out.trans (hb.mono B3.out.size))
  clear hzv hb t0 t1 T3 A3 N3 B3 S3 U3
  go_wp2_with fail
  refine (likeInts_at ⟨_, _, rfl, S4.out⟩ Z4.out).mono ?_
  rintro e w5 ⟨rfl, hb⟩
  have S5 := Lib.hid (S4.out.below hb)
  have T5 := Lib.hid (T4.out.below hb)
  have A5 := Lib.hid (A4.out.below hb)
  have N5 := Lib.hid (N4.out.below hb)
  have B5 := Lib.hid (B4.out.trans (hb.mono B4.out.size))
  clear hb T4 A4 N4 B4 S4 Z4
  have K5 := Lib.hid (Below.refl w5.heap.size w5)
  have hlS := S5.out.len
  go_wp2
  go_loopw [6] (fun iv wr => ∃ k : Nat, k ≤ s.length ∧ iv = .int .i64 k ∧ Hid (Below w5.heap.size w5 wr)) (fun iv _ => s.length - (intOf iv).toNat)
  case atStart => exact ⟨0, Nat.zero_le _, rfl, K5⟩
  case round =>
    clear K5
    obtain ⟨k, hk, rfl, HK⟩ := hrel
    by_cases hlt : k < s.length
    · have hi1 : (k : Int) < s.length := by omega
      obtain ⟨v, hv, hvn, hcl⟩ := HCl.out.at_ k hlt
      have HV := Lib.hid hcl
      have HVE := Lib.hid hv
      clear hcl hv
      go_wp2
      go_loopw [7] (fun jv wr => ∃ j : Nat, j ≤ (row zss v).length ∧ jv = .int .i64 j ∧ Hid (Below w5.heap.size w5 wr)) (fun jv _ => (row zss v).length - (intOf jv).toNat)
      case atStart => exact ⟨0, Nat.zero_le _, rfl, HK⟩
      case round =>
        clear HK
        obtain ⟨j, hj, rfl, HK⟩ := hrel
        obtain ⟨sb, soff, hsa, hsc⟩ := (S5.out.below HK.out).cell (by omega)
        obtain ⟨nb, noff, hna, hnc⟩ := (N5.out.below HK.out).cell (by omega)
        subst hsa
        subst hna
        have c1 := hsc k hlt
        rw [HVE.out] at c1
        have c2 := hnc v hvn
        have t1 := (T5.out.below HK.out).cell1
        have hv0 : (0 : Int) ≤ (v : Int) := by omega
        have hvn' : (v : Int) < zss.length := by omega
        have hrl : (row zss v).length ≤ 17592186044416 := (N5.out.rows v hvn).len
        clear hsc hnc
        go_wp2
        go_quiet (fail)
        obtain ⟨w6, hw6⟩ : ∃ y, y = wr.drewN nq := ⟨_, rfl⟩
        rw [← hw6]
        have K6 : Hid (Below w5.heap.size w5 w6) := by rw [hw6]; exact below_drewN HK.out nq
        clear hw6 c1 c2 t1
        by_cases hjl : j < (row zss v).length
        · have hi2 : (j : Int) < (row zss v).length := by omega
          obtain ⟨rb, roff, hra, hrc⟩ := (N5.out.rows v hvn).cell (by omega)
          have RC : Hid (C v = C v) := rfl
          have c1 := Below.cell_some (B := 0) (w := w5) (w' := w6) (p := ⟨sb, soff + k, none⟩) (v := .int .i64 v) K6.out rfl (by
            obtain ⟨b, off, h1, h2⟩ := S5.out.cell (by omega)
            cases h1
            rw [h2 k hlt, HVE.out])
          have c2 := Below.cell_some (B := 0) (w := w5) (w' := w6) (p := ⟨nb, noff + v, none⟩) (v := .slice (some ⟨rb, roff, none⟩) (row zss v).length (C v)) K6.out rfl (by
            obtain ⟨b, off, h1, h2⟩ := N5.out.cell (by omega)
            cases h1
            rw [h2 v hvn, hra])
          have c3 := Below.cell_some (B := 0) (w := w5) (w' := w6) (p := ⟨rb, roff + j, none⟩) K6.out rfl (hrc j hjl)
          have t1 := (T5.out.below K6.out).cell1
          have HHn := Lib.hid (fun W' (hb : Below w5.heap.size w5 W') => specHasIn_b2 (HV.out j hjl) sc (S5.out.below hb))
          clear hrc hra
          go_wp2
          go_region_law (go_simp; go_at_call 20; refine (HHn.out _ (K6.out.trans (Below.refl w5.heap.size w6).drew)).mono ?_; rintro e w7 ⟨rfl, hb⟩; have K7 := Lib.hid ((K6.out.trans (Below.refl w5.heap.size w6).drew).trans (hb.mono (K6.out.trans (Below.refl w5.heap.size w6).drew).size)); clear hb)
          all_goals (
            clear c1 c2 c3 t1
            go_wp2
            go_roundw
            case rel => exact ⟨j + 1, by omega, by go_num, K7⟩
            case measure => simp [intOf]; omega)
        · have hi2 : ¬ (j : Int) < (row zss v).length := by omega
          go_wp2
          go_roundw
          case rel => exact ⟨k + 1, by omega, by go_num, K6⟩
          case measure => simp [intOf]; omega
    · have hi1 : ¬ (k : Int) < s.length := by omega
      have t0 := (T5.out.below HK.out).cell0
      have t1 := (T5.out.below HK.out).cell1
      go_wp2_with fail
      refine (ReachOf_is sc HCl.out.idem (A5.out.below HK.out) (S5.out.below HK.out)).mono ?_
      rintro e w6 ⟨rv, rfl, hrv, hb⟩
      have R6 := Lib.hid hrv.v
      have K6 := Lib.hid (HK.out.trans (hb.mono HK.out.size))
      clear hrv hb t0 t1
      go_wp2_with fail
      refine (likeInts_at R6.out ⟨_, _, rfl, S5.out.below K6.out⟩).mono ?_
      rintro e w7 ⟨rfl, hb⟩
      have K7 := Lib.hid (B5.out.trans ((K6.out.trans (hb.mono K6.out.size)).mono B5.out.size))
      clear hb
      go_wp2
      go_ret
      exact ⟨rfl, K7.out⟩

end Go.Proofs.Ytbfefhbcbmieiaa
