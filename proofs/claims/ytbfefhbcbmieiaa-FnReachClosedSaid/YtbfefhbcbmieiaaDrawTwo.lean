/-
  Contracts: laws.big, laws.likeInts; the draws of two sets.
-/
import Derived.Test.YtbfefhbcbmieiaaDraws
import Derived.Test.YtbfefhbcbmieiaaAll
namespace Go.Proofs.Ytbfefhbcbmieiaa
open Go.RowKit

set_option maxHeartbeats 1000000 in
theorem likeInts_yes {a c : Option Addr} {zs : List Int} (w : World) (ca cc : Nat) (ha : IntsAt w a zs) (hc : IntsAt w c zs) :
    Calls Try.prog 18 #[.slice a zs.length ca, .slice c zs.length cc] w fun e w' => e = .returned (.bool true) ∧ ∃ q, w' = w.drewN q := by
  have hlen := ha.len
  have HA := Lib.hid ha
  have HC := Lib.hid hc
  clear ha hc
  have hne : ((zs.length : Int) != (zs.length : Int)) = false := by simp
  go_enter Try.func18, Try.ntmps18
  go_wp2
  go_loopw [5] (fun i wr => ∃ k : Nat, k ≤ zs.length ∧ i = .int .i64 k ∧ Hid (∃ q, wr = w.drewN q)) (fun i _ => zs.length - (intOf i).toNat)
  case atStart => exact ⟨0, Nat.zero_le _, rfl, 0, rfl⟩
  case round =>
    obtain ⟨k, hk, rfl, HW⟩ := hrel
    by_cases hlt : k < zs.length
    · obtain ⟨b, off, e1, h1⟩ := (HA.out.same HW.out).cell (by omega)
      obtain ⟨b2, off2, e2, h2⟩ := (HC.out.same HW.out).cell (by omega)
      subst e1
      subst e2
      have hck := h1 k hlt
      have hck2 := h2 k hlt
      clear h1 h2
      have hi1 : (k : Int) < zs.length := by omega
      have hn : (nth zs k != nth zs k) = false := by simp
      go_wp2
      go_quiet (fail)
      go_wp2
      go_roundw
      case rel => exact ⟨k + 1, by omega, by go_num, drewn HW.out⟩
      case measure => simp [intOf]; omega
    · go_wp2
      go_ret
      exact ⟨rfl, HW.out⟩

theorem likeInts_at {w : World} {v v' : Value} {zs : List Int} (h : IntsV w v zs) (h' : IntsV w v' zs) :
    Calls Try.prog 18 #[v, v'] w fun e w' => e = .returned (.bool true) ∧ Below w.heap.size w w' := by
  obtain ⟨a, cap, rfl, hi⟩ := h
  obtain ⟨a', cap', rfl, hi'⟩ := h'
  exact (likeInts_yes w cap cap' hi hi').mono fun e w' ⟨he, hq⟩ => ⟨he, below_same (Below.refl _ _) hq⟩

theorem big_is {w : World} {ab : Option Addr} {n cb : Nat} {r : Bool} (hr : decide (4096 < (n : Int)) = r) :
    Calls Try.prog 15 #[.slice ab n cb] w fun e w' => e = .returned (.bool r) ∧ w = w' := by
  by_cases h : 4096 < (n : Int)
  · have HR : Hid (r = true) := by rw [← hr]; exact decide_eq_true h
    clear hr
    go_enter Try.func15, Try.ntmps15
    go_wp2
    go_ret
    exact ⟨ret_bool HR.out.symm, rfl⟩
  · have HR : Hid (r = false) := by rw [← hr]; exact decide_eq_false h
    clear hr
    go_enter Try.func15, Try.ntmps15
    go_wp2
    go_ret
    exact ⟨ret_bool HR.out.symm, rfl⟩

theorem allL_len (n : Int) : (allL n).length ≤ 256 := by
  unfold allL
  split
  · rw [upL_len]; omega
  · simp

/-- Two slices of one's own, whatever they hold. -/
def RollsTwo (w : World) (B p : Nat) (ab : Option Addr) (cb : Nat) (bs : List Int) (e : Ending) (w' : World) : Prop :=
  ∃ u v S T i h, e = .returned (.tuple #[u, v]) ∧ OwnInts w' w.heap.size w'.heap.size u S ∧ OwnInts w' w.heap.size w'.heap.size v T ∧ S.length ≤ 301 ∧ T.length ≤ 301 ∧ Dr w' B p ab cb bs i h ∧ Only (fun b => b = p) w w'

set_option maxHeartbeats 2000000 in
set_option maxRecDepth 100000 in
theorem l2DrawTwo_is {w : World} {B p : Nat} {ab : Option Addr} {cb : Nat} {bs : List Int} {i : Nat} {h : Int} (d : Dr w B p ab cb bs i h) :
    Calls Try.prog 81 #[.pointer (some ⟨p, 0, none⟩)] w (RollsTwo w B p ab cb bs) := by
  obtain ⟨j0, hi, hz0, hz1, hz2⟩ := info_parts info_int
  have HD := Lib.hid d
  have hp := d.lt
  have hpB := d.low
  clear d
  go_enter Try.func81, Try.ntmps81
  go_wp2_with fail
  refine (l1DrawSet_is HD.out (by omega) (by omega)).mono ?_
  rintro e w1 ⟨u, S, i1, g1, rfl, hu, hlu, hd, ho⟩
  have D1 := Lib.hid hd
  have O1 := Lib.hid ho
  have U1 := Lib.hid hu
  have hlS : S.length ≤ 300 := by omega
  have hs1 := ho.size
  clear hd ho hu HD hlu
  go_wp2_with fail
  refine (l1DrawSet_is D1.out (by omega) (by omega)).mono ?_
  rintro e w2 ⟨v, T, i2, g2, rfl, hv, hlv, hd, ho⟩
  have D2 := Lib.hid hd
  have O2 := Lib.hid (O1.out.trans ho)
  have U2 := Lib.hid (U1.out.only ho (fun g hg e => by have := (U1.out.own.lt g hg).1; omega))
  have V2 := Lib.hid hv
  have hlT : T.length ≤ 300 := by omega
  have hs2 := ho.size
  clear hd ho hv D1 O1 U1 hlv
  go_wp2_with fail
  refine (l1Once_is D2.out (by omega) (by omega)).mono ?_
  rintro e w3 ⟨r, i3, g3, rfl, hd, ho⟩
  have D3 := Lib.hid hd
  have O3 := Lib.hid (O2.out.trans ho)
  have U3 := Lib.hid (U2.out.only ho (fun g hg e => by have := (U2.out.own.lt g hg).1; omega))
  have V3 := Lib.hid (V2.out.only ho (fun g hg e => by have := (V2.out.own.lt g hg).1; omega))
  have hs3 := ho.size
  clear hd ho D2 O2 U2 V2
  cases r with
  | false =>
    have HDis : Hid (∀ g, v.ownBlock = some g → u.ownBlock ≠ some g) := fun g hg hu => by have h1 := (V3.out.own.lt g hg).1; have h2 := U3.out.top g hu; omega
    have Uz := Lib.hid U3.out.retop
    have Vz := Lib.hid (V3.out.base (B' := w.heap.size) hs1).retop
    obtain ⟨Sz, hSz⟩ : ∃ x, x = S := ⟨_, rfl⟩
    rw [← hSz] at Uz hlS
    clear hSz
    have hsW := O3.out.size
    go_wp2_with fail
    refine (l1Once_is D3.out (by omega) (by omega)).mono ?_
    rintro e wa ⟨r2, ia, ga, rfl, hd, ho⟩
    have Da := Lib.hid hd
    have Oa := Lib.hid (O3.out.trans ho)
    have Ua := Lib.hid (Uz.out.only ho (fun g hg e => by have := (Uz.out.own.lt g hg).1; omega)).retop
    have Va := Lib.hid (Vz.out.only ho (fun g hg e => by have := (Vz.out.own.lt g hg).1; omega)).retop
    have hsa := ho.size
    clear hd ho D3 O3 Uz Vz
    cases r2 with
    | false =>
      go_wp2
      go_ret2
      exact ⟨_, _, Sz, T, ia, ga, rfl, Ua.out, Va.out, by omega, by omega, Da.out, Oa.out⟩
    | true =>
      go_wp2_with fail
      refine (l1Odd_is Da.out).mono ?_
      rintro e wb ⟨y, ib, gb, rfl, hy, hd, ho⟩
      have Db := Lib.hid hd
      have Ob := Lib.hid (Oa.out.trans ho)
      have Ub := Lib.hid (Ua.out.only ho (fun g hg e => by have := (Ua.out.own.lt g hg).1; omega)).retop
      have Vb := Lib.hid (Va.out.only ho (fun g hg e => by have := (Va.out.own.lt g hg).1; omega)).retop
      have hsb := ho.size
      have HY := Lib.hid hy
      unfold Fits at hy
      clear hd ho Da Oa Ua Va
      go_wp2_with (at_builtin; refine wpList_append_own_at _ rfl _ _ 24 rfl w.heap.size 2 j0 (.int .i64 0) 1 8 Try.underlying24 hi hz0 hz1 hz2 rfl (by decide) _ _ _ rfl (Vb.out.own.alloc _) ⟨wb.heap.size, 0, none⟩ 1 1 [.int .i64 y] rfl rfl ?c1 ?c2 ?c3 ?c4 ?c5 ?_)
      case c1 => exact cell_one_new _ _ _
      case c2 => intro u hu; simp at hu; subst hu; rfl
      case c3 => unfold maxLen; omega
      case c4 => omega
      case c5 => simp; omega
      · intro v' wc hown' hgrow _ _
        have hof := Only.of_grown hgrow
        have Vc := Lib.hid (Vb.out.snoc HY.out (by omega) hown')
        have Uc := Lib.hid ((Ub.out.below (below1 wb (.cells #[.int .i64 y] 2))).only hof (fun g hg e => HDis.out g e hg)).retop
        have Dc := Lib.hid ((Db.out.below (below1 wb (.cells #[.int .i64 y] 2))).only hof (fun b hb => by have := (Vb.out.own.lt b hb).1; omega))
        have Oc := Lib.hid ((Ob.out.trans (Only.of_below (below1 wb (.cells #[.int .i64 y] 2)))).new hof (fun b hb => .inr (Vb.out.own.lt b hb).1))
        have hlT2 : (T ++ [y]).length ≤ 301 := by simp; omega
        clear hown' hgrow hof
        go_wp2
        go_ret2
        exact ⟨_, _, Sz, T ++ [y], ib, gb, rfl, Uc.out, Vc.out, by omega, hlT2, Dc.out, Oc.out⟩
  | true =>
    go_wp2_with fail
    refine (l1Below_is (hi := 1) D3.out (by omega) (by omega) (by omega)).mono ?_
    rintro e w4 ⟨x, i4, g4, rfl, hx0, hx1, hd, ho⟩
    have D4 := Lib.hid hd
    have O4 := Lib.hid (O3.out.trans ho)
    have V4 := Lib.hid (V3.out.only ho (fun g hg e => by have := (V3.out.own.lt g hg).1; omega))
    have hs4 := ho.size
    clear hd ho D3 O3 U3 V3 hlS
    go_wp2_with fail
    refine (specAllOf_is rfl).mono ?_
    rintro e w5 ⟨u2, rfl, hu2, hb⟩
    have D5 := Lib.hid (D4.out.below hb)
    have O5 := Lib.hid (O4.out.trans (Only.of_below hb))
    have V5 := Lib.hid (V4.out.below hb)
    have U5 := Lib.hid hu2
    have hs5 := hb.size
    have hlS := allL_len (256 - x)
    have HDis : Hid (∀ g, v.ownBlock = some g → u2.ownBlock ≠ some g) := fun g hg hu => by have h1 := (U5.out.own.lt g hu).1; have h2 := V5.out.top g hg; omega
    have Uz := Lib.hid (U5.out.base (B' := w.heap.size) (by omega)).retop
    have Vz := Lib.hid (V5.out.base (B' := w.heap.size) hs1).retop
    obtain ⟨Sz, hSz⟩ : ∃ y, y = allL (256 - x) := ⟨_, rfl⟩
    rw [← hSz] at Uz hlS
    clear hSz hu2 hb V4 V5 U5 D4 O4
    have hsW := O5.out.size
    go_wp2_with fail
    refine (l1Once_is D5.out (by omega) (by omega)).mono ?_
    rintro e wa ⟨r2, ia, ga, rfl, hd, ho⟩
    have Da := Lib.hid hd
    have Oa := Lib.hid (O5.out.trans ho)
    have Ua := Lib.hid (Uz.out.only ho (fun g hg e => by have := (Uz.out.own.lt g hg).1; omega)).retop
    have Va := Lib.hid (Vz.out.only ho (fun g hg e => by have := (Vz.out.own.lt g hg).1; omega)).retop
    have hsa := ho.size
    clear hd ho D5 O5 Uz Vz
    cases r2 with
    | false =>
      go_wp2
      go_ret2
      exact ⟨_, _, Sz, T, ia, ga, rfl, Ua.out, Va.out, by omega, by omega, Da.out, Oa.out⟩
    | true =>
      go_wp2_with fail
      refine (l1Odd_is Da.out).mono ?_
      rintro e wb ⟨y, ib, gb, rfl, hy, hd, ho⟩
      have Db := Lib.hid hd
      have Ob := Lib.hid (Oa.out.trans ho)
      have Ub := Lib.hid (Ua.out.only ho (fun g hg e => by have := (Ua.out.own.lt g hg).1; omega)).retop
      have Vb := Lib.hid (Va.out.only ho (fun g hg e => by have := (Va.out.own.lt g hg).1; omega)).retop
      have hsb := ho.size
      have HY := Lib.hid hy
      unfold Fits at hy
      clear hd ho Da Oa Ua Va
      go_wp2_with (at_builtin; refine wpList_append_own_at _ rfl _ _ 24 rfl w.heap.size 2 j0 (.int .i64 0) 1 8 Try.underlying24 hi hz0 hz1 hz2 rfl (by decide) _ _ _ rfl (Vb.out.own.alloc _) ⟨wb.heap.size, 0, none⟩ 1 1 [.int .i64 y] rfl rfl ?c1 ?c2 ?c3 ?c4 ?c5 ?_)
      case c1 => exact cell_one_new _ _ _
      case c2 => intro u hu; simp at hu; subst hu; rfl
      case c3 => unfold maxLen; omega
      case c4 => omega
      case c5 => simp; omega
      · intro v' wc hown' hgrow _ _
        have hof := Only.of_grown hgrow
        have Vc := Lib.hid (Vb.out.snoc HY.out (by omega) hown')
        have Uc := Lib.hid ((Ub.out.below (below1 wb (.cells #[.int .i64 y] 2))).only hof (fun g hg e => HDis.out g e hg)).retop
        have Dc := Lib.hid ((Db.out.below (below1 wb (.cells #[.int .i64 y] 2))).only hof (fun b hb => by have := (Vb.out.own.lt b hb).1; omega))
        have Oc := Lib.hid ((Ob.out.trans (Only.of_below (below1 wb (.cells #[.int .i64 y] 2)))).new hof (fun b hb => .inr (Vb.out.own.lt b hb).1))
        have hlT2 : (T ++ [y]).length ≤ 301 := by simp; omega
        clear hown' hgrow hof
        go_wp2
        go_ret2
        exact ⟨_, _, Sz, T ++ [y], ib, gb, rfl, Uc.out, Vc.out, by omega, hlT2, Dc.out, Oc.out⟩

/-- Two slices of one's own. -/
def GivesTwo (w : World) (e : Ending) (w' : World) : Prop :=
  ∃ u v S T, e = .returned (.tuple #[u, v]) ∧ OwnInts w' w.heap.size w'.heap.size u S ∧ OwnInts w' w.heap.size w'.heap.size v T ∧ S.length ≤ 301 ∧ T.length ≤ 301 ∧ Below w.heap.size w w'

theorem DrawBothOf_is {w : World} {ab : Option Addr} {cb : Nat} {bs : List Int} (hb : BytesAt w ab bs) (hl : bs.length ≤ 4096) :
    Calls Try.prog 37 #[.slice ab bs.length cb] w (GivesTwo w) := by
  have HN := Lib.hid (l1New_is (cb := cb) hb hl)
  clear hb
  go_enter Try.func37, Try.ntmps37
  go_wp2_with fail
  refine HN.out.mono ?_
  rintro e w1 ⟨h, rfl, hd, hb⟩
  have D1 := Lib.hid hd
  have B1 := Lib.hid hb
  have hs1 := hb.size
  clear hd hb HN
  go_wp2_with fail
  refine (l2DrawTwo_is D1.out).mono ?_
  rintro e w2 ⟨u, v, S, T, i2, h2, rfl, hu, hv, hlS, hlT, hd, ho⟩
  have B2 := Lib.hid (B1.out.trans (ho.below (B := w.heap.size) hs1 (fun b hb => by omega)))
  have U2 := Lib.hid (hu.base (B' := w.heap.size) hs1)
  have V2 := Lib.hid (hv.base (B' := w.heap.size) hs1)
  clear hu hv hd ho
  go_wp2
  go_ret2
  exact ⟨u, v, S, T, rfl, U2.out, V2.out, hlS, hlT, B2.out⟩

end Go.Proofs.Ytbfefhbcbmieiaa
