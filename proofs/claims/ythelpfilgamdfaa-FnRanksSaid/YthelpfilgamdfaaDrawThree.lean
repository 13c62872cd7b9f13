/-
  Contract: the model's draw of an arena, a player and two sets.
-/
import Derived.Test.YthelpfilgamdfaaDrawReach
import Derived.Test.YthelpfilgamdfaaAll
namespace Go.Proofs.Ythelpfilgamdfaa
open Go.RowKit

/-- An arena, a number and two slices, of one's own, whatever they hold. -/
def RollsThree (w : World) (B p : Nat) (ab : Option Addr) (cb : Nat) (bs : List Int) (e : Ending) (w' : World) : Prop :=
  ∃ v n0 u1 u2 O zss F G, e = .returned (.tuple #[v, .int .i64 n0, u1, u2]) ∧ OwnArena w' w.heap.size w'.heap.size v O zss ∧ O.length ≤ 300 ∧ OwnInts w' w.heap.size w'.heap.size u1 F ∧ F.length ≤ 301 ∧ OwnInts w' w.heap.size w'.heap.size u2 G ∧ G.length ≤ 301 ∧ -1 ≤ n0 ∧ n0 ≤ 2 ∧ Dwn w w' B p ab cb bs

theorem OwnArena.weak {w : World} {B B' D : Nat} {v : Value} {O : List Int} {zss : List (List Int)} (h : OwnArena w B D v O zss) (hB : B' ≤ B) : OwnArena w B' w.heap.size v O zss := by
  obtain ⟨vo, vn, V, rfl, h1, h2, h3⟩ := h
  exact ⟨vo, vn, V, rfl, (h1.base hB).retop, (h2.base hB).retop, h3⟩

set_option maxHeartbeats 16000000 in
set_option maxRecDepth 100000 in
theorem l3Draw_is {w : World} {B p : Nat} {ab : Option Addr} {cb : Nat} {bs : List Int} {i : Nat} {h : Int} (d : Dr w B p ab cb bs i h) :
    Calls Try.prog 53 #[.pointer (some ⟨p, 0, none⟩)] w (RollsThree w B p ab cb bs) := by
  have hp := d.lt
  have hlow := d.low
  have R0 := Lib.hid (Box2.new w 30 (.slice none 0 0) (.slice none 0 0))
  have D0 : Hid (Dwn w (w.alloc (.cells #[.slice none 0 0, .slice none 0 0] 30)) B p ab cb bs) := (Dwn.start d).below (below1 _ _)
  have d0 := Lib.hid (d.below (below1 w (.cells #[.slice none 0 0, .slice none 0 0] 30)))
  clear d
  go_enter Try.func53, Try.ntmps53
  go_wp2_with fail
  refine (l1DrawAny_is d0.out).mono ?_
  rintro e w1 ⟨v, O, zss, rfl, hA, hO, hZ, hD⟩
  have hs0 : (w.alloc (.cells #[.slice none 0 0, .slice none 0 0] 30)).heap.size = w.heap.size + 1 := by simp
  rw [hs0] at hA
  have hs1 : w.heap.size + 1 ≤ w1.heap.size := by have := hD.only.size; omega
  have AR := Lib.hid hA
  obtain ⟨vo, vn, V, rfl, hvo, hvn, -⟩ := hA
  obtain ⟨oa, oc, hov, -, -⟩ := hvo.shape
  subst hov
  obtain ⟨na, nc, hnv, -, -⟩ := hvn.shape
  subst hnv
  have D1 : Hid (Dwn w w1 B p ab cb bs) := ⟨hD.cur, D0.out.only.trans hD.only, hp, hlow⟩
  have R1 := Lib.hid (R0.out.only hD.only (by omega))
  clear hvo hvn hD R0 D0 d0 hs0
  obtain ⟨w2, hw2⟩ : ∃ y, y = w1.alloc (.cells #[.slice oa O.length oc, .slice na zss.length nc] 30) := ⟨_, rfl⟩
  have HW2 := Lib.hid hw2
  have hb2 : Below w1.heap.size w1 w2 := by rw [hw2]; exact below1 _ _
  have T2 : Hid (Box2 w2 w1.heap.size 30 (.slice oa O.length oc) (.slice na zss.length nc)) := by rw [hw2]; exact Box2.new _ _ _ _
  have A2 := Lib.hid (AR.out.below hb2)
  have R2 := Lib.hid (R1.out.below hb2)
  have D2 := Lib.hid (D1.out.below hb2)
  have hs2 : w1.heap.size < w2.heap.size := T2.out.lt
  have t0 := (Box2.new w1 30 (.slice oa O.length oc) (.slice na zss.length nc)).cell0
  clear hw2 hb2 AR R1 D1
  have hO0 : (0 : Int) ≤ (O.length : Int) := by omega
  go_wp2_with fail
  rw [← HW2.out]
  refine (specAllOf_is (n := (O.length : Int)) rfl).mono ?_
  rintro e w3 ⟨u1, rfl, hu, hb⟩
  have U3 : Hid (OwnInts w3 (w.heap.size + 1) w3.heap.size u1 (allL (O.length : Int))) := hu.base (by omega)
  have hF3 := allL_len (O.length : Int)
  have T3 := Lib.hid (T2.out.below hb)
  have A3 := Lib.hid (A2.out.below hb)
  have R3 := Lib.hid (R2.out.below hb)
  have D3 := Lib.hid (D2.out.below hb)
  have hs3 : w2.heap.size ≤ w3.heap.size := hb.size
  obtain ⟨F3, hF3'⟩ : ∃ F, F = allL (O.length : Int) := ⟨_, rfl⟩
  rw [← hF3'] at U3 hF3
  clear hu hb t0 T2 A2 R2 D2 hF3'
  obtain ⟨i3, g3, hd3⟩ := D3.out.cur
  go_wp2_with fail
  refine (l1Once_is hd3 (n := 3) (by omega) (by omega)).mono ?_
  rintro e w4 ⟨r4, i4, g4, rfl, hd, ho⟩
  have T4 := Lib.hid (T3.out.only ho (by omega))
  have A4 := Lib.hid (A3.out.only ho (fun g h1 h2 e => by omega))
  have R4 := Lib.hid (R3.out.only ho (by omega))
  have D4 := Lib.hid (D3.out.call hd ho)
  have hs4 : w3.heap.size ≤ w4.heap.size := ho.size
  have U4 : Hid (OwnInts w4 (w.heap.size + 1) w4.heap.size _ _) := (OwnInts.only U3.out ho (fun g hg e => by have := (U3.out.own.lt g hg).1; omega)).retop
  clear hd ho T3 A3 R3 D3 U3
  cases r4 with
  | false =>
    obtain ⟨i4, g4, hd4⟩ := D4.out.cur
    go_wp2_with fail
    refine (l1DrawSet_is hd4 (n := (O.length : Int)) (by omega) (by omega)).mono ?_
    rintro e w11 ⟨v11, G11, i11', g11', rfl, hu, hlG11, hd, ho⟩
    have V11 : Hid (OwnInts w11 (w.heap.size + 1) w11.heap.size v11 G11) := hu.base (by omega)
    clear hu
    have T11 := Lib.hid (T4.out.only ho (by omega))
    have A11 := Lib.hid (A4.out.only ho (fun g h1 h2 e => by omega))
    have R11 := Lib.hid (R4.out.only ho (by omega))
    have D11 := Lib.hid (D4.out.call hd ho)
    have hs11 : w4.heap.size ≤ w11.heap.size := ho.size
    have U11 : Hid (OwnInts w11 (w.heap.size + 1) w11.heap.size _ _) := (OwnInts.only U4.out ho (fun g hg e => by have := (U4.out.own.lt g hg).1; omega)).retop
    clear hd ho T4 A4 R4 D4 U4
    obtain ⟨i11, g11, hd11⟩ := D11.out.cur
    go_wp2_with fail
    refine (l1Once_is hd11 (n := 2) (by omega) (by omega)).mono ?_
    rintro e w12 ⟨r12, i12', g12', rfl, hd, ho⟩
    have T12 := Lib.hid (T11.out.only ho (by omega))
    have A12 := Lib.hid (A11.out.only ho (fun g h1 h2 e => by omega))
    have R12 := Lib.hid (R11.out.only ho (by omega))
    have D12 := Lib.hid (D11.out.call hd ho)
    have hs12 : w11.heap.size ≤ w12.heap.size := ho.size
    have U12 : Hid (OwnInts w12 (w.heap.size + 1) w12.heap.size _ _) := (OwnInts.only U11.out ho (fun g hg e => by have := (U11.out.own.lt g hg).1; omega)).retop
    have V12 : Hid (OwnInts w12 (w.heap.size + 1) w12.heap.size _ _) := (OwnInts.only V11.out ho (fun g hg e => by have := (V11.out.own.lt g hg).1; omega)).retop
    clear hd ho T11 A11 R11 D11 U11 V11
    cases r12 with
    | false =>
      obtain ⟨i12, g12, hd12⟩ := D12.out.cur
      go_wp2_with fail
      refine (l1Below_is hd12 (n := 2) (hi := 1) (by omega) (by omega) (by omega)).mono ?_
      rintro e w13 ⟨y13, i13', g13', rfl, hy0, hy1, hd, ho⟩
      have T13 := Lib.hid (T12.out.only ho (by omega))
      have A13 := Lib.hid (A12.out.only ho (fun g h1 h2 e => by omega))
      have R13 := Lib.hid (R12.out.only ho (by omega))
      have D13 := Lib.hid (D12.out.call hd ho)
      have hs13 : w12.heap.size ≤ w13.heap.size := ho.size
      have U13 : Hid (OwnInts w13 (w.heap.size + 1) w13.heap.size _ _) := (OwnInts.only U12.out ho (fun g hg e => by have := (U12.out.own.lt g hg).1; omega)).retop
      have V13 : Hid (OwnInts w13 (w.heap.size + 1) w13.heap.size _ _) := (OwnInts.only V12.out ho (fun g hg e => by have := (V12.out.own.lt g hg).1; omega)).retop
      clear hd ho T12 A12 R12 D12 U12 V12
      obtain ⟨i13, g13, hd13⟩ := D13.out.cur
      go_wp2_with fail
      refine (l1Once_is hd13 (n := 20) (by omega) (by omega)).mono ?_
      rintro e w14 ⟨r14, i14', g14', rfl, hd, ho⟩
      have T14 := Lib.hid (T13.out.only ho (by omega))
      have A14 := Lib.hid (A13.out.only ho (fun g h1 h2 e => by omega))
      have R14 := Lib.hid (R13.out.only ho (by omega))
      have D14 := Lib.hid (D13.out.call hd ho)
      have hs14 : w13.heap.size ≤ w14.heap.size := ho.size
      have U14 : Hid (OwnInts w14 (w.heap.size + 1) w14.heap.size _ _) := (OwnInts.only U13.out ho (fun g hg e => by have := (U13.out.own.lt g hg).1; omega)).retop
      have V14 : Hid (OwnInts w14 (w.heap.size + 1) w14.heap.size _ _) := (OwnInts.only V13.out ho (fun g hg e => by have := (V13.out.own.lt g hg).1; omega)).retop
      clear hd ho T13 A13 R13 D13 U13 V13
      cases r14 with
      | false =>
        have t0 := T14.out.cell0
        have t1 := T14.out.cell1
        have r0 := R14.out.cell0
        have r1 := R14.out.cell1
        have f0 := R14.out.frozen 0
        have f1 := R14.out.frozen 1
        have hS := Lib.hid (Box2.two_only w14 w.heap.size (.slice oa O.length oc) (.slice na zss.length nc))
        have hfin : Hid (RollsThree w B p ab cb bs (.returned (.tuple #[.agg #[.slice oa O.length oc, .slice na zss.length nc], .int .i64 y13, u1, v11])) ((w14.setCell ⟨w.heap.size, 0, none⟩ (.slice oa O.length oc)).setCell ⟨w.heap.size, 1, none⟩ (.slice na zss.length nc))) :=
          ⟨_, _, _, _, O, zss, _, _, rfl, (A14.out.only hS.out (fun g h1 h2 e => by omega)).weak (by omega), hO, ((OwnInts.only U14.out hS.out (fun g hg e => by have := (U14.out.own.lt g hg).1; omega)).base (by omega)).retop, by omega, ((OwnInts.only V14.out hS.out (fun g hg e => by have := (V14.out.own.lt g hg).1; omega)).base (by omega)).retop, by omega, by omega, by omega, D14.out.new (hS.out.mono fun b hb => by omega)⟩
        clear hS
        go_wp2
        exact bodyPost_ret (v := .tuple #[.agg #[.slice oa O.length oc, .slice na zss.length nc], .int .i64 y13, u1, v11]) (by simp [results, Try.results53, go_sem, r0, r1]) rfl hfin.out
      | true =>
        obtain ⟨i14, g14, hd14⟩ := D14.out.cur
        go_wp2_with fail
        refine (l1From_is hd14 (lo := -1) (hi := 2) (by omega) (by omega) (by omega)).mono ?_
        rintro e w15 ⟨z15, i15', g15', rfl, hz0, hz1, hd, ho⟩
        have T15 := Lib.hid (T14.out.only ho (by omega))
        have A15 := Lib.hid (A14.out.only ho (fun g h1 h2 e => by omega))
        have R15 := Lib.hid (R14.out.only ho (by omega))
        have D15 := Lib.hid (D14.out.call hd ho)
        have hs15 : w14.heap.size ≤ w15.heap.size := ho.size
        have U15 : Hid (OwnInts w15 (w.heap.size + 1) w15.heap.size _ _) := (OwnInts.only U14.out ho (fun g hg e => by have := (U14.out.own.lt g hg).1; omega)).retop
        have V15 : Hid (OwnInts w15 (w.heap.size + 1) w15.heap.size _ _) := (OwnInts.only V14.out ho (fun g hg e => by have := (V14.out.own.lt g hg).1; omega)).retop
        clear hd ho T14 A14 R14 D14 U14 V14
        have t0 := T15.out.cell0
        have t1 := T15.out.cell1
        have r0 := R15.out.cell0
        have r1 := R15.out.cell1
        have f0 := R15.out.frozen 0
        have f1 := R15.out.frozen 1
        have hS := Lib.hid (Box2.two_only w15 w.heap.size (.slice oa O.length oc) (.slice na zss.length nc))
        have hfin : Hid (RollsThree w B p ab cb bs (.returned (.tuple #[.agg #[.slice oa O.length oc, .slice na zss.length nc], .int .i64 z15, u1, v11])) ((w15.setCell ⟨w.heap.size, 0, none⟩ (.slice oa O.length oc)).setCell ⟨w.heap.size, 1, none⟩ (.slice na zss.length nc))) :=
          ⟨_, _, _, _, O, zss, _, _, rfl, (A15.out.only hS.out (fun g h1 h2 e => by omega)).weak (by omega), hO, ((OwnInts.only U15.out hS.out (fun g hg e => by have := (U15.out.own.lt g hg).1; omega)).base (by omega)).retop, by omega, ((OwnInts.only V15.out hS.out (fun g hg e => by have := (V15.out.own.lt g hg).1; omega)).base (by omega)).retop, by omega, by omega, by omega, D15.out.new (hS.out.mono fun b hb => by omega)⟩
        clear hS
        go_wp2
        exact bodyPost_ret (v := .tuple #[.agg #[.slice oa O.length oc, .slice na zss.length nc], .int .i64 z15, u1, v11]) (by simp [results, Try.results53, go_sem, r0, r1]) rfl hfin.out
    | true =>
      by_cases hn : (0 : Int) < O.length
      · skip
        obtain ⟨i12, g12, hd12⟩ := D12.out.cur
        go_wp2_with fail
        refine (l1Below_is hd12 (n := (O.length : Int)) (hi := (O.length : Int) - 1) (by omega) (by omega) (by omega)).mono ?_
        rintro e w16 ⟨x16, i16', g16', rfl, hx0, hx1, hd, ho⟩
        have T16 := Lib.hid (T12.out.only ho (by omega))
        have A16 := Lib.hid (A12.out.only ho (fun g h1 h2 e => by omega))
        have R16 := Lib.hid (R12.out.only ho (by omega))
        have D16 := Lib.hid (D12.out.call hd ho)
        have hs16 : w12.heap.size ≤ w16.heap.size := ho.size
        have U16 : Hid (OwnInts w16 (w.heap.size + 1) w16.heap.size _ _) := (OwnInts.only U12.out ho (fun g hg e => by have := (U12.out.own.lt g hg).1; omega)).retop
        have V16 : Hid (OwnInts w16 (w.heap.size + 1) w16.heap.size _ _) := (OwnInts.only V12.out ho (fun g hg e => by have := (V12.out.own.lt g hg).1; omega)).retop
        clear hd ho T12 A12 R12 D12 U12 V12
        obtain ⟨w17, hw17⟩ : ∃ y, y = w16.alloc (.cells #[.int .i64 x16] 2) := ⟨_, rfl⟩
        have HW17 := Lib.hid hw17
        have hb17 : Below w16.heap.size w16 w17 := by rw [hw17]; exact below1 _ _
        have V17 : Hid (OwnInts w17 (w.heap.size + 1) w17.heap.size (.slice (some ⟨w16.heap.size, 0, none⟩) 1 1) [x16]) := by rw [hw17]; exact ((own_new w16 x16 (by unfold Fits; omega)).base (by omega)).retop
        have U17 : Hid (OwnInts w17 (w.heap.size + 1) w17.heap.size _ _) := (OwnInts.below U16.out hb17).retop
        have T17 := Lib.hid (T16.out.below hb17)
        have A17 := Lib.hid (A16.out.below hb17)
        have R17 := Lib.hid (R16.out.below hb17)
        have D17 := Lib.hid (D16.out.below hb17)
        have hs17 : w16.heap.size ≤ w17.heap.size := hb17.size
        have hl17 : ([x16] : List Int).length ≤ 301 := by simp
        clear hw17 hb17 T16 A16 R16 D16 U16 V16
        obtain ⟨i17, g17, hd17⟩ := D17.out.cur
        go_wp2_with fail
        rw [← HW17.out]
        refine (l1Below_is hd17 (n := 2) (hi := 1) (by omega) (by omega) (by omega)).mono ?_
        rintro e w18 ⟨y18, i18', g18', rfl, hy0, hy1, hd, ho⟩
        have T18 := Lib.hid (T17.out.only ho (by omega))
        have A18 := Lib.hid (A17.out.only ho (fun g h1 h2 e => by omega))
        have R18 := Lib.hid (R17.out.only ho (by omega))
        have D18 := Lib.hid (D17.out.call hd ho)
        have hs18 : w17.heap.size ≤ w18.heap.size := ho.size
        have U18 : Hid (OwnInts w18 (w.heap.size + 1) w18.heap.size _ _) := (OwnInts.only U17.out ho (fun g hg e => by have := (U17.out.own.lt g hg).1; omega)).retop
        have V18 : Hid (OwnInts w18 (w.heap.size + 1) w18.heap.size _ _) := (OwnInts.only V17.out ho (fun g hg e => by have := (V17.out.own.lt g hg).1; omega)).retop
        clear hd ho T17 A17 R17 D17 U17 V17
        obtain ⟨i18, g18, hd18⟩ := D18.out.cur
        go_wp2_with fail
        refine (l1Once_is hd18 (n := 20) (by omega) (by omega)).mono ?_
        rintro e w19 ⟨r19, i19', g19', rfl, hd, ho⟩
        have T19 := Lib.hid (T18.out.only ho (by omega))
        have A19 := Lib.hid (A18.out.only ho (fun g h1 h2 e => by omega))
        have R19 := Lib.hid (R18.out.only ho (by omega))
        have D19 := Lib.hid (D18.out.call hd ho)
        have hs19 : w18.heap.size ≤ w19.heap.size := ho.size
        have U19 : Hid (OwnInts w19 (w.heap.size + 1) w19.heap.size _ _) := (OwnInts.only U18.out ho (fun g hg e => by have := (U18.out.own.lt g hg).1; omega)).retop
        have V19 : Hid (OwnInts w19 (w.heap.size + 1) w19.heap.size _ _) := (OwnInts.only V18.out ho (fun g hg e => by have := (V18.out.own.lt g hg).1; omega)).retop
        clear hd ho T18 A18 R18 D18 U18 V18
        cases r19 with
        | false =>
          have t0 := T19.out.cell0
          have t1 := T19.out.cell1
          have r0 := R19.out.cell0
          have r1 := R19.out.cell1
          have f0 := R19.out.frozen 0
          have f1 := R19.out.frozen 1
          have hS := Lib.hid (Box2.two_only w19 w.heap.size (.slice oa O.length oc) (.slice na zss.length nc))
          have hfin : Hid (RollsThree w B p ab cb bs (.returned (.tuple #[.agg #[.slice oa O.length oc, .slice na zss.length nc], .int .i64 y18, u1, (.slice (some ⟨w16.heap.size, 0, none⟩) 1 1)])) ((w19.setCell ⟨w.heap.size, 0, none⟩ (.slice oa O.length oc)).setCell ⟨w.heap.size, 1, none⟩ (.slice na zss.length nc))) :=
            ⟨_, _, _, _, O, zss, _, _, rfl, (A19.out.only hS.out (fun g h1 h2 e => by omega)).weak (by omega), hO, ((OwnInts.only U19.out hS.out (fun g hg e => by have := (U19.out.own.lt g hg).1; omega)).base (by omega)).retop, by omega, ((OwnInts.only V19.out hS.out (fun g hg e => by have := (V19.out.own.lt g hg).1; omega)).base (by omega)).retop, by omega, by omega, by omega, D19.out.new (hS.out.mono fun b hb => by omega)⟩
          clear hS
          go_wp2
          exact bodyPost_ret (v := .tuple #[.agg #[.slice oa O.length oc, .slice na zss.length nc], .int .i64 y18, u1, (.slice (some ⟨w16.heap.size, 0, none⟩) 1 1)]) (by simp [results, Try.results53, go_sem, r0, r1]) rfl hfin.out
        | true =>
          obtain ⟨i19, g19, hd19⟩ := D19.out.cur
          go_wp2_with fail
          refine (l1From_is hd19 (lo := -1) (hi := 2) (by omega) (by omega) (by omega)).mono ?_
          rintro e w20 ⟨z20, i20', g20', rfl, hz0, hz1, hd, ho⟩
          have T20 := Lib.hid (T19.out.only ho (by omega))
          have A20 := Lib.hid (A19.out.only ho (fun g h1 h2 e => by omega))
          have R20 := Lib.hid (R19.out.only ho (by omega))
          have D20 := Lib.hid (D19.out.call hd ho)
          have hs20 : w19.heap.size ≤ w20.heap.size := ho.size
          have U20 : Hid (OwnInts w20 (w.heap.size + 1) w20.heap.size _ _) := (OwnInts.only U19.out ho (fun g hg e => by have := (U19.out.own.lt g hg).1; omega)).retop
          have V20 : Hid (OwnInts w20 (w.heap.size + 1) w20.heap.size _ _) := (OwnInts.only V19.out ho (fun g hg e => by have := (V19.out.own.lt g hg).1; omega)).retop
          clear hd ho T19 A19 R19 D19 U19 V19
          have t0 := T20.out.cell0
          have t1 := T20.out.cell1
          have r0 := R20.out.cell0
          have r1 := R20.out.cell1
          have f0 := R20.out.frozen 0
          have f1 := R20.out.frozen 1
          have hS := Lib.hid (Box2.two_only w20 w.heap.size (.slice oa O.length oc) (.slice na zss.length nc))
          have hfin : Hid (RollsThree w B p ab cb bs (.returned (.tuple #[.agg #[.slice oa O.length oc, .slice na zss.length nc], .int .i64 z20, u1, (.slice (some ⟨w16.heap.size, 0, none⟩) 1 1)])) ((w20.setCell ⟨w.heap.size, 0, none⟩ (.slice oa O.length oc)).setCell ⟨w.heap.size, 1, none⟩ (.slice na zss.length nc))) :=
            ⟨_, _, _, _, O, zss, _, _, rfl, (A20.out.only hS.out (fun g h1 h2 e => by omega)).weak (by omega), hO, ((OwnInts.only U20.out hS.out (fun g hg e => by have := (U20.out.own.lt g hg).1; omega)).base (by omega)).retop, by omega, ((OwnInts.only V20.out hS.out (fun g hg e => by have := (V20.out.own.lt g hg).1; omega)).base (by omega)).retop, by omega, by omega, by omega, D20.out.new (hS.out.mono fun b hb => by omega)⟩
          clear hS
          go_wp2
          exact bodyPost_ret (v := .tuple #[.agg #[.slice oa O.length oc, .slice na zss.length nc], .int .i64 z20, u1, (.slice (some ⟨w16.heap.size, 0, none⟩) 1 1)]) (by simp [results, Try.results53, go_sem, r0, r1]) rfl hfin.out
      · skip
        have hn2 : decide ((0 : Int) < (O.length : Int)) = false := decide_eq_false hn
        obtain ⟨i12, g12, hd12⟩ := D12.out.cur
        go_wp2_with fail
        refine (l1Below_is hd12 (n := 2) (hi := 1) (by omega) (by omega) (by omega)).mono ?_
        rintro e w21 ⟨y21, i21', g21', rfl, hy0, hy1, hd, ho⟩
        have T21 := Lib.hid (T12.out.only ho (by omega))
        have A21 := Lib.hid (A12.out.only ho (fun g h1 h2 e => by omega))
        have R21 := Lib.hid (R12.out.only ho (by omega))
        have D21 := Lib.hid (D12.out.call hd ho)
        have hs21 : w12.heap.size ≤ w21.heap.size := ho.size
        have U21 : Hid (OwnInts w21 (w.heap.size + 1) w21.heap.size _ _) := (OwnInts.only U12.out ho (fun g hg e => by have := (U12.out.own.lt g hg).1; omega)).retop
        have V21 : Hid (OwnInts w21 (w.heap.size + 1) w21.heap.size _ _) := (OwnInts.only V12.out ho (fun g hg e => by have := (V12.out.own.lt g hg).1; omega)).retop
        clear hd ho T12 A12 R12 D12 U12 V12
        obtain ⟨i21, g21, hd21⟩ := D21.out.cur
        go_wp2_with fail
        refine (l1Once_is hd21 (n := 20) (by omega) (by omega)).mono ?_
        rintro e w22 ⟨r22, i22', g22', rfl, hd, ho⟩
        have T22 := Lib.hid (T21.out.only ho (by omega))
        have A22 := Lib.hid (A21.out.only ho (fun g h1 h2 e => by omega))
        have R22 := Lib.hid (R21.out.only ho (by omega))
        have D22 := Lib.hid (D21.out.call hd ho)
        have hs22 : w21.heap.size ≤ w22.heap.size := ho.size
        have U22 : Hid (OwnInts w22 (w.heap.size + 1) w22.heap.size _ _) := (OwnInts.only U21.out ho (fun g hg e => by have := (U21.out.own.lt g hg).1; omega)).retop
        have V22 : Hid (OwnInts w22 (w.heap.size + 1) w22.heap.size _ _) := (OwnInts.only V21.out ho (fun g hg e => by have := (V21.out.own.lt g hg).1; omega)).retop
        clear hd ho T21 A21 R21 D21 U21 V21
        cases r22 with
        | false =>
          have t0 := T22.out.cell0
          have t1 := T22.out.cell1
          have r0 := R22.out.cell0
          have r1 := R22.out.cell1
          have f0 := R22.out.frozen 0
          have f1 := R22.out.frozen 1
          have hS := Lib.hid (Box2.two_only w22 w.heap.size (.slice oa O.length oc) (.slice na zss.length nc))
          have hfin : Hid (RollsThree w B p ab cb bs (.returned (.tuple #[.agg #[.slice oa O.length oc, .slice na zss.length nc], .int .i64 y21, u1, v11])) ((w22.setCell ⟨w.heap.size, 0, none⟩ (.slice oa O.length oc)).setCell ⟨w.heap.size, 1, none⟩ (.slice na zss.length nc))) :=
            ⟨_, _, _, _, O, zss, _, _, rfl, (A22.out.only hS.out (fun g h1 h2 e => by omega)).weak (by omega), hO, ((OwnInts.only U22.out hS.out (fun g hg e => by have := (U22.out.own.lt g hg).1; omega)).base (by omega)).retop, by omega, ((OwnInts.only V22.out hS.out (fun g hg e => by have := (V22.out.own.lt g hg).1; omega)).base (by omega)).retop, by omega, by omega, by omega, D22.out.new (hS.out.mono fun b hb => by omega)⟩
          clear hS
          go_wp2
          exact bodyPost_ret (v := .tuple #[.agg #[.slice oa O.length oc, .slice na zss.length nc], .int .i64 y21, u1, v11]) (by simp [results, Try.results53, go_sem, r0, r1]) rfl hfin.out
        | true =>
          obtain ⟨i22, g22, hd22⟩ := D22.out.cur
          go_wp2_with fail
          refine (l1From_is hd22 (lo := -1) (hi := 2) (by omega) (by omega) (by omega)).mono ?_
          rintro e w23 ⟨z23, i23', g23', rfl, hz0, hz1, hd, ho⟩
          have T23 := Lib.hid (T22.out.only ho (by omega))
          have A23 := Lib.hid (A22.out.only ho (fun g h1 h2 e => by omega))
          have R23 := Lib.hid (R22.out.only ho (by omega))
          have D23 := Lib.hid (D22.out.call hd ho)
          have hs23 : w22.heap.size ≤ w23.heap.size := ho.size
          have U23 : Hid (OwnInts w23 (w.heap.size + 1) w23.heap.size _ _) := (OwnInts.only U22.out ho (fun g hg e => by have := (U22.out.own.lt g hg).1; omega)).retop
          have V23 : Hid (OwnInts w23 (w.heap.size + 1) w23.heap.size _ _) := (OwnInts.only V22.out ho (fun g hg e => by have := (V22.out.own.lt g hg).1; omega)).retop
          clear hd ho T22 A22 R22 D22 U22 V22
          have t0 := T23.out.cell0
          have t1 := T23.out.cell1
          have r0 := R23.out.cell0
          have r1 := R23.out.cell1
          have f0 := R23.out.frozen 0
          have f1 := R23.out.frozen 1
          have hS := Lib.hid (Box2.two_only w23 w.heap.size (.slice oa O.length oc) (.slice na zss.length nc))
          have hfin : Hid (RollsThree w B p ab cb bs (.returned (.tuple #[.agg #[.slice oa O.length oc, .slice na zss.length nc], .int .i64 z23, u1, v11])) ((w23.setCell ⟨w.heap.size, 0, none⟩ (.slice oa O.length oc)).setCell ⟨w.heap.size, 1, none⟩ (.slice na zss.length nc))) :=
            ⟨_, _, _, _, O, zss, _, _, rfl, (A23.out.only hS.out (fun g h1 h2 e => by omega)).weak (by omega), hO, ((OwnInts.only U23.out hS.out (fun g hg e => by have := (U23.out.own.lt g hg).1; omega)).base (by omega)).retop, by omega, ((OwnInts.only V23.out hS.out (fun g hg e => by have := (V23.out.own.lt g hg).1; omega)).base (by omega)).retop, by omega, by omega, by omega, D23.out.new (hS.out.mono fun b hb => by omega)⟩
          clear hS
          go_wp2
          exact bodyPost_ret (v := .tuple #[.agg #[.slice oa O.length oc, .slice na zss.length nc], .int .i64 z23, u1, v11]) (by simp [results, Try.results53, go_sem, r0, r1]) rfl hfin.out
  | true =>
    obtain ⟨i4, g4, hd4⟩ := D4.out.cur
    go_wp2_with fail
    refine (l1DrawSet_is hd4 (n := (O.length : Int)) (by omega) (by omega)).mono ?_
    rintro e w5 ⟨u5, F5, i5', g5', rfl, hu, hlF5, hd, ho⟩
    have W5 : Hid (OwnInts w5 (w.heap.size + 1) w5.heap.size u5 F5) := hu.base (by omega)
    clear hu
    have T5 := Lib.hid (T4.out.only ho (by omega))
    have A5 := Lib.hid (A4.out.only ho (fun g h1 h2 e => by omega))
    have R5 := Lib.hid (R4.out.only ho (by omega))
    have D5 := Lib.hid (D4.out.call hd ho)
    have hs5 : w4.heap.size ≤ w5.heap.size := ho.size
    clear hd ho T4 A4 R4 D4 
    clear U4
    have U5 := W5
    clear W5
    obtain ⟨i5, g5, hd5⟩ := D5.out.cur
    go_wp2_with fail
    refine (l1DrawSet_is hd5 (n := (O.length : Int)) (by omega) (by omega)).mono ?_
    rintro e w24 ⟨v24, G24, i24', g24', rfl, hu, hlG24, hd, ho⟩
    have V24 : Hid (OwnInts w24 (w.heap.size + 1) w24.heap.size v24 G24) := hu.base (by omega)
    clear hu
    have T24 := Lib.hid (T5.out.only ho (by omega))
    have A24 := Lib.hid (A5.out.only ho (fun g h1 h2 e => by omega))
    have R24 := Lib.hid (R5.out.only ho (by omega))
    have D24 := Lib.hid (D5.out.call hd ho)
    have hs24 : w5.heap.size ≤ w24.heap.size := ho.size
    have U24 : Hid (OwnInts w24 (w.heap.size + 1) w24.heap.size _ _) := (OwnInts.only U5.out ho (fun g hg e => by have := (U5.out.own.lt g hg).1; omega)).retop
    clear hd ho T5 A5 R5 D5 U5
    obtain ⟨i24, g24, hd24⟩ := D24.out.cur
    go_wp2_with fail
    refine (l1Once_is hd24 (n := 2) (by omega) (by omega)).mono ?_
    rintro e w25 ⟨r25, i25', g25', rfl, hd, ho⟩
    have T25 := Lib.hid (T24.out.only ho (by omega))
    have A25 := Lib.hid (A24.out.only ho (fun g h1 h2 e => by omega))
    have R25 := Lib.hid (R24.out.only ho (by omega))
    have D25 := Lib.hid (D24.out.call hd ho)
    have hs25 : w24.heap.size ≤ w25.heap.size := ho.size
    have U25 : Hid (OwnInts w25 (w.heap.size + 1) w25.heap.size _ _) := (OwnInts.only U24.out ho (fun g hg e => by have := (U24.out.own.lt g hg).1; omega)).retop
    have V25 : Hid (OwnInts w25 (w.heap.size + 1) w25.heap.size _ _) := (OwnInts.only V24.out ho (fun g hg e => by have := (V24.out.own.lt g hg).1; omega)).retop
    clear hd ho T24 A24 R24 D24 U24 V24
    cases r25 with
    | false =>
      obtain ⟨i25, g25, hd25⟩ := D25.out.cur
      go_wp2_with fail
      refine (l1Below_is hd25 (n := 2) (hi := 1) (by omega) (by omega) (by omega)).mono ?_
      rintro e w26 ⟨y26, i26', g26', rfl, hy0, hy1, hd, ho⟩
      have T26 := Lib.hid (T25.out.only ho (by omega))
      have A26 := Lib.hid (A25.out.only ho (fun g h1 h2 e => by omega))
      have R26 := Lib.hid (R25.out.only ho (by omega))
      have D26 := Lib.hid (D25.out.call hd ho)
      have hs26 : w25.heap.size ≤ w26.heap.size := ho.size
      have U26 : Hid (OwnInts w26 (w.heap.size + 1) w26.heap.size _ _) := (OwnInts.only U25.out ho (fun g hg e => by have := (U25.out.own.lt g hg).1; omega)).retop
      have V26 : Hid (OwnInts w26 (w.heap.size + 1) w26.heap.size _ _) := (OwnInts.only V25.out ho (fun g hg e => by have := (V25.out.own.lt g hg).1; omega)).retop
      clear hd ho T25 A25 R25 D25 U25 V25
      obtain ⟨i26, g26, hd26⟩ := D26.out.cur
      go_wp2_with fail
      refine (l1Once_is hd26 (n := 20) (by omega) (by omega)).mono ?_
      rintro e w27 ⟨r27, i27', g27', rfl, hd, ho⟩
      have T27 := Lib.hid (T26.out.only ho (by omega))
      have A27 := Lib.hid (A26.out.only ho (fun g h1 h2 e => by omega))
      have R27 := Lib.hid (R26.out.only ho (by omega))
      have D27 := Lib.hid (D26.out.call hd ho)
      have hs27 : w26.heap.size ≤ w27.heap.size := ho.size
      have U27 : Hid (OwnInts w27 (w.heap.size + 1) w27.heap.size _ _) := (OwnInts.only U26.out ho (fun g hg e => by have := (U26.out.own.lt g hg).1; omega)).retop
      have V27 : Hid (OwnInts w27 (w.heap.size + 1) w27.heap.size _ _) := (OwnInts.only V26.out ho (fun g hg e => by have := (V26.out.own.lt g hg).1; omega)).retop
      clear hd ho T26 A26 R26 D26 U26 V26
      cases r27 with
      | false =>
        have t0 := T27.out.cell0
        have t1 := T27.out.cell1
        have r0 := R27.out.cell0
        have r1 := R27.out.cell1
        have f0 := R27.out.frozen 0
        have f1 := R27.out.frozen 1
        have hS := Lib.hid (Box2.two_only w27 w.heap.size (.slice oa O.length oc) (.slice na zss.length nc))
        have hfin : Hid (RollsThree w B p ab cb bs (.returned (.tuple #[.agg #[.slice oa O.length oc, .slice na zss.length nc], .int .i64 y26, u5, v24])) ((w27.setCell ⟨w.heap.size, 0, none⟩ (.slice oa O.length oc)).setCell ⟨w.heap.size, 1, none⟩ (.slice na zss.length nc))) :=
          ⟨_, _, _, _, O, zss, _, _, rfl, (A27.out.only hS.out (fun g h1 h2 e => by omega)).weak (by omega), hO, ((OwnInts.only U27.out hS.out (fun g hg e => by have := (U27.out.own.lt g hg).1; omega)).base (by omega)).retop, by omega, ((OwnInts.only V27.out hS.out (fun g hg e => by have := (V27.out.own.lt g hg).1; omega)).base (by omega)).retop, by omega, by omega, by omega, D27.out.new (hS.out.mono fun b hb => by omega)⟩
        clear hS
        go_wp2
        exact bodyPost_ret (v := .tuple #[.agg #[.slice oa O.length oc, .slice na zss.length nc], .int .i64 y26, u5, v24]) (by simp [results, Try.results53, go_sem, r0, r1]) rfl hfin.out
      | true =>
        obtain ⟨i27, g27, hd27⟩ := D27.out.cur
        go_wp2_with fail
        refine (l1From_is hd27 (lo := -1) (hi := 2) (by omega) (by omega) (by omega)).mono ?_
        rintro e w28 ⟨z28, i28', g28', rfl, hz0, hz1, hd, ho⟩
        have T28 := Lib.hid (T27.out.only ho (by omega))
        have A28 := Lib.hid (A27.out.only ho (fun g h1 h2 e => by omega))
        have R28 := Lib.hid (R27.out.only ho (by omega))
        have D28 := Lib.hid (D27.out.call hd ho)
        have hs28 : w27.heap.size ≤ w28.heap.size := ho.size
        have U28 : Hid (OwnInts w28 (w.heap.size + 1) w28.heap.size _ _) := (OwnInts.only U27.out ho (fun g hg e => by have := (U27.out.own.lt g hg).1; omega)).retop
        have V28 : Hid (OwnInts w28 (w.heap.size + 1) w28.heap.size _ _) := (OwnInts.only V27.out ho (fun g hg e => by have := (V27.out.own.lt g hg).1; omega)).retop
        clear hd ho T27 A27 R27 D27 U27 V27
        have t0 := T28.out.cell0
        have t1 := T28.out.cell1
        have r0 := R28.out.cell0
        have r1 := R28.out.cell1
        have f0 := R28.out.frozen 0
        have f1 := R28.out.frozen 1
        have hS := Lib.hid (Box2.two_only w28 w.heap.size (.slice oa O.length oc) (.slice na zss.length nc))
        have hfin : Hid (RollsThree w B p ab cb bs (.returned (.tuple #[.agg #[.slice oa O.length oc, .slice na zss.length nc], .int .i64 z28, u5, v24])) ((w28.setCell ⟨w.heap.size, 0, none⟩ (.slice oa O.length oc)).setCell ⟨w.heap.size, 1, none⟩ (.slice na zss.length nc))) :=
          ⟨_, _, _, _, O, zss, _, _, rfl, (A28.out.only hS.out (fun g h1 h2 e => by omega)).weak (by omega), hO, ((OwnInts.only U28.out hS.out (fun g hg e => by have := (U28.out.own.lt g hg).1; omega)).base (by omega)).retop, by omega, ((OwnInts.only V28.out hS.out (fun g hg e => by have := (V28.out.own.lt g hg).1; omega)).base (by omega)).retop, by omega, by omega, by omega, D28.out.new (hS.out.mono fun b hb => by omega)⟩
        clear hS
        go_wp2
        exact bodyPost_ret (v := .tuple #[.agg #[.slice oa O.length oc, .slice na zss.length nc], .int .i64 z28, u5, v24]) (by simp [results, Try.results53, go_sem, r0, r1]) rfl hfin.out
    | true =>
      by_cases hn : (0 : Int) < O.length
      · skip
        obtain ⟨i25, g25, hd25⟩ := D25.out.cur
        go_wp2_with fail
        refine (l1Below_is hd25 (n := (O.length : Int)) (hi := (O.length : Int) - 1) (by omega) (by omega) (by omega)).mono ?_
        rintro e w29 ⟨x29, i29', g29', rfl, hx0, hx1, hd, ho⟩
        have T29 := Lib.hid (T25.out.only ho (by omega))
        have A29 := Lib.hid (A25.out.only ho (fun g h1 h2 e => by omega))
        have R29 := Lib.hid (R25.out.only ho (by omega))
        have D29 := Lib.hid (D25.out.call hd ho)
        have hs29 : w25.heap.size ≤ w29.heap.size := ho.size
        have U29 : Hid (OwnInts w29 (w.heap.size + 1) w29.heap.size _ _) := (OwnInts.only U25.out ho (fun g hg e => by have := (U25.out.own.lt g hg).1; omega)).retop
        have V29 : Hid (OwnInts w29 (w.heap.size + 1) w29.heap.size _ _) := (OwnInts.only V25.out ho (fun g hg e => by have := (V25.out.own.lt g hg).1; omega)).retop
        clear hd ho T25 A25 R25 D25 U25 V25
        obtain ⟨w30, hw30⟩ : ∃ y, y = w29.alloc (.cells #[.int .i64 x29] 2) := ⟨_, rfl⟩
        have HW30 := Lib.hid hw30
        have hb30 : Below w29.heap.size w29 w30 := by rw [hw30]; exact below1 _ _
        have V30 : Hid (OwnInts w30 (w.heap.size + 1) w30.heap.size (.slice (some ⟨w29.heap.size, 0, none⟩) 1 1) [x29]) := by rw [hw30]; exact ((own_new w29 x29 (by unfold Fits; omega)).base (by omega)).retop
        have U30 : Hid (OwnInts w30 (w.heap.size + 1) w30.heap.size _ _) := (OwnInts.below U29.out hb30).retop
        have T30 := Lib.hid (T29.out.below hb30)
        have A30 := Lib.hid (A29.out.below hb30)
        have R30 := Lib.hid (R29.out.below hb30)
        have D30 := Lib.hid (D29.out.below hb30)
        have hs30 : w29.heap.size ≤ w30.heap.size := hb30.size
        have hl30 : ([x29] : List Int).length ≤ 301 := by simp
        clear hw30 hb30 T29 A29 R29 D29 U29 V29
        obtain ⟨i30, g30, hd30⟩ := D30.out.cur
        go_wp2_with fail
        rw [← HW30.out]
        refine (l1Below_is hd30 (n := 2) (hi := 1) (by omega) (by omega) (by omega)).mono ?_
        rintro e w31 ⟨y31, i31', g31', rfl, hy0, hy1, hd, ho⟩
        have T31 := Lib.hid (T30.out.only ho (by omega))
        have A31 := Lib.hid (A30.out.only ho (fun g h1 h2 e => by omega))
        have R31 := Lib.hid (R30.out.only ho (by omega))
        have D31 := Lib.hid (D30.out.call hd ho)
        have hs31 : w30.heap.size ≤ w31.heap.size := ho.size
        have U31 : Hid (OwnInts w31 (w.heap.size + 1) w31.heap.size _ _) := (OwnInts.only U30.out ho (fun g hg e => by have := (U30.out.own.lt g hg).1; omega)).retop
        have V31 : Hid (OwnInts w31 (w.heap.size + 1) w31.heap.size _ _) := (OwnInts.only V30.out ho (fun g hg e => by have := (V30.out.own.lt g hg).1; omega)).retop
        clear hd ho T30 A30 R30 D30 U30 V30
        obtain ⟨i31, g31, hd31⟩ := D31.out.cur
        go_wp2_with fail
        refine (l1Once_is hd31 (n := 20) (by omega) (by omega)).mono ?_
        rintro e w32 ⟨r32, i32', g32', rfl, hd, ho⟩
        have T32 := Lib.hid (T31.out.only ho (by omega))
        have A32 := Lib.hid (A31.out.only ho (fun g h1 h2 e => by omega))
        have R32 := Lib.hid (R31.out.only ho (by omega))
        have D32 := Lib.hid (D31.out.call hd ho)
        have hs32 : w31.heap.size ≤ w32.heap.size := ho.size
        have U32 : Hid (OwnInts w32 (w.heap.size + 1) w32.heap.size _ _) := (OwnInts.only U31.out ho (fun g hg e => by have := (U31.out.own.lt g hg).1; omega)).retop
        have V32 : Hid (OwnInts w32 (w.heap.size + 1) w32.heap.size _ _) := (OwnInts.only V31.out ho (fun g hg e => by have := (V31.out.own.lt g hg).1; omega)).retop
        clear hd ho T31 A31 R31 D31 U31 V31
        cases r32 with
        | false =>
          have t0 := T32.out.cell0
          have t1 := T32.out.cell1
          have r0 := R32.out.cell0
          have r1 := R32.out.cell1
          have f0 := R32.out.frozen 0
          have f1 := R32.out.frozen 1
          have hS := Lib.hid (Box2.two_only w32 w.heap.size (.slice oa O.length oc) (.slice na zss.length nc))
          have hfin : Hid (RollsThree w B p ab cb bs (.returned (.tuple #[.agg #[.slice oa O.length oc, .slice na zss.length nc], .int .i64 y31, u5, (.slice (some ⟨w29.heap.size, 0, none⟩) 1 1)])) ((w32.setCell ⟨w.heap.size, 0, none⟩ (.slice oa O.length oc)).setCell ⟨w.heap.size, 1, none⟩ (.slice na zss.length nc))) :=
            ⟨_, _, _, _, O, zss, _, _, rfl, (A32.out.only hS.out (fun g h1 h2 e => by omega)).weak (by omega), hO, ((OwnInts.only U32.out hS.out (fun g hg e => by have := (U32.out.own.lt g hg).1; omega)).base (by omega)).retop, by omega, ((OwnInts.only V32.out hS.out (fun g hg e => by have := (V32.out.own.lt g hg).1; omega)).base (by omega)).retop, by omega, by omega, by omega, D32.out.new (hS.out.mono fun b hb => by omega)⟩
          clear hS
          go_wp2
          exact bodyPost_ret (v := .tuple #[.agg #[.slice oa O.length oc, .slice na zss.length nc], .int .i64 y31, u5, (.slice (some ⟨w29.heap.size, 0, none⟩) 1 1)]) (by simp [results, Try.results53, go_sem, r0, r1]) rfl hfin.out
        | true =>
          obtain ⟨i32, g32, hd32⟩ := D32.out.cur
          go_wp2_with fail
          refine (l1From_is hd32 (lo := -1) (hi := 2) (by omega) (by omega) (by omega)).mono ?_
          rintro e w33 ⟨z33, i33', g33', rfl, hz0, hz1, hd, ho⟩
          have T33 := Lib.hid (T32.out.only ho (by omega))
          have A33 := Lib.hid (A32.out.only ho (fun g h1 h2 e => by omega))
          have R33 := Lib.hid (R32.out.only ho (by omega))
          have D33 := Lib.hid (D32.out.call hd ho)
          have hs33 : w32.heap.size ≤ w33.heap.size := ho.size
          have U33 : Hid (OwnInts w33 (w.heap.size + 1) w33.heap.size _ _) := (OwnInts.only U32.out ho (fun g hg e => by have := (U32.out.own.lt g hg).1; omega)).retop
          have V33 : Hid (OwnInts w33 (w.heap.size + 1) w33.heap.size _ _) := (OwnInts.only V32.out ho (fun g hg e => by have := (V32.out.own.lt g hg).1; omega)).retop
          clear hd ho T32 A32 R32 D32 U32 V32
          have t0 := T33.out.cell0
          have t1 := T33.out.cell1
          have r0 := R33.out.cell0
          have r1 := R33.out.cell1
          have f0 := R33.out.frozen 0
          have f1 := R33.out.frozen 1
          have hS := Lib.hid (Box2.two_only w33 w.heap.size (.slice oa O.length oc) (.slice na zss.length nc))
          have hfin : Hid (RollsThree w B p ab cb bs (.returned (.tuple #[.agg #[.slice oa O.length oc, .slice na zss.length nc], .int .i64 z33, u5, (.slice (some ⟨w29.heap.size, 0, none⟩) 1 1)])) ((w33.setCell ⟨w.heap.size, 0, none⟩ (.slice oa O.length oc)).setCell ⟨w.heap.size, 1, none⟩ (.slice na zss.length nc))) :=
            ⟨_, _, _, _, O, zss, _, _, rfl, (A33.out.only hS.out (fun g h1 h2 e => by omega)).weak (by omega), hO, ((OwnInts.only U33.out hS.out (fun g hg e => by have := (U33.out.own.lt g hg).1; omega)).base (by omega)).retop, by omega, ((OwnInts.only V33.out hS.out (fun g hg e => by have := (V33.out.own.lt g hg).1; omega)).base (by omega)).retop, by omega, by omega, by omega, D33.out.new (hS.out.mono fun b hb => by omega)⟩
          clear hS
          go_wp2
          exact bodyPost_ret (v := .tuple #[.agg #[.slice oa O.length oc, .slice na zss.length nc], .int .i64 z33, u5, (.slice (some ⟨w29.heap.size, 0, none⟩) 1 1)]) (by simp [results, Try.results53, go_sem, r0, r1]) rfl hfin.out
      · skip
        have hn2 : decide ((0 : Int) < (O.length : Int)) = false := decide_eq_false hn
        obtain ⟨i25, g25, hd25⟩ := D25.out.cur
        go_wp2_with fail
        refine (l1Below_is hd25 (n := 2) (hi := 1) (by omega) (by omega) (by omega)).mono ?_
        rintro e w34 ⟨y34, i34', g34', rfl, hy0, hy1, hd, ho⟩
        have T34 := Lib.hid (T25.out.only ho (by omega))
        have A34 := Lib.hid (A25.out.only ho (fun g h1 h2 e => by omega))
        have R34 := Lib.hid (R25.out.only ho (by omega))
        have D34 := Lib.hid (D25.out.call hd ho)
        have hs34 : w25.heap.size ≤ w34.heap.size := ho.size
        have U34 : Hid (OwnInts w34 (w.heap.size + 1) w34.heap.size _ _) := (OwnInts.only U25.out ho (fun g hg e => by have := (U25.out.own.lt g hg).1; omega)).retop
        have V34 : Hid (OwnInts w34 (w.heap.size + 1) w34.heap.size _ _) := (OwnInts.only V25.out ho (fun g hg e => by have := (V25.out.own.lt g hg).1; omega)).retop
        clear hd ho T25 A25 R25 D25 U25 V25
        obtain ⟨i34, g34, hd34⟩ := D34.out.cur
        go_wp2_with fail
        refine (l1Once_is hd34 (n := 20) (by omega) (by omega)).mono ?_
        rintro e w35 ⟨r35, i35', g35', rfl, hd, ho⟩
        have T35 := Lib.hid (T34.out.only ho (by omega))
        have A35 := Lib.hid (A34.out.only ho (fun g h1 h2 e => by omega))
        have R35 := Lib.hid (R34.out.only ho (by omega))
        have D35 := Lib.hid (D34.out.call hd ho)
        have hs35 : w34.heap.size ≤ w35.heap.size := ho.size
        have U35 : Hid (OwnInts w35 (w.heap.size + 1) w35.heap.size _ _) := (OwnInts.only U34.out ho (fun g hg e => by have := (U34.out.own.lt g hg).1; omega)).retop
        have V35 : Hid (OwnInts w35 (w.heap.size + 1) w35.heap.size _ _) := (OwnInts.only V34.out ho (fun g hg e => by have := (V34.out.own.lt g hg).1; omega)).retop
        clear hd ho T34 A34 R34 D34 U34 V34
        cases r35 with
        | false =>
          have t0 := T35.out.cell0
          have t1 := T35.out.cell1
          have r0 := R35.out.cell0
          have r1 := R35.out.cell1
          have f0 := R35.out.frozen 0
          have f1 := R35.out.frozen 1
          have hS := Lib.hid (Box2.two_only w35 w.heap.size (.slice oa O.length oc) (.slice na zss.length nc))
          have hfin : Hid (RollsThree w B p ab cb bs (.returned (.tuple #[.agg #[.slice oa O.length oc, .slice na zss.length nc], .int .i64 y34, u5, v24])) ((w35.setCell ⟨w.heap.size, 0, none⟩ (.slice oa O.length oc)).setCell ⟨w.heap.size, 1, none⟩ (.slice na zss.length nc))) :=
            ⟨_, _, _, _, O, zss, _, _, rfl, (A35.out.only hS.out (fun g h1 h2 e => by omega)).weak (by omega), hO, ((OwnInts.only U35.out hS.out (fun g hg e => by have := (U35.out.own.lt g hg).1; omega)).base (by omega)).retop, by omega, ((OwnInts.only V35.out hS.out (fun g hg e => by have := (V35.out.own.lt g hg).1; omega)).base (by omega)).retop, by omega, by omega, by omega, D35.out.new (hS.out.mono fun b hb => by omega)⟩
          clear hS
          go_wp2
          exact bodyPost_ret (v := .tuple #[.agg #[.slice oa O.length oc, .slice na zss.length nc], .int .i64 y34, u5, v24]) (by simp [results, Try.results53, go_sem, r0, r1]) rfl hfin.out
        | true =>
          obtain ⟨i35, g35, hd35⟩ := D35.out.cur
          go_wp2_with fail
          refine (l1From_is hd35 (lo := -1) (hi := 2) (by omega) (by omega) (by omega)).mono ?_
          rintro e w36 ⟨z36, i36', g36', rfl, hz0, hz1, hd, ho⟩
          have T36 := Lib.hid (T35.out.only ho (by omega))
          have A36 := Lib.hid (A35.out.only ho (fun g h1 h2 e => by omega))
          have R36 := Lib.hid (R35.out.only ho (by omega))
          have D36 := Lib.hid (D35.out.call hd ho)
          have hs36 : w35.heap.size ≤ w36.heap.size := ho.size
          have U36 : Hid (OwnInts w36 (w.heap.size + 1) w36.heap.size _ _) := (OwnInts.only U35.out ho (fun g hg e => by have := (U35.out.own.lt g hg).1; omega)).retop
          have V36 : Hid (OwnInts w36 (w.heap.size + 1) w36.heap.size _ _) := (OwnInts.only V35.out ho (fun g hg e => by have := (V35.out.own.lt g hg).1; omega)).retop
          clear hd ho T35 A35 R35 D35 U35 V35
          have t0 := T36.out.cell0
          have t1 := T36.out.cell1
          have r0 := R36.out.cell0
          have r1 := R36.out.cell1
          have f0 := R36.out.frozen 0
          have f1 := R36.out.frozen 1
          have hS := Lib.hid (Box2.two_only w36 w.heap.size (.slice oa O.length oc) (.slice na zss.length nc))
          have hfin : Hid (RollsThree w B p ab cb bs (.returned (.tuple #[.agg #[.slice oa O.length oc, .slice na zss.length nc], .int .i64 z36, u5, v24])) ((w36.setCell ⟨w.heap.size, 0, none⟩ (.slice oa O.length oc)).setCell ⟨w.heap.size, 1, none⟩ (.slice na zss.length nc))) :=
            ⟨_, _, _, _, O, zss, _, _, rfl, (A36.out.only hS.out (fun g h1 h2 e => by omega)).weak (by omega), hO, ((OwnInts.only U36.out hS.out (fun g hg e => by have := (U36.out.own.lt g hg).1; omega)).base (by omega)).retop, by omega, ((OwnInts.only V36.out hS.out (fun g hg e => by have := (V36.out.own.lt g hg).1; omega)).base (by omega)).retop, by omega, by omega, by omega, D36.out.new (hS.out.mono fun b hb => by omega)⟩
          clear hS
          go_wp2
          exact bodyPost_ret (v := .tuple #[.agg #[.slice oa O.length oc, .slice na zss.length nc], .int .i64 z36, u5, v24]) (by simp [results, Try.results53, go_sem, r0, r1]) rfl hfin.out

end Go.Proofs.Ythelpfilgamdfaa
