/-
  Contracts: the draw of any arena (l1DrawAny), and the draw for ReachOf.
-/
import Derived.Test.YtokcinhopajniaaGreatDoorDrawArena
import Derived.Test.YtokcinhopajniaaGreatDoorDraw1
namespace Go.Proofs.YtokcinhopajniaaGreatDoor
open Go.RowKit

theorem made_zero (w : World) (n : Nat) (hn : n ≤ 1048576) : OwnInts (w.alloc (.cells (madeCells #[.int .i64 0] n) 2)) w.heap.size (w.heap.size + 1) (.slice (some ⟨w.heap.size, 0, none⟩) n n) (List.replicate n 0) := by
  have h := OwnInts.of_rowIs (w := w.alloc (.cells (madeCells #[.int .i64 0] n) 2)) (B := w.heap.size) (D := w.heap.size + 1) (b := w.heap.size) (zs := List.replicate n 0) (by
    rw [List.length_replicate]
    exact (World.rowIs_made w _ _ _).congr (fun i hi => by simp [nth, hi])) (Nat.le_refl _) (by omega) (by simp; omega) (fun k hk => by rw [nth_eq hk, List.getElem_replicate]; unfold Fits; omega)
  rw [List.length_replicate] at h
  exact h

/-- What the end of the draw does: the struct is loaded and stored into the results' box. -/
structure Done (w wr : World) (t B p : Nat) (ab : Option Addr) (cb : Nat) (bs : List Int) (m : Nat) : Prop where
  out : ∃ a1 l1 c1 a2 l2 c2 V O zss, Half4 w.heap.size wr t (.slice a1 l1 c1) (.slice a2 l2 c2) V O zss ∧ O.length ≤ m ∧ zss.length ≤ m
  cur : Dwn w wr B p ab cb bs
  box : Box2 wr w.heap.size 30 (.slice none 0 0) (.slice none 0 0)

theorem Half4.done {w wr : World} {t B p m : Nat} {ab : Option Addr} {cb : Nat} {bs : List Int} {vo vn : Value} {V : Nat → Value} {O : List Int} {zss : List (List Int)} (h : Half4 w.heap.size wr t vo vn V O zss) (h1 : O.length ≤ m) (h2 : zss.length ≤ m) (d : Dwn w wr B p ab cb bs)
    (r : Box2 wr w.heap.size 30 (.slice none 0 0) (.slice none 0 0)) : Done w wr t B p ab cb bs m := by
  obtain ⟨a1, c1, hv1, _⟩ := h.ints.shape
  obtain ⟨a2, c2, hv2, _⟩ := h.rows.shape
  rw [hv1, hv2] at h
  exact ⟨⟨_, _, _, _, _, _, _, _, _, h, h1, h2⟩, d, r⟩

theorem Done.drew {w wr : World} {t B p m : Nat} {ab : Option Addr} {cb : Nat} {bs : List Int} (h : Done w wr t B p ab cb bs m) : Done w wr.drew t B p ab cb bs m := by
  obtain ⟨⟨a1, l1, c1, a2, l2, c2, V, O, zss, hh, h1, h2⟩, hd, hr⟩ := h
  exact ⟨⟨a1, l1, c1, a2, l2, c2, V, O, zss, hh.keep (Below.refl _ _).drew, h1, h2⟩, hd.below (Below.refl _ _).drew, hr.below (Below.refl _ _).drew⟩

theorem Half4.clear {n t : Nat} {wr : World} {vo vn : Value} {V : Nat → Value} {O : List Int} {zss : List (List Int)} (h : Half4 n wr t vo vn V O zss) :
    Half4 n ((wr.setCell ⟨t, 0, none⟩ (.slice none 0 0)).setCell ⟨t, 1, none⟩ (.slice none 0 0)) t (.slice none 0 0) (.slice none 0 0) (fun _ => .slice none 0 0) [] [] ∧ Only (fun b => n ≤ b) wr ((wr.setCell ⟨t, 0, none⟩ (.slice none 0 0)).setCell ⟨t, 1, none⟩ (.slice none 0 0)) :=
  ⟨⟨h.base, (h.str.set0 _).set1 _, OwnInts.nil _ _ _, OwnRows.nil _ _ _, fun i hi => absurd hi (by simp)⟩, (Box2.two_only _ _ _ _).mono fun b hb => by rw [hb]; exact h.base⟩

set_option maxHeartbeats 16000000 in
set_option maxRecDepth 100000 in
theorem l1DrawAny_is {w : World} {B p : Nat} {ab : Option Addr} {cb : Nat} {bs : List Int} {i : Nat} {h : Int} (d : Dr w B p ab cb bs i h) :
    Calls Tryz.prog 121 #[.pointer (some ⟨p, 0, none⟩)] w (RollsArena w B p ab cb bs 300) := by
  obtain ⟨i0, hi, hz0, hz1, hz2⟩ := info_parts info_rows
  obtain ⟨j0, hj, hj0, hj1, hj2⟩ := info_parts info_int
  have hp := d.lt
  have D0 := Lib.hid ((Dwn.start d).below (below1 w (.cells #[.slice none 0 0, .slice none 0 0] 30)))
  have R0 := Lib.hid (Box2.new w 30 (.slice none 0 0) (.slice none 0 0))
  clear d
  go_enter Tryz.func121, Tryz.ntmps121
  go_wp2_with fail
  obtain ⟨i1, h1, hd1⟩ := D0.out.cur
  refine (l1Draw_is hd1).mono ?_
  rintro e w1 ⟨v, O, zss, rfl, hA, hO1, hO8, hOz, hrow, hD⟩
  obtain ⟨vo, vn, V, rfl, hvo, hvn, hap⟩ := hA
  have hs0 : (w.alloc (.cells #[.slice none 0 0, .slice none 0 0] 30)).heap.size = w.heap.size + 1 := by simp
  rw [hs0] at hvo hvn
  have R1 := Lib.hid (R0.out.only hD.only (by omega))
  have D1 : Hid (Dwn w w1 B p ab cb bs) := by
    obtain ⟨ii, hh, hdd⟩ := hD.cur
    exact D0.out.call hdd hD.only
  have hs1 : w.heap.size + 1 ≤ w1.heap.size := by have := hD.only.size; rw [hs0] at this; exact this
  have VO1 := Lib.hid hvo
  have VN1 := Lib.hid hvn
  have AP := Lib.hid hap
  have HROW := Lib.hid hrow
  clear hD hvo hvn hap hd1 R0 D0 hs0 hrow
  obtain ⟨oa, oc, hov, -, hosh⟩ := VO1.out.shape
  subst hov
  obtain ⟨na, nc, hnv, -, -⟩ := VN1.out.shape
  subst hnv
  obtain ⟨og, rfl, _, _, _, _⟩ := hosh (by omega)
  have hnown := own_top VN1.out.own (by omega)
  obtain ⟨ng, ncap, hne, _, _, _⟩ := hnown
  cases hne
  have HOZ := Lib.hid hOz
  have hZ300 : zss.length ≤ 8 := by omega
  clear hOz
  go_wp2_with fail
  obtain ⟨w2, hw2⟩ : ∃ y, y = w1.alloc (.cells #[.slice (some ⟨og, 0, none⟩) O.length oc, .slice (some ⟨ng, 0, none⟩) zss.length nc] 30) := ⟨_, rfl⟩
  rw [← hw2]
  have hS2 : Only (fun b => w1.heap.size ≤ b) w1 w2 := by rw [hw2]; exact Only.of_below (below1 _ _)
  have H2 : Hid (Half4 w.heap.size w2 w1.heap.size (.slice (some ⟨og, 0, none⟩) O.length oc) (.slice (some ⟨ng, 0, none⟩) zss.length nc) V O zss) := by
    refine ⟨by omega, by rw [hw2]; exact Box2.new _ _ _ _, ((VO1.out.only hS2 (fun g hg e => by have := VO1.out.top g hg; omega)).base (by omega)).retop, ((VN1.out.only hS2 (fun g hg e => by have := VN1.out.top g hg; omega) (fun k hk g hg e => by have := (VN1.out.rows k hk).top g hg; omega)).base (by omega)).retop, AP.out⟩
  have D2 := Lib.hid (D1.out.new (hS2.mono fun b hb => by omega))
  have R2 := Lib.hid (R1.out.only hS2 (by omega))
  have hs2 : w.heap.size + 1 ≤ w2.heap.size := by have := hS2.size; omega
  clear hw2 hS2 D1 R1 VO1 VN1 AP hosh
  obtain ⟨i1, h1, hd1⟩ := D2.out.cur
  refine (l1Once_is hd1 (by omega) (by omega)).mono ?_
  rintro e w3 ⟨r, i2, h2, rfl, hd, ho⟩
  have H3 := Lib.hid (H2.out.only ho (fun b hb => by omega))
  have D3 := Lib.hid (D2.out.call hd ho)
  have R3 := Lib.hid (R2.out.only ho (by omega))
  clear hd ho hd1 H2 D2 R2
  cases r with
  | false =>
    have HDONE := Lib.hid (H3.out.done (m := 300) (by omega) (by omega) D3.out R3.out)
    clear H3 D3 R3
    obtain ⟨⟨a1, l1, c1, a2, l2, c2, V9, O9, Z9, hh9, hO9, hZ9⟩, hd9, hr9⟩ := HDONE.out
    have H9 := Lib.hid hh9
    have D9 := Lib.hid hd9
    have R9 := Lib.hid hr9
    have t0 := hh9.str.cell0
    have t1 := hh9.str.cell1
    have d0 := hr9.cell0
    have d1 := hr9.cell1
    have g0 := hr9.frozen 0
    have g1 := hr9.frozen 1
    clear hh9 hd9 hr9
    go_wp2
    have hfin : RollsArena w B p ab cb bs 300 (.returned (.agg #[.slice a1 l1 c1, .slice a2 l2 c2])) ((w3.setCell ⟨w.heap.size, 0, none⟩ (.slice a1 l1 c1)).setCell ⟨w.heap.size, 1, none⟩ (.slice a2 l2 c2)) :=
      ⟨_, O9, Z9, rfl, H9.out.give R9.out, hO9, hZ9, D9.out.new ((Box2.two_only _ _ _ _).mono fun b hb => by omega)⟩
    exact bodyPost_ret (v := .agg #[.slice a1 l1 c1, .slice a2 l2 c2]) (by simp [results, Tryz.results121, go_sem, d0, d1]) rfl hfin
  | true =>
    have t0 := H3.out.str.cell0
    obtain ⟨i1, h1, hd1⟩ := D3.out.cur
    go_wp2_with fail
    refine (l1Below_is (hi := (O.length : Int) - 1) hd1 (by omega) (by omega) (by omega)).mono ?_
    rintro e w4 ⟨x, i2, h2, rfl, hx0, hx1, hd, ho⟩
    have H4 := Lib.hid (H3.out.only ho (fun b hb => by omega))
    have D4 := Lib.hid (D3.out.call hd ho)
    have R4 := Lib.hid (R3.out.only ho (by omega))
    clear hd ho hd1 H3 D3 R3 t0
    obtain ⟨v, rfl⟩ := Int.eq_ofNat_of_zero_le hx0
    have hv1 : v < O.length := by omega
    have hv2 : v < zss.length := by have := HOZ.out; omega
    clear hx0 hx1
    obtain ⟨i1, h1, hd1⟩ := D4.out.cur
    go_wp2_with fail
    refine (l1Below_is (hi := 5) hd1 (by omega) (by omega) (by omega)).mono ?_
    rintro e w5 ⟨y, i2, h2, rfl, hy0, hy1, hd, ho⟩
    have H5 := Lib.hid (H4.out.only ho (fun b hb => by omega))
    have D5 := Lib.hid (D4.out.call hd ho)
    have R5 := Lib.hid (R4.out.only ho (by omega))
    clear hd ho hd1 H4 D4 R4
    have hsz5 := H5.out.str.lt
    have hr5 := R5.out.lt
    have hy : y = 0 ∨ y = 1 ∨ y = 2 ∨ y = 3 ∨ y = 4 ∨ y = 5 := by omega
    clear hy0 hy1
    have t0 := H5.out.str.cell0
    have t1 := H5.out.str.cell1
    have hng : ng < w5.heap.size := H5.out.rows.top ng rfl
    have hng1 : ¬ ng = w5.heap.size := by omega
    have hng2 : ¬ w5.heap.size = ng := by omega
    rcases hy with rfl | rfl | rfl | rfl | rfl | rfl
    · obtain ⟨i1, h1, hd1⟩ := D5.out.cur
      have HDD := Lib.hid (hd1.below (Below.refl _ w5).drew)
      clear hd1 t1
      go_wp2
      go_region_law (go_simp; go_at_call 123; refine (l1From_is HDD.out (by omega) (by omega) (by omega)).mono ?_; rintro e w6 ⟨x, i2, h2, rfl, hx0, hx1, hd, ho⟩; have HO6 : Hid (Only (fun b => b = p) w5 w6) := (Only.of_below (Below.refl _ _).drew).trans ho; have H6 := Lib.hid (H5.out.only HO6.out (fun b hb => by omega)); have D6 := Lib.hid (D5.out.call hd HO6.out); have R6 := Lib.hid (R5.out.only HO6.out (by omega)); have t6 := H6.out.str.cell0; have o6 := (H6.out.ocell hv1).1; have of6 := (H6.out.ocell hv1).2; clear hd ho)
      all_goals (
        have h7 := H6.out.setOwner hv1 (x := x) (by unfold Fits; omega)
        have r7 := R6.out.other (a := ⟨og, v, none⟩) (fun e => R6.out.not_own H6.out.ints.own (by decide) (by rw [e]; rfl)) (.int .i64 x)
        obtain ⟨w7, hw7⟩ : ∃ y, y = w6.setCell ⟨og, v, none⟩ (.int .i64 x) := ⟨_, rfl⟩
        rw [← hw7] at h7 r7 ⊢
        have HDONE := Lib.hid (h7.1.done (m := 300) (by simp; omega) (by omega) (D6.out.new h7.2) r7)
        clear h7 r7 hw7 t0 t6 o6 of6
        obtain ⟨⟨a1, l1, c1, a2, l2, c2, V9, O9, Z9, hh9, hO9, hZ9⟩, hd9, hr9⟩ := HDONE.out
        have H9 := Lib.hid hh9
        have D9 := Lib.hid hd9
        have R9 := Lib.hid hr9
        have t0 := hh9.str.cell0
        have t1 := hh9.str.cell1
        have d0 := hr9.cell0
        have d1 := hr9.cell1
        have g0 := hr9.frozen 0
        have g1 := hr9.frozen 1
        clear hh9 hd9 hr9
        go_wp2
        have hfin : RollsArena w B p ab cb bs 300 (.returned (.agg #[.slice a1 l1 c1, .slice a2 l2 c2])) ((w7.setCell ⟨w.heap.size, 0, none⟩ (.slice a1 l1 c1)).setCell ⟨w.heap.size, 1, none⟩ (.slice a2 l2 c2)) :=
          ⟨_, O9, Z9, rfl, H9.out.give R9.out, hO9, hZ9, D9.out.new ((Box2.two_only _ _ _ _).mono fun b hb => by omega)⟩
        exact bodyPost_ret (v := .agg #[.slice a1 l1 c1, .slice a2 l2 c2]) (by simp [results, Tryz.results121, go_sem, d0, d1]) rfl hfin)
    · obtain ⟨i1, h1, hd1⟩ := D5.out.cur
      have HDD := Lib.hid (hd1.below (Below.refl _ w5).drew)
      have hrl : (row zss v).length ≤ 3 := HROW.out v hv2
      have r5 := (H5.out.rcell hv2).1
      clear hd1 t0 hng hng1 hng2
      go_wp2
      go_region_law (first
        | (refine step_append_lies _ (by rfl) _ _ _ (by rfl) w.heap.size 2 j0 (.int .i64 0) 1 8 Tryz.underlying27 hj hj0 hj1 hj2 rfl (by decide) (V v) (row zss v).length ((row zss v).map (Value.int .i64)) (by rfl) (H6a.out.rows.rows v hv2).own ⟨w6.heap.size, 0, none⟩ 1 1 [.int .i64 x] (by rfl) (by rfl) (World.news_of_block (cs := #[.int .i64 x]) (t := 2) (fr := (0, 0)) (heap_alloc_new w6 _)) (by simp [Value.oneCell']) (by omega) (by unfold maxLen; omega) (by omega) (by simp; omega) (w6.heap.size + 1) (by simp) ?_; intro gg cap w7 hown7 hgrow hat hlt7; have q7 := (H6a.out.rcell_only hv2 (Only.of_grown hgrow)).1; have qf7 := (H6a.out.rcell_only hv2 (Only.of_grown hgrow)).2; have t7 := (H6a.out.str.grown (H6a.out.rows.rows v hv2).own (by decide) hgrow).cell1)
        | (go_simp; go_at_call 120; refine (l1Num_is HDD.out (by omega) (by omega)).mono ?_; rintro e w6 ⟨x, i2, h2, rfl, hx, hd, ho⟩; have HX := Lib.hid hx; have HO6 : Hid (Only (fun b => b = p) w5 w6) := (Only.of_below (Below.refl _ _).drew).trans ho; have H6 := Lib.hid (H5.out.only HO6.out (fun b hb => by omega)); have D6 := Lib.hid (D5.out.call hd HO6.out); have R6 := Lib.hid (R5.out.only HO6.out (by omega)); have H6a := Lib.hid (H6.out.keep (below1 w6 (.cells #[.int .i64 x] 2))); have t6 := H6.out.str.cell1; have t6a := H6a.out.str.cell1; have r6 := (H6.out.rcell hv2).1; have r6a := (H6a.out.rcell hv2).1; have hs6 : w5.heap.size ≤ w6.heap.size := HO6.out.size; clear hd ho hx))
      all_goals (
        have hsn := (H6a.out.rows.rows v hv2).snoc HX.out (by omega) hown7
        have h8 := H6a.out.putRow hv2 (Only.of_grown hgrow) hsn (hat.imp (fun h => by rw [h]; rfl) (fun h => ⟨gg, rfl, by simp; omega⟩))
        have r7 := (R6.out.alloc (.cells #[.int .i64 x] 2)).grown (H6a.out.rows.rows v hv2).own (by decide) hgrow
        have r8 := r7.other (a := ⟨ng, v, none⟩) (fun e => (R6.out.alloc (.cells #[.int .i64 x] 2)).not_own H6a.out.rows.own (by decide) (by rw [e]; rfl)) (.slice (some ⟨gg, 0, none⟩) ((row zss v).length + 1) cap)
        obtain ⟨w8, hw8⟩ : ∃ y, y = w7.setCell ⟨ng, v, none⟩ (.slice (some ⟨gg, 0, none⟩) ((row zss v).length + 1) cap) := ⟨_, rfl⟩
        rw [← hw8] at h8 r8 ⊢
        have HDONE := Lib.hid (h8.1.done (m := 300) (by omega) (by simp; omega) ((D6.out.below (below1 w6 (.cells #[.int .i64 x] 2))).new h8.2) r8)
        clear h8 r7 r8 hsn hw8 hown7 hgrow hat q7 qf7 t7 t1 t6 t6a r5 r6 r6a
        obtain ⟨⟨a1, l1, c1, a2, l2, c2, V9, O9, Z9, hh9, hO9, hZ9⟩, hd9, hr9⟩ := HDONE.out
        have H9 := Lib.hid hh9
        have D9 := Lib.hid hd9
        have R9 := Lib.hid hr9
        have t0 := hh9.str.cell0
        have t1 := hh9.str.cell1
        have d0 := hr9.cell0
        have d1 := hr9.cell1
        have g0 := hr9.frozen 0
        have g1 := hr9.frozen 1
        clear hh9 hd9 hr9
        go_wp2
        have hfin : RollsArena w B p ab cb bs 300 (.returned (.agg #[.slice a1 l1 c1, .slice a2 l2 c2])) ((w8.setCell ⟨w.heap.size, 0, none⟩ (.slice a1 l1 c1)).setCell ⟨w.heap.size, 1, none⟩ (.slice a2 l2 c2)) :=
          ⟨_, O9, Z9, rfl, H9.out.give R9.out, hO9, hZ9, D9.out.new ((Box2.two_only _ _ _ _).mono fun b hb => by omega)⟩
        exact bodyPost_ret (v := .agg #[.slice a1 l1 c1, .slice a2 l2 c2]) (by simp [results, Tryz.results121, go_sem, d0, d1]) rfl hfin)
    · have U6 : Hid (OwnInts (w5.alloc (.cells #[] 2)) w.heap.size (w5.alloc (.cells #[] 2)).heap.size (.slice (some ⟨w5.heap.size, 0, none⟩) 0 0) []) := OwnInts.mk' (World.ownsRow_made w5 #[] 0 (by omega) (by unfold maxLen; omega) rfl) (by simp) (fun k hk => absurd hk (by simp))
      have h7 := H5.out.putRow hv2 (Only.of_below (below1 w5 (.cells #[] 2))) U6.out (.inr ⟨w5.heap.size, rfl, Nat.le_refl _⟩)
      have H6 := Lib.hid (H5.out.keep (below1 w5 (.cells #[] 2)))
      have r7 := (R5.out.alloc (.cells #[] 2)).other (a := ⟨ng, v, none⟩) (fun e => (R5.out.alloc (.cells #[] 2)).not_own H6.out.rows.own (by decide) (by rw [e]; rfl)) (.slice (some ⟨w5.heap.size, 0, none⟩) 0 0)
      have r6 := (H5.out.rcell hv2).1
      have rf6 := (H5.out.rcell hv2).2
      have H7 := Lib.hid h7
      have R7 := Lib.hid r7
      clear h7 r7
      have HDONE := Lib.hid (H7.out.1.done (m := 300) (by omega) (by simp; omega) (D5.out.new H7.out.2) R7.out)
      clear hng hng1 hng2 r6 rf6
      have r6 := (H6.out.rcell hv2).1
      have rf6 := (H6.out.rcell hv2).2
      obtain ⟨⟨a1, l1, c1, a2, l2, c2, V9, O9, Z9, hh9, hO9, hZ9⟩, hd9, hr9⟩ := HDONE.out
      have H9 := Lib.hid hh9
      have D9 := Lib.hid hd9
      have R9 := Lib.hid hr9
      have t0 := hh9.str.cell0
      have t1 := hh9.str.cell1
      have d0 := hr9.cell0
      have d1 := hr9.cell1
      have g0 := hr9.frozen 0
      have g1 := hr9.frozen 1
      clear hh9 hd9 hr9
      go_wp2
      generalize (w5.alloc (.cells #[] 2)).setCell ⟨ng, v, none⟩ (.slice (some ⟨w5.heap.size, 0, none⟩) 0 0) = W9 at d0 d1 H9 D9 R9 ⊢
      have hfin : RollsArena w B p ab cb bs 300 (.returned (.agg #[.slice a1 l1 c1, .slice a2 l2 c2])) ((W9.setCell ⟨w.heap.size, 0, none⟩ (.slice a1 l1 c1)).setCell ⟨w.heap.size, 1, none⟩ (.slice a2 l2 c2)) :=
        ⟨_, O9, Z9, rfl, H9.out.give R9.out, hO9, hZ9, D9.out.new ((Box2.two_only _ _ _ _).mono fun b hb => by omega)⟩
      exact bodyPost_ret (v := .agg #[.slice a1 l1 c1, .slice a2 l2 c2]) (by simp [results, Tryz.results121, go_sem, d0, d1]) rfl hfin
    · have HOWN5 : Hid (w5.ownsRow w.heap.size 2 1 (.slice (some ⟨og, 0, none⟩) O.length oc) O.length (O.map (Value.int .i64))) := H5.out.ints.own
      have hone : ∀ u ∈ [Value.int .i64 0], u.oneCell' = true := by intro u hu; simp at hu; subst hu; rfl
      have HONE := Lib.hid hone
      clear hone t1
      go_wp2_with (at_builtin; refine wpList_append_lies _ rfl _ _ 27 rfl w.heap.size 2 j0 (.int .i64 0) 1 8 Tryz.underlying27 hj hj0 hj1 hj2 rfl (by decide) _ _ _ rfl (HOWN5.out.alloc _) ⟨w5.heap.size, 0, none⟩ 1 1 [.int .i64 0] rfl rfl (cell_one_new _ _ _) HONE.out (Nat.le_refl _) (by unfold maxLen; omega) (by omega) (by simp; omega) (w5.heap.size + 1) (by simp) ?_; intro g8 cap8 w8 hown8 hgrow8 hat8 hlt8; have hbx8 := (H5.out.str.alloc (.cells #[.int .i64 0] 2)).grown (HOWN5.out.alloc _) (by decide) hgrow8; have q8 := hbx8.cell0; have p8 := hbx8.frozen 0; have h9 := (H5.out.keep (below1 w5 (.cells #[.int .i64 0] 2))).owner (cap := cap8) (gg := g8) (x := 0) (by omega) (by unfold Fits; omega) hown8 hgrow8 (hat8.imp_right fun h => by simp; omega); have r9 := ((R5.out.alloc (.cells #[.int .i64 0] 2)).grown (HOWN5.out.alloc _) (by decide) hgrow8).other (a := ⟨w1.heap.size, 0, none⟩) (by show w.heap.size ≠ w1.heap.size; omega) (.slice (some ⟨g8, 0, none⟩) (O.length + 1) cap8); have HDONE := Lib.hid (h9.1.done (m := 300) (by simp; omega) (by omega) ((D5.out.below (below1 w5 (.cells #[.int .i64 0] 2))).new h9.2) r9); obtain ⟨⟨a1, l1, c1, a2, l2, c2, V9, O9, Z9, hh9, hO9, hZ9⟩, hd9, hr9⟩ := HDONE.out; have H9 := Lib.hid hh9; have D9 := Lib.hid hd9; have R9 := Lib.hid hr9; have t0' := hh9.str.cell0; have t1' := hh9.str.cell1; have d0 := hr9.cell0; have d1 := hr9.cell1; have g0 := hr9.frozen 0; have g1 := hr9.frozen 1; clear hh9 hd9 hr9 hown8 hgrow8 hat8 h9 r9)
      have hfin : RollsArena w B p ab cb bs 300 (.returned (.agg #[.slice a1 l1 c1, .slice a2 l2 c2])) (((w8.setCell ⟨w1.heap.size, 0, none⟩ (.slice (some ⟨g8, 0, none⟩) (O.length + 1) cap8)).setCell ⟨w.heap.size, 0, none⟩ (.slice a1 l1 c1)).setCell ⟨w.heap.size, 1, none⟩ (.slice a2 l2 c2)) :=
        ⟨_, O9, Z9, rfl, H9.out.give R9.out, hO9, hZ9, D9.out.new ((Box2.two_only _ _ _ _).mono fun b hb => by omega)⟩
      exact bodyPost_ret (v := .agg #[.slice a1 l1 c1, .slice a2 l2 c2]) (by simp [results, Tryz.results121, go_sem, d0, d1]) rfl hfin
    · have f0 := H5.out.str.frozen 0
      have f1 := H5.out.str.frozen 1
      have h6 := H5.out.clear
      have r6 := R5.out.only (Box2.two_only w5 w1.heap.size (.slice none 0 0) (.slice none 0 0)) (by omega)
      clear hng hng1 hng2
      go_wp2
      obtain ⟨w6, hw6⟩ : ∃ y, y = (w5.setCell ⟨w1.heap.size, 0, none⟩ (.slice none 0 0)).setCell ⟨w1.heap.size, 1, none⟩ (.slice none 0 0) := ⟨_, rfl⟩
      rw [← hw6] at h6 r6 ⊢
      have H6 := Lib.hid h6.1
      have D6 := Lib.hid (D5.out.new h6.2)
      have R6 := Lib.hid r6
      clear h6 r6 hw6 f0 f1 t0 t1 H5 D5 R5
      go_loopw [5] (fun kv wr => ∃ (k : Nat) (vo vn : Value) (V : Nat → Value) (O : List Int) (zss : List (List Int)), k ≤ 257 ∧ kv = .int .i64 k ∧ O.length = k ∧ zss.length = k ∧ Hid (Half4 w.heap.size wr w1.heap.size vo vn V O zss) ∧ Hid (Dwn w wr B p ab cb bs) ∧ Hid (Box2 wr w.heap.size 30 (.slice none 0 0) (.slice none 0 0))) (fun kv _ => 257 - (intOf kv).toNat)
      case atStart => exact ⟨0, _, _, _, [], [], by omega, rfl, rfl, rfl, H6, D6, R6⟩
      case round =>
        clear H6 D6 R6
        obtain ⟨k, vo, vn, V, O, zss, hk, rfl, hOk, hzk, HS, HD, HR⟩ := hrel
        have hwr : w.heap.size < wr.heap.size := HR.out.lt
        obtain ⟨i1, h1, hd1⟩ := HD.out.cur
        go_wp2_with fail
        refine (l1Below_is (hi := 1) hd1 (by omega) (by omega) (by omega)).mono ?_
        rintro e w7 ⟨y, i2, h2, rfl, hy0, hy1, hd, ho⟩
        have H7 := Lib.hid (HS.out.only ho (fun b hb => by omega))
        have D7 := Lib.hid (HD.out.call hd ho)
        have R7 := Lib.hid (HR.out.only ho (by omega))
        clear hd ho hd1 HS HD HR
        have hlt7 : w.heap.size < w7.heap.size := R7.out.lt
        have htl7 := H7.out.str.lt
        by_cases hlt : (k : Int) < 256 + y
        · obtain ⟨a1, c1, hvs, -, -⟩ := H7.out.ints.shape
          rw [hOk] at hvs
          subst hvs
          obtain ⟨a2, c2, hvs, -, -⟩ := H7.out.rows.shape
          rw [hzk] at hvs
          subst hvs
          have HOWN7 : Hid (w7.ownsRow w.heap.size 2 1 (.slice a1 k c1) k (O.map (Value.int .i64))) := by have h := H7.out.ints.own; rw [hOk] at h; exact h
          have t0 := H7.out.str.cell0
          have t1 := H7.out.str.cell1
          have hone : ∀ z : Int, ∀ u ∈ [Value.int .i64 z], u.oneCell' = true := by intro z u hu; simp at hu; subst hu; rfl
          have HONE := Lib.hid hone
          clear hone
          have hk256 : k ≤ 256 := by omega
          have hroneg : ∀ a : Option Addr, ∀ l c : Nat, ∀ u ∈ [Value.slice a l c], u.oneCell' = true := by intro a l c u hu; simp at hu; subst hu; rfl
          have HROWONE := Lib.hid hroneg
          clear hroneg
          go_wp2_with (first
            | (at_builtin; refine wpList_append_lies _ rfl _ _ 27 rfl w.heap.size 2 j0 (.int .i64 0) 1 8 Tryz.underlying27 hj hj0 hj1 hj2 rfl (by decide) _ _ _ rfl (HOWN7.out.alloc _) ⟨w7.heap.size, 0, none⟩ 1 1 [.int .i64 ((k : Int) % 2)] rfl rfl (cell_one_new _ _ _) (HONE.out _) (Nat.le_refl _) (by unfold maxLen; omega) (by omega) (by simp; omega) (w7.heap.size + 1) (by simp) ?_; intro g8 cap8 w8 hown8 hgrow8 hat8 hlt8; have hbx8 := (H7.out.str.alloc (.cells #[.int .i64 ((k : Int) % 2)] 2)).grown (HOWN7.out.alloc _) (by decide) hgrow8; have q8 := hbx8.cell0; have p8 := hbx8.frozen 0; have h9 := (H7.out.keep (below1 w7 (.cells #[.int .i64 ((k : Int) % 2)] 2))).owner (cap := cap8) (gg := g8) (x := (k : Int) % 2) (by omega) (by unfold Fits; omega) (by rw [hOk]; exact hown8) hgrow8 (hat8.imp_right fun h => by simp; omega); rw [hOk] at h9; have H9 := Lib.hid h9.1; have D9 := Lib.hid ((D7.out.below (below1 w7 (.cells #[.int .i64 ((k : Int) % 2)] 2))).new h9.2); have R9 := Lib.hid (((R7.out.alloc (.cells #[.int .i64 ((k : Int) % 2)] 2)).grown (HOWN7.out.alloc _) (by decide) hgrow8).other (a := ⟨w1.heap.size, 0, none⟩) (by show w.heap.size ≠ w1.heap.size; omega) (.slice (some ⟨g8, 0, none⟩) (k + 1) cap8)); have t91 := H9.out.str.cell1; have hsw : (w8.setCell ⟨w1.heap.size, 0, none⟩ (.slice (some ⟨g8, 0, none⟩) (k + 1) cap8)).heap.size = w8.heap.size := (by simp [World.setCell]); have HOWN9 : Hid ((w8.setCell ⟨w1.heap.size, 0, none⟩ (.slice (some ⟨g8, 0, none⟩) (k + 1) cap8)).ownsRow w.heap.size 27 1 (.slice a2 k c2) k ((List.range k).map V)) := (by have h := H9.out.rows.own; rw [hzk] at h; exact h); have U9 : Hid (OwnInts ((w8.setCell ⟨w1.heap.size, 0, none⟩ (.slice (some ⟨g8, 0, none⟩) (k + 1) cap8)).alloc (.cells #[.int .i64 ((k : Int) / 2)] 2)) w8.heap.size (w8.heap.size + 1) (.slice (some ⟨w8.heap.size, 0, none⟩) 1 1) [(k : Int) / 2]) := (by have h := own_new (w8.setCell ⟨w1.heap.size, 0, none⟩ (.slice (some ⟨g8, 0, none⟩) (k + 1) cap8)) ((k : Int) / 2) (by unfold Fits; omega); rw [hsw] at h; exact h); have CN : Hid (∀ j u, [Value.slice (some ⟨w8.heap.size, 0, none⟩) 1 1][j]? = some u → (((w8.setCell ⟨w1.heap.size, 0, none⟩ (.slice (some ⟨g8, 0, none⟩) (k + 1) cap8)).alloc (.cells #[.int .i64 ((k : Int) / 2)] 2)).alloc (.cells #[.slice (some ⟨w8.heap.size, 0, none⟩) 1 1] 27)).cell? ((⟨w8.heap.size + 1, 0, none⟩ : Addr).add j) = some u) := (by have h1 := cell_one_new ((w8.setCell ⟨w1.heap.size, 0, none⟩ (.slice (some ⟨g8, 0, none⟩) (k + 1) cap8)).alloc (.cells #[.int .i64 ((k : Int) / 2)] 2)) (.slice (some ⟨w8.heap.size, 0, none⟩) 1 1) 27; have hl : ((w8.setCell ⟨w1.heap.size, 0, none⟩ (.slice (some ⟨g8, 0, none⟩) (k + 1) cap8)).alloc (.cells #[.int .i64 ((k : Int) / 2)] 2)).heap.size = w8.heap.size + 1 := (by simp [hsw]); rw [hl] at h1; exact h1); have hs8 : w.heap.size < w8.heap.size := (by have := R9.out.lt; omega); have HSW := Lib.hid hsw; clear h9 hown8 hgrow8 hat8 hbx8 hsw)
            | (at_builtin; refine wpList_append_lies _ rfl _ _ 28 rfl w.heap.size 27 i0 (.slice none 0 0) 1 24 Tryz.underlying28 hi hz0 hz1 hz2 rfl (by decide) _ _ _ rfl ((HOWN9.out.alloc _).alloc _) ⟨w8.heap.size + 1, 0, none⟩ 1 1 [.slice (some ⟨w8.heap.size, 0, none⟩) 1 1] rfl rfl CN.out (HROWONE.out _ _ _) (Nat.le_refl _) (by unfold maxLen; omega) (by omega) (by simp [World.setCell]; omega) (w8.heap.size + 2) (by simp [World.setCell]) ?_; intro g10 cap10 w10 hown10 hgrow10 hat10 hlt10; have hbx10 := ((H9.out.str.alloc (.cells #[.int .i64 ((k : Int) / 2)] 2)).alloc (.cells #[.slice (some ⟨w8.heap.size, 0, none⟩) 1 1] 27)).grown ((HOWN9.out.alloc _).alloc _) (by decide) hgrow10; have q10 := hbx10.cell1; have p10 := hbx10.frozen 1))
          have h11 := ((H9.out.keep (below1 (w8.setCell ⟨w1.heap.size, 0, none⟩ (.slice (some ⟨g8, 0, none⟩) (k + 1) cap8)) (.cells #[.int .i64 ((k : Int) / 2)] 2))).keep (below1 _ (.cells #[.slice (some ⟨w8.heap.size, 0, none⟩) 1 1] 27))).push (zs := [(k : Int) / 2]) (cap := cap10) (gg := g10) (by omega) (U9.out.below (below1 _ _)) (by omega) (fun i hi g h1 h2 => by have h3 := (U9.out.own.lt g h1).1; have h4 := (H9.out.rows.rows i hi).top g h2; rw [HSW.out] at h4; omega) (fun g h1 h2 => by have h3 := (U9.out.own.lt g h1).1; have h4 := H9.out.ints.top g h2; rw [HSW.out] at h4; omega) (by rw [hzk]; exact hown10) hgrow10
          have d11 := ((D9.out.below (below1 (w8.setCell ⟨w1.heap.size, 0, none⟩ (.slice (some ⟨g8, 0, none⟩) (k + 1) cap8)) (.cells #[.int .i64 ((k : Int) / 2)] 2))).below (below1 _ (.cells #[.slice (some ⟨w8.heap.size, 0, none⟩) 1 1] 27))).new h11.2
          have r11 := (((R9.out.alloc (.cells #[.int .i64 ((k : Int) / 2)] 2)).alloc (.cells #[.slice (some ⟨w8.heap.size, 0, none⟩) 1 1] 27)).grown ((HOWN9.out.alloc _).alloc _) (by decide) hgrow10).other (a := ⟨w1.heap.size, 1, none⟩) (by show w.heap.size ≠ w1.heap.size; omega) (.slice (some ⟨g10, 0, none⟩) (k + 1) cap10)
          rw [hzk] at h11 d11
          have H11 := Lib.hid h11.1
          have D11 := Lib.hid d11
          have R11 := Lib.hid r11
          clear h11 d11 r11 hown10 hgrow10 hat10 hbx10
          go_wp2
          go_roundw
          case rel => exact ⟨k + 1, _, _, _, _, zss ++ [[(k : Int) / 2]], by omega, by go_num, by simp; omega, by simp; omega, H11, D11, R11⟩
          case measure => simp [intOf]; omega
        · have HDONE := Lib.hid (H7.out.done (m := 300) (by omega) (by omega) D7.out R7.out)
          obtain ⟨⟨a1, l1, c1, a2, l2, c2, V9, O9, Z9, hh9, hO9, hZ9⟩, hd9, hr9⟩ := HDONE.out
          have H9 := Lib.hid hh9
          have D9 := Lib.hid hd9
          have R9 := Lib.hid hr9
          have t0 := hh9.str.cell0
          have t1 := hh9.str.cell1
          have d0 := hr9.cell0
          have d1 := hr9.cell1
          have g0 := hr9.frozen 0
          have g1 := hr9.frozen 1
          clear hh9 hd9 hr9
          go_wp2
          have hfin : RollsArena w B p ab cb bs 300 (.returned (.agg #[.slice a1 l1 c1, .slice a2 l2 c2])) ((w7.setCell ⟨w.heap.size, 0, none⟩ (.slice a1 l1 c1)).setCell ⟨w.heap.size, 1, none⟩ (.slice a2 l2 c2)) :=
            ⟨_, O9, Z9, rfl, H9.out.give R9.out, hO9, hZ9, D9.out.new ((Box2.two_only _ _ _ _).mono fun b hb => by omega)⟩
          exact bodyPost_ret (v := .agg #[.slice a1 l1 c1, .slice a2 l2 c2]) (by simp [results, Tryz.results121, go_sem, d0, d1]) rfl hfin
    · obtain ⟨cs, hcs⟩ : ∃ c, madeCells #[.int .i64 0] 17 = c := ⟨_, rfl⟩
      have hmk : ∀ wx, (Instr.makeSlice 27 (.int .i64 17) (.int .i64 17)).run Tryz.prog wx = .ok (.slice (some ⟨wx.heap.size, 0, none⟩) 17 17) (wx.alloc (.cells cs 2)) := fun wx => by
        rw [← hcs]; exact run_make_row' (P := Tryz.prog) 27 2 (.int .i64 0) 8 Tryz.underlying27 info_int rfl .i64 .i64 17 (by omega) (by omega) wx
      have U6 : Hid (OwnInts (w5.alloc (.cells cs 2)) w5.heap.size (w5.heap.size + 1) (.slice (some ⟨w5.heap.size, 0, none⟩) 17 17) (List.replicate 17 0)) := by rw [← hcs]; exact made_zero w5 17 (by omega)
      have H6 := Lib.hid (H5.out.keep (below1 w5 (.cells cs 2)))
      have h7 := H5.out.putRow hv2 (Only.of_below (below1 w5 (.cells cs 2))) ((U6.out.base (B' := w.heap.size) (by omega)).retop) (.inr ⟨w5.heap.size, rfl, Nat.le_refl _⟩)
      have R6 := Lib.hid (R5.out.below (below1 w5 (.cells cs 2)))
      have r7 := R6.out.other (a := ⟨ng, v, none⟩) (fun e => R6.out.not_own H6.out.rows.own (by decide) (by rw [e]; rfl)) (.slice (some ⟨w5.heap.size, 0, none⟩) 17 17)
      clear hng hng1 hng2
      have r6 := (H6.out.rcell hv2).1
      have rf6 := (H6.out.rcell hv2).2
      have HDONE := Lib.hid (h7.1.done (m := 300) (by omega) (by simp; omega) (D5.out.new h7.2) r7).drew
      clear h7 r7 hcs t0
      go_wp2
      go_region_law (fail)
      all_goals (
        generalize ((w5.alloc (.cells cs 2)).setCell ⟨ng, v, none⟩ (.slice (some ⟨w5.heap.size, 0, none⟩) 17 17)).drew = w7 at HDONE ⊢
        clear t1 r6 rf6 hmk
        obtain ⟨⟨a1, l1, c1, a2, l2, c2, V9, O9, Z9, hh9, hO9, hZ9⟩, hd9, hr9⟩ := HDONE.out
        have H9 := Lib.hid hh9
        have D9 := Lib.hid hd9
        have R9 := Lib.hid hr9
        have t0 := hh9.str.cell0
        have t1 := hh9.str.cell1
        have d0 := hr9.cell0
        have d1 := hr9.cell1
        have g0 := hr9.frozen 0
        have g1 := hr9.frozen 1
        clear hh9 hd9 hr9
        go_wp2
        have hfin : RollsArena w B p ab cb bs 300 (.returned (.agg #[.slice a1 l1 c1, .slice a2 l2 c2])) ((w7.setCell ⟨w.heap.size, 0, none⟩ (.slice a1 l1 c1)).setCell ⟨w.heap.size, 1, none⟩ (.slice a2 l2 c2)) :=
          ⟨_, O9, Z9, rfl, H9.out.give R9.out, hO9, hZ9, D9.out.new ((Box2.two_only _ _ _ _).mono fun b hb => by omega)⟩
        exact bodyPost_ret (v := .agg #[.slice a1 l1 c1, .slice a2 l2 c2]) (by simp [results, Tryz.results121, go_sem, d0, d1]) rfl hfin)

end Go.Proofs.YtokcinhopajniaaGreatDoor
