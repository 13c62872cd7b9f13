/-
  Contract: the draw of a valid arena (l1Draw).
-/
import Derived.Test.YtokcinhopajniaaGreatDoorDraw1
import Derived.Deep.RegionHeld3
import Derived.Deep.AppendLies
namespace Go.Proofs.YtokcinhopajniaaGreatDoor
open Go.RowKit

theorem Box2.two_only (wr : World) (r : Nat) (x y : Value) : Only (fun b => b = r) wr ((wr.setCell ⟨r, 0, none⟩ x).setCell ⟨r, 1, none⟩ y) := (Box2.set0_only _).trans (Box2.set1_only _)

set_option maxHeartbeats 8000000 in
set_option maxRecDepth 100000 in
theorem l1Draw_is {w : World} {B p : Nat} {ab : Option Addr} {cb : Nat} {bs : List Int} {i : Nat} {h : Int} (d : Dr w B p ab cb bs i h) :
    Calls Tryz.prog 154 #[.pointer (some ⟨p, 0, none⟩)] w (RollsSmall w B p ab cb bs) := by
  obtain ⟨i0, hi, hz0, hz1, hz2⟩ := info_parts info_rows
  obtain ⟨j0, hj, hj0, hj1, hj2⟩ := info_parts info_int
  have hp := d.lt
  have D0 := Lib.hid ((Dwn.start d).below (below1 w (.cells #[.slice none 0 0, .slice none 0 0] 30)))
  have R0 := Lib.hid (Box2.new w 30 (.slice none 0 0) (.slice none 0 0))
  clear d
  go_enter Tryz.func154, Tryz.ntmps154
  go_wp2_with fail
  obtain ⟨i1, h1, hd1⟩ := D0.out.cur
  refine (l1Below_is (hi := 7) hd1 (by omega) (by omega) (by omega)).mono ?_
  rintro e w1 ⟨x, i2, h2, rfl, hx0, hx1, hd, ho⟩
  have D1 := Lib.hid (D0.out.call hd ho)
  have R1 := Lib.hid (R0.out.only ho (by omega))
  have hs1 : w.heap.size + 1 ≤ w1.heap.size := by have := ho.size; simpa using this
  clear hd ho hd1 D0 R0
  obtain ⟨y, rfl⟩ := Int.eq_ofNat_of_zero_le hx0
  have hy7 : y ≤ 7 := by omega
  clear hx0 hx1
  have T2 := Lib.hid (Box2.new w1 30 (.slice none 0 0) (.slice none 0 0))
  have D2 := Lib.hid (D1.out.below (below1 w1 (.cells #[.slice none 0 0, .slice none 0 0] 30)))
  have R2 := Lib.hid (R1.out.alloc (.cells #[.slice none 0 0, .slice none 0 0] 30))
  have f0 := T2.out.frozen 0
  have f1 := T2.out.frozen 1
  have t0 := T2.out.cell0
  have t1 := T2.out.cell1
  clear D1 R1
  go_wp2
  obtain ⟨w2, hw2⟩ : ∃ y, y = w1.alloc (.cells #[.slice none 0 0, .slice none 0 0] 30) := ⟨_, rfl⟩
  rw [← hw2]
  have H3 : Hid (Half4 w.heap.size w2 w1.heap.size (.slice none 0 0) (.slice none 0 0) (fun _ => .slice none 0 0) [] []) := by
    rw [hw2]; exact ⟨by omega, T2.out, OwnInts.nil _ _ _, OwnRows.nil _ _ _, fun i hi => absurd hi (by simp)⟩
  have D3 : Hid (Dwn w w2 B p ab cb bs) := by rw [hw2]; exact D2.out
  have R3 : Hid (Box2 w2 w.heap.size 30 (.slice none 0 0) (.slice none 0 0)) := by rw [hw2]; exact R2.out
  clear hw2 T2 D2 R2 f0 f1 t0 t1
  go_loopw [5] (fun v wr => ∃ (k : Nat) (vo vn : Value) (V : Nat → Value) (O : List Int) (zss : List (List Int)), k ≤ y + 1 ∧ v = .int .i64 k ∧ O.length = k ∧ zss.length = k ∧ Hid (∀ j, j < zss.length → (row zss j).length ≤ 3) ∧ Hid (Half4 w.heap.size wr w1.heap.size vo vn V O zss) ∧ Hid (Dwn w wr B p ab cb bs) ∧ Hid (Box2 wr w.heap.size 30 (.slice none 0 0) (.slice none 0 0))) (fun v _ => y + 1 - (intOf v).toNat)
  case atStart => exact ⟨0, _, _, _, [], [], Nat.zero_le _, rfl, rfl, rfl, fun j hj => absurd hj (by simp), H3, D3, R3⟩
  case round =>
    clear H3 D3 R3
    obtain ⟨k, vo, vn, V, O, zss, hk, rfl, hOk, hzk, HL, HS, HD, HR⟩ := hrel
    obtain ⟨wq, hwq⟩ : ∃ x, x = wr := ⟨_, rfl⟩
    subst hwq
    have hwr : w.heap.size < wq.heap.size := HR.out.lt
    by_cases hlt : k < y + 1
    · have hi1 : (k : Int) < 1 + (y : Int) := by omega
      have U0 : Hid (OwnInts (wq.alloc (.cells #[] 2)) wq.heap.size (wq.alloc (.cells #[] 2)).heap.size (.slice (some ⟨wq.heap.size, 0, none⟩) 0 0) []) := OwnInts.mk' (World.ownsRow_made wq #[] 0 (Nat.le_refl _) (by unfold maxLen; omega) rfl) (by simp) (fun k hk => absurd hk (by simp))
      have D0 := Lib.hid (HD.out.below (below1 wq (.cells #[] 2)))
      have O0 : Hid (Only (fun b => b = p) wq (wq.alloc (.cells #[] 2))) := Only.of_below (below1 _ _)
      go_wp2_with fail
      obtain ⟨i1, h1, hd1⟩ := D0.out.cur
      refine (l1Below_is (hi := 2) hd1 (by omega) (by omega) (by omega)).mono ?_
      rintro e w3 ⟨x, i2, h2, rfl, hx0, hx1, hd, ho⟩
      have D1 := Lib.hid (D0.out.call hd ho)
      have O1 := Lib.hid (O0.out.trans ho)
      have U1 := Lib.hid (U0.out.only ho (fun g hg e => by have := (U0.out.own.lt g hg).1; omega)).retop
      clear hd ho hd1 D0 O0 U0
      obtain ⟨c, rfl⟩ := Int.eq_ofNat_of_zero_le hx0
      have hc2 : c ≤ 2 := by omega
      clear hx0 hx1
      go_wp2
      go_loopw [6, 7] (fun u kv wv => ∃ (j : Nat) (uu : Value) (zs : List Int), uu = u ∧ j ≤ 3 ∧ kv = .int .i64 j ∧ zs.length + j ≤ 3 ∧ Hid (OwnInts wv wq.heap.size wv.heap.size uu zs) ∧ Hid (Dwn w wv B p ab cb bs) ∧ Hid (Only (fun b => b = p) wq wv)) (fun _ kv _ => (intOf kv).toNat)
      case atStart => exact ⟨c + 1, _, [], rfl, by omega, by go_num, by simp; omega, U1, D1, O1⟩
      case round =>
        clear U1 D1 O1
        obtain ⟨j, uu, zs, hu0, hj3, rfl, hzj, HU, HDw, HO⟩ := hrel
        subst hu0
        have hszv := HO.out.size
        by_cases hjp : 0 < j
        · have hi2 : (0 : Int) < j := by omega
          go_wp2_with fail
          obtain ⟨i1, h1, hd1⟩ := HDw.out.cur
          refine (l1Below_is (hi := (y : Int)) hd1 (by omega) (by omega) (by omega)).mono ?_
          rintro e w4 ⟨z, i2, h2, rfl, hy0, hy1, hd, ho⟩
          have D1 := Lib.hid (HDw.out.call hd ho)
          have O1 := Lib.hid (HO.out.trans ho)
          have U1 := Lib.hid (HU.out.only ho (fun g hg e => by have := (HU.out.own.lt g hg).1; omega)).retop
          have hs4 := O1.out.size
          clear hd ho hd1
          have HI := Lib.hid (l1Into_is (x := z) U1.out hs4 (by omega) (by unfold Fits; omega))
          have hil := intoL_len zs z
          go_wp2_with fail
          refine HI.out.mono ?_
          rintro e w5 ⟨u5, rfl, hu5, hb5⟩
          have U2 := Lib.hid hu5
          have D2 := Lib.hid (D1.out.below hb5)
          have O2 := Lib.hid (O1.out.trans (Only.of_below hb5))
          clear hu5 hb5 U1 D1 O1 HI
          have hj1 : ((j : Nat) : Int) - 1 = ((j - 1 : Nat) : Int) := by omega
          go_wp2
          go_roundw
          case rel => exact ⟨j - 1, _, intoL zs z, rfl, by omega, by rw [← hj1], by omega, U2, D2, O2⟩
          case measure => simp [intOf]; omega
        · have hj0' : j = 0 := by omega
          subst hj0'
          have HH := Lib.hid (HS.out.only HO.out (fun b hb => by omega))
          have RR := Lib.hid (HR.out.only HO.out (by omega))
          obtain ⟨a1, c1, hvs, _, _⟩ := HH.out.ints.shape
          subst hvs
          obtain ⟨ua, uc, hus, _, _⟩ := HU.out.shape
          subst hus
          have HOWN : Hid (wr.ownsRow w.heap.size 2 1 (.slice a1 k c1) k (O.map (Value.int .i64))) := by rw [← hOk]; exact HH.out.ints.own
          have t0 : wr.cell? ⟨w1.heap.size, 0, none⟩ = some (.slice a1 k c1) := by rw [← hOk]; exact HH.out.str.cell0
          have htl := HH.out.str.lt
          have HCELL : Hid (∀ W', Half4 w.heap.size W' w1.heap.size (.slice a1 O.length c1) vn V O zss → W'.cell? ⟨w1.heap.size, 0, none⟩ = some (.slice a1 k c1)) := fun W' h => by
            have h0 := h.str.cell0
            rw [hOk] at h0
            exact h0
          have HUT : Hid (∀ g, (Value.slice ua zs.length uc).ownBlock = some g → g < wr.heap.size) := HU.out.top
          have HUB : Hid (∀ g, (Value.slice ua zs.length uc).ownBlock = some g → wq.heap.size ≤ g) := fun g hg => (HU.out.own.lt g hg).1
          have HVT : Hid (∀ g, (Value.slice a1 O.length c1).ownBlock = some g → g < wq.heap.size) := HS.out.ints.top
          have HRT : Hid (∀ i, i < zss.length → ∀ g, (V i).ownBlock = some g → g < wq.heap.size) := fun i hi => (HS.out.rows.rows i hi).top
          obtain ⟨i1, h1, hd1⟩ := HDw.out.cur
          have HDD := Lib.hid (hd1.below (Below.refl _ wr).drew)
          have hi2 : ¬ (0 : Int) < ((0 : Nat) : Int) := by omega
          clear hd1
          go_wp2
          go_region_law (first
            | (refine step_append_lies _ (by rfl) _ _ _ (by rfl) w.heap.size 2 j0 (.int .i64 0) 1 8 Tryz.underlying27 hj hj0 hj1 hj2 rfl (by decide) (.slice a1 k c1) k (O.map (Value.int .i64)) (by rfl) (HOWN2.out.alloc _) ⟨w2.heap.size, 0, none⟩ 1 1 [.int .i64 x] (by rfl) (by rfl) (World.news_of_block (cs := #[.int .i64 x]) (t := 2) (fr := (0, 0)) (heap_alloc_new w2 _)) (by simp [Value.oneCell']) (by omega) (by unfold maxLen; omega) (by omega) (by simp; omega) (w2.heap.size + 1) (by simp) ?_; intro gg cap w3 hown3 hgrow hat hlt3; have hbx := (HH2.out.str.alloc (.cells #[.int .i64 x] 2)).grown (HOWN2.out.alloc _) (by decide) hgrow; have q3 := hbx.cell0; have p3 := hbx.frozen 0)
            | (go_simp; go_at_call 76; refine (l1Below_is (hi := 1) HDD.out (by omega) (by omega) (by omega)).mono ?_; rintro e w2 ⟨x, i2, h2, rfl, hx0, hx1, hd, ho⟩; have HO2 : Hid (Only (fun b => b = p) wr w2) := (Only.of_below (Below.refl _ _).drew).trans ho; have HD2 := Lib.hid (HDw.out.call hd HO2.out); have HH2 := Lib.hid (HH.out.only HO2.out (fun b hb => by omega)); have HOWN2 := Lib.hid (ownsRow_only HOWN.out HO2.out (fun g hg e => by have := (HOWN.out.lt g hg).1; omega)); have t2 := HCELL.out _ HH2.out; have t2a := HCELL.out _ (HH2.out.keep (below1 w2 (.cells #[.int .i64 x] 2))); have hlt2 : wr.heap.size ≤ w2.heap.size := HO2.out.size; clear hd ho))
          all_goals (
            have hg1 : (w2.alloc (.cells #[.int .i64 x] 2)).grownBy w3 (Value.slice a1 O.length c1).ownBlock := by rw [hOk]; exact hgrow
            have hat1 : (Value.slice a1 O.length c1).ownBlock = some gg ∨ (w2.alloc (.cells #[.int .i64 x] 2)).heap.size ≤ gg := by rw [hOk]; exact hat.imp_right fun h => by simp; omega
            have hp4 := (HH2.out.keep (below1 w2 (.cells #[.int .i64 x] 2))).owner (cap := cap) (gg := gg) (x := x) (by omega) (by unfold Fits; omega) (by rw [hOk]; exact hown3) hg1 hat1
            rw [hOk] at hp4
            have hD4 := (HD2.out.below (below1 w2 (.cells #[.int .i64 x] 2))).new hp4.2
            have hu3 := ((HU.out.only HO2.out (fun g hg e => by have := (HU.out.own.lt g hg).1; omega)).below (below1 w2 (.cells #[.int .i64 x] 2))).only (Only.of_grown hg1) (fun g h1 h2 => by have := HVT.out g h2; have := HUB.out g h1; omega)
            have hu4 := hu3.only (Box2.set0_only (t := w1.heap.size) (.slice (some ⟨gg, 0, none⟩) (k + 1) cap)) (fun g h1 e => hbx.not_own hu3.own (by decide) (by rw [h1, e]))
            have hr4 := (((HR.out.only HO.out (by omega)).only HO2.out (by omega)).alloc (.cells #[.int .i64 x] 2)).grown (HOWN2.out.alloc _) (by decide) hgrow
            have hr5 := hr4.other (a := ⟨w1.heap.size, 0, none⟩) (by show w.heap.size ≠ w1.heap.size; omega) (.slice (some ⟨gg, 0, none⟩) (k + 1) cap)
            have hvu : ∀ g, (Value.slice ua zs.length uc).ownBlock = some g → (Value.slice (some (⟨gg, 0, none⟩ : Addr)) (k + 1) cap).ownBlock ≠ some g := fun g h1 h2 => by
              have h3 := HUB.out g h1
              have h4 := HUT.out g h1
              simp [Value.ownBlock] at h2
              subst h2
              rcases hat1 with h | h
              · have := HVT.out _ h; omega
              · simp at h; omega
            have hapu : ∀ i, i < zss.length → ∀ g, (Value.slice ua zs.length uc).ownBlock = some g → (V i).ownBlock ≠ some g := fun i hi g h1 h2 => by
              have h3 := HUB.out g h1
              have h4 := HRT.out i hi g h2
              omega
            obtain ⟨W4, hW4⟩ : ∃ W4, W4 = w3.setCell ⟨w1.heap.size, 0, none⟩ (.slice (some ⟨gg, 0, none⟩) (k + 1) cap) := ⟨_, rfl⟩
            rw [← hW4] at hp4 hD4 hu4 hr5 ⊢
            have H4 := Lib.hid hp4.1
            have D4 := Lib.hid hD4
            have U4 := Lib.hid hu4
            have R4 := Lib.hid hr5
            have HVU := Lib.hid hvu
            have HAPU := Lib.hid hapu
            have hbase : w.heap.size ≤ wq.heap.size := by omega
            have hs4 : w.heap.size < W4.heap.size := hr5.lt
            have HOWN4 : Hid (W4.ownsRow w.heap.size 27 1 vn k ((List.range k).map V)) := by rw [← hzk]; exact hp4.1.rows.own
            clear hW4 hp4 hD4 hu4 hu3 hr4 hr5 hvu hapu hg1 hat1 hown3 hgrow hat hbx q3 p3 t2 t2a t0
            have hvn : ∃ a2 c2, vn = .slice a2 k c2 := by obtain ⟨a, c, hv, _⟩ := H4.out.rows.shape; rw [hzk] at hv; exact ⟨a, c, hv⟩
            obtain ⟨a2, c2, hvn⟩ := hvn
            subst hvn
            have t41 := H4.out.str.cell1
            have t4f := H4.out.str.frozen 1
            have hone : ∀ u ∈ [Value.slice ua zs.length uc], u.oneCell' = true := by intro u hu; simp at hu; subst hu; rfl
            have HONE := Lib.hid hone
            clear hone
            go_wp2_with (at_builtin; refine wpList_append_lies _ rfl _ _ 28 rfl w.heap.size 27 i0 (.slice none 0 0) 1 24 Tryz.underlying28 hi hz0 hz1 hz2 rfl (by decide) _ _ _ rfl (HOWN4.out.alloc _) ⟨W4.heap.size, 0, none⟩ 1 1 [.slice ua zs.length uc] rfl rfl (cell_one_new _ _ _) HONE.out (Nat.le_refl _) (by unfold maxLen; omega) (by omega) (by simp; omega) (W4.heap.size + 1) (by simp) ?_; intro g8 cap8 w8 hown8 hgrow8 hat8 hlt8; have hbx8 := (H4.out.str.alloc (.cells #[.slice ua zs.length uc] 27)).grown (HOWN4.out.alloc _) (by decide) hgrow8; have q8 := hbx8.cell1; have p8 := hbx8.frozen 1)
            have h9 := (H4.out.keep (below1 W4 (.cells #[.slice ua zs.length uc] 27))).push (zs := zs) (cap := cap8) (gg := g8) (by omega) (U4.out.below (below1 _ _)) hbase HAPU.out HVU.out (by rw [hzk]; exact hown8) hgrow8
            have d9 := (D4.out.below (below1 W4 (.cells #[.slice ua zs.length uc] 27))).new h9.2
            have r9 := ((R4.out.alloc (.cells #[.slice ua zs.length uc] 27)).grown (HOWN4.out.alloc _) (by decide) hgrow8).other (a := ⟨w1.heap.size, 1, none⟩) (by show w.heap.size ≠ w1.heap.size; omega) (.slice (some ⟨g8, 0, none⟩) (k + 1) cap8)
            rw [hzk] at h9 d9
            have H9 := Lib.hid h9.1
            have D9 := Lib.hid d9
            have R9 := Lib.hid r9
            have HL9 : Hid (∀ j, j < (zss ++ [zs]).length → (row (zss ++ [zs]) j).length ≤ 3) := fun j hj => by
              by_cases e : j < zss.length
              · rw [row_snoc_old e]; exact HL.out j e
              · have : j = zss.length := by simp at hj; omega
                subst this
                rw [row_snoc]; omega
            clear h9 d9 r9 hown8 hgrow8 hat8 hbx8
            go_wp2
            go_roundw
            case rel => exact ⟨k + 1, _, _, _, O ++ [x], zss ++ [zs], by omega, by go_num, by simp; omega, by simp; omega, HL9, H9, D9, R9⟩
            case measure => simp [intOf]; omega)
    · have hkk : k = y + 1 := by omega
      have hi1 : ¬ (k : Int) < 1 + (y : Int) := by omega
      have t0 := HS.out.str.cell0
      have t1 := HS.out.str.cell1
      have d0 := HR.out.cell0
      have d1 := HR.out.cell1
      have g0 := HR.out.frozen 0
      have g1 := HR.out.frozen 1
      have hvo : ∃ a1 c1, vo = .slice a1 (y + 1) c1 := by obtain ⟨a, c, hv, _⟩ := HS.out.ints.shape; rw [hOk, hkk] at hv; exact ⟨a, c, hv⟩
      obtain ⟨a1, c1, hvo⟩ := hvo
      subst hvo
      have hvn : ∃ a2 c2, vn = .slice a2 (y + 1) c2 := by obtain ⟨a, c, hv, _⟩ := HS.out.rows.shape; rw [hzk, hkk] at hv; exact ⟨a, c, hv⟩
      obtain ⟨a2, c2, hvn⟩ := hvn
      subst hvn
      go_wp2
      have hfin : RollsSmall w B p ab cb bs (.returned (.agg #[.slice a1 (y + 1) c1, .slice a2 (y + 1) c2])) ((wq.setCell ⟨w.heap.size, 0, none⟩ (.slice a1 (y + 1) c1)).setCell ⟨w.heap.size, 1, none⟩ (.slice a2 (y + 1) c2)) :=
        ⟨_, O, zss, rfl, HS.out.give HR.out, by omega, by omega, by omega, HL.out, HD.out.new ((Box2.two_only _ _ _ _).mono fun b hb => by omega)⟩
      exact bodyPost_ret (v := .agg #[.slice a1 (y + 1) c1, .slice a2 (y + 1) c2]) (by simp [results, Tryz.results154, go_sem, d0, d1]) rfl hfin

end Go.Proofs.YtokcinhopajniaaGreatDoor
