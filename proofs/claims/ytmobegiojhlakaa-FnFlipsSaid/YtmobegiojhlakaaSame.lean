/-
  Contracts: two slices alike (the model's l1Same, slices.Equal, slices.EqualFunc over it), SameArena and its model.
-/
import Derived.Test.YtmobegiojhlakaaSpecArena
namespace Go.Proofs.Ytmobegiojhlakaa
open Go.RowKit

set_option maxHeartbeats 1000000 in
theorem l1Same_is {a c : Option Addr} {zs ys : List Int} {r : Bool} (hr : decide (zs = ys) = r) (w : World) (ca cc : Nat) (ha : IntsAt w a zs) (hc : IntsAt w c ys) :
    Calls Try.prog 73 #[.slice a zs.length ca, .slice c ys.length cc] w fun e w' => e = .returned (.bool r) ∧ ∃ q, w' = w.drewN q := by
  have hlen := ha.len
  have hlen2 := hc.len
  have HA := Lib.hid ha
  have HC := Lib.hid hc
  have HR := Lib.hid hr
  clear ha hc hr
  by_cases hl : zs.length = ys.length
  · have hne : ((zs.length : Int) != (ys.length : Int)) = false := by simp [hl]
    have h1 : zs.length ≤ ys.length := by omega
    have h2 : ys.length ≤ zs.length := by omega
    have HL := Lib.hid hl
    clear hl
    go_enter Try.func73, Try.ntmps73
    go_wp2
    go_loopw [5] (fun i wr => ∃ k : Nat, k ≤ zs.length ∧ i = .int .i64 k ∧ Hid (∃ q, wr = w.drewN q) ∧ Hid (∀ j, j < k → nth zs j = nth ys j)) (fun i _ => zs.length - (intOf i).toNat)
    case atStart => exact ⟨0, Nat.zero_le _, rfl, ⟨0, rfl⟩, fun j hj => absurd hj (Nat.not_lt_zero _)⟩
    case round =>
      obtain ⟨k, hk, rfl, HW, HJ⟩ := hrel
      by_cases hlt : k < zs.length
      · obtain ⟨b, off, e1, g1⟩ := (HA.out.same HW.out).cell (by omega)
        obtain ⟨b2, off2, e2, g2⟩ := (HC.out.same HW.out).cell (by omega)
        subst e1
        subst e2
        have hck := g1 k hlt
        have hck2 := g2 k (by omega)
        clear g1 g2
        have hi1 : (k : Int) < zs.length := by omega
        have hi2 : (k : Int) < ys.length := by omega
        by_cases he : nth zs k = nth ys k
        · have hn : (nth zs k != nth ys k) = false := by simp [he]
          have HJ' : Hid (∀ j, j < k + 1 → nth zs j = nth ys j) := fun j hj => by
            by_cases hj' : j < k
            · exact HJ.out j hj'
            · obtain rfl : j = k := by omega
              exact he
          clear he
          go_wp2
          go_quiet (fail)
          go_wp2
          go_roundw
          case rel => exact ⟨k + 1, by omega, by go_num, drewn HW.out, HJ'⟩
          case measure => simp [intOf]; omega
        · have hn : (nth zs k != nth ys k) = true := by simp [he]
          have HE : Hid (r = false) := by
            rw [← HR.out]; exact decide_eq_false fun h => he (by rw [h])
          clear he
          go_wp2
          go_quiet (fail)
          go_wp2
          go_ret
          exact ⟨ret_bool HE.out.symm, drewn HW.out⟩
      · have HE : Hid (r = true) := by
          rw [← HR.out]
          refine decide_eq_true (List.ext_getElem HL.out fun i h1 h2 => ?_)
          have := HJ.out i (by omega)
          rwa [nth_eq h1, nth_eq h2] at this
        go_wp2
        go_ret
        exact ⟨ret_bool HE.out.symm, HW.out⟩
  · have hne : ((zs.length : Int) != (ys.length : Int)) = true := by simp; omega
    have HE : Hid (r = false) := by
      rw [← HR.out]; exact decide_eq_false fun h => hl (by rw [h])
    clear hl
    go_enter Try.func73, Try.ntmps73
    go_wp2
    go_ret
    exact ⟨ret_bool HE.out.symm, 0, rfl⟩

set_option maxHeartbeats 1000000 in
theorem Equal_is {a c : Option Addr} {zs ys : List Int} {r : Bool} (hr : decide (zs = ys) = r) (w : World) (ca cc : Nat) (ha : IntsAt w a zs) (hc : IntsAt w c ys) :
    Calls Try.prog 60 #[.slice a zs.length ca, .slice c ys.length cc] w fun e w' => e = .returned (.bool r) ∧ ∃ q, w' = w.drewN q := by
  have hlen := ha.len
  have hlen2 := hc.len
  have HA := Lib.hid ha
  have HC := Lib.hid hc
  have HR := Lib.hid hr
  clear ha hc hr
  by_cases hl : zs.length = ys.length
  · have hne : ((zs.length : Int) != (ys.length : Int)) = false := by simp [hl]
    have h1 : zs.length ≤ ys.length := by omega
    have h2 : ys.length ≤ zs.length := by omega
    have HL := Lib.hid hl
    clear hl
    go_enter Try.func60, Try.ntmps60
    go_wp2
    go_loopw [13] (fun i wr => ∃ k : Nat, k ≤ zs.length ∧ i = .int .i64 k ∧ Hid (∃ q, wr = w.drewN q) ∧ Hid (∀ j, j < k → nth zs j = nth ys j)) (fun i _ => zs.length - (intOf i).toNat)
    case atStart => exact ⟨0, Nat.zero_le _, rfl, ⟨0, rfl⟩, fun j hj => absurd hj (Nat.not_lt_zero _)⟩
    case round =>
      obtain ⟨k, hk, rfl, HW, HJ⟩ := hrel
      by_cases hlt : k < zs.length
      · obtain ⟨b, off, e1, g1⟩ := (HA.out.same HW.out).cell (by omega)
        obtain ⟨b2, off2, e2, g2⟩ := (HC.out.same HW.out).cell (by omega)
        subst e1
        subst e2
        have hck := g1 k hlt
        have hck2 := g2 k (by omega)
        clear g1 g2
        have hi1 : (k : Int) < zs.length := by omega
        have hi2 : (k : Int) < ys.length := by omega
        by_cases he : nth zs k = nth ys k
        · have hn : (nth zs k != nth ys k) = false := by simp [he]
          have HJ' : Hid (∀ j, j < k + 1 → nth zs j = nth ys j) := fun j hj => by
            by_cases hj' : j < k
            · exact HJ.out j hj'
            · obtain rfl : j = k := by omega
              exact he
          clear he
          go_wp2
          go_quiet (fail)
          go_wp2
          go_roundw
          case rel => exact ⟨k + 1, by omega, by go_num, drewn HW.out, HJ'⟩
          case measure => simp [intOf]; omega
        · have hn : (nth zs k != nth ys k) = true := by simp [he]
          have HE : Hid (r = false) := by
            rw [← HR.out]; exact decide_eq_false fun h => he (by rw [h])
          clear he
          go_wp2
          go_quiet (fail)
          go_wp2
          go_ret
          exact ⟨ret_bool HE.out.symm, drewn HW.out⟩
      · have HE : Hid (r = true) := by
          rw [← HR.out]
          refine decide_eq_true (List.ext_getElem HL.out fun i h1 h2 => ?_)
          have := HJ.out i (by omega)
          rwa [nth_eq h1, nth_eq h2] at this
        go_wp2
        go_ret
        exact ⟨ret_bool HE.out.symm, HW.out⟩
  · have hne : ((zs.length : Int) != (ys.length : Int)) = true := by simp; omega
    have HE : Hid (r = false) := by
      rw [← HR.out]; exact decide_eq_false fun h => hl (by rw [h])
    clear hl
    go_enter Try.func60, Try.ntmps60
    go_wp2
    go_ret
    exact ⟨ret_bool HE.out.symm, 0, rfl⟩

theorem rows_ext {xs ys : List (List Int)} (hl : xs.length = ys.length) (h : ∀ i, i < xs.length → row xs i = row ys i) : xs = ys := by
  apply List.ext_getElem hl
  intro i h1 h2
  have := h i h1
  rwa [row_eq h1, row_eq h2] at this

set_option maxHeartbeats 1000000 in
theorem EqualFunc_is {a c : Option Addr} {A A' : Nat → Option Addr} {C C' : Nat → Nat} {zss yss : List (List Int)} {r : Bool} (hr : decide (zss = yss) = r) (w : World) (ca cc : Nat) (ha : RowsAt w a A C zss) (hc : RowsAt w c A' C' yss) :
    Calls Try.prog 61 #[.slice a zss.length ca, .slice c yss.length cc, .func (.func 60) #[] #[]] w fun e w' => e = .returned (.bool r) ∧ ∃ q, w' = w.drewN q := by
  have hlen := ha.len
  have hlen2 := hc.len
  have HA := Lib.hid ha
  have HC := Lib.hid hc
  have HR := Lib.hid hr
  clear ha hc hr
  by_cases hl : zss.length = yss.length
  · have hne : ((zss.length : Int) != (yss.length : Int)) = false := by simp [hl]
    have h1 : zss.length ≤ yss.length := by omega
    have h2 : yss.length ≤ zss.length := by omega
    have HL := Lib.hid hl
    clear hl
    go_enter Try.func61, Try.ntmps61
    go_wp2
    go_loopw [17] (fun i wr => ∃ k : Nat, k ≤ zss.length ∧ i = .int .i64 k ∧ Hid (∃ q, wr = w.drewN q) ∧ Hid (∀ j, j < k → row zss j = row yss j)) (fun i _ => zss.length - (intOf i).toNat)
    case atStart => exact ⟨0, Nat.zero_le _, rfl, ⟨0, rfl⟩, fun j hj => absurd hj (Nat.not_lt_zero _)⟩
    case round =>
      obtain ⟨k, hk, rfl, HW, HJ⟩ := hrel
      by_cases hlt : k < zss.length
      · have hlt2 : k < yss.length := by omega
        have hA' := Lib.hid (HA.out.same HW.out)
        have hC' := Lib.hid (HC.out.same HW.out)
        obtain ⟨b, off, e1, g1⟩ := hA'.out.cell (by omega)
        obtain ⟨b2, off2, e2, g2⟩ := hC'.out.cell (by omega)
        subst e1
        subst e2
        have hck := g1 k hlt
        have hck2 := g2 k hlt2
        clear g1 g2
        by_cases he : row zss k = row yss k
        · have HE := Lib.hid (Equal_is (decide_eq_true he) wr (C k) (C' k) (hA'.out.rows k hlt) (hC'.out.rows k hlt2))
          have HJ' : Hid (∀ j, j < k + 1 → row zss j = row yss j) := fun j hj => by
            by_cases hj' : j < k
            · exact HJ.out j hj'
            · obtain rfl : j = k := by omega
              exact he
          clear he
          go_wp2_with (go_at_call 60; refine HE.out.mono ?_; rintro e w' ⟨rfl, HX⟩; have HX' := Lib.hid (same_trans HW.out HX); clear HX)
          go_roundw
          case rel => exact ⟨k + 1, by omega, by go_num, HX'.out, HJ'⟩
          case measure => simp [intOf]; omega
        · have HE := Lib.hid (Equal_is (decide_eq_false he) wr (C k) (C' k) (hA'.out.rows k hlt) (hC'.out.rows k hlt2))
          have HF : Hid (r = false) := by
            rw [← HR.out]; exact decide_eq_false fun h => he (by rw [h])
          clear he
          go_wp2_with (go_at_call 60; refine HE.out.mono ?_; rintro e w' ⟨rfl, HX⟩; have HX' := Lib.hid (same_trans HW.out HX); clear HX)
          go_ret
          exact ⟨ret_bool HF.out.symm, HX'.out⟩
      · have HE : Hid (r = true) := by
          rw [← HR.out]
          exact decide_eq_true (rows_ext HL.out fun i hi => HJ.out i (by omega))
        go_wp2
        go_ret
        exact ⟨ret_bool HE.out.symm, HW.out⟩
  · have hne : ((zss.length : Int) != (yss.length : Int)) = true := by simp; omega
    have HE : Hid (r = false) := by
      rw [← HR.out]; exact decide_eq_false fun h => hl (by rw [h])
    clear hl
    go_enter Try.func61, Try.ntmps61
    go_wp2
    go_ret
    exact ⟨ret_bool HE.out.symm, 0, rfl⟩

open Classical in
/-- The value of SameArena. -/
noncomputable def sameB (O : List Int) (zss : List (List Int)) (O' : List Int) (zss' : List (List Int)) : Bool := decide (ArenaP O zss ∧ ArenaP O' zss' ∧ O = O' ∧ zss = zss')

theorem sameB_no {O : List Int} {zss : List (List Int)} {O' : List Int} {zss' : List (List Int)} (h : ¬ (ArenaP O zss ∧ ArenaP O' zss' ∧ O = O' ∧ zss = zss')) : sameB O zss O' zss' = false := by simp [sameB]; simpa using h
theorem sameB_yes {O : List Int} {zss : List (List Int)} {O' : List Int} {zss' : List (List Int)} (h : ArenaP O zss ∧ ArenaP O' zss' ∧ O = O' ∧ zss = zss') : sameB O zss O' zss' = true := by simp only [sameB, decide_eq_true_eq]; exact h

set_option maxHeartbeats 2000000 in
theorem SameArena_is {w : World} {va va' : Value} {O O' : List Int} {zss zss' : List (List Int)} {r : Bool} (hr : sameB O zss O' zss' = r) (h : ArenaAt w va O zss) (h' : ArenaAt w va' O' zss') :
    Calls Try.prog 19 #[va, va'] w fun e w' => e = .returned (.bool r) ∧ Below w.heap.size w w' := by
  have HA := Lib.hid h
  have HA' := Lib.hid h'
  have HR := Lib.hid hr
  obtain ⟨ao, an, co, cn, A, C, rfl, h1, h2⟩ := h
  obtain ⟨bo, bn, do', dn, A', C', rfl, h1', h2'⟩ := h'
  have HO := Lib.hid h1
  have HN := Lib.hid h2
  have HO' := Lib.hid h1'
  have HN' := Lib.hid h2'
  clear h1 h2 h1' h2' hr
  obtain ⟨W, hW⟩ : ∃ W, W = (w.alloc (.cells #[.slice ao O.length co, .slice an zss.length cn] 30)).alloc (.cells #[.slice bo O'.length do', .slice bn zss'.length dn] 30) := ⟨_, rfl⟩
  have HW := Lib.hid hW
  have BW : Hid (Below w.heap.size w W) := by rw [hW]; exact below2 _ _ _
  have b0W : Hid (Box2 W w.heap.size 30 (.slice ao O.length co) (.slice an zss.length cn)) := by rw [hW]; exact (Box2.new w _ _ _).alloc _
  have b1W : Hid (Box2 W (w.heap.size + 1) 30 (.slice bo O'.length do') (.slice bn zss'.length dn)) := by rw [hW]; exact Box2.new_at (by simp) _ _ _
  clear hW
  cases hA : arenaB O zss with
  | false =>
    have HE : Hid (r = false) := by rw [← HR.out]; exact sameB_no fun hh => by rw [arenaB_yes hh.1] at hA; cases hA
    have HC := Lib.hid (ArenaOk_at hA (HA.out.below BW.out))
    clear hA
    go_enter Try.func19, Try.ntmps19
    go_wp2_with fail
    rw [← HW.out]
    refine HC.out.mono ?_
    rintro e w1 ⟨rfl, hb⟩
    have B1 := Lib.hid (BW.out.trans (hb.mono BW.out.size))
    clear hb
    go_wp2
    go_ret
    exact ⟨ret_bool HE.out.symm, B1.out⟩
  | true =>
    have HP := Lib.hid (arenaB_iff.1 hA)
    have HC := Lib.hid (ArenaOk_at hA (HA.out.below BW.out))
    clear hA
    cases hA' : arenaB O' zss' with
    | false =>
      have HE : Hid (r = false) := by rw [← HR.out]; exact sameB_no fun hh => by rw [arenaB_yes hh.2.1] at hA'; cases hA'
      have HI := Lib.hid hA'
      clear hA'
      go_enter Try.func19, Try.ntmps19
      go_wp2_with fail
      rw [← HW.out]
      refine HC.out.mono ?_
      rintro e w1 ⟨rfl, hb⟩
      have B1 := Lib.hid (BW.out.trans (hb.mono BW.out.size))
      have b1 := b1W.out.below hb
      have c0 := b1.cell0
      have c1 := b1.cell1
      clear hb b1
      go_wp2_with fail
      refine (ArenaOk_at HI.out (HA'.out.below B1.out)).mono ?_
      rintro e w2 ⟨rfl, hb⟩
      have B2 := Lib.hid (B1.out.trans (hb.mono B1.out.size))
      clear hb
      go_wp2
      go_ret
      exact ⟨ret_bool HE.out.symm, B2.out⟩
    | true =>
      have HP' := Lib.hid (arenaB_iff.1 hA')
      have HI := Lib.hid hA'
      clear hA'
      cases hd : decide (O = O') with
      | false =>
        have HE : Hid (r = false) := by rw [← HR.out]; exact sameB_no fun hh => by rw [decide_eq_true hh.2.2.1] at hd; cases hd
        have HD := Lib.hid hd
        clear hd
        go_enter Try.func19, Try.ntmps19
        go_wp2_with fail
        rw [← HW.out]
        refine HC.out.mono ?_
        rintro e w1 ⟨rfl, hb⟩
        have B1 := Lib.hid (BW.out.trans (hb.mono BW.out.size))
        have b1 := Lib.hid (b1W.out.below hb)
        have b0 := Lib.hid (b0W.out.below hb)
        have c0 := b1.out.cell0
        have c1 := b1.out.cell1
        clear hb
        go_wp2_with fail
        refine (ArenaOk_at HI.out (HA'.out.below B1.out)).mono ?_
        rintro e w2 ⟨rfl, hb⟩
        have B2 := Lib.hid (B1.out.trans (hb.mono B1.out.size))
        have d0 := (b0.out.below hb).cell0
        have d1 := (b1.out.below hb).cell0
        clear hb c0 c1
        go_wp2_with fail
        refine (Equal_is HD.out w2 co do' (HO.out.below B2.out) (HO'.out.below B2.out)).mono ?_
        rintro e w3 ⟨rfl, hq⟩
        have B3 := Lib.hid (below_same B2.out hq)
        clear hq
        go_wp2
        go_ret
        exact ⟨ret_bool HE.out.symm, B3.out⟩
      | true =>
        have HD := Lib.hid hd
        have hoo : O = O' := of_decide_eq_true hd
        have HE : Hid (decide (zss = zss') = r) := by
          rw [← HR.out]
          by_cases hz : zss = zss'
          · rw [sameB_yes ⟨HP.out, HP'.out, hoo, hz⟩]; exact decide_eq_true hz
          · rw [sameB_no fun hh => hz hh.2.2.2]; exact decide_eq_false hz
        clear hd hoo
        go_enter Try.func19, Try.ntmps19
        go_wp2_with fail
        rw [← HW.out]
        refine HC.out.mono ?_
        rintro e w1 ⟨rfl, hb⟩
        have B1 := Lib.hid (BW.out.trans (hb.mono BW.out.size))
        have b1 := Lib.hid (b1W.out.below hb)
        have b0 := Lib.hid (b0W.out.below hb)
        have c0 := b1.out.cell0
        have c1 := b1.out.cell1
        clear hb
        go_wp2_with fail
        refine (ArenaOk_at HI.out (HA'.out.below B1.out)).mono ?_
        rintro e w2 ⟨rfl, hb⟩
        have B2 := Lib.hid (B1.out.trans (hb.mono B1.out.size))
        have b0' := Lib.hid (b0.out.below hb)
        have b1' := Lib.hid (b1.out.below hb)
        clear hb c0 c1
        have d0 := b0'.out.cell0
        have d1 := b1'.out.cell0
        go_wp2_with fail
        refine (Equal_is HD.out w2 co do' (HO.out.below B2.out) (HO'.out.below B2.out)).mono ?_
        rintro e w3 ⟨rfl, hq⟩
        have B3 := Lib.hid (below_same B2.out hq)
        have e0 := (b0'.out.below (below_same (Below.refl _ _) hq)).cell1
        have e1 := (b1'.out.below (below_same (Below.refl _ _) hq)).cell1
        clear hq d0 d1
        go_wp2_with fail
        refine (EqualFunc_is HE.out w3 cn dn (HN.out.below B3.out) (HN'.out.below B3.out)).mono ?_
        rintro e w4 ⟨rfl, hq⟩
        have B4 := Lib.hid (below_same B3.out hq)
        clear hq
        go_wp2
        go_ret
        exact ⟨rfl, B4.out⟩

set_option maxHeartbeats 2000000 in
theorem specSameArena_is {w : World} {va va' : Value} {O O' : List Int} {zss zss' : List (List Int)} {r : Bool} (hr : sameB O zss O' zss' = r) (h : ArenaAt w va O zss) (h' : ArenaAt w va' O' zss') :
    Calls Try.prog 72 #[va, va'] w fun e w' => e = .returned (.bool r) ∧ Below w.heap.size w w' := by
  have HA := Lib.hid h
  have HA' := Lib.hid h'
  have HR := Lib.hid hr
  obtain ⟨ao, an, co, cn, A, C, rfl, h1, h2⟩ := h
  obtain ⟨bo, bn, do', dn, A', C', rfl, h1', h2'⟩ := h'
  have HO := Lib.hid h1
  have HN := Lib.hid h2
  have HO' := Lib.hid h1'
  have HN' := Lib.hid h2'
  clear h1 h2 h1' h2' hr
  obtain ⟨W, hW⟩ : ∃ W, W = (w.alloc (.cells #[.slice ao O.length co, .slice an zss.length cn] 30)).alloc (.cells #[.slice bo O'.length do', .slice bn zss'.length dn] 30) := ⟨_, rfl⟩
  have HW := Lib.hid hW
  have BW : Hid (Below w.heap.size w W) := by rw [hW]; exact below2 _ _ _
  have b0W : Hid (Box2 W w.heap.size 30 (.slice ao O.length co) (.slice an zss.length cn)) := by rw [hW]; exact (Box2.new w _ _ _).alloc _
  have b1W : Hid (Box2 W (w.heap.size + 1) 30 (.slice bo O'.length do') (.slice bn zss'.length dn)) := by rw [hW]; exact Box2.new_at (by simp) _ _ _
  clear hW
  cases hA : arenaB O zss with
  | false =>
    have HE : Hid (r = false) := by rw [← HR.out]; exact sameB_no fun hh => by rw [arenaB_yes hh.1] at hA; cases hA
    have HC := Lib.hid (specArenaOk_at hA (HA.out.below BW.out))
    clear hA
    go_enter Try.func72, Try.ntmps72
    go_wp2_with fail
    rw [← HW.out]
    refine HC.out.mono ?_
    rintro e w1 ⟨rfl, hb⟩
    have B1 := Lib.hid (BW.out.trans (hb.mono BW.out.size))
    clear hb
    go_wp2
    go_ret
    exact ⟨ret_bool HE.out.symm, B1.out⟩
  | true =>
    have HP := Lib.hid (arenaB_iff.1 hA)
    have HC := Lib.hid (specArenaOk_at hA (HA.out.below BW.out))
    clear hA
    cases hA' : arenaB O' zss' with
    | false =>
      have HE : Hid (r = false) := by rw [← HR.out]; exact sameB_no fun hh => by rw [arenaB_yes hh.2.1] at hA'; cases hA'
      have HI := Lib.hid hA'
      clear hA'
      go_enter Try.func72, Try.ntmps72
      go_wp2_with fail
      rw [← HW.out]
      refine HC.out.mono ?_
      rintro e w1 ⟨rfl, hb⟩
      have B1 := Lib.hid (BW.out.trans (hb.mono BW.out.size))
      have b1 := b1W.out.below hb
      have c0 := b1.cell0
      have c1 := b1.cell1
      clear hb b1
      go_wp2_with fail
      refine (specArenaOk_at HI.out (HA'.out.below B1.out)).mono ?_
      rintro e w2 ⟨rfl, hb⟩
      have B2 := Lib.hid (B1.out.trans (hb.mono B1.out.size))
      clear hb
      go_wp2
      go_ret
      exact ⟨ret_bool HE.out.symm, B2.out⟩
    | true =>
      have HP' := Lib.hid (arenaB_iff.1 hA')
      have HI := Lib.hid hA'
      clear hA'
      cases hd : decide (O = O') with
      | false =>
        have HE : Hid (r = false) := by rw [← HR.out]; exact sameB_no fun hh => by rw [decide_eq_true hh.2.2.1] at hd; cases hd
        have HD := Lib.hid hd
        clear hd
        go_enter Try.func72, Try.ntmps72
        go_wp2_with fail
        rw [← HW.out]
        refine HC.out.mono ?_
        rintro e w1 ⟨rfl, hb⟩
        have B1 := Lib.hid (BW.out.trans (hb.mono BW.out.size))
        have b1 := Lib.hid (b1W.out.below hb)
        have b0 := Lib.hid (b0W.out.below hb)
        have c0 := b1.out.cell0
        have c1 := b1.out.cell1
        clear hb
        go_wp2_with fail
        refine (specArenaOk_at HI.out (HA'.out.below B1.out)).mono ?_
        rintro e w2 ⟨rfl, hb⟩
        have B2 := Lib.hid (B1.out.trans (hb.mono B1.out.size))
        have d0 := (b0.out.below hb).cell0
        have d1 := (b1.out.below hb).cell0
        clear hb c0 c1
        go_wp2_with fail
        refine (l1Same_is HD.out w2 co do' (HO.out.below B2.out) (HO'.out.below B2.out)).mono ?_
        rintro e w3 ⟨rfl, hq⟩
        have B3 := Lib.hid (below_same B2.out hq)
        clear hq
        go_wp2
        go_ret
        exact ⟨ret_bool HE.out.symm, B3.out⟩
      | true =>
        have HD := Lib.hid hd
        have hoo : O = O' := of_decide_eq_true hd
        have HE : Hid (decide (zss = zss') = r) := by
          rw [← HR.out]
          by_cases hz : zss = zss'
          · rw [sameB_yes ⟨HP.out, HP'.out, hoo, hz⟩]; exact decide_eq_true hz
          · rw [sameB_no fun hh => hz hh.2.2.2]; exact decide_eq_false hz
        have HOO := Lib.hid hoo
        clear hd hoo
        go_enter Try.func72, Try.ntmps72
        go_wp2_with fail
        rw [← HW.out]
        refine HC.out.mono ?_
        rintro e w1 ⟨rfl, hb⟩
        have B1 := Lib.hid (BW.out.trans (hb.mono BW.out.size))
        have b1 := Lib.hid (b1W.out.below hb)
        have b0 := Lib.hid (b0W.out.below hb)
        have c0 := b1.out.cell0
        have c1 := b1.out.cell1
        clear hb
        go_wp2_with fail
        refine (specArenaOk_at HI.out (HA'.out.below B1.out)).mono ?_
        rintro e w2 ⟨rfl, hb⟩
        have B2 := Lib.hid (B1.out.trans (hb.mono B1.out.size))
        have b0' := Lib.hid (b0.out.below hb)
        have b1' := Lib.hid (b1.out.below hb)
        clear hb c0 c1
        have d0 := b0'.out.cell0
        have d1 := b1'.out.cell0
        go_wp2_with fail
        refine (l1Same_is HD.out w2 co do' (HO.out.below B2.out) (HO'.out.below B2.out)).mono ?_
        rintro e w3 ⟨rfl, hq⟩
        have B3 := Lib.hid (below_same B2.out hq)
        have e0 := (b0'.out.below (below_same (Below.refl _ _) hq)).cell1
        have e1 := (b1'.out.below (below_same (Below.refl _ _) hq)).cell1
        have HQ := Lib.hid hq
        clear hq d0 d1
        have hzl : zss.length = zss'.length := by
          have := HP.out.2.2.1; have := HP'.out.2.2.1; have := HOO.out; rw [‹zss.length = _›, ‹zss'.length = _›, this]
        have HZL := Lib.hid hzl
        have hz1 : zss.length ≤ zss'.length := by omega
        have hlz := HN.out.len
        have HX : Hid (∃ q, w3 = w3.drewN q) := ⟨0, rfl⟩
        clear hzl e0 e1
        have HB0 := Lib.hid (b0'.out.below (below_same (Below.refl _ _) HQ.out))
        have HB1 := Lib.hid (b1'.out.below (below_same (Below.refl _ _) HQ.out))
        go_wp2
        go_loopw [5] (fun i wr => ∃ k : Nat, k ≤ zss.length ∧ i = .int .i64 k ∧ Hid (∃ q, wr = w3.drewN q) ∧ Hid (∀ j, j < k → row zss j = row zss' j)) (fun i _ => zss.length - (intOf i).toNat)
        case atStart => exact ⟨0, Nat.zero_le _, rfl, ⟨0, rfl⟩, fun j hj => absurd hj (Nat.not_lt_zero _)⟩
        case round =>
          obtain ⟨k, hk, rfl, HW3, HJ⟩ := hrel
          have BB := Lib.hid (below_same B3.out HW3.out)
          have x0 := (HB0.out.below (below_same (Below.refl _ _) HW3.out)).cell1
          have x1 := (HB1.out.below (below_same (Below.refl _ _) HW3.out)).cell1
          by_cases hlt : k < zss.length
          · have hN' := Lib.hid (HN.out.below BB.out)
            have hN'' := Lib.hid (HN'.out.below BB.out)
            obtain ⟨b, off, q1, g1⟩ := hN'.out.cell (by omega)
            obtain ⟨b2, off2, q2, g2⟩ := hN''.out.cell (by omega)
            subst q1
            subst q2
            have hck := g1 k hlt
            have hck2 := g2 k (by omega)
            clear g1 g2
            have hi1 : (k : Int) < zss.length := by omega
            have hi2 : (k : Int) < zss'.length := by omega
            have HL : Hid (∀ r, decide (row zss k = row zss' k) = r → ∀ q, Calls Try.prog 73 #[.slice (A k) (row zss k).length (C k), .slice (A' k) (row zss' k).length (C' k)] (wr.drewN q) fun e w' => e = .returned (.bool r) ∧ ∃ m, w' = (wr.drewN q).drewN m) := fun r hr q =>
              l1Same_is hr (wr.drewN q) (C k) (C' k) ((hN'.out.rows k hlt).same ⟨q, rfl⟩) ((hN''.out.rows k (by omega)).same ⟨q, rfl⟩)
            by_cases he : row zss k = row zss' k
            · have HL' := Lib.hid (HL.out true (decide_eq_true he))
              have HJ' : Hid (∀ j, j < k + 1 → row zss j = row zss' j) := fun j hj => by
                by_cases hj' : j < k
                · exact HJ.out j hj'
                · obtain rfl : j = k := by omega
                  exact he
              clear he
              go_wp2
              go_quiet ((go_at_call 73; exact Calls.quiet_of (HL'.out _)))
              go_wp2
              go_roundw
              case rel => exact ⟨k + 1, by omega, by go_num, drewn HW3.out, HJ'⟩
              case measure => simp [intOf]; omega
            · have HL' := Lib.hid (HL.out false (decide_eq_false he))
              have HF : Hid (r = false) := by
                rw [← HE.out]; exact decide_eq_false fun h => he (by rw [h])
              clear he
              go_wp2
              go_quiet ((go_at_call 73; exact Calls.quiet_of (HL'.out _)))
              go_wp2
              go_ret
              exact ⟨ret_bool HF.out.symm, below_drewN BB.out _⟩
          · have HF : Hid (r = true) := by
              rw [← HE.out]
              exact decide_eq_true (rows_ext HZL.out fun i hi => HJ.out i (by omega))
            go_wp2
            go_ret
            exact ⟨ret_bool HF.out.symm, BB.out⟩

end Go.Proofs.Ytmobegiojhlakaa
