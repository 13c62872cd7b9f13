/-
  Several texts in one: WonApi, SureApi, LawSureIn.
-/
import Derived.Deep.RegionHeld3
import Derived.Test.YtphkgnpkcfbnkabDoorPk03
import Derived.Test.YtphkgnpkcfbnkabDoorPk05
import Derived.Test.YtphkgnpkcfbnkabDoorPk23
import Derived.Test.YtphkgnpkcfbnkabDoorPk24
import Derived.Test.YtphkgnpkcfbnkabDoorPk25
namespace Go.Proofs.YtphkgnpkcfbnkabDoor
section
open Go.RowKit Go.Shelf

theorem own_marked {W : World} {B C : Nat} {v : Value} {I : Nat → Bool} (hu : W.ownsRow C 2 1 v (markedK I 256).length ((markedK I 256).map (Value.int .i64))) (hB : B ≤ C) : OwnInts W B W.heap.size v (markedK I 256) :=
  ⟨ownsRow_base hu hB, fun g hg => (hu.lt g hg).2, by have := markedK_len I 256; omega, markedK_fits I 256 (by omega)⟩

end
end Go.Proofs.YtphkgnpkcfbnkabDoor
namespace Go.Proofs.YtphkgnpkcfbnkabDoor
section
open Go.RowKit Go.Shelf
attribute [local go_sem] Oper.semAt_some

set_option linter.unusedSimpArgs false in
set_option maxHeartbeats 16000000 in
set_option maxRecDepth 100000 in
theorem SureIn_is {w : World} {v : Value} {O P r : List Int} {zss : List (List Int)} {x : Int} (hr : sureL O zss P x = r) (h : GameAt w v O zss P) (hT : TabW w) :
    Calls Tryd.prog 30 #[v, .int .i64 x] w (GivesInts w r) := by
  have HT := Lib.hid hT
  clear hT
  have HGm := Lib.hid h
  obtain ⟨ao, an, ap, co, cn, cp, A, C, rfl, h1, h2, h3⟩ := h
  have hlO := h1.len
  have hlP := h3.len
  obtain ⟨w1, hw1⟩ : ∃ y, y = w.alloc (.cells #[.slice ao O.length co, .slice an zss.length cn, .slice ap P.length cp] 32) := ⟨_, rfl⟩
  have HW1 := Lib.hid hw1
  have B1 : Hid (Below w.heap.size w w1) := by rw [hw1]; exact below1 _ _
  have T1 : Hid (Box3 w1 w.heap.size 32 (.slice ao O.length co) (.slice an zss.length cn) (.slice ap P.length cp)) := by rw [hw1]; exact (Box3.new w _ _ _ _)
  have HAt : Hid (ArenaAt w (.agg #[.slice ao O.length co, .slice an zss.length cn]) O zss) := ⟨_, _, _, _, _, _, rfl, h1, h2⟩
  have HRo := Lib.hid h2
  clear hw1 h1 h2 h3
  cases hp : parityB O zss P with
  | false =>
    have HE := Lib.hid (sure_no hr (by rw [hp]; rfl))
    clear hr
    go_enter Tryd.func30, Tryd.ntmps30
    go_wp2_with fail
    rw [← HW1.out]
    refine (ParityOk_is hp (HGm.out.below B1.out)).mono ?_
    rintro e w2 ⟨rfl, hb⟩
    have B2 := Lib.hid (B1.out.trans (hb.mono B1.out.size))
    have T2 := Lib.hid (T1.out.below hb)
    have t0 := T2.out.c0
    have t1 := T2.out.c1
    have t2 := T2.out.c2
    clear hb
    go_wp2
    go_ret
    rw [HE.out]
    exact ⟨_, rfl, OwnInts.nil _ _ _, B2.out⟩
  | true =>
    have hpy := parityB_iff.1 hp
    have HZ : Hid (zss.length = O.length) := hpy.1.2.2.1
    have hzz1 : zss.length ≤ O.length := by rw [HZ.out]; exact Nat.le_refl _
    have hzz2 : O.length ≤ zss.length := by rw [HZ.out]; exact Nat.le_refl _
    have hn : O.length ≤ 256 := hpy.1.2.1
    cases hx : thereB O.length x with
    | false =>
      have HE := Lib.hid (sure_no hr (by rw [hp, hx]; rfl))
      clear hr hpy
      go_enter Tryd.func30, Tryd.ntmps30
      go_wp2_with fail
      rw [← HW1.out]
      refine (ParityOk_is hp (HGm.out.below B1.out)).mono ?_
      rintro e w2 ⟨rfl, hb⟩
      have B2 := Lib.hid (B1.out.trans (hb.mono B1.out.size))
      have T2 := Lib.hid (T1.out.below hb)
      have t0 := T2.out.c0
      have t1 := T2.out.c1
      have t2 := T2.out.c2
      clear hb
      go_wp2_with fail
      refine (hasVertex_is hx (HAt.out.below B2.out)).mono ?_
      rintro e w3 ⟨rfl, hb⟩
      have B3 := Lib.hid (B2.out.trans (hb.mono B2.out.size))
      clear hb t0 t1 t2
      go_wp2
      go_ret
      rw [HE.out]
      exact ⟨_, rfl, OwnInts.nil _ _ _, B3.out⟩
    | true =>
      have HE := Lib.hid (sure_yes hr (by rw [hp, hx]; rfl))
      have hk : 0 ≤ x ∧ x < O.length := by unfold thereB at hx; simpa using hx
      obtain ⟨k, rfl⟩ : ∃ k : Nat, x = (k : Int) := ⟨x.toNat, by omega⟩
      have hkn : k < O.length := by omega
      have hk0 : (0 : Int) ≤ (k : Int) := by omega
      have hk1 : (k : Int) < (zss.length : Int) := by omega
      have HRB : Hid (∀ y ∈ row zss k, ∃ v : Nat, y = (v : Int) ∧ v < 256) := fun y hy => by
        obtain ⟨u, hu, hun⟩ := (rowsP_of hpy.1).inG k (by omega) y hy
        exact ⟨u, hu, by omega⟩
      have hr16 : (row zss k).length ≤ 16 := (hpy.1.2.2.2 k hkn).2.2.1
      obtain ⟨eb, eo, hea, hec⟩ := HRo.out.cell (by omega)
      have HEC := Lib.hid (hec k (by omega))
      have HRW := Lib.hid (HRo.out.rows k (by omega))
      subst hea
      have heb := World.block_lt_of_cell? _ _ HEC.out
      have HX := Lib.hid hx
      have HP := Lib.hid hp
      rw [Int.toNat_natCast] at HE
      clear hr hpy hx hp hk hec HRo
      cases hm : wonM zss O P 1 k with
      | false =>
        have HM1 := Lib.hid hm
        have HW : Hid (r = markedK (andB (ofL (row zss k)) (wonM zss O P 0)) 256) := by
          rw [HE.out, sure_list HP.out hkn (who := 0) (by omega) (by rw [wonL_one HZ.out hkn, hm]; rfl)]; exact rfl
        clear hm HE
        go_enter Tryd.func30, Tryd.ntmps30
        go_wp2_with fail
        rw [← HW1.out]
        refine (ParityOk_is HP.out (HGm.out.below B1.out)).mono ?_
        rintro e w2 ⟨rfl, hb⟩
        have B2 := Lib.hid (B1.out.trans (hb.mono B1.out.size))
        have T2 := Lib.hid (T1.out.below hb)
        have t0 := T2.out.c0
        have t1 := T2.out.c1
        have t2 := T2.out.c2
        clear hb
        go_wp2_with fail
        refine (hasVertex_is HX.out (HAt.out.below B2.out)).mono ?_
        rintro e w3a ⟨rfl, hb⟩
        have B3a := Lib.hid (B2.out.trans (hb.mono B2.out.size))
        have T3a := Lib.hid (T2.out.below hb)
        clear hb t0 t1 t2
        have t0 := T3a.out.c0
        have t1 := T3a.out.c1
        have t2 := T3a.out.c2
        go_wp2_with fail
        refine (outcomeOf_is (HT.out.below B3a.out) (HGm.out.below B3a.out) HP.out).mono ?_
        rintro e w3 ⟨rfl, hb⟩
        have B3 := Lib.hid (B3a.out.trans (hb.mono B3a.out.size))
        have T3 := Lib.hid (T3a.out.below hb)
        clear hb t0 t1 t2
        go_upto_region 4 with fail
        obtain ⟨w5, hw5⟩ : ∃ y, y = w3.alloc (.cells (wordsA (wonM zss O P 0) (wonM zss O P 1)) 69) := ⟨_, rfl⟩
        have hw5' := hw5
        simp only [wordsA] at hw5'
        try rw [← hw5']
        have B5 : Hid (Below w.heap.size w w5) := by rw [hw5]; exact B3.out.trans ((below1 _ _).mono B3.out.size)
        have T5 : Hid (Box3 w5 w.heap.size 32 (.slice ao O.length co) (.slice (some ⟨eb, eo, none⟩) zss.length cn) (.slice ap P.length cp)) := by rw [hw5]; exact T3.out.below (below1 _ _)
        have O5 : Hid (OutAt w5 w3.heap.size (wonM zss O P 0) (wonM zss O P 1)) := by rw [hw5]; exact heap_alloc_new _ _
        clear hw5 hw5' T3
        have HSw : Hid (∀ W', Below w5.heap.size w5 W' → W'.cell? ⟨w.heap.size, 1, none⟩ = some (.slice (some ⟨eb, eo, none⟩) zss.length cn) ∧ W'.cell? ⟨eb, eo + k, none⟩ = some (.slice (A k) (row zss k).length (C k)) ∧ W'.cell? ⟨w3.heap.size, 0, none⟩ = some (.int .u64 (maskW (wonM zss O P 0) 0)) ∧ W'.cell? ⟨w3.heap.size, 1, none⟩ = some (.int .u64 (maskW (wonM zss O P 0) 1)) ∧ W'.cell? ⟨w3.heap.size, 2, none⟩ = some (.int .u64 (maskW (wonM zss O P 0) 2)) ∧ W'.cell? ⟨w3.heap.size, 3, none⟩ = some (.int .u64 (maskW (wonM zss O P 0) 3)) ∧ W'.cell? ⟨w3.heap.size, 4, none⟩ = some (.int .u64 (maskW (wonM zss O P 1) 0)) ∧ W'.cell? ⟨w3.heap.size, 5, none⟩ = some (.int .u64 (maskW (wonM zss O P 1) 1)) ∧ W'.cell? ⟨w3.heap.size, 6, none⟩ = some (.int .u64 (maskW (wonM zss O P 1) 2)) ∧ W'.cell? ⟨w3.heap.size, 7, none⟩ = some (.int .u64 (maskW (wonM zss O P 1) 3))) := fun W' hb => by
          have o := O5.out.below hb
          exact ⟨(T5.out.below hb).c1, (World.cell?_of_block ((B5.out.trans (hb.mono B5.out.size)).block eb heb)).trans HEC.out, o.c0, o.c1, o.c2, o.c3, o.c4, o.c5, o.c6, o.c7⟩
        have Kd : Hid (Below w5.heap.size w5 w5.drew) := (Below.refl _ _).drew
        refine wp_region_M (S := (fun W' => W'.cell? ⟨w.heap.size, 1, none⟩ = some (.slice (some ⟨eb, eo, none⟩) zss.length cn) ∧ W'.cell? ⟨eb, eo + k, none⟩ = some (.slice (A k) (row zss k).length (C k)) ∧ W'.cell? ⟨w3.heap.size, 0, none⟩ = some (.int .u64 (maskW (wonM zss O P 0) 0)) ∧ W'.cell? ⟨w3.heap.size, 1, none⟩ = some (.int .u64 (maskW (wonM zss O P 0) 1)) ∧ W'.cell? ⟨w3.heap.size, 2, none⟩ = some (.int .u64 (maskW (wonM zss O P 0) 2)) ∧ W'.cell? ⟨w3.heap.size, 3, none⟩ = some (.int .u64 (maskW (wonM zss O P 0) 3)) ∧ W'.cell? ⟨w3.heap.size, 4, none⟩ = some (.int .u64 (maskW (wonM zss O P 1) 0)) ∧ W'.cell? ⟨w3.heap.size, 5, none⟩ = some (.int .u64 (maskW (wonM zss O P 1) 1)) ∧ W'.cell? ⟨w3.heap.size, 6, none⟩ = some (.int .u64 (maskW (wonM zss O P 1) 2)) ∧ W'.cell? ⟨w3.heap.size, 7, none⟩ = some (.int .u64 (maskW (wonM zss O P 1) 3)))) (m := 14) (by kernel_rfl) (HSw.out _ Kd.out) (fun hHeld => ?_)
        refine wpAnyM_take (i := 0) (v := ?vm1) rfl (by kernel_rfl) (by decide) (by kernel_rfl) (by kernel_rfl) (by kernel_rfl) (fun _ _ _ h => h) (Or.inl ⟨by rfl, ?hm1⟩) (by assumption) ?_
        case hm1 => (intro w hSw; (try dsimp only at hSw); go_simp; first | done | with_reducible rfl)
        try simp only [Act.put, List.setIfInBounds_toArray, List.set_cons_zero, List.set_cons_succ]
        refine wpAnyM_take (i := 1) (v := ?vm2) rfl (by kernel_rfl) (by decide) (by kernel_rfl) (by kernel_rfl) (by kernel_rfl) (fun _ _ _ h => h) (Or.inl ⟨by rfl, ?hm2⟩) (by assumption) ?_
        case hm2 => (intro w hSw; (try dsimp only at hSw); go_simp; first | done | with_reducible rfl)
        try simp only [Act.put, List.setIfInBounds_toArray, List.set_cons_zero, List.set_cons_succ]
        refine wpAnyM_take (i := 2) (v := ?vm3) rfl (by kernel_rfl) (by decide) (by kernel_rfl) (by kernel_rfl) (by kernel_rfl) (fun _ _ _ h => h) (Or.inl ⟨by rfl, ?hm3⟩) (by assumption) ?_
        case hm3 => (intro w hSw; (try dsimp only at hSw); go_simp; first | done | with_reducible rfl)
        try simp only [Act.put, List.setIfInBounds_toArray, List.set_cons_zero, List.set_cons_succ]
        refine wpAnyM_take (i := 3) (v := ?vm4) rfl (by kernel_rfl) (by decide) (by kernel_rfl) (by kernel_rfl) (by kernel_rfl) (fun _ _ _ h => h) (Or.inl ⟨by rfl, ?hm4⟩) (by assumption) ?_
        case hm4 => (intro w hSw; (try dsimp only at hSw); go_simp; first | done | with_reducible rfl)
        try simp only [Act.put, List.setIfInBounds_toArray, List.set_cons_zero, List.set_cons_succ]
        refine wpAnyM_take (i := 4) (v := ?vm5) rfl (by kernel_rfl) (by decide) (by kernel_rfl) (by kernel_rfl) (by kernel_rfl) (fun _ _ _ h => h) (Or.inl ⟨by rfl, ?hm5⟩) (by assumption) ?_
        case hm5 => (intro w hSw; (try dsimp only at hSw); go_simp; first | done | with_reducible rfl)
        try simp only [Act.put, List.setIfInBounds_toArray, List.set_cons_zero, List.set_cons_succ]
        refine wpAnyM_take (i := 5) (v := ?vm6) rfl (by kernel_rfl) (by decide) (by kernel_rfl) (by kernel_rfl) (by kernel_rfl) (fun _ _ _ h => h) (Or.inl ⟨by rfl, ?hm6⟩) (by assumption) ?_
        case hm6 => (intro w hSw; (try dsimp only at hSw); go_simp; first | done | with_reducible rfl)
        try simp only [Act.put, List.setIfInBounds_toArray, List.set_cons_zero, List.set_cons_succ]
        refine wpAnyM_take (i := 7) (v := ?vm7) rfl (by kernel_rfl) (by decide) (by kernel_rfl) (by kernel_rfl) (by kernel_rfl) (fun _ _ _ h => h) (Or.inl ⟨by rfl, ?hm7⟩) (by assumption) ?_
        case hm7 => (intro w hSw; (try dsimp only at hSw); go_simp; first | done | with_reducible rfl)
        try simp only [Act.put, List.setIfInBounds_toArray, List.set_cons_zero, List.set_cons_succ]
        refine wpAnyM_take (i := 8) (v := ?vm8) rfl (by kernel_rfl) (by decide) (by kernel_rfl) (by kernel_rfl) (by kernel_rfl) (fun _ _ _ h => h) (Or.inl ⟨by rfl, ?hm8⟩) (by assumption) ?_
        case hm8 => (intro w hSw; (try dsimp only at hSw); go_simp; first | done | with_reducible rfl)
        try simp only [Act.put, List.setIfInBounds_toArray, List.set_cons_zero, List.set_cons_succ]
        refine wpAnyM_one (i := 6) (by kernel_rfl) rfl (fun K hK => ?_)
        go_simp
        go_at_call 74
        refine (maskOf_is (C k) (HRW.out.below (B5.out.trans (Kd.out.mono B5.out.size))) HRB.out (by omega)).mono ?_
        rintro e wa ⟨rfl, hb⟩
        have Ka := Lib.hid (Kd.out.trans (hb.mono Kd.out.size))
        clear hb
        go_wp2_with fail
        refine hK.out _ _ (fun _ => HSw.out _ Ka.out) (fun hHeld => ?_)
        have hHeld := hHeld (by decide)
        clear hK K
        try simp only [Act.put, List.setIfInBounds_toArray, List.set_cons_zero, List.set_cons_succ]
        refine wpAnyM_one (i := 9) (by kernel_rfl) rfl (fun K hK => ?_)
        go_simp
        go_at_call 65
        refine (outcome_winner _ _ k (r := false) HM1.out (by omega)).mono ?_
        rintro e wb ⟨rfl, hb⟩
        have Kb := Lib.hid (Ka.out.trans (hb.mono Ka.out.size))
        clear hb
        go_wp2_with fail
        refine hK.out _ _ (fun _ => HSw.out _ Kb.out) (fun hHeld => ?_)
        have hHeld := hHeld (by decide)
        clear hK K
        try simp only [Act.put, List.setIfInBounds_toArray, List.set_cons_zero, List.set_cons_succ]
        refine wpAnyM_take (i := 10) (v := ?vm9) rfl (by kernel_rfl) (by decide) (by kernel_rfl) (by kernel_rfl) (by kernel_rfl) (fun _ _ _ h => h) (Or.inl ⟨by rfl, ?hm9⟩) (by assumption) ?_
        case hm9 => (intro w hSw; (try dsimp only at hSw); go_simp; first | done | with_reducible rfl)
        try simp only [Act.put, List.setIfInBounds_toArray, List.set_cons_zero, List.set_cons_succ]
        refine wpAnyM_take (i := 11) (v := ?vm10) rfl (by kernel_rfl) (by decide) (by kernel_rfl) (by kernel_rfl) (by kernel_rfl) (fun _ _ _ h => h) (Or.inl ⟨by rfl, ?hm10⟩) (by assumption) ?_
        case hm10 => (intro w hSw; (try dsimp only at hSw); go_simp; first | done | with_reducible rfl)
        try simp only [Act.put, List.setIfInBounds_toArray, List.set_cons_zero, List.set_cons_succ]
        refine wpAnyM_one (i := 12) (by kernel_rfl) rfl (fun K hK => ?_)
        go_simp
        go_at_call 75
        refine (mask_meet (ofL (row zss k)) (wonM zss O P 0)).mono ?_
        rintro e wc ⟨rfl, hb⟩
        have Kc := Lib.hid (Kb.out.trans (hb.mono Kb.out.size))
        clear hb
        go_wp2_with fail
        refine hK.out _ _ (fun _ => HSw.out _ Kc.out) (fun hHeld => ?_)
        have hHeld := hHeld (by decide)
        clear hK K
        try simp only [Act.put, List.setIfInBounds_toArray, List.set_cons_zero, List.set_cons_succ]
        refine wpAnyM_one (i := 13) (by kernel_rfl) rfl (fun K hK => ?_)
        go_simp
        go_at_call 76
        refine (list_is (I := andB (ofL (row zss k)) (wonM zss O P 0)) (HT.out.below (B5.out.trans (Kc.out.mono B5.out.size)))).mono ?_
        rintro e we ⟨u, rfl, hu, hb⟩
        have Ke := Lib.hid (Kc.out.trans (hb.mono Kc.out.size))
        have HU := Lib.hid (own_marked hu (B5.out.trans (Kc.out.mono B5.out.size)).size)
        clear hb hu
        go_wp2_with fail
        refine hK.out _ _ (fun _ => HSw.out _ Ke.out) (fun hHeld => ?_)
        have hHeld := hHeld (by decide)
        clear hK K
        try simp only [Act.put, List.setIfInBounds_toArray, List.set_cons_zero, List.set_cons_succ]
        refine wpAnyM_one (i := 14) (by kernel_rfl) rfl (fun K hK => ?_)
        go_simp
        refine hK.out _ _ (fun h => absurd h (by decide)) (fun _ => ?_)
        clear hK K
        try simp only [Act.put, List.setIfInBounds_toArray, List.set_cons_zero, List.set_cons_succ]
        refine wpAnyM_done (by kernel_rfl) ?_ _
        have Be := Lib.hid (B5.out.trans (Ke.out.mono B5.out.size))
        go_wp2
        go_ret
        rw [HW.out]
        exact ⟨_, rfl, HU.out, Be.out⟩
      | true =>
        have HM1 := Lib.hid hm
        have HW : Hid (r = markedK (andB (ofL (row zss k)) (wonM zss O P 1)) 256) := by
          rw [HE.out, sure_list HP.out hkn (who := 1) (by omega) (by rw [wonL_one HZ.out hkn, hm]; rfl)]; exact rfl
        clear hm HE
        go_enter Tryd.func30, Tryd.ntmps30
        go_wp2_with fail
        rw [← HW1.out]
        refine (ParityOk_is HP.out (HGm.out.below B1.out)).mono ?_
        rintro e w2 ⟨rfl, hb⟩
        have B2 := Lib.hid (B1.out.trans (hb.mono B1.out.size))
        have T2 := Lib.hid (T1.out.below hb)
        have t0 := T2.out.c0
        have t1 := T2.out.c1
        have t2 := T2.out.c2
        clear hb
        go_wp2_with fail
        refine (hasVertex_is HX.out (HAt.out.below B2.out)).mono ?_
        rintro e w3a ⟨rfl, hb⟩
        have B3a := Lib.hid (B2.out.trans (hb.mono B2.out.size))
        have T3a := Lib.hid (T2.out.below hb)
        clear hb t0 t1 t2
        have t0 := T3a.out.c0
        have t1 := T3a.out.c1
        have t2 := T3a.out.c2
        go_wp2_with fail
        refine (outcomeOf_is (HT.out.below B3a.out) (HGm.out.below B3a.out) HP.out).mono ?_
        rintro e w3 ⟨rfl, hb⟩
        have B3 := Lib.hid (B3a.out.trans (hb.mono B3a.out.size))
        have T3 := Lib.hid (T3a.out.below hb)
        clear hb t0 t1 t2
        go_upto_region 4 with fail
        obtain ⟨w5, hw5⟩ : ∃ y, y = w3.alloc (.cells (wordsA (wonM zss O P 0) (wonM zss O P 1)) 69) := ⟨_, rfl⟩
        have hw5' := hw5
        simp only [wordsA] at hw5'
        try rw [← hw5']
        have B5 : Hid (Below w.heap.size w w5) := by rw [hw5]; exact B3.out.trans ((below1 _ _).mono B3.out.size)
        have T5 : Hid (Box3 w5 w.heap.size 32 (.slice ao O.length co) (.slice (some ⟨eb, eo, none⟩) zss.length cn) (.slice ap P.length cp)) := by rw [hw5]; exact T3.out.below (below1 _ _)
        have O5 : Hid (OutAt w5 w3.heap.size (wonM zss O P 0) (wonM zss O P 1)) := by rw [hw5]; exact heap_alloc_new _ _
        clear hw5 hw5' T3
        have HSw : Hid (∀ W', Below w5.heap.size w5 W' → W'.cell? ⟨w.heap.size, 1, none⟩ = some (.slice (some ⟨eb, eo, none⟩) zss.length cn) ∧ W'.cell? ⟨eb, eo + k, none⟩ = some (.slice (A k) (row zss k).length (C k)) ∧ W'.cell? ⟨w3.heap.size, 0, none⟩ = some (.int .u64 (maskW (wonM zss O P 0) 0)) ∧ W'.cell? ⟨w3.heap.size, 1, none⟩ = some (.int .u64 (maskW (wonM zss O P 0) 1)) ∧ W'.cell? ⟨w3.heap.size, 2, none⟩ = some (.int .u64 (maskW (wonM zss O P 0) 2)) ∧ W'.cell? ⟨w3.heap.size, 3, none⟩ = some (.int .u64 (maskW (wonM zss O P 0) 3)) ∧ W'.cell? ⟨w3.heap.size, 4, none⟩ = some (.int .u64 (maskW (wonM zss O P 1) 0)) ∧ W'.cell? ⟨w3.heap.size, 5, none⟩ = some (.int .u64 (maskW (wonM zss O P 1) 1)) ∧ W'.cell? ⟨w3.heap.size, 6, none⟩ = some (.int .u64 (maskW (wonM zss O P 1) 2)) ∧ W'.cell? ⟨w3.heap.size, 7, none⟩ = some (.int .u64 (maskW (wonM zss O P 1) 3))) := fun W' hb => by
          have o := O5.out.below hb
          exact ⟨(T5.out.below hb).c1, (World.cell?_of_block ((B5.out.trans (hb.mono B5.out.size)).block eb heb)).trans HEC.out, o.c0, o.c1, o.c2, o.c3, o.c4, o.c5, o.c6, o.c7⟩
        have Kd : Hid (Below w5.heap.size w5 w5.drew) := (Below.refl _ _).drew
        refine wp_region_M (S := (fun W' => W'.cell? ⟨w.heap.size, 1, none⟩ = some (.slice (some ⟨eb, eo, none⟩) zss.length cn) ∧ W'.cell? ⟨eb, eo + k, none⟩ = some (.slice (A k) (row zss k).length (C k)) ∧ W'.cell? ⟨w3.heap.size, 0, none⟩ = some (.int .u64 (maskW (wonM zss O P 0) 0)) ∧ W'.cell? ⟨w3.heap.size, 1, none⟩ = some (.int .u64 (maskW (wonM zss O P 0) 1)) ∧ W'.cell? ⟨w3.heap.size, 2, none⟩ = some (.int .u64 (maskW (wonM zss O P 0) 2)) ∧ W'.cell? ⟨w3.heap.size, 3, none⟩ = some (.int .u64 (maskW (wonM zss O P 0) 3)) ∧ W'.cell? ⟨w3.heap.size, 4, none⟩ = some (.int .u64 (maskW (wonM zss O P 1) 0)) ∧ W'.cell? ⟨w3.heap.size, 5, none⟩ = some (.int .u64 (maskW (wonM zss O P 1) 1)) ∧ W'.cell? ⟨w3.heap.size, 6, none⟩ = some (.int .u64 (maskW (wonM zss O P 1) 2)) ∧ W'.cell? ⟨w3.heap.size, 7, none⟩ = some (.int .u64 (maskW (wonM zss O P 1) 3)))) (m := 14) (by kernel_rfl) (HSw.out _ Kd.out) (fun hHeld => ?_)
        refine wpAnyM_take (i := 0) (v := ?vm11) rfl (by kernel_rfl) (by decide) (by kernel_rfl) (by kernel_rfl) (by kernel_rfl) (fun _ _ _ h => h) (Or.inl ⟨by rfl, ?hm11⟩) (by assumption) ?_
        case hm11 => (intro w hSw; (try dsimp only at hSw); go_simp; first | done | with_reducible rfl)
        try simp only [Act.put, List.setIfInBounds_toArray, List.set_cons_zero, List.set_cons_succ]
        refine wpAnyM_take (i := 1) (v := ?vm12) rfl (by kernel_rfl) (by decide) (by kernel_rfl) (by kernel_rfl) (by kernel_rfl) (fun _ _ _ h => h) (Or.inl ⟨by rfl, ?hm12⟩) (by assumption) ?_
        case hm12 => (intro w hSw; (try dsimp only at hSw); go_simp; first | done | with_reducible rfl)
        try simp only [Act.put, List.setIfInBounds_toArray, List.set_cons_zero, List.set_cons_succ]
        refine wpAnyM_take (i := 2) (v := ?vm13) rfl (by kernel_rfl) (by decide) (by kernel_rfl) (by kernel_rfl) (by kernel_rfl) (fun _ _ _ h => h) (Or.inl ⟨by rfl, ?hm13⟩) (by assumption) ?_
        case hm13 => (intro w hSw; (try dsimp only at hSw); go_simp; first | done | with_reducible rfl)
        try simp only [Act.put, List.setIfInBounds_toArray, List.set_cons_zero, List.set_cons_succ]
        refine wpAnyM_take (i := 3) (v := ?vm14) rfl (by kernel_rfl) (by decide) (by kernel_rfl) (by kernel_rfl) (by kernel_rfl) (fun _ _ _ h => h) (Or.inl ⟨by rfl, ?hm14⟩) (by assumption) ?_
        case hm14 => (intro w hSw; (try dsimp only at hSw); go_simp; first | done | with_reducible rfl)
        try simp only [Act.put, List.setIfInBounds_toArray, List.set_cons_zero, List.set_cons_succ]
        refine wpAnyM_take (i := 4) (v := ?vm15) rfl (by kernel_rfl) (by decide) (by kernel_rfl) (by kernel_rfl) (by kernel_rfl) (fun _ _ _ h => h) (Or.inl ⟨by rfl, ?hm15⟩) (by assumption) ?_
        case hm15 => (intro w hSw; (try dsimp only at hSw); go_simp; first | done | with_reducible rfl)
        try simp only [Act.put, List.setIfInBounds_toArray, List.set_cons_zero, List.set_cons_succ]
        refine wpAnyM_take (i := 5) (v := ?vm16) rfl (by kernel_rfl) (by decide) (by kernel_rfl) (by kernel_rfl) (by kernel_rfl) (fun _ _ _ h => h) (Or.inl ⟨by rfl, ?hm16⟩) (by assumption) ?_
        case hm16 => (intro w hSw; (try dsimp only at hSw); go_simp; first | done | with_reducible rfl)
        try simp only [Act.put, List.setIfInBounds_toArray, List.set_cons_zero, List.set_cons_succ]
        refine wpAnyM_take (i := 7) (v := ?vm17) rfl (by kernel_rfl) (by decide) (by kernel_rfl) (by kernel_rfl) (by kernel_rfl) (fun _ _ _ h => h) (Or.inl ⟨by rfl, ?hm17⟩) (by assumption) ?_
        case hm17 => (intro w hSw; (try dsimp only at hSw); go_simp; first | done | with_reducible rfl)
        try simp only [Act.put, List.setIfInBounds_toArray, List.set_cons_zero, List.set_cons_succ]
        refine wpAnyM_take (i := 8) (v := ?vm18) rfl (by kernel_rfl) (by decide) (by kernel_rfl) (by kernel_rfl) (by kernel_rfl) (fun _ _ _ h => h) (Or.inl ⟨by rfl, ?hm18⟩) (by assumption) ?_
        case hm18 => (intro w hSw; (try dsimp only at hSw); go_simp; first | done | with_reducible rfl)
        try simp only [Act.put, List.setIfInBounds_toArray, List.set_cons_zero, List.set_cons_succ]
        refine wpAnyM_one (i := 6) (by kernel_rfl) rfl (fun K hK => ?_)
        go_simp
        go_at_call 74
        refine (maskOf_is (C k) (HRW.out.below (B5.out.trans (Kd.out.mono B5.out.size))) HRB.out (by omega)).mono ?_
        rintro e wa ⟨rfl, hb⟩
        have Ka := Lib.hid (Kd.out.trans (hb.mono Kd.out.size))
        clear hb
        go_wp2_with fail
        refine hK.out _ _ (fun _ => HSw.out _ Ka.out) (fun hHeld => ?_)
        have hHeld := hHeld (by decide)
        clear hK K
        try simp only [Act.put, List.setIfInBounds_toArray, List.set_cons_zero, List.set_cons_succ]
        refine wpAnyM_one (i := 9) (by kernel_rfl) rfl (fun K hK => ?_)
        go_simp
        go_at_call 65
        refine (outcome_winner _ _ k (r := true) HM1.out (by omega)).mono ?_
        rintro e wb ⟨rfl, hb⟩
        have Kb := Lib.hid (Ka.out.trans (hb.mono Ka.out.size))
        clear hb
        go_wp2_with fail
        refine hK.out _ _ (fun _ => HSw.out _ Kb.out) (fun hHeld => ?_)
        have hHeld := hHeld (by decide)
        clear hK K
        try simp only [Act.put, List.setIfInBounds_toArray, List.set_cons_zero, List.set_cons_succ]
        refine wpAnyM_take (i := 10) (v := ?vm19) rfl (by kernel_rfl) (by decide) (by kernel_rfl) (by kernel_rfl) (by kernel_rfl) (fun _ _ _ h => h) (Or.inl ⟨by rfl, ?hm19⟩) (by assumption) ?_
        case hm19 => (intro w hSw; (try dsimp only at hSw); go_simp; first | done | with_reducible rfl)
        try simp only [Act.put, List.setIfInBounds_toArray, List.set_cons_zero, List.set_cons_succ]
        refine wpAnyM_take (i := 11) (v := ?vm20) rfl (by kernel_rfl) (by decide) (by kernel_rfl) (by kernel_rfl) (by kernel_rfl) (fun _ _ _ h => h) (Or.inl ⟨by rfl, ?hm20⟩) (by assumption) ?_
        case hm20 => (intro w hSw; (try dsimp only at hSw); go_simp; first | done | with_reducible rfl)
        try simp only [Act.put, List.setIfInBounds_toArray, List.set_cons_zero, List.set_cons_succ]
        refine wpAnyM_one (i := 12) (by kernel_rfl) rfl (fun K hK => ?_)
        go_simp
        go_at_call 75
        refine (mask_meet (ofL (row zss k)) (wonM zss O P 1)).mono ?_
        rintro e wc ⟨rfl, hb⟩
        have Kc := Lib.hid (Kb.out.trans (hb.mono Kb.out.size))
        clear hb
        go_wp2_with fail
        refine hK.out _ _ (fun _ => HSw.out _ Kc.out) (fun hHeld => ?_)
        have hHeld := hHeld (by decide)
        clear hK K
        try simp only [Act.put, List.setIfInBounds_toArray, List.set_cons_zero, List.set_cons_succ]
        refine wpAnyM_one (i := 13) (by kernel_rfl) rfl (fun K hK => ?_)
        go_simp
        go_at_call 76
        refine (list_is (I := andB (ofL (row zss k)) (wonM zss O P 1)) (HT.out.below (B5.out.trans (Kc.out.mono B5.out.size)))).mono ?_
        rintro e we ⟨u, rfl, hu, hb⟩
        have Ke := Lib.hid (Kc.out.trans (hb.mono Kc.out.size))
        have HU := Lib.hid (own_marked hu (B5.out.trans (Kc.out.mono B5.out.size)).size)
        clear hb hu
        go_wp2_with fail
        refine hK.out _ _ (fun _ => HSw.out _ Ke.out) (fun hHeld => ?_)
        have hHeld := hHeld (by decide)
        clear hK K
        try simp only [Act.put, List.setIfInBounds_toArray, List.set_cons_zero, List.set_cons_succ]
        refine wpAnyM_one (i := 14) (by kernel_rfl) rfl (fun K hK => ?_)
        go_simp
        refine hK.out _ _ (fun h => absurd h (by decide)) (fun _ => ?_)
        clear hK K
        try simp only [Act.put, List.setIfInBounds_toArray, List.set_cons_zero, List.set_cons_succ]
        refine wpAnyM_done (by kernel_rfl) ?_ _
        have Be := Lib.hid (B5.out.trans (Ke.out.mono B5.out.size))
        go_wp2
        go_ret
        rw [HW.out]
        exact ⟨_, rfl, HU.out, Be.out⟩

theorem SureInT_is {w : World} {v : Value} {O P r : List Int} {zss : List (List Int)} {x : Int} (hT : TabW w) (hr : sureL O zss P x = r) (h : GameAt w v O zss P) :
    Calls Tryd.prog 30 #[v, .int .i64 x] w (GivesInts w r) := SureIn_is hr h hT
end
end Go.Proofs.YtphkgnpkcfbnkabDoor
namespace Go.Proofs.YtphkgnpkcfbnkabDoor
open Go.RowKit

set_option maxHeartbeats 16000000 in
set_option maxRecDepth 100000 in
theorem lawSureIn {w : World} {v0 : Value} {O0 : List Int} {z0 : List (List Int)} {P0 : List Int} {n1 : Int} (h0 : GameAt w v0 O0 z0 P0) (hE : TabW w) :
    Calls Tryd.prog 6 #[v0, .int .i64 n1] w fun e w' => e = .returned (.bool true) ∧ Below w.heap.size w w' := by
  have HE := Lib.hid hE
  clear hE
  have H0 := Lib.hid h0
  obtain ⟨u0_0, u0_1, u0_2, d0_0, d0_1, d0_2, A0, C0, rfl, q0, q1, q2⟩ := h0
  clear q0 q1 q2
  obtain ⟨w1, hw1⟩ : ∃ y, y = (w.alloc (.cells #[.slice u0_0 O0.length d0_0, .slice u0_1 z0.length d0_1, .slice u0_2 P0.length d0_2] 27)) := ⟨_, rfl⟩
  have HW1 := Lib.hid hw1
  have B1 : Hid (Below w.heap.size w w1) := by rw [hw1]; exact below1 _ _
  have b0 : Hid (Box3 w1 (w.heap.size) 27 (.slice u0_0 O0.length d0_0) (.slice u0_1 z0.length d0_1) (.slice u0_2 P0.length d0_2)) := by rw [hw1]; exact Box3.new_at (by simp) _ _ _ _ 
  have K1 : Hid (Keep [w1, w] w1) := ⟨Below.refl _ _, B1.out, trivial⟩
  clear hw1
  by_cases hs0 : (1048576 : Int) < (sizeGame O0 z0 P0 : Int)
  · skip
    have HSn0 : Hid (∀ W, Below w.heap.size w W → Calls Tryd.prog 13 #[.agg #[.slice u0_0 O0.length d0_0, .slice u0_1 z0.length d0_1, .slice u0_2 P0.length d0_2], .int .i64 (1048576 : Int)] W fun e w' => e = .returned (.int .i64 (-1)) ∧ Below W.heap.size W w') := fun W hb => szGame_at (leftOf_no hs0) (H0.out.below hb) (by omega) (by omega)
    clear hs0
    go_enter Tryd.func6, Tryd.ntmps6
    go_wp2_with fail
    rw [← HW1.out]
    refine (HSn0.out _ K1.out.2.1).mono ?_
    rintro e w2 ⟨rfl, hb⟩
    have Kw2 : Hid (Keep [w1, w] w2) := K1.out.step hb
    clear K1
    clear hb
    go_wp2
    go_ret
    exact ⟨rfl, Kw2.out.2.1⟩
  have hle0 : (sizeGame O0 z0 P0 : Int) ≤ (1048576 : Int) := by omega
  obtain ⟨m0, hm0⟩ : ∃ m, leftOf (1048576 : Int) (sizeGame O0 z0 P0) = m := ⟨_, rfl⟩
  have hmv0 : m0 = (1048576 : Int) - (sizeGame O0 z0 P0 : Int) := by rw [← hm0]; exact leftOf_yes hle0
  have hml0 : 0 ≤ m0 := by omega
  have hmu0 : m0 ≤ 1048576 := by omega
  have HLE0 : Hid (sizeGame O0 z0 P0 ≤ 1048576) := by simp only [Hid]; omega
  have HS0 : Hid (∀ W, Below w.heap.size w W → Calls Tryd.prog 13 #[.agg #[.slice u0_0 O0.length d0_0, .slice u0_1 z0.length d0_1, .slice u0_2 P0.length d0_2], .int .i64 (1048576 : Int)] W fun e w' => e = .returned (.int .i64 m0) ∧ Below W.heap.size W w') := fun W hb => szGame_at hm0 (H0.out.below hb) (by omega) (by omega)
  have hn0 : z0.length ≤ 1048576 := by have := HLE0.out; unfold sizeGame at this; (try unfold sizeArena at this); omega
  clear hs0 hm0 hle0 hmv0
  obtain ⟨rS, hrS⟩ : ∃ r, sureL O0 z0 P0 n1 = r := ⟨_, rfl⟩
  have R0 := Lib.hid hrS
  clear hrS
  obtain ⟨mk0, hmk0⟩ : ∃ r : Int, (1 : Int) + (O0.length : Int) + (sumLen z0 z0.length : Int) + (P0.length : Int) = r := ⟨_, rfl⟩
  have MK0 := Lib.hid hmk0
  have hmkl0 : 0 ≤ mk0 := by omega
  have hmku0 : mk0 ≤ 1048577 := by have := HLE0.out; unfold sizeGame at this; (try unfold sizeArena at this); omega
  obtain ⟨mg, hmg⟩ : ∃ r : Int, (1 : Int) + (rS.length : Int) = r := ⟨_, rfl⟩
  have MG := Lib.hid hmg
  have hmg0 : 0 ≤ mg := by omega
  have hmgn : (mg != mg) = false := by simp
  clear hmg hmk0
  go_enter Tryd.func6, Tryd.ntmps6
  go_wp2_with fail
  rw [← HW1.out]
  refine (HS0.out _ K1.out.2.1).mono ?_
  rintro e w2 ⟨rfl, hb⟩
  have Kw2 : Hid (Keep [w1, w] w2) := K1.out.step hb
  clear K1
  clear hb
  have c0 := (b0.out.below Kw2.out.1).c0
  have c1 := (b0.out.below Kw2.out.1).c1
  have c2 := (b0.out.below Kw2.out.1).c2
  go_wp2_with fail
  refine (toGame_at (H0.out.below Kw2.out.2.1) hn0).mono ?_
  rintro e w3 ⟨x, rfl, hu, hb⟩
  obtain ⟨pa0_0, pc0_0, pa0_1, pc0_1, pa0_2, pc0_2, hus⟩ := hu.shape
  subst hus
  have pX0 := Lib.hid hu
  have Kw3 : Hid (Keep [w1, w] w3) := Kw2.out.step hb
  clear Kw2
  clear hu hb
  have Kaw3 : Hid (Keep [w3, w1, w] w3) := Kw3.out.add
  clear Kw3
  clear c0 c1 c2
  go_wp2_with fail
  refine (specSureIn_is  R0.out (pX0.out.below Kaw3.out.1).at).mono ?_
  rintro e w4 ⟨x, rfl, hg, hb⟩
  obtain ⟨pga_0, pgc_0, hus⟩ := hg.shape2
  subst hus
  have pG := Lib.hid hg
  have Kw4 : Hid (Keep [w3, w1, w] w4) := Kaw3.out.step hb
  clear Kaw3
  clear hb hg
  have Kaw4 : Hid (Keep [w4, w3, w1, w] w4) := Kw4.out.add
  clear Kw4
  have OW : Hid (w.heap.size ≤ w1.heap.size) := B1.out.size
  have OC : Hid (w1.heap.size ≤ w4.heap.size) := Kaw4.out.2.2.1.size
  have OP : Hid (w4.heap.size ≤ w4.heap.size) := Kaw4.out.1.size
  have c0 := (b0.out.below Kaw4.out.2.2.1).c0
  have c1 := (b0.out.below Kaw4.out.2.2.1).c1
  have c2 := (b0.out.below Kaw4.out.2.2.1).c2
  go_wp2_with fail
  have HB0 : Hid (w4.heap.size ≤ w4.heap.size) := Kaw4.out.1.size
  refine (toGame_at (H0.out.below Kaw4.out.2.2.2.1) hn0).mono ?_
  rintro e w5 ⟨x, rfl, hu, hb⟩
  obtain ⟨xa0_0, xc0_0, xa0_1, xc0_1, xa0_2, xc0_2, hus⟩ := hu.shape
  subst hus
  have xX0 := Lib.hid hu
  have HE0 : Hid (w4.heap.size ≤ w5.heap.size) := hb.size
  have Kw5 : Hid (Keep [w4, w3, w1, w] w5) := Kaw4.out.step hb
  clear Kaw4
  clear hu hb
  have Kaw5 : Hid (Keep [w5, w4, w3, w1, w] w5) := Kw5.out.add
  clear Kw5
  clear c0 c1 c2
  obtain ⟨w6, hw6⟩ : ∃ y, y = w5.alloc (.cells #[.slice xa0_0 O0.length xc0_0, .slice xa0_1 z0.length xc0_1, .slice xa0_2 P0.length xc0_2] 32) := ⟨_, rfl⟩
  have Hw6 := Lib.hid hw6
  have hb : Below w5.heap.size w5 w6 := by rw [hw6]; exact below1 _ _
  have xb0 : Hid (Box3 w6 w5.heap.size 32 (.slice xa0_0 O0.length xc0_0) (.slice xa0_1 z0.length xc0_1) (.slice xa0_2 P0.length xc0_2)) := by rw [hw6]; exact Box3.new _ _ _ _ _ 
  have Kw6 : Hid (Keep [w5, w4, w3, w1, w] w6) := Kaw5.out.step hb
  clear Kaw5
  clear hb
  have Kaw6 : Hid (Keep [w6, w5, w4, w3, w1, w] w6) := Kw6.out.add
  clear Kw6
  clear hw6
  have c0 := (xb0.out.below Kaw6.out.1).c0
  have c1 := (xb0.out.below Kaw6.out.1).c1
  have c2 := (xb0.out.below Kaw6.out.1).c2
  rw [Hw6.out] at c0 c1 c2
  go_wp2_with fail
  rw [← Hw6.out]
  have HD0 : Hid (w5.heap.size ≤ w6.heap.size) := Kaw6.out.2.1.size
  refine (SureInT_is (HE.out.below Kaw6.out.2.2.2.2.2.1)  R0.out (xX0.out.below Kaw6.out.2.1).at).mono ?_
  rintro e w7 ⟨x, rfl, hg, hb⟩
  obtain ⟨xga_0, xgc_0, hus⟩ := hg.shape2
  subst hus
  have xG := Lib.hid hg
  have HEG : Hid (w6.heap.size ≤ w7.heap.size) := hb.size
  have Kw7 : Hid (Keep [w6, w5, w4, w3, w1, w] w7) := Kaw6.out.step hb
  clear Kaw6
  clear hb hg
  have Kaw7 : Hid (Keep [w7, w6, w5, w4, w3, w1, w] w7) := Kw7.out.add
  clear Kw7
  clear c0 c1 c2
  go_wp2_with fail
  refine (eqInts_at (xG.out.below Kaw7.out.1).v (pG.out.below Kaw7.out.2.2.2.1).v).mono ?_
  rintro e w8 ⟨rfl, hb⟩
  have Kw8 : Hid (Keep [w7, w6, w5, w4, w3, w1, w] w8) := Kaw7.out.step hb
  clear Kaw7
  clear hb
  have c0 := (b0.out.below Kw8.out.2.2.2.2.2.1).c0
  have c1 := (b0.out.below Kw8.out.2.2.2.2.2.1).c1
  have c2 := (b0.out.below Kw8.out.2.2.2.2.2.1).c2
  have c3 := (xb0.out.below Kw8.out.2.1).c0
  have c4 := (xb0.out.below Kw8.out.2.1).c1
  have c5 := (xb0.out.below Kw8.out.2.1).c2
  have Kdw8 : Hid (Keep [w7, w6, w5, w4, w3, w1, w] w8.drew) := Kw8.out.step (Below.refl _ _).drew
  go_wp2_with fail
  go_region_held3 (fun w' => w'.cell? ⟨w.heap.size, 0, none⟩ = some (.slice u0_0 O0.length d0_0) ∧ w'.cell? ⟨w.heap.size, 1, none⟩ = some (.slice u0_1 z0.length d0_1) ∧ w'.cell? ⟨w.heap.size, 2, none⟩ = some (.slice u0_2 P0.length d0_2) ∧ w'.cell? ⟨w5.heap.size, 0, none⟩ = some (.slice xa0_0 O0.length xc0_0) ∧ w'.cell? ⟨w5.heap.size, 1, none⟩ = some (.slice xa0_1 z0.length xc0_1) ∧ w'.cell? ⟨w5.heap.size, 2, none⟩ = some (.slice xa0_2 P0.length xc0_2))
    (first
      | go_keep
      | exact ⟨d0, d1, d2, d3, d4, d5⟩
      | exact ⟨f0, f1, f2, f3, f4, f5⟩)
    (first
      | (go_at_call 15; refine (toGame_at (H0.out.below Kdw8.out.2.2.2.2.2.2.1) hn0).mono ?_; rintro e w9 ⟨x, rfl, hu, hb⟩; obtain ⟨ya0_0, yc0_0, ya0_1, yc0_1, ya0_2, yc0_2, hus⟩ := hu.shape; subst hus; have yX0 := Lib.hid hu; have Kw9 : Hid (Keep [w7, w6, w5, w4, w3, w1, w] w9) := Kdw8.out.step hb; have d0 := (b0.out.below Kw9.out.2.2.2.2.2.1).c0; have d1 := (b0.out.below Kw9.out.2.2.2.2.2.1).c1; have d2 := (b0.out.below Kw9.out.2.2.2.2.2.1).c2; have d3 := (xb0.out.below Kw9.out.2.1).c0; have d4 := (xb0.out.below Kw9.out.2.1).c1; have d5 := (xb0.out.below Kw9.out.2.1).c2; have Kaw9 : Hid (Keep [w9, w7, w6, w5, w4, w3, w1, w] w9) := Kw9.out.add; clear hu hb)
      | (go_at_call 18; refine (eqGame_at (xX0.out.below Kaw9.out.2.2.2.1).at (yX0.out.below Kaw9.out.1).at).mono ?_; rintro e w10 ⟨rfl, hb⟩; have Kw10 : Hid (Keep [w9, w7, w6, w5, w4, w3, w1, w] w10) := Kaw9.out.step hb; have f0 := (b0.out.below Kw10.out.2.2.2.2.2.2.1).c0; have f1 := (b0.out.below Kw10.out.2.2.2.2.2.2.1).c1; have f2 := (b0.out.below Kw10.out.2.2.2.2.2.2.1).c2; have f3 := (xb0.out.below Kw10.out.2.2.1).c0; have f4 := (xb0.out.below Kw10.out.2.2.1).c1; have f5 := (xb0.out.below Kw10.out.2.2.1).c2; clear hb))
  clear c0 d0 f0 c1 d1 f1 c2 d2 f2 c3 d3 f3 c4 d4 f4 c5 d5 f5
  have Kzw10 : Hid (Keep [w7, w6, w5, w4, w3, w1, w] w10) := Kw10.out.2
  clear Kdw8 Kw9 Kaw9 yX0
  have xX0_w10 := Lib.hid (xX0.out.below Kzw10.out.2.2.1)
  have xb0_w10 := Lib.hid (xb0.out.below Kzw10.out.2.1)
  have xG_w10 := Lib.hid (xG.out.below Kzw10.out.1)
  have KBw10 : Hid (Keep [w4, w1, w] w10) := ⟨Kzw10.out.2.2.2.1, Kzw10.out.2.2.2.2.2.1, Kzw10.out.2.2.2.2.2.2.1, trivial⟩
  clear Kzw10
  have c0 := xb0_w10.out.c0
  have c1 := xb0_w10.out.c1
  have c2 := xb0_w10.out.c2
  go_wp2_with fail
  refine (markGame_at MK0.out xX0_w10.out (by omega) (by omega) HLE0.out).mono ?_
  rintro e t11 ⟨rfl, hx, ho⟩
  have o0 := OW.out
  have o1 := OC.out
  have o2 := OP.out
  have o3 := HEG.out
  have oh0 := HB0.out
  have oe0 := HE0.out
  have od0 := HD0.out
  have KOt11 : Hid (Keep [w4, w1, w] t11) := KBw10.out.only ho (fun a ha b hb => by
    simp only [List.mem_cons, List.not_mem_nil, or_false] at ha
    rcases ha with rfl | rfl | rfl <;> omega)
  clear KBw10
  clear xX0_w10
  clear xb0_w10
  have xG_t11 := Lib.hid (xG_w10.out.only ho (fun g hg hb => by have := (xG_w10.out.own.lt g hg).1; omega))
  clear xG_w10
  clear hx ho o0 o1 o2 o3 oh0 oe0 od0 c0 c1 c2
  go_wp2_with fail
  refine (eqInts_at xG_t11.out.v (pG.out.below KOt11.out.1).v).mono ?_
  rintro e t12 ⟨rfl, hb⟩
  have xG_t12 := Lib.hid (xG_t11.out.below hb)
  clear xG_t11
  have Kt12 : Hid (Keep [w4, w1, w] t12) := KOt11.out.step hb
  clear KOt11
  clear hb
  go_wp2_with fail
  refine (markInts_at MG.out xG_t12.out (by omega) (by omega)).mono ?_
  rintro e t13 ⟨rfl, hx, ho⟩
  have o0 := OW.out
  have o1 := OC.out
  have o2 := OP.out
  have o3 := HEG.out
  have oh0 := HB0.out
  have oe0 := HE0.out
  have od0 := HD0.out
  have KOt13 : Hid (Keep [w4, w1, w] t13) := Kt12.out.only ho (fun a ha b hb => by
    simp only [List.mem_cons, List.not_mem_nil, or_false] at ha
    rcases ha with rfl | rfl | rfl <;> omega)
  clear Kt12
  have M := Lib.hid hx
  clear hx ho o0 o1 o2 o3 oh0 oe0 od0
  have Kat13 : Hid (Keep [t13, w4, w1, w] t13) := KOt13.out.add
  clear KOt13
  go_wp2_with fail
  refine (heldInts_own MG.out (M.out.below Kat13.out.1).v (by omega) (by omega)).mono ?_
  rintro e t14 ⟨rfl, hb⟩
  have Kt14 : Hid (Keep [t13, w4, w1, w] t14) := Kat13.out.step hb
  clear Kat13
  clear hb
  have c0 := (b0.out.below Kt14.out.2.2.1).c0
  have c1 := (b0.out.below Kt14.out.2.2.1).c1
  have c2 := (b0.out.below Kt14.out.2.2.1).c2
  go_wp2_with fail
  refine (toGame_at (H0.out.below Kt14.out.2.2.2.1) hn0).mono ?_
  rintro e w15 ⟨x, rfl, hu, hb⟩
  obtain ⟨ha0_0, hc0_0, ha0_1, hc0_1, ha0_2, hc0_2, hus⟩ := hu.shape
  subst hus
  have hX0 := Lib.hid hu
  have Kw15 : Hid (Keep [t13, w4, w1, w] w15) := Kt14.out.step hb
  clear Kt14
  clear hu hb
  have Kaw15 : Hid (Keep [w15, t13, w4, w1, w] w15) := Kw15.out.add
  clear Kw15
  clear c0 c1 c2
  go_wp2_with fail
  refine (SureInT_is (HE.out.below Kaw15.out.2.2.2.2.1)  R0.out (hX0.out.below Kaw15.out.1).at).mono ?_
  rintro e w16 ⟨x, rfl, hg, hb⟩
  obtain ⟨hga_0, hgc_0, hus⟩ := hg.shape2
  subst hus
  have hG := Lib.hid hg
  have Kw16 : Hid (Keep [w15, t13, w4, w1, w] w16) := Kaw15.out.step hb
  clear Kaw15
  clear hb hg
  have Kaw16 : Hid (Keep [w16, w15, t13, w4, w1, w] w16) := Kw16.out.add
  clear Kw16
  go_wp2_with fail
  refine (eqInts_at (hG.out.below Kaw16.out.1).v (pG.out.below Kaw16.out.2.2.2.1).v).mono ?_
  rintro e w17 ⟨rfl, hb⟩
  have Kw17 : Hid (Keep [w16, w15, t13, w4, w1, w] w17) := Kaw16.out.step hb
  clear Kaw16
  clear hb
  go_wp2_with fail
  refine (heldInts_own MG.out (M.out.below Kw17.out.2.2.1).v (by omega) (by omega)).mono ?_
  rintro e t18 ⟨rfl, hb⟩
  have Kt18 : Hid (Keep [w16, w15, t13, w4, w1, w] t18) := Kw17.out.step hb
  clear Kw17
  clear hb
  go_wp2
  go_ret
  exact ⟨rfl, Kt18.out.2.2.2.2.2.1⟩

end Go.Proofs.YtphkgnpkcfbnkabDoor
