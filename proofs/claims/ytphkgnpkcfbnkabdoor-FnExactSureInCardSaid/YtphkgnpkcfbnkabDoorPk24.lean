/-
  Several texts in one: GameImpl, OnlyImpl, ListM.
-/
import Derived.Deep.RegionHeld3
import Derived.Test.YtphkgnpkcfbnkabDoorBase1
import Derived.Test.YtphkgnpkcfbnkabDoorPk03
import Derived.Test.YtphkgnpkcfbnkabDoorParity1
import Derived.Test.YtphkgnpkcfbnkabDoorOnlySpec
import Derived.Test.YtphkgnpkcfbnkabDoorPk09
import Derived.Test.YtphkgnpkcfbnkabDoorPk23
namespace Go.Proofs.YtphkgnpkcfbnkabDoor
section
open Go.RowKit

theorem arenaSize_is {w : World} {va : Value} {O : List Int} {zss : List (List Int)} (h : ArenaAt w va O zss) :
    Calls Tryd.prog 64 #[va] w fun e w' => e = .returned (.int .i64 O.length) ∧ Below w.heap.size w w' := by
  obtain ⟨ao, an, co, cn, A, C, rfl, h1, h2⟩ := h
  exact (size_is ao an O.length zss.length co cn w h1.len).mono fun e w' ⟨he, hw⟩ => ⟨he, hw ▸ below1 _ _⟩

theorem min_ok {P : List Int} (hz : 0 < P.length) : 0 ≤ minN P (P.length - 1) ↔ ∀ x ∈ P, 0 ≤ x := by
  constructor
  · intro h x hx
    obtain ⟨k, hk, rfl⟩ := mem_nth.1 hx
    have := minN_le (zs := P) (k := P.length - 1) (j := k) (by omega)
    omega
  · intro h
    obtain ⟨j, hj, e⟩ := minN_at (zs := P) (P.length - 1)
    rw [← e]; exact h _ (nth_mem (by omega))
theorem max_ok {P : List Int} (hz : 0 < P.length) : maxN P (P.length - 1) ≤ 40 ↔ ∀ x ∈ P, x ≤ 40 := by
  constructor
  · intro h x hx
    obtain ⟨k, hk, rfl⟩ := mem_nth.1 hx
    have := maxN_ge (zs := P) (k := P.length - 1) (j := k) (by omega)
    omega
  · intro h
    obtain ⟨j, hj, e⟩ := maxN_at (zs := P) (P.length - 1)
    rw [← e]; exact h _ (nth_mem (by omega))

set_option maxHeartbeats 4000000 in
set_option maxRecDepth 100000 in
theorem ParityOk_is {w : World} {v : Value} {O : List Int} {zss : List (List Int)} {P : List Int} {r : Bool} (hr : parityB O zss P = r) (h : GameAt w v O zss P) :
    Calls Tryd.prog 72 #[v] w fun e w' => e = .returned (.bool r) ∧ Below w.heap.size w w' := by
  obtain ⟨ao, an, ap, co, cn, cp, A, C, rfl, h1, h2, h3⟩ := h
  have hlO := h1.len
  have hlP := h3.len
  have HP := Lib.hid h3
  obtain ⟨w1, hw1⟩ : ∃ y, y = w.alloc (.cells #[.slice ao O.length co, .slice an zss.length cn, .slice ap P.length cp] 32) := ⟨_, rfl⟩
  have HW1 := Lib.hid hw1
  have B1 : Hid (Below w.heap.size w w1) := by rw [hw1]; exact below1 _ _
  have T1 : Hid (Box3 w1 w.heap.size 32 (.slice ao O.length co) (.slice an zss.length cn) (.slice ap P.length cp)) := by rw [hw1]; exact Box3.new _ _ _ _ _
  have HA : Hid (ArenaAt w (.agg #[.slice ao O.length co, .slice an zss.length cn]) O zss) := ⟨_, _, _, _, _, _, rfl, h1, h2⟩
  clear h1 h2 h3 hw1
  have t0 := T1.out.c0
  have t1 := T1.out.c1
  have t2 := T1.out.c2
  have hd1 : Below w1.heap.size w1 w1.drew := (Below.refl _ _).drew
  have B1d := Lib.hid (B1.out.trans (hd1.mono B1.out.size))
  have T1d := Lib.hid (T1.out.below hd1)
  clear hd1
  cases hA : arenaB O zss with
  | false =>
    have HE : Hid (r = false) := by rw [← hr]; simp [parityB, hA, Hid]
    have HC := Lib.hid (ArenaOk_at hA (HA.out.below B1d.out))
    clear hA hr
    go_enter Tryd.func72, Tryd.ntmps72
    go_wp2_with fail
    rw [← HW1.out]
    first
      | go_region_law (first
          | (go_simp; go_at_call 112; refine HC.out.mono ?_; rintro e w2 ⟨rfl, hb⟩; have B2 := Lib.hid (B1d.out.trans (hb.mono B1d.out.size)); clear hb))
      | fail
    all_goals (
      go_wp2
      go_ret
      exact ⟨by rw [HE.out]; rfl, B2.out⟩)
  | true =>
    have HAP := Lib.hid (arenaB_iff.1 hA)
    have HC := Lib.hid (ArenaOk_at hA (HA.out.below B1d.out))
    by_cases hl : P.length = O.length
    · have hn0 : 0 < P.length := by have := HAP.out.1; omega
      have hne : ((P.length : Int) != (O.length : Int)) = false := by simp; omega
      have HR : Hid (priosB P = r) := by rw [← hr]; simp [parityB, hA, hl, Hid]
      have hmn := min_ok hn0
      have hmx := max_ok hn0
      obtain ⟨mn, hmnE⟩ : ∃ m, minN P (P.length - 1) = m := ⟨_, rfl⟩
      obtain ⟨mx, hmxE⟩ : ∃ m, maxN P (P.length - 1) = m := ⟨_, rfl⟩
      rw [hmnE] at hmn
      rw [hmxE] at hmx
      have HMN := Lib.hid hmn
      have HMX := Lib.hid hmx
      have HMNE := Lib.hid hmnE
      have HMXE := Lib.hid hmxE
      have HL := Lib.hid hl
      have HN0 := Lib.hid hn0
      clear hA hr hl hmn hmx hmnE hmxE hn0
      go_enter Tryd.func72, Tryd.ntmps72
      go_wp2_with fail
      rw [← HW1.out]
      go_region_held3 (fun w' => w'.cell? ⟨w.heap.size, 0, none⟩ = some (.slice ao O.length co) ∧ w'.cell? ⟨w.heap.size, 1, none⟩ = some (.slice an zss.length cn) ∧ w'.cell? ⟨w.heap.size, 2, none⟩ = some (.slice ap P.length cp))
        (first
          | go_keep
          | exact ⟨e0, e1, e2⟩
          | exact ⟨f0, f1, f2⟩)
        (first
          | (go_at_call 112; refine HC.out.mono ?_; rintro e w2 ⟨rfl, hb⟩; have B2 := Lib.hid (B1d.out.trans (hb.mono B1d.out.size)); have T2 := Lib.hid (T1d.out.below hb); have e0 := T2.out.c0; have e1 := T2.out.c1; have e2 := T2.out.c2; clear hb)
          | (go_at_call 64; refine (arenaSize_is (HA.out.below B2.out)).mono ?_; rintro e w3 ⟨rfl, hb⟩; have B3 := Lib.hid (B2.out.trans (hb.mono B2.out.size)); have T3 := Lib.hid (T2.out.below hb); have f0 := T3.out.c0; have f1 := T3.out.c1; have f2 := T3.out.c2; clear hb))
      all_goals (
        clear e0 e1 e2 t0 t1 t2
        have HMinC := Lib.hid (Min_is cp HMNE.out (HP.out.below B3.out) HN0.out)
        have HMaxC := Lib.hid (fun W hb => Max_is (w := W) cp HMXE.out (HP.out.below hb) HN0.out)
        go_wp2_with fail
        refine HMinC.out.mono ?_
        rintro e w4 ⟨rfl, rfl⟩
        clear HMinC
        by_cases h0 : 0 ≤ mn
        · have HE : Hid (decide (mx ≤ 40) = r) := by
            rw [← HR.out]
            unfold priosB Hid
            rw [decide_eq_decide]
            constructor
            · intro h x hx; exact ⟨HMN.out.1 h0 x hx, HMX.out.1 h x hx⟩
            · intro h; exact HMX.out.2 fun x hx => (h x hx).2
          go_wp2_with fail
          refine (HMaxC.out _ B3.out).mono ?_
          rintro e w5 ⟨rfl, rfl⟩
          clear HMaxC
          go_wp2
          go_ret
          exact ⟨ret_bool HE.out, B3.out⟩
        · have HE : Hid (r = false) := by
            rw [← HR.out]
            unfold priosB Hid
            refine decide_eq_false fun h => h0 (HMN.out.2 fun x hx => (h x hx).1)
          have h1 : ¬ 0 ≤ mn := h0
          go_wp2
          go_ret
          exact ⟨by rw [HE.out]; rfl, B3.out⟩)
    · have hne : ((P.length : Int) != (O.length : Int)) = true := by simp; omega
      have HE : Hid (r = false) := by rw [← hr]; simp [parityB, hl, Hid]
      clear hA hr hl
      go_enter Tryd.func72, Tryd.ntmps72
      go_wp2_with fail
      rw [← HW1.out]
      go_region_held3 (fun w' => w'.cell? ⟨w.heap.size, 0, none⟩ = some (.slice ao O.length co) ∧ w'.cell? ⟨w.heap.size, 1, none⟩ = some (.slice an zss.length cn) ∧ w'.cell? ⟨w.heap.size, 2, none⟩ = some (.slice ap P.length cp))
        (first
          | go_keep
          | exact ⟨e0, e1, e2⟩
          | exact ⟨f0, f1, f2⟩)
        (first
          | (go_at_call 112; refine HC.out.mono ?_; rintro e w2 ⟨rfl, hb⟩; have B2 := Lib.hid (B1d.out.trans (hb.mono B1d.out.size)); have T2 := Lib.hid (T1d.out.below hb); have e0 := T2.out.c0; have e1 := T2.out.c1; have e2 := T2.out.c2; clear hb)
          | (go_at_call 64; refine (arenaSize_is (HA.out.below B2.out)).mono ?_; rintro e w3 ⟨rfl, hb⟩; have B3 := Lib.hid (B2.out.trans (hb.mono B2.out.size)); have T3 := Lib.hid (T2.out.below hb); have f0 := T3.out.c0; have f1 := T3.out.c1; have f2 := T3.out.c2; clear hb))
      all_goals (
        clear e0 e1 e2 t0 t1 t2
        go_wp2
        go_ret
        exact ⟨by rw [HE.out]; rfl, B3.out⟩)
end

section
open Go.RowKit

end

section
open Go.RowKit

end

section
open Go.RowKit

end

section
open Go.RowKit

end

end Go.Proofs.YtphkgnpkcfbnkabDoor
namespace Go.Proofs.YtphkgnpkcfbnkabDoor
section
open Go.RowKit

theorem fix_only {zss : List (List Int)} {Pk : List Int} : fixK zss Pk zss.length = rowsOf zss.length (onlyRow zss Pk) := rows_ext (by rw [fixK_len, rowsOf_len]) fun i hi => by
  rw [fixK_len] at hi
  rw [fixK_row hi, rowsOf_row hi]
  unfold onlyRow
  by_cases h : 0 ≤ nth Pk i
  · rw [if_pos ⟨hi, h⟩, if_pos h]
  · rw [if_neg (fun hh => h hh.2), if_neg h]

set_option linter.unusedSimpArgs false in
set_option maxHeartbeats 8000000 in
set_option maxRecDepth 100000 in
theorem OnlyBy_is {w : World} {v : Value} {O oO P oP Pk : List Int} {zss oN : List (List Int)} {aK : Option Addr} {r : Bool} (cK : Nat) (hr : onlyO O zss P Pk = oO ∧ onlyN O zss P Pk = oN ∧ onlyP O zss P Pk = oP ∧ onlyB O zss P Pk = r) (h : GameAt w v O zss P) (hK : IntsAt w aK Pk) :
    Calls Tryd.prog 55 #[v, .slice aK Pk.length cK] w (GivesGameB w oO oN oP r) := by
  have HGm := Lib.hid h
  have HKi := Lib.hid hK
  have hlK := hK.len
  obtain ⟨ao, an, ap, co, cn, cp, A, C, rfl, h1, h2, h3⟩ := h
  have hlO := h1.len
  obtain ⟨w1, hw1⟩ : ∃ y, y = (w.alloc (.cells #[.slice ao O.length co, .slice an zss.length cn, .slice ap P.length cp] 32)).alloc (.cells #[.slice none 0 0, .slice none 0 0, .slice none 0 0] 32) := ⟨_, rfl⟩
  have HW1 := Lib.hid hw1
  have B1 : Hid (Below w.heap.size w w1) := by rw [hw1]; exact below2 _ _ _
  have HS1 : Hid (w1.heap.size = w.heap.size + 1 + 1) := by rw [hw1]; simp [Hid]
  have T1 : Hid (Box3 w1 w.heap.size 32 (.slice ao O.length co) (.slice an zss.length cn) (.slice ap P.length cp)) := by rw [hw1]; exact (Box3.new w _ _ _ _).below (below1 _ _)
  have R1 : Hid (Box3 w1 (w.heap.size + 1) 32 (.slice none 0 0) (.slice none 0 0) (.slice none 0 0)) := by rw [hw1]; exact Box3.new2 (by simp) _ _ _ _
  have HAt : Hid (ArenaAt w (.agg #[.slice ao O.length co, .slice an zss.length cn]) O zss) := ⟨_, _, _, _, _, _, rfl, h1, h2⟩
  have HPi := Lib.hid h3
  clear hw1 h1 h2 h3 hK
  cases hp : parityB O zss P with
  | false =>
    have HE := Lib.hid (only_no hr (by unfold onlyB; rw [hp]; rfl))
    have HC := Lib.hid (ParityOk_is hp (HGm.out.below B1.out))
    clear hr hp
    go_enter Tryd.func55, Tryd.ntmps55
    go_wp2_with fail
    rw [← HW1.out]
    refine HC.out.mono ?_
    rintro e w2 ⟨rfl, hb⟩
    have B2 := Lib.hid (B1.out.trans (hb.mono B1.out.size))
    have R2 := Lib.hid (R1.out.below hb)
    have d0 := R2.out.c0
    have d1 := R2.out.c1
    have d2 := R2.out.c2
    have g0 := World.rowIs.frozen R2.out 0
    have g1 := World.rowIs.frozen R2.out 1
    have g2 := World.rowIs.frozen R2.out 2
    clear hb HC
    go_wp2
    exact bodyPost_ret (v := .tuple #[.agg #[.slice none 0 0, .slice none 0 0, .slice none 0 0], .bool false]) (by simp [results, Tryd.results55, go_sem, d0, d1, d2]) rfl
      ⟨_, by rw [HE.out.2.2.2], by rw [HE.out.1, HE.out.2.1, HE.out.2.2.1]; exact OwnGame.zero _ _ _, zero_stored3 B2.out (by omega)⟩
  | true =>
    have hpy := parityB_iff.1 hp
    have hzl : zss.length = O.length := hpy.1.2.2.1
    have hO256 : O.length ≤ 256 := hpy.1.2.1
    have HC := Lib.hid (ParityOk_is hp (HGm.out.below B1.out))
    by_cases hl : Pk.length = O.length
    · have HL := Lib.hid hl
      have HZL := Lib.hid hzl
      have hln : ((Pk.length : Int) != (O.length : Int)) = false := by rw [hl]; simp
      have HPB := Lib.hid hp
      have HR := Lib.hid hr
      have HO1 : Hid (0 < O.length) := hpy.1.1
      clear hr hp hl hzl hpy
      go_enter Tryd.func55, Tryd.ntmps55
      go_wp2_with fail
      rw [← HW1.out]
      refine HC.out.mono ?_
      rintro e w2 ⟨rfl, hb⟩
      have B2 := Lib.hid (B1.out.trans (hb.mono B1.out.size))
      have R2 := Lib.hid (R1.out.below hb)
      have T2 := Lib.hid (T1.out.below hb)
      have Hs12 : Hid (w1.heap.size ≤ w2.heap.size) := hb.size
      have t0 := T2.out.c0
      have t1 := T2.out.c1
      have t2 := T2.out.c2
      clear hb HC
      go_wp2
      clear t0 t1 t2
      go_loopw [23] (fun iv wr => ∃ k : Nat, k ≤ Pk.length ∧ iv = .int .i64 k ∧ Hid (∀ j, j < k → nth Pk j = -1 ∨ nth Pk j ∈ row zss j) ∧ Hid (Below w2.heap.size w2 wr)) (fun iv _ => Pk.length - (intOf iv).toNat)
      case atStart => exact ⟨0, Nat.zero_le _, rfl, fun j hj => absurd hj (Nat.not_lt_zero _), Below.refl _ _⟩
      case round =>
        obtain ⟨k, hk, rfl, HJ, HKB⟩ := hrel
        have BW := Lib.hid (B2.out.trans (HKB.out.mono B2.out.size))
        have TW := Lib.hid (T2.out.below HKB.out)
        have RW := Lib.hid (R2.out.below HKB.out)
        have t0 := TW.out.c0
        have t1 := TW.out.c1
        have t2 := TW.out.c2
        by_cases hlt : k < Pk.length
        · have hi1 : (k : Int) < Pk.length := by omega
          have hk0 : (0 : Int) ≤ (k : Int) := by omega
          obtain ⟨kb, ko, hka, hkc⟩ := (HKi.out.below BW.out).cell (by omega)
          have k1 := hkc k hlt
          obtain ⟨u, hu⟩ : ∃ u, u = nth Pk k := ⟨_, rfl⟩
          rw [← hu] at k1
          have HU := Lib.hid hu
          subst hka
          clear hkc hu
          by_cases hm : u = -1
          · subst hm
            have HJ2 : Hid (∀ j, j < k + 1 → nth Pk j = -1 ∨ nth Pk j ∈ row zss j) := fun j hj => by
              by_cases e : j = k
              · rw [e]; exact .inl HU.out.symm
              · exact HJ.out j (by omega)
            clear t0 t1 t2
            go_wp2
            go_roundw
            case rel => exact ⟨k + 1, by omega, by go_num, HJ2, HKB⟩
            case measure => simp [intOf]; omega
          · have hm1 : (u == -1) = false := beq_eq_false_iff_ne.2 hm
            have hm2 : (u != -1) = true := bne_iff_ne.2 hm
            cases hb : hasB (row zss k) u with
            | true =>
              have HLd := Lib.hid (fun (W : World) (hW : Below wr.heap.size wr W) => leads_is (w := W) (v := k) hb (by have := HL.out; have := HZL.out; omega) (HAt.out.below (BW.out.trans (hW.mono BW.out.size))))
              have HJ2 : Hid (∀ j, j < k + 1 → nth Pk j = -1 ∨ nth Pk j ∈ row zss j) := fun j hj => by
                by_cases e : j = k
                · rw [e]; exact .inr (by rw [← HU.out]; exact hasB_iff.1 hb)
                · exact HJ.out j (by omega)
              clear hm hb
              go_wp2_with (go_at_call 101; refine (HLd.out _ (Below.refl _ _)).mono ?_; rintro e w5 ⟨rfl, hb5⟩; have K5 := Lib.hid (HKB.out.trans (hb5.mono HKB.out.size)); clear hb5)
              go_roundw
              case rel => exact ⟨k + 1, by omega, by go_num, HJ2, K5⟩
              case measure => simp [intOf]; omega
            | false =>
              have HLd := Lib.hid (fun (W : World) (hW : Below wr.heap.size wr W) => leads_is (w := W) (v := k) hb (by have := HL.out; have := HZL.out; omega) (HAt.out.below (BW.out.trans (hW.mono BW.out.size))))
              have HE := Lib.hid (only_no HR.out (by
                unfold onlyB
                rw [picksB_no fun hh => ?_]
                · simp
                · rcases hh.2 k hlt with h | h
                  · exact hm (HU.out.trans h)
                  · rw [← HU.out, ← hasB_iff, hb] at h; cases h))
              clear hm hb
              go_wp2_with (go_at_call 101; refine (HLd.out _ (Below.refl _ _)).mono ?_; rintro e w5 ⟨rfl, hb5⟩; have K5 := Lib.hid (BW.out.trans (hb5.mono BW.out.size)); have R5 := Lib.hid (RW.out.below hb5); have d0 := R5.out.c0; have d1 := R5.out.c1; have d2 := R5.out.c2; have g0 := World.rowIs.frozen R5.out 0; have g1 := World.rowIs.frozen R5.out 1; have g2 := World.rowIs.frozen R5.out 2; clear hb5)
              exact bodyPost_ret (v := .tuple #[.agg #[.slice none 0 0, .slice none 0 0, .slice none 0 0], .bool false]) (by simp [results, Tryd.results55, go_sem, d0, d1, d2]) rfl
                ⟨_, by rw [HE.out.2.2.2], by rw [HE.out.1, HE.out.2.1, HE.out.2.2.1]; exact OwnGame.zero _ _ _, zero_stored3 K5.out (by omega)⟩
        · have hi1 : ¬ (k : Int) < Pk.length := by omega
          obtain rfl : k = Pk.length := by omega
          have HPk : Hid (PicksP zss Pk) := ⟨by rw [HL.out, HZL.out], fun j hj => HJ.out j hj⟩
          have HE := Lib.hid (only_yes HR.out (by unfold onlyB; rw [HPB.out, picksB_iff.2 HPk.out]; rfl))
          have HneG : Hid (∀ j, j < Pk.length → nth Pk j = -1 ∨ 0 ≤ nth Pk j) := fun j hj => by
            rcases HJ.out j hj with h | h
            · exact .inl h
            · right
              have hA := (parityB_iff.1 HPB.out).1
              obtain ⟨y, hy, _⟩ := (rowsP_of hA).inG j (by have := HL.out; have := HZL.out; omega) _ h
              omega
          clear t0 t1 t2
          go_wp2
          have HSw : Hid (∀ W', Below wr.heap.size wr W' → W'.cell? ⟨w.heap.size, 0, none⟩ = some (.slice ao O.length co) ∧ W'.cell? ⟨w.heap.size, 1, none⟩ = some (.slice an zss.length cn) ∧ W'.cell? ⟨w.heap.size, 2, none⟩ = some (.slice ap P.length cp)) := fun W' hb => by
            have m := TW.out.below hb
            exact ⟨m.c0, m.c1, m.c2⟩
          have Kd : Hid (Below wr.heap.size wr wr.drew) := (Below.refl _ _).drew
          refine wp_region_M (S := (fun W' => W'.cell? ⟨w.heap.size, 0, none⟩ = some (.slice ao O.length co) ∧ W'.cell? ⟨w.heap.size, 1, none⟩ = some (.slice an zss.length cn) ∧ W'.cell? ⟨w.heap.size, 2, none⟩ = some (.slice ap P.length cp))) (m := 8) (by kernel_rfl) (HSw.out _ Kd.out) (fun hHeld => ?_)
          refine wpAnyM_take (i := 0) (v := ?vm1) rfl (by kernel_rfl) (by decide) (by kernel_rfl) (by kernel_rfl) (by kernel_rfl) (fun _ _ _ h => h) (Or.inl ⟨by rfl, ?hm1⟩) (by assumption) ?_
          case hm1 => (intro w hSw; (try dsimp only at hSw); go_simp; first | done | with_reducible rfl)
          try simp only [Act.put, List.setIfInBounds_toArray, List.set_cons_zero, List.set_cons_succ]
          refine wpAnyM_take (i := 1) (v := ?vm2) rfl (by kernel_rfl) (by decide) (by kernel_rfl) (by kernel_rfl) (by kernel_rfl) (fun _ _ _ h => h) (Or.inl ⟨by rfl, ?hm2⟩) (by assumption) ?_
          case hm2 => (intro w hSw; (try dsimp only at hSw); go_simp; first | done | with_reducible rfl)
          try simp only [Act.put, List.setIfInBounds_toArray, List.set_cons_zero, List.set_cons_succ]
          refine wpAnyM_take (i := 2) (v := ?vm3) rfl (by kernel_rfl) (by decide) (by kernel_rfl) (by kernel_rfl) (by kernel_rfl) (fun _ _ _ h => h) (Or.inl ⟨by rfl, ?hm3⟩) (by assumption) ?_
          case hm3 => (intro w hSw; (try dsimp only at hSw); go_simp; first | done | with_reducible rfl)
          try simp only [Act.put, List.setIfInBounds_toArray, List.set_cons_zero, List.set_cons_succ]
          refine wpAnyM_take (i := 4) (v := ?vm4) rfl (by kernel_rfl) (by decide) (by kernel_rfl) (by kernel_rfl) (by kernel_rfl) (fun _ _ _ h => h) (Or.inl ⟨by rfl, ?hm4⟩) (by assumption) ?_
          case hm4 => (intro w hSw; (try dsimp only at hSw); go_simp; first | done | with_reducible rfl)
          try simp only [Act.put, List.setIfInBounds_toArray, List.set_cons_zero, List.set_cons_succ]
          refine wpAnyM_take (i := 5) (v := ?vm5) rfl (by kernel_rfl) (by decide) (by kernel_rfl) (by kernel_rfl) (by kernel_rfl) (fun _ _ _ h => h) (Or.inl ⟨by rfl, ?hm5⟩) (by assumption) ?_
          case hm5 => (intro w hSw; (try dsimp only at hSw); go_simp; first | done | with_reducible rfl)
          try simp only [Act.put, List.setIfInBounds_toArray, List.set_cons_zero, List.set_cons_succ]
          refine wpAnyM_one (i := 3) (by kernel_rfl) rfl (fun K hK => ?_)
          go_simp
          go_at_call 102
          refine (only_is cK (by have := HL.out; have := HZL.out; omega) (by have := HO1.out; have := HZL.out; omega) (by have := HZL.out; omega) HneG.out (HAt.out.below (BW.out.trans (Kd.out.mono BW.out.size))) (HKi.out.below (BW.out.trans (Kd.out.mono BW.out.size)))).mono ?_
          rintro e wa ⟨x, rfl, hx, hb⟩
          have X3 := Lib.hid hx
          obtain ⟨a1, e1, a2, e2, V, rfl, x1, x2, x3⟩ := hx.shape3
          rw [fixK_len]
          have Ka := Lib.hid (Kd.out.trans (hb.mono Kd.out.size))
          clear hx x1 x2 x3 hb
          go_wp2_with fail
          refine hK.out _ _ (fun _ => HSw.out _ Ka.out) (fun hHeld => ?_)
          have hHeld := hHeld (by decide)
          clear hK K
          try simp only [Act.put, List.setIfInBounds_toArray, List.set_cons_zero, List.set_cons_succ]
          refine wpAnyM_one (i := 6) (by kernel_rfl) rfl (fun K hK => ?_)
          go_simp
          go_at_call 62
          refine (Clone_is cp (HPi.out.below (BW.out.trans (Ka.out.mono BW.out.size)))).mono ?_
          rintro e wb ⟨y, rfl, hy, hb⟩
          have Y3 := Lib.hid hy
          obtain ⟨ya, yc, rfl, _, _⟩ := hy.shape
          have Kb := Lib.hid (Ka.out.trans (hb.mono Ka.out.size))
          have XB := Lib.hid (X3.out.below hb)
          have Sab : Hid (wa.heap.size ≤ wb.heap.size) := hb.size
          clear hy hb
          go_wp2_with fail
          refine hK.out _ _ (fun _ => HSw.out _ Kb.out) (fun hHeld => ?_)
          have hHeld := hHeld (by decide)
          clear hK K
          try simp only [Act.put, List.setIfInBounds_toArray, List.set_cons_zero, List.set_cons_succ]
          refine wpAnyM_take (i := 7) (v := ?vm6) rfl (by kernel_rfl) (by decide) (by kernel_rfl) (by kernel_rfl) (by kernel_rfl) (fun _ _ _ h => h) (Or.inl ⟨by rfl, ?hm6⟩) (by assumption) ?_
          case hm6 => (intro w hSw; (try dsimp only at hSw); go_simp; first | done | with_reducible rfl)
          try simp only [Act.put, List.setIfInBounds_toArray, List.set_cons_zero, List.set_cons_succ]
          have Bb := Lib.hid (BW.out.trans (Kb.out.mono BW.out.size))
          have Rb := Lib.hid (RW.out.below Kb.out)
          have s1 := HS1.out
          have s2 : w1.heap.size ≤ wr.heap.size := Nat.le_trans (Nat.le_trans (Nat.le_refl _) (show w1.heap.size ≤ w2.heap.size by have := R2.out; exact Hs12.out)) HKB.out.size
          have s3 : wr.drew.heap.size = wr.heap.size := rfl
          have s4 := Ka.out.size
          have hgame : OwnGame wb wr.heap.size wb.heap.size (.agg #[.slice a1 O.length e1, .slice a2 zss.length e2, .slice ya P.length yc]) O (rowsOf zss.length (onlyRow zss Pk)) P := by
            have h := OwnGame.of_parts (M := wa.heap.size) (O := O) (zss := fixK zss Pk zss.length) (P := P) XB.out (Y3.out.base (Nat.le_refl _)) (by omega) Sab.out
            rw [fix_only, rowsOf_len] at h
            exact h
          have hst := game_stored (w := w) (wr := wb) (t := w.heap.size + 1) (n := wr.heap.size) Rb.out hgame (by omega) (by omega) (by omega) Bb.out
          have HST := Lib.hid hst
          have d0 := Rb.out.c0
          have d1 := Rb.out.c1
          have d2 := Rb.out.c2
          have g0 := World.rowIs.frozen Rb.out 0
          have g1 := World.rowIs.frozen Rb.out 1
          have g2 := World.rowIs.frozen Rb.out 2
          clear hst hgame hHeld s1 s2 s3 s4
          refine wpAnyM_one (i := 8) (by kernel_rfl) rfl (fun K hK => ?_)
          go_simp
          refine hK.out _ _ (fun h => absurd h (by decide)) (fun _ => ?_)
          clear hK K
          try simp only [Act.put, List.setIfInBounds_toArray, List.set_cons_zero, List.set_cons_succ]
          refine wpAnyM_one (i := 9) (by kernel_rfl) rfl (fun K hK => ?_)
          go_simp
          refine hK.out _ _ (fun h => absurd h (by decide)) (fun _ => ?_)
          clear hK K
          try simp only [Act.put, List.setIfInBounds_toArray, List.set_cons_zero, List.set_cons_succ]
          refine wpAnyM_done (by kernel_rfl) ?_ _
          have u0 := HST.out.2.2.c0
          have u1 := HST.out.2.2.c1
          have u2 := HST.out.2.2.c2
          go_wp2
          exact bodyPost_ret (v := .tuple #[.agg #[.slice a1 O.length e1, .slice a2 zss.length e2, .slice ya P.length yc], .bool true]) (by simp [results, Tryd.results55, go_sem, u0, u1, u2]) rfl
            ⟨_, by rw [HE.out.2.2.2], by rw [HE.out.1, HE.out.2.1, HE.out.2.2.1]; exact HST.out.1, HST.out.2.1⟩
    · have HE := Lib.hid (only_no hr (by unfold onlyB; rw [picksB_no fun hh => hl (by rw [hh.1, hzl])]; simp))
      have hln : ((Pk.length : Int) != (O.length : Int)) = true := bne_iff_ne.2 (by omega)
      clear hr hp hl hzl hpy
      go_enter Tryd.func55, Tryd.ntmps55
      go_wp2_with fail
      rw [← HW1.out]
      refine HC.out.mono ?_
      rintro e w2 ⟨rfl, hb⟩
      have B2 := Lib.hid (B1.out.trans (hb.mono B1.out.size))
      have R2 := Lib.hid (R1.out.below hb)
      have T2 := Lib.hid (T1.out.below hb)
      have t0 := T2.out.c0
      have t1 := T2.out.c1
      have t2 := T2.out.c2
      have d0 := R2.out.c0
      have d1 := R2.out.c1
      have d2 := R2.out.c2
      have g0 := World.rowIs.frozen R2.out 0
      have g1 := World.rowIs.frozen R2.out 1
      have g2 := World.rowIs.frozen R2.out 2
      clear hb HC
      go_wp2
      exact bodyPost_ret (v := .tuple #[.agg #[.slice none 0 0, .slice none 0 0, .slice none 0 0], .bool false]) (by simp [results, Tryd.results55, go_sem, d0, d1, d2]) rfl
        ⟨_, by rw [HE.out.2.2.2], by rw [HE.out.1, HE.out.2.1, HE.out.2.2.1]; exact OwnGame.zero _ _ _, zero_stored3 B2.out (by omega)⟩
end
end Go.Proofs.YtphkgnpkcfbnkabDoor
namespace Go.Proofs.YtphkgnpkcfbnkabDoor
section
open Go.RowKit Go.Shelf
attribute [local go_sem] Oper.semAt_some

set_option maxRecDepth 100000 in
set_option maxHeartbeats 2000000 in
theorem AppendAll_is {w : World} {Bs : Nat} {I : Nat → Bool} (hT : TabW w) (hM : MaskAt w Bs I) :
    Calls Tryd.prog 143 #[.slice none 0 0, .func (.func 137) #[] #[.pointer (some ⟨Bs, 0, none⟩)]] w fun e W' => ∃ v, e = .returned v ∧ W'.ownsRow w.heap.size 2 1 v (markedK I 256).length ((markedK I 256).map (Value.int .i64)) ∧ Below w.heap.size w W' := by
  obtain ⟨i0, hi, hz0, hz1, hz2⟩ := info_parts info_int
  have hTl := hT.lt
  refine (callsIn_wide (n := 4)).1 ?_
  refine callsIn_of_wp_marks Tryd.func143 rfl trivial ?_ rfl
  simp only [Tryd.ntmps143, List.size_toArray, List.length_cons, List.length_nil, Nat.reduceAdd, Nat.reduceSub, Array.replicate_succ, Array.replicate_zero, List.push_toArray, List.append_toArray, List.nil_append, List.cons_append]
  gi_wp2
  have bO := Boxed.new w 22 (.slice none 0 0)
  have hB0 : Below w.heap.size w (w.alloc (.cells #[.slice none 0 0] 22)) := (Below.refl _ w).alloc (Nat.le_refl _) _
  refine wpIn_rangeFunc_ownG rfl (by omega) (gf := 137) (lb := #[.pointer (some ⟨Bs, 0, none⟩)]) rfl trivial (enters_of Tryd.func137 (by kernel_rfl) rfl)
    (all_stops 3 (by omega) Bs I (w.alloc (.cells #[.slice none 0 0] 22)) (hT.below hB0) (hM.below hB0)) StayT.trans (stayT_b (hT.below hB0)) (Below.refl _ _) (fun _ => rfl)
    (fun (pre : List (MemI I)) W => (∃ v, Boxed W w.heap.size 22 v ∧ W.ownsRow w.heap.size 2 1 v pre.length ((valI pre).map (Value.int .i64)) ∧ True) ∧ Below w.heap.size w W)
    (fun _ _ _ => False)
    (OwnFrom.and (Own.from (holdsRow_own w.heap.size w.heap.size 22 2 1 (fun pre : List (MemI I) => pre.length) (fun pre : List (MemI I) => (valI pre).map (Value.int .i64)) (fun _ _ => True)) _) (ownFrom_below (Nat.le_refl _) (by simp)))
    (fun _ _ _ _ _ hs _ _ => hs)
    ⟨⟨_, bO, World.ownsRow_nil _ _ _ _, trivial⟩, hB0⟩
    (fun x => { tmps := #[.slice none 0 0, .func (.func 137) #[] #[.pointer (some ⟨Bs, 0, none⟩)], .pointer (some ⟨w.heap.size, 0, none⟩), undef, .slice none 0 0, .int .i64 (x.1 : Int), .func (.func 137) #[] #[.pointer (some ⟨Bs, 0, none⟩)], .int .i64 (x.1 : Int), undef, undef, undef, undef, undef], defers := [] }) ?assign ?body ?done ?stop
  case assign =>
    intro l x W K hK
    dsimp only [encI]
    gi_wp2
    exact hK
  case body =>
    rintro l pre x W ⟨⟨v, hv, hrow, _⟩, hB⟩ hlt
    have hc := hv.cell
    gi_wp2_with (gi_at_builtin; refine wpListIn_append_own _ rfl _ _ 22 rfl w.heap.size 2 i0 (.int .i64 0) 1 8 Tryd.underlying22 hi hz0 hz1 hz2 rfl (by decide) _ _ _ rfl (hrow.alloc _) ⟨W.heap.size, 0, none⟩ 1 1 [.int .i64 (x.1 : Int)] rfl rfl (cell_one_new _ _ _) (by simp [Value.oneCell']) (by unfold maxLen; omega) (by omega) (by have := hB.size; simp; omega) ?_; intro v' w1 hown' hgrow _; obtain ⟨g', cap', rfl⟩ := ownsRow_succ hown'; obtain ⟨hv1, hv2, hr2, hk2, hb2⟩ := Boxed.appended hv (by decide) hrow hB.size (Nat.le_refl _) hown' hgrow; have hc1 := hv1.cell; have hf1 := hv1.frozen)
    exact ⟨hk2.from _, hb2.block _ hTl, ⟨_, hv2, by simpa [valI] using hr2, trivial⟩, hB.trans hb2⟩
  case done =>
    rintro D ys W hD hys ⟨⟨v, hv, hrow, _⟩, hB⟩ hK
    have hc := hv.cell
    have hlen : ys.length = (markedK I 256).length := by rw [← hys]; simp [valI]
    rw [hys, hlen] at hrow
    gi_wp2
    refine ⟨by simp, .inl ⟨_, _, rfl, run_takeDeferred hK, ?_⟩⟩
    exact ⟨_, results_tmp rfl _ _ _, v, rfl, ownsRow_putObj hrow _ hK rfl, hB.trans (belowK_b (w := w) (Nat.le_refl _) W D _ _ (by simp at hD; omega) hK rfl rfl)⟩
  case stop =>
    rintro D c pre W _ _ h _
    exact h.elim

set_option maxHeartbeats 1000000 in
theorem CollectAll_is {w : World} {Bs : Nat} {I : Nat → Bool} (hT : TabW w) (hM : MaskAt w Bs I) :
    Calls Tryd.prog 115 #[.func (.func 137) #[] #[.pointer (some ⟨Bs, 0, none⟩)]] w fun e W' => ∃ v, e = .returned v ∧ W'.ownsRow w.heap.size 2 1 v (markedK I 256).length ((markedK I 256).map (Value.int .i64)) ∧ Below w.heap.size w W' := by
  have HC := Lib.hid (AppendAll_is hT hM)
  clear hT hM
  go_enter Tryd.func115, Tryd.ntmps115
  go_wp2_with fail
  refine HC.out.mono ?_
  rintro e w1 ⟨v, rfl, hv, hb⟩
  have HV := Lib.hid (And.intro hv hb)
  clear hv hb
  go_wp2
  go_ret
  exact ⟨_, rfl, HV.out.1, HV.out.2⟩

set_option maxHeartbeats 1000000 in
theorem list_is {w : World} {I : Nat → Bool} (hT : TabW w) :
    Calls Tryd.prog 76 #[maskV I] w fun e W' => ∃ v, e = .returned v ∧ W'.ownsRow w.heap.size 2 1 v (markedK I 256).length ((markedK I 256).map (Value.int .i64)) ∧ Below w.heap.size w W' := by
  have HT := Lib.hid hT
  clear hT
  go_enter Tryd.func76, Tryd.ntmps76
  go_wp2_with fail
  refine (mask_all _ I).mono ?_
  rintro e w2 ⟨rfl, hw2⟩
  have B2 : Hid (Below w.heap.size w w2) := by rw [hw2]; exact below2 _ _ _
  have bM : Hid (MaskAt w2 (w.heap.size + 1) I) := by rw [hw2]; exact mask_new_at _ _ (by simp)
  have HS2 : Hid (w2.heap.size = w.heap.size + 2) := by rw [hw2]; simp [Hid]
  clear hw2
  go_wp2_with fail
  refine (CollectAll_is (HT.out.below B2.out) bM.out).mono ?_
  rintro e w3 ⟨v, rfl, hv, hb⟩
  have HV := Lib.hid (And.intro (ownsRow_base hv (show w.heap.size ≤ w2.heap.size by have := HS2.out; omega)) (B2.out.trans (hb.mono B2.out.size)))
  clear hv hb
  go_wp2
  go_ret
  exact ⟨_, rfl, HV.out.1, HV.out.2⟩
end
end Go.Proofs.YtphkgnpkcfbnkabDoor
