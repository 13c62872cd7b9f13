/-
  The draw of a plan (the model's l5DrawPlan): whatever it holds.
-/
import Derived.Test.YtokcinhopajniaaGreatDoorDraw1
import Derived.Deep.RegionHeld3
import Derived.Test.YtokcinhopajniaaGreatDoorDrawGameAny
import Derived.Test.YtokcinhopajniaaGreatDoorWinsSpec
import Derived.Test.YtokcinhopajniaaGreatDoorPlayTrue
import Derived.Test.YtokcinhopajniaaGreatDoorFixedSpec
import Derived.Test.YtokcinhopajniaaGreatDoorTrap1
namespace Go.Proofs.YtokcinhopajniaaGreatDoor
section
open Go.RowKit

theorem OwnInts.setAt {w : World} {B g cap n x : Nat} {zs : List Int} {y : Int} (h : OwnInts w B w.heap.size (.slice (some ⟨g, 0, none⟩) n cap) zs) (hn : n = zs.length) (hy : Fits y) (_hx : x < n) :
    OwnInts (w.setCell ⟨g, x, none⟩ (.int .i64 y)) B (w.setCell ⟨g, x, none⟩ (.int .i64 y)).heap.size (.slice (some ⟨g, 0, none⟩) n cap) (zs.set x y) := by
  subst hn
  have ho := h.own
  obtain ⟨hs, hgr⟩ := ho.stored x (.int .i64 y)
  have hl : (zs.set x y).length = zs.length := by simp
  have hm : (zs.map (Value.int .i64)).set x (.int .i64 y) = (zs.set x y).map (Value.int .i64) := by rw [List.map_set]
  rw [hm] at hs
  refine OwnInts.mk' (by rw [hl]; exact hs) (by rw [hl]; exact h.len) fun k hk => ?_
  have hm2 := nth_mem hk
  generalize nth (zs.set x y) k = z at hm2
  rcases List.mem_or_eq_of_mem_set hm2 with hm2 | rfl
  · obtain ⟨j, hj, e⟩ := mem_nth.1 hm2
    rw [← e]; exact h.fits j hj
  · exact hy

/-- A list of one's own, as long as asked. -/
def RollsList (w : World) (B p : Nat) (ab : Option Addr) (cb : Nat) (bs : List Int) (n : Nat) (e : Ending) (w' : World) : Prop :=
  ∃ v Q i h, e = .returned v ∧ OwnInts w' w.heap.size w'.heap.size v Q ∧ Q.length = n ∧ Dr w' B p ab cb bs i h ∧ Only (fun b => b = p) w w'

set_option maxHeartbeats 16000000 in
set_option maxRecDepth 100000 in
theorem l5DrawPlan_is {w : World} {B p : Nat} {ab : Option Addr} {cb : Nat} {bs : List Int} {i : Nat} {h : Int} {ao an : Option Addr} {co cn : Nat} {A : Nat → Option Addr} {C : Nat → Nat} {O : List Int} {zss : List (List Int)} {who : Int} {full : Bool} (d : Dr w B p ab cb bs i h)
    (hap : ∀ W', Only (fun b => b = p) w W' → IntsAt W' ao O ∧ RowsAt W' an A C zss) (hO : O.length ≤ 1048576) :
    Calls Tryz.prog 77 #[.pointer (some ⟨p, 0, none⟩), .agg #[.slice ao O.length co, .slice an zss.length cn], .int .i64 who, .bool full] w (RollsList w B p ab cb bs O.length) := by
  obtain ⟨j0, hi, hz0, hz1, hz2⟩ := info_parts info_int
  have hp := d.lt
  have hpB := d.low
  obtain ⟨h1, h2⟩ := hap w (Only.refl _ _)
  have hlO := h1.len
  have hlN := h2.len
  have HAP := Lib.hid hap
  obtain ⟨w0, hw0⟩ : ∃ y, y = w.alloc (.cells #[.slice ao O.length co, .slice an zss.length cn] 30) := ⟨_, rfl⟩
  have HW0 := Lib.hid hw0
  have hb0 : Below w.heap.size w w0 := by rw [hw0]; exact below1 _ _
  have hs0 : w0.heap.size = w.heap.size + 1 := by rw [hw0]; simp
  have hT0 : Box2 w0 w.heap.size 30 (.slice ao O.length co) (.slice an zss.length cn) := by rw [hw0]; exact Box2.new _ _ _ _
  obtain ⟨w1, hw1⟩ : ∃ y, y = w0.alloc (.cells #[] 2) := ⟨_, rfl⟩
  have HW1 := Lib.hid hw1
  have hb1 : Below w0.heap.size w0 w1 := by rw [hw1]; exact below1 _ _
  have U1 : Hid (OwnInts w1 (w.heap.size + 1) w1.heap.size (.slice (some ⟨w.heap.size + 1, 0, none⟩) 0 0) []) := by
    rw [hw1, ← hs0]
    exact OwnInts.mk' (World.ownsRow_made w0 #[] 0 (Nat.le_refl _) (by unfold maxLen; omega) rfl) (by simp) (fun k hk => absurd hk (by simp))
  have T1 := Lib.hid (hT0.below hb1)
  have D1 := Lib.hid ((d.below hb0).below hb1)
  have O1 : Hid (Only (fun b => b = p) w w1) := (Only.of_below hb0).trans (Only.of_below hb1)
  have HS0 := Lib.hid hs0
  clear hw0 hw1 hb0 hb1 hT0 hs0 d h1 h2 hap
  go_enter Tryz.func77, Tryz.ntmps77
  go_wp2
  rw [← HW0.out, ← HS0.out, ← HW1.out, HS0.out]
  go_loopw [9, 10] (fun ov iv wr => ∃ (k : Nat) (uu : Value) (Q : List Int) (i' : Nat) (h' : Int), uu = ov ∧ k ≤ O.length ∧ iv = .int .i64 k ∧ Q.length = k ∧ Hid (OwnInts wr (w.heap.size + 1) wr.heap.size uu Q) ∧ Hid (Dr wr B p ab cb bs i' h') ∧ Hid (Only (fun b => b = p) w wr) ∧ Hid (Box2 wr w.heap.size 30 (.slice ao O.length co) (.slice an zss.length cn))) (fun _ iv _ => O.length - (intOf iv).toNat)
  case atStart => exact ⟨0, _, [], i, h, rfl, Nat.zero_le _, rfl, rfl, U1, D1, O1, T1⟩
  case round =>
    clear U1 D1 O1 T1
    obtain ⟨k, uu, Q, i', h', hu0, hk, rfl, hql, HU, HD, HO, HT⟩ := hrel
    subst hu0
    have hq1 : Q.length ≤ 1048576 := by omega
    have HQL := Lib.hid hql
    clear hql
    have hsz := HO.out.size
    have htl := HT.out.lt
    have t0 := HT.out.cell0
    have t1 := HT.out.cell1
    by_cases hlt : k < O.length
    · have hi1 : (k : Int) < O.length := by omega
      have hk0 : (0 : Int) ≤ (k : Int) := by omega
      obtain ⟨hoi, hni⟩ := HAP.out wr HO.out
      obtain ⟨ob, oo, hoa, hoc⟩ := hoi.cell (by omega)
      have o1 := hoc k hlt
      obtain ⟨o, ho⟩ : ∃ o, o = nth O k := ⟨_, rfl⟩
      rw [← ho] at o1
      subst hoa
      clear hoc ho hoi
      by_cases e1 : o = who
      · have he1 : (o == who) = true := by simpa using e1
        by_cases hkz : k < zss.length
        · have hz1' : (k : Int) < zss.length := by omega
          obtain ⟨nb, no, hna, hnc⟩ := hni.cell (by omega)
          have n1 := hnc k hkz
          obtain ⟨m, hm⟩ : ∃ m, m = (row zss k).length := ⟨_, rfl⟩
          have HM := Lib.hid hm
          have hml : m ≤ 17592186044416 := by rw [hm]; exact (hni.rows k hkz).len
          rw [← hm] at n1
          subst hna
          clear hnc
          by_cases hm0 : 0 < m
          · have hm1 : (0 : Int) < (m : Int) := by omega
            have HNC : Hid (∀ W', Only (fun b => b = p) w W' → W'.cell? ⟨nb, no + k, none⟩ = some (.slice (A k) m (C k))) := fun W' ho' => by
              obtain ⟨b', o', ha', hc'⟩ := (HAP.out W' ho').2.cell (by omega)
              cases ha'
              rw [hm]; exact hc' k hkz
            have HRC : Hid (∀ W', Only (fun b => b = p) w W' → ∀ x, x < m → ∃ rb ro, A k = some ⟨rb, ro, none⟩ ∧ W'.cell? ⟨rb, ro + x, none⟩ = some (.int .i64 (nth (row zss k) x))) := fun W' ho' x hx => by
              obtain ⟨b', o', ha', hc'⟩ := ((HAP.out W' ho').2.rows k hkz).cell (by omega)
              exact ⟨b', o', ha', hc' x (by omega)⟩
            have HRF : Hid (∀ x, x < m → Fits (nth (row zss k) x)) := fun x hx => (hni.rows k hkz).fits x (by omega)
            obtain ⟨rb, ro, hra, -⟩ := HRC.out wr HO.out 0 hm0
            rw [hra] at HNC n1
            have HRX : Hid (∀ W', Only (fun b => b = p) w W' → ∀ x, x < m → W'.cell? ⟨rb, ro + x, none⟩ = some (.int .i64 (nth (row zss k) x))) := fun W' ho' x hx => by
              obtain ⟨rb', ro', ha', hc'⟩ := HRC.out W' ho' x hx
              rw [hra] at ha'
              simp only [Option.some.injEq, Addr.mk.injEq] at ha'
              obtain ⟨rfl, rfl, _⟩ := ha'
              exact hc'
            clear hm hra HRC hni e1
            cases full with
            | true =>
              have Oda : Hid (Only (fun b => b = p) w wr.drew) := HO.out.trans (Only.of_below (Below.refl _ _).drew)
              have Tda := Lib.hid (HT.out.below (Below.refl _ _).drew)
              have Uda := Lib.hid ((HU.out.below (Below.refl _ _).drew).retop)
              have Dda := Lib.hid (HD.out.below (Below.refl _ _).drew)
              have HBw := Lib.hid (l1Below_is (n := (m : Int)) (hi := (m : Int) - 1) Dda.out (by omega) (fun _ => rfl) (by omega))
              have t1' := Tda.out.cell1
              have n1' := HNC.out _ Oda.out
              have r1' := HRX.out _ Oda.out
              go_wp2
              go_region_held3 (fun w' => w'.cell? ⟨w.heap.size, 1, none⟩ = some (.slice (some ⟨nb, no, none⟩) zss.length cn) ∧ w'.cell? ⟨nb, no + k, none⟩ = some (.slice (some ⟨rb, ro, none⟩) m (C k)) ∧ ∀ x, x < m → w'.cell? ⟨rb, ro + x, none⟩ = some (.int .i64 (nth (row zss k) x)))
                (first
                  | exact ⟨t1', n1', r1'⟩
                  | exact ⟨d1, d2, d3⟩
                  | go_keep)
                (first
                  | (go_at_call 76; refine HBw.out.mono ?_; rintro e w7 ⟨x0, j2, g2, rfl, hx0, hx1, hd, ho⟩; obtain ⟨x, rfl⟩ := Int.eq_ofNat_of_zero_le hx0; have hxm : x < m := (by omega); have hxi : (x : Int) < (m : Int) := (by omega); have O7 := Lib.hid (Oda.out.trans ho); have D7 := Lib.hid hd; have U7 := Lib.hid ((Uda.out.only ho (fun g hg e => (by have := (Uda.out.own.lt g hg).1; omega))).retop); have T7 := Lib.hid (Tda.out.only ho (by omega)); have d1 := T7.out.cell1; have d2 := HNC.out _ O7.out; have d3 := HRX.out _ O7.out; have e1 := d3 x hxm; clear hx0 hx1 hd ho))
              obtain ⟨to, hto⟩ : ∃ to, to = nth (row zss k) x := ⟨_, rfl⟩
              have HTF : Hid (Fits to) := by rw [hto]; exact HRF.out x hxm
              rw [← hto]
              clear hto t1' n1' r1' d1 d2 d3 e1
              go_wp2_with (at_builtin; refine wpList_append_own_at _ rfl _ _ 27 rfl (w.heap.size + 1) 2 j0 (.int .i64 0) 1 8 Tryz.underlying27 hi hz0 hz1 hz2 rfl (by decide) _ _ _ rfl (U7.out.own.alloc _) ⟨w7.heap.size, 0, none⟩ 1 1 [.int .i64 to] rfl rfl ?c1 ?c2 ?c3 ?c4 ?c5 ?_)
              try (case c1 => exact cell_one_new _ _ _)
              try (case c2 => first | rfl | (intro u hu; simp at hu; subst hu; rfl))
              case c3 => unfold maxLen; omega
              case c4 => omega
              try (case c5 => have := O7.out.size; have := T7.out.lt; first | (simp; omega) | omega)
              intro v' w9 hown hgrow _ _
              have U9 := Lib.hid (U7.out.snoc (x := to) HTF.out (by omega) hown)
              have hg : Only (fun b => w.heap.size + 1 ≤ b) w7 w9 := (Only.of_below (below1 w7 _)).trans ((Only.of_grown hgrow).mono fun b hb => (U7.out.own.lt b hb).1)
              have D9 := Lib.hid (D7.out.only hg (fun b hb => by omega))
              have O9 := Lib.hid (O7.out.new hg (fun b hb => .inr (by omega)))
              have T9 := Lib.hid (T7.out.only hg (by omega))
              have hl9 : (Q ++ [to]).length = k + 1 := by have := HQL.out; simp; omega
              have HL9 := Lib.hid hl9
              clear hown hgrow hg hl9
              go_wp2
              go_roundw
              case rel => exact ⟨k + 1, _, Q ++ [to], _, _, rfl, by omega, by go_num, HL9.out, U9, D9, O9, T9⟩
              case measure => simp [intOf]; omega
            | false =>
              go_wp2_with fail
              refine (l1Once_is HD.out (by omega) (by omega)).mono ?_
              rintro e wq ⟨r, i1, g1, rfl, hd, ho⟩
              have Dq := Lib.hid hd
              have Oq := Lib.hid (HO.out.trans ho)
              have Uq := Lib.hid ((HU.out.only ho (fun g hg e => by have := (HU.out.own.lt g hg).1; omega)).retop)
              have Tq := Lib.hid (HT.out.only ho (by omega))
              have hsq := Oq.out.size
              clear hd ho HD HO HU HT t0 t1 o1 n1
              cases r with
              | true =>
                go_wp2_with (at_builtin; refine wpList_append_own_at _ rfl _ _ 27 rfl (w.heap.size + 1) 2 j0 (.int .i64 0) 1 8 Tryz.underlying27 hi hz0 hz1 hz2 rfl (by decide) _ _ _ rfl (Uq.out.own.alloc _) ⟨wq.heap.size, 0, none⟩ 1 1 [.int .i64 (-1)] rfl rfl ?c1 ?c2 ?c3 ?c4 ?c5 ?_)
                try (case c1 => exact cell_one_new _ _ _)
                try (case c2 => first | rfl | (intro u hu; simp at hu; subst hu; rfl))
                case c3 => unfold maxLen; omega
                case c4 => omega
                try (case c5 => have := Oq.out.size; have := Tq.out.lt; first | (simp; omega) | omega)
                intro v' w9 hown hgrow _ _
                have U9 := Lib.hid (Uq.out.snoc (x := (-1)) (by unfold Fits; omega) (by omega) hown)
                have hg : Only (fun b => w.heap.size + 1 ≤ b) wq w9 := (Only.of_below (below1 wq _)).trans ((Only.of_grown hgrow).mono fun b hb => (Uq.out.own.lt b hb).1)
                have D9 := Lib.hid (Dq.out.only hg (fun b hb => by omega))
                have O9 := Lib.hid (Oq.out.new hg (fun b hb => .inr (by omega)))
                have T9 := Lib.hid (Tq.out.only hg (by omega))
                have hl9 : (Q ++ [(-1)]).length = k + 1 := by have := HQL.out; simp; omega
                have HL9 := Lib.hid hl9
                clear hown hgrow hg hl9
                go_wp2
                go_roundw
                case rel => exact ⟨k + 1, _, Q ++ [(-1)], _, _, rfl, by omega, by go_num, HL9.out, U9, D9, O9, T9⟩
                case measure => simp [intOf]; omega
              | false =>
                have Odb : Hid (Only (fun b => b = p) w wq.drew) := Oq.out.trans (Only.of_below (Below.refl _ _).drew)
                have Tdb := Lib.hid (Tq.out.below (Below.refl _ _).drew)
                have Udb := Lib.hid ((Uq.out.below (Below.refl _ _).drew).retop)
                have Ddb := Lib.hid (Dq.out.below (Below.refl _ _).drew)
                have HBw := Lib.hid (l1Below_is (n := (m : Int)) (hi := (m : Int) - 1) Ddb.out (by omega) (fun _ => rfl) (by omega))
                have t1' := Tdb.out.cell1
                have n1' := HNC.out _ Odb.out
                have r1' := HRX.out _ Odb.out
                go_wp2
                go_region_held3 (fun w' => w'.cell? ⟨w.heap.size, 1, none⟩ = some (.slice (some ⟨nb, no, none⟩) zss.length cn) ∧ w'.cell? ⟨nb, no + k, none⟩ = some (.slice (some ⟨rb, ro, none⟩) m (C k)) ∧ ∀ x, x < m → w'.cell? ⟨rb, ro + x, none⟩ = some (.int .i64 (nth (row zss k) x)))
                  (first
                    | exact ⟨t1', n1', r1'⟩
                    | exact ⟨d1, d2, d3⟩
                    | go_keep)
                  (first
                    | (go_at_call 76; refine HBw.out.mono ?_; rintro e w7 ⟨x0, j2, g2, rfl, hx0, hx1, hd, ho⟩; obtain ⟨x, rfl⟩ := Int.eq_ofNat_of_zero_le hx0; have hxm : x < m := (by omega); have hxi : (x : Int) < (m : Int) := (by omega); have O7 := Lib.hid (Odb.out.trans ho); have D7 := Lib.hid hd; have U7 := Lib.hid ((Udb.out.only ho (fun g hg e => (by have := (Udb.out.own.lt g hg).1; omega))).retop); have T7 := Lib.hid (Tdb.out.only ho (by omega)); have d1 := T7.out.cell1; have d2 := HNC.out _ O7.out; have d3 := HRX.out _ O7.out; have e1 := d3 x hxm; clear hx0 hx1 hd ho))
                obtain ⟨to, hto⟩ : ∃ to, to = nth (row zss k) x := ⟨_, rfl⟩
                have HTF : Hid (Fits to) := by rw [hto]; exact HRF.out x hxm
                rw [← hto]
                clear hto t1' n1' r1' d1 d2 d3 e1
                go_wp2_with (at_builtin; refine wpList_append_own_at _ rfl _ _ 27 rfl (w.heap.size + 1) 2 j0 (.int .i64 0) 1 8 Tryz.underlying27 hi hz0 hz1 hz2 rfl (by decide) _ _ _ rfl (U7.out.own.alloc _) ⟨w7.heap.size, 0, none⟩ 1 1 [.int .i64 to] rfl rfl ?c1 ?c2 ?c3 ?c4 ?c5 ?_)
                try (case c1 => exact cell_one_new _ _ _)
                try (case c2 => first | rfl | (intro u hu; simp at hu; subst hu; rfl))
                case c3 => unfold maxLen; omega
                case c4 => omega
                try (case c5 => have := O7.out.size; have := T7.out.lt; first | (simp; omega) | omega)
                intro v' w9 hown hgrow _ _
                have U9 := Lib.hid (U7.out.snoc (x := to) HTF.out (by omega) hown)
                have hg : Only (fun b => w.heap.size + 1 ≤ b) w7 w9 := (Only.of_below (below1 w7 _)).trans ((Only.of_grown hgrow).mono fun b hb => (U7.out.own.lt b hb).1)
                have D9 := Lib.hid (D7.out.only hg (fun b hb => by omega))
                have O9 := Lib.hid (O7.out.new hg (fun b hb => .inr (by omega)))
                have T9 := Lib.hid (T7.out.only hg (by omega))
                have hl9 : (Q ++ [to]).length = k + 1 := by have := HQL.out; simp; omega
                have HL9 := Lib.hid hl9
                clear hown hgrow hg hl9
                go_wp2
                go_roundw
                case rel => exact ⟨k + 1, _, Q ++ [to], _, _, rfl, by omega, by go_num, HL9.out, U9, D9, O9, T9⟩
                case measure => simp [intOf]; omega
          · have hm1 : ¬ (0 : Int) < (m : Int) := by omega
            clear e1 hm hni
            go_wp2_with (at_builtin; refine wpList_append_own_at _ rfl _ _ 27 rfl (w.heap.size + 1) 2 j0 (.int .i64 0) 1 8 Tryz.underlying27 hi hz0 hz1 hz2 rfl (by decide) _ _ _ rfl (HU.out.own.alloc _) ⟨wr.heap.size, 0, none⟩ 1 1 [.int .i64 (-1)] rfl rfl ?c1 ?c2 ?c3 ?c4 ?c5 ?_)
            try (case c1 => exact cell_one_new _ _ _)
            try (case c2 => first | rfl | (intro u hu; simp at hu; subst hu; rfl))
            case c3 => unfold maxLen; omega
            case c4 => omega
            try (case c5 => have := HO.out.size; have := HT.out.lt; first | (simp; omega) | omega)
            intro v' w9 hown hgrow _ _
            have U9 := Lib.hid (HU.out.snoc (x := (-1)) (by unfold Fits; omega) (by omega) hown)
            have hg : Only (fun b => w.heap.size + 1 ≤ b) wr w9 := (Only.of_below (below1 wr _)).trans ((Only.of_grown hgrow).mono fun b hb => (HU.out.own.lt b hb).1)
            have D9 := Lib.hid (HD.out.only hg (fun b hb => by omega))
            have O9 := Lib.hid (HO.out.new hg (fun b hb => .inr (by omega)))
            have T9 := Lib.hid (HT.out.only hg (by omega))
            have hl9 : (Q ++ [(-1)]).length = k + 1 := by have := HQL.out; simp; omega
            have HL9 := Lib.hid hl9
            clear hown hgrow hg hl9
            go_wp2
            go_roundw
            case rel => exact ⟨k + 1, _, Q ++ [(-1)], _, _, rfl, by omega, by go_num, HL9.out, U9, D9, O9, T9⟩
            case measure => simp [intOf]; omega
        · have hz1' : ¬ (k : Int) < zss.length := by omega
          clear e1 hni
          go_wp2_with (at_builtin; refine wpList_append_own_at _ rfl _ _ 27 rfl (w.heap.size + 1) 2 j0 (.int .i64 0) 1 8 Tryz.underlying27 hi hz0 hz1 hz2 rfl (by decide) _ _ _ rfl (HU.out.own.alloc _) ⟨wr.heap.size, 0, none⟩ 1 1 [.int .i64 (-1)] rfl rfl ?c1 ?c2 ?c3 ?c4 ?c5 ?_)
          try (case c1 => exact cell_one_new _ _ _)
          try (case c2 => first | rfl | (intro u hu; simp at hu; subst hu; rfl))
          case c3 => unfold maxLen; omega
          case c4 => omega
          try (case c5 => have := HO.out.size; have := HT.out.lt; first | (simp; omega) | omega)
          intro v' w9 hown hgrow _ _
          have U9 := Lib.hid (HU.out.snoc (x := (-1)) (by unfold Fits; omega) (by omega) hown)
          have hg : Only (fun b => w.heap.size + 1 ≤ b) wr w9 := (Only.of_below (below1 wr _)).trans ((Only.of_grown hgrow).mono fun b hb => (HU.out.own.lt b hb).1)
          have D9 := Lib.hid (HD.out.only hg (fun b hb => by omega))
          have O9 := Lib.hid (HO.out.new hg (fun b hb => .inr (by omega)))
          have T9 := Lib.hid (HT.out.only hg (by omega))
          have hl9 : (Q ++ [(-1)]).length = k + 1 := by have := HQL.out; simp; omega
          have HL9 := Lib.hid hl9
          clear hown hgrow hg hl9
          go_wp2
          go_roundw
          case rel => exact ⟨k + 1, _, Q ++ [(-1)], _, _, rfl, by omega, by go_num, HL9.out, U9, D9, O9, T9⟩
          case measure => simp [intOf]; omega
      · have he1 : (o == who) = false := beq_eq_false_iff_ne.2 e1
        clear e1 hni
        go_wp2_with (at_builtin; refine wpList_append_own_at _ rfl _ _ 27 rfl (w.heap.size + 1) 2 j0 (.int .i64 0) 1 8 Tryz.underlying27 hi hz0 hz1 hz2 rfl (by decide) _ _ _ rfl (HU.out.own.alloc _) ⟨wr.heap.size, 0, none⟩ 1 1 [.int .i64 (-1)] rfl rfl ?c1 ?c2 ?c3 ?c4 ?c5 ?_)
        try (case c1 => exact cell_one_new _ _ _)
        try (case c2 => first | rfl | (intro u hu; simp at hu; subst hu; rfl))
        case c3 => unfold maxLen; omega
        case c4 => omega
        try (case c5 => have := HO.out.size; have := HT.out.lt; first | (simp; omega) | omega)
        intro v' w9 hown hgrow _ _
        have U9 := Lib.hid (HU.out.snoc (x := (-1)) (by unfold Fits; omega) (by omega) hown)
        have hg : Only (fun b => w.heap.size + 1 ≤ b) wr w9 := (Only.of_below (below1 wr _)).trans ((Only.of_grown hgrow).mono fun b hb => (HU.out.own.lt b hb).1)
        have D9 := Lib.hid (HD.out.only hg (fun b hb => by omega))
        have O9 := Lib.hid (HO.out.new hg (fun b hb => .inr (by omega)))
        have T9 := Lib.hid (HT.out.only hg (by omega))
        have hl9 : (Q ++ [(-1)]).length = k + 1 := by have := HQL.out; simp; omega
        have HL9 := Lib.hid hl9
        clear hown hgrow hg hl9
        go_wp2
        go_roundw
        case rel => exact ⟨k + 1, _, Q ++ [(-1)], _, _, rfl, by omega, by go_num, HL9.out, U9, D9, O9, T9⟩
        case measure => simp [intOf]; omega
    · have hi1 : ¬ (k : Int) < O.length := by omega
      have hkk : Q.length = O.length := by have := HQL.out; omega
      have HKK := Lib.hid hkk
      clear hkk
      go_wp2_with fail
      refine (l1Once_is HD.out (by omega) (by omega)).mono ?_
      rintro e w2 ⟨r, i1, g1, rfl, hd, ho⟩
      have D2 := Lib.hid hd
      have O2 := Lib.hid (HO.out.trans ho)
      have U2 := Lib.hid ((HU.out.only ho (fun g hg e => by have := (HU.out.own.lt g hg).1; omega)).retop)
      have hs2 := O2.out.size
      clear hd ho HD HO HU HT t0 t1
      obtain ⟨ua, uc, hus, _, hug⟩ := U2.out.shape
      subst hus
      cases r with
      | false =>
        go_wp2
        go_ret
        exact ⟨_, Q, i1, g1, rfl, U2.out.base (by omega), HKK.out, D2.out, O2.out⟩
      | true =>
        by_cases hq0 : 0 < Q.length
        · have hq2 : (0 : Int) < (Q.length : Int) := by omega
          obtain ⟨ug, hua, hugB, -, -, hfz⟩ := hug hq0
          subst hua
          have HFZ := Lib.hid hfz
          clear hug hfz
          go_wp2_with fail
          refine (l1Below_is (hi := (Q.length : Int) - 1) D2.out (by omega) (fun _ => rfl) (by omega)).mono ?_
          rintro e w3 ⟨x, i3, g3, rfl, hx0, hx1, hd, ho⟩
          obtain ⟨y, rfl⟩ := Int.eq_ofNat_of_zero_le hx0
          have hyl : y < Q.length := by omega
          have hy1 : (y : Int) < Q.length := by omega
          have hy0 : (0 : Int) ≤ (y : Int) := by omega
          have D3 := Lib.hid hd
          have O3 := Lib.hid (O2.out.trans ho)
          have U3 := Lib.hid ((U2.out.only ho (fun g hg e => by have := (U2.out.own.lt g hg).1; omega)).retop)
          clear hd ho hx0 hx1 D2 O2 U2
          go_wp2_with fail
          refine (l1From_is (lo := -2) (hi := 9) D3.out (by omega) (by omega) (by omega)).mono ?_
          rintro e w4 ⟨z, i4, g4, rfl, hz0', hz1'', hd, ho⟩
          have D4 := Lib.hid hd
          have O4 := Lib.hid (O3.out.trans ho)
          have U4 := Lib.hid ((U3.out.only ho (fun g hg e => by have := (U3.out.own.lt g hg).1; omega)).retop)
          have uc4 : w4.cell? ⟨ug, y, none⟩ = some (.int .i64 (nth Q y)) := by
            have h := U4.out.own.cellAt y (by omega)
            rw [h]; simp [nth, hyl]
          have uf4 : w4.frozen? ⟨ug, y, none⟩ = false := U4.out.own.frozenAt y
          have U5 := Lib.hid (U4.out.setAt (x := y) (y := z) rfl (by unfold Fits; omega) hyl)
          have hS : Only (fun b => w.heap.size + 1 ≤ b) w4 (w4.setCell ⟨ug, y, none⟩ (.int .i64 z)) := Only.setCell (S := fun b => w.heap.size + 1 ≤ b) (Only.refl _ _) (p := ⟨ug, y, none⟩) hugB _
          have D5 := Lib.hid (D4.out.only hS (fun b hb => by omega))
          have O5 := Lib.hid (O4.out.new hS (fun b hb => .inr (by omega)))
          have HL5 : Hid ((Q.set y z).length = O.length) := by rw [List.length_set]; exact HKK.out
          clear hd ho hS hz0' hz1'' D3 O3 U3 D4 O4
          go_wp2
          go_ret
          exact ⟨_, Q.set y z, i4, g4, rfl, U5.out.base (by omega), HL5.out, D5.out, O5.out⟩
        · have hq2 : ¬ (0 : Int) < (Q.length : Int) := by omega
          go_wp2
          go_ret
          exact ⟨_, Q, i1, g1, rfl, U2.out.base (by omega), HKK.out, D2.out, O2.out⟩
end

section
open Go.RowKit

/-- The result's box takes a game: that box alone turns. -/
theorem case_stored {wr : World} {t : Nat} {x y z a0 a1 a2 : Value} (hR : Box3 wr t 32 x y z) :
    Box3 (((wr.setCell ⟨t, 0, none⟩ a0).setCell ⟨t, 1, none⟩ a1).setCell ⟨t, 2, none⟩ a2) t 32 a0 a1 a2 ∧ Only (fun b => b = t) wr (((wr.setCell ⟨t, 0, none⟩ a0).setCell ⟨t, 1, none⟩ a1).setCell ⟨t, 2, none⟩ a2) :=
  ⟨World.rowIs.congr (((World.rowIs.set hR 0 a0).set 1 a1).set 2 a2) fun i hi => by
    have h3 : i = 0 ∨ i = 1 ∨ i = 2 := by omega
    rcases h3 with rfl | rfl | rfl <;> simp [tri],
   (((Only.refl (fun b => b = t) wr).setCell (p := ⟨t, 0, none⟩) rfl _).setCell (p := ⟨t, 1, none⟩) rfl _).setCell (p := ⟨t, 2, none⟩) rfl _⟩

/-- A game, a player, a region and a plan, as they read. -/
def RollsCase (w : World) (B p : Nat) (ab : Option Addr) (cb : Nat) (bs : List Int) (e : Ending) (w' : World) : Prop :=
  ∃ ao an ap co cn cp A C O zss P x aS cS S aQ cQ Q, e = .returned (.tuple #[.agg #[.slice ao (List.length O) co, .slice an (List.length zss) cn, .slice ap (List.length P) cp], .int .i64 x, .slice aS (List.length S) cS, .slice aQ (List.length Q) cQ]) ∧ (∀ W', Only (fun b => b ≤ w.heap.size) w' W' → IntsAt W' ao O ∧ RowsAt W' an A C zss ∧ IntsAt W' ap P ∧ IntsAt W' aS S ∧ IntsAt W' aQ Q) ∧ (x = 0 ∨ x = 1) ∧ O.length ≤ 300 ∧ zss.length ≤ 300 ∧ P.length ≤ 300 ∧ Dwn w w' B p ab cb bs

theorem dw_from {n : Int} : ∀ (zs : List Int) (l : Int), zs.Pairwise (· < ·) → (∀ x ∈ zs, l < x ∧ x < n) → setFrom n l zs = true
  | [], _, _, _ => rfl
  | z :: r, l, hp, hb => by
    obtain ⟨h1, h2⟩ := List.pairwise_cons.1 hp
    have hz := hb z (by simp)
    rw [setFrom, decide_eq_true hz]
    exact dw_from r z h2 fun x hx => ⟨h1 x hx, (hb x (by simp [hx])).2⟩
theorem dw_set {n : Int} {zs : List Int} (hp : zs.Pairwise (· < ·)) (hb : ∀ x ∈ zs, 0 ≤ x ∧ x < n) : setB n zs = true := dw_from zs (-1) hp fun x hx => ⟨by have := (hb x hx).1; omega, (hb x hx).2⟩
theorem dw_mem {n : Int} {zs : List Int} (h : setB n zs = true) : ∀ x ∈ zs, 0 ≤ x ∧ x < n := fun x hx => by
  obtain ⟨k, hk, rfl⟩ := mem_nth.1 hx
  have := setB_bounds h hk
  exact ⟨this.1, this.2.1⟩
theorem dw_filter {n : Int} {zs : List Int} (p : Int → Bool) (h : setB n zs = true) : setB n (zs.filter p) = true :=
  dw_set ((rises_pairwise.1 (rises_of h)).sublist List.filter_sublist) fun x hx => dw_mem h x (List.mem_filter.1 hx).1
theorem dw_up (n : Nat) : setB n (upL n) = true := dw_set (by
  induction n with
  | zero => simp [upL]
  | succ k ih =>
    rw [upL_succ, List.pairwise_append]
    refine ⟨ih, by simp, fun x hx y hy => ?_⟩
    obtain ⟨j, hj, rfl⟩ := mem_nth.1 hx
    rw [upL_len] at hj
    rw [upL_nth hj]
    have : y = (k : Int) := by simpa using hy
    omega) fun x hx => by
  obtain ⟨j, hj, rfl⟩ := mem_nth.1 hx
  rw [upL_len] at hj
  rw [upL_nth hj]
  omega

theorem case_both {O S Q P : List Int} {zss : List (List Int)} {who : Int} (hp : parityB O zss P = true) (hq : planB O zss who Q = true) (_hw : who = 0 ∨ who = 1) (hS : S = upL P.length) :
    bothB (fixO O zss who Q) (fixN O zss who Q) (1 - who) S (badL O zss P who S Q) = true := by
  have hpp := parityB_iff.1 hp
  have hqq := planB_iff.1 hq
  have hf := fix_valid hpp.1 hqq.2.2
  have hfO : fixO O zss who Q = O := by unfold fixO; rw [if_pos hq]
  have hfN : fixN O zss who Q = fixK zss Q zss.length := by unfold fixN; rw [if_pos hq]
  have hset : setB O.length S = true := by rw [hS, ← hpp.2.1]; exact dw_up _
  have hbad : setB O.length (badL O zss P who S Q) = true := by
    unfold badL
    split
    · exact dw_filter _ hset
    · rfl
  have hin : inB (1 - who) 0 1 = true := inB_yes (by omega) (by omega)
  rw [hfO, hfN]
  unfold bothB okB
  rw [arenaB_iff.2 hf, hin, hset, hbad]
  rfl

theorem dw_ints {w : World} {B D n c : Nat} {a : Option Addr} {zs : List Int} (h : OwnInts w B D (.slice a n c) zs) : IntsAt w a zs := by
  obtain ⟨a', c', e, hi, _⟩ := h.shape
  cases e
  exact hi
theorem OwnRows.reads {S : Nat → Prop} {w : World} {B D : Nat} {v : Value} {V : Nat → Value} {zss : List (List Int)} (h : OwnRows w B D v V zss) (hs : ∀ g, B ≤ g → ¬ S g) : ∃ a c, v = .slice a zss.length c ∧ ∀ W', Only S w W' → RowsAt W' a (fun k => addrOf (V k)) (fun k => capOf (V k)) zss := by
  obtain ⟨a, c, hv, _⟩ := h.shape
  refine ⟨a, c, hv, fun W' ho => ?_⟩
  obtain ⟨a', c', hv', hi, _⟩ := (h.only ho (fun g hg => hs g (h.own.lt g hg).1) (fun k hk g hg => hs g ((h.rows k hk).own.lt g hg).1)).shape
  rw [hv] at hv'
  cases hv'
  exact hi

set_option maxHeartbeats 16000000 in
set_option maxRecDepth 100000 in
theorem l6Draw_is {w : World} {B p : Nat} {ab : Option Addr} {cb : Nat} {bs : List Int} {i : Nat} {h : Int} (d : Dr w B p ab cb bs i h) :
    Calls Tryz.prog 43 #[.pointer (some ⟨p, 0, none⟩)] w (RollsCase w B p ab cb bs) := by
  have hp := d.lt
  have hlow := d.low
  obtain ⟨w0, hw0⟩ : ∃ y, y = w.alloc (.cells #[.slice none 0 0, .slice none 0 0, .slice none 0 0] 32) := ⟨_, rfl⟩
  have HW0 := Lib.hid hw0
  have hs0 : w0.heap.size = w.heap.size + 1 := by rw [hw0]; simp
  have HS0 := Lib.hid hs0
  have D0 : Hid (Dwn w w0 B p ab cb bs) := by rw [hw0]; exact (Dwn.start d).below (below1 _ _)
  have d0 : Hid (Dr w0 B p ab cb bs i h) := by rw [hw0]; exact d.below (below1 _ _)
  have R0 : Hid (Box3 w0 w.heap.size 32 (.slice none 0 0) (.slice none 0 0) (.slice none 0 0)) := by rw [hw0]; exact Box3.new _ _ _ _ _
  clear hw0 d hs0
  go_enter Tryz.func43, Tryz.ntmps43
  go_wp2_with fail
  rw [← HW0.out]
  refine (l4DrawAny_is d0.out).mono ?_
  rintro e w1 ⟨v, O, zss, P, rfl, hG, hO, hZ, hP, hP1, hD⟩
  obtain ⟨a0, k0, a1, k1, a2, k2, V, rfl, x1, x2, x3, -⟩ := hG.shape6
  have hn1 : w0.heap.size ≤ w1.heap.size := hD.only.size
  have D1 : Hid (Dwn w w1 B p ab cb bs) := ⟨hD.cur, D0.out.only.trans (hD.only), hp, hlow⟩
  have R1 := Lib.hid (R0.out.of_only hD.only (by omega))
  obtain ⟨w2, hw2⟩ : ∃ y, y = w1.alloc (.cells #[.slice a0 O.length k0, .slice a1 zss.length k1, .slice a2 P.length k2] 32) := ⟨_, rfl⟩
  have HW2 := Lib.hid hw2
  have hb2 : Below w1.heap.size w1 w2 := by rw [hw2]; exact below1 _ _
  have D2 := Lib.hid (D1.out.below hb2)
  have R2 := Lib.hid (R1.out.below hb2)
  have G2 := Lib.hid (hG.below hb2)
  have U2 : Hid (Box3 w2 w1.heap.size 32 (.slice a0 O.length k0) (.slice a1 zss.length k1) (.slice a2 P.length k2)) := by rw [hw2]; exact Box3.new _ _ _ _ _
  have hp0 : p < w0.heap.size := by have := HS0.out; omega
  have hpw : p < w.heap.size := hp
  have HGP : Hid (∀ W', Only (fun b => b ≤ w.heap.size) w2 W' → GameAt W' (.agg #[.slice a0 O.length k0, .slice a1 zss.length k1, .slice a2 P.length k2]) O zss P) := fun W' ho => (G2.out.only ho (fun g hg _ e => by have := HS0.out; omega)).at
  have HAP : Hid (∀ W', Only (fun b => b ≤ w.heap.size) w2 W' → ArenaAt W' (.agg #[.slice a0 O.length k0, .slice a1 zss.length k1]) O zss) := fun W' ho => (HGP.out W' ho).arenaC
  obtain ⟨a1', k1', hv1', hr1⟩ := (x2.below hb2).reads (S := fun b => b ≤ w.heap.size) (fun g hg e => by have := HS0.out; omega)
  cases hv1'
  have HRD : Hid (∀ W', Only (fun b => b ≤ w.heap.size) w2 W' → IntsAt W' a0 O ∧ RowsAt W' a1 (fun k => addrOf (V k)) (fun k => capOf (V k)) zss) := fun W' ho => ⟨dw_ints ((x1.below hb2).only ho (fun g hg e => by have := (x1.own.lt g hg).1; have := HS0.out; omega)), hr1 W' ho⟩
  have HPD : Hid (∀ W', Only (fun b => b ≤ w.heap.size) w2 W' → IntsAt W' a2 P) := fun W' ho => dw_ints ((x3.below hb2).only ho (fun g hg e => by have := (x3.own.lt g hg).1; have := HS0.out; omega))
  have hwu : w.heap.size < w1.heap.size := by have := HS0.out; omega
  clear hr1 hw2 hb2 x1 x2 x3 hG hD D1 R1 D0 d0 R0
  go_wp2_with fail
  rw [← HW2.out]
  obtain ⟨i1, h1, hd1⟩ := D2.out.cur
  refine (l1Below_is (n := 2) (hi := 1) hd1 (by omega) (by omega) (by omega)).mono ?_
  rintro e w3 ⟨who, i2, h2, rfl, hw0', hw1', hd, ho⟩
  have hwho : who = 0 ∨ who = 1 := by omega
  have HWX : Hid (IntKind.i64.wrap (1 - who) = 1 - who) := IntWalk.i64_in _ (by omega)
  have D3 := Lib.hid (D2.out.call hd ho)
  have R3 := Lib.hid (R2.out.of_only ho (by omega))
  have U3 := Lib.hid (U2.out.of_only ho (by omega))
  have K3 : Hid (Only (fun b => b ≤ w.heap.size) w2 w3) := ho.mono fun b hb => by omega
  clear hd ho hd1 D2 R2 U2 G2 hw0' hw1'
  obtain ⟨i3, h3, hd3⟩ := D3.out.cur
  have Dd3 := Lib.hid (hd3.below (Below.refl _ w3).drew)
  have Dn3 := Lib.hid (D3.out.below (Below.refl _ w3).drew)
  have Rd3 := Lib.hid (R3.out.below (Below.refl _ w3).drew)
  have Ud3 := Lib.hid (U3.out.below (Below.refl _ w3).drew)
  have Kd3 : Hid (Only (fun b => b ≤ w.heap.size) w2 w3.drew) := K3.out.trans (Only.of_below (Below.refl _ w3).drew)
  have s0 := Ud3.out.c0
  have s1 := Ud3.out.c1
  clear hd3 D3 R3 U3 K3
  go_wp2
  go_region_held3 (fun W => W.cell? ⟨w1.heap.size, 0, none⟩ = some (.slice a0 O.length k0) ∧ W.cell? ⟨w1.heap.size, 1, none⟩ = some (.slice a1 zss.length k1))
    (first
      | exact ⟨s0, s1⟩
      | exact ⟨Ua.out.c0, Ua.out.c1⟩
      | exact ⟨Ub.out.c0, Ub.out.c1⟩)
    (first
      | (go_at_call 78; refine (l1Once_is (n := 5) Dd3.out (by omega) (by omega)).mono ?_; rintro e wa ⟨ra, ia, ha, rfl, hd, ho⟩; have Da := Lib.hid (Dn3.out.call hd ho); have da := Lib.hid hd; have Ra := Lib.hid (Rd3.out.of_only ho (by omega)); have Ua := Lib.hid (Ud3.out.of_only ho (by omega)); have Ka : Hid (Only (fun b => b ≤ w.heap.size) w2 wa) := (Kd3.out.trans (ho.mono fun b hb => (by omega))); clear hd ho)
      | (go_at_call 77; refine (l5DrawPlan_is da.out (fun W' ho => HRD.out W' (Ka.out.trans (ho.mono fun b hb => (by omega)))) (by omega)).mono ?_; rintro e wb ⟨vq, Q, ib, hb', rfl, hq, hql, hd, ho⟩; have Db := Lib.hid (Da.out.call hd ho); have Rb := Lib.hid (Ra.out.of_only ho (by omega)); have Ub := Lib.hid (Ua.out.of_only ho (by omega)); have Kb : Hid (Only (fun b => b ≤ w.heap.size) w2 wb) := (Ka.out.trans (ho.mono fun b hb => (by omega))); have Qb := Lib.hid hq; have Ql := Lib.hid hql; have hsa : w0.heap.size ≤ wa.heap.size := (by have := Ra.out.lt; have := HS0.out; omega); clear hq hql hd ho))
  obtain ⟨aQ, cQ, hqs, hqi, _⟩ := Qb.out.shape
  subst hqs
  have HQP : Hid (∀ W', Only (fun b => b ≤ w.heap.size) wb W' → IntsAt W' aQ Q) := fun W' ho => dw_ints (Qb.out.only ho (fun g hg e => by have := (Qb.out.own.lt g hg).1; have := HS0.out; omega))
  clear hqi s0 s1 Dd3 Dn3 Rd3 Ud3 Kd3 Da Ra Ua Ka
  have s2 := Ub.out.c2
  obtain ⟨i5, h5, hd5⟩ := Db.out.cur
  go_wp2_with fail
  refine (l1DrawSet_is (n := (P.length : Int)) hd5 (by omega) (by omega)).mono ?_
  rintro e w5 ⟨vs, S, i6, h6, rfl, hs, hsl, hd, ho⟩
  have D5 := Lib.hid (Db.out.call hd ho)
  have R5 := Lib.hid (Rb.out.of_only ho (by omega))
  have U5 := Lib.hid (Ub.out.of_only ho (by omega))
  have ho' : Only (fun b => b ≤ w.heap.size) wb w5 := ho.mono fun b hb => by omega
  have K25 : Hid (Only (fun b => b ≤ w.heap.size) w2 w5) := Kb.out.trans ho'
  have K45 : Hid (Only (fun b => b ≤ w.heap.size) wb w5) := ho'
  obtain ⟨aS, cS, hss, hsi, _⟩ := hs.shape
  subst hss
  have HSP : Hid (∀ W', Only (fun b => b ≤ w.heap.size) w5 W' → IntsAt W' aS S) := fun W' ho => dw_ints (hs.only ho (fun g hg e => by have := (hs.own.lt g hg).1; have := Rb.out.lt; omega))
  clear hsi hs hsl hd ho ho' hd5 s2 Db Rb Ub Kb
  obtain ⟨b, hpb⟩ : ∃ b, parityB O zss P = b := ⟨_, rfl⟩
  have HC := Lib.hid (specParityOk_is hpb (HGP.out w5 K25.out))
  have s0 := U5.out.c0
  have s1 := U5.out.c1
  have s2 := U5.out.c2
  cases b with
  | false =>
    go_wp2_with fail
    refine HC.out.mono ?_
    rintro e w6 ⟨rfl, hb⟩
    have D6 := Lib.hid (D5.out.below hb)
    have R6 := Lib.hid (R5.out.below hb)
    have U6 := Lib.hid (U5.out.below hb)
    have hb' : Only (fun b => b ≤ w.heap.size) w5 w6 := Only.of_below hb
    have K26 := Lib.hid (K25.out.trans hb')
    have K46 := Lib.hid (K45.out.trans hb')
    have K56 := Lib.hid hb'
    clear hb hb' HC hpb D5 R5 U5 K25 K45 s0 s1 s2
    have s0 := U6.out.c0
    have s1 := U6.out.c1
    have s2 := U6.out.c2
    have r0 := R6.out.c0
    have r1 := R6.out.c1
    have r2 := R6.out.c2
    have g0 := World.rowIs.frozen R6.out 0
    have g1 := World.rowIs.frozen R6.out 1
    have g2 := World.rowIs.frozen R6.out 2
    have hst := case_stored (a0 := .slice a0 O.length k0) (a1 := .slice a1 zss.length k1) (a2 := .slice a2 P.length k2) R6.out
    have HST := Lib.hid hst.2
    have DST := Lib.hid (D6.out.new (hst.2.mono fun b hb => by omega))
    have u0 := hst.1.c0
    have u1 := hst.1.c1
    have u2 := hst.1.c2
    clear hst
    go_wp2
    exact bodyPost_ret (v := .tuple #[.agg #[.slice a0 O.length k0, .slice a1 zss.length k1, .slice a2 P.length k2], .int .i64 who, .slice aS S.length cS, .slice aQ Q.length cQ]) (by simp [results, Tryz.results43, go_sem, u0, u1, u2]) rfl
      ⟨_, _, _, _, _, _, _, _, _, _, _, _, _, _, _, _, _, _, rfl, fun W' ho => ⟨(HRD.out _ ((K26.out.trans (HST.out.mono fun b hb => by omega)).trans ho)).1, (HRD.out _ ((K26.out.trans (HST.out.mono fun b hb => by omega)).trans ho)).2, HPD.out _ ((K26.out.trans (HST.out.mono fun b hb => by omega)).trans ho), HSP.out _ ((K56.out.trans (HST.out.mono fun b hb => by omega)).trans ho), HQP.out _ ((K46.out.trans (HST.out.mono fun b hb => by omega)).trans ho)⟩, hwho, by omega, by omega, by omega, DST.out⟩
  | true =>
    go_wp2_with fail
    refine HC.out.mono ?_
    rintro e w6 ⟨rfl, hb⟩
    have D6 := Lib.hid (D5.out.below hb)
    have R6 := Lib.hid (R5.out.below hb)
    have U6 := Lib.hid (U5.out.below hb)
    have hb' : Only (fun b => b ≤ w.heap.size) w5 w6 := Only.of_below hb
    have K26 := Lib.hid (K25.out.trans hb')
    have K46 := Lib.hid (K45.out.trans hb')
    have K56 := Lib.hid hb'
    have HPB := Lib.hid hpb
    have hpp := parityB_iff.1 hpb
    have hP256 : P.length ≤ 256 := by have := hpp.1.2.1; have := hpp.2.1; omega
    obtain ⟨i7, h7, hd7⟩ := D6.out.cur
    clear hb hb' HC hpb hpp D5 R5 U5 K25 K45 s0 s1 s2
    go_wp2_with fail
    refine (l1Once_is (n := 4) hd7 (by omega) (by omega)).mono ?_
    rintro e w7 ⟨r7, i8, h8, rfl, hd, ho⟩
    have D7 := Lib.hid (D6.out.call hd ho)
    have R7 := Lib.hid (R6.out.of_only ho (by omega))
    have U7 := Lib.hid (U6.out.of_only ho (by omega))
    have ho' : Only (fun b => b ≤ w.heap.size) w6 w7 := ho.mono fun b hb => by omega
    have K27 := Lib.hid (K26.out.trans ho')
    have K47 := Lib.hid (K46.out.trans ho')
    have K57 := Lib.hid (K56.out.trans ho')
    clear hd ho ho' hd7 D6 R6 U6 K26 K46 K56
    cases r7 with
    | true =>
      have s0 := U7.out.c0
      have s1 := U7.out.c1
      have s2 := U7.out.c2
      have r0 := R7.out.c0
      have r1 := R7.out.c1
      have r2 := R7.out.c2
      have g0 := World.rowIs.frozen R7.out 0
      have g1 := World.rowIs.frozen R7.out 1
      have g2 := World.rowIs.frozen R7.out 2
      have hst := case_stored (a0 := .slice a0 O.length k0) (a1 := .slice a1 zss.length k1) (a2 := .slice a2 P.length k2) R7.out
      have HST := Lib.hid hst.2
      have DST := Lib.hid (D7.out.new (hst.2.mono fun b hb => by omega))
      have u0 := hst.1.c0
      have u1 := hst.1.c1
      have u2 := hst.1.c2
      clear hst
      go_wp2
      exact bodyPost_ret (v := .tuple #[.agg #[.slice a0 O.length k0, .slice a1 zss.length k1, .slice a2 P.length k2], .int .i64 who, .slice aS S.length cS, .slice aQ Q.length cQ]) (by simp [results, Tryz.results43, go_sem, u0, u1, u2]) rfl
        ⟨_, _, _, _, _, _, _, _, _, _, _, _, _, _, _, _, _, _, rfl, fun W' ho => ⟨(HRD.out _ ((K27.out.trans (HST.out.mono fun b hb => by omega)).trans ho)).1, (HRD.out _ ((K27.out.trans (HST.out.mono fun b hb => by omega)).trans ho)).2, HPD.out _ ((K27.out.trans (HST.out.mono fun b hb => by omega)).trans ho), HSP.out _ ((K57.out.trans (HST.out.mono fun b hb => by omega)).trans ho), HQP.out _ ((K47.out.trans (HST.out.mono fun b hb => by omega)).trans ho)⟩, hwho, by omega, by omega, by omega, DST.out⟩
    | false =>
      have s0 := U7.out.c0
      have s1 := U7.out.c1
      have s2 := U7.out.c2
      go_wp2_with fail
      refine (l4All_is (HGP.out w7 K27.out) hP256).mono ?_
      rintro e w8 ⟨va8, rfl, hx, hb⟩
      obtain ⟨aA, cA, hxs, _, _⟩ := hx.shape
      subst hxs
      have D8 := Lib.hid (D7.out.below hb)
      have R8 := Lib.hid (R7.out.below hb)
      have U8 := Lib.hid (U7.out.below hb)
      have hb' : Only (fun b => b ≤ w.heap.size) w7 w8 := Only.of_below hb
      have K28 := Lib.hid (K27.out.trans hb')
      have K48 := Lib.hid (K47.out.trans hb')
      have HXP : Hid (∀ W', Only (fun b => b ≤ w.heap.size) w8 W' → IntsAt W' aA (upL P.length)) := fun W' ho => dw_ints (hx.only ho (fun g hg e => by have := (hx.own.lt g hg).1; have := R7.out.lt; omega))
      obtain ⟨X, hX⟩ : ∃ X, X = upL P.length := ⟨_, rfl⟩
      have HX := Lib.hid hX
      rw [← hX] at HXP ⊢
      have hXl : X.length ≤ 256 := by rw [hX, upL_len]; exact hP256
      clear hX hx hb hb' D7 R7 U7 K27 K47 K57 s0 s1 s2
      have K88 : Hid (Only (fun b => b ≤ w.heap.size) w8 w8) := Only.refl _ _
      obtain ⟨b, hqb⟩ : ∃ b, planB O zss who Q = b := ⟨_, rfl⟩
      have HC := Lib.hid (specPlanOk_is cQ hqb (HAP.out w8 K28.out) (HQP.out w8 K48.out))
      have s0 := U8.out.c0
      have s1 := U8.out.c1
      cases b with
      | false =>
        go_wp2_with fail
        refine HC.out.mono ?_
        rintro e w9 ⟨rfl, hb⟩
        have D9 := Lib.hid (D8.out.below hb)
        have R9 := Lib.hid (R8.out.below hb)
        have U9 := Lib.hid (U8.out.below hb)
        have hb' : Only (fun b => b ≤ w.heap.size) w8 w9 := Only.of_below hb
        have K29 := Lib.hid (K28.out.trans hb')
        have K49 := Lib.hid (K48.out.trans hb')
        have K89 := Lib.hid hb'
        clear hb hb' HC hqb D8 R8 U8 K28 K48 K88 s0 s1
        have s0 := U9.out.c0
        have s1 := U9.out.c1
        have s2 := U9.out.c2
        have r0 := R9.out.c0
        have r1 := R9.out.c1
        have r2 := R9.out.c2
        have g0 := World.rowIs.frozen R9.out 0
        have g1 := World.rowIs.frozen R9.out 1
        have g2 := World.rowIs.frozen R9.out 2
        have hst := case_stored (a0 := .slice a0 O.length k0) (a1 := .slice a1 zss.length k1) (a2 := .slice a2 P.length k2) R9.out
        have HST := Lib.hid hst.2
        have DST := Lib.hid (D9.out.new (hst.2.mono fun b hb => by omega))
        have u0 := hst.1.c0
        have u1 := hst.1.c1
        have u2 := hst.1.c2
        clear hst
        go_wp2
        exact bodyPost_ret (v := .tuple #[.agg #[.slice a0 O.length k0, .slice a1 zss.length k1, .slice a2 P.length k2], .int .i64 who, .slice aA X.length cA, .slice aQ Q.length cQ]) (by simp [results, Tryz.results43, go_sem, u0, u1, u2]) rfl
          ⟨_, _, _, _, _, _, _, _, _, _, _, _, _, _, _, _, _, _, rfl, fun W' ho => ⟨(HRD.out _ ((K29.out.trans (HST.out.mono fun b hb => by omega)).trans ho)).1, (HRD.out _ ((K29.out.trans (HST.out.mono fun b hb => by omega)).trans ho)).2, HPD.out _ ((K29.out.trans (HST.out.mono fun b hb => by omega)).trans ho), HXP.out _ ((K89.out.trans (HST.out.mono fun b hb => by omega)).trans ho), HQP.out _ ((K49.out.trans (HST.out.mono fun b hb => by omega)).trans ho)⟩, hwho, by omega, by omega, by omega, DST.out⟩
      | true =>
        go_wp2_with fail
        refine HC.out.mono ?_
        rintro e w9 ⟨rfl, hb⟩
        have D9 := Lib.hid (D8.out.below hb)
        have R9 := Lib.hid (R8.out.below hb)
        have U9 := Lib.hid (U8.out.below hb)
        have hb' : Only (fun b => b ≤ w.heap.size) w8 w9 := Only.of_below hb
        have K29 := Lib.hid (K28.out.trans hb')
        have K49 := Lib.hid (K48.out.trans hb')
        have K89 := Lib.hid hb'
        obtain ⟨i9, h9, hd9⟩ := D9.out.cur
        clear hb hb' HC D8 R8 U8 K28 K48 K88 s0 s1
        go_wp2_with fail
        refine (l1Once_is (n := 3) hd9 (by omega) (by omega)).mono ?_
        rintro e wc ⟨rc, i10, h10, rfl, hd, ho⟩
        have Dc := Lib.hid (D9.out.call hd ho)
        have Rc := Lib.hid (R9.out.of_only ho (by omega))
        have Uc := Lib.hid (U9.out.of_only ho (by omega))
        have ho' : Only (fun b => b ≤ w.heap.size) w9 wc := ho.mono fun b hb => by omega
        have K2c := Lib.hid (K29.out.trans ho')
        have K4c := Lib.hid (K49.out.trans ho')
        have K8c := Lib.hid (K89.out.trans ho')
        clear hd ho ho' hd9 D9 R9 U9 K29 K49 K89
        cases rc with
        | true =>
          have s0 := Uc.out.c0
          have s1 := Uc.out.c1
          have s2 := Uc.out.c2
          have r0 := Rc.out.c0
          have r1 := Rc.out.c1
          have r2 := Rc.out.c2
          have g0 := World.rowIs.frozen Rc.out 0
          have g1 := World.rowIs.frozen Rc.out 1
          have g2 := World.rowIs.frozen Rc.out 2
          have hst := case_stored (a0 := .slice a0 O.length k0) (a1 := .slice a1 zss.length k1) (a2 := .slice a2 P.length k2) Rc.out
          have HST := Lib.hid hst.2
          have DST := Lib.hid (Dc.out.new (hst.2.mono fun b hb => by omega))
          have u0 := hst.1.c0
          have u1 := hst.1.c1
          have u2 := hst.1.c2
          clear hst
          go_wp2
          exact bodyPost_ret (v := .tuple #[.agg #[.slice a0 O.length k0, .slice a1 zss.length k1, .slice a2 P.length k2], .int .i64 who, .slice aA X.length cA, .slice aQ Q.length cQ]) (by simp [results, Tryz.results43, go_sem, u0, u1, u2]) rfl
            ⟨_, _, _, _, _, _, _, _, _, _, _, _, _, _, _, _, _, _, rfl, fun W' ho => ⟨(HRD.out _ ((K2c.out.trans (HST.out.mono fun b hb => by omega)).trans ho)).1, (HRD.out _ ((K2c.out.trans (HST.out.mono fun b hb => by omega)).trans ho)).2, HPD.out _ ((K2c.out.trans (HST.out.mono fun b hb => by omega)).trans ho), HXP.out _ ((K8c.out.trans (HST.out.mono fun b hb => by omega)).trans ho), HQP.out _ ((K4c.out.trans (HST.out.mono fun b hb => by omega)).trans ho)⟩, hwho, by omega, by omega, by omega, DST.out⟩
        | false =>
          obtain ⟨fO, hfO⟩ : ∃ x, fixO O zss who Q = x := ⟨_, rfl⟩
          obtain ⟨fN, hfN⟩ : ∃ x, fixN O zss who Q = x := ⟨_, rfl⟩
          have hbo := case_both HPB.out hqb hwho HX.out
          rw [hfO, hfN] at hbo
          have HBO := Lib.hid hbo
          obtain ⟨bl, hbl⟩ : ∃ x, badL O zss P who X Q = x := ⟨_, rfl⟩
          rw [hbl] at HBO
          have HF := Lib.hid (specFixedBy_is cQ ⟨hfO, hfN, hqb⟩ (HAP.out wc K2c.out) (HQP.out wc K4c.out))
          have HBL := Lib.hid hbl
          have s0 := Uc.out.c0
          have s1 := Uc.out.c1
          clear hfO hfN hbo hbl hqb
          go_wp2_with fail
          refine HF.out.mono ?_
          rintro e wd ⟨vf, rfl, hfa, hb⟩
          obtain ⟨f0, l0, f1, l1, hvf⟩ := hfa.shape2
          subst hvf
          have hbd := hb
          obtain ⟨we, hwe⟩ : ∃ y, y = wd.alloc (.cells #[.slice f0 fO.length l0, .slice f1 fN.length l1] 30) := ⟨_, rfl⟩
          have HWE := Lib.hid hwe
          have hbe : Below wd.heap.size wd we := by rw [hwe]; exact below1 _ _
          have De := Lib.hid ((Dc.out.below hbd).below hbe)
          have Re := Lib.hid ((Rc.out.below hbd).below hbe)
          have Ue := Lib.hid ((Uc.out.below hbd).below hbe)
          have ho' : Only (fun b => b ≤ w.heap.size) wc we := (Only.of_below hbd).trans (Only.of_below hbe)
          have K2e := Lib.hid (K2c.out.trans ho')
          have K4e := Lib.hid (K4c.out.trans ho')
          have K8e := Lib.hid (K8c.out.trans ho')
          have Fe := Lib.hid (hfa.at.below hbe)
          have Te : Hid (Box2 we wd.heap.size 30 (.slice f0 fO.length l0) (.slice f1 fN.length l1)) := by rw [hwe]; exact Box2.new _ _ _ _
          clear hwe hb hbd hbe hfa ho' HF Dc Rc Uc K2c K4c K8c s0 s1
          go_wp2
          rw [← HWE.out]
          have HSv : Hid (∀ W, Below we.heap.size we W → W.cell? ⟨w1.heap.size, 0, none⟩ = some (.slice a0 O.length k0) ∧ W.cell? ⟨w1.heap.size, 1, none⟩ = some (.slice a1 zss.length k1) ∧ W.cell? ⟨w1.heap.size, 2, none⟩ = some (.slice a2 P.length k2) ∧ W.cell? ⟨wd.heap.size, 0, none⟩ = some (.slice f0 fO.length l0) ∧ W.cell? ⟨wd.heap.size, 1, none⟩ = some (.slice f1 fN.length l1)) := fun W hb =>
            ⟨(Ue.out.below hb).c0, (Ue.out.below hb).c1, (Ue.out.below hb).c2, (Te.out.below hb).cell0, (Te.out.below hb).cell1⟩
          have Kd : Hid (Below we.heap.size we we.drew) := (Below.refl _ _).drew
          have hwx := HWX.out
          go_region_held3 (fun W => W.cell? ⟨w1.heap.size, 0, none⟩ = some (.slice a0 O.length k0) ∧ W.cell? ⟨w1.heap.size, 1, none⟩ = some (.slice a1 zss.length k1) ∧ W.cell? ⟨w1.heap.size, 2, none⟩ = some (.slice a2 P.length k2) ∧ W.cell? ⟨wd.heap.size, 0, none⟩ = some (.slice f0 fO.length l0) ∧ W.cell? ⟨wd.heap.size, 1, none⟩ = some (.slice f1 fN.length l1))
            (first
              | exact HSv.out _ Kd.out
              | exact HSv.out _ Kf.out
              | exact HSv.out _ Kg.out)
            (first
              | (go_at_call 16; refine (specBadLoops_is cA cQ HBL.out ((HGP.out we K2e.out).below Kd.out) ((HXP.out we K8e.out).below Kd.out) ((HQP.out we K4e.out).below Kd.out)).mono ?_; rintro e wf ⟨vx, rfl, hx, hb⟩; obtain ⟨ab', cb', hxs, hxi, _⟩ := hx.shape; subst hxs; have Xf := Lib.hid hxi; have Kf := Lib.hid (Kd.out.trans (hb.mono Kd.out.size)); clear hx hb hxi)
              | (go_at_call 83; refine (l3Attract_is cA cb' HBO.out (Fe.out.below Kf.out) ((HXP.out we K8e.out).below Kf.out) Xf.out).mono ?_; rintro e wg ⟨vx, rfl, hx, hb⟩; obtain ⟨ac', cc', hxs, hxi, _⟩ := hx.shape; subst hxs; have Xg := Lib.hid hxi; have Kg := Lib.hid (Kf.out.trans (hb.mono Kf.out.size)); clear hx hb hxi))
          obtain ⟨M, hM⟩ : ∃ M, M = markedK (fun v => decide (0 ≤ ranksF fO fN (1 - who) X bl v)) fN.length := ⟨_, rfl⟩
          rw [← hM] at Xg ⊢
          have Dg := Lib.hid (De.out.below Kg.out)
          have Rg := Lib.hid (Re.out.below Kg.out)
          have Ug := Lib.hid (Ue.out.below Kg.out)
          have ho' : Only (fun b => b ≤ w.heap.size) we wg := Only.of_below Kg.out
          have K2g := Lib.hid (K2e.out.trans ho')
          have K4g := Lib.hid (K4e.out.trans ho')
          have K8g := Lib.hid (K8e.out.trans ho')
          obtain ⟨Z, hZZ⟩ : ∃ Z, lessL X M = Z := ⟨_, rfl⟩
          have HL := Lib.hid (specLessOf_is hZZ cA cc' (HXP.out wg K8g.out) Xg.out)
          clear hZZ hM ho' HSv Kd hwx De Re Ue K2e K4e K8e Fe Te Xf Kf Xg Kg HBO HBL
          go_wp2_with fail
          refine HL.out.mono ?_
          rintro e wh ⟨vx, rfl, hx, hb⟩
          obtain ⟨az, cz, hxs, hxi, _⟩ := hx.shape
          subst hxs
          have Dh := Lib.hid (Dg.out.below hb)
          have Rh := Lib.hid (Rg.out.below hb)
          have Uh := Lib.hid (Ug.out.below hb)
          have ho' : Only (fun b => b ≤ w.heap.size) wg wh := Only.of_below hb
          have K2h := Lib.hid (K2g.out.trans ho')
          have K4h := Lib.hid (K4g.out.trans ho')
          have HZP : Hid (∀ W', Only (fun b => b ≤ w.heap.size) wh W' → IntsAt W' az Z) := fun W' ho => dw_ints (hx.only ho (fun g hg e => by have := (hx.own.lt g hg).1; have := Rg.out.lt; omega))
          clear hx hxi hb ho' HL Dg Rg Ug K2g K4g K8g
          have s0 := Uh.out.c0
          have s1 := Uh.out.c1
          have s2 := Uh.out.c2
          have r0 := Rh.out.c0
          have r1 := Rh.out.c1
          have r2 := Rh.out.c2
          have g0 := World.rowIs.frozen Rh.out 0
          have g1 := World.rowIs.frozen Rh.out 1
          have g2 := World.rowIs.frozen Rh.out 2
          have hst := case_stored (a0 := .slice a0 O.length k0) (a1 := .slice a1 zss.length k1) (a2 := .slice a2 P.length k2) Rh.out
          have HST := Lib.hid hst.2
          have DST := Lib.hid (Dh.out.new (hst.2.mono fun b hb => by omega))
          have u0 := hst.1.c0
          have u1 := hst.1.c1
          have u2 := hst.1.c2
          clear hst
          go_wp2
          exact bodyPost_ret (v := .tuple #[.agg #[.slice a0 O.length k0, .slice a1 zss.length k1, .slice a2 P.length k2], .int .i64 who, .slice az Z.length cz, .slice aQ Q.length cQ]) (by simp [results, Tryz.results43, go_sem, u0, u1, u2]) rfl
            ⟨_, _, _, _, _, _, _, _, _, _, _, _, _, _, _, _, _, _, rfl, fun W' ho => ⟨(HRD.out _ ((K2h.out.trans (HST.out.mono fun b hb => by omega)).trans ho)).1, (HRD.out _ ((K2h.out.trans (HST.out.mono fun b hb => by omega)).trans ho)).2, HPD.out _ ((K2h.out.trans (HST.out.mono fun b hb => by omega)).trans ho), HZP.out _ ((HST.out.mono fun b hb => by omega).trans ho), HQP.out _ ((K4h.out.trans (HST.out.mono fun b hb => by omega)).trans ho)⟩, hwho, by omega, by omega, by omega, DST.out⟩

/-- A game, a player, a region and a plan of its own. -/
def GivesCase (w : World) (e : Ending) (w' : World) : Prop :=
  ∃ ao an ap co cn cp A C O zss P x aS cS S aQ cQ Q, e = .returned (.tuple #[.agg #[.slice ao (List.length O) co, .slice an (List.length zss) cn, .slice ap (List.length P) cp], .int .i64 x, .slice aS (List.length S) cS, .slice aQ (List.length Q) cQ]) ∧ (∀ W', Only (fun b => b < w.heap.size) w' W' → IntsAt W' ao O ∧ RowsAt W' an A C zss ∧ IntsAt W' ap P ∧ IntsAt W' aS S ∧ IntsAt W' aQ Q) ∧ (x = 0 ∨ x = 1) ∧ O.length ≤ 300 ∧ zss.length ≤ 300 ∧ P.length ≤ 300 ∧ Below w.heap.size w w'

set_option maxHeartbeats 16000000 in
set_option maxRecDepth 100000 in
theorem specDrawWinsBy_is {w : World} {ab : Option Addr} {cb : Nat} {bs : List Int} (hb : BytesAt w ab bs) (hl : bs.length ≤ 4096) :
    Calls Tryz.prog 11 #[.slice ab bs.length cb] w (GivesCase w) := by
  obtain ⟨w0, hw0⟩ : ∃ y, y = w.alloc (.cells #[.slice none 0 0, .slice none 0 0, .slice none 0 0] 32) := ⟨_, rfl⟩
  have HW0 := Lib.hid hw0
  have hs0 : w0.heap.size = w.heap.size + 1 := by rw [hw0]; simp
  have HS0 := Lib.hid hs0
  have B0 : Hid (Below w.heap.size w w0) := by rw [hw0]; exact below1 _ _
  have R0 : Hid (Box3 w0 w.heap.size 32 (.slice none 0 0) (.slice none 0 0) (.slice none 0 0)) := by rw [hw0]; exact Box3.new _ _ _ _ _
  have HB := Lib.hid (hb.below B0.out)
  clear hw0 hb hs0
  go_enter Tryz.func11, Tryz.ntmps11
  go_wp2_with fail
  rw [← HW0.out]
  refine (l1New_is HB.out hl).mono ?_
  rintro e w1 ⟨h, rfl, hd, hb1⟩
  have B1 := Lib.hid (B0.out.trans (hb1.mono B0.out.size))
  have R1 := Lib.hid (R0.out.below hb1)
  have D1 := Lib.hid hd
  have hs1 : w0.heap.size ≤ w1.heap.size := hb1.size
  obtain ⟨p, hp⟩ : ∃ p, p = w0.heap.size := ⟨_, rfl⟩
  have HP := Lib.hid hp
  rw [← hp] at D1 ⊢
  have hwp : w.heap.size < p := by have := HS0.out; omega
  have hp1 : p < w1.heap.size := D1.out.lt
  clear hd hb1 hp
  go_wp2_with fail
  refine (l6Draw_is D1.out).mono ?_
  rintro e w2 ⟨a0, a1, a2, k0, k1, k2, A, C, O, zss, P, who, aS, cS, S, aQ, cQ, Q, rfl, hG, hwho, hO, hZ, hP, hD⟩
  have B2 := Lib.hid (B1.out.trans (hD.only.below (B := w.heap.size) B1.out.size (fun b hb => by omega)))
  have R2 := Lib.hid (R1.out.of_only hD.only (by omega))
  have G2 := Lib.hid hG
  have r0 := R2.out.c0
  have r1 := R2.out.c1
  have r2 := R2.out.c2
  have g0 := World.rowIs.frozen R2.out 0
  have g1 := World.rowIs.frozen R2.out 1
  have g2 := World.rowIs.frozen R2.out 2
  have hst := case_stored (a0 := .slice a0 O.length k0) (a1 := .slice a1 zss.length k1) (a2 := .slice a2 P.length k2) R2.out
  have HST := Lib.hid hst.2
  have u0 := hst.1.c0
  have u1 := hst.1.c1
  have u2 := hst.1.c2
  have B1s : Hid (w.heap.size ≤ w1.heap.size) := B1.out.size
  clear hst hG hD B1 R1 D1 B0 R0
  go_wp2
  exact bodyPost_ret (v := .tuple #[.agg #[.slice a0 O.length k0, .slice a1 zss.length k1, .slice a2 P.length k2], .int .i64 who, .slice aS S.length cS, .slice aQ Q.length cQ]) (by simp [results, Tryz.results11, go_sem, u0, u1, u2]) rfl
    ⟨_, _, _, _, _, _, _, _, _, _, _, _, _, _, _, _, _, _, rfl, fun W' ho => G2.out _ ((HST.out.mono fun b hb => by omega).trans (ho.mono fun b hb => by have := B1s.out; omega)), hwho, hO, hZ, hP, B2.out.trans (HST.out.below (B := w.heap.size) B2.out.size (fun b hb => by omega))⟩
end

end Go.Proofs.YtokcinhopajniaaGreatDoor
