/-
  The walk of the law FnFlips.
-/
import Derived.Test.YtmobegiojhlakaaWonIn
import Derived.Test.YtmobegiojhlakaaGame
import Derived.Test.YtmobegiojhlakaaDrawTwo
import Derived.Test.YtmobegiojhlakaaGameImpl
import Derived.Deep.RegionHeld3
namespace Go.Proofs.Ytmobegiojhlakaa
open Go.RowKit

theorem turn_twice (O : List Int) : turnO (turnO O) = O := by
  unfold turnO
  rw [List.map_map]
  refine (List.map_congr_left (g := id) fun x _ => ?_).trans (List.map_id _)
  show 1 - (1 - x) = x
  omega
theorem OwnGame.shapeN {w : World} {B D N : Nat} {v : Value} {O P : List Int} {zss : List (List Int)} (h : OwnGame w B D v O zss P) (hO : O.length = N) (hz : zss.length = N) (hP : P.length = N) : ∃ a0 c0 a1 c1 a2 c2, v = .agg #[.slice a0 N c0, .slice a1 N c1, .slice a2 N c2] := by
  obtain ⟨a0, c0, a1, c1, a2, c2, hv⟩ := h.shape
  rw [hO, hz, hP] at hv
  exact ⟨a0, c0, a1, c1, a2, c2, hv⟩
theorem OwnArena.shapeN {w : World} {B D N : Nat} {v : Value} {O : List Int} {zss : List (List Int)} (h : OwnArena w B D v O zss) (hO : O.length = N) (hz : zss.length = N) : ∃ a0 c0 a1 c1, v = .agg #[.slice a0 N c0, .slice a1 N c1] := by
  obtain ⟨ao, an, co, cn, A, C, hv, _, _⟩ := h.at
  rw [hO, hz] at hv
  exact ⟨_, _, _, _, hv⟩
theorem GameAt.arena {w : World} {a0 a1 a2 : Value} {O P : List Int} {zss : List (List Int)} (h : GameAt w (.agg #[a0, a1, a2]) O zss P) : ArenaAt w (.agg #[a0, a1]) O zss := by
  obtain ⟨_, _, _, _, _, _, _, _, hv, h1, h2, _⟩ := h
  cases hv
  exact ⟨_, _, _, _, _, _, rfl, h1, h2⟩
theorem game_parts {w : World} {B D B' D' : Nat} {vo vn vp : Value} {O P : List Int} {zss : List (List Int)} (h : OwnArena w B D (.agg #[vo, vn]) O zss) (hp : OwnInts w B' D' vp P) : GameAt w (.agg #[vo, vn, vp]) O zss P := by
  obtain ⟨ao, an, co, cn, A, C, hv, h1, h2⟩ := h.at
  cases hv
  obtain ⟨a, c, hvp, hi, _⟩ := hp.shape
  subst hvp
  exact ⟨_, _, _, _, _, _, _, _, rfl, h1, h2, hi⟩
theorem even_dual {zss : List (List Int)} {O P : List Int} (h : ArenaP O zss) (hl : P.length = O.length) (hp : ∀ x ∈ P, 0 ≤ x) : evenL zss (turnO O) (moreP P) = oddL zss O P ∧ oddL zss (turnO O) (moreP P) = evenL zss O P := by
  refine ⟨List.filter_congr fun x hx => ?_, List.filter_congr fun x hx => ?_⟩
  · obtain ⟨u, hu, hun⟩ := up_mem x hx
    rw [hu, Int.toNat_natCast, won_dual h hl hp hun]
  · obtain ⟨u, hu, hun⟩ := up_mem x hx
    rw [hu, Int.toNat_natCast, won_dual h hl hp hun, Bool.not_not]
theorem even_press {zss : List (List Int)} {O P : List Int} (h : ArenaP O zss) (hl : P.length = O.length) (hp : ∀ x ∈ P, 0 ≤ x ∧ x ≤ 40) : evenL zss O (pressL P) = evenL zss O P ∧ oddL zss O (pressL P) = oddL zss O P := by
  refine ⟨List.filter_congr fun x hx => ?_, List.filter_congr fun x hx => ?_⟩ <;>
  · obtain ⟨u, hu, hun⟩ := up_mem x hx
    rw [hu, Int.toNat_natCast, won_press h hl hp hun]
theorem more_valid {zss : List (List Int)} {O P : List Int} (h : ArenaP O zss) (hl : P.length = O.length) (hp : ∀ x ∈ P, 0 ≤ x ∧ x ≤ 4) : parityB (turnO O) zss (moreP P) = true :=
  parityB_iff.2 ⟨turn_valid h, by rw [moreP_len, turnO_len]; exact hl, fun x hx => by
    obtain ⟨y, hy, rfl⟩ := List.mem_map.1 hx
    have := hp y hy; omega⟩

set_option maxHeartbeats 16000000 in
set_option maxRecDepth 100000 in
theorem lawFnFlips {w : World} {ab : Option Addr} {cb : Nat} {bs : List Int} (hby : BytesAt w ab bs) :
    Calls Try.prog 3 #[.slice ab bs.length cb] w fun e w' => e = .returned (.bool true) ∧ Below w.heap.size w w' := by
  have HY := Lib.hid hby
  have hbl := hby.len
  clear hby
  by_cases hbig : 4096 < (bs.length : Int)
  · have HG := Lib.hid (big_is (w := w) (ab := ab) (cb := cb) (decide_eq_true hbig))
    clear hbig
    go_enter Try.func3, Try.ntmps3
    go_wp2_with (go_at_call 14; refine HG.out.mono ?_; rintro e w' ⟨rfl, rfl⟩)
    go_ret
    exact ⟨rfl, Below.refl _ _⟩
  have HG := Lib.hid (big_is (w := w) (ab := ab) (cb := cb) (decide_eq_false hbig))
  have HRo := Lib.hid (roll_is (cb := cb) (s := 604) HY.out (by omega))
  clear hbig HY
  go_enter Try.func3, Try.ntmps3
  go_wp2_with fail
  refine HG.out.mono ?_
  rintro e w' ⟨rfl, rfl⟩
  go_wp2_with fail
  refine HRo.out.mono ?_
  rintro e w1 ⟨h1, rfl, hd1, hb⟩
  have B1 := Lib.hid hb
  have hp1 := hd1.lt
  have HGa := Lib.hid (w5Game_is (most := 8) hd1 (by omega) (by omega))
  clear hd1 hb HG HRo
  go_wp2_with fail
  refine HGa.out.mono ?_
  rintro e w2 ⟨vo, vn, vp, O, zss, P, rfl, hoa, hop, hAP, hmost, hlP, hPB, hdin⟩
  have hgm : GameAt w2 (.agg #[vo, vn, vp]) O zss P := game_parts hoa hop
  obtain ⟨N, hN⟩ : ∃ N, N = O.length := ⟨_, rfl⟩
  have hN8 : N ≤ 8 := by omega
  have hN1 : 1 ≤ N := by have := hAP.1; omega
  have hzN : zss.length = N := by have := hAP.2.2.1; omega
  have hPN : P.length = N := by omega
  obtain ⟨ga0, gc0, ga1, gc1, ga2, gc2, hv⟩ : ∃ a0 c0 a1 c1 a2 c2, Value.agg #[vo, vn, vp] = .agg #[.slice a0 N c0, .slice a1 N c1, .slice a2 N c2] := by
    obtain ⟨ao, an, ap, co, cn, cp, A, C, hv, _⟩ := hgm
    rw [← hN, hzN, hPN] at hv
    exact ⟨_, _, _, _, _, _, hv⟩
  simp only [Value.agg.injEq, Array.mk.injEq, List.cons.injEq, and_true] at hv
  obtain ⟨rfl, rfl, rfl⟩ := hv
  have hbw := B1.out.trans (hdin.only.below (B := w.heap.size) B1.out.size (fun b hb => by omega))
  have B2 := Lib.hid hbw
  have HN := Lib.hid hN
  have HZN := Lib.hid hzN
  have HPN := Lib.hid hPN
  have HAP := Lib.hid hAP
  have HLP := Lib.hid hlP
  have HPB := Lib.hid hPB
  obtain ⟨w3, hw3⟩ : ∃ y, y = w2.alloc (.cells #[.slice ga0 N gc0, .slice ga1 N gc1, .slice ga2 N gc2] 32) := ⟨_, rfl⟩
  have HW3 := Lib.hid hw3
  have hb3 : Below w2.heap.size w2 w3 := by rw [hw3]; exact below1 _ _
  have B3 := Lib.hid (B2.out.trans (hb3.mono B2.out.size))
  have G3 := Lib.hid (hgm.below hb3)
  have TG3 : Hid (Box3 w3 w2.heap.size 32 (.slice ga0 N gc0) (.slice ga1 N gc1) (.slice ga2 N gc2)) := by rw [hw3]; exact Box3.new _ _ _ _ _
  have hs23 : w2.heap.size < w3.heap.size := by rw [hw3]; simp
  have c0 := TG3.out.c0
  have c1 := TG3.out.c1
  have c2 := TG3.out.c2
  rw [hw3] at c0 c1 c2
  have hp : parityB O zss P = true := parityB_iff.2 ⟨hAP, hlP, fun x hx => by have := hPB x hx; omega⟩
  have HPg := Lib.hid hp
  have h40 : (40 : Int) ∉ P := fun h => by have := hPB _ h; omega
  have hfb : flipB O zss P = true := by unfold flipB; rw [hp]; simp [h40]
  have HFl := Lib.hid (Flipped_is (w := w3) (fO := turnO O) (fN := zss) (fP := moreP P) (r := true) ⟨by unfold flipO; rw [if_pos hfb], by unfold flipN; rw [if_pos hfb], by unfold flipP; rw [if_pos hfb], hfb⟩ G3.out)
  clear hw3 hb3 hgm hoa hop hdin HGa hbw hmost hp h40 hfb hAP hlP hPB hN hzN hPN B1
  go_wp2_with fail
  rw [← HW3.out]
  refine HFl.out.mono ?_
  rintro e w4 ⟨x, rfl, hx, hb⟩
  obtain ⟨fa0, fc0, fa1, fc1, fa2, fc2, hvs⟩ := hx.shapeN (N := N) (by rw [turnO_len]; exact HN.out.symm) HZN.out (by rw [moreP_len]; exact HPN.out)
  subst hvs
  obtain ⟨w5, hw5⟩ : ∃ y, y = w4.alloc (.cells #[.slice fa0 N fc0, .slice fa1 N fc1, .slice fa2 N fc2] 32) := ⟨_, rfl⟩
  have HW5 := Lib.hid hw5
  have hb45 : Below w4.heap.size w4 w5 := by rw [hw5]; exact below1 _ _
  have hb35 : Below w3.heap.size w3 w5 := hb.trans (hb45.mono hb.size)
  have B5 := Lib.hid (B3.out.trans (hb35.mono B3.out.size))
  have G5 := Lib.hid (G3.out.below hb35)
  have TG5 := Lib.hid (TG3.out.below hb35)
  have F5 := Lib.hid (hx.below hb45).at
  have TF5 : Hid (Box3 w5 w4.heap.size 32 (.slice fa0 N fc0) (.slice fa1 N fc1) (.slice fa2 N fc2)) := by rw [hw5]; exact Box3.new _ _ _ _ _
  clear c0 c1 c2
  have c0 := TG5.out.c0
  have c1 := TG5.out.c1
  have c2 := TG5.out.c2
  rw [hw5] at c0 c1 c2
  have HPr := Lib.hid (Pressed_is (w := w5) (gO := O) (gN := zss) (gP := pressL P) ⟨by unfold pressO; rw [if_pos HPg.out], by unfold pressN; rw [if_pos HPg.out], by unfold pressV; rw [if_pos HPg.out]⟩ G5.out)
  clear hw5 hb45 hb35 hb hx HFl G3 TG3 HW3
  go_wp2_with fail
  rw [← HW5.out]
  refine HPr.out.mono ?_
  rintro e w6 ⟨x, rfl, hx, hb⟩
  obtain ⟨qa0, qc0, qa1, qc1, qa2, qc2, hvs⟩ := hx.shapeN (N := N) HN.out.symm HZN.out (by rw [pressL_len]; exact HPN.out)
  subst hvs
  obtain ⟨w7, hw7⟩ : ∃ y, y = w6.alloc (.cells #[.slice qa0 N qc0, .slice qa1 N qc1, .slice qa2 N qc2] 32) := ⟨_, rfl⟩
  have HW7 := Lib.hid hw7
  have hb67 : Below w6.heap.size w6 w7 := by rw [hw7]; exact below1 _ _
  have hb57 : Below w5.heap.size w5 w7 := hb.trans (hb67.mono hb.size)
  have B7 := Lib.hid (B5.out.trans (hb57.mono B5.out.size))
  have G7 := Lib.hid (G5.out.below hb57)
  have F7 := Lib.hid (F5.out.below hb57)
  have Q7 := Lib.hid (hx.below hb67).at
  have TG := Lib.hid (TG5.out.below hb57)
  have TF := Lib.hid (TF5.out.below hb57)
  have TQ : Hid (Box3 w7 w6.heap.size 32 (.slice qa0 N qc0) (.slice qa1 N qc1) (.slice qa2 N qc2)) := by rw [hw7]; exact Box3.new _ _ _ _ _
  clear hw7 hb67 hb57 hb hx HPr G5 F5 TG5 TF5 HW5 c0 c1 c2
  obtain ⟨E, hE⟩ : ∃ E, E = evenL zss O P := ⟨_, rfl⟩
  obtain ⟨D, hD⟩ : ∃ D, D = oddL zss O P := ⟨_, rfl⟩
  have hPB40 : ∀ x ∈ P, 0 ≤ x ∧ x ≤ 40 := fun x hx => by have := HPB.out x hx; omega
  have HPq : Hid (parityB O zss (pressL P) = true) := parityB_iff.2 ⟨HAP.out, by rw [pressL_len]; exact HLP.out, press_bound hPB40⟩
  have HPf : Hid (parityB (turnO O) zss (moreP P) = true) := more_valid HAP.out HLP.out HPB.out
  have hed := even_dual HAP.out HLP.out (fun x hx => (HPB.out x hx).1)
  have hep := even_press HAP.out HLP.out hPB40
  rw [← hE, ← hD] at hed hep
  have HAll : Hid (∀ W : World, Calls Try.prog 23 #[.int .i64 N] W (GivesInts W (upL N))) := fun W => specAllOf_is (w := W) (n := (N : Int)) (allL_yes (by omega))
  have HWg : Hid (∀ W aI cI, Below w7.heap.size w7 W → IntsAt W aI (upL N) → Calls Try.prog 22 #[.agg #[.slice ga0 N gc0, .slice ga1 N gc1, .slice ga2 N gc2], .slice aI N cI] W fun e w' => ∃ x y, e = .returned (.tuple #[x, y]) ∧ IntsV w' x E ∧ IntsV w' y D ∧ Below W.heap.size W w') := fun W aI cI hb hi => by
    have h := WonIn_is cI (G7.out.below hb) HPg.out (by rw [HZN.out]; exact hi)
    rw [HZN.out, ← hE, ← hD] at h; exact h
  have HWf : Hid (∀ W aI cI, Below w7.heap.size w7 W → IntsAt W aI (upL N) → Calls Try.prog 22 #[.agg #[.slice fa0 N fc0, .slice fa1 N fc1, .slice fa2 N fc2], .slice aI N cI] W fun e w' => ∃ x y, e = .returned (.tuple #[x, y]) ∧ IntsV w' x D ∧ IntsV w' y E ∧ Below W.heap.size W w') := fun W aI cI hb hi => by
    have h := WonIn_is cI (F7.out.below hb) HPf.out (by rw [HZN.out]; exact hi)
    rw [HZN.out, hed.1, hed.2] at h; exact h
  have HWq : Hid (∀ W aI cI, Below w7.heap.size w7 W → IntsAt W aI (upL N) → Calls Try.prog 22 #[.agg #[.slice qa0 N qc0, .slice qa1 N qc1, .slice qa2 N qc2], .slice aI N cI] W fun e w' => ∃ x y, e = .returned (.tuple #[x, y]) ∧ IntsV w' x E ∧ IntsV w' y D ∧ Below W.heap.size W w') := fun W aI cI hb hi => by
    have h := WonIn_is cI (Q7.out.below hb) HPq.out (by rw [HZN.out]; exact hi)
    rw [HZN.out, hep.1, hep.2] at h; exact h
  have HTu : Hid (∀ W, Below w7.heap.size w7 W → Calls Try.prog 20 #[.agg #[.slice fa0 N fc0, .slice fa1 N fc1]] W (GivesArena W O zss)) := fun W hb => Turned_is ⟨by unfold turnedO; rw [if_pos (turn_valid HAP.out)]; exact turn_twice O, by unfold turnedN; rw [if_pos (turn_valid HAP.out)]⟩ (F7.out.arena.below hb)
  have HSa : Hid (∀ W v, Below w7.heap.size w7 W → ArenaAt W v O zss → Calls Try.prog 19 #[v, .agg #[.slice ga0 N gc0, .slice ga1 N gc1]] W fun e w' => e = .returned (.bool true) ∧ Below W.heap.size W w') := fun W v hb hv => SameArena_is (sameB_yes ⟨HAP.out, HAP.out, rfl, rfl⟩) hv (G7.out.arena.below hb)
  have HPo : Hid (∀ W, Below w7.heap.size w7 W → Calls Try.prog 21 #[.agg #[.slice qa0 N qc0, .slice qa1 N qc1, .slice qa2 N qc2]] W fun e w' => e = .returned (.bool true) ∧ Below W.heap.size W w') := fun W hb => specParityOk_is HPq.out (Q7.out.below hb)
  have Kd : Hid (Below w7.heap.size w7 w7.drew) := (Below.refl _ _).drew
  clear hE hD hPB40 hed hep

  have s0 := TG.out.c0
  have s1 := TG.out.c1
  have s2 := TG.out.c2
  have s3 := TF.out.c0
  have s4 := TF.out.c1
  have s5 := TF.out.c2
  have s6 := TQ.out.c0
  have s7 := TQ.out.c1
  have s8 := TQ.out.c2
  go_wp2
  rw [← HW7.out]
  go_region_held3 (fun w' => w'.cell? ⟨w2.heap.size, 0, none⟩ = some (.slice ga0 N gc0) ∧ w'.cell? ⟨w2.heap.size, 1, none⟩ = some (.slice ga1 N gc1) ∧ w'.cell? ⟨w2.heap.size, 2, none⟩ = some (.slice ga2 N gc2) ∧ w'.cell? ⟨w4.heap.size, 0, none⟩ = some (.slice fa0 N fc0) ∧ w'.cell? ⟨w4.heap.size, 1, none⟩ = some (.slice fa1 N fc1) ∧ w'.cell? ⟨w4.heap.size, 2, none⟩ = some (.slice fa2 N fc2) ∧ w'.cell? ⟨w6.heap.size, 0, none⟩ = some (.slice qa0 N qc0) ∧ w'.cell? ⟨w6.heap.size, 1, none⟩ = some (.slice qa1 N qc1) ∧ w'.cell? ⟨w6.heap.size, 2, none⟩ = some (.slice qa2 N qc2))
    (first
      | go_keep
      | exact ⟨e0, e1, e2, e3, e4, e5, e6, e7, e8⟩
      | exact ⟨f0, f1, f2, f3, f4, f5, f6, f7, f8⟩
      | exact ⟨h0, h1, h2, h3, h4, h5, h6, h7, h8⟩)
    (first
      | (go_at_call 20; refine (HTu.out _ Kd.out).mono ?_; rintro e w8 ⟨x, rfl, hx, hb⟩; obtain ⟨ta0, tc0, ta1, tc1, hvs⟩ := hx.shapeN (N := N) HN.out.symm HZN.out; subst hvs; have X8 := Lib.hid hx.at; have K8 := Lib.hid (Kd.out.trans (hb.mono Kd.out.size)); have e0 := (TG.out.below K8.out).c0; have e1 := (TG.out.below K8.out).c1; have e2 := (TG.out.below K8.out).c2; have e3 := (TF.out.below K8.out).c0; have e4 := (TF.out.below K8.out).c1; have e5 := (TF.out.below K8.out).c2; have e6 := (TQ.out.below K8.out).c0; have e7 := (TQ.out.below K8.out).c1; have e8 := (TQ.out.below K8.out).c2; clear hx hb)
      | (go_at_call 19; refine (HSa.out _ _ K8.out X8.out).mono ?_; rintro e w9 ⟨rfl, hb⟩; have K9 := Lib.hid (K8.out.trans (hb.mono K8.out.size)); have f0 := (TG.out.below K9.out).c0; have f1 := (TG.out.below K9.out).c1; have f2 := (TG.out.below K9.out).c2; have f3 := (TF.out.below K9.out).c0; have f4 := (TF.out.below K9.out).c1; have f5 := (TF.out.below K9.out).c2; have f6 := (TQ.out.below K9.out).c0; have f7 := (TQ.out.below K9.out).c1; have f8 := (TQ.out.below K9.out).c2; clear hb)
      | (go_at_call 21; refine (HPo.out _ K9.out).mono ?_; rintro e w10 ⟨rfl, hb⟩; have K10 := Lib.hid (K9.out.trans (hb.mono K9.out.size)); have h0 := (TG.out.below K10.out).c0; have h1 := (TG.out.below K10.out).c1; have h2 := (TG.out.below K10.out).c2; have h3 := (TF.out.below K10.out).c0; have h4 := (TF.out.below K10.out).c1; have h5 := (TF.out.below K10.out).c2; have h6 := (TQ.out.below K10.out).c0; have h7 := (TQ.out.below K10.out).c1; have h8 := (TQ.out.below K10.out).c2; clear hb))
  clear s0 s1 s2 s3 s4 s5 s6 s7 s8 e0 e1 e2 e3 e4 e5 e6 e7 e8 f0 f1 f2 f3 f4 f5 f6 f7 f8 h0 h1 h2 h3 h4 h5 h6 h7 h8
  clear HTu HSa HPo X8 K8 K9 Kd HW7
  have Kd : Hid (Below w7.heap.size w7 w10.drew) := K10.out.drew
  have s0 := (TG.out.below K10.out).c0
  have s1 := (TG.out.below K10.out).c1
  have s2 := (TG.out.below K10.out).c2
  have s3 := (TF.out.below K10.out).c0
  have s4 := (TF.out.below K10.out).c1
  have s5 := (TF.out.below K10.out).c2
  have s6 := (TQ.out.below K10.out).c0
  have s7 := (TQ.out.below K10.out).c1
  have s8 := (TQ.out.below K10.out).c2
  go_wp2
  go_region_held3 (fun w' => w'.cell? ⟨w2.heap.size, 0, none⟩ = some (.slice ga0 N gc0) ∧ w'.cell? ⟨w2.heap.size, 1, none⟩ = some (.slice ga1 N gc1) ∧ w'.cell? ⟨w2.heap.size, 2, none⟩ = some (.slice ga2 N gc2) ∧ w'.cell? ⟨w4.heap.size, 0, none⟩ = some (.slice fa0 N fc0) ∧ w'.cell? ⟨w4.heap.size, 1, none⟩ = some (.slice fa1 N fc1) ∧ w'.cell? ⟨w4.heap.size, 2, none⟩ = some (.slice fa2 N fc2) ∧ w'.cell? ⟨w6.heap.size, 0, none⟩ = some (.slice qa0 N qc0) ∧ w'.cell? ⟨w6.heap.size, 1, none⟩ = some (.slice qa1 N qc1) ∧ w'.cell? ⟨w6.heap.size, 2, none⟩ = some (.slice qa2 N qc2))
    (first
      | go_keep
      | exact ⟨e0, e1, e2, e3, e4, e5, e6, e7, e8⟩
      | exact ⟨f0, f1, f2, f3, f4, f5, f6, f7, f8⟩)
    (first
      | (go_at_call 23; refine (HAll.out _).mono ?_; rintro e w11 ⟨x, rfl, hx, hb⟩; obtain ⟨ua, uc, hvs, hui, _⟩ := hx.shape; rw [upL_len] at hvs; subst hvs; have U11 := Lib.hid hui; have K11 := Lib.hid (Kd.out.trans (hb.mono Kd.out.size)); have e0 := (TG.out.below K11.out).c0; have e1 := (TG.out.below K11.out).c1; have e2 := (TG.out.below K11.out).c2; have e3 := (TF.out.below K11.out).c0; have e4 := (TF.out.below K11.out).c1; have e5 := (TF.out.below K11.out).c2; have e6 := (TQ.out.below K11.out).c0; have e7 := (TQ.out.below K11.out).c1; have e8 := (TQ.out.below K11.out).c2; clear hx hui hb)
      | (go_at_call 22; refine (HWg.out _ _ _ K11.out U11.out).mono ?_; rintro e w12 ⟨x12, y12, rfl, hx, hy, hb⟩; have XE := Lib.hid hx; have XD := Lib.hid hy; have K12 := Lib.hid (K11.out.trans (hb.mono K11.out.size)); have f0 := (TG.out.below K12.out).c0; have f1 := (TG.out.below K12.out).c1; have f2 := (TG.out.below K12.out).c2; have f3 := (TF.out.below K12.out).c0; have f4 := (TF.out.below K12.out).c1; have f5 := (TF.out.below K12.out).c2; have f6 := (TQ.out.below K12.out).c0; have f7 := (TQ.out.below K12.out).c1; have f8 := (TQ.out.below K12.out).c2; clear hx hy hb))
  clear s0 s1 s2 s3 s4 s5 s6 s7 s8 e0 e1 e2 e3 e4 e5 e6 e7 e8 f0 f1 f2 f3 f4 f5 f6 f7 f8
  clear U11 HWg Kd K11
  have M12 : Hid (Below w12.heap.size w12 w12) := Below.refl _ _
  have Kd : Hid (Below w7.heap.size w7 w12.drew) := K12.out.drew
  have Md : Hid (Below w12.heap.size w12 w12.drew) := M12.out.drew
  have s0 := (TG.out.below K12.out).c0
  have s1 := (TG.out.below K12.out).c1
  have s2 := (TG.out.below K12.out).c2
  have s3 := (TF.out.below K12.out).c0
  have s4 := (TF.out.below K12.out).c1
  have s5 := (TF.out.below K12.out).c2
  have s6 := (TQ.out.below K12.out).c0
  have s7 := (TQ.out.below K12.out).c1
  have s8 := (TQ.out.below K12.out).c2
  go_wp2
  go_region_held3 (fun w' => w'.cell? ⟨w2.heap.size, 0, none⟩ = some (.slice ga0 N gc0) ∧ w'.cell? ⟨w2.heap.size, 1, none⟩ = some (.slice ga1 N gc1) ∧ w'.cell? ⟨w2.heap.size, 2, none⟩ = some (.slice ga2 N gc2) ∧ w'.cell? ⟨w4.heap.size, 0, none⟩ = some (.slice fa0 N fc0) ∧ w'.cell? ⟨w4.heap.size, 1, none⟩ = some (.slice fa1 N fc1) ∧ w'.cell? ⟨w4.heap.size, 2, none⟩ = some (.slice fa2 N fc2) ∧ w'.cell? ⟨w6.heap.size, 0, none⟩ = some (.slice qa0 N qc0) ∧ w'.cell? ⟨w6.heap.size, 1, none⟩ = some (.slice qa1 N qc1) ∧ w'.cell? ⟨w6.heap.size, 2, none⟩ = some (.slice qa2 N qc2))
    (first
      | go_keep
      | exact ⟨e0, e1, e2, e3, e4, e5, e6, e7, e8⟩
      | exact ⟨f0, f1, f2, f3, f4, f5, f6, f7, f8⟩)
    (first
      | (go_at_call 23; refine (HAll.out _).mono ?_; rintro e w13 ⟨x, rfl, hx, hb⟩; obtain ⟨ua, uc, hvs, hui, _⟩ := hx.shape; rw [upL_len] at hvs; subst hvs; have U13 := Lib.hid hui; have K13 := Lib.hid (Kd.out.trans (hb.mono Kd.out.size)); have M13 := Lib.hid (Md.out.trans (hb.mono Md.out.size)); have e0 := (TG.out.below K13.out).c0; have e1 := (TG.out.below K13.out).c1; have e2 := (TG.out.below K13.out).c2; have e3 := (TF.out.below K13.out).c0; have e4 := (TF.out.below K13.out).c1; have e5 := (TF.out.below K13.out).c2; have e6 := (TQ.out.below K13.out).c0; have e7 := (TQ.out.below K13.out).c1; have e8 := (TQ.out.below K13.out).c2; clear hx hui hb)
      | (go_at_call 22; refine (HWf.out _ _ _ K13.out U13.out).mono ?_; rintro e w14 ⟨x14, y14, rfl, hx, hy, hb⟩; have YD := Lib.hid hx; have YE := Lib.hid hy; have K14 := Lib.hid (K13.out.trans (hb.mono K13.out.size)); have M14 := Lib.hid (M13.out.trans (hb.mono M13.out.size)); have f0 := (TG.out.below K14.out).c0; have f1 := (TG.out.below K14.out).c1; have f2 := (TG.out.below K14.out).c2; have f3 := (TF.out.below K14.out).c0; have f4 := (TF.out.below K14.out).c1; have f5 := (TF.out.below K14.out).c2; have f6 := (TQ.out.below K14.out).c0; have f7 := (TQ.out.below K14.out).c1; have f8 := (TQ.out.below K14.out).c2; clear hx hy hb))
  clear s0 s1 s2 s3 s4 s5 s6 s7 s8 e0 e1 e2 e3 e4 e5 e6 e7 e8 f0 f1 f2 f3 f4 f5 f6 f7 f8
  clear U13 HWf Kd K13 Md M13
  have R14 : Hid (Below w14.heap.size w14 w14) := Below.refl _ _
  have Kd : Hid (Below w7.heap.size w7 w14.drew) := K14.out.drew
  have Md : Hid (Below w12.heap.size w12 w14.drew) := M14.out.drew
  have Rd : Hid (Below w14.heap.size w14 w14.drew) := R14.out.drew
  have s0 := (TG.out.below K14.out).c0
  have s1 := (TG.out.below K14.out).c1
  have s2 := (TG.out.below K14.out).c2
  have s3 := (TF.out.below K14.out).c0
  have s4 := (TF.out.below K14.out).c1
  have s5 := (TF.out.below K14.out).c2
  have s6 := (TQ.out.below K14.out).c0
  have s7 := (TQ.out.below K14.out).c1
  have s8 := (TQ.out.below K14.out).c2
  go_wp2
  go_region_held3 (fun w' => w'.cell? ⟨w2.heap.size, 0, none⟩ = some (.slice ga0 N gc0) ∧ w'.cell? ⟨w2.heap.size, 1, none⟩ = some (.slice ga1 N gc1) ∧ w'.cell? ⟨w2.heap.size, 2, none⟩ = some (.slice ga2 N gc2) ∧ w'.cell? ⟨w4.heap.size, 0, none⟩ = some (.slice fa0 N fc0) ∧ w'.cell? ⟨w4.heap.size, 1, none⟩ = some (.slice fa1 N fc1) ∧ w'.cell? ⟨w4.heap.size, 2, none⟩ = some (.slice fa2 N fc2) ∧ w'.cell? ⟨w6.heap.size, 0, none⟩ = some (.slice qa0 N qc0) ∧ w'.cell? ⟨w6.heap.size, 1, none⟩ = some (.slice qa1 N qc1) ∧ w'.cell? ⟨w6.heap.size, 2, none⟩ = some (.slice qa2 N qc2))
    (first
      | go_keep
      | exact ⟨e0, e1, e2, e3, e4, e5, e6, e7, e8⟩
      | exact ⟨f0, f1, f2, f3, f4, f5, f6, f7, f8⟩)
    (first
      | (go_at_call 23; refine (HAll.out _).mono ?_; rintro e w15 ⟨x, rfl, hx, hb⟩; obtain ⟨ua, uc, hvs, hui, _⟩ := hx.shape; rw [upL_len] at hvs; subst hvs; have U15 := Lib.hid hui; have K15 := Lib.hid (Kd.out.trans (hb.mono Kd.out.size)); have M15 := Lib.hid (Md.out.trans (hb.mono Md.out.size)); have R15 := Lib.hid (Rd.out.trans (hb.mono Rd.out.size)); have e0 := (TG.out.below K15.out).c0; have e1 := (TG.out.below K15.out).c1; have e2 := (TG.out.below K15.out).c2; have e3 := (TF.out.below K15.out).c0; have e4 := (TF.out.below K15.out).c1; have e5 := (TF.out.below K15.out).c2; have e6 := (TQ.out.below K15.out).c0; have e7 := (TQ.out.below K15.out).c1; have e8 := (TQ.out.below K15.out).c2; clear hx hui hb)
      | (go_at_call 22; refine (HWq.out _ _ _ K15.out U15.out).mono ?_; rintro e w16 ⟨x16, y16, rfl, hx, hy, hb⟩; have ZE := Lib.hid hx; have ZD := Lib.hid hy; have K16 := Lib.hid (K15.out.trans (hb.mono K15.out.size)); have M16 := Lib.hid (M15.out.trans (hb.mono M15.out.size)); have R16 := Lib.hid (R15.out.trans (hb.mono R15.out.size)); have f0 := (TG.out.below K16.out).c0; have f1 := (TG.out.below K16.out).c1; have f2 := (TG.out.below K16.out).c2; have f3 := (TF.out.below K16.out).c0; have f4 := (TF.out.below K16.out).c1; have f5 := (TF.out.below K16.out).c2; have f6 := (TQ.out.below K16.out).c0; have f7 := (TQ.out.below K16.out).c1; have f8 := (TQ.out.below K16.out).c2; clear hx hy hb))
  clear s0 s1 s2 s3 s4 s5 s6 s7 s8 e0 e1 e2 e3 e4 e5 e6 e7 e8 f0 f1 f2 f3 f4 f5 f6 f7 f8
  clear U15 HWq Kd K15 Md M15 Rd R15
  have B16 := Lib.hid (B7.out.trans (K16.out.mono B7.out.size))
  have XE16 := Lib.hid (XE.out.below M16.out)
  have XD16 := Lib.hid (XD.out.below M16.out)
  have YE16 := Lib.hid (YE.out.below R16.out)
  have YD16 := Lib.hid (YD.out.below R16.out)
  clear XE XD YE YD M16 R16 K16 TG TF TQ G7 F7 Q7 B7 HAll
  have L16 : Hid (Below w16.heap.size w16 w16) := Below.refl _ _
  go_wp2_with fail
  refine (likeInts_at (XE16.out.below L16.out) (YE16.out.below L16.out)).mono ?_
  rintro e w17 ⟨rfl, hb⟩
  have L17 := Lib.hid (L16.out.trans (hb.mono L16.out.size))
  clear hb L16
  go_wp2_with fail
  refine (likeInts_at (XD16.out.below L17.out) (YD16.out.below L17.out)).mono ?_
  rintro e w18 ⟨rfl, hb⟩
  have L18 := Lib.hid (L17.out.trans (hb.mono L17.out.size))
  clear hb L17
  go_wp2_with fail
  refine (likeInts_at (ZE.out.below L18.out) (XE16.out.below L18.out)).mono ?_
  rintro e w19 ⟨rfl, hb⟩
  have L19 := Lib.hid (L18.out.trans (hb.mono L18.out.size))
  clear hb L18
  go_wp2_with fail
  refine (likeInts_at (ZD.out.below L19.out) (XD16.out.below L19.out)).mono ?_
  rintro e w20 ⟨rfl, hb⟩
  have L20 := Lib.hid (L19.out.trans (hb.mono L19.out.size))
  clear hb L19
  go_wp2
  go_ret
  exact ⟨rfl, B16.out.trans (L20.out.mono B16.out.size)⟩

end Go.Proofs.Ytmobegiojhlakaa
