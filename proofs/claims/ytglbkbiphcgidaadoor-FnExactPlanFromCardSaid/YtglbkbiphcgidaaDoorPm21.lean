import Derived.Deep.RegionHeld3
import Derived.Maps.AppendAt
import Derived.Shelf.SlGeneric
import Derived.Shelf.SortM.Plain
import Derived.Shelf.SortM.SortNone
import Derived.Ground.SlgmProg
import Derived.Test.YtglbkbiphcgidaaDoorProg
import Derived.Sort.OwnSortedInts
import Derived.Shelf.SlicesE.Compact
import Derived.Ground.SlgnProg
import Derived.Lib.AppendZeros
import Derived.Lib.OwnBridge
import Derived.Test.YtglbkbiphcgidaaDoorPm00
import Derived.Test.YtglbkbiphcgidaaDoorPm02
import Derived.Test.YtglbkbiphcgidaaDoorPm01
import Derived.Test.YtglbkbiphcgidaaDoorPm04
import Derived.Test.YtglbkbiphcgidaaDoorPm06
import Derived.Test.YtglbkbiphcgidaaDoorPm08
import Derived.Test.YtglbkbiphcgidaaDoorPm20
namespace Go.Proofs.YtglbkbiphcgidaaDoor
section
open Go.RowKit Go.Shelf
attribute [local go_sem] Oper.semAt_some
theorem aiH (n : Nat) : eX (wH n) = allI n := funext fun v => by
 rw [Bool.eq_iff_iff, wR]
 unfold allI wH
 rw [decide_eq_true_eq, List.mem_map]
 constructor
 · rintro ⟨i, hi, e⟩
   have := List.mem_range.1 hi
   have : (i : Int) = (v : Int) := e
   omega
 · intro h
   exact ⟨v, List.mem_range.2 h, rfl⟩
noncomputable def bK (ah : List (List Int)) (O P : List Int) (who : Int) : Nat → Bool := dM ah O (nth P) (allI O.length) who
theorem aiI {w : World} {a : Option Addr} {n : Nat} (hI : aV w a (wH n)) (hn : n ≤ 256) : Calls Tryd.prog 103 #[.slice a n n] w fun e w' => e = .returned (aW (allI n)) ∧ Below w.heap.size w w' := by
 have h := Uh n hI (fun x hx => by
  obtain ⟨u, hu, hu2⟩ := afL x hx
  exact ⟨u, hu, by omega⟩) (by rw [Fh]; omega)
 rw [Fh, aiH] at h
 exact h
theorem aiJ {fn : Func} {p : Tmp} {tmps : Array Value} {W : World} {g : Nat} {I J : Nat → Bool} {R : Ending → World → Prop} (hr : fn.results = #[.cell p 71]) (hp : tmps.getD p undef = .pointer (some ⟨g, 0, none⟩))
 (hM : cZ W g I J) (hR : R (.returned (jc I J)) W) : bodyPost Tryd.prog fn R .ret { tmps := tmps, defers := [] } W :=
 bodyPost_ret (v := jc I J) (results_cell_row hr tmps _ g _ _ _ (.array 2 69) hp hM (by kernel_rfl) rfl (by kernel_rfl)) rfl hR
set_option linter.unusedSimpArgs false in
set_option maxRecDepth 100000 in
set_option maxHeartbeats 16000000 in
theorem Qs {w : World} {v : Value} {O P : List Int} {ah : List (List Int)} (hT : dS w) (h : gX w v O ah P) (hp : fZ O ah P = true) :
 Calls Tryd.prog 58 #[v] w fun e w' => e = .returned (jc (bK ah O P 0) (bK ah O P 1)) ∧ Below w.heap.size w w' := by
 unfold bK
 have fP := Lib.hid h
 have HT := Lib.hid hT
 obtain ⟨hA, hPl, PI⟩ := iY.1 hp
 have hzl := hA.2.2.1
 have HGO := Lib.hid (abJ hp)
 have HLV := Lib.hid (VR hp)
 have HTO : Hid (fE ah (allI O.length)) := by
  have := aai hA
  rw [hzl] at this
  exact this
 obtain ⟨ao, an, ap, co, cn, cp, A, C, rfl, h1, h2, h3⟩ := h
 have wP := Lib.hid hp
 obtain ⟨n, hn⟩ : ∃ n, n = O.length := ⟨_, rfl⟩
 have hn2 : n ≤ 256 := by have := hA.2.1; omega
 have uO : n ≤ 17592186044416 := by omega
 rw [← hn] at hPl hzl HGO HLV HTO
 have KD := fun (W : World) (hb : Below w.heap.size w W) => abY (gQ ah O (nth P)) (HT.out.below hb) (fP.out.below hb) wP.out
 rw [← hn] at KD
 simp only [hzl, hPl] at KD
 have KD := Lib.hid KD
 rw [← hn, hzl, hPl]
 clear hA PI h1 h2 h3 hn hzl hPl hp hT fP
 go_enter Tryd.func58, Tryd.ntmps58
 go_wp2_with fail
 obtain ⟨w1, hw1⟩ : ∃ y, y = (w.alloc (.cells #[.slice ao n co, .slice an n cn, .slice ap n cp] 35)).alloc (.cells #[.int .u64 0, .int .u64 0, .int .u64 0, .int .u64 0, .int .u64 0, .int .u64 0, .int .u64 0, .int .u64 0] 71) := ⟨_, rfl⟩
 rw [← hw1]
 have HB1 : Hid (Below w.heap.size w w1) := by rw [hw1]; exact below2 _ _ _
 have BR : Hid (jD w1 w.heap.size 35 (.slice ao n co) (.slice an n cn) (.slice ap n cp)) := by rw [hw1]; exact (jD.new _ _ _ _ _).below (aA _ _)
 have XP : Hid (cZ w1 (w.heap.size + 1) (fun _ => false) (fun _ => false)) := by
  rw [hw1, Vs]
  exact Vr _ _ _ (by simp)
 clear hw1
 have aC : Hid (∀ W', Below w1.heap.size w1 W' → W'.cell? ⟨w.heap.size, 0, none⟩ = some (.slice ao n co) ∧ W'.cell? ⟨w.heap.size, 1, none⟩ = some (.slice an n cn) ∧ W'.cell? ⟨w.heap.size, 2, none⟩ = some (.slice ap n cp)) := fun W' hb => ⟨(BR.out.below hb).c0, (BR.out.below hb).c1, (BR.out.below hb).c2⟩
 have Kd : Hid (Below w1.heap.size w1 w1.drew) := (Below.refl _ _).drew
 have hsd : w1.drew.heap.size = w1.heap.size := rfl
 refine jB (S := (fun W' => W'.cell? ⟨w.heap.size, 0, none⟩ = some (.slice ao n co) ∧ W'.cell? ⟨w.heap.size, 1, none⟩ = some (.slice an n cn) ∧ W'.cell? ⟨w.heap.size, 2, none⟩ = some (.slice ap n cp))) (m := 8) (by kernel_rfl) (aC.out _ Kd.out) (fun hHd => ?_)
 refine aB (i := 0) (v := ?rW) rfl (by kernel_rfl) (by decide) (by kernel_rfl) (by kernel_rfl) (by kernel_rfl) (fun _ _ _ h => h) (Or.inl ⟨by rfl, ?hm1⟩) (by assumption) ?_
 case hm1 => (intro w hSw; (try dsimp only at hSw); go_simp; first | done | with_reducible rfl)
 try simp only [Act.put, g1, g2, g3]
 refine aB (i := 2) (v := ?rZ) rfl (by kernel_rfl) (by decide) (by kernel_rfl) (by kernel_rfl) (by kernel_rfl) (fun _ _ _ h => h) (Or.inl ⟨by rfl, ?hm2⟩) (by assumption) ?_
 case hm2 => (intro w hSw; (try dsimp only at hSw); go_simp; first | done | with_reducible rfl)
 try simp only [Act.put, g1, g2, g3]
 refine aB (i := 3) (v := ?su) rfl (by kernel_rfl) (by decide) (by kernel_rfl) (by kernel_rfl) (by kernel_rfl) (fun _ _ _ h => h) (Or.inl ⟨by rfl, ?iR⟩) (by assumption) ?_
 case iR => (intro w hSw; (try dsimp only at hSw); go_simp; first | done | with_reducible rfl)
 try simp only [Act.put, g1, g2, g3]
 refine aG (i := 1) (by kernel_rfl) rfl (fun K hK => ?_)
 go_simp
 go_at_call 62
 refine (KD.out w1.drew (HB1.out.trans (Kd.out.mono HB1.out.size))).mono ?_
 rintro e wa ⟨b, nb, pb, kb, rfl, hR, hFn, xB, hM, hge, hb⟩
 have hR := Lib.hid hR
 have hM := Lib.hid hM
 have Ka := Lib.hid (Kd.out.trans (hb.mono Kd.out.size))
 clear hb
 go_wp2_with fail
 refine hK.out _ _ (fun _ => aC.out _ Ka.out) (fun hHd => ?_)
 have hHd := hHd (by decide)
 clear hK K
 try simp only [Act.put, g1, g2, g3]
 refine aG (i := 4) (by kernel_rfl) rfl (fun K hK => ?_)
 go_simp
 go_at_call 63
 refine (rG ao an n n co cn wa uO).mono ?_
 rintro e wb ⟨rfl, hwb⟩
 have hb : Below wa.heap.size wa wb := by rw [← hwb]; exact aA _ _
 have hR2 := Lib.hid (hR.out.below hb)
 have hM2 := Lib.hid (hM.out.below hb)
 have Kb := Lib.hid (Ka.out.trans (hb.mono Ka.out.size))
 clear hb hwb
 go_wp2_with fail
 refine hK.out _ _ (fun _ => aC.out _ Kb.out) (fun hHd => ?_)
 have hHd := hHd (by decide)
 clear hK K
 try simp only [Act.put, g1, g2, g3]
 refine aG (i := 5) (by kernel_rfl) rfl (fun K hK => ?_)
 go_simp
 go_at_call 104
 refine (aeM n (by omega) wb).mono ?_
 rintro e wc ⟨rfl, hI, hb⟩
 have hI := Lib.hid hI
 have MI := Lib.hid (hR2.out.below hb)
 have hM3 := Lib.hid (hM2.out.below hb)
 have Kc := Lib.hid (Kb.out.trans (hb.mono Kb.out.size))
 clear hb
 go_wp2_with fail
 refine hK.out _ _ (fun _ => aC.out _ Kc.out) (fun hHd => ?_)
 have hHd := hHd (by decide)
 clear hK K
 try simp only [Act.put, g1, g2, g3]
 refine aG (i := 6) (by kernel_rfl) rfl (fun K hK => ?_)
 go_simp
 go_at_call 103
 refine (aiI hI.out hn2).mono ?_
 rintro e wd ⟨rfl, hb⟩
 have hR4 := Lib.hid (MI.out.below hb)
 have hM4 := Lib.hid (hM3.out.below hb)
 have Kx := Lib.hid (Kc.out.trans (hb.mono Kc.out.size))
 clear hb
 go_wp2_with fail
 refine hK.out _ _ (fun _ => aC.out _ Kx.out) (fun hHd => ?_)
 have hHd := hHd (by decide)
 clear hK K
 try simp only [Act.put, g1, g2, g3]
 refine aG (i := 7) (by kernel_rfl) rfl (fun K hK => ?_)
 go_simp
 go_at_call 102
 refine (abw HGO.out HLV.out _ (allI n) (Nat.lt_succ_self _) (fun x hx => by unfold allI at hx; simpa using hx) HTO.out wd (HT.out.below (HB1.out.trans (Kx.out.mono HB1.out.size))) hR4.out hM4.out).mono ?_
 rintro e we ⟨rfl, ho, hm⟩
 have hsx := Kx.out.size
 have Ke : Hid (Below w1.heap.size w1 we) := ((Only.of_below (S := fun k => w1.heap.size ≤ k) Kx.out).trans (ho.mono fun k hk => by omega)).below (Nat.le_refl _) (fun k h => h)
 clear ho hm
 go_wp2_with fail
 refine hK.out _ _ (fun _ => aC.out _ Ke.out) (fun hHd => ?_)
 have hHd := hHd (by decide)
 clear hK K
 try simp only [Act.put, g1, g2, g3]
 refine aG (i := 8) (by kernel_rfl) rfl (fun K hK => ?_)
 rw [if_pos (by kernel_rfl)]
 have bO := Lib.hid (XP.out.below Ke.out)
 refine wp_store_row 71 _ _ rfl (w.heap.size + 1) (kZ (dM ah O (nth P) (allI n) 0) (dM ah O (nth P) (allI n) 1)) rfl rfl 71 (kZ (fun _ => false) (fun _ => false)) bO.out (by kernel_rfl) (by simp) (by simp [Value.oneCell']) ?_
 refine hK.out _ _ (fun h => absurd h (by decide)) (fun _ => ?_)
 clear hK K
 try simp only [Act.put, g1, g2, g3]
 refine dA (by kernel_rfl) ?_ _
 have bZ : Hid (cZ (we.setRow (w.heap.size + 1) (kZ (dM ah O (nth P) (allI n) 0) (dM ah O (nth P) (allI n) 1))) (w.heap.size + 1) (dM ah O (nth P) (allI n) 0) (dM ah O (nth P) (allI n) 1)) := bO.out.Vt _ _
 have bB : Hid (Below w.heap.size w (we.setRow (w.heap.size + 1) (kZ (dM ah O (nth P) (allI n) 0) (dM ah O (nth P) (allI n) 1)))) := (GX (S := fun k => w.heap.size ≤ k) (Only.of_below (HB1.out.trans (Ke.out.mono HB1.out.size))) (by omega) _).below (Nat.le_refl _) (fun k h => h)
 go_wp2_with fail
 exact aiJ (g := w.heap.size + 1) rfl rfl bZ.out ⟨rfl, bB.out⟩
end
end Go.Proofs.YtglbkbiphcgidaaDoor
namespace Go.Proofs.YtglbkbiphcgidaaDoor
section
open Go.RowKit Go.Shelf
section
variable {O P : List Int} {ah : List (List Int)} {who : Int} {v : Nat}
theorem acA (hz : ah.length = O.length) (hv : v < O.length) : bK ah O P who v = (oG ah O P v == decide (who = 0)) := by
 unfold bK dM dK oG allI
 rw [hz]
 simp [hv]
theorem aiK (h : bK ah O P who v = true) : v < O.length := by
 have := NS h
 unfold allI at this
 simpa using this
theorem XQ (hz : ah.length = O.length) (hw : who = 0 ∨ who = 1) (hv : v < O.length) : bK ah O P who v = true ↔ nth (dJ ah O P) v = who := by
 rw [acA hz hv, Ny (by omega)]
 rcases hw with rfl | rfl <;> cases oG ah O P v <;> simp
theorem Qu (hz : ah.length = O.length) (hv : v < O.length) : nth (dJ ah O P) v = if bK ah O P 1 v = true then 1 else 0 := by
 rw [acA hz hv, Ny (by omega)]
 cases oG ah O P v <;> simp
end
end
end Go.Proofs.YtglbkbiphcgidaaDoor
namespace Go.Proofs.YtglbkbiphcgidaaDoor
section
open Go.RowKit Go.Shelf
noncomputable def zf (O : List Int) (ah : List (List Int)) (P Pk : List Int) : Bool := @decide (∀ j, j < Pk.length → nth Pk j ≠ -1 → nth (dJ ah O P) j = nth O j) (Classical.propDecidable _)
theorem II {O P Pk : List Int} {ah : List (List Int)} : zf O ah P Pk = true ↔ ∀ j, j < Pk.length → nth Pk j ≠ -1 → nth (dJ ah O P) j = nth O j := by unfold zf; rw [@decide_eq_true_eq _ (Classical.propDecidable _)]
set_option linter.unusedSimpArgs false in
set_option maxHeartbeats 16000000 in
set_option maxRecDepth 100000 in
theorem acB {w : World} {v : Value} {O P Pk : List Int} {ah : List (List Int)} {aK : Option Addr} {r : Bool} (cK : Nat) (hr : zf O ah P Pk = r) (h : gX w v O ah P) (hK : aV w aK Pk) (hp : fZ O ah P = true) (hl : Pk.length = O.length) :
 Calls Tryd.prog 59 #[v, jc (bK ah O P 0) (bK ah O P 1), .slice aK Pk.length cK] w fun e w' => e = .returned (.bool r) ∧ Below w.heap.size w w' := by
 have hpy := iY.1 hp
 have hz : ah.length = O.length := hpy.1.2.2.1
 have hn : O.length ≤ 256 := hpy.1.2.1
 have HV : Hid (∀ j, j < O.length → nth O j = 0 ∨ nth O j = 1) := fun j hj => (hpy.1.2.2.2 j hj).1
 have HW : Hid (∀ {who : Int} {j : Nat}, who = 0 ∨ who = 1 → j < O.length → (bK ah O P who j = true ↔ nth (dJ ah O P) j = who)) := fun {who j} hw hj => XQ hz hw hj
 have iH := Lib.hid hK
 have HR := Lib.hid hr
 obtain ⟨ao, an, ap, co, cn, cp, A, C, rfl, h1, h2, h3⟩ := h
 have tZ := Lib.hid h1
 obtain ⟨w1, hw1⟩ : ∃ y, y = (w.alloc (.cells #[.slice ao O.length co, .slice an ah.length cn, .slice ap P.length cp] 35)).alloc (.cells (kZ (bK ah O P 0) (bK ah O P 1)) 71) := ⟨_, rfl⟩
 have XR := hw1
 simp only [kZ] at XR
 have HW1 := Lib.hid XR
 have B1 : Hid (Below w.heap.size w w1) := by rw [hw1]; exact below2 _ _ _
 have T1 : Hid (aT w1 w.heap.size 35 (.slice ao O.length co) (.slice an ah.length cn) (.slice ap P.length cp)) := by rw [hw1]; exact (aT.new w _ _ _ _).below (aA _ _)
 have O1 : Hid (cZ w1 (w.heap.size + 1) (bK ah O P 0) (bK ah O P 1)) := by
  rw [hw1]
  have h := heap_alloc_new (w.alloc (.cells #[.slice ao O.length co, .slice an ah.length cn, .slice ap P.length cp] 35)) (.cells (kZ (bK ah O P 0) (bK ah O P 1)) 71)
  rw [World.size_alloc] at h
  exact h
 have hl1 : Pk.length ≤ O.length := Nat.le_of_eq hl
 have hl2 : O.length ≤ Pk.length := Nat.le_of_eq hl.symm
 clear hw1 XR h1 h2 h3 hK hr hpy hp hz hl
 go_enter Tryd.func59, Tryd.ntmps59
 go_wp2
 rw [← HW1.out]
 go_loopw [11] (fun iv wr => ∃ k : Nat, k ≤ Pk.length ∧ iv = .int .i64 k ∧ Hid (∀ j, j < k → nth Pk j ≠ -1 → nth (dJ ah O P) j = nth O j) ∧ Hid (Below w1.heap.size w1 wr)) (fun iv _ => Pk.length - (intOf iv).toNat)
 case atStart => exact ⟨0, Nat.zero_le _, rfl, fun j hj => absurd hj (Nat.not_lt_zero _), Below.refl _ _⟩
 case round =>
  obtain ⟨k, hk, rfl, HJ, HKB⟩ := hrel
  have BW := Lib.hid (B1.out.trans (HKB.out.mono B1.out.size))
  have TW := Lib.hid (T1.out.below HKB.out)
  have OW := Lib.hid (O1.out.below HKB.out)
  by_cases hlt : k < Pk.length
  · have hi1 : (k : Int) < Pk.length := by omega
    have hi2 : (k : Int) < O.length := by omega
    have hk0 : (0 : Int) ≤ (k : Int) := by omega
    obtain ⟨kb, ko, hka, hkc⟩ := (iH.out.below BW.out).cell (by omega)
    have k1 := hkc k hlt
    obtain ⟨ob, oo, hoa, hoc⟩ := (tZ.out.below BW.out).cell (by omega)
    have o1 := hoc k (by omega)
    obtain ⟨u, hu⟩ : ∃ u, u = nth Pk k := ⟨_, rfl⟩
    rw [← hu] at k1
    have HU := Lib.hid hu
    have t0 := TW.out.c0
    subst hka hoa
    clear hkc hu hoc
    by_cases hm : u = -1
    · subst hm
      have HJ2 : Hid (∀ j, j < k + 1 → nth Pk j ≠ -1 → nth (dJ ah O P) j = nth O j) := fun j hj hne => by
       by_cases e : j = k
       · rw [e] at hne; exact absurd HU.out.symm hne
       · exact HJ.out j (by omega) hne
      clear t0 o1
      go_wp2
      go_roundw
      case rel => exact ⟨k + 1, by omega, by go_num, HJ2, HKB⟩
      case measure => simp [intOf]; omega
    · have hm2 : (u != -1) = true := bne_iff_ne.2 hm
      rcases HV.out k (by omega) with hi | hi
      · rw [hi] at o1
        have g0 := OW.out.c0
        have g1 := OW.out.c1
        have g2 := OW.out.c2
        have g3 := OW.out.c3
        have HI := Lib.hid hi
        cases hmw : bK ah O P 0 k with
        | true =>
          have HJ2 : Hid (∀ j, j < k + 1 → nth Pk j ≠ -1 → nth (dJ ah O P) j = nth O j) := fun j hj hne => by
           by_cases e : j = k
           · rw [e, HI.out]; exact (HW.out (by omega) (by omega)).1 hmw
           · exact HJ.out j (by omega) hne
          have HM := Lib.hid hmw
          clear hmw hm hi
          go_wp2_with (go_at_call 105; refine (Du (bK ah O P 0) k HM.out (by omega)).mono ?_; rintro e w5 ⟨rfl, hb5⟩; have K5 := Lib.hid (HKB.out.trans (hb5.mono HKB.out.size)); clear hb5)
          go_roundw
          case rel => exact ⟨k + 1, by omega, by go_num, HJ2, K5⟩
          case measure => simp [intOf]; omega
        | false =>
          have HE : Hid (r = false) := by
           rw [← HR.out]
           cases hb : zf O ah P Pk with
           | false => exact rfl
           | true =>
             have h1 := II.1 hb k hlt (by rw [← HU.out]; exact hm)
             rw [HI.out] at h1
             have h2 := (HW.out (who := 0) (by omega) (by omega)).2 h1
             rw [hmw] at h2
             cases h2
          have HM := Lib.hid hmw
          clear hmw hm hi
          go_wp2_with (go_at_call 105; refine (Du (bK ah O P 0) k HM.out (by omega)).mono ?_; rintro e w5 ⟨rfl, hb5⟩; have K5 := Lib.hid (HKB.out.trans (hb5.mono HKB.out.size)); clear hb5)
          go_ret
          rw [HE.out]
          exact ⟨rfl, B1.out.trans (K5.out.mono B1.out.size)⟩
      · rw [hi] at o1
        have g0 := OW.out.c4
        have g1 := OW.out.c5
        have g2 := OW.out.c6
        have g3 := OW.out.c7
        have HI := Lib.hid hi
        cases hmw : bK ah O P 1 k with
        | true =>
          have HJ2 : Hid (∀ j, j < k + 1 → nth Pk j ≠ -1 → nth (dJ ah O P) j = nth O j) := fun j hj hne => by
           by_cases e : j = k
           · rw [e, HI.out]; exact (HW.out (by omega) (by omega)).1 hmw
           · exact HJ.out j (by omega) hne
          have HM := Lib.hid hmw
          clear hmw hm hi
          go_wp2_with (go_at_call 105; refine (Du (bK ah O P 1) k HM.out (by omega)).mono ?_; rintro e w5 ⟨rfl, hb5⟩; have K5 := Lib.hid (HKB.out.trans (hb5.mono HKB.out.size)); clear hb5)
          go_roundw
          case rel => exact ⟨k + 1, by omega, by go_num, HJ2, K5⟩
          case measure => simp [intOf]; omega
        | false =>
          have HE : Hid (r = false) := by
           rw [← HR.out]
           cases hb : zf O ah P Pk with
           | false => exact rfl
           | true =>
             have h1 := II.1 hb k hlt (by rw [← HU.out]; exact hm)
             rw [HI.out] at h1
             have h2 := (HW.out (who := 1) (by omega) (by omega)).2 h1
             rw [hmw] at h2
             cases h2
          have HM := Lib.hid hmw
          clear hmw hm hi
          go_wp2_with (go_at_call 105; refine (Du (bK ah O P 1) k HM.out (by omega)).mono ?_; rintro e w5 ⟨rfl, hb5⟩; have K5 := Lib.hid (HKB.out.trans (hb5.mono HKB.out.size)); clear hb5)
          go_ret
          rw [HE.out]
          exact ⟨rfl, B1.out.trans (K5.out.mono B1.out.size)⟩
  · have hi1 : ¬ (k : Int) < Pk.length := by omega
    have HE : Hid (r = true) := by rw [← HR.out]; exact II.2 fun j hj => HJ.out j (by omega)
    go_wp2
    go_ret
    rw [HE.out]
    exact ⟨rfl, BW.out⟩
end
end Go.Proofs.YtglbkbiphcgidaaDoor
namespace Go.Proofs.YtglbkbiphcgidaaDoor
section
section
open Go.RowKit
end
section
open Go.RowKit
end
section
open Go.RowKit
end
end
section
open Go.RowKit
end
section
section
open Go.RowKit
end
section
open Go.RowKit
end
end
end Go.Proofs.YtglbkbiphcgidaaDoor
namespace Go.Proofs.YtglbkbiphcgidaaDoor
open Go.RowKit
end Go.Proofs.YtglbkbiphcgidaaDoor
namespace Go.Proofs.YtglbkbiphcgidaaDoor
open Go.RowKit
set_option maxHeartbeats 8000000 in
set_option maxRecDepth 100000 in
theorem aiL {w : World} {va : Value} {O P : List Int} {ah : List (List Int)} {aP : Option Addr} (cP : Nat) (hPL : P.length = ah.length) (hz0 : 0 < ah.length) (hzl : ah.length ≤ 1048576) (hneg : ∀ v, v < P.length → nth P v = -1 ∨ 0 ≤ nth P v) (h : gZ w va O ah) (hP : aV w aP P) :
 Calls Tryd.prog 108 #[va, .slice aP P.length cP] w (QW w O (pF ah P ah.length)) := by
 have HAt := Lib.hid h
 obtain ⟨ao, an, co, cn, A, C, rfl, h1, h2⟩ := h
 have sW := hP.len
 have rO := Lib.hid hP
 have kD := Lib.hid hPL
 have HNG := Lib.hid hneg
 obtain ⟨w1, hw1⟩ : ∃ y, y = (w.alloc (.cells #[.slice ao O.length co, .slice an ah.length cn] 33)).alloc (.cells #[.slice none 0 0, .slice none 0 0] 33) := ⟨_, rfl⟩
 have HW1 := Lib.hid hw1
 have B1 : Hid (Below w.heap.size w w1) := by rw [hw1]; exact below2 _ _ _
 have hs1 : w1.heap.size = w.heap.size + 1 + 1 := by rw [hw1]; simp
 have cO := Lib.hid hs1
 have T1 : Hid (aI w1 w.heap.size 33 (.slice ao O.length co) (.slice an ah.length cn)) := by rw [hw1]; exact (aI.new w _ _ _).alloc _
 have R1 : Hid (aI w1 (w.heap.size + 1) 33 (.slice none 0 0) (.slice none 0 0)) := by rw [hw1]; exact aI.xJ (by simp) _ _ _
 have kR : Hid (∀ v, v < P.length → Fits (nth P v)) := rO.out.fits
 have XT := Lib.hid (aex (HAt.out.below B1.out) hzl)
 clear hw1 h1 h2 hP hs1 hPL hneg
 go_enter Tryd.func108, Tryd.ntmps108
 go_wp2_with fail
 rw [← HW1.out]
 refine XT.out.mono ?_
 rintro e w3 ⟨va, rfl, hoa, hb⟩
 obtain ⟨vo, vn, V, rfl, ho, hrw, hap⟩ := hoa
 obtain ⟨a1, k1, hs1, _, _⟩ := ho.shape
 obtain ⟨a2, k2, hs2, _, _⟩ := hrw.shape
 subst hs1
 subst hs2
 have B3 := Lib.hid (B1.out.trans (hb.mono B1.out.size))
 have R3 := Lib.hid (R1.out.below hb)
 obtain ⟨w4, hw4⟩ : ∃ y, y = w3.alloc (.cells #[.slice a1 O.length k1, .slice a2 ah.length k2] 33) := ⟨_, rfl⟩
 have kC := Lib.hid hw4
 have xE : Below w3.heap.size w3 w4 := by rw [hw4]; exact aA _ _
 have S4 : Hid (iW w1.heap.size w4 w3.heap.size (.slice a1 O.length k1) (.slice a2 ah.length k2) V O (pF ah P 0)) := by
  rw [af2]
  exact ⟨hb.size, by rw [hw4]; exact aI.new _ _ _ _, (ho.below xE).bg, (hrw.below xE).bg, hap⟩
 have R4 := Lib.hid (R3.out.below xE)
 have B4 := Lib.hid (B3.out.trans (xE.mono B3.out.size))
 clear hb ho hrw hap xE hw4
 go_wp2
 rw [← kC.out]
 go_loopw [12] (fun iv wr => ∃ (k : Nat) (V : Nat → Value), k ≤ P.length ∧ iv = .int .i64 k ∧ Hid (iW w1.heap.size wr w3.heap.size (.slice a1 O.length k1) (.slice a2 ah.length k2) V O (pF ah P k)) ∧ Hid (Only (fun b => w1.heap.size ≤ b) w4 wr)) (fun iv _ => P.length - (intOf iv).toNat)
 case atStart => exact ⟨0, V, Nat.zero_le _, rfl, S4, Only.refl _ _⟩
 case round =>
  clear S4
  obtain ⟨k, V, hk, rfl, HS, HO⟩ := hrel
  have Bw := Lib.hid (B4.out.trans (HO.out.below (B := w.heap.size) B4.out.size (fun b hb => by have := B1.out.size; omega)))
  by_cases hlt : k < P.length
  · have hi1 : (k : Int) < P.length := by omega
    have hkz : k < ah.length := by have := kD.out; omega
    have hi2 : (k : Int) < ah.length := by omega
    have hk0 : (0 : Int) ≤ (k : Int) := by omega
    obtain ⟨pb, po, hpa, hpc⟩ := (rO.out.below Bw.out).cell (by omega)
    have p1 := hpc k hlt
    obtain ⟨q, hq⟩ : ∃ q, q = nth P k := ⟨_, rfl⟩
    have HQ := Lib.hid hq
    have XU : Fits q := by rw [hq]; exact kR.out k hlt
    have qG : q = -1 ∨ 0 ≤ q := by rw [hq]; exact HNG.out k hlt
    rw [← hq] at p1
    by_cases h0 : q = -1
    · have hq1 : (q != -1) = false := by simpa using h0
      have lY : Hid (iW w1.heap.size wr w3.heap.size (.slice a1 O.length k1) (.slice a2 ah.length k2) V O (pF ah P (k + 1))) := by
       rw [← af4 (by rw [← HQ.out]; omega)]; exact HS.out
      subst hpa
      clear hpc hq h0 qG XU
      go_wp2
      go_roundw
      case rel => exact ⟨k + 1, V, by omega, by go_num, lY, HO⟩
      case measure => simp [intOf]; omega
    · have hq1 : (q != -1) = true := by simpa using h0
      have hq0 : 0 ≤ q := by omega
      obtain ⟨g, cap, hvn, hgn⟩ := HS.out.head (by rw [kQ]; exact hz0)
      rw [kQ] at hvn
      simp only [Value.slice.injEq, true_and] at hvn
      obtain ⟨rfl, rfl⟩ := hvn
      have Fa := HS
      rw [← kQ ah P k] at Fa
      obtain ⟨hrc, hrf⟩ := Fa.out.Zl (v := k) (by rw [kQ]; exact hkz)
      obtain ⟨ub, uc, hV, _, _⟩ := (HS.out.rows.rows k (by rw [kQ]; exact hkz)).shape
      obtain ⟨w5, hw5⟩ : ∃ y, y = wr.alloc (.cells #[.int .i64 q] 2) := ⟨_, rfl⟩
      have hb5 : Below wr.heap.size wr w5 := by rw [hw5]; exact aA _ _
      have hput := Fa.out.putRow (v := k) (zs := [q]) (w7 := w5) (u := .slice (some ⟨wr.heap.size, 0, none⟩) 1 1) (by rw [kQ]; exact hkz) (Only.of_below hb5)
       (by rw [hw5]; exact ((aeR wr q XU).bg).base (by have := HO.out.size; have := HS.out.base; have := HS.out.str.lt; omega)) (.inr ⟨_, rfl, Nat.le_refl _⟩)
      rw [HQ.out, af5 hkz (by rw [← HQ.out]; exact hq0), kQ] at hput
      have AO := Lib.hid hput
      have XV := Lib.hid (HO.out.trans hput.2)
      have t1 := HS.out.str.cell1
      have t1a := (HS.out.str.alloc (.cells #[.int .i64 q] 2)).cell1
      have acC := Below.CJ (B := 0) (aA wr (.cells #[.int .i64 q] 2)) rfl hrc
      have aiM : (wr.alloc (.cells #[.int .i64 q] 2)).frozen? ⟨g, k, none⟩ = false := ((Fa.out.keep (aA wr (.cells #[.int .i64 q] 2))).Zl (v := k) (by rw [kQ]; exact hkz)).2
      rw [hV] at hrc acC
      rw [hw5] at AO XV
      subst hpa
      clear hpc hq h0 qG XU hput hw5 hb5 hV
      go_wp2
      clear t1 t1a hrc acC hrf aiM
      go_roundw
      case rel => exact ⟨k + 1, _, by omega, by go_num, AO.out.1, XV⟩
      case measure => simp [intOf]; omega
  · have hi1 : ¬ (k : Int) < P.length := by omega
    have hkk : k = ah.length := by have := kD.out; omega
    have Rw := Lib.hid (R4.out.only HO.out (by have := cO.out; omega))
    have d0 := Rw.out.cell0
    have d1 := Rw.out.cell1
    have g0 := Rw.out.frozen 0
    have g1 := Rw.out.frozen 1
    have t0 := HS.out.str.cell0
    have t1 := HS.out.str.cell1
    rw [hkk] at HS
    have hS : Only (fun b => b = w.heap.size + 1) wr ((wr.setCell ⟨w.heap.size + 1, 0, none⟩ (.slice a1 O.length k1)).setCell ⟨w.heap.size + 1, 1, none⟩ (.slice a2 ah.length k2)) := (aI.zI _).trans (aI.I4 _)
    have hfin : Hid (jm ((wr.setCell ⟨w.heap.size + 1, 0, none⟩ (.slice a1 O.length k1)).setCell ⟨w.heap.size + 1, 1, none⟩ (.slice a2 ah.length k2)) w.heap.size ((wr.setCell ⟨w.heap.size + 1, 0, none⟩ (.slice a1 O.length k1)).setCell ⟨w.heap.size + 1, 1, none⟩ (.slice a2 ah.length k2)).heap.size (.agg #[.slice a1 O.length k1, .slice a2 ah.length k2]) O (pF ah P ah.length)) :=
     ⟨_, _, V, rfl, ((HS.out.ints.only hS (fun g hg e => Rw.out.dL HS.out.ints.own (by decide) (by rw [hg, e]))).bg.base B1.out.size), ((HS.out.rows.only hS (fun g hg e => Rw.out.dL HS.out.rows.own (by decide) (by rw [hg, e])) (fun k hk g hg e => Rw.out.dL (HS.out.rows.rows k hk).own (by decide) (by rw [hg, e]))).bg.base B1.out.size), HS.out.apart⟩
    clear hkk HS
    go_wp2
    exact bodyPost_ret (v := .agg #[.slice a1 O.length k1, .slice a2 ah.length k2]) (by simp [results, Tryd.results108, go_sem, d0, d1]) rfl
     ⟨_, rfl, hfin.out, Bw.out.trans (hS.below (B := w.heap.size) Bw.out.size (fun b hb => by omega))⟩
end Go.Proofs.YtglbkbiphcgidaaDoor
namespace Go.Proofs.YtglbkbiphcgidaaDoor
section
section
open Go.Shelf
end
section
open Go.RowKit Go.Sort
end
end
section
open Go.Shelf
end
section
open Go.Shelf
end
section
open Go.RowKit Go.Sort
end
section
open Go.RowKit
end
end Go.Proofs.YtglbkbiphcgidaaDoor
