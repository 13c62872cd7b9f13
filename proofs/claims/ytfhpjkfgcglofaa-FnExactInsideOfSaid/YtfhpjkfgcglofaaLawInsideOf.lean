/-
  The walk of the law FnExactInsideOf.
-/
import Derived.Test.YtfhpjkfgcglofaaInts
import Derived.Test.YtfhpjkfgcglofaaInside
import Derived.Test.YtfhpjkfgcglofaaInsideSpec
import Derived.Deep.RegionHeld3
namespace Go.Proofs.Ytfhpjkfgcglofaa
open Go.RowKit

theorem OwnArena.shape {w : World} {B D : Nat} {v : Value} {O : List Int} {zss : List (List Int)} (h : OwnArena w B D v O zss) : ∃ ao co an cn, v = .agg #[.slice ao O.length co, .slice an zss.length cn] := by
  obtain ⟨ao, an, co, cn, A, C, hv, _, _⟩ := h.at
  exact ⟨ao, co, an, cn, hv⟩

theorem sumLen_cap {zss : List (List Int)} {c : Nat} (h : ∀ i, i < zss.length → (row zss i).length ≤ c) : ∀ k, k ≤ zss.length → sumLen zss k ≤ c * k
  | 0, _ => by simp [sumLen]
  | k + 1, hk => by
    have h1 := sumLen_cap h k (by omega)
    have h2 := h k (by omega)
    simp only [sumLen, Nat.mul_succ]
    omega

theorem inside_size (O : List Int) (zss : List (List Int)) (S : List Int) : sizeArena (insideO O zss S) (insideN O zss S) ≤ 1048576 := by
  by_cases h : InsideP O zss S
  · rw [(inside_yes h).1, (inside_yes h).2.1]
    obtain ⟨hP, hB, _, _⟩ := h
    have hl : (S.length : Int) ≤ (O.length : Int) := setB_len (Int.natCast_nonneg _) hB
    have hO := hP.2.1
    have hs := sumLen_cap (zss := inNK S zss S.length) (c := 16) (fun i hi => by
      rw [inNK_len] at hi
      obtain ⟨h0, h1, _⟩ := setB_bounds hB hi
      have h16 := (hP.2.2.2 (nth S i).toNat (by omega)).2.2.1
      have hr : row (inNK S zss S.length) i = inRow S zss i := by simp [row, inNK, hi]
      rw [hr]
      exact Nat.le_trans (places_len _ _ _) h16) _ (Nat.le_refl _)
    rw [inNK_len] at hs
    simp only [sizeArena, inOK_len, inNK_len]
    omega
  · rw [(inside_no h).1, (inside_no h).2.1]
    simp [sizeArena, sumLen]

set_option maxHeartbeats 16000000 in
set_option maxRecDepth 100000 in
theorem lawInsideOf {w : World} {va : Value} {O : List Int} {zss : List (List Int)} {aS : Option Addr} {S : List Int} {cs : Nat} (hA : ArenaAt w va O zss) (hS : IntsAt w aS S) :
    Calls Try.prog 10 #[va, .slice aS S.length cs] w fun e w' => e = .returned (.bool true) ∧ Below w.heap.size w w' := by
  have HA := Lib.hid hA
  obtain ⟨ao, an, co, cn, A, C, rfl, h1, h2⟩ := hA
  clear h1 h2
  have B1 := Lib.hid (below1 w (.cells #[.slice ao O.length co, .slice an zss.length cn] 33))
  have HSi := Lib.hid hS
  have hlS := hS.len
  clear hS
  by_cases hbig : (1048576 : Int) < S.length
  · go_enter Try.func10, Try.ntmps10
    go_wp2
    go_ret
    exact ⟨rfl, B1.out⟩
  have hsm : (S.length : Int) ≤ 1048576 := by omega
  have hsmN : S.length ≤ 1048576 := by omega
  clear hbig
  by_cases hs : (1048576 : Int) < sizeArena O zss
  · have HS := Lib.hid (szArena_at (leftOf_no hs) (HA.out.below B1.out) (by omega) (by omega))
    clear hs
    go_enter Try.func10, Try.ntmps10
    go_wp2_with (go_at_call 18; refine HS.out.mono ?_; rintro e w2 ⟨rfl, hb⟩; have B2 := Lib.hid (B1.out.trans (hb.mono B1.out.size)); clear hb)
    go_ret
    exact ⟨rfl, B2.out⟩
  · have hle : (sizeArena O zss : Int) ≤ 1048576 := by omega
    have hleN : sizeArena O zss ≤ 1048576 := by omega
    have HLE := Lib.hid hleN
    have hn : zss.length ≤ 1048576 := by have := sizeArena_rows hle; omega
    obtain ⟨m, hm⟩ : ∃ m, leftOf 1048576 (sizeArena O zss) = m := ⟨_, rfl⟩
    have hm0 : 0 ≤ m := by rw [← hm, leftOf_yes hle]; omega
    have HS := Lib.hid (szArena_at hm (HA.out.below B1.out) (by omega) (by omega))
    obtain ⟨P, hP⟩ : ∃ r, insideO O zss S = r := ⟨_, rfl⟩
    obtain ⟨yss, hyss⟩ : ∃ r, insideN O zss S = r := ⟨_, rfl⟩
    obtain ⟨r0, hr0⟩ : ∃ r, insideB O zss S = r := ⟨_, rfl⟩
    have R0 := Lib.hid (And.intro hP (And.intro hyss hr0))
    have hrr : (r0 != r0) = false := by simp
    have PLE : Hid (sizeArena P yss ≤ 1048576) := by rw [← hP, ← hyss]; exact inside_size O zss S
    have hPl : P.length ≤ 1048576 := by have := PLE.out; unfold sizeArena at this; omega
    have hPs : sumLen yss yss.length ≤ 1048576 := by have := PLE.out; unfold sizeArena at this; omega
    have PL := Lib.hid hPl
    have PS := Lib.hid hPs
    obtain ⟨mk, hmk⟩ : ∃ r : Int, 1 + (O.length : Int) + (sumLen zss zss.length : Int) = r := ⟨_, rfl⟩
    have MK := Lib.hid hmk
    have hmk0 : 0 ≤ mk := by omega
    have hmk1 : mk ≤ 1048577 := by unfold sizeArena at hleN; omega
    obtain ⟨mk2, hmk2⟩ : ∃ r : Int, mk + (S.length : Int) = r := ⟨_, rfl⟩
    have MK2 := Lib.hid hmk2
    have hmk20 : 0 ≤ mk2 := by omega
    obtain ⟨mg, hmg⟩ : ∃ r : Int, 1 + (P.length : Int) + (sumLen yss yss.length : Int) = r := ⟨_, rfl⟩
    have MG := Lib.hid hmg
    have hmg0 : 0 ≤ mg := by omega
    have hmgn : (mg != mg) = false := by simp
    clear hs hm hle hP hyss hmk hmg hPl hPs hleN hmk2 hr0
    go_enter Try.func10, Try.ntmps10
    go_wp2_with fail
    refine HS.out.mono ?_
    rintro e w2 ⟨rfl, hb⟩
    have B2 := Lib.hid (B1.out.trans (hb.mono B1.out.size))
    have b2 := Lib.hid ((Box2.new w 33 (.slice ao O.length co) (.slice an zss.length cn)).below hb)
    clear hb
    have c0 := b2.out.cell0
    have c1 := b2.out.cell1
    go_wp2_with fail
    refine (toArena_at (HA.out.below B2.out) hn).mono ?_
    rintro e w3 ⟨rfl, hc, hat⟩
    have B3 := Lib.hid (B2.out.trans (hc.below.mono B2.out.size))
    have b3 := Lib.hid (b2.out.below hc.below)
    have A3 := Lib.hid hat
    clear hc hat c0 c1
    go_wp2_with fail
    refine (toInts_at ⟨_, _, rfl, HSi.out.below B3.out⟩).mono ?_
    rintro e v3 ⟨u3, rfl, hu, hb⟩
    obtain ⟨ua3, uc3, hus, hui, _⟩ := hu.shape
    subst hus
    have B3' := Lib.hid (B3.out.trans (hb.mono B3.out.size))
    have b3' := Lib.hid (b3.out.below hb)
    have A3' := Lib.hid (A3.out.below hb)
    have U3 := Lib.hid hui
    clear hu hui hb
    go_wp2_with fail
    refine (specInsideOf_is uc3 R0.out A3'.out U3.out).mono ?_
    rintro e w4 ⟨vw, rfl, hg, hb⟩
    obtain ⟨zo, zc, zn, zd, hsh⟩ := hg.shape
    subst hsh
    have B4 := Lib.hid (B3'.out.trans (hb.mono B3'.out.size))
    have b4 := Lib.hid (b3'.out.below hb)
    have Z4 := Lib.hid hg.at
    have hsz4 := b4.out.lt
    have c0 := (b4.out.alloc (.cells #[.slice zo P.length zc, .slice zn yss.length zd] 27)).cell0
    have c1 := (b4.out.alloc (.cells #[.slice zo P.length zc, .slice zn yss.length zd] 27)).cell1
    clear hb hg
    go_wp2_with fail
    obtain ⟨w5, hw5⟩ : ∃ x, x = w4.alloc (.cells #[.slice zo P.length zc, .slice zn yss.length zd] 27) := ⟨_, rfl⟩
    rw [← hw5]
    have hb5 : Below w4.heap.size w4 w5 := by rw [hw5]; exact below1 _ _
    have z5 : Hid (Box2 w5 w4.heap.size 27 (.slice zo P.length zc) (.slice zn yss.length zd)) := by rw [hw5]; exact Box2.new _ _ _ _
    have B5 := Lib.hid (B4.out.trans (hb5.mono B4.out.size))
    have b5 := Lib.hid (b4.out.below hb5)
    have Z5 := Lib.hid (Z4.out.below hb5)
    clear hw5 hb5 c0 c1 hsz4
    refine (toArena_at (HA.out.below B5.out) hn).mono ?_
    rintro e w6 ⟨rfl, hc, hat⟩
    have K6 := Lib.hid hc.below
    have X6 := Lib.hid (hc.owned (HA.out.below B5.out))
    clear hc hat
    have z6 := Lib.hid (z5.out.below K6.out)
    have hzl := z6.out.lt
    go_wp2_with fail
    obtain ⟨w7, hw7⟩ : ∃ x, x = w6.alloc (.cells #[.slice (some ⟨w5.heap.size + 3, 0, none⟩) O.length O.length, .slice (some ⟨w5.heap.size + 4, 0, none⟩) zss.length zss.length] 27) := ⟨_, rfl⟩
    rw [← hw7]
    have hb7 : Below w6.heap.size w6 w7 := by rw [hw7]; exact below1 _ _
    have x7 : Hid (Box2 w7 w6.heap.size 27 (.slice (some ⟨w5.heap.size + 3, 0, none⟩) O.length O.length) (.slice (some ⟨w5.heap.size + 4, 0, none⟩) zss.length zss.length)) := by rw [hw7]; exact Box2.new _ _ _ _
    have hs67 : w7.heap.size = w6.heap.size + 1 := by rw [hw7]; simp
    have HS67 := Lib.hid hs67
    have K7 := Lib.hid (K6.out.trans (hb7.mono K6.out.size))
    have X7 := Lib.hid (X6.out.below hb7)
    clear hw7 hb7 hs67 hzl
    have HSw7 := Lib.hid (HSi.out.below (B5.out.trans (K7.out.mono B5.out.size)))
    go_wp2_with fail
    refine (toInts_at ⟨_, _, rfl, HSw7.out⟩).mono ?_
    rintro e v7 ⟨u7, rfl, hu, hb⟩
    obtain ⟨ua7, uc7, hus, hui, _⟩ := hu.shape
    subst hus
    have K7' := Lib.hid (K7.out.trans (hb.mono K7.out.size))
    have x7' := Lib.hid (x7.out.below hb)
    have X7' := Lib.hid (X7.out.below hb)
    have U7 := Lib.hid hu
    have U7i := Lib.hid hui
    have hs77 : w7.heap.size ≤ v7.heap.size := hb.size
    have HS77 := Lib.hid hs77
    clear hu hui hb hs77
    have c0 := x7'.out.cell0
    have c1 := x7'.out.cell1
    go_wp2_with fail
    refine (InsideOf_is uc7 R0.out X7'.out.at U7i.out).mono ?_
    rintro e w8 ⟨vg, rfl, hg, hb⟩
    clear c0 c1
    obtain ⟨go, gc, gn, gd, hsh⟩ := hg.shape
    subst hsh
    have K8 := Lib.hid (K7'.out.trans (hb.mono K7'.out.size))
    have x8 := Lib.hid (x7'.out.below hb)
    have X8 := Lib.hid (X7'.out.below hb)
    have U8 := Lib.hid (U7.out.below hb)
    have G8 := Lib.hid hg
    have hs78 : v7.heap.size ≤ w8.heap.size := hb.size
    have HS78 := Lib.hid hs78
    have z8 := Lib.hid (z5.out.below K8.out)
    have y0 := (z8.out.alloc (.cells #[.slice go P.length gc, .slice gn yss.length gd] 27)).cell0
    have y1 := (z8.out.alloc (.cells #[.slice go P.length gc, .slice gn yss.length gd] 27)).cell1
    clear hb hg hs78
    go_wp2_with fail
    obtain ⟨w9, hw9⟩ : ∃ x, x = w8.alloc (.cells #[.slice go P.length gc, .slice gn yss.length gd] 27) := ⟨_, rfl⟩
    rw [← hw9]
    have hb9 : Below w8.heap.size w8 w9 := by rw [hw9]; exact below1 _ _
    have g9 : Hid (Box2 w9 w8.heap.size 27 (.slice go P.length gc) (.slice gn yss.length gd)) := by rw [hw9]; exact Box2.new _ _ _ _
    have K9 := Lib.hid (K8.out.trans (hb9.mono K8.out.size))
    have x9 := Lib.hid (x8.out.below hb9)
    have X9 := Lib.hid (X8.out.below hb9)
    have G9 := Lib.hid (G8.out.below hb9)
    have U9 := Lib.hid (U8.out.below hb9)
    clear hw9 hb9 y0 y1
    refine (eqArena_at G9.out.at (Z5.out.below K9.out)).mono ?_
    rintro e wA ⟨rfl, hb⟩
    have KA := Lib.hid (K9.out.trans (hb.mono K9.out.size))
    have xA := Lib.hid (x9.out.below hb)
    have XA := Lib.hid (X9.out.below hb)
    have GA := Lib.hid (G9.out.below hb)
    have UA := Lib.hid (U9.out.below hb)
    have gA := Lib.hid (g9.out.below hb)
    have bA := Lib.hid (b5.out.below KA.out)
    clear hb
    have hd : Below wA.heap.size wA wA.drew := (Below.refl _ _).drew
    have KAd := Lib.hid (KA.out.trans (hd.mono KA.out.size))
    have BAd := Lib.hid (B5.out.trans (KAd.out.mono B5.out.size))
    have xAd := Lib.hid (xA.out.below hd)
    have XAd := Lib.hid (XA.out.below hd)
    have GAd := Lib.hid (GA.out.below hd)
    have UAd := Lib.hid (UA.out.below hd)
    have gAd := Lib.hid (gA.out.below hd)
    have bAd := Lib.hid (bA.out.below hd)
    clear hd
    have c0 := bA.out.cell0
    have c1 := bA.out.cell1
    have c2 := xA.out.cell0
    have c3 := xA.out.cell1
    go_wp2_with fail
    go_region_held3 (fun w' => w'.cell? ⟨w.heap.size, 0, none⟩ = some (.slice ao O.length co) ∧ w'.cell? ⟨w.heap.size, 1, none⟩ = some (.slice an zss.length cn) ∧
        w'.cell? ⟨w6.heap.size, 0, none⟩ = some (.slice (some ⟨w5.heap.size + 3, 0, none⟩) O.length O.length) ∧ w'.cell? ⟨w6.heap.size, 1, none⟩ = some (.slice (some ⟨w5.heap.size + 4, 0, none⟩) zss.length zss.length))
      (first
        | go_keep
        | exact ⟨d0, d1, d2, d3⟩
        | exact ⟨e0, e1, e2, e3⟩)
      (first
        | (go_at_call 20; refine (toArena_at (HA.out.below BAd.out) hn).mono ?_; rintro e wB ⟨rfl, hc, hat⟩; have bB := Lib.hid (bAd.out.below hc.below); have xB := Lib.hid (xAd.out.below hc.below); have d0 := bB.out.cell0; have d1 := bB.out.cell1; have d2 := xB.out.cell0; have d3 := xB.out.cell1; have KB := Lib.hid (KAd.out.trans (hc.below.mono KAd.out.size)); have AB := Lib.hid hat; have XB := Lib.hid (XAd.out.below hc.below); have GB := Lib.hid (GAd.out.below hc.below); have UB := Lib.hid (UAd.out.below hc.below); have gB := Lib.hid (gAd.out.below hc.below); clear hc hat)
        | (go_at_call 22; refine (eqArena_at XB.out.at AB.out).mono ?_; rintro e wC ⟨rfl, hb⟩; have bC := Lib.hid (bB.out.below hb); have xC := Lib.hid (xB.out.below hb); have e0 := bC.out.cell0; have e1 := bC.out.cell1; have e2 := xC.out.cell0; have e3 := xC.out.cell1; have KC := Lib.hid (KB.out.trans (hb.mono KB.out.size)); have XC := Lib.hid (XB.out.below hb); have GC := Lib.hid (GB.out.below hb); have UC := Lib.hid (UB.out.below hb); have gC := Lib.hid (gB.out.below hb); clear hb))
    clear c0 c1 c2 c3 d0 d1 d2 d3
    have HSC := Lib.hid (HSi.out.below (B5.out.trans (KC.out.mono B5.out.size)))
    go_wp2_with fail
    refine (toInts_at ⟨_, _, rfl, HSC.out⟩).mono ?_
    rintro e vC ⟨uC, rfl, hu, hb⟩
    have KC' := Lib.hid (KC.out.trans (hb.mono KC.out.size))
    have xC' := Lib.hid (xC.out.below hb)
    have XC' := Lib.hid (XC.out.below hb)
    have UC' := Lib.hid (UC.out.below hb)
    have GC' := Lib.hid (GC.out.below hb)
    have gC' := Lib.hid (gC.out.below hb)
    have VC := Lib.hid hu.v
    clear hu hb e0 e1 e2 e3
    go_wp2_with fail
    refine (eqInts_at UC'.out.v VC.out).mono ?_
    rintro e yC ⟨rfl, hb⟩
    have KCy := Lib.hid (KC'.out.trans (hb.mono KC'.out.size))
    have xCy := Lib.hid (xC'.out.below hb)
    have XCy := Lib.hid (XC'.out.below hb)
    have UCy := Lib.hid (UC'.out.below hb)
    have GCy := Lib.hid (GC'.out.below hb)
    have gCy := Lib.hid (gC'.out.below hb)
    clear hb
    have c0 := xCy.out.cell0
    have c1 := xCy.out.cell1
    go_wp2_with fail
    refine (markArena_at MK.out XCy.out (by omega) (by omega) HLE.out).mono ?_
    rintro e tD ⟨rfl, hx, ho⟩
    have h67 := HS67.out
    have h77 := HS77.out
    have h78 := HS78.out
    have h56 := K6.out.size
    have KDt := Lib.hid (KCy.out.trans (ho.below (B := w5.heap.size) KCy.out.size (fun b hb => hb.1)))
    have GDt := Lib.hid (GCy.out.only ho (fun g hg1 hg2 hb => by omega))
    have UDt := Lib.hid (UCy.out.only ho (fun g hg hb => by have := (UCy.out.own.lt g hg).1; omega))
    have gDt := Lib.hid (gCy.out.only ho (fun hb => by omega))
    clear hx ho h67 h77 h78 h56 c0 c1
    go_wp2_with fail
    refine (markInts_at MK2.out UDt.out (by omega) (by omega)).mono ?_
    rintro e wD ⟨rfl, hx, ho⟩
    have h67 := HS67.out
    have h77 := HS77.out
    have h78 := HS78.out
    have h56 := K6.out.size
    have KD := Lib.hid (KDt.out.trans (ho.below (B := w5.heap.size) KDt.out.size (fun b hb => by omega)))
    have GD := Lib.hid (GDt.out.only ho (fun g hg1 hg2 hb => by omega))
    have gD := Lib.hid (gDt.out.only ho (fun hb => by omega))
    clear hx ho h67 h77 h78 h56
    have zD := Lib.hid (z5.out.below KD.out)
    have c0 := gD.out.cell0
    have c1 := gD.out.cell1
    have c2 := zD.out.cell0
    have c3 := zD.out.cell1
    go_wp2_with fail
    refine (eqArena_at GD.out.at (Z5.out.below KD.out)).mono ?_
    rintro e wE ⟨rfl, hb⟩
    have KE := Lib.hid (KD.out.trans (hb.mono KD.out.size))
    have GE := Lib.hid (GD.out.below hb)
    have gE := Lib.hid (gD.out.below hb)
    clear hb c0 c1 c2 c3
    have c0 := gE.out.cell0
    have c1 := gE.out.cell1
    go_wp2_with fail
    refine (markArena_at MG.out GE.out (by omega) (by omega) PLE.out).mono ?_
    rintro e wF ⟨rfl, hg, ho⟩
    have h67 := HS67.out
    have h77 := HS77.out
    have h56 := K6.out.size
    have KF := Lib.hid (KE.out.trans (ho.below (B := w5.heap.size) KE.out.size (fun b hb => by omega)))
    have GF := Lib.hid hg
    have gF := Lib.hid (gE.out.only ho (fun hb => by omega))
    clear hg ho h67 h77 h56 c0 c1
    have c0 := gF.out.cell0
    have c1 := gF.out.cell1
    go_wp2_with fail
    refine (heldArena_at MG.out GF.out.at (by omega) (by omega) PL.out PS.out).mono ?_
    rintro e wG ⟨rfl, hb⟩
    have KG := Lib.hid (KF.out.trans (hb.mono KF.out.size))
    have GG := Lib.hid (GF.out.below hb)
    have gG := Lib.hid (gF.out.below hb)
    have bG := Lib.hid (b5.out.below KG.out)
    have BG := Lib.hid (B5.out.trans (KG.out.mono B5.out.size))
    clear hb c0 c1
    have c0 := bG.out.cell0
    have c1 := bG.out.cell1
    go_wp2_with fail
    refine (toArena_at (HA.out.below BG.out) hn).mono ?_
    rintro e wH ⟨rfl, hc, hat⟩
    have KH := Lib.hid (KG.out.trans (hc.below.mono KG.out.size))
    have GH := Lib.hid (GG.out.below hc.below)
    have gH := Lib.hid (gG.out.below hc.below)
    have AH := Lib.hid hat
    clear hc hat c0 c1
    go_wp2_with fail
    have HSH := Lib.hid (HSi.out.below (B5.out.trans (KH.out.mono B5.out.size)))
    go_wp2_with fail
    refine (toInts_at ⟨_, _, rfl, HSH.out⟩).mono ?_
    rintro e vH ⟨uH, rfl, hu, hb⟩
    obtain ⟨uaH, ucH, hus, hui, _⟩ := hu.shape
    subst hus
    have KH' := Lib.hid (KH.out.trans (hb.mono KH.out.size))
    have GH' := Lib.hid (GH.out.below hb)
    have gH' := Lib.hid (gH.out.below hb)
    have AH' := Lib.hid (AH.out.below hb)
    have UH := Lib.hid hui
    clear hu hui hb
    go_wp2_with fail
    refine (InsideOf_is ucH R0.out AH'.out UH.out).mono ?_
    rintro e wI ⟨vh, rfl, hg, hb⟩
    obtain ⟨ho, hc, hn', hd, hsh⟩ := hg.shape
    subst hsh
    have KI := Lib.hid (KH'.out.trans (hb.mono KH'.out.size))
    have GI := Lib.hid (GH'.out.below hb)
    have gI := Lib.hid (gH'.out.below hb)
    have hI := Lib.hid hg.at
    clear hb hg
    have zI := Lib.hid (z5.out.below KI.out)
    have y0 := (zI.out.alloc (.cells #[.slice ho P.length hc, .slice hn' yss.length hd] 27)).cell0
    have y1 := (zI.out.alloc (.cells #[.slice ho P.length hc, .slice hn' yss.length hd] 27)).cell1
    go_wp2_with fail
    obtain ⟨wJ, hwJ⟩ : ∃ x, x = wI.alloc (.cells #[.slice ho P.length hc, .slice hn' yss.length hd] 27) := ⟨_, rfl⟩
    rw [← hwJ]
    have hbJ : Below wI.heap.size wI wJ := by rw [hwJ]; exact below1 _ _
    have KJ := Lib.hid (KI.out.trans (hbJ.mono KI.out.size))
    have GJ := Lib.hid (GI.out.below hbJ)
    have gJ := Lib.hid (gI.out.below hbJ)
    have hJ := Lib.hid (hI.out.below hbJ)
    clear hwJ hbJ y0 y1
    refine (eqArena_at hJ.out (Z5.out.below KJ.out)).mono ?_
    rintro e wK ⟨rfl, hb⟩
    have KK := Lib.hid (KJ.out.trans (hb.mono KJ.out.size))
    have GK := Lib.hid (GJ.out.below hb)
    have gK := Lib.hid (gJ.out.below hb)
    clear hb
    have c0 := gK.out.cell0
    have c1 := gK.out.cell1
    go_wp2_with fail
    refine (heldArena_at MG.out GK.out.at (by omega) (by omega) PL.out PS.out).mono ?_
    rintro e wL ⟨rfl, hb⟩
    have KL := Lib.hid (KK.out.trans (hb.mono KK.out.size))
    have BL := Lib.hid (B5.out.trans (KL.out.mono B5.out.size))
    clear hb c0 c1
    go_wp2
    go_ret
    exact ⟨rfl, BL.out⟩

end Go.Proofs.Ytfhpjkfgcglofaa
