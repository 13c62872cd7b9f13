/-
  Contracts of chapter 7: the model's PlanFrom.
-/
import Derived.Test.YtokcinhopajniaaGreatDoorOnlySpec
import Derived.Test.YtokcinhopajniaaGreatDoorPlanMath
import Derived.Test.YtokcinhopajniaaGreatDoorAnsOkImpl
import Derived.Test.YtokcinhopajniaaGreatDoorAnswerImpl
import Derived.Test.YtokcinhopajniaaGreatDoorCat1
import Derived.Test.YtokcinhopajniaaGreatDoorGame
import Derived.Test.YtokcinhopajniaaGreatDoorKitGame
import Derived.Deep.RegionHeld3
namespace Go.Proofs.YtokcinhopajniaaGreatDoor
section
open Go.RowKit

/-- Picks only where the owner wins. -/
def OwnP (O P Pk : List Int) (zss : List (List Int)) : Prop := ∀ v, v < zss.length → nth Pk v ≠ -1 → nth (wonL zss O P) v = nth O v
noncomputable def givenB (O : List Int) (zss : List (List Int)) (P Pk : List Int) : Bool := keepsB O zss P Pk && @decide (OwnP O P Pk zss) (Classical.propDecidable _)
noncomputable def givenX (O : List Int) (zss : List (List Int)) (P Pk : List Int) : List Int := if givenB O zss P Pk = true then wonL zss O P else []
noncomputable def givenY (O : List Int) (zss : List (List Int)) (P Pk : List Int) : List Int := if givenB O zss P Pk = true then planK zss O P Pk zss.length else []
theorem givenB_iff {O P Pk : List Int} {zss : List (List Int)} : givenB O zss P Pk = true ↔ keepsB O zss P Pk = true ∧ OwnP O P Pk zss := by
  unfold givenB; rw [Bool.and_eq_true, @decide_eq_true_eq _ (Classical.propDecidable _)]
theorem given_no {O P Pk X Y : List Int} {zss : List (List Int)} {r : Bool} (hr : givenX O zss P Pk = X ∧ givenY O zss P Pk = Y ∧ givenB O zss P Pk = r) (h : ¬ (keepsB O zss P Pk = true ∧ OwnP O P Pk zss)) : X = [] ∧ Y = [] ∧ r = false := by
  obtain ⟨rfl, rfl, rfl⟩ := hr
  have hb : givenB O zss P Pk = false := by
    cases hb : givenB O zss P Pk with
    | false => rfl
    | true => exact absurd (givenB_iff.1 hb) h
  unfold givenX givenY
  rw [hb]; simp
theorem given_yes {O P Pk X Y : List Int} {zss : List (List Int)} {r : Bool} (hr : givenX O zss P Pk = X ∧ givenY O zss P Pk = Y ∧ givenB O zss P Pk = r) (h : keepsB O zss P Pk = true ∧ OwnP O P Pk zss) : X = wonL zss O P ∧ Y = planK zss O P Pk zss.length ∧ r = true := by
  obtain ⟨rfl, rfl, rfl⟩ := hr
  have hb := givenB_iff.2 h
  unfold givenX givenY
  rw [hb]; simp

/-- A call hands back an answer of its own and a bool. -/
def GivesAnswerB (w : World) (X Y : List Int) (r : Bool) (e : Ending) (w' : World) : Prop :=
  ∃ vx vy, e = .returned (.tuple #[.agg #[vx, vy], .bool r]) ∧ OwnInts w' w.heap.size w'.heap.size vx X ∧ OwnInts w' w.heap.size w'.heap.size vy Y ∧ (∀ g, vx.ownBlock = some g → vy.ownBlock ≠ some g) ∧ Below w.heap.size w w'

theorem but_cell {w W : World} {k : Nat} (ho : Only (fun b => b = k) w W) {p : Addr} {v : Value} (hp : p.block ≠ k) (h : w.cell? p = some v) : W.cell? p = some v := by
  have hb := ho.block p.block (World.block_lt_of_cell? w p h) hp
  rw [← h]
  simp only [World.cell?, hb]

theorem rows_but {w W : World} {B q n k : Nat} {V : Nat → Value} {R : Nat → List Int} (h : RowSet w B q n V R) (hk : w.rowIs k 2 n (fun _ => .int .i64 (-1))) (hR : ∀ u, u < n → ∀ x ∈ R u, 0 ≤ x) (hn : n ≤ 256) (ho : Only (fun b => b = k) w W) : RowsAt W (some ⟨q, 0, none⟩) (fun k => addrOf (V k)) (fun k => capOf (V k)) (rowsOf n R) := by
  have hp := prev_rows h hn
  have hl := rowsOf_len n R
  have hqk : q ≠ k := fun e => game_row hk h.own (by decide) (by rw [e]; rfl)
  refine ⟨hp.len, fun hpos => ?_, fun u hu => ?_⟩
  · obtain ⟨b, off, hb, hc⟩ := hp.cell hpos
    refine ⟨b, off, hb, fun i hi => ?_⟩
    have h1 := hc i hi
    have hbq : b = q := by simp only [Option.some.injEq, Addr.mk.injEq] at hb; exact hb.1.symm
    subst hbq
    exact but_cell ho hqk h1
  · have h2 := hp.rows u hu
    refine ⟨h2.len, h2.fits, fun hpos => ?_⟩
    rw [hl] at hu
    obtain ⟨b, off, hb, hc⟩ := h2.cell hpos
    refine ⟨b, off, hb, fun i hi => but_cell ho (fun e => ?_) (hc i hi)⟩
    subst e
    obtain ⟨a, cap, hv, _, hown⟩ := (h.rows u hu).shape
    rw [rowsOf_row hu] at hpos hc
    obtain ⟨g, hg, _⟩ := hown hpos
    rw [hv] at hb
    simp only [addrOf] at hb
    rw [hg] at hb
    simp only [Option.some.injEq, Addr.mk.injEq] at hb
    obtain ⟨rfl, rfl, _⟩ := hb
    have h3 := hc 0 hpos
    have hn0 : 0 < n := by omega
    have h4 : w.cell? ⟨g, 0, none⟩ = some (.int .i64 (-1)) := World.rowIs.cell hk hn0
    rw [Nat.zero_add, h4] at h3
    have h5 := hR u hu _ (nth_mem hpos)
    simp at h3
    omega

theorem pickZ_mem {hold : Int → Bool} {I : Nat → Bool} : ∀ {us : List Int}, pickZ hold I us = -1 ∨ pickZ hold I us ∈ us
  | [] => .inl rfl
  | a :: us => by
    rw [pickZ]
    by_cases e : (I a.toNat && hold a) = true
    · rw [if_pos e]; exact .inr (by simp)
    · rw [if_neg e]
      rcases pickZ_mem (hold := hold) (I := I) (us := us) with h | h
      · exact .inl h
      · exact .inr (by simp [h])
theorem planK_len {zss : List (List Int)} {O P Pk : List Int} : ∀ k, (planK zss O P Pk k).length = Pk.length
  | 0 => rfl
  | k + 1 => by
    rw [planK]
    split
    · exact planK_len k
    · rw [List.length_set]; exact planK_len k
theorem planK_fits {zss : List (List Int)} {O P Pk : List Int} (hz : InG zss) (hn : zss.length ≤ 256) (hl : Pk.length = zss.length) (hf : ∀ j, j < zss.length → Fits (nth Pk j)) : ∀ k, k ≤ zss.length → ∀ j, j < zss.length → Fits (nth (planK zss O P Pk k) j)
  | 0, _, j, hj => hf j hj
  | k + 1, hk, j, hj => by
    have ih := planK_fits hz hn hl hf k (by omega) (O := O) (P := P)
    rw [planK]
    split
    · exact ih j hj
    · rw [nthSet7 (by rw [planK_len]; omega)]
      split
      · rcases pickZ_mem (hold := fun u => holdsZ zss O P ((planK zss O P Pk k).set k u) (rgW zss O P (nth O k)) (nth O k)) (I := rgW zss O P (nth O k)) (us := row zss k) with h | h
        · rw [h]; unfold Fits; omega
        · obtain ⟨y, hy, hyn⟩ := hz k (by omega) _ h
          rw [hy]; unfold Fits; omega
      · exact ih j hj
theorem planK_skip {zss : List (List Int)} {O P Pk : List Int} {k : Nat} (h : 0 ≤ nth (planK zss O P Pk k) k ∨ nth (wonL zss O P) k ≠ nth O k) : planK zss O P Pk (k + 1) = planK zss O P Pk k := by rw [planK, if_pos h]
theorem planK_put {zss : List (List Int)} {O P Pk : List Int} {k : Nat} (h : ¬ (0 ≤ nth (planK zss O P Pk k) k ∨ nth (wonL zss O P) k ≠ nth O k)) : planK zss O P Pk (k + 1) = (planK zss O P Pk k).set k (pickZ (fun u => holdsZ zss O P ((planK zss O P Pk k).set k u) (rgW zss O P (nth O k)) (nth O k)) (rgW zss O P (nth O k)) (row zss k)) := by rw [planK, if_neg h]
theorem regI_rgW {zss : List (List Int)} {O P : List Int} {who : Int} (hw : who = 0 ∨ who = 1) {v : Nat} (hv : v < zss.length) : regI (wonL zss O P) who v = rgW zss O P who v := by
  have h := rgW_won (O := O) (P := P) hw hv
  unfold regI
  cases hr : rgW zss O P who v with
  | true => rw [beq_iff_eq]; exact h.1 hr
  | false => rw [beq_eq_false_iff_ne]; exact fun e => by rw [h.2 e] at hr; cases hr

theorem answer_done {w wr : World} {xa : Option Addr} {xc n kb s3 : Nat} {won Y : List Int} {A B : Value} (hX : OwnInts wr w.heap.size wr.heap.size (.slice xa n xc) won) (hXs : ∀ g, (Value.slice xa n xc).ownBlock = some g → w.heap.size + 1 < g ∧ g < s3) (hY : wr.rowIs kb 2 n (numsV (nth Y))) (hYl : Y.length = n) (hn : n ≤ 256) (hf : ∀ j, j < n → Fits (nth Y j)) (hkb : s3 ≤ kb) (hs : w.heap.size + 1 < s3) (hB : Below w.heap.size w wr) :
    GivesAnswerB w won Y true (.returned (.tuple #[.agg #[.slice xa n xc, .slice (some ⟨kb, 0, none⟩) n n], .bool true])) ((wr.setCell ⟨w.heap.size + 1, 0, none⟩ A).setCell ⟨w.heap.size + 1, 1, none⟩ B) := by
  have hS : Only (fun b => b = w.heap.size + 1) wr ((wr.setCell ⟨w.heap.size + 1, 0, none⟩ A).setCell ⟨w.heap.size + 1, 1, none⟩ B) := ((Only.refl (fun b => b = w.heap.size + 1) wr).setCell (p := ⟨w.heap.size + 1, 0, none⟩) rfl _).setCell (p := ⟨w.heap.size + 1, 1, none⟩) rfl _
  have hy := OwnInts.of_rowIs (w := wr) (B := w.heap.size) (D := wr.heap.size) (zs := Y) (by rw [hYl]; exact hY) (by omega) hY.lt (by omega) (by rw [hYl]; exact hf)
  rw [hYl] at hy
  refine ⟨_, _, rfl, (hX.only hS fun g hg e => by have := hXs g hg; omega).retop, (hy.only hS fun g hg e => by simp [Value.ownBlock] at hg; omega).retop, fun g hg hh => ?_, (hB.setCell (p := ⟨w.heap.size + 1, 0, none⟩) (by simp) _).setCell (p := ⟨w.heap.size + 1, 1, none⟩) (by simp) _⟩
  simp [Value.ownBlock] at hh
  have := hXs g hg
  omega

theorem OwnP_ok {O P Pk : List Int} {zss : List (List Int)} (h : ∀ v, v < Pk.length → nth Pk v ≠ -1 → nth (wonL zss O P) v = nth O v) (hl : Pk.length = zss.length) : OwnP O P Pk zss := fun v hv => h v (by omega)

set_option maxHeartbeats 16000000 in
set_option maxRecDepth 100000 in
theorem planFrom_is {w : World} {v : Value} {O P Pk X Y : List Int} {zss : List (List Int)} {aK : Option Addr} {r : Bool} (cK : Nat) (hr : givenX O zss P Pk = X ∧ givenY O zss P Pk = Y ∧ givenB O zss P Pk = r) (h : GameAt w v O zss P) (hK : IntsAt w aK Pk) :
    Calls Tryz.prog 71 #[v, .slice aK Pk.length cK] w (GivesAnswerB w X Y r) := by
  have HGm := Lib.hid h
  have HKi := Lib.hid hK
  obtain ⟨ao, an, ap, co, cn, cp, A, C, rfl, h1, h2, h3⟩ := h
  obtain ⟨w1, hw1⟩ : ∃ y, y = (w.alloc (.cells #[.slice ao O.length co, .slice an zss.length cn, .slice ap P.length cp] 32)).alloc (.cells #[.slice none 0 0, .slice none 0 0] 59) := ⟨_, rfl⟩
  have HW1 := Lib.hid hw1
  have B1 : Hid (Below w.heap.size w w1) := by rw [hw1]; exact below2 _ _ _
  have hs1 : w1.heap.size = w.heap.size + 1 + 1 := by rw [hw1]; simp
  have HS1 := Lib.hid hs1
  have T1 : Hid (Box3 w1 w.heap.size 32 (.slice ao O.length co) (.slice an zss.length cn) (.slice ap P.length cp)) := by rw [hw1]; exact (Box3.new w _ _ _ _).below (below1 _ _)
  have R1 : Hid (Box2 w1 (w.heap.size + 1) 59 (.slice none 0 0) (.slice none 0 0)) := by
    rw [hw1]
    have h := Box2.new (w.alloc (.cells #[.slice ao O.length co, .slice an zss.length cn, .slice ap P.length cp] 32)) 59 (.slice none 0 0) (.slice none 0 0)
    rw [World.size_alloc] at h
    exact h
  have HOi := Lib.hid h1
  have HNi := Lib.hid h2
  have HPi := Lib.hid h3
  clear hw1 h1 h2 h3 hs1 hK
  have c0 := T1.out.c0
  have c1 := T1.out.c1
  have c2 := T1.out.c2
  cases hk : keepsB O zss P Pk with
  | false =>
    have HE := Lib.hid (given_no hr (by rw [hk]; simp))
    have HC := Lib.hid (keepsWon_is cK hk (HGm.out.below B1.out) (HKi.out.below B1.out))
    clear hr hk
    go_enter Tryz.func71, Tryz.ntmps71
    go_wp2_with fail
    rw [← HW1.out]
    refine HC.out.mono ?_
    rintro e w2 ⟨rfl, hb⟩
    have B2 := Lib.hid (B1.out.trans (hb.mono B1.out.size))
    have R2 := Lib.hid (R1.out.below hb)
    have d0 := R2.out.cell0
    have d1 := R2.out.cell1
    have g0 := R2.out.frozen 0
    have g1 := R2.out.frozen 1
    clear hb HC
    go_wp2
    exact bodyPost_ret (v := .tuple #[.agg #[.slice none 0 0, .slice none 0 0], .bool false]) (by simp [results, Tryz.results71, go_sem, d0, d1]) rfl
      ⟨_, _, by rw [HE.out.2.2], by rw [HE.out.1]; exact OwnInts.nil _ _ _, by rw [HE.out.2.1]; exact OwnInts.nil _ _ _, fun g hg => by simp [Value.ownBlock] at hg, (B2.out.setCell (p := ⟨w.heap.size + 1, 0, none⟩) (by simp) _).setCell (p := ⟨w.heap.size + 1, 1, none⟩) (by simp) _⟩
  | true =>
    have hon : onlyB O zss P Pk = true := by unfold keepsB at hk; rw [Bool.and_eq_true] at hk; exact hk.1
    have hpar : parityB O zss P = true := by unfold onlyB at hon; rw [Bool.and_eq_true] at hon; exact hon.1
    have hpk : PicksP zss Pk := by unfold onlyB at hon; rw [Bool.and_eq_true] at hon; exact picksB_iff.1 hon.2
    obtain ⟨hA, hPO, hPB⟩ := parityB_iff.1 hpar
    have HC := Lib.hid (keepsWon_is cK hk (HGm.out.below B1.out) (HKi.out.below B1.out))
    have HEn : Hid (¬ OwnP O P Pk zss → X = [] ∧ Y = [] ∧ r = false) := fun h => given_no hr fun hh => h hh.2
    have HEy : Hid (OwnP O P Pk zss → X = wonL zss O P ∧ Y = planK zss O P Pk zss.length ∧ r = true) := fun h => given_yes hr ⟨hk, h⟩
    obtain ⟨n, hn⟩ : ∃ n, n = zss.length := ⟨_, rfl⟩
    have hOl : O.length = n := by rw [hn]; exact hA.2.2.1.symm
    have hPl : P.length = n := by omega
    have hKl : Pk.length = n := by rw [hn]; exact hpk.1
    have hn256 : n ≤ 256 := by have := hA.2.1; omega
    have HWn : Hid (∀ W, Below w1.heap.size w1 W → Calls Tryz.prog 111 #[.agg #[.slice ao O.length co, .slice an zss.length cn, .slice ap P.length cp]] W (GivesInts W (wonL zss O P))) := fun W hb => l7Won_is (HGm.out.below (B1.out.trans (hb.mono B1.out.size))) hpar
    have HOf : Hid (∀ W, Below w1.heap.size w1 W → Calls Tryz.prog 112 #[.agg #[.slice ao O.length co, .slice an zss.length cn, .slice ap P.length cp]] W (GivesSolver2 W ao an ap co cn cp zss.length zss)) := fun W hb => by
      have hb' := B1.out.trans (hb.mono B1.out.size)
      exact l7Of_is2 co cn cp (HOi.out.below hb') (HNi.out.below hb') (HPi.out.below hb') hA (by omega)
    have HRP := Lib.hid (rowsP_of hA)
    have HR16 : Hid (∀ v, v < zss.length → (row zss v).length ≤ 16) := fun v hv => (arena_rows hA hv).2.2
    have HO01 : Hid (∀ v, v < zss.length → nth O v = 0 ∨ nth O v = 1) := fun v hv => (arena_rows hA hv).1
    have HFK : Hid (∀ j, j < zss.length → Fits (nth Pk j)) := fun j hj => HKi.out.fits j (by omega)
    have HWL : Hid ((wonL zss O P).length = n) := by rw [hn]; exact wonL_len
    have HPF : Hid (∀ k, k ≤ n → ∀ j, j < zss.length → Fits (nth (planK zss O P Pk k) j)) := fun k hk => planK_fits (rowsP_of hA).inG (by omega) hpk.1 HFK.out k (by omega)
    have HNZ := Lib.hid hn
    have HOL := Lib.hid hOl
    have HPL := Lib.hid hPl
    have HKL := Lib.hid hKl
    clear hr hk hon hpar hpk hA hPO hPB
    rw [hOl, hPl, ← hn] at HC HWn HOf
    rw [hKl] at HC
    rw [hOl, hPl, ← hn] at HW1
    have HT1 : Hid (Box3 w1 w.heap.size 32 (.slice ao n co) (.slice an n cn) (.slice ap n cp)) := by have h := T1.out; rw [hOl, hPl, ← hn] at h; exact h
    clear c0 c1 c2
    have c0 := HT1.out.c0
    have c1 := HT1.out.c1
    have c2 := HT1.out.c2
    rw [hOl, hPl, hKl, ← hn]
    obtain ⟨won, hwon⟩ : ∃ l, l = wonL zss O P := ⟨_, rfl⟩
    have HWON := Lib.hid hwon
    have HW01 : Hid (∀ v, v < n → nth won v = 0 ∨ nth won v = 1) := fun v hv => by
      rw [hwon, wonL_nth (by omega)]; split <;> simp
    rw [← hwon] at HWn HWL
    clear hwon hOl hPl hKl hn
    go_enter Tryz.func71, Tryz.ntmps71
    go_wp2_with fail
    rw [← HW1.out]
    refine HC.out.mono ?_
    rintro e w2 ⟨rfl, hb⟩
    have K2 := Lib.hid hb
    have T2 := Lib.hid (HT1.out.below hb)
    clear hb HC c0 c1 c2
    have c0 := T2.out.c0
    have c1 := T2.out.c1
    have c2 := T2.out.c2
    go_wp2_with fail
    refine (HWn.out _ K2.out).mono ?_
    rintro e w3 ⟨x, rfl, hx, hb⟩
    obtain ⟨xa, xc, hus, hxi, _⟩ := hx.shape
    subst hus
    have X3 := Lib.hid hx
    have K3 := Lib.hid (K2.out.trans (hb.mono K2.out.size))
    have T3 := Lib.hid (T2.out.below hb)
    have hs23 : w2.heap.size ≤ w3.heap.size := hb.size
    clear hb hx hxi c0 c1 c2
    have c0 := T3.out.c0
    have c1 := T3.out.c1
    have c2 := T3.out.c2
    go_wp2_with fail
    refine (HOf.out _ K3.out).mono ?_
    rintro e w4 ⟨q, kb, V, rfl, hV, hkk, hb, hkb, hap⟩
    obtain ⟨w5, hw5⟩ : ∃ y, y = w4.alloc (.cells #[.slice ao n co, .slice ap n cp, .slice an n cn, .slice (some ⟨q, 0, none⟩) n n, .slice (some ⟨kb, 0, none⟩) n n] 144) := ⟨_, rfl⟩
    have HW5 := Lib.hid hw5
    have hb5 : Below w4.heap.size w4 w5 := by rw [hw5]; exact below1 _ _
    have X5 : Hid (Box5 w5 w4.heap.size 144 (.slice ao n co) (.slice ap n cp) (.slice an n cn) (.slice (some ⟨q, 0, none⟩) n n) (.slice (some ⟨kb, 0, none⟩) n n)) := by rw [hw5]; exact Box5.new _ _ _ _ _ _ _
    have V5 := Lib.hid (hV.below hb5)
    have Q5 := Lib.hid (rowIs_below hkk hb5)
    have B3 := Lib.hid (B1.out.trans (K3.out.mono B1.out.size))
    have hs34 : w3.heap.size ≤ w4.heap.size := hb.size
    have hk4 : kb < w4.heap.size := hkk.lt
    have K5 := Lib.hid (K3.out.trans ((hb.trans (hb5.mono hb.size)).mono K3.out.size))
    have B5 := Lib.hid (B1.out.trans (K5.out.mono B1.out.size))
    have hs13 : w1.heap.size ≤ w3.heap.size := K3.out.size
    have hs01 := HS1.out
    have hkx : kb ≠ w4.heap.size := by omega
    have HXW : Hid (∀ W, Only (fun b => b = kb) w5 W → OwnInts W w.heap.size W.heap.size (.slice xa won.length xc) won) := fun W ho => by
      have h1 := ((X3.out.below hb).below (hb5.mono (Nat.le_refl _))).only ho (fun g hg e => by have := X3.out.top g hg; omega)
      exact (h1.retop.base (B' := w.heap.size) (by have := B1.out.size; have := K2.out.size; omega)).retop
    have HOW : Hid (∀ W, Only (fun b => b = kb) w5 W → Below w.heap.size w W) := fun W ho => B5.out.trans (ho.below (B := w.heap.size) B5.out.size (fun b hb => by have := B1.out.size; omega))
    have HXB : Hid (∀ W, Only (fun b => b = kb) w5 W → Box5 W w4.heap.size 144 (.slice ao n co) (.slice ap n cp) (.slice an n cn) (.slice (some ⟨q, 0, none⟩) n n) (.slice (some ⟨kb, 0, none⟩) n n)) := fun W ho => rowIs_only X5.out ho (fun e => hkx e.symm)
    have HGB : Hid (∀ W, Only (fun b => b = kb) w5 W → Box3 W w.heap.size 32 (.slice ao n co) (.slice an n cn) (.slice ap n cp)) := fun W ho => rowIs_only (HT1.out.below K5.out) ho (fun e => by omega)
    have HRB : Hid (∀ W, Only (fun b => b = kb) w5 W → Box2 W (w.heap.size + 1) 59 (.slice none 0 0) (.slice none 0 0)) := fun W ho => (R1.out.below K5.out).only ho (fun e => by omega)
    have HQB : Hid (∀ W, Only (fun b => b = kb) w5 W → RowsAt W (some ⟨q, 0, none⟩) (fun k => addrOf (V k)) (fun k => capOf (V k)) (rowsOf n fun u => predsK zss u n)) := fun W ho => rows_but V5.out Q5.out (fun u hu x hx => (predsK_mem _ _ _ x hx).1) hn256 ho
    have Q0 : Hid (w5.rowIs kb 2 n (numsV fun j => if j < 0 then nth Pk j else -1)) := World.rowIs.congr Q5.out fun i hi => by simp [numsV]
    have HKB : Hid (w3.heap.size ≤ kb) := hkb
    have HWL2 := HWL.out
    have HLK : Hid (kb ≠ w4.heap.size) := hkx
    clear hw5 hV hkk hb hap hkb hb5 c0 c1 c2 hk4 hkx hs01 hs13 hs34
    go_wp2
    rw [← HW5.out]
    go_loopw [8] (fun iv wr => ∃ i : Nat, i ≤ n ∧ iv = .int .i64 i ∧ Hid (∀ j, j < i → nth Pk j ≠ -1 → nth won j = nth O j) ∧ Hid (wr.rowIs kb 2 n (numsV fun j => if j < i then nth Pk j else -1)) ∧ Hid (Only (fun b => b = kb) w5 wr)) (fun iv _ => n - (intOf iv).toNat)
    case atStart => exact ⟨0, Nat.zero_le _, rfl, fun j hj => absurd hj (Nat.not_lt_zero _), Q0, Only.refl _ _⟩
    case round =>
      clear Q0
      obtain ⟨i, hi, rfl, HJ, HK, HO⟩ := hrel
      have Gw := Lib.hid (HGB.out wr HO.out)
      have Xw := Lib.hid (HXB.out wr HO.out)
      have Rw := Lib.hid (HRB.out wr HO.out)
      have Bw := Lib.hid (HOW.out wr HO.out)
      by_cases hlt : i < n
      · have hi1 : (i : Int) < n := by omega
        have hi0 : (0 : Int) ≤ (i : Int) := by omega
        obtain ⟨pb, po, hpa, hpc⟩ := (HKi.out.below Bw.out).cell (by have := HKL.out; omega)
        have p1 := hpc i (by have := HKL.out; omega)
        obtain ⟨ob, oo, hoa, hoc⟩ := (HOi.out.below Bw.out).cell (by have := HOL.out; omega)
        have o1 := hoc i (by have := HOL.out; omega)
        obtain ⟨_, _, hxs, hxi, _⟩ := (HXW.out wr HO.out).shape
        simp only [Value.slice.injEq] at hxs
        obtain ⟨rfl, _, rfl⟩ := hxs
        obtain ⟨xb, xo, hxa, hxc⟩ := hxi.cell (by omega)
        have x1 := hxc i (by omega)
        have hi2 : (i : Int) < won.length := by omega
        have g0 := Gw.out.c0
        have y4 := Xw.out.c4
        have hkc := HK.out.cell hlt
        have hkf := HK.out.frozen i
        obtain ⟨p, hp⟩ : ∃ q, q = nth Pk i := ⟨_, rfl⟩
        obtain ⟨o, ho⟩ : ∃ q, q = nth O i := ⟨_, rfl⟩
        obtain ⟨x, hx⟩ : ∃ q, q = nth won i := ⟨_, rfl⟩
        have HPE := Lib.hid hp
        have HOE := Lib.hid ho
        have HXE := Lib.hid hx
        rw [← hp] at p1
        rw [← ho] at o1
        rw [← hx] at x1
        have HKn : Hid (∀ W : World, W.rowIs kb 2 n (numsV fun j => if j < i then nth Pk j else -1) → (W.setCell ⟨kb, i, none⟩ (.int .i64 p)).rowIs kb 2 n (numsV fun j => if j < i + 1 then nth Pk j else -1)) := fun W h => World.rowIs.congr (nums_set h) fun j _ => by
          unfold numsV
          by_cases e : j = i
          · subst e; simp [HPE.out]
          · by_cases e2 : j < i
            · simp [e, e2, Nat.lt_succ_of_lt e2]
            · have e3 : ¬ j < i + 1 := by omega
              simp [e, e2, e3]
        subst hpa
        subst hoa
        subst hxa
        have HPC : Hid (∀ W, Only (fun b => b = kb) w5 W → W.cell? ⟨pb, po + i, none⟩ = some (.int .i64 p)) := fun W ho => by
          obtain ⟨b', o', ha', hc'⟩ := (HKi.out.below (HOW.out W ho)).cell (by have := HKL.out; omega)
          simp only [Option.some.injEq, Addr.mk.injEq] at ha'
          obtain ⟨rfl, rfl, _⟩ := ha'
          rw [HPE.out]
          exact hc' i (by have := HKL.out; omega)
        clear hpc hoc hxc hp ho hx hxi
        by_cases e : p = -1
        · have he : (p != -1) = false := by simpa using e
          have HJn : Hid (∀ j, j < i + 1 → nth Pk j ≠ -1 → nth won j = nth O j) := fun j hj hne => by
            by_cases h : j = i
            · subst h; exact absurd (by rw [← HPE.out]; exact e) hne
            · exact HJ.out j (by omega) hne
          clear e
          go_wp2
          go_quiet (fail)
          go_wp2
          obtain ⟨wd, hwd⟩ : ∃ y, y = wr.drewN nq := ⟨_, rfl⟩
          have hbd : Below wr.heap.size wr wd := by rw [hwd]; exact below_drewN (Below.refl _ _) _
          have HOd : Hid (Only (fun b => b = kb) w5 wd.drew) := HO.out.trans (Only.of_below (hbd.trans ((Below.refl _ _).drew.mono hbd.size)))
          have HKd : Hid (wd.drew.rowIs kb 2 n (numsV fun j => if j < i then nth Pk j else -1)) := rowIs_below (rowIs_below HK.out hbd) (Below.refl _ _).drew
          have HSv : Hid (∀ W, Only (fun b => b = kb) w5 W → W.cell? ⟨w4.heap.size, 4, none⟩ = some (.slice (some ⟨kb, 0, none⟩) n n) ∧ W.cell? ⟨pb, po + i, none⟩ = some (.int .i64 p)) := fun W ho => ⟨(HXB.out W ho).c4, HPC.out W ho⟩
          have HOs : Hid (Only (fun b => b = kb) w5 (wd.drew.setCell ⟨kb, i, none⟩ (.int .i64 p))) := HOd.out.setCell (p := ⟨kb, i, none⟩) rfl _
          have HKs := Lib.hid (HKn.out _ HKd.out)
          have h0 := HSv.out _ HOd.out
          have kc := HKd.out.cell hlt
          have kf := HKd.out.frozen i
          rw [← hwd]
          clear hwd hbd hkc hkf p1 o1 x1 y4 g0
          go_region_held3 (fun W => W.cell? ⟨w4.heap.size, 4, none⟩ = some (.slice (some ⟨kb, 0, none⟩) n n) ∧ W.cell? ⟨pb, po + i, none⟩ = some (.int .i64 p))
            (first
              | exact HSv.out _ HOd.out
              | exact HSv.out _ HOs.out
              | go_keep)
            (fail)
          go_wp2
          go_roundw
          case rel => exact ⟨i + 1, by omega, by go_num, HJn, HKs, HOs⟩
          case measure => simp [intOf]; omega
        · have he : (p != -1) = true := by simpa using e
          by_cases e2 : x = o
          · have he2 : (x != o) = false := by simpa using e2
            have HJn : Hid (∀ j, j < i + 1 → nth Pk j ≠ -1 → nth won j = nth O j) := fun j hj hne => by
              by_cases h : j = i
              · subst h; rw [← HXE.out, ← HOE.out]; exact e2
              · exact HJ.out j (by omega) hne
            clear e e2
            go_wp2
            go_quiet (fail)
            go_wp2
            obtain ⟨wd, hwd⟩ : ∃ y, y = wr.drewN nq := ⟨_, rfl⟩
            have hbd : Below wr.heap.size wr wd := by rw [hwd]; exact below_drewN (Below.refl _ _) _
            have HOd : Hid (Only (fun b => b = kb) w5 wd.drew) := HO.out.trans (Only.of_below (hbd.trans ((Below.refl _ _).drew.mono hbd.size)))
            have HKd : Hid (wd.drew.rowIs kb 2 n (numsV fun j => if j < i then nth Pk j else -1)) := rowIs_below (rowIs_below HK.out hbd) (Below.refl _ _).drew
            have HSv : Hid (∀ W, Only (fun b => b = kb) w5 W → W.cell? ⟨w4.heap.size, 4, none⟩ = some (.slice (some ⟨kb, 0, none⟩) n n) ∧ W.cell? ⟨pb, po + i, none⟩ = some (.int .i64 p)) := fun W ho => ⟨(HXB.out W ho).c4, HPC.out W ho⟩
            have HOs : Hid (Only (fun b => b = kb) w5 (wd.drew.setCell ⟨kb, i, none⟩ (.int .i64 p))) := HOd.out.setCell (p := ⟨kb, i, none⟩) rfl _
            have HKs := Lib.hid (HKn.out _ HKd.out)
            have h0 := HSv.out _ HOd.out
            have kc := HKd.out.cell hlt
            have kf := HKd.out.frozen i
            rw [← hwd]
            clear hwd hbd hkc hkf p1 o1 x1 y4 g0
            go_region_held3 (fun W => W.cell? ⟨w4.heap.size, 4, none⟩ = some (.slice (some ⟨kb, 0, none⟩) n n) ∧ W.cell? ⟨pb, po + i, none⟩ = some (.int .i64 p))
              (first
                | exact HSv.out _ HOd.out
                | exact HSv.out _ HOs.out
                | go_keep)
              (fail)
            go_wp2
            go_roundw
            case rel => exact ⟨i + 1, by omega, by go_num, HJn, HKs, HOs⟩
            case measure => simp [intOf]; omega
          · have he2 : (x != o) = true := by simpa using e2
            have HE := Lib.hid (HEn.out fun h => e2 (by
              have h1 := h i (by have := HNZ.out; omega) (by rw [← HPE.out]; exact e)
              rw [← HWON.out, ← HXE.out, ← HOE.out] at h1; exact h1))
            have r0 := Rw.out.cell0
            have r1 := Rw.out.cell1
            have f0 := Rw.out.frozen 0
            have f1 := Rw.out.frozen 1
            clear e e2
            go_wp2
            go_quiet (fail)
            go_wp2
            exact bodyPost_ret (v := .tuple #[.agg #[.slice none 0 0, .slice none 0 0], .bool false]) (by simp [results, Tryz.results71, go_sem, r0, r1]) rfl
              ⟨_, _, by rw [HE.out.2.2], by rw [HE.out.1]; exact OwnInts.nil _ _ _, by rw [HE.out.2.1]; exact OwnInts.nil _ _ _, fun g hg => by simp [Value.ownBlock] at hg, ((below_drewN Bw.out _).setCell (p := ⟨w.heap.size + 1, 0, none⟩) (by simp) _).setCell (p := ⟨w.heap.size + 1, 1, none⟩) (by simp) _⟩
      · have hi1 : ¬ (i : Int) < n := by omega
        have hii : i = n := by omega
        rw [hii] at HJ HK
        have HE := Lib.hid (HEy.out (OwnP_ok (fun v hv hne => by rw [← HWON.out]; exact HJ.out v (by have := HKL.out; omega) hne) (by have := HKL.out; have := HNZ.out; omega)))
        have HKr : Hid (wr.rowIs kb 2 n (numsV (nth Pk))) := World.rowIs.congr HK.out fun j hj => by simp [numsV, hj]
        have HRg : Hid (∀ (W : World) (who : Int), Only (fun b => b = kb) w5 W → Calls Tryz.prog 113 #[.slice xa n xc, .int .i64 who] W (GivesMarks W n (regI won who))) := fun W who ho => by
          obtain ⟨a', c', hxs, hxi, _⟩ := (HXW.out W ho).shape
          simp only [Value.slice.injEq] at hxs
          obtain ⟨rfl, _, rfl⟩ := hxs
          have h := l7Region_is (who := who) xc hxi (by omega)
          rw [HWL2] at h
          exact h
        have hkr : kb < wr.heap.size := HK.out.lt
        clear hii HK
        go_wp2_with fail
        refine (HRg.out _ 0 HO.out).mono ?_
        rintro e wa ⟨bE, rfl, hbE, hM, hb⟩
        have HOa := Lib.hid (HO.out.trans (Only.of_below hb))
        have MEa := Lib.hid hM
        have HKa := Lib.hid (rowIs_below HKr.out hb)
        have NE : Hid (bE ≠ kb) := by unfold Hid; omega
        have hsa : wr.heap.size ≤ wa.heap.size := hb.size
        clear hb hM
        go_wp2_with fail
        refine (HRg.out _ 1 HOa.out).mono ?_
        rintro e wb ⟨bO, rfl, hbO, hM, hb⟩
        have HOb := Lib.hid (HOa.out.trans (Only.of_below hb))
        have ME := Lib.hid (rowIs_below MEa.out hb)
        have MO := Lib.hid hM
        have HKb := Lib.hid (rowIs_below HKa.out hb)
        have NO : Hid (bO ≠ kb) := by unfold Hid; omega
        clear hb hM hkr hsa hbE hbO HRg MEa HKa HKr
        go_wp2
        go_loopw [11, 12] (fun iv rv wq => ∃ i : Nat, i ≤ n ∧ iv = .int .i64 i ∧ Hid (wq.rowIs kb 2 n (numsV (nth (planK zss O P Pk i)))) ∧ Hid (Only (fun b => b = kb) wb wq)) (fun iv _ _ => n - (intOf iv).toNat)
        case atStart => exact ⟨0, Nat.zero_le _, rfl, HKb, Only.refl _ _⟩
        case round =>
          clear HKb hi hi1 HJ HO
          obtain ⟨i, hi, rfl, HK2, HO2⟩ := hrel
          have HO5 := Lib.hid (HOb.out.trans HO2.out)
          have Gw := Lib.hid (HGB.out wr HO5.out)
          have Xw := Lib.hid (HXB.out wr HO5.out)
          have Bw := Lib.hid (HOW.out wr HO5.out)
          by_cases hlt : i < n
          · have hi1 : (i : Int) < n := by omega
            have hi0 : (0 : Int) ≤ (i : Int) := by omega
            obtain ⟨ob, oo, hoa, hoc⟩ := (HOi.out.below Bw.out).cell (by have := HOL.out; omega)
            have o1 := hoc i (by have := HOL.out; omega)
            obtain ⟨_, _, hxs, hxi, _⟩ := (HXW.out wr HO5.out).shape
            simp only [Value.slice.injEq] at hxs
            obtain ⟨rfl, _, rfl⟩ := hxs
            obtain ⟨xb, xo, hxa, hxc⟩ := hxi.cell (by omega)
            have x1 := hxc i (by omega)
            have hi2 : (i : Int) < won.length := by omega
            have g0 := Gw.out.c0
            have y4 := Xw.out.c4
            have p1 := HK2.out.cell hlt
            unfold numsV at p1
            obtain ⟨Yk, hYk⟩ : ∃ l, l = planK zss O P Pk i := ⟨_, rfl⟩
            have HYE := Lib.hid hYk
            rw [← hYk] at p1
            obtain ⟨p, hp⟩ : ∃ q, q = nth Yk i := ⟨_, rfl⟩
            obtain ⟨o, ho⟩ : ∃ q, q = nth O i := ⟨_, rfl⟩
            obtain ⟨x, hx⟩ : ∃ q, q = nth won i := ⟨_, rfl⟩
            have HPE := Lib.hid hp
            have HOE := Lib.hid ho
            have HXE := Lib.hid hx
            have hx01 : x = 0 ∨ x = 1 := by rw [hx]; exact HW01.out i hlt
            rw [← hp] at p1
            rw [← ho] at o1
            rw [← hx] at x1
            subst hoa
            subst hxa
            clear hoc hxc hp ho hx hxi hYk
            by_cases hp0 : 0 ≤ p
            · have HKn : Hid (∀ W : World, W.rowIs kb 2 n (numsV (nth (planK zss O P Pk i))) → W.rowIs kb 2 n (numsV (nth (planK zss O P Pk (i + 1))))) := fun W h => by
                rw [planK_skip (.inl (by rw [← HYE.out, ← HPE.out]; exact hp0))]; exact h
              go_wp2
              go_quiet (fail)
              go_wp2
              have hbd : Below wr.heap.size wr (wr.drewN nq) := below_drewN (Below.refl _ _) _
              have HKz := Lib.hid (HKn.out _ (rowIs_below HK2.out hbd))
              have HDs : Hid (Only (fun b => b = kb) wb (wr.drewN nq)) := HO2.out.trans (Only.of_below hbd)
              clear hbd
              go_roundw
              case rel => exact ⟨i + 1, by omega, by go_num, HKz, HDs⟩
              case measure => simp [intOf]; omega
            · by_cases e2 : x = o
              · have he2 : (x != o) = false := by simpa using e2
                rcases hx01 with hx0 | hx0
                · have hx1 : (x == 1) = false := by rw [hx0]; rfl
                  have HX0 := Lib.hid hx0
                  have HE2 := Lib.hid e2
                  clear e2 hx0
                  have HPUT : Hid (planK zss O P Pk (i + 1) = (planK zss O P Pk i).set i (pickZ (fun u => holdsZ zss O P ((planK zss O P Pk i).set i u) (rgW zss O P (nth O i)) (nth O i)) (rgW zss O P (nth O i)) (row zss i))) := planK_put (by
                    rw [← HYE.out, ← HWON.out, ← HXE.out, ← HOE.out, ← HPE.out]; exact fun h => h.elim (fun h => hp0 h) (fun h => h HE2.out))
                  obtain ⟨rr, hrr⟩ : ∃ rr, pickZ (fun u => holdsZ zss O P ((planK zss O P Pk i).set i u) (rgW zss O P (nth O i)) (nth O i)) (rgW zss O P (nth O i)) (row zss i) = rr := ⟨_, rfl⟩
                  rw [hrr] at HPUT
                  have HRR := Lib.hid hrr
                  clear hrr
                  go_wp2
                  go_quiet (fail)
                  go_wp2
                  obtain ⟨wd, hwd⟩ : ∃ y, y = wr.drewN nq := ⟨_, rfl⟩
                  have hbd : Below wr.heap.size wr wd := by rw [hwd]; exact below_drewN (Below.refl _ _) _
                  have HDd : Hid (Only (fun b => b = kb) wb wd.drew) := HO2.out.trans (Only.of_below (hbd.trans ((Below.refl _ _).drew.mono hbd.size)))
                  have HOd : Hid (Only (fun b => b = kb) w5 wd.drew) := HOb.out.trans HDd.out
                  have HKd : Hid (wd.drew.rowIs kb 2 n (numsV (nth (planK zss O P Pk i)))) := rowIs_below (rowIs_below HK2.out hbd) (Below.refl _ _).drew
                  have HSv : Hid (∀ W, Only (fun b => b = kb) w5 W → W.cell? ⟨w4.heap.size, 0, none⟩ = some (.slice (some ⟨ob, oo, none⟩) n co) ∧ W.cell? ⟨w4.heap.size, 1, none⟩ = some (.slice ap n cp) ∧ W.cell? ⟨w4.heap.size, 2, none⟩ = some (.slice an n cn) ∧ W.cell? ⟨w4.heap.size, 3, none⟩ = some (.slice (some ⟨q, 0, none⟩) n n) ∧ W.cell? ⟨w4.heap.size, 4, none⟩ = some (.slice (some ⟨kb, 0, none⟩) n n)) := fun W ho => ⟨(HXB.out W ho).c0, (HXB.out W ho).c1, (HXB.out W ho).c2, (HXB.out W ho).c3, (HXB.out W ho).c4⟩
                  have HCP : Hid (Calls Tryz.prog 114 #[.agg #[.slice (some ⟨ob, oo, none⟩) n co, .slice ap n cp, .slice an n cn, .slice (some ⟨q, 0, none⟩) n n, .slice (some ⟨kb, 0, none⟩) n n], .slice (some ⟨bE, 0, none⟩) n n, .int .i64 i] wd.drew fun e w' => e = .returned (.int .i64 rr) ∧ (∃ q, w'.rowIs kb 2 n (numsV fun j => if j = i then q else nth (planK zss O P Pk i) j)) ∧ Only (fun b => b = kb) wd.drew w') := by
                    have hnz := HNZ.out
                    have h := l7Pick_is (ao := some ⟨ob, oo, none⟩) (ap := ap) (an := an) (aq := some ⟨q, 0, none⟩) (A := A) (C := C) (A' := fun k => addrOf (V k)) (C' := fun k => capOf (V k)) (zss := zss) (O := O) (P := P) (Pk := planK zss O P Pk i) (bI := bE) (kb := kb) (w := wd.drew) (I := rgW zss O P (nth O i)) (v := i) co cp cn n n HRP.out (HOL.out.trans hnz) (HPL.out.trans hnz) (by rw [planK_len, HKL.out, hnz]) (by omega) HR16.out (HPF.out i (by omega)) (by omega) HRR.out (fun W ho => by
                      have h5 := HOd.out.trans ho
                      refine ⟨HOi.out.below (HOW.out W h5), HPi.out.below (HOW.out W h5), HNi.out.below (HOW.out W h5), by rw [← hnz]; exact HQB.out W h5, ?_⟩
                      rw [← hnz]
                      refine World.rowIs.congr (rowIs_only ME.out (HDd.out.trans ho) (fun e => by have := NE.out; omega)) fun j hj => ?_
                      unfold marksV
                      rw [HWON.out, ← HOE.out, ← HE2.out, HX0.out, regI_rgW (.inl rfl) (by omega)]) (by rw [← hnz]; exact HKd.out)
                    rw [HOL.out, HPL.out, ← hnz] at h
                    exact h
                  have HKs : Hid (∀ (W : World) (q' : Int), W.rowIs kb 2 n (numsV fun j => if j = i then q' else nth (planK zss O P Pk i) j) → (W.setCell ⟨kb, i, none⟩ (.int .i64 rr)).rowIs kb 2 n (numsV (nth (planK zss O P Pk (i + 1))))) := fun W q' h => World.rowIs.congr (nums_set h) fun j _ => by
                    unfold numsV
                    rw [HPUT.out, nthSet7 (by rw [planK_len, HKL.out]; exact hlt)]
                    by_cases e : j = i <;> simp [e]
                  have h0 := HSv.out _ HOd.out
                  rw [← hwd]
                  clear hwd hbd p1 o1 x1 y4
                  go_region_held3 (fun W => W.cell? ⟨w4.heap.size, 0, none⟩ = some (.slice (some ⟨ob, oo, none⟩) n co) ∧ W.cell? ⟨w4.heap.size, 1, none⟩ = some (.slice ap n cp) ∧ W.cell? ⟨w4.heap.size, 2, none⟩ = some (.slice an n cn) ∧ W.cell? ⟨w4.heap.size, 3, none⟩ = some (.slice (some ⟨q, 0, none⟩) n n) ∧ W.cell? ⟨w4.heap.size, 4, none⟩ = some (.slice (some ⟨kb, 0, none⟩) n n))
                    (first
                      | exact HSv.out _ HOd.out
                      | exact HSv.out _ HOp.out
                      | exact HSv.out _ HOs.out
                      | go_keep)
                    (first
                      | (go_at_call 114; refine HCP.out.mono ?_; rintro e wp ⟨rfl, ⟨q', hq⟩, ho⟩; have HOp := Lib.hid (HOd.out.trans ho); have HOs : Hid (Only (fun b => b = kb) w5 (wp.setCell ⟨kb, i, none⟩ (.int .i64 rr))) := HOp.out.setCell (p := ⟨kb, i, none⟩) rfl _; have HDs : Hid (Only (fun b => b = kb) wb (wp.setCell ⟨kb, i, none⟩ (.int .i64 rr))) := (HDd.out.trans ho).setCell (p := ⟨kb, i, none⟩) rfl _; have HKz := Lib.hid (HKs.out _ _ hq); have kc := hq.cell hlt; have kf := hq.frozen i; clear hq ho))
                  go_wp2
                  go_roundw
                  case rel => exact ⟨i + 1, by omega, by go_num, HKz, HDs⟩
                  case measure => simp [intOf]; omega
                · have hx1 : (x == 1) = true := by rw [hx0]; rfl
                  have HX0 := Lib.hid hx0
                  have HE2 := Lib.hid e2
                  clear e2 hx0
                  have HPUT : Hid (planK zss O P Pk (i + 1) = (planK zss O P Pk i).set i (pickZ (fun u => holdsZ zss O P ((planK zss O P Pk i).set i u) (rgW zss O P (nth O i)) (nth O i)) (rgW zss O P (nth O i)) (row zss i))) := planK_put (by
                    rw [← HYE.out, ← HWON.out, ← HXE.out, ← HOE.out, ← HPE.out]; exact fun h => h.elim (fun h => hp0 h) (fun h => h HE2.out))
                  obtain ⟨rr, hrr⟩ : ∃ rr, pickZ (fun u => holdsZ zss O P ((planK zss O P Pk i).set i u) (rgW zss O P (nth O i)) (nth O i)) (rgW zss O P (nth O i)) (row zss i) = rr := ⟨_, rfl⟩
                  rw [hrr] at HPUT
                  have HRR := Lib.hid hrr
                  clear hrr
                  go_wp2
                  go_quiet (fail)
                  go_wp2
                  obtain ⟨wd, hwd⟩ : ∃ y, y = wr.drewN nq := ⟨_, rfl⟩
                  have hbd : Below wr.heap.size wr wd := by rw [hwd]; exact below_drewN (Below.refl _ _) _
                  have HDd : Hid (Only (fun b => b = kb) wb wd.drew) := HO2.out.trans (Only.of_below (hbd.trans ((Below.refl _ _).drew.mono hbd.size)))
                  have HOd : Hid (Only (fun b => b = kb) w5 wd.drew) := HOb.out.trans HDd.out
                  have HKd : Hid (wd.drew.rowIs kb 2 n (numsV (nth (planK zss O P Pk i)))) := rowIs_below (rowIs_below HK2.out hbd) (Below.refl _ _).drew
                  have HSv : Hid (∀ W, Only (fun b => b = kb) w5 W → W.cell? ⟨w4.heap.size, 0, none⟩ = some (.slice (some ⟨ob, oo, none⟩) n co) ∧ W.cell? ⟨w4.heap.size, 1, none⟩ = some (.slice ap n cp) ∧ W.cell? ⟨w4.heap.size, 2, none⟩ = some (.slice an n cn) ∧ W.cell? ⟨w4.heap.size, 3, none⟩ = some (.slice (some ⟨q, 0, none⟩) n n) ∧ W.cell? ⟨w4.heap.size, 4, none⟩ = some (.slice (some ⟨kb, 0, none⟩) n n)) := fun W ho => ⟨(HXB.out W ho).c0, (HXB.out W ho).c1, (HXB.out W ho).c2, (HXB.out W ho).c3, (HXB.out W ho).c4⟩
                  have HCP : Hid (Calls Tryz.prog 114 #[.agg #[.slice (some ⟨ob, oo, none⟩) n co, .slice ap n cp, .slice an n cn, .slice (some ⟨q, 0, none⟩) n n, .slice (some ⟨kb, 0, none⟩) n n], .slice (some ⟨bO, 0, none⟩) n n, .int .i64 i] wd.drew fun e w' => e = .returned (.int .i64 rr) ∧ (∃ q, w'.rowIs kb 2 n (numsV fun j => if j = i then q else nth (planK zss O P Pk i) j)) ∧ Only (fun b => b = kb) wd.drew w') := by
                    have hnz := HNZ.out
                    have h := l7Pick_is (ao := some ⟨ob, oo, none⟩) (ap := ap) (an := an) (aq := some ⟨q, 0, none⟩) (A := A) (C := C) (A' := fun k => addrOf (V k)) (C' := fun k => capOf (V k)) (zss := zss) (O := O) (P := P) (Pk := planK zss O P Pk i) (bI := bO) (kb := kb) (w := wd.drew) (I := rgW zss O P (nth O i)) (v := i) co cp cn n n HRP.out (HOL.out.trans hnz) (HPL.out.trans hnz) (by rw [planK_len, HKL.out, hnz]) (by omega) HR16.out (HPF.out i (by omega)) (by omega) HRR.out (fun W ho => by
                      have h5 := HOd.out.trans ho
                      refine ⟨HOi.out.below (HOW.out W h5), HPi.out.below (HOW.out W h5), HNi.out.below (HOW.out W h5), by rw [← hnz]; exact HQB.out W h5, ?_⟩
                      rw [← hnz]
                      refine World.rowIs.congr (rowIs_only MO.out (HDd.out.trans ho) (fun e => by have := NO.out; omega)) fun j hj => ?_
                      unfold marksV
                      rw [HWON.out, ← HOE.out, ← HE2.out, HX0.out, regI_rgW (.inr rfl) (by omega)]) (by rw [← hnz]; exact HKd.out)
                    rw [HOL.out, HPL.out, ← hnz] at h
                    exact h
                  have HKs : Hid (∀ (W : World) (q' : Int), W.rowIs kb 2 n (numsV fun j => if j = i then q' else nth (planK zss O P Pk i) j) → (W.setCell ⟨kb, i, none⟩ (.int .i64 rr)).rowIs kb 2 n (numsV (nth (planK zss O P Pk (i + 1))))) := fun W q' h => World.rowIs.congr (nums_set h) fun j _ => by
                    unfold numsV
                    rw [HPUT.out, nthSet7 (by rw [planK_len, HKL.out]; exact hlt)]
                    by_cases e : j = i <;> simp [e]
                  have h0 := HSv.out _ HOd.out
                  rw [← hwd]
                  clear hwd hbd p1 o1 x1 y4
                  go_region_held3 (fun W => W.cell? ⟨w4.heap.size, 0, none⟩ = some (.slice (some ⟨ob, oo, none⟩) n co) ∧ W.cell? ⟨w4.heap.size, 1, none⟩ = some (.slice ap n cp) ∧ W.cell? ⟨w4.heap.size, 2, none⟩ = some (.slice an n cn) ∧ W.cell? ⟨w4.heap.size, 3, none⟩ = some (.slice (some ⟨q, 0, none⟩) n n) ∧ W.cell? ⟨w4.heap.size, 4, none⟩ = some (.slice (some ⟨kb, 0, none⟩) n n))
                    (first
                      | exact HSv.out _ HOd.out
                      | exact HSv.out _ HOp.out
                      | exact HSv.out _ HOs.out
                      | go_keep)
                    (first
                      | (go_at_call 114; refine HCP.out.mono ?_; rintro e wp ⟨rfl, ⟨q', hq⟩, ho⟩; have HOp := Lib.hid (HOd.out.trans ho); have HOs : Hid (Only (fun b => b = kb) w5 (wp.setCell ⟨kb, i, none⟩ (.int .i64 rr))) := HOp.out.setCell (p := ⟨kb, i, none⟩) rfl _; have HDs : Hid (Only (fun b => b = kb) wb (wp.setCell ⟨kb, i, none⟩ (.int .i64 rr))) := (HDd.out.trans ho).setCell (p := ⟨kb, i, none⟩) rfl _; have HKz := Lib.hid (HKs.out _ _ hq); have kc := hq.cell hlt; have kf := hq.frozen i; clear hq ho))
                  go_wp2
                  go_roundw
                  case rel => exact ⟨i + 1, by omega, by go_num, HKz, HDs⟩
                  case measure => simp [intOf]; omega
              · have he2 : (x != o) = true := by simpa using e2
                have HKn : Hid (∀ W : World, W.rowIs kb 2 n (numsV (nth (planK zss O P Pk i))) → W.rowIs kb 2 n (numsV (nth (planK zss O P Pk (i + 1))))) := fun W h => by
                  rw [planK_skip (.inr (by rw [← HWON.out, ← HXE.out, ← HOE.out]; exact e2))]; exact h
                clear e2
                go_wp2
                go_quiet (fail)
                go_wp2
                have hbd : Below wr.heap.size wr (wr.drewN nq) := below_drewN (Below.refl _ _) _
                have HKz := Lib.hid (HKn.out _ (rowIs_below HK2.out hbd))
                have HDs : Hid (Only (fun b => b = kb) wb (wr.drewN nq)) := HO2.out.trans (Only.of_below hbd)
                clear hbd
                go_roundw
                case rel => exact ⟨i + 1, by omega, by go_num, HKz, HDs⟩
                case measure => simp [intOf]; omega
          · have hi1 : ¬ (i : Int) < n := by omega
            have hii : i = n := by omega
            rw [hii] at HK2
            have Rw := Lib.hid (HRB.out wr HO5.out)
            have y4 := Xw.out.c4
            have r0 := Rw.out.cell0
            have r1 := Rw.out.cell1
            have f0 := Rw.out.frozen 0
            have f1 := Rw.out.frozen 1
            have hdone := fun A B => answer_done (A := A) (B := B) (w := w) (wr := wr) (xa := xa) (xc := xc) (n := n) (kb := kb) (s3 := w3.heap.size) (won := won) (Y := planK zss O P Pk n) (by have h := HXW.out wr HO5.out; rw [HWL2] at h; exact h) (fun g hg => by
              have h1 := (X3.out.own.lt g (by rw [HWL2]; exact hg)).1
              have h2 := X3.out.top g (by rw [HWL2]; exact hg)
              have := HS1.out
              have := K2.out.size
              omega) HK2.out (by rw [planK_len]; exact HKL.out) hn256 (fun j hj => HPF.out n (Nat.le_refl _) j (by have := HNZ.out; omega)) HKB.out (by have := HS1.out; have := K3.out.size; omega) Bw.out
            have HDN := Lib.hid hdone
            have HE1 : Hid (X = won ∧ Y = planK zss O P Pk n ∧ r = true) := by have h := HE.out; rw [← HWON.out, ← HNZ.out] at h; exact h
            clear hdone hii
            go_wp2
            exact bodyPost_ret (v := .tuple #[.agg #[.slice xa n xc, .slice (some ⟨kb, 0, none⟩) n n], .bool true]) (by simp [results, Tryz.results71, go_sem, r0, r1]) rfl
              (by rw [HE1.out.1, HE1.out.2.1, HE1.out.2.2]; exact HDN.out _ _)
end

section
open Go.RowKit

noncomputable def solvedX (O : List Int) (zss : List (List Int)) (P : List Int) : List Int := if parityB O zss P = true then wonL zss O P else []
noncomputable def solvedY (O : List Int) (zss : List (List Int)) (P : List Int) : List Int := if parityB O zss P = true then planL zss O P else []

/-- A call hands back an answer of its own. -/
def GivesAnswer (w : World) (X Y : List Int) (e : Ending) (w' : World) : Prop :=
  ∃ vx vy, e = .returned (.agg #[vx, vy]) ∧ OwnInts w' w.heap.size w'.heap.size vx X ∧ OwnInts w' w.heap.size w'.heap.size vy Y ∧ (∀ g, vx.ownBlock = some g → vy.ownBlock ≠ some g) ∧ Below w.heap.size w w'

theorem none_only {zss : List (List Int)} : rowsOf zss.length (onlyRow zss (List.replicate zss.length (-1))) = zss := by
  refine List.ext_getElem (by rw [rowsOf_len]) fun v h1 h2 => ?_
  have e1 : (rowsOf zss.length (onlyRow zss (List.replicate zss.length (-1))))[v] = row (rowsOf zss.length (onlyRow zss (List.replicate zss.length (-1)))) v := by simp [row, h1]
  have e2 : zss[v] = row zss v := by simp [row, h2]
  rw [e1, e2, rowsOf_row h2]
  unfold onlyRow
  rw [none_nth h2, if_neg (by decide)]
theorem none_given {O P : List Int} {zss : List (List Int)} (h : parityB O zss P = true) : keepsB O zss P (List.replicate zss.length (-1)) = true ∧ OwnP O P (List.replicate zss.length (-1)) zss := by
  refine ⟨?_, fun v hv hne => absurd (none_nth hv) hne⟩
  unfold keepsB onlyB
  rw [h, picksB_iff.2 ⟨by simp, fun v hv => .inl (none_nth (by simpa using hv))⟩, none_only]
  simp

theorem box2_put {w : World} {g : Nat} {t : TypeId} {a b x y : Value} (h : Box2 w g t a b) : Box2 ((w.setCell ⟨g, 0, none⟩ x).setCell ⟨g, 1, none⟩ y) g t x y := (h.set0 x).set1 y

theorem solved_done {w wn : World} {vx vy A B : Value} {X Y : List Int} (h1 : OwnInts wn w.heap.size wn.heap.size vx X) (h2 : OwnInts wn w.heap.size wn.heap.size vy Y) (hap : ∀ g, vx.ownBlock = some g → vy.ownBlock ≠ some g) (hb : Below w.heap.size w wn) (hR : Box2 wn (w.heap.size + 1) 59 A B) :
    GivesAnswer w X Y (.returned (.agg #[vx, vy])) ((wn.setCell ⟨w.heap.size + 1, 0, none⟩ vx).setCell ⟨w.heap.size + 1, 1, none⟩ vy) := by
  have hS : Only (fun b => b = w.heap.size + 1) wn ((wn.setCell ⟨w.heap.size + 1, 0, none⟩ vx).setCell ⟨w.heap.size + 1, 1, none⟩ vy) := ((Only.refl (fun b => b = w.heap.size + 1) wn).setCell (p := ⟨w.heap.size + 1, 0, none⟩) rfl _).setCell (p := ⟨w.heap.size + 1, 1, none⟩) rfl _
  exact ⟨_, _, rfl, (h1.only hS fun g hg e => hR.not_own h1.own (by decide) (by rw [hg, e])).retop, (h2.only hS fun g hg e => hR.not_own h2.own (by decide) (by rw [hg, e])).retop, hap, (hb.setCell (p := ⟨w.heap.size + 1, 0, none⟩) (by simp) _).setCell (p := ⟨w.heap.size + 1, 1, none⟩) (by simp) _⟩

set_option maxHeartbeats 16000000 in
set_option maxRecDepth 100000 in
theorem solved_is {w : World} {v : Value} {O P X Y : List Int} {zss : List (List Int)} (hr : solvedX O zss P = X ∧ solvedY O zss P = Y) (h : GameAt w v O zss P) :
    Calls Tryz.prog 37 #[v] w (GivesAnswer w X Y) := by
  have HGm := Lib.hid h
  obtain ⟨ao, an, ap, co, cn, cp, A, C, rfl, h1, h2, h3⟩ := h
  obtain ⟨w1, hw1⟩ : ∃ y, y = (w.alloc (.cells #[.slice ao O.length co, .slice an zss.length cn, .slice ap P.length cp] 32)).alloc (.cells #[.slice none 0 0, .slice none 0 0] 59) := ⟨_, rfl⟩
  have HW1 := Lib.hid hw1
  have B1 : Hid (Below w.heap.size w w1) := by rw [hw1]; exact below2 _ _ _
  have hs1 : w1.heap.size = w.heap.size + 1 + 1 := by rw [hw1]; simp
  have HS1 := Lib.hid hs1
  have T1 : Hid (Box3 w1 w.heap.size 32 (.slice ao O.length co) (.slice an zss.length cn) (.slice ap P.length cp)) := by rw [hw1]; exact (Box3.new w _ _ _ _).below (below1 _ _)
  have R1 : Hid (Box2 w1 (w.heap.size + 1) 59 (.slice none 0 0) (.slice none 0 0)) := by
    rw [hw1]
    have h := Box2.new (w.alloc (.cells #[.slice ao O.length co, .slice an zss.length cn, .slice ap P.length cp] 32)) 59 (.slice none 0 0) (.slice none 0 0)
    rw [World.size_alloc] at h
    exact h
  clear hw1 h1 h2 h3 hs1
  have c0 := T1.out.c0
  have c1 := T1.out.c1
  have c2 := T1.out.c2
  cases hp : parityB O zss P with
  | false =>
    have HE : Hid (X = [] ∧ Y = []) := by obtain ⟨rfl, rfl⟩ := hr; unfold solvedX solvedY; rw [hp]; exact ⟨rfl, rfl⟩
    have HC := Lib.hid (specParityOk_is hp (HGm.out.below B1.out))
    clear hr hp
    go_enter Tryz.func37, Tryz.ntmps37
    go_wp2_with fail
    rw [← HW1.out]
    refine HC.out.mono ?_
    rintro e w2 ⟨rfl, hb⟩
    have B2 := Lib.hid (B1.out.trans (hb.mono B1.out.size))
    have R2 := Lib.hid (R1.out.below hb)
    have d0 := R2.out.cell0
    have d1 := R2.out.cell1
    have g0 := R2.out.frozen 0
    have g1 := R2.out.frozen 1
    clear hb HC
    go_wp2
    exact bodyPost_ret (v := .agg #[.slice none 0 0, .slice none 0 0]) (by simp [results, Tryz.results37, go_sem, d0, d1]) rfl
      (by rw [HE.out.1, HE.out.2]; exact solved_done (OwnInts.nil _ _ _) (OwnInts.nil _ _ _) (fun g hg => by simp [Value.ownBlock] at hg) B2.out R2.out)
  | true =>
    have HE : Hid (X = wonL zss O P ∧ Y = planL zss O P) := by obtain ⟨rfl, rfl⟩ := hr; unfold solvedX solvedY; rw [hp]; exact ⟨rfl, rfl⟩
    have HC := Lib.hid (specParityOk_is hp (HGm.out.below B1.out))
    obtain ⟨hA, hPO, hPB⟩ := parityB_iff.1 hp
    have hPl : P.length = zss.length := by have := hA.2.2.1; omega
    have hP256 : P.length ≤ 256 := by have := hA.2.1; omega
    have HNn : Hid (∀ W : World, Calls Tryz.prog 72 #[.int .i64 P.length] W (GivesInts W (List.replicate P.length (-1)))) := fun W => l7None_is P.length (by omega)
    have HPl : Hid (∀ (W : World) (aK : Option Addr) (cK : Nat), Below w1.heap.size w1 W → IntsAt W aK (List.replicate P.length (-1)) → Calls Tryz.prog 71 #[.agg #[.slice ao O.length co, .slice an zss.length cn, .slice ap P.length cp], .slice aK (List.replicate P.length (-1 : Int)).length cK] W (GivesAnswerB W X Y true)) := fun W aK cK hb hK => by
      have hg := none_given hp
      rw [← hPl] at hg
      refine planFrom_is cK ?_ (HGm.out.below (B1.out.trans (hb.mono B1.out.size))) hK
      have hy := given_yes (O := O) (P := P) (zss := zss) (Pk := List.replicate P.length (-1)) ⟨rfl, rfl, rfl⟩ hg
      refine ⟨by rw [hy.1, HE.out.1], by rw [hy.2.1, HE.out.2, hPl]; rfl, hy.2.2⟩
    have HLR : Hid ((List.replicate P.length (-1 : Int)).length = P.length) := by simp [Hid]
    obtain ⟨N1, hN1⟩ : ∃ l, l = List.replicate P.length (-1 : Int) := ⟨_, rfl⟩
    rw [← hN1] at HNn HPl HLR
    clear hr hp hA hPO hPB hPl hN1
    go_enter Tryz.func37, Tryz.ntmps37
    go_wp2_with fail
    rw [← HW1.out]
    refine HC.out.mono ?_
    rintro e w3 ⟨rfl, hb⟩
    have K3 := Lib.hid hb
    have B3 := Lib.hid (B1.out.trans (K3.out.mono B1.out.size))
    have T3 := Lib.hid (T1.out.below K3.out)
    have R3 := Lib.hid (R1.out.below K3.out)
    have hs3 : w1.heap.size ≤ w3.heap.size := K3.out.size
    have HS3 := Lib.hid hs3
    clear hb HC c0 c1 c2
    have HSv : Hid (∀ W, Below w3.heap.size w3 W → W.cell? ⟨w.heap.size, 0, none⟩ = some (.slice ao O.length co) ∧ W.cell? ⟨w.heap.size, 1, none⟩ = some (.slice an zss.length cn) ∧ W.cell? ⟨w.heap.size, 2, none⟩ = some (.slice ap P.length cp)) := fun W hb => ⟨(T3.out.below hb).c0, (T3.out.below hb).c1, (T3.out.below hb).c2⟩
    have HPL : Hid (∀ (W : World) (aK : Option Addr) (cK : Nat), Below w3.heap.size w3 W → IntsAt W aK N1 → Calls Tryz.prog 71 #[.agg #[.slice ao O.length co, .slice an zss.length cn, .slice ap P.length cp], .slice aK N1.length cK] W (GivesAnswerB W X Y true)) := fun W aK cK hb => HPl.out W aK cK (K3.out.trans (hb.mono K3.out.size))
    have Kd : Hid (Below w3.heap.size w3 w3.drew) := (Below.refl _ _).drew
    have Ka : Hid (Below w3.heap.size w3 (w3.alloc (.cells #[.slice none 0 0, .slice none 0 0] 59)).drew) := (below1 _ _).drew
    have Ba : Hid (Box2 (w3.alloc (.cells #[.slice none 0 0, .slice none 0 0] 59)).drew w3.heap.size 59 (.slice none 0 0) (.slice none 0 0)) := Box2.below (Box2.new w3 _ _ _) (Below.refl _ _).drew
    have h0 := HSv.out _ Kd.out
    clear HPl
    go_wp2
    go_region_held3 (fun W => W.cell? ⟨w.heap.size, 0, none⟩ = some (.slice ao O.length co) ∧ W.cell? ⟨w.heap.size, 1, none⟩ = some (.slice an zss.length cn) ∧ W.cell? ⟨w.heap.size, 2, none⟩ = some (.slice ap P.length cp))
      (first
        | exact HSv.out _ Kd.out
        | exact HSv.out _ Km.out
        | exact HSv.out _ Kl.out
        | exact HSv.out _ Ka.out
        | exact HSv.out _ (Km.out.alloc Km.out.size _)
        | exact HSv.out _ (Km.out.alloc Km.out.size _).drew
        | exact HSv.out _ (Kl.out.alloc Kl.out.size _)
        | exact HSv.out _ (Kl.out.alloc Kl.out.size _).drew
        | exact HSv.out _ ((Km.out.setCell (p := ⟨w3.heap.size, 0, none⟩) (Nat.le_refl _) _).setCell (p := ⟨w3.heap.size, 1, none⟩) (Nat.le_refl _) _)
        | exact HSv.out _ ((Km.out.setCell (p := ⟨wl.heap.size, 0, none⟩) Kl.out.size _).setCell (p := ⟨wl.heap.size, 1, none⟩) Kl.out.size _)
        | exact HSv.out _ (((Km.out.alloc Km.out.size _).drew.setCell (p := ⟨wm.heap.size, 0, none⟩) Km.out.size _).setCell (p := ⟨wm.heap.size, 1, none⟩) Km.out.size _)
        | exact HSv.out _ (((Km.out.alloc Km.out.size _).setCell (p := ⟨wm.heap.size, 0, none⟩) Km.out.size _).setCell (p := ⟨wm.heap.size, 1, none⟩) Km.out.size _)
        | go_keep)
      (first
        | (go_at_call 71; refine (HPL.out _ _ lc Kal.out (Ll.out.below (below1 wl _))).mono ?_; rintro e wm ⟨vx, vy, rfl, hx, hy, hap, hb⟩; obtain ⟨xa, xc, hus, _, _⟩ := hx.shape; subst hus; obtain ⟨ya, yc, hus, _, _⟩ := hy.shape; subst hus; have Km := Lib.hid (Kal.out.trans (hb.mono Kal.out.size)); have Xm := Lib.hid (hx.base (B' := w3.heap.size) Kal.out.size); have Ym := Lib.hid (hy.base (B' := w3.heap.size) Kal.out.size); have HAP := Lib.hid hap; have Bm := Lib.hid (Bal.out.below hb); have b0 := Bm.out.cell0; have b1 := Bm.out.cell1; have b2 := Bm.out.frozen 0; have b3 := Bm.out.frozen 1; clear hx hy hap hb)
        | (go_at_call 71; refine (HPL.out _ _ lc Kl.out Ll.out).mono ?_; rintro e wm ⟨vx, vy, rfl, hx, hy, hap, hb⟩; obtain ⟨xa, xc, hus, _, _⟩ := hx.shape; subst hus; obtain ⟨ya, yc, hus, _, _⟩ := hy.shape; subst hus; have Km := Lib.hid (Kl.out.trans (hb.mono Kl.out.size)); have Xm := Lib.hid (hx.base (B' := w3.heap.size) Kl.out.size); have Ym := Lib.hid (hy.base (B' := w3.heap.size) Kl.out.size); have HAP := Lib.hid hap; have Bm := Lib.hid (Bl.out.below hb); have b0 := Bm.out.cell0; have b1 := Bm.out.cell1; have b2 := Bm.out.frozen 0; have b3 := Bm.out.frozen 1; clear hx hy hap hb)
        | (go_at_call 71; refine (HPL.out _ _ lc Kl.out Ll.out).mono ?_; rintro e wm ⟨vx, vy, rfl, hx, hy, hap, hb⟩; obtain ⟨xa, xc, hus, _, _⟩ := hx.shape; subst hus; obtain ⟨ya, yc, hus, _, _⟩ := hy.shape; subst hus; have Km := Lib.hid (Kl.out.trans (hb.mono Kl.out.size)); have Xm := Lib.hid (hx.base (B' := w3.heap.size) Kl.out.size); have Ym := Lib.hid (hy.base (B' := w3.heap.size) Kl.out.size); have HAP := Lib.hid hap; have bx : Box2 (wm.alloc (.cells #[.slice none 0 0, .slice none 0 0] 59)).drew wm.heap.size 59 (.slice none 0 0) (.slice none 0 0) := Box2.below (Box2.new wm _ _ _) (Below.refl _ _).drew; have b0 := bx.cell0; have b1 := bx.cell1; have b2 := bx.frozen 0; have b3 := bx.frozen 1; clear bx hx hy hap hb)
        | (go_at_call 72; refine (HNn.out w3.drew).mono ?_; rintro e wl ⟨x, rfl, hx, hb⟩; obtain ⟨la, lc, hus, hli, _⟩ := hx.shape; subst hus; have Kl := Lib.hid (Kd.out.trans (hb.mono Kd.out.size)); have Ll := Lib.hid hli; have Kal : Hid (Below w3.heap.size w3 (wl.alloc (.cells #[.slice none 0 0, .slice none 0 0] 59))) := Kl.out.alloc Kl.out.size _; have Bal : Hid (Box2 (wl.alloc (.cells #[.slice none 0 0, .slice none 0 0] 59)) wl.heap.size 59 (.slice none 0 0) (.slice none 0 0)) := Box2.new wl _ _ _; clear hx hli hb)
        | (go_at_call 72; refine (HNn.out (w3.alloc (.cells #[.slice none 0 0, .slice none 0 0] 59)).drew).mono ?_; rintro e wl ⟨x, rfl, hx, hb⟩; obtain ⟨la, lc, hus, hli, _⟩ := hx.shape; subst hus; have Kl := Lib.hid (Ka.out.trans (hb.mono Ka.out.size)); have Ll := Lib.hid hli; have Bl := Lib.hid (Ba.out.below hb); clear hx hli hb))
    · obtain ⟨wn, hwn⟩ : ∃ y, y = wm.alloc (.cells #[.slice xa X.length xc, .slice ya Y.length yc] 59) := ⟨_, rfl⟩
      have HWN := Lib.hid hwn
      have ho : Only (fun b => b = wm.heap.size) wm wn := by rw [hwn]; exact Only.of_below (below1 _ _)
      have Kn := Lib.hid (Km.out.trans (ho.below (B := w3.heap.size) Km.out.size (fun b hb => by have := Km.out.size; omega)))
      have Bn := Lib.hid (B3.out.trans (Kn.out.mono B3.out.size))
      have Rn := Lib.hid (R3.out.below Kn.out)
      have hw3 : w.heap.size ≤ w3.heap.size := B3.out.size
      have Xn := Lib.hid ((Xm.out.only ho (fun g hg e => by have := Xm.out.top g hg; omega)).retop.base (B' := w.heap.size) hw3)
      have Yn := Lib.hid ((Ym.out.only ho (fun g hg e => by have := Ym.out.top g hg; omega)).retop.base (B' := w.heap.size) hw3)
      have Tn : Hid (Box2 wn wm.heap.size 59 (.slice xa X.length xc) (.slice ya Y.length yc)) := by rw [hwn]; exact Box2.new _ _ _ _
      have t0 := Tn.out.cell0
      have t1 := Tn.out.cell1
      have r0 := Rn.out.cell0
      have r1 := Rn.out.cell1
      have f0 := Rn.out.frozen 0
      have f1 := Rn.out.frozen 1
      have hdn := solved_done Xn.out Yn.out HAP.out Bn.out Rn.out
      have HDN := Lib.hid hdn
      clear hdn ho hwn b0 b1 b2 b3
      rw [← HWN.out]
      go_wp2
      try rw [← HWN.out]
      exact bodyPost_ret (v := .agg #[.slice xa X.length xc, .slice ya Y.length yc]) (by simp [results, Tryz.results37, go_sem, r0, r1]) rfl HDN.out
    · obtain ⟨wn, hwn⟩ : ∃ y, y = (wm.setCell ⟨wl.heap.size, 0, none⟩ (.slice xa X.length xc)).setCell ⟨wl.heap.size, 1, none⟩ (.slice ya Y.length yc) := ⟨_, rfl⟩
      have HWN := Lib.hid hwn
      have ho : Only (fun b => b = wl.heap.size) wm wn := by rw [hwn]; exact ((Only.refl (fun b => b = wl.heap.size) wm).setCell (p := ⟨wl.heap.size, 0, none⟩) rfl _).setCell (p := ⟨wl.heap.size, 1, none⟩) rfl _
      have Kn := Lib.hid (Km.out.trans (ho.below (B := w3.heap.size) Km.out.size (fun b hb => by have := Kl.out.size; omega)))
      have Bn := Lib.hid (B3.out.trans (Kn.out.mono B3.out.size))
      have Rn := Lib.hid (R3.out.below Kn.out)
      have hw3 : w.heap.size ≤ w3.heap.size := B3.out.size
      have Xn := Lib.hid ((Xm.out.only ho (fun g hg e => Bm.out.not_own Xm.out.own (by decide) (by rw [hg, e]))).retop.base (B' := w.heap.size) hw3)
      have Yn := Lib.hid ((Ym.out.only ho (fun g hg e => Bm.out.not_own Ym.out.own (by decide) (by rw [hg, e]))).retop.base (B' := w.heap.size) hw3)
      have Tn : Hid (Box2 wn wl.heap.size 59 (.slice xa X.length xc) (.slice ya Y.length yc)) := by rw [hwn]; exact box2_put Bm.out
      have t0 := Tn.out.cell0
      have t1 := Tn.out.cell1
      have r0 := Rn.out.cell0
      have r1 := Rn.out.cell1
      have f0 := Rn.out.frozen 0
      have f1 := Rn.out.frozen 1
      have hdn := solved_done Xn.out Yn.out HAP.out Bn.out Rn.out
      have HDN := Lib.hid hdn
      clear hdn ho hwn b0 b1 b2 b3
      rw [← HWN.out]
      go_wp2
      try rw [← HWN.out]
      exact bodyPost_ret (v := .agg #[.slice xa X.length xc, .slice ya Y.length yc]) (by simp [results, Tryz.results37, go_sem, r0, r1]) rfl HDN.out
    · obtain ⟨wn, hwn⟩ : ∃ y, y = (wm.setCell ⟨w3.heap.size, 0, none⟩ (.slice xa X.length xc)).setCell ⟨w3.heap.size, 1, none⟩ (.slice ya Y.length yc) := ⟨_, rfl⟩
      have HWN := Lib.hid hwn
      have ho : Only (fun b => b = w3.heap.size) wm wn := by rw [hwn]; exact ((Only.refl (fun b => b = w3.heap.size) wm).setCell (p := ⟨w3.heap.size, 0, none⟩) rfl _).setCell (p := ⟨w3.heap.size, 1, none⟩) rfl _
      have Kn := Lib.hid (Km.out.trans (ho.below (B := w3.heap.size) Km.out.size (fun b hb => by omega)))
      have Bn := Lib.hid (B3.out.trans (Kn.out.mono B3.out.size))
      have Rn := Lib.hid (R3.out.below Kn.out)
      have hw3 : w.heap.size ≤ w3.heap.size := B3.out.size
      have Xn := Lib.hid ((Xm.out.only ho (fun g hg e => Bm.out.not_own Xm.out.own (by decide) (by rw [hg, e]))).retop.base (B' := w.heap.size) hw3)
      have Yn := Lib.hid ((Ym.out.only ho (fun g hg e => Bm.out.not_own Ym.out.own (by decide) (by rw [hg, e]))).retop.base (B' := w.heap.size) hw3)
      have Tn : Hid (Box2 wn w3.heap.size 59 (.slice xa X.length xc) (.slice ya Y.length yc)) := by rw [hwn]; exact box2_put Bm.out
      have t0 := Tn.out.cell0
      have t1 := Tn.out.cell1
      have r0 := Rn.out.cell0
      have r1 := Rn.out.cell1
      have f0 := Rn.out.frozen 0
      have f1 := Rn.out.frozen 1
      have hdn := solved_done Xn.out Yn.out HAP.out Bn.out Rn.out
      have HDN := Lib.hid hdn
      clear hdn ho hwn b0 b1 b2 b3
      rw [← HWN.out]
      go_wp2
      try rw [← HWN.out]
      exact bodyPost_ret (v := .agg #[.slice xa X.length xc, .slice ya Y.length yc]) (by simp [results, Tryz.results37, go_sem, r0, r1]) rfl HDN.out
end

section
open Go.RowKit

theorem upL_up (n : Nat) : (upL n).Pairwise (· < ·) := by
  unfold upL
  exact List.Pairwise.map _ (fun a b (h : a < b) => by show (a : Int) < (b : Int); omega) List.pairwise_lt_range
theorem ansUp_mem {n : Nat} {x : Int} : x ∈ upL n ↔ ∃ v : Nat, x = (v : Int) ∧ v < n := by
  constructor
  · intro h
    obtain ⟨k, hk, e⟩ := mem_nth.1 h
    rw [upL_len] at hk
    rw [upL_nth hk] at e
    exact ⟨k, e.symm, hk⟩
  · rintro ⟨v, rfl, hv⟩
    exact mem_nth.2 ⟨v, by rw [upL_len]; exact hv, upL_nth hv⟩
theorem both_all {L : List Int} (hl : L.length ≤ 256) (h01 : ∀ v, v < L.length → nth L v = 0 ∨ nth L v = 1) : bothL (regL L 0) (regL L 1) = allL (L.length : Int) := by
  have hu : ∀ who, UpTo (L.length : Int) (regK L who L.length) := fun who => ⟨regK_up _, fun x hx => by
    obtain ⟨v, rfl, hv, _⟩ := regK_mem.1 hx
    omega⟩
  unfold regL
  simp only [if_pos hl]
  rw [allL_yes hl, UpTo.both (hu 0) (hu 1) (by omega)]
  refine rising_ext (unionK_rising (hu 0).1 _ (Nat.le_refl _)) (upL_up _) fun x => ?_
  rw [unionL_mem, regK_mem, regK_mem, ansUp_mem]
  constructor
  · rintro (⟨v, e, hv, _⟩ | ⟨v, e, hv, _⟩)
    · exact ⟨v, e, hv⟩
    · exact ⟨v, e, hv⟩
  · rintro ⟨v, e, hv⟩
    rcases h01 v hv with h | h
    · exact .inl ⟨v, e, hv, h⟩
    · exact .inr ⟨v, e, hv, h⟩

theorem OwnInts.keepsA {w : World} {B D p : Nat} {v : Value} {zs : List Int} (h : OwnInts w B D v zs) (hp : p < B) : ∃ a c, v = .slice a zs.length c ∧ ∀ W', Only (fun b => b = p ∨ D ≤ b) w W' → IntsAt W' a zs := by
  obtain ⟨a, c, hv, _⟩ := h.shape
  refine ⟨a, c, hv, fun W' ho => ?_⟩
  obtain ⟨a', c', hv', hi, _⟩ := (h.only ho (fun g hg e => by have := (h.own.lt g hg).1; have := h.top g hg; omega)).shape
  rw [hv] at hv'
  cases hv'
  exact hi
theorem OwnRows.keepsA {w : World} {B D p : Nat} {v : Value} {V : Nat → Value} {zss : List (List Int)} (h : OwnRows w B D v V zss) (hp : p < B) : ∃ a c, v = .slice a zss.length c ∧ ∀ W', Only (fun b => b = p ∨ D ≤ b) w W' → RowsAt W' a (fun k => addrOf (V k)) (fun k => capOf (V k)) zss := by
  obtain ⟨a, c, hv, _⟩ := h.shape
  refine ⟨a, c, hv, fun W' ho => ?_⟩
  obtain ⟨a', c', hv', hi, _⟩ := (h.only ho (fun g hg e => by have := (h.own.lt g hg).1; have := h.top g hg; omega) (fun k hk g hg e => by have := ((h.rows k hk).own.lt g hg).1; have := (h.rows k hk).top g hg; omega)).shape
  rw [hv] at hv'
  cases hv'
  exact hi

theorem ans_cell {w : World} {B D g n c v : Nat} {zs : List Int} (h : OwnInts w B D (.slice (some ⟨g, 0, none⟩) n c) zs) (hn : n = zs.length) (hv : v < n) : w.cell? ⟨g, v, none⟩ = some (.int .i64 (nth zs v)) := by
  subst hn
  rw [h.own.cellAt v (by omega)]
  simp [hv, nth_eq hv]
theorem ans_frozen {w : World} {B D g n c : Nat} {zs : List Int} (h : OwnInts w B D (.slice (some ⟨g, 0, none⟩) n c) zs) (hp : 0 < zs.length) (v : Nat) : w.frozen? ⟨g, v, none⟩ = false := by
  obtain ⟨_, _, ef, _, hfz⟩ := h.shape
  obtain ⟨_, efa, _, _, _, hfx⟩ := hfz hp
  simp only [Value.slice.injEq] at ef
  obtain ⟨rfl, _, rfl⟩ := ef
  simp only [Option.some.injEq, Addr.mk.injEq] at efa
  obtain ⟨rfl, _, _⟩ := efa
  exact hfx v

set_option maxHeartbeats 16000000 in
set_option maxRecDepth 100000 in
theorem lawFnAnswers {w : World} {ab : Option Addr} {cb : Nat} {bs : List Int} (hby : BytesAt w ab bs) (hErr : ErrW w) :
    Calls Tryz.prog 8 #[.slice ab bs.length cb] w fun e w' => e = .returned (.bool true) ∧ Below w.heap.size w w' := by
  have HErr := Lib.hid hErr
  clear hErr
  have HY := Lib.hid hby
  have hbl := hby.len
  clear hby
  by_cases hbig : 4096 < (bs.length : Int)
  · have HG := Lib.hid (big_is (w := w) (ab := ab) (cb := cb) (decide_eq_true hbig))
    clear hbig
    go_enter Tryz.func8, Tryz.ntmps8
    go_wp2_with (go_at_call 9; refine HG.out.mono ?_; rintro e w' ⟨rfl, rfl⟩)
    go_ret
    exact ⟨rfl, Below.refl _ _⟩
  have HG := Lib.hid (big_is (w := w) (ab := ab) (cb := cb) (decide_eq_false hbig))
  have HRo := Lib.hid (roll_is (cb := cb) (s := 607) HY.out (by omega))
  clear hbig HY
  go_enter Tryz.func8, Tryz.ntmps8
  go_wp2_with fail
  refine HG.out.mono ?_
  rintro e w' ⟨rfl, rfl⟩
  go_wp2_with fail
  refine HRo.out.mono ?_
  rintro e w1 ⟨h1, rfl, hd1, hb⟩
  have B1 := Lib.hid hb
  have hp1 := hd1.lt
  have HGa := Lib.hid (w5Game_is (most := 8) hd1 (by omega) (by omega))
  clear hd1 hb HG HRo
  go_wp2_with fail
  refine HGa.out.mono ?_
  rintro e w2 ⟨vo, vn, vp, O, zss, P, rfl, ⟨vo', vn', V, hv, ho1, ho2, -⟩, ho3, hAP, hmost, hlP, hPB, hdin⟩
  simp only [Value.agg.injEq, Array.mk.injEq, List.cons.injEq, and_true] at hv
  obtain ⟨rfl, rfl⟩ := hv
  obtain ⟨ao, co, hvo, hao⟩ := ho1.keepsA hp1
  obtain ⟨an, cn, hvn, han⟩ := ho2.keepsA hp1
  obtain ⟨ap, cp, hvp, hap⟩ := ho3.keepsA hp1
  subst hvo
  subst hvn
  subst hvp
  have HAP := Lib.hid hAP
  have HGm : Hid (∀ W, Only (fun b => b = w.heap.size ∨ w2.heap.size ≤ b) w2 W → GameAt W (.agg #[.slice ao O.length co, .slice an zss.length cn, .slice ap P.length cp]) O zss P) := fun W ho => ⟨_, _, _, _, _, _, _, _, rfl, hao W ho, han W ho, hap W ho⟩
  have HAO := Lib.hid hao
  have HAN := Lib.hid han
  have HZO : Hid (zss.length = O.length) := hAP.2.2.1
  have HPL := Lib.hid hlP
  have HPV : Hid (parityB O zss P = true) := parityB_iff.2 ⟨hAP, hlP, fun x hx => by have := hPB x hx; omega⟩
  have hO1 : 1 ≤ O.length := hAP.1
  have hO8 : O.length ≤ 8 := by omega
  obtain ⟨j2, h2, hd2⟩ := hdin.cur
  have hs2 : w1.heap.size ≤ w2.heap.size := hdin.only.size
  obtain ⟨w3, hw3⟩ : ∃ y, y = w2.alloc (.cells #[.slice ao O.length co, .slice an zss.length cn, .slice ap P.length cp] 32) := ⟨_, rfl⟩
  have HW3 := Lib.hid hw3
  have hb3 : Below w2.heap.size w2 w3 := by rw [hw3]; exact below1 _ _
  have T3 : Hid (Box3 w3 w2.heap.size 32 (.slice ao O.length co) (.slice an zss.length cn) (.slice ap P.length cp)) := by rw [hw3]; exact Box3.new _ _ _ _ _
  have B2 : Hid (Below w.heap.size w w2) := B1.out.trans (hdin.only.below (B := w.heap.size) B1.out.size (fun b hb => by omega))
  have B3 := Lib.hid (B2.out.trans (hb3.mono B2.out.size))
  have K3 : Hid (Below w2.heap.size w2 w3) := hb3
  have D3 := Lib.hid (hd2.below hb3)
  obtain ⟨L, hL⟩ : ∃ l, l = wonL zss O P := ⟨_, rfl⟩
  obtain ⟨M, hM⟩ : ∃ l, l = planL zss O P := ⟨_, rfl⟩
  have HSo : Hid (∀ W, Below w3.heap.size w3 W → Calls Tryz.prog 37 #[.agg #[.slice ao O.length co, .slice an zss.length cn, .slice ap P.length cp]] W (GivesAnswer W L M)) := fun W hb => solved_is (by unfold solvedX solvedY; rw [HPV.out, hL, hM]; exact ⟨rfl, rfl⟩) (HGm.out W (Only.of_below (K3.out.trans (hb.mono K3.out.size))))
  have HAB : Hid (ansB O zss P L M = true) := by rw [hL, hM]; exact plan_accepted HPV.out
  have HLl : Hid (L.length = O.length) := by rw [hL, wonL_len]; exact HZO.out
  have HMl : Hid (M.length = O.length) := by rw [hM]; unfold planL; rw [planK_len, List.length_replicate]; exact HZO.out
  have HL01 : Hid (∀ v, v < O.length → nth L v = 0 ∨ nth L v = 1) := fun v hv => by
    rw [hL, wonL_nth (by rw [HZO.out]; exact hv)]; split <;> simp
  have HFl : Hid (∀ (v : Nat) (X Y : List Int), v < O.length → nth X v = 1 - nth L v → X.length = O.length → ansB O zss P X Y = false) := fun v X Y hv hX hXl => flip_rejected HPV.out (by rw [HZO.out]; exact hv) (by rw [hX, hL]) (by omega) (by omega)
  have HBo : Hid (bothL (regL L 0) (regL L 1) = allL (P.length : Int)) := by
    rw [both_all (by rw [HLl.out]; omega) (fun v hv => HL01.out v (by rw [← HLl.out]; exact hv)), HLl.out, HPL.out]
    rfl
  clear hd2 hdin ho1 ho2 ho3 hao han hap hAP hw3 hb3 HGa hPB hlP hmost hL hM
  have c0 := T3.out.c0
  have c1 := T3.out.c1
  have c2 := T3.out.c2
  go_wp2_with fail
  rw [← HW3.out]
  refine (HSo.out _ (Below.refl _ _)).mono ?_
  rintro e w4 ⟨vx, vy, rfl, hx, hy, hxy, hb⟩
  obtain ⟨xa, xc, hus, _, hxg⟩ := hx.shape
  subst hus
  obtain ⟨ya, yc, hus, _, hyg⟩ := hy.shape
  subst hus
  obtain ⟨w5, hw5⟩ : ∃ y, y = w4.alloc (.cells #[.slice xa L.length xc, .slice ya M.length yc] 59) := ⟨_, rfl⟩
  have HW5 := Lib.hid hw5
  have hb5 : Below w4.heap.size w4 w5 := by rw [hw5]; exact below1 _ _
  have U5 : Hid (Box2 w5 w4.heap.size 59 (.slice xa L.length xc) (.slice ya M.length yc)) := by rw [hw5]; exact Box2.new _ _ _ _
  have hb35 : Below w3.heap.size w3 w5 := hb.trans (hb5.mono hb.size)
  have T5 := Lib.hid (T3.out.below hb35)
  have D5 := Lib.hid (D3.out.below hb35)
  have B5 := Lib.hid (B3.out.trans (hb35.mono B3.out.size))
  have K5 := Lib.hid (K3.out.trans (hb35.mono K3.out.size))
  have X5 := Lib.hid (hx.below hb5)
  have Y5 := Lib.hid (hy.below hb5)
  have HXY := Lib.hid hxy
  have hs34 : w3.heap.size ≤ w4.heap.size := hb.size
  have hL1 : (0 : Int) < (L.length : Int) := by have := HLl.out; omega
  clear hb hb5 hb35 hx hy hxy hw5 c0 c1 c2
  have u0 := U5.out.cell0
  rw [HW5.out] at u0
  go_wp2_with fail
  rw [← HW5.out]
  refine (below_is (hi := (L.length : Int) - 1) D5.out hL1 rfl (by have := HLl.out; omega)).mono ?_
  rintro e w6 ⟨x, i6, h6, rfl, hx0, hx1, hd6, ho6⟩
  obtain ⟨v, rfl⟩ : ∃ v : Nat, x = (v : Int) := ⟨x.toNat, by omega⟩
  have hvL : v < L.length := by omega
  have hp2 : w.heap.size < w2.heap.size := by omega
  have hs23 : w2.heap.size < w3.heap.size := by have := T3.out.lt; omega
  have HO6 : Hid (Only (fun b => b = w.heap.size ∨ w2.heap.size ≤ b) w2 w6) := (Only.of_below K5.out).trans (ho6.mono fun b hb => .inl hb)
  have B6 : Hid (Below w.heap.size w w6) := B5.out.trans (ho6.below (B := w.heap.size) B5.out.size (fun b hb => by omega))
  have T6 := Lib.hid (Box3.only T5.out ho6 (by omega))
  have U6 := Lib.hid (U5.out.only ho6 (by omega))
  have X6 := Lib.hid ((X5.out.only ho6 (fun g hg e => by have := (X5.out.own.lt g hg).1; omega)).retop)
  have Y6 := Lib.hid ((Y5.out.only ho6 (fun g hg e => by have := (Y5.out.own.lt g hg).1; omega)).retop)
  have D6 := Lib.hid hd6
  have HAn : Hid (∀ W, Below w6.heap.size w6 W → LassoAt W (.agg #[.slice xa L.length xc, .slice ya M.length yc]) L M) := fun W hb => by
    obtain ⟨a1, k1, e1, i1, _⟩ := (X6.out.below hb).shape
    obtain ⟨a2, k2, e2, i2, _⟩ := (Y6.out.below hb).shape
    simp only [Value.slice.injEq] at e1 e2
    obtain ⟨rfl, _, rfl⟩ := e1
    obtain ⟨rfl, _, rfl⟩ := e2
    exact ⟨_, _, _, _, rfl, i1, i2⟩
  have HA1 : Hid (∀ W, Below w6.heap.size w6 W → Calls Tryz.prog 34 #[.agg #[.slice ao O.length co, .slice an zss.length cn, .slice ap P.length cp], .agg #[.slice xa L.length xc, .slice ya M.length yc]] W fun e w' => e = .returned (.bool true) ∧ Below W.heap.size W w') := fun W hb => AnswerOk_is (HErr.out.below (B6.out.trans (hb.mono B6.out.size))) HAB.out (HGm.out W (HO6.out.trans (Only.of_below hb))) (HAn.out W hb)
  have HRg : Hid (∀ (W : World) (who : Int), Below w6.heap.size w6 W → Calls Tryz.prog 40 #[.agg #[.slice xa L.length xc, .slice ya M.length yc], .int .i64 who] W (GivesInts W (regL L who))) := fun W who hb => RegionOf_is rfl (HAn.out W hb)
  have HSv : Hid (∀ W, Below w6.heap.size w6 W → W.cell? ⟨w2.heap.size, 0, none⟩ = some (.slice ao O.length co) ∧ W.cell? ⟨w2.heap.size, 1, none⟩ = some (.slice an zss.length cn) ∧ W.cell? ⟨w2.heap.size, 2, none⟩ = some (.slice ap P.length cp) ∧ W.cell? ⟨w4.heap.size, 0, none⟩ = some (.slice xa L.length xc) ∧ W.cell? ⟨w4.heap.size, 1, none⟩ = some (.slice ya M.length yc)) := fun W hb => ⟨(T6.out.below hb).c0, (T6.out.below hb).c1, (T6.out.below hb).c2, (U6.out.below hb).cell0, (U6.out.below hb).cell1⟩
  have Kd : Hid (Below w6.heap.size w6 w6.drew) := (Below.refl _ _).drew
  have h0 := HSv.out _ Kd.out
  clear hd6 ho6 u0 HSo
  go_wp2
  go_region_held3 (fun W => W.cell? ⟨w2.heap.size, 0, none⟩ = some (.slice ao O.length co) ∧ W.cell? ⟨w2.heap.size, 1, none⟩ = some (.slice an zss.length cn) ∧ W.cell? ⟨w2.heap.size, 2, none⟩ = some (.slice ap P.length cp) ∧ W.cell? ⟨w4.heap.size, 0, none⟩ = some (.slice xa L.length xc) ∧ W.cell? ⟨w4.heap.size, 1, none⟩ = some (.slice ya M.length yc))
    (first
      | exact HSv.out _ Kd.out
      | exact HSv.out _ Ka.out
      | exact HSv.out _ Kb.out
      | exact HSv.out _ Kc.out
      | exact HSv.out _ Ke.out
      | exact HSv.out _ Kf.out
      | exact HSv.out _ Kg.out)
    (first
      | (go_at_call 15; refine (likeInts_at (v := .slice ea (allL (P.length : Int)).length ec) (v' := .slice fa (allL (P.length : Int)).length fc) ⟨_, _, rfl, Ef.out⟩ ⟨_, _, rfl, Ff.out⟩).mono ?_; rintro e wg ⟨rfl, hb⟩; have Kg := Lib.hid (Kf.out.trans (hb.mono Kf.out.size)); clear hb)
      | (go_at_call 41; refine (specAllOf_is (w := we) (n := (P.length : Int)) rfl).mono ?_; rintro e wf ⟨y, rfl, hy, hb⟩; obtain ⟨fa, fc, hus, hyi, _⟩ := hy.shape; subst hus; have Kf := Lib.hid (Ke.out.trans (hb.mono Ke.out.size)); have Ef := Lib.hid (Ee.out.below hb); have Ff := Lib.hid hyi; clear hy hyi hb)
      | (go_at_call 39; refine (BothOf_is HBo.out bc cc Bb.out Cb.out).mono ?_; rintro e we ⟨y, rfl, hy, hb⟩; obtain ⟨ea, ec, hus, hyi, _⟩ := hy.shape; subst hus; have Ke := Lib.hid (Kc.out.trans (hb.mono Kc.out.size)); have Ee := Lib.hid hyi; clear hy hyi hb)
      | (go_at_call 40; refine (HRg.out _ 1 Kb.out).mono ?_; rintro e wc ⟨y, rfl, hy, hb⟩; obtain ⟨ca, cc, hus, hyi, _⟩ := hy.shape; subst hus; have Kc := Lib.hid (Kb.out.trans (hb.mono Kb.out.size)); have Bb := Lib.hid (Ba.out.below hb); have Cb := Lib.hid hyi; clear hy hyi hb)
      | (go_at_call 40; refine (HRg.out _ 0 Ka.out).mono ?_; rintro e wb ⟨y, rfl, hy, hb⟩; obtain ⟨ba, bc, hus, hyi, _⟩ := hy.shape; subst hus; have Kb := Lib.hid (Ka.out.trans (hb.mono Ka.out.size)); have Ba := Lib.hid hyi; clear hy hyi hb)
      | (go_at_call 34; refine (HA1.out _ Kd.out).mono ?_; rintro e wa ⟨rfl, hb⟩; have Ka := Lib.hid (Kd.out.trans (hb.mono Kd.out.size)); clear hb))
  have HO7 : Hid (Only (fun b => b = w.heap.size ∨ w2.heap.size ≤ b) w2 wg) := HO6.out.trans (Only.of_below Kg.out)
  have B7 : Hid (Below w.heap.size w wg) := B6.out.trans (Kg.out.mono B6.out.size)
  have T7 := Lib.hid (T6.out.below Kg.out)
  have U7 := Lib.hid (U6.out.below Kg.out)
  have X7 := Lib.hid ((X6.out.below Kg.out).retop)
  have Y7 := Lib.hid ((Y6.out.below Kg.out).retop)
  have D7 := Lib.hid (D6.out.below Kg.out)
  obtain ⟨gx, hxa, hgx1, hgx2, hgxo, _⟩ := hxg (by omega)
  have hM1 : 0 < M.length := by have := HMl.out; omega
  obtain ⟨gy, hya, hgy1, hgy2, hgyo, _⟩ := hyg hM1
  have hgxy : gx ≠ gy := fun e => HXY.out gx hgxo (by rw [hgyo, e])
  subst hxa
  subst hya
  have hvM : v < M.length := by have := HMl.out; have := HLl.out; omega
  have hvO : v < O.length := by have := HLl.out; omega
  obtain ⟨y, hy⟩ : ∃ q, q = nth L v := ⟨_, rfl⟩
  have HYE := Lib.hid hy
  have hy01 : y = 0 ∨ y = 1 := by rw [hy]; exact HL01.out v hvO
  have hwy : IntKind.i64.wrap (1 - y) = 1 - y := IntWalk.i64_in _ (by omega)
  have l1 : wg.drew.cell? ⟨gx, v, none⟩ = some (.int .i64 y) := by
    have h : wg.cell? ⟨gx, v, none⟩ = some (.int .i64 (nth L v)) := ans_cell X7.out rfl hvL
    rw [hy]; exact h
  have l2 : wg.drew.frozen? ⟨gx, v, none⟩ = false := ans_frozen X7.out (by omega) v
  clear hxg hyg
  have hS9 : Only (fun b => b = gx) wg.drew (wg.drew.setCell ⟨gx, v, none⟩ (.int .i64 (1 - y))) := (Only.refl (fun b => b = gx) wg.drew).setCell (p := ⟨gx, v, none⟩) rfl _
  have hd9 : Below wg.heap.size wg wg.drew := (Below.refl _ _).drew
  have HO9 : Hid (Only (fun b => b = w.heap.size ∨ w2.heap.size ≤ b) w2 (wg.drew.setCell ⟨gx, v, none⟩ (.int .i64 (1 - y)))) := (HO7.out.trans (Only.of_below hd9)).trans (hS9.mono fun b hb => by omega)
  have B9 : Hid (Below w.heap.size w (wg.drew.setCell ⟨gx, v, none⟩ (.int .i64 (1 - y)))) := (B7.out.trans (hd9.mono B7.out.size)).trans (hS9.below (B := w.heap.size) (by have := B7.out.size; have := hd9.size; omega) (fun b hb => by omega))
  have T9 := Lib.hid (Box3.only (T7.out.below hd9) hS9 (by omega))
  have U9 := Lib.hid ((U7.out.below hd9).only hS9 (by omega))
  have X9 := Lib.hid ((OwnInts.store (x := 1 - y) (j := v) (X7.out.below hd9) rfl hvL (by unfold Fits; omega)).retop)
  have Y9 := Lib.hid (((Y7.out.below hd9).only hS9 (fun g hg e => by rw [hgyo] at hg; simp at hg; omega)).retop)
  have D9 := Lib.hid ((D7.out.below hd9).only hS9 (fun b hb => by omega))
  have hU7 := (U7.out.below hd9).cell0
  clear h0 hy
  go_wp2
  go_region_law (fail)
  all_goals (
    obtain ⟨w9, hw9⟩ : ∃ q, q = (wg.setCell ⟨gx, v, none⟩ (.int .i64 (1 - y))).drew := ⟨_, rfl⟩
    have hw9' : wg.drew.setCell ⟨gx, v, none⟩ (.int .i64 (1 - y)) = w9 := by rw [hw9]; rfl
    rw [hw9'] at HO9 B9 T9 U9 X9 Y9 D9
    rw [← hw9]
    clear hw9 hw9' hS9 hd9 l1 l2 hU7
    obtain ⟨ob, oo, hoa, hoc⟩ := (HAO.out w9 HO9.out).cell (by omega)
    have o1 := hoc v hvO
    obtain ⟨o, ho⟩ : ∃ q, q = nth O v := ⟨_, rfl⟩
    rw [← ho] at o1
    have l9 : w9.cell? ⟨gx, v, none⟩ = some (.int .i64 (1 - y)) := by
      have h := ans_cell (v := v) X9.out (by rw [List.length_set]) hvL
      rw [nthSet7 hvL, if_pos rfl] at h
      exact h
    have c0 := T9.out.c0
    have c1 := T9.out.c1
    have c2 := T9.out.c2
    have u0 := U9.out.cell0
    have u1 := U9.out.cell1
    have hM2 : (v : Int) < (M.length : Int) := by omega
    have hL2 : (v : Int) < (L.length : Int) := by omega
    have hO2 : (v : Int) < (O.length : Int) := by omega
    have hv0 : (0 : Int) ≤ (v : Int) := by omega
    have m1 : w9.cell? ⟨gy, v, none⟩ = some (.int .i64 (nth M v)) := ans_cell Y9.out rfl hvM
    have m2 : w9.frozen? ⟨gy, v, none⟩ = false := ans_frozen Y9.out hM1 v
    subst hoa
    clear hoc ho
    by_cases e : o = 1 - y
    · have he : (o == 1 - y) = true := by rw [e]; simp
      clear e
      obtain ⟨nb, no, hna, hnc⟩ := (HAN.out w9 HO9.out).cell (by have := HZO.out; omega)
      have n1 := hnc v (by have := HZO.out; omega)
      have hvx := HAP.out.2.2.2 v hvO
      have hrl1 : 1 ≤ (row zss v).length := hvx.2.1
      have hrl2 : (row zss v).length ≤ 16 := hvx.2.2.1
      obtain ⟨ra, hra⟩ : ∃ a, a = addrOf (V v) := ⟨_, rfl⟩
      obtain ⟨rc, hrc⟩ : ∃ a, a = capOf (V v) := ⟨_, rfl⟩
      obtain ⟨rb, ro, hrb, hrx⟩ := ((HAN.out w9 HO9.out).rows v (by have := HZO.out; omega)).cell (by omega)
      rw [← hra, ← hrc] at n1
      rw [← hra] at hrb
      have HRF : Hid (∀ j, j < (row zss v).length → Fits (nth (row zss v) j)) := ((HAN.out w9 HO9.out).rows v (by have := HZO.out; omega)).fits
      subst hna
      subst hrb
      have HRC : Hid (∀ W, Only (fun b => b = w.heap.size ∨ b = gy) w9 W → ∀ j, j < (row zss v).length → W.cell? ⟨rb, ro + j, none⟩ = some (.int .i64 (nth (row zss v) j))) := fun W ho j hj => by
        obtain ⟨b', o', ha', hc'⟩ := ((HAN.out W (HO9.out.trans (ho.mono fun b hb => by omega))).rows v (by have := HZO.out; omega)).cell (by omega)
        rw [← hra] at ha'
        simp only [Option.some.injEq, Addr.mk.injEq] at ha'
        obtain ⟨rfl, rfl, _⟩ := ha'
        exact hc' j hj
      have HSw : Hid (∀ W, Only (fun b => b = w.heap.size ∨ b = gy) w9 W → W.cell? ⟨w4.heap.size, 1, none⟩ = some (.slice (some ⟨gy, 0, none⟩) M.length yc) ∧ W.cell? ⟨w2.heap.size, 1, none⟩ = some (.slice (some ⟨nb, no, none⟩) zss.length cn) ∧ W.cell? ⟨nb, no + v, none⟩ = some (.slice (some ⟨rb, ro, none⟩) (row zss v).length rc) ∧ ∀ j : Nat, j < (row zss v).length → W.cell? ⟨rb, ro + j, none⟩ = some (.int .i64 (nth (row zss v) j))) := fun W ho => by
        refine ⟨(U9.out.only ho (by omega)).cell1, (Box3.only T9.out ho (by omega)).c1, ?_, HRC.out W ho⟩
        obtain ⟨b', o', ha', hc'⟩ := (HAN.out W (HO9.out.trans (ho.mono fun b hb => by omega))).cell (by have := HZO.out; omega)
        simp only [Option.some.injEq, Addr.mk.injEq] at ha'
        obtain ⟨rfl, rfl, _⟩ := ha'
        have h := hc' v (by have := HZO.out; omega)
        rw [← hra, ← hrc] at h
        exact h
      have hvZ : (v : Int) < (zss.length : Int) := by have := HZO.out; omega
      clear hnc hrx hra hrc hvx m1 m2
      go_wp2
      go_quiet (fail)
      go_wp2
      obtain ⟨wd, hwd⟩ : ∃ q, q = w9.drewN nq := ⟨_, rfl⟩
      have hbd : Below w9.heap.size w9 wd.drew := by rw [hwd]; exact (below_drewN (Below.refl _ _) _).drew
      have HOd : Hid (Only (fun b => b = w.heap.size ∨ b = gy) w9 wd.drew) := Only.of_below hbd
      have HBl := Lib.hid (below_is (hi := ((row zss v).length : Int) - 1) (n := ((row zss v).length : Int)) (D9.out.below hbd) (by omega) rfl (by omega))
      have h0 := HSw.out _ HOd.out
      rw [← hwd]
      have HBD := Lib.hid hbd
      clear hwd hbd n1 o1 l9 c0 c1 c2 u0 u1
      go_region_held3 (fun W => W.cell? ⟨w4.heap.size, 1, none⟩ = some (.slice (some ⟨gy, 0, none⟩) M.length yc) ∧ W.cell? ⟨w2.heap.size, 1, none⟩ = some (.slice (some ⟨nb, no, none⟩) zss.length cn) ∧ W.cell? ⟨nb, no + v, none⟩ = some (.slice (some ⟨rb, ro, none⟩) (row zss v).length rc) ∧ ∀ j : Nat, j < (row zss v).length → W.cell? ⟨rb, ro + j, none⟩ = some (.int .i64 (nth (row zss v) j)))
        (first
          | exact HSw.out _ HOd.out
          | exact HSw.out _ HOe.out
          | exact HSw.out _ HOs.out
          | go_keep)
        (first
          | (go_at_call 38; refine HBl.out.mono ?_; rintro e we ⟨x, i7, h7, rfl, hx2, hx3, hd7, ho7⟩; obtain ⟨j, rfl⟩ : ∃ j : Nat, x = (j : Int) := ⟨x.toNat, by omega⟩; have hj : j < (row zss v).length := (by omega); have hj0 : (0 : Int) ≤ (j : Int) := (by omega); have hj1 : (j : Int) < ((row zss v).length : Int) := (by omega); have HOe : Hid (Only (fun b => b = w.heap.size ∨ b = gy) w9 we) := HOd.out.trans (ho7.mono fun b hb => .inl hb); have HFU := Lib.hid (HRF.out j hj); have HOp : Hid (Only (fun b => b = w.heap.size) wd.drew we) := ho7; have Ye := Lib.hid (((Y9.out.below HBD.out).only ho7 (fun g hg e => by simp [Value.ownBlock] at hg; omega)).retop); have Xe := Lib.hid (((X9.out.below HBD.out).only ho7 (fun g hg e => by simp [Value.ownBlock] at hg; omega)).retop); have m1 := ans_cell (v := v) Ye.out rfl hvM; have m2 := ans_frozen Ye.out hM1 v; have HOs : Hid (Only (fun b => b = w.heap.size ∨ b = gy) w9 (we.setCell ⟨gy, v, none⟩ (.int .i64 (nth (row zss v) j)))) := HOe.out.setCell (p := ⟨gy, v, none⟩) (.inr rfl) _; clear ho7 hd7))
      obtain ⟨u, hu⟩ : ∃ u, u = nth (row zss v) j := ⟨_, rfl⟩
      rw [← hu] at HFU HOs ⊢
      obtain ⟨wz, hwz⟩ : ∃ q, q = we.setCell ⟨gy, v, none⟩ (.int .i64 u) := ⟨_, rfl⟩
      have hSz : Only (fun b => b = gy) we wz := by rw [hwz]; exact (Only.refl (fun b => b = gy) we).setCell (p := ⟨gy, v, none⟩) rfl _
      have hOz9 : Only (fun b => b = w.heap.size ∨ b = gy) w9 wz := by rw [hwz]; exact HOs.out
      have Xz := Xe.out.only hSz (fun g hg e => by simp [Value.ownBlock] at hg; omega)
      have Yz : OwnInts wz w3.heap.size we.heap.size (.slice (some ⟨gy, 0, none⟩) M.length yc) (M.set v u) := by rw [hwz]; exact OwnInts.store (x := u) (j := v) Ye.out rfl hvM HFU.out
      have Bz : Below w.heap.size w wz := B9.out.trans (hOz9.below (B := w.heap.size) B9.out.size (fun b hb => by omega))
      have HOz : Only (fun b => b = w.heap.size ∨ w2.heap.size ≤ b) w2 wz := HO9.out.trans (hOz9.mono fun b hb => by omega)
      rw [← hwz]
      clear hSz hu h0 m1 m2
      have HX' : Hid (LassoAt wz (.agg #[.slice (some ⟨gx, 0, none⟩) L.length xc, .slice (some ⟨gy, 0, none⟩) M.length yc]) (L.set v (1 - y)) (M.set v u)) := by
        obtain ⟨a1, k1, e1, i1, _⟩ := Xz.shape
        obtain ⟨a2, k2, e2, i2, _⟩ := Yz.shape
        simp only [Value.slice.injEq] at e1 e2
        obtain ⟨rfl, el, rfl⟩ := e1
        obtain ⟨rfl, el2, rfl⟩ := e2
        exact ⟨_, _, _, _, by rw [List.length_set, List.length_set], i1, i2⟩
      have HAf := Lib.hid (AnswerOk_is (HErr.out.below Bz) (HFl.out v (L.set v (1 - y)) (M.set v u) hvO (by rw [nthSet7 hvL, if_pos rfl, ← HYE.out]) (by rw [List.length_set]; exact HLl.out)) (HGm.out wz HOz) HX'.out)
      have HBz := Lib.hid Bz
      have Tz := Lib.hid (Box3.only T9.out hOz9 (by omega))
      have Uz := Lib.hid (U9.out.only hOz9 (by omega))
      have t0 := Tz.out.c0
      have t1 := Tz.out.c1
      have t2 := Tz.out.c2
      have u0 := Uz.out.cell0
      have u1 := Uz.out.cell1
      clear Xz Yz Bz HOz hwz hOz9
      go_wp2_with fail
      refine HAf.out.mono ?_
      rintro e wf ⟨rfl, hb⟩
      have Bf := Lib.hid (HBz.out.trans (hb.mono HBz.out.size))
      clear hb
      go_wp2
      go_ret
      exact ⟨rfl, Bf.out⟩
    · have he : (o == 1 - y) = false := by simpa using e
      clear e
      go_wp2
      go_quiet (fail)
      go_wp2_with fail
      obtain ⟨wz, hwz⟩ : ∃ q, q = (w9.drewN nq).setCell ⟨gy, v, none⟩ (.int .i64 (-1)) := ⟨_, rfl⟩
      have hbd : Below w9.heap.size w9 (w9.drewN nq) := below_drewN (Below.refl _ _) _
      have hSz : Only (fun b => b = gy) (w9.drewN nq) wz := by rw [hwz]; exact (Only.refl (fun b => b = gy) (w9.drewN nq)).setCell (p := ⟨gy, v, none⟩) rfl _
      have Xz := (X9.out.below hbd).only hSz (fun g hg e => by simp [Value.ownBlock] at hg; omega)
      have Yz : OwnInts wz w3.heap.size w9.heap.size (.slice (some ⟨gy, 0, none⟩) M.length yc) (M.set v (-1)) := by rw [hwz]; exact OwnInts.store (x := -1) (j := v) (Y9.out.below hbd) rfl hvM (by unfold Fits; omega)
      have Bz : Below w.heap.size w wz := (B9.out.trans (hbd.mono B9.out.size)).trans (hSz.below (B := w.heap.size) (by have := B9.out.size; have := hbd.size; omega) (fun b hb => by omega))
      have HOz : Only (fun b => b = w.heap.size ∨ w2.heap.size ≤ b) w2 wz := (HO9.out.trans (Only.of_below hbd)).trans (hSz.mono fun b hb => by omega)
      rw [← hwz]
      clear hbd hSz
      have HX' : Hid (LassoAt wz (.agg #[.slice (some ⟨gx, 0, none⟩) L.length xc, .slice (some ⟨gy, 0, none⟩) M.length yc]) (L.set v (1 - y)) (M.set v (-1))) := by
        obtain ⟨a1, k1, e1, i1, _⟩ := Xz.shape
        obtain ⟨a2, k2, e2, i2, _⟩ := Yz.shape
        simp only [Value.slice.injEq] at e1 e2
        obtain ⟨rfl, el, rfl⟩ := e1
        obtain ⟨rfl, el2, rfl⟩ := e2
        exact ⟨_, _, _, _, by rw [List.length_set, List.length_set], i1, i2⟩
      have HAf := Lib.hid (AnswerOk_is (HErr.out.below Bz) (HFl.out v (L.set v (1 - y)) (M.set v (-1)) hvO (by rw [nthSet7 hvL, if_pos rfl, ← HYE.out]) (by rw [List.length_set]; exact HLl.out)) (HGm.out wz HOz) HX'.out)
      have HBz := Lib.hid Bz
      clear Xz Yz Bz HOz hwz
      refine HAf.out.mono ?_
      rintro e wf ⟨rfl, hb⟩
      have Bf := Lib.hid (HBz.out.trans (hb.mono HBz.out.size))
      clear hb
      go_wp2
      go_ret
      exact ⟨rfl, Bf.out⟩)
end

end Go.Proofs.YtokcinhopajniaaGreatDoor
