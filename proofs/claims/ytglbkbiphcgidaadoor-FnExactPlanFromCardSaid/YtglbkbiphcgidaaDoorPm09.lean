import Derived.Deep.RegionHeld3
import Derived.Test.YtglbkbiphcgidaaDoorPm01
import Derived.Test.YtglbkbiphcgidaaDoorPm05
import Derived.Test.YtglbkbiphcgidaaDoorPm08
namespace Go.Proofs.YtglbkbiphcgidaaDoor
section
open Go.RowKit
def Aw (O P Pk : List Int) (ah : List (List Int)) : Prop := ∀ v, v < ah.length → nth Pk v ≠ -1 → nth (dJ ah O P) v = nth O v
noncomputable def kT (O : List Int) (ah : List (List Int)) (P Pk : List Int) : Bool := jb O ah P Pk && @decide (Aw O P Pk ah) (Classical.propDecidable _)
noncomputable def oH (O : List Int) (ah : List (List Int)) (P Pk : List Int) : List Int := if kT O ah P Pk = true then dJ ah O P else []
noncomputable def oI (O : List Int) (ah : List (List Int)) (P Pk : List Int) : List Int := if kT O ah P Pk = true then bD ah O P Pk ah.length else []
theorem Un {O P Pk : List Int} {ah : List (List Int)} : kT O ah P Pk = true ↔ jb O ah P Pk = true ∧ Aw O P Pk ah := by
 unfold kT; rw [Bool.and_eq_true, @decide_eq_true_eq _ (Classical.propDecidable _)]
theorem NI {O P Pk X Y : List Int} {ah : List (List Int)} {r : Bool} (hr : oH O ah P Pk = X ∧ oI O ah P Pk = Y ∧ kT O ah P Pk = r) (h : ¬ (jb O ah P Pk = true ∧ Aw O P Pk ah)) : X = [] ∧ Y = [] ∧ r = false := by
 obtain ⟨rfl, rfl, rfl⟩ := hr
 have hb : kT O ah P Pk = false := by
  cases hb : kT O ah P Pk with
  | false => rfl
  | true => exact absurd (Un.1 hb) h
 unfold oH oI
 rw [hb]; simp
theorem NJ {O P Pk X Y : List Int} {ah : List (List Int)} {r : Bool} (hr : oH O ah P Pk = X ∧ oI O ah P Pk = Y ∧ kT O ah P Pk = r) (h : jb O ah P Pk = true ∧ Aw O P Pk ah) : X = dJ ah O P ∧ Y = bD ah O P Pk ah.length ∧ r = true := by
 obtain ⟨rfl, rfl, rfl⟩ := hr
 have hb := Un.2 h
 unfold oH oI
 rw [hb]; simp
def Dv (w : World) (X Y : List Int) (r : Bool) (e : Ending) (w' : World) : Prop :=
 ∃ vx vy, e = .returned (.tuple #[.agg #[vx, vy], .bool r]) ∧ aF w' w.heap.size w'.heap.size vx X ∧ aF w' w.heap.size w'.heap.size vy Y ∧ (∀ g, vx.ownBlock = some g → vy.ownBlock ≠ some g) ∧ Below w.heap.size w w'
theorem aaM {w W : World} {k : Nat} (ho : Only (fun b => b = k) w W) {p : Addr} {v : Value} (hp : p.block ≠ k) (h : w.cell? p = some v) : W.cell? p = some v := by
 have hb := ho.block p.block (World.block_lt_of_cell? w p h) hp
 rw [← h]
 simp only [World.cell?, hb]
theorem agL {w W : World} {B q n k : Nat} {V : Nat → Value} {R : Nat → List Int} (h : fU w B q n V R) (hk : w.rowIs k 2 n (fun _ => .int .i64 (-1))) (hR : ∀ u, u < n → ∀ x ∈ R u, 0 ≤ x) (hn : n ≤ 256) (ho : Only (fun b => b = k) w W) : dU W (some ⟨q, 0, none⟩) (fun k => addrOf (V k)) (fun k => capOf (V k)) (rowsOf n R) := by
 have hp := aak h hn
 have hl := oV n R
 have hqk : q ≠ k := fun e => CW hk h.own (by decide) (by rw [e]; rfl)
 refine ⟨hp.len, fun hpos => ?_, fun u hu => ?_⟩
 · obtain ⟨b, off, hb, hc⟩ := hp.cell hpos
   refine ⟨b, off, hb, fun i hi => ?_⟩
   have h1 := hc i hi
   have hbq : b = q := by simp only [Option.some.injEq, Addr.mk.injEq] at hb; exact hb.1.symm
   subst hbq
   exact aaM ho hqk h1
 · have h2 := hp.rows u hu
   refine ⟨h2.len, h2.fits, fun hpos => ?_⟩
   rw [hl] at hu
   obtain ⟨b, off, hb, hc⟩ := h2.cell hpos
   refine ⟨b, off, hb, fun i hi => aaM ho (fun e => ?_) (hc i hi)⟩
   subst e
   obtain ⟨a, cap, hv, _, hown⟩ := (h.rows u hu).shape
   rw [vY hu] at hpos hc
   obtain ⟨g, hg, _⟩ := hown hpos
   rw [hv] at hb
   simp only [addrOf] at hb
   rw [hg] at hb
   simp only [Option.some.injEq, Addr.mk.injEq] at hb
   obtain ⟨rfl, rfl, _⟩ := hb
   have h3 := hc 0 hpos
   have hn0 : 0 < n := by omega
   have h4 : w.cell? ⟨g, 0, none⟩ = some (.int .i64 (-1)) := World.rowIs.cell hk hn0
   rw [Nat.zero_add, h4] at h3
   have h5 := hR u hu _ (jo hpos)
   simp at h3
   omega
theorem aaN {hold : Int → Bool} {I : Nat → Bool} : ∀ {us : List Int}, gu hold I us = -1 ∨ gu hold I us ∈ us
 | [] => .inl rfl
 | a :: us => by
   rw [gu]
   by_cases e : (I a.toNat && hold a) = true
   · rw [if_pos e]; exact .inr (by simp)
   · rw [if_neg e]
     rcases aaN (hold := hold) (I := I) (us := us) with h | h
     · exact .inl h
     · exact .inr (by simp [h])
theorem wU {ah : List (List Int)} {O P Pk : List Int} : ∀ k, (bD ah O P Pk k).length = Pk.length
 | 0 => rfl
 | k + 1 => by
   rw [bD]
   split
   · exact wU k
   · rw [List.length_set]; exact wU k
theorem Uo {ah : List (List Int)} {O P Pk : List Int} (hz : ig ah) (hn : ah.length ≤ 256) (hl : Pk.length = ah.length) (hf : ∀ j, j < ah.length → Fits (nth Pk j)) : ∀ k, k ≤ ah.length → ∀ j, j < ah.length → Fits (nth (bD ah O P Pk k) j)
 | 0, _, j, hj => hf j hj
 | k + 1, hk, j, hj => by
   have ih := Uo hz hn hl hf k (by omega) (O := O) (P := P)
   rw [bD]
   split
   · exact ih j hj
   · rw [nP (by rw [wU]; omega)]
     split
     · rcases aaN (hold := fun u => fC ah O P ((bD ah O P Pk k).set k u) (bC ah O P (nth O k)) (nth O k)) (I := bC ah O P (nth O k)) (us := row ah k) with h | h
       · rw [h]; unfold Fits; omega
       · obtain ⟨y, hy, hyn⟩ := hz k (by omega) _ h
         rw [hy]; unfold Fits; omega
     · exact ih j hj
theorem Gp {ah : List (List Int)} {O P Pk : List Int} {k : Nat} (h : 0 ≤ nth (bD ah O P Pk k) k ∨ nth (dJ ah O P) k ≠ nth O k) : bD ah O P Pk (k + 1) = bD ah O P Pk k := by rw [bD, if_pos h]
theorem NK {ah : List (List Int)} {O P Pk : List Int} {k : Nat} (h : ¬ (0 ≤ nth (bD ah O P Pk k) k ∨ nth (dJ ah O P) k ≠ nth O k)) : bD ah O P Pk (k + 1) = (bD ah O P Pk k).set k (gu (fun u => fC ah O P ((bD ah O P Pk k).set k u) (bC ah O P (nth O k)) (nth O k)) (bC ah O P (nth O k)) (row ah k)) := by rw [bD, if_neg h]
theorem aaO {ah : List (List Int)} {O P : List Int} {who : Int} (hw : who = 0 ∨ who = 1) {v : Nat} (hv : v < ah.length) : zY (dJ ah O P) who v = bC ah O P who v := by
 have h := Dq (O := O) (P := P) hw hv
 unfold zY
 cases hr : bC ah O P who v with
 | true => rw [beq_iff_eq]; exact h.1 hr
 | false => rw [beq_eq_false_iff_ne]; exact fun e => by rw [h.2 e] at hr; cases hr
theorem agM {w wr : World} {xa : Option Addr} {xc n kb s3 : Nat} {won Y : List Int} {A B : Value} (hX : aF wr w.heap.size wr.heap.size (.slice xa n xc) won) (hXs : ∀ g, (Value.slice xa n xc).ownBlock = some g → w.heap.size + 1 < g ∧ g < s3) (hY : wr.rowIs kb 2 n (dD (nth Y))) (hYl : Y.length = n) (hn : n ≤ 256) (hf : ∀ j, j < n → Fits (nth Y j)) (hkb : s3 ≤ kb) (hs : w.heap.size + 1 < s3) (hB : Below w.heap.size w wr) :
 Dv w won Y true (.returned (.tuple #[.agg #[.slice xa n xc, .slice (some ⟨kb, 0, none⟩) n n], .bool true])) ((wr.setCell ⟨w.heap.size + 1, 0, none⟩ A).setCell ⟨w.heap.size + 1, 1, none⟩ B) := by
 have hS : Only (fun b => b = w.heap.size + 1) wr ((wr.setCell ⟨w.heap.size + 1, 0, none⟩ A).setCell ⟨w.heap.size + 1, 1, none⟩ B) := ((Only.refl (fun b => b = w.heap.size + 1) wr).setCell (p := ⟨w.heap.size + 1, 0, none⟩) rfl _).setCell (p := ⟨w.heap.size + 1, 1, none⟩) rfl _
 have hy := aF.xN (w := wr) (B := w.heap.size) (D := wr.heap.size) (zs := Y) (by rw [hYl]; exact hY) (by omega) hY.lt (by omega) (by rw [hYl]; exact hf)
 rw [hYl] at hy
 refine ⟨_, _, rfl, (hX.only hS fun g hg e => by have := hXs g hg; omega).bg, (hy.only hS fun g hg e => by simp [Value.ownBlock] at hg; omega).bg, fun g hg hh => ?_, (hB.setCell (p := ⟨w.heap.size + 1, 0, none⟩) (by simp) _).setCell (p := ⟨w.heap.size + 1, 1, none⟩) (by simp) _⟩
 simp [Value.ownBlock] at hh
 have := hXs g hg
 omega
theorem agN {O P Pk : List Int} {ah : List (List Int)} (h : ∀ v, v < Pk.length → nth Pk v ≠ -1 → nth (dJ ah O P) v = nth O v) (hl : Pk.length = ah.length) : Aw O P Pk ah := fun v hv => h v (by omega)
set_option maxHeartbeats 16000000 in
set_option maxRecDepth 100000 in
theorem aaP {w : World} {v : Value} {O P Pk X Y : List Int} {ah : List (List Int)} {aK : Option Addr} {r : Bool} (cK : Nat) (hr : oH O ah P Pk = X ∧ oI O ah P Pk = Y ∧ kT O ah P Pk = r) (h : gX w v O ah P) (hK : aV w aK Pk) :
 Calls Tryd.prog 14 #[v, .slice aK Pk.length cK] w (Dv w X Y r) := by
 have fP := Lib.hid h
 have iH := Lib.hid hK
 obtain ⟨ao, an, ap, co, cn, cp, A, C, rfl, h1, h2, h3⟩ := h
 obtain ⟨w1, hw1⟩ : ∃ y, y = (w.alloc (.cells #[.slice ao O.length co, .slice an ah.length cn, .slice ap P.length cp] 35)).alloc (.cells #[.slice none 0 0, .slice none 0 0] 30) := ⟨_, rfl⟩
 have HW1 := Lib.hid hw1
 have B1 : Hid (Below w.heap.size w w1) := by rw [hw1]; exact below2 _ _ _
 have hs1 : w1.heap.size = w.heap.size + 1 + 1 := by rw [hw1]; simp
 have cO := Lib.hid hs1
 have T1 : Hid (aT w1 w.heap.size 35 (.slice ao O.length co) (.slice an ah.length cn) (.slice ap P.length cp)) := by rw [hw1]; exact (aT.new w _ _ _ _).below (aA _ _)
 have R1 : Hid (aI w1 (w.heap.size + 1) 30 (.slice none 0 0) (.slice none 0 0)) := by
  rw [hw1]
  have h := aI.new (w.alloc (.cells #[.slice ao O.length co, .slice an ah.length cn, .slice ap P.length cp] 35)) 30 (.slice none 0 0) (.slice none 0 0)
  rw [World.size_alloc] at h
  exact h
 have tZ := Lib.hid h1
 have qP := Lib.hid h2
 have rO := Lib.hid h3
 clear hw1 h1 h2 h3 hs1 hK
 have c0 := T1.out.c0
 have c1 := T1.out.c1
 have c2 := T1.out.c2
 cases hk : jb O ah P Pk with
 | false =>
   have HE := Lib.hid (NI hr (by rw [hk]; simp))
   have HC := Lib.hid (aau cK hk (fP.out.below B1.out) (iH.out.below B1.out))
   clear hr hk
   go_enter Tryd.func14, Tryd.ntmps14
   go_wp2_with fail
   rw [← HW1.out]
   refine HC.out.mono ?_
   rintro e w2 ⟨rfl, hb⟩
   have B2 := Lib.hid (B1.out.trans (hb.mono B1.out.size))
   have R2 := Lib.hid (R1.out.below hb)
   have d0 := R2.out.cell0
   have d1 := R2.out.cell1
   have g0 := R2.out.frozen 0
   have g1 := R2.out.frozen 1
   clear hb HC
   go_wp2
   exact bodyPost_ret (v := .tuple #[.agg #[.slice none 0 0, .slice none 0 0], .bool false]) (by simp [results, Tryd.results14, go_sem, d0, d1]) rfl
    ⟨_, _, by rw [HE.out.2.2], by rw [HE.out.1]; exact aF.nil _ _ _, by rw [HE.out.2.1]; exact aF.nil _ _ _, fun g hg => by simp [Value.ownBlock] at hg, (B2.out.setCell (p := ⟨w.heap.size + 1, 0, none⟩) (by simp) _).setCell (p := ⟨w.heap.size + 1, 1, none⟩) (by simp) _⟩
 | true =>
   have hon : fO O ah P Pk = true := by unfold jb at hk; rw [Bool.and_eq_true] at hk; exact hk.1
   have hpar : fZ O ah P = true := by unfold fO at hon; rw [Bool.and_eq_true] at hon; exact hon.1
   have hpk : tN ah Pk := by unfold fO at hon; rw [Bool.and_eq_true] at hon; exact tV.1 hon.2
   obtain ⟨hA, Aa, Ac⟩ := iY.1 hpar
   have HC := Lib.hid (aau cK hk (fP.out.below B1.out) (iH.out.below B1.out))
   have HEn : Hid (¬ Aw O P Pk ah → X = [] ∧ Y = [] ∧ r = false) := fun h => NI hr fun hh => h hh.2
   have HEy : Hid (Aw O P Pk ah → X = dJ ah O P ∧ Y = bD ah O P Pk ah.length ∧ r = true) := fun h => NJ hr ⟨hk, h⟩
   obtain ⟨n, hn⟩ : ∃ n, n = ah.length := ⟨_, rfl⟩
   have fM : O.length = n := by rw [hn]; exact hA.2.2.1.symm
   have hPl : P.length = n := by omega
   have wV : Pk.length = n := by rw [hn]; exact hpk.1
   have x9 : n ≤ 256 := by have := hA.2.1; omega
   have Ur : Hid (∀ W, Below w1.heap.size w1 W → Calls Tryd.prog 52 #[.agg #[.slice ao O.length co, .slice an ah.length cn, .slice ap P.length cp]] W (sS W (dJ ah O P))) := fun W hb => TP (fP.out.below (B1.out.trans (hb.mono B1.out.size))) hpar
   have HOf : Hid (∀ W, Below w1.heap.size w1 W → Calls Tryd.prog 53 #[.agg #[.slice ao O.length co, .slice an ah.length cn, .slice ap P.length cp]] W (TD W ao an ap co cn cp ah.length ah)) := fun W hb => by
    have hb' := B1.out.trans (hb.mono B1.out.size)
    exact aag co cn cp (tZ.out.below hb') (qP.out.below hb') (rO.out.below hb') hA (by omega)
   have HRP := Lib.hid (jL hA)
   have FD : Hid (∀ v, v < ah.length → (row ah v).length ≤ 16) := fun v hv => (tK hA hv).2.2
   have agO : Hid (∀ v, v < ah.length → nth O v = 0 ∨ nth O v = 1) := fun v hv => (tK hA hv).1
   have pz : Hid (∀ j, j < ah.length → Fits (nth Pk j)) := fun j hj => iH.out.fits j (by omega)
   have Az : Hid ((dJ ah O P).length = n) := by rw [hn]; exact yh
   have kR : Hid (∀ k, k ≤ n → ∀ j, j < ah.length → Fits (nth (bD ah O P Pk k) j)) := fun k hk => Uo (jL hA).eu (by omega) hpk.1 pz.out k (by omega)
   have Gq := Lib.hid hn
   have HOL := Lib.hid fM
   have kD := Lib.hid hPl
   have jO := Lib.hid wV
   clear hr hk hon hpar hpk hA Aa Ac
   rw [fM, hPl, ← hn] at HC Ur HOf
   rw [wV] at HC
   rw [fM, hPl, ← hn] at HW1
   have HT1 : Hid (aT w1 w.heap.size 35 (.slice ao n co) (.slice an n cn) (.slice ap n cp)) := by have h := T1.out; rw [fM, hPl, ← hn] at h; exact h
   clear c0 c1 c2
   have c0 := HT1.out.c0
   have c1 := HT1.out.c1
   have c2 := HT1.out.c2
   rw [fM, hPl, wV, ← hn]
   obtain ⟨won, yA⟩ : ∃ l, l = dJ ah O P := ⟨_, rfl⟩
   have AA := Lib.hid yA
   have Tf : Hid (∀ v, v < n → nth won v = 0 ∨ nth won v = 1) := fun v hv => by
    rw [yA, Ny (by omega)]; split <;> simp
   rw [← yA] at Ur Az
   clear yA fM hPl wV hn
   go_enter Tryd.func14, Tryd.ntmps14
   go_wp2_with fail
   rw [← HW1.out]
   refine HC.out.mono ?_
   rintro e w2 ⟨rfl, hb⟩
   have K2 := Lib.hid hb
   have T2 := Lib.hid (HT1.out.below hb)
   clear hb HC c0 c1 c2
   have c0 := T2.out.c0
   have c1 := T2.out.c1
   have c2 := T2.out.c2
   go_wp2_with fail
   refine (Ur.out _ K2.out).mono ?_
   rintro e w3 ⟨x, rfl, hx, hb⟩
   obtain ⟨xa, xc, hus, hxi, _⟩ := hx.shape
   subst hus
   have X3 := Lib.hid hx
   have K3 := Lib.hid (K2.out.trans (hb.mono K2.out.size))
   have T3 := Lib.hid (T2.out.below hb)
   have aaQ : w2.heap.size ≤ w3.heap.size := hb.size
   clear hb hx hxi c0 c1 c2
   have c0 := T3.out.c0
   have c1 := T3.out.c1
   have c2 := T3.out.c2
   go_wp2_with fail
   refine (HOf.out _ K3.out).mono ?_
   rintro e w4 ⟨q, kb, V, rfl, hV, hkk, hb, hkb, hap⟩
   obtain ⟨w5, hw5⟩ : ∃ y, y = w4.alloc (.cells #[.slice ao n co, .slice ap n cp, .slice an n cn, .slice (some ⟨q, 0, none⟩) n n, .slice (some ⟨kb, 0, none⟩) n n] 61) := ⟨_, rfl⟩
   have TI := Lib.hid hw5
   have hb5 : Below w4.heap.size w4 w5 := by rw [hw5]; exact aA _ _
   have X5 : Hid (eF w5 w4.heap.size 61 (.slice ao n co) (.slice ap n cp) (.slice an n cn) (.slice (some ⟨q, 0, none⟩) n n) (.slice (some ⟨kb, 0, none⟩) n n)) := by rw [hw5]; exact eF.new _ _ _ _ _ _ _
   have V5 := Lib.hid (hV.below hb5)
   have Q5 := Lib.hid (bY hkk hb5)
   have B3 := Lib.hid (B1.out.trans (K3.out.mono B1.out.size))
   have yj : w3.heap.size ≤ w4.heap.size := hb.size
   have hk4 : kb < w4.heap.size := hkk.lt
   have K5 := Lib.hid (K3.out.trans ((hb.trans (hb5.mono hb.size)).mono K3.out.size))
   have B5 := Lib.hid (B1.out.trans (K5.out.mono B1.out.size))
   have aaR : w1.heap.size ≤ w3.heap.size := K3.out.size
   have agP := cO.out
   have hkx : kb ≠ w4.heap.size := by omega
   have NM : Hid (∀ W, Only (fun b => b = kb) w5 W → aF W w.heap.size W.heap.size (.slice xa won.length xc) won) := fun W ho => by
    have h1 := ((X3.out.below hb).below (hb5.mono (Nat.le_refl _))).only ho (fun g hg e => by have := X3.out.top g hg; omega)
    exact (h1.bg.base (B' := w.heap.size) (by have := B1.out.size; have := K2.out.size; omega)).bg
   have HOW : Hid (∀ W, Only (fun b => b = kb) w5 W → Below w.heap.size w W) := fun W ho => B5.out.trans (ho.below (B := w.heap.size) B5.out.size (fun b hb => by have := B1.out.size; omega))
   have HXB : Hid (∀ W, Only (fun b => b = kb) w5 W → eF W w4.heap.size 61 (.slice ao n co) (.slice ap n cp) (.slice an n cn) (.slice (some ⟨q, 0, none⟩) n n) (.slice (some ⟨kb, 0, none⟩) n n)) := fun W ho => fV X5.out ho (fun e => hkx e.symm)
   have HGB : Hid (∀ W, Only (fun b => b = kb) w5 W → aT W w.heap.size 35 (.slice ao n co) (.slice an n cn) (.slice ap n cp)) := fun W ho => fV (HT1.out.below K5.out) ho (fun e => by omega)
   have HRB : Hid (∀ W, Only (fun b => b = kb) w5 W → aI W (w.heap.size + 1) 30 (.slice none 0 0) (.slice none 0 0)) := fun W ho => (R1.out.below K5.out).only ho (fun e => by omega)
   have HQB : Hid (∀ W, Only (fun b => b = kb) w5 W → dU W (some ⟨q, 0, none⟩) (fun k => addrOf (V k)) (fun k => capOf (V k)) (rowsOf n fun u => dN ah u n)) := fun W ho => agL V5.out Q5.out (fun u hu x hx => (QT _ _ _ x hx).1) x9 ho
   have Q0 : Hid (w5.rowIs kb 2 n (dD fun j => if j < 0 then nth Pk j else -1)) := World.rowIs.congr Q5.out fun i hi => by simp [dD]
   have HKB : Hid (w3.heap.size ≤ kb) := hkb
   have NP := Az.out
   have FO : Hid (kb ≠ w4.heap.size) := hkx
   clear hw5 hV hkk hb hap hkb hb5 c0 c1 c2 hk4 hkx agP aaR yj
   go_wp2
   rw [← TI.out]
   go_loopw [8] (fun iv wr => ∃ i : Nat, i ≤ n ∧ iv = .int .i64 i ∧ Hid (∀ j, j < i → nth Pk j ≠ -1 → nth won j = nth O j) ∧ Hid (wr.rowIs kb 2 n (dD fun j => if j < i then nth Pk j else -1)) ∧ Hid (Only (fun b => b = kb) w5 wr)) (fun iv _ => n - (intOf iv).toNat)
   case atStart => exact ⟨0, Nat.zero_le _, rfl, fun j hj => absurd hj (Nat.not_lt_zero _), Q0, Only.refl _ _⟩
   case round =>
    clear Q0
    obtain ⟨i, hi, rfl, HJ, HK, HO⟩ := hrel
    have Gw := Lib.hid (HGB.out wr HO.out)
    have Xw := Lib.hid (HXB.out wr HO.out)
    have Rw := Lib.hid (HRB.out wr HO.out)
    have Bw := Lib.hid (HOW.out wr HO.out)
    by_cases hlt : i < n
    · have hi1 : (i : Int) < n := by omega
      have hi0 : (0 : Int) ≤ (i : Int) := by omega
      obtain ⟨pb, po, hpa, hpc⟩ := (iH.out.below Bw.out).cell (by have := jO.out; omega)
      have p1 := hpc i (by have := jO.out; omega)
      obtain ⟨ob, oo, hoa, hoc⟩ := (tZ.out.below Bw.out).cell (by have := HOL.out; omega)
      have o1 := hoc i (by have := HOL.out; omega)
      obtain ⟨_, _, hxs, hxi, _⟩ := (NM.out wr HO.out).shape
      simp only [Value.slice.injEq] at hxs
      obtain ⟨rfl, _, rfl⟩ := hxs
      obtain ⟨xb, xo, hxa, hxc⟩ := hxi.cell (by omega)
      have x1 := hxc i (by omega)
      have hi2 : (i : Int) < won.length := by omega
      have g0 := Gw.out.c0
      have y4 := Xw.out.c4
      have hkc := HK.out.cell hlt
      have Jj := HK.out.frozen i
      obtain ⟨p, hp⟩ : ∃ q, q = nth Pk i := ⟨_, rfl⟩
      obtain ⟨o, ho⟩ : ∃ q, q = nth O i := ⟨_, rfl⟩
      obtain ⟨x, hx⟩ : ∃ q, q = nth won i := ⟨_, rfl⟩
      have AB := Lib.hid hp
      have AL := Lib.hid ho
      have Gs := Lib.hid hx
      rw [← hp] at p1
      rw [← ho] at o1
      rw [← hx] at x1
      have Gt : Hid (∀ W : World, W.rowIs kb 2 n (dD fun j => if j < i then nth Pk j else -1) → (W.setCell ⟨kb, i, none⟩ (.int .i64 p)).rowIs kb 2 n (dD fun j => if j < i + 1 then nth Pk j else -1)) := fun W h => World.rowIs.congr (C9 h) fun j _ => by
       unfold dD
       by_cases e : j = i
       · subst e; simp [AB.out]
       · by_cases e2 : j < i
         · simp [e, e2, Nat.lt_succ_of_lt e2]
         · have e3 : ¬ j < i + 1 := by omega
           simp [e, e2, e3]
      subst hpa
      subst hoa
      subst hxa
      have Gu : Hid (∀ W, Only (fun b => b = kb) w5 W → W.cell? ⟨pb, po + i, none⟩ = some (.int .i64 p)) := fun W ho => by
       obtain ⟨b', o', ha', hc'⟩ := (iH.out.below (HOW.out W ho)).cell (by have := jO.out; omega)
       simp only [Option.some.injEq, Addr.mk.injEq] at ha'
       obtain ⟨rfl, rfl, _⟩ := ha'
       rw [AB.out]
       exact hc' i (by have := jO.out; omega)
      clear hpc hoc hxc hp ho hx hxi
      by_cases e : p = -1
      · have he : (p != -1) = false := by simpa using e
        have kP : Hid (∀ j, j < i + 1 → nth Pk j ≠ -1 → nth won j = nth O j) := fun j hj hne => by
         by_cases h : j = i
         · subst h; exact absurd (by rw [← AB.out]; exact e) hne
         · exact HJ.out j (by omega) hne
        clear e
        go_wp2
        go_quiet (fail)
        go_wp2
        obtain ⟨wd, hwd⟩ : ∃ y, y = wr.drewN nq := ⟨_, rfl⟩
        have hbd : Below wr.heap.size wr wd := by rw [hwd]; exact below_drewN (Below.refl _ _) _
        have kN : Hid (Only (fun b => b = kb) w5 wd.drew) := HO.out.trans (Only.of_below (hbd.trans ((Below.refl _ _).drew.mono hbd.size)))
        have uz : Hid (wd.drew.rowIs kb 2 n (dD fun j => if j < i then nth Pk j else -1)) := bY (bY HK.out hbd) (Below.refl _ _).drew
        have bM : Hid (∀ W, Only (fun b => b = kb) w5 W → W.cell? ⟨w4.heap.size, 4, none⟩ = some (.slice (some ⟨kb, 0, none⟩) n n) ∧ W.cell? ⟨pb, po + i, none⟩ = some (.int .i64 p)) := fun W ho => ⟨(HXB.out W ho).c4, Gu.out W ho⟩
        have qQ : Hid (Only (fun b => b = kb) w5 (wd.drew.setCell ⟨kb, i, none⟩ (.int .i64 p))) := kN.out.setCell (p := ⟨kb, i, none⟩) rfl _
        have wM := Lib.hid (Gt.out _ uz.out)
        have h0 := bM.out _ kN.out
        have kc := uz.out.cell hlt
        have kf := uz.out.frozen i
        rw [← hwd]
        clear hwd hbd hkc Jj p1 o1 x1 y4 g0
        go_region_held3 (fun W => W.cell? ⟨w4.heap.size, 4, none⟩ = some (.slice (some ⟨kb, 0, none⟩) n n) ∧ W.cell? ⟨pb, po + i, none⟩ = some (.int .i64 p))
         (first
          | exact bM.out _ kN.out
          | exact bM.out _ qQ.out
          | go_keep)
         (fail)
        go_wp2
        go_roundw
        case rel => exact ⟨i + 1, by omega, by go_num, kP, wM, qQ⟩
        case measure => simp [intOf]; omega
      · have he : (p != -1) = true := by simpa using e
        by_cases e2 : x = o
        · have he2 : (x != o) = false := by simpa using e2
          have kP : Hid (∀ j, j < i + 1 → nth Pk j ≠ -1 → nth won j = nth O j) := fun j hj hne => by
           by_cases h : j = i
           · subst h; rw [← Gs.out, ← AL.out]; exact e2
           · exact HJ.out j (by omega) hne
          clear e e2
          go_wp2
          go_quiet (fail)
          go_wp2
          obtain ⟨wd, hwd⟩ : ∃ y, y = wr.drewN nq := ⟨_, rfl⟩
          have hbd : Below wr.heap.size wr wd := by rw [hwd]; exact below_drewN (Below.refl _ _) _
          have kN : Hid (Only (fun b => b = kb) w5 wd.drew) := HO.out.trans (Only.of_below (hbd.trans ((Below.refl _ _).drew.mono hbd.size)))
          have uz : Hid (wd.drew.rowIs kb 2 n (dD fun j => if j < i then nth Pk j else -1)) := bY (bY HK.out hbd) (Below.refl _ _).drew
          have bM : Hid (∀ W, Only (fun b => b = kb) w5 W → W.cell? ⟨w4.heap.size, 4, none⟩ = some (.slice (some ⟨kb, 0, none⟩) n n) ∧ W.cell? ⟨pb, po + i, none⟩ = some (.int .i64 p)) := fun W ho => ⟨(HXB.out W ho).c4, Gu.out W ho⟩
          have qQ : Hid (Only (fun b => b = kb) w5 (wd.drew.setCell ⟨kb, i, none⟩ (.int .i64 p))) := kN.out.setCell (p := ⟨kb, i, none⟩) rfl _
          have wM := Lib.hid (Gt.out _ uz.out)
          have h0 := bM.out _ kN.out
          have kc := uz.out.cell hlt
          have kf := uz.out.frozen i
          rw [← hwd]
          clear hwd hbd hkc Jj p1 o1 x1 y4 g0
          go_region_held3 (fun W => W.cell? ⟨w4.heap.size, 4, none⟩ = some (.slice (some ⟨kb, 0, none⟩) n n) ∧ W.cell? ⟨pb, po + i, none⟩ = some (.int .i64 p))
           (first
            | exact bM.out _ kN.out
            | exact bM.out _ qQ.out
            | go_keep)
           (fail)
          go_wp2
          go_roundw
          case rel => exact ⟨i + 1, by omega, by go_num, kP, wM, qQ⟩
          case measure => simp [intOf]; omega
        · have he2 : (x != o) = true := by simpa using e2
          have HE := Lib.hid (HEn.out fun h => e2 (by
           have h1 := h i (by have := Gq.out; omega) (by rw [← AB.out]; exact e)
           rw [← AA.out, ← Gs.out, ← AL.out] at h1; exact h1))
          have r0 := Rw.out.cell0
          have r1 := Rw.out.cell1
          have f0 := Rw.out.frozen 0
          have f1 := Rw.out.frozen 1
          clear e e2
          go_wp2
          go_quiet (fail)
          go_wp2
          exact bodyPost_ret (v := .tuple #[.agg #[.slice none 0 0, .slice none 0 0], .bool false]) (by simp [results, Tryd.results14, go_sem, r0, r1]) rfl
           ⟨_, _, by rw [HE.out.2.2], by rw [HE.out.1]; exact aF.nil _ _ _, by rw [HE.out.2.1]; exact aF.nil _ _ _, fun g hg => by simp [Value.ownBlock] at hg, ((below_drewN Bw.out _).setCell (p := ⟨w.heap.size + 1, 0, none⟩) (by simp) _).setCell (p := ⟨w.heap.size + 1, 1, none⟩) (by simp) _⟩
    · have hi1 : ¬ (i : Int) < n := by omega
      have hii : i = n := by omega
      rw [hii] at HJ HK
      have HE := Lib.hid (HEy.out (agN (fun v hv hne => by rw [← AA.out]; exact HJ.out v (by have := jO.out; omega) hne) (by have := jO.out; have := Gq.out; omega)))
      have HKr : Hid (wr.rowIs kb 2 n (dD (nth Pk))) := World.rowIs.congr HK.out fun j hj => by simp [dD, hj]
      have Us : Hid (∀ (W : World) (who : Int), Only (fun b => b = kb) w5 W → Calls Tryd.prog 54 #[.slice xa n xc, .int .i64 who] W (tq W n (zY won who))) := fun W who ho => by
       obtain ⟨a', c', hxs, hxi, _⟩ := (NM.out W ho).shape
       simp only [Value.slice.injEq] at hxs
       obtain ⟨rfl, _, rfl⟩ := hxs
       have h := afR (who := who) xc hxi (by omega)
       rw [NP] at h
       exact h
      have hkr : kb < wr.heap.size := HK.out.lt
      clear hii HK
      go_wp2_with fail
      refine (Us.out _ 0 HO.out).mono ?_
      rintro e wa ⟨bE, rfl, hbE, hM, hb⟩
      have HOa := Lib.hid (HO.out.trans (Only.of_below hb))
      have MEa := Lib.hid hM
      have HKa := Lib.hid (bY HKr.out hb)
      have NE : Hid (bE ≠ kb) := by unfold Hid; omega
      have hsa : wr.heap.size ≤ wa.heap.size := hb.size
      clear hb hM
      go_wp2_with fail
      refine (Us.out _ 1 HOa.out).mono ?_
      rintro e wb ⟨bO, rfl, hbO, hM, hb⟩
      have Ut := Lib.hid (HOa.out.trans (Only.of_below hb))
      have ME := Lib.hid (bY MEa.out hb)
      have MO := Lib.hid hM
      have HKb := Lib.hid (bY HKa.out hb)
      have NO : Hid (bO ≠ kb) := by unfold Hid; omega
      clear hb hM hkr hsa hbE hbO Us MEa HKa HKr
      go_wp2
      go_loopw [11, 12] (fun iv rv wq => ∃ i : Nat, i ≤ n ∧ iv = .int .i64 i ∧ Hid (wq.rowIs kb 2 n (dD (nth (bD ah O P Pk i)))) ∧ Hid (Only (fun b => b = kb) wb wq)) (fun iv _ _ => n - (intOf iv).toNat)
      case atStart => exact ⟨0, Nat.zero_le _, rfl, HKb, Only.refl _ _⟩
      case round =>
       clear HKb hi hi1 HJ HO
       obtain ⟨i, hi, rfl, oh, Jt⟩ := hrel
       have Gv := Lib.hid (Ut.out.trans Jt.out)
       have Gw := Lib.hid (HGB.out wr Gv.out)
       have Xw := Lib.hid (HXB.out wr Gv.out)
       have Bw := Lib.hid (HOW.out wr Gv.out)
       by_cases hlt : i < n
       · have hi1 : (i : Int) < n := by omega
         have hi0 : (0 : Int) ≤ (i : Int) := by omega
         obtain ⟨ob, oo, hoa, hoc⟩ := (tZ.out.below Bw.out).cell (by have := HOL.out; omega)
         have o1 := hoc i (by have := HOL.out; omega)
         obtain ⟨_, _, hxs, hxi, _⟩ := (NM.out wr Gv.out).shape
         simp only [Value.slice.injEq] at hxs
         obtain ⟨rfl, _, rfl⟩ := hxs
         obtain ⟨xb, xo, hxa, hxc⟩ := hxi.cell (by omega)
         have x1 := hxc i (by omega)
         have hi2 : (i : Int) < won.length := by omega
         have g0 := Gw.out.c0
         have y4 := Xw.out.c4
         have p1 := oh.out.cell hlt
         unfold dD at p1
         obtain ⟨Yk, Uw⟩ : ∃ l, l = bD ah O P Pk i := ⟨_, rfl⟩
         have Ux := Lib.hid Uw
         rw [← Uw] at p1
         obtain ⟨p, hp⟩ : ∃ q, q = nth Yk i := ⟨_, rfl⟩
         obtain ⟨o, ho⟩ : ∃ q, q = nth O i := ⟨_, rfl⟩
         obtain ⟨x, hx⟩ : ∃ q, q = nth won i := ⟨_, rfl⟩
         have AB := Lib.hid hp
         have AL := Lib.hid ho
         have Gs := Lib.hid hx
         have agQ : x = 0 ∨ x = 1 := by rw [hx]; exact Tf.out i hlt
         rw [← hp] at p1
         rw [← ho] at o1
         rw [← hx] at x1
         subst hoa
         subst hxa
         clear hoc hxc hp ho hx hxi Uw
         by_cases hp0 : 0 ≤ p
         · have Gt : Hid (∀ W : World, W.rowIs kb 2 n (dD (nth (bD ah O P Pk i))) → W.rowIs kb 2 n (dD (nth (bD ah O P Pk (i + 1))))) := fun W h => by
            rw [Gp (.inl (by rw [← Ux.out, ← AB.out]; exact hp0))]; exact h
           go_wp2
           go_quiet (fail)
           go_wp2
           have hbd : Below wr.heap.size wr (wr.drewN nq) := below_drewN (Below.refl _ _) _
           have Dw := Lib.hid (Gt.out _ (bY oh.out hbd))
           have Dx : Hid (Only (fun b => b = kb) wb (wr.drewN nq)) := Jt.out.trans (Only.of_below hbd)
           clear hbd
           go_roundw
           case rel => exact ⟨i + 1, by omega, by go_num, Dw, Dx⟩
           case measure => simp [intOf]; omega
         · by_cases e2 : x = o
           · have he2 : (x != o) = false := by simpa using e2
             rcases agQ with hx0 | hx0
             · have hx1 : (x == 1) = false := by rw [hx0]; rfl
               have HX0 := Lib.hid hx0
               have HE2 := Lib.hid e2
               clear e2 hx0
               have AO : Hid (bD ah O P Pk (i + 1) = (bD ah O P Pk i).set i (gu (fun u => fC ah O P ((bD ah O P Pk i).set i u) (bC ah O P (nth O i)) (nth O i)) (bC ah O P (nth O i)) (row ah i))) := NK (by
                rw [← Ux.out, ← AA.out, ← Gs.out, ← AL.out, ← AB.out]; exact fun h => h.elim (fun h => hp0 h) (fun h => h HE2.out))
               obtain ⟨rr, hrr⟩ : ∃ rr, gu (fun u => fC ah O P ((bD ah O P Pk i).set i u) (bC ah O P (nth O i)) (nth O i)) (bC ah O P (nth O i)) (row ah i) = rr := ⟨_, rfl⟩
               rw [hrr] at AO
               have HRR := Lib.hid hrr
               clear hrr
               go_wp2
               go_quiet (fail)
               go_wp2
               obtain ⟨wd, hwd⟩ : ∃ y, y = wr.drewN nq := ⟨_, rfl⟩
               have hbd : Below wr.heap.size wr wd := by rw [hwd]; exact below_drewN (Below.refl _ _) _
               have Dy : Hid (Only (fun b => b = kb) wb wd.drew) := Jt.out.trans (Only.of_below (hbd.trans ((Below.refl _ _).drew.mono hbd.size)))
               have kN : Hid (Only (fun b => b = kb) w5 wd.drew) := Ut.out.trans Dy.out
               have uz : Hid (wd.drew.rowIs kb 2 n (dD (nth (bD ah O P Pk i)))) := bY (bY oh.out hbd) (Below.refl _ _).drew
               have bM : Hid (∀ W, Only (fun b => b = kb) w5 W → W.cell? ⟨w4.heap.size, 0, none⟩ = some (.slice (some ⟨ob, oo, none⟩) n co) ∧ W.cell? ⟨w4.heap.size, 1, none⟩ = some (.slice ap n cp) ∧ W.cell? ⟨w4.heap.size, 2, none⟩ = some (.slice an n cn) ∧ W.cell? ⟨w4.heap.size, 3, none⟩ = some (.slice (some ⟨q, 0, none⟩) n n) ∧ W.cell? ⟨w4.heap.size, 4, none⟩ = some (.slice (some ⟨kb, 0, none⟩) n n)) := fun W ho => ⟨(HXB.out W ho).c0, (HXB.out W ho).c1, (HXB.out W ho).c2, (HXB.out W ho).c3, (HXB.out W ho).c4⟩
               have Uy : Hid (Calls Tryd.prog 55 #[.agg #[.slice (some ⟨ob, oo, none⟩) n co, .slice ap n cp, .slice an n cn, .slice (some ⟨q, 0, none⟩) n n, .slice (some ⟨kb, 0, none⟩) n n], .slice (some ⟨bE, 0, none⟩) n n, .int .i64 i] wd.drew fun e w' => e = .returned (.int .i64 rr) ∧ (∃ q, w'.rowIs kb 2 n (dD fun j => if j = i then q else nth (bD ah O P Pk i) j)) ∧ Only (fun b => b = kb) wd.drew w') := by
                have hnz := Gq.out
                have h := aar (ao := some ⟨ob, oo, none⟩) (ap := ap) (an := an) (aq := some ⟨q, 0, none⟩) (A := A) (C := C) (A' := fun k => addrOf (V k)) (C' := fun k => capOf (V k)) (ah := ah) (O := O) (P := P) (Pk := bD ah O P Pk i) (bI := bE) (kb := kb) (w := wd.drew) (I := bC ah O P (nth O i)) (v := i) co cp cn n n HRP.out (HOL.out.trans hnz) (kD.out.trans hnz) (by rw [wU, jO.out, hnz]) (by omega) FD.out (kR.out i (by omega)) (by omega) HRR.out (fun W ho => by
                 have h5 := kN.out.trans ho
                 refine ⟨tZ.out.below (HOW.out W h5), rO.out.below (HOW.out W h5), qP.out.below (HOW.out W h5), by rw [← hnz]; exact HQB.out W h5, ?_⟩
                 rw [← hnz]
                 refine World.rowIs.congr (fV ME.out (Dy.out.trans ho) (fun e => by have := NE.out; omega)) fun j hj => ?_
                 unfold bH
                 rw [AA.out, ← AL.out, ← HE2.out, HX0.out, aaO (.inl rfl) (by omega)]) (by rw [← hnz]; exact uz.out)
                rw [HOL.out, kD.out, ← hnz] at h
                exact h
               have wM : Hid (∀ (W : World) (q' : Int), W.rowIs kb 2 n (dD fun j => if j = i then q' else nth (bD ah O P Pk i) j) → (W.setCell ⟨kb, i, none⟩ (.int .i64 rr)).rowIs kb 2 n (dD (nth (bD ah O P Pk (i + 1))))) := fun W q' h => World.rowIs.congr (C9 h) fun j _ => by
                unfold dD
                rw [AO.out, nP (by rw [wU, jO.out]; exact hlt)]
                by_cases e : j = i <;> simp [e]
               have h0 := bM.out _ kN.out
               rw [← hwd]
               clear hwd hbd p1 o1 x1 y4
               go_region_held3 (fun W => W.cell? ⟨w4.heap.size, 0, none⟩ = some (.slice (some ⟨ob, oo, none⟩) n co) ∧ W.cell? ⟨w4.heap.size, 1, none⟩ = some (.slice ap n cp) ∧ W.cell? ⟨w4.heap.size, 2, none⟩ = some (.slice an n cn) ∧ W.cell? ⟨w4.heap.size, 3, none⟩ = some (.slice (some ⟨q, 0, none⟩) n n) ∧ W.cell? ⟨w4.heap.size, 4, none⟩ = some (.slice (some ⟨kb, 0, none⟩) n n))
                (first
                 | exact bM.out _ kN.out
                 | exact bM.out _ Ju.out
                 | exact bM.out _ qQ.out
                 | go_keep)
                (first
                 | (go_at_call 55; refine Uy.out.mono ?_; rintro e wp ⟨rfl, ⟨q', hq⟩, ho⟩; have Ju := Lib.hid (kN.out.trans ho); have qQ : Hid (Only (fun b => b = kb) w5 (wp.setCell ⟨kb, i, none⟩ (.int .i64 rr))) := Ju.out.setCell (p := ⟨kb, i, none⟩) rfl _; have Dx : Hid (Only (fun b => b = kb) wb (wp.setCell ⟨kb, i, none⟩ (.int .i64 rr))) := (Dy.out.trans ho).setCell (p := ⟨kb, i, none⟩) rfl _; have Dw := Lib.hid (wM.out _ _ hq); have kc := hq.cell hlt; have kf := hq.frozen i; clear hq ho))
               go_wp2
               go_roundw
               case rel => exact ⟨i + 1, by omega, by go_num, Dw, Dx⟩
               case measure => simp [intOf]; omega
             · have hx1 : (x == 1) = true := by rw [hx0]; rfl
               have HX0 := Lib.hid hx0
               have HE2 := Lib.hid e2
               clear e2 hx0
               have AO : Hid (bD ah O P Pk (i + 1) = (bD ah O P Pk i).set i (gu (fun u => fC ah O P ((bD ah O P Pk i).set i u) (bC ah O P (nth O i)) (nth O i)) (bC ah O P (nth O i)) (row ah i))) := NK (by
                rw [← Ux.out, ← AA.out, ← Gs.out, ← AL.out, ← AB.out]; exact fun h => h.elim (fun h => hp0 h) (fun h => h HE2.out))
               obtain ⟨rr, hrr⟩ : ∃ rr, gu (fun u => fC ah O P ((bD ah O P Pk i).set i u) (bC ah O P (nth O i)) (nth O i)) (bC ah O P (nth O i)) (row ah i) = rr := ⟨_, rfl⟩
               rw [hrr] at AO
               have HRR := Lib.hid hrr
               clear hrr
               go_wp2
               go_quiet (fail)
               go_wp2
               obtain ⟨wd, hwd⟩ : ∃ y, y = wr.drewN nq := ⟨_, rfl⟩
               have hbd : Below wr.heap.size wr wd := by rw [hwd]; exact below_drewN (Below.refl _ _) _
               have Dy : Hid (Only (fun b => b = kb) wb wd.drew) := Jt.out.trans (Only.of_below (hbd.trans ((Below.refl _ _).drew.mono hbd.size)))
               have kN : Hid (Only (fun b => b = kb) w5 wd.drew) := Ut.out.trans Dy.out
               have uz : Hid (wd.drew.rowIs kb 2 n (dD (nth (bD ah O P Pk i)))) := bY (bY oh.out hbd) (Below.refl _ _).drew
               have bM : Hid (∀ W, Only (fun b => b = kb) w5 W → W.cell? ⟨w4.heap.size, 0, none⟩ = some (.slice (some ⟨ob, oo, none⟩) n co) ∧ W.cell? ⟨w4.heap.size, 1, none⟩ = some (.slice ap n cp) ∧ W.cell? ⟨w4.heap.size, 2, none⟩ = some (.slice an n cn) ∧ W.cell? ⟨w4.heap.size, 3, none⟩ = some (.slice (some ⟨q, 0, none⟩) n n) ∧ W.cell? ⟨w4.heap.size, 4, none⟩ = some (.slice (some ⟨kb, 0, none⟩) n n)) := fun W ho => ⟨(HXB.out W ho).c0, (HXB.out W ho).c1, (HXB.out W ho).c2, (HXB.out W ho).c3, (HXB.out W ho).c4⟩
               have Uy : Hid (Calls Tryd.prog 55 #[.agg #[.slice (some ⟨ob, oo, none⟩) n co, .slice ap n cp, .slice an n cn, .slice (some ⟨q, 0, none⟩) n n, .slice (some ⟨kb, 0, none⟩) n n], .slice (some ⟨bO, 0, none⟩) n n, .int .i64 i] wd.drew fun e w' => e = .returned (.int .i64 rr) ∧ (∃ q, w'.rowIs kb 2 n (dD fun j => if j = i then q else nth (bD ah O P Pk i) j)) ∧ Only (fun b => b = kb) wd.drew w') := by
                have hnz := Gq.out
                have h := aar (ao := some ⟨ob, oo, none⟩) (ap := ap) (an := an) (aq := some ⟨q, 0, none⟩) (A := A) (C := C) (A' := fun k => addrOf (V k)) (C' := fun k => capOf (V k)) (ah := ah) (O := O) (P := P) (Pk := bD ah O P Pk i) (bI := bO) (kb := kb) (w := wd.drew) (I := bC ah O P (nth O i)) (v := i) co cp cn n n HRP.out (HOL.out.trans hnz) (kD.out.trans hnz) (by rw [wU, jO.out, hnz]) (by omega) FD.out (kR.out i (by omega)) (by omega) HRR.out (fun W ho => by
                 have h5 := kN.out.trans ho
                 refine ⟨tZ.out.below (HOW.out W h5), rO.out.below (HOW.out W h5), qP.out.below (HOW.out W h5), by rw [← hnz]; exact HQB.out W h5, ?_⟩
                 rw [← hnz]
                 refine World.rowIs.congr (fV MO.out (Dy.out.trans ho) (fun e => by have := NO.out; omega)) fun j hj => ?_
                 unfold bH
                 rw [AA.out, ← AL.out, ← HE2.out, HX0.out, aaO (.inr rfl) (by omega)]) (by rw [← hnz]; exact uz.out)
                rw [HOL.out, kD.out, ← hnz] at h
                exact h
               have wM : Hid (∀ (W : World) (q' : Int), W.rowIs kb 2 n (dD fun j => if j = i then q' else nth (bD ah O P Pk i) j) → (W.setCell ⟨kb, i, none⟩ (.int .i64 rr)).rowIs kb 2 n (dD (nth (bD ah O P Pk (i + 1))))) := fun W q' h => World.rowIs.congr (C9 h) fun j _ => by
                unfold dD
                rw [AO.out, nP (by rw [wU, jO.out]; exact hlt)]
                by_cases e : j = i <;> simp [e]
               have h0 := bM.out _ kN.out
               rw [← hwd]
               clear hwd hbd p1 o1 x1 y4
               go_region_held3 (fun W => W.cell? ⟨w4.heap.size, 0, none⟩ = some (.slice (some ⟨ob, oo, none⟩) n co) ∧ W.cell? ⟨w4.heap.size, 1, none⟩ = some (.slice ap n cp) ∧ W.cell? ⟨w4.heap.size, 2, none⟩ = some (.slice an n cn) ∧ W.cell? ⟨w4.heap.size, 3, none⟩ = some (.slice (some ⟨q, 0, none⟩) n n) ∧ W.cell? ⟨w4.heap.size, 4, none⟩ = some (.slice (some ⟨kb, 0, none⟩) n n))
                (first
                 | exact bM.out _ kN.out
                 | exact bM.out _ Ju.out
                 | exact bM.out _ qQ.out
                 | go_keep)
                (first
                 | (go_at_call 55; refine Uy.out.mono ?_; rintro e wp ⟨rfl, ⟨q', hq⟩, ho⟩; have Ju := Lib.hid (kN.out.trans ho); have qQ : Hid (Only (fun b => b = kb) w5 (wp.setCell ⟨kb, i, none⟩ (.int .i64 rr))) := Ju.out.setCell (p := ⟨kb, i, none⟩) rfl _; have Dx : Hid (Only (fun b => b = kb) wb (wp.setCell ⟨kb, i, none⟩ (.int .i64 rr))) := (Dy.out.trans ho).setCell (p := ⟨kb, i, none⟩) rfl _; have Dw := Lib.hid (wM.out _ _ hq); have kc := hq.cell hlt; have kf := hq.frozen i; clear hq ho))
               go_wp2
               go_roundw
               case rel => exact ⟨i + 1, by omega, by go_num, Dw, Dx⟩
               case measure => simp [intOf]; omega
           · have he2 : (x != o) = true := by simpa using e2
             have Gt : Hid (∀ W : World, W.rowIs kb 2 n (dD (nth (bD ah O P Pk i))) → W.rowIs kb 2 n (dD (nth (bD ah O P Pk (i + 1))))) := fun W h => by
              rw [Gp (.inr (by rw [← AA.out, ← Gs.out, ← AL.out]; exact e2))]; exact h
             clear e2
             go_wp2
             go_quiet (fail)
             go_wp2
             have hbd : Below wr.heap.size wr (wr.drewN nq) := below_drewN (Below.refl _ _) _
             have Dw := Lib.hid (Gt.out _ (bY oh.out hbd))
             have Dx : Hid (Only (fun b => b = kb) wb (wr.drewN nq)) := Jt.out.trans (Only.of_below hbd)
             clear hbd
             go_roundw
             case rel => exact ⟨i + 1, by omega, by go_num, Dw, Dx⟩
             case measure => simp [intOf]; omega
       · have hi1 : ¬ (i : Int) < n := by omega
         have hii : i = n := by omega
         rw [hii] at oh
         have Rw := Lib.hid (HRB.out wr Gv.out)
         have y4 := Xw.out.c4
         have r0 := Rw.out.cell0
         have r1 := Rw.out.cell1
         have f0 := Rw.out.frozen 0
         have f1 := Rw.out.frozen 1
         have hdone := fun A B => agM (A := A) (B := B) (w := w) (wr := wr) (xa := xa) (xc := xc) (n := n) (kb := kb) (s3 := w3.heap.size) (won := won) (Y := bD ah O P Pk n) (by have h := NM.out wr Gv.out; rw [NP] at h; exact h) (fun g hg => by
          have h1 := (X3.out.own.lt g (by rw [NP]; exact hg)).1
          have h2 := X3.out.top g (by rw [NP]; exact hg)
          have := cO.out
          have := K2.out.size
          omega) oh.out (by rw [wU]; exact jO.out) x9 (fun j hj => kR.out n (Nat.le_refl _) j (by have := Gq.out; omega)) HKB.out (by have := cO.out; have := K3.out.size; omega) Bw.out
         have Dz := Lib.hid hdone
         have fH : Hid (X = won ∧ Y = bD ah O P Pk n ∧ r = true) := by have h := HE.out; rw [← AA.out, ← Gq.out] at h; exact h
         clear hdone hii
         go_wp2
         exact bodyPost_ret (v := .tuple #[.agg #[.slice xa n xc, .slice (some ⟨kb, 0, none⟩) n n], .bool true]) (by simp [results, Tryd.results14, go_sem, r0, r1]) rfl
          (by rw [fH.out.1, fH.out.2.1, fH.out.2.2]; exact Dz.out _ _)
end
section
open Go.RowKit
noncomputable def rU (O : List Int) (ah : List (List Int)) (P : List Int) : List Int := if fZ O ah P = true then dJ ah O P else []
noncomputable def rV (O : List Int) (ah : List (List Int)) (P : List Int) : List Int := if fZ O ah P = true then NG ah O P else []
def NQ (w : World) (X Y : List Int) (e : Ending) (w' : World) : Prop :=
 ∃ vx vy, e = .returned (.agg #[vx, vy]) ∧ aF w' w.heap.size w'.heap.size vx X ∧ aF w' w.heap.size w'.heap.size vy Y ∧ (∀ g, vx.ownBlock = some g → vy.ownBlock ≠ some g) ∧ Below w.heap.size w w'
theorem agR {ah : List (List Int)} : rowsOf ah.length (dG ah (List.replicate ah.length (-1))) = ah := by
 refine List.ext_getElem (by rw [oV]) fun v h1 h2 => ?_
 have e1 : (rowsOf ah.length (dG ah (List.replicate ah.length (-1))))[v] = row (rowsOf ah.length (dG ah (List.replicate ah.length (-1)))) v := by simp [row, h1]
 have e2 : ah[v] = row ah v := by simp [row, h2]
 rw [e1, e2, vY h2]
 unfold dG
 rw [Dl h2, if_neg (by decide)]
theorem aaS {O P : List Int} {ah : List (List Int)} (h : fZ O ah P = true) : jb O ah P (List.replicate ah.length (-1)) = true ∧ Aw O P (List.replicate ah.length (-1)) ah := by
 refine ⟨?_, fun v hv hne => absurd (Dl hv) hne⟩
 unfold jb fO
 rw [h, tV.2 ⟨by simp, fun v hv => .inl (Dl (by simpa using hv))⟩, agR]
 simp
theorem aaT {w : World} {g : Nat} {t : TypeId} {a b x y : Value} (h : aI w g t a b) : aI ((w.setCell ⟨g, 0, none⟩ x).setCell ⟨g, 1, none⟩ y) g t x y := (h.set0 x).set1 y
theorem NR {w wn : World} {vx vy A B : Value} {X Y : List Int} (h1 : aF wn w.heap.size wn.heap.size vx X) (h2 : aF wn w.heap.size wn.heap.size vy Y) (hap : ∀ g, vx.ownBlock = some g → vy.ownBlock ≠ some g) (hb : Below w.heap.size w wn) (hR : aI wn (w.heap.size + 1) 30 A B) :
 NQ w X Y (.returned (.agg #[vx, vy])) ((wn.setCell ⟨w.heap.size + 1, 0, none⟩ vx).setCell ⟨w.heap.size + 1, 1, none⟩ vy) := by
 have hS : Only (fun b => b = w.heap.size + 1) wn ((wn.setCell ⟨w.heap.size + 1, 0, none⟩ vx).setCell ⟨w.heap.size + 1, 1, none⟩ vy) := ((Only.refl (fun b => b = w.heap.size + 1) wn).setCell (p := ⟨w.heap.size + 1, 0, none⟩) rfl _).setCell (p := ⟨w.heap.size + 1, 1, none⟩) rfl _
 exact ⟨_, _, rfl, (h1.only hS fun g hg e => hR.dL h1.own (by decide) (by rw [hg, e])).bg, (h2.only hS fun g hg e => hR.dL h2.own (by decide) (by rw [hg, e])).bg, hap, (hb.setCell (p := ⟨w.heap.size + 1, 0, none⟩) (by simp) _).setCell (p := ⟨w.heap.size + 1, 1, none⟩) (by simp) _⟩
set_option maxHeartbeats 16000000 in
set_option maxRecDepth 100000 in
theorem agS {w : World} {v : Value} {O P X Y : List Int} {ah : List (List Int)} (hr : rU O ah P = X ∧ rV O ah P = Y) (h : gX w v O ah P) :
 Calls Tryd.prog 25 #[v] w (NQ w X Y) := by
 have fP := Lib.hid h
 obtain ⟨ao, an, ap, co, cn, cp, A, C, rfl, h1, h2, h3⟩ := h
 obtain ⟨w1, hw1⟩ : ∃ y, y = (w.alloc (.cells #[.slice ao O.length co, .slice an ah.length cn, .slice ap P.length cp] 35)).alloc (.cells #[.slice none 0 0, .slice none 0 0] 30) := ⟨_, rfl⟩
 have HW1 := Lib.hid hw1
 have B1 : Hid (Below w.heap.size w w1) := by rw [hw1]; exact below2 _ _ _
 have hs1 : w1.heap.size = w.heap.size + 1 + 1 := by rw [hw1]; simp
 have cO := Lib.hid hs1
 have T1 : Hid (aT w1 w.heap.size 35 (.slice ao O.length co) (.slice an ah.length cn) (.slice ap P.length cp)) := by rw [hw1]; exact (aT.new w _ _ _ _).below (aA _ _)
 have R1 : Hid (aI w1 (w.heap.size + 1) 30 (.slice none 0 0) (.slice none 0 0)) := by
  rw [hw1]
  have h := aI.new (w.alloc (.cells #[.slice ao O.length co, .slice an ah.length cn, .slice ap P.length cp] 35)) 30 (.slice none 0 0) (.slice none 0 0)
  rw [World.size_alloc] at h
  exact h
 clear hw1 h1 h2 h3 hs1
 have c0 := T1.out.c0
 have c1 := T1.out.c1
 have c2 := T1.out.c2
 cases hp : fZ O ah P with
 | false =>
   have HE : Hid (X = [] ∧ Y = []) := by obtain ⟨rfl, rfl⟩ := hr; unfold rU rV; rw [hp]; exact ⟨rfl, rfl⟩
   have HC := Lib.hid (MN hp (fP.out.below B1.out))
   clear hr hp
   go_enter Tryd.func25, Tryd.ntmps25
   go_wp2_with fail
   rw [← HW1.out]
   refine HC.out.mono ?_
   rintro e w2 ⟨rfl, hb⟩
   have B2 := Lib.hid (B1.out.trans (hb.mono B1.out.size))
   have R2 := Lib.hid (R1.out.below hb)
   have d0 := R2.out.cell0
   have d1 := R2.out.cell1
   have g0 := R2.out.frozen 0
   have g1 := R2.out.frozen 1
   clear hb HC
   go_wp2
   exact bodyPost_ret (v := .agg #[.slice none 0 0, .slice none 0 0]) (by simp [results, Tryd.results25, go_sem, d0, d1]) rfl
    (by rw [HE.out.1, HE.out.2]; exact NR (aF.nil _ _ _) (aF.nil _ _ _) (fun g hg => by simp [Value.ownBlock] at hg) B2.out R2.out)
 | true =>
   have HE : Hid (X = dJ ah O P ∧ Y = NG ah O P) := by obtain ⟨rfl, rfl⟩ := hr; unfold rU rV; rw [hp]; exact ⟨rfl, rfl⟩
   have HC := Lib.hid (MN hp (fP.out.below B1.out))
   obtain ⟨hA, Aa, Ac⟩ := iY.1 hp
   have hPl : P.length = ah.length := by have := hA.2.2.1; omega
   have akk : P.length ≤ 256 := by have := hA.2.1; omega
   have Uz : Hid (∀ W : World, Calls Tryd.prog 69 #[.int .i64 P.length] W (sS W (List.replicate P.length (-1)))) := fun W => afO P.length (by omega)
   have UA : Hid (∀ (W : World) (aK : Option Addr) (cK : Nat), Below w1.heap.size w1 W → aV W aK (List.replicate P.length (-1)) → Calls Tryd.prog 14 #[.agg #[.slice ao O.length co, .slice an ah.length cn, .slice ap P.length cp], .slice aK (List.replicate P.length (-1 : Int)).length cK] W (Dv W X Y true)) := fun W aK cK hb hK => by
    have hg := aaS hp
    rw [← hPl] at hg
    refine aaP cK ?_ (fP.out.below (B1.out.trans (hb.mono B1.out.size))) hK
    have hy := NJ (O := O) (P := P) (ah := ah) (Pk := List.replicate P.length (-1)) ⟨rfl, rfl, rfl⟩ hg
    refine ⟨by rw [hy.1, HE.out.1], by rw [hy.2.1, HE.out.2, hPl]; rfl, hy.2.2⟩
   have HLR : Hid ((List.replicate P.length (-1 : Int)).length = P.length) := by simp [Hid]
   obtain ⟨N1, hN1⟩ : ∃ l, l = List.replicate P.length (-1 : Int) := ⟨_, rfl⟩
   rw [← hN1] at Uz UA HLR
   clear hr hp hA Aa Ac hPl hN1
   go_enter Tryd.func25, Tryd.ntmps25
   go_wp2_with fail
   rw [← HW1.out]
   refine HC.out.mono ?_
   rintro e w3 ⟨rfl, hb⟩
   have K3 := Lib.hid hb
   have B3 := Lib.hid (B1.out.trans (K3.out.mono B1.out.size))
   have T3 := Lib.hid (T1.out.below K3.out)
   have R3 := Lib.hid (R1.out.below K3.out)
   have hs3 : w1.heap.size ≤ w3.heap.size := K3.out.size
   have wI := Lib.hid hs3
   clear hb HC c0 c1 c2
   have bM : Hid (∀ W, Below w3.heap.size w3 W → W.cell? ⟨w.heap.size, 0, none⟩ = some (.slice ao O.length co) ∧ W.cell? ⟨w.heap.size, 1, none⟩ = some (.slice an ah.length cn) ∧ W.cell? ⟨w.heap.size, 2, none⟩ = some (.slice ap P.length cp)) := fun W hb => ⟨(T3.out.below hb).c0, (T3.out.below hb).c1, (T3.out.below hb).c2⟩
   have kD : Hid (∀ (W : World) (aK : Option Addr) (cK : Nat), Below w3.heap.size w3 W → aV W aK N1 → Calls Tryd.prog 14 #[.agg #[.slice ao O.length co, .slice an ah.length cn, .slice ap P.length cp], .slice aK N1.length cK] W (Dv W X Y true)) := fun W aK cK hb => UA.out W aK cK (K3.out.trans (hb.mono K3.out.size))
   have Kd : Hid (Below w3.heap.size w3 w3.drew) := (Below.refl _ _).drew
   have Ka : Hid (Below w3.heap.size w3 (w3.alloc (.cells #[.slice none 0 0, .slice none 0 0] 30)).drew) := (aA _ _).drew
   have Ba : Hid (aI (w3.alloc (.cells #[.slice none 0 0, .slice none 0 0] 30)).drew w3.heap.size 30 (.slice none 0 0) (.slice none 0 0)) := aI.below (aI.new w3 _ _ _) (Below.refl _ _).drew
   have h0 := bM.out _ Kd.out
   clear UA
   go_wp2
   go_region_held3 (fun W => W.cell? ⟨w.heap.size, 0, none⟩ = some (.slice ao O.length co) ∧ W.cell? ⟨w.heap.size, 1, none⟩ = some (.slice an ah.length cn) ∧ W.cell? ⟨w.heap.size, 2, none⟩ = some (.slice ap P.length cp))
    (first
     | exact bM.out _ Kd.out
     | exact bM.out _ Km.out
     | exact bM.out _ Kl.out
     | exact bM.out _ Ka.out
     | exact bM.out _ (Km.out.alloc Km.out.size _)
     | exact bM.out _ (Km.out.alloc Km.out.size _).drew
     | exact bM.out _ (Kl.out.alloc Kl.out.size _)
     | exact bM.out _ (Kl.out.alloc Kl.out.size _).drew
     | exact bM.out _ ((Km.out.setCell (p := ⟨w3.heap.size, 0, none⟩) (Nat.le_refl _) _).setCell (p := ⟨w3.heap.size, 1, none⟩) (Nat.le_refl _) _)
     | exact bM.out _ ((Km.out.setCell (p := ⟨wl.heap.size, 0, none⟩) Kl.out.size _).setCell (p := ⟨wl.heap.size, 1, none⟩) Kl.out.size _)
     | exact bM.out _ (((Km.out.alloc Km.out.size _).drew.setCell (p := ⟨wm.heap.size, 0, none⟩) Km.out.size _).setCell (p := ⟨wm.heap.size, 1, none⟩) Km.out.size _)
     | exact bM.out _ (((Km.out.alloc Km.out.size _).setCell (p := ⟨wm.heap.size, 0, none⟩) Km.out.size _).setCell (p := ⟨wm.heap.size, 1, none⟩) Km.out.size _)
     | go_keep)
    (first
     | (go_at_call 14; refine (kD.out _ _ lc wO.out (Ll.out.below (aA wl _))).mono ?_; rintro e wm ⟨vx, vy, rfl, hx, hy, hap, hb⟩; obtain ⟨xa, xc, hus, _, _⟩ := hx.shape; subst hus; obtain ⟨ya, yc, hus, _, _⟩ := hy.shape; subst hus; have Km := Lib.hid (wO.out.trans (hb.mono wO.out.size)); have Xm := Lib.hid (hx.base (B' := w3.heap.size) wO.out.size); have Ym := Lib.hid (hy.base (B' := w3.heap.size) wO.out.size); have oZ := Lib.hid hap; have Bm := Lib.hid (Bal.out.below hb); have b0 := Bm.out.cell0; have b1 := Bm.out.cell1; have b2 := Bm.out.frozen 0; have b3 := Bm.out.frozen 1; clear hx hy hap hb)
     | (go_at_call 14; refine (kD.out _ _ lc Kl.out Ll.out).mono ?_; rintro e wm ⟨vx, vy, rfl, hx, hy, hap, hb⟩; obtain ⟨xa, xc, hus, _, _⟩ := hx.shape; subst hus; obtain ⟨ya, yc, hus, _, _⟩ := hy.shape; subst hus; have Km := Lib.hid (Kl.out.trans (hb.mono Kl.out.size)); have Xm := Lib.hid (hx.base (B' := w3.heap.size) Kl.out.size); have Ym := Lib.hid (hy.base (B' := w3.heap.size) Kl.out.size); have oZ := Lib.hid hap; have Bm := Lib.hid (Bl.out.below hb); have b0 := Bm.out.cell0; have b1 := Bm.out.cell1; have b2 := Bm.out.frozen 0; have b3 := Bm.out.frozen 1; clear hx hy hap hb)
     | (go_at_call 14; refine (kD.out _ _ lc Kl.out Ll.out).mono ?_; rintro e wm ⟨vx, vy, rfl, hx, hy, hap, hb⟩; obtain ⟨xa, xc, hus, _, _⟩ := hx.shape; subst hus; obtain ⟨ya, yc, hus, _, _⟩ := hy.shape; subst hus; have Km := Lib.hid (Kl.out.trans (hb.mono Kl.out.size)); have Xm := Lib.hid (hx.base (B' := w3.heap.size) Kl.out.size); have Ym := Lib.hid (hy.base (B' := w3.heap.size) Kl.out.size); have oZ := Lib.hid hap; have bx : aI (wm.alloc (.cells #[.slice none 0 0, .slice none 0 0] 30)).drew wm.heap.size 30 (.slice none 0 0) (.slice none 0 0) := aI.below (aI.new wm _ _ _) (Below.refl _ _).drew; have b0 := bx.cell0; have b1 := bx.cell1; have b2 := bx.frozen 0; have b3 := bx.frozen 1; clear bx hx hy hap hb)
     | (go_at_call 69; refine (Uz.out w3.drew).mono ?_; rintro e wl ⟨x, rfl, hx, hb⟩; obtain ⟨la, lc, hus, Jv, _⟩ := hx.shape; subst hus; have Kl := Lib.hid (Kd.out.trans (hb.mono Kd.out.size)); have Ll := Lib.hid Jv; have wO : Hid (Below w3.heap.size w3 (wl.alloc (.cells #[.slice none 0 0, .slice none 0 0] 30))) := Kl.out.alloc Kl.out.size _; have Bal : Hid (aI (wl.alloc (.cells #[.slice none 0 0, .slice none 0 0] 30)) wl.heap.size 30 (.slice none 0 0) (.slice none 0 0)) := aI.new wl _ _ _; clear hx Jv hb)
     | (go_at_call 69; refine (Uz.out (w3.alloc (.cells #[.slice none 0 0, .slice none 0 0] 30)).drew).mono ?_; rintro e wl ⟨x, rfl, hx, hb⟩; obtain ⟨la, lc, hus, Jv, _⟩ := hx.shape; subst hus; have Kl := Lib.hid (Ka.out.trans (hb.mono Ka.out.size)); have Ll := Lib.hid Jv; have Bl := Lib.hid (Ba.out.below hb); clear hx Jv hb))
   · obtain ⟨wn, hwn⟩ : ∃ y, y = wm.alloc (.cells #[.slice xa X.length xc, .slice ya Y.length yc] 30) := ⟨_, rfl⟩
     have iK := Lib.hid hwn
     have ho : Only (fun b => b = wm.heap.size) wm wn := by rw [hwn]; exact Only.of_below (aA _ _)
     have Kn := Lib.hid (Km.out.trans (ho.below (B := w3.heap.size) Km.out.size (fun b hb => by have := Km.out.size; omega)))
     have Bn := Lib.hid (B3.out.trans (Kn.out.mono B3.out.size))
     have Rn := Lib.hid (R3.out.below Kn.out)
     have hw3 : w.heap.size ≤ w3.heap.size := B3.out.size
     have Xn := Lib.hid ((Xm.out.only ho (fun g hg e => by have := Xm.out.top g hg; omega)).bg.base (B' := w.heap.size) hw3)
     have Yn := Lib.hid ((Ym.out.only ho (fun g hg e => by have := Ym.out.top g hg; omega)).bg.base (B' := w.heap.size) hw3)
     have Tn : Hid (aI wn wm.heap.size 30 (.slice xa X.length xc) (.slice ya Y.length yc)) := by rw [hwn]; exact aI.new _ _ _ _
     have t0 := Tn.out.cell0
     have t1 := Tn.out.cell1
     have r0 := Rn.out.cell0
     have r1 := Rn.out.cell1
     have f0 := Rn.out.frozen 0
     have f1 := Rn.out.frozen 1
     have hdn := NR Xn.out Yn.out oZ.out Bn.out Rn.out
     have Dz := Lib.hid hdn
     clear hdn ho hwn b0 b1 b2 b3
     rw [← iK.out]
     go_wp2
     try rw [← iK.out]
     exact bodyPost_ret (v := .agg #[.slice xa X.length xc, .slice ya Y.length yc]) (by simp [results, Tryd.results25, go_sem, r0, r1]) rfl Dz.out
   · obtain ⟨wn, hwn⟩ : ∃ y, y = (wm.setCell ⟨wl.heap.size, 0, none⟩ (.slice xa X.length xc)).setCell ⟨wl.heap.size, 1, none⟩ (.slice ya Y.length yc) := ⟨_, rfl⟩
     have iK := Lib.hid hwn
     have ho : Only (fun b => b = wl.heap.size) wm wn := by rw [hwn]; exact ((Only.refl (fun b => b = wl.heap.size) wm).setCell (p := ⟨wl.heap.size, 0, none⟩) rfl _).setCell (p := ⟨wl.heap.size, 1, none⟩) rfl _
     have Kn := Lib.hid (Km.out.trans (ho.below (B := w3.heap.size) Km.out.size (fun b hb => by have := Kl.out.size; omega)))
     have Bn := Lib.hid (B3.out.trans (Kn.out.mono B3.out.size))
     have Rn := Lib.hid (R3.out.below Kn.out)
     have hw3 : w.heap.size ≤ w3.heap.size := B3.out.size
     have Xn := Lib.hid ((Xm.out.only ho (fun g hg e => Bm.out.dL Xm.out.own (by decide) (by rw [hg, e]))).bg.base (B' := w.heap.size) hw3)
     have Yn := Lib.hid ((Ym.out.only ho (fun g hg e => Bm.out.dL Ym.out.own (by decide) (by rw [hg, e]))).bg.base (B' := w.heap.size) hw3)
     have Tn : Hid (aI wn wl.heap.size 30 (.slice xa X.length xc) (.slice ya Y.length yc)) := by rw [hwn]; exact aaT Bm.out
     have t0 := Tn.out.cell0
     have t1 := Tn.out.cell1
     have r0 := Rn.out.cell0
     have r1 := Rn.out.cell1
     have f0 := Rn.out.frozen 0
     have f1 := Rn.out.frozen 1
     have hdn := NR Xn.out Yn.out oZ.out Bn.out Rn.out
     have Dz := Lib.hid hdn
     clear hdn ho hwn b0 b1 b2 b3
     rw [← iK.out]
     go_wp2
     try rw [← iK.out]
     exact bodyPost_ret (v := .agg #[.slice xa X.length xc, .slice ya Y.length yc]) (by simp [results, Tryd.results25, go_sem, r0, r1]) rfl Dz.out
   · obtain ⟨wn, hwn⟩ : ∃ y, y = (wm.setCell ⟨w3.heap.size, 0, none⟩ (.slice xa X.length xc)).setCell ⟨w3.heap.size, 1, none⟩ (.slice ya Y.length yc) := ⟨_, rfl⟩
     have iK := Lib.hid hwn
     have ho : Only (fun b => b = w3.heap.size) wm wn := by rw [hwn]; exact ((Only.refl (fun b => b = w3.heap.size) wm).setCell (p := ⟨w3.heap.size, 0, none⟩) rfl _).setCell (p := ⟨w3.heap.size, 1, none⟩) rfl _
     have Kn := Lib.hid (Km.out.trans (ho.below (B := w3.heap.size) Km.out.size (fun b hb => by omega)))
     have Bn := Lib.hid (B3.out.trans (Kn.out.mono B3.out.size))
     have Rn := Lib.hid (R3.out.below Kn.out)
     have hw3 : w.heap.size ≤ w3.heap.size := B3.out.size
     have Xn := Lib.hid ((Xm.out.only ho (fun g hg e => Bm.out.dL Xm.out.own (by decide) (by rw [hg, e]))).bg.base (B' := w.heap.size) hw3)
     have Yn := Lib.hid ((Ym.out.only ho (fun g hg e => Bm.out.dL Ym.out.own (by decide) (by rw [hg, e]))).bg.base (B' := w.heap.size) hw3)
     have Tn : Hid (aI wn w3.heap.size 30 (.slice xa X.length xc) (.slice ya Y.length yc)) := by rw [hwn]; exact aaT Bm.out
     have t0 := Tn.out.cell0
     have t1 := Tn.out.cell1
     have r0 := Rn.out.cell0
     have r1 := Rn.out.cell1
     have f0 := Rn.out.frozen 0
     have f1 := Rn.out.frozen 1
     have hdn := NR Xn.out Yn.out oZ.out Bn.out Rn.out
     have Dz := Lib.hid hdn
     clear hdn ho hwn b0 b1 b2 b3
     rw [← iK.out]
     go_wp2
     try rw [← iK.out]
     exact bodyPost_ret (v := .agg #[.slice xa X.length xc, .slice ya Y.length yc]) (by simp [results, Tryd.results25, go_sem, r0, r1]) rfl Dz.out
end
end Go.Proofs.YtglbkbiphcgidaaDoor
