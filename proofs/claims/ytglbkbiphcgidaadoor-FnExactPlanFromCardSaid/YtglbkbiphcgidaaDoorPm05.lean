import Derived.Test.YtglbkbiphcgidaaDoorPm04
namespace Go.Proofs.YtglbkbiphcgidaaDoor
section
open Go.RowKit
def dG (ah : List (List Int)) (Pk : List Int) (v : Nat) : List Int := if 0 ≤ nth Pk v then [nth Pk v] else row ah v
noncomputable def fO (O : List Int) (ah : List (List Int)) (P Pk : List Int) : Bool := fZ O ah P && Dn ah Pk
noncomputable def Af (O : List Int) (ah : List (List Int)) (P Pk : List Int) : List Int := if fO O ah P Pk = true then O else []
noncomputable def Ag (O : List Int) (ah : List (List Int)) (P Pk : List Int) : List (List Int) := if fO O ah P Pk = true then rowsOf ah.length (dG ah Pk) else []
noncomputable def Ah (O : List Int) (ah : List (List Int)) (P Pk : List Int) : List Int := if fO O ah P Pk = true then P else []
theorem Jl {O oO P oP Pk : List Int} {ah oN : List (List Int)} {r : Bool} (hr : Af O ah P Pk = oO ∧ Ag O ah P Pk = oN ∧ Ah O ah P Pk = oP ∧ fO O ah P Pk = r) (h : fO O ah P Pk = false) : oO = [] ∧ oN = [] ∧ oP = [] ∧ r = false := by
 obtain ⟨rfl, rfl, rfl, rfl⟩ := hr
 unfold Af Ag Ah
 rw [h]; simp
theorem Jm {O oO P oP Pk : List Int} {ah oN : List (List Int)} {r : Bool} (hr : Af O ah P Pk = oO ∧ Ag O ah P Pk = oN ∧ Ah O ah P Pk = oP ∧ fO O ah P Pk = r) (h : fO O ah P Pk = true) : oO = O ∧ oN = rowsOf ah.length (dG ah Pk) ∧ oP = P ∧ r = true := by
 obtain ⟨rfl, rfl, rfl, rfl⟩ := hr
 unfold Af Ag Ah
 rw [h]; simp
theorem Gh {ah : List (List Int)} {Pk : List Int} (k : Nat) : rowsOf (k + 1) (dG ah Pk) = rowsOf k (dG ah Pk) ++ [dG ah Pk k] := by
 unfold rowsOf
 rw [List.range_succ, List.map_append]
 rfl
theorem aas (w : World) (B D : Nat) (V : Nat → Value) : OwnRows w B D (.slice none 0 0) V [] :=
 ⟨World.ownsRow_nil _ _ _ _, fun g hg => by simp [Value.ownBlock] at hg, by simp, fun k hk => absurd hk (by simp), fun i j hi => absurd hi (by simp)⟩
theorem af6 {n : Nat} {wl wm : World} {vo vp : Value} {O P : List Int} {V : Nat → Value} (hO : aF wm n wm.heap.size vo O) (hP : aF wm n wm.heap.size vp P) (hap : ∀ g, vo.ownBlock = some g → vp.ownBlock ≠ some g) (hn : n ≤ wm.heap.size) (hwl : wl = wm.alloc (.cells #[vo, .slice none 0 0, vp] 35)) :
 iF n wl wm.heap.size vo (.slice none 0 0) vp V O [] P := by
 subst hwl
 exact ⟨hn, Zm _ _ _ _ _, (hO.below (aA _ _)).bg, aas _ _ _ _, (hP.below (aA _ _)).bg, fun i hi => absurd hi (by simp), fun i hi => absurd hi (by simp), hap⟩
theorem aat {n t : Nat} {wl wm : World} {vo vp a b c : Value} {O P : List Int} {V : Nat → Value} (hO : aF wm n wm.heap.size vo O) (hP : aF wm n wm.heap.size vp P) (hap : ∀ g, vo.ownBlock = some g → vp.ownBlock ≠ some g) (hT : aT wm t 35 a b c) (hn : n ≤ t) (hwl : wl = ((wm.setCell ⟨t, 0, none⟩ vo).setCell ⟨t, 1, none⟩ (.slice none 0 0)).setCell ⟨t, 2, none⟩ vp) :
 iF n wl t vo (.slice none 0 0) vp V O [] P ∧ Only (fun b => b = t) wm wl := by
 subst hwl
 have hS : Only (fun b => b = t) wm (((wm.setCell ⟨t, 0, none⟩ vo).setCell ⟨t, 1, none⟩ (.slice none 0 0)).setCell ⟨t, 2, none⟩ vp) :=
  (((Only.refl (fun b => b = t) wm).setCell (p := ⟨t, 0, none⟩) rfl _).setCell (p := ⟨t, 1, none⟩) rfl _).setCell (p := ⟨t, 2, none⟩) rfl _
 refine ⟨⟨hn, ?_, ((hO.only hS fun g hg e => CW hT hO.own (by decide) (by rw [hg, e]))).bg, aas _ _ _ _, ((hP.only hS fun g hg e => CW hT hP.own (by decide) (by rw [hg, e]))).bg, fun i hi => absurd hi (by simp), fun i hi => absurd hi (by simp), hap⟩, hS⟩
 exact World.rowIs.congr (((World.rowIs.set hT 0 vo).set 1 _).set 2 vp) fun i hi => by
  have h3 : i = 0 ∨ i = 1 ∨ i = 2 := by omega
  rcases h3 with rfl | rfl | rfl <;> simp [tri]
set_option maxHeartbeats 16000000 in
set_option maxRecDepth 100000 in
theorem af7 {w : World} {v : Value} {O oO P oP Pk : List Int} {ah oN : List (List Int)} {aK : Option Addr} {r : Bool} (cK : Nat) (hr : Af O ah P Pk = oO ∧ Ag O ah P Pk = oN ∧ Ah O ah P Pk = oP ∧ fO O ah P Pk = r) (h : gX w v O ah P) (hK : aV w aK Pk) :
 Calls Tryd.prog 97 #[v, .slice aK Pk.length cK] w (Zn w oO oN oP r) := by
 obtain ⟨i0, hi, hz0, hz1, hz2⟩ := info_parts Za
 have fP := Lib.hid h
 have iH := Lib.hid hK
 obtain ⟨ao, an, ap, co, cn, cp, A, C, rfl, h1, h2, h3⟩ := h
 obtain ⟨w1, hw1⟩ : ∃ y, y = (w.alloc (.cells #[.slice ao O.length co, .slice an ah.length cn, .slice ap P.length cp] 35)).alloc (.cells #[.slice none 0 0, .slice none 0 0, .slice none 0 0] 35) := ⟨_, rfl⟩
 have HW1 := Lib.hid hw1
 have B1 : Hid (Below w.heap.size w w1) := by rw [hw1]; exact below2 _ _ _
 have hs1 : w1.heap.size = w.heap.size + 1 + 1 := by rw [hw1]; simp
 have cO := Lib.hid hs1
 have T1 : Hid (aT w1 w.heap.size 35 (.slice ao O.length co) (.slice an ah.length cn) (.slice ap P.length cp)) := by rw [hw1]; exact (aT.new w _ _ _ _).below (aA _ _)
 have R1 : Hid (aT w1 (w.heap.size + 1) 35 (.slice none 0 0) (.slice none 0 0) (.slice none 0 0)) := by rw [hw1]; exact aT.new2 (by simp) _ _ _ _
 have tZ := Lib.hid h1
 have qP := Lib.hid h2
 have rO := Lib.hid h3
 clear hw1 h1 h2 h3 hs1 hK
 have c0 := T1.out.c0
 have c1 := T1.out.c1
 have c2 := T1.out.c2
 cases hp : fZ O ah P with
 | false =>
   have HE := Lib.hid (Jl hr (by unfold fO; rw [hp]; rfl))
   have HC := Lib.hid (MN hp (fP.out.below B1.out))
   clear hr hp
   go_enter Tryd.func97, Tryd.ntmps97
   go_wp2_with fail
   rw [← HW1.out]
   refine HC.out.mono ?_
   rintro e w2 ⟨rfl, hb⟩
   have B2 := Lib.hid (B1.out.trans (hb.mono B1.out.size))
   have R2 := Lib.hid (R1.out.below hb)
   have d0 := R2.out.c0
   have d1 := R2.out.c1
   have d2 := R2.out.c2
   have g0 := World.rowIs.frozen R2.out 0
   have g1 := World.rowIs.frozen R2.out 1
   have g2 := World.rowIs.frozen R2.out 2
   clear hb HC
   go_wp2
   exact bodyPost_ret (v := .tuple #[.agg #[.slice none 0 0, .slice none 0 0, .slice none 0 0], .bool false]) (by simp [results, Tryd.results97, go_sem, d0, d1, d2]) rfl
    ⟨_, by rw [HE.out.2.2.2], by rw [HE.out.1, HE.out.2.1, HE.out.2.2.1]; exact eG.zero _ _ _, I8 B2.out (by omega)⟩
 | true =>
   have hPy := iY.1 hp
   have sW : P.length = ah.length := by have := hPy.1.2.2.1; have := hPy.2.1; omega
   have ku : ah.length ≤ 256 := by have := hPy.1.2.1; have := hPy.1.2.2.1; omega
   have HLP := Lib.hid sW
   have oZ := Lib.hid hPy.1
   have HC := Lib.hid (MN hp (fP.out.below B1.out))
   clear hPy
   cases hk : Dn ah Pk with
   | false =>
     have HE := Lib.hid (Jl hr (by unfold fO; rw [hp, hk]; rfl))
     have HQ : Hid (∀ W, Below w1.heap.size w1 W → Calls Tryd.prog 124 #[.agg #[.slice ao O.length co, .slice an ah.length cn, .slice ap P.length cp], .slice aK Pk.length cK] W fun e w' => e = .returned (.bool false) ∧ Below W.heap.size W w') := fun W hb => aap cK hk (fP.out.below (B1.out.trans (hb.mono B1.out.size))) sW ku (iH.out.below (B1.out.trans (hb.mono B1.out.size)))
     clear hr hp hk sW
     go_enter Tryd.func97, Tryd.ntmps97
     go_wp2_with fail
     rw [← HW1.out]
     refine HC.out.mono ?_
     rintro e w2 ⟨rfl, hb⟩
     have K2 := Lib.hid hb
     have T2 := Lib.hid (T1.out.below hb)
     clear hb HC c0 c1 c2
     have c0 := T2.out.c0
     have c1 := T2.out.c1
     have c2 := T2.out.c2
     go_wp2_with fail
     refine (HQ.out _ K2.out).mono ?_
     rintro e w3 ⟨rfl, hb⟩
     have K3 := Lib.hid (K2.out.trans (hb.mono K2.out.size))
     have B3 := Lib.hid (B1.out.trans (K3.out.mono B1.out.size))
     have R3 := Lib.hid (R1.out.below K3.out)
     have d0 := R3.out.c0
     have d1 := R3.out.c1
     have d2 := R3.out.c2
     have g0 := World.rowIs.frozen R3.out 0
     have g1 := World.rowIs.frozen R3.out 1
     have g2 := World.rowIs.frozen R3.out 2
     clear hb HQ c0 c1 c2
     go_wp2
     exact bodyPost_ret (v := .tuple #[.agg #[.slice none 0 0, .slice none 0 0, .slice none 0 0], .bool false]) (by simp [results, Tryd.results97, go_sem, d0, d1, d2]) rfl
      ⟨_, by rw [HE.out.2.2.2], by rw [HE.out.1, HE.out.2.1, HE.out.2.2.1]; exact eG.zero _ _ _, I8 B3.out (by omega)⟩
   | true =>
     have HE := Lib.hid (Jm hr (by unfold fO; rw [hp, hk]; rfl))
     have Ub := tV.1 hk
     have jO : Hid (Pk.length = ah.length) := Ub.1
     have pz : Hid (∀ k, k < Pk.length → Fits (nth Pk k)) := iH.out.fits
     have HQ : Hid (∀ W, Below w1.heap.size w1 W → Calls Tryd.prog 124 #[.agg #[.slice ao O.length co, .slice an ah.length cn, .slice ap P.length cp], .slice aK Pk.length cK] W fun e w' => e = .returned (.bool true) ∧ Below W.heap.size W w') := fun W hb => aap cK hk (fP.out.below (B1.out.trans (hb.mono B1.out.size))) sW ku (iH.out.below (B1.out.trans (hb.mono B1.out.size)))
     have aki : Pk.length ≤ 256 := by rw [Ub.1]; exact ku
     clear hr hp hk sW Ub ku
     go_enter Tryd.func97, Tryd.ntmps97
     go_wp2_with fail
     rw [← HW1.out]
     refine HC.out.mono ?_
     rintro e w2 ⟨rfl, hb⟩
     have K2 := Lib.hid hb
     have T2 := Lib.hid (T1.out.below hb)
     clear hb HC c0 c1 c2
     have c0 := T2.out.c0
     have c1 := T2.out.c1
     have c2 := T2.out.c2
     go_wp2_with fail
     refine (HQ.out _ K2.out).mono ?_
     rintro e w3 ⟨rfl, hb⟩
     have K3 := Lib.hid (K2.out.trans (hb.mono K2.out.size))
     have B3 := Lib.hid (B1.out.trans (K3.out.mono B1.out.size))
     have T3 := Lib.hid (T1.out.below K3.out)
     have R3 := Lib.hid (R1.out.below K3.out)
     have hs3 : w1.heap.size ≤ w3.heap.size := K3.out.size
     have wI := Lib.hid hs3
     clear hb HQ c0 c1 c2
     have bM : Hid (∀ W, Below w3.heap.size w3 W → W.cell? ⟨w.heap.size, 0, none⟩ = some (.slice ao O.length co) ∧ W.cell? ⟨w.heap.size, 2, none⟩ = some (.slice ap P.length cp)) := fun W hb => ⟨(T3.out.below hb).c0, (T3.out.below hb).c2⟩
     have Ai : Hid (∀ W, Below w3.heap.size w3 W → Calls Tryd.prog 120 #[.slice ao O.length co] W (sS W O)) := fun W hb => IZ co (tZ.out.below (B3.out.trans (hb.mono B3.out.size)))
     have HC2 : Hid (∀ W, Below w3.heap.size w3 W → Calls Tryd.prog 120 #[.slice ap P.length cp] W (sS W P)) := fun W hb => IZ cp (rO.out.below (B3.out.trans (hb.mono B3.out.size)))
     have Kd : Hid (Below w3.heap.size w3 w3.drew) := (Below.refl _ _).drew
     have Ka : Hid (Below w3.heap.size w3 (w3.alloc (.cells #[.slice none 0 0, .slice none 0 0, .slice none 0 0] 35)).drew) := (aA _ _).drew
     have Ba : Hid (aT (w3.alloc (.cells #[.slice none 0 0, .slice none 0 0, .slice none 0 0] 35)).drew w3.heap.size 35 (.slice none 0 0) (.slice none 0 0) (.slice none 0 0)) := aT.below (aT.new w3 _ _ _ _) (Below.refl _ _).drew
     have h0 := bM.out _ Kd.out
     go_wp2
     go_region_held3 (fun W => W.cell? ⟨w.heap.size, 0, none⟩ = some (.slice ao O.length co) ∧ W.cell? ⟨w.heap.size, 2, none⟩ = some (.slice ap P.length cp))
      (first
       | exact bM.out _ Kd.out
       | exact bM.out _ Km.out
       | exact bM.out _ Kl.out
       | exact bM.out _ Ka.out
       | exact bM.out _ (Km.out.alloc Km.out.size _)
       | exact bM.out _ (Km.out.alloc Km.out.size _).drew
       | exact bM.out _ (Kl.out.alloc Kl.out.size _)
       | exact bM.out _ (Kl.out.alloc Kl.out.size _).drew
       | exact bM.out _ (((Km.out.setCell (p := ⟨w3.heap.size, 0, none⟩) (Nat.le_refl _) _).setCell (p := ⟨w3.heap.size, 1, none⟩) (Nat.le_refl _) _).setCell (p := ⟨w3.heap.size, 2, none⟩) (Nat.le_refl _) _)
       | exact bM.out _ (((Km.out.setCell (p := ⟨wl.heap.size, 0, none⟩) Kl.out.size _).setCell (p := ⟨wl.heap.size, 1, none⟩) Kl.out.size _).setCell (p := ⟨wl.heap.size, 2, none⟩) Kl.out.size _)
       | exact bM.out _ ((((Km.out.alloc Km.out.size _).drew.setCell (p := ⟨wm.heap.size, 0, none⟩) Km.out.size _).setCell (p := ⟨wm.heap.size, 1, none⟩) Km.out.size _).setCell (p := ⟨wm.heap.size, 2, none⟩) Km.out.size _)
       | exact bM.out _ ((((Km.out.alloc Km.out.size _).setCell (p := ⟨wm.heap.size, 0, none⟩) Km.out.size _).setCell (p := ⟨wm.heap.size, 1, none⟩) Km.out.size _).setCell (p := ⟨wm.heap.size, 2, none⟩) Km.out.size _)
       | go_keep)
      (first
       | (go_at_call 120; refine (Ai.out _ Kd.out).mono ?_; rintro e wl ⟨x, rfl, hx, hb⟩; obtain ⟨la, lc, hus, _, _⟩ := hx.shape; subst hus; have Kl := Lib.hid (Kd.out.trans (hb.mono Kd.out.size)); have Ll := Lib.hid hx; have wO : Hid (Below w3.heap.size w3 (wl.alloc (.cells #[.slice none 0 0, .slice none 0 0, .slice none 0 0] 35))) := Kl.out.alloc Kl.out.size _; have Bal : Hid (aT (wl.alloc (.cells #[.slice none 0 0, .slice none 0 0, .slice none 0 0] 35)) wl.heap.size 35 (.slice none 0 0) (.slice none 0 0) (.slice none 0 0)) := aT.new wl _ _ _ _; clear hx hb)
       | (go_at_call 120; refine (Ai.out _ Ka.out).mono ?_; rintro e wl ⟨x, rfl, hx, hb⟩; obtain ⟨la, lc, hus, _, _⟩ := hx.shape; subst hus; have Kl := Lib.hid (Ka.out.trans (hb.mono Ka.out.size)); have Ll := Lib.hid hx; have Bl := Lib.hid (Ba.out.below hb); clear hx hb)
       | (go_at_call 120; refine (HC2.out _ wO.out).mono ?_; rintro e wm ⟨y, rfl, hy, hb⟩; obtain ⟨ma, mc, hus, _, _⟩ := hy.shape; subst hus; have Km := Lib.hid (wO.out.trans (hb.mono wO.out.size)); have Lm := Lib.hid ((Ll.out.below (aA wl _)).below hb); have Ym := Lib.hid hy; have Bm := Lib.hid (Bal.out.below hb); have b0 := Bm.out.c0; have b1 := Bm.out.c1; have b2 := Bm.out.c2; have b3 := World.rowIs.frozen Bm.out 0; have b4 := World.rowIs.frozen Bm.out 1; have b5 := World.rowIs.frozen Bm.out 2; clear hy hb)
       | (go_at_call 120; refine (HC2.out _ Kl.out).mono ?_; rintro e wm ⟨y, rfl, hy, hb⟩; obtain ⟨ma, mc, hus, _, _⟩ := hy.shape; subst hus; have Km := Lib.hid (Kl.out.trans (hb.mono Kl.out.size)); have Lm := Lib.hid (Ll.out.below hb); have Ym := Lib.hid hy; have Bm := Lib.hid (Bl.out.below hb); have b0 := Bm.out.c0; have b1 := Bm.out.c1; have b2 := Bm.out.c2; have b3 := World.rowIs.frozen Bm.out 0; have b4 := World.rowIs.frozen Bm.out 1; have b5 := World.rowIs.frozen Bm.out 2; clear hy hb)
       | (go_at_call 120; refine (HC2.out _ Kl.out).mono ?_; rintro e wm ⟨y, rfl, hy, hb⟩; obtain ⟨ma, mc, hus, _, _⟩ := hy.shape; subst hus; have Km := Lib.hid (Kl.out.trans (hb.mono Kl.out.size)); have Lm := Lib.hid (Ll.out.below hb); have Ym := Lib.hid hy; have bx : aT (wm.alloc (.cells #[.slice none 0 0, .slice none 0 0, .slice none 0 0] 35)).drew wm.heap.size 35 (.slice none 0 0) (.slice none 0 0) (.slice none 0 0) := (aT.below (aT.new wm _ _ _ _) (Below.refl _ _).drew); have b0 := bx.c0; have b1 := bx.c1; have b2 := bx.c2; have b3 := World.rowIs.frozen bx 0; have b4 := World.rowIs.frozen bx 1; have b5 := World.rowIs.frozen bx 2; clear bx hy hb))
     · have hLb := Lm.out.base (B' := w3.heap.size) (by exact Kd.out.size)
       have Aj := Ym.out.base (B' := w3.heap.size) (by exact Kl.out.size)
       have hap : ∀ g, (Value.slice la O.length lc).ownBlock = some g → (Value.slice ma P.length mc).ownBlock ≠ some g := fun g hg hh => by
        have h1 := Ll.out.top g hg
        have h2 := (Ym.out.own.lt g hh).1
        omega
       obtain ⟨wn, hwn⟩ : ∃ y, y = wm.alloc (.cells #[.slice la O.length lc, .slice none 0 0, .slice ma P.length mc] 35) := ⟨_, rfl⟩
       have iK := Lib.hid hwn
       have HF : Hid (iF w3.heap.size wn wm.heap.size (.slice la O.length lc) (.slice none 0 0) (.slice ma P.length mc) (fun _ => .slice none 0 0) O [] P) := af6 hLb.bg Aj.bg hap Km.out.size hwn
       have KF : Hid (Below w3.heap.size w3 wn) := by rw [hwn]; exact Km.out.trans ((aA _ _).mono Km.out.size)
       clear hwn
       clear hLb Aj hap b0 b1 b2 b3 b4 b5
       try (rw [← iK.out])
       go_wp2
       try (rw [← iK.out])
       go_loopw [7, 8] (fun iv nv wr => ∃ (k : Nat) (vn : Value) (V : Nat → Value), k ≤ Pk.length ∧ iv = .int .i64 k ∧ Hid (iF w3.heap.size wr wm.heap.size (.slice la O.length lc) vn (.slice ma P.length mc) V O (rowsOf k (dG ah Pk)) P) ∧ Hid (Below w3.heap.size w3 wr)) (fun iv _ _ => Pk.length - (intOf iv).toNat)
       case atStart => exact ⟨0, _, fun _ => .slice none 0 0, Nat.zero_le _, rfl, HF, KF⟩
       case round =>
        clear HF KF
        obtain ⟨k, vn, V, hk, rfl, HF, KF⟩ := hrel
        have Tr := Lib.hid (T3.out.below KF.out)
        have mD : (rowsOf k (dG ah Pk)).length = k := oV _ _
        have hvn : ∃ a2 c2, vn = .slice a2 k c2 := by obtain ⟨a, c, hv, _⟩ := HF.out.rows.shape; rw [mD] at hv; exact ⟨a, c, hv⟩
        obtain ⟨a2, c2, hvn⟩ := hvn
        subst hvn
        have hsr : w3.heap.size ≤ wr.heap.size := KF.out.size
        have Br := Lib.hid (B3.out.trans (KF.out.mono B3.out.size))
        by_cases hlt : k < Pk.length
        · have hi1 : (k : Int) < Pk.length := by omega
          have hk0 : (0 : Int) ≤ (k : Int) := by omega
          have tX : k < ah.length := by have := jO.out; omega
          have hi2 : (k : Int) < ah.length := by omega
          have t1 := Tr.out.c1
          obtain ⟨nb, no, hna, hnc⟩ := (qP.out.below Br.out).cell (by omega)
          have n1 := hnc k tX
          have Ad := Lib.hid ((qP.out.below Br.out).rows k tX)
          subst hna
          clear hnc
          go_wp2_with fail
          refine (IZ (C k) Ad.out).mono ?_
          rintro e wu ⟨x, rfl, hx, hb⟩
          obtain ⟨ua, uc, hus, _, _⟩ := hx.shape
          subst hus
          have hsu : wr.heap.size ≤ wu.heap.size := hb.size
          have Ak := Lib.hid (HF.out.keep hb)
          have uf := Lib.hid (KF.out.trans (hb.mono KF.out.size))
          have Uu := Lib.hid hx
          have Bu := Lib.hid (Br.out.trans (hb.mono Br.out.size))
          have Am : Hid (∀ i, i < k → ∀ g, (V i).ownBlock = some g → g < wr.heap.size) := fun i hi g hg => ((HF.out.rows.rows i (by rw [mD]; exact hi)).own.lt g hg).2
          have nJ : Hid (∀ g, (Value.slice la O.length lc).ownBlock = some g → g < wr.heap.size) := fun g hg => (HF.out.ints.own.lt g hg).2
          have Ap : Hid (∀ g, (Value.slice ma P.length mc).ownBlock = some g → g < wr.heap.size) := fun g hg => (HF.out.prio.own.lt g hg).2
          obtain ⟨pb, po, hpa, hpc⟩ := (iH.out.below Bu.out).cell (by omega)
          have p1 := hpc k hlt
          have hpf := pz.out k hlt
          obtain ⟨p, hpp⟩ : ∃ q, q = nth Pk k := ⟨_, rfl⟩
          have wP := Lib.hid hpp
          rw [← hpp] at p1 hpf
          subst hpa
          have kR := Lib.hid hpf
          have gJ := Lib.hid mD
          clear hpc hpp hx hb t1 n1 hpf mD
          by_cases hp0 : 0 ≤ p
          · have qR : Hid ([p] = dG ah Pk k) := by unfold dG Hid; rw [← wP.out, if_pos hp0]
            obtain ⟨W4, fG⟩ : ∃ y, y = wu.alloc (.cells #[.int .i64 p] 2) := ⟨_, rfl⟩
            have kC := Lib.hid fG
            have hb4 : Below wu.heap.size wu W4 := by rw [fG]; exact aA _ _
            have hs4 : W4.heap.size = wu.heap.size + 1 := by rw [fG]; simp
            have U4 : Hid (aF W4 wu.heap.size W4.heap.size (.slice (some ⟨wu.heap.size, 0, none⟩) 1 1) [p]) := by
             rw [fG]
             refine aF.xN (zs := [p]) ⟨_, heap_alloc_new wu _, by simp, fun j hj => ?_⟩ (Nat.le_refl _) (by simp) (by simp) (fun j hj => ?_)
             · have hj0 : j = 0 := by simp at hj; omega
               subst hj0; rfl
             · have hj0 : j = 0 := by simp at hj; omega
               subst hj0; exact kR.out
            have H4 := Lib.hid (Ak.out.keep hb4)
            have K4 := Lib.hid (uf.out.trans (hb4.mono uf.out.size))
            have HB4 : Hid (wr.heap.size ≤ wu.heap.size) := hsu
            have yj : w3.heap.size < W4.heap.size := by omega
            have Jo := Lib.hid hs4
            clear fG hb4 hs4
            have ug : Hid (∀ i, i < (rowsOf k (dG ah Pk)).length → ∀ g, (Value.slice (some ⟨wu.heap.size, 0, none⟩) 1 1).ownBlock = some g → (V i).ownBlock ≠ some g) := fun i hi g h1 h2 => by
             have h3 := (U4.out.own.lt g h1).1
             have h4 := Am.out i (by rw [gJ.out] at hi; exact hi) g h2
             have := HB4.out
             omega
            have uh : Hid (∀ g, (Value.slice (some ⟨wu.heap.size, 0, none⟩) 1 1).ownBlock = some g → (Value.slice la O.length lc).ownBlock ≠ some g) := fun g h1 h2 => by
             have h3 := (U4.out.own.lt g h1).1
             have h4 := nJ.out g h2
             have := HB4.out
             omega
            have qN : Hid (∀ g, (Value.slice (some ⟨wu.heap.size, 0, none⟩) 1 1).ownBlock = some g → (Value.slice ma P.length mc).ownBlock ≠ some g) := fun g h1 h2 => by
             have h3 := (U4.out.own.lt g h1).1
             have h4 := Ap.out g h2
             have := HB4.out
             omega
            have mG : Hid (W4.ownsRow w3.heap.size 22 1 (.slice a2 k c2) k ((List.range k).map V)) := by have h := H4.out.rows.own; rw [gJ.out] at h; exact h
            have t41 : (wu.alloc (.cells #[.int .i64 p] 2)).cell? ⟨wm.heap.size, 1, none⟩ = some (.slice a2 k c2) := by rw [← kC.out]; exact H4.out.str.cell (i := 1) (by omega)
            have Jp : (wu.alloc (.cells #[.int .i64 p] 2)).frozen? ⟨wm.heap.size, 1, none⟩ = false := by rw [← kC.out]; exact H4.out.str.frozen 1
            have U5 : Hid (aF W4 wu.heap.size W4.heap.size (.slice (some ⟨wu.heap.size, 0, none⟩) 1 1) (dG ah Pk k)) := by rw [← qR.out]; exact U4.out
            have uj : Hid (∀ j v, [Value.slice (some ⟨wu.heap.size, 0, none⟩) 1 1][j]? = some v → (W4.alloc (.cells #[.slice (some ⟨wu.heap.size, 0, none⟩) 1 1] 22)).cell? ((⟨wu.heap.size + 1, 0, none⟩ : Addr).add j) = some v) := by
             have h := cell_one_new W4 (.slice (some ⟨wu.heap.size, 0, none⟩) 1 1) 22
             rw [Jo.out] at h; exact h
            have hone : ∀ u ∈ [Value.slice (some ⟨wu.heap.size, 0, none⟩) 1 1], u.oneCell' = true := by intro u hu; simp at hu; subst hu; rfl
            have pI := Lib.hid hone
            clear hone
            go_wp2_with (at_builtin; rw [← kC.out]; refine wpList_append_lies _ rfl _ _ 23 rfl w3.heap.size 22 i0 (.slice none 0 0) 1 24 Tryd.underlying23 hi hz0 hz1 hz2 rfl (by decide) _ _ _ rfl (mG.out.alloc _) ⟨wu.heap.size + 1, 0, none⟩ 1 1 [.slice (some ⟨wu.heap.size, 0, none⟩) 1 1] rfl rfl uj.out pI.out (Nat.le_refl _) (by unfold maxLen; omega) (by omega) (by simp; omega) (W4.heap.size + 1) (by simp) ?_; intro g8 um w8 kE jr uo FY; have jw := zM (bY H4.out.str (aA W4 (.cells #[.slice (some ⟨wu.heap.size, 0, none⟩) 1 1] 22))) (mG.out.alloc _) (by decide) jr; have q8 : w8.cell? ⟨wm.heap.size, 1, none⟩ = some (.slice a2 k c2) := jw.cell (i := 1) (by omega); have p8 := jw.frozen 1)
            have h9 := (H4.out.keep (aA W4 (.cells #[.slice (some ⟨wu.heap.size, 0, none⟩) 1 1] 22))).push (cap := um) (gg := g8) (by rw [gJ.out]; omega) (U5.out.below (aA _ _)) (by omega) ug.out uh.out qN.out (by rw [gJ.out]; exact kE) jr
            rw [gJ.out, ← Gh] at h9
            have K9 := Lib.hid ((K4.out.trans ((aA W4 (.cells #[.slice (some ⟨wu.heap.size, 0, none⟩) 1 1] 22)).mono K4.out.size)).trans (h9.2.below (B := w3.heap.size) (by rw [World.size_alloc]; omega) (fun b hb => hb)))
            have H9 := Lib.hid h9.1
            clear h9 kE jr uo jw
            go_wp2
            go_roundw
            case rel => exact ⟨k + 1, _, _, by omega, by go_num, H9, K9⟩
            case measure => simp [intOf]; omega
          · have qR : Hid (row ah k = dG ah Pk k) := by unfold dG Hid; rw [← wP.out, if_neg hp0]
            obtain ⟨W4, fG⟩ : ∃ y, y = wu := ⟨_, rfl⟩
            have kC : Hid (W4 = W4) := rfl
            subst fG
            have U4 := Uu
            have H4 := Ak
            have K4 := uf
            have HB4 : Hid (wr.heap.size ≤ wr.heap.size) := Nat.le_refl _
            have yj : w3.heap.size ≤ W4.heap.size := by omega
            have ug : Hid (∀ i, i < (rowsOf k (dG ah Pk)).length → ∀ g, (Value.slice ua (row ah k).length uc).ownBlock = some g → (V i).ownBlock ≠ some g) := fun i hi g h1 h2 => by
             have h3 := (U4.out.own.lt g h1).1
             have h4 := Am.out i (by rw [gJ.out] at hi; exact hi) g h2
             have := HB4.out
             omega
            have uh : Hid (∀ g, (Value.slice ua (row ah k).length uc).ownBlock = some g → (Value.slice la O.length lc).ownBlock ≠ some g) := fun g h1 h2 => by
             have h3 := (U4.out.own.lt g h1).1
             have h4 := nJ.out g h2
             have := HB4.out
             omega
            have qN : Hid (∀ g, (Value.slice ua (row ah k).length uc).ownBlock = some g → (Value.slice ma P.length mc).ownBlock ≠ some g) := fun g h1 h2 => by
             have h3 := (U4.out.own.lt g h1).1
             have h4 := Ap.out g h2
             have := HB4.out
             omega
            have mG : Hid (W4.ownsRow w3.heap.size 22 1 (.slice a2 k c2) k ((List.range k).map V)) := by have h := H4.out.rows.own; rw [gJ.out] at h; exact h
            have t41 : W4.cell? ⟨wm.heap.size, 1, none⟩ = some (.slice a2 k c2) := by exact H4.out.str.cell (i := 1) (by omega)
            have Jp : W4.frozen? ⟨wm.heap.size, 1, none⟩ = false := by exact H4.out.str.frozen 1
            have U5 : Hid (aF W4 wr.heap.size W4.heap.size (.slice ua (row ah k).length uc) (dG ah Pk k)) := by rw [← qR.out]; exact U4.out
            have uj : Hid (∀ j v, [Value.slice ua (row ah k).length uc][j]? = some v → (W4.alloc (.cells #[.slice ua (row ah k).length uc] 22)).cell? ((⟨W4.heap.size, 0, none⟩ : Addr).add j) = some v) := by
             have h := cell_one_new W4 (.slice ua (row ah k).length uc) 22
             exact h
            have hone : ∀ u ∈ [Value.slice ua (row ah k).length uc], u.oneCell' = true := by intro u hu; simp at hu; subst hu; rfl
            have pI := Lib.hid hone
            clear hone
            go_wp2_with (at_builtin; refine wpList_append_lies _ rfl _ _ 23 rfl w3.heap.size 22 i0 (.slice none 0 0) 1 24 Tryd.underlying23 hi hz0 hz1 hz2 rfl (by decide) _ _ _ rfl (mG.out.alloc _) ⟨W4.heap.size, 0, none⟩ 1 1 [.slice ua (row ah k).length uc] rfl rfl uj.out pI.out (Nat.le_refl _) (by unfold maxLen; omega) (by omega) (by simp; omega) (W4.heap.size + 1) (by simp) ?_; intro g8 um w8 kE jr uo FY; have jw := zM (bY H4.out.str (aA W4 (.cells #[.slice ua (row ah k).length uc] 22))) (mG.out.alloc _) (by decide) jr; have q8 : w8.cell? ⟨wm.heap.size, 1, none⟩ = some (.slice a2 k c2) := jw.cell (i := 1) (by omega); have p8 := jw.frozen 1)
            have h9 := (H4.out.keep (aA W4 (.cells #[.slice ua (row ah k).length uc] 22))).push (cap := um) (gg := g8) (by rw [gJ.out]; omega) (U5.out.below (aA _ _)) (by omega) ug.out uh.out qN.out (by rw [gJ.out]; exact kE) jr
            rw [gJ.out, ← Gh] at h9
            have K9 := Lib.hid ((K4.out.trans ((aA W4 (.cells #[.slice ua (row ah k).length uc] 22)).mono K4.out.size)).trans (h9.2.below (B := w3.heap.size) (by rw [World.size_alloc]; omega) (fun b hb => hb)))
            have H9 := Lib.hid h9.1
            clear h9 kE jr uo jw
            go_wp2
            go_roundw
            case rel => exact ⟨k + 1, _, _, by omega, by go_num, H9, K9⟩
            case measure => simp [intOf]; omega
        · have hi1 : ¬ (k : Int) < Pk.length := by omega
          have hkk : k = ah.length := by have := jO.out; omega
          have Rr := Lib.hid (R3.out.below KF.out)
          have s0 : wr.cell? ⟨wm.heap.size, 0, none⟩ = some (.slice la O.length lc) := HF.out.str.cell (i := 0) (by omega)
          have s1 : wr.cell? ⟨wm.heap.size, 1, none⟩ = some (.slice a2 k c2) := HF.out.str.cell (i := 1) (by omega)
          have s2 : wr.cell? ⟨wm.heap.size, 2, none⟩ = some (.slice ma P.length mc) := HF.out.str.cell (i := 2) (by omega)
          have r0 := Rr.out.c0
          have r1 := Rr.out.c1
          have r2 := Rr.out.c2
          have g0 := World.rowIs.frozen Rr.out 0
          have g1 := World.rowIs.frozen Rr.out 1
          have g2 := World.rowIs.frozen Rr.out 2
          have hst := MP (w := w) (wr := wr) (t := w.heap.size + 1) (n := w3.heap.size) Rr.out HF.out.game (by have := cO.out; omega) (by omega) (by have := cO.out; omega) Br.out
          have HST := Lib.hid hst
          have u0 := hst.2.2.c0
          have u1 := hst.2.2.c1
          have u2 := hst.2.2.c2
          have HKK := Lib.hid hkk
          clear hst hkk mD
          go_wp2
          exact bodyPost_ret (v := .tuple #[.agg #[.slice la O.length lc, .slice a2 k c2, .slice ma P.length mc], .bool true]) (by simp [results, Tryd.results97, go_sem, u0, u1, u2]) rfl
           ⟨_, by rw [HE.out.2.2.2], by rw [HE.out.1, HE.out.2.1, HE.out.2.2.1, ← HKK.out]; exact HST.out.1, HST.out.2.1⟩
     · have hLb := Lm.out.base (B' := w3.heap.size) (by exact Kd.out.size)
       have Aj := Ym.out.base (B' := w3.heap.size) (by exact wO.out.size)
       have hap : ∀ g, (Value.slice la O.length lc).ownBlock = some g → (Value.slice ma P.length mc).ownBlock ≠ some g := fun g hg hh => by
        have h1 := Ll.out.top g hg
        have h2 := (Ym.out.own.lt g hh).1
        simp [World.size_alloc] at h2; omega
       obtain ⟨wn, hwn⟩ : ∃ y, y = ((wm.setCell ⟨wl.heap.size, 0, none⟩ (.slice la O.length lc)).setCell ⟨wl.heap.size, 1, none⟩ (.slice none 0 0)).setCell ⟨wl.heap.size, 2, none⟩ (.slice ma P.length mc) := ⟨_, rfl⟩
       have iK := Lib.hid hwn
       have hmk := aat (n := w3.heap.size) (V := fun _ => .slice none 0 0) hLb.bg Aj.bg hap Bm.out Kl.out.size hwn
       have HF := Lib.hid hmk.1
       have KF := Lib.hid (Km.out.trans (hmk.2.below (B := w3.heap.size) Km.out.size (fun b hb => by have := Kl.out.size; omega)))
       clear hwn hmk
       clear hLb Aj hap b0 b1 b2 b3 b4 b5
       try (rw [← iK.out])
       go_wp2
       try (rw [← iK.out])
       go_loopw [7, 8] (fun iv nv wr => ∃ (k : Nat) (vn : Value) (V : Nat → Value), k ≤ Pk.length ∧ iv = .int .i64 k ∧ Hid (iF w3.heap.size wr wl.heap.size (.slice la O.length lc) vn (.slice ma P.length mc) V O (rowsOf k (dG ah Pk)) P) ∧ Hid (Below w3.heap.size w3 wr)) (fun iv _ _ => Pk.length - (intOf iv).toNat)
       case atStart => exact ⟨0, _, fun _ => .slice none 0 0, Nat.zero_le _, rfl, HF, KF⟩
       case round =>
        clear HF KF
        obtain ⟨k, vn, V, hk, rfl, HF, KF⟩ := hrel
        have Tr := Lib.hid (T3.out.below KF.out)
        have mD : (rowsOf k (dG ah Pk)).length = k := oV _ _
        have hvn : ∃ a2 c2, vn = .slice a2 k c2 := by obtain ⟨a, c, hv, _⟩ := HF.out.rows.shape; rw [mD] at hv; exact ⟨a, c, hv⟩
        obtain ⟨a2, c2, hvn⟩ := hvn
        subst hvn
        have hsr : w3.heap.size ≤ wr.heap.size := KF.out.size
        have Br := Lib.hid (B3.out.trans (KF.out.mono B3.out.size))
        by_cases hlt : k < Pk.length
        · have hi1 : (k : Int) < Pk.length := by omega
          have hk0 : (0 : Int) ≤ (k : Int) := by omega
          have tX : k < ah.length := by have := jO.out; omega
          have hi2 : (k : Int) < ah.length := by omega
          have t1 := Tr.out.c1
          obtain ⟨nb, no, hna, hnc⟩ := (qP.out.below Br.out).cell (by omega)
          have n1 := hnc k tX
          have Ad := Lib.hid ((qP.out.below Br.out).rows k tX)
          subst hna
          clear hnc
          go_wp2_with fail
          refine (IZ (C k) Ad.out).mono ?_
          rintro e wu ⟨x, rfl, hx, hb⟩
          obtain ⟨ua, uc, hus, _, _⟩ := hx.shape
          subst hus
          have hsu : wr.heap.size ≤ wu.heap.size := hb.size
          have Ak := Lib.hid (HF.out.keep hb)
          have uf := Lib.hid (KF.out.trans (hb.mono KF.out.size))
          have Uu := Lib.hid hx
          have Bu := Lib.hid (Br.out.trans (hb.mono Br.out.size))
          have Am : Hid (∀ i, i < k → ∀ g, (V i).ownBlock = some g → g < wr.heap.size) := fun i hi g hg => ((HF.out.rows.rows i (by rw [mD]; exact hi)).own.lt g hg).2
          have nJ : Hid (∀ g, (Value.slice la O.length lc).ownBlock = some g → g < wr.heap.size) := fun g hg => (HF.out.ints.own.lt g hg).2
          have Ap : Hid (∀ g, (Value.slice ma P.length mc).ownBlock = some g → g < wr.heap.size) := fun g hg => (HF.out.prio.own.lt g hg).2
          obtain ⟨pb, po, hpa, hpc⟩ := (iH.out.below Bu.out).cell (by omega)
          have p1 := hpc k hlt
          have hpf := pz.out k hlt
          obtain ⟨p, hpp⟩ : ∃ q, q = nth Pk k := ⟨_, rfl⟩
          have wP := Lib.hid hpp
          rw [← hpp] at p1 hpf
          subst hpa
          have kR := Lib.hid hpf
          have gJ := Lib.hid mD
          clear hpc hpp hx hb t1 n1 hpf mD
          by_cases hp0 : 0 ≤ p
          · have qR : Hid ([p] = dG ah Pk k) := by unfold dG Hid; rw [← wP.out, if_pos hp0]
            obtain ⟨W4, fG⟩ : ∃ y, y = wu.alloc (.cells #[.int .i64 p] 2) := ⟨_, rfl⟩
            have kC := Lib.hid fG
            have hb4 : Below wu.heap.size wu W4 := by rw [fG]; exact aA _ _
            have hs4 : W4.heap.size = wu.heap.size + 1 := by rw [fG]; simp
            have U4 : Hid (aF W4 wu.heap.size W4.heap.size (.slice (some ⟨wu.heap.size, 0, none⟩) 1 1) [p]) := by
             rw [fG]
             refine aF.xN (zs := [p]) ⟨_, heap_alloc_new wu _, by simp, fun j hj => ?_⟩ (Nat.le_refl _) (by simp) (by simp) (fun j hj => ?_)
             · have hj0 : j = 0 := by simp at hj; omega
               subst hj0; rfl
             · have hj0 : j = 0 := by simp at hj; omega
               subst hj0; exact kR.out
            have H4 := Lib.hid (Ak.out.keep hb4)
            have K4 := Lib.hid (uf.out.trans (hb4.mono uf.out.size))
            have HB4 : Hid (wr.heap.size ≤ wu.heap.size) := hsu
            have yj : w3.heap.size < W4.heap.size := by omega
            have Jo := Lib.hid hs4
            clear fG hb4 hs4
            have ug : Hid (∀ i, i < (rowsOf k (dG ah Pk)).length → ∀ g, (Value.slice (some ⟨wu.heap.size, 0, none⟩) 1 1).ownBlock = some g → (V i).ownBlock ≠ some g) := fun i hi g h1 h2 => by
             have h3 := (U4.out.own.lt g h1).1
             have h4 := Am.out i (by rw [gJ.out] at hi; exact hi) g h2
             have := HB4.out
             omega
            have uh : Hid (∀ g, (Value.slice (some ⟨wu.heap.size, 0, none⟩) 1 1).ownBlock = some g → (Value.slice la O.length lc).ownBlock ≠ some g) := fun g h1 h2 => by
             have h3 := (U4.out.own.lt g h1).1
             have h4 := nJ.out g h2
             have := HB4.out
             omega
            have qN : Hid (∀ g, (Value.slice (some ⟨wu.heap.size, 0, none⟩) 1 1).ownBlock = some g → (Value.slice ma P.length mc).ownBlock ≠ some g) := fun g h1 h2 => by
             have h3 := (U4.out.own.lt g h1).1
             have h4 := Ap.out g h2
             have := HB4.out
             omega
            have mG : Hid (W4.ownsRow w3.heap.size 22 1 (.slice a2 k c2) k ((List.range k).map V)) := by have h := H4.out.rows.own; rw [gJ.out] at h; exact h
            have t41 : (wu.alloc (.cells #[.int .i64 p] 2)).cell? ⟨wl.heap.size, 1, none⟩ = some (.slice a2 k c2) := by rw [← kC.out]; exact H4.out.str.cell (i := 1) (by omega)
            have Jp : (wu.alloc (.cells #[.int .i64 p] 2)).frozen? ⟨wl.heap.size, 1, none⟩ = false := by rw [← kC.out]; exact H4.out.str.frozen 1
            have U5 : Hid (aF W4 wu.heap.size W4.heap.size (.slice (some ⟨wu.heap.size, 0, none⟩) 1 1) (dG ah Pk k)) := by rw [← qR.out]; exact U4.out
            have uj : Hid (∀ j v, [Value.slice (some ⟨wu.heap.size, 0, none⟩) 1 1][j]? = some v → (W4.alloc (.cells #[.slice (some ⟨wu.heap.size, 0, none⟩) 1 1] 22)).cell? ((⟨wu.heap.size + 1, 0, none⟩ : Addr).add j) = some v) := by
             have h := cell_one_new W4 (.slice (some ⟨wu.heap.size, 0, none⟩) 1 1) 22
             rw [Jo.out] at h; exact h
            have hone : ∀ u ∈ [Value.slice (some ⟨wu.heap.size, 0, none⟩) 1 1], u.oneCell' = true := by intro u hu; simp at hu; subst hu; rfl
            have pI := Lib.hid hone
            clear hone
            go_wp2_with (at_builtin; rw [← kC.out]; refine wpList_append_lies _ rfl _ _ 23 rfl w3.heap.size 22 i0 (.slice none 0 0) 1 24 Tryd.underlying23 hi hz0 hz1 hz2 rfl (by decide) _ _ _ rfl (mG.out.alloc _) ⟨wu.heap.size + 1, 0, none⟩ 1 1 [.slice (some ⟨wu.heap.size, 0, none⟩) 1 1] rfl rfl uj.out pI.out (Nat.le_refl _) (by unfold maxLen; omega) (by omega) (by simp; omega) (W4.heap.size + 1) (by simp) ?_; intro g8 um w8 kE jr uo FY; have jw := zM (bY H4.out.str (aA W4 (.cells #[.slice (some ⟨wu.heap.size, 0, none⟩) 1 1] 22))) (mG.out.alloc _) (by decide) jr; have q8 : w8.cell? ⟨wl.heap.size, 1, none⟩ = some (.slice a2 k c2) := jw.cell (i := 1) (by omega); have p8 := jw.frozen 1)
            have h9 := (H4.out.keep (aA W4 (.cells #[.slice (some ⟨wu.heap.size, 0, none⟩) 1 1] 22))).push (cap := um) (gg := g8) (by rw [gJ.out]; omega) (U5.out.below (aA _ _)) (by omega) ug.out uh.out qN.out (by rw [gJ.out]; exact kE) jr
            rw [gJ.out, ← Gh] at h9
            have K9 := Lib.hid ((K4.out.trans ((aA W4 (.cells #[.slice (some ⟨wu.heap.size, 0, none⟩) 1 1] 22)).mono K4.out.size)).trans (h9.2.below (B := w3.heap.size) (by rw [World.size_alloc]; omega) (fun b hb => hb)))
            have H9 := Lib.hid h9.1
            clear h9 kE jr uo jw
            go_wp2
            go_roundw
            case rel => exact ⟨k + 1, _, _, by omega, by go_num, H9, K9⟩
            case measure => simp [intOf]; omega
          · have qR : Hid (row ah k = dG ah Pk k) := by unfold dG Hid; rw [← wP.out, if_neg hp0]
            obtain ⟨W4, fG⟩ : ∃ y, y = wu := ⟨_, rfl⟩
            have kC : Hid (W4 = W4) := rfl
            subst fG
            have U4 := Uu
            have H4 := Ak
            have K4 := uf
            have HB4 : Hid (wr.heap.size ≤ wr.heap.size) := Nat.le_refl _
            have yj : w3.heap.size ≤ W4.heap.size := by omega
            have ug : Hid (∀ i, i < (rowsOf k (dG ah Pk)).length → ∀ g, (Value.slice ua (row ah k).length uc).ownBlock = some g → (V i).ownBlock ≠ some g) := fun i hi g h1 h2 => by
             have h3 := (U4.out.own.lt g h1).1
             have h4 := Am.out i (by rw [gJ.out] at hi; exact hi) g h2
             have := HB4.out
             omega
            have uh : Hid (∀ g, (Value.slice ua (row ah k).length uc).ownBlock = some g → (Value.slice la O.length lc).ownBlock ≠ some g) := fun g h1 h2 => by
             have h3 := (U4.out.own.lt g h1).1
             have h4 := nJ.out g h2
             have := HB4.out
             omega
            have qN : Hid (∀ g, (Value.slice ua (row ah k).length uc).ownBlock = some g → (Value.slice ma P.length mc).ownBlock ≠ some g) := fun g h1 h2 => by
             have h3 := (U4.out.own.lt g h1).1
             have h4 := Ap.out g h2
             have := HB4.out
             omega
            have mG : Hid (W4.ownsRow w3.heap.size 22 1 (.slice a2 k c2) k ((List.range k).map V)) := by have h := H4.out.rows.own; rw [gJ.out] at h; exact h
            have t41 : W4.cell? ⟨wl.heap.size, 1, none⟩ = some (.slice a2 k c2) := by exact H4.out.str.cell (i := 1) (by omega)
            have Jp : W4.frozen? ⟨wl.heap.size, 1, none⟩ = false := by exact H4.out.str.frozen 1
            have U5 : Hid (aF W4 wr.heap.size W4.heap.size (.slice ua (row ah k).length uc) (dG ah Pk k)) := by rw [← qR.out]; exact U4.out
            have uj : Hid (∀ j v, [Value.slice ua (row ah k).length uc][j]? = some v → (W4.alloc (.cells #[.slice ua (row ah k).length uc] 22)).cell? ((⟨W4.heap.size, 0, none⟩ : Addr).add j) = some v) := by
             have h := cell_one_new W4 (.slice ua (row ah k).length uc) 22
             exact h
            have hone : ∀ u ∈ [Value.slice ua (row ah k).length uc], u.oneCell' = true := by intro u hu; simp at hu; subst hu; rfl
            have pI := Lib.hid hone
            clear hone
            go_wp2_with (at_builtin; refine wpList_append_lies _ rfl _ _ 23 rfl w3.heap.size 22 i0 (.slice none 0 0) 1 24 Tryd.underlying23 hi hz0 hz1 hz2 rfl (by decide) _ _ _ rfl (mG.out.alloc _) ⟨W4.heap.size, 0, none⟩ 1 1 [.slice ua (row ah k).length uc] rfl rfl uj.out pI.out (Nat.le_refl _) (by unfold maxLen; omega) (by omega) (by simp; omega) (W4.heap.size + 1) (by simp) ?_; intro g8 um w8 kE jr uo FY; have jw := zM (bY H4.out.str (aA W4 (.cells #[.slice ua (row ah k).length uc] 22))) (mG.out.alloc _) (by decide) jr; have q8 : w8.cell? ⟨wl.heap.size, 1, none⟩ = some (.slice a2 k c2) := jw.cell (i := 1) (by omega); have p8 := jw.frozen 1)
            have h9 := (H4.out.keep (aA W4 (.cells #[.slice ua (row ah k).length uc] 22))).push (cap := um) (gg := g8) (by rw [gJ.out]; omega) (U5.out.below (aA _ _)) (by omega) ug.out uh.out qN.out (by rw [gJ.out]; exact kE) jr
            rw [gJ.out, ← Gh] at h9
            have K9 := Lib.hid ((K4.out.trans ((aA W4 (.cells #[.slice ua (row ah k).length uc] 22)).mono K4.out.size)).trans (h9.2.below (B := w3.heap.size) (by rw [World.size_alloc]; omega) (fun b hb => hb)))
            have H9 := Lib.hid h9.1
            clear h9 kE jr uo jw
            go_wp2
            go_roundw
            case rel => exact ⟨k + 1, _, _, by omega, by go_num, H9, K9⟩
            case measure => simp [intOf]; omega
        · have hi1 : ¬ (k : Int) < Pk.length := by omega
          have hkk : k = ah.length := by have := jO.out; omega
          have Rr := Lib.hid (R3.out.below KF.out)
          have s0 : wr.cell? ⟨wl.heap.size, 0, none⟩ = some (.slice la O.length lc) := HF.out.str.cell (i := 0) (by omega)
          have s1 : wr.cell? ⟨wl.heap.size, 1, none⟩ = some (.slice a2 k c2) := HF.out.str.cell (i := 1) (by omega)
          have s2 : wr.cell? ⟨wl.heap.size, 2, none⟩ = some (.slice ma P.length mc) := HF.out.str.cell (i := 2) (by omega)
          have r0 := Rr.out.c0
          have r1 := Rr.out.c1
          have r2 := Rr.out.c2
          have g0 := World.rowIs.frozen Rr.out 0
          have g1 := World.rowIs.frozen Rr.out 1
          have g2 := World.rowIs.frozen Rr.out 2
          have hst := MP (w := w) (wr := wr) (t := w.heap.size + 1) (n := w3.heap.size) Rr.out HF.out.game (by have := cO.out; omega) (by omega) (by have := cO.out; omega) Br.out
          have HST := Lib.hid hst
          have u0 := hst.2.2.c0
          have u1 := hst.2.2.c1
          have u2 := hst.2.2.c2
          have HKK := Lib.hid hkk
          clear hst hkk mD
          go_wp2
          exact bodyPost_ret (v := .tuple #[.agg #[.slice la O.length lc, .slice a2 k c2, .slice ma P.length mc], .bool true]) (by simp [results, Tryd.results97, go_sem, u0, u1, u2]) rfl
           ⟨_, by rw [HE.out.2.2.2], by rw [HE.out.1, HE.out.2.1, HE.out.2.2.1, ← HKK.out]; exact HST.out.1, HST.out.2.1⟩
     · have hLb := Lm.out.base (B' := w3.heap.size) (by exact Ka.out.size)
       have Aj := Ym.out.base (B' := w3.heap.size) (by exact Kl.out.size)
       have hap : ∀ g, (Value.slice la O.length lc).ownBlock = some g → (Value.slice ma P.length mc).ownBlock ≠ some g := fun g hg hh => by
        have h1 := Ll.out.top g hg
        have h2 := (Ym.out.own.lt g hh).1
        omega
       obtain ⟨wn, hwn⟩ : ∃ y, y = ((wm.setCell ⟨w3.heap.size, 0, none⟩ (.slice la O.length lc)).setCell ⟨w3.heap.size, 1, none⟩ (.slice none 0 0)).setCell ⟨w3.heap.size, 2, none⟩ (.slice ma P.length mc) := ⟨_, rfl⟩
       have iK := Lib.hid hwn
       have hmk := aat (n := w3.heap.size) (V := fun _ => .slice none 0 0) hLb.bg Aj.bg hap Bm.out (Nat.le_refl _) hwn
       have HF := Lib.hid hmk.1
       have KF := Lib.hid (Km.out.trans (hmk.2.below (B := w3.heap.size) Km.out.size (fun b hb => by omega)))
       clear hwn hmk
       clear hLb Aj hap b0 b1 b2 b3 b4 b5
       try (rw [← iK.out])
       go_wp2
       try (rw [← iK.out])
       go_loopw [7, 8] (fun iv nv wr => ∃ (k : Nat) (vn : Value) (V : Nat → Value), k ≤ Pk.length ∧ iv = .int .i64 k ∧ Hid (iF w3.heap.size wr w3.heap.size (.slice la O.length lc) vn (.slice ma P.length mc) V O (rowsOf k (dG ah Pk)) P) ∧ Hid (Below w3.heap.size w3 wr)) (fun iv _ _ => Pk.length - (intOf iv).toNat)
       case atStart => exact ⟨0, _, fun _ => .slice none 0 0, Nat.zero_le _, rfl, HF, KF⟩
       case round =>
        clear HF KF
        obtain ⟨k, vn, V, hk, rfl, HF, KF⟩ := hrel
        have Tr := Lib.hid (T3.out.below KF.out)
        have mD : (rowsOf k (dG ah Pk)).length = k := oV _ _
        have hvn : ∃ a2 c2, vn = .slice a2 k c2 := by obtain ⟨a, c, hv, _⟩ := HF.out.rows.shape; rw [mD] at hv; exact ⟨a, c, hv⟩
        obtain ⟨a2, c2, hvn⟩ := hvn
        subst hvn
        have hsr : w3.heap.size ≤ wr.heap.size := KF.out.size
        have Br := Lib.hid (B3.out.trans (KF.out.mono B3.out.size))
        by_cases hlt : k < Pk.length
        · have hi1 : (k : Int) < Pk.length := by omega
          have hk0 : (0 : Int) ≤ (k : Int) := by omega
          have tX : k < ah.length := by have := jO.out; omega
          have hi2 : (k : Int) < ah.length := by omega
          have t1 := Tr.out.c1
          obtain ⟨nb, no, hna, hnc⟩ := (qP.out.below Br.out).cell (by omega)
          have n1 := hnc k tX
          have Ad := Lib.hid ((qP.out.below Br.out).rows k tX)
          subst hna
          clear hnc
          go_wp2_with fail
          refine (IZ (C k) Ad.out).mono ?_
          rintro e wu ⟨x, rfl, hx, hb⟩
          obtain ⟨ua, uc, hus, _, _⟩ := hx.shape
          subst hus
          have hsu : wr.heap.size ≤ wu.heap.size := hb.size
          have Ak := Lib.hid (HF.out.keep hb)
          have uf := Lib.hid (KF.out.trans (hb.mono KF.out.size))
          have Uu := Lib.hid hx
          have Bu := Lib.hid (Br.out.trans (hb.mono Br.out.size))
          have Am : Hid (∀ i, i < k → ∀ g, (V i).ownBlock = some g → g < wr.heap.size) := fun i hi g hg => ((HF.out.rows.rows i (by rw [mD]; exact hi)).own.lt g hg).2
          have nJ : Hid (∀ g, (Value.slice la O.length lc).ownBlock = some g → g < wr.heap.size) := fun g hg => (HF.out.ints.own.lt g hg).2
          have Ap : Hid (∀ g, (Value.slice ma P.length mc).ownBlock = some g → g < wr.heap.size) := fun g hg => (HF.out.prio.own.lt g hg).2
          obtain ⟨pb, po, hpa, hpc⟩ := (iH.out.below Bu.out).cell (by omega)
          have p1 := hpc k hlt
          have hpf := pz.out k hlt
          obtain ⟨p, hpp⟩ : ∃ q, q = nth Pk k := ⟨_, rfl⟩
          have wP := Lib.hid hpp
          rw [← hpp] at p1 hpf
          subst hpa
          have kR := Lib.hid hpf
          have gJ := Lib.hid mD
          clear hpc hpp hx hb t1 n1 hpf mD
          by_cases hp0 : 0 ≤ p
          · have qR : Hid ([p] = dG ah Pk k) := by unfold dG Hid; rw [← wP.out, if_pos hp0]
            obtain ⟨W4, fG⟩ : ∃ y, y = wu.alloc (.cells #[.int .i64 p] 2) := ⟨_, rfl⟩
            have kC := Lib.hid fG
            have hb4 : Below wu.heap.size wu W4 := by rw [fG]; exact aA _ _
            have hs4 : W4.heap.size = wu.heap.size + 1 := by rw [fG]; simp
            have U4 : Hid (aF W4 wu.heap.size W4.heap.size (.slice (some ⟨wu.heap.size, 0, none⟩) 1 1) [p]) := by
             rw [fG]
             refine aF.xN (zs := [p]) ⟨_, heap_alloc_new wu _, by simp, fun j hj => ?_⟩ (Nat.le_refl _) (by simp) (by simp) (fun j hj => ?_)
             · have hj0 : j = 0 := by simp at hj; omega
               subst hj0; rfl
             · have hj0 : j = 0 := by simp at hj; omega
               subst hj0; exact kR.out
            have H4 := Lib.hid (Ak.out.keep hb4)
            have K4 := Lib.hid (uf.out.trans (hb4.mono uf.out.size))
            have HB4 : Hid (wr.heap.size ≤ wu.heap.size) := hsu
            have yj : w3.heap.size < W4.heap.size := by omega
            have Jo := Lib.hid hs4
            clear fG hb4 hs4
            have ug : Hid (∀ i, i < (rowsOf k (dG ah Pk)).length → ∀ g, (Value.slice (some ⟨wu.heap.size, 0, none⟩) 1 1).ownBlock = some g → (V i).ownBlock ≠ some g) := fun i hi g h1 h2 => by
             have h3 := (U4.out.own.lt g h1).1
             have h4 := Am.out i (by rw [gJ.out] at hi; exact hi) g h2
             have := HB4.out
             omega
            have uh : Hid (∀ g, (Value.slice (some ⟨wu.heap.size, 0, none⟩) 1 1).ownBlock = some g → (Value.slice la O.length lc).ownBlock ≠ some g) := fun g h1 h2 => by
             have h3 := (U4.out.own.lt g h1).1
             have h4 := nJ.out g h2
             have := HB4.out
             omega
            have qN : Hid (∀ g, (Value.slice (some ⟨wu.heap.size, 0, none⟩) 1 1).ownBlock = some g → (Value.slice ma P.length mc).ownBlock ≠ some g) := fun g h1 h2 => by
             have h3 := (U4.out.own.lt g h1).1
             have h4 := Ap.out g h2
             have := HB4.out
             omega
            have mG : Hid (W4.ownsRow w3.heap.size 22 1 (.slice a2 k c2) k ((List.range k).map V)) := by have h := H4.out.rows.own; rw [gJ.out] at h; exact h
            have t41 : (wu.alloc (.cells #[.int .i64 p] 2)).cell? ⟨w3.heap.size, 1, none⟩ = some (.slice a2 k c2) := by rw [← kC.out]; exact H4.out.str.cell (i := 1) (by omega)
            have Jp : (wu.alloc (.cells #[.int .i64 p] 2)).frozen? ⟨w3.heap.size, 1, none⟩ = false := by rw [← kC.out]; exact H4.out.str.frozen 1
            have U5 : Hid (aF W4 wu.heap.size W4.heap.size (.slice (some ⟨wu.heap.size, 0, none⟩) 1 1) (dG ah Pk k)) := by rw [← qR.out]; exact U4.out
            have uj : Hid (∀ j v, [Value.slice (some ⟨wu.heap.size, 0, none⟩) 1 1][j]? = some v → (W4.alloc (.cells #[.slice (some ⟨wu.heap.size, 0, none⟩) 1 1] 22)).cell? ((⟨wu.heap.size + 1, 0, none⟩ : Addr).add j) = some v) := by
             have h := cell_one_new W4 (.slice (some ⟨wu.heap.size, 0, none⟩) 1 1) 22
             rw [Jo.out] at h; exact h
            have hone : ∀ u ∈ [Value.slice (some ⟨wu.heap.size, 0, none⟩) 1 1], u.oneCell' = true := by intro u hu; simp at hu; subst hu; rfl
            have pI := Lib.hid hone
            clear hone
            go_wp2_with (at_builtin; rw [← kC.out]; refine wpList_append_lies _ rfl _ _ 23 rfl w3.heap.size 22 i0 (.slice none 0 0) 1 24 Tryd.underlying23 hi hz0 hz1 hz2 rfl (by decide) _ _ _ rfl (mG.out.alloc _) ⟨wu.heap.size + 1, 0, none⟩ 1 1 [.slice (some ⟨wu.heap.size, 0, none⟩) 1 1] rfl rfl uj.out pI.out (Nat.le_refl _) (by unfold maxLen; omega) (by omega) (by simp; omega) (W4.heap.size + 1) (by simp) ?_; intro g8 um w8 kE jr uo FY; have jw := zM (bY H4.out.str (aA W4 (.cells #[.slice (some ⟨wu.heap.size, 0, none⟩) 1 1] 22))) (mG.out.alloc _) (by decide) jr; have q8 : w8.cell? ⟨w3.heap.size, 1, none⟩ = some (.slice a2 k c2) := jw.cell (i := 1) (by omega); have p8 := jw.frozen 1)
            have h9 := (H4.out.keep (aA W4 (.cells #[.slice (some ⟨wu.heap.size, 0, none⟩) 1 1] 22))).push (cap := um) (gg := g8) (by rw [gJ.out]; omega) (U5.out.below (aA _ _)) (by omega) ug.out uh.out qN.out (by rw [gJ.out]; exact kE) jr
            rw [gJ.out, ← Gh] at h9
            have K9 := Lib.hid ((K4.out.trans ((aA W4 (.cells #[.slice (some ⟨wu.heap.size, 0, none⟩) 1 1] 22)).mono K4.out.size)).trans (h9.2.below (B := w3.heap.size) (by rw [World.size_alloc]; omega) (fun b hb => hb)))
            have H9 := Lib.hid h9.1
            clear h9 kE jr uo jw
            go_wp2
            go_roundw
            case rel => exact ⟨k + 1, _, _, by omega, by go_num, H9, K9⟩
            case measure => simp [intOf]; omega
          · have qR : Hid (row ah k = dG ah Pk k) := by unfold dG Hid; rw [← wP.out, if_neg hp0]
            obtain ⟨W4, fG⟩ : ∃ y, y = wu := ⟨_, rfl⟩
            have kC : Hid (W4 = W4) := rfl
            subst fG
            have U4 := Uu
            have H4 := Ak
            have K4 := uf
            have HB4 : Hid (wr.heap.size ≤ wr.heap.size) := Nat.le_refl _
            have yj : w3.heap.size ≤ W4.heap.size := by omega
            have ug : Hid (∀ i, i < (rowsOf k (dG ah Pk)).length → ∀ g, (Value.slice ua (row ah k).length uc).ownBlock = some g → (V i).ownBlock ≠ some g) := fun i hi g h1 h2 => by
             have h3 := (U4.out.own.lt g h1).1
             have h4 := Am.out i (by rw [gJ.out] at hi; exact hi) g h2
             have := HB4.out
             omega
            have uh : Hid (∀ g, (Value.slice ua (row ah k).length uc).ownBlock = some g → (Value.slice la O.length lc).ownBlock ≠ some g) := fun g h1 h2 => by
             have h3 := (U4.out.own.lt g h1).1
             have h4 := nJ.out g h2
             have := HB4.out
             omega
            have qN : Hid (∀ g, (Value.slice ua (row ah k).length uc).ownBlock = some g → (Value.slice ma P.length mc).ownBlock ≠ some g) := fun g h1 h2 => by
             have h3 := (U4.out.own.lt g h1).1
             have h4 := Ap.out g h2
             have := HB4.out
             omega
            have mG : Hid (W4.ownsRow w3.heap.size 22 1 (.slice a2 k c2) k ((List.range k).map V)) := by have h := H4.out.rows.own; rw [gJ.out] at h; exact h
            have t41 : W4.cell? ⟨w3.heap.size, 1, none⟩ = some (.slice a2 k c2) := by exact H4.out.str.cell (i := 1) (by omega)
            have Jp : W4.frozen? ⟨w3.heap.size, 1, none⟩ = false := by exact H4.out.str.frozen 1
            have U5 : Hid (aF W4 wr.heap.size W4.heap.size (.slice ua (row ah k).length uc) (dG ah Pk k)) := by rw [← qR.out]; exact U4.out
            have uj : Hid (∀ j v, [Value.slice ua (row ah k).length uc][j]? = some v → (W4.alloc (.cells #[.slice ua (row ah k).length uc] 22)).cell? ((⟨W4.heap.size, 0, none⟩ : Addr).add j) = some v) := by
             have h := cell_one_new W4 (.slice ua (row ah k).length uc) 22
             exact h
            have hone : ∀ u ∈ [Value.slice ua (row ah k).length uc], u.oneCell' = true := by intro u hu; simp at hu; subst hu; rfl
            have pI := Lib.hid hone
            clear hone
            go_wp2_with (at_builtin; refine wpList_append_lies _ rfl _ _ 23 rfl w3.heap.size 22 i0 (.slice none 0 0) 1 24 Tryd.underlying23 hi hz0 hz1 hz2 rfl (by decide) _ _ _ rfl (mG.out.alloc _) ⟨W4.heap.size, 0, none⟩ 1 1 [.slice ua (row ah k).length uc] rfl rfl uj.out pI.out (Nat.le_refl _) (by unfold maxLen; omega) (by omega) (by simp; omega) (W4.heap.size + 1) (by simp) ?_; intro g8 um w8 kE jr uo FY; have jw := zM (bY H4.out.str (aA W4 (.cells #[.slice ua (row ah k).length uc] 22))) (mG.out.alloc _) (by decide) jr; have q8 : w8.cell? ⟨w3.heap.size, 1, none⟩ = some (.slice a2 k c2) := jw.cell (i := 1) (by omega); have p8 := jw.frozen 1)
            have h9 := (H4.out.keep (aA W4 (.cells #[.slice ua (row ah k).length uc] 22))).push (cap := um) (gg := g8) (by rw [gJ.out]; omega) (U5.out.below (aA _ _)) (by omega) ug.out uh.out qN.out (by rw [gJ.out]; exact kE) jr
            rw [gJ.out, ← Gh] at h9
            have K9 := Lib.hid ((K4.out.trans ((aA W4 (.cells #[.slice ua (row ah k).length uc] 22)).mono K4.out.size)).trans (h9.2.below (B := w3.heap.size) (by rw [World.size_alloc]; omega) (fun b hb => hb)))
            have H9 := Lib.hid h9.1
            clear h9 kE jr uo jw
            go_wp2
            go_roundw
            case rel => exact ⟨k + 1, _, _, by omega, by go_num, H9, K9⟩
            case measure => simp [intOf]; omega
        · have hi1 : ¬ (k : Int) < Pk.length := by omega
          have hkk : k = ah.length := by have := jO.out; omega
          have Rr := Lib.hid (R3.out.below KF.out)
          have s0 : wr.cell? ⟨w3.heap.size, 0, none⟩ = some (.slice la O.length lc) := HF.out.str.cell (i := 0) (by omega)
          have s1 : wr.cell? ⟨w3.heap.size, 1, none⟩ = some (.slice a2 k c2) := HF.out.str.cell (i := 1) (by omega)
          have s2 : wr.cell? ⟨w3.heap.size, 2, none⟩ = some (.slice ma P.length mc) := HF.out.str.cell (i := 2) (by omega)
          have r0 := Rr.out.c0
          have r1 := Rr.out.c1
          have r2 := Rr.out.c2
          have g0 := World.rowIs.frozen Rr.out 0
          have g1 := World.rowIs.frozen Rr.out 1
          have g2 := World.rowIs.frozen Rr.out 2
          have hst := MP (w := w) (wr := wr) (t := w.heap.size + 1) (n := w3.heap.size) Rr.out HF.out.game (by have := cO.out; omega) (by omega) (by have := cO.out; omega) Br.out
          have HST := Lib.hid hst
          have u0 := hst.2.2.c0
          have u1 := hst.2.2.c1
          have u2 := hst.2.2.c2
          have HKK := Lib.hid hkk
          clear hst hkk mD
          go_wp2
          exact bodyPost_ret (v := .tuple #[.agg #[.slice la O.length lc, .slice a2 k c2, .slice ma P.length mc], .bool true]) (by simp [results, Tryd.results97, go_sem, u0, u1, u2]) rfl
           ⟨_, by rw [HE.out.2.2.2], by rw [HE.out.1, HE.out.2.1, HE.out.2.2.1, ← HKK.out]; exact HST.out.1, HST.out.2.1⟩
end
section
open Go.RowKit
noncomputable def jb (O : List Int) (ah : List (List Int)) (P Pk : List Int) : Bool := fO O ah P Pk && decide (dJ (rowsOf ah.length (dG ah Pk)) O P = dJ ah O P)
theorem NC {O P Pk : List Int} {ah : List (List Int)} (h : fO O ah P Pk = true) : fZ O (rowsOf ah.length (dG ah Pk)) P = true := by
 unfold fO at h
 rw [Bool.and_eq_true] at h
 obtain ⟨⟨h1, h2, h3, h4⟩, h5, h6⟩ := iY.1 h.1
 have hp := tV.1 h.2
 refine iY.2 ⟨⟨h1, h2, by rw [oV]; exact h3, fun k hk => ?_⟩, h5, h6⟩
 obtain ⟨v1, v2, v3, v4⟩ := h4 k hk
 have hkz : k < ah.length := by omega
 have hrw : row (rowsOf ah.length (dG ah Pk)) k = dG ah Pk k := vY hkz
 unfold zF
 rw [hrw]
 unfold dG
 by_cases e : 0 ≤ nth Pk k
 · rw [if_pos e]
   have hm : nth Pk k ∈ row ah k := by
    rcases hp.2 k (by rw [hp.1]; exact hkz) with h | h
    · omega
    · exact h
   obtain ⟨y, hy, hyn⟩ := (jL ⟨h1, h2, h3, h4⟩).eu k hkz _ hm
   exact ⟨v1, by simp, by simp, aaj _ _ (by simp) fun x hx => by
    have : x = nth Pk k := by simpa using hx
    omega⟩
 · rw [if_neg e]
   exact ⟨v1, v2, v3, v4⟩
set_option maxHeartbeats 16000000 in
set_option maxRecDepth 100000 in
theorem aau {w : World} {v : Value} {O P Pk : List Int} {ah : List (List Int)} {aK : Option Addr} {r : Bool} (cK : Nat) (hr : jb O ah P Pk = r) (h : gX w v O ah P) (hK : aV w aK Pk) :
 Calls Tryd.prog 51 #[v, .slice aK Pk.length cK] w fun e w' => e = .returned (.bool r) ∧ Below w.heap.size w w' := by
 have fP := Lib.hid h
 obtain ⟨ao, an, ap, co, cn, cp, A, C, rfl, h1, h2, h3⟩ := h
 obtain ⟨w1, hw1⟩ : ∃ y, y = w.alloc (.cells #[.slice ao O.length co, .slice an ah.length cn, .slice ap P.length cp] 35) := ⟨_, rfl⟩
 have HW1 := Lib.hid hw1
 have B1 : Hid (Below w.heap.size w w1) := by rw [hw1]; exact aA _ _
 have T1 : Hid (aT w1 w.heap.size 35 (.slice ao O.length co) (.slice an ah.length cn) (.slice ap P.length cp)) := by rw [hw1]; exact aT.new _ _ _ _ _
 have HC := Lib.hid (af7 cK ⟨rfl, rfl, rfl, rfl⟩ (fP.out.below B1.out) (hK.below B1.out))
 have c0 := T1.out.c0
 have c1 := T1.out.c1
 have c2 := T1.out.c2
 clear hw1 h1 h2 h3 hK
 cases hb : fO O ah P Pk with
 | false =>
   have HR : Hid (r = false) := by rw [← hr]; unfold jb Hid; rw [hb]; rfl
   rw [hb] at HC
   clear hr
   go_enter Tryd.func51, Tryd.ntmps51
   go_wp2_with fail
   rw [← HW1.out]
   refine HC.out.mono ?_
   rintro e w2 ⟨x, rfl, hx, hb2⟩
   obtain ⟨a0, k0, a1, k1, a2, k2, V, rfl, _⟩ := hx.shape3
   have B2 := Lib.hid (B1.out.trans (hb2.mono B1.out.size))
   have B3 : Hid (Below w.heap.size w (w2.alloc (.cells #[.slice a0 (Af O ah P Pk).length k0, .slice a1 (Ag O ah P Pk).length k1, .slice a2 (Ah O ah P Pk).length k2] 35))) := B2.out.alloc B2.out.size _
   clear hx hb2 HC c0 c1 c2
   go_wp2
   go_quiet (fail)
   go_wp2
   go_ret
   exact ⟨dY HR.out.symm, below_drewN B3.out _⟩
 | true =>
   have hpar : fZ O ah P = true := by unfold fO at hb; rw [Bool.and_eq_true] at hb; exact hb.1
   have hY := Jm (O := O) (ah := ah) (P := P) (Pk := Pk) ⟨rfl, rfl, rfl, rfl⟩ hb
   have HR : Hid (decide (dJ (rowsOf ah.length (dG ah Pk)) O P = dJ ah O P) = r) := by rw [← hr]; unfold jb Hid; rw [hb, Bool.true_and]
   have Dp := NC hb
   obtain ⟨N, hN⟩ : ∃ N, N = rowsOf ah.length (dG ah Pk) := ⟨_, rfl⟩
   rw [← hN] at HR Dp hY
   rw [hY.1, hY.2.1, hY.2.2.1, hY.2.2.2] at HC
   have Jq := Lib.hid hpar
   have HP2 := Lib.hid Dp
   clear hr hb hY hpar Dp hN
   go_enter Tryd.func51, Tryd.ntmps51
   go_wp2_with fail
   rw [← HW1.out]
   refine HC.out.mono ?_
   rintro e w2 ⟨x, rfl, hx, hb2⟩
   have HX := Lib.hid hx
   obtain ⟨a0, k0, a1, k1, a2, k2, V, rfl, _⟩ := hx.shape3
   have B2 := Lib.hid (B1.out.trans (hb2.mono B1.out.size))
   obtain ⟨w3, hw3⟩ : ∃ y, y = w2.alloc (.cells #[.slice a0 O.length k0, .slice a1 N.length k1, .slice a2 P.length k2] 35) := ⟨_, rfl⟩
   have HW3 := Lib.hid hw3
   have hb3 : Below w2.heap.size w2 w3 := by rw [hw3]; exact aA _ _
   have U3 : Hid (aT w3 w2.heap.size 35 (.slice a0 O.length k0) (.slice a1 N.length k1) (.slice a2 P.length k2)) := by rw [hw3]; exact aT.new _ _ _ _ _
   have T3 := Lib.hid ((T1.out.below hb2).below (hb3.mono (Nat.le_refl _)))
   have B3 := Lib.hid (B2.out.trans (hb3.mono B2.out.size))
   have Uc := Lib.hid (HX.out.below hb3).at
   have Gi := Lib.hid (fP.out.below B3.out)
   have bM : Hid (∀ W, Below w3.heap.size w3 W → W.cell? ⟨w2.heap.size, 0, none⟩ = some (.slice a0 O.length k0) ∧ W.cell? ⟨w2.heap.size, 1, none⟩ = some (.slice a1 N.length k1) ∧ W.cell? ⟨w2.heap.size, 2, none⟩ = some (.slice a2 P.length k2) ∧ W.cell? ⟨w.heap.size, 0, none⟩ = some (.slice ao O.length co) ∧ W.cell? ⟨w.heap.size, 1, none⟩ = some (.slice an ah.length cn) ∧ W.cell? ⟨w.heap.size, 2, none⟩ = some (.slice ap P.length cp)) := fun W hb => ⟨(U3.out.below hb).c0, (U3.out.below hb).c1, (U3.out.below hb).c2, (T3.out.below hb).c0, (T3.out.below hb).c1, (T3.out.below hb).c2⟩
   have Ai : Hid (∀ W, Below w3.heap.size w3 W → Calls Tryd.prog 52 #[.agg #[.slice a0 O.length k0, .slice a1 N.length k1, .slice a2 P.length k2]] W (sS W (dJ N O P))) := fun W hb => TP (Uc.out.below hb) HP2.out
   have HC2 : Hid (∀ W, Below w3.heap.size w3 W → Calls Tryd.prog 52 #[.agg #[.slice ao O.length co, .slice an ah.length cn, .slice ap P.length cp]] W (sS W (dJ ah O P))) := fun W hb => TP (Gi.out.below hb) Jq.out
   have Kd : Hid (Below w3.heap.size w3 w3.drew) := (Below.refl _ _).drew
   have h0 := bM.out _ Kd.out
   clear hx hb2 hb3 HC c0 c1 c2
   rw [hw3] at h0
   clear hw3
   go_wp2
   rw [← HW3.out] at h0 ⊢
   go_region_held3 (fun W => W.cell? ⟨w2.heap.size, 0, none⟩ = some (.slice a0 O.length k0) ∧ W.cell? ⟨w2.heap.size, 1, none⟩ = some (.slice a1 N.length k1) ∧ W.cell? ⟨w2.heap.size, 2, none⟩ = some (.slice a2 P.length k2) ∧ W.cell? ⟨w.heap.size, 0, none⟩ = some (.slice ao O.length co) ∧ W.cell? ⟨w.heap.size, 1, none⟩ = some (.slice an ah.length cn) ∧ W.cell? ⟨w.heap.size, 2, none⟩ = some (.slice ap P.length cp))
    (first
     | exact bM.out _ Kd.out
     | exact bM.out _ Ka.out
     | exact bM.out _ Kb.out
     | exact bM.out _ Kc.out)
    (first
     | (go_at_call 98; refine (afS xc yc HR.out Xb.out Yb.out).mono ?_; rintro e wc ⟨rfl, hb⟩; have Kc := Lib.hid (Kb.out.trans (hb.mono Kb.out.size)); clear hb)
     | (go_at_call 52; refine (HC2.out _ Ka.out).mono ?_; rintro e wb ⟨y, rfl, hy, hb⟩; obtain ⟨ya, yc, hus, hyi, _⟩ := hy.shape; subst hus; have Kb := Lib.hid (Ka.out.trans (hb.mono Ka.out.size)); have Xb := Lib.hid (Xa.out.below hb); have Yb := Lib.hid hyi; clear hy hb hyi)
     | (go_at_call 52; refine (Ai.out _ Kd.out).mono ?_; rintro e wa ⟨x, rfl, hx, hb⟩; obtain ⟨xa, xc, hus, hxi, _⟩ := hx.shape; subst hus; have Ka := Lib.hid (Kd.out.trans (hb.mono Kd.out.size)); have Xa := Lib.hid hxi; clear hx hb hxi))
   have Bc := Lib.hid (B3.out.trans (Kc.out.mono B3.out.size))
   clear h0
   go_wp2
   go_ret
   exact ⟨rfl, Bc.out⟩
end
end Go.Proofs.YtglbkbiphcgidaaDoor
