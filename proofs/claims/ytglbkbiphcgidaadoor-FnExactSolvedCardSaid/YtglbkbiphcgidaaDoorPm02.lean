import Derived.Deep.RegionHeld3
import Derived.Test.YtglbkbiphcgidaaDoorPm00
import Derived.Test.YtglbkbiphcgidaaDoorPm01
namespace Go.Proofs.YtglbkbiphcgidaaDoor
open Go.RowKit
theorem aeZ {w : World} {b n B size m : Nat} {t e : TypeId} {f : Nat → Value} {v : Value} {xs : List Value} (h : w.rowIs b t n f) (ho : w.ownsRow B e size v m xs) (hte : e ≠ t) : v.ownBlock ≠ some b := by
 intro hb
 obtain ⟨c, hc, _⟩ := h
 rcases ho.2 with ⟨rfl, _⟩ | ⟨g, _, _, rfl, _, h1, _⟩
 · simp [Value.ownBlock] at hb
 · simp [Value.ownBlock] at hb
   subst hb
   rw [hc] at h1
   simp at h1
   exact hte h1.2.symm
def Rq (wr : World) (n N k : Nat) (I : Nat → Bool) (f : Nat → Nat → Bool) (V : Nat → Value) : Prop :=
 ∀ j, j < k → I j = true → ∃ b, V j = .slice (some ⟨b, 0, none⟩) N N ∧ n ≤ b ∧ wr.rowIs b 4 N (bH (f j))
theorem Rq.only {wr w' : World} {n N k : Nat} {I : Nat → Bool} {f : Nat → Nat → Bool} {V : Nat → Value} {S : Nat → Prop} (h : Rq wr n N k I f V) (hk : Only S wr w') (hs : ∀ b c, wr.rowIs b 4 N c → ¬ S b) : Rq w' n N k I f V := fun j hj hI => by
 obtain ⟨b, h1, h2, h3⟩ := h j hj hI
 exact ⟨b, h1, h2, fV h3 hk (hs b _ h3)⟩
end Go.Proofs.YtglbkbiphcgidaaDoor
namespace Go.Proofs.YtglbkbiphcgidaaDoor
section
open Go.RowKit
theorem aT.set0 {w : World} {g : Nat} {T : TypeId} {a b c : Value} (h : aT w g T a b c) (x : Value) : aT (w.setCell ⟨g, 0, none⟩ x) g T x b c :=
 World.rowIs.congr (h.set 0 x) fun i hi => by
  by_cases h : i = 0 <;> simp [tri, h]
theorem aT.set1 {w : World} {g : Nat} {T : TypeId} {a b c : Value} (h : aT w g T a b c) (x : Value) : aT (w.setCell ⟨g, 1, none⟩ x) g T a x c :=
 World.rowIs.congr (h.set 1 x) fun i hi => by
  have h3 : i = 0 ∨ i = 1 ∨ i = 2 := by omega
  rcases h3 with rfl | rfl | rfl <;> simp [tri]
theorem aT.set2 {w : World} {g : Nat} {T : TypeId} {a b c : Value} (h : aT w g T a b c) (x : Value) : aT (w.setCell ⟨g, 2, none⟩ x) g T a b x :=
 World.rowIs.congr (h.set 2 x) fun i hi => by
  have h3 : i = 0 ∨ i = 1 ∨ i = 2 := by omega
  rcases h3 with rfl | rfl | rfl <;> simp [tri]
theorem aT.frozen {w : World} {g : Nat} {T : TypeId} {a b c : Value} (h : aT w g T a b c) (i : Nat) : w.frozen? ⟨g, i, none⟩ = false := World.rowIs.frozen h i
theorem aT.other {w : World} {g : Nat} {T : TypeId} {a b c : Value} (h : aT w g T a b c) {p : Addr} (hp : g ≠ p.block) (x : Value) : aT (w.setCell p x) g T a b c := World.rowIs.setOther h hp x
theorem aT.alloc {w : World} {g : Nat} {T : TypeId} {a b c : Value} (h : aT w g T a b c) (o : Obj) : aT (w.alloc o) g T a b c := h.below (aA w o)
theorem aT.xJ {w : World} {g : Nat} (hg : g = w.heap.size) (T : TypeId) (a b c : Value) : aT (w.alloc (.cells #[a, b, c] T)) g T a b c := by subst hg; exact aT.new _ _ _ _ _
theorem aT.only {w w' : World} {g : Nat} {t : TypeId} {a b c : Value} {S : Nat → Prop} (h : aT w g t a b c) (hk : Only S w w') (hs : ¬ S g) : aT w' g t a b c := fV h hk hs
theorem aT.dL {w : World} {g : Nat} {t e : TypeId} {a b c x : Value} {B size n : Nat} {xs : List Value} (h : aT w g t a b c) (ho : w.ownsRow B e size x n xs) (hte : e ≠ t) : x.ownBlock ≠ some g := aeZ h ho hte
set_option maxHeartbeats 2000000 in
theorem ae0 {w : World} {B D : Nat} {vo vn : Value} {V : Nat → Value} {O : List Int} {ah : List (List Int)} {k r : Int} (hr : k + O.length + fD ah ah.length = r) (h2 : aF w B D vo O) (h3 : OwnRows w B D vn V ah) (h5 : ∀ i, i < ah.length → ∀ g, (V i).ownBlock = some g → vo.ownBlock ≠ some g) (h0 : 0 ≤ k) (h1 : k ≤ 1073741824) (hs : jq O ah ≤ 1048576) :
 Calls Tryd.prog 67 #[.agg #[vo, vn], .int .i64 k] w fun e w' => e = .returned (.int .i64 r) ∧ aF w' B D vo (marks k O.length) ∧ OwnRows w' B D vn V (wC (k + O.length) ah) ∧
  Only (fun b => vo.ownBlock = some b ∨ ∃ i, i < ah.length ∧ (V i).ownBlock = some b) w w' := by
 subst hr
 unfold jq at hs
 obtain ⟨a, cap, rfl, hI, _⟩ := h2.shape
 obtain ⟨a', cap', rfl, hR, _⟩ := h3.shape
 have HV := Lib.hid h5
 have HI := Lib.hid h2
 have HR := Lib.hid h3
 clear h2 h3 h5 hI hR
 go_enter Tryd.func67, Tryd.ntmps67
 go_wp2_with fail
 refine (E9 (HI.out.below (aA _ _)) k h0 (by omega)).mono ?_
 rintro e w1 ⟨rfl, g1, g2⟩
 have g2' := (Only.of_below (S := fun b => (Value.slice a O.length cap).ownBlock = some b) (aA w (.cells #[.slice a O.length cap, .slice a' ah.length cap'] 33))).trans g2
 have hb0 : aI w1 w.heap.size 33 (.slice a O.length cap) (.slice a' ah.length cap') := by
  refine (g2.block _ (by simp) (fun hb => ?_)).trans (aI.new w _ _ _)
  have := (HI.out.own.lt _ hb).2
  omega
 have hR1 : OwnRows w1 B D (.slice a' ah.length cap') V ah := (HR.out.below (aA w _)).only g2 (iV HR.out.own HI.out.own) (fun k hk g hg => HV.out k hk g hg)
 have HB := Lib.hid g2'
 have H1 := Lib.hid g1
 have HR1 := Lib.hid hR1
 have c0 := hb0.cell0
 have c1 := hb0.cell1
 clear g1 g2 g2' hb0 hR1
 go_wp2_with fail
 refine (aet HR1.out (k + O.length) (by omega) (by omega) (by omega)).mono ?_
 rintro e w2 ⟨rfl, g1, g2⟩
 have hfin : Hid (aF w2 B D (.slice a O.length cap) (marks k O.length) ∧ OwnRows w2 B D (.slice a' ah.length cap') V (wC (k + O.length) ah)) :=
  ⟨H1.out.only g2 (fun g hg ⟨i, hi, hg'⟩ => HV.out i hi g hg' hg), g1⟩
 have hB2 : Hid (Only (fun b => (Value.slice a O.length cap).ownBlock = some b ∨ ∃ i, i < ah.length ∧ (V i).ownBlock = some b) w w2) := (HB.out.mono fun b hb => .inl hb).trans (g2.mono fun b ⟨i, hi, hb⟩ => .inr ⟨i, hi, hb⟩)
 clear g1 g2
 go_wp2
 go_ret
 exact ⟨rfl, hfin.out.1, hfin.out.2, hB2.out⟩
def jK (O : List Int) (ah : List (List Int)) (P : List Int) : Nat := jq O ah + P.length
set_option maxHeartbeats 4000000 in
theorem MR {w : World} {v : Value} {O : List Int} {ah : List (List Int)} {P : List Int} {left r : Int} (hr : leftOf left (jK O ah P) = r) (h : gX w v O ah P) (h0 : 0 ≤ left) (h1 : left ≤ 1048576) :
 Calls Tryd.prog 13 #[v, .int .i64 left] w fun e w' => e = .returned (.int .i64 r) ∧ Below w.heap.size w w' := by
 obtain ⟨ao, an, ap, co, cn, cp, A, C, rfl, hO, hN, hP⟩ := h
 have sW := hP.len
 obtain ⟨w1, hw1⟩ : ∃ y, y = w.alloc (.cells #[.slice ao O.length co, .slice an ah.length cn, .slice ap P.length cp] 27) := ⟨_, rfl⟩
 have HW1 := Lib.hid hw1
 have B1 : Hid (Below w.heap.size w w1) := by rw [hw1]; exact aA _ _
 have T1 : Hid (aT w1 w.heap.size 27 (.slice ao O.length co) (.slice an ah.length cn) (.slice ap P.length cp)) := by rw [hw1]; exact aT.new _ _ _ _ _
 obtain ⟨m, hm⟩ : ∃ m, leftOf left (jq O ah) = m := ⟨_, rfl⟩
 have HA : Hid (gZ w (.agg #[.slice ao O.length co, .slice an ah.length cn]) O ah) := ⟨_, _, _, _, _, _, rfl, hO, hN⟩
 have HC := Lib.hid (aeo hm (HA.out.below B1.out) h0 h1)
 clear hw1 hO hN hP
 by_cases hlt : left < jq O ah
 · have hm1 : m = -1 := by rw [← hm]; exact sU hlt
   have HE : Hid (r = -1) := by rw [← hr]; exact sU (by unfold jK; omega)
   have hneg : m < 0 := by omega
   clear hm hr hlt hm1
   go_enter Tryd.func13, Tryd.ntmps13
   go_wp2_with fail
   rw [← HW1.out]
   refine HC.out.mono ?_
   rintro e w2 ⟨rfl, hb⟩
   have B2 := Lib.hid (B1.out.trans (hb.mono B1.out.size))
   clear hb HC
   go_wp2
   go_ret
   exact ⟨kG HE.out.symm, B2.out⟩
 · have hm1 : m = left - jq O ah := by rw [← hm]; exact zH (by omega)
   have hm0 : ¬ m < 0 := by omega
   have hr2 : leftOf m P.length = r := by
    rw [← hr]; unfold leftOf jK
    by_cases h : m < P.length
    · rw [if_pos h, if_pos (by omega)]
    · rw [if_neg h, if_neg (by omega)]; omega
   have HZ := Lib.hid (fun W => QU ap P.length cp m W sW (by omega) (by omega))
   rw [hr2] at HZ
   have HR2 := Lib.hid hr2
   have aj9 : 0 ≤ m := by omega
   clear hm hr hlt hm1 hr2
   go_enter Tryd.func13, Tryd.ntmps13
   go_wp2_with fail
   rw [← HW1.out]
   refine HC.out.mono ?_
   rintro e w2 ⟨rfl, hb⟩
   have B2 := Lib.hid (B1.out.trans (hb.mono B1.out.size))
   have T2 := Lib.hid (T1.out.below hb)
   clear hb HC
   have t2 := T2.out.c2
   go_wp2_with fail
   refine (HZ.out _).mono ?_
   rintro e w3 ⟨rfl, rfl⟩
   by_cases hs : r < 0
   · have HE : Hid (r = -1) := by
      have := HR2.out
      unfold leftOf at this
      simp only [Hid]
      split at this <;> omega
     go_wp2
     go_ret
     exact ⟨kG HE.out.symm, B2.out⟩
   · go_wp2
     go_ret
     exact ⟨rfl, B2.out⟩
set_option maxHeartbeats 4000000 in
theorem Zp {w : World} {v v' : Value} {O : List Int} {ah : List (List Int)} {P : List Int} (h : gX w v O ah P) (h' : gX w v' O ah P) :
 Calls Tryd.prog 19 #[v, v'] w fun e w' => e = .returned (.bool true) ∧ Below w.heap.size w w' := by
 obtain ⟨ao, an, ap, co, cn, cp, A, C, rfl, h1, h2, h3⟩ := h
 obtain ⟨bo, bn, bp, Rt, dn, dp, A', C', rfl, g1, g2, g3⟩ := h'
 obtain ⟨w0, hw0⟩ : ∃ y, y = w.alloc (.cells #[.slice ao O.length co, .slice an ah.length cn, .slice ap P.length cp] 35) := ⟨_, rfl⟩
 have hs0 : w0.heap.size = w.heap.size + 1 := by rw [hw0]; simp
 obtain ⟨w1, hw1⟩ : ∃ y, y = w0.alloc (.cells #[.slice bo O.length Rt, .slice bn ah.length dn, .slice bp P.length dp] 35) := ⟨_, rfl⟩
 have HW0 := Lib.hid hw0
 have HW1 := Lib.hid hw1
 have hb0 : Below w.heap.size w w0 := by rw [hw0]; exact aA _ _
 have hb1 : Below w0.heap.size w0 w1 := by rw [hw1]; exact aA _ _
 have B1 : Hid (Below w.heap.size w w1) := hb0.trans (hb1.mono (by omega))
 have MS : Hid (aT w1 w.heap.size 35 (.slice ao O.length co) (.slice an ah.length cn) (.slice ap P.length cp)) := aT.below (by rw [hw0]; exact aT.new _ _ _ _ _) hb1
 have MV : Hid (aT w1 (w.heap.size + 1) 35 (.slice bo O.length Rt) (.slice bn ah.length dn) (.slice bp P.length dp)) := by rw [← hs0, hw1]; exact aT.new _ _ _ _ _
 have HC := Lib.hid (aeE (show gZ w1 (.agg #[.slice ao O.length co, .slice an ah.length cn]) O ah from ⟨_, _, _, _, _, _, rfl, h1.below B1.out, h2.below B1.out⟩) (show gZ w1 (.agg #[.slice bo O.length Rt, .slice bn ah.length dn]) O ah from ⟨_, _, _, _, _, _, rfl, g1.below B1.out, g2.below B1.out⟩))
 have HPa : Hid (jF w (.slice ap P.length cp) P) := ⟨_, _, rfl, h3⟩
 have HPb : Hid (jF w (.slice bp P.length dp) P) := ⟨_, _, rfl, g3⟩
 clear hw0 hw1 hb0 hb1 hs0 h1 h2 h3 g1 g2 g3
 go_enter Tryd.func19, Tryd.ntmps19
 go_wp2_with fail
 rw [← HW0.out, ← HW1.out]
 refine HC.out.mono ?_
 rintro e w2 ⟨rfl, hb⟩
 have B2 := Lib.hid (B1.out.trans (hb.mono B1.out.size))
 have Ru := Lib.hid (MS.out.below hb)
 have Ry := Lib.hid (MV.out.below hb)
 clear hb HC
 have ta2 := Ru.out.c2
 have tb2 := Ry.out.c2
 go_wp2_with fail
 refine (MJ (HPa.out.below B2.out) (HPb.out.below B2.out)).mono ?_
 rintro e w3 ⟨rfl, hb⟩
 have B3 := Lib.hid (B2.out.trans (hb.mono B2.out.size))
 clear hb
 go_wp2
 go_ret
 exact ⟨rfl, B3.out⟩
set_option maxHeartbeats 4000000 in
theorem Zq {w : World} {B D : Nat} {v : Value} {O : List Int} {ah : List (List Int)} {P : List Int} {k r : Int} (hr : k + O.length + fD ah ah.length + P.length = r) (h : eG w B D v O ah P) (h0 : 0 ≤ k) (h1 : k ≤ 1073741824) (hs : jK O ah P ≤ 1048576) :
 Calls Tryd.prog 21 #[v, .int .i64 k] w fun e w' => e = .returned (.int .i64 r) ∧
  eG w' B D v (marks k O.length) (wC (k + O.length) ah) (marks (k + O.length + fD ah ah.length) P.length) ∧ Only (fun b => B ≤ b ∧ b < D) w w' := by
 unfold jK at hs
 have hsA : jq O ah ≤ 1048576 := by omega
 have hsP : P.length ≤ 1048576 := by omega
 have hA0 := hsA
 unfold jq at hA0
 obtain ⟨m, hm⟩ : ∃ m : Int, k + O.length + fD ah ah.length = m := ⟨_, rfl⟩
 have hm0 : 0 ≤ m := by omega
 have hm1 : m ≤ 1152921504606846976 := by omega
 have HM := Lib.hid hm
 rw [hm] at hr ⊢
 have HR := Lib.hid hr
 obtain ⟨vo, vn, vp, V, rfl, h2, h3, h4, h5, h6, h7⟩ := h
 obtain ⟨a, cap, rfl, hI, _⟩ := h2.shape
 obtain ⟨a', cap', rfl, Rz, _⟩ := h3.shape
 obtain ⟨a'', cap'', rfl, hPp, _⟩ := h4.shape
 obtain ⟨w1, hw1⟩ : ∃ y, y = w.alloc (.cells #[.slice a O.length cap, .slice a' ah.length cap', .slice a'' P.length cap''] 35) := ⟨_, rfl⟩
 have HW1 := Lib.hid hw1
 have hb1 : Below w.heap.size w w1 := by rw [hw1]; exact aA _ _
 have T1 : Hid (aT w1 w.heap.size 35 (.slice a O.length cap) (.slice a' ah.length cap') (.slice a'' P.length cap'')) := by rw [hw1]; exact aT.new _ _ _ _ _
 have HAo : Hid (jm w1 B D (.agg #[.slice a O.length cap, .slice a' ah.length cap']) O ah) := ⟨_, _, V, rfl, h2.below hb1, h3.below hb1, h5⟩
 have HO := Lib.hid (h2.below hb1)
 have HRs := Lib.hid (h3.below hb1)
 have HP := Lib.hid (h4.below hb1)
 have H5 := Lib.hid h5
 have H6 := Lib.hid h6
 have H7 := Lib.hid h7
 have B1 := Lib.hid hb1
 have hlt : ∀ g, B ≤ g → g < D → g < w.heap.size ∨ D ≤ w.heap.size ∨ True := fun _ _ _ => .inr (.inr trivial)
 clear h2 h3 h4 h5 h6 h7 hI Rz hPp hw1 hb1 hr hm hlt
 -- the three slices of the game are marked in turn: each of them apart
 have hHA := HAo.out
 obtain ⟨Rj, Rk, V', hv', q1, q2, q3⟩ := hHA
 clear hv' q1 q2 q3 V' Rj Rk
 go_enter Tryd.func21, Tryd.ntmps21
 go_wp2_with fail
 rw [← HW1.out]
 refine (ae0 HM.out HO.out HRs.out H5.out h0 h1 hsA).mono ?_
 rintro e w2 ⟨rfl, g1, g2, g3⟩
 have T2 := Lib.hid (World.rowIs.of_block T1.out (g3.block _ (World.rowIs.lt T1.out) (fun hb => by
  rcases hb with hb | ⟨i, hi, hb⟩
  · have := HO.out.own.lt _ hb
    exact T1.out.dL HO.out.own (by decide) hb
  · exact T1.out.dL (HRs.out.rows i hi).own (by decide) hb)))
 have HP2 := Lib.hid (HP.out.only g3 (fun g hg hb => by
  rcases hb with hb | ⟨i, hi, hb⟩
  · exact H7.out g hb hg
  · exact H6.out i hi g hb hg))
 have K2 := Lib.hid g3
 have G1 := Lib.hid g1
 have G2 := Lib.hid g2
 clear g1 g2 g3
 have t2 := aT.c2 T2.out
 go_wp2_with fail
 refine (E9 HP2.out m hm0 hm1).mono ?_
 rintro e w3 ⟨rfl, g1, g2⟩
 have hfin : Hid (eG w3 B D (.agg #[.slice a O.length cap, .slice a' ah.length cap', .slice a'' P.length cap'']) (marks k O.length) (wC (k + O.length) ah) (marks m P.length)) :=
  ⟨_, _, _, V, rfl, G1.out.only g2 (fun g hg hb => H7.out g hg hb), G2.out.only g2 (fun g hg hb => iV G2.out.own HP2.out.own g hg hb) (fun i hi g hg hb => H6.out i (by rw [CS] at hi; exact hi) g hg hb), g1, fun i hi => H5.out i (by rw [CS] at hi; exact hi), fun i hi => H6.out i (by rw [CS] at hi; exact hi), H7.out⟩
 have hO3 : Hid (Only (fun b => B ≤ b ∧ b < D) w w3) := (Only.of_below B1.out).trans ((K2.out.mono fun b hb => by
  rcases hb with hb | ⟨i, hi, hb⟩
  · exact ⟨(HO.out.own.lt b hb).1, HO.out.top b hb⟩
  · exact ⟨((HRs.out.rows i hi).own.lt b hb).1, (HRs.out.rows i hi).top b hb⟩).trans (g2.mono fun b hb => ⟨(HP2.out.own.lt b hb).1, HP2.out.top b hb⟩))
 have HR3 : Hid (m + P.length = r) := HR.out
 clear g1 g2
 go_wp2
 go_ret
 exact ⟨kG HR3.out, hfin.out, hO3.out⟩
set_option maxHeartbeats 4000000 in
set_option maxRecDepth 100000 in
theorem zN {w : World} {v : Value} {O : List Int} {ah : List (List Int)} {P : List Int} (h : gX w v O ah P) (hn : ah.length ≤ 1048576) :
 Calls Tryd.prog 15 #[v] w (aeU w O ah P) := by
 obtain ⟨ao, an, ap, co, cn, cp, A, C, rfl, hO, hN, hP⟩ := h
 obtain ⟨w1, hw1⟩ : ∃ y, y = ((w.alloc (.cells #[.slice ao O.length co, .slice an ah.length cn, .slice ap P.length cp] 27)).alloc (.cells #[.slice none 0 0, .slice none 0 0, .slice none 0 0] 35)).alloc (.cells #[.slice none 0 0, .slice none 0 0, .slice none 0 0] 35) := ⟨_, rfl⟩
 have HW1 := Lib.hid hw1
 have hs1 : w1.heap.size = w.heap.size + 1 + 1 + 1 := by rw [hw1]; simp
 have cO := Lib.hid hs1
 have B1 : Hid (Below w.heap.size w w1) := by rw [hw1]; exact (below2 _ _ _).alloc (by simp; omega) _
 have T1 : Hid (aT w1 w.heap.size 27 (.slice ao O.length co) (.slice an ah.length cn) (.slice ap P.length cp)) := by rw [hw1]; exact ((aT.new w _ _ _ _).alloc _).alloc _
 have R1 : Hid (aT w1 (w.heap.size + 1) 35 (.slice none 0 0) (.slice none 0 0) (.slice none 0 0)) := by rw [hw1]; exact (aT.xJ (by simp) _ _ _ _).alloc _
 have U1 : Hid (aT w1 (w.heap.size + 1 + 1) 35 (.slice none 0 0) (.slice none 0 0) (.slice none 0 0)) := by rw [hw1]; exact aT.xJ (by simp) _ _ _ _
 have HA : Hid (gZ w (.agg #[.slice ao O.length co, .slice an ah.length cn]) O ah) := ⟨_, _, _, _, _, _, rfl, hO, hN⟩
 have HPv : Hid (jF w (.slice ap P.length cp) P) := ⟨_, _, rfl, hP⟩
 have HC := Lib.hid (aed (HA.out.below B1.out) hn)
 clear hw1 hs1 hO hN hP
 go_enter Tryd.func15, Tryd.ntmps15
 go_wp2_with fail
 rw [← HW1.out]
 refine HC.out.mono ?_
 rintro e w2 ⟨rfl, hc, -⟩
 obtain ⟨b0, hs0⟩ : ∃ s, s = w1.heap.size + 3 := ⟨_, rfl⟩
 obtain ⟨b1, hs1⟩ : ∃ s, s = w1.heap.size + 4 := ⟨_, rfl⟩
 have G2 := Lib.hid (hc.owned (HA.out.below B1.out))
 rw [← hs0, ← hs1] at G2 ⊢
 have B2 := Lib.hid (B1.out.trans (hc.below.mono B1.out.size))
 have T2 := Lib.hid (T1.out.below hc.below)
 have R2 := Lib.hid (R1.out.below hc.below)
 have U2 := Lib.hid (U1.out.below hc.below)
 have hsz2 := hc.size
 have HS2 := Lib.hid hsz2
 clear hc HC hs0 hs1 hsz2
 have t0 := T2.out.c0
 have t1 := T2.out.c1
 have t2 := T2.out.c2
 have u0 := U2.out.c0
 have u1 := U2.out.c1
 have fu0 := U2.out.frozen 0
 have fu1 := U2.out.frozen 1
 go_wp2_with fail
 obtain ⟨w3, hw3⟩ : ∃ y, y = (w2.setCell ⟨w.heap.size + 1 + 1, 0, none⟩ (.slice (some ⟨b0, 0, none⟩) O.length O.length)).setCell ⟨w.heap.size + 1 + 1, 1, none⟩ (.slice (some ⟨b1, 0, none⟩) ah.length ah.length) := ⟨_, rfl⟩
 have HW3 := Lib.hid hw3
 have hO3 : Only (fun b => b = w.heap.size + 1 + 1) w2 w3 := by rw [hw3]; exact ((Only.refl (fun b => b = w.heap.size + 1 + 1) w2).setCell (p := ⟨w.heap.size + 1 + 1, 0, none⟩) rfl _).setCell (p := ⟨w.heap.size + 1 + 1, 1, none⟩) rfl _
 have hs3 : w3.heap.size = w2.heap.size := by rw [hw3]; simp
 have wI := Lib.hid hs3
 have B3 := Lib.hid (B2.out.trans (hO3.below (B := w.heap.size) B2.out.size (fun b hb => by omega)))
 have U3 : Hid (aT w3 (w.heap.size + 1 + 1) 35 (.slice (some ⟨b0, 0, none⟩) O.length O.length) (.slice (some ⟨b1, 0, none⟩) ah.length ah.length) (.slice none 0 0)) := by rw [hw3]; exact (U2.out.set0 (.slice (some ⟨b0, 0, none⟩) O.length O.length)).set1 (.slice (some ⟨b1, 0, none⟩) ah.length ah.length)
 have R3 : Hid (aT w3 (w.heap.size + 1) 35 (.slice none 0 0) (.slice none 0 0) (.slice none 0 0)) := fV R2.out hO3 (by omega)
 have G3 : Hid (jm w3 w1.heap.size w2.heap.size (.agg #[(.slice (some ⟨b0, 0, none⟩) O.length O.length), (.slice (some ⟨b1, 0, none⟩) ah.length ah.length)]) O ah) := G2.out.only hO3 (fun g hg _ hb => by have := cO.out; omega)
 rw [← HW3.out]
 clear hw3 hO3 hs3 t0 t1 t2 u0 u1 fu0 fu1
 refine (Zd (HPv.out.below B3.out)).mono ?_
 rintro e w4 ⟨u, rfl, hu, hb⟩
 obtain ⟨ua, uc, hus, _, _⟩ := hu.shape
 subst hus
 have B4 := Lib.hid (B3.out.trans (hb.mono B3.out.size))
 have U4 := Lib.hid (U3.out.below hb)
 have R4 := Lib.hid (R3.out.below hb)
 have G4 := Lib.hid (G3.out.below hb)
 have P4 := Lib.hid hu
 have Zr := hb.size
 have zO := Lib.hid Zr
 clear hu hb Zr
 have u2 := U4.out.c2
 have fu2 := U4.out.frozen 2
 have U5 := Lib.hid (U4.out.set2 (.slice ua P.length uc))
 have R5 := Lib.hid (R4.out.other (p := ⟨w.heap.size + 1 + 1, 2, none⟩) (by show w.heap.size + 1 ≠ w.heap.size + 1 + 1; omega) (.slice ua P.length uc))
 have v0 := U5.out.c0
 have v1 := U5.out.c1
 have v2 := U5.out.c2
 have r0 := R5.out.c0
 have r1 := R5.out.c1
 have r2 := R5.out.c2
 have f0 := R5.out.frozen 0
 have f1 := R5.out.frozen 1
 have f2 := R5.out.frozen 2
 go_wp2_with fail
 have R6 := Lib.hid (((R5.out.set0 (.slice (some ⟨b0, 0, none⟩) O.length O.length)).set1 (.slice (some ⟨b1, 0, none⟩) ah.length ah.length)).set2 (.slice ua P.length uc))
 have d0 := R6.out.c0
 have d1 := R6.out.c1
 have d2 := R6.out.c2
 obtain ⟨w6, hw6⟩ : ∃ y, y = (((w4.setCell ⟨w.heap.size + 1 + 1, 2, none⟩ (.slice ua P.length uc)).setCell ⟨w.heap.size + 1, 0, none⟩ (.slice (some ⟨b0, 0, none⟩) O.length O.length)).setCell ⟨w.heap.size + 1, 1, none⟩ (.slice (some ⟨b1, 0, none⟩) ah.length ah.length)).setCell ⟨w.heap.size + 1, 2, none⟩ (.slice ua P.length uc) := ⟨_, rfl⟩
 have MW : Only (fun b => b = w.heap.size + 1 ∨ b = w.heap.size + 1 + 1) w4 w6 := by
  rw [hw6]
  exact ((((Only.refl _ w4).setCell (p := ⟨w.heap.size + 1 + 1, 2, none⟩) (.inr rfl) _).setCell (p := ⟨w.heap.size + 1, 0, none⟩) (.inl rfl) _).setCell (p := ⟨w.heap.size + 1, 1, none⟩) (.inl rfl) _).setCell (p := ⟨w.heap.size + 1, 2, none⟩) (.inl rfl) _
 have hfin : Hid (eG w6 w.heap.size w6.heap.size (.agg #[(.slice (some ⟨b0, 0, none⟩) O.length O.length), (.slice (some ⟨b1, 0, none⟩) ah.length ah.length), (.slice ua P.length uc)]) O ah P ∧ Below w.heap.size w w6) := by
  have e1 := cO.out
  have e2 := HS2.out
  have e3 := wI.out
  have e4 := zO.out
  refine ⟨eG.bg (D := w4.heap.size) (eG.Rl (M := w3.heap.size) ?_ ?_ (by omega) (by omega)), B4.out.trans (MW.below (B := w.heap.size) B4.out.size (fun b hb => by omega))⟩
  · have h := G4.out.only MW (fun g hg _ hb => by omega)
    obtain ⟨vo, vn, V, hv, k1, k2, k3⟩ := h
    rw [← e3] at k1 k2
    exact ⟨vo, vn, V, hv, k1.base (by omega), k2.base (by omega), k3⟩
  · exact P4.out.only MW (fun g hg hb => by have := (P4.out.own.lt g hg).1; omega)
 rw [← hw6] at d0 d1 d2 ⊢
 clear hw6 MW
 exact bodyPost_ret (v := .agg #[(.slice (some ⟨b0, 0, none⟩) O.length O.length), (.slice (some ⟨b1, 0, none⟩) ah.length ah.length), (.slice ua P.length uc)]) (by simp [results, Tryd.results15, go_sem, d0, d1, d2]) rfl ⟨_, rfl, hfin.out⟩
end
section
open Go.RowKit
end
end Go.Proofs.YtglbkbiphcgidaaDoor
namespace Go.Proofs.YtglbkbiphcgidaaDoor
section
section
open Go.RowKit
def fK (own : Bool) (I A : Nat → Prop) (us : List Int) : Prop :=
 if own = true then ∃ u ∈ us, I u.toNat ∧ A u.toNat else (∃ u ∈ us, I u.toNat) ∧ ∀ u ∈ us, I u.toNat → A u.toNat
def ownB (O : List Int) (who : Int) (v : Nat) : Bool := decide (nth O v = who)
open Classical in
noncomputable def aZ (ah : List (List Int)) (O : List Int) (who : Int) (I G : Nat → Bool) : Nat → Nat → Int
 | 0, u => if I u = true ∧ G u = true then 0 else -1
 | k + 1, u => if 0 ≤ aZ ah O who I G k u then aZ ah O who I G k u
  else if I u = true ∧ fK (ownB O who u) (fun x => I x = true) (fun x => 0 ≤ aZ ah O who I G k x) (row ah u) then (k : Int) + 1 else -1
variable {ah : List (List Int)} {O : List Int} {who : Int} {I G : Nat → Bool}
theorem CX : ∀ k u, -1 ≤ aZ ah O who I G k u ∧ aZ ah O who I G k u ≤ k
 | 0, u => by unfold aZ; split <;> simp
 | k + 1, u => by
   have h := CX k u
   unfold aZ
   split
   · constructor <;> omega
   · split <;> constructor <;> omega
theorem xR {k u : Nat} (h : 0 ≤ aZ ah O who I G k u) : aZ ah O who I G (k + 1) u = aZ ah O who I G k u := by
 rw [aZ, if_pos h]
theorem ae1 {k u : Nat} (h : aZ ah O who I G k u < 0) (h1 : 0 ≤ aZ ah O who I G (k + 1) u) : aZ ah O who I G (k + 1) u = k + 1 := by
 rw [aZ, if_neg (by omega)] at h1 ⊢
 split at h1
 · next hc => rw [if_pos hc]
 · omega
theorem Zt : ∀ {k u : Nat}, 0 ≤ aZ ah O who I G k u → I u = true
 | 0, u, h => by
   rw [aZ] at h
   split at h
   · next hc => exact hc.1
   · omega
 | k + 1, u, h => by
   by_cases h0 : 0 ≤ aZ ah O who I G k u
   · exact Zt h0
   · rw [aZ, if_neg h0] at h
     split at h
     · next hc => exact hc.1
     · omega
theorem ae2 {k u : Nat} (h : 0 ≤ aZ ah O who I G (k + 1) u) (hk : aZ ah O who I G (k + 1) u ≤ k) : 0 ≤ aZ ah O who I G k u := by
 by_cases h0 : 0 ≤ aZ ah O who I G k u
 · exact h0
 · have := ae1 (by omega) h; omega
theorem MX {k : Nat} (hin : ∀ u : Nat, u < ah.length → ∀ x ∈ row ah u, ∃ v : Nat, x = (v : Int) ∧ v < ah.length) (h : ∀ u, u < ah.length → aZ ah O who I G (k + 1) u = aZ ah O who I G k u) :
 ∀ j, ∀ u, u < ah.length → aZ ah O who I G (k + j) u = aZ ah O who I G k u
 | 0, u, _ => rfl
 | j + 1, u, hu => by
   have ih := MX hin h j
   rw [← h u hu]
   show aZ ah O who I G ((k + j) + 1) u = _
   by_cases h0 : 0 ≤ aZ ah O who I G (k + j) u
   · rw [xR h0, ih u hu, xR (by rw [← ih u hu]; exact h0)]
   · have h0' : ¬ 0 ≤ aZ ah O who I G k u := by rw [← ih u hu]; exact h0
     have hc : fK (ownB O who u) (fun x => I x = true) (fun x => 0 ≤ aZ ah O who I G (k + j) x) (row ah u) ↔ fK (ownB O who u) (fun x => I x = true) (fun x => 0 ≤ aZ ah O who I G k x) (row ah u) := by
      have e : ∀ x ∈ row ah u, (0 ≤ aZ ah O who I G (k + j) x.toNat ↔ 0 ≤ aZ ah O who I G k x.toNat) := fun x hx => by
       obtain ⟨v, rfl, hv⟩ := hin u hu x hx
       rw [Int.toNat_natCast, ih v hv]
      unfold fK
      split
      · exact ⟨fun ⟨x, h1, h2, h3⟩ => ⟨x, h1, h2, (e x h1).1 h3⟩, fun ⟨x, h1, h2, h3⟩ => ⟨x, h1, h2, (e x h1).2 h3⟩⟩
      · exact ⟨fun ⟨h1, h2⟩ => ⟨h1, fun x hx hI => (e x hx).1 (h2 x hx hI)⟩, fun ⟨h1, h2⟩ => ⟨h1, fun x hx hI => (e x hx).2 (h2 x hx hI)⟩⟩
     have hk1 := h u hu
     rw [aZ, if_neg h0, aZ, if_neg h0']
     rw [aZ, if_neg h0'] at hk1
     by_cases hcc : I u = true ∧ fK (ownB O who u) (fun x => I x = true) (fun x => 0 ≤ aZ ah O who I G k x) (row ah u)
     · rw [if_pos hcc] at hk1; omega
     · rw [if_neg (fun hh => hcc ⟨hh.1, hc.1 hh.2⟩), if_neg hcc]
end
section
open Go.RowKit
theorem MZ (f : Nat → Bool) (n : Nat) : (aU f (n + 1)).length = (aU f n).length + (if f n = true then 1 else 0) := by
 rw [aU, List.length_append]; split <;> rfl
theorem Nc {f g : Nat → Bool} : ∀ n, (∀ v, v < n → f v = true → g v = true) → (aU f n).length ≤ (aU g n).length
 | 0, _ => Nat.le_refl _
 | n + 1, h => by
   have ih := Nc n fun v hv => h v (by omega)
   have hn := h n (by omega)
   rw [MZ, MZ]
   by_cases hf : f n = true
   · rw [if_pos hf, if_pos (hn hf)]; omega
   · rw [if_neg hf]; omega
theorem RD {f g : Nat → Bool} : ∀ n, (∀ v, v < n → f v = true → g v = true) → ∀ v, v < n → f v = false → g v = true → (aU f n).length < (aU g n).length
 | 0, _, v, hv, _, _ => absurd hv (Nat.not_lt_zero _)
 | n + 1, h, v, hv, h0, h1 => by
   rw [MZ, MZ]
   by_cases e : v = n
   · subst e
     have := Nc (f := f) (g := g) v fun u hu => h u (by omega)
     rw [if_neg (by rw [h0]; decide), if_pos h1]; omega
   · have ih := RD n (fun u hu => h u (by omega)) v (by omega) h0 h1
     have hn := h n (by omega)
     by_cases hf : f n = true
     · rw [if_pos hf, if_pos (hn hf)]; omega
     · rw [if_neg hf]; omega
section
variable {ah : List (List Int)} {O : List Int} {who : Int} {I G : Nat → Bool}
theorem ae3 (hin : ∀ u : Nat, u < ah.length → ∀ x ∈ row ah u, ∃ v : Nat, x = (v : Int) ∧ v < ah.length) : ∀ u, u < ah.length → aZ ah O who I G (ah.length + 1) u = aZ ah O who I G ah.length u := by
 by_cases hex : ∃ k, k ≤ ah.length ∧ ∀ u, u < ah.length → aZ ah O who I G (k + 1) u = aZ ah O who I G k u
 · obtain ⟨k, hk, hs⟩ := hex
   intro u hu
   have h1 := MX hin hs (ah.length - k) u hu
   have h2 := MX hin hs (ah.length + 1 - k) u hu
   rw [show k + (ah.length - k) = ah.length by omega] at h1
   rw [show k + (ah.length + 1 - k) = ah.length + 1 by omega] at h2
   rw [h1, h2]
 · exfalso
   have key : ∀ k, k ≤ ah.length + 1 → k ≤ (aU (fun v => decide (0 ≤ aZ ah O who I G k v)) ah.length).length := fun k => by
    induction k with
    | zero => intro _; exact Nat.zero_le _
    | succ k ih =>
      intro hk
      have h1 := ih (by omega)
      obtain ⟨u, hu, hne⟩ : ∃ u, u < ah.length ∧ aZ ah O who I G (k + 1) u ≠ aZ ah O who I G k u := by
       apply Classical.byContradiction
       intro hn
       exact hex ⟨k, by omega, fun u hu => Classical.byContradiction fun hh => hn ⟨u, hu, hh⟩⟩
      have b0 := CX (ah := ah) (O := O) (who := who) (I := I) (G := G) k u
      have b1 := CX (ah := ah) (O := O) (who := who) (I := I) (G := G) (k + 1) u
      have h0 : aZ ah O who I G k u < 0 := by
       apply Classical.byContradiction
       intro hh
       exact hne (xR (by omega))
      have h2 := RD (f := fun v => decide (0 ≤ aZ ah O who I G k v)) (g := fun v => decide (0 ≤ aZ ah O who I G (k + 1) v)) ah.length
       (fun v _ hv => by
        have hv := of_decide_eq_true hv
        exact decide_eq_true (by rw [xR hv]; exact hv)) u hu (decide_eq_false (by omega)) (decide_eq_true (by omega))
      omega
   have h1 := key (ah.length + 1) (Nat.le_refl _)
   have h2 := sV (fun v => decide (0 ≤ aZ ah O who I G (ah.length + 1) v)) ah.length
   omega
end
end
section
open Go.RowKit
theorem fK.mono {own : Bool} {I A B : Nat → Prop} {us : List Int} (h : fK own I A us) (hab : ∀ u ∈ us, A u.toNat → B u.toNat) : fK own I B us := by
 unfold fK at *
 split at h
 · next ho => rw [if_pos ho]; obtain ⟨u, hu, h1, h2⟩ := h; exact ⟨u, hu, h1, hab u hu h2⟩
 · next ho => rw [if_neg ho]; exact ⟨h.1, fun u hu hI => hab u hu (h.2 u hu hI)⟩
theorem fK.congr {own : Bool} {I A B : Nat → Prop} {us : List Int} (hab : ∀ u ∈ us, (A u.toNat ↔ B u.toNat)) : fK own I A us ↔ fK own I B us :=
 ⟨fun h => h.mono fun u hu => (hab u hu).1, fun h => h.mono fun u hu => (hab u hu).2⟩
theorem fK.none {own : Bool} {I : Nat → Prop} {us : List Int} : ¬ fK own I (fun _ => False) us := by
 unfold fK
 split
 · rintro ⟨_, _, _, h⟩; exact h
 · rintro ⟨⟨u, hu, hI⟩, h⟩; exact h u hu hI
section
variable {ah : List (List Int)} {O : List Int} {who : Int} {I G : Nat → Bool}
theorem Zu {k u : Nat} (h : 0 ≤ aZ ah O who I G k u) : ∀ j, aZ ah O who I G (k + j) u = aZ ah O who I G k u
 | 0 => rfl
 | j + 1 => by
   have ih := Zu h j
   rw [← Nat.add_assoc, xR (by rw [ih]; exact h), ih]
theorem Zv {k u : Nat} : ∀ j, 0 ≤ aZ ah O who I G (k + j) u → aZ ah O who I G (k + j) u ≤ k → 0 ≤ aZ ah O who I G k u
 | 0, h, _ => h
 | j + 1, h, hk => by
   rw [← Nat.add_assoc] at h hk
   have h1 := ae2 h (by omega)
   rw [xR h1] at hk
   exact Zv j h1 hk
def fA (ah : List (List Int)) (O : List Int) (who : Int) (I G : Nat → Bool) (P : Nat → Prop) (v : Nat) : Prop :=
 I v = true ∧ (G v = true ∨ fK (ownB O who v) (fun x => I x = true) P (row ah v))
theorem fA.mono {P P' : Nat → Prop} {v : Nat} (h : fA ah O who I G P v) (hp : ∀ x ∈ row ah v, P x.toNat → P' x.toNat) : fA ah O who I G P' v :=
 ⟨h.1, h.2.imp id fun hc => hc.mono hp⟩
theorem fA.congr {P P' : Nat → Prop} {v : Nat} (hp : ∀ x ∈ row ah v, (P x.toNat ↔ P' x.toNat)) : fA ah O who I G P v ↔ fA ah O who I G P' v :=
 ⟨fun h => h.mono fun x hx => (hp x hx).1, fun h => h.mono fun x hx => (hp x hx).2⟩
theorem RH : ∀ (k v : Nat), 0 ≤ aZ ah O who I G (k + 1) v ↔ fA ah O who I G (fun x => 0 ≤ aZ ah O who I G k x) v := fun k => by
 induction k with
 | zero =>
   intro v
   constructor
   · intro h
     by_cases h0 : 0 ≤ aZ ah O who I G 0 v
     · rw [aZ] at h0
       split at h0
       · next hc => exact ⟨hc.1, .inl hc.2⟩
       · omega
     · rw [aZ, if_neg h0] at h
       split at h
       · next hc => exact ⟨hc.1, .inr hc.2⟩
       · omega
   · rintro ⟨hI, h⟩
     by_cases h0 : 0 ≤ aZ ah O who I G 0 v
     · rw [xR h0]; exact h0
     · rcases h with h | h
       · exact absurd (by rw [aZ, if_pos ⟨hI, h⟩]; omega) h0
       · rw [aZ, if_neg h0, if_pos ⟨hI, h⟩]; omega
 | succ k ih =>
   intro v
   constructor
   · intro h
     by_cases h0 : 0 ≤ aZ ah O who I G (k + 1) v
     · exact ((ih v).1 h0).mono fun x _ hx => by rw [xR hx]; exact hx
     · rw [aZ, if_neg h0] at h
       split at h
       · next hc => exact ⟨hc.1, .inr hc.2⟩
       · omega
   · rintro ⟨hI, h⟩
     by_cases h0 : 0 ≤ aZ ah O who I G (k + 1) v
     · rw [xR h0]; exact h0
     · rcases h with h | h
       · exact absurd ((ih v).2 ⟨hI, .inl h⟩) h0
       · rw [aZ, if_neg h0, if_pos ⟨hI, h⟩]; omega
def ig (ah : List (List Int)) : Prop := ∀ u : Nat, u < ah.length → ∀ x ∈ row ah u, ∃ v : Nat, x = (v : Int) ∧ v < ah.length
def iZ (R : Nat → Int) (r x : Nat) : Prop := 0 ≤ R x ∧ R x < r
theorem Zw (hin : ig ah) (k : Nat) {x : Nat} (hx : x < ah.length) : iZ (aZ ah O who I G ah.length) (k + 1) x ↔ 0 ≤ aZ ah O who I G k x := by
 have hb := CX (ah := ah) (O := O) (who := who) (I := I) (G := G) ah.length x
 have hbk := CX (ah := ah) (O := O) (who := who) (I := I) (G := G) k x
 unfold iZ
 by_cases hk : k ≤ ah.length
 · obtain ⟨j, hj⟩ : ∃ j, ah.length = k + j := ⟨ah.length - k, by omega⟩
   constructor
   · rintro ⟨h1, h2⟩
     rw [hj] at h1 h2
     exact Zv j h1 (by omega)
   · intro h
     have e := Zu h j
     rw [← hj] at e
     rw [e]
     exact ⟨h, by omega⟩
 · obtain ⟨j, hj⟩ : ∃ j, k = ah.length + j := ⟨k - ah.length, by omega⟩
   have e := MX hin (ae3 (O := O) (who := who) (I := I) (G := G) hin) j x hx
   rw [← hj] at e
   rw [e]
   constructor
   · rintro ⟨h1, _⟩; exact h1
   · intro h; exact ⟨h, by omega⟩
theorem Nh (hin : ig ah) (r : Nat) {v : Nat} (hv : v < ah.length) : iZ (aZ ah O who I G ah.length) (r + 1) v ↔ fA ah O who I G (iZ (aZ ah O who I G ah.length) r) v := by
 rw [Zw hin r hv]
 cases r with
 | zero =>
   rw [aZ]
   constructor
   · intro h
     split at h
     · next hc => exact ⟨hc.1, .inl hc.2⟩
     · omega
   · rintro ⟨hI, h | h⟩
     · rw [if_pos ⟨hI, h⟩]; omega
     · exact absurd ((fK.congr fun u _ => by unfold iZ; constructor <;> intro hh <;> first | omega | exact hh.elim).1 h) fK.none
 | succ k =>
   rw [RH]
   exact fA.congr fun x hx => by
    obtain ⟨y, rfl, hy⟩ := hin v hv x hx
    rw [Int.toNat_natCast]
    exact (Zw hin k hy).symm
open Classical in
noncomputable def kK (ah : List (List Int)) (O : List Int) (who : Int) (I G : Nat → Bool) (P : Nat → Prop) (v : Nat) : Int :=
 if I v = true ∧ G v = false then
  if ownB O who v = true then (if ∃ x ∈ row ah v, I x.toNat = true ∧ P x.toNat then 0 else 1)
  else (((row ah v).filter (fun x => I x.toNat && !decide (P x.toNat))).length : Int)
 else 0
theorem Nj {P P' : Nat → Prop} {v : Nat} (hp : ∀ x ∈ row ah v, (P x.toNat ↔ P' x.toNat)) : kK ah O who I G P v = kK ah O who I G P' v := by
 have e1 : (∃ x ∈ row ah v, I x.toNat = true ∧ P x.toNat) ↔ (∃ x ∈ row ah v, I x.toNat = true ∧ P' x.toNat) :=
  ⟨fun ⟨x, hx, h1, h2⟩ => ⟨x, hx, h1, (hp x hx).1 h2⟩, fun ⟨x, hx, h1, h2⟩ => ⟨x, hx, h1, (hp x hx).2 h2⟩⟩
 have e2 : (row ah v).filter (fun x => I x.toNat && !@decide (P x.toNat) (Classical.propDecidable _)) = (row ah v).filter (fun x => I x.toNat && !@decide (P' x.toNat) (Classical.propDecidable _)) :=
  List.filter_congr fun x hx => by
   by_cases h : P x.toNat
   · simp [h, (hp x hx).1 h]
   · have h' : ¬ P' x.toNat := fun hh => h ((hp x hx).2 hh)
     simp [h, h']
 unfold kK
 rw [e2]
 by_cases h1 : ∃ x ∈ row ah v, I x.toNat = true ∧ P x.toNat
 · rw [if_pos h1, if_pos (e1.1 h1)]
 · rw [if_neg h1, if_neg (fun hh => h1 (e1.2 hh))]
theorem Nk {P : Nat → Prop} {v : Nat} (hI : I v = true) (hG : G v = false) (hs : ∃ x ∈ row ah v, I x.toNat = true) :
 kK ah O who I G P v = 0 ↔ fK (ownB O who v) (fun x => I x = true) P (row ah v) := by
 unfold kK fK
 rw [if_pos ⟨hI, hG⟩]
 by_cases ho : ownB O who v = true
 · rw [if_pos ho, if_pos ho]
   split
   · next h => exact ⟨fun _ => h, fun _ => rfl⟩
   · next h => exact ⟨fun hh => absurd hh (by omega), fun hh => absurd hh h⟩
 · rw [if_neg ho, if_neg ho]
   rw [Int.natCast_eq_zero, List.length_eq_zero_iff, List.filter_eq_nil_iff]
   constructor
   · intro h
     refine ⟨hs, fun x hx hIx => ?_⟩
     have := h x hx
     simp [hIx] at this
     exact this
   · rintro ⟨_, h⟩ x hx hh
     simp at hh
     exact hh.2 (h x hx hh.1)
theorem Zx {P : Nat → Prop} {v : Nat} (h : ¬ (I v = true ∧ G v = false)) : kK ah O who I G P v = 0 := by unfold kK; rw [if_neg h]
def gI (P : Nat → Prop) (u : Nat) : Nat → Prop := fun x => P x ∨ x = u
theorem RI {p q : Int → Bool} {u : Int} : ∀ {us : List Int}, us.Nodup → u ∈ us → p u = true → q u = false → (∀ x ∈ us, x ≠ u → p x = q x) → (us.filter p).length = (us.filter q).length + 1
 | [], _, h, _, _, _ => by cases h
 | y :: ys, hn, hu, hp, hq, he => by
   rw [List.nodup_cons] at hn
   by_cases e : y = u
   · subst e
     rw [List.filter_cons_of_pos hp, List.filter_cons_of_neg (by rw [hq]; decide), List.filter_congr fun x hx => he x (by simp [hx]) (fun e => hn.1 (by rw [← e]; exact hx))]
     rfl
   · have hu' : u ∈ ys := by
      rcases List.mem_cons.1 hu with h | h
      · exact absurd h.symm e
      · exact h
     have ih := RI hn.2 hu' hp hq fun x hx => he x (by simp [hx])
     have hy := he y (by simp) e
     by_cases h : p y = true
     · rw [List.filter_cons_of_pos h, List.filter_cons_of_pos (by rw [← hy]; exact h)]; simp [ih]
     · rw [List.filter_cons_of_neg h, List.filter_cons_of_neg (by rw [← hy]; exact h)]; exact ih
theorem RJ {P : Nat → Prop} {u v : Nat} (hn : (row ah v).Nodup) (hpos : ∀ x ∈ row ah v, 0 ≤ x) (hu : (u : Int) ∈ row ah v) (hI : I u = true) (hP : ¬ P u) :
 (kK ah O who I G P v = 0 → kK ah O who I G (gI P u) v = 0) ∧ (kK ah O who I G P v ≠ 0 → kK ah O who I G (gI P u) v = kK ah O who I G P v - 1) := by
 unfold kK
 by_cases hc : I v = true ∧ G v = false
 · rw [if_pos hc, if_pos hc]
   by_cases ho : ownB O who v = true
   · rw [if_pos ho, if_pos ho]
     have h1 : ∃ x ∈ row ah v, I x.toNat = true ∧ gI P u x.toNat := ⟨u, hu, by rw [Int.toNat_natCast]; exact hI, .inr (Int.toNat_natCast u)⟩
     rw [if_pos h1]
     refine ⟨fun _ => rfl, fun h => ?_⟩
     split at h
     · exact absurd rfl h
     · next hh => rw [if_neg hh]; rfl
   · rw [if_neg ho, if_neg ho]
     have e := RI (p := fun x => I x.toNat && !@decide (P x.toNat) (Classical.propDecidable _)) (q := fun x => I x.toNat && !@decide (gI P u x.toNat) (Classical.propDecidable _)) hn hu (by simp [hI, hP]) (by simp [gI])
      (fun x hx hne => by
       have hx0 := hpos x hx
       have hxu : x.toNat ≠ u := by omega
       by_cases hh : P x.toNat
       · simp [gI, hh]
       · simp [gI, hxu, hh])
     constructor
     · intro h; omega
     · intro _; omega
 · rw [if_neg hc, if_neg hc]
   exact ⟨fun _ => rfl, fun h => absurd rfl h⟩
theorem Fq {P : Nat → Prop} {u v : Nat} (hpos : ∀ x ∈ row ah v, 0 ≤ x) (hu : (u : Int) ∉ row ah v) : ∀ x ∈ row ah v, (P x.toNat ↔ gI P u x.toNat) := fun x hx => by
 refine ⟨.inl, fun h => ?_⟩
 rcases h with h | h
 · exact h
 · refine absurd ?_ hu
   rw [← h, Int.toNat_of_nonneg (hpos x hx)]; exact hx
theorem CY (ah : List (List Int)) (u : Int) : ∀ (n : Nat) (x : Int), x ∈ dN ah u n ↔ ∃ v : Nat, x = (v : Int) ∧ v < n ∧ u ∈ row ah v
 | 0, x => by simp [dN]
 | n + 1, x => by
   rw [dN, List.mem_append, CY ah u n x]
   constructor
   · rintro (⟨v, h1, h2, h3⟩ | h)
     · exact ⟨v, h1, by omega, h3⟩
     · split at h
       · next hh => exact ⟨n, by simpa using h, by omega, xK.1 hh⟩
       · cases h
   · rintro ⟨v, h1, h2, h3⟩
     by_cases e : v = n
     · subst e
       right
       rw [if_pos (xK.2 h3)]
       simp [h1]
     · exact .inl ⟨v, h1, by omega, h3⟩
theorem RN (ah : List (List Int)) (u : Int) : ∀ n, (dN ah u n).Nodup
 | 0 => by simp [dN]
 | n + 1 => by
   rw [dN, List.nodup_append]
   refine ⟨RN ah u n, by split <;> simp, fun x hx y hy e => ?_⟩
   subst e
   have h1 := QT ah u n x hx
   split at hy
   · simp at hy; omega
   · cases hy
structure jW (n : Nat) (L : List Int) : Prop where
 once : L.Nodup
 all : ∀ x ∈ L, ∃ v : Nat, x = (v : Int) ∧ v < n
theorem jW.len {n : Nat} {L : List Int} (h : jW n L) : L.length ≤ n := by
 have h1 : (L.map Int.toNat).Nodup := by
  rw [List.Nodup, List.pairwise_map]
  exact List.Pairwise.imp_of_mem (fun {a b} ha hb hne => by
   obtain ⟨v, rfl, _⟩ := h.all a ha
   obtain ⟨u, rfl, _⟩ := h.all b hb
   simp; omega) h.once
 have h2 : L.map Int.toNat ⊆ List.range n := fun x hx => by
  obtain ⟨y, hy, rfl⟩ := List.mem_map.1 hx
  obtain ⟨v, rfl, hv⟩ := h.all y hy
  simp [hv]
 have := List.Nodup.length_le_of_subset h1 h2
 simpa using this
theorem jW.at {n : Nat} {L : List Int} (h : jW n L) {k : Nat} (hk : k < L.length) : ∃ v : Nat, nth L k = (v : Int) ∧ v < n := h.all _ (jo hk)
theorem jW.fits {n : Nat} {L : List Int} (h : jW n L) (hn : n ≤ 1048576) : ∀ k, k < L.length → Fits (nth L k) := fun k hk => by
 obtain ⟨v, h1, h2⟩ := h.at hk; rw [h1]; unfold Fits; omega
theorem jW.nil (n : Nat) : jW n [] := ⟨List.nodup_nil, fun x hx => by cases hx⟩
theorem jW.snoc {n v : Nat} {L : List Int} (h : jW n L) (hv : v < n) (hn : (v : Int) ∉ L) : jW n (L ++ [(v : Int)]) :=
 ⟨List.nodup_append.2 ⟨h.once, by simp, fun x hx y hy e => hn (by simp at hy; rw [← hy, ← e]; exact hx)⟩, fun x hx => by
  rcases List.mem_append.1 hx with hx | hx
  · exact h.all x hx
  · exact ⟨v, by simpa using hx, hv⟩⟩
structure Nl (n : Nat) (R : Nat → Int) (r : Nat) (L : List Int) : Prop where
 ja : jW n L
 is : ∀ v : Nat, v < n → ((v : Int) ∈ L ↔ R v = r)
def ou (R : Nat → Int) (r : Nat) (L : List Int) (i : Nat) : Nat → Prop := fun x => iZ R r x ∨ (x : Int) ∈ L.take i
structure Ja (ah : List (List Int)) (O : List Int) (who : Int) (I G : Nat → Bool) (R : Nat → Int) (r i : Nat) (L ab : List Int) (f : Nat → Int) : Prop where
 waits : ∀ v, v < ah.length → f v = kK ah O who I G (ou R r L i) v
 ja : jW ah.length ab
 is : ∀ v : Nat, v < ah.length → ((v : Int) ∈ ab ↔ fA ah O who I G (ou R r L i) v ∧ ¬ iZ R (r + 1) v)
structure qJ (ah : List (List Int)) (O : List Int) (who : Int) (I G : Nat → Bool) (R : Nat → Int) (r u j : Nat) (P : Nat → Prop) (ab : List Int) (f : Nat → Int) : Prop where
 waits : ∀ v, v < ah.length → f v = if (v : Int) ∈ (dN ah u ah.length).take j then kK ah O who I G (gI P u) v else kK ah O who I G P v
 ja : jW ah.length ab
 is : ∀ v : Nat, v < ah.length → ((v : Int) ∈ ab ↔ (fA ah O who I G P v ∨ ((v : Int) ∈ (dN ah u ah.length).take j ∧ fA ah O who I G (gI P u) v)) ∧ ¬ iZ R (r + 1) v)
end
structure iO (ah : List (List Int)) : Prop where
 eu : ig ah
 once : ∀ v, v < ah.length → (row ah v).Nodup
theorem iO.pos {ah : List (List Int)} (h : iO ah) {v : Nat} (hv : v < ah.length) : ∀ x ∈ row ah v, 0 ≤ x := fun x hx => by
 obtain ⟨y, rfl, _⟩ := h.eu v hv x hx; omega
theorem jL {O : List Int} {ah : List (List Int)} (h : lJ O ah) : iO ah where
 eu := fun u hu x hx => by
  have hr := (h.2.2.2 u (by have := h.2.2.1; omega)).2.2.2
  obtain ⟨k, hk, e⟩ := rF.1 hx
  obtain ⟨h1, h2, _⟩ := MB hr hk
  have := h.2.2.1
  exact ⟨x.toNat, by omega, by omega⟩
 once := fun v hv => by
  have hr := (h.2.2.2 v (by have := h.2.2.1; omega)).2.2.2
  rw [List.Nodup, List.pairwise_iff_getElem]
  intro i j hi hj hij e
  have hb := (MB hr hj).2.2 i hij
  rw [jl hi, jl hj] at hb
  omega
section
variable {ah : List (List Int)} {O : List Int} {who : Int} {I G : Nat → Bool} {r : Nat}
theorem take_snoc {L : List Int} {i : Nat} (hi : i < L.length) : L.take (i + 1) = L.take i ++ [nth L i] := by
 rw [List.take_add_one, List.getElem?_eq_getElem hi, jl hi]; rfl
theorem Zy {R : Nat → Int} {L : List Int} {i u : Nat} (hi : i < L.length) (hu : nth L i = (u : Int)) (x : Nat) : ou R r L (i + 1) x ↔ gI (ou R r L i) u x := by
 unfold ou gI
 rw [take_snoc hi, hu, List.mem_append]
 simp only [List.mem_singleton, Int.natCast_inj]
 exact or_assoc.symm
theorem Nl.fresh {n : Nat} {R : Nat → Int} {L : List Int} (h : Nl n R r L) {i u : Nat} (hi : i < L.length) (hu : nth L i = (u : Int)) (hun : u < n) : R u = r ∧ ¬ ou R r L i u := by
 have h1 : R u = r := (h.is u hun).1 (by rw [← hu]; exact jo hi)
 refine ⟨h1, ?_⟩
 rintro (hh | hh)
 · unfold iZ at hh; omega
 · have hn := h.ja.once
   rw [← List.take_append_drop i L, List.nodup_append] at hn
   refine hn.2.2 _ hh _ ?_ rfl
   rw [← hu, List.mem_iff_getElem?]
   exact ⟨0, by rw [List.getElem?_drop, Nat.add_zero, List.getElem?_eq_getElem hi, jl hi]⟩
theorem qJ.start {R : Nat → Int} {L ab : List Int} {f : Nat → Int} {i u : Nat} (h : Ja ah O who I G R r i L ab f) : qJ ah O who I G R r u 0 (ou R r L i) ab f where
 waits := fun v hv => by rw [List.take_zero, if_neg (by simp)]; exact h.waits v hv
 ja := h.ja
 is := fun v hv => by rw [h.is v hv, List.take_zero]; simp
theorem qJ.full {R : Nat → Int} {L ab : List Int} {f : Nat → Int} {i u : Nat} (hz : iO ah) (hi : i < L.length) (hu : nth L i = (u : Int)) (h : qJ ah O who I G R r u (dN ah u ah.length).length (ou R r L i) ab f) : Ja ah O who I G R r (i + 1) L ab f where
 waits := fun v hv => by
  rw [h.waits v hv, List.take_length, Nj fun x _ => Zy hi hu x.toNat]
  by_cases hm : (u : Int) ∈ row ah v
  · rw [if_pos ((CY _ _ _ _).2 ⟨v, rfl, hv, hm⟩)]
  · rw [if_neg (fun hh => by obtain ⟨v', e, _, h3⟩ := (CY _ _ _ _).1 hh; rw [Int.natCast_inj.1 e] at hm; exact hm h3)]
    exact Nj (Fq (hz.pos hv) hm)
 ja := h.ja
 is := fun v hv => by
  rw [h.is v hv, List.take_length, fA.congr (P := ou R r L (i + 1)) fun x _ => Zy hi hu x.toNat]
  refine and_congr ⟨fun hh => ?_, fun hh => ?_⟩ Iff.rfl
  · rcases hh with hh | hh
    · exact hh.mono fun x _ => .inl
    · exact hh.2
  · by_cases hm : (u : Int) ∈ row ah v
    · exact .inr ⟨(CY _ _ _ _).2 ⟨v, rfl, hv, hm⟩, hh⟩
    · exact .inl ((fA.congr (Fq (hz.pos hv) hm)).2 hh)
variable {R : Nat → Int}
theorem RP {u j v : Nat} (hj : j < (dN ah u ah.length).length) (hv : nth (dN ah u ah.length) j = (v : Int)) : v < ah.length ∧ (u : Int) ∈ row ah v ∧ (v : Int) ∉ (dN ah u ah.length).take j := by
 obtain ⟨v', h1, h2, h3⟩ := (CY _ _ _ _).1 (jo hj)
 rw [hv] at h1
 obtain rfl := Int.natCast_inj.1 h1
 refine ⟨h2, h3, fun hh => ?_⟩
 have hn := RN ah u ah.length
 rw [← List.take_append_drop j (dN ah u ah.length), List.nodup_append] at hn
 refine hn.2.2 _ hh _ ?_ rfl
 rw [← hv, List.mem_iff_getElem?]
 exact ⟨0, by rw [List.getElem?_drop, Nat.add_zero, List.getElem?_eq_getElem hj, jl hj]⟩
theorem qJ.pass {P : Nat → Prop} {ab : List Int} {f : Nat → Int} {u j v : Nat} (hz : iO ah) (h : qJ ah O who I G R r u j P ab f) (gY : I u = true) (hP : ¬ P u)
 (hj : j < (dN ah u ah.length).length) (hv : nth (dN ah u ah.length) j = (v : Int)) (hf : f v = 0) : qJ ah O who I G R r u (j + 1) P ab f := by
 obtain ⟨hvn, hm, hno⟩ := RP hj hv
 have hw0 : kK ah O who I G P v = 0 := by rw [← hf, h.waits v hvn, if_neg hno]
 have hw1 := (RJ (hz.once v hvn) (hz.pos hvn) hm gY hP).1 hw0
 have hq : fA ah O who I G (gI P u) v → fA ah O who I G P v := fun hq => by
  refine ⟨hq.1, ?_⟩
  by_cases hG : G v = true
  · exact .inl hG
  · exact .inr ((Nk hq.1 (by simpa using hG) ⟨u, hm, by rw [Int.toNat_natCast]; exact gY⟩).1 hw0)
 refine ⟨fun x hx => ?_, h.ja, fun x hx => ?_⟩
 · rw [h.waits x hx, take_snoc hj, hv]
   by_cases e : x = v
   · subst e
     rw [if_neg hno, if_pos (by simp), hw0, hw1]
   · have e' : ((x : Int) = v) ↔ False := ⟨fun h => e (Int.natCast_inj.1 h), False.elim⟩
     simp only [List.mem_append, List.mem_singleton, e', or_false]
 · rw [h.is x hx, take_snoc hj, hv]
   refine and_congr ⟨fun hh => hh.imp id fun hh => ⟨by simp [hh.1], hh.2⟩, fun hh => ?_⟩ Iff.rfl
   rcases hh with hh | ⟨h1, h2⟩
   · exact .inl hh
   · rw [List.mem_append] at h1
     rcases h1 with h1 | h1
     · exact .inr ⟨h1, h2⟩
     · obtain rfl := Int.natCast_inj.1 (List.mem_singleton.1 h1)
       exact .inl (hq h2)
theorem qJ.less {P : Nat → Prop} {ab : List Int} {f : Nat → Int} {u j v : Nat} (hz : iO ah) (h : qJ ah O who I G R r u j P ab f) (gY : I u = true) (hP : ¬ P u)
 (hj : j < (dN ah u ah.length).length) (hv : nth (dN ah u ah.length) j = (v : Int)) (hf : f v ≠ 0) (hf1 : f v - 1 ≠ 0) : qJ ah O who I G R r u (j + 1) P ab (fun x => if x = v then f v - 1 else f x) := by
 obtain ⟨hvn, hm, hno⟩ := RP hj hv
 have ew : f v = kK ah O who I G P v := by rw [h.waits v hvn, if_neg hno]
 have hw1 := (RJ (hz.once v hvn) (hz.pos hvn) hm gY hP).2 (by rw [← ew]; exact hf)
 have hin : I v = true ∧ G v = false := Classical.byContradiction fun hc => hf (by rw [ew, Zx hc])
 have hq : ¬ fA ah O who I G (gI P u) v := fun hq => by
  rcases hq.2 with hG | hc
  · rw [hin.2] at hG; cases hG
  · refine hf1 ?_
    rw [ew, ← hw1]
    exact (Nk hin.1 hin.2 ⟨u, hm, by rw [Int.toNat_natCast]; exact gY⟩).2 hc
 refine ⟨fun x hx => ?_, h.ja, fun x hx => ?_⟩
 · rw [take_snoc hj, hv]
   by_cases e : x = v
   · subst e
     rw [if_pos rfl, if_pos (by simp), hw1, ew]
   · have e' : ((x : Int) = v) ↔ False := ⟨fun h => e (Int.natCast_inj.1 h), False.elim⟩
     rw [if_neg e, h.waits x hx]
     simp only [List.mem_append, List.mem_singleton, e', or_false]
 · rw [h.is x hx, take_snoc hj, hv]
   refine and_congr ⟨fun hh => hh.imp id fun hh => ⟨by simp [hh.1], hh.2⟩, fun hh => ?_⟩ Iff.rfl
   rcases hh with hh | ⟨h1, h2⟩
   · exact .inl hh
   · rw [List.mem_append] at h1
     rcases h1 with h1 | h1
     · exact .inr ⟨h1, h2⟩
     · obtain rfl := Int.natCast_inj.1 (List.mem_singleton.1 h1)
       exact absurd h2 hq
theorem qJ.next {P : Nat → Prop} {ab : List Int} {f : Nat → Int} {u j v : Nat} (hz : iO ah) (h : qJ ah O who I G R r u j P ab f) (gY : I u = true) (hP : ¬ P u) (hd : ∀ x, x < ah.length → iZ R (r + 1) x → fA ah O who I G P x)
 (hj : j < (dN ah u ah.length).length) (hv : nth (dN ah u ah.length) j = (v : Int)) (hf : f v ≠ 0) (hf1 : f v - 1 = 0) : qJ ah O who I G R r u (j + 1) P (ab ++ [(v : Int)]) (fun x => if x = v then f v - 1 else f x) := by
 obtain ⟨hvn, hm, hno⟩ := RP hj hv
 have ew : f v = kK ah O who I G P v := by rw [h.waits v hvn, if_neg hno]
 have hw1 := (RJ (hz.once v hvn) (hz.pos hvn) hm gY hP).2 (by rw [← ew]; exact hf)
 have hin : I v = true ∧ G v = false := Classical.byContradiction fun hc => hf (by rw [ew, Zx hc])
 have hs : ∃ x ∈ row ah v, I x.toNat = true := ⟨u, hm, by rw [Int.toNat_natCast]; exact gY⟩
 have hq : fA ah O who I G (gI P u) v := ⟨hin.1, .inr ((Nk hin.1 hin.2 hs).1 (by rw [hw1, ← ew]; exact hf1))⟩
 have hq0 : ¬ fA ah O who I G P v := fun hq => by
  rcases hq.2 with hG | hc
  · rw [hin.2] at hG; cases hG
  · exact hf (by rw [ew]; exact (Nk hin.1 hin.2 hs).2 hc)
 have hnd : ¬ iZ R (r + 1) v := fun hh => hq0 (hd v hvn hh)
 have hna : (v : Int) ∉ ab := fun hh => by
  rcases ((h.is v hvn).1 hh).1 with h1 | h1
  · exact hq0 h1
  · exact hno h1.1
 refine ⟨fun x hx => ?_, h.ja.snoc hvn hna, fun x hx => ?_⟩
 · rw [take_snoc hj, hv]
   by_cases e : x = v
   · subst e
     rw [if_pos rfl, if_pos (by simp), hw1, ew]
   · have e' : ((x : Int) = v) ↔ False := ⟨fun h => e (Int.natCast_inj.1 h), False.elim⟩
     rw [if_neg e, h.waits x hx]
     simp only [List.mem_append, List.mem_singleton, e', or_false]
 · rw [List.mem_append, h.is x hx, take_snoc hj, hv]
   constructor
   · rintro (hh | hh)
     · exact ⟨hh.1.imp id fun hh => ⟨by simp [hh.1], hh.2⟩, hh.2⟩
     · obtain rfl := Int.natCast_inj.1 (List.mem_singleton.1 hh)
       exact ⟨.inr ⟨by simp, hq⟩, hnd⟩
   · rintro ⟨hh, hh2⟩
     rcases hh with hh | ⟨h1, h2⟩
     · exact .inl ⟨.inl hh, hh2⟩
     · rw [List.mem_append] at h1
       rcases h1 with h1 | h1
       · exact .inl ⟨.inr ⟨h1, h2⟩, hh2⟩
       · exact .inr h1
theorem Ja.full {L ab : List Int} {f : Nat → Int} (hz : iO ah) (hL : Nl ah.length (aZ ah O who I G ah.length) r L) (h : Ja ah O who I G (aZ ah O who I G ah.length) r L.length L ab f) :
 Nl ah.length (aZ ah O who I G ah.length) (r + 1) ab ∧ Ja ah O who I G (aZ ah O who I G ah.length) (r + 1) 0 ab [] f := by
 have hp : ∀ x, x < ah.length → (ou (aZ ah O who I G ah.length) r L L.length x ↔ iZ (aZ ah O who I G ah.length) (r + 1) x) := fun x hx => by
  unfold ou
  rw [List.take_length, hL.is x hx]
  unfold iZ
  constructor
  · rintro (hh | hh) <;> omega
  · intro hh
    by_cases e : aZ ah O who I G ah.length x = r
    · exact .inr e
    · exact .inl (by omega)
 have hp' : ∀ v, v < ah.length → ∀ x ∈ row ah v, (ou (aZ ah O who I G ah.length) r L L.length x.toNat ↔ iZ (aZ ah O who I G ah.length) (r + 1) x.toNat) := fun v hv x hx => by
  obtain ⟨y, rfl, hy⟩ := hz.eu v hv x hx
  rw [Int.toNat_natCast]; exact hp y hy
 have hq : ∀ v, v < ah.length → (fA ah O who I G (ou (aZ ah O who I G ah.length) r L L.length) v ↔ iZ (aZ ah O who I G ah.length) (r + 1 + 1) v) := fun v hv => by
  rw [fA.congr (hp' v hv), Nh hz.eu (r + 1) hv]
 have h0 : ∀ v, v < ah.length → ∀ x ∈ row ah v, (iZ (aZ ah O who I G ah.length) (r + 1) x.toNat ↔ ou (aZ ah O who I G ah.length) (r + 1) ab 0 x.toNat) := fun v hv x hx => by unfold ou; simp
 refine ⟨⟨h.ja, fun v hv => ?_⟩, fun v hv => ?_, jW.nil _, fun v hv => ?_⟩
 · rw [h.is v hv, hq v hv]
   unfold iZ
   constructor
   · rintro ⟨h1, h2⟩; omega
   · intro e; omega
 · rw [h.waits v hv, Nj (hp' v hv), Nj (h0 v hv)]
 · rw [← fA.congr (h0 v hv), ← Nh hz.eu (r + 1) hv]
   simp
structure wJ (n : Nat) (R : Nat → Int) (P : Nat → Prop) (pre : List (Nat × Nat)) : Prop where
 once : (pre.map Prod.fst).Nodup
 rank : ∀ x ∈ pre, x.1 < n ∧ R x.1 = (x.2 : Int)
 is : ∀ v, v < n → (v ∈ pre.map Prod.fst ↔ P v)
theorem wJ.len {n : Nat} {P : Nat → Prop} {pre : List (Nat × Nat)} (h : wJ n R P pre) : pre.length ≤ n := by
 have h2 : pre.map Prod.fst ⊆ List.range n := fun x hx => by
  obtain ⟨y, hy, rfl⟩ := List.mem_map.1 hx
  simp [(h.rank y hy).1]
 have := List.Nodup.length_le_of_subset h.once h2
 simpa using this
theorem wJ.snoc {n u k : Nat} {P P' : Nat → Prop} {pre : List (Nat × Nat)} (h : wJ n R P pre) (hu : u < n) (hk : R u = (k : Int)) (hP : ¬ P u) (hP' : ∀ x, P' x ↔ gI P u x) : wJ n R P' (pre ++ [(u, k)]) where
 once := by
  rw [List.map_append, List.nodup_append]
  refine ⟨h.once, by simp, fun x hx y hy e => ?_⟩
  simp at hy
  subst hy; subst e
  exact hP ((h.is x hu).1 hx)
 rank := fun x hx => by
  rcases List.mem_append.1 hx with hx | hx
  · exact h.rank x hx
  · simp at hx; subst hx; exact ⟨hu, hk⟩
 is := fun v hv => by
  rw [List.map_append, List.mem_append, h.is v hv, hP' v]
  simp [gI]
theorem wJ.nil (n : Nat) {P : Nat → Prop} (h : ∀ v, v < n → ¬ P v) : wJ n R P [] := ⟨by simp, fun x hx => (by cases hx), fun v hv => (by simp [h v hv])⟩
theorem wJ.congr {n : Nat} {P P' : Nat → Prop} {pre : List (Nat × Nat)} (h : wJ n R P pre) (he : ∀ v, v < n → (P v ↔ P' v)) : wJ n R P' pre := ⟨h.once, h.rank, fun v hv => (h.is v hv).trans (he v hv)⟩
end
end
end
section
open Go.RowKit
structure qK (E : Nat → Nat → Prop) (c : Nat → Nat) (L : Nat) : Prop where
 pos : 0 < L
 per : ∀ i, c (i + L) = c i
 step : ∀ i, E (c i) (c (i + 1))
def ae4 (E : Nat → Nat → Prop) (p : Nat → Int) (who : Int) : Prop := ∀ c L, qK E c L → ∀ i, (∀ j, p (c j) ≤ p (c i)) → p (c i) % 2 = who
theorem qK.far {E : Nat → Nat → Prop} {c : Nat → Nat} {L : Nat} (h : qK E c L) (j : Nat) : ∀ k, c (j + k * L) = c j
 | 0 => by rw [Nat.zero_mul, Nat.add_zero]
 | k + 1 => by rw [Nat.succ_mul, ← Nat.add_assoc, h.per, qK.far h j k]
theorem qK.all {E : Nat → Nat → Prop} {c : Nat → Nat} {L : Nat} (h : qK E c L) {S : Nat → Prop} {i : Nat} (hi : S (c i)) (hs : ∀ v u, S v → E v u → S u) : ∀ j, S (c j) := by
 have hf : ∀ k, S (c (i + k)) := fun k => by
  induction k with
  | zero => exact hi
  | succ k ih => exact hs _ _ ih (h.step (i + k))
 intro j
 rw [← h.far j i]
 have hp := h.pos
 have hle : i ≤ j + i * L := by
  have : i * 1 ≤ i * L := Nat.mul_le_mul_left i hp
  omega
 obtain ⟨k, hk⟩ : ∃ k, j + i * L = i + k := ⟨j + i * L - i, by omega⟩
 rw [hk]
 exact hf k
theorem qK.ground {E : Nat → Nat → Prop} {c : Nat → Nat} {L : Nat} (h : qK E c L) {A G : Nat → Prop} {r : Nat → Nat} (hd : ∀ v u, A v → ¬ G v → E v u → A u ∧ r u < r v) : ∀ (m i : Nat), r (c i) ≤ m → A (c i) → ∃ j, G (c j)
 | m, i, hm, ha => by
   by_cases hg : G (c i)
   · exact ⟨i, hg⟩
   · obtain ⟨h1, h2⟩ := hd _ _ ha hg (h.step i)
     cases m with
     | zero => omega
     | succ m => exact qK.ground h hd m (i + 1) (by omega) h1
section
variable {ah : List (List Int)} {O : List Int}
def fE (ah : List (List Int)) (I : Nat → Bool) : Prop := ∀ v, v < ah.length → I v = true → ∃ x ∈ row ah v, I x.toNat = true
noncomputable def aN (ah : List (List Int)) (O : List Int) (who : Int) (I G : Nat → Bool) (v : Nat) : Bool := decide (0 ≤ aZ ah O who I G ah.length v)
theorem wK {who : Int} {I G : Nat → Bool} {v : Nat} : aN ah O who I G v = true ↔ 0 ≤ aZ ah O who I G ah.length v := by unfold aN; rw [decide_eq_true_iff]
theorem rH {who : Int} {I G : Nat → Bool} {v : Nat} (h : aN ah O who I G v = true) : I v = true := Zt (wK.1 h)
theorem ae5 {who : Int} {I G : Nat → Bool} (v : Nat) : aN ah O who I G v = true ↔ iZ (aZ ah O who I G ah.length) (ah.length + 1) v := by
 rw [wK]
 unfold iZ
 have := (CX (ah := ah) (O := O) (who := who) (I := I) (G := G) ah.length v).2
 constructor
 · intro h; exact ⟨h, by omega⟩
 · exact fun h => h.1
theorem ae6 {who : Int} {I G : Nat → Bool} (v : Nat) : aN ah O who I G v = true ↔ iZ (aZ ah O who I G ah.length) (ah.length + 1 + 1) v := by
 rw [wK]
 unfold iZ
 have := (CX (ah := ah) (O := O) (who := who) (I := I) (G := G) ah.length v).2
 constructor
 · intro h; exact ⟨h, by omega⟩
 · exact fun h => h.1
theorem qL (hin : ig ah) {who : Int} {I G : Nat → Bool} {v : Nat} (hv : v < ah.length) : aN ah O who I G v = true ↔ fA ah O who I G (fun x => aN ah O who I G x = true) v := by
 rw [ae6, Nh hin _ hv]
 exact fA.congr fun x _ => (ae5 x.toNat).symm
theorem RQ (hin : ig ah) {who : Int} {I G : Nat → Bool} {v : Nat} (hv : v < ah.length) (h : aN ah O who I G v = true) (hG : G v = false) :
 fK (ownB O who v) (fun x => I x = true) (fun x => aN ah O who I G x = true ∧ aZ ah O who I G ah.length x < aZ ah O who I G ah.length v) (row ah v) := by
 obtain ⟨r, hr⟩ : ∃ r : Nat, aZ ah O who I G ah.length v = r := ⟨_, (Int.toNat_of_nonneg (wK.1 h)).symm⟩
 have h1 : iZ (aZ ah O who I G ah.length) (r + 1) v := by unfold iZ; omega
 rw [Nh hin r hv] at h1
 rcases h1.2 with h2 | h2
 · rw [hG] at h2; cases h2
 · refine h2.mono fun x _ hx => ?_
   unfold iZ at hx
   exact ⟨wK.2 hx.1, by omega⟩
def aQ (I A : Nat → Bool) : Nat → Bool := fun v => I v && !A v
theorem eP {I A : Nat → Bool} {v : Nat} : aQ I A v = true ↔ I v = true ∧ A v = false := by unfold aQ; simp
theorem RU (hin : ig ah) {who : Int} {I G : Nat → Bool} (ht : fE ah I) {v : Nat} (hv : v < ah.length) (hI : I v = true) (h : aN ah O who I G v = false) :
 (nth O v = who → ∀ x ∈ row ah v, I x.toNat = true → aN ah O who I G x.toNat = false) ∧ ∃ x ∈ row ah v, I x.toNat = true ∧ aN ah O who I G x.toNat = false := by
 have hn : ¬ fK (ownB O who v) (fun x => I x = true) (fun x => aN ah O who I G x = true) (row ah v) := fun hc => by
  have := (qL (O := O) (who := who) (I := I) (G := G) hin hv).2 ⟨hI, .inr hc⟩
  rw [this] at h; cases h
 unfold fK at hn
 have key : nth O v = who → ∀ x ∈ row ah v, I x.toNat = true → aN ah O who I G x.toNat = false := fun ho x hx hIx => by
  rw [if_pos (by unfold ownB; simpa using ho)] at hn
  cases ha : aN ah O who I G x.toNat with
  | false => rfl
  | true => exact absurd ⟨x, hx, hIx, ha⟩ hn
 refine ⟨key, ?_⟩
 by_cases ho : nth O v = who
 · obtain ⟨x, hx, hIx⟩ := ht v hv hI
   exact ⟨x, hx, hIx, key ho x hx hIx⟩
 · rw [if_neg (by unfold ownB; simpa using ho)] at hn
   apply Classical.byContradiction
   intro hno
   refine hn ⟨ht v hv hI, fun x hx hIx => ?_⟩
   cases ha : aN ah O who I G x.toNat with
   | true => exact ha
   | false => exact absurd ⟨x, hx, hIx, ha⟩ hno
theorem CZ (hin : ig ah) {who : Int} {I G : Nat → Bool} (ht : fE ah I) : fE ah (aQ I (aN ah O who I G)) := fun v hv h => by
 obtain ⟨hI, hA⟩ := eP.1 h
 obtain ⟨-, x, hx, hIx, hAx⟩ := RU hin ht hv hI hA
 exact ⟨x, hx, eP.2 ⟨hIx, hAx⟩⟩
def Fv (ah : List (List Int)) (O : List Int) (who : Int) (W : Nat → Bool) (s : Nat → Nat) (v u : Nat) : Prop := W v = true ∧ v < ah.length ∧ (u : Int) ∈ row ah v ∧ W u = true ∧ (nth O v = who → s v = u)
structure dF (ah : List (List Int)) (O : List Int) (p : Nat → Int) (I W : Nat → Bool) (who : Int) (s : Nat → Nat) : Prop where
 sub : ∀ v, W v = true → I v = true
 own : ∀ v, v < ah.length → W v = true → nth O v = who → (s v : Int) ∈ row ah v ∧ W (s v) = true
 bQ : ∀ v, v < ah.length → W v = true → nth O v ≠ who → ∀ x ∈ row ah v, I x.toNat = true → W x.toNat = true
 wins : ae4 (Fv ah O who W s) p who
theorem dF.congr {p : Nat → Int} {I W W' : Nat → Bool} {who : Int} {s : Nat → Nat} (h : dF ah O p I W who s) (e : ∀ v, W v = W' v) : dF ah O p I W' who s := by
 have : W = W' := funext e
 rw [← this]; exact h
theorem dF.none {p : Nat → Int} {I W : Nat → Bool} {who : Int} (e : ∀ v, W v = false) : dF ah O p I W who (fun _ => 0) where
 sub := fun v h => by rw [e v] at h; cases h
 own := fun v _ h => by rw [e v] at h; cases h
 bQ := fun v _ h => by rw [e v] at h; cases h
 wins := fun c L hl => by have := (hl.step 0).1; rw [e] at this; cases this
open Classical in
noncomputable def oz (ah : List (List Int)) (O : List Int) (who : Int) (I G : Nat → Bool) (v : Nat) : Nat :=
 if h : ∃ u : Nat, (u : Int) ∈ row ah v ∧ aN ah O who I G u = true ∧ aZ ah O who I G ah.length u < aZ ah O who I G ah.length v then Classical.choose h
 else if h : ∃ u : Nat, (u : Int) ∈ row ah v ∧ I u = true then Classical.choose h else 0
theorem Zz (hin : ig ah) {who : Int} {I G : Nat → Bool} {v : Nat} (hv : v < ah.length) (h : aN ah O who I G v = true) (hG : G v = false) (ho : nth O v = who) :
 (oz ah O who I G v : Int) ∈ row ah v ∧ aN ah O who I G (oz ah O who I G v) = true ∧ aZ ah O who I G ah.length (oz ah O who I G v) < aZ ah O who I G ah.length v := by
 have hc := RQ hin hv h hG
 unfold fK at hc
 rw [if_pos (by unfold ownB; simpa using ho)] at hc
 obtain ⟨x, hx, hIx, hAx, hr⟩ := hc
 obtain ⟨y, rfl, hy⟩ := hin v hv x hx
 rw [Int.toNat_natCast] at hAx hr
 have hex : ∃ u : Nat, (u : Int) ∈ row ah v ∧ aN ah O who I G u = true ∧ aZ ah O who I G ah.length u < aZ ah O who I G ah.length v := ⟨y, hx, hAx, hr⟩
 have e : oz ah O who I G v = Classical.choose hex := by unfold oz; rw [dif_pos hex]
 rw [e]
 exact Classical.choose_spec hex
theorem ae7 (hin : ig ah) {who : Int} {I G : Nat → Bool} (ht : fE ah I) {v : Nat} (hv : v < ah.length) (hI : I v = true) : (oz ah O who I G v : Int) ∈ row ah v ∧ I (oz ah O who I G v) = true := by
 by_cases hex : ∃ u : Nat, (u : Int) ∈ row ah v ∧ aN ah O who I G u = true ∧ aZ ah O who I G ah.length u < aZ ah O who I G ah.length v
 · have e : oz ah O who I G v = Classical.choose hex := by unfold oz; rw [dif_pos hex]
   rw [e]
   have h := Classical.choose_spec hex
   exact ⟨h.1, rH h.2.1⟩
 · have RV : ∃ u : Nat, (u : Int) ∈ row ah v ∧ I u = true := by
    obtain ⟨x, hx, hIx⟩ := ht v hv hI
    obtain ⟨y, rfl, hy⟩ := hin v hv x hx
    exact ⟨y, hx, by rw [Int.toNat_natCast] at hIx; exact hIx⟩
   have e : oz ah O who I G v = Classical.choose RV := by unfold oz; rw [dif_neg hex, dif_pos RV]
   rw [e]
   exact Classical.choose_spec RV
theorem ZA (hin : ig ah) {who : Int} {I G W : Nat → Bool} {s : Nat → Nat} (hs : ∀ v, aN ah O who I G v = true → G v = false → s v = oz ah O who I G v) (hW : ∀ v, W v = true → I v = true) {v u : Nat} (ha : aN ah O who I G v = true) (hG : G v = false) (hE : Fv ah O who W s v u) :
 aN ah O who I G u = true ∧ (aZ ah O who I G ah.length u).toNat < (aZ ah O who I G ah.length v).toNat := by
 obtain ⟨_, hv, hu, RY, ho⟩ := hE
 have h0 := wK.1 ha
 by_cases hov : nth O v = who
 · have h := Zz hin hv ha hG hov
   rw [← hs v ha hG, ho hov] at h
   have := wK.1 h.2.1
   exact ⟨h.2.1, by omega⟩
 · have hc := RQ hin hv ha hG
   unfold fK at hc
   rw [if_neg (by unfold ownB; simpa using hov)] at hc
   have h := hc.2 u hu (by rw [Int.toNat_natCast]; exact hW u RY)
   rw [Int.toNat_natCast] at h
   have := wK.1 h.1
   exact ⟨h.1, by omega⟩
theorem ZB (hin : ig ah) {p : Nat → Int} {I G : Nat → Bool} {who top : Int} (ht : fE ah I) (hG : ∀ v, G v = true ↔ I v = true ∧ p v = top) (htop : ∀ v, I v = true → p v ≤ top) (hpar : top % 2 = who) {s : Nat → Nat} (h : dF ah O p (aQ I (aN ah O who I G)) (aQ I (aN ah O who I G)) who s) :
 ∃ s', dF ah O p I I who s' := by
 refine ⟨fun v => if aQ I (aN ah O who I G) v = true then s v else oz ah O who I G v, fun v h => h, fun v hv hI ho => ?_, fun v _ _ _ x _ hx => hx, fun c L hl i hi => ?_⟩
 · by_cases hr : aQ I (aN ah O who I G) v = true
   · have h1 := h.own v hv hr ho
     simp only [hr, if_true]
     exact ⟨h1.1, (eP.1 h1.2).1⟩
   · simp only [hr]
     exact ae7 hin ht hv hI
 · by_cases hex : ∃ j, aN ah O who I G (c j) = true
   · obtain ⟨j, hj⟩ := hex
     obtain ⟨k, hk⟩ := hl.ground (A := fun v => aN ah O who I G v = true) (G := fun v => G v = true) (r := fun v => (aZ ah O who I G ah.length v).toNat)
      (fun v u ha hg hE => ZA (W := I) hin (fun x hx _ => by
       have : ¬ aQ I (aN ah O who I G) x = true := fun hh => by rw [(eP.1 hh).2] at hx; cases hx
       simp only [this]; rfl) (fun x hx => hx) ha (by simpa using hg) hE) _ j (Nat.le_refl _) hj
     have h1 := ((hG _).1 hk).2
     have h2 := htop _ (hl.step i).1
     have h3 := hi k
     have : p (c i) = top := by omega
     rw [this]; exact hpar
   · have hr : ∀ j, aQ I (aN ah O who I G) (c j) = true := fun j => eP.2 ⟨(hl.step j).1, by
      cases ha : aN ah O who I G (c j) with
      | false => rfl
      | true => exact absurd ⟨j, ha⟩ hex⟩
     refine h.wins c L ⟨hl.pos, hl.per, fun j => ⟨hr j, (hl.step j).2.1, (hl.step j).2.2.1, hr (j + 1), fun ho => ?_⟩⟩ i hi
     have := (hl.step j).2.2.2.2 ho
     simpa only [hr j, if_true] using this
theorem ZC (hin : ig ah) (hO : ∀ v, v < ah.length → nth O v = 0 ∨ nth O v = 1) {p : Nat → Int} {I G lost W : Nat → Bool} {who bQ : Int} (hwo : (who = 0 ∧ bQ = 1) ∨ (who = 1 ∧ bQ = 0)) (ht : fE ah I) {s s2 : Nat → Nat}
 (h : dF ah O p (aQ I (aN ah O who I G)) lost bQ s) (h2 : dF ah O p (aQ I (aN ah O bQ I lost)) W bQ s2) :
 ∃ s', dF ah O p I (fun v => aN ah O bQ I lost v || W v) bQ s' := by
 have hLI : ∀ v, lost v = true → I v = true := fun v hv => (eP.1 (h.sub v hv)).1
 have RZ : ∀ v, v < ah.length → lost v = true → aN ah O bQ I lost v = true := fun v hv hl => (qL hin hv).2 ⟨hLI v hl, .inl hl⟩
 have hcl : ∀ v, v < ah.length → lost v = true → nth O v ≠ bQ → ∀ x ∈ row ah v, I x.toNat = true → lost x.toNat = true := fun v hv hl ho x hx hIx => by
  have hw : nth O v = who := by have := hO v hv; omega
  obtain ⟨h1, h3⟩ := eP.1 (h.sub v hl)
  exact h.bQ v hv hl ho x hx (eP.2 ⟨hIx, (RU hin ht hv h1 h3).1 hw x hx hIx⟩)
 have ZE : ∀ v, W v = true → I v = true ∧ aN ah O bQ I lost v = false := fun v hv => eP.1 (h2.sub v hv)
 refine ⟨fun v => if lost v = true then s v else if aN ah O bQ I lost v = true then oz ah O bQ I lost v else s2 v, fun v hv => ?_, fun v hv hW ho => ?_, fun v hv hW ho x hx hIx => ?_, fun c L hl i hi => ?_⟩
 · rw [Bool.or_eq_true] at hv
   rcases hv with hv | hv
   · exact rH hv
   · exact (ZE v hv).1
 · show ((if lost v = true then s v else if aN ah O bQ I lost v = true then oz ah O bQ I lost v else s2 v : Nat) : Int) ∈ row ah v ∧ _
   by_cases hl : lost v = true
   · have h1 := h.own v hv hl ho
     simp only [hl, if_true]
     obtain ⟨y, hy, hyn⟩ := hin v hv _ h1.1
     have ae8 : s v < ah.length := by omega
     exact ⟨h1.1, by rw [RZ _ ae8 h1.2]; rfl⟩
   · have hl' : lost v = false := by simpa using hl
     by_cases ha : aN ah O bQ I lost v = true
     · have h1 := Zz hin hv ha hl' ho
       simp only [hl, ha, if_true]
       exact ⟨h1.1, by simp only [Bool.false_eq_true, if_false]; rw [h1.2.1]; rfl⟩
     · have hW' : W v = true := by
        rcases Bool.or_eq_true_iff.1 hW with hh | hh
        · exact absurd hh ha
        · exact hh
       have h1 := h2.own v hv hW' ho
       simp only [hl, ha]
       exact ⟨h1.1, by simp only [Bool.false_eq_true, if_false]; rw [h1.2, Bool.or_true]⟩
 · obtain ⟨y, rfl, hy⟩ := hin v hv x hx
   rw [Int.toNat_natCast] at hIx ⊢
   rw [Bool.or_eq_true]
   by_cases hl : lost v = true
   · exact .inl (RZ y hy (by have := hcl v hv hl ho y hx (by rw [Int.toNat_natCast]; exact hIx); rw [Int.toNat_natCast] at this; exact this))
   · have hl' : lost v = false := by simpa using hl
     by_cases ha : aN ah O bQ I lost v = true
     · have hc := RQ hin hv ha hl'
       unfold fK at hc
       rw [if_neg (by unfold ownB; simpa using ho)] at hc
       have := (hc.2 y hx (by rw [Int.toNat_natCast]; exact hIx)).1
       rw [Int.toNat_natCast] at this
       exact .inl this
     · have hW' : W v = true := by
        rcases Bool.or_eq_true_iff.1 hW with hh | hh
        · exact absurd hh ha
        · exact hh
       cases hay : aN ah O bQ I lost y with
       | true => exact .inl rfl
       | false =>
         have := h2.bQ v hv hW' ho y hx (by rw [Int.toNat_natCast]; exact eP.2 ⟨hIx, hay⟩)
         rw [Int.toNat_natCast] at this
         exact .inr this
 · by_cases hex : ∃ j, aN ah O bQ I lost (c j) = true
   · obtain ⟨j, hj⟩ := hex
     have ZF : ∀ x, (aN ah O bQ I lost x || W x) = true → I x = true := fun x hx => by
      rcases Bool.or_eq_true_iff.1 hx with hx | hx
      · exact rH hx
      · exact (ZE x hx).1
     obtain ⟨k, hk⟩ := hl.ground (A := fun v => aN ah O bQ I lost v = true) (G := fun v => lost v = true) (r := fun v => (aZ ah O bQ I lost ah.length v).toNat)
      (fun v u ha hg hE => ZA (W := fun v => aN ah O bQ I lost v || W v) hin (fun x hx hlx => by simp only [hlx, hx]; rfl) ZF ha (by simpa using hg) hE) _ j (Nat.le_refl _) hj
     have hall : ∀ i, lost (c i) = true := hl.all (S := fun v => lost v = true) hk fun v u hlv hE => by
      obtain ⟨_, hv, hu, RY, ho⟩ := hE
      by_cases hov : nth O v = bQ
      · have h1 := ho hov
        simp only [hlv, if_true] at h1
        rw [← h1]; exact (h.own v hv hlv hov).2
      · have := hcl v hv hlv hov u hu (by rw [Int.toNat_natCast]; exact ZF u RY)
        rw [Int.toNat_natCast] at this; exact this
     refine h.wins c L ⟨hl.pos, hl.per, fun j => ⟨hall j, (hl.step j).2.1, (hl.step j).2.2.1, hall (j + 1), fun ho => ?_⟩⟩ i hi
     have := (hl.step j).2.2.2.2 ho
     simpa only [hall j, if_true] using this
   · have hno : ∀ j, aN ah O bQ I lost (c j) = false := fun j => by
      cases ha : aN ah O bQ I lost (c j) with
      | false => rfl
      | true => exact absurd ⟨j, ha⟩ hex
     have hr : ∀ j, W (c j) = true := fun j => by
      have h1 := (hl.step j).1
      rcases Bool.or_eq_true_iff.1 h1 with hh | hh
      · rw [hno j] at hh; cases hh
      · exact hh
     have hnl : ∀ j, lost (c j) = false := fun j => by
      cases ha : lost (c j) with
      | false => rfl
      | true => have := RZ _ (hl.step j).2.1 ha; rw [hno j] at this; cases this
     refine h2.wins c L ⟨hl.pos, hl.per, fun j => ⟨hr j, (hl.step j).2.1, (hl.step j).2.2.1, hr (j + 1), fun ho => ?_⟩⟩ i hi
     have := (hl.step j).2.2.2.2 ho
     simpa only [hnl j, hno j, Bool.false_eq_true, if_false] using this
theorem Jb (hin : ig ah) (hO : ∀ v, v < ah.length → nth O v = 0 ∨ nth O v = 1) {p : Nat → Int} {I lost W : Nat → Bool} {who bQ : Int} (hwo : (who = 0 ∧ bQ = 1) ∨ (who = 1 ∧ bQ = 0)) (ht : fE ah I) {s : Nat → Nat}
 (h : dF ah O p (aQ I (aN ah O bQ I lost)) W who s) : dF ah O p I W who s where
 sub := fun v hv => (eP.1 (h.sub v hv)).1
 own := h.own
 bQ := fun v hv hW ho x hx hIx => by
  obtain ⟨h1, h2⟩ := eP.1 (h.sub v hW)
  exact h.bQ v hv hW ho x hx (eP.2 ⟨hIx, (RU hin ht hv h1 h2).1 (by have := hO v hv; omega) x hx hIx⟩)
 wins := h.wins
end
end
section
open Go.RowKit
def dW (p : Nat → Int) (I : Nat → Bool) : Nat → Int
 | 0 => -1
 | k + 1 => if I k = true then (if dW p I k < p k then p k else dW p I k) else dW p I k
theorem Si {p : Nat → Int} {I : Nat → Bool} : ∀ n v, v < n → I v = true → p v ≤ dW p I n
 | 0, _, h, _ => absurd h (Nat.not_lt_zero _)
 | n + 1, v, h, hI => by
   rw [dW]
   by_cases e : v = n
   · subst e
     rw [if_pos hI]; split <;> omega
   · have ih := Si (p := p) n v (by omega) hI
     split
     · split <;> omega
     · exact ih
theorem Jc {p : Nat → Int} {I : Nat → Bool} : ∀ n, 0 ≤ dW p I n → ∃ v, v < n ∧ I v = true ∧ p v = dW p I n
 | 0, h => by simp [dW] at h
 | n + 1, h => by
   rw [dW] at h ⊢
   by_cases hI : I n = true
   · rw [if_pos hI] at h ⊢
     by_cases hl : dW p I n < p n
     · rw [if_pos hl]; exact ⟨n, by omega, hI, rfl⟩
     · rw [if_neg hl] at h ⊢
       obtain ⟨v, h1, h2, h3⟩ := Jc n h
       exact ⟨v, by omega, h2, h3⟩
   · rw [if_neg hI] at h ⊢
     obtain ⟨v, h1, h2, h3⟩ := Jc n h
     exact ⟨v, by omega, h2, h3⟩
section
variable (ah : List (List Int)) (O : List Int) (p : Nat → Int)
def Fz (I : Nat → Bool) : Nat → Bool := fun v => I v && decide (p v = dW p I ah.length)
noncomputable def fB (I : Nat → Bool) : Nat → Bool := aQ I (aN ah O (dW p I ah.length % 2) I (Fz ah p I))
def nK (who : Int) (rest low : Nat → Bool) : Nat → Bool := fun v => rest v && (low v != decide (who = 0))
noncomputable def dO : Nat → (Nat → Bool) → Nat → Bool
 | 0, _, _ => false
 | m + 1, I, v =>
   if dW p I ah.length < 0 then false
   else if (List.range ah.length).any (nK (dW p I ah.length % 2) (fB ah O p I) (dO m (fB ah O p I))) = false then I v && decide (dW p I ah.length % 2 = 0)
   else dO m (aQ I (aN ah O (1 - dW p I ah.length % 2) I (nK (dW p I ah.length % 2) (fB ah O p I) (dO m (fB ah O p I))))) v ||
    (aN ah O (1 - dW p I ah.length % 2) I (nK (dW p I ah.length % 2) (fB ah O p I) (dO m (fB ah O p I))) v && decide (dW p I ah.length % 2 = 1))
end
section
variable {ah : List (List Int)} {O : List Int} {p : Nat → Int}
theorem ZG : ∀ (m : Nat) (I : Nat → Bool) (v : Nat), dO ah O p m I v = true → I v = true
 | 0, I, v, h => by simp [dO] at h
 | m + 1, I, v, h => by
   rw [dO] at h
   split at h
   · cases h
   · split at h
     · rw [Bool.and_eq_true] at h; exact h.1
     · rw [Bool.or_eq_true, Bool.and_eq_true] at h
       rcases h with h | h
       · exact (eP.1 (ZG m _ v h)).1
       · exact rH h.1
def dK (who : Int) (I win : Nat → Bool) : Nat → Bool := fun v => I v && (win v == decide (who = 0))
theorem wL {n : Nat} {I J : Nat → Bool} (h : ∀ v, v < n → J v = true → I v = true) {v : Nat} (hv : v < n) (hI : I v = true) (hJ : J v = false) : (aU J n).length < (aU I n).length := RD n h v hv hJ hI
theorem winZ_holds (hin : ig ah) (hO : ∀ v, v < ah.length → nth O v = 0 ∨ nth O v = 1) (hp : ∀ v, v < ah.length → 0 ≤ p v) : ∀ (m : Nat) (I : Nat → Bool), (∀ v, I v = true → v < ah.length) → (aU I ah.length).length ≤ m → fE ah I →
 (∃ s, dF ah O p I (dK 0 I (dO ah O p m I)) 0 s) ∧ ∃ s, dF ah O p I (dK 1 I (dO ah O p m I)) 1 s
 | 0, I, hI, hm, _ => by
   have he : ∀ v, I v = false := fun v => by
    cases h : I v with
    | false => rfl
    | true =>
      have := wL (n := ah.length) (I := I) (J := fun _ => false) (fun _ _ h => by cases h) (hI v h) h rfl
      omega
   exact ⟨⟨_, dF.none fun v => by simp [dK, he v]⟩, ⟨_, dF.none fun v => by simp [dK, he v]⟩⟩
 | m + 1, I, hI, hm, ht => by
   by_cases htop : dW p I ah.length < 0
   · have he : ∀ v, I v = false := fun v => by
      cases h : I v with
      | false => rfl
      | true =>
        have h1 := Si (p := p) ah.length v (hI v h) h
        have h2 := hp v (hI v h)
        omega
     exact ⟨⟨_, dF.none fun v => by simp [dK, he v]⟩, ⟨_, dF.none fun v => by simp [dK, he v]⟩⟩
   · obtain ⟨top, hte⟩ : ∃ top, top = dW p I ah.length := ⟨_, rfl⟩
     have ht0 : 0 ≤ top := by omega
     obtain ⟨who, hwe⟩ : ∃ who, who = top % 2 := ⟨_, rfl⟩
     have hw : (who = 0 ∧ 1 - who = 1) ∨ (who = 1 ∧ 1 - who = 0) := by omega
     obtain ⟨g, hg1, hg2, hg3⟩ := Jc (p := p) (I := I) ah.length (by omega)
     have hgoal : ∀ v, Fz ah p I v = true ↔ I v = true ∧ p v = top := fun v => by unfold Fz; rw [Bool.and_eq_true, decide_eq_true_iff, hte]
     have hgA : aN ah O who I (Fz ah p I) g = true := (qL hin hg1).2 ⟨hg2, .inl ((hgoal g).2 ⟨hg2, by rw [hg3, hte]⟩)⟩
     have Jd : fB ah O p I = aQ I (aN ah O who I (Fz ah p I)) := by unfold fB; rw [hwe, hte]
     have Np : ∀ v, fB ah O p I v = true → I v = true := fun v h => by rw [Jd] at h; exact (eP.1 h).1
     have hrm : (aU (fB ah O p I) ah.length).length < (aU I ah.length).length :=
      wL (fun v _ h => Np v h) hg1 hg2 (by
       cases h : fB ah O p I g with
       | false => rfl
       | true => rw [Jd] at h; rw [(eP.1 h).2] at hgA; cases hgA)
     have htr : fE ah (fB ah O p I) := by rw [Jd]; exact CZ hin ht
     have ih := winZ_holds hin hO hp m (fB ah O p I) (fun v h => hI v (Np v h)) (by omega) htr
     obtain ⟨low, hlow⟩ : ∃ low, low = dO ah O p m (fB ah O p I) := ⟨_, rfl⟩
     obtain ⟨lost, zQ⟩ : ∃ lost, lost = nK who (fB ah O p I) low := ⟨_, rfl⟩
     rw [← hlow] at ih
     have hll : ∀ v, lost v = dK (1 - who) (fB ah O p I) low v := fun v => by
      rw [zQ]
      unfold nK dK
      rcases hw with ⟨h0, _⟩ | ⟨h0, _⟩ <;> rw [h0] <;> cases fB ah O p I v <;> cases low v <;> simp
     have ihl : ∃ s, dF ah O p (fB ah O p I) lost (1 - who) s := by
      rcases hw with ⟨h0, h1⟩ | ⟨h0, h1⟩
      · obtain ⟨s, hs⟩ := ih.2
        exact ⟨s, by rw [h1]; exact hs.congr fun v => by rw [hll v, h1]⟩
      · obtain ⟨s, hs⟩ := ih.1
        exact ⟨s, by rw [h1]; exact hs.congr fun v => by rw [hll v, h1]⟩
     have Sj : ∀ v, dO ah O p (m + 1) I v = if (List.range ah.length).any lost = false then I v && decide (who = 0) else dO ah O p m (aQ I (aN ah O (1 - who) I lost)) v || (aN ah O (1 - who) I lost v && decide (who = 1)) := fun v => by
      rw [dO, if_neg htop, zQ, hlow, hwe, hte]
     by_cases hany : (List.range ah.length).any lost = false
     · -- the ae9 wins nothing
       have hno : ∀ v, lost v = false := fun v => by
        cases h : lost v with
        | false => rfl
        | true =>
          have hv : v < ah.length := hI v (Np v (by rw [zQ] at h; unfold nK at h; rw [Bool.and_eq_true] at h; exact h.1))
          rw [List.any_eq_false] at hany
          exact absurd h (hany v (List.mem_range.2 hv))
       have hrw : ∃ s, dF ah O p (fB ah O p I) (fB ah O p I) who s := by
        have hre : ∀ v, dK who (fB ah O p I) low v = fB ah O p I v := fun v => by
         have h := hno v
         rw [zQ] at h
         unfold nK at h
         unfold dK
         cases h1 : fB ah O p I v <;> cases h2 : low v <;> rw [h1, h2] at h <;> rcases hw with ⟨h0, _⟩ | ⟨h0, _⟩ <;> rw [h0] at h ⊢ <;> simp at h ⊢
        rcases hw with ⟨h0, h1⟩ | ⟨h0, h1⟩
        · obtain ⟨s, hs⟩ := ih.1
          exact ⟨s, by rw [h0]; exact hs.congr fun v => by have := hre v; rw [h0] at this; exact this⟩
        · obtain ⟨s, hs⟩ := ih.2
          exact ⟨s, by rw [h0]; exact hs.congr fun v => by have := hre v; rw [h0] at this; exact this⟩
       obtain ⟨s, hs⟩ := hrw
       rw [Jd] at hs
       obtain ⟨s', hs'⟩ := ZB hin ht hgoal (fun v hv => by have := Si (p := p) ah.length v (hI v hv) hv; omega) hwe.symm hs
       have hwho : ∃ s, dF ah O p I (dK who I (dO ah O p (m + 1) I)) who s := ⟨s', hs'.congr fun v => by
        unfold dK; rw [Sj v, if_pos hany]; cases I v <;> cases hd : decide (who = 0) <;> simp⟩
       have l9 : ∃ s, dF ah O p I (dK (1 - who) I (dO ah O p (m + 1) I)) (1 - who) s := ⟨_, dF.none fun v => by
        unfold dK; rw [Sj v, if_pos hany]; rcases hw with ⟨h0, _⟩ | ⟨h0, _⟩ <;> rw [h0] <;> cases I v <;> simp⟩
       rcases hw with ⟨h0, h1⟩ | ⟨h0, h1⟩
       · rw [h0] at hwho; rw [h1] at l9; exact ⟨hwho, l9⟩
       · rw [h0] at hwho; rw [h1] at l9; exact ⟨l9, hwho⟩
     · -- the ae9 wins something
       obtain ⟨s, hs⟩ := ihl
       obtain ⟨x, hx, hlx⟩ : ∃ x, x < ah.length ∧ lost x = true := by
        have h1 : (List.range ah.length).any lost = true := by simpa using hany
        rw [List.any_eq_true] at h1
        obtain ⟨x, hx, h2⟩ := h1
        exact ⟨x, List.mem_range.1 hx, h2⟩
       have hIx : I x = true := Np x (hs.sub x hlx)
       have hax : aN ah O (1 - who) I lost x = true := (qL hin hx).2 ⟨hIx, .inl hlx⟩
       have ham : (aU (aQ I (aN ah O (1 - who) I lost)) ah.length).length < (aU I ah.length).length :=
        wL (fun v _ h => (eP.1 h).1) hx hIx (by
         cases h : aQ I (aN ah O (1 - who) I lost) x with
         | false => rfl
         | true => rw [(eP.1 h).2] at hax; cases hax)
       have ih2 := winZ_holds hin hO hp m (aQ I (aN ah O (1 - who) I lost)) (fun v h => hI v (eP.1 h).1) (by omega) (CZ hin ht)
       obtain ⟨again, FB⟩ : ∃ again, again = dO ah O p m (aQ I (aN ah O (1 - who) I lost)) := ⟨_, rfl⟩
       rw [← FB] at ih2
       have hsub : ∀ v, again v = true → I v = true ∧ aN ah O (1 - who) I lost v = false := fun v h => by rw [FB] at h; exact eP.1 (ZG _ _ _ h)
       have hsA : ∀ v, aN ah O (1 - who) I lost v = true → I v = true := fun v h => rH h
       rw [Jd] at hs
       have ZH : ∀ v, dO ah O p (m + 1) I v = (again v || (aN ah O (1 - who) I lost v && decide (who = 1))) := fun v => by rw [Sj v, if_neg hany, FB]
       have l9 : ∃ s, dF ah O p I (dK (1 - who) I (dO ah O p (m + 1) I)) (1 - who) s := by
        have h2 : ∃ s, dF ah O p (aQ I (aN ah O (1 - who) I lost)) (dK (1 - who) (aQ I (aN ah O (1 - who) I lost)) again) (1 - who) s := by
         rcases hw with ⟨h0, h1⟩ | ⟨h0, h1⟩
         · rw [h1] at ih2 ⊢; exact ih2.2
         · rw [h1] at ih2 ⊢; exact ih2.1
        obtain ⟨s2, hs2⟩ := h2
        obtain ⟨s', hs'⟩ := ZC hin hO hw ht hs hs2
        refine ⟨s', hs'.congr fun v => ?_⟩
        unfold dK
        rw [ZH v]
        have a1 := hsub v
        have a2 := hsA v
        unfold aQ
        cases hav : aN ah O (1 - who) I lost v <;> cases hiv : I v <;> cases hgv : again v <;> rw [hav] at a1 a2 <;> rw [hiv] at a1 a2 <;> rw [hgv] at a1 <;> rcases hw with ⟨h0, _⟩ | ⟨h0, _⟩ <;> rw [h0] <;> simp at a1 a2 ⊢
       have hwho : ∃ s, dF ah O p I (dK who I (dO ah O p (m + 1) I)) who s := by
        have h2 : ∃ s, dF ah O p (aQ I (aN ah O (1 - who) I lost)) (dK who (aQ I (aN ah O (1 - who) I lost)) again) who s := by
         rcases hw with ⟨h0, h1⟩ | ⟨h0, h1⟩
         · rw [h0] at ih2 ⊢; exact ih2.1
         · rw [h0] at ih2 ⊢; exact ih2.2
        obtain ⟨s2, hs2⟩ := h2
        refine ⟨s2, (Jb hin hO hw ht hs2).congr fun v => ?_⟩
        unfold dK
        rw [ZH v]
        have a1 := hsub v
        have a2 := hsA v
        unfold aQ
        cases hav : aN ah O (1 - who) I lost v <;> cases hiv : I v <;> cases hgv : again v <;> rw [hav] at a1 a2 <;> rw [hiv] at a1 a2 <;> rw [hgv] at a1 <;> rcases hw with ⟨h0, _⟩ | ⟨h0, _⟩ <;> rw [h0] <;> simp at a1 a2 ⊢
       rcases hw with ⟨h0, h1⟩ | ⟨h0, h1⟩
       · rw [h0] at hwho; rw [h1] at l9; exact ⟨hwho, l9⟩
       · rw [h0] at hwho; rw [h1] at l9; exact ⟨l9, hwho⟩
theorem afa {n : Nat} {c : Nat → Nat} (hc : ∀ i, c i < n) : ∃ i j, i < j ∧ c i = c j := by
 apply Classical.byContradiction
 intro hn
 have h1 : ((List.range (n + 1)).map c).Nodup := by
  rw [List.Nodup, List.pairwise_map, List.pairwise_iff_getElem]
  intro i j hi hj hij e
  simp only [List.getElem_range] at e
  exact hn ⟨i, j, hij, e⟩
 have h2 : (List.range (n + 1)).map c ⊆ List.range n := fun x hx => by
  obtain ⟨i, _, rfl⟩ := List.mem_map.1 hx
  exact List.mem_range.2 (hc i)
 have := List.Nodup.length_le_of_subset h1 h2
 simp at this
 omega
theorem ZI (f : Nat → Int) : ∀ L, 0 < L → ∃ i, i < L ∧ ∀ j, j < L → f j ≤ f i
 | 0, h => absurd h (Nat.not_lt_zero _)
 | 1, _ => ⟨0, by omega, fun j hj => by have : j = 0 := by omega
                                        rw [this]; exact Int.le_refl _⟩
 | L + 2, _ => by
   obtain ⟨i, hi, h⟩ := ZI f (L + 1) (by omega)
   by_cases hl : f i < f (L + 1)
   · refine ⟨L + 1, by omega, fun j hj => ?_⟩
     by_cases e : j = L + 1
     · rw [e]; exact Int.le_refl _
     · have := h j (by omega); omega
   · refine ⟨i, by omega, fun j hj => ?_⟩
     by_cases e : j = L + 1
     · rw [e]; omega
     · exact h j (by omega)
theorem qK.max {E : Nat → Nat → Prop} {c : Nat → Nat} {L : Nat} (h : qK E c L) (f : Nat → Int) : ∃ i, ∀ j, f (c j) ≤ f (c i) := by
 obtain ⟨i, _, hm⟩ := ZI (fun k => f (c k)) L h.pos
 refine ⟨i, fun j => ?_⟩
 have h1 := h.far (j % L) (j / L)
 rw [Nat.mul_comm, Nat.mod_add_div] at h1
 rw [h1]
 exact hm _ (Nat.mod_lt _ h.pos)
end
end
section
open Go.RowKit
section
variable {ah : List (List Int)} {O : List Int} {who : Int} {I G : Nat → Bool}
open Classical in
noncomputable def cntF (ah : List (List Int)) (I : Nat → Bool) (P : Nat → Prop) (v : Nat) : Int := (((row ah v).filter (fun x => I x.toNat && !decide (P x.toNat))).length : Int)
theorem afb (P : Nat → Prop) (v : Nat) : 0 ≤ cntF ah I P v ∧ cntF ah I P v ≤ (row ah v).length := by
 have := List.length_filter_le (fun x => I x.toNat && !@decide (P x.toNat) (Classical.propDecidable _)) (row ah v)
 unfold cntF
 constructor <;> omega
theorem Sl {P P' : Nat → Prop} {v : Nat} (hp : ∀ x ∈ row ah v, (P x.toNat ↔ P' x.toNat)) : cntF ah I P v = cntF ah I P' v := by
 unfold cntF
 congr 2
 refine List.filter_congr fun x hx => ?_
 by_cases h : P x.toNat
 · simp [h, (hp x hx).1 h]
 · have h' : ¬ P' x.toNat := fun hh => h ((hp x hx).2 hh)
   simp [h, h']
theorem afc {P : Nat → Prop} {u v : Nat} (hn : (row ah v).Nodup) (hpos : ∀ x ∈ row ah v, 0 ≤ x) (hu : (u : Int) ∈ row ah v) (hI : I u = true) (hP : ¬ P u) : cntF ah I (gI P u) v = cntF ah I P v - 1 := by
 have e := RI (p := fun x => I x.toNat && !@decide (P x.toNat) (Classical.propDecidable _)) (q := fun x => I x.toNat && !@decide (gI P u x.toNat) (Classical.propDecidable _)) hn hu (by simp [hI, hP]) (by simp [gI])
  (fun x hx hne => by
   have hx0 := hpos x hx
   have hxu : x.toNat ≠ u := by omega
   by_cases hh : P x.toNat
   · simp [gI, hh]
   · simp [gI, hxu, hh])
 unfold cntF
 omega
theorem afd {P : Nat → Prop} {v : Nat} (h : cntF ah I P v = 0) : ∀ x ∈ row ah v, I x.toNat = true → P x.toNat := fun x hx hIx => by
 unfold cntF at h
 rw [Int.natCast_eq_zero, List.length_eq_zero_iff, List.filter_eq_nil_iff] at h
 have := h x hx
 simp [hIx] at this
 exact this
theorem afe {P : Nat → Prop} {v : Nat} (h : ∀ x ∈ row ah v, I x.toNat = true → P x.toNat) : cntF ah I P v = 0 := by
 unfold cntF
 rw [Int.natCast_eq_zero, List.length_eq_zero_iff, List.filter_eq_nil_iff]
 intro x hx hh
 simp at hh
 exact hh.2 (h x hx hh.1)
structure C7 (ah : List (List Int)) (O : List Int) (who : Int) (I G : Nat → Bool) (P : Nat → Prop) (Q : List Int) (out : Nat → Bool) (left : Nat → Int) : Prop where
 ja : jW ah.length Q
 outs : ∀ v, v < ah.length → (out v = true ↔ fA ah O who I G P v)
 mem : ∀ v : Nat, v < ah.length → ((v : Int) ∈ Q ↔ out v = true)
 lefts : ∀ v, v < ah.length → I v = true → out v = false → left v = cntF ah I P v
 sound : ∀ v, v < ah.length → out v = true → aN ah O who I G v = true
structure qM (ah : List (List Int)) (O : List Int) (who : Int) (I G : Nat → Bool) (P : Nat → Prop) (u j : Nat) (vs Q : List Int) (out : Nat → Bool) (left : Nat → Int) : Prop where
 ja : jW ah.length Q
 outs : ∀ v : Nat, v < ah.length → (out v = true ↔ fA ah O who I G P v ∨ ((v : Int) ∈ vs.take j ∧ fA ah O who I G (gI P u) v))
 mem : ∀ v : Nat, v < ah.length → ((v : Int) ∈ Q ↔ out v = true)
 lefts : ∀ v : Nat, v < ah.length → I v = true → out v = false → left v = if (v : Int) ∈ vs.take j then cntF ah I (gI P u) v else cntF ah I P v
 sound : ∀ v, v < ah.length → out v = true → aN ah O who I G v = true
variable {P : Nat → Prop} {Q vs : List Int} {out : Nat → Bool} {left : Nat → Int} {u j : Nat}
theorem qM.start (h : C7 ah O who I G P Q out left) : qM ah O who I G P u 0 vs Q out left :=
 ⟨h.ja, fun v hv => by rw [h.outs v hv]; simp, h.mem, fun v hv hI ho => by rw [h.lefts v hv hI ho]; simp, h.sound⟩
theorem qM.full (hpos : ∀ v, v < ah.length → ∀ x ∈ row ah v, 0 ≤ x) (hvs : ∀ v : Nat, v < ah.length → (u : Int) ∈ row ah v → (v : Int) ∈ vs) (h : qM ah O who I G P u vs.length vs Q out left) {P' : Nat → Prop} (hP' : ∀ x, P' x ↔ gI P u x) : C7 ah O who I G P' Q out left where
 ja := h.ja
 outs := fun v hv => by
  rw [h.outs v hv, List.take_length, fA.congr (P := P') fun x _ => hP' x.toNat]
  constructor
  · rintro (hh | hh)
    · exact hh.mono fun x _ => .inl
    · exact hh.2
  · intro hh
    by_cases hm : (u : Int) ∈ row ah v
    · exact .inr ⟨hvs v hv hm, hh⟩
    · exact .inl ((fA.congr (Fq (hpos v hv) hm)).2 hh)
 mem := h.mem
 lefts := fun v hv hI ho => by
  rw [h.lefts v hv hI ho, List.take_length, Sl (P := P') fun x _ => hP' x.toNat]
  by_cases hm : (u : Int) ∈ row ah v
  · rw [if_pos (hvs v hv hm)]
  · split
    · rfl
    · exact Sl (Fq (hpos v hv) hm)
 sound := h.sound
theorem Sm {vs : List Int} {j : Nat} (hn : vs.Nodup) (hj : j < vs.length) : nth vs j ∉ vs.take j := fun hh => by
 rw [← List.take_append_drop j vs, List.nodup_append] at hn
 refine hn.2.2 _ hh _ ?_ rfl
 rw [List.mem_iff_getElem?]
 exact ⟨0, by rw [List.getElem?_drop, Nat.add_zero, List.getElem?_eq_getElem hj, jl hj]⟩
theorem qM.pass (hpos : ∀ v, v < ah.length → ∀ x ∈ row ah v, 0 ≤ x) (hn : vs.Nodup) (h : qM ah O who I G P u j vs Q out left) {v : Nat} (hvn : v < ah.length) (hj : j < vs.length) (hv : nth vs j = (v : Int)) (hw : I v = false ∨ out v = true ∨ (u : Int) ∉ row ah v) : qM ah O who I G P u (j + 1) vs Q out left := by
 have hno := Sm hn hj
 rw [hv] at hno
 have hq : fA ah O who I G (gI P u) v → out v = true := fun hq => by
  rcases hw with h1 | h1 | h1
  · rw [hq.1] at h1; cases h1
  · exact h1
  · exact (h.outs v hvn).2 (.inl ((fA.congr (Fq (hpos v hvn) h1)).2 hq))
 refine ⟨h.ja, fun x hx => ?_, h.mem, fun x hx hI ho => ?_, h.sound⟩
 · rw [h.outs x hx, take_snoc hj, hv]
   constructor
   · exact fun hh => hh.imp id fun hh => ⟨by simp [hh.1], hh.2⟩
   · rintro (hh | ⟨h1, h2⟩)
     · exact .inl hh
     · rw [List.mem_append] at h1
       rcases h1 with h1 | h1
       · exact .inr ⟨h1, h2⟩
       · obtain rfl := Int.natCast_inj.1 (List.mem_singleton.1 h1)
         exact (h.outs x hx).1 (hq h2)
 · rw [h.lefts x hx hI ho, take_snoc hj, hv]
   by_cases e : x = v
   · subst e
     rw [if_neg hno, if_pos (by simp)]
     rcases hw with h1 | h1 | h1
     · rw [hI] at h1; cases h1
     · rw [ho] at h1; cases h1
     · exact Sl (Fq (hpos x hx) h1)
   · have e' : ((x : Int) = v) ↔ False := ⟨fun h => e (Int.natCast_inj.1 h), False.elim⟩
     simp only [List.mem_append, List.mem_singleton, e', or_false]
theorem qM.less (hz : iO ah) (hn : vs.Nodup) (h : qM ah O who I G P u j vs Q out left) {v : Nat} (hvn : v < ah.length) (hj : j < vs.length) (hv : nth vs j = (v : Int)) (hI : I v = true) (ho : out v = false) (hu : (u : Int) ∈ row ah v) (gY : I u = true) (hPu : ¬ P u) :
 left v - 1 = cntF ah I (gI P u) v ∧ (nth O v ≠ who → left v - 1 ≠ 0 → qM ah O who I G P u (j + 1) vs Q out (fun x => if x = v then left v - 1 else left x)) ∧
 (nth O v = who ∨ left v - 1 = 0 → (∀ x, x < ah.length → P x → aN ah O who I G x = true) → aN ah O who I G u = true → qM ah O who I G P u (j + 1) vs (Q ++ [(v : Int)]) (fun x => if x = v then true else out x) (fun x => if x = v then left v - 1 else left x)) := by
 have hno := Sm hn hj
 rw [hv] at hno
 have el : left v = cntF ah I P v := by rw [h.lefts v hvn hI ho, if_neg hno]
 have e1 : left v - 1 = cntF ah I (gI P u) v := by rw [el, afc (hz.once v hvn) (hz.pos hvn) hu gY hPu]
 have hnq : ¬ fA ah O who I G P v := fun hq => by rw [(h.outs v hvn).2 (.inl hq)] at ho; cases ho
 have hnG : G v = false := by
  cases hg : G v with
  | false => rfl
  | true => exact absurd ⟨hI, .inl hg⟩ hnq
 refine ⟨e1, fun hw h0 => ?_, fun hw hPs hus => ?_⟩
 · have hq : ¬ fA ah O who I G (gI P u) v := fun hq => by
    rcases hq.2 with hg | hc
    · rw [hnG] at hg; cases hg
    · unfold fK at hc
      rw [if_neg (by unfold ownB; simpa using hw)] at hc
      exact h0 (by rw [e1]; exact afe hc.2)
   refine ⟨h.ja, fun x hx => ?_, h.mem, fun x hx hIx hox => ?_, h.sound⟩
   · rw [h.outs x hx, take_snoc hj, hv]
     constructor
     · exact fun hh => hh.imp id fun hh => ⟨by simp [hh.1], hh.2⟩
     · rintro (hh | ⟨h1, h2⟩)
       · exact .inl hh
       · rw [List.mem_append] at h1
         rcases h1 with h1 | h1
         · exact .inr ⟨h1, h2⟩
         · obtain rfl := Int.natCast_inj.1 (List.mem_singleton.1 h1)
           exact absurd h2 hq
   · rw [take_snoc hj, hv]
     by_cases e : x = v
     · subst e
       rw [if_pos rfl, if_pos (by simp), e1]
     · have e' : ((x : Int) = v) ↔ False := ⟨fun h => e (Int.natCast_inj.1 h), False.elim⟩
       rw [if_neg e, h.lefts x hx hIx hox]
       simp only [List.mem_append, List.mem_singleton, e', or_false]
 · have hq : fA ah O who I G (gI P u) v := by
    refine ⟨hI, .inr ?_⟩
    unfold fK
    by_cases how : nth O v = who
    · rw [if_pos (by unfold ownB; simpa using how)]
      exact ⟨u, hu, by rw [Int.toNat_natCast]; exact gY, .inr (Int.toNat_natCast u)⟩
    · rw [if_neg (by unfold ownB; simpa using how)]
      refine ⟨⟨u, hu, by rw [Int.toNat_natCast]; exact gY⟩, afd ?_⟩
      rw [← e1]
      rcases hw with hh | hh
      · exact absurd hh how
      · exact hh
   have hna : (v : Int) ∉ Q := fun hm => by rw [(h.mem v hvn).1 hm] at ho; cases ho
   have hsv : aN ah O who I G v = true := (qL hz.eu hvn).2 (hq.mono fun x hx hh => by
    obtain ⟨y, rfl, hy⟩ := hz.eu v hvn x hx
    rw [Int.toNat_natCast] at hh ⊢
    rcases hh with hh | hh
    · exact hPs y hy hh
    · rw [hh]; exact hus)
   refine ⟨h.ja.snoc hvn hna, fun x hx => ?_, fun x hx => ?_, fun x hx hIx hox => ?_, fun x hx hox => ?_⟩
   · rw [take_snoc hj, hv]
     by_cases e : x = v
     · subst e
       rw [if_pos rfl]
       exact ⟨fun _ => .inr ⟨by simp, hq⟩, fun _ => rfl⟩
     · have e' : ((x : Int) = v) ↔ False := ⟨fun h => e (Int.natCast_inj.1 h), False.elim⟩
       rw [if_neg e, h.outs x hx]
       simp only [List.mem_append, List.mem_singleton, e', or_false]
   · by_cases e : x = v
     · subst e; simp
     · have e' : ((x : Int) = v) ↔ False := ⟨fun h => e (Int.natCast_inj.1 h), False.elim⟩
       rw [if_neg e, ← h.mem x hx]
       simp only [List.mem_append, List.mem_singleton, e', or_false]
   · by_cases e : x = v
     · subst e; rw [if_pos rfl] at hox; cases hox
     · have e' : ((x : Int) = v) ↔ False := ⟨fun h => e (Int.natCast_inj.1 h), False.elim⟩
       rw [if_neg e] at hox ⊢
       rw [h.lefts x hx hIx hox, take_snoc hj, hv]
       simp only [List.mem_append, List.mem_singleton, e', or_false]
   · by_cases e : x = v
     · subst e; exact hsv
     · rw [if_neg e] at hox; exact h.sound x hx hox
theorem C7.done (hz : iO ah) (h : C7 ah O who I G (fun x => (x : Int) ∈ Q) Q out left) : ∀ v, v < ah.length → out v = aN ah O who I G v := by
 have hfix : ∀ v, v < ah.length → (out v = true ↔ fA ah O who I G (fun x => out x = true) v) := fun v hv => by
  rw [h.outs v hv]
  exact fA.congr fun x hx => by
   obtain ⟨y, rfl, hy⟩ := hz.eu v hv x hx
   rw [Int.toNat_natCast]; exact h.mem y hy
 have hall : ∀ k v, v < ah.length → 0 ≤ aZ ah O who I G k v → out v = true := fun k => by
  induction k with
  | zero =>
    intro v hv hr
    rw [aZ] at hr
    split at hr
    · next hc => exact (hfix v hv).2 ⟨hc.1, .inl hc.2⟩
    · omega
  | succ k ih =>
    intro v hv hr
    refine (hfix v hv).2 (((RH k v).1 hr).mono fun x hx hh => ?_)
    obtain ⟨y, rfl, hy⟩ := hz.eu v hv x hx
    rw [Int.toNat_natCast] at hh ⊢
    exact ih y hy hh
 intro v hv
 rw [Bool.eq_iff_iff]
 exact ⟨h.sound v hv, fun ha => hall _ v hv (wK.1 ha)⟩
end
end
end Go.Proofs.YtglbkbiphcgidaaDoor
namespace Go.Proofs.YtglbkbiphcgidaaDoor
open Go.RowKit
end Go.Proofs.YtglbkbiphcgidaaDoor
namespace Go.Proofs.YtglbkbiphcgidaaDoor
section
open Go.RowKit
variable {w w' : World} {B p : Nat} {ab : Option Addr} {cb : Nat} {bs : List Int} {i : Nat} {h : Int}
end
section
open Go.RowKit
variable {w w' : World} {B p : Nat} {ab : Option Addr} {cb : Nat} {bs : List Int} {i : Nat} {h : Int}
def Sr (n : Int) (zs : List Int) : Prop := zs.Pairwise (· < ·) ∧ ∀ x ∈ zs, 0 ≤ x ∧ x < n
theorem Sr.len {n : Nat} {zs : List Int} (h : Sr n zs) : zs.length ≤ n := by
 have key : ∀ (k : Nat) (zs : List Int), Sr k zs → zs.length ≤ k := fun k => by
  induction k with
  | zero =>
    intro zs hz
    cases zs with
    | nil => simp
    | cons x xs => have := hz.2 x (by simp); omega
  | succ k ih =>
    intro zs hz
    rcases List.eq_nil_or_concat zs with rfl | ⟨xs, x, rfl⟩
    · simp
    · have hp := hz.1
      rw [List.concat_eq_append, List.pairwise_append] at hp
      have := ih xs ⟨hp.1, fun y hy => by
       have h1 := hp.2.2 y hy x (by simp)
       have h2 := hz.2 x (by simp)
       have h3 := hz.2 y (by simp [hy])
       omega⟩
      simp; omega
 exact key n zs h
end
end Go.Proofs.YtglbkbiphcgidaaDoor
