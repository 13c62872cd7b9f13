/-
  Contracts of the laws' own helpers for games: toParity, szParity, eqParity, markParity, heldParity.
-/
import Derived.Test.YtjnbpllalbfeiaaParity
import Derived.Test.YtjnbpllalbfeiaaBase1
import Derived.Test.YtjnbpllalbfeiaaLoops
import Derived.Test.YtjnbpllalbfeiaaParity1
namespace Go.Proofs.Ytjnbpllalbfeiaa
section
open Go.RowKit

theorem tri_any {w : World} {g : Nat} {T : TypeId} {a b c : Value} (h : Box3 w g T a b c) {w' : World} (hb : w'.heap[g]? = w.heap[g]?) : Box3 w' g T a b c := h.of_block hb
theorem Box3.set0 {w : World} {g : Nat} {T : TypeId} {a b c : Value} (h : Box3 w g T a b c) (x : Value) : Box3 (w.setCell ⟨g, 0, none⟩ x) g T x b c :=
  World.rowIs.congr (h.set 0 x) fun i hi => by
    by_cases h : i = 0 <;> simp [tri, h]
theorem Box3.set1 {w : World} {g : Nat} {T : TypeId} {a b c : Value} (h : Box3 w g T a b c) (x : Value) : Box3 (w.setCell ⟨g, 1, none⟩ x) g T a x c :=
  World.rowIs.congr (h.set 1 x) fun i hi => by
    have h3 : i = 0 ∨ i = 1 ∨ i = 2 := by omega
    rcases h3 with rfl | rfl | rfl <;> simp [tri]
theorem Box3.set2 {w : World} {g : Nat} {T : TypeId} {a b c : Value} (h : Box3 w g T a b c) (x : Value) : Box3 (w.setCell ⟨g, 2, none⟩ x) g T a b x :=
  World.rowIs.congr (h.set 2 x) fun i hi => by
    have h3 : i = 0 ∨ i = 1 ∨ i = 2 := by omega
    rcases h3 with rfl | rfl | rfl <;> simp [tri]
theorem Box3.frozen {w : World} {g : Nat} {T : TypeId} {a b c : Value} (h : Box3 w g T a b c) (i : Nat) : w.frozen? ⟨g, i, none⟩ = false := World.rowIs.frozen h i
theorem Box3.other {w : World} {g : Nat} {T : TypeId} {a b c : Value} (h : Box3 w g T a b c) {p : Addr} (hp : g ≠ p.block) (x : Value) : Box3 (w.setCell p x) g T a b c := World.rowIs.setOther h hp x
theorem Box3.alloc {w : World} {g : Nat} {T : TypeId} {a b c : Value} (h : Box3 w g T a b c) (o : Obj) : Box3 (w.alloc o) g T a b c := h.below (below1 w o)
theorem Box3.new_at {w : World} {g : Nat} (hg : g = w.heap.size) (T : TypeId) (a b c : Value) : Box3 (w.alloc (.cells #[a, b, c] T)) g T a b c := by subst hg; exact Box3.new _ _ _ _ _

theorem Box3.only {w w' : World} {g : Nat} {t : TypeId} {a b c : Value} {S : Nat → Prop} (h : Box3 w g t a b c) (hk : Only S w w') (hs : ¬ S g) : Box3 w' g t a b c := rowIs_only h hk hs
theorem Box3.not_own {w : World} {g : Nat} {t e : TypeId} {a b c x : Value} {B size n : Nat} {xs : List Value} (h : Box3 w g t a b c) (ho : w.ownsRow B e size x n xs) (hte : e ≠ t) : x.ownBlock ≠ some g := rowIs_not_own h ho hte

set_option maxHeartbeats 2000000 in
theorem markGameA_is {w : World} {B D : Nat} {vo vn : Value} {V : Nat → Value} {O : List Int} {zss : List (List Int)} {k r : Int} (hr : k + O.length + sumLen zss zss.length = r) (h2 : OwnInts w B D vo O) (h3 : OwnRows w B D vn V zss) (h5 : ∀ i, i < zss.length → ∀ g, (V i).ownBlock = some g → vo.ownBlock ≠ some g) (h0 : 0 ≤ k) (h1 : k ≤ 1073741824) (hs : sizeArena O zss ≤ 1048576) :
    Calls Try.prog 25 #[.agg #[vo, vn], .int .i64 k] w fun e w' => e = .returned (.int .i64 r) ∧ OwnInts w' B D vo (marks k O.length) ∧ OwnRows w' B D vn V (markRows (k + O.length) zss) ∧
      Only (fun b => vo.ownBlock = some b ∨ ∃ i, i < zss.length ∧ (V i).ownBlock = some b) w w' := by
  subst hr
  unfold sizeArena at hs
  obtain ⟨a, cap, rfl, hI, _⟩ := h2.shape
  obtain ⟨a', cap', rfl, hR, _⟩ := h3.shape
  have HV := Lib.hid h5
  have HI := Lib.hid h2
  have HR := Lib.hid h3
  clear h2 h3 h5 hI hR
  go_enter Try.func25, Try.ntmps25
  go_wp2_with fail
  refine (markInt64S_is (HI.out.below (below1 _ _)) k h0 (by omega)).mono ?_
  rintro e w1 ⟨rfl, g1, g2⟩
  have g2' := (Only.of_below (S := fun b => (Value.slice a O.length cap).ownBlock = some b) (below1 w (.cells #[.slice a O.length cap, .slice a' zss.length cap'] 29))).trans g2
  have hb0 : Box2 w1 w.heap.size 29 (.slice a O.length cap) (.slice a' zss.length cap') := by
    refine (g2.block _ (by simp) (fun hb => ?_)).trans (Box2.new w _ _ _)
    have := (HI.out.own.lt _ hb).2
    omega
  have hR1 : OwnRows w1 B D (.slice a' zss.length cap') V zss := (HR.out.below (below1 w _)).only g2 (own_types HR.out.own HI.out.own) (fun k hk g hg => HV.out k hk g hg)
  have HB := Lib.hid g2'
  have H1 := Lib.hid g1
  have HR1 := Lib.hid hR1
  have c0 := hb0.cell0
  have c1 := hb0.cell1
  clear g1 g2 g2' hb0 hR1
  go_wp2_with fail
  refine (markInt64SS_is HR1.out (k + O.length) (by omega) (by omega) (by omega)).mono ?_
  rintro e w2 ⟨rfl, g1, g2⟩
  have hfin : Hid (OwnInts w2 B D (.slice a O.length cap) (marks k O.length) ∧ OwnRows w2 B D (.slice a' zss.length cap') V (markRows (k + O.length) zss)) :=
    ⟨H1.out.only g2 (fun g hg ⟨i, hi, hg'⟩ => HV.out i hi g hg' hg), g1⟩
  have hB2 : Hid (Only (fun b => (Value.slice a O.length cap).ownBlock = some b ∨ ∃ i, i < zss.length ∧ (V i).ownBlock = some b) w w2) := (HB.out.mono fun b hb => .inl hb).trans (g2.mono fun b ⟨i, hi, hb⟩ => .inr ⟨i, hi, hb⟩)
  clear g1 g2
  go_wp2
  go_ret
  exact ⟨rfl, hfin.out.1, hfin.out.2, hB2.out⟩

/-- How many places a game takes. -/
def sizeGame (O : List Int) (zss : List (List Int)) (P : List Int) : Nat := sizeArena O zss + P.length

set_option maxHeartbeats 4000000 in
theorem szGame_at {w : World} {v : Value} {O : List Int} {zss : List (List Int)} {P : List Int} {left r : Int} (hr : leftOf left (sizeGame O zss P) = r) (h : GameAt w v O zss P) (h0 : 0 ≤ left) (h1 : left ≤ 1048576) :
    Calls Try.prog 4 #[v, .int .i64 left] w fun e w' => e = .returned (.int .i64 r) ∧ Below w.heap.size w w' := by
  obtain ⟨ao, an, ap, co, cn, cp, A, C, rfl, hO, hN, hP⟩ := h
  have hlP := hP.len
  obtain ⟨w1, hw1⟩ : ∃ y, y = w.alloc (.cells #[.slice ao O.length co, .slice an zss.length cn, .slice ap P.length cp] 27) := ⟨_, rfl⟩
  have HW1 := Lib.hid hw1
  have B1 : Hid (Below w.heap.size w w1) := by rw [hw1]; exact below1 _ _
  have T1 : Hid (Box3 w1 w.heap.size 27 (.slice ao O.length co) (.slice an zss.length cn) (.slice ap P.length cp)) := by rw [hw1]; exact Box3.new _ _ _ _ _
  obtain ⟨m, hm⟩ : ∃ m, leftOf left (sizeArena O zss) = m := ⟨_, rfl⟩
  have HA : Hid (ArenaAt w (.agg #[.slice ao O.length co, .slice an zss.length cn]) O zss) := ⟨_, _, _, _, _, _, rfl, hO, hN⟩
  have HC := Lib.hid (szArena_at hm (HA.out.below B1.out) h0 h1)
  clear hw1 hO hN hP
  by_cases hlt : left < sizeArena O zss
  · have hm1 : m = -1 := by rw [← hm]; exact leftOf_no hlt
    have HE : Hid (r = -1) := by rw [← hr]; exact leftOf_no (by unfold sizeGame; omega)
    have hneg : m < 0 := by omega
    clear hm hr hlt hm1
    go_enter Try.func4, Try.ntmps4
    go_wp2_with fail
    rw [← HW1.out]
    refine HC.out.mono ?_
    rintro e w2 ⟨rfl, hb⟩
    have B2 := Lib.hid (B1.out.trans (hb.mono B1.out.size))
    clear hb HC
    go_wp2
    go_ret
    exact ⟨ret_i64 HE.out.symm, B2.out⟩
  · have hm1 : m = left - sizeArena O zss := by rw [← hm]; exact leftOf_yes (by omega)
    have hm0 : ¬ m < 0 := by omega
    have hr2 : leftOf m P.length = r := by
      rw [← hr]; unfold leftOf sizeGame
      by_cases h : m < P.length
      · rw [if_pos h, if_pos (by omega)]
      · rw [if_neg h, if_neg (by omega)]; omega
    have HZ := Lib.hid (fun W => szInt64S_any ap P.length cp m W hlP (by omega) (by omega))
    rw [hr2] at HZ
    have HR2 := Lib.hid hr2
    have hm00 : 0 ≤ m := by omega
    clear hm hr hlt hm1 hr2
    go_enter Try.func4, Try.ntmps4
    go_wp2_with fail
    rw [← HW1.out]
    refine HC.out.mono ?_
    rintro e w2 ⟨rfl, hb⟩
    have B2 := Lib.hid (B1.out.trans (hb.mono B1.out.size))
    have T2 := Lib.hid (T1.out.below hb)
    clear hb HC
    have t2 := T2.out.c2
    go_wp2_with fail
    refine (HZ.out _).mono ?_
    rintro e w3 ⟨rfl, rfl⟩
    by_cases hs : r < 0
    · have HE : Hid (r = -1) := by
        have := HR2.out
        unfold leftOf at this
        simp only [Hid]
        split at this <;> omega
      go_wp2
      go_ret
      exact ⟨ret_i64 HE.out.symm, B2.out⟩
    · go_wp2
      go_ret
      exact ⟨rfl, B2.out⟩

set_option maxHeartbeats 4000000 in
theorem eqGame_at {w : World} {v v' : Value} {O : List Int} {zss : List (List Int)} {P : List Int} (h : GameAt w v O zss P) (h' : GameAt w v' O zss P) :
    Calls Try.prog 9 #[v, v'] w fun e w' => e = .returned (.bool true) ∧ Below w.heap.size w w' := by
  obtain ⟨ao, an, ap, co, cn, cp, A, C, rfl, h1, h2, h3⟩ := h
  obtain ⟨bo, bn, bp, do', dn, dp, A', C', rfl, g1, g2, g3⟩ := h'
  obtain ⟨w0, hw0⟩ : ∃ y, y = w.alloc (.cells #[.slice ao O.length co, .slice an zss.length cn, .slice ap P.length cp] 31) := ⟨_, rfl⟩
  have hs0 : w0.heap.size = w.heap.size + 1 := by rw [hw0]; simp
  obtain ⟨w1, hw1⟩ : ∃ y, y = w0.alloc (.cells #[.slice bo O.length do', .slice bn zss.length dn, .slice bp P.length dp] 31) := ⟨_, rfl⟩
  have HW0 := Lib.hid hw0
  have HW1 := Lib.hid hw1
  have hb0 : Below w.heap.size w w0 := by rw [hw0]; exact below1 _ _
  have hb1 : Below w0.heap.size w0 w1 := by rw [hw1]; exact below1 _ _
  have B1 : Hid (Below w.heap.size w w1) := hb0.trans (hb1.mono (by omega))
  have Ta1 : Hid (Box3 w1 w.heap.size 31 (.slice ao O.length co) (.slice an zss.length cn) (.slice ap P.length cp)) := Box3.below (by rw [hw0]; exact Box3.new _ _ _ _ _) hb1
  have Tb1 : Hid (Box3 w1 (w.heap.size + 1) 31 (.slice bo O.length do') (.slice bn zss.length dn) (.slice bp P.length dp)) := by rw [← hs0, hw1]; exact Box3.new _ _ _ _ _
  have HC := Lib.hid (eqArena_at (show ArenaAt w1 (.agg #[.slice ao O.length co, .slice an zss.length cn]) O zss from ⟨_, _, _, _, _, _, rfl, h1.below B1.out, h2.below B1.out⟩) (show ArenaAt w1 (.agg #[.slice bo O.length do', .slice bn zss.length dn]) O zss from ⟨_, _, _, _, _, _, rfl, g1.below B1.out, g2.below B1.out⟩))
  have HPa : Hid (IntsV w (.slice ap P.length cp) P) := ⟨_, _, rfl, h3⟩
  have HPb : Hid (IntsV w (.slice bp P.length dp) P) := ⟨_, _, rfl, g3⟩
  clear hw0 hw1 hb0 hb1 hs0 h1 h2 h3 g1 g2 g3
  go_enter Try.func9, Try.ntmps9
  go_wp2_with fail
  rw [← HW0.out, ← HW1.out]
  refine HC.out.mono ?_
  rintro e w2 ⟨rfl, hb⟩
  have B2 := Lib.hid (B1.out.trans (hb.mono B1.out.size))
  have Ta2 := Lib.hid (Ta1.out.below hb)
  have Tb2 := Lib.hid (Tb1.out.below hb)
  clear hb HC
  have ta2 := Ta2.out.c2
  have tb2 := Tb2.out.c2
  go_wp2_with fail
  refine (eqInts_at (HPa.out.below B2.out) (HPb.out.below B2.out)).mono ?_
  rintro e w3 ⟨rfl, hb⟩
  have B3 := Lib.hid (B2.out.trans (hb.mono B2.out.size))
  clear hb
  go_wp2
  go_ret
  exact ⟨rfl, B3.out⟩

set_option maxHeartbeats 4000000 in
theorem markGame_at {w : World} {B D : Nat} {v : Value} {O : List Int} {zss : List (List Int)} {P : List Int} {k r : Int} (hr : k + O.length + sumLen zss zss.length + P.length = r) (h : OwnGame w B D v O zss P) (h0 : 0 ≤ k) (h1 : k ≤ 1073741824) (hs : sizeGame O zss P ≤ 1048576) :
    Calls Try.prog 11 #[v, .int .i64 k] w fun e w' => e = .returned (.int .i64 r) ∧
      OwnGame w' B D v (marks k O.length) (markRows (k + O.length) zss) (marks (k + O.length + sumLen zss zss.length) P.length) ∧ Only (fun b => B ≤ b ∧ b < D) w w' := by
  unfold sizeGame at hs
  have hsA : sizeArena O zss ≤ 1048576 := by omega
  have hsP : P.length ≤ 1048576 := by omega
  have hA0 := hsA
  unfold sizeArena at hA0
  obtain ⟨m, hm⟩ : ∃ m : Int, k + O.length + sumLen zss zss.length = m := ⟨_, rfl⟩
  have hm0 : 0 ≤ m := by omega
  have hm1 : m ≤ 1152921504606846976 := by omega
  have HM := Lib.hid hm
  rw [hm] at hr ⊢
  have HR := Lib.hid hr
  obtain ⟨vo, vn, vp, V, rfl, h2, h3, h4, h5, h6, h7⟩ := h
  obtain ⟨a, cap, rfl, hI, _⟩ := h2.shape
  obtain ⟨a', cap', rfl, hRo, _⟩ := h3.shape
  obtain ⟨a'', cap'', rfl, hPp, _⟩ := h4.shape
  obtain ⟨w1, hw1⟩ : ∃ y, y = w.alloc (.cells #[.slice a O.length cap, .slice a' zss.length cap', .slice a'' P.length cap''] 31) := ⟨_, rfl⟩
  have HW1 := Lib.hid hw1
  have hb1 : Below w.heap.size w w1 := by rw [hw1]; exact below1 _ _
  have T1 : Hid (Box3 w1 w.heap.size 31 (.slice a O.length cap) (.slice a' zss.length cap') (.slice a'' P.length cap'')) := by rw [hw1]; exact Box3.new _ _ _ _ _
  have HAo : Hid (OwnArena w1 B D (.agg #[.slice a O.length cap, .slice a' zss.length cap']) O zss) := ⟨_, _, V, rfl, h2.below hb1, h3.below hb1, h5⟩
  have HO := Lib.hid (h2.below hb1)
  have HRs := Lib.hid (h3.below hb1)
  have HP := Lib.hid (h4.below hb1)
  have H5 := Lib.hid h5
  have H6 := Lib.hid h6
  have H7 := Lib.hid h7
  have B1 := Lib.hid hb1
  have hlt : ∀ g, B ≤ g → g < D → g < w.heap.size ∨ D ≤ w.heap.size ∨ True := fun _ _ _ => .inr (.inr trivial)
  clear h2 h3 h4 h5 h6 h7 hI hRo hPp hw1 hb1 hr hm hlt
  -- the three slices of the game are marked in turn: each of them apart
  have hHA := HAo.out
  obtain ⟨vo', vn', V', hv', q1, q2, q3⟩ := hHA
  clear hv' q1 q2 q3 V' vo' vn'
  go_enter Try.func11, Try.ntmps11
  go_wp2_with fail
  rw [← HW1.out]
  refine (markGameA_is HM.out HO.out HRs.out H5.out h0 h1 hsA).mono ?_
  rintro e w2 ⟨rfl, g1, g2, g3⟩
  have T2 := Lib.hid (World.rowIs.of_block T1.out (g3.block _ (World.rowIs.lt T1.out) (fun hb => by
    rcases hb with hb | ⟨i, hi, hb⟩
    · have := HO.out.own.lt _ hb
      exact T1.out.not_own HO.out.own (by decide) hb
    · exact T1.out.not_own (HRs.out.rows i hi).own (by decide) hb)))
  have HP2 := Lib.hid (HP.out.only g3 (fun g hg hb => by
    rcases hb with hb | ⟨i, hi, hb⟩
    · exact H7.out g hb hg
    · exact H6.out i hi g hb hg))
  have K2 := Lib.hid g3
  have G1 := Lib.hid g1
  have G2 := Lib.hid g2
  clear g1 g2 g3
  have t2 := Box3.c2 T2.out
  go_wp2_with fail
  refine (markInt64S_is HP2.out m hm0 hm1).mono ?_
  rintro e w3 ⟨rfl, g1, g2⟩
  have hfin : Hid (OwnGame w3 B D (.agg #[.slice a O.length cap, .slice a' zss.length cap', .slice a'' P.length cap'']) (marks k O.length) (markRows (k + O.length) zss) (marks m P.length)) :=
    ⟨_, _, _, V, rfl, G1.out.only g2 (fun g hg hb => H7.out g hg hb), G2.out.only g2 (fun g hg hb => own_types G2.out.own HP2.out.own g hg hb) (fun i hi g hg hb => H6.out i (by rw [markRows_len] at hi; exact hi) g hg hb), g1, fun i hi => H5.out i (by rw [markRows_len] at hi; exact hi), fun i hi => H6.out i (by rw [markRows_len] at hi; exact hi), H7.out⟩
  have hO3 : Hid (Only (fun b => B ≤ b ∧ b < D) w w3) := (Only.of_below B1.out).trans ((K2.out.mono fun b hb => by
    rcases hb with hb | ⟨i, hi, hb⟩
    · exact ⟨(HO.out.own.lt b hb).1, HO.out.top b hb⟩
    · exact ⟨((HRs.out.rows i hi).own.lt b hb).1, (HRs.out.rows i hi).top b hb⟩).trans (g2.mono fun b hb => ⟨(HP2.out.own.lt b hb).1, HP2.out.top b hb⟩))
  have HR3 : Hid (m + P.length = r) := HR.out
  clear g1 g2
  go_wp2
  go_ret
  exact ⟨ret_i64 HR3.out, hfin.out, hO3.out⟩

set_option maxHeartbeats 4000000 in
theorem heldGame_at {w : World} {v : Value} {O : List Int} {zss : List (List Int)} {P : List Int} {k r : Int} (hr : k + O.length + sumLen zss zss.length + P.length = r) (h : GameAt w v (marks k O.length) (markRows (k + O.length) zss) (marks (k + O.length + sumLen zss zss.length) P.length)) (h0 : 0 ≤ k) (h1 : k ≤ 1073741824) (hs : sizeGame O zss P ≤ 1048576) :
    Calls Try.prog 13 #[v, .int .i64 k] w fun e w' => e = .returned (.int .i64 r) ∧ Below w.heap.size w w' := by
  unfold sizeGame at hs
  have hsA : sizeArena O zss ≤ 1048576 := by omega
  unfold sizeArena at hsA
  obtain ⟨m, hm⟩ : ∃ m : Int, k + O.length + sumLen zss zss.length = m := ⟨_, rfl⟩
  have hm0 : 0 ≤ m := by omega
  have hm1 : m ≤ 1152921504606846976 := by omega
  have hmn : ¬ m < 0 := by omega
  have hrn : ¬ r < 0 := by omega
  rw [hm] at h hr
  obtain ⟨ao, an, ap, co, cn, cp, A, C, rfl, hO, hN, hP⟩ := h
  rw [marks_len, markRows_len, marks_len] at *
  obtain ⟨w1, hw1⟩ : ∃ y, y = w.alloc (.cells #[.slice ao O.length co, .slice an zss.length cn, .slice ap P.length cp] 31) := ⟨_, rfl⟩
  have HW1 := Lib.hid hw1
  have B1 : Hid (Below w.heap.size w w1) := by rw [hw1]; exact below1 _ _
  have T1 : Hid (Box3 w1 w.heap.size 31 (.slice ao O.length co) (.slice an zss.length cn) (.slice ap P.length cp)) := by rw [hw1]; exact Box3.new _ _ _ _ _
  have hA : ArenaAt w1 (.agg #[.slice ao O.length co, .slice an zss.length cn]) (marks k O.length) (markRows (k + O.length) zss) := ⟨ao, an, co, cn, A, C, by rw [marks_len, markRows_len], hO.below B1.out, hN.below B1.out⟩
  have HC := Lib.hid (heldArena_at hm hA h0 h1 (by omega) (by omega))
  have HV : Hid (IntsV w (.slice ap P.length cp) (marks m P.length)) := ⟨ap, cp, by rw [marks_len], hP⟩
  have HR := Lib.hid hr
  clear hw1 hO hN hP hA hr hm
  go_enter Try.func13, Try.ntmps13
  go_wp2_with fail
  rw [← HW1.out]
  refine HC.out.mono ?_
  rintro e w2 ⟨rfl, hb⟩
  have B2 := Lib.hid (B1.out.trans (hb.mono B1.out.size))
  have T2 := Lib.hid (T1.out.below hb)
  have HV2 := Lib.hid (HV.out.below B2.out)
  clear hb HC
  have t2 := T2.out.c2
  go_wp2_with fail
  refine (heldInts_is HR.out HV2.out hm0 hm1).mono ?_
  rintro e w3 ⟨rfl, rfl⟩
  go_wp2
  go_ret
  exact ⟨rfl, B2.out⟩

set_option maxHeartbeats 4000000 in
set_option maxRecDepth 100000 in
theorem toGame_at {w : World} {v : Value} {O : List Int} {zss : List (List Int)} {P : List Int} (h : GameAt w v O zss P) (hn : zss.length ≤ 1048576) :
    Calls Try.prog 6 #[v] w (GivesGame w O zss P) := by
  obtain ⟨ao, an, ap, co, cn, cp, A, C, rfl, hO, hN, hP⟩ := h
  obtain ⟨w1, hw1⟩ : ∃ y, y = ((w.alloc (.cells #[.slice ao O.length co, .slice an zss.length cn, .slice ap P.length cp] 27)).alloc (.cells #[.slice none 0 0, .slice none 0 0, .slice none 0 0] 31)).alloc (.cells #[.slice none 0 0, .slice none 0 0, .slice none 0 0] 31) := ⟨_, rfl⟩
  have HW1 := Lib.hid hw1
  have hs1 : w1.heap.size = w.heap.size + 1 + 1 + 1 := by rw [hw1]; simp
  have HS1 := Lib.hid hs1
  have B1 : Hid (Below w.heap.size w w1) := by rw [hw1]; exact (below2 _ _ _).alloc (by simp; omega) _
  have T1 : Hid (Box3 w1 w.heap.size 27 (.slice ao O.length co) (.slice an zss.length cn) (.slice ap P.length cp)) := by rw [hw1]; exact ((Box3.new w _ _ _ _).alloc _).alloc _
  have R1 : Hid (Box3 w1 (w.heap.size + 1) 31 (.slice none 0 0) (.slice none 0 0) (.slice none 0 0)) := by rw [hw1]; exact (Box3.new_at (by simp) _ _ _ _).alloc _
  have U1 : Hid (Box3 w1 (w.heap.size + 1 + 1) 31 (.slice none 0 0) (.slice none 0 0) (.slice none 0 0)) := by rw [hw1]; exact Box3.new_at (by simp) _ _ _ _
  have HA : Hid (ArenaAt w (.agg #[.slice ao O.length co, .slice an zss.length cn]) O zss) := ⟨_, _, _, _, _, _, rfl, hO, hN⟩
  have HPv : Hid (IntsV w (.slice ap P.length cp) P) := ⟨_, _, rfl, hP⟩
  have HC := Lib.hid (toArena_at (HA.out.below B1.out) hn)
  clear hw1 hs1 hO hN hP
  go_enter Try.func6, Try.ntmps6
  go_wp2_with fail
  rw [← HW1.out]
  refine HC.out.mono ?_
  rintro e w2 ⟨rfl, hc, -⟩
  obtain ⟨b0, hs0⟩ : ∃ s, s = w1.heap.size + 3 := ⟨_, rfl⟩
  obtain ⟨b1, hs1⟩ : ∃ s, s = w1.heap.size + 4 := ⟨_, rfl⟩
  have G2 := Lib.hid (hc.owned (HA.out.below B1.out))
  rw [← hs0, ← hs1] at G2 ⊢
  have B2 := Lib.hid (B1.out.trans (hc.below.mono B1.out.size))
  have T2 := Lib.hid (T1.out.below hc.below)
  have R2 := Lib.hid (R1.out.below hc.below)
  have U2 := Lib.hid (U1.out.below hc.below)
  have hsz2 := hc.size
  have HS2 := Lib.hid hsz2
  clear hc HC hs0 hs1 hsz2
  have t0 := T2.out.c0
  have t1 := T2.out.c1
  have t2 := T2.out.c2
  have u0 := U2.out.c0
  have u1 := U2.out.c1
  have fu0 := U2.out.frozen 0
  have fu1 := U2.out.frozen 1
  go_wp2_with fail
  obtain ⟨w3, hw3⟩ : ∃ y, y = (w2.setCell ⟨w.heap.size + 1 + 1, 0, none⟩ (.slice (some ⟨b0, 0, none⟩) O.length O.length)).setCell ⟨w.heap.size + 1 + 1, 1, none⟩ (.slice (some ⟨b1, 0, none⟩) zss.length zss.length) := ⟨_, rfl⟩
  have HW3 := Lib.hid hw3
  have hO3 : Only (fun b => b = w.heap.size + 1 + 1) w2 w3 := by rw [hw3]; exact ((Only.refl (fun b => b = w.heap.size + 1 + 1) w2).setCell (p := ⟨w.heap.size + 1 + 1, 0, none⟩) rfl _).setCell (p := ⟨w.heap.size + 1 + 1, 1, none⟩) rfl _
  have hs3 : w3.heap.size = w2.heap.size := by rw [hw3]; simp
  have HS3 := Lib.hid hs3
  have B3 := Lib.hid (B2.out.trans (hO3.below (B := w.heap.size) B2.out.size (fun b hb => by omega)))
  have U3 : Hid (Box3 w3 (w.heap.size + 1 + 1) 31 (.slice (some ⟨b0, 0, none⟩) O.length O.length) (.slice (some ⟨b1, 0, none⟩) zss.length zss.length) (.slice none 0 0)) := by rw [hw3]; exact (U2.out.set0 (.slice (some ⟨b0, 0, none⟩) O.length O.length)).set1 (.slice (some ⟨b1, 0, none⟩) zss.length zss.length)
  have R3 : Hid (Box3 w3 (w.heap.size + 1) 31 (.slice none 0 0) (.slice none 0 0) (.slice none 0 0)) := rowIs_only R2.out hO3 (by omega)
  have G3 : Hid (OwnArena w3 w1.heap.size w2.heap.size (.agg #[(.slice (some ⟨b0, 0, none⟩) O.length O.length), (.slice (some ⟨b1, 0, none⟩) zss.length zss.length)]) O zss) := G2.out.only hO3 (fun g hg _ hb => by have := HS1.out; omega)
  rw [← HW3.out]
  clear hw3 hO3 hs3 t0 t1 t2 u0 u1 fu0 fu1
  refine (toInts_at (HPv.out.below B3.out)).mono ?_
  rintro e w4 ⟨u, rfl, hu, hb⟩
  obtain ⟨ua, uc, hus, _, _⟩ := hu.shape
  subst hus
  have B4 := Lib.hid (B3.out.trans (hb.mono B3.out.size))
  have U4 := Lib.hid (U3.out.below hb)
  have R4 := Lib.hid (R3.out.below hb)
  have G4 := Lib.hid (G3.out.below hb)
  have P4 := Lib.hid hu
  have hsz4 := hb.size
  have HS4 := Lib.hid hsz4
  clear hu hb hsz4
  have u2 := U4.out.c2
  have fu2 := U4.out.frozen 2
  have U5 := Lib.hid (U4.out.set2 (.slice ua P.length uc))
  have R5 := Lib.hid (R4.out.other (p := ⟨w.heap.size + 1 + 1, 2, none⟩) (by show w.heap.size + 1 ≠ w.heap.size + 1 + 1; omega) (.slice ua P.length uc))
  have v0 := U5.out.c0
  have v1 := U5.out.c1
  have v2 := U5.out.c2
  have r0 := R5.out.c0
  have r1 := R5.out.c1
  have r2 := R5.out.c2
  have f0 := R5.out.frozen 0
  have f1 := R5.out.frozen 1
  have f2 := R5.out.frozen 2
  go_wp2_with fail
  have R6 := Lib.hid (((R5.out.set0 (.slice (some ⟨b0, 0, none⟩) O.length O.length)).set1 (.slice (some ⟨b1, 0, none⟩) zss.length zss.length)).set2 (.slice ua P.length uc))
  have d0 := R6.out.c0
  have d1 := R6.out.c1
  have d2 := R6.out.c2
  obtain ⟨w6, hw6⟩ : ∃ y, y = (((w4.setCell ⟨w.heap.size + 1 + 1, 2, none⟩ (.slice ua P.length uc)).setCell ⟨w.heap.size + 1, 0, none⟩ (.slice (some ⟨b0, 0, none⟩) O.length O.length)).setCell ⟨w.heap.size + 1, 1, none⟩ (.slice (some ⟨b1, 0, none⟩) zss.length zss.length)).setCell ⟨w.heap.size + 1, 2, none⟩ (.slice ua P.length uc) := ⟨_, rfl⟩
  have hO6 : Only (fun b => b = w.heap.size + 1 ∨ b = w.heap.size + 1 + 1) w4 w6 := by
    rw [hw6]
    exact ((((Only.refl _ w4).setCell (p := ⟨w.heap.size + 1 + 1, 2, none⟩) (.inr rfl) _).setCell (p := ⟨w.heap.size + 1, 0, none⟩) (.inl rfl) _).setCell (p := ⟨w.heap.size + 1, 1, none⟩) (.inl rfl) _).setCell (p := ⟨w.heap.size + 1, 2, none⟩) (.inl rfl) _
  have hfin : Hid (OwnGame w6 w.heap.size w6.heap.size (.agg #[(.slice (some ⟨b0, 0, none⟩) O.length O.length), (.slice (some ⟨b1, 0, none⟩) zss.length zss.length), (.slice ua P.length uc)]) O zss P ∧ Below w.heap.size w w6) := by
    have e1 := HS1.out
    have e2 := HS2.out
    have e3 := HS3.out
    have e4 := HS4.out
    refine ⟨OwnGame.retop (D := w4.heap.size) (OwnGame.of_parts (M := w3.heap.size) ?_ ?_ (by omega) (by omega)), B4.out.trans (hO6.below (B := w.heap.size) B4.out.size (fun b hb => by omega))⟩
    · have h := G4.out.only hO6 (fun g hg _ hb => by omega)
      obtain ⟨vo, vn, V, hv, k1, k2, k3⟩ := h
      rw [← e3] at k1 k2
      exact ⟨vo, vn, V, hv, k1.base (by omega), k2.base (by omega), k3⟩
    · exact P4.out.only hO6 (fun g hg hb => by have := (P4.out.own.lt g hg).1; omega)
  rw [← hw6] at d0 d1 d2 ⊢
  clear hw6 hO6
  exact bodyPost_ret (v := .agg #[(.slice (some ⟨b0, 0, none⟩) O.length O.length), (.slice (some ⟨b1, 0, none⟩) zss.length zss.length), (.slice ua P.length uc)]) (by simp [results, Try.results6, go_sem, d0, d1, d2]) rfl ⟨_, rfl, hfin.out⟩
end

section
open Go.RowKit

theorem flip_size {O P : List Int} {zss : List (List Int)} (h : sizeGame O zss P ≤ 1048576) : sizeGame (flipO O zss P) (flipN O zss P) (flipP O zss P) ≤ 1048576 := by
  unfold flipO flipN flipP
  cases flipB O zss P with
  | false => simp [sizeGame, sizeArena, sumLen]
  | true =>
    simp only [if_true]
    unfold sizeGame sizeArena at h ⊢
    rw [turnO_len, moreP_len]; exact h
theorem press_size {O P : List Int} {zss : List (List Int)} (h : sizeGame O zss P ≤ 1048576) : sizeGame (pressO O zss P) (pressN O zss P) (pressV O zss P) ≤ 1048576 := by
  unfold pressO pressN pressV
  cases parityB O zss P with
  | false => simp [sizeGame, sizeArena, sumLen]
  | true =>
    simp only [if_true]
    unfold sizeGame sizeArena at h ⊢
    rw [pressL_len]; exact h
theorem sumLen_caps {zss : List (List Int)} {c : Nat} (h : ∀ i, i < zss.length → (row zss i).length ≤ c) : ∀ k, k ≤ zss.length → sumLen zss k ≤ c * k
  | 0, _ => by simp [sumLen]
  | k + 1, hk => by
    have h1 := sumLen_caps h k (by omega)
    have h2 := h k (by omega)
    simp only [sumLen, Nat.mul_succ]
    omega
theorem sub_size {O P S : List Int} {zss : List (List Int)} : sizeGame (subO O zss P S) (subN O zss P S) (subP O zss P S) ≤ 1048576 := by
  unfold subO subN subP
  cases hb : subB O zss P S with
  | false => simp [sizeGame, sizeArena, sumLen]
  | true =>
    simp only [if_true]
    unfold subB at hb
    rw [Bool.and_eq_true] at hb
    have hi : InsideP O zss S := by simpa [insideB] using hb.2
    rw [(inside_yes hi).1, (inside_yes hi).2.1]
    obtain ⟨hP, hB, _, _⟩ := hi
    have hl : (S.length : Int) ≤ (O.length : Int) := setB_len (Int.natCast_nonneg _) hB
    have hO := hP.2.1
    have hs := sumLen_caps (zss := inNK S zss S.length) (c := 16) (fun i hi => by
      rw [inNK_len] at hi
      obtain ⟨h0, h1, _⟩ := setB_bounds hB hi
      have h16 := (hP.2.2.2 (nth S i).toNat (by omega)).2.2.1
      have hr : row (inNK S zss S.length) i = inRow S zss i := by simp [row, inNK, hi]
      rw [hr]
      exact Nat.le_trans (places_len _ _ _) h16) _ (Nat.le_refl _)
    rw [inNK_len] at hs
    unfold sizeGame sizeArena
    rw [inOK_len, inNK_len, pickP_len]
    omega
end

end Go.Proofs.Ytjnbpllalbfeiaa
