/-
  Several texts in one: Loops, KitGame, LoopsSpec, LoopRows, KitTab, Zielonka, Same.
-/
import Derived.Test.YtihaajcmephlmaaDoorPx00
import Derived.Test.YtihaajcmephlmaaDoorPx01
namespace Go.Proofs.YtihaajcmephlmaaDoor
open Go.RowKit

theorem rowIs_not_own {w : World} {b n B size m : Nat} {t e : TypeId} {f : Nat → Value} {v : Value} {xs : List Value} (h : w.rowIs b t n f) (ho : w.ownsRow B e size v m xs) (hte : e ≠ t) : v.ownBlock ≠ some b := by
  intro hb
  obtain ⟨c, hc, _⟩ := h
  rcases ho.2 with ⟨rfl, _⟩ | ⟨g, _, _, rfl, _, h1, _⟩
  · simp [Value.ownBlock] at hb
  · simp [Value.ownBlock] at hb
    subst hb
    rw [hc] at h1
    simp at h1
    exact hte h1.2.symm

/-- Row j of far, where it is wanted. -/
def FarAt (wr : World) (n N k : Nat) (I : Nat → Bool) (f : Nat → Nat → Bool) (V : Nat → Value) : Prop :=
  ∀ j, j < k → I j = true → ∃ b, V j = .slice (some ⟨b, 0, none⟩) N N ∧ n ≤ b ∧ wr.rowIs b 4 N (marksV (f j))

theorem FarAt.only {wr w' : World} {n N k : Nat} {I : Nat → Bool} {f : Nat → Nat → Bool} {V : Nat → Value} {S : Nat → Prop} (h : FarAt wr n N k I f V) (hk : Only S wr w') (hs : ∀ b c, wr.rowIs b 4 N c → ¬ S b) : FarAt w' n N k I f V := fun j hj hI => by
  obtain ⟨b, h1, h2, h3⟩ := h j hj hI
  exact ⟨b, h1, h2, rowIs_only h3 hk (hs b _ h3)⟩

theorem info_parts' {t : TypeId} {z : Value} {s b : Nat} (h : (Tryd.prog.info? t).map (fun i => (i.zero, i.size, i.bytes)) = some (some z, s, b)) : ∃ i, Tryd.prog.info? t = some i ∧ i.zero = some z ∧ i.size = s ∧ i.bytes = b := by
  obtain ⟨i, hi, hz⟩ := Option.map_eq_some_iff.1 h
  simp only [Prod.mk.injEq] at hz
  exact ⟨i, hi, hz.1, hz.2.1, hz.2.2⟩

end Go.Proofs.YtihaajcmephlmaaDoor
namespace Go.Proofs.YtihaajcmephlmaaDoor
section
open Go.RowKit

theorem Box3.set0 {w : World} {g : Nat} {T : TypeId} {a b c : Value} (h : Box3 w g T a b c) (x : Value) : Box3 (w.setCell ⟨g, 0, none⟩ x) g T x b c :=
  World.rowIs.congr (h.set 0 x) fun i hi => by
    by_cases h : i = 0 <;> simp [tri, h]
theorem Box3.set1 {w : World} {g : Nat} {T : TypeId} {a b c : Value} (h : Box3 w g T a b c) (x : Value) : Box3 (w.setCell ⟨g, 1, none⟩ x) g T a x c :=
  World.rowIs.congr (h.set 1 x) fun i hi => by
    have h3 : i = 0 ∨ i = 1 ∨ i = 2 := by omega
    rcases h3 with rfl | rfl | rfl <;> simp [tri]
theorem Box3.set2 {w : World} {g : Nat} {T : TypeId} {a b c : Value} (h : Box3 w g T a b c) (x : Value) : Box3 (w.setCell ⟨g, 2, none⟩ x) g T a b x :=
  World.rowIs.congr (h.set 2 x) fun i hi => by
    have h3 : i = 0 ∨ i = 1 ∨ i = 2 := by omega
    rcases h3 with rfl | rfl | rfl <;> simp [tri]
theorem Box3.frozen {w : World} {g : Nat} {T : TypeId} {a b c : Value} (h : Box3 w g T a b c) (i : Nat) : w.frozen? ⟨g, i, none⟩ = false := World.rowIs.frozen h i
theorem Box3.other {w : World} {g : Nat} {T : TypeId} {a b c : Value} (h : Box3 w g T a b c) {p : Addr} (hp : g ≠ p.block) (x : Value) : Box3 (w.setCell p x) g T a b c := World.rowIs.setOther h hp x
theorem Box3.alloc {w : World} {g : Nat} {T : TypeId} {a b c : Value} (h : Box3 w g T a b c) (o : Obj) : Box3 (w.alloc o) g T a b c := h.below (below1 w o)
theorem Box3.new_at {w : World} {g : Nat} (hg : g = w.heap.size) (T : TypeId) (a b c : Value) : Box3 (w.alloc (.cells #[a, b, c] T)) g T a b c := by subst hg; exact Box3.new _ _ _ _ _

theorem Box3.only {w w' : World} {g : Nat} {t : TypeId} {a b c : Value} {S : Nat → Prop} (h : Box3 w g t a b c) (hk : Only S w w') (hs : ¬ S g) : Box3 w' g t a b c := rowIs_only h hk hs
theorem Box3.not_own {w : World} {g : Nat} {t e : TypeId} {a b c x : Value} {B size n : Nat} {xs : List Value} (h : Box3 w g t a b c) (ho : w.ownsRow B e size x n xs) (hte : e ≠ t) : x.ownBlock ≠ some g := rowIs_not_own h ho hte

/-- How many places a game takes. -/
def sizeGame (O : List Int) (zss : List (List Int)) (P : List Int) : Nat := sizeArena O zss + P.length

set_option maxHeartbeats 4000000 in
theorem szGame_at {w : World} {v : Value} {O : List Int} {zss : List (List Int)} {P : List Int} {left r : Int} (hr : leftOf left (sizeGame O zss P) = r) (h : GameAt w v O zss P) (h0 : 0 ≤ left) (h1 : left ≤ 1048576) :
    Calls Tryd.prog 8 #[v, .int .i64 left] w fun e w' => e = .returned (.int .i64 r) ∧ Below w.heap.size w w' := by
  obtain ⟨ao, an, ap, co, cn, cp, A, C, rfl, hO, hN, hP⟩ := h
  have hlP := hP.len
  obtain ⟨w1, hw1⟩ : ∃ y, y = w.alloc (.cells #[.slice ao O.length co, .slice an zss.length cn, .slice ap P.length cp] 27) := ⟨_, rfl⟩
  have HW1 := Lib.hid hw1
  have B1 : Hid (Below w.heap.size w w1) := by rw [hw1]; exact below1 _ _
  have T1 : Hid (Box3 w1 w.heap.size 27 (.slice ao O.length co) (.slice an zss.length cn) (.slice ap P.length cp)) := by rw [hw1]; exact Box3.new _ _ _ _ _
  obtain ⟨m, hm⟩ : ∃ m, leftOf left (sizeArena O zss) = m := ⟨_, rfl⟩
  have HA : Hid (ArenaAt w (.agg #[.slice ao O.length co, .slice an zss.length cn]) O zss) := ⟨_, _, _, _, _, _, rfl, hO, hN⟩
  have HC := Lib.hid (szArena_at hm (HA.out.below B1.out) h0 h1)
  clear hw1 hO hN hP
  by_cases hlt : left < sizeArena O zss
  · have hm1 : m = -1 := by rw [← hm]; exact leftOf_no hlt
    have HE : Hid (r = -1) := by rw [← hr]; exact leftOf_no (by unfold sizeGame; omega)
    have hneg : m < 0 := by omega
    clear hm hr hlt hm1
    go_enter Tryd.func8, Tryd.ntmps8
    go_wp2_with fail
    rw [← HW1.out]
    refine HC.out.mono ?_
    rintro e w2 ⟨rfl, hb⟩
    have B2 := Lib.hid (B1.out.trans (hb.mono B1.out.size))
    clear hb HC
    go_wp2
    go_ret
    exact ⟨ret_i64 HE.out.symm, B2.out⟩
  · have hm1 : m = left - sizeArena O zss := by rw [← hm]; exact leftOf_yes (by omega)
    have hm0 : ¬ m < 0 := by omega
    have hr2 : leftOf m P.length = r := by
      rw [← hr]; unfold leftOf sizeGame
      by_cases h : m < P.length
      · rw [if_pos h, if_pos (by omega)]
      · rw [if_neg h, if_neg (by omega)]; omega
    have HZ := Lib.hid (fun W => szInt64S_any ap P.length cp m W hlP (by omega) (by omega))
    rw [hr2] at HZ
    have HR2 := Lib.hid hr2
    have hm00 : 0 ≤ m := by omega
    clear hm hr hlt hm1 hr2
    go_enter Tryd.func8, Tryd.ntmps8
    go_wp2_with fail
    rw [← HW1.out]
    refine HC.out.mono ?_
    rintro e w2 ⟨rfl, hb⟩
    have B2 := Lib.hid (B1.out.trans (hb.mono B1.out.size))
    have T2 := Lib.hid (T1.out.below hb)
    clear hb HC
    have t2 := T2.out.c2
    go_wp2_with fail
    refine (HZ.out _).mono ?_
    rintro e w3 ⟨rfl, rfl⟩
    by_cases hs : r < 0
    · have HE : Hid (r = -1) := by
        have := HR2.out
        unfold leftOf at this
        simp only [Hid]
        split at this <;> omega
      go_wp2
      go_ret
      exact ⟨ret_i64 HE.out.symm, B2.out⟩
    · go_wp2
      go_ret
      exact ⟨rfl, B2.out⟩

set_option maxHeartbeats 4000000 in
theorem eqGame_at {w : World} {v v' : Value} {O : List Int} {zss : List (List Int)} {P : List Int} (h : GameAt w v O zss P) (h' : GameAt w v' O zss P) :
    Calls Tryd.prog 14 #[v, v'] w fun e w' => e = .returned (.bool true) ∧ Below w.heap.size w w' := by
  obtain ⟨ao, an, ap, co, cn, cp, A, C, rfl, h1, h2, h3⟩ := h
  obtain ⟨bo, bn, bp, do', dn, dp, A', C', rfl, g1, g2, g3⟩ := h'
  obtain ⟨w0, hw0⟩ : ∃ y, y = w.alloc (.cells #[.slice ao O.length co, .slice an zss.length cn, .slice ap P.length cp] 33) := ⟨_, rfl⟩
  have hs0 : w0.heap.size = w.heap.size + 1 := by rw [hw0]; simp
  obtain ⟨w1, hw1⟩ : ∃ y, y = w0.alloc (.cells #[.slice bo O.length do', .slice bn zss.length dn, .slice bp P.length dp] 33) := ⟨_, rfl⟩
  have HW0 := Lib.hid hw0
  have HW1 := Lib.hid hw1
  have hb0 : Below w.heap.size w w0 := by rw [hw0]; exact below1 _ _
  have hb1 : Below w0.heap.size w0 w1 := by rw [hw1]; exact below1 _ _
  have B1 : Hid (Below w.heap.size w w1) := hb0.trans (hb1.mono (by omega))
  have Ta1 : Hid (Box3 w1 w.heap.size 33 (.slice ao O.length co) (.slice an zss.length cn) (.slice ap P.length cp)) := Box3.below (by rw [hw0]; exact Box3.new _ _ _ _ _) hb1
  have Tb1 : Hid (Box3 w1 (w.heap.size + 1) 33 (.slice bo O.length do') (.slice bn zss.length dn) (.slice bp P.length dp)) := by rw [← hs0, hw1]; exact Box3.new _ _ _ _ _
  have HC := Lib.hid (eqArena_at (show ArenaAt w1 (.agg #[.slice ao O.length co, .slice an zss.length cn]) O zss from ⟨_, _, _, _, _, _, rfl, h1.below B1.out, h2.below B1.out⟩) (show ArenaAt w1 (.agg #[.slice bo O.length do', .slice bn zss.length dn]) O zss from ⟨_, _, _, _, _, _, rfl, g1.below B1.out, g2.below B1.out⟩))
  have HPa : Hid (IntsV w (.slice ap P.length cp) P) := ⟨_, _, rfl, h3⟩
  have HPb : Hid (IntsV w (.slice bp P.length dp) P) := ⟨_, _, rfl, g3⟩
  clear hw0 hw1 hb0 hb1 hs0 h1 h2 h3 g1 g2 g3
  go_enter Tryd.func14, Tryd.ntmps14
  go_wp2_with fail
  rw [← HW0.out, ← HW1.out]
  refine HC.out.mono ?_
  rintro e w2 ⟨rfl, hb⟩
  have B2 := Lib.hid (B1.out.trans (hb.mono B1.out.size))
  have Ta2 := Lib.hid (Ta1.out.below hb)
  have Tb2 := Lib.hid (Tb1.out.below hb)
  clear hb HC
  have ta2 := Ta2.out.c2
  have tb2 := Tb2.out.c2
  go_wp2_with fail
  refine (eqInts_at (HPa.out.below B2.out) (HPb.out.below B2.out)).mono ?_
  rintro e w3 ⟨rfl, hb⟩
  have B3 := Lib.hid (B2.out.trans (hb.mono B2.out.size))
  clear hb
  go_wp2
  go_ret
  exact ⟨rfl, B3.out⟩

set_option maxHeartbeats 4000000 in
set_option maxRecDepth 100000 in
theorem toGame_at {w : World} {v : Value} {O : List Int} {zss : List (List Int)} {P : List Int} (h : GameAt w v O zss P) (hn : zss.length ≤ 1048576) :
    Calls Tryd.prog 11 #[v] w (GivesGame w O zss P) := by
  obtain ⟨ao, an, ap, co, cn, cp, A, C, rfl, hO, hN, hP⟩ := h
  obtain ⟨w1, hw1⟩ : ∃ y, y = ((w.alloc (.cells #[.slice ao O.length co, .slice an zss.length cn, .slice ap P.length cp] 27)).alloc (.cells #[.slice none 0 0, .slice none 0 0, .slice none 0 0] 33)).alloc (.cells #[.slice none 0 0, .slice none 0 0, .slice none 0 0] 33) := ⟨_, rfl⟩
  have HW1 := Lib.hid hw1
  have hs1 : w1.heap.size = w.heap.size + 1 + 1 + 1 := by rw [hw1]; simp
  have HS1 := Lib.hid hs1
  have B1 : Hid (Below w.heap.size w w1) := by rw [hw1]; exact (below2 _ _ _).alloc (by simp; omega) _
  have T1 : Hid (Box3 w1 w.heap.size 27 (.slice ao O.length co) (.slice an zss.length cn) (.slice ap P.length cp)) := by rw [hw1]; exact ((Box3.new w _ _ _ _).alloc _).alloc _
  have R1 : Hid (Box3 w1 (w.heap.size + 1) 33 (.slice none 0 0) (.slice none 0 0) (.slice none 0 0)) := by rw [hw1]; exact (Box3.new_at (by simp) _ _ _ _).alloc _
  have U1 : Hid (Box3 w1 (w.heap.size + 1 + 1) 33 (.slice none 0 0) (.slice none 0 0) (.slice none 0 0)) := by rw [hw1]; exact Box3.new_at (by simp) _ _ _ _
  have HA : Hid (ArenaAt w (.agg #[.slice ao O.length co, .slice an zss.length cn]) O zss) := ⟨_, _, _, _, _, _, rfl, hO, hN⟩
  have HPv : Hid (IntsV w (.slice ap P.length cp) P) := ⟨_, _, rfl, hP⟩
  have HC := Lib.hid (toArena_at (HA.out.below B1.out) hn)
  clear hw1 hs1 hO hN hP
  go_enter Tryd.func11, Tryd.ntmps11
  go_wp2_with fail
  rw [← HW1.out]
  refine HC.out.mono ?_
  rintro e w2 ⟨rfl, hc, -⟩
  obtain ⟨b0, hs0⟩ : ∃ s, s = w1.heap.size + 3 := ⟨_, rfl⟩
  obtain ⟨b1, hs1⟩ : ∃ s, s = w1.heap.size + 4 := ⟨_, rfl⟩
  have G2 := Lib.hid (hc.owned (HA.out.below B1.out))
  rw [← hs0, ← hs1] at G2 ⊢
  have B2 := Lib.hid (B1.out.trans (hc.below.mono B1.out.size))
  have T2 := Lib.hid (T1.out.below hc.below)
  have R2 := Lib.hid (R1.out.below hc.below)
  have U2 := Lib.hid (U1.out.below hc.below)
  have hsz2 := hc.size
  have HS2 := Lib.hid hsz2
  clear hc HC hs0 hs1 hsz2
  have t0 := T2.out.c0
  have t1 := T2.out.c1
  have t2 := T2.out.c2
  have u0 := U2.out.c0
  have u1 := U2.out.c1
  have fu0 := U2.out.frozen 0
  have fu1 := U2.out.frozen 1
  go_wp2_with fail
  obtain ⟨w3, hw3⟩ : ∃ y, y = (w2.setCell ⟨w.heap.size + 1 + 1, 0, none⟩ (.slice (some ⟨b0, 0, none⟩) O.length O.length)).setCell ⟨w.heap.size + 1 + 1, 1, none⟩ (.slice (some ⟨b1, 0, none⟩) zss.length zss.length) := ⟨_, rfl⟩
  have HW3 := Lib.hid hw3
  have hO3 : Only (fun b => b = w.heap.size + 1 + 1) w2 w3 := by rw [hw3]; exact ((Only.refl (fun b => b = w.heap.size + 1 + 1) w2).setCell (p := ⟨w.heap.size + 1 + 1, 0, none⟩) rfl _).setCell (p := ⟨w.heap.size + 1 + 1, 1, none⟩) rfl _
  have hs3 : w3.heap.size = w2.heap.size := by rw [hw3]; simp
  have HS3 := Lib.hid hs3
  have B3 := Lib.hid (B2.out.trans (hO3.below (B := w.heap.size) B2.out.size (fun b hb => by omega)))
  have U3 : Hid (Box3 w3 (w.heap.size + 1 + 1) 33 (.slice (some ⟨b0, 0, none⟩) O.length O.length) (.slice (some ⟨b1, 0, none⟩) zss.length zss.length) (.slice none 0 0)) := by rw [hw3]; exact (U2.out.set0 (.slice (some ⟨b0, 0, none⟩) O.length O.length)).set1 (.slice (some ⟨b1, 0, none⟩) zss.length zss.length)
  have R3 : Hid (Box3 w3 (w.heap.size + 1) 33 (.slice none 0 0) (.slice none 0 0) (.slice none 0 0)) := rowIs_only R2.out hO3 (by omega)
  have G3 : Hid (OwnArena w3 w1.heap.size w2.heap.size (.agg #[(.slice (some ⟨b0, 0, none⟩) O.length O.length), (.slice (some ⟨b1, 0, none⟩) zss.length zss.length)]) O zss) := G2.out.only hO3 (fun g hg _ hb => by have := HS1.out; omega)
  rw [← HW3.out]
  clear hw3 hO3 hs3 t0 t1 t2 u0 u1 fu0 fu1
  refine (toInts_at (HPv.out.below B3.out)).mono ?_
  rintro e w4 ⟨u, rfl, hu, hb⟩
  obtain ⟨ua, uc, hus, _, _⟩ := hu.shape
  subst hus
  have B4 := Lib.hid (B3.out.trans (hb.mono B3.out.size))
  have U4 := Lib.hid (U3.out.below hb)
  have R4 := Lib.hid (R3.out.below hb)
  have G4 := Lib.hid (G3.out.below hb)
  have P4 := Lib.hid hu
  have hsz4 := hb.size
  have HS4 := Lib.hid hsz4
  clear hu hb hsz4
  have u2 := U4.out.c2
  have fu2 := U4.out.frozen 2
  have U5 := Lib.hid (U4.out.set2 (.slice ua P.length uc))
  have R5 := Lib.hid (R4.out.other (p := ⟨w.heap.size + 1 + 1, 2, none⟩) (by show w.heap.size + 1 ≠ w.heap.size + 1 + 1; omega) (.slice ua P.length uc))
  have v0 := U5.out.c0
  have v1 := U5.out.c1
  have v2 := U5.out.c2
  have r0 := R5.out.c0
  have r1 := R5.out.c1
  have r2 := R5.out.c2
  have f0 := R5.out.frozen 0
  have f1 := R5.out.frozen 1
  have f2 := R5.out.frozen 2
  go_wp2_with fail
  have R6 := Lib.hid (((R5.out.set0 (.slice (some ⟨b0, 0, none⟩) O.length O.length)).set1 (.slice (some ⟨b1, 0, none⟩) zss.length zss.length)).set2 (.slice ua P.length uc))
  have d0 := R6.out.c0
  have d1 := R6.out.c1
  have d2 := R6.out.c2
  obtain ⟨w6, hw6⟩ : ∃ y, y = (((w4.setCell ⟨w.heap.size + 1 + 1, 2, none⟩ (.slice ua P.length uc)).setCell ⟨w.heap.size + 1, 0, none⟩ (.slice (some ⟨b0, 0, none⟩) O.length O.length)).setCell ⟨w.heap.size + 1, 1, none⟩ (.slice (some ⟨b1, 0, none⟩) zss.length zss.length)).setCell ⟨w.heap.size + 1, 2, none⟩ (.slice ua P.length uc) := ⟨_, rfl⟩
  have hO6 : Only (fun b => b = w.heap.size + 1 ∨ b = w.heap.size + 1 + 1) w4 w6 := by
    rw [hw6]
    exact ((((Only.refl _ w4).setCell (p := ⟨w.heap.size + 1 + 1, 2, none⟩) (.inr rfl) _).setCell (p := ⟨w.heap.size + 1, 0, none⟩) (.inl rfl) _).setCell (p := ⟨w.heap.size + 1, 1, none⟩) (.inl rfl) _).setCell (p := ⟨w.heap.size + 1, 2, none⟩) (.inl rfl) _
  have hfin : Hid (OwnGame w6 w.heap.size w6.heap.size (.agg #[(.slice (some ⟨b0, 0, none⟩) O.length O.length), (.slice (some ⟨b1, 0, none⟩) zss.length zss.length), (.slice ua P.length uc)]) O zss P ∧ Below w.heap.size w w6) := by
    have e1 := HS1.out
    have e2 := HS2.out
    have e3 := HS3.out
    have e4 := HS4.out
    refine ⟨OwnGame.retop (D := w4.heap.size) (OwnGame.of_parts (M := w3.heap.size) ?_ ?_ (by omega) (by omega)), B4.out.trans (hO6.below (B := w.heap.size) B4.out.size (fun b hb => by omega))⟩
    · have h := G4.out.only hO6 (fun g hg _ hb => by omega)
      obtain ⟨vo, vn, V, hv, k1, k2, k3⟩ := h
      rw [← e3] at k1 k2
      exact ⟨vo, vn, V, hv, k1.base (by omega), k2.base (by omega), k3⟩
    · exact P4.out.only hO6 (fun g hg hb => by have := (P4.out.own.lt g hg).1; omega)
  rw [← hw6] at d0 d1 d2 ⊢
  clear hw6 hO6
  exact bodyPost_ret (v := .agg #[(.slice (some ⟨b0, 0, none⟩) O.length O.length), (.slice (some ⟨b1, 0, none⟩) zss.length zss.length), (.slice ua P.length uc)]) (by simp [results, Tryd.results11, go_sem, d0, d1, d2]) rfl ⟨_, rfl, hfin.out⟩
end

section
open Go.RowKit

end

end Go.Proofs.YtihaajcmephlmaaDoor
namespace Go.Proofs.YtihaajcmephlmaaDoor
open Go.RowKit

end Go.Proofs.YtihaajcmephlmaaDoor
namespace Go.Proofs.YtihaajcmephlmaaDoor
open Go.RowKit

/-- A value that reads as rows. -/
def RowsV (w : World) (v : Value) (zss : List (List Int)) : Prop := ∃ a cap A C, v = .slice a zss.length cap ∧ RowsAt w a A C zss
theorem RowsV.below {w w' : World} {v : Value} {zss : List (List Int)} (h : RowsV w v zss) (hb : Below w.heap.size w w') : RowsV w' v zss := by
  obtain ⟨a, cap, A, C, hv, hr⟩ := h
  exact ⟨a, cap, A, C, hv, hr.below hb⟩
theorem OwnRows.v {w : World} {B D : Nat} {v : Value} {V : Nat → Value} {zss : List (List Int)} (h : OwnRows w B D v V zss) : RowsV w v zss := by
  obtain ⟨a, cap, hv, hr, -⟩ := h.shape
  exact ⟨a, cap, _, _, hv, hr⟩

theorem eqRows_at {w : World} {u v : Value} {zss : List (List Int)} (hu : RowsV w u zss) (hv : RowsV w v zss) :
    Calls Tryd.prog 15 #[u, v] w fun e w' => e = .returned (.bool true) ∧ Below w.heap.size w w' := by
  obtain ⟨a, ca, A, C, rfl, ha⟩ := hu
  obtain ⟨c, cc, A', C', rfl, hc⟩ := hv
  exact (eqInt64SS_yes w ca cc ha hc).mono fun e w' ⟨he, hq⟩ => ⟨he, below_same (Below.refl _ _) hq⟩

end Go.Proofs.YtihaajcmephlmaaDoor
namespace Go.Proofs.YtihaajcmephlmaaDoor
section
open Go.RowKit

/-- Rows in memory of one's own. -/
def OwnTab (w : World) (B D : Nat) (v : Value) (zss : List (List Int)) : Prop := ∃ V, OwnRows w B D v V zss
theorem OwnTab.at {w : World} {B D : Nat} {v : Value} {zss : List (List Int)} (h : OwnTab w B D v zss) : RowsV w v zss := by
  obtain ⟨V, h⟩ := h
  exact h.v
theorem OwnTab.below {w w' : World} {B D : Nat} {v : Value} {zss : List (List Int)} (h : OwnTab w B D v zss) (hb : Below w.heap.size w w') : OwnTab w' B D v zss := by
  obtain ⟨V, h⟩ := h
  exact ⟨V, h.below hb⟩
theorem OwnTab.only {w w' : World} {S : Nat → Prop} {B D : Nat} {v : Value} {zss : List (List Int)} (h : OwnTab w B D v zss) (hk : Only S w w') (hs : ∀ g, B ≤ g → g < D → ¬ S g) : OwnTab w' B D v zss := by
  obtain ⟨V, h⟩ := h
  exact ⟨V, h.only hk (fun g hg => hs g (h.own.lt g hg).1 (h.top g hg)) (fun k hk' g hg => hs g ((h.rows k hk').own.lt g hg).1 ((h.rows k hk').top g hg))⟩
theorem RowsV.shape {w : World} {v : Value} {zss : List (List Int)} (h : RowsV w v zss) : ∃ a c, v = .slice a zss.length c := by
  obtain ⟨a, c, _, _, rfl, _⟩ := h
  exact ⟨a, c, rfl⟩
theorem OwnTab.shape2 {w : World} {B D : Nat} {v : Value} {zss : List (List Int)} (h : OwnTab w B D v zss) : ∃ a c, v = .slice a zss.length c := h.at.shape
/-- The call gives rows in memory of one's own. -/
def GivesTab (w : World) (zss : List (List Int)) (e : Ending) (w' : World) : Prop :=
  ∃ v, e = .returned v ∧ OwnTab w' w.heap.size w'.heap.size v zss ∧ Below w.heap.size w w'

theorem toTab_own {w : World} {v : Value} {zss : List (List Int)} (h : RowsV w v zss) (hn : zss.length ≤ 1048576) :
    Calls Tryd.prog 12 #[v] w (GivesTab w zss) := by
  obtain ⟨a, cap, A, C, rfl, hr⟩ := h
  refine (toInt64SS_any a A C zss cap w hr hn).mono ?_
  rintro e w' ⟨rfl, hc⟩
  have hs := hc.size
  refine ⟨_, rfl, ⟨outer w.heap.size zss zss.length, ownsRow_of_rowIs hc.top (by omega) (by have := hr.len; unfold maxLen; omega), fun g hg => by simp [Value.ownBlock] at hg; omega, hr.len, fun k hk => ?_, fun i j hi hj hne g hg hg' => ?_⟩, hc.below⟩
  · have e : outer w.heap.size zss zss.length k = .slice (some ⟨w.heap.size + 1 + k, 0, none⟩) (row zss k).length (row zss k).length := by simp only [outer]; rw [if_pos hk]
    rw [e]
    exact OwnInts.of_rowIs (hc.done k hk) (by omega) (by omega) (hr.rows k hk).len (hr.rows k hk).fits
  · simp only [outer] at hg hg'
    rw [if_pos hi] at hg
    rw [if_pos hj] at hg'
    simp [Value.ownBlock] at hg hg'
    omega

/-- How many places rows take. -/
def sizeTab (zss : List (List Int)) : Nat := zss.length + sumLen zss zss.length
theorem szTab_at {w : World} {v : Value} {zss : List (List Int)} {left r : Int} (hr : leftOf left (sizeTab zss) = r) (h : RowsV w v zss) (h0 : 0 ≤ left) (h1 : left ≤ 1048576) :
    Calls Tryd.prog 9 #[v, .int .i64 left] w fun e w' => e = .returned (.int .i64 r) ∧ Below w.heap.size w w' := by
  obtain ⟨a, cap, A, C, rfl, hc⟩ := h
  subst hr
  refine (szInt64SS_any a A C zss cap left w hc h0 h1).mono ?_
  rintro e w' ⟨rfl, rfl⟩
  exact ⟨rfl, Below.refl _ _⟩
theorem eqTab_at {w : World} {u v : Value} {zss : List (List Int)} (hu : RowsV w u zss) (hv : RowsV w v zss) :
    Calls Tryd.prog 15 #[u, v] w fun e w' => e = .returned (.bool true) ∧ Below w.heap.size w w' := eqRows_at hu hv
end
end Go.Proofs.YtihaajcmephlmaaDoor
namespace Go.Proofs.YtihaajcmephlmaaDoor
section
section
open Go.RowKit

/-- Can the player force a step into A? -/
def CanP (own : Bool) (I A : Nat → Prop) (us : List Int) : Prop :=
  if own = true then ∃ u ∈ us, I u.toNat ∧ A u.toNat else (∃ u ∈ us, I u.toNat) ∧ ∀ u ∈ us, I u.toNat → A u.toNat

def ownB (O : List Int) (who : Int) (v : Nat) : Bool := decide (nth O v = who)

open Classical in
/-- The ranks up to k; -1 where there is none. -/
noncomputable def rkK (zss : List (List Int)) (O : List Int) (who : Int) (I G : Nat → Bool) : Nat → Nat → Int
  | 0, u => if I u = true ∧ G u = true then 0 else -1
  | k + 1, u => if 0 ≤ rkK zss O who I G k u then rkK zss O who I G k u
      else if I u = true ∧ CanP (ownB O who u) (fun x => I x = true) (fun x => 0 ≤ rkK zss O who I G k x) (row zss u) then (k : Int) + 1 else -1

variable {zss : List (List Int)} {O : List Int} {who : Int} {I G : Nat → Bool}

theorem rkK_bound : ∀ k u, -1 ≤ rkK zss O who I G k u ∧ rkK zss O who I G k u ≤ k
  | 0, u => by unfold rkK; split <;> simp
  | k + 1, u => by
    have h := rkK_bound k u
    unfold rkK
    split
    · constructor <;> omega
    · split <;> constructor <;> omega

theorem rkK_old {k u : Nat} (h : 0 ≤ rkK zss O who I G k u) : rkK zss O who I G (k + 1) u = rkK zss O who I G k u := by
  rw [rkK, if_pos h]
theorem rkK_new {k u : Nat} (h : rkK zss O who I G k u < 0) (h1 : 0 ≤ rkK zss O who I G (k + 1) u) : rkK zss O who I G (k + 1) u = k + 1 := by
  rw [rkK, if_neg (by omega)] at h1 ⊢
  split at h1
  · next hc => rw [if_pos hc]
  · omega
theorem rkK_small {k u : Nat} (h : 0 ≤ rkK zss O who I G (k + 1) u) (hk : rkK zss O who I G (k + 1) u ≤ k) : 0 ≤ rkK zss O who I G k u := by
  by_cases h0 : 0 ≤ rkK zss O who I G k u
  · exact h0
  · have := rkK_new (by omega) h; omega

/-- A round that gives no rank is the last one. -/
theorem rkK_still {k : Nat} (hin : ∀ u : Nat, u < zss.length → ∀ x ∈ row zss u, ∃ v : Nat, x = (v : Int) ∧ v < zss.length) (h : ∀ u, u < zss.length → rkK zss O who I G (k + 1) u = rkK zss O who I G k u) :
    ∀ j, ∀ u, u < zss.length → rkK zss O who I G (k + j) u = rkK zss O who I G k u
  | 0, u, _ => rfl
  | j + 1, u, hu => by
    have ih := rkK_still hin h j
    rw [← h u hu]
    show rkK zss O who I G ((k + j) + 1) u = _
    by_cases h0 : 0 ≤ rkK zss O who I G (k + j) u
    · rw [rkK_old h0, ih u hu, rkK_old (by rw [← ih u hu]; exact h0)]
    · have h0' : ¬ 0 ≤ rkK zss O who I G k u := by rw [← ih u hu]; exact h0
      have hc : CanP (ownB O who u) (fun x => I x = true) (fun x => 0 ≤ rkK zss O who I G (k + j) x) (row zss u) ↔ CanP (ownB O who u) (fun x => I x = true) (fun x => 0 ≤ rkK zss O who I G k x) (row zss u) := by
        have e : ∀ x ∈ row zss u, (0 ≤ rkK zss O who I G (k + j) x.toNat ↔ 0 ≤ rkK zss O who I G k x.toNat) := fun x hx => by
          obtain ⟨v, rfl, hv⟩ := hin u hu x hx
          rw [Int.toNat_natCast, ih v hv]
        unfold CanP
        split
        · exact ⟨fun ⟨x, h1, h2, h3⟩ => ⟨x, h1, h2, (e x h1).1 h3⟩, fun ⟨x, h1, h2, h3⟩ => ⟨x, h1, h2, (e x h1).2 h3⟩⟩
        · exact ⟨fun ⟨h1, h2⟩ => ⟨h1, fun x hx hI => (e x hx).1 (h2 x hx hI)⟩, fun ⟨h1, h2⟩ => ⟨h1, fun x hx hI => (e x hx).2 (h2 x hx hI)⟩⟩
      have hk1 := h u hu
      rw [rkK, if_neg h0, rkK, if_neg h0']
      rw [rkK, if_neg h0'] at hk1
      by_cases hcc : I u = true ∧ CanP (ownB O who u) (fun x => I x = true) (fun x => 0 ≤ rkK zss O who I G k x) (row zss u)
      · rw [if_pos hcc] at hk1; omega
      · rw [if_neg (fun hh => hcc ⟨hh.1, hc.1 hh.2⟩), if_neg hcc]
end

section
open Go.RowKit

theorem markedK_more (f : Nat → Bool) (n : Nat) : (markedK f (n + 1)).length = (markedK f n).length + (if f n = true then 1 else 0) := by
  rw [markedK, List.length_append]; split <;> rfl
theorem markedK_le {f g : Nat → Bool} : ∀ n, (∀ v, v < n → f v = true → g v = true) → (markedK f n).length ≤ (markedK g n).length
  | 0, _ => Nat.le_refl _
  | n + 1, h => by
    have ih := markedK_le n fun v hv => h v (by omega)
    have hn := h n (by omega)
    rw [markedK_more, markedK_more]
    by_cases hf : f n = true
    · rw [if_pos hf, if_pos (hn hf)]; omega
    · rw [if_neg hf]; omega
theorem markedK_lt {f g : Nat → Bool} : ∀ n, (∀ v, v < n → f v = true → g v = true) → ∀ v, v < n → f v = false → g v = true → (markedK f n).length < (markedK g n).length
  | 0, _, v, hv, _, _ => absurd hv (Nat.not_lt_zero _)
  | n + 1, h, v, hv, h0, h1 => by
    rw [markedK_more, markedK_more]
    by_cases e : v = n
    · subst e
      have := markedK_le (f := f) (g := g) v fun u hu => h u (by omega)
      rw [if_neg (by rw [h0]; decide), if_pos h1]; omega
    · have ih := markedK_lt n (fun u hu => h u (by omega)) v (by omega) h0 h1
      have hn := h n (by omega)
      by_cases hf : f n = true
      · rw [if_pos hf, if_pos (hn hf)]; omega
      · rw [if_neg hf]; omega

section
variable {zss : List (List Int)} {O : List Int} {who : Int} {I G : Nat → Bool}

/-- As many rounds as vertices are enough. -/
theorem rkK_stop (hin : ∀ u : Nat, u < zss.length → ∀ x ∈ row zss u, ∃ v : Nat, x = (v : Int) ∧ v < zss.length) : ∀ u, u < zss.length → rkK zss O who I G (zss.length + 1) u = rkK zss O who I G zss.length u := by
  by_cases hex : ∃ k, k ≤ zss.length ∧ ∀ u, u < zss.length → rkK zss O who I G (k + 1) u = rkK zss O who I G k u
  · obtain ⟨k, hk, hs⟩ := hex
    intro u hu
    have h1 := rkK_still hin hs (zss.length - k) u hu
    have h2 := rkK_still hin hs (zss.length + 1 - k) u hu
    rw [show k + (zss.length - k) = zss.length by omega] at h1
    rw [show k + (zss.length + 1 - k) = zss.length + 1 by omega] at h2
    rw [h1, h2]
  · exfalso
    have key : ∀ k, k ≤ zss.length + 1 → k ≤ (markedK (fun v => decide (0 ≤ rkK zss O who I G k v)) zss.length).length := fun k => by
      induction k with
      | zero => intro _; exact Nat.zero_le _
      | succ k ih =>
        intro hk
        have h1 := ih (by omega)
        obtain ⟨u, hu, hne⟩ : ∃ u, u < zss.length ∧ rkK zss O who I G (k + 1) u ≠ rkK zss O who I G k u := by
          apply Classical.byContradiction
          intro hn
          exact hex ⟨k, by omega, fun u hu => Classical.byContradiction fun hh => hn ⟨u, hu, hh⟩⟩
        have b0 := rkK_bound (zss := zss) (O := O) (who := who) (I := I) (G := G) k u
        have b1 := rkK_bound (zss := zss) (O := O) (who := who) (I := I) (G := G) (k + 1) u
        have h0 : rkK zss O who I G k u < 0 := by
          apply Classical.byContradiction
          intro hh
          exact hne (rkK_old (by omega))
        have h2 := markedK_lt (f := fun v => decide (0 ≤ rkK zss O who I G k v)) (g := fun v => decide (0 ≤ rkK zss O who I G (k + 1) v)) zss.length
          (fun v _ hv => by
            have hv := of_decide_eq_true hv
            exact decide_eq_true (by rw [rkK_old hv]; exact hv)) u hu (decide_eq_false (by omega)) (decide_eq_true (by omega))
        omega
    have h1 := key (zss.length + 1) (Nat.le_refl _)
    have h2 := markedK_len (fun v => decide (0 ≤ rkK zss O who I G (zss.length + 1) v)) zss.length
    omega
end
end

section
open Go.RowKit

theorem CanP.mono {own : Bool} {I A B : Nat → Prop} {us : List Int} (h : CanP own I A us) (hab : ∀ u ∈ us, A u.toNat → B u.toNat) : CanP own I B us := by
  unfold CanP at *
  split at h
  · next ho => rw [if_pos ho]; obtain ⟨u, hu, h1, h2⟩ := h; exact ⟨u, hu, h1, hab u hu h2⟩
  · next ho => rw [if_neg ho]; exact ⟨h.1, fun u hu hI => hab u hu (h.2 u hu hI)⟩
theorem CanP.congr {own : Bool} {I A B : Nat → Prop} {us : List Int} (hab : ∀ u ∈ us, (A u.toNat ↔ B u.toNat)) : CanP own I A us ↔ CanP own I B us :=
  ⟨fun h => h.mono fun u hu => (hab u hu).1, fun h => h.mono fun u hu => (hab u hu).2⟩
theorem CanP.none {own : Bool} {I : Nat → Prop} {us : List Int} : ¬ CanP own I (fun _ => False) us := by
  unfold CanP
  split
  · rintro ⟨_, _, _, h⟩; exact h
  · rintro ⟨⟨u, hu, hI⟩, h⟩; exact h u hu hI

section
variable {zss : List (List Int)} {O : List Int} {who : Int} {I G : Nat → Bool}

theorem rkK_on {k u : Nat} (h : 0 ≤ rkK zss O who I G k u) : ∀ j, rkK zss O who I G (k + j) u = rkK zss O who I G k u
  | 0 => rfl
  | j + 1 => by
    have ih := rkK_on h j
    rw [← Nat.add_assoc, rkK_old (by rw [ih]; exact h), ih]

theorem rkK_back {k u : Nat} : ∀ j, 0 ≤ rkK zss O who I G (k + j) u → rkK zss O who I G (k + j) u ≤ k → 0 ≤ rkK zss O who I G k u
  | 0, h, _ => h
  | j + 1, h, hk => by
    rw [← Nat.add_assoc] at h hk
    have h1 := rkK_small h (by omega)
    rw [rkK_old h1] at hk
    exact rkK_back j h1 hk

/-- v can be forced into P in one step, or is where it should be. -/
def QueP (zss : List (List Int)) (O : List Int) (who : Int) (I G : Nat → Bool) (P : Nat → Prop) (v : Nat) : Prop :=
  I v = true ∧ (G v = true ∨ CanP (ownB O who v) (fun x => I x = true) P (row zss v))

theorem QueP.mono {P P' : Nat → Prop} {v : Nat} (h : QueP zss O who I G P v) (hp : ∀ x ∈ row zss v, P x.toNat → P' x.toNat) : QueP zss O who I G P' v :=
  ⟨h.1, h.2.imp id fun hc => hc.mono hp⟩
theorem QueP.congr {P P' : Nat → Prop} {v : Nat} (hp : ∀ x ∈ row zss v, (P x.toNat ↔ P' x.toNat)) : QueP zss O who I G P v ↔ QueP zss O who I G P' v :=
  ⟨fun h => h.mono fun x hx => (hp x hx).1, fun h => h.mono fun x hx => (hp x hx).2⟩

theorem rkK_que : ∀ (k v : Nat), 0 ≤ rkK zss O who I G (k + 1) v ↔ QueP zss O who I G (fun x => 0 ≤ rkK zss O who I G k x) v := fun k => by
  induction k with
  | zero =>
    intro v
    constructor
    · intro h
      by_cases h0 : 0 ≤ rkK zss O who I G 0 v
      · rw [rkK] at h0
        split at h0
        · next hc => exact ⟨hc.1, .inl hc.2⟩
        · omega
      · rw [rkK, if_neg h0] at h
        split at h
        · next hc => exact ⟨hc.1, .inr hc.2⟩
        · omega
    · rintro ⟨hI, h⟩
      by_cases h0 : 0 ≤ rkK zss O who I G 0 v
      · rw [rkK_old h0]; exact h0
      · rcases h with h | h
        · exact absurd (by rw [rkK, if_pos ⟨hI, h⟩]; omega) h0
        · rw [rkK, if_neg h0, if_pos ⟨hI, h⟩]; omega
  | succ k ih =>
    intro v
    constructor
    · intro h
      by_cases h0 : 0 ≤ rkK zss O who I G (k + 1) v
      · exact ((ih v).1 h0).mono fun x _ hx => by rw [rkK_old hx]; exact hx
      · rw [rkK, if_neg h0] at h
        split at h
        · next hc => exact ⟨hc.1, .inr hc.2⟩
        · omega
    · rintro ⟨hI, h⟩
      by_cases h0 : 0 ≤ rkK zss O who I G (k + 1) v
      · rw [rkK_old h0]; exact h0
      · rcases h with h | h
        · exact absurd ((ih v).2 ⟨hI, .inl h⟩) h0
        · rw [rkK, if_neg h0, if_pos ⟨hI, h⟩]; omega

/-- Every successor is a vertex. -/
def InG (zss : List (List Int)) : Prop := ∀ u : Nat, u < zss.length → ∀ x ∈ row zss u, ∃ v : Nat, x = (v : Int) ∧ v < zss.length

/-- The vertices of ranks below r. -/
def DoneR (R : Nat → Int) (r x : Nat) : Prop := 0 ≤ R x ∧ R x < r

theorem doneR_is (hin : InG zss) (k : Nat) {x : Nat} (hx : x < zss.length) : DoneR (rkK zss O who I G zss.length) (k + 1) x ↔ 0 ≤ rkK zss O who I G k x := by
  have hb := rkK_bound (zss := zss) (O := O) (who := who) (I := I) (G := G) zss.length x
  have hbk := rkK_bound (zss := zss) (O := O) (who := who) (I := I) (G := G) k x
  unfold DoneR
  by_cases hk : k ≤ zss.length
  · obtain ⟨j, hj⟩ : ∃ j, zss.length = k + j := ⟨zss.length - k, by omega⟩
    constructor
    · rintro ⟨h1, h2⟩
      rw [hj] at h1 h2
      exact rkK_back j h1 (by omega)
    · intro h
      have e := rkK_on h j
      rw [← hj] at e
      rw [e]
      exact ⟨h, by omega⟩
  · obtain ⟨j, hj⟩ : ∃ j, k = zss.length + j := ⟨k - zss.length, by omega⟩
    have e := rkK_still hin (rkK_stop (O := O) (who := who) (I := I) (G := G) hin) j x hx
    rw [← hj] at e
    rw [e]
    constructor
    · rintro ⟨h1, _⟩; exact h1
    · intro h; exact ⟨h, by omega⟩

theorem doneR_succ (hin : InG zss) (r : Nat) {v : Nat} (hv : v < zss.length) : DoneR (rkK zss O who I G zss.length) (r + 1) v ↔ QueP zss O who I G (DoneR (rkK zss O who I G zss.length) r) v := by
  rw [doneR_is hin r hv]
  cases r with
  | zero =>
    rw [rkK]
    constructor
    · intro h
      split at h
      · next hc => exact ⟨hc.1, .inl hc.2⟩
      · omega
    · rintro ⟨hI, h | h⟩
      · rw [if_pos ⟨hI, h⟩]; omega
      · exact absurd ((CanP.congr fun u _ => by unfold DoneR; constructor <;> intro hh <;> first | omega | exact hh.elim).1 h) CanP.none
  | succ k =>
    rw [rkK_que]
    exact QueP.congr fun x hx => by
      obtain ⟨y, rfl, hy⟩ := hin v hv x hx
      rw [Int.toNat_natCast]
      exact (doneR_is hin k hy).symm

open Classical in
/-- What v still waits for when P have had their turn. -/
noncomputable def waitF (zss : List (List Int)) (O : List Int) (who : Int) (I G : Nat → Bool) (P : Nat → Prop) (v : Nat) : Int :=
  if I v = true ∧ G v = false then
    if ownB O who v = true then (if ∃ x ∈ row zss v, I x.toNat = true ∧ P x.toNat then 0 else 1)
    else (((row zss v).filter (fun x => I x.toNat && !decide (P x.toNat))).length : Int)
  else 0

/-- A vertex with a successor in I waits for nothing just when it can be forced. -/
theorem waitF_zero {P : Nat → Prop} {v : Nat} (hI : I v = true) (hG : G v = false) (hs : ∃ x ∈ row zss v, I x.toNat = true) :
    waitF zss O who I G P v = 0 ↔ CanP (ownB O who v) (fun x => I x = true) P (row zss v) := by
  unfold waitF CanP
  rw [if_pos ⟨hI, hG⟩]
  by_cases ho : ownB O who v = true
  · rw [if_pos ho, if_pos ho]
    split
    · next h => exact ⟨fun _ => h, fun _ => rfl⟩
    · next h => exact ⟨fun hh => absurd hh (by omega), fun hh => absurd hh h⟩
  · rw [if_neg ho, if_neg ho]
    rw [Int.natCast_eq_zero, List.length_eq_zero_iff, List.filter_eq_nil_iff]
    constructor
    · intro h
      refine ⟨hs, fun x hx hIx => ?_⟩
      have := h x hx
      simp [hIx] at this
      exact this
    · rintro ⟨_, h⟩ x hx hh
      simp at hh
      exact hh.2 (h x hx hh.1)

theorem waitF_out {P : Nat → Prop} {v : Nat} (h : ¬ (I v = true ∧ G v = false)) : waitF zss O who I G P v = 0 := by unfold waitF; rw [if_neg h]

/-- One more has its turn. -/
def AddP (P : Nat → Prop) (u : Nat) : Nat → Prop := fun x => P x ∨ x = u

theorem filter_one_less {p q : Int → Bool} {u : Int} : ∀ {us : List Int}, us.Nodup → u ∈ us → p u = true → q u = false → (∀ x ∈ us, x ≠ u → p x = q x) → (us.filter p).length = (us.filter q).length + 1
  | [], _, h, _, _, _ => by cases h
  | y :: ys, hn, hu, hp, hq, he => by
    rw [List.nodup_cons] at hn
    by_cases e : y = u
    · subst e
      rw [List.filter_cons_of_pos hp, List.filter_cons_of_neg (by rw [hq]; decide), List.filter_congr fun x hx => he x (by simp [hx]) (fun e => hn.1 (by rw [← e]; exact hx))]
      rfl
    · have hu' : u ∈ ys := by
        rcases List.mem_cons.1 hu with h | h
        · exact absurd h.symm e
        · exact h
      have ih := filter_one_less hn.2 hu' hp hq fun x hx => he x (by simp [hx])
      have hy := he y (by simp) e
      by_cases h : p y = true
      · rw [List.filter_cons_of_pos h, List.filter_cons_of_pos (by rw [← hy]; exact h)]; simp [ih]
      · rw [List.filter_cons_of_neg h, List.filter_cons_of_neg (by rw [← hy]; exact h)]; exact ih

/-- Who waits for u waits for one less. -/
theorem waitF_hit {P : Nat → Prop} {u v : Nat} (hn : (row zss v).Nodup) (hpos : ∀ x ∈ row zss v, 0 ≤ x) (hu : (u : Int) ∈ row zss v) (hI : I u = true) (hP : ¬ P u) :
    (waitF zss O who I G P v = 0 → waitF zss O who I G (AddP P u) v = 0) ∧ (waitF zss O who I G P v ≠ 0 → waitF zss O who I G (AddP P u) v = waitF zss O who I G P v - 1) := by
  unfold waitF
  by_cases hc : I v = true ∧ G v = false
  · rw [if_pos hc, if_pos hc]
    by_cases ho : ownB O who v = true
    · rw [if_pos ho, if_pos ho]
      have h1 : ∃ x ∈ row zss v, I x.toNat = true ∧ AddP P u x.toNat := ⟨u, hu, by rw [Int.toNat_natCast]; exact hI, .inr (Int.toNat_natCast u)⟩
      rw [if_pos h1]
      refine ⟨fun _ => rfl, fun h => ?_⟩
      split at h
      · exact absurd rfl h
      · next hh => rw [if_neg hh]; rfl
    · rw [if_neg ho, if_neg ho]
      have e := filter_one_less (p := fun x => I x.toNat && !@decide (P x.toNat) (Classical.propDecidable _)) (q := fun x => I x.toNat && !@decide (AddP P u x.toNat) (Classical.propDecidable _)) hn hu (by simp [hI, hP]) (by simp [AddP])
        (fun x hx hne => by
          have hx0 := hpos x hx
          have hxu : x.toNat ≠ u := by omega
          by_cases hh : P x.toNat
          · simp [AddP, hh]
          · simp [AddP, hxu, hh])
      constructor
      · intro h; omega
      · intro _; omega
  · rw [if_neg hc, if_neg hc]
    exact ⟨fun _ => rfl, fun h => absurd rfl h⟩

theorem predsK_iff (zss : List (List Int)) (u : Int) : ∀ (n : Nat) (x : Int), x ∈ predsK zss u n ↔ ∃ v : Nat, x = (v : Int) ∧ v < n ∧ u ∈ row zss v
  | 0, x => by simp [predsK]
  | n + 1, x => by
    rw [predsK, List.mem_append, predsK_iff zss u n x]
    constructor
    · rintro (⟨v, h1, h2, h3⟩ | h)
      · exact ⟨v, h1, by omega, h3⟩
      · split at h
        · next hh => exact ⟨n, by simpa using h, by omega, hasB_iff.1 hh⟩
        · cases h
    · rintro ⟨v, h1, h2, h3⟩
      by_cases e : v = n
      · subst e
        right
        rw [if_pos (hasB_iff.2 h3)]
        simp [h1]
      · exact .inl ⟨v, h1, by omega, h3⟩
theorem predsK_nodup (zss : List (List Int)) (u : Int) : ∀ n, (predsK zss u n).Nodup
  | 0 => by simp [predsK]
  | n + 1 => by
    rw [predsK, List.nodup_append]
    refine ⟨predsK_nodup zss u n, by split <;> simp, fun x hx y hy e => ?_⟩
    subst e
    have h1 := predsK_mem zss u n x hx
    split at hy
    · simp at hy; omega
    · cases hy

/-- Vertices, none of them twice. -/
structure VertsP (n : Nat) (L : List Int) : Prop where
  once : L.Nodup
  all : ∀ x ∈ L, ∃ v : Nat, x = (v : Int) ∧ v < n

theorem VertsP.len {n : Nat} {L : List Int} (h : VertsP n L) : L.length ≤ n := by
  have h1 : (L.map Int.toNat).Nodup := by
    rw [List.Nodup, List.pairwise_map]
    exact List.Pairwise.imp_of_mem (fun {a b} ha hb hne => by
      obtain ⟨v, rfl, _⟩ := h.all a ha
      obtain ⟨u, rfl, _⟩ := h.all b hb
      simp; omega) h.once
  have h2 : L.map Int.toNat ⊆ List.range n := fun x hx => by
    obtain ⟨y, hy, rfl⟩ := List.mem_map.1 hx
    obtain ⟨v, rfl, hv⟩ := h.all y hy
    simp [hv]
  have := List.Nodup.length_le_of_subset h1 h2
  simpa using this
theorem VertsP.at {n : Nat} {L : List Int} (h : VertsP n L) {k : Nat} (hk : k < L.length) : ∃ v : Nat, nth L k = (v : Int) ∧ v < n := h.all _ (nth_mem hk)
theorem VertsP.fits {n : Nat} {L : List Int} (h : VertsP n L) (hn : n ≤ 1048576) : ∀ k, k < L.length → Fits (nth L k) := fun k hk => by
  obtain ⟨v, h1, h2⟩ := h.at hk; rw [h1]; unfold Fits; omega
theorem VertsP.nil (n : Nat) : VertsP n [] := ⟨List.nodup_nil, fun x hx => by cases hx⟩
theorem VertsP.snoc {n v : Nat} {L : List Int} (h : VertsP n L) (hv : v < n) (hn : (v : Int) ∉ L) : VertsP n (L ++ [(v : Int)]) :=
  ⟨List.nodup_append.2 ⟨h.once, by simp, fun x hx y hy e => hn (by simp at hy; rw [← hy, ← e]; exact hx)⟩, fun x hx => by
    rcases List.mem_append.1 hx with hx | hx
    · exact h.all x hx
    · exact ⟨v, by simpa using hx, hv⟩⟩

/-- While the predecessors vs of the vertex u are read. -/
structure InP (zss : List (List Int)) (O : List Int) (who : Int) (I G : Nat → Bool) (R : Nat → Int) (r u j : Nat) (P : Nat → Prop) (ab : List Int) (f : Nat → Int) : Prop where
  waits : ∀ v, v < zss.length → f v = if (v : Int) ∈ (predsK zss u zss.length).take j then waitF zss O who I G (AddP P u) v else waitF zss O who I G P v
  verts : VertsP zss.length ab
  is : ∀ v : Nat, v < zss.length → ((v : Int) ∈ ab ↔ (QueP zss O who I G P v ∨ ((v : Int) ∈ (predsK zss u zss.length).take j ∧ QueP zss O who I G (AddP P u) v)) ∧ ¬ DoneR R (r + 1) v)

end

/-- What a graph's rows are. -/
structure RowsP (zss : List (List Int)) : Prop where
  inG : InG zss
  once : ∀ v, v < zss.length → (row zss v).Nodup

theorem RowsP.pos {zss : List (List Int)} (h : RowsP zss) {v : Nat} (hv : v < zss.length) : ∀ x ∈ row zss v, 0 ≤ x := fun x hx => by
  obtain ⟨y, rfl, _⟩ := h.inG v hv x hx; omega

section
variable {zss : List (List Int)} {O : List Int} {who : Int} {I G : Nat → Bool} {r : Nat}

theorem take_snoc {L : List Int} {i : Nat} (hi : i < L.length) : L.take (i + 1) = L.take i ++ [nth L i] := by
  rw [List.take_add_one, List.getElem?_eq_getElem hi, nth_eq hi]; rfl

variable {R : Nat → Int}

theorem preds_at {u j v : Nat} (hj : j < (predsK zss u zss.length).length) (hv : nth (predsK zss u zss.length) j = (v : Int)) : v < zss.length ∧ (u : Int) ∈ row zss v ∧ (v : Int) ∉ (predsK zss u zss.length).take j := by
  obtain ⟨v', h1, h2, h3⟩ := (predsK_iff _ _ _ _).1 (nth_mem hj)
  rw [hv] at h1
  obtain rfl := Int.natCast_inj.1 h1
  refine ⟨h2, h3, fun hh => ?_⟩
  have hn := predsK_nodup zss u zss.length
  rw [← List.take_append_drop j (predsK zss u zss.length), List.nodup_append] at hn
  refine hn.2.2 _ hh _ ?_ rfl
  rw [← hv, List.mem_iff_getElem?]
  exact ⟨0, by rw [List.getElem?_drop, Nat.add_zero, List.getElem?_eq_getElem hj, nth_eq hj]⟩

/-- The vertex v waits for one less, and for more. -/
theorem InP.less {P : Nat → Prop} {ab : List Int} {f : Nat → Int} {u j v : Nat} (hz : RowsP zss) (h : InP zss O who I G R r u j P ab f) (hIu : I u = true) (hP : ¬ P u)
    (hj : j < (predsK zss u zss.length).length) (hv : nth (predsK zss u zss.length) j = (v : Int)) (hf : f v ≠ 0) (hf1 : f v - 1 ≠ 0) : InP zss O who I G R r u (j + 1) P ab (fun x => if x = v then f v - 1 else f x) := by
  obtain ⟨hvn, hm, hno⟩ := preds_at hj hv
  have ew : f v = waitF zss O who I G P v := by rw [h.waits v hvn, if_neg hno]
  have hw1 := (waitF_hit (hz.once v hvn) (hz.pos hvn) hm hIu hP).2 (by rw [← ew]; exact hf)
  have hin : I v = true ∧ G v = false := Classical.byContradiction fun hc => hf (by rw [ew, waitF_out hc])
  have hq : ¬ QueP zss O who I G (AddP P u) v := fun hq => by
    rcases hq.2 with hG | hc
    · rw [hin.2] at hG; cases hG
    · refine hf1 ?_
      rw [ew, ← hw1]
      exact (waitF_zero hin.1 hin.2 ⟨u, hm, by rw [Int.toNat_natCast]; exact hIu⟩).2 hc
  refine ⟨fun x hx => ?_, h.verts, fun x hx => ?_⟩
  · rw [take_snoc hj, hv]
    by_cases e : x = v
    · subst e
      rw [if_pos rfl, if_pos (by simp), hw1, ew]
    · have e' : ((x : Int) = v) ↔ False := ⟨fun h => e (Int.natCast_inj.1 h), False.elim⟩
      rw [if_neg e, h.waits x hx]
      simp only [List.mem_append, List.mem_singleton, e', or_false]
  · rw [h.is x hx, take_snoc hj, hv]
    refine and_congr ⟨fun hh => hh.imp id fun hh => ⟨by simp [hh.1], hh.2⟩, fun hh => ?_⟩ Iff.rfl
    rcases hh with hh | ⟨h1, h2⟩
    · exact .inl hh
    · rw [List.mem_append] at h1
      rcases h1 with h1 | h1
      · exact .inr ⟨h1, h2⟩
      · obtain rfl := Int.natCast_inj.1 (List.mem_singleton.1 h1)
        exact absurd h2 hq

/-- The vertex v waits for one less, and for nothing more: it comes next. -/
theorem InP.next {P : Nat → Prop} {ab : List Int} {f : Nat → Int} {u j v : Nat} (hz : RowsP zss) (h : InP zss O who I G R r u j P ab f) (hIu : I u = true) (hP : ¬ P u) (hd : ∀ x, x < zss.length → DoneR R (r + 1) x → QueP zss O who I G P x)
    (hj : j < (predsK zss u zss.length).length) (hv : nth (predsK zss u zss.length) j = (v : Int)) (hf : f v ≠ 0) (hf1 : f v - 1 = 0) : InP zss O who I G R r u (j + 1) P (ab ++ [(v : Int)]) (fun x => if x = v then f v - 1 else f x) := by
  obtain ⟨hvn, hm, hno⟩ := preds_at hj hv
  have ew : f v = waitF zss O who I G P v := by rw [h.waits v hvn, if_neg hno]
  have hw1 := (waitF_hit (hz.once v hvn) (hz.pos hvn) hm hIu hP).2 (by rw [← ew]; exact hf)
  have hin : I v = true ∧ G v = false := Classical.byContradiction fun hc => hf (by rw [ew, waitF_out hc])
  have hs : ∃ x ∈ row zss v, I x.toNat = true := ⟨u, hm, by rw [Int.toNat_natCast]; exact hIu⟩
  have hq : QueP zss O who I G (AddP P u) v := ⟨hin.1, .inr ((waitF_zero hin.1 hin.2 hs).1 (by rw [hw1, ← ew]; exact hf1))⟩
  have hq0 : ¬ QueP zss O who I G P v := fun hq => by
    rcases hq.2 with hG | hc
    · rw [hin.2] at hG; cases hG
    · exact hf (by rw [ew]; exact (waitF_zero hin.1 hin.2 hs).2 hc)
  have hnd : ¬ DoneR R (r + 1) v := fun hh => hq0 (hd v hvn hh)
  have hna : (v : Int) ∉ ab := fun hh => by
    rcases ((h.is v hvn).1 hh).1 with h1 | h1
    · exact hq0 h1
    · exact hno h1.1
  refine ⟨fun x hx => ?_, h.verts.snoc hvn hna, fun x hx => ?_⟩
  · rw [take_snoc hj, hv]
    by_cases e : x = v
    · subst e
      rw [if_pos rfl, if_pos (by simp), hw1, ew]
    · have e' : ((x : Int) = v) ↔ False := ⟨fun h => e (Int.natCast_inj.1 h), False.elim⟩
      rw [if_neg e, h.waits x hx]
      simp only [List.mem_append, List.mem_singleton, e', or_false]
  · rw [List.mem_append, h.is x hx, take_snoc hj, hv]
    constructor
    · rintro (hh | hh)
      · exact ⟨hh.1.imp id fun hh => ⟨by simp [hh.1], hh.2⟩, hh.2⟩
      · obtain rfl := Int.natCast_inj.1 (List.mem_singleton.1 hh)
        exact ⟨.inr ⟨by simp, hq⟩, hnd⟩
    · rintro ⟨hh, hh2⟩
      rcases hh with hh | ⟨h1, h2⟩
      · exact .inl ⟨.inl hh, hh2⟩
      · rw [List.mem_append] at h1
        rcases h1 with h1 | h1
        · exact .inl ⟨.inr ⟨h1, h2⟩, hh2⟩
        · exact .inr h1

/-- What has been handed on: every vertex of P once, with its rank. -/
structure LogP (n : Nat) (R : Nat → Int) (P : Nat → Prop) (pre : List (Nat × Nat)) : Prop where
  once : (pre.map Prod.fst).Nodup
  rank : ∀ x ∈ pre, x.1 < n ∧ R x.1 = (x.2 : Int)
  is : ∀ v, v < n → (v ∈ pre.map Prod.fst ↔ P v)

theorem LogP.len {n : Nat} {P : Nat → Prop} {pre : List (Nat × Nat)} (h : LogP n R P pre) : pre.length ≤ n := by
  have h2 : pre.map Prod.fst ⊆ List.range n := fun x hx => by
    obtain ⟨y, hy, rfl⟩ := List.mem_map.1 hx
    simp [(h.rank y hy).1]
  have := List.Nodup.length_le_of_subset h.once h2
  simpa using this
theorem LogP.snoc {n u k : Nat} {P P' : Nat → Prop} {pre : List (Nat × Nat)} (h : LogP n R P pre) (hu : u < n) (hk : R u = (k : Int)) (hP : ¬ P u) (hP' : ∀ x, P' x ↔ AddP P u x) : LogP n R P' (pre ++ [(u, k)]) where
  once := by
    rw [List.map_append, List.nodup_append]
    refine ⟨h.once, by simp, fun x hx y hy e => ?_⟩
    simp at hy
    subst hy; subst e
    exact hP ((h.is x hu).1 hx)
  rank := fun x hx => by
    rcases List.mem_append.1 hx with hx | hx
    · exact h.rank x hx
    · simp at hx; subst hx; exact ⟨hu, hk⟩
  is := fun v hv => by
    rw [List.map_append, List.mem_append, h.is v hv, hP' v]
    simp [AddP]
theorem LogP.nil (n : Nat) {P : Nat → Prop} (h : ∀ v, v < n → ¬ P v) : LogP n R P [] := ⟨by simp, fun x hx => (by cases hx), fun v hv => (by simp [h v hv])⟩
theorem LogP.congr {n : Nat} {P P' : Nat → Prop} {pre : List (Nat × Nat)} (h : LogP n R P pre) (he : ∀ v, v < n → (P v ↔ P' v)) : LogP n R P' pre := ⟨h.once, h.rank, fun v hv => (h.is v hv).trans (he v hv)⟩

end
end
end

section
open Go.RowKit

/-- A way that comes back to where it began. -/
structure LoopP (E : Nat → Nat → Prop) (c : Nat → Nat) (L : Nat) : Prop where
  pos : 0 < L
  per : ∀ i, c (i + L) = c i
  step : ∀ i, E (c i) (c (i + 1))

/-- Every loop is won by who. -/
def WinE (E : Nat → Nat → Prop) (p : Nat → Int) (who : Int) : Prop := ∀ c L, LoopP E c L → ∀ i, (∀ j, p (c j) ≤ p (c i)) → p (c i) % 2 = who

theorem LoopP.far {E : Nat → Nat → Prop} {c : Nat → Nat} {L : Nat} (h : LoopP E c L) (j : Nat) : ∀ k, c (j + k * L) = c j
  | 0 => by rw [Nat.zero_mul, Nat.add_zero]
  | k + 1 => by rw [Nat.succ_mul, ← Nat.add_assoc, h.per, LoopP.far h j k]
/-- What a loop cannot leave holds all of it. -/
theorem LoopP.all {E : Nat → Nat → Prop} {c : Nat → Nat} {L : Nat} (h : LoopP E c L) {S : Nat → Prop} {i : Nat} (hi : S (c i)) (hs : ∀ v u, S v → E v u → S u) : ∀ j, S (c j) := by
  have hf : ∀ k, S (c (i + k)) := fun k => by
    induction k with
    | zero => exact hi
    | succ k ih => exact hs _ _ ih (h.step (i + k))
  intro j
  rw [← h.far j i]
  have hp := h.pos
  have hle : i ≤ j + i * L := by
    have : i * 1 ≤ i * L := Nat.mul_le_mul_left i hp
    omega
  obtain ⟨k, hk⟩ : ∃ k, j + i * L = i + k := ⟨j + i * L - i, by omega⟩
  rw [hk]
  exact hf k
section
variable {zss : List (List Int)} {O : List Int}

/-- Who is attracted. -/
noncomputable def attrB (zss : List (List Int)) (O : List Int) (who : Int) (I G : Nat → Bool) (v : Nat) : Bool := decide (0 ≤ rkK zss O who I G zss.length v)
theorem attrB_iff {who : Int} {I G : Nat → Bool} {v : Nat} : attrB zss O who I G v = true ↔ 0 ≤ rkK zss O who I G zss.length v := by unfold attrB; rw [decide_eq_true_iff]
theorem attr_done {who : Int} {I G : Nat → Bool} (v : Nat) : attrB zss O who I G v = true ↔ DoneR (rkK zss O who I G zss.length) (zss.length + 1) v := by
  rw [attrB_iff]
  unfold DoneR
  have := (rkK_bound (zss := zss) (O := O) (who := who) (I := I) (G := G) zss.length v).2
  constructor
  · intro h; exact ⟨h, by omega⟩
  · exact fun h => h.1
theorem attr_done2 {who : Int} {I G : Nat → Bool} (v : Nat) : attrB zss O who I G v = true ↔ DoneR (rkK zss O who I G zss.length) (zss.length + 1 + 1) v := by
  rw [attrB_iff]
  unfold DoneR
  have := (rkK_bound (zss := zss) (O := O) (who := who) (I := I) (G := G) zss.length v).2
  constructor
  · intro h; exact ⟨h, by omega⟩
  · exact fun h => h.1
theorem attr_fix (hin : InG zss) {who : Int} {I G : Nat → Bool} {v : Nat} (hv : v < zss.length) : attrB zss O who I G v = true ↔ QueP zss O who I G (fun x => attrB zss O who I G x = true) v := by
  rw [attr_done2, doneR_succ hin _ hv]
  exact QueP.congr fun x _ => (attr_done x.toNat).symm

/-- The steps within a region when who follows a plan. -/
def StepE (zss : List (List Int)) (O : List Int) (who : Int) (W : Nat → Bool) (s : Nat → Nat) (v u : Nat) : Prop := W v = true ∧ v < zss.length ∧ (u : Int) ∈ row zss v ∧ W u = true ∧ (nth O v = who → s v = u)

/-- In the part I, who holds the region W by the plan s, and wins every loop in it. -/
structure HoldsP (zss : List (List Int)) (O : List Int) (p : Nat → Int) (I W : Nat → Bool) (who : Int) (s : Nat → Nat) : Prop where
  sub : ∀ v, W v = true → I v = true
  own : ∀ v, v < zss.length → W v = true → nth O v = who → (s v : Int) ∈ row zss v ∧ W (s v) = true
  opp : ∀ v, v < zss.length → W v = true → nth O v ≠ who → ∀ x ∈ row zss v, I x.toNat = true → W x.toNat = true
  wins : WinE (StepE zss O who W s) p who

theorem HoldsP.congr {p : Nat → Int} {I W W' : Nat → Bool} {who : Int} {s : Nat → Nat} (h : HoldsP zss O p I W who s) (e : ∀ v, W v = W' v) : HoldsP zss O p I W' who s := by
  have : W = W' := funext e
  rw [← this]; exact h
theorem HoldsP.none {p : Nat → Int} {I W : Nat → Bool} {who : Int} (e : ∀ v, W v = false) : HoldsP zss O p I W who (fun _ => 0) where
  sub := fun v h => by rw [e v] at h; cases h
  own := fun v _ h => by rw [e v] at h; cases h
  opp := fun v _ h => by rw [e v] at h; cases h
  wins := fun c L hl => by have := (hl.step 0).1; rw [e] at this; cases this

end
end

section
open Go.RowKit

section
variable (zss : List (List Int)) (O : List Int) (p : Nat → Int)

end

section
variable {zss : List (List Int)} {O : List Int} {p : Nat → Int}

theorem max_first (f : Nat → Int) : ∀ L, 0 < L → ∃ i, i < L ∧ ∀ j, j < L → f j ≤ f i
  | 0, h => absurd h (Nat.not_lt_zero _)
  | 1, _ => ⟨0, by omega, fun j hj => by have : j = 0 := by omega
                                         rw [this]; exact Int.le_refl _⟩
  | L + 2, _ => by
    obtain ⟨i, hi, h⟩ := max_first f (L + 1) (by omega)
    by_cases hl : f i < f (L + 1)
    · refine ⟨L + 1, by omega, fun j hj => ?_⟩
      by_cases e : j = L + 1
      · rw [e]; exact Int.le_refl _
      · have := h j (by omega); omega
    · refine ⟨i, by omega, fun j hj => ?_⟩
      by_cases e : j = L + 1
      · rw [e]; omega
      · exact h j (by omega)
theorem LoopP.max {E : Nat → Nat → Prop} {c : Nat → Nat} {L : Nat} (h : LoopP E c L) (f : Nat → Int) : ∃ i, ∀ j, f (c j) ≤ f (c i) := by
  obtain ⟨i, _, hm⟩ := max_first (fun k => f (c k)) L h.pos
  refine ⟨i, fun j => ?_⟩
  have h1 := h.far (j % L) (j / L)
  rw [Nat.mul_comm, Nat.mod_add_div] at h1
  rw [h1]
  exact hm _ (Nat.mod_lt _ h.pos)

end
end

section
open Go.RowKit

section
variable {zss : List (List Int)} {O : List Int} {who : Int} {I G : Nat → Bool}

open Classical in
/-- How many successors in the part have not had their turn. -/
noncomputable def cntF (zss : List (List Int)) (I : Nat → Bool) (P : Nat → Prop) (v : Nat) : Int := (((row zss v).filter (fun x => I x.toNat && !decide (P x.toNat))).length : Int)

theorem cntF_hit {P : Nat → Prop} {u v : Nat} (hn : (row zss v).Nodup) (hpos : ∀ x ∈ row zss v, 0 ≤ x) (hu : (u : Int) ∈ row zss v) (hI : I u = true) (hP : ¬ P u) : cntF zss I (AddP P u) v = cntF zss I P v - 1 := by
  have e := filter_one_less (p := fun x => I x.toNat && !@decide (P x.toNat) (Classical.propDecidable _)) (q := fun x => I x.toNat && !@decide (AddP P u x.toNat) (Classical.propDecidable _)) hn hu (by simp [hI, hP]) (by simp [AddP])
    (fun x hx hne => by
      have hx0 := hpos x hx
      have hxu : x.toNat ≠ u := by omega
      by_cases hh : P x.toNat
      · simp [AddP, hh]
      · simp [AddP, hxu, hh])
  unfold cntF
  omega
theorem cntF_none {P : Nat → Prop} {v : Nat} (h : cntF zss I P v = 0) : ∀ x ∈ row zss v, I x.toNat = true → P x.toNat := fun x hx hIx => by
  unfold cntF at h
  rw [Int.natCast_eq_zero, List.length_eq_zero_iff, List.filter_eq_nil_iff] at h
  have := h x hx
  simp [hIx] at this
  exact this
theorem cntF_all {P : Nat → Prop} {v : Nat} (h : ∀ x ∈ row zss v, I x.toNat = true → P x.toNat) : cntF zss I P v = 0 := by
  unfold cntF
  rw [Int.natCast_eq_zero, List.length_eq_zero_iff, List.filter_eq_nil_iff]
  intro x hx hh
  simp at hh
  exact hh.2 (h x hx hh.1)

/-- Between two of the queue: P have had their turn. -/
structure QuP (zss : List (List Int)) (O : List Int) (who : Int) (I G : Nat → Bool) (P : Nat → Prop) (Q : List Int) (out : Nat → Bool) (left : Nat → Int) : Prop where
  verts : VertsP zss.length Q
  outs : ∀ v, v < zss.length → (out v = true ↔ QueP zss O who I G P v)
  mem : ∀ v : Nat, v < zss.length → ((v : Int) ∈ Q ↔ out v = true)
  lefts : ∀ v, v < zss.length → I v = true → out v = false → left v = cntF zss I P v
  sound : ∀ v, v < zss.length → out v = true → attrB zss O who I G v = true

/-- While the predecessors vs of u are read. -/
structure QiP (zss : List (List Int)) (O : List Int) (who : Int) (I G : Nat → Bool) (P : Nat → Prop) (u j : Nat) (vs Q : List Int) (out : Nat → Bool) (left : Nat → Int) : Prop where
  verts : VertsP zss.length Q
  outs : ∀ v : Nat, v < zss.length → (out v = true ↔ QueP zss O who I G P v ∨ ((v : Int) ∈ vs.take j ∧ QueP zss O who I G (AddP P u) v))
  mem : ∀ v : Nat, v < zss.length → ((v : Int) ∈ Q ↔ out v = true)
  lefts : ∀ v : Nat, v < zss.length → I v = true → out v = false → left v = if (v : Int) ∈ vs.take j then cntF zss I (AddP P u) v else cntF zss I P v
  sound : ∀ v, v < zss.length → out v = true → attrB zss O who I G v = true

variable {P : Nat → Prop} {Q vs : List Int} {out : Nat → Bool} {left : Nat → Int} {u j : Nat}

theorem take_fresh {vs : List Int} {j : Nat} (hn : vs.Nodup) (hj : j < vs.length) : nth vs j ∉ vs.take j := fun hh => by
  rw [← List.take_append_drop j vs, List.nodup_append] at hn
  refine hn.2.2 _ hh _ ?_ rfl
  rw [List.mem_iff_getElem?]
  exact ⟨0, by rw [List.getElem?_drop, Nat.add_zero, List.getElem?_eq_getElem hj, nth_eq hj]⟩

/-- The vertex v has one successor less to wait for. -/
theorem QiP.less (hz : RowsP zss) (hn : vs.Nodup) (h : QiP zss O who I G P u j vs Q out left) {v : Nat} (hvn : v < zss.length) (hj : j < vs.length) (hv : nth vs j = (v : Int)) (hI : I v = true) (ho : out v = false) (hu : (u : Int) ∈ row zss v) (hIu : I u = true) (hPu : ¬ P u) :
    left v - 1 = cntF zss I (AddP P u) v ∧ (nth O v ≠ who → left v - 1 ≠ 0 → QiP zss O who I G P u (j + 1) vs Q out (fun x => if x = v then left v - 1 else left x)) ∧
    (nth O v = who ∨ left v - 1 = 0 → (∀ x, x < zss.length → P x → attrB zss O who I G x = true) → attrB zss O who I G u = true → QiP zss O who I G P u (j + 1) vs (Q ++ [(v : Int)]) (fun x => if x = v then true else out x) (fun x => if x = v then left v - 1 else left x)) := by
  have hno := take_fresh hn hj
  rw [hv] at hno
  have el : left v = cntF zss I P v := by rw [h.lefts v hvn hI ho, if_neg hno]
  have e1 : left v - 1 = cntF zss I (AddP P u) v := by rw [el, cntF_hit (hz.once v hvn) (hz.pos hvn) hu hIu hPu]
  have hnq : ¬ QueP zss O who I G P v := fun hq => by rw [(h.outs v hvn).2 (.inl hq)] at ho; cases ho
  have hnG : G v = false := by
    cases hg : G v with
    | false => rfl
    | true => exact absurd ⟨hI, .inl hg⟩ hnq
  refine ⟨e1, fun hw h0 => ?_, fun hw hPs hus => ?_⟩
  · have hq : ¬ QueP zss O who I G (AddP P u) v := fun hq => by
      rcases hq.2 with hg | hc
      · rw [hnG] at hg; cases hg
      · unfold CanP at hc
        rw [if_neg (by unfold ownB; simpa using hw)] at hc
        exact h0 (by rw [e1]; exact cntF_all hc.2)
    refine ⟨h.verts, fun x hx => ?_, h.mem, fun x hx hIx hox => ?_, h.sound⟩
    · rw [h.outs x hx, take_snoc hj, hv]
      constructor
      · exact fun hh => hh.imp id fun hh => ⟨by simp [hh.1], hh.2⟩
      · rintro (hh | ⟨h1, h2⟩)
        · exact .inl hh
        · rw [List.mem_append] at h1
          rcases h1 with h1 | h1
          · exact .inr ⟨h1, h2⟩
          · obtain rfl := Int.natCast_inj.1 (List.mem_singleton.1 h1)
            exact absurd h2 hq
    · rw [take_snoc hj, hv]
      by_cases e : x = v
      · subst e
        rw [if_pos rfl, if_pos (by simp), e1]
      · have e' : ((x : Int) = v) ↔ False := ⟨fun h => e (Int.natCast_inj.1 h), False.elim⟩
        rw [if_neg e, h.lefts x hx hIx hox]
        simp only [List.mem_append, List.mem_singleton, e', or_false]
  · have hq : QueP zss O who I G (AddP P u) v := by
      refine ⟨hI, .inr ?_⟩
      unfold CanP
      by_cases how : nth O v = who
      · rw [if_pos (by unfold ownB; simpa using how)]
        exact ⟨u, hu, by rw [Int.toNat_natCast]; exact hIu, .inr (Int.toNat_natCast u)⟩
      · rw [if_neg (by unfold ownB; simpa using how)]
        refine ⟨⟨u, hu, by rw [Int.toNat_natCast]; exact hIu⟩, cntF_none ?_⟩
        rw [← e1]
        rcases hw with hh | hh
        · exact absurd hh how
        · exact hh
    have hna : (v : Int) ∉ Q := fun hm => by rw [(h.mem v hvn).1 hm] at ho; cases ho
    have hsv : attrB zss O who I G v = true := (attr_fix hz.inG hvn).2 (hq.mono fun x hx hh => by
      obtain ⟨y, rfl, hy⟩ := hz.inG v hvn x hx
      rw [Int.toNat_natCast] at hh ⊢
      rcases hh with hh | hh
      · exact hPs y hy hh
      · rw [hh]; exact hus)
    refine ⟨h.verts.snoc hvn hna, fun x hx => ?_, fun x hx => ?_, fun x hx hIx hox => ?_, fun x hx hox => ?_⟩
    · rw [take_snoc hj, hv]
      by_cases e : x = v
      · subst e
        rw [if_pos rfl]
        exact ⟨fun _ => .inr ⟨by simp, hq⟩, fun _ => rfl⟩
      · have e' : ((x : Int) = v) ↔ False := ⟨fun h => e (Int.natCast_inj.1 h), False.elim⟩
        rw [if_neg e, h.outs x hx]
        simp only [List.mem_append, List.mem_singleton, e', or_false]
    · by_cases e : x = v
      · subst e; simp
      · have e' : ((x : Int) = v) ↔ False := ⟨fun h => e (Int.natCast_inj.1 h), False.elim⟩
        rw [if_neg e, ← h.mem x hx]
        simp only [List.mem_append, List.mem_singleton, e', or_false]
    · by_cases e : x = v
      · subst e; rw [if_pos rfl] at hox; cases hox
      · have e' : ((x : Int) = v) ↔ False := ⟨fun h => e (Int.natCast_inj.1 h), False.elim⟩
        rw [if_neg e] at hox ⊢
        rw [h.lefts x hx hIx hox, take_snoc hj, hv]
        simp only [List.mem_append, List.mem_singleton, e', or_false]
    · by_cases e : x = v
      · subst e; exact hsv
      · rw [if_neg e] at hox; exact h.sound x hx hox

/-- When all of the queue have had their turn, it is the attractor. -/
theorem QuP.done (hz : RowsP zss) (h : QuP zss O who I G (fun x => (x : Int) ∈ Q) Q out left) : ∀ v, v < zss.length → out v = attrB zss O who I G v := by
  have hfix : ∀ v, v < zss.length → (out v = true ↔ QueP zss O who I G (fun x => out x = true) v) := fun v hv => by
    rw [h.outs v hv]
    exact QueP.congr fun x hx => by
      obtain ⟨y, rfl, hy⟩ := hz.inG v hv x hx
      rw [Int.toNat_natCast]; exact h.mem y hy
  have hall : ∀ k v, v < zss.length → 0 ≤ rkK zss O who I G k v → out v = true := fun k => by
    induction k with
    | zero =>
      intro v hv hr
      rw [rkK] at hr
      split at hr
      · next hc => exact (hfix v hv).2 ⟨hc.1, .inl hc.2⟩
      · omega
    | succ k ih =>
      intro v hv hr
      refine (hfix v hv).2 (((rkK_que k v).1 hr).mono fun x hx hh => ?_)
      obtain ⟨y, rfl, hy⟩ := hz.inG v hv x hx
      rw [Int.toNat_natCast] at hh ⊢
      exact ih y hy hh
  intro v hv
  rw [Bool.eq_iff_iff]
  exact ⟨h.sound v hv, fun ha => hall _ v hv (attrB_iff.1 ha)⟩

end
end

end Go.Proofs.YtihaajcmephlmaaDoor
namespace Go.Proofs.YtihaajcmephlmaaDoor
open Go.RowKit

set_option maxHeartbeats 1000000 in
theorem Equal_is {a c : Option Addr} {zs ys : List Int} {r : Bool} (hr : decide (zs = ys) = r) (w : World) (ca cc : Nat) (ha : IntsAt w a zs) (hc : IntsAt w c ys) :
    Calls Tryd.prog 90 #[.slice a zs.length ca, .slice c ys.length cc] w fun e w' => e = .returned (.bool r) ∧ ∃ q, w' = w.drewN q := by
  have hlen := ha.len
  have hlen2 := hc.len
  have HA := Lib.hid ha
  have HC := Lib.hid hc
  have HR := Lib.hid hr
  clear ha hc hr
  by_cases hl : zs.length = ys.length
  · have hne : ((zs.length : Int) != (ys.length : Int)) = false := by simp [hl]
    have h1 : zs.length ≤ ys.length := by omega
    have h2 : ys.length ≤ zs.length := by omega
    have HL := Lib.hid hl
    clear hl
    go_enter Tryd.func90, Tryd.ntmps90
    go_wp2
    go_loopw [13] (fun i wr => ∃ k : Nat, k ≤ zs.length ∧ i = .int .i64 k ∧ Hid (∃ q, wr = w.drewN q) ∧ Hid (∀ j, j < k → nth zs j = nth ys j)) (fun i _ => zs.length - (intOf i).toNat)
    case atStart => exact ⟨0, Nat.zero_le _, rfl, ⟨0, rfl⟩, fun j hj => absurd hj (Nat.not_lt_zero _)⟩
    case round =>
      obtain ⟨k, hk, rfl, HW, HJ⟩ := hrel
      by_cases hlt : k < zs.length
      · obtain ⟨b, off, e1, g1⟩ := (HA.out.same HW.out).cell (by omega)
        obtain ⟨b2, off2, e2, g2⟩ := (HC.out.same HW.out).cell (by omega)
        subst e1
        subst e2
        have hck := g1 k hlt
        have hck2 := g2 k (by omega)
        clear g1 g2
        have hi1 : (k : Int) < zs.length := by omega
        have hi2 : (k : Int) < ys.length := by omega
        by_cases he : nth zs k = nth ys k
        · have hn : (nth zs k != nth ys k) = false := by simp [he]
          have HJ' : Hid (∀ j, j < k + 1 → nth zs j = nth ys j) := fun j hj => by
            by_cases hj' : j < k
            · exact HJ.out j hj'
            · obtain rfl : j = k := by omega
              exact he
          clear he
          go_wp2
          go_quiet (fail)
          go_wp2
          go_roundw
          case rel => exact ⟨k + 1, by omega, by go_num, drewn HW.out, HJ'⟩
          case measure => simp [intOf]; omega
        · have hn : (nth zs k != nth ys k) = true := by simp [he]
          have HE : Hid (r = false) := by
            rw [← HR.out]; exact decide_eq_false fun h => he (by rw [h])
          clear he
          go_wp2
          go_quiet (fail)
          go_wp2
          go_ret
          exact ⟨ret_bool HE.out.symm, drewn HW.out⟩
      · have HE : Hid (r = true) := by
          rw [← HR.out]
          refine decide_eq_true (List.ext_getElem HL.out fun i h1 h2 => ?_)
          have := HJ.out i (by omega)
          rwa [nth_eq h1, nth_eq h2] at this
        go_wp2
        go_ret
        exact ⟨ret_bool HE.out.symm, HW.out⟩
  · have hne : ((zs.length : Int) != (ys.length : Int)) = true := by simp; omega
    have HE : Hid (r = false) := by
      rw [← HR.out]; exact decide_eq_false fun h => hl (by rw [h])
    clear hl
    go_enter Tryd.func90, Tryd.ntmps90
    go_wp2
    go_ret
    exact ⟨ret_bool HE.out.symm, 0, rfl⟩

end Go.Proofs.YtihaajcmephlmaaDoor
