/-
  Contracts of the laws' own helpers for worths: toWorth, szWorth, eqWorth, markWorth, heldWorth.
-/
import Derived.Test.YtihaajcmephlmaaPo00
import Derived.Test.YtihaajcmephlmaaPo09
namespace Go.Proofs.Ytihaajcmephlmaa
section
open Go.RowKit

/-- A value reads as a worth. -/
def WorthAt (w : World) (v : Value) (h : Int) (V : List Int) (y : Int) : Prop := ∃ a c, v = .agg #[.int .i64 h, .slice a V.length c, .int .i64 y] ∧ IntsAt w a V
theorem WorthAt.below {w w' : World} {v : Value} {h : Int} {V : List Int} {y : Int} (hA : WorthAt w v h V y) (hb : Below w.heap.size w w') : WorthAt w' v h V y := by
  obtain ⟨a, c, hv, hi⟩ := hA
  exact ⟨a, c, hv, hi.below hb⟩
/-- A worth in memory of one's own. -/
def OwnWorth (w : World) (B D : Nat) (v : Value) (h : Int) (V : List Int) (y : Int) : Prop := ∃ u, v = .agg #[.int .i64 h, u, .int .i64 y] ∧ OwnInts w B D u V
theorem OwnWorth.at {w : World} {B D : Nat} {v : Value} {h : Int} {V : List Int} {y : Int} (hA : OwnWorth w B D v h V y) : WorthAt w v h V y := by
  obtain ⟨u, rfl, hu⟩ := hA
  obtain ⟨a, c, rfl, hi, _⟩ := hu.shape
  exact ⟨a, c, rfl, hi⟩
theorem OwnWorth.below {w w' : World} {B D : Nat} {v : Value} {h : Int} {V : List Int} {y : Int} (hA : OwnWorth w B D v h V y) (hb : Below w.heap.size w w') : OwnWorth w' B D v h V y := by
  obtain ⟨u, hv, hu⟩ := hA
  exact ⟨u, hv, hu.below hb⟩
theorem OwnWorth.only {w w' : World} {S : Nat → Prop} {B D : Nat} {v : Value} {h : Int} {V : List Int} {y : Int} (hA : OwnWorth w B D v h V y) (hk : Only S w w') (hs : ∀ g, B ≤ g → g < D → ¬ S g) : OwnWorth w' B D v h V y := by
  obtain ⟨u, hv, hu⟩ := hA
  exact ⟨u, hv, hu.only hk (fun g hg => hs g (hu.own.lt g hg).1 (hu.top g hg))⟩
theorem OwnWorth.shape {w : World} {B D : Nat} {v : Value} {h : Int} {V : List Int} {y : Int} (hA : OwnWorth w B D v h V y) : ∃ a c, v = .agg #[.int .i64 h, .slice a V.length c, .int .i64 y] := by
  obtain ⟨a, c, hv, _⟩ := hA.at
  exact ⟨a, c, hv⟩
/-- The call gives a worth in memory of one's own. -/
def GivesWorth (w : World) (h : Int) (V : List Int) (y : Int) (e : Ending) (w' : World) : Prop :=
  ∃ v, e = .returned v ∧ OwnWorth w' w.heap.size w'.heap.size v h V y ∧ Below w.heap.size w w'
/-- How many places a worth takes. -/
def sizeWorth (_h : Int) (V : List Int) (_y : Int) : Nat := V.length

set_option maxHeartbeats 4000000 in
theorem szWorth_at {w : World} {v : Value} {h : Int} {V : List Int} {y left r : Int} (hr : leftOf left (sizeWorth h V y) = r) (hA : WorthAt w v h V y) (h0 : 0 ≤ left) (h1 : left ≤ 1048576) :
    Calls Try.prog 30 #[v, .int .i64 left] w fun e w' => e = .returned (.int .i64 r) ∧ Below w.heap.size w w' := by
  obtain ⟨a, c, rfl, hi⟩ := hA
  have hl := hi.len
  unfold sizeWorth at hr
  have B1 := Lib.hid (below1 w (.cells #[.int .i64 h, .slice a V.length c, .int .i64 y] 56))
  have HZ := Lib.hid (fun W => szInt64S_any a V.length c left W hl (by omega) (by omega))
  rw [hr] at HZ
  have HR := Lib.hid hr
  clear hi hr
  go_enter Try.func30, Try.ntmps30
  go_wp2_with fail
  refine (HZ.out _).mono ?_
  rintro e w2 ⟨rfl, rfl⟩
  by_cases hs : r < 0
  · have HE : Hid (r = -1) := by
      have := HR.out
      unfold leftOf at this
      simp only [Hid]
      split at this <;> omega
    go_wp2
    go_ret
    exact ⟨ret_i64 HE.out.symm, B1.out⟩
  · go_wp2
    go_ret
    exact ⟨rfl, B1.out⟩

set_option maxHeartbeats 4000000 in
theorem eqWorth_at {w : World} {v v' : Value} {h : Int} {V : List Int} {y : Int} (hA : WorthAt w v h V y) (hB : WorthAt w v' h V y) :
    Calls Try.prog 24 #[v, v'] w fun e w' => e = .returned (.bool true) ∧ Below w.heap.size w w' := by
  obtain ⟨a, c, rfl, h1⟩ := hA
  obtain ⟨b, d, rfl, g1⟩ := hB
  obtain ⟨w0, hw0⟩ : ∃ q, q = w.alloc (.cells #[.int .i64 h, .slice a V.length c, .int .i64 y] 35) := ⟨_, rfl⟩
  have hs0 : w0.heap.size = w.heap.size + 1 := by rw [hw0]; simp
  obtain ⟨w1, hw1⟩ : ∃ q, q = w0.alloc (.cells #[.int .i64 h, .slice b V.length d, .int .i64 y] 35) := ⟨_, rfl⟩
  have HW0 := Lib.hid hw0
  have HW1 := Lib.hid hw1
  have hb0 : Below w.heap.size w w0 := by rw [hw0]; exact below1 _ _
  have hb1 : Below w0.heap.size w0 w1 := by rw [hw1]; exact below1 _ _
  have B1 : Hid (Below w.heap.size w w1) := hb0.trans (hb1.mono (by omega))
  have Ta1 : Hid (Box3 w1 w.heap.size 35 (.int .i64 h) (.slice a V.length c) (.int .i64 y)) := Box3.below (by rw [hw0]; exact Box3.new _ _ _ _ _) hb1
  have Tb1 : Hid (Box3 w1 (w.heap.size + 1) 35 (.int .i64 h) (.slice b V.length d) (.int .i64 y)) := by rw [← hs0, hw1]; exact Box3.new _ _ _ _ _
  have HVa : Hid (IntsV w (.slice a V.length c) V) := ⟨_, _, rfl, h1⟩
  have HVb : Hid (IntsV w (.slice b V.length d) V) := ⟨_, _, rfl, g1⟩
  have hne : (h != h) = false := by simp
  have hney : (y != y) = false := by simp
  have a0 := Ta1.out.c0
  have b0 := Tb1.out.c0
  have a1 := Ta1.out.c1
  have b1 := Tb1.out.c1
  rw [hw1, hw0] at a0 b0 a1 b1
  clear hw0 hw1 hb0 hb1 hs0 h1 g1
  go_enter Try.func24, Try.ntmps24
  go_wp2_with fail
  rw [← HW0.out, ← HW1.out]
  refine (eqInts_at (HVa.out.below B1.out) (HVb.out.below B1.out)).mono ?_
  rintro e w2 ⟨rfl, hb⟩
  have B2 := Lib.hid (B1.out.trans (hb.mono B1.out.size))
  have Ta2 := Lib.hid (Ta1.out.below hb)
  have Tb2 := Lib.hid (Tb1.out.below hb)
  clear hb a0 b0 a1 b1
  have ta2 := Ta2.out.c2
  have tb2 := Tb2.out.c2
  go_wp2
  go_ret
  exact ⟨rfl, B2.out⟩

set_option maxHeartbeats 4000000 in
theorem markWorth_at {w : World} {B D : Nat} {v : Value} {h : Int} {V : List Int} {y k r : Int} (hr : k + V.length = r) (hA : OwnWorth w B D v h V y) (h0 : 0 ≤ k) (h1 : k ≤ 1073741824) (_hs : sizeWorth h V y ≤ 1048576) :
    Calls Try.prog 28 #[v, .int .i64 k] w fun e w' => e = .returned (.int .i64 r) ∧
      OwnWorth w' B D v h (marks k V.length) y ∧ Only (fun b => B ≤ b ∧ b < D) w w' := by
  obtain ⟨u, rfl, h2⟩ := hA
  obtain ⟨a, cap, rfl, hI, _⟩ := h2.shape
  obtain ⟨w1, hw1⟩ : ∃ q, q = w.alloc (.cells #[.int .i64 h, .slice a V.length cap, .int .i64 y] 35) := ⟨_, rfl⟩
  have HW1 := Lib.hid hw1
  have hb1 : Below w.heap.size w w1 := by rw [hw1]; exact below1 _ _
  have HV := Lib.hid (h2.below hb1)
  have B1 := Lib.hid hb1
  have HR := Lib.hid hr
  clear h2 hI hw1 hb1 hr
  go_enter Try.func28, Try.ntmps28
  go_wp2_with fail
  rw [← HW1.out]
  refine (markInt64S_is HV.out k h0 (by omega)).mono ?_
  rintro e w2 ⟨rfl, g1, g2⟩
  have hfin : Hid (OwnWorth w2 B D (.agg #[.int .i64 h, .slice a V.length cap, .int .i64 y]) h (marks k V.length) y) := ⟨_, rfl, g1⟩
  have hO : Hid (Only (fun b => B ≤ b ∧ b < D) w w2) := (Only.of_below B1.out).trans (g2.mono fun b hb => ⟨(HV.out.own.lt b hb).1, HV.out.top b hb⟩)
  clear g1 g2
  go_wp2
  go_ret
  exact ⟨ret_i64 HR.out, hfin.out, hO.out⟩

set_option maxHeartbeats 4000000 in
theorem heldWorth_at {w : World} {v : Value} {h : Int} {V : List Int} {y k r : Int} (hr : k + V.length = r) (hA : WorthAt w v h (marks k V.length) y) (h0 : 0 ≤ k) (h1 : k ≤ 1073741824) (hs : sizeWorth h V y ≤ 1048576) :
    Calls Try.prog 29 #[v, .int .i64 k] w fun e w' => e = .returned (.int .i64 r) ∧ Below w.heap.size w w' := by
  unfold sizeWorth at hs
  have hrn : ¬ r < 0 := by omega
  obtain ⟨a, c, rfl, hi⟩ := hA
  rw [marks_len] at *
  have B1 := Lib.hid (below1 w (.cells #[.int .i64 h, .slice a V.length c, .int .i64 y] 35))
  have HV : Hid (IntsV w (.slice a V.length c) (marks k V.length)) := ⟨a, c, by rw [marks_len], hi⟩
  have HR := Lib.hid hr
  clear hi hr
  go_enter Try.func29, Try.ntmps29
  go_wp2_with fail
  refine (heldInts_is HR.out (HV.out.below B1.out) h0 (by omega)).mono ?_
  rintro e w2 ⟨rfl, rfl⟩
  go_wp2
  go_ret
  exact ⟨rfl, B1.out⟩

set_option maxHeartbeats 4000000 in
set_option maxRecDepth 100000 in
theorem toWorth_own {w : World} {v : Value} {h : Int} {V : List Int} {y : Int} (hA : WorthAt w v h V y) :
    Calls Try.prog 32 #[v] w (GivesWorth w h V y) := by
  obtain ⟨a, c, rfl, hi⟩ := hA
  obtain ⟨w2, hw2⟩ : ∃ q, q = ((w.alloc (.cells #[.int .i64 h, .slice a V.length c, .int .i64 y] 56)).alloc (.cells #[.int .i64 0, .slice none 0 0, .int .i64 0] 35)).alloc (.cells #[.int .i64 h, .slice none 0 0, .int .i64 0] 35) := ⟨_, rfl⟩
  have HW2 := Lib.hid hw2
  have B2 : Hid (Below w.heap.size w w2) := by rw [hw2]; exact (below2 _ _ _).alloc (by simp; omega) _
  have HT2 : Hid (Box3 w2 w.heap.size 56 (.int .i64 h) (.slice a V.length c) (.int .i64 y)) := by rw [hw2]; exact ((Box3.new w _ _ _ _).alloc _).alloc _
  have HR2 : Hid (Box3 w2 (w.heap.size + 1) 35 (.int .i64 0) (.slice none 0 0) (.int .i64 0)) := by rw [hw2]; exact (Box3.new_at (by simp) _ _ _ _).alloc _
  have HU2 : Hid (Box3 w2 (w.heap.size + 1 + 1) 35 (.int .i64 h) (.slice none 0 0) (.int .i64 0)) := by rw [hw2]; exact Box3.new_at (by simp) _ _ _ _
  have HS2 : Hid (w2.heap.size = w.heap.size + 1 + 1 + 1) := by rw [hw2]; simp [Hid]
  have HV : Hid (IntsV w2 (.slice a V.length c) V) := IntsV.below ⟨_, _, rfl, hi⟩ B2.out
  clear hw2 hi
  go_enter Try.func32, Try.ntmps32
  go_wp2_with fail
  rw [← HW2.out]
  refine (toInts_at HV.out).mono ?_
  rintro e w3 ⟨u, rfl, hu, hb⟩
  obtain ⟨ua, uc, hus, _, _⟩ := hu.shape
  subst hus
  have B3 := Lib.hid (B2.out.trans (hb.mono B2.out.size))
  have T3 := Lib.hid (HT2.out.below hb)
  have R3 := Lib.hid (HR2.out.below hb)
  have U3 := Lib.hid (HU2.out.below hb)
  have P3 := Lib.hid hu
  have HS3 := Lib.hid hb.size
  clear hu hb
  have t2 := T3.out.c2
  have u1 := U3.out.c1
  have u2 := U3.out.c2
  have fu1 := U3.out.frozen 1
  have fu2 := U3.out.frozen 2
  have R5 := Lib.hid ((R3.out.other (p := ⟨w.heap.size + 1 + 1, 1, none⟩) (by show w.heap.size + 1 ≠ w.heap.size + 1 + 1; omega) (.slice ua V.length uc)).other (p := ⟨w.heap.size + 1 + 1, 2, none⟩) (by show w.heap.size + 1 ≠ w.heap.size + 1 + 1; omega) (.int .i64 y))
  have U5 := Lib.hid ((U3.out.set1 (.slice ua V.length uc)).set2 (.int .i64 y))
  have v0 := U5.out.c0
  have v1 := U5.out.c1
  have v2 := U5.out.c2
  have r0 := R5.out.c0
  have r1 := R5.out.c1
  have r2 := R5.out.c2
  have f0 := R5.out.frozen 0
  have f1 := R5.out.frozen 1
  have f2 := R5.out.frozen 2
  go_wp2_with fail
  have R6 := Lib.hid (((R5.out.set0 (.int .i64 h)).set1 (.slice ua V.length uc)).set2 (.int .i64 y))
  have d0 := R6.out.c0
  have d1 := R6.out.c1
  have d2 := R6.out.c2
  obtain ⟨w6, hw6⟩ : ∃ q, q = ((((w3.setCell ⟨w.heap.size + 1 + 1, 1, none⟩ (.slice ua V.length uc)).setCell ⟨w.heap.size + 1 + 1, 2, none⟩ (.int .i64 y)).setCell ⟨w.heap.size + 1, 0, none⟩ (.int .i64 h)).setCell ⟨w.heap.size + 1, 1, none⟩ (.slice ua V.length uc)).setCell ⟨w.heap.size + 1, 2, none⟩ (.int .i64 y) := ⟨_, rfl⟩
  have hO6 : Only (fun b => b = w.heap.size + 1 ∨ b = w.heap.size + 1 + 1) w3 w6 := by
    rw [hw6]
    exact (((((Only.refl _ w3).setCell (p := ⟨w.heap.size + 1 + 1, 1, none⟩) (.inr rfl) _).setCell (p := ⟨w.heap.size + 1 + 1, 2, none⟩) (.inr rfl) _).setCell (p := ⟨w.heap.size + 1, 0, none⟩) (.inl rfl) _).setCell (p := ⟨w.heap.size + 1, 1, none⟩) (.inl rfl) _).setCell (p := ⟨w.heap.size + 1, 2, none⟩) (.inl rfl) _
  have hfin : Hid (OwnWorth w6 w.heap.size w6.heap.size (.agg #[.int .i64 h, .slice ua V.length uc, .int .i64 y]) h V y ∧ Below w.heap.size w w6) := by
    have e2 := HS2.out
    refine ⟨⟨_, rfl, ?_⟩, B3.out.trans (hO6.below (B := w.heap.size) B3.out.size (fun b hb => by omega))⟩
    have hq := P3.out.only hO6 (fun g hg hb => by have := (P3.out.own.lt g hg).1; omega)
    exact (hq.base (by omega)).retop
  rw [← hw6] at d0 d1 d2 ⊢
  clear hw6 hO6
  exact bodyPost_ret (v := .agg #[.int .i64 h, .slice ua V.length uc, .int .i64 y]) (by simp [results, Try.results32, go_sem, d0, d1, d2]) rfl ⟨_, rfl, hfin.out⟩
end
end Go.Proofs.Ytihaajcmephlmaa
