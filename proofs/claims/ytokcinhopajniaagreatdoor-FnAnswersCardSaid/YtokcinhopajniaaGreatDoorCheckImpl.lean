/-
  Contracts of chapter 6: the program's checkWins, WinsBy, CleanIn, BadLoops.
-/
import Derived.Test.YtokcinhopajniaaGreatDoorClosImpl
import Derived.Test.YtokcinhopajniaaGreatDoorLostImpl
import Derived.Test.YtokcinhopajniaaGreatDoorErrs
import Derived.Test.YtokcinhopajniaaGreatDoorErrsAs
namespace Go.Proofs.YtokcinhopajniaaGreatDoor
open Go.RowKit

/-- The three sentinels, each a pointer of its own. -/
structure ErrsW (w : World) (ai al ao : Addr) : Prop where
  c : ErrsC w ai al
  o : w.cell? ⟨0, 0, none⟩ = some (.iface 245 (.pointer (some ao)))
  il : ai ≠ al
  io : ai ≠ ao
  lo : al ≠ ao
  ri : ∃ c t, w.heap[ai.block]? = some (.cells c t (0, 0))
  rl : ∃ c t, w.heap[al.block]? = some (.cells c t (0, 0))
  ro : ∃ c t, w.heap[ao.block]? = some (.cells c t (0, 0))
theorem heap_below {w w' : World} {b : Nat} {x : Obj} (hb : Below w.heap.size w w') (h : w.heap[b]? = some x) : w'.heap[b]? = some x := by
  rw [hb.block b (Array.getElem?_eq_some_iff.1 h).1]; exact h
theorem ErrsW.below {w w' : World} {ai al ao : Addr} (h : ErrsW w ai al ao) (hb : Below w.heap.size w w') : ErrsW w' ai al ao := by
  obtain ⟨c1, t1, h1⟩ := h.ri
  obtain ⟨c2, t2, h2⟩ := h.rl
  obtain ⟨c3, t3, h3⟩ := h.ro
  exact ⟨h.c.below hb, Below.cell_some (B := 0) hb rfl h.o, h.il, h.io, h.lo, ⟨c1, t1, heap_below hb h1⟩, ⟨c2, t2, heap_below hb h2⟩, ⟨c3, t3, heap_below hb h3⟩⟩
def ErrW (w : World) : Prop := ∃ ai al ao, ErrsW w ai al ao
theorem ErrW.below {w w' : World} (h : ErrW w) (hb : Below w.heap.size w w') : ErrW w' := by
  obtain ⟨ai, al, ao, h⟩ := h
  exact ⟨ai, al, ao, h.below hb⟩
theorem ErrW.c {w : World} (h : ErrW w) : ErrC w := by
  obtain ⟨ai, al, ao, h⟩ := h
  exact ⟨ai, al, h.c⟩
def ErrB (w : World) : Prop := ErrW w ∧ HandleAt w
theorem ErrB.below {w w' : World} (h : ErrB w) (hb : Below w.heap.size w w') : ErrB w' := ⟨h.1.below hb, Below.cell_some (B := 0) hb rfl h.2⟩

/-- What checkWins hands back. -/
def EndsW (w' : World) (B : Nat) (ai al ao : Addr) (rt cl : Bool) (L : List Int) (v : Value) : Prop :=
  (rt = false ∧ v = .iface 245 (.pointer (some ai))) ∨
  (rt = true ∧ 0 < L.length ∧ ∃ (g : Nat) (a : Option Addr) (c : Nat), v = .iface 77 (.pointer (some ⟨g, 0, none⟩)) ∧ w'.cell? ⟨g, 0, none⟩ = some (.iface 245 (.pointer (some ao))) ∧ w'.cell? ⟨g, 1, none⟩ = some (.slice a L.length c) ∧ OwnInts w' B w'.heap.size (.slice a L.length c) L) ∨
  (rt = true ∧ L.length = 0 ∧ cl = true ∧ v = .nilIface) ∨
  (rt = true ∧ L.length = 0 ∧ cl = false ∧ ∃ g, v = .iface 77 (.pointer (some ⟨g, 0, none⟩)) ∧ w'.cell? ⟨g, 0, none⟩ = some (.iface 245 (.pointer (some al))))

set_option maxHeartbeats 16000000 in
set_option maxRecDepth 100000 in
theorem checkWins_is {w : World} {ai al ao : Addr} (hE : ErrsW w ai al ao) {v : Value} {O P S Q L : List Int} {zss : List (List Int)} {who : Int} {aS aQ : Option Addr} {rt cl : Bool} (cS cQ : Nat) (hrt : rightB O zss P who S Q = rt) (hcl : closB O zss who S Q = cl) (hL : badL O zss P who S Q = L) (h : GameAt w v O zss P) (hS : IntsAt w aS S) (hQ : IntsAt w aQ Q) :
    Calls Tryz.prog 44 #[v, .int .i64 who, .slice aS S.length cS, .slice aQ Q.length cQ] w fun e w' => ∃ x, e = .returned x ∧ EndsW w' w.heap.size ai al ao rt cl L x ∧ Below w.heap.size w w' := by
  have HE := Lib.hid hE
  have HGm := Lib.hid h
  have HSi := Lib.hid hS
  have HQi := Lib.hid hQ
  obtain ⟨aw, an, ap, cw, cn, cp, A, C, rfl, h1, h2, h3⟩ := h
  obtain ⟨w1, hw1⟩ : ∃ y, y = w.alloc (.cells #[.slice aw O.length cw, .slice an zss.length cn, .slice ap P.length cp] 32) := ⟨_, rfl⟩
  have HW1 := Lib.hid hw1
  have B1 : Hid (Below w.heap.size w w1) := by rw [hw1]; exact below1 _ _
  have T1 : Hid (Box3 w1 w.heap.size 32 (.slice aw O.length cw) (.slice an zss.length cn) (.slice ap P.length cp)) := by rw [hw1]; exact Box3.new _ _ _ _ _
  have c0 := T1.out.c0
  have c1 := T1.out.c1
  have c2 := T1.out.c2
  rw [hw1] at c0 c1 c2
  obtain ⟨b0, hb0⟩ : ∃ b, parityB O zss P = b := ⟨_, rfl⟩
  have HC0 := Lib.hid (ParityOk_is hb0 (HGm.out.below B1.out))
  clear hw1 h1 h2 h3 hS hQ hE
  cases b0 with
  | false =>
    have HRT : Hid (rt = false) := by rw [← hrt]; unfold rightB; rw [hb0]; rfl
    clear hrt hcl hL hb0
    go_enter Tryz.func44, Tryz.ntmps44
    go_wp2_with fail
    rw [← HW1.out]
    refine HC0.out.mono ?_
    rintro e w2 ⟨rfl, hb⟩
    have B2 := Lib.hid (B1.out.trans (hb.mono B1.out.size))
    have e0 := (HE.out.below B2.out).c.i
    clear hb HC0 c0 c1 c2
    go_wp2
    go_ret
    exact ⟨_, rfl, .inl ⟨HRT.out, rfl⟩, B2.out⟩
  | true =>
    have hPl := (parityB_iff.1 hb0).2.1
    obtain ⟨ok, hok⟩ : ∃ b, closeOk O zss who S Q = b := ⟨_, rfl⟩
    have hro : rt = ok := by rw [← hrt, ← hok]; unfold rightB closeOk; rw [hb0, hPl]; rfl
    have HRT := Lib.hid hro
    have HCC : Hid (∀ W, Below w.heap.size w W → Calls Tryz.prog 51 #[.agg #[.slice aw O.length cw, .slice an zss.length cn], .int .i64 who, .slice aS S.length cS, .slice aQ Q.length cQ] W fun e w' => ∃ v, e = .returned v ∧ EndsC w' W.heap.size ai al ok cl v ∧ Below W.heap.size W w') := fun W hb => checkClosed_is (HE.out.below hb).c cS cQ hok hcl (HGm.out.below hb).arenaC (HSi.out.below hb) (HQi.out.below hb)
    have HLO : Hid (ok = true → ∀ W, Below w.heap.size w W → Calls Tryz.prog 86 #[.agg #[.slice aw O.length cw, .slice an zss.length cn, .slice ap P.length cp], .int .i64 who, .slice aS S.length cS, .slice aQ Q.length cQ] W (GivesInts W L)) := fun ho W hb => lostLoops_is cS cQ (by rw [hrt, hro]; exact ho) hL (HGm.out.below hb) (HSi.out.below hb) (HQi.out.below hb)
    obtain ⟨ci, ti, hri⟩ := HE.out.ri
    obtain ⟨cj, tj, hrl⟩ := HE.out.rl
    have HRI := Lib.hid hri
    have HRL := Lib.hid hrl
    clear hrt hcl hL hb0 hPl hok hro hri hrl
    go_enter Tryz.func44, Tryz.ntmps44
    go_wp2_with fail
    rw [← HW1.out]
    refine HC0.out.mono ?_
    rintro e w2 ⟨rfl, hb⟩
    have B2 := Lib.hid (B1.out.trans (hb.mono B1.out.size))
    have T2 := Lib.hid (T1.out.below hb)
    clear hb HC0 c0 c1 c2 T1
    have c0 := T2.out.c0
    have c1 := T2.out.c1
    have c2 := T2.out.c2
    go_wp2_with fail
    refine (HCC.out w2 B2.out).mono ?_
    rintro e w3 ⟨x, rfl, hx, hb⟩
    have B3 := Lib.hid (B2.out.trans (hb.mono B2.out.size))
    have T3 := Lib.hid (T2.out.below hb)
    have e0 := (HE.out.below B3.out).c.i
    clear hb HCC c0 c1 c2 T2
    rcases hx with ⟨h1, rfl⟩ | ⟨h1, h2, rfl⟩ | ⟨h1, h2, g, hg, rfl, hgc⟩
    · have HR2 : Hid (rt = false) := HRT.out.trans h1
      clear h1
      go_wp2_with fail
      refine (is_same ai _).mono ?_
      rintro e w4 ⟨rfl, rfl⟩
      go_wp2
      go_ret
      exact ⟨_, rfl, .inl ⟨HR2.out, rfl⟩, B3.out⟩
    · have HR2 : Hid (rt = true) := HRT.out.trans h1
      have HCL := Lib.hid h2
      have HLo := Lib.hid (HLO.out h1 w3 B3.out)
      clear h1 h2
      have c0 := T3.out.c0
      have c1 := T3.out.c1
      have c2 := T3.out.c2
      go_wp2_with fail
      refine (is_nil ai _).mono ?_
      rintro e w4 ⟨rfl, rfl⟩
      go_wp2_with fail
      refine HLo.out.mono ?_
      rintro e w5 ⟨x, rfl, hx, hb⟩
      obtain ⟨xa, xc, hxs⟩ := hx.shape2
      subst hxs
      have hsz := hb.size
      have B5 := Lib.hid (B3.out.trans (hb.mono B3.out.size))
      have l0 := (HE.out.below B5.out).o
      have X5 := Lib.hid (hx.base (B' := w.heap.size) B3.out.size)
      clear hx hb c0 c1 c2 e0
      by_cases hl : L.length = 0
      · have hl1 : ¬ (0 : Int) < (L.length : Int) := by omega
        have hl2 : decide ((0 : Int) < (L.length : Int)) = false := by simpa using hl1
        have hl3 : decide (0 < L.length) = false := decide_eq_false (by omega)
        have HLZ := Lib.hid hl
        clear hl
        go_wp2
        go_ret
        exact ⟨_, rfl, .inr (.inr (.inl ⟨HR2.out, HLZ.out, HCL.out, rfl⟩)), B5.out⟩
      · have hl1 : (0 : Int) < (L.length : Int) := by omega
        have hl2 : decide ((0 : Int) < (L.length : Int)) = true := by simpa using hl1
        have hl3 : decide (0 < L.length) = true := decide_eq_true (by omega)
        have HLP : Hid (0 < L.length) := by unfold Hid; omega
        have X6 := Lib.hid ((X5.out.below (below1 w5 (.cells #[.iface 245 (.pointer (some ao)), .slice xa L.length xc] 82))).retop)
        clear hl
        go_wp2
        go_ret
        exact ⟨_, rfl, .inr (.inl ⟨HR2.out, HLP.out, w5.heap.size, xa, xc, rfl, by simp, by simp, X6.out⟩), B5.out.alloc B5.out.size _⟩
    · have HR2 : Hid (rt = true) := HRT.out.trans h1
      have HCL := Lib.hid h2
      have HLo := Lib.hid (HLO.out h1 w3 B3.out)
      have HGC := Lib.hid hgc
      have HIS := Lib.hid (is_viol_other g ai al cj ci tj ti w3 hgc (Ne.symm HE.out.il) (heap_below B3.out HRL.out) (heap_below B3.out HRI.out))
      clear h1 h2 hg hgc
      have c0 := T3.out.c0
      have c1 := T3.out.c1
      have c2 := T3.out.c2
      go_wp2_with fail
      refine HIS.out.mono ?_
      rintro e w4 ⟨rfl, rfl⟩
      go_wp2_with fail
      refine HLo.out.mono ?_
      rintro e w5 ⟨x, rfl, hx, hb⟩
      obtain ⟨xa, xc, hxs⟩ := hx.shape2
      subst hxs
      have hsz := hb.size
      have B5 := Lib.hid (B3.out.trans (hb.mono B3.out.size))
      have l0 := (HE.out.below B5.out).o
      have HGC5 := Lib.hid (Below.cell_some (B := 0) hb rfl HGC.out)
      have X5 := Lib.hid (hx.base (B' := w.heap.size) B3.out.size)
      clear hx hb c0 c1 c2 e0
      by_cases hl : L.length = 0
      · have hl1 : ¬ (0 : Int) < (L.length : Int) := by omega
        have hl2 : decide ((0 : Int) < (L.length : Int)) = false := by simpa using hl1
        have hl3 : decide (0 < L.length) = false := decide_eq_false (by omega)
        have HLZ := Lib.hid hl
        clear hl
        go_wp2
        go_ret
        exact ⟨_, rfl, .inr (.inr (.inr ⟨HR2.out, HLZ.out, HCL.out, g, rfl, HGC5.out⟩)), B5.out⟩
      · have hl1 : (0 : Int) < (L.length : Int) := by omega
        have hl2 : decide ((0 : Int) < (L.length : Int)) = true := by simpa using hl1
        have hl3 : decide (0 < L.length) = true := decide_eq_true (by omega)
        have HLP : Hid (0 < L.length) := by unfold Hid; omega
        have X6 := Lib.hid ((X5.out.below (below1 w5 (.cells #[.iface 245 (.pointer (some ao)), .slice xa L.length xc] 82))).retop)
        clear hl
        go_wp2
        go_ret
        exact ⟨_, rfl, .inr (.inl ⟨HR2.out, HLP.out, w5.heap.size, xa, xc, rfl, by simp, by simp, X6.out⟩), B5.out.alloc B5.out.size _⟩

theorem clean_of {O P S Q L : List Int} {zss : List (List Int)} {who : Int} {rt : Bool} (hrt : rightB O zss P who S Q = rt) (hL : badL O zss P who S Q = L) : cleanB O zss P who S Q = (rt && decide (L.length = 0)) := by
  unfold cleanB; rw [hrt, hL]
theorem wins_of {O P S Q L : List Int} {zss : List (List Int)} {who : Int} {rt cl : Bool} (hrt : rightB O zss P who S Q = rt) (hcl : closB O zss who S Q = cl) (hL : badL O zss P who S Q = L) : winsB O zss P who S Q = ((rt && decide (L.length = 0)) && cl) := by
  unfold winsB; rw [clean_of hrt hL, hcl]

set_option maxHeartbeats 16000000 in
set_option maxRecDepth 100000 in
theorem WinsBy_is {w : World} (hE : ErrW w) {v : Value} {O P S Q : List Int} {zss : List (List Int)} {who : Int} {aS aQ : Option Addr} {r : Bool} (cS cQ : Nat) (hr : winsB O zss P who S Q = r) (h : GameAt w v O zss P) (hS : IntsAt w aS S) (hQ : IntsAt w aQ Q) :
    Calls Tryz.prog 12 #[v, .int .i64 who, .slice aS S.length cS, .slice aQ Q.length cQ] w fun e w' => e = .returned (.bool r) ∧ Below w.heap.size w w' := by
  obtain ⟨ai, al, ao, hE⟩ := hE
  have HGm := Lib.hid h
  obtain ⟨rt, hrt⟩ : ∃ b, rightB O zss P who S Q = b := ⟨_, rfl⟩
  obtain ⟨cl, hcl⟩ : ∃ b, closB O zss who S Q = b := ⟨_, rfl⟩
  obtain ⟨L, hL⟩ : ∃ b, badL O zss P who S Q = b := ⟨_, rfl⟩
  rw [wins_of hrt hcl hL] at hr
  have HR := Lib.hid hr
  obtain ⟨aw, an, ap, cw, cn, cp, A, C, rfl, h1, h2, h3⟩ := h
  obtain ⟨w1, hw1⟩ : ∃ y, y = w.alloc (.cells #[.slice aw O.length cw, .slice an zss.length cn, .slice ap P.length cp] 32) := ⟨_, rfl⟩
  have HW1 := Lib.hid hw1
  have B1 : Hid (Below w.heap.size w w1) := by rw [hw1]; exact below1 _ _
  have T1 : Hid (Box3 w1 w.heap.size 32 (.slice aw O.length cw) (.slice an zss.length cn) (.slice ap P.length cp)) := by rw [hw1]; exact Box3.new _ _ _ _ _
  have c0 := T1.out.c0
  have c1 := T1.out.c1
  have c2 := T1.out.c2
  rw [hw1] at c0 c1 c2
  have HC := Lib.hid (checkWins_is (hE.below B1.out) cS cQ hrt hcl hL (HGm.out.below B1.out) (hS.below B1.out) (hQ.below B1.out))
  clear hw1 h1 h2 h3 hS hQ hE hrt hcl hL hr
  go_enter Tryz.func12, Tryz.ntmps12
  go_wp2_with fail
  rw [← HW1.out]
  refine HC.out.mono ?_
  rintro e w2 ⟨x, rfl, hx, hb⟩
  have B2 := Lib.hid (B1.out.trans (hb.mono B1.out.size))
  clear hb HC c0 c1 c2
  rcases hx with ⟨k1, rfl⟩ | ⟨k1, k2, g, a, c, rfl, -, -, -⟩ | ⟨k1, k2, k3, rfl⟩ | ⟨k1, k2, k3, g, rfl, -⟩
  · have HRR : Hid (r = false) := by rw [← HR.out, k1]; rfl
    clear k1
    go_wp2
    go_ret
    exact ⟨ret_bool HRR.out.symm, B2.out⟩
  · have HRR : Hid (r = false) := by rw [← HR.out, k1, decide_eq_false (show ¬ L.length = 0 by omega)]; rfl
    clear k1 k2
    go_wp2
    go_ret
    exact ⟨ret_bool HRR.out.symm, B2.out⟩
  · have HRR : Hid (r = true) := by rw [← HR.out, k1, k3, decide_eq_true k2]; rfl
    clear k1 k2 k3
    go_wp2
    go_ret
    exact ⟨ret_bool HRR.out.symm, B2.out⟩
  · have HRR : Hid (r = false) := by rw [← HR.out, k3, Bool.and_false]; rfl
    clear k1 k2 k3
    go_wp2
    go_ret
    exact ⟨ret_bool HRR.out.symm, B2.out⟩

end Go.Proofs.YtokcinhopajniaaGreatDoor
