/-
  Contract of chapter 6: the model's ClosedIn.
-/
import Derived.Test.YtokcinhopajniaaDoorCheckMath
import Derived.Test.YtokcinhopajniaaDoorPlanSpec
import Derived.Test.YtokcinhopajniaaDoorLoops
import Derived.Test.YtokcinhopajniaaDoorFixedSpec
import Derived.Deep.AppendLies
import Derived.Deep.RegionHeld3
namespace Go.Proofs.YtokcinhopajniaaDoor
section
open Go.RowKit

theorem marks_has {S : List Int} {u : Nat} : openS S S.length u = hasB S (u : Int) := by
  rw [Bool.eq_iff_iff, hasB_iff]; simp [openS]

/-- What closedness says of the vertex u. -/
def ClosV (O : List Int) (zss : List (List Int)) (who : Int) (S Q : List Int) (u : Nat) : Prop :=
  (nth O u = who → 0 ≤ nth Q u ∧ nth Q u ∈ S) ∧ (nth O u ≠ who → ∀ x ∈ row zss u, x ∈ S)

set_option maxHeartbeats 8000000 in
set_option maxRecDepth 100000 in
theorem specClosedIn_is {w : World} {va : Value} {O S Q : List Int} {zss : List (List Int)} {who : Int} {aS aQ : Option Addr} {r : Bool} (cS cQ : Nat) (hr : closB O zss who S Q = r) (h : ArenaAt w va O zss) (hS : IntsAt w aS S) (hQ : IntsAt w aQ Q) :
    Calls Tryd.prog 5 #[va, .int .i64 who, .slice aS S.length cS, .slice aQ Q.length cQ] w fun e w' => e = .returned (.bool r) ∧ Below w.heap.size w w' := by
  have HAt := Lib.hid h
  obtain ⟨ao, an, co, cn, A, C, rfl, h1, h2⟩ := h
  have hlO := h1.len
  have hlS := hS.len
  have hlQ := hQ.len
  have HOi := Lib.hid h1
  have HNi := Lib.hid h2
  have HSi := Lib.hid hS
  have HQi := Lib.hid hQ
  obtain ⟨w1, hw1⟩ : ∃ y, y = w.alloc (.cells #[.slice ao O.length co, .slice an zss.length cn] 28) := ⟨_, rfl⟩
  have HW1 := Lib.hid hw1
  have B1 : Hid (Below w.heap.size w w1) := by rw [hw1]; exact below1 _ _
  have T1 : Hid (Box2 w1 w.heap.size 28 (.slice ao O.length co) (.slice an zss.length cn)) := by rw [hw1]; exact Box2.new _ _ _ _
  clear hw1 h1 h2 hS hQ
  cases hp : planB O zss who Q with
  | false =>
    have HE : Hid (r = false) := by rw [← hr]; unfold closB; rw [hp]; rfl
    have HC := Lib.hid (specPlanOk_is cQ hp (HAt.out.below B1.out) (HQi.out.below B1.out))
    clear hr hp
    go_enter Tryd.func5, Tryd.ntmps5
    go_wp2_with fail
    rw [← HW1.out]
    refine HC.out.mono ?_
    rintro e w2 ⟨rfl, hb⟩
    have B2 := Lib.hid (B1.out.trans (hb.mono B1.out.size))
    clear hb HC
    go_wp2
    go_ret
    exact ⟨ret_bool HE.out.symm, B2.out⟩
  | true =>
    have HC := Lib.hid (specPlanOk_is cQ hp (HAt.out.below B1.out) (HQi.out.below B1.out))
    cases hs : setB O.length S with
    | false =>
      have HE : Hid (r = false) := by rw [← hr]; unfold closB; rw [hp, hs]; rfl
      have HT := Lib.hid (fun W (hb : Below w.heap.size w W) => l1Set_is hs cS W (HSi.out.below hb) (by omega) (by omega))
      clear hr hp hs
      go_enter Tryd.func5, Tryd.ntmps5
      go_wp2_with fail
      rw [← HW1.out]
      refine HC.out.mono ?_
      rintro e w2 ⟨rfl, hb⟩
      have B2 := Lib.hid (B1.out.trans (hb.mono B1.out.size))
      have T2 := Lib.hid (T1.out.below hb)
      have t0 := T2.out.cell0
      clear hb HC
      go_wp2_with fail
      refine (HT.out _ B2.out).mono ?_
      rintro e w3 ⟨rfl, hq⟩
      have B3 := Lib.hid (below_same B2.out hq)
      clear hq t0
      go_wp2
      go_ret
      exact ⟨ret_bool HE.out.symm, B3.out⟩
    | true =>
      have HT := Lib.hid (fun W (hb : Below w.heap.size w W) => l1Set_is hs cS W (HSi.out.below hb) (by omega) (by omega))
      have hpp := planB_iff.1 hp
      have HAP := Lib.hid hpp.1
      have HPP := Lib.hid hpp.2.2
      have hO256 : O.length ≤ 256 := hpp.1.2.1
      have HZO : Hid (zss.length = O.length) := hpp.1.2.2.1
      have HQL : Hid (Q.length = O.length) := hpp.2.2.1
      have HSN : Hid (∀ x ∈ S, ∃ u : Nat, x = (u : Int) ∧ u < O.length) := fun x hx => by
        obtain ⟨i, hi, rfl⟩ := mem_nth.1 hx
        obtain ⟨h0, h1, _⟩ := setB_bounds hs hi
        exact ⟨(nth S i).toNat, by omega, by omega⟩
      have HRY : Hid ((∀ i, i < S.length → ClosV O zss who S Q (nth S i).toNat) → r = true) := fun h => by
        rw [← hr, closB_iff]
        refine ⟨hp, hs, fun v hv => ?_⟩
        obtain ⟨i, hi, e⟩ := mem_nth.1 hv
        have := h i hi
        rw [e, Int.toNat_natCast] at this
        exact this
      have HRN : Hid (∀ i, i < S.length → ¬ ClosV O zss who S Q (nth S i).toNat → r = false) := fun i hi h => by
        rw [← hr]
        cases hc : closB O zss who S Q with
        | false => rfl
        | true =>
          refine absurd ?_ h
          have h3 := (closB_iff.1 hc).2.2
          obtain ⟨u, hu, _⟩ := HSN.out _ (nth_mem hi)
          have h4 := h3 u (by rw [← hu]; exact nth_mem hi)
          rw [hu, Int.toNat_natCast]
          exact h4
      have HMk := Lib.hid (fun W (hb : Below w.heap.size w W) => l1Marks_is (w := W) cS O.length (HSi.out.below hb) (by omega) HSN.out)
      clear hr hp hs hpp
      go_enter Tryd.func5, Tryd.ntmps5
      go_wp2_with fail
      rw [← HW1.out]
      refine HC.out.mono ?_
      rintro e w2 ⟨rfl, hb⟩
      have B2 := Lib.hid (B1.out.trans (hb.mono B1.out.size))
      have T2 := Lib.hid (T1.out.below hb)
      have t0 := T2.out.cell0
      clear hb HC
      go_wp2_with fail
      refine (HT.out _ B2.out).mono ?_
      rintro e w3 ⟨rfl, hq⟩
      have B3 := Lib.hid (below_same B2.out hq)
      have T3 : Hid (Box2 w3 w.heap.size 28 (.slice ao O.length co) (.slice an zss.length cn)) := T2.out.below (below_same (Below.refl _ _) hq)
      clear hq t0
      have t0 := T3.out.cell0
      go_wp2_with fail
      refine (HMk.out _ B3.out).mono ?_
      rintro e w4 ⟨rfl, hM, hb⟩
      have B4 := Lib.hid (B3.out.trans (hb.mono B3.out.size))
      have T4 := Lib.hid (T3.out.below hb)
      have M4 := Lib.hid hM
      clear hb hM t0
      go_wp2
      go_loopw [10] (fun iv wr => ∃ k : Nat, k ≤ S.length ∧ iv = .int .i64 k ∧ Hid (∀ j, j < k → ClosV O zss who S Q (nth S j).toNat) ∧ Hid (Below w4.heap.size w4 wr)) (fun iv _ => S.length - (intOf iv).toNat)
      case atStart => exact ⟨0, Nat.zero_le _, rfl, fun j hj => absurd hj (Nat.not_lt_zero _), Below.refl _ _⟩
      case round =>
        obtain ⟨k, hk, rfl, HJ, HK⟩ := hrel
        have Bw := Lib.hid (B4.out.trans (HK.out.mono B4.out.size))
        by_cases hlt : k < S.length
        · have hi1 : (k : Int) < S.length := by omega
          have hk0 : (0 : Int) ≤ (k : Int) := by omega
          obtain ⟨u, hu, hun⟩ := HSN.out _ (nth_mem hlt)
          have HU := Lib.hid hu
          have hu0 : (0 : Int) ≤ (u : Int) := by omega
          have hu1 : (u : Int) < O.length := by omega
          have hu2 : (u : Int) < Q.length := by have := HQL.out; omega
          have hu3 : (u : Int) < zss.length := by have := HZO.out; omega
          have huz : u < zss.length := by omega
          have Tw := Lib.hid (T4.out.below HK.out)
          have Mw := Lib.hid (rowIs_below M4.out HK.out)
          have t0 := Tw.out.cell0
          have t1 := Tw.out.cell1
          obtain ⟨sb, so, hsa, hsc⟩ := (HSi.out.below Bw.out).cell (by omega)
          obtain ⟨ob, oo, hoa, hoc⟩ := (HOi.out.below Bw.out).cell (by omega)
          obtain ⟨qb, qo, hqa, hqc⟩ := (HQi.out.below Bw.out).cell (by omega)
          obtain ⟨nb, no, hna, hnc⟩ := (HNi.out.below Bw.out).cell (by omega)
          have s1 := hsc k hlt
          have o1 := hoc u hun
          have q1 := hqc u (by omega)
          have n1 := hnc u huz
          rw [hu] at s1
          obtain ⟨o, ho⟩ : ∃ o, o = nth O u := ⟨_, rfl⟩
          obtain ⟨q, hq⟩ : ∃ q, q = nth Q u := ⟨_, rfl⟩
          have HO := Lib.hid ho
          have HQ := Lib.hid hq
          rw [← ho] at o1
          rw [← hq] at q1
          subst hsa
          subst hoa
          subst hqa
          subst hna
          clear hsc hoc hqc hnc ho hq hu
          by_cases e1 : o = who
          · have ho1 : (o == who) = true := by simpa using e1
            by_cases e2 : q < 0
            · have HE : Hid (r = false) := HRN.out k hlt fun h => by
                rw [HU.out, Int.toNat_natCast] at h
                have := (h.1 (by rw [← HO.out]; exact e1)).1
                rw [← HQ.out] at this; omega
              clear e1
              go_wp2
              go_ret
              exact ⟨ret_bool HE.out.symm, Bw.out⟩
            · obtain ⟨m, hm⟩ : ∃ m : Nat, q = (m : Int) := ⟨q.toNat, by omega⟩
              have hmn : m < O.length := by
                have h := (plan_in HAP.out HPP.out (u := u) hun (by rw [← HQ.out]; omega)).2
                rw [← HQ.out] at h; omega
              subst hm
              have hm0 : (0 : Int) ≤ (m : Int) := by omega
              have hm1 : (m : Int) < O.length := by omega
              have mc := Mw.out.cell hmn
              simp only [marksV] at mc
              rw [marks_has] at mc
              cases hh : hasB S (m : Int) with
              | false =>
                rw [hh] at mc
                have HE : Hid (r = false) := HRN.out k hlt fun h => by
                  rw [HU.out, Int.toNat_natCast] at h
                  have := (h.1 (by rw [← HO.out]; exact e1)).2
                  rw [← HQ.out] at this
                  rw [hasB_iff.2 this] at hh; cases hh
                clear e1 hh
                go_wp2
                go_ret
                exact ⟨ret_bool HE.out.symm, Bw.out⟩
              | true =>
                rw [hh] at mc
                have HJn : Hid (∀ j, j < k + 1 → ClosV O zss who S Q (nth S j).toNat) := fun j hj => by
                  by_cases e : j = k
                  · subst e
                    rw [HU.out, Int.toNat_natCast]
                    exact ⟨fun _ => by rw [← HQ.out]; exact ⟨by omega, hasB_iff.1 hh⟩, fun h => absurd (by rw [← HO.out]; exact e1) h⟩
                  · exact HJ.out j (by omega)
                clear e1 hh
                go_wp2
                go_roundw
                case rel => exact ⟨k + 1, by omega, by go_num, HJn, HK⟩
                case measure => simp [intOf]; omega
          · have ho1 : (o == who) = false := beq_eq_false_iff_ne.2 e1
            have hrl : (row zss u).length ≤ 16 := (HAP.out.2.2.2 u hun).2.2.1
            have HRN' : Hid (∀ x ∈ row zss u, ∃ m : Nat, x = (m : Int) ∧ m < O.length) := fun x hx => by
              obtain ⟨i, hi, rfl⟩ := mem_nth.1 hx
              obtain ⟨h0, h1, _⟩ := setB_bounds (HAP.out.2.2.2 u hun).2.2.2 hi
              exact ⟨(nth (row zss u) i).toNat, by omega, by omega⟩
            have HRI := Lib.hid ((HNi.out.below Bw.out).rows u huz)
            have HE1 := Lib.hid e1
            clear e1
            go_wp2
            clear s1 o1 q1 n1 t0 t1
            obtain ⟨wo, hwo⟩ : ∃ y, y = wr := ⟨_, rfl⟩
            have K0 : Hid (Below wo.heap.size wo wr) := by rw [hwo]; exact Below.refl _ _
            rw [← hwo] at HK Bw Tw Mw HRI
            clear hwo
            go_loopw [12] (fun jv wi => ∃ m : Nat, m ≤ (row zss u).length ∧ jv = .int .i64 m ∧ Hid (∀ j, j < m → nth (row zss u) j ∈ S) ∧ Hid (Below wo.heap.size wo wi)) (fun jv _ => (row zss u).length - (intOf jv).toNat)
            case atStart => exact ⟨0, Nat.zero_le _, rfl, fun j hj => absurd hj (Nat.not_lt_zero _), K0⟩
            case round =>
              obtain ⟨m, hm, rfl, HM, HW⟩ := hrel
              have Bx := Lib.hid (Bw.out.trans (HW.out.mono Bw.out.size))
              have Tx := Lib.hid (Tw.out.below HW.out)
              have Mx := Lib.hid (rowIs_below Mw.out HW.out)
              have t1 := Tx.out.cell1
              obtain ⟨nb', no', hna, hnc⟩ := (HNi.out.below Bx.out).cell (by omega)
              simp only [Option.some.injEq, Addr.mk.injEq, and_true] at hna
              obtain ⟨rfl, rfl⟩ := hna
              have n1 := hnc u huz
              clear hnc
              by_cases hml : m < (row zss u).length
              · have hm0 : (0 : Int) ≤ (m : Int) := by omega
                have hm1 : (m : Int) < (row zss u).length := by omega
                obtain ⟨y, hy, hyn⟩ := HRN'.out _ (nth_mem hml)
                have HY := Lib.hid hy
                have hy0 : (0 : Int) ≤ (y : Int) := by omega
                have hy1 : (y : Int) < O.length := by omega
                obtain ⟨rb, ro, hra, hrc⟩ := (HRI.out.below HW.out).cell (by omega)
                have r1 := hrc m hml
                rw [hy] at r1
                rw [hra] at n1
                have mc := Mx.out.cell hyn
                simp only [marksV] at mc
                rw [marks_has] at mc
                clear hrc hy hra
                cases hh : hasB S (y : Int) with
                | false =>
                  rw [hh] at mc
                  have HE : Hid (r = false) := HRN.out k hlt fun h => by
                    rw [HU.out, Int.toNat_natCast] at h
                    have := h.2 (by rw [← HO.out]; exact HE1.out) _ (nth_mem hml)
                    rw [HY.out] at this
                    rw [hasB_iff.2 this] at hh; cases hh
                  clear hh
                  go_wp2
                  go_ret
                  exact ⟨ret_bool HE.out.symm, Bx.out⟩
                | true =>
                  rw [hh] at mc
                  have HMn : Hid (∀ j, j < m + 1 → nth (row zss u) j ∈ S) := fun j hj => by
                    by_cases e : j = m
                    · subst e; rw [HY.out]; exact hasB_iff.1 hh
                    · exact HM.out j (by omega)
                  clear hh
                  go_wp2
                  go_roundw
                  case rel => exact ⟨m + 1, by omega, by go_num, HMn, HW⟩
                  case measure => simp [intOf]; omega
              · have hm1 : ¬ (m : Int) < (row zss u).length := by omega
                have HJn : Hid (∀ j, j < k + 1 → ClosV O zss who S Q (nth S j).toNat) := fun j hj => by
                  by_cases e : j = k
                  · subst e
                    rw [HU.out, Int.toNat_natCast]
                    exact ⟨fun h => absurd (by rw [HO.out]; exact h) HE1.out, fun _ x hx => by
                      obtain ⟨i, hi, rfl⟩ := mem_nth.1 hx
                      exact HM.out i (by omega)⟩
                  · exact HJ.out j (by omega)
                have HKn := Lib.hid (HK.out.trans (HW.out.mono HK.out.size))
                go_wp2
                go_roundw
                case rel => exact ⟨k + 1, by omega, by go_num, HJn, HKn⟩
                case measure => simp [intOf]; omega
        · have hi1 : ¬ (k : Int) < S.length := by omega
          have HE : Hid (r = true) := HRY.out fun i hi => HJ.out i (by omega)
          go_wp2
          go_ret
          exact ⟨ret_bool HE.out.symm, Bw.out⟩
end

section
open Go.RowKit

/-- What the rows are, up to k: one of the call's own for a vertex with a choice, the arena's own for the others. -/
def EdgeRows (wr : World) (n : Nat) (A : Nat → Option Addr) (C : Nat → Nat) (zss : List (List Int)) (Q : List Int) (k : Nat) (V : Nat → Value) : Prop :=
  ∀ j, j < k → if 0 ≤ nth Q j then OwnInts wr n wr.heap.size (V j) [nth Q j] else V j = .slice (A j) (row zss j).length (C j)
theorem EdgeRows.only {wr w' : World} {n k : Nat} {A : Nat → Option Addr} {C : Nat → Nat} {zss : List (List Int)} {Q : List Int} {V : Nat → Value} {S : Nat → Prop} (h : EdgeRows wr n A C zss Q k V) (hk : Only S wr w')
    (hs : ∀ j, j < k → 0 ≤ nth Q j → ∀ g, (V j).ownBlock = some g → ¬ S g) : EdgeRows w' n A C zss Q k V := fun j hj => by
  have := h j hj
  by_cases h0 : 0 ≤ nth Q j
  · rw [if_pos h0] at this ⊢
    exact (this.only hk (hs j hj h0)).retop
  · rw [if_neg h0] at this ⊢
    exact this

theorem EdgeRows.push {wr w5 : World} {n k m : Nat} {A : Nat → Option Addr} {C : Nat → Nat} {zss : List (List Int)} {Q : List Int} {V : Nat → Value} {u uu : Value} {xs : List Value} (h : EdgeRows wr n A C zss Q k V) (ho : wr.ownsRow n 22 1 uu m xs)
    (hu : if 0 ≤ nth Q k then OwnInts wr n wr.heap.size u [nth Q k] else u = .slice (A k) (row zss k).length (C k)) (hg : Only (fun b => uu.ownBlock = some b) wr w5) : EdgeRows w5 n A C zss Q (k + 1) (fun j => if j = k then u else V j) := fun j hj => by
  by_cases e : j = k
  · subst e
    simp only [if_true]
    by_cases h0 : 0 ≤ nth Q j
    · rw [if_pos h0] at hu ⊢
      exact (hu.only hg (fun g h1 h2 => own_types ho hu.own g h2 h1)).retop
    · rw [if_neg h0] at hu ⊢
      exact hu
  · simp only [if_neg e]
    have hr := h j (by omega)
    by_cases h0 : 0 ≤ nth Q j
    · rw [if_pos h0] at hr ⊢
      exact (hr.only hg (fun g h1 h2 => own_types ho hr.own g h2 h1)).retop
    · rw [if_neg h0] at hr ⊢
      exact hr

/-- A call hands back rows to read, partly an arena's: they stay while the arena's stay and nothing of the call's own turns. -/
def GivesEdges (w : World) (an : Option Addr) (A : Nat → Option Addr) (C : Nat → Nat) (zss es : List (List Int)) (e : Ending) (w' : World) : Prop :=
  ∃ a A' C' c, e = .returned (.slice a es.length c) ∧ (∀ (S : Nat → Prop) (W : World), (∀ b, S b → b < w.heap.size ∨ w'.heap.size ≤ b) → Only S w' W → RowsAt W an A C zss → RowsAt W a A' C' es) ∧ Below w.heap.size w w'

end

section
open Go.RowKit

theorem GameAt.arenaC {w : World} {a0 a1 a2 : Value} {O P : List Int} {zss : List (List Int)} (h : GameAt w (.agg #[a0, a1, a2]) O zss P) : ArenaAt w (.agg #[a0, a1]) O zss := by
  obtain ⟨_, _, _, _, _, _, _, _, hv, h1, h2, _⟩ := h
  cases hv
  exact ⟨_, _, _, _, _, _, rfl, h1, h2⟩

theorem Box3.onlyC {w w' : World} {g : Nat} {t : TypeId} {a b c : Value} {S : Nat → Prop} (h : Box3 w g t a b c) (hk : Only S w w') (hs : ¬ S g) : Box3 w' g t a b c := rowIs_only h hk hs

/-- What is low while the first m of the region have been marked. -/
def lowG (P S : List Int) (u m : Nat) : Nat → Bool := fun v => decide ((v : Int) ∈ S.take m) && decide (nth P v ≤ nth P u)
theorem lowG_zero (P S : List Int) (u : Nat) (v : Nat) : lowG P S u 0 v = false := by simp [lowG]
theorem lowG_full (P S : List Int) (u v : Nat) : lowG P S u S.length v = lowI P S u v := by
  unfold lowG lowI
  rw [List.take_length]
  rfl
theorem lowG_step {P S : List Int} {u m y : Nat} (hm : m < S.length) (hy : nth S m = (y : Int)) (v : Nat) : mark1 (lowG P S u m) y (decide (nth P y ≤ nth P u)) v = lowG P S u (m + 1) v := by
  have ht : S.take (m + 1) = S.take m ++ [(y : Int)] := by rw [List.take_succ_eq_append_getElem hm, ← nth_eq hm, hy]
  unfold mark1 lowG
  rw [ht]
  by_cases e : v = y
  · subst e; simp
  · have : ¬ (v : Int) = (y : Int) := by omega
    simp [e, this]

end

section
open Go.RowKit

end

end Go.Proofs.YtokcinhopajniaaDoor
