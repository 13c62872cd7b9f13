/-
  Contract of chapter 6: the model's ClosedIn.
-/
import Derived.Test.YtokcinhopajniaaGreatDoorCheckMath
import Derived.Test.YtokcinhopajniaaGreatDoorPlanSpec
import Derived.Test.YtokcinhopajniaaGreatDoorLoops
import Derived.Test.YtokcinhopajniaaGreatDoorFixedSpec
import Derived.Deep.AppendLies
import Derived.Deep.RegionHeld3
namespace Go.Proofs.YtokcinhopajniaaGreatDoor
section
open Go.RowKit

theorem marks_has {S : List Int} {u : Nat} : openS S S.length u = hasB S (u : Int) := by
  rw [Bool.eq_iff_iff, hasB_iff]; simp [openS]

/-- What closedness says of the vertex u. -/
def ClosV (O : List Int) (zss : List (List Int)) (who : Int) (S Q : List Int) (u : Nat) : Prop :=
  (nth O u = who → 0 ≤ nth Q u ∧ nth Q u ∈ S) ∧ (nth O u ≠ who → ∀ x ∈ row zss u, x ∈ S)

set_option maxHeartbeats 8000000 in
set_option maxRecDepth 100000 in
theorem specClosedIn_is {w : World} {va : Value} {O S Q : List Int} {zss : List (List Int)} {who : Int} {aS aQ : Option Addr} {r : Bool} (cS cQ : Nat) (hr : closB O zss who S Q = r) (h : ArenaAt w va O zss) (hS : IntsAt w aS S) (hQ : IntsAt w aQ Q) :
    Calls Tryz.prog 47 #[va, .int .i64 who, .slice aS S.length cS, .slice aQ Q.length cQ] w fun e w' => e = .returned (.bool r) ∧ Below w.heap.size w w' := by
  have HAt := Lib.hid h
  obtain ⟨ao, an, co, cn, A, C, rfl, h1, h2⟩ := h
  have hlO := h1.len
  have hlS := hS.len
  have hlQ := hQ.len
  have HOi := Lib.hid h1
  have HNi := Lib.hid h2
  have HSi := Lib.hid hS
  have HQi := Lib.hid hQ
  obtain ⟨w1, hw1⟩ : ∃ y, y = w.alloc (.cells #[.slice ao O.length co, .slice an zss.length cn] 30) := ⟨_, rfl⟩
  have HW1 := Lib.hid hw1
  have B1 : Hid (Below w.heap.size w w1) := by rw [hw1]; exact below1 _ _
  have T1 : Hid (Box2 w1 w.heap.size 30 (.slice ao O.length co) (.slice an zss.length cn)) := by rw [hw1]; exact Box2.new _ _ _ _
  clear hw1 h1 h2 hS hQ
  cases hp : planB O zss who Q with
  | false =>
    have HE : Hid (r = false) := by rw [← hr]; unfold closB; rw [hp]; rfl
    have HC := Lib.hid (specPlanOk_is cQ hp (HAt.out.below B1.out) (HQi.out.below B1.out))
    clear hr hp
    go_enter Tryz.func47, Tryz.ntmps47
    go_wp2_with fail
    rw [← HW1.out]
    refine HC.out.mono ?_
    rintro e w2 ⟨rfl, hb⟩
    have B2 := Lib.hid (B1.out.trans (hb.mono B1.out.size))
    clear hb HC
    go_wp2
    go_ret
    exact ⟨ret_bool HE.out.symm, B2.out⟩
  | true =>
    have HC := Lib.hid (specPlanOk_is cQ hp (HAt.out.below B1.out) (HQi.out.below B1.out))
    cases hs : setB O.length S with
    | false =>
      have HE : Hid (r = false) := by rw [← hr]; unfold closB; rw [hp, hs]; rfl
      have HT := Lib.hid (fun W (hb : Below w.heap.size w W) => l1Set_is hs cS W (HSi.out.below hb) (by omega) (by omega))
      clear hr hp hs
      go_enter Tryz.func47, Tryz.ntmps47
      go_wp2_with fail
      rw [← HW1.out]
      refine HC.out.mono ?_
      rintro e w2 ⟨rfl, hb⟩
      have B2 := Lib.hid (B1.out.trans (hb.mono B1.out.size))
      have T2 := Lib.hid (T1.out.below hb)
      have t0 := T2.out.cell0
      clear hb HC
      go_wp2_with fail
      refine (HT.out _ B2.out).mono ?_
      rintro e w3 ⟨rfl, hq⟩
      have B3 := Lib.hid (below_same B2.out hq)
      clear hq t0
      go_wp2
      go_ret
      exact ⟨ret_bool HE.out.symm, B3.out⟩
    | true =>
      have HT := Lib.hid (fun W (hb : Below w.heap.size w W) => l1Set_is hs cS W (HSi.out.below hb) (by omega) (by omega))
      have hpp := planB_iff.1 hp
      have HAP := Lib.hid hpp.1
      have HPP := Lib.hid hpp.2.2
      have hO256 : O.length ≤ 256 := hpp.1.2.1
      have HZO : Hid (zss.length = O.length) := hpp.1.2.2.1
      have HQL : Hid (Q.length = O.length) := hpp.2.2.1
      have HSN : Hid (∀ x ∈ S, ∃ u : Nat, x = (u : Int) ∧ u < O.length) := fun x hx => by
        obtain ⟨i, hi, rfl⟩ := mem_nth.1 hx
        obtain ⟨h0, h1, _⟩ := setB_bounds hs hi
        exact ⟨(nth S i).toNat, by omega, by omega⟩
      have HRY : Hid ((∀ i, i < S.length → ClosV O zss who S Q (nth S i).toNat) → r = true) := fun h => by
        rw [← hr, closB_iff]
        refine ⟨hp, hs, fun v hv => ?_⟩
        obtain ⟨i, hi, e⟩ := mem_nth.1 hv
        have := h i hi
        rw [e, Int.toNat_natCast] at this
        exact this
      have HRN : Hid (∀ i, i < S.length → ¬ ClosV O zss who S Q (nth S i).toNat → r = false) := fun i hi h => by
        rw [← hr]
        cases hc : closB O zss who S Q with
        | false => rfl
        | true =>
          refine absurd ?_ h
          have h3 := (closB_iff.1 hc).2.2
          obtain ⟨u, hu, _⟩ := HSN.out _ (nth_mem hi)
          have h4 := h3 u (by rw [← hu]; exact nth_mem hi)
          rw [hu, Int.toNat_natCast]
          exact h4
      have HMk := Lib.hid (fun W (hb : Below w.heap.size w W) => l1Marks_is (w := W) cS O.length (HSi.out.below hb) (by omega) HSN.out)
      clear hr hp hs hpp
      go_enter Tryz.func47, Tryz.ntmps47
      go_wp2_with fail
      rw [← HW1.out]
      refine HC.out.mono ?_
      rintro e w2 ⟨rfl, hb⟩
      have B2 := Lib.hid (B1.out.trans (hb.mono B1.out.size))
      have T2 := Lib.hid (T1.out.below hb)
      have t0 := T2.out.cell0
      clear hb HC
      go_wp2_with fail
      refine (HT.out _ B2.out).mono ?_
      rintro e w3 ⟨rfl, hq⟩
      have B3 := Lib.hid (below_same B2.out hq)
      have T3 : Hid (Box2 w3 w.heap.size 30 (.slice ao O.length co) (.slice an zss.length cn)) := T2.out.below (below_same (Below.refl _ _) hq)
      clear hq t0
      have t0 := T3.out.cell0
      go_wp2_with fail
      refine (HMk.out _ B3.out).mono ?_
      rintro e w4 ⟨rfl, hM, hb⟩
      have B4 := Lib.hid (B3.out.trans (hb.mono B3.out.size))
      have T4 := Lib.hid (T3.out.below hb)
      have M4 := Lib.hid hM
      clear hb hM t0
      go_wp2
      go_loopw [10] (fun iv wr => ∃ k : Nat, k ≤ S.length ∧ iv = .int .i64 k ∧ Hid (∀ j, j < k → ClosV O zss who S Q (nth S j).toNat) ∧ Hid (Below w4.heap.size w4 wr)) (fun iv _ => S.length - (intOf iv).toNat)
      case atStart => exact ⟨0, Nat.zero_le _, rfl, fun j hj => absurd hj (Nat.not_lt_zero _), Below.refl _ _⟩
      case round =>
        obtain ⟨k, hk, rfl, HJ, HK⟩ := hrel
        have Bw := Lib.hid (B4.out.trans (HK.out.mono B4.out.size))
        by_cases hlt : k < S.length
        · have hi1 : (k : Int) < S.length := by omega
          have hk0 : (0 : Int) ≤ (k : Int) := by omega
          obtain ⟨u, hu, hun⟩ := HSN.out _ (nth_mem hlt)
          have HU := Lib.hid hu
          have hu0 : (0 : Int) ≤ (u : Int) := by omega
          have hu1 : (u : Int) < O.length := by omega
          have hu2 : (u : Int) < Q.length := by have := HQL.out; omega
          have hu3 : (u : Int) < zss.length := by have := HZO.out; omega
          have huz : u < zss.length := by omega
          have Tw := Lib.hid (T4.out.below HK.out)
          have Mw := Lib.hid (rowIs_below M4.out HK.out)
          have t0 := Tw.out.cell0
          have t1 := Tw.out.cell1
          obtain ⟨sb, so, hsa, hsc⟩ := (HSi.out.below Bw.out).cell (by omega)
          obtain ⟨ob, oo, hoa, hoc⟩ := (HOi.out.below Bw.out).cell (by omega)
          obtain ⟨qb, qo, hqa, hqc⟩ := (HQi.out.below Bw.out).cell (by omega)
          obtain ⟨nb, no, hna, hnc⟩ := (HNi.out.below Bw.out).cell (by omega)
          have s1 := hsc k hlt
          have o1 := hoc u hun
          have q1 := hqc u (by omega)
          have n1 := hnc u huz
          rw [hu] at s1
          obtain ⟨o, ho⟩ : ∃ o, o = nth O u := ⟨_, rfl⟩
          obtain ⟨q, hq⟩ : ∃ q, q = nth Q u := ⟨_, rfl⟩
          have HO := Lib.hid ho
          have HQ := Lib.hid hq
          rw [← ho] at o1
          rw [← hq] at q1
          subst hsa
          subst hoa
          subst hqa
          subst hna
          clear hsc hoc hqc hnc ho hq hu
          by_cases e1 : o = who
          · have ho1 : (o == who) = true := by simpa using e1
            by_cases e2 : q < 0
            · have HE : Hid (r = false) := HRN.out k hlt fun h => by
                rw [HU.out, Int.toNat_natCast] at h
                have := (h.1 (by rw [← HO.out]; exact e1)).1
                rw [← HQ.out] at this; omega
              clear e1
              go_wp2
              go_ret
              exact ⟨ret_bool HE.out.symm, Bw.out⟩
            · obtain ⟨m, hm⟩ : ∃ m : Nat, q = (m : Int) := ⟨q.toNat, by omega⟩
              have hmn : m < O.length := by
                have h := (plan_in HAP.out HPP.out (u := u) hun (by rw [← HQ.out]; omega)).2
                rw [← HQ.out] at h; omega
              subst hm
              have hm0 : (0 : Int) ≤ (m : Int) := by omega
              have hm1 : (m : Int) < O.length := by omega
              have mc := Mw.out.cell hmn
              simp only [marksV] at mc
              rw [marks_has] at mc
              cases hh : hasB S (m : Int) with
              | false =>
                rw [hh] at mc
                have HE : Hid (r = false) := HRN.out k hlt fun h => by
                  rw [HU.out, Int.toNat_natCast] at h
                  have := (h.1 (by rw [← HO.out]; exact e1)).2
                  rw [← HQ.out] at this
                  rw [hasB_iff.2 this] at hh; cases hh
                clear e1 hh
                go_wp2
                go_ret
                exact ⟨ret_bool HE.out.symm, Bw.out⟩
              | true =>
                rw [hh] at mc
                have HJn : Hid (∀ j, j < k + 1 → ClosV O zss who S Q (nth S j).toNat) := fun j hj => by
                  by_cases e : j = k
                  · subst e
                    rw [HU.out, Int.toNat_natCast]
                    exact ⟨fun _ => by rw [← HQ.out]; exact ⟨by omega, hasB_iff.1 hh⟩, fun h => absurd (by rw [← HO.out]; exact e1) h⟩
                  · exact HJ.out j (by omega)
                clear e1 hh
                go_wp2
                go_roundw
                case rel => exact ⟨k + 1, by omega, by go_num, HJn, HK⟩
                case measure => simp [intOf]; omega
          · have ho1 : (o == who) = false := beq_eq_false_iff_ne.2 e1
            have hrl : (row zss u).length ≤ 16 := (HAP.out.2.2.2 u hun).2.2.1
            have HRN' : Hid (∀ x ∈ row zss u, ∃ m : Nat, x = (m : Int) ∧ m < O.length) := fun x hx => by
              obtain ⟨i, hi, rfl⟩ := mem_nth.1 hx
              obtain ⟨h0, h1, _⟩ := setB_bounds (HAP.out.2.2.2 u hun).2.2.2 hi
              exact ⟨(nth (row zss u) i).toNat, by omega, by omega⟩
            have HRI := Lib.hid ((HNi.out.below Bw.out).rows u huz)
            have HE1 := Lib.hid e1
            clear e1
            go_wp2
            clear s1 o1 q1 n1 t0 t1
            obtain ⟨wo, hwo⟩ : ∃ y, y = wr := ⟨_, rfl⟩
            have K0 : Hid (Below wo.heap.size wo wr) := by rw [hwo]; exact Below.refl _ _
            rw [← hwo] at HK Bw Tw Mw HRI
            clear hwo
            go_loopw [12] (fun jv wi => ∃ m : Nat, m ≤ (row zss u).length ∧ jv = .int .i64 m ∧ Hid (∀ j, j < m → nth (row zss u) j ∈ S) ∧ Hid (Below wo.heap.size wo wi)) (fun jv _ => (row zss u).length - (intOf jv).toNat)
            case atStart => exact ⟨0, Nat.zero_le _, rfl, fun j hj => absurd hj (Nat.not_lt_zero _), K0⟩
            case round =>
              obtain ⟨m, hm, rfl, HM, HW⟩ := hrel
              have Bx := Lib.hid (Bw.out.trans (HW.out.mono Bw.out.size))
              have Tx := Lib.hid (Tw.out.below HW.out)
              have Mx := Lib.hid (rowIs_below Mw.out HW.out)
              have t1 := Tx.out.cell1
              obtain ⟨nb', no', hna, hnc⟩ := (HNi.out.below Bx.out).cell (by omega)
              simp only [Option.some.injEq, Addr.mk.injEq, and_true] at hna
              obtain ⟨rfl, rfl⟩ := hna
              have n1 := hnc u huz
              clear hnc
              by_cases hml : m < (row zss u).length
              · have hm0 : (0 : Int) ≤ (m : Int) := by omega
                have hm1 : (m : Int) < (row zss u).length := by omega
                obtain ⟨y, hy, hyn⟩ := HRN'.out _ (nth_mem hml)
                have HY := Lib.hid hy
                have hy0 : (0 : Int) ≤ (y : Int) := by omega
                have hy1 : (y : Int) < O.length := by omega
                obtain ⟨rb, ro, hra, hrc⟩ := (HRI.out.below HW.out).cell (by omega)
                have r1 := hrc m hml
                rw [hy] at r1
                rw [hra] at n1
                have mc := Mx.out.cell hyn
                simp only [marksV] at mc
                rw [marks_has] at mc
                clear hrc hy hra
                cases hh : hasB S (y : Int) with
                | false =>
                  rw [hh] at mc
                  have HE : Hid (r = false) := HRN.out k hlt fun h => by
                    rw [HU.out, Int.toNat_natCast] at h
                    have := h.2 (by rw [← HO.out]; exact HE1.out) _ (nth_mem hml)
                    rw [HY.out] at this
                    rw [hasB_iff.2 this] at hh; cases hh
                  clear hh
                  go_wp2
                  go_ret
                  exact ⟨ret_bool HE.out.symm, Bx.out⟩
                | true =>
                  rw [hh] at mc
                  have HMn : Hid (∀ j, j < m + 1 → nth (row zss u) j ∈ S) := fun j hj => by
                    by_cases e : j = m
                    · subst e; rw [HY.out]; exact hasB_iff.1 hh
                    · exact HM.out j (by omega)
                  clear hh
                  go_wp2
                  go_roundw
                  case rel => exact ⟨m + 1, by omega, by go_num, HMn, HW⟩
                  case measure => simp [intOf]; omega
              · have hm1 : ¬ (m : Int) < (row zss u).length := by omega
                have HJn : Hid (∀ j, j < k + 1 → ClosV O zss who S Q (nth S j).toNat) := fun j hj => by
                  by_cases e : j = k
                  · subst e
                    rw [HU.out, Int.toNat_natCast]
                    exact ⟨fun h => absurd (by rw [HO.out]; exact h) HE1.out, fun _ x hx => by
                      obtain ⟨i, hi, rfl⟩ := mem_nth.1 hx
                      exact HM.out i (by omega)⟩
                  · exact HJ.out j (by omega)
                have HKn := Lib.hid (HK.out.trans (HW.out.mono HK.out.size))
                go_wp2
                go_roundw
                case rel => exact ⟨k + 1, by omega, by go_num, HJn, HKn⟩
                case measure => simp [intOf]; omega
        · have hi1 : ¬ (k : Int) < S.length := by omega
          have HE : Hid (r = true) := HRY.out fun i hi => HJ.out i (by omega)
          go_wp2
          go_ret
          exact ⟨ret_bool HE.out.symm, Bw.out⟩
end

section
open Go.RowKit

/-- What the rows are, up to k: one of the call's own for a vertex with a choice, the arena's own for the others. -/
def EdgeRows (wr : World) (n : Nat) (A : Nat → Option Addr) (C : Nat → Nat) (zss : List (List Int)) (Q : List Int) (k : Nat) (V : Nat → Value) : Prop :=
  ∀ j, j < k → if 0 ≤ nth Q j then OwnInts wr n wr.heap.size (V j) [nth Q j] else V j = .slice (A j) (row zss j).length (C j)
theorem EdgeRows.only {wr w' : World} {n k : Nat} {A : Nat → Option Addr} {C : Nat → Nat} {zss : List (List Int)} {Q : List Int} {V : Nat → Value} {S : Nat → Prop} (h : EdgeRows wr n A C zss Q k V) (hk : Only S wr w')
    (hs : ∀ j, j < k → 0 ≤ nth Q j → ∀ g, (V j).ownBlock = some g → ¬ S g) : EdgeRows w' n A C zss Q k V := fun j hj => by
  have := h j hj
  by_cases h0 : 0 ≤ nth Q j
  · rw [if_pos h0] at this ⊢
    exact (this.only hk (hs j hj h0)).retop
  · rw [if_neg h0] at this ⊢
    exact this

theorem EdgeRows.push {wr w5 : World} {n k m : Nat} {A : Nat → Option Addr} {C : Nat → Nat} {zss : List (List Int)} {Q : List Int} {V : Nat → Value} {u uu : Value} {xs : List Value} (h : EdgeRows wr n A C zss Q k V) (ho : wr.ownsRow n 27 1 uu m xs)
    (hu : if 0 ≤ nth Q k then OwnInts wr n wr.heap.size u [nth Q k] else u = .slice (A k) (row zss k).length (C k)) (hg : Only (fun b => uu.ownBlock = some b) wr w5) : EdgeRows w5 n A C zss Q (k + 1) (fun j => if j = k then u else V j) := fun j hj => by
  by_cases e : j = k
  · subst e
    simp only [if_true]
    by_cases h0 : 0 ≤ nth Q j
    · rw [if_pos h0] at hu ⊢
      exact (hu.only hg (fun g h1 h2 => own_types ho hu.own g h2 h1)).retop
    · rw [if_neg h0] at hu ⊢
      exact hu
  · simp only [if_neg e]
    have hr := h j (by omega)
    by_cases h0 : 0 ≤ nth Q j
    · rw [if_pos h0] at hr ⊢
      exact (hr.only hg (fun g h1 h2 => own_types ho hr.own g h2 h1)).retop
    · rw [if_neg h0] at hr ⊢
      exact hr

/-- A call hands back rows to read, partly an arena's: they stay while the arena's stay and nothing of the call's own turns. -/
def GivesEdges (w : World) (an : Option Addr) (A : Nat → Option Addr) (C : Nat → Nat) (zss es : List (List Int)) (e : Ending) (w' : World) : Prop :=
  ∃ a A' C' c, e = .returned (.slice a es.length c) ∧ (∀ (S : Nat → Prop) (W : World), (∀ b, S b → b < w.heap.size ∨ w'.heap.size ≤ b) → Only S w' W → RowsAt W an A C zss → RowsAt W a A' C' es) ∧ Below w.heap.size w w'

set_option maxHeartbeats 8000000 in
set_option maxRecDepth 100000 in
theorem l6Edges_is {w : World} {ao an aQ : Option Addr} {co cn : Nat} {A : Nat → Option Addr} {C : Nat → Nat} {O Q : List Int} {zss : List (List Int)} (cQ : Nat) (hl : Q.length = zss.length) (hz : zss.length ≤ 256) (h1 : IntsAt w ao O) (h2 : RowsAt w an A C zss) (hQ : IntsAt w aQ Q) :
    Calls Tryz.prog 49 #[.agg #[.slice ao O.length co, .slice an zss.length cn], .slice aQ Q.length cQ] w (GivesEdges w an A C zss (fixK zss Q zss.length)) := by
  obtain ⟨i0, hi, hz0, hz1, hz2⟩ := info_parts info_rows
  have hlO := h1.len
  have hlQ := hQ.len
  have HNi := Lib.hid h2
  have HQi := Lib.hid hQ
  have HL := Lib.hid hl
  obtain ⟨w1, hw1⟩ : ∃ y, y = w.alloc (.cells #[.slice ao O.length co, .slice an zss.length cn] 30) := ⟨_, rfl⟩
  have HW1 := Lib.hid hw1
  have hs1 : w1.heap.size = w.heap.size + 1 := by rw [hw1]; simp
  have HS1 := Lib.hid hs1
  have hb1 : Below w.heap.size w w1 := by rw [hw1]; exact below1 _ _
  have hT1 : Box2 w1 w.heap.size 30 (.slice ao O.length co) (.slice an zss.length cn) := by rw [hw1]; exact Box2.new _ _ _ _
  obtain ⟨w2, hw2⟩ : ∃ y, y = w1.alloc (.cells #[] 27) := ⟨_, rfl⟩
  have HW2 := Lib.hid hw2
  have K2 : Hid (Below w1.heap.size w1 w2) := by rw [hw2]; exact below1 _ _
  have O2 : Hid (w2.ownsRow w1.heap.size 27 1 (.slice (some ⟨w1.heap.size, 0, none⟩) 0 0) 0 ((List.range 0).map fun _ => Value.slice none 0 0)) := by rw [hw2]; exact World.ownsRow_made w1 #[] 0 (Nat.le_refl _) (by unfold maxLen; omega) rfl
  have B1 := Lib.hid hb1
  have T2 := Lib.hid (hT1.below K2.out)
  clear hw1 hw2 h1 h2 hb1 hT1 hs1 hl hQ
  go_enter Tryz.func49, Tryz.ntmps49
  go_wp2
  rw [← HW1.out, ← HS1.out, ← HW2.out]
  go_loopw [5, 6] (fun ov iv wr => ∃ (k : Nat) (V : Nat → Value) (uu : Value), uu = ov ∧ k ≤ zss.length ∧ iv = .int .i64 k ∧ Hid (wr.ownsRow w1.heap.size 27 1 ov k ((List.range k).map V)) ∧ Hid (EdgeRows wr w1.heap.size A C zss Q k V) ∧ Hid (Below w1.heap.size w1 wr) ∧ Hid (Box2 wr w.heap.size 30 (.slice ao O.length co) (.slice an zss.length cn))) (fun _ iv _ => zss.length - (intOf iv).toNat)
  case atStart => exact ⟨0, _, _, rfl, Nat.zero_le _, rfl, O2, fun j hj => absurd hj (Nat.not_lt_zero _), K2, T2⟩
  case round =>
    clear O2 K2 T2
    obtain ⟨k, V, uu, hu0, hk, rfl, HO, HE, HK, HT⟩ := hrel
    subst hu0
    have t0 := HT.out.cell0
    have t1 := HT.out.cell1
    have hksz := HK.out.size
    have Bw := Lib.hid (B1.out.trans (HK.out.mono B1.out.size))
    by_cases hlt : k < zss.length
    · have hi1 : (k : Int) < zss.length := by omega
      have hk0 : (0 : Int) ≤ (k : Int) := by omega
      have hkq : k < Q.length := by have := HL.out; omega
      have hi2 : (k : Int) < Q.length := by omega
      obtain ⟨qb, qo, hqa, hqc⟩ := (HQi.out.below Bw.out).cell (by omega)
      obtain ⟨nb, no, hna, hnc⟩ := (HNi.out.below Bw.out).cell (by omega)
      have q1 := hqc k hkq
      have n1 := hnc k hlt
      have HQF : Hid (Fits (nth Q k)) := HQi.out.fits k hkq
      obtain ⟨q, hq⟩ : ∃ q, q = nth Q k := ⟨_, rfl⟩
      have HQ := Lib.hid hq
      rw [← hq] at q1
      subst hqa
      subst hna
      clear hqc hnc hq
      by_cases h0 : 0 ≤ q
      · obtain ⟨wa, hwa⟩ : ∃ y, y = wr.alloc (.cells #[.int .i64 q] 2) := ⟨_, rfl⟩
        have HWA := Lib.hid hwa
        have hba : Below wr.heap.size wr wa := by rw [hwa]; exact below1 _ _
        have hsa : wa.heap.size = wr.heap.size + 1 := by rw [hwa]; simp
        have HSA := Lib.hid hsa
        have UA : Hid (OwnInts wa w1.heap.size wa.heap.size (.slice (some ⟨wr.heap.size, 0, none⟩) 1 1) [q]) := by
          rw [hwa]; exact ((own_new wr q (by rw [HQ.out]; exact HQF.out)).retop).base hksz
        have OA := Lib.hid (ownsRow_only HO.out (S := fun _ => False) (Only.of_below hba) (fun _ _ h => h))
        have EA := Lib.hid (HE.out.only (Only.of_below (S := fun _ => False) hba) (fun _ _ _ _ _ h => h))
        have KA := Lib.hid (HK.out.trans (hba.mono HK.out.size))
        have TA := Lib.hid (HT.out.below hba)
        have hka : w1.heap.size ≤ wa.heap.size := by omega
        have c1 : ∀ j v, [Value.slice (some ⟨wr.heap.size, 0, none⟩) 1 1][j]? = some v → (wa.alloc (.cells #[.slice (some ⟨wr.heap.size, 0, none⟩) 1 1] 27)).cell? ((⟨wr.heap.size + 1, 0, none⟩ : Addr).add j) = some v := by
          have h := cell_one_new wa (.slice (some ⟨wr.heap.size, 0, none⟩) 1 1) 27
          rw [hsa] at h
          exact h
        have HC1 := Lib.hid c1
        clear hwa hba hsa c1
        go_wp2_with (at_builtin; rw [← HWA.out]; refine wpList_append_own_at _ rfl _ _ 28 rfl w1.heap.size 27 i0 (.slice none 0 0) 1 24 Tryz.underlying28 hi hz0 hz1 hz2 rfl (by decide) _ _ _ rfl (OA.out.alloc _) ⟨wr.heap.size + 1, 0, none⟩ 1 1 [.slice (some ⟨wr.heap.size, 0, none⟩) 1 1] rfl rfl ?c1 ?c2 ?c3 ?c4 ?c5 ?_)
        try (case c1 => exact HC1.out)
        try (case c2 => first | rfl | (intro u hu; simp at hu; subst hu; rfl))
        case c3 => unfold maxLen; omega
        case c4 => omega
        case c5 => first | (simp; omega) | omega
        intro v' w5 hown hgrow _ _
        have hg : Only (fun b => uu.ownBlock = some b) wa w5 := (Only.of_below (below1 wa _)).trans (Only.of_grown hgrow)
        have Kn := Lib.hid (KA.out.trans (hg.below (B := w1.heap.size) KA.out.size (fun b hb => (OA.out.lt b hb).1)))
        have Tn := Lib.hid (TA.out.only hg (TA.out.not_own OA.out (by decide)))
        have HOn : Hid (w5.ownsRow w1.heap.size 27 1 v' (k + 1) ((List.range (k + 1)).map fun j => if j = k then (.slice (some ⟨wr.heap.size, 0, none⟩) 1 1) else V j)) := by
          rw [← range_snoc]; exact hown
        have HEn := Lib.hid (EA.out.push OA.out (u := (.slice (some ⟨wr.heap.size, 0, none⟩) 1 1)) (by rw [← HQ.out, if_pos (by omega)]; exact UA.out) hg)
        clear hown hgrow hg t0 t1 q1 n1
        go_wp2
        go_roundw
        case rel => exact ⟨k + 1, _, _, rfl, by omega, by go_num, HOn, HEn, Kn, Tn⟩
        case measure => simp [intOf]; omega
      · have c1 : ∀ j v, [Value.slice (A k) (row zss k).length (C k)][j]? = some v → (wr.alloc (.cells #[.slice (A k) (row zss k).length (C k)] 27)).cell? ((⟨wr.heap.size, 0, none⟩ : Addr).add j) = some v := cell_one_new wr _ 27
        have HC1 := Lib.hid c1
        clear c1
        go_wp2_with (at_builtin; refine wpList_append_own_at _ rfl _ _ 28 rfl w1.heap.size 27 i0 (.slice none 0 0) 1 24 Tryz.underlying28 hi hz0 hz1 hz2 rfl (by decide) _ _ _ rfl (HO.out.alloc _) ⟨wr.heap.size, 0, none⟩ 1 1 [.slice (A k) (row zss k).length (C k)] rfl rfl ?c1 ?c2 ?c3 ?c4 ?c5 ?_)
        try (case c1 => exact HC1.out)
        try (case c2 => first | rfl | (intro u hu; simp at hu; subst hu; rfl))
        case c3 => unfold maxLen; omega
        case c4 => omega
        case c5 => first | (simp; omega) | omega
        intro v' w5 hown hgrow _ _
        have hg : Only (fun b => uu.ownBlock = some b) wr w5 := (Only.of_below (below1 wr _)).trans (Only.of_grown hgrow)
        have Kn := Lib.hid (HK.out.trans (hg.below (B := w1.heap.size) HK.out.size (fun b hb => (HO.out.lt b hb).1)))
        have Tn := Lib.hid (HT.out.only hg (HT.out.not_own HO.out (by decide)))
        have HOn : Hid (w5.ownsRow w1.heap.size 27 1 v' (k + 1) ((List.range (k + 1)).map fun j => if j = k then (.slice (A k) (row zss k).length (C k)) else V j)) := by
          rw [← range_snoc]; exact hown
        have HEn := Lib.hid (HE.out.push HO.out (u := (.slice (A k) (row zss k).length (C k))) (by rw [← HQ.out, if_neg (by omega)]) hg)
        clear hown hgrow hg t0 t1 q1 n1
        go_wp2
        go_roundw
        case rel => exact ⟨k + 1, _, _, rfl, by omega, by go_num, HOn, HEn, Kn, Tn⟩
        case measure => simp [intOf]; omega
    · have hi1 : ¬ (k : Int) < zss.length := by omega
      have hkk : k = zss.length := by omega
      have hfin : Hid (∃ a A' C' c, uu = .slice a (fixK zss Q zss.length).length c ∧ ∀ (S : Nat → Prop) (W : World), (∀ b, S b → b < w.heap.size ∨ wr.heap.size ≤ b) → Only S wr W → RowsAt W an A C zss → RowsAt W a A' C' (fixK zss Q zss.length)) := by
        rw [hkk] at HO HE
        have hs1 := HS1.out
        have hrow : ∀ (S : Nat → Prop) (W : World), (∀ b, S b → b < w.heap.size ∨ wr.heap.size ≤ b) → Only S wr W → RowsAt W an A C zss → ∀ j, j < zss.length → V j = .slice (addrOf (V j)) (row (fixK zss Q zss.length) j).length (capOf (V j)) ∧ IntsAt W (addrOf (V j)) (row (fixK zss Q zss.length) j) := fun S W hS hW hN j hj => by
          have h := HE.out j hj
          rw [fixK_row hj]
          by_cases h0 : 0 ≤ nth Q j
          · rw [if_pos h0] at h
            rw [if_pos ⟨hj, h0⟩]
            obtain ⟨a, cap, hv, hI, _⟩ := (h.only hW (fun g hg hh => by have := (h.own.lt g hg).1; have := h.top g hg; have := hS g hh; omega)).shape
            rw [hv]; exact ⟨rfl, hI⟩
          · rw [if_neg h0] at h
            rw [if_neg (fun h' => h0 h'.2), h]
            exact ⟨rfl, hN.rows j hj⟩
        rcases HO.out.2 with ⟨hv, h0⟩ | ⟨g, cap, cur, hv, hg, hh, hn, hm, hcs, htake⟩
        · refine ⟨none, fun _ => none, fun _ => 0, 0, by rw [fixK_len, hv, h0], fun S W hS hW hN => ⟨by rw [fixK_len]; exact hN.len, fun hp => absurd hp (by rw [fixK_len]; omega), fun j hj => absurd hj (by rw [fixK_len]; omega)⟩⟩
        · refine ⟨some ⟨g, 0, none⟩, fun j => addrOf (V j), fun j => capOf (V j), cap, by rw [fixK_len, hv], fun S W hS hW hN => ⟨by rw [fixK_len]; exact hN.len, fun _ => ⟨g, 0, rfl, fun j hj => ?_⟩, fun j hj => ?_⟩⟩
          · rw [fixK_len] at hj
            have hgl := (HO.out.lt g (by rw [hv]; rfl))
            have hown := ownsRow_only HO.out hW (fun b hb hh => by
              rw [hv] at hb
              simp only [Value.ownBlock, Option.some.injEq] at hb
              have := hS b hh; omega)
            rw [hv] at hown
            rw [Nat.zero_add, hown.cellAt j (by omega), ← (hrow S W hS hW hN j hj).1]
            simp [hj]
          · rw [fixK_len] at hj
            exact (hrow S W hS hW hN j hj).2
      obtain ⟨a, A', C', c, hue, hR⟩ := hfin.out
      have HR := Lib.hid hR
      rw [fixK_len] at hue
      subst hue
      clear hfin hR HO HE hkk
      go_wp2
      go_ret
      exact ⟨a, A', C', c, by rw [fixK_len]; rfl, HR.out, Bw.out⟩
end

section
open Go.RowKit

theorem GameAt.arenaC {w : World} {a0 a1 a2 : Value} {O P : List Int} {zss : List (List Int)} (h : GameAt w (.agg #[a0, a1, a2]) O zss P) : ArenaAt w (.agg #[a0, a1]) O zss := by
  obtain ⟨_, _, _, _, _, _, _, _, hv, h1, h2, _⟩ := h
  cases hv
  exact ⟨_, _, _, _, _, _, rfl, h1, h2⟩

set_option maxHeartbeats 4000000 in
set_option maxRecDepth 100000 in
theorem l6Right_is {w : World} {v : Value} {O P S Q : List Int} {zss : List (List Int)} {who : Int} {aS aQ : Option Addr} {r : Bool} (cS cQ : Nat) (hr : rightB O zss P who S Q = r) (h : GameAt w v O zss P) (hS : IntsAt w aS S) (hQ : IntsAt w aQ Q) :
    Calls Tryz.prog 48 #[v, .int .i64 who, .slice aS S.length cS, .slice aQ Q.length cQ] w fun e w' => e = .returned (.bool r) ∧ Below w.heap.size w w' := by
  have HGm := Lib.hid h
  obtain ⟨ao, an, ap, co, cn, cp, A, C, rfl, h1, h2, h3⟩ := h
  have HAt : Hid (ArenaAt w (.agg #[.slice ao O.length co, .slice an zss.length cn]) O zss) := ⟨_, _, _, _, _, _, rfl, h1, h2⟩
  have hlP := h3.len
  have hlS := hS.len
  have hlQ := hQ.len
  have HSi := Lib.hid hS
  have HQi := Lib.hid hQ
  obtain ⟨w1, hw1⟩ : ∃ y, y = w.alloc (.cells #[.slice ao O.length co, .slice an zss.length cn, .slice ap P.length cp] 32) := ⟨_, rfl⟩
  have HW1 := Lib.hid hw1
  have B1 : Hid (Below w.heap.size w w1) := by rw [hw1]; exact below1 _ _
  have T1 : Hid (Box3 w1 w.heap.size 32 (.slice ao O.length co) (.slice an zss.length cn) (.slice ap P.length cp)) := by rw [hw1]; exact Box3.new _ _ _ _ _
  clear hw1 h1 h2 h3 hS hQ
  cases hp : parityB O zss P with
  | false =>
    have HE : Hid (r = false) := by rw [← hr]; unfold rightB; rw [hp]; rfl
    have HC := Lib.hid (specParityOk_is hp (HGm.out.below B1.out))
    clear hr hp
    go_enter Tryz.func48, Tryz.ntmps48
    go_wp2_with fail
    rw [← HW1.out]
    refine HC.out.mono ?_
    rintro e w2 ⟨rfl, hb⟩
    have B2 := Lib.hid (B1.out.trans (hb.mono B1.out.size))
    clear hb HC
    go_wp2
    go_ret
    exact ⟨ret_bool HE.out.symm, B2.out⟩
  | true =>
    have HC := Lib.hid (specParityOk_is hp (HGm.out.below B1.out))
    cases hq : planB O zss who Q with
    | false =>
      have HE : Hid (r = false) := by rw [← hr]; unfold rightB; rw [hp, hq]; rfl
      have HQ2 := Lib.hid hq
      clear hr hp hq
      go_enter Tryz.func48, Tryz.ntmps48
      go_wp2_with fail
      rw [← HW1.out]
      refine HC.out.mono ?_
      rintro e w2 ⟨rfl, hb⟩
      have B2 := Lib.hid (B1.out.trans (hb.mono B1.out.size))
      have T2 := Lib.hid (T1.out.below hb)
      have t0 := T2.out.c0
      have t1 := T2.out.c1
      clear hb HC
      go_wp2_with fail
      refine (specPlanOk_is cQ HQ2.out (HAt.out.below B2.out) (HQi.out.below B2.out)).mono ?_
      rintro e w3 ⟨rfl, hb⟩
      have B3 := Lib.hid (B2.out.trans (hb.mono B2.out.size))
      clear hb t0 t1
      go_wp2
      go_ret
      exact ⟨ret_bool HE.out.symm, B3.out⟩
    | true =>
      have HE : Hid (setB P.length S = r) := by rw [← hr]; unfold rightB; rw [hp, hq]; rfl
      have HQ2 := Lib.hid hq
      clear hr hp hq
      go_enter Tryz.func48, Tryz.ntmps48
      go_wp2_with fail
      rw [← HW1.out]
      refine HC.out.mono ?_
      rintro e w2 ⟨rfl, hb⟩
      have B2 := Lib.hid (B1.out.trans (hb.mono B1.out.size))
      have T2 := Lib.hid (T1.out.below hb)
      have t0 := T2.out.c0
      have t1 := T2.out.c1
      clear hb HC
      go_wp2_with fail
      refine (specPlanOk_is cQ HQ2.out (HAt.out.below B2.out) (HQi.out.below B2.out)).mono ?_
      rintro e w3 ⟨rfl, hb⟩
      have B3 := Lib.hid (B2.out.trans (hb.mono B2.out.size))
      have T3 := Lib.hid (T2.out.below hb)
      clear hb t0 t1
      have t0 := T3.out.c0
      have t1 := T3.out.c1
      have t2 := T3.out.c2
      go_wp2_with fail
      refine (l4Set_is HE.out cS (HGm.out.below B3.out) (HSi.out.below B3.out)).mono ?_
      rintro e w4 ⟨rfl, hb⟩
      have B4 := Lib.hid (B3.out.trans (hb.mono B3.out.size))
      clear hb t0 t1 t2
      go_wp2
      go_ret
      exact ⟨rfl, B4.out⟩

theorem Box3.onlyC {w w' : World} {g : Nat} {t : TypeId} {a b c : Value} {S : Nat → Prop} (h : Box3 w g t a b c) (hk : Only S w w') (hs : ¬ S g) : Box3 w' g t a b c := rowIs_only h hk hs

/-- What is low while the first m of the region have been marked. -/
def lowG (P S : List Int) (u m : Nat) : Nat → Bool := fun v => decide ((v : Int) ∈ S.take m) && decide (nth P v ≤ nth P u)
theorem lowG_zero (P S : List Int) (u : Nat) (v : Nat) : lowG P S u 0 v = false := by simp [lowG]
theorem lowG_full (P S : List Int) (u v : Nat) : lowG P S u S.length v = lowI P S u v := by
  unfold lowG lowI
  rw [List.take_length]
  rfl
theorem lowG_step {P S : List Int} {u m y : Nat} (hm : m < S.length) (hy : nth S m = (y : Int)) (v : Nat) : mark1 (lowG P S u m) y (decide (nth P y ≤ nth P u)) v = lowG P S u (m + 1) v := by
  have ht : S.take (m + 1) = S.take m ++ [(y : Int)] := by rw [List.take_succ_eq_append_getElem hm, ← nth_eq hm, hy]
  unfold mark1 lowG
  rw [ht]
  by_cases e : v = y
  · subst e; simp
  · have : ¬ (v : Int) = (y : Int) := by omega
    simp [e, this]

set_option maxHeartbeats 16000000 in
set_option maxRecDepth 100000 in
theorem specBadLoops_is {w : World} {v : Value} {O P S Q r : List Int} {zss : List (List Int)} {who : Int} {aS aQ : Option Addr} (cS cQ : Nat) (hr : badL O zss P who S Q = r) (h : GameAt w v O zss P) (hS : IntsAt w aS S) (hQ : IntsAt w aQ Q) :
    Calls Tryz.prog 16 #[v, .int .i64 who, .slice aS S.length cS, .slice aQ Q.length cQ] w (GivesInts w r) := by
  obtain ⟨i0, hi, hz0, hz1, hz2⟩ := info_parts info_int
  have HGm := Lib.hid h
  obtain ⟨ao, an, ap, co, cn, cp, A, C, rfl, h1, h2, h3⟩ := h
  have hlP := h3.len
  have hlS := hS.len
  have hlQ := hQ.len
  have HOi := Lib.hid h1
  have HNi := Lib.hid h2
  have HPi := Lib.hid h3
  have HSi := Lib.hid hS
  have HQi := Lib.hid hQ
  obtain ⟨w1, hw1⟩ : ∃ y, y = w.alloc (.cells #[.slice ao O.length co, .slice an zss.length cn, .slice ap P.length cp] 32) := ⟨_, rfl⟩
  have HW1 := Lib.hid hw1
  have hs1 : w1.heap.size = w.heap.size + 1 := by rw [hw1]; simp
  have HS1 := Lib.hid hs1
  have hb1 : Below w.heap.size w w1 := by rw [hw1]; exact below1 _ _
  have hT1 : Box3 w1 w.heap.size 32 (.slice ao O.length co) (.slice an zss.length cn) (.slice ap P.length cp) := by rw [hw1]; exact Box3.new _ _ _ _ _
  obtain ⟨w2, hw2⟩ : ∃ y, y = w1.alloc (.cells #[] 2) := ⟨_, rfl⟩
  have HW2 := Lib.hid hw2
  have hs2 : w2.heap.size = w1.heap.size + 1 := by rw [hw2]; simp
  have HS2 := Lib.hid hs2
  have hb2 : Below w1.heap.size w1 w2 := by rw [hw2]; exact below1 _ _
  have O2 : Hid (w2.ownsRow w1.heap.size 2 1 (.slice (some ⟨w1.heap.size, 0, none⟩) 0 0) ([] : List Int).length (([] : List Int).map (Value.int .i64))) := by rw [hw2]; exact World.ownsRow_made w1 #[] 0 (Nat.le_refl _) (by unfold maxLen; omega) rfl
  have B2 := Lib.hid (hb1.trans (hb2.mono hb1.size))
  have T2 := Lib.hid (hT1.below hb2)
  obtain ⟨b, hb⟩ : ∃ b, rightB O zss P who S Q = b := ⟨_, rfl⟩
  have HC := Lib.hid (l6Right_is cS cQ hb (HGm.out.below B2.out) (HSi.out.below B2.out) (HQi.out.below B2.out))
  clear hw1 hw2 h1 h2 h3 hS hQ hb1 hT1 hs1 hs2 hb2
  cases b with
  | false =>
    have HE : Hid (r = []) := by rw [← hr]; unfold badL; rw [if_neg (by rw [hb]; decide)]; rfl
    clear hr hb
    go_enter Tryz.func16, Tryz.ntmps16
    go_wp2_with fail
    rw [← HW1.out, ← HS1.out, ← HW2.out]
    refine HC.out.mono ?_
    rintro e w3 ⟨rfl, hb⟩
    have B3 := Lib.hid (B2.out.trans (hb.mono B2.out.size))
    have O3 := Lib.hid (ownsRow_only O2.out (S := fun _ => False) (Only.of_below hb) (fun _ _ h => h))
    have hbase : w.heap.size ≤ w1.heap.size := by have := HS1.out; omega
    clear hb HC
    go_wp2
    go_ret
    refine ⟨_, rfl, ?_, B3.out⟩
    rw [HE.out]
    exact (OwnInts.mk' O3.out (by simp) (fun k hk => absurd hk (by simp))).base hbase
  | true =>
    have hrt := hb
    unfold rightB at hrt
    rw [Bool.and_eq_true, Bool.and_eq_true] at hrt
    obtain ⟨hpar, hplan, hset⟩ := hrt
    obtain ⟨hA, hPl, hPb⟩ := parityB_iff.1 hpar
    have hQp := (planB_iff.1 hplan).2.2
    have HA := Lib.hid hA
    have HPB := Lib.hid hPb
    have hzO : zss.length = O.length := hA.2.2.1
    have HPL := Lib.hid hPl
    have HZP : Hid (zss.length = P.length) := by unfold Hid; omega
    have hP256 : P.length ≤ 256 := by have := hA.2.1; omega
    have HQL : Hid (Q.length = zss.length) := by have := hQp.1; unfold Hid; omega
    have HAF : Hid (ArenaP O (fixK zss Q zss.length)) := fix_valid hA hQp
    have HSN : Hid (∀ x ∈ S, ∃ u : Nat, x = (u : Int) ∧ u < P.length) := fun x hx => by
      obtain ⟨i, hi, rfl⟩ := mem_nth.1 hx
      obtain ⟨h0, h1, _⟩ := setB_bounds hset hi
      exact ⟨(nth S i).toNat, by omega, by omega⟩
    have hS256 : S.length ≤ 256 := by
      have : (S.length : Int) ≤ (P.length : Int) := setB_len (Int.natCast_nonneg _) hset
      omega
    obtain ⟨f, hf⟩ : ∃ f, f = badM zss P who S Q := ⟨_, rfl⟩
    have HE : Hid (S.filter f = r) := by rw [← hr, hf]; unfold badL; rw [if_pos hb]; rfl
    have HFN : Hid (∀ u : Nat, nth P u % 2 = who → f (u : Int) = false) := fun u hu => by
      rw [hf]; unfold badM
      rw [@decide_eq_false_iff_not _ (Classical.propDecidable _), Int.toNat_natCast]
      exact fun h => h.1 hu
    have HFY : Hid (∀ u : Nat, nth P u % 2 ≠ who → f (u : Int) = beyM (fixK zss Q zss.length) (lowI P S u) [(u : Int)] u) := fun u hu => by
      rw [hf]; unfold badM beyM BadP
      rw [Int.toNat_natCast, Bool.eq_iff_iff, @decide_eq_true_eq _ (Classical.propDecidable _), @decide_eq_true_eq _ (Classical.propDecidable _)]
      exact ⟨fun h => h.2, fun h => ⟨hu, h⟩⟩
    have hbase : w.heap.size ≤ w1.heap.size := by have := HS1.out; omega
    have hmk := run_make_row' (P := Tryz.prog) 84 4 (.bool false) 1 Tryz.underlying84 info_bool rfl .i64 .i64 P.length (by omega) (by omega)
    have HMK := Lib.hid hmk
    have HEd := Lib.hid (fun W (hb : Below w.heap.size w W) => l6Edges_is (w := W) (ao := ao) (an := an) (co := co) (cn := cn) (A := A) (C := C) cQ HQL.out (by omega) (HOi.out.below hb) (HNi.out.below hb) (HQi.out.below hb))
    clear hr hb hpar hplan hset hA hPl hPb hQp hzO hf hmk
    go_enter Tryz.func16, Tryz.ntmps16
    go_wp2_with fail
    rw [← HW1.out, ← HS1.out, ← HW2.out]
    refine HC.out.mono ?_
    rintro e w3 ⟨rfl, hb⟩
    have B3 := Lib.hid (B2.out.trans (hb.mono B2.out.size))
    have O3 := Lib.hid (ownsRow_only O2.out (S := fun _ => False) (Only.of_below hb) (fun _ _ h => h))
    have T3 := Lib.hid (T2.out.below hb)
    have hz23 : w2.heap.size ≤ w3.heap.size := hb.size
    clear hb HC O2 T2 B2
    have t0 := T3.out.c0
    have t1 := T3.out.c1
    go_wp2_with fail
    refine (HEd.out _ B3.out).mono ?_
    rintro e w4 ⟨ea, EA, EC, ec, rfl, hrows, hb⟩
    have B4 := Lib.hid (B3.out.trans (hb.mono B3.out.size))
    have O4 := Lib.hid (ownsRow_only O3.out (S := fun _ => False) (Only.of_below hb) (fun _ _ h => h))
    have T4 := Lib.hid (T3.out.below hb)
    have hz34 : w3.heap.size ≤ w4.heap.size := hb.size
    have HER : Hid (∀ W : World, Only (fun b => b = w1.heap.size ∨ w4.heap.size ≤ b) w4 W → RowsAt W ea EA EC (fixK zss Q zss.length)) := fun W hW =>
      hrows _ W (fun b hb => by have := HS2.out; omega) hW (HNi.out.below (B4.out.trans (hW.below (B := w.heap.size) B4.out.size (fun b hb => by have := B4.out.size; omega))))
    have HEL : Hid ((fixK zss Q zss.length).length = P.length) := by rw [fixK_len]; exact HZP.out
    rw [HEL.out]
    clear hb hrows t0 t1 O3 T3
    have O4' : Hid (w4.ownsRow w1.heap.size 2 1 (.slice (some ⟨w1.heap.size, 0, none⟩) 0 0) ((S.take 0).filter f).length (((S.take 0).filter f).map (Value.int .i64))) := by unfold Hid; simpa using O4.out
    clear O4
    go_wp2
    go_loopw [9, 11] (fun ov iv wr => ∃ (k : Nat) (uu : Value), uu = ov ∧ k ≤ S.length ∧ iv = .int .i64 k ∧ Hid (wr.ownsRow w1.heap.size 2 1 ov ((S.take k).filter f).length (((S.take k).filter f).map (Value.int .i64))) ∧ Hid (Only (fun b => b = w1.heap.size ∨ w4.heap.size ≤ b) w4 wr) ∧ Hid (∀ b, ov.ownBlock = some b → b = w1.heap.size ∨ w4.heap.size ≤ b)) (fun _ iv _ => S.length - (intOf iv).toNat)
    case atStart => exact ⟨0, _, rfl, Nat.zero_le _, rfl, O4', Only.refl _ _, fun b hb => by simp [Value.ownBlock] at hb; exact .inl hb.symm⟩
    case round =>
      clear O4'
      obtain ⟨k, uu, hu0, hk, rfl, HO, HK, HWH⟩ := hrel
      subst hu0
      have hksz := HK.out.size
      have Bw := Lib.hid (B4.out.trans (HK.out.below (B := w.heap.size) B4.out.size (fun b hb => by have := B4.out.size; omega)))
      have Tw := Lib.hid (Box3.onlyC T4.out HK.out (by have := HS1.out; have := T4.out.lt; omega))
      have hll : ((S.take k).filter f).length ≤ 256 := by
        have := List.length_filter_le f (S.take k)
        have := List.length_take_le k S
        omega
      by_cases hlt : k < S.length
      · have hi1 : (k : Int) < S.length := by omega
        have hk0 : (0 : Int) ≤ (k : Int) := by omega
        obtain ⟨u, hu, hun⟩ := HSN.out _ (nth_mem hlt)
        have HU := Lib.hid hu
        have hu0 : (0 : Int) ≤ (u : Int) := by omega
        have hu1 : (u : Int) < P.length := by omega
        obtain ⟨sb, so, hsa, hsc⟩ := (HSi.out.below Bw.out).cell (by omega)
        obtain ⟨pb, po, hpa, hpc⟩ := (HPi.out.below Bw.out).cell (by omega)
        have s1 := hsc k hlt
        have p1 := hpc u hun
        rw [hu] at s1
        have t2 := Tw.out.c2
        obtain ⟨p, hp⟩ : ∃ p, p = nth P u := ⟨_, rfl⟩
        have HPp := Lib.hid hp
        have hp0 : 0 ≤ p := by rw [hp]; exact (HPB.out _ (nth_mem hun)).1
        rw [← hp] at p1
        have hstep := with_step f (S := S) (k := k) hlt
        rw [hu] at hstep
        have HSTEP := Lib.hid hstep
        clear hp hu hstep
        by_cases e1 : p % 2 = who
        · have he1 : (p % 2 == who) = true := by simpa using e1
          have HOn : Hid (wr.ownsRow w1.heap.size 2 1 uu ((S.take (k + 1)).filter f).length (((S.take (k + 1)).filter f).map (Value.int .i64))) := by
            rw [HSTEP.out, HFN.out u (by rw [← HPp.out]; exact e1)]
            unfold Hid; simpa using HO.out
          subst hsa
          subst hpa
          clear hsc hpc e1
          go_wp2
          go_roundw
          case rel => exact ⟨k + 1, _, rfl, by omega, by go_num, HOn, HK, HWH⟩
          case measure => simp [intOf]; omega
        · have he1 : (p % 2 == who) = false := beq_eq_false_iff_ne.2 e1
          have hsb : sb < w.heap.size := by
            obtain ⟨b, o, ha, hc⟩ := HSi.out.cell (by omega)
            have h := ha.symm.trans hsa
            simp only [Option.some.injEq, Addr.mk.injEq, and_true] at h
            rw [← h.1]
            exact World.block_lt_of_cell? _ ⟨b, o + k, none⟩ (hc k hlt)
          have hpb : pb < w.heap.size := by
            obtain ⟨b, o, ha, hc⟩ := HPi.out.cell (by omega)
            have h := ha.symm.trans hpa
            simp only [Option.some.injEq, Addr.mk.injEq, and_true] at h
            rw [← h.1]
            exact World.block_lt_of_cell? _ ⟨b, o + u, none⟩ (hc u hun)
          have HSC := Lib.hid hsc
          have HPC := Lib.hid hpc
          have hmk := HMK.out
          have HFu : Hid (f (u : Int) = beyM (fixK zss Q zss.length) (lowI P S u) [(u : Int)] u) := HFY.out u (by rw [← HPp.out]; exact e1)
          obtain ⟨gb, hgb⟩ : ∃ gb, gb = wr.heap.size := ⟨_, rfl⟩
          obtain ⟨wm, hwm⟩ : ∃ y, y = wr.alloc (.cells (madeCells #[.bool false] P.length) 4) := ⟨_, rfl⟩
          have HWM := Lib.hid hwm
          have R0 : Hid (wm.rowIs gb 4 P.length (marksV (lowG P S u 0))) := by
            rw [hwm, hgb]
            exact (World.rowIs_made wr _ _ _).congr (fun i _ => by simp [marksV, lowG_zero])
          have K0 : Hid (Below wr.heap.size wr wm) := by rw [hwm]; exact below1 _ _
          have HGB := Lib.hid hgb
          subst hsa
          subst hpa
          clear hsc hpc e1 hwm hgb
          go_wp2
          rw [← HGB.out, ← HWM.out]
          obtain ⟨wo, hwo⟩ : ∃ y, y = wr := ⟨_, rfl⟩
          rw [← hwo] at HK Bw Tw HO HGB hksz K0 s1 p1 t2
          clear hwo HWM hmk s1 p1 t2
          have hgw : w.heap.size ≤ gb := by have := Bw.out.size; have := HGB.out; omega
          have hg4 : w4.heap.size ≤ gb := by have := HGB.out; omega
          go_loopw [14] (fun jv wi => ∃ m : Nat, m ≤ S.length ∧ jv = .int .i64 m ∧ Hid (wi.rowIs gb 4 P.length (marksV (lowG P S u m))) ∧ Hid (Below wo.heap.size wo wi)) (fun jv _ => S.length - (intOf jv).toNat)
          case atStart => exact ⟨0, Nat.zero_le _, rfl, R0, K0⟩
          case round =>
            clear R0 K0
            obtain ⟨m, hm, rfl, HR, HB⟩ := hrel
            have Bx := Lib.hid (Bw.out.trans (HB.out.mono Bw.out.size))
            have Tx := Lib.hid (Tw.out.below HB.out)
            by_cases hml : m < S.length
            · have hm0 : (0 : Int) ≤ (m : Int) := by omega
              have hm1 : (m : Int) < S.length := by omega
              obtain ⟨y, hy, hyn⟩ := HSN.out _ (nth_mem hml)
              have hy0 : (0 : Int) ≤ (y : Int) := by omega
              have hy1 : (y : Int) < P.length := by omega
              obtain ⟨sb', so', hsa, hsc⟩ := (HSi.out.below Bx.out).cell (by omega)
              obtain ⟨pb', po', hpa, hpc⟩ := (HPi.out.below Bx.out).cell (by omega)
              simp only [Option.some.injEq, Addr.mk.injEq, and_true] at hsa hpa
              obtain ⟨rfl, rfl⟩ := hsa
              obtain ⟨rfl, rfl⟩ := hpa
              have s2 := hsc m hml
              have p2 := hpc y hyn
              have p1 := hpc u hun
              rw [hy] at s2
              rw [← HPp.out] at p1
              obtain ⟨py, hpy⟩ : ∃ py, py = nth P y := ⟨_, rfl⟩
              rw [← hpy] at p2
              have t2 := Tx.out.c2
              have Kd : Hid (Below wr.heap.size wr wr.drew) := (Below.refl _ _).drew
              have HSt : Hid (∀ W, Below wr.heap.size wr W → W.cell? ⟨w.heap.size, 2, none⟩ = some (.slice (some ⟨pb, po, none⟩) P.length cp) ∧ W.cell? ⟨sb, so + m, none⟩ = some (.int .i64 y) ∧ W.cell? ⟨pb, po + y, none⟩ = some (.int .i64 py) ∧ W.cell? ⟨pb, po + u, none⟩ = some (.int .i64 p)) := fun W hb =>
                ⟨(Tx.out.below hb).c2, Below.cell_some (B := 0) hb rfl s2, Below.cell_some (B := 0) hb rfl p2, Below.cell_some (B := 0) hb rfl p1⟩
              have hgT : w.heap.size < gb := by have := Tw.out.lt; have := HGB.out; omega
              have HSu : Hid (∀ W, Below wr.heap.size wr W → ∀ x, (W.setCell ⟨gb, y, none⟩ x).cell? ⟨w.heap.size, 2, none⟩ = some (.slice (some ⟨pb, po, none⟩) P.length cp) ∧ (W.setCell ⟨gb, y, none⟩ x).cell? ⟨sb, so + m, none⟩ = some (.int .i64 y) ∧ (W.setCell ⟨gb, y, none⟩ x).cell? ⟨pb, po + y, none⟩ = some (.int .i64 py) ∧ (W.setCell ⟨gb, y, none⟩ x).cell? ⟨pb, po + u, none⟩ = some (.int .i64 p)) := fun W hb x =>
                ⟨cell_other (HSt.out W hb).1 (by show w.heap.size ≠ gb; omega) x, cell_other (HSt.out W hb).2.1 (by show sb ≠ gb; omega) x, cell_other (HSt.out W hb).2.2.1 (by show pb ≠ gb; omega) x, cell_other (HSt.out W hb).2.2.2 (by show pb ≠ gb; omega) x⟩
              have mc : wr.drew.cell? ⟨gb, y, none⟩ = some (.bool (lowG P S u m y)) := (rowIs_below HR.out Kd.out).cell hyn
              have mf : wr.drew.frozen? ⟨gb, y, none⟩ = false := (rowIs_below HR.out Kd.out).frozen y
              have HRn : Hid ((wr.drew.setCell ⟨gb, y, none⟩ (.bool (decide (py ≤ p)))).rowIs gb 4 P.length (marksV (lowG P S u (m + 1)))) := by
                have h := marks_set (v := y) (c := decide (py ≤ p)) (rowIs_below HR.out Kd.out)
                refine h.congr fun i _ => ?_
                simp only [marksV]
                rw [← lowG_step hml hy, ← hpy, ← HPp.out]
              have HBn : Hid (Below wo.heap.size wo (wr.drew.setCell ⟨gb, y, none⟩ (.bool (decide (py ≤ p))))) := (HB.out.trans (Kd.out.mono HB.out.size)).setCell (p := ⟨gb, y, none⟩) (by show wo.heap.size ≤ gb; have := HGB.out; omega) _
              have s0 := HSt.out _ Kd.out
              clear hsc hpc hy hpy p1 p2 s2 t2
              obtain ⟨lk, hlk⟩ : ∃ lk, lowG P S u m y = lk := ⟨_, rfl⟩
              rw [hlk] at mc
              clear hlk
              go_wp2
              go_region_held3 (fun W => W.cell? ⟨w.heap.size, 2, none⟩ = some (.slice (some ⟨pb, po, none⟩) P.length cp) ∧ W.cell? ⟨sb, so + m, none⟩ = some (.int .i64 y) ∧ W.cell? ⟨pb, po + y, none⟩ = some (.int .i64 py) ∧ W.cell? ⟨pb, po + u, none⟩ = some (.int .i64 p))
                (first
                  | exact HSt.out _ Kd.out
                  | exact HSu.out _ Kd.out _)
                (fail)
              clear mc mf s0
              go_wp2
              go_roundw
              case rel => exact ⟨m + 1, by omega, by go_num, HRn, HBn⟩
              case measure => simp [intOf]; omega
            · have hm1 : ¬ (m : Int) < S.length := by omega
              have hmm : m = S.length := by omega
              rw [hmm] at HR
              have HL : Hid (wr.rowIs gb 4 P.length (marksV (lowI P S u))) := HR.out.congr fun i _ => by simp only [marksV]; rw [lowG_full]
              have hbx := below1 wr (.cells #[.int .i64 (u : Int)] 2)
              have hOx : Only (fun b => b = w1.heap.size ∨ w4.heap.size ≤ b) w4 (wr.alloc (.cells #[.int .i64 (u : Int)] 2)) := (HK.out.trans (Only.of_below HB.out)).trans (Only.of_below hbx)
              have HBy : Hid (Calls Tryz.prog 50 #[.slice ea P.length ec, .slice (some ⟨gb, 0, none⟩) P.length P.length, .slice (some ⟨wr.heap.size, 0, none⟩) 1 1] (wr.alloc (.cells #[.int .i64 (u : Int)] 2)) fun e w' => e = .returned (.slice (some ⟨wr.heap.size + 1, 0, none⟩) P.length P.length) ∧
                  w'.rowIs (wr.heap.size + 1) 4 P.length (marksV (beyM (fixK zss Q zss.length) (lowI P S u) [(u : Int)])) ∧ Below (wr.heap.size + 1) (wr.alloc (.cells #[.int .i64 (u : Int)] 2)) w') := by
                have hI1 : IntsAt (wr.alloc (.cells #[.int .i64 (u : Int)] 2)) (some ⟨wr.heap.size, 0, none⟩) [(u : Int)] := by
                  obtain ⟨a, c, hv, hI, _⟩ := (own_new wr (u : Int) (by unfold Fits; omega)).shape
                  simp only [Value.slice.injEq] at hv
                  rw [hv.1]; exact hI
                have h := l1Beyond_is (w := wr.alloc (.cells #[.int .i64 (u : Int)] 2)) (zss := fixK zss Q zss.length) (I := lowI P S u) (F := [(u : Int)]) (bI := gb) ec 1 (HER.out _ hOx) (by rw [HEL.out]; exact rowIs_below HL.out hbx) hI1 (by rw [HEL.out]; exact hP256) (by simp)
                  (fun x hx => (HAF.out.2.2.2 x (by have h1 := HEL.out; have h2 := HPL.out; omega)).2.2.1) (fun x hx => by
                    simp only [List.mem_singleton] at hx
                    exact ⟨u, hx, by rw [HEL.out]; exact hun⟩) (fun x hx y hy => by
                    obtain ⟨i, hi, rfl⟩ := mem_nth.1 hy
                    obtain ⟨h0, h1, _⟩ := setB_bounds (HAF.out.2.2.2 x (by have h1 := HEL.out; have h2 := HPL.out; omega)).2.2.2 hi
                    exact ⟨(nth (row (fixK zss Q zss.length) x) i).toNat, by omega, by have h1 := HEL.out; have h2 := HPL.out; omega⟩)
                rw [HEL.out, World.size_alloc] at h
                exact h
              clear hmm HR hbx hOx
              go_wp2_with fail
              refine HBy.out.mono ?_
              rintro e w5 ⟨rfl, hM, hb⟩
              have hbc := hM.cell hun
              simp only [marksV] at hbc
              rw [← HFu.out] at hbc
              have hb5 : Below wr.heap.size wr w5 := (below1 wr (.cells #[.int .i64 (u : Int)] 2)).trans (hb.mono (by omega))
              have K5 := Lib.hid (HB.out.trans (hb5.mono HB.out.size))
              have O5 := Lib.hid (ownsRow_only HO.out (S := fun _ => False) (Only.of_below K5.out) (fun _ _ h => h))
              have N5 := Lib.hid (HK.out.trans (Only.of_below K5.out))
              have hz5 : w1.heap.size ≤ w5.heap.size := by have := N5.out.size; have := B4.out.size; have := HS1.out; have := HS2.out; omega
              clear hM hb hb5 HBy
              cases hfb : f (u : Int) with
              | true =>
                rw [hfb] at hbc
                have hst := HSTEP.out
                rw [hfb, if_pos rfl] at hst
                have HST := Lib.hid hst
                clear hfb hst
                go_wp2_with (at_builtin; refine wpList_append_own_at _ rfl _ _ 27 rfl w1.heap.size 2 i0 (.int .i64 0) 1 8 Tryz.underlying27 hi hz0 hz1 hz2 rfl (by decide) _ _ _ rfl (O5.out.alloc _) ⟨w5.heap.size, 0, none⟩ 1 1 [.int .i64 (u : Int)] rfl rfl ?c1 ?c2 ?c3 ?c4 ?c5 ?_)
                try (case c1 => exact cell_one_new _ _ _)
                try (case c2 => first | rfl | (intro u hu; simp at hu; subst hu; rfl))
                case c3 => unfold maxLen; omega
                case c4 => omega
                case c5 => simp; omega
                intro v' w7 hown hgrow _ hwh
                have hg : Only (fun b => uu.ownBlock = some b) w5 w7 := (Only.of_below (below1 w5 _)).trans (Only.of_grown hgrow)
                have Kn := Lib.hid (N5.out.trans (hg.mono fun b hb => HWH.out b hb))
                have HWn : Hid (∀ b, v'.ownBlock = some b → b = w1.heap.size ∨ w4.heap.size ≤ b) := fun b hb => by
                  rcases hwh with h | h
                  · exact HWH.out b (by rw [← h]; exact hb)
                  · rw [h] at hb
                    simp only [Option.some.injEq] at hb
                    have := N5.out.size
                    exact .inr (by omega)
                have HOn : Hid (w7.ownsRow w1.heap.size 2 1 v' ((S.take (k + 1)).filter f).length (((S.take (k + 1)).filter f).map (Value.int .i64))) := by
                  rw [HST.out, List.map_append, List.length_append]; exact hown
                clear hown hgrow hg hwh hbc
                go_wp2
                go_roundw
                case rel => exact ⟨k + 1, _, rfl, by omega, by go_num, HOn, Kn, HWn⟩
                case measure => simp [intOf]; omega
              | false =>
                rw [hfb] at hbc
                have hst := HSTEP.out
                rw [hfb] at hst
                have HOn : Hid (w5.ownsRow w1.heap.size 2 1 uu ((S.take (k + 1)).filter f).length (((S.take (k + 1)).filter f).map (Value.int .i64))) := by
                  rw [hst]; unfold Hid; simpa using O5.out
                clear hfb hst
                go_wp2
                clear hbc
                go_roundw
                case rel => exact ⟨k + 1, _, rfl, by omega, by go_num, HOn, N5, HWH⟩
                case measure => simp [intOf]; omega
      · have hi1 : ¬ (k : Int) < S.length := by omega
        have hkk : k = S.length := by omega
        rw [hkk, List.take_length, HE.out] at HO
        have hfin := Lib.hid (And.intro ((OwnInts.mk' HO.out (by
            rw [← HE.out]; have := List.length_filter_le f S; omega) (fun j hj => by
          have hm := nth_mem hj
          rw [← HE.out] at hm
          have hm2 := (List.mem_filter.1 (by rw [HE.out] at hm ⊢; exact hm : nth r j ∈ S.filter f)).1
          obtain ⟨y, hy, hyn⟩ := HSN.out _ hm2
          rw [hy]; unfold Fits; omega)).base hbase) Bw.out)
        clear hkk HO
        go_wp2
        go_ret
        exact ⟨_, rfl, hfin.out.1, hfin.out.2⟩
end

section
open Go.RowKit

set_option maxHeartbeats 4000000 in
set_option maxRecDepth 100000 in
theorem specCleanIn_is {w : World} {v : Value} {O P S Q : List Int} {zss : List (List Int)} {who : Int} {aS aQ : Option Addr} {r : Bool} (cS cQ : Nat) (hr : cleanB O zss P who S Q = r) (h : GameAt w v O zss P) (hS : IntsAt w aS S) (hQ : IntsAt w aQ Q) :
    Calls Tryz.prog 30 #[v, .int .i64 who, .slice aS S.length cS, .slice aQ Q.length cQ] w fun e w' => e = .returned (.bool r) ∧ Below w.heap.size w w' := by
  have HGm := Lib.hid h
  obtain ⟨ao, an, ap, co, cn, cp, A, C, rfl, h1, h2, h3⟩ := h
  have hlP := h3.len
  have hlS := hS.len
  have hlQ := hQ.len
  have HSi := Lib.hid hS
  have HQi := Lib.hid hQ
  obtain ⟨w1, hw1⟩ : ∃ y, y = w.alloc (.cells #[.slice ao O.length co, .slice an zss.length cn, .slice ap P.length cp] 32) := ⟨_, rfl⟩
  have HW1 := Lib.hid hw1
  have B1 : Hid (Below w.heap.size w w1) := by rw [hw1]; exact below1 _ _
  have T1 : Hid (Box3 w1 w.heap.size 32 (.slice ao O.length co) (.slice an zss.length cn) (.slice ap P.length cp)) := by rw [hw1]; exact Box3.new _ _ _ _ _
  clear hw1 h1 h2 h3 hS hQ
  obtain ⟨b, hb⟩ : ∃ b, rightB O zss P who S Q = b := ⟨_, rfl⟩
  have HC := Lib.hid (l6Right_is cS cQ hb (HGm.out.below B1.out) (HSi.out.below B1.out) (HQi.out.below B1.out))
  cases b with
  | false =>
    have HE : Hid (r = false) := by rw [← hr]; unfold cleanB; rw [hb]; rfl
    clear hr hb
    go_enter Tryz.func30, Tryz.ntmps30
    go_wp2_with fail
    rw [← HW1.out]
    refine HC.out.mono ?_
    rintro e w2 ⟨rfl, hb⟩
    have B2 := Lib.hid (B1.out.trans (hb.mono B1.out.size))
    clear hb HC
    go_wp2
    go_ret
    exact ⟨ret_bool HE.out.symm, B2.out⟩
  | true =>
    obtain ⟨bl, hbl⟩ : ∃ bl, badL O zss P who S Q = bl := ⟨_, rfl⟩
    have HE : Hid (((bl.length : Int) == 0) = r) := by
      rw [← hr]; unfold cleanB Hid; rw [hb, hbl, Bool.true_and, Bool.eq_iff_iff]
      simp
    have HBL := Lib.hid hbl
    clear hr hb hbl
    go_enter Tryz.func30, Tryz.ntmps30
    go_wp2_with fail
    rw [← HW1.out]
    refine HC.out.mono ?_
    rintro e w2 ⟨rfl, hb⟩
    have B2 := Lib.hid (B1.out.trans (hb.mono B1.out.size))
    have T2 := Lib.hid (T1.out.below hb)
    have t0 := T2.out.c0
    have t1 := T2.out.c1
    have t2 := T2.out.c2
    clear hb HC
    go_wp2_with fail
    refine (specBadLoops_is cS cQ HBL.out (HGm.out.below B2.out) (HSi.out.below B2.out) (HQi.out.below B2.out)).mono ?_
    rintro e w3 ⟨x, rfl, hx, hb⟩
    obtain ⟨xa, xc, hxs, _, _⟩ := hx.shape
    subst hxs
    have B3 := Lib.hid (B2.out.trans (hb.mono B2.out.size))
    clear hb hx t0 t1 t2
    go_wp2
    go_ret
    exact ⟨ret_bool HE.out, B3.out⟩

set_option maxHeartbeats 4000000 in
set_option maxRecDepth 100000 in
theorem specWinsBy_is {w : World} {v : Value} {O P S Q : List Int} {zss : List (List Int)} {who : Int} {aS aQ : Option Addr} {r : Bool} (cS cQ : Nat) (hr : winsB O zss P who S Q = r) (h : GameAt w v O zss P) (hS : IntsAt w aS S) (hQ : IntsAt w aQ Q) :
    Calls Tryz.prog 14 #[v, .int .i64 who, .slice aS S.length cS, .slice aQ Q.length cQ] w fun e w' => e = .returned (.bool r) ∧ Below w.heap.size w w' := by
  have HGm := Lib.hid h
  obtain ⟨ao, an, ap, co, cn, cp, A, C, rfl, h1, h2, h3⟩ := h
  have HAt : Hid (ArenaAt w (.agg #[.slice ao O.length co, .slice an zss.length cn]) O zss) := ⟨_, _, _, _, _, _, rfl, h1, h2⟩
  have hlP := h3.len
  have hlS := hS.len
  have hlQ := hQ.len
  have HSi := Lib.hid hS
  have HQi := Lib.hid hQ
  obtain ⟨w1, hw1⟩ : ∃ y, y = w.alloc (.cells #[.slice ao O.length co, .slice an zss.length cn, .slice ap P.length cp] 32) := ⟨_, rfl⟩
  have HW1 := Lib.hid hw1
  have B1 : Hid (Below w.heap.size w w1) := by rw [hw1]; exact below1 _ _
  have T1 : Hid (Box3 w1 w.heap.size 32 (.slice ao O.length co) (.slice an zss.length cn) (.slice ap P.length cp)) := by rw [hw1]; exact Box3.new _ _ _ _ _
  clear hw1 h1 h2 h3 hS hQ
  obtain ⟨b, hb⟩ : ∃ b, cleanB O zss P who S Q = b := ⟨_, rfl⟩
  have HC := Lib.hid (specCleanIn_is cS cQ hb (HGm.out.below B1.out) (HSi.out.below B1.out) (HQi.out.below B1.out))
  cases b with
  | false =>
    have HE : Hid (r = false) := by rw [← hr]; unfold winsB; rw [hb]; rfl
    clear hr hb
    go_enter Tryz.func14, Tryz.ntmps14
    go_wp2_with fail
    rw [← HW1.out]
    refine HC.out.mono ?_
    rintro e w2 ⟨rfl, hb⟩
    have B2 := Lib.hid (B1.out.trans (hb.mono B1.out.size))
    clear hb HC
    go_wp2
    go_ret
    exact ⟨ret_bool HE.out.symm, B2.out⟩
  | true =>
    have HE : Hid (closB O zss who S Q = r) := by rw [← hr]; unfold winsB; rw [hb]; rfl
    clear hr hb
    go_enter Tryz.func14, Tryz.ntmps14
    go_wp2_with fail
    rw [← HW1.out]
    refine HC.out.mono ?_
    rintro e w2 ⟨rfl, hb⟩
    have B2 := Lib.hid (B1.out.trans (hb.mono B1.out.size))
    have T2 := Lib.hid (T1.out.below hb)
    have t0 := T2.out.c0
    have t1 := T2.out.c1
    clear hb HC
    go_wp2_with fail
    refine (specClosedIn_is cS cQ HE.out (HAt.out.below B2.out) (HSi.out.below B2.out) (HQi.out.below B2.out)).mono ?_
    rintro e w3 ⟨rfl, hb⟩
    have B3 := Lib.hid (B2.out.trans (hb.mono B2.out.size))
    clear hb t0 t1
    go_wp2
    go_ret
    exact ⟨rfl, B3.out⟩
end

end Go.Proofs.YtokcinhopajniaaGreatDoor
