/-
  Contracts of chapter 6: the program's exits.
-/
import Derived.Test.YtokcinhopajniaaGreatDoorCheckMath
import Derived.Test.YtokcinhopajniaaGreatDoorPlanImpl
import Derived.Test.YtokcinhopajniaaGreatDoorFixedImpl
import Derived.Test.YtokcinhopajniaaGreatDoorDraw1
namespace Go.Proofs.YtokcinhopajniaaGreatDoor
section
open Go.RowKit

/-- Is x an exit of the region? -/
def outV (O : List Int) (es : List (List Int)) (who : Int) (S Q : List Int) (x : Int) : Bool :=
  decide (0 < ((row es x.toNat).filter (outT S)).length) || (decide (nth O x.toNat = who) && decide (nth Q x.toNat = -1))
theorem outs_iff {O S Q : List Int} {zss : List (List Int)} {who : Int} (hA : ArenaP O zss) (hQ : PlanP O zss who Q) (hS : setB O.length S = true) :
    (S.filter (outV O (fixK zss Q zss.length) who S Q)).length = 0 ↔ ClosP O zss who S Q := by
  rw [List.length_eq_zero_iff, List.filter_eq_nil_iff]
  have key : ∀ v : Nat, (v : Int) ∈ S → (outV O (fixK zss Q zss.length) who S Q (v : Int) = false ↔ ((nth O v = who → 0 ≤ nth Q v ∧ nth Q v ∈ S) ∧ (nth O v ≠ who → ∀ x ∈ row zss v, x ∈ S))) := fun v hv => by
    obtain ⟨u, hu, hun⟩ := set_nats hS _ hv
    have huv : u = v := by omega
    subst huv
    have hz : u < zss.length := by rw [hA.2.2.1]; exact hun
    have hq := hQ.2 u (by rw [hQ.1]; exact hun)
    unfold PlanV at hq
    unfold outV
    rw [Int.toNat_natCast, Bool.or_eq_false_iff, Bool.and_eq_false_iff, decide_eq_false_iff_not, decide_eq_false_iff_not, decide_eq_false_iff_not]
    have hf : ¬ 0 < ((row (fixK zss Q zss.length) u).filter (outT S)).length ↔ ∀ x ∈ row (fixK zss Q zss.length) u, x ∈ S := by
      rw [Nat.not_lt, Nat.le_zero, List.length_eq_zero_iff, List.filter_eq_nil_iff]
      constructor
      · intro h x hx
        have := h x hx
        unfold outT at this
        rw [Bool.not_eq_true, Bool.not_eq_false'] at this
        exact hasB_iff.1 this
      · intro h x hx
        unfold outT
        rw [Bool.not_eq_true, Bool.not_eq_false']
        exact hasB_iff.2 (h x hx)
    rw [hf, fix_row hz]
    by_cases ho : nth O u = who
    · rcases hq with h1 | h1
      · constructor
        · rintro ⟨_, h | h⟩
          · exact absurd ho h
          · exact absurd h1 h
        · intro h
          have := (h.1 ho).1
          omega
      · have h0 : 0 ≤ nth Q u := by
          obtain ⟨y, hy, _⟩ := arena_nats hA u hz _ h1.2
          omega
        rw [if_pos h0]
        constructor
        · rintro ⟨h, _⟩
          exact ⟨fun _ => ⟨h0, h _ (by simp)⟩, fun h => absurd ho h⟩
        · rintro ⟨h, _⟩
          refine ⟨fun x hx => ?_, .inr (by omega)⟩
          have : x = nth Q u := by simpa using hx
          rw [this]; exact (h ho).2
    · have h1 : nth Q u = -1 := plan_not hQ (by rw [hQ.1]; exact hun) ho
      rw [if_neg (by rw [h1]; decide)]
      constructor
      · rintro ⟨h, _⟩
        exact ⟨fun h => absurd h ho, fun _ => h⟩
      · rintro ⟨_, h⟩
        exact ⟨h ho, .inl ho⟩
  constructor
  · intro h v hv
    exact (key v hv).1 (by simpa using h _ hv)
  · intro h x hx
    obtain ⟨v, rfl, _⟩ := set_nats hS x hx
    rw [(key v hx).2 (h v hx)]
    simp

set_option maxHeartbeats 16000000 in
set_option maxRecDepth 100000 in
theorem exits_is {w : World} {va : Value} {O S Q : List Int} {zss : List (List Int)} {who : Int} {aS aQ : Option Addr} (cS cQ : Nat) (hA : ArenaP O zss) (hQ : PlanP O zss who Q) (hS : setB O.length S = true) (h : ArenaAt w va O zss) (hSi : IntsAt w aS S) (hQi : IntsAt w aQ Q) :
    Calls Tryz.prog 98 #[va, .int .i64 who, .slice aS S.length cS, .slice aQ Q.length cQ] w (GivesInts w (S.filter (outV O (fixK zss Q zss.length) who S Q))) := by
  obtain ⟨i0, hi, hz0, hz1, hz2⟩ := info_parts info_int
  have HAt := Lib.hid h
  obtain ⟨ao, an, co, cn, A, C, rfl, h1, h2⟩ := h
  have HOi := Lib.hid h1
  have HSi := Lib.hid hSi
  have HQi := Lib.hid hQi
  have HSN := Lib.hid (set_nats hS)
  have HRS := Lib.hid (rises_of hS)
  have HQL : Hid (Q.length = O.length) := hQ.1
  have HZL : Hid (zss.length = O.length) := hA.2.2.1
  have HSL : Hid (S.length ≤ 300) := by have := setB_len (by omega) hS; have := hA.2.1; unfold Hid; omega
  obtain ⟨w1, hw1⟩ : ∃ y, y = w.alloc (.cells #[.slice ao O.length co, .slice an zss.length cn] 30) := ⟨_, rfl⟩
  have HW1 := Lib.hid hw1
  have B1 : Hid (Below w.heap.size w w1) := by rw [hw1]; exact below1 _ _
  have T1 : Hid (Box2 w1 w.heap.size 30 (.slice ao O.length co) (.slice an zss.length cn)) := by rw [hw1]; exact Box2.new w _ _ _
  have HC := Lib.hid (only_is cQ (hQ.1.trans hA.2.2.1.symm) (by have := hA.1; have := hA.2.2.1; omega) (by have := hA.2.1; have := hA.2.2.1; omega) (fun v hv => by
    have hv' : v < O.length := by rw [← hQ.1]; exact hv
    rcases hQ.2 v hv with hq | hq
    · exact .inl hq
    · obtain ⟨y, hy, _⟩ := arena_nats hA v (by rw [hA.2.2.1]; exact hv') _ hq.2
      exact .inr (by omega)) (HAt.out.below B1.out) (HQi.out.below B1.out))
  obtain ⟨es, hes⟩ : ∃ es, fixK zss Q zss.length = es := ⟨_, rfl⟩
  have HEL : Hid (es.length = O.length) := by rw [← hes, fixK_len]; exact hA.2.2.1
  have HEA : Hid (∀ v, v < O.length → (row es v).length ≤ 1048576) := fun v hv => by
    have := ((fix_valid hA hQ).2.2.2 v hv).2.2.1
    rw [hes] at this
    omega
  rw [hes] at HC ⊢
  obtain ⟨f, hf⟩ : ∃ f, outV O es who S Q = f := ⟨_, rfl⟩
  have HF := Lib.hid hf
  rw [hf]
  clear hw1 h1 h2 hSi hQi hA hQ hS hes hf
  go_enter Tryz.func98, Tryz.ntmps98
  go_wp2_with fail
  rw [← HW1.out]
  refine HC.out.mono ?_
  rintro e w2 ⟨v2, rfl, ho2, hb⟩
  obtain ⟨fo, fco, fn, fcn, hv2⟩ := ho2.shape2
  subst hv2
  have F2 := Lib.hid ho2.at
  have B2 := Lib.hid (B1.out.trans (hb.mono B1.out.size))
  have T2 := Lib.hid (T1.out.below hb)
  obtain ⟨w3, hw3⟩ : ∃ y, y = w2.alloc (.cells #[.slice fo O.length fco, .slice fn es.length fcn] 30) := ⟨_, rfl⟩
  have HW3 := Lib.hid hw3
  have hb23 : Below w2.heap.size w2 w3 := by rw [hw3]; exact below1 _ _
  have R3 : Hid (Box2 w3 w2.heap.size 30 (.slice fo O.length fco) (.slice fn es.length fcn)) := by rw [hw3]; exact Box2.new _ _ _ _
  have F3 := Lib.hid (F2.out.below hb23)
  have B3 := Lib.hid (B2.out.trans (hb23.mono B2.out.size))
  have T3 := Lib.hid (T2.out.below hb23)
  have K3 := Lib.hid (Below.refl w3.heap.size w3)
  have O3 : Hid (w3.ownsRow w3.heap.size 2 1 (.slice none 0 0) ((S.take 0).filter f).length (((S.take 0).filter f).map (Value.int .i64))) := by simpa [Hid] using World.ownsRow_nil w3 w3.heap.size 2 1
  clear ho2 hb hw3 hb23 HC F2 T2
  go_wp2
  rw [← HW3.out]
  go_loopw [9, 20] (fun ov iv wr => ∃ (k : Nat) (uu : Value), uu = ov ∧ k ≤ S.length ∧ iv = .int .i64 k ∧ Hid (wr.ownsRow w3.heap.size 2 1 ov ((S.take k).filter f).length (((S.take k).filter f).map (Value.int .i64))) ∧ Hid (Below w3.heap.size w3 wr)) (fun _ iv _ => S.length - (intOf iv).toNat)
  case atStart => exact ⟨0, _, rfl, Nat.zero_le _, rfl, O3, K3⟩
  case round =>
    clear O3 K3
    obtain ⟨k, uu, hu0, hk, rfl, HO, HK⟩ := hrel
    subst hu0
    have Bw := Lib.hid (B3.out.trans (HK.out.mono B3.out.size))
    have hll : ((S.take k).filter f).length ≤ k := Nat.le_trans (List.length_filter_le _ _) (by rw [List.length_take]; omega)
    by_cases hlt : k < S.length
    · have hi1 : (k : Int) < S.length := by omega
      have hk0 : (0 : Int) ≤ (k : Int) := by omega
      obtain ⟨v, hv, hvn⟩ := HSN.out _ (nth_mem hlt)
      have hv0 : (0 : Int) ≤ (v : Int) := by omega
      have hi2 : (v : Int) < O.length := by omega
      have hi3 : (v : Int) < Q.length := by have := HQL.out; omega
      have hi4 : (v : Int) < es.length := by have := HEL.out; omega
      have hvQ : v < Q.length := by omega
      have hvE : v < es.length := by omega
      obtain ⟨sb, so, hsa, hsc⟩ := (HSi.out.below Bw.out).cell (by omega)
      obtain ⟨ob, oo, hoa, hoc⟩ := (HOi.out.below Bw.out).cell (by omega)
      obtain ⟨qb, qo, hqa, hqc⟩ := (HQi.out.below Bw.out).cell (by omega)
      obtain ⟨fo', fn', fco', fcn', FA, FC, hfe, hf1, hf2⟩ := F3.out.below HK.out
      simp only [Value.agg.injEq, Array.mk.injEq, List.cons.injEq, Value.slice.injEq, true_and, and_true] at hfe
      obtain ⟨⟨rfl, rfl⟩, rfl, rfl⟩ := hfe
      obtain ⟨nb, no, hna, hnc⟩ := hf2.cell (by omega)
      have HRw := Lib.hid (hf2.rows v hvE)
      have s1 := hsc k hlt
      have n1 := hnc v hvE
      rw [hv] at s1
      have r1 := (R3.out.below HK.out).cell1
      have hst := with_step f hlt
      rw [hv] at hst
      have HST := Lib.hid hst
      have hrl : (row es v).length ≤ 1048576 := HEA.out v hvn
      have HSP := Lib.hid (split_is (FC v) cS HRw.out (HSi.out.below Bw.out) HRS.out hrl)
      obtain ⟨o, ho⟩ : ∃ o, o = nth O v := ⟨_, rfl⟩
      obtain ⟨q, hq⟩ : ∃ q, q = nth Q v := ⟨_, rfl⟩
      obtain ⟨L, hL⟩ : ∃ L, (row es v).filter (outT S) = L := ⟨_, rfl⟩
      rw [hL] at HSP
      have hfv : f (v : Int) = (decide (0 < L.length) || (decide (o = who) && decide (q = -1))) := by
        rw [← HF.out]; unfold outV; rw [Int.toNat_natCast, hL, ← ho, ← hq]
      have HFV := Lib.hid hfv
      have HOC : Hid (∀ W, Below wr.heap.size wr W → W.cell? ⟨ob, oo + v, none⟩ = some (.int .i64 o)) := fun W hb => by
        obtain ⟨b', o', ha', hc'⟩ := (HOi.out.below (Bw.out.trans (hb.mono Bw.out.size))).cell (by omega)
        rw [hoa] at ha'
        simp only [Option.some.injEq, Addr.mk.injEq] at ha'
        obtain ⟨rfl, rfl, _⟩ := ha'
        rw [ho]
        exact hc' v hvn
      have HQC : Hid (∀ W, Below wr.heap.size wr W → W.cell? ⟨qb, qo + v, none⟩ = some (.int .i64 q)) := fun W hb => by
        obtain ⟨b', o', ha', hc'⟩ := (HQi.out.below (Bw.out.trans (hb.mono Bw.out.size))).cell (by omega)
        rw [hqa] at ha'
        simp only [Option.some.injEq, Addr.mk.injEq] at ha'
        obtain ⟨rfl, rfl, _⟩ := ha'
        rw [hq]
        exact hc' v hvQ
      subst hsa
      subst hoa
      subst hqa
      subst hna
      clear hsc hoc hqc hnc hf1 hf2 hv hst ho hq hL hfv
      go_wp2_with fail
      refine HSP.out.mono ?_
      rintro e w4 ⟨x, y, rfl, hx, hy, hb⟩
      obtain ⟨xa, xc, hxs⟩ := hx.shape2
      obtain ⟨ya, yc, hys⟩ := hy.shape2
      subst hxs
      subst hys
      have hsz4 := hb.size
      have HK4 := Lib.hid (HK.out.trans (hb.mono HK.out.size))
      have HO4 : Hid (w4.ownsRow w3.heap.size 2 1 uu ((S.take k).filter f).length (((S.take k).filter f).map (Value.int .i64))) := ownsRow_only HO.out (S := fun _ => False) (Only.of_below hb) (fun _ _ h => h)
      have o1 := HOC.out w4 hb
      have q1 := HQC.out w4 hb
      have t0 := (T3.out.below HK4.out).cell0
      clear hx hy hb HSP HO s1 n1 r1
      have hS3 := HSL.out
      have hsz3 := HK4.out.size
      by_cases c1 : 0 < L.length
      · have hc1 : (0 : Int) < (L.length : Int) := by omega
        have hc1' : decide ((0 : Int) < (L.length : Int)) = true := by simpa using hc1
        have hc1n : decide (0 < L.length) = true := decide_eq_true c1
        have hft : f (v : Int) = true := by rw [HFV.out, decide_eq_true c1]; rfl
        have HST2 : Hid ((S.take (k + 1)).filter f = (S.take k).filter f ++ [(v : Int)]) := by rw [HST.out, if_pos hft]; rfl
        clear c1 hft
        go_wp2_with (at_builtin; refine wpList_append_own_at _ rfl _ _ 27 rfl w3.heap.size 2 i0 (.int .i64 0) 1 8 Tryz.underlying27 hi hz0 hz1 hz2 rfl (by decide) _ _ _ rfl (HO4.out.alloc _) ⟨w4.heap.size, 0, none⟩ 1 1 [.int .i64 (v : Int)] rfl rfl ?c1 ?c2 ?c3 ?c4 ?c5 ?_)
        try (case c1 => exact cell_one_new _ _ _)
        try (case c2 => first | rfl | (intro u hu; simp at hu; subst hu; rfl))
        case c3 => unfold maxLen; omega
        case c4 => omega
        case c5 => first | (simp; omega) | omega
        intro v' w5 hown hgrow _ _
        have hg : Only (fun b => w3.heap.size ≤ b) w4 w5 := (Only.of_below (below1 w4 _)).trans ((Only.of_grown hgrow).mono fun b hb => (HO4.out.lt b hb).1)
        have Kn := Lib.hid (HK4.out.trans (hg.below HK4.out.size (fun _ h => h)))
        have HOn : Hid (w5.ownsRow w3.heap.size 2 1 v' ((S.take (k + 1)).filter f).length (((S.take (k + 1)).filter f).map (Value.int .i64))) := by
          rw [HST2.out, List.map_append, List.length_append]; exact hown
        clear hown hgrow hg
        go_wp2
        go_roundw
        case rel => exact ⟨k + 1, _, rfl, by omega, by go_num, HOn, Kn⟩
        case measure => simp [intOf]; omega
      · have hc1 : ¬ (0 : Int) < (L.length : Int) := by omega
        have hc1' : decide ((0 : Int) < (L.length : Int)) = false := by simpa using hc1
        have hc1n : decide (0 < L.length) = false := decide_eq_false c1
        by_cases c2 : o = who ∧ q = -1
        · obtain ⟨e2, e3⟩ := c2
          have he2 : (o == who) = true := by simpa using e2
          have he3 : (q == -1) = true := by simpa using e3
          have hft : f (v : Int) = true := by rw [HFV.out, decide_eq_true e2, decide_eq_true e3]; simp
          have HST2 : Hid ((S.take (k + 1)).filter f = (S.take k).filter f ++ [(v : Int)]) := by rw [HST.out, if_pos hft]; rfl
          clear c1 hft e2 e3
          go_wp2_with (at_builtin; refine wpList_append_own_at _ rfl _ _ 27 rfl w3.heap.size 2 i0 (.int .i64 0) 1 8 Tryz.underlying27 hi hz0 hz1 hz2 rfl (by decide) _ _ _ rfl (HO4.out.alloc _) ⟨w4.heap.size, 0, none⟩ 1 1 [.int .i64 (v : Int)] rfl rfl ?c1 ?c2 ?c3 ?c4 ?c5 ?_)
          try (case c1 => exact cell_one_new _ _ _)
          try (case c2 => first | rfl | (intro u hu; simp at hu; subst hu; rfl))
          case c3 => unfold maxLen; omega
          case c4 => omega
          case c5 => first | (simp; omega) | omega
          intro v' w5 hown hgrow _ _
          have hg : Only (fun b => w3.heap.size ≤ b) w4 w5 := (Only.of_below (below1 w4 _)).trans ((Only.of_grown hgrow).mono fun b hb => (HO4.out.lt b hb).1)
          have Kn := Lib.hid (HK4.out.trans (hg.below HK4.out.size (fun _ h => h)))
          have HOn : Hid (w5.ownsRow w3.heap.size 2 1 v' ((S.take (k + 1)).filter f).length (((S.take (k + 1)).filter f).map (Value.int .i64))) := by
            rw [HST2.out, List.map_append, List.length_append]; exact hown
          clear hown hgrow hg
          go_wp2
          go_roundw
          case rel => exact ⟨k + 1, _, rfl, by omega, by go_num, HOn, Kn⟩
          case measure => simp [intOf]; omega
        · have hff : f (v : Int) = false := by
            rw [HFV.out, decide_eq_false c1]
            simp only [Bool.false_or, Bool.and_eq_false_iff, decide_eq_false_iff_not]
            exact Classical.not_and_iff_not_or_not.1 c2
          have HST2 : Hid ((S.take (k + 1)).filter f = (S.take k).filter f) := by rw [HST.out, hff]; simp [Hid]
          have HOn : Hid (w4.ownsRow w3.heap.size 2 1 uu ((S.take (k + 1)).filter f).length (((S.take (k + 1)).filter f).map (Value.int .i64))) := by rw [HST2.out]; exact HO4.out
          by_cases e2 : o = who
          · have he2 : (o == who) = true := by simpa using e2
            have he3 : (q == -1) = false := beq_eq_false_iff_ne.2 fun h => c2 ⟨e2, h⟩
            clear c1 c2 hff e2
            go_wp2
            go_roundw
            case rel => exact ⟨k + 1, _, rfl, by omega, by go_num, HOn, HK4⟩
            case measure => simp [intOf]; omega
          · have he2 : (o == who) = false := beq_eq_false_iff_ne.2 e2
            clear c1 c2 hff e2
            go_wp2
            go_roundw
            case rel => exact ⟨k + 1, _, rfl, by omega, by go_num, HOn, HK4⟩
            case measure => simp [intOf]; omega
    · have hi1 : ¬ (k : Int) < S.length := by omega
      have hkk : k = S.length := by omega
      rw [hkk, List.take_length] at HO
      have hfl : (S.filter f).length ≤ S.length := List.length_filter_le _ _
      have hfin := Lib.hid ((OwnInts.mk' HO.out (by have := HSL.out; omega) (fun j hj => by
        obtain ⟨u, hu, hun⟩ := HSN.out _ (List.mem_filter.1 (nth_mem hj)).1
        have := HOi.out.len
        rw [hu]; unfold Fits; omega)).base (B' := w.heap.size) B3.out.size)
      clear hkk HO hfl
      go_wp2
      go_ret
      exact ⟨_, rfl, hfin.out, Bw.out⟩
end

section
open Go.RowKit

/-- The two sentinels that checkClosed hands back. -/
structure ErrsC (w : World) (ai al : Addr) : Prop where
  i : w.cell? ⟨2, 0, none⟩ = some (.iface 245 (.pointer (some ai)))
  l : w.cell? ⟨1, 0, none⟩ = some (.iface 245 (.pointer (some al)))
theorem ErrsC.below {w w' : World} {ai al : Addr} (h : ErrsC w ai al) (hb : Below w.heap.size w w') : ErrsC w' ai al := ⟨Below.cell_some (B := 0) hb rfl h.i, Below.cell_some (B := 0) hb rfl h.l⟩
def ErrC (w : World) : Prop := ∃ ai al, ErrsC w ai al
theorem ErrC.below {w w' : World} (h : ErrC w) (hb : Below w.heap.size w w') : ErrC w' := by
  obtain ⟨ai, al, h⟩ := h
  exact ⟨ai, al, h.below hb⟩

/-- What checkClosed hands back. -/
def EndsC (w' : World) (B : Nat) (ai al : Addr) (ok cl : Bool) (v : Value) : Prop :=
  (ok = false ∧ v = .iface 245 (.pointer (some ai))) ∨ (ok = true ∧ cl = true ∧ v = .nilIface) ∨
    (ok = true ∧ cl = false ∧ ∃ g, B ≤ g ∧ v = .iface 77 (.pointer (some ⟨g, 0, none⟩)) ∧ w'.cell? ⟨g, 0, none⟩ = some (.iface 245 (.pointer (some al))))
noncomputable def closeOk (O : List Int) (zss : List (List Int)) (who : Int) (S Q : List Int) : Bool := planB O zss who Q && setB O.length S

set_option maxHeartbeats 16000000 in
set_option maxRecDepth 100000 in
theorem checkClosed_is {w : World} {ai al : Addr} (hE : ErrsC w ai al) {va : Value} {O S Q : List Int} {zss : List (List Int)} {who : Int} {aS aQ : Option Addr} {ok cl : Bool} (cS cQ : Nat) (hok : closeOk O zss who S Q = ok) (hcl : closB O zss who S Q = cl) (h : ArenaAt w va O zss) (hS : IntsAt w aS S) (hQ : IntsAt w aQ Q) :
    Calls Tryz.prog 51 #[va, .int .i64 who, .slice aS S.length cS, .slice aQ Q.length cQ] w fun e w' => ∃ v, e = .returned v ∧ EndsC w' w.heap.size ai al ok cl v ∧ Below w.heap.size w w' := by
  have HE := Lib.hid hE
  have HAt := Lib.hid h
  have HSi := Lib.hid hS
  have HQi := Lib.hid hQ
  obtain ⟨ao, an, co, cn, A, C, rfl, h1, h2⟩ := h
  obtain ⟨w1, hw1⟩ : ∃ y, y = w.alloc (.cells #[.slice ao O.length co, .slice an zss.length cn] 30) := ⟨_, rfl⟩
  have HW1 := Lib.hid hw1
  have B1 : Hid (Below w.heap.size w w1) := by rw [hw1]; exact below1 _ _
  have T1 : Hid (Box2 w1 w.heap.size 30 (.slice ao O.length co) (.slice an zss.length cn)) := by rw [hw1]; exact Box2.new w _ _ _
  obtain ⟨b0, hb0⟩ : ∃ b, okB O zss who S = b := ⟨_, rfl⟩
  have HC0 : Hid (Calls Tryz.prog 96 #[.agg #[.slice ao O.length co, .slice an zss.length cn], .int .i64 who, .slice (some ⟨w.heap.size + 1, 0, none⟩) 1 1] (w1.alloc (.cells #[.slice aS S.length cS] 27)) fun e w' => e = .returned (.bool b0) ∧ Below w1.heap.size w1 w') := by
    have hs1 : w1.heap.size = w.heap.size + 1 := by rw [hw1]; simp
    have hC := isAsked_one hb0 cS (HAt.out.below B1.out) (HSi.out.below B1.out)
    unfold Hid
    rw [hs1] at hC ⊢
    exact hC
  have t0 := T1.out.cell0
  have t1 := T1.out.cell1
  rw [hw1] at t0 t1
  have B2 : Hid (Below w.heap.size w (w1.alloc (.cells #[.slice aS S.length cS] 27))) := B1.out.alloc B1.out.size _
  cases b0 with
  | false =>
    have HOK : Hid (ok = false) := by
      rw [← hok]
      unfold closeOk planB
      unfold okB at hb0
      cases ha : arenaB O zss with
      | false => rfl
      | true =>
        rw [ha] at hb0
        cases hi : inB who 0 1 with
        | false => rfl
        | true =>
          rw [hi] at hb0
          have : setB O.length S = false := by simpa using hb0
          rw [this]; simp [Hid]
    clear hok hcl hb0 h1 h2 hE hS hQ hw1
    go_enter Tryz.func51, Tryz.ntmps51
    go_wp2_with fail
    rw [← HW1.out]
    refine HC0.out.mono ?_
    rintro e w3 ⟨rfl, hb⟩
    have B3 := Lib.hid (B1.out.trans (hb.mono B1.out.size))
    have e0 := (HE.out.below B3.out).i
    clear hb t0 t1 HC0
    go_wp2
    go_ret
    exact ⟨_, rfl, .inl ⟨HOK.out, rfl⟩, B3.out⟩
  | true =>
    have hset : setB O.length S = true ∧ arenaB O zss = true := by
      unfold okB at hb0
      rw [Bool.and_eq_true, Bool.and_eq_true] at hb0
      first | exact ⟨hb0.2.2, hb0.1⟩ | exact ⟨hb0.2, hb0.1.1⟩
    obtain ⟨b1, hb1⟩ : ∃ b, planB O zss who Q = b := ⟨_, rfl⟩
    have HOK : Hid (ok = b1) := by rw [← hok]; unfold closeOk; rw [hb1, hset.1]; simp [Hid]
    have HP1 : Hid (∀ W, Below w.heap.size w W → Calls Tryz.prog 97 #[.agg #[.slice ao O.length co, .slice an zss.length cn], .int .i64 who, .slice aQ Q.length cQ] W fun e w' => e = .returned (.bool b1) ∧ Below W.heap.size W w') := fun W hb => PlanOk_is cQ hb1 (HAt.out.below hb) (HQi.out.below hb)
    cases b1 with
    | false =>
      clear hok hcl hb0 hb1 h1 h2 hE hS hQ hw1 hset
      go_enter Tryz.func51, Tryz.ntmps51
      go_wp2_with fail
      rw [← HW1.out]
      refine HC0.out.mono ?_
      rintro e w3 ⟨rfl, hb⟩
      have B3 := Lib.hid (B1.out.trans (hb.mono B1.out.size))
      have T3 := Lib.hid (T1.out.below hb)
      clear hb t0 t1 HC0
      have t0 := T3.out.cell0
      have t1 := T3.out.cell1
      go_wp2_with fail
      refine (HP1.out w3 B3.out).mono ?_
      rintro e w4 ⟨rfl, hb⟩
      have B4 := Lib.hid (B3.out.trans (hb.mono B3.out.size))
      have e0 := (HE.out.below B4.out).i
      clear hb t0 t1
      go_wp2
      go_ret
      exact ⟨_, rfl, .inl ⟨HOK.out, rfl⟩, B4.out⟩
    | true =>
      have hpl := planB_iff.1 hb1
      obtain ⟨L, hL⟩ : ∃ L, S.filter (outV O (fixK zss Q zss.length) who S Q) = L := ⟨_, rfl⟩
      have HX : Hid (∀ W, Below w.heap.size w W → Calls Tryz.prog 98 #[.agg #[.slice ao O.length co, .slice an zss.length cn], .int .i64 who, .slice aS S.length cS, .slice aQ Q.length cQ] W (GivesInts W L)) := fun W hb => by
        rw [← hL]; exact exits_is cS cQ hpl.1 hpl.2.2 hset.1 (HAt.out.below hb) (HSi.out.below hb) (HQi.out.below hb)
      have HIF : Hid (L.length = 0 ↔ cl = true) := by
        rw [← hL, outs_iff hpl.1 hpl.2.2 hset.1, ← hcl, closB_iff]
        exact ⟨fun h => ⟨hb1, hset.1, h⟩, fun h => h.2.2⟩
      clear hok hcl hb0 hb1 h1 h2 hE hS hQ hw1 hset hpl hL
      go_enter Tryz.func51, Tryz.ntmps51
      go_wp2_with fail
      rw [← HW1.out]
      refine HC0.out.mono ?_
      rintro e w3 ⟨rfl, hb⟩
      have B3 := Lib.hid (B1.out.trans (hb.mono B1.out.size))
      have T3 := Lib.hid (T1.out.below hb)
      clear hb t0 t1 HC0
      have t0 := T3.out.cell0
      have t1 := T3.out.cell1
      go_wp2_with fail
      refine (HP1.out w3 B3.out).mono ?_
      rintro e w4 ⟨rfl, hb⟩
      have B4 := Lib.hid (B3.out.trans (hb.mono B3.out.size))
      have T4 := Lib.hid (T3.out.below hb)
      clear hb t0 t1 T3 HP1
      have t0 := T4.out.cell0
      have t1 := T4.out.cell1
      go_wp2_with fail
      refine (HX.out w4 B4.out).mono ?_
      rintro e w5 ⟨x, rfl, hx, hb⟩
      obtain ⟨xa, xc, hxs⟩ := hx.shape2
      subst hxs
      have B5 := Lib.hid (B4.out.trans (hb.mono B4.out.size))
      have l0 := (HE.out.below B5.out).l
      clear hx hb t0 t1
      by_cases hl : L.length = 0
      · have hl1 : ¬ (0 : Int) < (L.length : Int) := by omega
        have hl2 : decide ((0 : Int) < (L.length : Int)) = false := by simpa using hl1
        have hl3 : decide (0 < L.length) = false := decide_eq_false (by omega)
        have HCL := Lib.hid (HIF.out.1 hl)
        clear hl
        go_wp2
        go_ret
        exact ⟨_, rfl, .inr (.inl ⟨HOK.out, HCL.out, rfl⟩), B5.out⟩
      · have hl1 : (0 : Int) < (L.length : Int) := by omega
        have hl2 : decide ((0 : Int) < (L.length : Int)) = true := by simpa using hl1
        have hl3 : decide (0 < L.length) = true := decide_eq_true (by omega)
        have HCL : Hid (cl = false) := by
          cases cl with
          | false => rfl
          | true => exact absurd (HIF.out.2 rfl) hl
        have hsz := B5.out.size
        clear hl
        go_wp2
        go_ret
        exact ⟨_, rfl, .inr (.inr ⟨HOK.out, HCL.out, _, hsz, rfl, by simp⟩), B5.out.alloc B5.out.size _⟩

set_option maxHeartbeats 16000000 in
set_option maxRecDepth 100000 in
theorem ClosedIn_is {w : World} (hE : ErrC w) {va : Value} {O S Q : List Int} {zss : List (List Int)} {who : Int} {aS aQ : Option Addr} {r : Bool} (cS cQ : Nat) (hr : closB O zss who S Q = r) (h : ArenaAt w va O zss) (hS : IntsAt w aS S) (hQ : IntsAt w aQ Q) :
    Calls Tryz.prog 18 #[va, .int .i64 who, .slice aS S.length cS, .slice aQ Q.length cQ] w fun e w' => e = .returned (.bool r) ∧ Below w.heap.size w w' := by
  obtain ⟨ai, al, hE⟩ := hE
  have HAt := Lib.hid h
  obtain ⟨ok, hok⟩ : ∃ b, closeOk O zss who S Q = b := ⟨_, rfl⟩
  have HNO : Hid (ok = false → r = false) := fun hf => by
    rw [← hr]
    cases hc : closB O zss who S Q with
    | false => rfl
    | true =>
      have := closB_iff.1 hc
      rw [← hok] at hf
      unfold closeOk at hf
      rw [this.1, this.2.1] at hf
      cases hf
  obtain ⟨ao, an, co, cn, A, C, rfl, h1, h2⟩ := h
  obtain ⟨w1, hw1⟩ : ∃ y, y = w.alloc (.cells #[.slice ao O.length co, .slice an zss.length cn] 30) := ⟨_, rfl⟩
  have HW1 := Lib.hid hw1
  have B1 : Hid (Below w.heap.size w w1) := by rw [hw1]; exact below1 _ _
  have T1 : Hid (Box2 w1 w.heap.size 30 (.slice ao O.length co) (.slice an zss.length cn)) := by rw [hw1]; exact Box2.new w _ _ _
  have HC := Lib.hid (checkClosed_is (hE.below B1.out) cS cQ hok hr (HAt.out.below B1.out) (hS.below B1.out) (hQ.below B1.out))
  have t0 := T1.out.cell0
  have t1 := T1.out.cell1
  rw [hw1] at t0 t1
  clear hok hr h1 h2 hE hS hQ hw1
  go_enter Tryz.func18, Tryz.ntmps18
  go_wp2_with fail
  rw [← HW1.out]
  refine HC.out.mono ?_
  rintro e w2 ⟨v, rfl, hv, hb⟩
  have B2 := Lib.hid (B1.out.trans (hb.mono B1.out.size))
  clear hb t0 t1 HC
  rcases hv with ⟨h1, rfl⟩ | ⟨h1, h2, rfl⟩ | ⟨h1, h2, g, _, rfl, _⟩
  · have HR := Lib.hid (HNO.out h1)
    clear h1
    go_wp2
    go_ret
    exact ⟨ret_bool HR.out.symm, B2.out⟩
  · have HR := Lib.hid h2
    clear h1 h2
    go_wp2
    go_ret
    exact ⟨ret_bool HR.out.symm, B2.out⟩
  · have HR := Lib.hid h2
    clear h1 h2
    go_wp2
    go_ret
    exact ⟨ret_bool HR.out.symm, B2.out⟩
end

end Go.Proofs.YtokcinhopajniaaGreatDoor
