/-
  Several texts in one: Inside, GameImpl, OddsImpl, Region, Scale, LostW, MeasOf.
-/
import Derived.Deep.RegionHeld3
import Derived.Shelf.SlicesE.DeleteFunc
import Derived.Shelf.SlicesE.Reverse
import Derived.Lib.OwnBridge
import Derived.OrdersHeld
import Derived.OrdersIn
import Derived.RangeFuncCalls
import Derived.Deep.MidRow
import Derived.Test.YtihaajcmephlmaaDoorPx00
import Derived.Test.YtihaajcmephlmaaDoorPx02
import Derived.Test.YtihaajcmephlmaaDoorPx01
import Derived.Test.YtihaajcmephlmaaDoorPx04
namespace Go.Proofs.YtihaajcmephlmaaDoor
open Go.RowKit

end Go.Proofs.YtihaajcmephlmaaDoor
namespace Go.Proofs.YtihaajcmephlmaaDoor
section
open Go.RowKit

theorem arenaSize_is {w : World} {va : Value} {O : List Int} {zss : List (List Int)} (h : ArenaAt w va O zss) :
    Calls Tryd.prog 51 #[va] w fun e w' => e = .returned (.int .i64 O.length) ∧ Below w.heap.size w w' := by
  obtain ⟨ao, an, co, cn, A, C, rfl, h1, h2⟩ := h
  exact (size_is ao an O.length zss.length co cn w h1.len).mono fun e w' ⟨he, hw⟩ => ⟨he, hw ▸ below1 _ _⟩

theorem min_ok {P : List Int} (hz : 0 < P.length) : 0 ≤ minN P (P.length - 1) ↔ ∀ x ∈ P, 0 ≤ x := by
  constructor
  · intro h x hx
    obtain ⟨k, hk, rfl⟩ := mem_nth.1 hx
    have := minN_le (zs := P) (k := P.length - 1) (j := k) (by omega)
    omega
  · intro h
    obtain ⟨j, hj, e⟩ := minN_at (zs := P) (P.length - 1)
    rw [← e]; exact h _ (nth_mem (by omega))
theorem max_ok {P : List Int} (hz : 0 < P.length) : maxN P (P.length - 1) ≤ 40 ↔ ∀ x ∈ P, x ≤ 40 := by
  constructor
  · intro h x hx
    obtain ⟨k, hk, rfl⟩ := mem_nth.1 hx
    have := maxN_ge (zs := P) (k := P.length - 1) (j := k) (by omega)
    omega
  · intro h
    obtain ⟨j, hj, e⟩ := maxN_at (zs := P) (P.length - 1)
    rw [← e]; exact h _ (nth_mem (by omega))

set_option maxHeartbeats 4000000 in
set_option maxRecDepth 100000 in
theorem ParityOk_is {w : World} {v : Value} {O : List Int} {zss : List (List Int)} {P : List Int} {r : Bool} (hr : parityB O zss P = r) (h : GameAt w v O zss P) :
    Calls Tryd.prog 65 #[v] w fun e w' => e = .returned (.bool r) ∧ Below w.heap.size w w' := by
  obtain ⟨ao, an, ap, co, cn, cp, A, C, rfl, h1, h2, h3⟩ := h
  have hlO := h1.len
  have hlP := h3.len
  have HP := Lib.hid h3
  obtain ⟨w1, hw1⟩ : ∃ y, y = w.alloc (.cells #[.slice ao O.length co, .slice an zss.length cn, .slice ap P.length cp] 33) := ⟨_, rfl⟩
  have HW1 := Lib.hid hw1
  have B1 : Hid (Below w.heap.size w w1) := by rw [hw1]; exact below1 _ _
  have T1 : Hid (Box3 w1 w.heap.size 33 (.slice ao O.length co) (.slice an zss.length cn) (.slice ap P.length cp)) := by rw [hw1]; exact Box3.new _ _ _ _ _
  have HA : Hid (ArenaAt w (.agg #[.slice ao O.length co, .slice an zss.length cn]) O zss) := ⟨_, _, _, _, _, _, rfl, h1, h2⟩
  clear h1 h2 h3 hw1
  have t0 := T1.out.c0
  have t1 := T1.out.c1
  have t2 := T1.out.c2
  have hd1 : Below w1.heap.size w1 w1.drew := (Below.refl _ _).drew
  have B1d := Lib.hid (B1.out.trans (hd1.mono B1.out.size))
  have T1d := Lib.hid (T1.out.below hd1)
  clear hd1
  cases hA : arenaB O zss with
  | false =>
    have HE : Hid (r = false) := by rw [← hr]; simp [parityB, hA, Hid]
    have HC := Lib.hid (ArenaOk_at hA (HA.out.below B1d.out))
    clear hA hr
    go_enter Tryd.func65, Tryd.ntmps65
    go_wp2_with fail
    rw [← HW1.out]
    first
      | go_region_law (first
          | (go_simp; go_at_call 78; refine HC.out.mono ?_; rintro e w2 ⟨rfl, hb⟩; have B2 := Lib.hid (B1d.out.trans (hb.mono B1d.out.size)); clear hb))
      | fail
    all_goals (
      go_wp2
      go_ret
      exact ⟨by rw [HE.out]; rfl, B2.out⟩)
  | true =>
    have HAP := Lib.hid (arenaB_iff.1 hA)
    have HC := Lib.hid (ArenaOk_at hA (HA.out.below B1d.out))
    by_cases hl : P.length = O.length
    · have hn0 : 0 < P.length := by have := HAP.out.1; omega
      have hne : ((P.length : Int) != (O.length : Int)) = false := by simp; omega
      have HR : Hid (priosB P = r) := by rw [← hr]; simp [parityB, hA, hl, Hid]
      have hmn := min_ok hn0
      have hmx := max_ok hn0
      obtain ⟨mn, hmnE⟩ : ∃ m, minN P (P.length - 1) = m := ⟨_, rfl⟩
      obtain ⟨mx, hmxE⟩ : ∃ m, maxN P (P.length - 1) = m := ⟨_, rfl⟩
      rw [hmnE] at hmn
      rw [hmxE] at hmx
      have HMN := Lib.hid hmn
      have HMX := Lib.hid hmx
      have HMNE := Lib.hid hmnE
      have HMXE := Lib.hid hmxE
      have HL := Lib.hid hl
      have HN0 := Lib.hid hn0
      clear hA hr hl hmn hmx hmnE hmxE hn0
      go_enter Tryd.func65, Tryd.ntmps65
      go_wp2_with fail
      rw [← HW1.out]
      go_region_held3 (fun w' => w'.cell? ⟨w.heap.size, 0, none⟩ = some (.slice ao O.length co) ∧ w'.cell? ⟨w.heap.size, 1, none⟩ = some (.slice an zss.length cn) ∧ w'.cell? ⟨w.heap.size, 2, none⟩ = some (.slice ap P.length cp))
        (first
          | go_keep
          | exact ⟨e0, e1, e2⟩
          | exact ⟨f0, f1, f2⟩)
        (first
          | (go_at_call 78; refine HC.out.mono ?_; rintro e w2 ⟨rfl, hb⟩; have B2 := Lib.hid (B1d.out.trans (hb.mono B1d.out.size)); have T2 := Lib.hid (T1d.out.below hb); have e0 := T2.out.c0; have e1 := T2.out.c1; have e2 := T2.out.c2; clear hb)
          | (go_at_call 51; refine (arenaSize_is (HA.out.below B2.out)).mono ?_; rintro e w3 ⟨rfl, hb⟩; have B3 := Lib.hid (B2.out.trans (hb.mono B2.out.size)); have T3 := Lib.hid (T2.out.below hb); have f0 := T3.out.c0; have f1 := T3.out.c1; have f2 := T3.out.c2; clear hb))
      all_goals (
        clear e0 e1 e2 t0 t1 t2
        have HMinC := Lib.hid (Min_is cp HMNE.out (HP.out.below B3.out) HN0.out)
        have HMaxC := Lib.hid (fun W hb => Max_is (w := W) cp HMXE.out (HP.out.below hb) HN0.out)
        go_wp2_with fail
        refine HMinC.out.mono ?_
        rintro e w4 ⟨rfl, rfl⟩
        clear HMinC
        by_cases h0 : 0 ≤ mn
        · have HE : Hid (decide (mx ≤ 40) = r) := by
            rw [← HR.out]
            unfold priosB Hid
            rw [decide_eq_decide]
            constructor
            · intro h x hx; exact ⟨HMN.out.1 h0 x hx, HMX.out.1 h x hx⟩
            · intro h; exact HMX.out.2 fun x hx => (h x hx).2
          go_wp2_with fail
          refine (HMaxC.out _ B3.out).mono ?_
          rintro e w5 ⟨rfl, rfl⟩
          clear HMaxC
          go_wp2
          go_ret
          exact ⟨ret_bool HE.out, B3.out⟩
        · have HE : Hid (r = false) := by
            rw [← HR.out]
            unfold priosB Hid
            refine decide_eq_false fun h => h0 (HMN.out.2 fun x hx => (h x hx).1)
          have h1 : ¬ 0 ≤ mn := h0
          go_wp2
          go_ret
          exact ⟨by rw [HE.out]; rfl, B3.out⟩)
    · have hne : ((P.length : Int) != (O.length : Int)) = true := by simp; omega
      have HE : Hid (r = false) := by rw [← hr]; simp [parityB, hl, Hid]
      clear hA hr hl
      go_enter Tryd.func65, Tryd.ntmps65
      go_wp2_with fail
      rw [← HW1.out]
      go_region_held3 (fun w' => w'.cell? ⟨w.heap.size, 0, none⟩ = some (.slice ao O.length co) ∧ w'.cell? ⟨w.heap.size, 1, none⟩ = some (.slice an zss.length cn) ∧ w'.cell? ⟨w.heap.size, 2, none⟩ = some (.slice ap P.length cp))
        (first
          | go_keep
          | exact ⟨e0, e1, e2⟩
          | exact ⟨f0, f1, f2⟩)
        (first
          | (go_at_call 78; refine HC.out.mono ?_; rintro e w2 ⟨rfl, hb⟩; have B2 := Lib.hid (B1d.out.trans (hb.mono B1d.out.size)); have T2 := Lib.hid (T1d.out.below hb); have e0 := T2.out.c0; have e1 := T2.out.c1; have e2 := T2.out.c2; clear hb)
          | (go_at_call 51; refine (arenaSize_is (HA.out.below B2.out)).mono ?_; rintro e w3 ⟨rfl, hb⟩; have B3 := Lib.hid (B2.out.trans (hb.mono B2.out.size)); have T3 := Lib.hid (T2.out.below hb); have f0 := T3.out.c0; have f1 := T3.out.c1; have f2 := T3.out.c2; clear hb))
      all_goals (
        clear e0 e1 e2 t0 t1 t2
        go_wp2
        go_ret
        exact ⟨by rw [HE.out]; rfl, B3.out⟩)
end

section
open Go.RowKit

end

section
open Go.RowKit

end

section
open Go.RowKit

end

section
open Go.RowKit

end

end Go.Proofs.YtihaajcmephlmaaDoor
namespace Go.Proofs.YtihaajcmephlmaaDoor
section
open Go.Shelf
def dropLays_ren : Go.Shelf.Ren := ⟨fun | 10 => 81 | 6 => 52 | n => n, fun | 22 => 22 | 23 => 2 | 25 => 74 | 3 => 3 | 4 => 4 | 0 => 0 | n => n, fun | n => n⟩
theorem dropLays : Go.Proofs.SlLaysH.n10 Tryd.prog dropLays_ren := {
  mixed := by kernel_rfl
  f6 := ⟨Tryd.f52.name, by decide, Tryd.func52.trans (congrArg some (by kernel_rfl))⟩
  f10 := ⟨Tryd.f81.name, by decide, Tryd.func81.trans (congrArg some (by kernel_rfl))⟩
  t0 := Tryd.underlying0
  a0 := Tryd.isAgg0
  z0 := Tryd.sizeOf0
  v0 := Tryd.zeroValue0
  t3 := Tryd.underlying3
  a3 := Tryd.isAgg3
  z3 := Tryd.sizeOf3
  v3 := Tryd.zeroValue3
  t4 := Tryd.underlying4
  a4 := Tryd.isAgg4
  z4 := Tryd.sizeOf4
  v4 := Tryd.zeroValue4
  t22 := Tryd.underlying22
  a22 := Tryd.isAgg22
  z22 := Tryd.sizeOf22
  v22 := Tryd.zeroValue22
  a23 := Tryd.isAgg2
  z23 := Tryd.sizeOf2
  t25 := Tryd.underlying74
  a25 := Tryd.isAgg74
  z25 := Tryd.sizeOf74
  v25 := Tryd.zeroValue74 }
def backLays_ren : Go.Shelf.Ren := ⟨fun | 35 => 84 | n => n, fun | 22 => 22 | 23 => 2 | 3 => 3 | 4 => 4 | 0 => 0 | n => n, fun | n => n⟩
theorem backLays : Go.Proofs.SlLaysE.n35 Tryd.prog backLays_ren := {
  mixed := by kernel_rfl
  f35 := ⟨Tryd.f84.name, by decide, Tryd.func84.trans (congrArg some (by kernel_rfl))⟩
  t0 := Tryd.underlying0
  a0 := Tryd.isAgg0
  z0 := Tryd.sizeOf0
  v0 := Tryd.zeroValue0
  t3 := Tryd.underlying3
  a3 := Tryd.isAgg3
  z3 := Tryd.sizeOf3
  v3 := Tryd.zeroValue3
  t4 := Tryd.underlying4
  a4 := Tryd.isAgg4
  z4 := Tryd.sizeOf4
  v4 := Tryd.zeroValue4
  t22 := Tryd.underlying22
  a22 := Tryd.isAgg22
  z22 := Tryd.sizeOf22
  v22 := Tryd.zeroValue22
  a23 := Tryd.isAgg2
  z23 := Tryd.sizeOf2 }
end

section
open Go.RowKit Go.Shelf Go.Lib Go.Sort

theorem holds_int {w : World} {g : Nat} {cur : Array Value} {e : TypeId} {ss : List Int} (hb : w.heap[g]? = some (.cells cur e (0, 0))) (ht : cur.toList.take ss.length = ss.map (Value.int .i64)) : Holds (Value.int .i64) w g 0 ss.toArray := by
  intro j hj
  have hj' : j < ss.length := by simpa using hj
  refine ⟨?_, by simp [World.frozen?, hb]⟩
  have h1 : (cur.toList.take ss.length)[j]? = (ss.map (Value.int .i64))[j]? := by rw [ht]
  rw [List.getElem?_take_of_lt hj'] at h1
  simp only [World.cell?, hb, Nat.zero_add]
  simp only [Option.isSome_none, Bool.false_eq_true, if_false]
  rw [← Array.getElem?_toList, h1]
  simp [hj']
theorem own_holds {w : World} {B g n cap : Nat} {S : List Int} (hn : n = S.length) (h : w.ownsRow B 2 1 (.slice (some ⟨g, 0, none⟩) n cap) n (S.map (Value.int .i64))) : Holds (Value.int .i64) w g 0 S.toArray ∧ n ≤ cap := by
  subst hn
  rcases h.2 with ⟨e0, _⟩ | ⟨g', cap', cur, e0, hb, hg, hn, hm', hcs, ht⟩
  · cases e0
  · injection e0 with e1 _ e3
    injection e1 with e1
    injection e1 with e1
    subst e1
    exact ⟨holds_int hg (by simpa using ht), by omega⟩
theorem put_only {w : World} {g q : Nat} {ys : List Int} : Only (fun b => g = b) w (putRow (Value.int .i64) (Sort.ahead w q) g 0 ys.toArray) := by
  refine ⟨rfl, rfl, rfl, by simp [putRow, mapBlock, Sort.ahead], fun k hk hne => ?_⟩
  simp [putRow, mapBlock, Sort.ahead, Array.getElem?_modify, hne]

set_option maxHeartbeats 1000000 in
theorem even_is (x : Int) (W : World) : FnGives Tryd.prog 83 #[] #[.int .i64 x] (.bool (decide (x.tmod 2 = 0))) W := by
  show Calls Tryd.prog 83 #[.int .i64 x] W _
  go_enter Tryd.func83, Tryd.ntmps83
  go_wp2
  go_ret
  exact ⟨rfl, 0, rfl⟩

theorem info_dropInt : ∀ w, (zeroValue (dropLays_ren.t 23)).run Tryd.prog w = .ok (.int .i64 0) w := Tryd.zeroValue2

set_option maxHeartbeats 2000000 in
theorem dropEven_is {w : World} {B g cap : Nat} {S T : List Int} (hT : (S.filter fun x => !decide (x.tmod 2 = 0)) = T) (h : w.ownsRow B 2 1 (.slice (some ⟨g, 0, none⟩) S.length cap) S.length (S.map (Value.int .i64))) (hl : S.length ≤ 1048576) :
    Calls Tryd.prog 81 #[.slice (some ⟨g, 0, none⟩) S.length cap, .func (.func 83) #[] #[]] w fun e w' =>
      e = .returned (.slice (some ⟨g, 0, none⟩) T.length cap) ∧ w'.ownsRow B 2 1 (.slice (some ⟨g, 0, none⟩) T.length cap) T.length (T.map (Value.int .i64)) ∧ Only (fun b => g = b) w w' := by
  obtain ⟨hH, hc⟩ := own_holds rfl h
  have eg : ∀ args w, (callFunc 83 args).run Tryd.prog w = .ok (.enter 83 args) w := enters_of Tryd.func83 (by kernel_rfl) rfl
  have hcon := AnyE.slices_DeleteFunc dropLays (Value.int .i64) (fun _ => rfl) (fun x => decide (x.tmod 2 = 0)) 83 #[] eg 0 info_dropInt g 0 cap S.toArray w
    (fun W x _ => even_is x W) (fun n os dk x _ => even_is x _) hH (by simp; omega) (by simpa using hc)
  have hsz : S.toArray.size = S.length := by simp
  rw [hsz] at hcon
  refine Calls.mono hcon ?_
  rintro e w' ⟨rfl, q, rfl⟩
  have hT' : (S.toArray.toList.filter fun x => !decide (x.tmod 2 = 0)) = T := hT
  have htl : T.length ≤ S.length := by rw [← hT]; exact List.length_filter_le _ _
  rw [hT']
  refine ⟨rfl, ?_, put_only⟩
  have hk := Go.Lib.ownsRow_putRow (enc := Value.int .i64) (q := q) (k := T.length) (ys := T ++ List.replicate (S.length - T.length) 0) h (by simp; omega) htl
  rw [List.take_left' rfl] at hk
  exact hk

set_option maxHeartbeats 2000000 in
theorem turn_is {w : World} {B g cap : Nat} {T : List Int} (h : w.ownsRow B 2 1 (.slice (some ⟨g, 0, none⟩) T.length cap) T.length (T.map (Value.int .i64))) (hl : T.length ≤ 1048576) :
    Calls Tryd.prog 84 #[.slice (some ⟨g, 0, none⟩) T.length cap] w fun e w' =>
      e = .returned (.tuple #[]) ∧ w'.ownsRow B 2 1 (.slice (some ⟨g, 0, none⟩) T.length cap) T.length (T.reverse.map (Value.int .i64)) ∧ Only (fun b => g = b) w w' := by
  obtain ⟨hH, hc⟩ := own_holds rfl h
  refine Calls.mono (AnyE.slices_Reverse backLays (Value.int .i64) (fun _ => rfl) g 0 cap T w hH (by omega)) ?_
  rintro e w' ⟨rfl, q, rfl⟩
  refine ⟨rfl, ?_, put_only⟩
  have hk := Go.Lib.ownsRow_putRow (enc := Value.int .i64) (q := q) (k := T.length) (ys := T.reverse) h (by simp) (Nat.le_refl _)
  rw [List.take_of_length_le (by simp)] at hk
  exact hk
end

section
open Go.RowKit Go.Shelf

set_option maxHeartbeats 4000000 in
theorem oddPrios_is {w : World} {v : Value} {O : List Int} {zss : List (List Int)} {P : List Int} (hP : ∀ x ∈ P, 0 ≤ x ∧ x ≤ 40) (hP0 : 0 < P.length) (hP1 : P.length ≤ 256) (h : GameAt w v O zss P) :
    Calls Tryd.prog 66 #[v] w (GivesInts w (oddsL P)) := by
  obtain ⟨ao, an, ap, co, cn, cp, A, C, rfl, h1, h2, h3⟩ := h
  obtain ⟨w1, hw1⟩ : ∃ y, y = w.alloc (.cells #[.slice ao O.length co, .slice an zss.length cn, .slice ap P.length cp] 33) := ⟨_, rfl⟩
  have HW1 := Lib.hid hw1
  have B1 : Hid (Below w.heap.size w w1) := by rw [hw1]; exact below1 _ _
  have T1 : Hid (Box3 w1 w.heap.size 33 (.slice ao O.length co) (.slice an zss.length cn) (.slice ap P.length cp)) := by rw [hw1]; exact Box3.new _ _ _ _ _
  have HD := Lib.hid (distinct_is cp rfl (h3.below B1.out) (by omega))
  have HO := Lib.hid (odds_eq hP)
  have HL : Hid ((oddsL P).length ≤ 20) := downL_len P 20
  have HD0 : Hid (0 < (distL P).length) := List.length_pos_of_mem ((distL_spec P).2 _ |>.2 (nth_mem hP0))
  have HD1 : Hid ((distL P).length ≤ 256) := Nat.le_trans (distL_len P) hP1
  have t0 := T1.out.c0
  have t1 := T1.out.c1
  have t2 := T1.out.c2
  clear hw1 h1 h2 h3 hP hP0 hP1
  go_enter Tryd.func66, Tryd.ntmps66
  go_wp2_with fail
  rw [← HW1.out]
  go_wp2_with fail
  refine HD.out.mono ?_
  rintro e w2 ⟨u, rfl, hu, hb⟩
  obtain ⟨a, cap, rfl, _, hsh⟩ := hu.shape
  obtain ⟨g, rfl, hBg, _, _, _⟩ := hsh HD0.out
  have HU := Lib.hid (ownsRow_base (B' := w.heap.size) hu.own B1.out.size)
  have B2 := Lib.hid (B1.out.trans (hb.mono B1.out.size))
  have hg := B1.out.size
  clear hu hb hsh HD t0 t1 t2
  go_wp2_with fail
  refine (dropEven_is rfl HU.out (by have := HD1.out; omega)).mono ?_
  rintro e w3 ⟨rfl, hu, ho⟩
  have HU3 := Lib.hid hu
  have B3 := Lib.hid (B2.out.trans (ho.below (B := w.heap.size) B2.out.size (fun b hb => by omega)))
  have hl3 : Hid (((distL P).filter fun x => !decide (x.tmod 2 = 0)).length ≤ 1048576) := by
    have h1 := HL.out
    rw [← HO.out, List.length_reverse] at h1
    exact Nat.le_trans h1 (by omega)
  clear hu ho
  go_wp2_with fail
  refine (turn_is HU3.out hl3.out).mono ?_
  rintro e w4 ⟨rfl, hu, ho⟩
  have HU4 := Lib.hid hu
  have B4 := Lib.hid (B3.out.trans (ho.below (B := w.heap.size) B3.out.size (fun b hb => by omega)))
  clear hu ho
  go_wp2
  go_ret
  have h4 := HU4.out
  have hrl : ((distL P).filter fun x => !decide (x.tmod 2 = 0)).length = (oddsL P).length := by rw [← HO.out, List.length_reverse]
  rw [hrl, HO.out] at h4
  refine ⟨.slice (some ⟨g, 0, none⟩) (oddsL P).length cap, by show Ending.returned (.slice (some ⟨g, 0, none⟩) ((distL P).filter fun x => !decide (x.tmod 2 = 0)).length cap) = _; rw [hrl], OwnInts.mk' h4 (by have := HL.out; omega) (fun k hk => ?_), B4.out⟩
  obtain ⟨_, _, h5, h6⟩ := odds_mem.1 (nth_mem hk)
  unfold Fits
  omega

set_option maxHeartbeats 4000000 in
theorem isSmall_is {w : World} {v : Value} {O : List Int} {zss : List (List Int)} {P : List Int} {r : Bool} (hr : smallB O zss P = r) (h : GameAt w v O zss P) :
    Calls Tryd.prog 43 #[v] w fun e w' => e = .returned (.bool r) ∧ Below w.heap.size w w' := by
  have HGm := Lib.hid h
  obtain ⟨ao, an, ap, co, cn, cp, A, C, rfl, h1, h2, h3⟩ := h
  have hlO := h1.len
  obtain ⟨w1, hw1⟩ : ∃ y, y = w.alloc (.cells #[.slice ao O.length co, .slice an zss.length cn, .slice ap P.length cp] 33) := ⟨_, rfl⟩
  have HW1 := Lib.hid hw1
  have B1 : Hid (Below w.heap.size w w1) := by rw [hw1]; exact below1 _ _
  have T1 : Hid (Box3 w1 w.heap.size 33 (.slice ao O.length co) (.slice an zss.length cn) (.slice ap P.length cp)) := by rw [hw1]; exact Box3.new _ _ _ _ _
  have t0 := T1.out.c0
  have t1 := T1.out.c1
  have t2 := T1.out.c2
  obtain ⟨w2, hw2⟩ : ∃ y, y = w1.alloc (.cells #[.slice ao O.length co, .slice an zss.length cn] 31) := ⟨_, rfl⟩
  have HZ : Hid (Calls Tryd.prog 51 #[.agg #[.slice ao O.length co, .slice an zss.length cn]] w1 fun e w' => e = .returned (.int .i64 O.length) ∧ w2 = w') := by rw [hw2]; exact size_is ao an O.length zss.length co cn w1 hlO
  have hb2 : Below w1.heap.size w1 w2 := by rw [hw2]; exact below1 _ _
  have B2 := Lib.hid (B1.out.trans (hb2.mono B1.out.size))
  have T2 := Lib.hid (T1.out.below hb2)
  have HC := Lib.hid (ParityOk_is rfl (HGm.out.below B2.out))
  have HR : Hid ((decide (O.length ≤ 12) && parityB O zss P) = r) := by rw [← smallB_own]; exact hr
  clear hw1 h1 h2 h3 hb2 hw2 hr hlO
  go_enter Tryd.func43, Tryd.ntmps43
  go_wp2_with fail
  rw [← HW1.out]
  go_wp2_with fail
  refine HZ.out.mono ?_
  rintro e w3 ⟨rfl, rfl⟩
  clear t0 t1 t2 HZ
  have t0 := T2.out.c0
  have t1 := T2.out.c1
  have t2 := T2.out.c2
  by_cases hlt : O.length ≤ 12
  · have hlt1 : (O.length : Int) ≤ 12 := by omega
    have HE : Hid (r = parityB O zss P) := by have := HR.out; rw [decide_eq_true hlt] at this; exact this.symm
    go_wp2_with fail
    refine HC.out.mono ?_
    rintro e w4 ⟨rfl, hb⟩
    have B4 := Lib.hid (B2.out.trans (hb.mono B2.out.size))
    clear hb HC t0 t1 t2
    go_wp2
    go_ret
    exact ⟨ret_bool HE.out.symm, B4.out⟩
  · have hlt1 : ¬ (O.length : Int) ≤ 12 := by omega
    have HE : Hid (r = false) := by have := HR.out; rw [decide_eq_false hlt] at this; exact this.symm
    clear HC
    go_wp2
    go_ret
    exact ⟨ret_bool HE.out.symm, B2.out⟩

end
end Go.Proofs.YtihaajcmephlmaaDoor
namespace Go.Proofs.YtihaajcmephlmaaDoor
section
variable {P : Program} {ops : Array Oper} {Q : Exit → Act → World → Prop} {md : Region.Mode} {S : World → Prop} {m : Nat}

/-- Do those from m on wait for all of the first m? -/
def tailB (md : Region.Mode) (ops : Array Oper) (m : Nat) : Bool :=
  (List.range ops.size).all fun j => decide (j < m) || (List.range m).all fun i => match ops[j]? with | some o => o.after.any fun e => Region.binds md e && e.on == i | none => true

theorem tail_waits {i j : Nat} {listed : Array Bool} (h : tailB md ops m = true) (hi : i < m) (hu : listed.getD i true = false) (hj : j ∈ Region.ready md ops listed) : j < m := by
  obtain ⟨-, o, ho, hall⟩ := mem_ready.1 hj
  have hjs : j < ops.size := (Array.getElem?_eq_some_iff.1 ho).1
  have h1 := List.all_eq_true.1 h j (List.mem_range.2 hjs)
  rw [Bool.or_eq_true, decide_eq_true_eq] at h1
  rcases h1 with h1 | h1
  · exact h1
  · have h2 := List.all_eq_true.1 h1 i (List.mem_range.2 hi)
    rw [ho] at h2
    obtain ⟨q, hq, hb⟩ := Array.any_eq_true.1 h2
    obtain ⟨x, hxe⟩ : ∃ x, x = o.after[q] := ⟨_, rfl⟩
    have hx : x ∈ o.after := by rw [hxe]; exact Array.getElem_mem hq
    rw [← hxe] at hb
    rw [Bool.and_eq_true, beq_iff_eq] at hb
    have h3 := hall x hx hb.1
    rw [hb.2] at h3
    by_cases hlt : i < listed.size
    · simp [hlt] at hu h3
      rw [hu] at h3
      exact Bool.noConfusion h3
    · have hn : listed[i]? = none := Array.getElem?_eq_none (by omega)
      simp [hn] at h3

/-- Whatever comes first of what may; behind each of the first m S holds. -/
def wpAnyM (P : Program) (md : Region.Mode) (ops : Array Oper) (Q : Exit → Act → World → Prop) (S : World → Prop) (m : Nat) : Nat → Array Bool → Act → World → Prop
  | 0, listed, a, w => Region.ready md ops listed = [] ∧ Q .normal a w
  | fuel + 1, listed, a, w =>
    (Region.ready md ops listed = [] → Q .normal a w) ∧
    ∀ i ∈ Region.ready md ops listed, wpOp P ops Q i (fun a' w' => (i < m → S w') ∧ wpAnyM P md ops Q S m fuel (listed.setIfInBounds i true) a' w') a w

theorem wpAny_of_M : ∀ (fuel : Nat) (listed : Array Bool) (a : Act) (w : World), wpAnyM P md ops Q S m fuel listed a w → wpAny P md ops Q fuel listed a w
  | 0, _, _, _, h => h
  | fuel + 1, _, _, _, h => ⟨h.1, fun i hi => wpOp_mono (fun _ _ h' => wpAny_of_M fuel _ _ _ h'.2) (h.2 i hi)⟩

theorem wpAnyM_first {i : Nat} {oi : Oper} {v : Value} (hT : tailB md ops m = true) (him : i < m) (hi : ops[i]? = some oi) (hsel : ∀ (j : Nat) (o : Oper) cs b, ops[j]? = some o → o.op ≠ .select cs b)
    (hQ : ∀ c a w, Q (.panic c) (a.put oi.dst v) w → Q (.panic c) a w) :
    ∀ (fuel : Nat) (listed : Array Bool) (a : Act) (w : World),
      (∀ j oj, ops[j]? = some oj → j ≠ i → listed.getD j true = false → (∀ e ∈ oj.after, Region.binds md e = true → e.on ≠ i) → oi.apart ops oj = true) →
      i ∈ Region.ready md ops listed → YieldsIf P ops S oi v a → S w →
      wpAnyM P md ops Q S m fuel (listed.setIfInBounds i true) (a.put oi.dst v) w → wpAnyM P md ops Q S m (fuel + 1) listed a w := by
  intro fuel
  induction fuel with
  | zero =>
    intro listed a w _ hr hy hS H
    refine ⟨fun h => absurd hr (by rw [h]; exact List.not_mem_nil), fun j hj => ?_⟩
    by_cases e : j = i
    · rw [e]; exact hy.wpOp hi hS ⟨fun _ => hS, H⟩
    · have := ready_mono hj e
      rw [H.1] at this
      exact absurd this List.not_mem_nil
  | succ fuel ih =>
    intro listed a w hfree hr hy hS H
    refine ⟨fun h => absurd hr (by rw [h]; exact List.not_mem_nil), fun j hj => ?_⟩
    by_cases e : j = i
    · rw [e]; exact hy.wpOp hi hS ⟨fun _ => hS, H⟩
    · obtain ⟨hjun, oj, hoj, hall⟩ := mem_ready.1 hj
      have hiun := (mem_ready.1 hr).1
      have hjm : j < m := tail_waits hT him hiun hj
      have hnot : ∀ e ∈ oj.after, Region.binds md e = true → e.on ≠ i := fun x hx hb heq => by
        have h1 := hall x hx hb
        rw [heq] at h1
        by_cases hlt : i < listed.size
        · simp [hlt] at hiun h1
          rw [hiun] at h1
          exact Bool.noConfusion h1
        · have hn : listed[i]? = none := Array.getElem?_eq_none (by omega)
          simp [hn] at h1
      have h2 := wpOp_putIf hoj (hfree j oj hoj e hjun hnot) (fun cs b => hsel i oi cs b hi) (fun cs b => hsel j oj cs b hoj) hQ hy (H.2 j (ready_mono hj e))
      have hfree' : ∀ k ok, ops[k]? = some ok → k ≠ i → (listed.setIfInBounds j true).getD k true = false → (∀ x ∈ ok.after, Region.binds md x = true → x.on ≠ i) → oi.apart ops ok = true := fun k ok hk hki hun hno => by
        refine hfree k ok hk hki ?_ hno
        by_cases hjk : j = k
        · rw [← hjk]; exact hjun
        · rw [getD_set_ne true hjk] at hun; exact hun
      refine wpOp_mono (fun a' w' h3 => ?_) h2
      obtain ⟨hy3, hS3, hW3⟩ := h3
      have hS4 := hS3 hjm
      refine ⟨fun _ => hS4, ih _ a' w' hfree' (ready_mono hr (fun x => e x.symm)) hy3 hS4 ?_⟩
      rw [Array.setIfInBounds_comm _ _ e]
      exact hW3

/-- Take number i first. -/
theorem wpAnyM_take {i : Nat} {oi : Oper} {v : Value} {fuel : Nat} {listed : Array Bool} {a : Act} {w : World} (hi : ops[i]? = some oi) (hT : tailB md ops m = true) (him : i < m)
    (hs : Region.noSelect ops = true) (hf : Region.free md ops listed i = true) (hr : (Region.ready md ops listed).contains i = true)
    (hQ : ∀ c a w, Q (.panic c) (a.put oi.dst v) w → Q (.panic c) a w) (hy : YieldsIf P ops S oi v a) (hS : S w)
    (h : wpAnyM P md ops Q S m fuel (listed.setIfInBounds i true) (a.put oi.dst v) w) : wpAnyM P md ops Q S m (fuel + 1) listed a w :=
  wpAnyM_first hT him hi (Region.noSelect_spec hs) hQ fuel listed a w (Region.free_spec hi hf) (by simpa using hr) hy hS h

/-- Number i alone may come up. -/
theorem wpAnyM_one {i : Nat} {o : Oper} {fuel : Nat} {listed : Array Bool} {a : Act} {w : World} (hr : Region.ready md ops listed = [i]) (ho : ops[i]? = some o)
    (h : ∀ K' : Act → World → Prop, Shut (∀ a w, (i < m → S w) → ((i < m → S w) → wpAnyM P md ops Q S m fuel (listed.setIfInBounds i true) a w) → K' a w) → if Region.wanted o (yielded ops a.tmps) = true then Oper.wp P o a w K' Q else K' (a.put o.dst undef) w) :
    wpAnyM P md ops Q S m (fuel + 1) listed a w :=
  ⟨fun h0 => absurd h0 (by rw [hr]; exact List.cons_ne_nil _ _), fun j hj => by
    rw [hr, List.mem_singleton] at hj
    rw [hj]
    exact wpOp_step ho (fun K' hK => h K' (fun a w hS hW => hK a w ⟨hS, hW hS⟩))⟩

/-- Two may come up. -/
theorem wpAnyM_two {i j : Nat} {o o' : Oper} {fuel : Nat} {listed : Array Bool} {a : Act} {w : World} (hr : Region.ready md ops listed = [i, j]) (ho : ops[i]? = some o) (ho' : ops[j]? = some o')
    (h : ∀ K' : Act → World → Prop, Shut (∀ a w, (i < m → S w) → ((i < m → S w) → wpAnyM P md ops Q S m fuel (listed.setIfInBounds i true) a w) → K' a w) → if Region.wanted o (yielded ops a.tmps) = true then Oper.wp P o a w K' Q else K' (a.put o.dst undef) w)
    (h' : ∀ K' : Act → World → Prop, Shut (∀ a w, (j < m → S w) → ((j < m → S w) → wpAnyM P md ops Q S m fuel (listed.setIfInBounds j true) a w) → K' a w) → if Region.wanted o' (yielded ops a.tmps) = true then Oper.wp P o' a w K' Q else K' (a.put o'.dst undef) w) :
    wpAnyM P md ops Q S m (fuel + 1) listed a w :=
  ⟨fun h0 => absurd h0 (by rw [hr]; exact List.cons_ne_nil _ _), fun k hk => by
    rw [hr, List.mem_cons, List.mem_singleton] at hk
    rcases hk with hk | hk
    · rw [hk]; exact wpOp_step ho (fun K' hK => h K' (fun a w hS hW => hK a w ⟨hS, hW hS⟩))
    · rw [hk]; exact wpOp_step ho' (fun K' hK => h' K' (fun a w hS hW => hK a w ⟨hS, hW hS⟩))⟩

theorem wpAnyM_done {listed : Array Bool} {a : Act} {w : World} (hr : Region.ready md ops listed = []) (h : Q .normal a w) : ∀ fuel, wpAnyM P md ops Q S m fuel listed a w
  | 0 => ⟨hr, h⟩
  | _ + 1 => ⟨fun _ => h, fun i hi => absurd hi (by rw [hr]; exact List.not_mem_nil)⟩

/-- The beginning, in a function's own body. -/
theorem wp_region_M {id : Nat} {a : Act} {w : World} (hm : P.follows .mixedOrders = true) (hS : S w.drew)
    (h : S w.drew → wpAnyM P .any ops Q S m ops.size (Array.replicate ops.size false) a w.drew) : (Code.region id ops true).wp P Q a w :=
  wp_region_any hm (wpAny_of_M _ _ _ _ (h hS))

end
end Go.Proofs.YtihaajcmephlmaaDoor
namespace Go.Proofs.YtihaajcmephlmaaDoor
section
open Go.RowKit Go.Shelf
attribute [local go_sem] Oper.semAt_some

theorem wp_cut8 {P : Program} {c : Code} {Q : Exit → Act → World → Prop} {a : Act} {w : World} (R : Act → World → Prop) (h1 : Code.wp P c (Exit.then R fun _ _ _ => False) a w) (h2 : ∀ a' w', R a' w' → Q .normal a' w') : Code.wp P c Q a w :=
  wp_mono h1 fun e a' w' h => by
    cases e with
    | normal => exact h2 _ _ h
    | _ => exact h.elim

/-- The cells of a scale: four slices, thirteen numbers. -/
def scaF (a b c d : Value) (M : List Int) : Nat → Value
  | 0 => a
  | 1 => b
  | 2 => c
  | 3 => d
  | i + 4 => .int .i64 (nth M i)
/-- A measure's cells, its value. -/
def meaA (m : List Int) : Array Value := #[.int .i64 (nth m 0), .int .i64 (nth m 1), .int .i64 (nth m 2), .int .i64 (nth m 3), .int .i64 (nth m 4), .int .i64 (nth m 5), .int .i64 (nth m 6), .int .i64 (nth m 7), .int .i64 (nth m 8), .int .i64 (nth m 9), .int .i64 (nth m 10), .int .i64 (nth m 11), .int .i64 (nth m 12)]
def meaV (m : List Int) : Value := .agg (meaA m)
/-- A scale's value. -/
def scaA (a b c d : Value) (M : List Int) : Array Value := #[a, b, c, d, .int .i64 (nth M 0), .int .i64 (nth M 1), .int .i64 (nth M 2), .int .i64 (nth M 3), .int .i64 (nth M 4), .int .i64 (nth M 5), .int .i64 (nth M 6), .int .i64 (nth M 7), .int .i64 (nth M 8), .int .i64 (nth M 9), .int .i64 (nth M 10), .int .i64 (nth M 11), .int .i64 (nth M 12)]
def scaV (a b c d : Value) (M : List Int) : Value := .agg (scaA a b c d M)
/-- A scale: the game, its odds and the greatest numbers. -/
def ScaleAt (w : World) (s : Value) (O : List Int) (zss : List (List Int)) (P : List Int) : Prop :=
  ∃ ao an ap aq co cn cp cq, s = scaV (.slice ao O.length co) (.slice an zss.length cn) (.slice ap P.length cp) (.slice aq (oddsL P).length cq) (mostL P) ∧ GameAt w (.agg #[.slice ao O.length co, .slice an zss.length cn, .slice ap P.length cp]) O zss P ∧ IntsAt w aq (oddsL P)
theorem ScaleAt.below {w w' : World} {s : Value} {O P : List Int} {zss : List (List Int)} (h : ScaleAt w s O zss P) (hb : Below w.heap.size w w') : ScaleAt w' s O zss P := by
  obtain ⟨ao, an, ap, aq, co, cn, cp, cq, e, hg, hq⟩ := h
  exact ⟨ao, an, ap, aq, co, cn, cp, cq, e, hg.below hb, hq.below hb⟩
theorem sca_of {w : World} {g : Nat} {T : TypeId} {a b c d : Value} {M : List Int} (h : w.heap[g]? = some (.cells (scaA a b c d M) T (0, 0))) : w.rowIs g T 17 (scaF a b c d M) := by
  refine ⟨_, h, rfl, fun j hj => ?_⟩
  have h17 : j = 0 ∨ j = 1 ∨ j = 2 ∨ j = 3 ∨ j = 4 ∨ j = 5 ∨ j = 6 ∨ j = 7 ∨ j = 8 ∨ j = 9 ∨ j = 10 ∨ j = 11 ∨ j = 12 ∨ j = 13 ∨ j = 14 ∨ j = 15 ∨ j = 16 := by omega
  rcases h17 with rfl | rfl | rfl | rfl | rfl | rfl | rfl | rfl | rfl | rfl | rfl | rfl | rfl | rfl | rfl | rfl | rfl <;> rfl
theorem scaA_zero (a b c d : Value) (P : List Int) : scaA a b c d [] = scaA a b c d (mostK P 0) := by
  unfold scaA
  rw [mostK_start P 0, mostK_start P 1, mostK_start P 2, mostK_start P 3, mostK_start P 4, mostK_start P 5, mostK_start P 6, mostK_start P 7, mostK_start P 8, mostK_start P 9, mostK_start P 10, mostK_start P 11, mostK_start P 12]
  rfl
theorem sca_cells {w : World} {g : Nat} {T : TypeId} {a b c d : Value} {M : List Int} (h : w.rowIs g T 17 (scaF a b c d M)) : w.heap[g]? = some (.cells (scaA a b c d M) T (0, 0)) := by
  obtain ⟨cs, hb, hn, hc⟩ := h
  have e : cs = scaA a b c d M := Array.ext (by rw [hn]; rfl) (fun j h1 h2 => by
    have h3 := hc j (by omega)
    rw [Array.getElem?_eq_getElem h1] at h3
    injection h3 with h3
    rw [h3]
    have h17 : j = 0 ∨ j = 1 ∨ j = 2 ∨ j = 3 ∨ j = 4 ∨ j = 5 ∨ j = 6 ∨ j = 7 ∨ j = 8 ∨ j = 9 ∨ j = 10 ∨ j = 11 ∨ j = 12 ∨ j = 13 ∨ j = 14 ∨ j = 15 ∨ j = 16 := by omega
    clear h3
    rcases h17 with rfl | rfl | rfl | rfl | rfl | rfl | rfl | rfl | rfl | rfl | rfl | rfl | rfl | rfl | rfl | rfl | rfl <;> rfl)
  rw [hb, e]
theorem only_row8 {S : Nat → Prop} {a w : World} {g : Nat} (h : Only S a w) (hg : S g) (cs : Array Value) : Only S a (w.setRow g cs) :=
  h.trans ⟨rfl, rfl, rfl, by simp [World.setRow], fun k _ hk => by
    have hne : g ≠ k := fun e => hk (by rw [← e]; exact hg)
    simp [World.setRow, Array.getElem?_modify, hne]⟩
theorem ret_sca {fn : Func} {p : Tmp} {tmps : Array Value} {W : World} {g : Nat} {a b c d : Value} {M : List Int} {R : Ending → World → Prop} (hr : fn.results = #[.cell p 53]) (hp : tmps.getD p undef = .pointer (some ⟨g, 0, none⟩))
    (hM : W.rowIs g 53 17 (scaF a b c d M)) (hR : R (.returned (scaV a b c d M)) W) : bodyPost Tryd.prog fn R .ret { tmps := tmps, defers := [] } W :=
  bodyPost_ret (v := scaV a b c d M) (results_cell_row hr tmps _ g _ _ _ _ hp (sca_cells hM) Tryd.underlying53 rfl (by kernel_rfl)) rfl hR
theorem own_ints8 {w : World} {B D n c : Nat} {a : Option Addr} {zs : List Int} (h : OwnInts w B D (.slice a n c) zs) : IntsAt w a zs := by
  obtain ⟨a', c', e, hI, _⟩ := h.shape
  cases e
  exact hI
theorem scaF_congr {a b c d : Value} {M M' : List Int} (h : ∀ j, nth M j = nth M' j) : ∀ i, scaF a b c d M i = scaF a b c d M' i
  | 0 => rfl
  | 1 => rfl
  | 2 => rfl
  | 3 => rfl
  | j + 4 => congrArg (Value.int .i64) (h j)
theorem sca_bump {w : World} {g : Nat} {T : TypeId} {a b c d : Value} {M M' : List Int} {j : Nat} (h : w.rowIs g T 17 (scaF a b c d M)) (hM : ∀ i, nth M' i = if i = j then nth M i + 1 else nth M i) : (w.setCell ⟨g, j + 4, none⟩ (.int .i64 (nth M j + 1))).rowIs g T 17 (scaF a b c d M') := by
  refine (h.set (j + 4) _).congr fun i hi => ?_
  by_cases e : i = j + 4
  · subst e
    rw [if_pos rfl]
    show _ = Value.int .i64 (nth M' j)
    rw [hM, if_pos rfl]
  · rw [if_neg e]
    match i, e with
    | 0, _ => rfl
    | 1, _ => rfl
    | 2, _ => rfl
    | 3, _ => rfl
    | i + 4, e =>
      show Value.int .i64 (nth M i) = Value.int .i64 (nth M' i)
      rw [hM, if_neg (by omega)]
theorem idx_hit {zs : List Int} {x : Int} (h : hasB zs x = true) : ∃ j, j < zs.length ∧ nth zs j = x ∧ idx zs x = (j : Int) := by
  have hm := hasB_iff.1 h
  have hlt := List.idxOf_lt_length_iff.2 hm
  refine ⟨zs.idxOf x, hlt, ?_, ?_⟩
  · rw [nth_eq hlt]; exact List.getElem_idxOf hlt
  · unfold idx; rw [if_pos hm]
theorem idx_miss {zs : List Int} {x : Int} (h : hasB zs x = false) : idx zs x = -1 ∧ x ∉ zs := by
  have hm : x ∉ zs := fun hx => by rw [hasB_iff.2 hx] at h; cases h
  exact ⟨by unfold idx; rw [if_neg hm], hm⟩

set_option linter.unusedSimpArgs false in
set_option maxRecDepth 100000 in
set_option maxHeartbeats 16000000 in
theorem newScale_is {w : World} {ao an ap : Option Addr} {co cn cp : Nat} {O P : List Int} {zss : List (List Int)} (hP : ∀ x ∈ P, 0 ≤ x ∧ x ≤ 40) (hP0 : 0 < P.length) (hP1 : P.length ≤ 12) (h : GameAt w (.agg #[.slice ao O.length co, .slice an zss.length cn, .slice ap P.length cp]) O zss P) :
    Calls Tryd.prog 44 #[.agg #[.slice ao O.length co, .slice an zss.length cn, .slice ap P.length cp]] w fun e w' => ∃ aq cq, e = .returned (scaV (.slice ao O.length co) (.slice an zss.length cn) (.slice ap P.length cp) (.slice aq (oddsL P).length cq) (mostL P)) ∧ OwnInts w' w.heap.size w'.heap.size (.slice aq (oddsL P).length cq) (oddsL P) ∧ Below w.heap.size w w' := by
  have HGm := Lib.hid h
  have HOP := fun (W : World) (hb : Below w.heap.size w W) => oddPrios_is hP hP0 (by omega) (HGm.out.below hb)
  have h3 : IntsAt w ap P := by
    obtain ⟨_, _, _, _, _, _, _, _, e, _, _, h3⟩ := h
    cases e
    exact h3
  have HOP := Lib.hid HOP
  have HP := Lib.hid h3
  have HL : Hid ((oddsL P).length ≤ P.length) := odds_len hP
  clear h h3 hP
  go_enter Tryd.func44, Tryd.ntmps44
  go_wp2_with fail
  obtain ⟨w1, hw1⟩ : ∃ y, y = (w.alloc (.cells #[.slice ao O.length co, .slice an zss.length cn, .slice ap P.length cp] 33)).alloc (.cells #[.slice none 0 0, .slice none 0 0, .slice none 0 0, .slice none 0 0, .int .i64 0, .int .i64 0, .int .i64 0, .int .i64 0, .int .i64 0, .int .i64 0, .int .i64 0, .int .i64 0, .int .i64 0, .int .i64 0, .int .i64 0, .int .i64 0, .int .i64 0] 53) := ⟨_, rfl⟩
  rw [← hw1]
  have HB1 : Hid (Below w.heap.size w w1) := by rw [hw1]; exact below2 _ _ _
  have HT1 : Hid (Box3 w1 w.heap.size 33 (.slice ao O.length co) (.slice an zss.length cn) (.slice ap P.length cp)) := by rw [hw1]; exact (Box3.new _ _ _ _ _).below (below1 _ _)
  have HR1 : Hid (w1.heap[w.heap.size + 1]? = some (.cells (scaA (.slice none 0 0) (.slice none 0 0) (.slice none 0 0) (.slice none 0 0) []) 53 (0, 0))) := by
    rw [hw1]
    exact heap_alloc2_new _ _ _
  have hs1 : Hid (w1.heap.size = w.heap.size + 2) := by rw [hw1]; simp [Hid]
  clear hw1
  have HSw : Hid (∀ W', Below w1.heap.size w1 W' → W'.cell? ⟨w.heap.size, 0, none⟩ = some (.slice ao O.length co) ∧ W'.cell? ⟨w.heap.size, 1, none⟩ = some (.slice an zss.length cn) ∧ W'.cell? ⟨w.heap.size, 2, none⟩ = some (.slice ap P.length cp)) := fun W' hb => ⟨(HT1.out.below hb).c0, (HT1.out.below hb).c1, (HT1.out.below hb).c2⟩
  have Kd : Hid (Below w1.heap.size w1 w1.drew) := (Below.refl _ _).drew
  refine wp_cut8 (fun a' wx => ∃ (b : Nat) (aq : Option Addr) (cq : Nat) (u7 u8 u9 u10 : Value), (Hid (w1.heap.size ≤ b) ∧ Hid (Below w1.heap.size w1 wx) ∧ Hid (OwnInts wx w.heap.size wx.heap.size (.slice aq (oddsL P).length cq) (oddsL P)) ∧ Hid (∀ g, (Value.slice aq (oddsL P).length cq).ownBlock = some g → g ≠ b ∧ w1.heap.size ≤ g) ∧ Hid (wx.rowIs b 53 17 (scaF (.slice ao O.length co) (.slice an zss.length cn) (.slice ap P.length cp) (.slice aq (oddsL P).length cq) (mostK P 0)))) ∧ a' = { tmps := #[.agg #[.slice ao O.length co, .slice an zss.length cn, .slice ap P.length cp], .pointer (some ⟨w.heap.size, 0, none⟩), .pointer (some ⟨w.heap.size + 1, 0, none⟩), .pointer (some ⟨b, 0, none⟩), undef, undef, undef, u7, u8, u9, u10, undef, undef, undef, undef, undef, undef, undef, undef, undef, undef, undef, undef, undef, undef, undef, undef, undef, undef, undef, undef, undef, undef, undef], defers := [] }) ?reg1 ?rest1
  case reg1 =>
    refine wp_region_M (S := (fun W' => W'.cell? ⟨w.heap.size, 0, none⟩ = some (.slice ao O.length co) ∧ W'.cell? ⟨w.heap.size, 1, none⟩ = some (.slice an zss.length cn) ∧ W'.cell? ⟨w.heap.size, 2, none⟩ = some (.slice ap P.length cp))) (m := 5) (by kernel_rfl) (HSw.out _ Kd.out) (fun hHeld => ?_)
    refine wpAnyM_take (i := 0) (v := ?vm1) rfl (by kernel_rfl) (by decide) (by kernel_rfl) (by kernel_rfl) (by kernel_rfl) (fun _ _ _ h => h) (Or.inl ⟨by rfl, ?hm1⟩) (by assumption) ?_
    case hm1 => (intro w hSw; (try dsimp only at hSw); go_simp; first | done | with_reducible rfl)
    try simp only [Act.put, List.setIfInBounds_toArray, List.set_cons_zero, List.set_cons_succ]
    refine wpAnyM_take (i := 1) (v := ?vm2) rfl (by kernel_rfl) (by decide) (by kernel_rfl) (by kernel_rfl) (by kernel_rfl) (fun _ _ _ h => h) (Or.inl ⟨by rfl, ?hm2⟩) (by assumption) ?_
    case hm2 => (intro w hSw; (try dsimp only at hSw); go_simp; first | done | with_reducible rfl)
    try simp only [Act.put, List.setIfInBounds_toArray, List.set_cons_zero, List.set_cons_succ]
    refine wpAnyM_two (i := 2) (j := 4) (by kernel_rfl) rfl rfl (fun K hK => ?_) (fun K hK => ?_)
    · skip
      go_simp
      go_at_call 66
      refine (HOP.out w1.drew (HB1.out.trans (Kd.out.mono HB1.out.size))).mono ?_
      rintro e W2 ⟨q, rfl, hq, hb⟩
      obtain ⟨aq, cq, rfl, _, _⟩ := hq.shape
      have HQ := Lib.hid (hq.base (B' := w.heap.size) (Nat.le_trans HB1.out.size Kd.out.size))
      have HQB := Lib.hid (fun g hg => (hq.own.lt g hg).1)
      have Kx2 := Lib.hid (Kd.out.trans (hb.mono Kd.out.size))
      clear hb hq
      go_wp2_with fail
      refine hK.out _ _ (fun _ => HSw.out _ Kx2.out) (fun hHeld => ?_)
      have hHeld := hHeld (by decide)
      clear hK K
      try simp only [Act.put, List.setIfInBounds_toArray, List.set_cons_zero, List.set_cons_succ]
      refine wpAnyM_take (i := 3) (v := ?vm3) rfl (by kernel_rfl) (by decide) (by kernel_rfl) (by kernel_rfl) (by kernel_rfl) (fun _ _ _ h => h) (Or.inl ⟨by rfl, ?hm3⟩) (by assumption) ?_
      case hm3 => (intro w hSw; (try dsimp only at hSw); go_simp; first | done | with_reducible rfl)
      try simp only [Act.put, List.setIfInBounds_toArray, List.set_cons_zero, List.set_cons_succ]
      refine wpAnyM_one (i := 4) (by kernel_rfl) rfl (fun K hK => ?_)
      go_simp
      obtain ⟨W3, hW3⟩ : ∃ y, y = W2.alloc (.cells #[.slice none 0 0, .slice none 0 0, .slice none 0 0, .slice none 0 0, .int .i64 0, .int .i64 0, .int .i64 0, .int .i64 0, .int .i64 0, .int .i64 0, .int .i64 0, .int .i64 0, .int .i64 0, .int .i64 0, .int .i64 0, .int .i64 0, .int .i64 0] 53) := ⟨_, rfl⟩
      rw [← hW3]
      have hb : Below W2.heap.size W2 W3 := by rw [hW3]; exact below1 _ _
      have HN : Hid (W3.heap[W2.heap.size]? = some (.cells (scaA (.slice none 0 0) (.slice none 0 0) (.slice none 0 0) (.slice none 0 0) []) 53 (0, 0))) := by rw [hW3]; exact heap_alloc_new _ _
      have HNE : Hid (∀ g, (Value.slice aq (oddsL P).length cq).ownBlock = some g → g ≠ W2.heap.size ∧ w1.heap.size ≤ g) := fun g hg => by have := HQ.out.top g hg; have := HQB.out g hg; have := Kd.out.size; exact ⟨by omega, by omega⟩
      have HQ := Lib.hid (HQ.out.below hb)
      clear hW3
      have Kx3 := Lib.hid (Kx2.out.trans (hb.mono Kx2.out.size))
      have HBB : Hid (w1.heap.size ≤ W2.heap.size) := Kx2.out.size
      refine hK.out _ _ (fun _ => HSw.out _ Kx3.out) (fun hHeld => ?_)
      have hHeld := hHeld (by decide)
      clear hK K
      try simp only [Act.put, List.setIfInBounds_toArray, List.set_cons_zero, List.set_cons_succ]
      refine wpAnyM_one (i := 5) (by kernel_rfl) rfl (fun K hK => ?_)
      rw [if_pos (by kernel_rfl)]
      refine wp_store_row 53 _ _ rfl (W2.heap.size) (scaA (.slice ao O.length co) (.slice an zss.length cn) (.slice ap P.length cp) (.slice aq (oddsL P).length cq) []) rfl rfl 53 (scaA (.slice none 0 0) (.slice none 0 0) (.slice none 0 0) (.slice none 0 0) []) HN.out (by kernel_rfl) rfl (by simp [scaA, Value.oneCell']) ?_
      refine hK.out _ _ (fun h => absurd h (by decide)) (fun _ => ?_)
      clear hK K
      try simp only [Act.put, List.setIfInBounds_toArray, List.set_cons_zero, List.set_cons_succ]
      refine wpAnyM_done (by kernel_rfl) ?_ _
      have hsz := Kx3.out.size
      have ho := only_row8 (S := fun x => x = W2.heap.size) (Only.refl _ _) rfl (scaA (.slice ao O.length co) (.slice an zss.length cn) (.slice ap P.length cp) (.slice aq (oddsL P).length cq) []) (w := W3)
      refine ⟨W2.heap.size, aq, cq, _, _, _, _, ⟨HBB.out, Kx3.out.trans (ho.below Kx3.out.size (fun x hx => by rw [hx]; exact HBB.out)), (HQ.out.only ho (fun g hg => (HNE.out g hg).1)).retop, HNE, ?_⟩, rfl⟩
      refine sca_of ?_
      rw [← scaA_zero]
      exact setRow_heap _ _ _ _ _ _ HN.out
    · skip
      go_simp
      obtain ⟨W3, hW3⟩ : ∃ y, y = (w1.alloc (.cells #[.slice none 0 0, .slice none 0 0, .slice none 0 0, .slice none 0 0, .int .i64 0, .int .i64 0, .int .i64 0, .int .i64 0, .int .i64 0, .int .i64 0, .int .i64 0, .int .i64 0, .int .i64 0, .int .i64 0, .int .i64 0, .int .i64 0, .int .i64 0] 53)).drew := ⟨_, rfl⟩
      rw [← hW3]
      have HN0 : Hid (W3.heap[w1.heap.size]? = some (.cells (scaA (.slice none 0 0) (.slice none 0 0) (.slice none 0 0) (.slice none 0 0) []) 53 (0, 0))) := by rw [hW3]; exact heap_alloc_new _ _
      have Kx3 : Hid (Below w1.heap.size w1 W3) := by rw [hW3]; exact (below1 _ _).drew
      have hs3 : Hid (W3.heap.size = w1.heap.size + 1) := by rw [hW3]; show (w1.alloc _).heap.size = _; simp
      clear hW3
      refine hK.out _ _ (fun _ => HSw.out _ Kx3.out) (fun hHeld => ?_)
      have hHeld := hHeld (by decide)
      clear hK K
      try simp only [Act.put, List.setIfInBounds_toArray, List.set_cons_zero, List.set_cons_succ]
      refine wpAnyM_one (i := 2) (by kernel_rfl) rfl (fun K hK => ?_)
      go_simp
      go_at_call 66
      refine (HOP.out W3 (HB1.out.trans (Kx3.out.mono HB1.out.size))).mono ?_
      rintro e W4 ⟨q, rfl, hq, hb⟩
      obtain ⟨aq, cq, rfl, _, _⟩ := hq.shape
      have HQ := Lib.hid (hq.base (B' := w.heap.size) (Nat.le_trans HB1.out.size Kx3.out.size))
      have HQB := Lib.hid (fun g hg => (hq.own.lt g hg).1)
      have Kx4 := Lib.hid (Kx3.out.trans (hb.mono Kx3.out.size))
      have HN := Lib.hid ((hb.block _ (Array.getElem?_eq_some_iff.1 HN0.out).1).trans HN0.out)
      clear hb hq
      go_wp2_with fail
      refine hK.out _ _ (fun _ => HSw.out _ Kx4.out) (fun hHeld => ?_)
      have hHeld := hHeld (by decide)
      clear hK K
      try simp only [Act.put, List.setIfInBounds_toArray, List.set_cons_zero, List.set_cons_succ]
      refine wpAnyM_take (i := 3) (v := ?vm4) rfl (by kernel_rfl) (by decide) (by kernel_rfl) (by kernel_rfl) (by kernel_rfl) (fun _ _ _ h => h) (Or.inl ⟨by rfl, ?hm4⟩) (by assumption) ?_
      case hm4 => (intro w hSw; (try dsimp only at hSw); go_simp; first | done | with_reducible rfl)
      try simp only [Act.put, List.setIfInBounds_toArray, List.set_cons_zero, List.set_cons_succ]
      have HBB : Hid (w1.heap.size ≤ w1.heap.size) := Nat.le_refl _
      have HNE : Hid (∀ g, (Value.slice aq (oddsL P).length cq).ownBlock = some g → g ≠ w1.heap.size ∧ w1.heap.size ≤ g) := fun g hg => by have := HQB.out g hg; have := hs3.out; exact ⟨by omega, by omega⟩
      refine wpAnyM_one (i := 5) (by kernel_rfl) rfl (fun K hK => ?_)
      rw [if_pos (by kernel_rfl)]
      refine wp_store_row 53 _ _ rfl (w1.heap.size) (scaA (.slice ao O.length co) (.slice an zss.length cn) (.slice ap P.length cp) (.slice aq (oddsL P).length cq) []) rfl rfl 53 (scaA (.slice none 0 0) (.slice none 0 0) (.slice none 0 0) (.slice none 0 0) []) HN.out (by kernel_rfl) rfl (by simp [scaA, Value.oneCell']) ?_
      refine hK.out _ _ (fun h => absurd h (by decide)) (fun _ => ?_)
      clear hK K
      try simp only [Act.put, List.setIfInBounds_toArray, List.set_cons_zero, List.set_cons_succ]
      refine wpAnyM_done (by kernel_rfl) ?_ _
      have hsz := Kx4.out.size
      have ho := only_row8 (S := fun x => x = w1.heap.size) (Only.refl _ _) rfl (scaA (.slice ao O.length co) (.slice an zss.length cn) (.slice ap P.length cp) (.slice aq (oddsL P).length cq) []) (w := W4)
      refine ⟨w1.heap.size, aq, cq, _, _, _, _, ⟨HBB.out, Kx4.out.trans (ho.below Kx4.out.size (fun x hx => by rw [hx]; exact HBB.out)), (HQ.out.only ho (fun g hg => (HNE.out g hg).1)).retop, HNE, ?_⟩, rfl⟩
      refine sca_of ?_
      rw [← scaA_zero]
      exact setRow_heap _ _ _ _ _ _ HN.out
  case rest1 =>
    rintro a' wx ⟨b, aq, cq, u7, u8, u9, u10, ⟨Hbb, Bx, HQ, HNE, HR⟩, rfl⟩
    have hsb := Hbb.out
    have hb2 : w.heap.size ≠ b := by have := hs1.out; omega
    have HTx : Hid (∀ W, Only (fun x => x = b) wx W → Box3 W w.heap.size 33 (.slice ao O.length co) (.slice an zss.length cn) (.slice ap P.length cp)) := fun W ho => World.rowIs.of_block (HT1.out.below Bx.out) (ho.block _ (HT1.out.below Bx.out).lt hb2)
    have HBx := Lib.hid (HB1.out.trans (Bx.out.mono HB1.out.size))
    have t2 := (HTx.out wx (Only.refl _ _)).c2
    have hlP := HP.out.len
    clear HSw Kd HT1 hsb HOP
    go_wp2
    go_loopw [14] (fun iv wr => ∃ k : Nat, k ≤ P.length ∧ iv = .int .i64 k ∧ Hid (wr.rowIs b 53 17 (scaF (.slice ao O.length co) (.slice an zss.length cn) (.slice ap P.length cp) (.slice aq (oddsL P).length cq) (mostK P k))) ∧ Hid (Only (fun x => x = b) wx wr)) (fun iv _ => P.length - (intOf iv).toNat)
    case atStart => exact ⟨0, Nat.zero_le _, rfl, HR, Only.refl _ _⟩
    case round =>
      clear HR
      obtain ⟨k, hk, rfl, HR, HO⟩ := hrel
      have HOI := Lib.hid (HQ.out.only HO.out (fun g hg => (HNE.out g hg).1))
      by_cases hlt : k < P.length
      · have hi1 : (k : Int) < P.length := by omega
        have hk0 : (0 : Int) ≤ (k : Int) := by omega
        obtain ⟨pb, po, hpa, hpc⟩ := HP.out.cell (by omega)
        have p0 := hpc k hlt
        have hpl := World.block_lt_of_cell? _ _ p0
        have hsx := HBx.out.size
        have hpb : pb ≠ b := fun e => by have := HB1.out.size; have := Hbb.out; have h1 : pb < w.heap.size := hpl; omega
        have p1 : wr.cell? ⟨pb, po + k, none⟩ = some (.int .i64 (nth P k)) := (World.cell?_of_block (HO.out.block pb (Nat.lt_of_lt_of_le hpl hsx) hpb)).trans ((HBx.out.cell hpl).trans p0)
        have x3 : wr.cell? ⟨b, 3, none⟩ = some (.slice aq (oddsL P).length cq) := HR.out.cell (i := 3) (by omega)
        have HPA := Lib.hid hpa
        obtain ⟨z, hz⟩ : ∃ z, z = nth P k := ⟨_, rfl⟩
        have HZ := Lib.hid hz
        rw [← hz] at p1
        subst hpa
        clear hpc p0 hpl hsx hpb hz
        cases hh : hasB (oddsL P) z with
        | true =>
          obtain ⟨j, hj, hjz, hji⟩ := idx_hit hh
          have HCI := Lib.hid (Index_is hji cq wr (own_ints8 HOI.out))
          have HST := Lib.hid (mostK_hit hlt hj (by rw [hjz, HZ.out]))
          have hj12 : j < 12 := by have := HL.out; omega
          obtain ⟨c, hc⟩ : ∃ c, c = nth (mostK P k) (j + 1) := ⟨_, rfl⟩
          have hcb := mostK_le P k (j + 1)
          have HCc := Lib.hid hc
          rw [← hc] at hcb
          have q1 : wr.cell? ⟨b, 4 + (1 + j), none⟩ = some (.int .i64 c) := by
            have h := HR.out.cell (i := j + 1 + 4) (by omega)
            rw [show 4 + (1 + j) = j + 1 + 4 by omega, h, hc]
            rfl
          have q2 : wr.frozen? ⟨b, 4 + (1 + j), none⟩ = false := HR.out.frozen _
          have hj0 : (0 : Int) ≤ (j : Int) := by omega
          have hj2 : (0 : Int) ≤ 1 + (j : Int) := by omega
          have hj3 : 1 + (j : Int) < 13 := by omega
          have hj4 : (1 + (j : Int)).toNat = 1 + j := by omega
          have hj5 : IntKind.i64.wrap (1 + (j : Int)) = 1 + (j : Int) := by rw [IntKind.wrap_i64]; omega
          have hj6 : IntKind.i64.wrap (c + 1) = c + 1 := by rw [IntKind.wrap_i64]; omega
          clear hh hjz hji hj hc
          go_wp2_with fail
          refine HCI.out.mono ?_
          rintro e w3 ⟨rfl, rfl⟩
          go_wp2
          go_roundw
          case rel =>
            refine ⟨k + 1, by omega, by go_num, ?_, HO.out.setCell (p := ⟨b, 4 + (1 + j), none⟩) rfl _⟩
            have h := sca_bump HR.out HST.out
            rw [← HCc.out] at h
            rw [show 4 + (1 + j) = j + 1 + 4 by omega]
            exact h
          case measure => simp [intOf]; omega
        | false =>
          obtain ⟨hji, hjn⟩ := idx_miss hh
          have HCI := Lib.hid (Index_is hji cq wr (own_ints8 HOI.out))
          have HST := Lib.hid (mostK_miss hlt (by rw [← HZ.out]; exact hjn))
          clear hh hji hjn
          go_wp2_with fail
          refine HCI.out.mono ?_
          rintro e w3 ⟨rfl, rfl⟩
          go_wp2
          go_roundw
          case rel => exact ⟨k + 1, by omega, by go_num, World.rowIs.congr HR.out (fun i _ => scaF_congr (fun j => (HST.out j).symm) i), HO⟩
          case measure => simp [intOf]; omega
      · have hi1 : ¬ (k : Int) < P.length := by omega
        have hkl : k = P.length := by omega
        subst hkl
        have h1 := (Bx.out.block _ (Array.getElem?_eq_some_iff.1 HR1.out).1).trans HR1.out
        have HRy := Lib.hid ((HO.out.block _ (Array.getElem?_eq_some_iff.1 h1).1 (fun e => by have := Hbb.out; have := hs1.out; omega)).trans h1)
        have HRz := Lib.hid (sca_cells HR.out)
        have HOI := Lib.hid (HOI.out.base (B' := w.heap.size) (Nat.le_refl _))
        clear h1
        go_upto_region 9 with fail
        refine wp_region_lit ?_
        refine wpList_load_row rfl 53 _ rfl b rfl 53 (scaA (.slice ao O.length co) (.slice an zss.length cn) (.slice ap P.length cp) (.slice aq (oddsL P).length cq) (mostK P P.length)) (0, 0) _ HRz.out Tryd.underlying53 rfl (by kernel_rfl) ?_
        simp only [Act.put, List.setIfInBounds_toArray, List.set_cons_zero, List.set_cons_succ]
        refine wpList_store_row rfl 53 _ _ rfl (w.heap.size + 1) (scaA (.slice ao O.length co) (.slice an zss.length cn) (.slice ap P.length cp) (.slice aq (oddsL P).length cq) (mostK P P.length)) rfl rfl 53 (scaA (.slice none 0 0) (.slice none 0 0) (.slice none 0 0) (.slice none 0 0) []) HRy.out (by kernel_rfl) rfl (by simp [scaA, Value.oneCell']) ?_
        refine wpList_nil ?_
        try simp only [Act.put, List.setIfInBounds_toArray, List.set_cons_zero, List.set_cons_succ]
        go_wp2_with fail
        have ho := only_row8 (S := fun x => x = w.heap.size + 1) (Only.refl _ wr) rfl (scaA (.slice ao O.length co) (.slice an zss.length cn) (.slice ap P.length cp) (.slice aq (oddsL P).length cq) (mostK P P.length))
        have BZ : Below w.heap.size w (wr.setRow (w.heap.size + 1) (scaA (.slice ao O.length co) (.slice an zss.length cn) (.slice ap P.length cp) (.slice aq (oddsL P).length cq) (mostK P P.length))) :=
          (HBx.out.trans (HO.out.below (B := w.heap.size) HBx.out.size (fun x hx => by rw [hx]; have := Hbb.out; have := HB1.out.size; omega))).trans (ho.below (Nat.le_trans HBx.out.size HO.out.size) (fun x hx => by rw [hx]; omega))
        refine ret_sca (g := w.heap.size + 1) (M := mostL P) rfl rfl (sca_of (setRow_heap _ _ _ _ _ _ HRy.out)) ⟨aq, cq, rfl, (HOI.out.only ho (fun g hg e => by have := (HNE.out g hg).2; have := hs1.out; omega)).retop, BZ⟩
end
end Go.Proofs.YtihaajcmephlmaaDoor
namespace Go.Proofs.YtihaajcmephlmaaDoor
section
open Go.RowKit
/-- The measure lost stands in its variable. -/
def LostW (w : World) : Prop := ∀ j, j < 13 → w.cell? ⟨0, j, none⟩ = some (.int .i64 (nth [1] j))
theorem LostW.lt {w : World} (h : LostW w) : 0 < w.heap.size := World.block_lt_of_cell? _ _ (h 0 (by omega))
theorem LostW.below {w w' : World} (h : LostW w) (hb : Below w.heap.size w w') : LostW w' := fun j hj => (hb.cell (p := ⟨0, j, none⟩) h.lt).trans (h j hj)
end
end Go.Proofs.YtihaajcmephlmaaDoor
namespace Go.Proofs.YtihaajcmephlmaaDoor
section
open Go.RowKit Go.Shelf

/-- A measure's cells by place. -/
def meaF (m : List Int) : Nat → Value := fun i => .int .i64 (nth m i)
theorem mea_of {w : World} {g : Nat} {T : TypeId} {m : List Int} (h : w.heap[g]? = some (.cells (meaA m) T (0, 0))) : w.rowIs g T 13 (meaF m) := by
  refine ⟨_, h, rfl, fun j hj => ?_⟩
  have h13 : j = 0 ∨ j = 1 ∨ j = 2 ∨ j = 3 ∨ j = 4 ∨ j = 5 ∨ j = 6 ∨ j = 7 ∨ j = 8 ∨ j = 9 ∨ j = 10 ∨ j = 11 ∨ j = 12 := by omega
  rcases h13 with rfl | rfl | rfl | rfl | rfl | rfl | rfl | rfl | rfl | rfl | rfl | rfl | rfl <;> rfl
theorem mea_cells {w : World} {g : Nat} {T : TypeId} {m : List Int} (h : w.rowIs g T 13 (meaF m)) : w.heap[g]? = some (.cells (meaA m) T (0, 0)) := by
  obtain ⟨cs, hb, hn, hc⟩ := h
  have e : cs = meaA m := Array.ext (by rw [hn]; rfl) (fun j h1 h2 => by
    have h3 := hc j (by omega)
    rw [Array.getElem?_eq_getElem h1] at h3
    injection h3 with h3
    rw [h3]
    have h13 : j = 0 ∨ j = 1 ∨ j = 2 ∨ j = 3 ∨ j = 4 ∨ j = 5 ∨ j = 6 ∨ j = 7 ∨ j = 8 ∨ j = 9 ∨ j = 10 ∨ j = 11 ∨ j = 12 := by omega
    clear h3
    rcases h13 with rfl | rfl | rfl | rfl | rfl | rfl | rfl | rfl | rfl | rfl | rfl | rfl | rfl <;> rfl)
  rw [hb, e]
theorem meaA_one (m : List Int) : (meaA m).all (·.oneCell') = true := by simp [meaA, Value.oneCell']
theorem LostW.range {w : World} (h : LostW w) : w.rangeAt 0 0 (meaA [1]).toList := fun j v hv => by
  have hj : j < 13 := (List.getElem?_eq_some_iff.1 hv).1
  rw [Nat.zero_add, h j hj, ← hv]
  have h13 : j = 0 ∨ j = 1 ∨ j = 2 ∨ j = 3 ∨ j = 4 ∨ j = 5 ∨ j = 6 ∨ j = 7 ∨ j = 8 ∨ j = 9 ∨ j = 10 ∨ j = 11 ∨ j = 12 := by omega
  clear hv
  rcases h13 with rfl | rfl | rfl | rfl | rfl | rfl | rfl | rfl | rfl | rfl | rfl | rfl | rfl <;> rfl
theorem mea_step {w : World} {g : Nat} {T : TypeId} {m : List Int} {k : Nat} (hk : k < m.length) (h : w.rowIs g T 13 (meaF (m.take k))) : (w.setCell ⟨g, k, none⟩ (.int .i64 (nth m k))).rowIs g T 13 (meaF (m.take (k + 1))) := by
  refine (h.set k _).congr fun i hi => ?_
  unfold meaF
  by_cases e : i = k
  · subst e
    rw [if_pos rfl]
    congr 1
    unfold nth
    simp [hk]
  · rw [if_neg e]
    congr 1
    unfold nth
    simp only [List.getD_eq_getElem?_getD, List.getElem?_take]
    by_cases h1 : i < k
    · rw [if_pos h1, if_pos (by omega)]
    · rw [if_neg h1, if_neg (by omega)]
theorem ret_mea2 {fn : Func} {p q : Tmp} {tmps : Array Value} {W : World} {g : Nat} {m : List Int} {b : Bool} {R : Ending → World → Prop} (hr : fn.results = #[.cell p 51, .tmp q]) (hp : tmps.getD p undef = .pointer (some ⟨g, 0, none⟩)) (hq : tmps.getD q undef = .bool b)
    (hM : W.heap[g]? = some (.cells (meaA m) 51 (0, 0))) (hR : R (.returned (.tuple #[meaV m, .bool b])) W) : bodyPost Tryd.prog fn R .ret { tmps := tmps, defers := [] } W := by
  refine bodyPost_ret (v := .tuple #[meaV m, .bool b]) ?_ rfl hR
  have hp' : tmps[p]?.getD undef = .pointer (some ⟨g, 0, none⟩) := by simpa using hp
  have hq' : tmps[q]?.getD undef = .bool b := by simpa using hq
  have hl := run_loadVar_row (P := Tryd.prog) W g 51 51 (meaA m) (0, 0) _ hM Tryd.underlying51 rfl (by kernel_rfl)
  simp [results, hr, hp', hq', asAddr, hl, meaV]

set_option linter.unusedSimpArgs false in
set_option maxRecDepth 100000 in
set_option maxHeartbeats 8000000 in
theorem measureOf_is {w : World} {s : Value} {O P m : List Int} {zss : List (List Int)} {am : Option Addr} (cm : Nat) (hW : LostW w) (hs : ScaleAt w s O zss P) (hm : IntsAt w am m) (hl : (oddsL P).length ≤ 12) :
    Calls Tryd.prog 76 #[s, .slice am m.length cm] w fun e w' => e = .returned (.tuple #[meaV (if goodB P m = true then m else []), .bool (goodB P m)]) ∧ Below w.heap.size w w' := by
  obtain ⟨ao, an, ap, aq, co, cn, cp, cq, rfl, hg, hq⟩ := hs
  obtain ⟨r, hr⟩ : ∃ r, goodB P m = r := ⟨_, rfl⟩
  obtain ⟨w1, hw1⟩ : ∃ y, y = (w.alloc (.cells (scaA (.slice ao O.length co) (.slice an zss.length cn) (.slice ap P.length cp) (.slice aq (oddsL P).length cq) (mostL P)) 53)).alloc (.cells #[.int .i64 0, .int .i64 0, .int .i64 0, .int .i64 0, .int .i64 0, .int .i64 0, .int .i64 0, .int .i64 0, .int .i64 0, .int .i64 0, .int .i64 0, .int .i64 0, .int .i64 0] 51) := ⟨_, rfl⟩
  have HW1 := Lib.hid hw1
  have B1 : Hid (Below w.heap.size w w1) := by rw [hw1]; exact below2 _ _ _
  have S1 : Hid (w1.rowIs w.heap.size 53 17 (scaF (.slice ao O.length co) (.slice an zss.length cn) (.slice ap P.length cp) (.slice aq (oddsL P).length cq) (mostL P))) := by
    rw [hw1]; exact World.rowIs.alloc (sca_of (heap_alloc_new _ _)) _
  have R1 : Hid (w1.heap[w.heap.size + 1]? = some (.cells (meaA []) 51 (0, 0))) := by rw [hw1]; exact heap_alloc2_new _ _ _
  have hs1 : w1.heap.size = w.heap.size + 2 := by rw [hw1]; simp
  have HS1 := Lib.hid hs1
  obtain ⟨w2, hw2⟩ : ∃ y, y = w1.alloc (.cells #[.int .i64 1] 2) := ⟨_, rfl⟩
  have HW2 := Lib.hid hw2
  have hb2 : Below w1.heap.size w1 w2 := by rw [hw2]; exact below1 _ _
  have I2 : IntsAt w2 (some ⟨w1.heap.size, 0, none⟩) [1] := ⟨by simp, fun k hk => by
    have : k = 0 := by simpa using hk
    subst this
    unfold Fits nth; simp, fun _ => ⟨w1.heap.size, 0, rfl, fun k hk => by
    have : k = 0 := by simpa using hk
    subst this
    rw [hw2]
    exact cell_one_new _ _ _ 0 _ rfl⟩⟩
  have B2 := Lib.hid (B1.out.trans (hb2.mono B1.out.size))
  have K2 := Lib.hid hb2
  obtain ⟨r1, hr1⟩ : ∃ r1, decide (m = [1]) = r1 := ⟨_, rfl⟩
  have HC : Hid (Calls Tryd.prog 90 #[.slice am m.length cm, .slice (some ⟨w1.heap.size, 0, none⟩) 1 1] w2 fun e w' => e = .returned (.bool r1) ∧ ∃ q, w' = w2.drewN q) := Equal_is (ys := [1]) hr1 w2 cm 1 (hm.below B2.out) I2
  have HL := Lib.hid hW
  have HM := Lib.hid hm
  have hml := hm.len
  obtain ⟨lq, hlq⟩ : ∃ lq, lq = (oddsL P).length := ⟨_, rfl⟩
  have HLQ := Lib.hid hlq
  have hl12 : lq ≤ 12 := by omega
  have HR := Lib.hid hr
  rw [hr]
  obtain ⟨M, hM⟩ : ∃ M, (if r = true then m else []) = M := ⟨_, rfl⟩
  have HMM := Lib.hid hM
  rw [hM]
  unfold scaV
  rw [← hlq] at HW1 S1 ⊢
  clear hw1 hw2 hb2 I2 hW hm hs1 hg hq hlq hl hr hM
  cases r1 with
  | true =>
    have hm1 : m = [1] := of_decide_eq_true hr1
    have HV : Hid (meaV M = meaV [1] ∧ r = true) := by
      have : r = true := by rw [← HR.out]; exact goodB_iff.2 (.inl hm1)
      rw [← HMM.out, if_pos this, hm1]
      exact ⟨rfl, this⟩
    clear hr1 hm1
    rw [HV.out.1, HV.out.2]
    go_enter Tryd.func76, Tryd.ntmps76
    go_wp2_with fail
    rw [← HW1.out, ← HS1.out, ← HW2.out]
    refine HC.out.mono ?_
    rintro e w3 ⟨rfl, hdq⟩
    have hb3 : Below w2.heap.size w2 w3 := by obtain ⟨q, rfl⟩ := hdq; exact below_drewN (Below.refl _ _) q
    have B3 := Lib.hid (B2.out.trans (hb3.mono B2.out.size))
    have K3 := Lib.hid (K2.out.trans (hb3.mono K2.out.size))
    have R3 := Lib.hid ((K3.out.block _ (Array.getElem?_eq_some_iff.1 R1.out).1).trans R1.out)
    have S3 := Lib.hid (rowIs_below S1.out K3.out)
    clear hdq hb3 HC
    have L3 := Lib.hid (HL.out.below B3.out)
    go_upto_region 2 with fail
    refine wp_region_lit ?_
    refine wpList_load_mid rfl 51 _ rfl 0 0 rfl (meaA [1]).toList _ L3.out.range Tryd.underlying51 rfl (by kernel_rfl) ?_
    simp only [Act.put, List.setIfInBounds_toArray, List.set_cons_zero, List.set_cons_succ]
    refine wpList_store_row rfl 51 _ _ rfl (w.heap.size + 1) (meaA [1]) rfl rfl 51 (meaA []) R3.out (by kernel_rfl) rfl (meaA_one _) ?_
    simp only [Act.put, List.setIfInBounds_toArray, List.set_cons_zero, List.set_cons_succ]
    go_wp2_with fail
    have ho := only_row8 (S := fun x => x = w.heap.size + 1) (Only.refl _ w3) rfl (meaA [1])
    exact ret_mea2 (g := w.heap.size + 1) rfl rfl rfl (setRow_heap _ _ _ _ _ _ R3.out) ⟨rfl, B3.out.trans (ho.below B3.out.size (fun x hx => by rw [hx]; omega))⟩
  | false =>
    have HNO : Hid (¬ m = [1]) := of_decide_eq_false hr1
    clear hr1
    by_cases hD : m.length = lq + 1
    · have hDi : ((m.length : Int) != 1 + (lq : Int)) = false := by simp; omega
      have hD1 : m.length ≤ lq + 1 := by omega
      have hD2 : lq + 1 ≤ m.length := by omega
      clear hD
      go_enter Tryd.func76, Tryd.ntmps76
      go_wp2_with fail
      rw [← HW1.out, ← HS1.out, ← HW2.out]
      refine HC.out.mono ?_
      rintro e w3 ⟨rfl, hdq⟩
      have hb3 : Below w2.heap.size w2 w3 := by obtain ⟨q, rfl⟩ := hdq; exact below_drewN (Below.refl _ _) q
      have B3 := Lib.hid (B2.out.trans (hb3.mono B2.out.size))
      have K3 := Lib.hid (K2.out.trans (hb3.mono K2.out.size))
      have R3 := Lib.hid ((K3.out.block _ (Array.getElem?_eq_some_iff.1 R1.out).1).trans R1.out)
      have S3 := Lib.hid (rowIs_below S1.out K3.out)
      clear hdq hb3 HC
      obtain ⟨w4, hw4⟩ : ∃ y, y = w3.alloc (.cells #[.int .i64 0, .int .i64 0, .int .i64 0, .int .i64 0, .int .i64 0, .int .i64 0, .int .i64 0, .int .i64 0, .int .i64 0, .int .i64 0, .int .i64 0, .int .i64 0, .int .i64 0] 51) := ⟨_, rfl⟩
      have HW4 := Lib.hid hw4
      have hb4 : Below w3.heap.size w3 w4 := by rw [hw4]; exact below1 _ _
      have B4 := Lib.hid (B3.out.trans (hb4.mono B3.out.size))
      have K4 := Lib.hid (K3.out.trans (hb4.mono K3.out.size))
      have R4 := Lib.hid ((hb4.block _ (Array.getElem?_eq_some_iff.1 R3.out).1).trans R3.out)
      have S4 := Lib.hid (rowIs_below S3.out hb4)
      have N4 : Hid (w4.rowIs w3.heap.size 51 13 (meaF (m.take 0))) := by
        have h : w4.heap[w3.heap.size]? = some (.cells (meaA []) 51 (0, 0)) := by rw [hw4]; exact heap_alloc_new _ _
        exact mea_of h
      have hg3 : w.heap.size + 2 ≤ w3.heap.size := by have := K3.out.size; have := HS1.out; omega
      have c3 : (w3.alloc (.cells #[.int .i64 0, .int .i64 0, .int .i64 0, .int .i64 0, .int .i64 0, .int .i64 0, .int .i64 0, .int .i64 0, .int .i64 0, .int .i64 0, .int .i64 0, .int .i64 0, .int .i64 0] 51)).cell? ⟨w.heap.size, 3, none⟩ = some (.slice aq lq cq) := by rw [← HW4.out]; exact S4.out.cell (i := 3) (by omega)
      have c3' : w3.cell? ⟨w.heap.size, 3, none⟩ = some (.slice aq lq cq) := S3.out.cell (i := 3) (by omega)
      clear hw4 hb4 R3 S3
      go_wp2
      rw [← HW4.out]
      go_loopw [23] (fun iv wr => ∃ k : Nat, k ≤ m.length ∧ iv = .int .i64 k ∧ Hid (∀ j, j < k → 0 ≤ nth m j ∧ nth m j ≤ nth (mostL P) j) ∧ Hid (wr.rowIs w3.heap.size 51 13 (meaF (m.take k))) ∧ Hid (Only (fun x => x = w3.heap.size) w4 wr)) (fun iv _ => m.length - (intOf iv).toNat)
      case atStart => exact ⟨0, Nat.zero_le _, rfl, fun j hj => absurd hj (Nat.not_lt_zero _), N4, Only.refl _ _⟩
      case round =>
        clear N4 c3 c3'
        obtain ⟨k, hk, rfl, HJ, HN, HO⟩ := hrel
        have R5 := Lib.hid ((HO.out.block _ (Array.getElem?_eq_some_iff.1 R4.out).1 (fun e => by omega)).trans R4.out)
        have B5 := Lib.hid (B4.out.trans (HO.out.below (B := w.heap.size) B4.out.size (fun x hx => by rw [hx]; omega)))
        have S5 : Hid (wr.rowIs w.heap.size 53 17 (scaF (.slice ao O.length co) (.slice an zss.length cn) (.slice ap P.length cp) (.slice aq lq cq) (mostL P))) := S4.out.of_block (HO.out.block _ S4.out.lt (fun e => by omega))
        by_cases hlt : k < m.length
        · have hi1 : (k : Int) < m.length := by omega
          have hk0 : (0 : Int) ≤ (k : Int) := by omega
          have hk13 : (k : Int) < 13 := by omega
          obtain ⟨mb, mo, hma, hmc⟩ := HM.out.cell (by omega)
          have p0 := hmc k hlt
          have hpl := World.block_lt_of_cell? _ _ p0
          have p1 : wr.cell? ⟨mb, mo + k, none⟩ = some (.int .i64 (nth m k)) := (B5.out.cell hpl).trans p0
          have q1 : wr.cell? ⟨w.heap.size, 4 + k, none⟩ = some (.int .i64 (nth (mostL P) k)) := by
            have h := S5.out.cell (i := k + 4) (by omega)
            rw [show 4 + k = k + 4 by omega, h]
            rfl
          have z1 := HN.out.cell (i := k) (by omega)
          have z2 := HN.out.frozen k
          obtain ⟨x, hx⟩ : ∃ x, x = nth m k := ⟨_, rfl⟩
          obtain ⟨y, hy⟩ : ∃ y, y = nth (mostL P) k := ⟨_, rfl⟩
          have HX := Lib.hid hx
          have HY := Lib.hid hy
          rw [← hx] at p1
          rw [← hy] at q1
          subst hma
          clear hmc p0 hpl hx hy
          by_cases hx0 : x < 0
          · clear z1 z2
            have HF : Hid (r = false) := by
              rw [← HR.out]
              cases hg : goodB P m with
              | false => rfl
              | true =>
                rcases goodB_iff.1 hg with h1 | ⟨_, h2⟩
                · exact absurd h1 HNO.out
                · have h3 := h2 k hlt
                  rw [← HX.out, ← HY.out] at h3
                  omega
            have HV : Hid (meaV M = meaV [] ∧ r = false) := by
              rw [← HMM.out, HF.out]
              exact ⟨rfl, rfl⟩
            go_upto_region 10 with fail
            refine wp_region_lit ?_
            refine wpList_build rfl 51 _ rfl (by kernel_rfl) ?_
            simp only [Act.put, List.setIfInBounds_toArray, List.set_cons_zero, List.set_cons_succ]
            refine wpList_store_row rfl 51 _ _ rfl (w.heap.size + 1) (meaA []) rfl (by kernel_rfl) 51 (meaA []) R5.out (by kernel_rfl) rfl (meaA_one _) ?_
            simp only [Act.put, List.setIfInBounds_toArray, List.set_cons_zero, List.set_cons_succ]
            go_wp2_with fail
            have ho := only_row8 (S := fun x => x = w.heap.size + 1) (Only.refl _ wr) rfl (meaA [])
            exact ret_mea2 (g := w.heap.size + 1) rfl rfl rfl (setRow_heap _ _ _ _ _ _ R5.out) ⟨by rw [HV.out.1, HV.out.2], B5.out.trans (ho.below B5.out.size (fun x hx => by rw [hx]; omega))⟩
          · by_cases hxy : y < x
            · clear z1 z2
              have HF : Hid (r = false) := by
                rw [← HR.out]
                cases hg : goodB P m with
                | false => rfl
                | true =>
                  rcases goodB_iff.1 hg with h1 | ⟨_, h2⟩
                  · exact absurd h1 HNO.out
                  · have h3 := h2 k hlt
                    rw [← HX.out, ← HY.out] at h3
                    omega
              have HV : Hid (meaV M = meaV [] ∧ r = false) := by
                rw [← HMM.out, HF.out]
                exact ⟨rfl, rfl⟩
              go_upto_region 10 with fail
              refine wp_region_lit ?_
              refine wpList_build rfl 51 _ rfl (by kernel_rfl) ?_
              simp only [Act.put, List.setIfInBounds_toArray, List.set_cons_zero, List.set_cons_succ]
              refine wpList_store_row rfl 51 _ _ rfl (w.heap.size + 1) (meaA []) rfl (by kernel_rfl) 51 (meaA []) R5.out (by kernel_rfl) rfl (meaA_one _) ?_
              simp only [Act.put, List.setIfInBounds_toArray, List.set_cons_zero, List.set_cons_succ]
              go_wp2_with fail
              have ho := only_row8 (S := fun x => x = w.heap.size + 1) (Only.refl _ wr) rfl (meaA [])
              exact ret_mea2 (g := w.heap.size + 1) rfl rfl rfl (setRow_heap _ _ _ _ _ _ R5.out) ⟨by rw [HV.out.1, HV.out.2], B5.out.trans (ho.below B5.out.size (fun x hx => by rw [hx]; omega))⟩
            · have HJn : Hid (∀ j, j < k + 1 → 0 ≤ nth m j ∧ nth m j ≤ nth (mostL P) j) := fun j hj => by
                by_cases e : j = k
                · rw [e, ← HX.out, ← HY.out]; omega
                · exact HJ.out j (by omega)
              go_wp2
              go_roundw
              case rel =>
                refine ⟨k + 1, by omega, by go_num, HJn, ?_, HO.out.setCell (p := ⟨w3.heap.size, k, none⟩) rfl _⟩
                rw [HX.out]
                exact mea_step hlt HN.out
              case measure => simp [intOf]; omega
        · have hi1 : ¬ (k : Int) < m.length := by omega
          have hkl : k = m.length := by omega
          have HF : Hid (r = true) := by
            rw [← HR.out]
            exact goodB_iff.2 (.inr ⟨by rw [← HLQ.out]; omega, fun j hj => HJ.out j (by omega)⟩)
          have HV : Hid (meaV M = meaV m ∧ r = true) := by
            rw [← HMM.out, HF.out]
            exact ⟨rfl, rfl⟩
          have HNc : Hid (wr.heap[w3.heap.size]? = some (.cells (meaA m) 51 (0, 0))) := by
            have h := mea_cells HN.out
            rw [hkl, List.take_length] at h
            exact h
          clear hkl HN
          go_upto_region 13 with fail
          refine wp_region_lit ?_
          refine wpList_load_row rfl 51 _ rfl w3.heap.size rfl 51 (meaA m) (0, 0) _ HNc.out Tryd.underlying51 rfl (by kernel_rfl) ?_
          simp only [Act.put, List.setIfInBounds_toArray, List.set_cons_zero, List.set_cons_succ]
          refine wpList_store_row rfl 51 _ _ rfl (w.heap.size + 1) (meaA m) rfl rfl 51 (meaA []) R5.out (by kernel_rfl) rfl (meaA_one _) ?_
          simp only [Act.put, List.setIfInBounds_toArray, List.set_cons_zero, List.set_cons_succ]
          go_wp2_with fail
          have ho := only_row8 (S := fun x => x = w.heap.size + 1) (Only.refl _ wr) rfl (meaA m)
          exact ret_mea2 (g := w.heap.size + 1) rfl rfl rfl (setRow_heap _ _ _ _ _ _ R5.out) ⟨by rw [HV.out.1, HV.out.2], B5.out.trans (ho.below B5.out.size (fun x hx => by rw [hx]; omega))⟩
    · have hDi : ((m.length : Int) != 1 + (lq : Int)) = true := by simp; omega
      have HF : Hid (r = false) := by
        rw [← HR.out]
        cases hg : goodB P m with
        | false => rfl
        | true =>
          rcases goodB_iff.1 hg with h1 | ⟨h2, _⟩
          · exact absurd h1 HNO.out
          · rw [← HLQ.out] at h2; exact absurd h2 hD
      have HV : Hid (meaV M = meaV [] ∧ r = false) := by
        rw [← HMM.out, HF.out]
        exact ⟨rfl, rfl⟩
      rw [HV.out.1, HV.out.2]
      clear hD
      go_enter Tryd.func76, Tryd.ntmps76
      go_wp2_with fail
      rw [← HW1.out, ← HS1.out, ← HW2.out]
      refine HC.out.mono ?_
      rintro e w3 ⟨rfl, hdq⟩
      have hb3 : Below w2.heap.size w2 w3 := by obtain ⟨q, rfl⟩ := hdq; exact below_drewN (Below.refl _ _) q
      have B3 := Lib.hid (B2.out.trans (hb3.mono B2.out.size))
      have K3 := Lib.hid (K2.out.trans (hb3.mono K2.out.size))
      have R3 := Lib.hid ((K3.out.block _ (Array.getElem?_eq_some_iff.1 R1.out).1).trans R1.out)
      have S3 := Lib.hid (rowIs_below S1.out K3.out)
      clear hdq hb3 HC
      have c3 : (w3.alloc (.cells #[.int .i64 0, .int .i64 0, .int .i64 0, .int .i64 0, .int .i64 0, .int .i64 0, .int .i64 0, .int .i64 0, .int .i64 0, .int .i64 0, .int .i64 0, .int .i64 0, .int .i64 0] 51)).cell? ⟨w.heap.size, 3, none⟩ = some (.slice aq lq cq) := (World.rowIs.alloc S3.out _).cell (i := 3) (by omega)
      have c3' : w3.cell? ⟨w.heap.size, 3, none⟩ = some (.slice aq lq cq) := S3.out.cell (i := 3) (by omega)
      have hb4 : Below w3.heap.size w3 (w3.alloc (.cells #[.int .i64 0, .int .i64 0, .int .i64 0, .int .i64 0, .int .i64 0, .int .i64 0, .int .i64 0, .int .i64 0, .int .i64 0, .int .i64 0, .int .i64 0, .int .i64 0, .int .i64 0] 51)) := below1 _ _
      have N4 : Hid ((w3.alloc (.cells #[.int .i64 0, .int .i64 0, .int .i64 0, .int .i64 0, .int .i64 0, .int .i64 0, .int .i64 0, .int .i64 0, .int .i64 0, .int .i64 0, .int .i64 0, .int .i64 0, .int .i64 0] 51)).heap[w3.heap.size]? = some (.cells (meaA []) 51 (0, 0))) := heap_alloc_new _ _
      have R4 := Lib.hid ((hb4.block _ (Array.getElem?_eq_some_iff.1 R3.out).1).trans R3.out)
      have B4 := Lib.hid (B3.out.trans (hb4.mono B3.out.size))
      clear hb4
      go_upto_region 5 with fail
      refine wp_region_lit ?_
      refine wpList_load_row rfl 51 _ rfl w3.heap.size rfl 51 (meaA []) (0, 0) _ N4.out Tryd.underlying51 rfl (by kernel_rfl) ?_
      simp only [Act.put, List.setIfInBounds_toArray, List.set_cons_zero, List.set_cons_succ]
      refine wpList_store_row rfl 51 _ _ rfl (w.heap.size + 1) (meaA []) rfl rfl 51 (meaA []) R4.out (by kernel_rfl) rfl (meaA_one _) ?_
      simp only [Act.put, List.setIfInBounds_toArray, List.set_cons_zero, List.set_cons_succ]
      go_wp2_with fail
      have ho := only_row8 (S := fun x => x = w.heap.size + 1) (Only.refl _ (w3.alloc (.cells #[.int .i64 0, .int .i64 0, .int .i64 0, .int .i64 0, .int .i64 0, .int .i64 0, .int .i64 0, .int .i64 0, .int .i64 0, .int .i64 0, .int .i64 0, .int .i64 0, .int .i64 0] 51))) rfl (meaA [])
      exact ret_mea2 (g := w.heap.size + 1) rfl rfl rfl (setRow_heap _ _ _ _ _ _ R4.out) ⟨rfl, B4.out.trans (ho.below B4.out.size (fun x hx => by rw [hx]; omega))⟩
end
end Go.Proofs.YtihaajcmephlmaaDoor
