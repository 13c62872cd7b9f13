/-
  Several texts in one: GameImpl, OddsImpl, LawOddsOf, Lasso, Open.
-/
import Derived.Deep.RegionHeld3
import Derived.Shelf.SlicesE.DeleteFunc
import Derived.Shelf.SlicesE.Reverse
import Derived.Lib.OwnBridge
import Derived.ProofKit
import Derived.SizedLaws
import Derived.Deep.Matrix
import Derived.Lib.SmallJoins
import Derived.Test.YtglbkbiphcgidaaPp00
import Derived.Test.YtglbkbiphcgidaaPp02
import Derived.Test.YtglbkbiphcgidaaPp01
import Derived.Test.YtglbkbiphcgidaaPp04
namespace Go.Proofs.Ytglbkbiphcgidaa
section
open Go.RowKit

theorem arenaSize_is {w : World} {va : Value} {O : List Int} {zss : List (List Int)} (h : ArenaAt w va O zss) :
    Calls Try.prog 27 #[va] w fun e w' => e = .returned (.int .i64 O.length) ∧ Below w.heap.size w w' := by
  obtain ⟨ao, an, co, cn, A, C, rfl, h1, h2⟩ := h
  exact (size_is ao an O.length zss.length co cn w h1.len).mono fun e w' ⟨he, hw⟩ => ⟨he, hw ▸ below1 _ _⟩

theorem min_ok {P : List Int} (hz : 0 < P.length) : 0 ≤ minN P (P.length - 1) ↔ ∀ x ∈ P, 0 ≤ x := by
  constructor
  · intro h x hx
    obtain ⟨k, hk, rfl⟩ := mem_nth.1 hx
    have := minN_le (zs := P) (k := P.length - 1) (j := k) (by omega)
    omega
  · intro h
    obtain ⟨j, hj, e⟩ := minN_at (zs := P) (P.length - 1)
    rw [← e]; exact h _ (nth_mem (by omega))
theorem max_ok {P : List Int} (hz : 0 < P.length) : maxN P (P.length - 1) ≤ 40 ↔ ∀ x ∈ P, x ≤ 40 := by
  constructor
  · intro h x hx
    obtain ⟨k, hk, rfl⟩ := mem_nth.1 hx
    have := maxN_ge (zs := P) (k := P.length - 1) (j := k) (by omega)
    omega
  · intro h
    obtain ⟨j, hj, e⟩ := maxN_at (zs := P) (P.length - 1)
    rw [← e]; exact h _ (nth_mem (by omega))

set_option maxHeartbeats 4000000 in
set_option maxRecDepth 100000 in
theorem ParityOk_is {w : World} {v : Value} {O : List Int} {zss : List (List Int)} {P : List Int} {r : Bool} (hr : parityB O zss P = r) (h : GameAt w v O zss P) :
    Calls Try.prog 28 #[v] w fun e w' => e = .returned (.bool r) ∧ Below w.heap.size w w' := by
  obtain ⟨ao, an, ap, co, cn, cp, A, C, rfl, h1, h2, h3⟩ := h
  have hlO := h1.len
  have hlP := h3.len
  have HP := Lib.hid h3
  obtain ⟨w1, hw1⟩ : ∃ y, y = w.alloc (.cells #[.slice ao O.length co, .slice an zss.length cn, .slice ap P.length cp] 32) := ⟨_, rfl⟩
  have HW1 := Lib.hid hw1
  have B1 : Hid (Below w.heap.size w w1) := by rw [hw1]; exact below1 _ _
  have T1 : Hid (Box3 w1 w.heap.size 32 (.slice ao O.length co) (.slice an zss.length cn) (.slice ap P.length cp)) := by rw [hw1]; exact Box3.new _ _ _ _ _
  have HA : Hid (ArenaAt w (.agg #[.slice ao O.length co, .slice an zss.length cn]) O zss) := ⟨_, _, _, _, _, _, rfl, h1, h2⟩
  clear h1 h2 h3 hw1
  have t0 := T1.out.c0
  have t1 := T1.out.c1
  have t2 := T1.out.c2
  have hd1 : Below w1.heap.size w1 w1.drew := (Below.refl _ _).drew
  have B1d := Lib.hid (B1.out.trans (hd1.mono B1.out.size))
  have T1d := Lib.hid (T1.out.below hd1)
  clear hd1
  cases hA : arenaB O zss with
  | false =>
    have HE : Hid (r = false) := by rw [← hr]; simp [parityB, hA, Hid]
    have HC := Lib.hid (ArenaOk_at hA (HA.out.below B1d.out))
    clear hA hr
    go_enter Try.func28, Try.ntmps28
    go_wp2_with fail
    rw [← HW1.out]
    first
      | go_region_law (first
          | (go_simp; go_at_call 37; refine HC.out.mono ?_; rintro e w2 ⟨rfl, hb⟩; have B2 := Lib.hid (B1d.out.trans (hb.mono B1d.out.size)); clear hb))
      | fail
    all_goals (
      go_wp2
      go_ret
      exact ⟨by rw [HE.out]; rfl, B2.out⟩)
  | true =>
    have HAP := Lib.hid (arenaB_iff.1 hA)
    have HC := Lib.hid (ArenaOk_at hA (HA.out.below B1d.out))
    by_cases hl : P.length = O.length
    · have hn0 : 0 < P.length := by have := HAP.out.1; omega
      have hne : ((P.length : Int) != (O.length : Int)) = false := by simp; omega
      have HR : Hid (priosB P = r) := by rw [← hr]; simp [parityB, hA, hl, Hid]
      have hmn := min_ok hn0
      have hmx := max_ok hn0
      obtain ⟨mn, hmnE⟩ : ∃ m, minN P (P.length - 1) = m := ⟨_, rfl⟩
      obtain ⟨mx, hmxE⟩ : ∃ m, maxN P (P.length - 1) = m := ⟨_, rfl⟩
      rw [hmnE] at hmn
      rw [hmxE] at hmx
      have HMN := Lib.hid hmn
      have HMX := Lib.hid hmx
      have HMNE := Lib.hid hmnE
      have HMXE := Lib.hid hmxE
      have HL := Lib.hid hl
      have HN0 := Lib.hid hn0
      clear hA hr hl hmn hmx hmnE hmxE hn0
      go_enter Try.func28, Try.ntmps28
      go_wp2_with fail
      rw [← HW1.out]
      go_region_held3 (fun w' => w'.cell? ⟨w.heap.size, 0, none⟩ = some (.slice ao O.length co) ∧ w'.cell? ⟨w.heap.size, 1, none⟩ = some (.slice an zss.length cn) ∧ w'.cell? ⟨w.heap.size, 2, none⟩ = some (.slice ap P.length cp))
        (first
          | go_keep
          | exact ⟨e0, e1, e2⟩
          | exact ⟨f0, f1, f2⟩)
        (first
          | (go_at_call 37; refine HC.out.mono ?_; rintro e w2 ⟨rfl, hb⟩; have B2 := Lib.hid (B1d.out.trans (hb.mono B1d.out.size)); have T2 := Lib.hid (T1d.out.below hb); have e0 := T2.out.c0; have e1 := T2.out.c1; have e2 := T2.out.c2; clear hb)
          | (go_at_call 27; refine (arenaSize_is (HA.out.below B2.out)).mono ?_; rintro e w3 ⟨rfl, hb⟩; have B3 := Lib.hid (B2.out.trans (hb.mono B2.out.size)); have T3 := Lib.hid (T2.out.below hb); have f0 := T3.out.c0; have f1 := T3.out.c1; have f2 := T3.out.c2; clear hb))
      all_goals (
        clear e0 e1 e2 t0 t1 t2
        have HMinC := Lib.hid (Min_is cp HMNE.out (HP.out.below B3.out) HN0.out)
        have HMaxC := Lib.hid (fun W hb => Max_is (w := W) cp HMXE.out (HP.out.below hb) HN0.out)
        go_wp2_with fail
        refine HMinC.out.mono ?_
        rintro e w4 ⟨rfl, rfl⟩
        clear HMinC
        by_cases h0 : 0 ≤ mn
        · have HE : Hid (decide (mx ≤ 40) = r) := by
            rw [← HR.out]
            unfold priosB Hid
            rw [decide_eq_decide]
            constructor
            · intro h x hx; exact ⟨HMN.out.1 h0 x hx, HMX.out.1 h x hx⟩
            · intro h; exact HMX.out.2 fun x hx => (h x hx).2
          go_wp2_with fail
          refine (HMaxC.out _ B3.out).mono ?_
          rintro e w5 ⟨rfl, rfl⟩
          clear HMaxC
          go_wp2
          go_ret
          exact ⟨ret_bool HE.out, B3.out⟩
        · have HE : Hid (r = false) := by
            rw [← HR.out]
            unfold priosB Hid
            refine decide_eq_false fun h => h0 (HMN.out.2 fun x hx => (h x hx).1)
          have h1 : ¬ 0 ≤ mn := h0
          go_wp2
          go_ret
          exact ⟨by rw [HE.out]; rfl, B3.out⟩)
    · have hne : ((P.length : Int) != (O.length : Int)) = true := by simp; omega
      have HE : Hid (r = false) := by rw [← hr]; simp [parityB, hl, Hid]
      clear hA hr hl
      go_enter Try.func28, Try.ntmps28
      go_wp2_with fail
      rw [← HW1.out]
      go_region_held3 (fun w' => w'.cell? ⟨w.heap.size, 0, none⟩ = some (.slice ao O.length co) ∧ w'.cell? ⟨w.heap.size, 1, none⟩ = some (.slice an zss.length cn) ∧ w'.cell? ⟨w.heap.size, 2, none⟩ = some (.slice ap P.length cp))
        (first
          | go_keep
          | exact ⟨e0, e1, e2⟩
          | exact ⟨f0, f1, f2⟩)
        (first
          | (go_at_call 37; refine HC.out.mono ?_; rintro e w2 ⟨rfl, hb⟩; have B2 := Lib.hid (B1d.out.trans (hb.mono B1d.out.size)); have T2 := Lib.hid (T1d.out.below hb); have e0 := T2.out.c0; have e1 := T2.out.c1; have e2 := T2.out.c2; clear hb)
          | (go_at_call 27; refine (arenaSize_is (HA.out.below B2.out)).mono ?_; rintro e w3 ⟨rfl, hb⟩; have B3 := Lib.hid (B2.out.trans (hb.mono B2.out.size)); have T3 := Lib.hid (T2.out.below hb); have f0 := T3.out.c0; have f1 := T3.out.c1; have f2 := T3.out.c2; clear hb))
      all_goals (
        clear e0 e1 e2 t0 t1 t2
        go_wp2
        go_ret
        exact ⟨by rw [HE.out]; rfl, B3.out⟩)
end

section
open Go.RowKit

end

section
open Go.RowKit

end

section
open Go.RowKit

end

section
open Go.RowKit

end

end Go.Proofs.Ytglbkbiphcgidaa
namespace Go.Proofs.Ytglbkbiphcgidaa
section
open Go.Shelf
def dropLays_ren : Go.Shelf.Ren := ⟨fun | 10 => 29 | 6 => 40 | n => n, fun | 22 => 22 | 23 => 2 | 25 => 51 | 3 => 3 | 4 => 4 | 0 => 0 | n => n, fun | n => n⟩
theorem dropLays : Go.Proofs.SlLaysH.n10 Try.prog dropLays_ren := {
  mixed := by kernel_rfl
  f6 := ⟨Try.f40.name, by decide, Try.func40.trans (congrArg some (by kernel_rfl))⟩
  f10 := ⟨Try.f29.name, by decide, Try.func29.trans (congrArg some (by kernel_rfl))⟩
  t0 := Try.underlying0
  a0 := Try.isAgg0
  z0 := Try.sizeOf0
  v0 := Try.zeroValue0
  t3 := Try.underlying3
  a3 := Try.isAgg3
  z3 := Try.sizeOf3
  v3 := Try.zeroValue3
  t4 := Try.underlying4
  a4 := Try.isAgg4
  z4 := Try.sizeOf4
  v4 := Try.zeroValue4
  t22 := Try.underlying22
  a22 := Try.isAgg22
  z22 := Try.sizeOf22
  v22 := Try.zeroValue22
  a23 := Try.isAgg2
  z23 := Try.sizeOf2
  t25 := Try.underlying51
  a25 := Try.isAgg51
  z25 := Try.sizeOf51
  v25 := Try.zeroValue51 }
def backLays_ren : Go.Shelf.Ren := ⟨fun | 35 => 32 | n => n, fun | 22 => 22 | 23 => 2 | 3 => 3 | 4 => 4 | 0 => 0 | n => n, fun | n => n⟩
theorem backLays : Go.Proofs.SlLaysE.n35 Try.prog backLays_ren := {
  mixed := by kernel_rfl
  f35 := ⟨Try.f32.name, by decide, Try.func32.trans (congrArg some (by kernel_rfl))⟩
  t0 := Try.underlying0
  a0 := Try.isAgg0
  z0 := Try.sizeOf0
  v0 := Try.zeroValue0
  t3 := Try.underlying3
  a3 := Try.isAgg3
  z3 := Try.sizeOf3
  v3 := Try.zeroValue3
  t4 := Try.underlying4
  a4 := Try.isAgg4
  z4 := Try.sizeOf4
  v4 := Try.zeroValue4
  t22 := Try.underlying22
  a22 := Try.isAgg22
  z22 := Try.sizeOf22
  v22 := Try.zeroValue22
  a23 := Try.isAgg2
  z23 := Try.sizeOf2 }
end

section
open Go.RowKit Go.Shelf Go.Lib Go.Sort

theorem holds_int {w : World} {g : Nat} {cur : Array Value} {e : TypeId} {ss : List Int} (hb : w.heap[g]? = some (.cells cur e (0, 0))) (ht : cur.toList.take ss.length = ss.map (Value.int .i64)) : Holds (Value.int .i64) w g 0 ss.toArray := by
  intro j hj
  have hj' : j < ss.length := by simpa using hj
  refine ⟨?_, by simp [World.frozen?, hb]⟩
  have h1 : (cur.toList.take ss.length)[j]? = (ss.map (Value.int .i64))[j]? := by rw [ht]
  rw [List.getElem?_take_of_lt hj'] at h1
  simp only [World.cell?, hb, Nat.zero_add]
  simp only [Option.isSome_none, Bool.false_eq_true, if_false]
  rw [← Array.getElem?_toList, h1]
  simp [hj']
theorem own_holds {w : World} {B g n cap : Nat} {S : List Int} (hn : n = S.length) (h : w.ownsRow B 2 1 (.slice (some ⟨g, 0, none⟩) n cap) n (S.map (Value.int .i64))) : Holds (Value.int .i64) w g 0 S.toArray ∧ n ≤ cap := by
  subst hn
  rcases h.2 with ⟨e0, _⟩ | ⟨g', cap', cur, e0, hb, hg, hn, hm', hcs, ht⟩
  · cases e0
  · injection e0 with e1 _ e3
    injection e1 with e1
    injection e1 with e1
    subst e1
    exact ⟨holds_int hg (by simpa using ht), by omega⟩
theorem put_only {w : World} {g q : Nat} {ys : List Int} : Only (fun b => g = b) w (putRow (Value.int .i64) (Sort.ahead w q) g 0 ys.toArray) := by
  refine ⟨rfl, rfl, rfl, by simp [putRow, mapBlock, Sort.ahead], fun k hk hne => ?_⟩
  simp [putRow, mapBlock, Sort.ahead, Array.getElem?_modify, hne]

set_option maxHeartbeats 1000000 in
theorem even_is (x : Int) (W : World) : FnGives Try.prog 31 #[] #[.int .i64 x] (.bool (decide (x.tmod 2 = 0))) W := by
  show Calls Try.prog 31 #[.int .i64 x] W _
  go_enter Try.func31, Try.ntmps31
  go_wp2
  go_ret
  exact ⟨rfl, 0, rfl⟩

theorem info_dropInt : ∀ w, (zeroValue (dropLays_ren.t 23)).run Try.prog w = .ok (.int .i64 0) w := Try.zeroValue2

set_option maxHeartbeats 2000000 in
theorem dropEven_is {w : World} {B g cap : Nat} {S T : List Int} (hT : (S.filter fun x => !decide (x.tmod 2 = 0)) = T) (h : w.ownsRow B 2 1 (.slice (some ⟨g, 0, none⟩) S.length cap) S.length (S.map (Value.int .i64))) (hl : S.length ≤ 1048576) :
    Calls Try.prog 29 #[.slice (some ⟨g, 0, none⟩) S.length cap, .func (.func 31) #[] #[]] w fun e w' =>
      e = .returned (.slice (some ⟨g, 0, none⟩) T.length cap) ∧ w'.ownsRow B 2 1 (.slice (some ⟨g, 0, none⟩) T.length cap) T.length (T.map (Value.int .i64)) ∧ Only (fun b => g = b) w w' := by
  obtain ⟨hH, hc⟩ := own_holds rfl h
  have eg : ∀ args w, (callFunc 31 args).run Try.prog w = .ok (.enter 31 args) w := enters_of Try.func31 (by kernel_rfl) rfl
  have hcon := AnyE.slices_DeleteFunc dropLays (Value.int .i64) (fun _ => rfl) (fun x => decide (x.tmod 2 = 0)) 31 #[] eg 0 info_dropInt g 0 cap S.toArray w
    (fun W x _ => even_is x W) (fun n os dk x _ => even_is x _) hH (by simp; omega) (by simpa using hc)
  have hsz : S.toArray.size = S.length := by simp
  rw [hsz] at hcon
  refine Calls.mono hcon ?_
  rintro e w' ⟨rfl, q, rfl⟩
  have hT' : (S.toArray.toList.filter fun x => !decide (x.tmod 2 = 0)) = T := hT
  have htl : T.length ≤ S.length := by rw [← hT]; exact List.length_filter_le _ _
  rw [hT']
  refine ⟨rfl, ?_, put_only⟩
  have hk := Go.Lib.ownsRow_putRow (enc := Value.int .i64) (q := q) (k := T.length) (ys := T ++ List.replicate (S.length - T.length) 0) h (by simp; omega) htl
  rw [List.take_left' rfl] at hk
  exact hk

set_option maxHeartbeats 2000000 in
theorem turn_is {w : World} {B g cap : Nat} {T : List Int} (h : w.ownsRow B 2 1 (.slice (some ⟨g, 0, none⟩) T.length cap) T.length (T.map (Value.int .i64))) (hl : T.length ≤ 1048576) :
    Calls Try.prog 32 #[.slice (some ⟨g, 0, none⟩) T.length cap] w fun e w' =>
      e = .returned (.tuple #[]) ∧ w'.ownsRow B 2 1 (.slice (some ⟨g, 0, none⟩) T.length cap) T.length (T.reverse.map (Value.int .i64)) ∧ Only (fun b => g = b) w w' := by
  obtain ⟨hH, hc⟩ := own_holds rfl h
  refine Calls.mono (AnyE.slices_Reverse backLays (Value.int .i64) (fun _ => rfl) g 0 cap T w hH (by omega)) ?_
  rintro e w' ⟨rfl, q, rfl⟩
  refine ⟨rfl, ?_, put_only⟩
  have hk := Go.Lib.ownsRow_putRow (enc := Value.int .i64) (q := q) (k := T.length) (ys := T.reverse) h (by simp) (Nat.le_refl _)
  rw [List.take_of_length_le (by simp)] at hk
  exact hk
end

section
open Go.RowKit Go.Shelf

set_option maxHeartbeats 4000000 in
theorem oddPrios_is {w : World} {v : Value} {O : List Int} {zss : List (List Int)} {P : List Int} (hP : ∀ x ∈ P, 0 ≤ x ∧ x ≤ 40) (hP0 : 0 < P.length) (hP1 : P.length ≤ 256) (h : GameAt w v O zss P) :
    Calls Try.prog 20 #[v] w (GivesInts w (oddsL P)) := by
  obtain ⟨ao, an, ap, co, cn, cp, A, C, rfl, h1, h2, h3⟩ := h
  obtain ⟨w1, hw1⟩ : ∃ y, y = w.alloc (.cells #[.slice ao O.length co, .slice an zss.length cn, .slice ap P.length cp] 32) := ⟨_, rfl⟩
  have HW1 := Lib.hid hw1
  have B1 : Hid (Below w.heap.size w w1) := by rw [hw1]; exact below1 _ _
  have T1 : Hid (Box3 w1 w.heap.size 32 (.slice ao O.length co) (.slice an zss.length cn) (.slice ap P.length cp)) := by rw [hw1]; exact Box3.new _ _ _ _ _
  have HD := Lib.hid (distinct_is cp rfl (h3.below B1.out) (by omega))
  have HO := Lib.hid (odds_eq hP)
  have HL : Hid ((oddsL P).length ≤ 20) := downL_len P 20
  have HD0 : Hid (0 < (distL P).length) := List.length_pos_of_mem ((distL_spec P).2 _ |>.2 (nth_mem hP0))
  have HD1 : Hid ((distL P).length ≤ 256) := Nat.le_trans (distL_len P) hP1
  have t0 := T1.out.c0
  have t1 := T1.out.c1
  have t2 := T1.out.c2
  clear hw1 h1 h2 h3 hP hP0 hP1
  go_enter Try.func20, Try.ntmps20
  go_wp2_with fail
  rw [← HW1.out]
  go_wp2_with fail
  refine HD.out.mono ?_
  rintro e w2 ⟨u, rfl, hu, hb⟩
  obtain ⟨a, cap, rfl, _, hsh⟩ := hu.shape
  obtain ⟨g, rfl, hBg, _, _, _⟩ := hsh HD0.out
  have HU := Lib.hid (ownsRow_base (B' := w.heap.size) hu.own B1.out.size)
  have B2 := Lib.hid (B1.out.trans (hb.mono B1.out.size))
  have hg := B1.out.size
  clear hu hb hsh HD t0 t1 t2
  go_wp2_with fail
  refine (dropEven_is rfl HU.out (by have := HD1.out; omega)).mono ?_
  rintro e w3 ⟨rfl, hu, ho⟩
  have HU3 := Lib.hid hu
  have B3 := Lib.hid (B2.out.trans (ho.below (B := w.heap.size) B2.out.size (fun b hb => by omega)))
  have hl3 : Hid (((distL P).filter fun x => !decide (x.tmod 2 = 0)).length ≤ 1048576) := by
    have h1 := HL.out
    rw [← HO.out, List.length_reverse] at h1
    exact Nat.le_trans h1 (by omega)
  clear hu ho
  go_wp2_with fail
  refine (turn_is HU3.out hl3.out).mono ?_
  rintro e w4 ⟨rfl, hu, ho⟩
  have HU4 := Lib.hid hu
  have B4 := Lib.hid (B3.out.trans (ho.below (B := w.heap.size) B3.out.size (fun b hb => by omega)))
  clear hu ho
  go_wp2
  go_ret
  have h4 := HU4.out
  have hrl : ((distL P).filter fun x => !decide (x.tmod 2 = 0)).length = (oddsL P).length := by rw [← HO.out, List.length_reverse]
  rw [hrl, HO.out] at h4
  refine ⟨.slice (some ⟨g, 0, none⟩) (oddsL P).length cap, by show Ending.returned (.slice (some ⟨g, 0, none⟩) ((distL P).filter fun x => !decide (x.tmod 2 = 0)).length cap) = _; rw [hrl], OwnInts.mk' h4 (by have := HL.out; omega) (fun k hk => ?_), B4.out⟩
  obtain ⟨_, _, h5, h6⟩ := odds_mem.1 (nth_mem hk)
  unfold Fits
  omega

set_option maxHeartbeats 4000000 in
theorem isSmall_is {w : World} {v : Value} {O : List Int} {zss : List (List Int)} {P : List Int} {r : Bool} (hr : smallB O zss P = r) (h : GameAt w v O zss P) :
    Calls Try.prog 19 #[v] w fun e w' => e = .returned (.bool r) ∧ Below w.heap.size w w' := by
  have HGm := Lib.hid h
  obtain ⟨ao, an, ap, co, cn, cp, A, C, rfl, h1, h2, h3⟩ := h
  have hlO := h1.len
  obtain ⟨w1, hw1⟩ : ∃ y, y = w.alloc (.cells #[.slice ao O.length co, .slice an zss.length cn, .slice ap P.length cp] 32) := ⟨_, rfl⟩
  have HW1 := Lib.hid hw1
  have B1 : Hid (Below w.heap.size w w1) := by rw [hw1]; exact below1 _ _
  have T1 : Hid (Box3 w1 w.heap.size 32 (.slice ao O.length co) (.slice an zss.length cn) (.slice ap P.length cp)) := by rw [hw1]; exact Box3.new _ _ _ _ _
  have t0 := T1.out.c0
  have t1 := T1.out.c1
  have t2 := T1.out.c2
  obtain ⟨w2, hw2⟩ : ∃ y, y = w1.alloc (.cells #[.slice ao O.length co, .slice an zss.length cn] 30) := ⟨_, rfl⟩
  have HZ : Hid (Calls Try.prog 27 #[.agg #[.slice ao O.length co, .slice an zss.length cn]] w1 fun e w' => e = .returned (.int .i64 O.length) ∧ w2 = w') := by rw [hw2]; exact size_is ao an O.length zss.length co cn w1 hlO
  have hb2 : Below w1.heap.size w1 w2 := by rw [hw2]; exact below1 _ _
  have B2 := Lib.hid (B1.out.trans (hb2.mono B1.out.size))
  have T2 := Lib.hid (T1.out.below hb2)
  have HC := Lib.hid (ParityOk_is rfl (HGm.out.below B2.out))
  have HR : Hid ((decide (O.length ≤ 12) && parityB O zss P) = r) := by rw [← smallB_own]; exact hr
  clear hw1 h1 h2 h3 hb2 hw2 hr hlO
  go_enter Try.func19, Try.ntmps19
  go_wp2_with fail
  rw [← HW1.out]
  go_wp2_with fail
  refine HZ.out.mono ?_
  rintro e w3 ⟨rfl, rfl⟩
  clear t0 t1 t2 HZ
  have t0 := T2.out.c0
  have t1 := T2.out.c1
  have t2 := T2.out.c2
  by_cases hlt : O.length ≤ 12
  · have hlt1 : (O.length : Int) ≤ 12 := by omega
    have HE : Hid (r = parityB O zss P) := by have := HR.out; rw [decide_eq_true hlt] at this; exact this.symm
    go_wp2_with fail
    refine HC.out.mono ?_
    rintro e w4 ⟨rfl, hb⟩
    have B4 := Lib.hid (B2.out.trans (hb.mono B2.out.size))
    clear hb HC t0 t1 t2
    go_wp2
    go_ret
    exact ⟨ret_bool HE.out.symm, B4.out⟩
  · have hlt1 : ¬ (O.length : Int) ≤ 12 := by omega
    have HE : Hid (r = false) := by have := HR.out; rw [decide_eq_false hlt] at this; exact this.symm
    clear HC
    go_wp2
    go_ret
    exact ⟨ret_bool HE.out.symm, B2.out⟩

set_option maxHeartbeats 4000000 in
theorem OddsOf_is {w : World} {v : Value} {O : List Int} {zss : List (List Int)} {P r : List Int} (hr : oddsV O zss P = r) (h : GameAt w v O zss P) :
    Calls Try.prog 7 #[v] w (GivesInts w r) := by
  have HGm := Lib.hid h
  obtain ⟨ao, an, ap, co, cn, cp, A, C, rfl, h1, h2, h3⟩ := h
  obtain ⟨w1, hw1⟩ : ∃ y, y = w.alloc (.cells #[.slice ao O.length co, .slice an zss.length cn, .slice ap P.length cp] 32) := ⟨_, rfl⟩
  have HW1 := Lib.hid hw1
  have B1 : Hid (Below w.heap.size w w1) := by rw [hw1]; exact below1 _ _
  have T1 : Hid (Box3 w1 w.heap.size 32 (.slice ao O.length co) (.slice an zss.length cn) (.slice ap P.length cp)) := by rw [hw1]; exact Box3.new _ _ _ _ _
  have t0 := T1.out.c0
  have t1 := T1.out.c1
  have t2 := T1.out.c2
  clear hw1 h1 h2 h3
  cases hs : smallB O zss P with
  | false =>
    have HE : Hid (r = []) := by rw [← hr]; unfold oddsV; rw [hs]; rfl
    have HC := Lib.hid (isSmall_is hs (HGm.out.below B1.out))
    clear hr hs
    go_enter Try.func7, Try.ntmps7
    go_wp2_with fail
    rw [← HW1.out]
    go_wp2_with fail
    refine HC.out.mono ?_
    rintro e w2 ⟨rfl, hb⟩
    have B2 := Lib.hid (B1.out.trans (hb.mono B1.out.size))
    clear hb HC t0 t1 t2
    go_wp2
    go_ret
    refine ⟨_, rfl, ?_, B2.out⟩
    rw [HE.out]
    exact OwnInts.nil _ _ _
  | true =>
    have HE : Hid (r = oddsL P) := by rw [← hr]; unfold oddsV; rw [hs]; rfl
    have HC := Lib.hid (isSmall_is hs (HGm.out.below B1.out))
    obtain ⟨hn, hp⟩ := smallB_iff.1 hs
    obtain ⟨hA, hPl, hPr⟩ := parityB_iff.1 hp
    have HP := Lib.hid hPr
    have hn0 : 0 < P.length := by have := hA.1; omega
    clear hr hs hp hA hPr hPl
    go_enter Try.func7, Try.ntmps7
    go_wp2_with fail
    rw [← HW1.out]
    go_wp2_with fail
    refine HC.out.mono ?_
    rintro e w2 ⟨rfl, hb⟩
    have B2 := Lib.hid (B1.out.trans (hb.mono B1.out.size))
    have T2 := Lib.hid (T1.out.below hb)
    clear hb HC t0 t1 t2
    have t0 := T2.out.c0
    have t1 := T2.out.c1
    have t2 := T2.out.c2
    go_wp2_with fail
    refine (oddPrios_is HP.out hn0 (by omega) (HGm.out.below B2.out)).mono ?_
    rintro e w3 ⟨u, rfl, hu, hb⟩
    have B3 := Lib.hid (B2.out.trans (hb.mono B2.out.size))
    have HU := Lib.hid hu
    have hsz := B2.out.size
    clear hu hb t0 t1 t2
    go_wp2
    go_ret
    rw [HE.out]
    exact ⟨_, rfl, HU.out.base hsz, B3.out⟩
end
end Go.Proofs.Ytglbkbiphcgidaa
namespace Go.Proofs.Ytglbkbiphcgidaa
open Go.RowKit

set_option maxHeartbeats 16000000 in
set_option maxRecDepth 100000 in
theorem lawOddsOf {w : World} {v0 : Value} {O0 : List Int} {z0 : List (List Int)} {P0 : List Int} (h0 : GameAt w v0 O0 z0 P0) :
    Calls Try.prog 3 #[v0] w fun e w' => e = .returned (.bool true) ∧ Below w.heap.size w w' := by
  have H0 := Lib.hid h0
  obtain ⟨u0_0, u0_1, u0_2, d0_0, d0_1, d0_2, A0, C0, rfl, q0, q1, q2⟩ := h0
  clear q0 q1 q2
  obtain ⟨w1, hw1⟩ : ∃ y, y = (w.alloc (.cells #[.slice u0_0 O0.length d0_0, .slice u0_1 z0.length d0_1, .slice u0_2 P0.length d0_2] 27)) := ⟨_, rfl⟩
  have HW1 := Lib.hid hw1
  have B1 : Hid (Below w.heap.size w w1) := by rw [hw1]; exact below1 _ _
  have b0 : Hid (Box3 w1 (w.heap.size) 27 (.slice u0_0 O0.length d0_0) (.slice u0_1 z0.length d0_1) (.slice u0_2 P0.length d0_2)) := by rw [hw1]; exact Box3.new_at (by simp) _ _ _ _ 
  have K1 : Hid (Keep [w1, w] w1) := ⟨Below.refl _ _, B1.out, trivial⟩
  clear hw1
  by_cases hs0 : (1048576 : Int) < (sizeGame O0 z0 P0 : Int)
  · skip
    have HSn0 : Hid (∀ W, Below w.heap.size w W → Calls Try.prog 4 #[.agg #[.slice u0_0 O0.length d0_0, .slice u0_1 z0.length d0_1, .slice u0_2 P0.length d0_2], .int .i64 (1048576 : Int)] W fun e w' => e = .returned (.int .i64 (-1)) ∧ Below W.heap.size W w') := fun W hb => szGame_at (leftOf_no hs0) (H0.out.below hb) (by omega) (by omega)
    clear hs0
    go_enter Try.func3, Try.ntmps3
    go_wp2_with fail
    rw [← HW1.out]
    refine (HSn0.out _ K1.out.2.1).mono ?_
    rintro e w2 ⟨rfl, hb⟩
    have Kw2 : Hid (Keep [w1, w] w2) := K1.out.step hb
    clear K1
    clear hb
    go_wp2
    go_ret
    exact ⟨rfl, Kw2.out.2.1⟩
  have hle0 : (sizeGame O0 z0 P0 : Int) ≤ (1048576 : Int) := by omega
  obtain ⟨m0, hm0⟩ : ∃ m, leftOf (1048576 : Int) (sizeGame O0 z0 P0) = m := ⟨_, rfl⟩
  have hmv0 : m0 = (1048576 : Int) - (sizeGame O0 z0 P0 : Int) := by rw [← hm0]; exact leftOf_yes hle0
  have hml0 : 0 ≤ m0 := by omega
  have hmu0 : m0 ≤ 1048576 := by omega
  have HLE0 : Hid (sizeGame O0 z0 P0 ≤ 1048576) := by simp only [Hid]; omega
  have HS0 : Hid (∀ W, Below w.heap.size w W → Calls Try.prog 4 #[.agg #[.slice u0_0 O0.length d0_0, .slice u0_1 z0.length d0_1, .slice u0_2 P0.length d0_2], .int .i64 (1048576 : Int)] W fun e w' => e = .returned (.int .i64 m0) ∧ Below W.heap.size W w') := fun W hb => szGame_at hm0 (H0.out.below hb) (by omega) (by omega)
  have hn0 : z0.length ≤ 1048576 := by have := HLE0.out; unfold sizeGame at this; (try unfold sizeArena at this); omega
  clear hs0 hm0 hle0 hmv0
  obtain ⟨rS, hrS⟩ : ∃ r, oddsV O0 z0 P0 = r := ⟨_, rfl⟩
  have R0 := Lib.hid hrS
  clear hrS
  obtain ⟨mk0, hmk0⟩ : ∃ r : Int, (1 : Int) + (O0.length : Int) + (sumLen z0 z0.length : Int) + (P0.length : Int) = r := ⟨_, rfl⟩
  have MK0 := Lib.hid hmk0
  have hmkl0 : 0 ≤ mk0 := by omega
  have hmku0 : mk0 ≤ 1048577 := by have := HLE0.out; unfold sizeGame at this; (try unfold sizeArena at this); omega
  obtain ⟨mg, hmg⟩ : ∃ r : Int, (1 : Int) + (rS.length : Int) = r := ⟨_, rfl⟩
  have MG := Lib.hid hmg
  have hmg0 : 0 ≤ mg := by omega
  have hmgn : (mg != mg) = false := by simp
  clear hmg hmk0
  go_enter Try.func3, Try.ntmps3
  go_wp2_with fail
  rw [← HW1.out]
  refine (HS0.out _ K1.out.2.1).mono ?_
  rintro e w2 ⟨rfl, hb⟩
  have Kw2 : Hid (Keep [w1, w] w2) := K1.out.step hb
  clear K1
  clear hb
  have c0 := (b0.out.below Kw2.out.1).c0
  have c1 := (b0.out.below Kw2.out.1).c1
  have c2 := (b0.out.below Kw2.out.1).c2
  go_wp2_with fail
  refine (toGame_at (H0.out.below Kw2.out.2.1) hn0).mono ?_
  rintro e w3 ⟨x, rfl, hu, hb⟩
  obtain ⟨pa0_0, pc0_0, pa0_1, pc0_1, pa0_2, pc0_2, hus⟩ := hu.shape
  subst hus
  have pX0 := Lib.hid hu
  have Kw3 : Hid (Keep [w1, w] w3) := Kw2.out.step hb
  clear Kw2
  clear hu hb
  have Kaw3 : Hid (Keep [w3, w1, w] w3) := Kw3.out.add
  clear Kw3
  clear c0 c1 c2
  go_wp2_with fail
  refine (specOddsOf_is  R0.out (pX0.out.below Kaw3.out.1).at).mono ?_
  rintro e w4 ⟨x, rfl, hg, hb⟩
  obtain ⟨pga_0, pgc_0, hus⟩ := hg.shape2
  subst hus
  have pG := Lib.hid hg
  have Kw4 : Hid (Keep [w3, w1, w] w4) := Kaw3.out.step hb
  clear Kaw3
  clear hb hg
  have Kaw4 : Hid (Keep [w4, w3, w1, w] w4) := Kw4.out.add
  clear Kw4
  have OW : Hid (w.heap.size ≤ w1.heap.size) := B1.out.size
  have OC : Hid (w1.heap.size ≤ w4.heap.size) := Kaw4.out.2.2.1.size
  have OP : Hid (w4.heap.size ≤ w4.heap.size) := Kaw4.out.1.size
  have c0 := (b0.out.below Kaw4.out.2.2.1).c0
  have c1 := (b0.out.below Kaw4.out.2.2.1).c1
  have c2 := (b0.out.below Kaw4.out.2.2.1).c2
  go_wp2_with fail
  have HB0 : Hid (w4.heap.size ≤ w4.heap.size) := Kaw4.out.1.size
  refine (toGame_at (H0.out.below Kaw4.out.2.2.2.1) hn0).mono ?_
  rintro e w5 ⟨x, rfl, hu, hb⟩
  obtain ⟨xa0_0, xc0_0, xa0_1, xc0_1, xa0_2, xc0_2, hus⟩ := hu.shape
  subst hus
  have xX0 := Lib.hid hu
  have HE0 : Hid (w4.heap.size ≤ w5.heap.size) := hb.size
  have Kw5 : Hid (Keep [w4, w3, w1, w] w5) := Kaw4.out.step hb
  clear Kaw4
  clear hu hb
  have Kaw5 : Hid (Keep [w5, w4, w3, w1, w] w5) := Kw5.out.add
  clear Kw5
  clear c0 c1 c2
  obtain ⟨w6, hw6⟩ : ∃ y, y = w5.alloc (.cells #[.slice xa0_0 O0.length xc0_0, .slice xa0_1 z0.length xc0_1, .slice xa0_2 P0.length xc0_2] 32) := ⟨_, rfl⟩
  have Hw6 := Lib.hid hw6
  have hb : Below w5.heap.size w5 w6 := by rw [hw6]; exact below1 _ _
  have xb0 : Hid (Box3 w6 w5.heap.size 32 (.slice xa0_0 O0.length xc0_0) (.slice xa0_1 z0.length xc0_1) (.slice xa0_2 P0.length xc0_2)) := by rw [hw6]; exact Box3.new _ _ _ _ _ 
  have Kw6 : Hid (Keep [w5, w4, w3, w1, w] w6) := Kaw5.out.step hb
  clear Kaw5
  clear hb
  have Kaw6 : Hid (Keep [w6, w5, w4, w3, w1, w] w6) := Kw6.out.add
  clear Kw6
  clear hw6
  have c0 := (xb0.out.below Kaw6.out.1).c0
  have c1 := (xb0.out.below Kaw6.out.1).c1
  have c2 := (xb0.out.below Kaw6.out.1).c2
  rw [Hw6.out] at c0 c1 c2
  go_wp2_with fail
  rw [← Hw6.out]
  have HD0 : Hid (w5.heap.size ≤ w6.heap.size) := Kaw6.out.2.1.size
  refine (OddsOf_is  R0.out (xX0.out.below Kaw6.out.2.1).at).mono ?_
  rintro e w7 ⟨x, rfl, hg, hb⟩
  obtain ⟨xga_0, xgc_0, hus⟩ := hg.shape2
  subst hus
  have xG := Lib.hid hg
  have HEG : Hid (w6.heap.size ≤ w7.heap.size) := hb.size
  have Kw7 : Hid (Keep [w6, w5, w4, w3, w1, w] w7) := Kaw6.out.step hb
  clear Kaw6
  clear hb hg
  have Kaw7 : Hid (Keep [w7, w6, w5, w4, w3, w1, w] w7) := Kw7.out.add
  clear Kw7
  clear c0 c1 c2
  go_wp2_with fail
  refine (eqInts_at (xG.out.below Kaw7.out.1).v (pG.out.below Kaw7.out.2.2.2.1).v).mono ?_
  rintro e w8 ⟨rfl, hb⟩
  have Kw8 : Hid (Keep [w7, w6, w5, w4, w3, w1, w] w8) := Kaw7.out.step hb
  clear Kaw7
  clear hb
  have c0 := (b0.out.below Kw8.out.2.2.2.2.2.1).c0
  have c1 := (b0.out.below Kw8.out.2.2.2.2.2.1).c1
  have c2 := (b0.out.below Kw8.out.2.2.2.2.2.1).c2
  have c3 := (xb0.out.below Kw8.out.2.1).c0
  have c4 := (xb0.out.below Kw8.out.2.1).c1
  have c5 := (xb0.out.below Kw8.out.2.1).c2
  have Kdw8 : Hid (Keep [w7, w6, w5, w4, w3, w1, w] w8.drew) := Kw8.out.step (Below.refl _ _).drew
  go_wp2_with fail
  go_region_held3 (fun w' => w'.cell? ⟨w.heap.size, 0, none⟩ = some (.slice u0_0 O0.length d0_0) ∧ w'.cell? ⟨w.heap.size, 1, none⟩ = some (.slice u0_1 z0.length d0_1) ∧ w'.cell? ⟨w.heap.size, 2, none⟩ = some (.slice u0_2 P0.length d0_2) ∧ w'.cell? ⟨w5.heap.size, 0, none⟩ = some (.slice xa0_0 O0.length xc0_0) ∧ w'.cell? ⟨w5.heap.size, 1, none⟩ = some (.slice xa0_1 z0.length xc0_1) ∧ w'.cell? ⟨w5.heap.size, 2, none⟩ = some (.slice xa0_2 P0.length xc0_2))
    (first
      | go_keep
      | exact ⟨d0, d1, d2, d3, d4, d5⟩
      | exact ⟨f0, f1, f2, f3, f4, f5⟩)
    (first
      | (go_at_call 6; refine (toGame_at (H0.out.below Kdw8.out.2.2.2.2.2.2.1) hn0).mono ?_; rintro e w9 ⟨x, rfl, hu, hb⟩; obtain ⟨ya0_0, yc0_0, ya0_1, yc0_1, ya0_2, yc0_2, hus⟩ := hu.shape; subst hus; have yX0 := Lib.hid hu; have Kw9 : Hid (Keep [w7, w6, w5, w4, w3, w1, w] w9) := Kdw8.out.step hb; have d0 := (b0.out.below Kw9.out.2.2.2.2.2.1).c0; have d1 := (b0.out.below Kw9.out.2.2.2.2.2.1).c1; have d2 := (b0.out.below Kw9.out.2.2.2.2.2.1).c2; have d3 := (xb0.out.below Kw9.out.2.1).c0; have d4 := (xb0.out.below Kw9.out.2.1).c1; have d5 := (xb0.out.below Kw9.out.2.1).c2; have Kaw9 : Hid (Keep [w9, w7, w6, w5, w4, w3, w1, w] w9) := Kw9.out.add; clear hu hb)
      | (go_at_call 9; refine (eqGame_at (xX0.out.below Kaw9.out.2.2.2.1).at (yX0.out.below Kaw9.out.1).at).mono ?_; rintro e w10 ⟨rfl, hb⟩; have Kw10 : Hid (Keep [w9, w7, w6, w5, w4, w3, w1, w] w10) := Kaw9.out.step hb; have f0 := (b0.out.below Kw10.out.2.2.2.2.2.2.1).c0; have f1 := (b0.out.below Kw10.out.2.2.2.2.2.2.1).c1; have f2 := (b0.out.below Kw10.out.2.2.2.2.2.2.1).c2; have f3 := (xb0.out.below Kw10.out.2.2.1).c0; have f4 := (xb0.out.below Kw10.out.2.2.1).c1; have f5 := (xb0.out.below Kw10.out.2.2.1).c2; clear hb))
  clear c0 d0 f0 c1 d1 f1 c2 d2 f2 c3 d3 f3 c4 d4 f4 c5 d5 f5
  have Kzw10 : Hid (Keep [w7, w6, w5, w4, w3, w1, w] w10) := Kw10.out.2
  clear Kdw8 Kw9 Kaw9 yX0
  have xX0_w10 := Lib.hid (xX0.out.below Kzw10.out.2.2.1)
  have xb0_w10 := Lib.hid (xb0.out.below Kzw10.out.2.1)
  have xG_w10 := Lib.hid (xG.out.below Kzw10.out.1)
  have KBw10 : Hid (Keep [w4, w1, w] w10) := ⟨Kzw10.out.2.2.2.1, Kzw10.out.2.2.2.2.2.1, Kzw10.out.2.2.2.2.2.2.1, trivial⟩
  clear Kzw10
  have c0 := xb0_w10.out.c0
  have c1 := xb0_w10.out.c1
  have c2 := xb0_w10.out.c2
  go_wp2_with fail
  refine (markGame_at MK0.out xX0_w10.out (by omega) (by omega) HLE0.out).mono ?_
  rintro e t11 ⟨rfl, hx, ho⟩
  have o0 := OW.out
  have o1 := OC.out
  have o2 := OP.out
  have o3 := HEG.out
  have oh0 := HB0.out
  have oe0 := HE0.out
  have od0 := HD0.out
  have KOt11 : Hid (Keep [w4, w1, w] t11) := KBw10.out.only ho (fun a ha b hb => by
    simp only [List.mem_cons, List.not_mem_nil, or_false] at ha
    rcases ha with rfl | rfl | rfl <;> omega)
  clear KBw10
  clear xX0_w10
  clear xb0_w10
  have xG_t11 := Lib.hid (xG_w10.out.only ho (fun g hg hb => by have := (xG_w10.out.own.lt g hg).1; omega))
  clear xG_w10
  clear hx ho o0 o1 o2 o3 oh0 oe0 od0 c0 c1 c2
  go_wp2_with fail
  refine (eqInts_at xG_t11.out.v (pG.out.below KOt11.out.1).v).mono ?_
  rintro e t12 ⟨rfl, hb⟩
  have xG_t12 := Lib.hid (xG_t11.out.below hb)
  clear xG_t11
  have Kt12 : Hid (Keep [w4, w1, w] t12) := KOt11.out.step hb
  clear KOt11
  clear hb
  go_wp2_with fail
  refine (markInts_at MG.out xG_t12.out (by omega) (by omega)).mono ?_
  rintro e t13 ⟨rfl, hx, ho⟩
  have o0 := OW.out
  have o1 := OC.out
  have o2 := OP.out
  have o3 := HEG.out
  have oh0 := HB0.out
  have oe0 := HE0.out
  have od0 := HD0.out
  have KOt13 : Hid (Keep [w4, w1, w] t13) := Kt12.out.only ho (fun a ha b hb => by
    simp only [List.mem_cons, List.not_mem_nil, or_false] at ha
    rcases ha with rfl | rfl | rfl <;> omega)
  clear Kt12
  have M := Lib.hid hx
  clear hx ho o0 o1 o2 o3 oh0 oe0 od0
  have Kat13 : Hid (Keep [t13, w4, w1, w] t13) := KOt13.out.add
  clear KOt13
  go_wp2_with fail
  refine (heldInts_own MG.out (M.out.below Kat13.out.1).v (by omega) (by omega)).mono ?_
  rintro e t14 ⟨rfl, hb⟩
  have Kt14 : Hid (Keep [t13, w4, w1, w] t14) := Kat13.out.step hb
  clear Kat13
  clear hb
  have c0 := (b0.out.below Kt14.out.2.2.1).c0
  have c1 := (b0.out.below Kt14.out.2.2.1).c1
  have c2 := (b0.out.below Kt14.out.2.2.1).c2
  go_wp2_with fail
  refine (toGame_at (H0.out.below Kt14.out.2.2.2.1) hn0).mono ?_
  rintro e w15 ⟨x, rfl, hu, hb⟩
  obtain ⟨ha0_0, hc0_0, ha0_1, hc0_1, ha0_2, hc0_2, hus⟩ := hu.shape
  subst hus
  have hX0 := Lib.hid hu
  have Kw15 : Hid (Keep [t13, w4, w1, w] w15) := Kt14.out.step hb
  clear Kt14
  clear hu hb
  have Kaw15 : Hid (Keep [w15, t13, w4, w1, w] w15) := Kw15.out.add
  clear Kw15
  clear c0 c1 c2
  go_wp2_with fail
  refine (OddsOf_is  R0.out (hX0.out.below Kaw15.out.1).at).mono ?_
  rintro e w16 ⟨x, rfl, hg, hb⟩
  obtain ⟨hga_0, hgc_0, hus⟩ := hg.shape2
  subst hus
  have hG := Lib.hid hg
  have Kw16 : Hid (Keep [w15, t13, w4, w1, w] w16) := Kaw15.out.step hb
  clear Kaw15
  clear hb hg
  have Kaw16 : Hid (Keep [w16, w15, t13, w4, w1, w] w16) := Kw16.out.add
  clear Kw16
  go_wp2_with fail
  refine (eqInts_at (hG.out.below Kaw16.out.1).v (pG.out.below Kaw16.out.2.2.2.1).v).mono ?_
  rintro e w17 ⟨rfl, hb⟩
  have Kw17 : Hid (Keep [w16, w15, t13, w4, w1, w] w17) := Kaw16.out.step hb
  clear Kaw16
  clear hb
  go_wp2_with fail
  refine (heldInts_own MG.out (M.out.below Kw17.out.2.2.1).v (by omega) (by omega)).mono ?_
  rintro e t18 ⟨rfl, hb⟩
  have Kt18 : Hid (Keep [w16, w15, t13, w4, w1, w] t18) := Kw17.out.step hb
  clear Kw17
  clear hb
  go_wp2
  go_ret
  exact ⟨rfl, Kt18.out.2.2.2.2.2.1⟩

end Go.Proofs.Ytglbkbiphcgidaa
namespace Go.Proofs.Ytglbkbiphcgidaa
open Go.RowKit

/-- A struct of two slices that reads as a play. -/
def LassoAt (w : World) (v : Value) (X Y : List Int) : Prop :=
  ∃ ax ay cx cy, v = .agg #[.slice ax X.length cx, .slice ay Y.length cy] ∧ IntsAt w ax X ∧ IntsAt w ay Y
theorem LassoAt.below {w w' : World} {v : Value} {X Y : List Int} (h : LassoAt w v X Y) (hb : Below w.heap.size w w') : LassoAt w' v X Y := by
  obtain ⟨ax, ay, cx, cy, hv, h1, h2⟩ := h
  exact ⟨ax, ay, cx, cy, hv, h1.below hb, h2.below hb⟩

/-- The struct v owns a play. -/
def OwnLasso (w : World) (B D : Nat) (v : Value) (X Y : List Int) : Prop :=
  ∃ vx vy, v = .agg #[vx, vy] ∧ OwnInts w B D vx X ∧ OwnInts w B D vy Y ∧ ∀ g, vx.ownBlock = some g → vy.ownBlock ≠ some g

section
variable {w w' : World} {B B' D : Nat} {v : Value} {X Y : List Int}
theorem OwnLasso.at (h : OwnLasso w B D v X Y) : LassoAt w v X Y := by
  obtain ⟨vx, vy, rfl, h1, h2, _⟩ := h
  obtain ⟨a, c, rfl, hi, _⟩ := h1.shape
  obtain ⟨b, d, rfl, hj, _⟩ := h2.shape
  exact ⟨_, _, _, _, rfl, hi, hj⟩
theorem OwnLasso.only {S : Nat → Prop} (h : OwnLasso w B D v X Y) (hk : Only S w w') (hs : ∀ g, B ≤ g → g < D → ¬ S g) : OwnLasso w' B D v X Y := by
  obtain ⟨vx, vy, hv, h1, h2, h3⟩ := h
  exact ⟨vx, vy, hv, h1.only hk (fun g hg => hs g (h1.own.lt g hg).1 (h1.top g hg)), h2.only hk (fun g hg => hs g (h2.own.lt g hg).1 (h2.top g hg)), h3⟩
theorem OwnLasso.below (h : OwnLasso w B D v X Y) (hb : Below w.heap.size w w') : OwnLasso w' B D v X Y := by
  obtain ⟨vx, vy, hv, h1, h2, h3⟩ := h
  exact ⟨vx, vy, hv, h1.below hb, h2.below hb, h3⟩
theorem OwnLasso.base (h : OwnLasso w B D v X Y) (hB : B' ≤ B) : OwnLasso w B' D v X Y := by
  obtain ⟨vx, vy, hv, h1, h2, h3⟩ := h
  exact ⟨vx, vy, hv, h1.base hB, h2.base hB, h3⟩
theorem OwnLasso.retop (h : OwnLasso w B D v X Y) : OwnLasso w B w.heap.size v X Y := by
  obtain ⟨vx, vy, hv, h1, h2, h3⟩ := h
  exact ⟨vx, vy, hv, h1.retop, h2.retop, h3⟩
theorem OwnLasso.zero (w : World) (B D : Nat) : OwnLasso w B D (.agg #[.slice none 0 0, .slice none 0 0]) [] [] :=
  ⟨_, _, rfl, OwnInts.nil _ _ _, OwnInts.nil _ _ _, fun g hg => by simp [Value.ownBlock] at hg⟩
theorem OwnLasso.shape (h : OwnLasso w B D v X Y) : ∃ a0 c0 a1 c1, v = .agg #[.slice a0 X.length c0, .slice a1 Y.length c1] := by
  obtain ⟨ax, ay, cx, cy, hv, _⟩ := h.at
  exact ⟨_, _, _, _, hv⟩
/-- Two slices of numbers of one's own, one made behind the other. -/
theorem OwnLasso.of_parts {vx vy : Value} {M : Nat} (h : OwnInts w B M vx X) (hp : OwnInts w M D vy Y) (hBM : B ≤ M) (hMD : M ≤ D) : OwnLasso w B D (.agg #[vx, vy]) X Y :=
  ⟨_, _, rfl, ⟨h.own, fun g hg => by have := h.top g hg; omega, h.len, h.fits⟩, hp.base hBM, fun g hg hh => by
    have := h.top g hg
    have := (hp.own.lt g hh).1
    omega⟩
end

end Go.Proofs.Ytglbkbiphcgidaa
namespace Go.Proofs.Ytglbkbiphcgidaa
section
section
section
open Go.ChangeShapes Go.WideShapes Go.ChangeAt Go.RowKit Go.Deep

theorem cells_int : Try.prog.cellsOf 2 = 1 := by kernel_rfl
theorem cells_ints : Try.prog.cellsOf 22 = 1 := by kernel_rfl
theorem bytes_int : Try.prog.bytesOf 2 = 8 := by kernel_rfl
theorem bytes_ints : Try.prog.bytesOf 22 = 24 := by kernel_rfl

theorem fits_of_wf {n : Int} (h : (Lit.int .i64 n).wf = true) : Fits n := by
  have h1 : IntKind.i64.min = -9223372036854775808 := rfl
  have h2 : IntKind.i64.max = 9223372036854775807 := rfl
  simp only [Lit.wf, Bool.and_eq_true, decide_eq_true_eq] at h
  unfold Fits
  omega

theorem mem_weightsAll {H : Type} {P : Program} {e : TypeId} {d : DataW H} {n : Nat} : ∀ {l : List (DataW H)}, d ∈ l → n ∈ d.weights P e → n ∈ DataW.weightsAll P e l
  | [], h, _ => by cases h
  | x :: r, h, hn => by
    simp only [DataW.weightsAll, List.mem_append]
    rcases List.mem_cons.1 h with rfl | h
    · exact Or.inl hn
    · exact Or.inr (mem_weightsAll h hn)

section
variable {H : Type} {enc : TypeId × Value → H} {W : World}

theorem nil_ints (W : World) : IntsAt W none [] := ⟨by simp, fun k hk => absurd hk (by simp), fun h => absurd h (by simp)⟩

/-- One slice of numbers: its cells, its length, its bounds. -/
theorem ints_mk {a : Addr} {L cap : Nat} {Z : List Int} (hl : L ≤ cap) (hz : Z.length = cap) (hc : ∀ i, i < cap → W.cell? (a.add i) = some (.int .i64 (Z.getD i 0))) (hw : ∀ n ∈ Z, (Lit.int .i64 n).wf = true) (hb : cap * 8 ≤ reachBytes) :
    (Z.take L).length = L ∧ IntsAt W (some a) (Z.take L) := by
  have hlen : (Z.take L).length = L := by simp; omega
  have hnth : ∀ k, k < L → nth (Z.take L) k = Z.getD k 0 := fun k hk => by simp [nth, List.getD, hk]
  refine ⟨hlen, by rw [hlen]; have := reachBytes_lt; omega, fun k hk => ?_, fun h0 => ?_⟩
  · rw [hlen] at hk
    rw [hnth k hk]
    refine fits_of_wf (hw _ ?_)
    rw [show Z.getD k 0 = Z[k]'(by omega) from by simp [List.getD, show k < Z.length from by omega]]
    exact List.getElem_mem _
  · rw [hlen] at h0
    obtain ⟨b, off, spot⟩ := a
    have hs : spot = none := by simpa [Addr.add] using World.cell?_spot (hc 0 (by omega))
    subst hs
    refine ⟨b, off, rfl, fun k hk => ?_⟩
    rw [hlen] at hk
    have h := hc k (by omega)
    rw [hnth k hk, ← add_plain]
    exact h

theorem ints_of {fuel : Nat} {v : Value} {y : DataW H × List MemPlace} (h : DataW.trod enc Try.prog W 0 (fun _ => true) true fuel 22 [v] = some y) (hw : ∀ n ∈ y.1.weights Try.prog 22, n ≤ reachBytes) :
    ∃ a zs cap, v = .slice a zs.length cap ∧ IntsAt W a zs := by
  rcases open_ints Try.underlying22 Try.underlying2 cells_int h with ⟨hcs, _⟩ | ⟨a, len, cap, zs, hcs, _, hl, hm, hz, hx, hcell, hwz⟩
  · simp only [List.cons.injEq, and_true] at hcs
    exact ⟨none, [], 0, hcs, nil_ints W⟩
  · simp only [List.cons.injEq, and_true] at hcs
    simp only [if_true] at hz
    subst hx
    have hb := hw ((lits (H := H) .i64 (zs.take len)).length * 8 + (lits (H := H) .i64 (zs.drop len)).length * 8) (by simp [DataW.weights, Try.underlying22, bytes_int, Nat.add_mul])
    simp only [lits, List.length_map, List.length_take, List.length_drop] at hb
    obtain ⟨h1, h2⟩ := ints_mk hl hz (fun i hi => hcell i (by omega)) hwz (by omega)
    exact ⟨some a, _, cap, by rw [hcs, h1], h2⟩

theorem rows_of {fuel : Nat} {v : Value} {y : DataW H × List MemPlace} (h : DataW.trod enc Try.prog W 0 (fun _ => true) true fuel 23 [v] = some y) (hw : ∀ n ∈ y.1.weights Try.prog 23, n ≤ reachBytes) :
    ∃ a A C zss cap, v = .slice a zss.length cap ∧ RowsAt W a A C zss := by
  rcases open_int_rows Try.underlying23 Try.underlying22 Try.underlying2 cells_ints cells_int h with ⟨hcs, _⟩ | ⟨a, len, cap, A, L, C, Z, hcs, _, hl, hm, hx, hcell⟩
  · simp only [List.cons.injEq, and_true] at hcs
    exact ⟨none, fun _ => none, fun _ => 0, [], 0, hcs, by simp, fun h => absurd h (by simp), fun k hk => absurd hk (by simp)⟩
  · simp only [List.cons.injEq, and_true] at hcs
    subst hx
    have hlen : ((List.range len).map fun r => (Z r).take (L r)).length = len := by simp
    have hrow : ∀ k, k < len → row ((List.range len).map fun r => (Z r).take (L r)) k = (Z k).take (L k) := fun k hk => by simp [row, hk]
    have hb : len ≤ 17592186044416 := by
      have := hw ((((List.range len).map fun r => intRow (H := H) .i64 (A r) (L r) (Z r)).length + ((List.range (cap - len)).map fun j => intRow (H := H) .i64 (A (len + j)) (L (len + j)) (Z (len + j))).length) * 24) (by simp [DataW.weights, Try.underlying23, bytes_ints])
      simp only [List.length_map, List.length_range] at this
      have := reachBytes_lt
      omega
    have hrb : ∀ r, r < len → ∀ ad, A r = some ad → C r * 8 ≤ reachBytes := fun r hr ad had => by
      have hc := hcell r (by omega)
      have := hw (C r * 8) (by
        simp only [DataW.weights, Try.underlying23, List.mem_cons, List.mem_append]
        refine Or.inr (Or.inl (mem_weightsAll (d := intRow (H := H) .i64 (A r) (L r) (Z r)) (List.mem_map.2 ⟨r, List.mem_range.2 hr, rfl⟩) ?_))
        have hcl := hc.2.1
        have hzl := hc.2.2.2.1
        have e : min (L r) (Z r).length + ((Z r).length - L r) = C r := by omega
        simp [intRow, had, DataW.weights, Try.underlying22, bytes_int, lits, e])
      exact this
    have hrows : ∀ k, k < len → ((Z k).take (L k)).length = L k ∧ IntsAt W (A k) ((Z k).take (L k)) := fun k hk => by
      obtain ⟨_, c1, c2, c3, c4, c5, c6⟩ := hcell k (by omega)
      cases hA : A k with
      | none =>
        have h0 := c5 hA
        have hz0 : Z k = [] := List.length_eq_zero_iff.1 (by omega)
        rw [hz0]
        exact ⟨by simp; omega, by simpa using nil_ints W⟩
      | some ad =>
        exact ints_mk c1 c3 (fun i hi => (c6 ad hA).2 i hi) c4 (hrb k hk ad hA)
    refine ⟨some a, A, C, (List.range len).map fun r => (Z r).take (L r), cap, by rw [hcs, hlen], by rw [hlen]; exact hb, fun h0 => ?_, fun k hk => ?_⟩
    · rw [hlen] at h0
      obtain ⟨b, off, spot⟩ := a
      have hs : spot = none := by simpa [Addr.add] using World.cell?_spot (hcell 0 (by omega)).1
      subst hs
      refine ⟨b, off, rfl, fun k hk => ?_⟩
      rw [hlen] at hk
      have hc := (hcell k (by omega)).1
      rw [hrow k hk, (hrows k hk).1, ← add_plain]
      exact hc
    · rw [hlen] at hk
      rw [hrow k hk]
      exact (hrows k hk).2

end
end

section
open Go.ChangeShapes Go.WideShapes Go.ChangeAt Go.RowKit Go.Deep

end

section
open Go.RowKit Go.ChangeShapes Go.Joins Go.WideShapes

set_option maxRecDepth 100000 in
theorem game_of {H : Type} {enc : TypeId × Value → H} {W : World} {v : Value} {d : DataW H} {p : List MemPlace} {r : Reach} {b0 : Nat} (hv : Value.okWide Try.prog W r b0 27 v) (h : DataW.Trod enc Try.prog W 0 (fun _ => true) true 27 v d p) (hw : ∀ n ∈ d.weights Try.prog 27, n ≤ reachBytes) :
    ∃ O zss P, GameAt W v O zss P := by
  obtain ⟨cs, rfl, hsz⟩ := okWide_struct Try.underlying27 hv
  have hC : Try.prog.cellsOf 27 = 3 := by kernel_rfl
  have hA : Try.prog.cellsOf 25 = 2 := by kernel_rfl
  have hS : Try.prog.cellsOf 22 = 1 := by kernel_rfl
  have hR : Try.prog.cellsOf 23 = 1 := by kernel_rfl
  obtain ⟨c0, c1, c2, rfl⟩ := array3 (hsz.trans hC)
  obtain ⟨fuel, hf⟩ := h
  obtain ⟨y0, y1, n, hx, _, h0, h1⟩ := trod_struct2 Try.underlying27 hf
  obtain ⟨z0, z1, m, hx', _, g0, g1⟩ := trod_struct2 Try.underlying25 h0
  simp only [Prod.mk.injEq] at hx
  obtain ⟨rfl, rfl⟩ := hx
  subst hx'
  have k0 : DataW.trod enc Try.prog W 0 (fun _ => true) true m 22 [c0] = some z0 := by simpa [Value.cells, hA, hS] using g0
  have k1 : DataW.trod enc Try.prog W 0 (fun _ => true) true m 23 [c1] = some z1 := by simpa [Value.cells, hA, hR] using g1
  have k2 : DataW.trod enc Try.prog W 0 (fun _ => true) true n 22 [c2] = some y1 := by simpa [Value.cells, hS] using h1
  have hw0 : ∀ n ∈ z0.1.weights Try.prog 22, n ≤ reachBytes := fun n hn => hw n (by simp [DataW.weights, Try.underlying27, Try.underlying25, DataW.weightsEach, hn])
  have hw1 : ∀ n ∈ z1.1.weights Try.prog 23, n ≤ reachBytes := fun n hn => hw n (by simp [DataW.weights, Try.underlying27, Try.underlying25, DataW.weightsEach, hn])
  have hw2 : ∀ n ∈ y1.1.weights Try.prog 22, n ≤ reachBytes := fun n hn => hw n (by simp [DataW.weights, Try.underlying27, DataW.weightsEach, hn])
  obtain ⟨ao, O, co, rfl, hO⟩ := ints_of k0 hw0
  obtain ⟨an, A, C, zss, cn, rfl, hN⟩ := rows_of k1 hw1
  obtain ⟨ap, P, cp, rfl, hP⟩ := ints_of k2 hw2
  exact ⟨O, zss, P, ao, an, ap, co, cn, cp, A, C, rfl, hO, hN, hP⟩
end
end

section
open Go.ChangeShapes Go.WideShapes Go.ChangeAt Go.RowKit Go.Deep

end
end

section
open Go.ChangeShapes Go.WideShapes Go.ChangeAt Go.RowKit Go.Deep

end

section
open Go.ChangeShapes Go.WideShapes Go.ChangeAt Go.RowKit Go.Deep

end

end Go.Proofs.Ytglbkbiphcgidaa
