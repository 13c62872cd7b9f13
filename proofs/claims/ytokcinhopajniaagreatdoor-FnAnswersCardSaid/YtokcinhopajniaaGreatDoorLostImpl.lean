/-
  What the program's checker gathers of losing loops, priority by priority, is what the model calls bad. No program text.
-/
import Derived.Test.YtokcinhopajniaaGreatDoorCheckMath
import Derived.Test.YtokcinhopajniaaGreatDoorKosa
import Derived.Test.YtokcinhopajniaaGreatDoorLoopsSpec
import Derived.Test.YtokcinhopajniaaGreatDoorGameImpl
import Derived.Shelf.SlGeneric
import Derived.Shelf.SlLaysH
import Derived.Ground.SlgfProg
import Derived.Test.YtokcinhopajniaaGreatDoorProg
import Derived.Shelf.SlicesE.DeleteFunc
import Derived.Lib.SliceRun
import Derived.Test.YtokcinhopajniaaGreatDoorFixedImpl
import Derived.Test.YtokcinhopajniaaGreatDoorLoopsImpl
import Derived.Test.YtokcinhopajniaaGreatDoorWinsSpec
import Derived.Deep.RegionHeld3
namespace Go.Proofs.YtokcinhopajniaaGreatDoor
section
open Go.RowKit

theorem lm_from {n : Int} : ∀ (zs : List Int) (l : Int), zs.Pairwise (· < ·) → (∀ x ∈ zs, l < x ∧ x < n) → setFrom n l zs = true
  | [], _, _, _ => rfl
  | z :: r, l, hp, hb => by
    obtain ⟨h1, h2⟩ := List.pairwise_cons.1 hp
    have hz := hb z (by simp)
    rw [setFrom, decide_eq_true hz]
    exact lm_from r z h2 fun x hx => ⟨h1 x hx, (hb x (by simp [hx])).2⟩
theorem lm_all {n : Int} {zs : List Int} (hp : zs.Pairwise (· < ·)) (hb : ∀ x ∈ zs, 0 ≤ x ∧ x < n) : setB n zs = true := lm_from zs (-1) hp fun x hx => ⟨by have := (hb x hx).1; omega, (hb x hx).2⟩
theorem lm_each {n : Int} {zs : List Int} (h : setB n zs = true) : ∀ x ∈ zs, 0 ≤ x ∧ x < n := fun x hx => by
  obtain ⟨k, hk, rfl⟩ := mem_nth.1 hx
  have := setB_bounds h hk
  exact ⟨this.1, this.2.1⟩
theorem lm_up {n : Int} {zs : List Int} (h : setB n zs = true) : zs.Pairwise (· < ·) := rises_pairwise.1 (rises_of h)

/-- The first k lists, one behind the other. -/
def gatK (f : Nat → List Int) : Nat → List Int
  | 0 => []
  | k + 1 => gatK f k ++ f k
theorem gatK_mem {f : Nat → List Int} {x : Int} : ∀ {k : Nat}, x ∈ gatK f k ↔ ∃ i, i < k ∧ x ∈ f i
  | 0 => by simp [gatK]
  | k + 1 => by
    rw [gatK, List.mem_append, gatK_mem]
    constructor
    · rintro (⟨i, h1, h2⟩ | h)
      · exact ⟨i, by omega, h2⟩
      · exact ⟨k, by omega, h⟩
    · rintro ⟨i, h1, h2⟩
      by_cases e : i = k
      · subst e; exact .inr h2
      · exact .inl ⟨i, by omega, h2⟩
theorem gatK_nodup {f : Nat → List Int} : ∀ {k : Nat}, (∀ i, i < k → (f i).Nodup) → (∀ i j, i < j → j < k → ∀ x ∈ f i, x ∉ f j) → (gatK f k).Nodup
  | 0, _, _ => by simp [gatK]
  | k + 1, h1, h2 => by
    rw [gatK, List.nodup_append]
    refine ⟨gatK_nodup (fun i hi => h1 i (by omega)) (fun i j hi hj => h2 i j hi (by omega)), h1 k (by omega), ?_⟩
    intro a ha b hb e
    subst e
    obtain ⟨i, hi, hx⟩ := gatK_mem.1 ha
    exact h2 i k hi (by omega) a hx hb

/-- The region's vertices of no greater priority than p. -/
def subL (P S : List Int) (p : Int) : List Int := S.filter fun x => !decide (p < nth P x.toNat)
theorem subL_mem {P S : List Int} {p : Int} {v : Nat} : (v : Int) ∈ subL P S p ↔ (v : Int) ∈ S ∧ nth P v ≤ p := by
  unfold subL
  rw [List.mem_filter, Int.toNat_natCast]
  simp
theorem subL_set {P S : List Int} {p n : Int} (h : setB n S = true) : setB n (subL P S p) = true :=
  lm_all ((lm_up h).sublist List.filter_sublist) fun x hx => lm_each h x (List.mem_filter.1 hx).1
theorem subL_len (P S : List Int) (p : Int) : (subL P S p).length ≤ S.length := List.length_filter_le _ _

/-- The vertices of priority p on the loops R. -/
def onceL (P : List Int) (R : List (List Int)) (p : Int) (k : Nat) : List Int := gatK (fun i => withL P (row R i) p) k
/-- What is gathered for the first k priorities of ps. -/
noncomputable def lostK (O : List Int) (es : List (List Int)) (P S ps : List Int) (who : Int) (k : Nat) : List Int :=
  gatK (fun j => if nth ps j % 2 = who then [] else onceL P (loopsL O es (subL P S (nth ps j))) (nth ps j) (loopsL O es (subL P S (nth ps j))).length) k

theorem once_mem {O P S : List Int} {es R : List (List Int)} {p x : Int} (hA : ArenaP O es) (hS : setB O.length S = true) (hR : loopsL O es (subL P S p) = R) :
    x ∈ onceL P R p R.length ↔ ∃ v : Nat, x = (v : Int) ∧ (v : Int) ∈ S ∧ nth P v = p ∧ Rch es (lowI P S v) [(v : Int)] v := by
  have hF : setB O.length (subL P S p) = true := subL_set hS
  have hSO := setO_of (lm_up hF) hF
  have hm := loopsK_mod (zss := es) hSO (subL P S p).length (Nat.le_refl _)
  have e0 : loopsS es (subL P S p) = R := by rw [← hR]; unfold loopsL; rw [if_pos ⟨hA, hF⟩]
  rw [show (loopsK (farF es (subL P S p)) (subL P S p) (subL P S p).length).1 = R from e0] at hm
  have hmem : ∀ i : Nat, openS (subL P S p) (subL P S p).length i = true → (i : Int) ∈ subL P S p := fun i hi => (hSO.iff i).1 hi
  have hlow : ∀ v : Nat, nth P v = p → openS (subL P S p) (subL P S p).length = lowI P S v := fun v hv => funext fun u => by
    rw [Bool.eq_iff_iff, hSO.iff u, subL_mem]
    unfold lowI hasB
    rw [Bool.and_eq_true, decide_eq_true_eq, decide_eq_true_eq, hv]
  unfold onceL
  rw [gatK_mem]
  constructor
  · rintro ⟨i, hi, hx⟩
    unfold withL at hx
    rw [List.mem_filter, decide_eq_true_eq] at hx
    obtain ⟨hx1, hx2⟩ := hx
    have hr : row R i ∈ R := by rw [row_eq hi]; exact List.getElem_mem _
    obtain ⟨v, _, hl, e⟩ := hm.a _ hr
    rw [e] at hx1
    have hxs : x ∈ subL P S p := (List.mem_filter.1 hx1).1
    obtain ⟨u, rfl, _⟩ := set_nats hF x hxs
    rw [Int.toNat_natCast] at hx2
    have hl2 := Loop.of_mut hl ((cls_mem hmem).1 hx1)
    refine ⟨u, rfl, (subL_mem.1 hxs).1, hx2, ?_⟩
    rw [← hlow u hx2]
    exact hl2
  · rintro ⟨v, rfl, h1, h2, h3⟩
    rw [← hlow v h2] at h3
    have hv : (v : Int) ∈ subL P S p := subL_mem.2 ⟨h1, by omega⟩
    have hr := hm.b v (by rw [List.take_length]; exact hv) h3
    obtain ⟨i, hi, e⟩ := List.getElem_of_mem hr
    refine ⟨i, hi, ?_⟩
    unfold withL
    rw [List.mem_filter, Int.toNat_natCast, decide_eq_true_eq, row_eq hi, e]
    exact ⟨(cls_mem hmem).2 (.refl ((hSO.iff v).2 hv)), h2⟩

theorem once_nodup {O P S : List Int} {es R : List (List Int)} {p : Int} (hA : ArenaP O es) (hS : setB O.length S = true) (hR : loopsL O es (subL P S p) = R) : (onceL P R p R.length).Nodup := by
  have hF : setB O.length (subL P S p) = true := subL_set hS
  have hSO := setO_of (lm_up hF) hF
  have hm := loopsK_mod (zss := es) hSO (subL P S p).length (Nat.le_refl _)
  have e0 : loopsS es (subL P S p) = R := by rw [← hR]; unfold loopsL; rw [if_pos ⟨hA, hF⟩]
  rw [show (loopsK (farF es (subL P S p)) (subL P S p) (subL P S p).length).1 = R from e0] at hm
  have hmem : ∀ i : Nat, openS (subL P S p) (subL P S p).length i = true → (i : Int) ∈ subL P S p := fun i hi => (hSO.iff i).1 hi
  refine gatK_nodup (fun i hi => ?_) (fun i j hij hj x hx hx2 => ?_)
  · have hr : row R i ∈ R := by rw [row_eq hi]; exact List.getElem_mem _
    obtain ⟨v, _, _, e⟩ := hm.a _ hr
    have hp : (row R i).Pairwise (· < ·) := by rw [e]; exact (lm_up hF).sublist List.filter_sublist
    exact ((hp.sublist List.filter_sublist).imp fun h => Int.ne_of_lt h)
  · have hi : i < R.length := by omega
    have hri : row R i ∈ R := by rw [row_eq hi]; exact List.getElem_mem _
    have hrj : row R j ∈ R := by rw [row_eq hj]; exact List.getElem_mem _
    obtain ⟨v, _, _, e1⟩ := hm.a _ hri
    obtain ⟨u, _, _, e2⟩ := hm.a _ hrj
    have hx1 : x ∈ row R i := (List.mem_filter.1 hx).1
    have hx2 : x ∈ row R j := (List.mem_filter.1 hx2).1
    rw [e1] at hx1
    rw [e2] at hx2
    obtain ⟨y, rfl, _⟩ := set_nats hF x (List.mem_filter.1 hx1).1
    have h1 := (cls_mem hmem).1 hx1
    have h2 := (cls_mem hmem).1 hx2
    have e : row R i = row R j := by rw [e1, e2]; exact cls_congr (h1.symm.trans h2)
    have hlt := List.pairwise_iff_getElem.1 hm.e i j hi hj hij
    rw [row_eq hi, row_eq hj] at e
    rw [e] at hlt
    omega

/-- What is gathered, sorted, is what the model calls bad. -/
theorem lost_bad {O P S Q : List Int} {zss : List (List Int)} {who : Int} (hr : rightB O zss P who S Q = true) :
    ((lostK O (fixK zss Q zss.length) P S (distL (pickP P S)) who (distL (pickP P S)).length).mergeSort fun x y => decide (x ≤ y)) = badL O zss P who S Q := by
  have hr' := hr
  unfold rightB at hr'
  rw [Bool.and_eq_true, Bool.and_eq_true] at hr'
  obtain ⟨hpar, hplan, hset⟩ := hr'
  obtain ⟨hA, hPl, hPb⟩ := parityB_iff.1 hpar
  obtain ⟨_, hw, hQ⟩ := planB_iff.1 hplan
  have hAf : ArenaP O (fixK zss Q zss.length) := fix_valid hA hQ
  have hS : setB O.length S = true := by rw [← hPl]; exact hset
  obtain ⟨hd1, hd2⟩ := distL_spec (pickP P S)
  obtain ⟨ps, hps⟩ : ∃ ps, distL (pickP P S) = ps := ⟨_, rfl⟩
  rw [hps] at hd1 hd2 ⊢
  have hnodup : (lostK O (fixK zss Q zss.length) P S ps who ps.length).Nodup := by
    refine gatK_nodup (fun i hi => ?_) (fun i j hij hj x hx hx2 => ?_)
    · split
      · simp
      · exact once_nodup hAf hS rfl
    · split at hx
      · simp at hx
      · split at hx2
        · simp at hx2
        · obtain ⟨v, e1, _, h1, _⟩ := (once_mem hAf hS rfl).1 hx
          obtain ⟨u, e2, _, h2, _⟩ := (once_mem hAf hS rfl).1 hx2
          have : u = v := by omega
          subst this
          have hlt := List.pairwise_iff_getElem.1 hd1 i j (by omega) hj hij
          rw [← nth_eq (by omega), ← nth_eq hj] at hlt
          omega
  have hmem : ∀ x, x ∈ lostK O (fixK zss Q zss.length) P S ps who ps.length ↔ x ∈ badL O zss P who S Q := fun x => by
    unfold badL
    rw [if_pos hr, List.mem_filter]
    unfold badM BadP
    rw [@decide_eq_true_eq _ (Classical.propDecidable _)]
    unfold lostK
    rw [gatK_mem]
    constructor
    · rintro ⟨i, hi, hx⟩
      split at hx
      · simp at hx
      · rename_i hne
        obtain ⟨v, rfl, h1, h2, h3⟩ := (once_mem hAf hS rfl).1 hx
        rw [Int.toNat_natCast]
        exact ⟨h1, by rw [h2]; exact hne, h3⟩
    · rintro ⟨h1, h2, h3⟩
      obtain ⟨v, rfl, hv⟩ := set_nats hS x h1
      rw [Int.toNat_natCast] at h2 h3
      have hp : nth P v ∈ ps := (hd2 _).2 (by
        unfold pickP
        exact List.mem_map.2 ⟨_, h1, by rw [Int.toNat_natCast]⟩)
      obtain ⟨i, hi, e⟩ := mem_nth.1 hp
      refine ⟨i, hi, ?_⟩
      rw [if_neg (by rw [e]; exact h2)]
      exact (once_mem hAf hS rfl).2 ⟨v, rfl, h1, e.symm, h3⟩
  have hb : (badL O zss P who S Q).Pairwise (· < ·) := by
    unfold badL
    rw [if_pos hr]
    exact (lm_up hset).sublist List.filter_sublist
  have hbn : (badL O zss P who S Q).Nodup := hb.imp fun h => Int.ne_of_lt h
  have hperm : (lostK O (fixK zss Q zss.length) P S ps who ps.length).Perm (badL O zss P who S Q) := (List.perm_ext_iff_of_nodup hnodup hbn).2 hmem
  refine List.Perm.eq_of_pairwise (le := fun a b => a ≤ b) (fun a b _ _ h1 h2 => Int.le_antisymm h1 h2) ?_ (hb.imp fun h => Int.le_of_lt h) ((List.mergeSort_perm _ _).trans hperm)
  have hs := List.pairwise_mergeSort (le := fun x y : Int => decide (x ≤ y)) (fun a b c h1 h2 => by simp only [decide_eq_true_eq] at *; omega) (fun a b => by simp only [Bool.or_eq_true, decide_eq_true_eq]; omega) (lostK O (fixK zss Q zss.length) P S ps who ps.length)
  exact hs.imp fun h => by simpa using h
end

section
open Go.Shelf
def delLays_ren : Go.Shelf.Ren := ⟨fun | 10 => 136 | 6 => 171 | n => n, fun | 22 => 27 | 23 => 2 | 25 => 99 | 3 => 3 | 4 => 4 | 0 => 0 | n => n, fun | n => n⟩
theorem delLays : Go.Proofs.SlLaysH.n10 Tryz.prog delLays_ren := {
  mixed := by kernel_rfl
  f6 := ⟨Tryz.f171.name, by decide, Tryz.func171.trans (congrArg some (by kernel_rfl))⟩
  f10 := ⟨Tryz.f136.name, by decide, Tryz.func136.trans (congrArg some (by kernel_rfl))⟩
  t0 := Tryz.underlying0
  a0 := Tryz.isAgg0
  z0 := Tryz.sizeOf0
  v0 := Tryz.zeroValue0
  t3 := Tryz.underlying3
  a3 := Tryz.isAgg3
  z3 := Tryz.sizeOf3
  v3 := Tryz.zeroValue3
  t4 := Tryz.underlying4
  a4 := Tryz.isAgg4
  z4 := Tryz.sizeOf4
  v4 := Tryz.zeroValue4
  t22 := Tryz.underlying27
  a22 := Tryz.isAgg27
  z22 := Tryz.sizeOf27
  v22 := Tryz.zeroValue27
  a23 := Tryz.isAgg2
  z23 := Tryz.sizeOf2
  t25 := Tryz.underlying99
  a25 := Tryz.isAgg99
  z25 := Tryz.sizeOf99
  v25 := Tryz.zeroValue99 }
end

section
open Go.RowKit Go.Shelf Go.Lib Go.Sort

theorem only_cell6 {S : Nat → Prop} {w w' : World} {p : Addr} {v : Value} (h : Only S w w') (hp : ¬ S p.block) (hc : w.cell? p = some v) : w'.cell? p = some v :=
  (World.cell?_of_block (h.block _ (World.block_lt_of_cell? w p hc) hp)).trans hc

theorem run_append_any' {w : World} {B n : Nat} {v : Value} {xs : List Value} {a : Option Addr} {zs : List Int} (ty : TypeId) (c : Nat) (hown : w.ownsRow B 2 1 v n xs) (hI : IntsAt w a zs) (h63 : n + zs.length ≤ maxLen) (hbytes : (n + zs.length) * 8 ≤ 140737488355328) (hbase : B ≤ w.heap.size) :
    ∃ v' w', (Builtin.append_ #[27, 27] ty #[v, .slice a zs.length c]).run Tryz.prog w = .ok v' w' ∧ w'.ownsRow B 2 1 v' (n + zs.length) (xs ++ zs.map (Value.int .i64)) ∧ w.grownBy w' v.ownBlock ∧ (v'.ownBlock = v.ownBlock ∨ v'.ownBlock = some w.heap.size) := by
  obtain ⟨i0, hi, hz0, hz1, hz2⟩ := info_parts info_int
  cases a with
  | none =>
    have hz : zs = [] := List.length_eq_zero_iff.1 (by
      rcases Nat.eq_zero_or_pos zs.length with h | h
      · exact h
      · obtain ⟨b, off, ha, _⟩ := hI.cell h; cases ha)
    subst hz
    refine ⟨v, w, ?_, by simpa using hown, World.grownBy.refl _ _, .inl rfl⟩
    rcases hown.2 with ⟨rfl, rfl⟩ | ⟨g, cap, cur, rfl, _, _, hnc, _⟩
    · simp [Builtin.append_, run_underlying Tryz.underlying27, sizeOf, typeInfo, hi, Builtin.lenOf, Builtin.firstCells]
    · simp [Builtin.append_, run_underlying Tryz.underlying27, sizeOf, typeInfo, hi, Builtin.lenOf, Builtin.firstCells, hnc, storeCells]
  | some ad =>
    obtain ⟨v', w', hr, h2, h3, _, h5⟩ := run_append_own_at (P := Tryz.prog) w B 27 ty 2 i0 (.int .i64 0) 1 8 Tryz.underlying27 hi hz0 hz1 hz2 rfl (by decide) v n xs hown ad zs.length c (zs.map (Value.int .i64)) (by simp) (news_of hI) (one_of zs) h63 hbytes hbase
    exact ⟨v', w', hr, h2, h3, h5⟩

theorem wpList_append_any' {w : World} {ops : Array Oper} {rest : List Oper} {o : Oper} {a : Act} {Q : Exit → Act → World → Prop} (hgd : o.guard = none) (s x : Operand)
    (ho : o.op = .call { callee := .builtin .append, args := #[s, x], argTypes := #[27, 27] })
    (B : Nat) (v : Value) (n : Nat) (xs : List Value) (hs : a.eval s = v) (hown : w.ownsRow B 2 1 v n xs)
    (ax : Option Addr) (zs : List Int) (c : Nat) (hx : a.eval x = .slice ax zs.length c) (hI : IntsAt w ax zs) (h63 : n + zs.length ≤ maxLen) (hbytes : (n + zs.length) * 8 ≤ 140737488355328) (hbase : B ≤ w.heap.size)
    (h : ∀ v' w', w'.ownsRow B 2 1 v' (n + zs.length) (xs ++ zs.map (Value.int .i64)) → w.grownBy w' v.ownBlock → (v'.ownBlock = v.ownBlock ∨ v'.ownBlock = some w.heap.size) → wpList Tryz.prog ops Q rest (a.put o.dst v') w') :
    wpList Tryz.prog ops Q (o :: rest) a w := by
  refine wpList_plain hgd fun K hK => ?_
  obtain ⟨v', w', hr, h2, h3, h5⟩ := run_append_any' (w := w) o.type c hown hI h63 hbytes hbase
  unfold Oper.wp execOp
  simp only [ho, resolve, invoke, builtin, Sem.run_bind, Sem.run_pure, Result.andThen_ok, List.map_toArray, List.map_cons, List.map_nil, hs, hx, hr]
  exact hK _ _ (h v' w' h2 h3 h5)

theorem holds_enc {α : Type} [Inhabited α] {enc : α → Value} {w : World} {g : Nat} {cur : Array Value} {e : TypeId} {ss : List α} (hb : w.heap[g]? = some (.cells cur e (0, 0))) (ht : cur.toList.take ss.length = ss.map enc) : Holds enc w g 0 ss.toArray := by
  intro j hj
  have hj' : j < ss.length := by simpa using hj
  refine ⟨?_, by simp [World.frozen?, hb]⟩
  have h1 : (cur.toList.take ss.length)[j]? = (ss.map enc)[j]? := by rw [ht]
  rw [List.getElem?_take_of_lt hj'] at h1
  simp only [World.cell?, hb, Nat.zero_add]
  simp only [Option.isSome_none, Bool.false_eq_true, if_false]
  rw [← Array.getElem?_toList, h1]
  simp [hj']

set_option maxHeartbeats 2000000 in
theorem above_is {W : World} {gb pb pk po cp : Nat} {p : Int} {P : List Int} {v : Nat} (hv : v < P.length) (h2 : W.cell? ⟨gb, 2, none⟩ = some (.slice (some ⟨pk, po, none⟩) P.length cp)) (h0 : W.cell? ⟨pb, 0, none⟩ = some (.int .i64 p)) (hx : W.cell? ⟨pk, po + v, none⟩ = some (.int .i64 (nth P v))) :
    FnGives Tryz.prog 134 #[.pointer (some ⟨gb, 0, none⟩), .pointer (some ⟨pb, 0, none⟩)] #[.int .i64 v] (.bool (decide (p < nth P v))) W := by
  show Calls Tryz.prog 134 #[.int .i64 v, .pointer (some ⟨gb, 0, none⟩), .pointer (some ⟨pb, 0, none⟩)] W _
  have hv1 : (v : Int) < P.length := by omega
  have hv0 : (0 : Int) ≤ (v : Int) := by omega
  go_enter Tryz.func134, Tryz.ntmps134
  go_wp2
  go_quiet (fail)
  go_wp2
  go_ret
  exact ⟨rfl, _, rfl⟩

theorem info_int0 : ∀ w, (zeroValue (delLays_ren.t 23)).run Tryz.prog w = .ok (.int .i64 0) w := Tryz.zeroValue2

set_option maxHeartbeats 2000000 in
theorem DeleteFunc_is {w : World} {B g cap gb pb pk po cp : Nat} {p : Int} {P S : List Int} (h : w.ownsRow B 2 1 (.slice (some ⟨g, 0, none⟩) S.length cap) S.length (S.map (Value.int .i64)))
    (hS : ∀ x ∈ S, ∃ u : Nat, x = (u : Int) ∧ u < P.length) (hP0 : 0 < P.length) (hl : S.length ≤ 1048576) (h2 : w.cell? ⟨gb, 2, none⟩ = some (.slice (some ⟨pk, po, none⟩) P.length cp)) (h0 : w.cell? ⟨pb, 0, none⟩ = some (.int .i64 p))
    (hx : ∀ v, v < P.length → w.cell? ⟨pk, po + v, none⟩ = some (.int .i64 (nth P v))) (n1 : gb ≠ g) (n2 : pb ≠ g) (n3 : pk ≠ g) :
    Calls Tryz.prog 136 #[.slice (some ⟨g, 0, none⟩) S.length cap, .func (.func 134) #[] #[.pointer (some ⟨gb, 0, none⟩), .pointer (some ⟨pb, 0, none⟩)]] w fun e w' =>
      e = .returned (.slice (some ⟨g, 0, none⟩) (subL P S p).length cap) ∧ w'.ownsRow B 2 1 (.slice (some ⟨g, 0, none⟩) (subL P S p).length cap) (subL P S p).length ((subL P S p).map (Value.int .i64)) ∧ Only (fun b => g = b) w w' := by
  obtain ⟨m, hm⟩ : ∃ m, P.length = m + 1 := ⟨P.length - 1, by omega⟩
  have eg : ∀ args w, (callFunc 134 args).run Tryz.prog w = .ok (.enter 134 args) w := enters_of Tryz.func134 (by kernel_rfl) rfl
  obtain ⟨fz, hfz⟩ : ∃ fz : Int → Fin (m + 1), ∀ u : Nat, u < m + 1 → (fz (u : Int)).val = u := ⟨fun x => ⟨x.toNat % (m + 1), Nat.mod_lt _ (by omega)⟩, fun u hu => by simp [Nat.mod_eq_of_lt hu]⟩
  have hfs : ∀ x ∈ S, (((fz x).val : Nat) : Int) = x := fun x hx => by
    obtain ⟨u, rfl, hu⟩ := hS x hx
    rw [hfz u (by omega)]
  have hmap : (S.map fz).map (fun x : Fin (m + 1) => Value.int .i64 (x.val : Int)) = S.map (Value.int .i64) := by
    rw [List.map_map]
    exact List.map_congr_left fun x hx => by show Value.int .i64 (((fz x).val : Nat) : Int) = _; rw [hfs x hx]
  obtain ⟨pr, hpr⟩ : ∃ pr : Fin (m + 1) → Bool, pr = fun x => decide (p < nth P x.val) := ⟨_, rfl⟩
  have hfil : ((S.map fz).filter fun x => !pr x).map (fun x : Fin (m + 1) => Value.int .i64 (x.val : Int)) = (subL P S p).map (Value.int .i64) := by
    unfold subL
    rw [List.filter_map, List.map_map]
    have e1 : S.filter ((fun x => !pr x) ∘ fz) = S.filter fun x => !decide (p < nth P x.toNat) := List.filter_congr fun x hx => by
      show (!pr (fz x)) = _
      have := hfs x hx
      rw [hpr]
      show (!decide (p < nth P (fz x).val)) = _
      rw [show (fz x).val = x.toNat by omega]
    rw [e1]
    exact List.map_congr_left fun x hx => by show Value.int .i64 (((fz x).val : Nat) : Int) = _; rw [hfs x (List.mem_filter.1 hx).1]
  have hfl : ((S.map fz).filter fun x => !pr x).length = (subL P S p).length := by have := congrArg List.length hfil; simpa using this
  have hb1 : gb < w.heap.size := World.block_lt_of_cell? _ _ h2
  have hb2 : pb < w.heap.size := World.block_lt_of_cell? _ _ h0
  have hb3 : ∀ v, v < P.length → pk < w.heap.size := fun v hv => World.block_lt_of_cell? _ _ (hx v hv)
  have h' : w.ownsRow B 2 1 (.slice (some ⟨g, 0, none⟩) S.length cap) S.length ((S.map fz).map (fun x : Fin (m + 1) => Value.int .i64 (x.val : Int))) := by rw [hmap]; exact h
  have hc : S.length ≤ cap := by
    rcases h.2 with ⟨e0, _⟩ | ⟨g', cap', cur, e0, hb, hg, hn, _⟩
    · cases e0
    · injection e0 with e1 _ e3
      first | omega | (subst e3; simpa using hn)
  have hH : Holds (fun x : Fin (m + 1) => Value.int .i64 (x.val : Int)) w g 0 (S.map fz).toArray := by
    rcases h'.2 with ⟨e0, _⟩ | ⟨g', cap', cur, e0, hb, hg, hn, hm', hcs, ht⟩
    · cases e0
    · injection e0 with e1 _ e3
      injection e1 with e1
      injection e1 with e1
      subst e1
      exact holds_enc hg (by simpa using ht)
  have hpred : PredAt Tryz.prog 134 #[.pointer (some ⟨gb, 0, none⟩), .pointer (some ⟨pb, 0, none⟩)] (fun x : Fin (m + 1) => Value.int .i64 (x.val : Int)) pr w := fun W x hb => by
    have hv : x.val < P.length := by rw [hm]; exact x.isLt
    rw [hpr]
    exact above_is hv ((hb.cell (p := ⟨gb, 2, none⟩) hb1).trans h2) ((hb.cell (p := ⟨pb, 0, none⟩) hb2).trans h0) ((hb.cell (p := ⟨pk, po + x.val, none⟩) (hb3 _ hv)).trans (hx _ hv))
  have hover : PredOver Tryz.prog 134 #[.pointer (some ⟨gb, 0, none⟩), .pointer (some ⟨pb, 0, none⟩)] (fun x : Fin (m + 1) => Value.int .i64 (x.val : Int)) pr g 0 (S.map fz).toArray.size w := fun n os dk x _ => by
    have hv : x.val < P.length := by rw [hm]; exact x.isLt
    have hk : ∀ a : Addr, a.block < w.heap.size → a.block ≠ g → (sortWorld (fun x : Fin (m + 1) => Value.int .i64 (x.val : Int)) w g 0 n dk os).cell? a = w.cell? a := fun a h1 h2 => by
      unfold sortWorld
      rw [cell?_grow _ _ _ (by show a.block < (putRow _ _ _ _ _).heap.size; rw [Go.Sort.size_putRow]; exact h1), cell?_putRow_other _ _ g 0 _ _ (Or.inl h2)]
      rfl
    rw [hpr]
    exact above_is hv ((hk ⟨gb, 2, none⟩ hb1 n1).trans h2) ((hk ⟨pb, 0, none⟩ hb2 n2).trans h0) ((hk ⟨pk, po + x.val, none⟩ (hb3 _ hv) n3).trans (hx _ hv))
  have hsz : (S.map fz).toArray.size = S.length := by simp
  have hcon := AnyE.slices_DeleteFunc delLays (fun x : Fin (m + 1) => Value.int .i64 (x.val : Int)) (fun _ => rfl) pr 134 #[.pointer (some ⟨gb, 0, none⟩), .pointer (some ⟨pb, 0, none⟩)] eg ⟨0, by omega⟩ info_int0 g 0 cap (S.map fz).toArray w
    hpred hover hH (by rw [hsz]; omega) (by rw [hsz]; exact hc)
  rw [hsz] at hcon
  refine Calls.mono hcon ?_
  rintro e w' ⟨rfl, q, rfl⟩
  have hfl' : (((S.map fz).toArray.toList.filter fun x => !pr x)).length = (subL P S p).length := hfl
  refine ⟨by rw [hfl'], ?_, ?_⟩
  · have hk := Go.Lib.ownsRow_putRow (enc := fun x : Fin (m + 1) => Value.int .i64 (x.val : Int)) (q := q) (k := (subL P S p).length) (ys := ((S.map fz).filter fun x => !pr x) ++ List.replicate (S.length - ((S.map fz).filter fun x => !pr x).length) ⟨0, by omega⟩) h' (by have := subL_len P S p; simp; omega) (subL_len P S p)
    rw [List.take_left' hfl, hfil] at hk
    exact hk
  · refine ⟨rfl, rfl, rfl, by simp [putRow, mapBlock, Sort.ahead], fun k hk hne => ?_⟩
    simp [putRow, mapBlock, Sort.ahead, Array.getElem?_modify, hne]
end

section
open Go.RowKit

theorem gatK_mono {f : Nat → List Int} {i : Nat} : ∀ {k : Nat}, i ≤ k → (gatK f i).length ≤ (gatK f k).length
  | 0, h => by
    have : i = 0 := by omega
    subst this; exact Nat.le_refl _
  | k + 1, h => by
    by_cases e : i = k + 1
    · subst e; exact Nat.le_refl _
    · have := gatK_mono (f := f) (i := i) (k := k) (by omega)
      rw [gatK, List.length_append]; omega
theorem lost_len {O P S Q : List Int} {zss : List (List Int)} {who : Int} (hr : rightB O zss P who S Q = true) {k : Nat} (hk : k ≤ (distL (pickP P S)).length) :
    (lostK O (fixK zss Q zss.length) P S (distL (pickP P S)) who k).length ≤ S.length := by
  have h1 : (lostK O (fixK zss Q zss.length) P S (distL (pickP P S)) who k).length ≤ (lostK O (fixK zss Q zss.length) P S (distL (pickP P S)) who (distL (pickP P S)).length).length := gatK_mono hk
  have h2 := congrArg List.length (lost_bad hr)
  rw [List.length_mergeSort] at h2
  have h3 : (badL O zss P who S Q).length ≤ S.length := by
    unfold badL
    rw [if_pos hr]
    exact List.length_filter_le _ _
  omega
theorem own_at {w : World} {B g n c : Nat} {zs : List Int} (h : w.ownsRow B 2 1 (.slice (some ⟨g, 0, none⟩) n c) zs.length (zs.map (Value.int .i64))) (hn : n = zs.length) (hl : zs.length ≤ 1048576) (hf : ∀ k, k < zs.length → Fits (nth zs k)) : IntsAt w (some ⟨g, 0, none⟩) zs := by
  obtain ⟨a, cap, hv, hi, _⟩ := (OwnInts.mk' h (by omega) hf).shape
  injection hv with h1
  rw [h1]; exact hi
theorem loops_rows {O : List Int} {es R : List (List Int)} {F : List Int} (hA : ArenaP O es) (hF : setB O.length F = true) (hR : loopsL O es F = R) : ∀ i, i < R.length → setB O.length (row R i) = true := fun i hi => by
  have hSO := setO_of (lm_up hF) hF
  have hm := loopsK_mod (zss := es) hSO F.length (Nat.le_refl _)
  have e0 : loopsS es F = R := by rw [← hR]; unfold loopsL; rw [if_pos ⟨hA, hF⟩]
  rw [show (loopsK (farF es F) F F.length).1 = R from e0] at hm
  have hr : row R i ∈ R := by rw [row_eq hi]; exact List.getElem_mem _
  obtain ⟨v, _, _, e⟩ := hm.a _ hr
  rw [e]
  exact lm_all ((lm_up hF).sublist List.filter_sublist) fun x hx => lm_each hF x (List.mem_filter.1 hx).1

set_option maxHeartbeats 32000000 in
set_option maxRecDepth 100000 in
theorem lostLoops_is {w : World} {v : Value} {O P S Q L : List Int} {zss : List (List Int)} {who : Int} {aS aQ : Option Addr} (cS cQ : Nat) (hr : rightB O zss P who S Q = true) (hL : badL O zss P who S Q = L) (h : GameAt w v O zss P) (hSi : IntsAt w aS S) (hQi : IntsAt w aQ Q) :
    Calls Tryz.prog 86 #[v, .int .i64 who, .slice aS S.length cS, .slice aQ Q.length cQ] w (GivesInts w L) := by
  have HGm := Lib.hid h
  have HSi := Lib.hid hSi
  have HQi := Lib.hid hQi
  obtain ⟨ao, an, ap, co, cn, cp, A, C, rfl, h1, h2, h3⟩ := h
  have HPi := Lib.hid h3
  have hrr := hr
  unfold rightB at hrr
  rw [Bool.and_eq_true, Bool.and_eq_true] at hrr
  obtain ⟨hpar, hplan, hset⟩ := hrr
  obtain ⟨hA, hPl, hPb⟩ := parityB_iff.1 hpar
  obtain ⟨_, hw01, hQ⟩ := planB_iff.1 hplan
  have HAf : Hid (ArenaP O (fixK zss Q zss.length)) := fix_valid hA hQ
  have hS : setB O.length S = true := by rw [← hPl]; exact hset
  have HSET := Lib.hid hS
  have HPAR := Lib.hid hpar
  have HPL := Lib.hid hPl
  have HPB := Lib.hid hPb
  have HSN : Hid (∀ x ∈ S, ∃ u : Nat, x = (u : Int) ∧ u < P.length) := set_nats hset
  have hSl : S.length ≤ 300 := by have := setB_len (by omega) hS; have := hA.2.1; omega
  have HWH := Lib.hid hw01
  have HP0 : Hid (0 < P.length ∧ P.length ≤ 256) := by have := hA.1; have := hA.2.1; unfold Hid; omega
  have HC := Lib.hid (fun (W : World) (hb : Below w.heap.size w W) => only_is cQ (hQ.1.trans hA.2.2.1.symm) (by have := hA.1; have := hA.2.2.1; omega) (by have := hA.2.1; have := hA.2.2.1; omega) (fun v hv => by
    have hv' : v < O.length := by rw [← hQ.1]; exact hv
    rcases hQ.2 v hv with hq | hq
    · exact .inl hq
    · obtain ⟨y, hy, _⟩ := arena_nats hA v (by rw [hA.2.2.1]; exact hv') _ hq.2
      exact .inr (by omega)) (GameAt.arenaC (HGm.out.below hb)) (HQi.out.below hb))
  have HLB := Lib.hid (lost_bad hr)
  have HLL := Lib.hid (fun (k : Nat) hk => lost_len hr (k := k) hk)
  obtain ⟨es, hes⟩ : ∃ es, fixK zss Q zss.length = es := ⟨_, rfl⟩
  obtain ⟨ps, hps⟩ : ∃ ps, distL (pickP P S) = ps := ⟨_, rfl⟩
  rw [hes] at HAf HC HLB HLL
  rw [hps] at HLB HLL
  rw [hL] at HLB
  have HPS : Hid (∀ k, k < ps.length → ∃ u : Nat, nth ps k = nth P u ∧ u < P.length ∧ 0 ≤ nth ps k ∧ nth ps k ≤ 40 ∧ 0 < S.length) := fun k hk => by
    have hm : nth ps k ∈ pickP P S := by
      rw [← (distL_spec (pickP P S)).2, hps]; exact nth_mem hk
    obtain ⟨x, hx, e⟩ := List.mem_map.1 hm
    obtain ⟨u, rfl, hu⟩ := HSN.out x hx
    rw [Int.toNat_natCast] at e
    have := hPb _ (nth_mem hu)
    exact ⟨u, e.symm, hu, by rw [← e]; exact this.1, by rw [← e]; exact this.2, List.length_pos_of_mem hx⟩
  have HPSL : Hid (ps.length ≤ 300) := by
    have := distL_len (pickP P S)
    rw [hps, pickP_len] at this
    unfold Hid; omega
  obtain ⟨w1, hw1⟩ : ∃ y, y = w.alloc (.cells #[.slice ao O.length co, .slice an zss.length cn, .slice ap P.length cp] 32) := ⟨_, rfl⟩
  have HW1 := Lib.hid hw1
  have B1 : Hid (Below w.heap.size w w1) := by rw [hw1]; exact below1 _ _
  have T1 : Hid (Box3 w1 w.heap.size 32 (.slice ao O.length co) (.slice an zss.length cn) (.slice ap P.length cp)) := by rw [hw1]; exact Box3.new _ _ _ _ _
  have HSL := Lib.hid hSl
  have HDI : Hid (∀ (W : World) (a : Option Addr) (c : Nat), IntsAt W a (pickP P S) → Calls Tryz.prog 132 #[.slice a (pickP P S).length c] W (GivesInts W ps)) := fun W a c hi => distinct_is c hps hi (by rw [pickP_len]; omega)
  have c0 := T1.out.c0
  have c1 := T1.out.c1
  have c2 := T1.out.c2
  rw [hw1] at c0 c1 c2
  clear hw1 h1 h2 h3 hSi hQi hA hQ hS hes hps hr hL hpar hplan hset hPl hPb hw01
  go_enter Tryz.func86, Tryz.ntmps86
  go_wp2_with fail
  rw [← HW1.out]
  refine (HC.out w1 B1.out).mono ?_
  rintro e w2 ⟨v2, rfl, ho2, hb⟩
  obtain ⟨fo, fco, fn, fcn, hv2⟩ := ho2.shape2
  subst hv2
  have F2 := Lib.hid ho2.at
  have B2 := Lib.hid (B1.out.trans (hb.mono B1.out.size))
  have T2 := Lib.hid (T1.out.below hb)
  obtain ⟨w3, hw3⟩ : ∃ y, y = w2.alloc (.cells #[.slice fo O.length fco, .slice fn es.length fcn] 30) := ⟨_, rfl⟩
  have HW3 := Lib.hid hw3
  have hb23 : Below w2.heap.size w2 w3 := by rw [hw3]; exact below1 _ _
  have R3 : Hid (Box2 w3 w2.heap.size 30 (.slice fo O.length fco) (.slice fn es.length fcn)) := by rw [hw3]; exact Box2.new _ _ _ _
  have F3 := Lib.hid (F2.out.below hb23)
  have B3 := Lib.hid (B2.out.trans (hb23.mono B2.out.size))
  have T3 := Lib.hid (T2.out.below hb23)
  clear ho2 hb hb23 HC F2 T2 c0 c1 c2
  have c0 := T3.out.c0
  have c1 := T3.out.c1
  have c2 := T3.out.c2
  rw [hw3] at c0 c1 c2
  clear hw3
  go_wp2_with fail
  rw [← HW3.out]
  refine (prios_is cS (HGm.out.below B3.out) (HSi.out.below B3.out) HSN.out (by have := HSL.out; omega)).mono ?_
  rintro e w4 ⟨x, rfl, hx, hb⟩
  obtain ⟨xa, xc, hxs, hxi, _⟩ := hx.shape
  subst hxs
  have X4 := Lib.hid hxi
  have B4 := Lib.hid (B3.out.trans (hb.mono B3.out.size))
  have T4 := Lib.hid (T3.out.below hb)
  have R4 := Lib.hid (R3.out.below hb)
  have F4 := Lib.hid (F3.out.below hb)
  clear hx hb hxi c0 c1 c2 T3 R3 F3 B3
  go_wp2_with fail
  refine (HDI.out w4 _ _ X4.out).mono ?_
  rintro e w5 ⟨x, rfl, hx, hb⟩
  obtain ⟨pa, pc, hxs, hxi, _⟩ := hx.shape
  subst hxs
  have P5 := Lib.hid hxi
  have B5 := Lib.hid (B4.out.trans (hb.mono B4.out.size))
  have T5 := Lib.hid (T4.out.below hb)
  have R5 := Lib.hid (R4.out.below hb)
  have F5 := Lib.hid (F4.out.below hb)
  have K5 := Lib.hid (Below.refl w5.heap.size w5)
  have O5 : Hid (w5.ownsRow w5.heap.size 2 1 (.slice none 0 0) (lostK O es P S ps who 0).length ((lostK O es P S ps who 0).map (Value.int .i64))) := by simpa [Hid, lostK, gatK] using World.ownsRow_nil w5 w5.heap.size 2 1
  clear hx hb hxi HDI X4 T4 R4 F4 B4
  go_wp2
  go_loopw [9, 25] (fun ov iv wr => ∃ (k : Nat) (uu : Value), uu = ov ∧ k ≤ ps.length ∧ iv = .int .i64 k ∧ Hid (wr.ownsRow w5.heap.size 2 1 ov (lostK O es P S ps who k).length ((lostK O es P S ps who k).map (Value.int .i64))) ∧ Hid (Below w5.heap.size w5 wr)) (fun _ iv _ => ps.length - (intOf iv).toNat)
  case atStart => exact ⟨0, _, rfl, Nat.zero_le _, rfl, O5, K5⟩
  case round =>
    clear O5 K5
    obtain ⟨k, uu, hu0, hk, rfl, HO, HK⟩ := hrel
    subst hu0
    obtain ⟨wq, hwq⟩ : ∃ x, x = wr := ⟨_, rfl⟩
    subst hwq
    have Bw := Lib.hid (B5.out.trans (HK.out.mono B5.out.size))
    have hll := HLL.out k hk
    have hSl := HSL.out
    have hpsl := HPSL.out
    by_cases hlt : k < ps.length
    · have hi1 : (k : Int) < ps.length := by omega
      have hk0 : (0 : Int) ≤ (k : Int) := by omega
      obtain ⟨qb, qo, hqa, hqc⟩ := (P5.out.below HK.out).cell (by omega)
      have q1 := hqc k hlt
      obtain ⟨pu, hpu, hpun, hp0, hp40, hS0⟩ := HPS.out k hlt
      obtain ⟨p, hp⟩ : ∃ p, p = nth ps k := ⟨_, rfl⟩
      rw [← hp] at q1 hp0 hp40
      have HPE := Lib.hid hp
      have HPP := Lib.hid (And.intro hp0 hp40)
      have HS0 := Lib.hid hS0
      have hstep : lostK O es P S ps who (k + 1) = lostK O es P S ps who k ++ (if p % 2 = who then [] else onceL P (loopsL O es (subL P S p)) p (loopsL O es (subL P S p)).length) := by rw [hp]; rfl
      have HST := Lib.hid hstep
      obtain ⟨wb, hwb⟩ : ∃ y, y = wq.alloc (.cells #[.int .i64 p] 2) := ⟨_, rfl⟩
      have HWB := Lib.hid hwb
      have hbb : Below wq.heap.size wq wb := by rw [hwb]; exact below1 _ _
      have hsb : wb.heap.size = wq.heap.size + 1 := by rw [hwb]; simp
      have HSB := Lib.hid hsb
      have PB : Hid (wb.cell? ⟨wq.heap.size, 0, none⟩ = some (.int .i64 p)) := by rw [hwb]; simp [Hid]
      have Kb := Lib.hid (HK.out.trans (hbb.mono HK.out.size))
      have hm1 := Int.tmod_eq_emod_of_nonneg (b := 2) hp0
      subst hqa
      by_cases hw : p % 2 = who
      · have hw1 : (p % 2 == who) = true := by simpa using hw
        have hw2 : (p.tmod 2 == who) = true := by rw [hm1]; exact hw1
        rw [if_pos hw, List.append_nil] at hstep
        have HOn : Hid (wb.ownsRow w5.heap.size 2 1 uu (lostK O es P S ps who (k + 1)).length ((lostK O es P S ps who (k + 1)).map (Value.int .i64))) := by
          rw [hstep]; exact ownsRow_only HO.out (S := fun _ => False) (Only.of_below hbb) (fun _ _ h => h)
        rw [hwb] at HOn Kb
        clear hqc hpu hp hw hm1 hstep hwb hbb hsb
        go_wp2
        go_roundw
        case rel => exact ⟨k + 1, _, rfl, by omega, by go_num, HOn, Kb⟩
        case measure => simp [intOf]; omega
      · have hw1 : (p % 2 == who) = false := beq_eq_false_iff_ne.2 hw
        have hw2 : (p.tmod 2 == who) = false := by rw [hm1]; exact hw1
        rw [if_neg hw] at hstep
        obtain ⟨R, hR⟩ : ∃ R, loopsL O es (subL P S p) = R := ⟨_, rfl⟩
        rw [hR] at hstep
        have HSTE := Lib.hid hstep
        have HRD := Lib.hid hR
        have Wb := Lib.hid (Bw.out.trans (hbb.mono Bw.out.size))
        have HOb : Hid (wb.ownsRow w5.heap.size 2 1 uu (lostK O es P S ps who k).length ((lostK O es P S ps who k).map (Value.int .i64))) := ownsRow_only HO.out (S := fun _ => False) (Only.of_below hbb) (fun _ _ h => h)
        have HUL : Hid (∀ g, uu.ownBlock = some g → w5.heap.size ≤ g ∧ g < wq.heap.size) := fun g hg => ⟨(HO.out.lt g hg).1, (HO.out.lt g hg).2⟩
        have Rb := Lib.hid (R5.out.below Kb.out)
        have Fb := Lib.hid (F5.out.below Kb.out)
        have Tb := Lib.hid (T5.out.below Kb.out)
        obtain ⟨pk, po, hpa, hpc⟩ := HPi.out.cell HP0.out.1
        have Hd : Hid (Below wb.heap.size wb wb.drew) := (Below.refl _ _).drew
        have HSv : Hid (∀ W, Below wb.heap.size wb W → W.cell? ⟨w2.heap.size, 0, none⟩ = some (.slice fo O.length fco) ∧ W.cell? ⟨w2.heap.size, 1, none⟩ = some (.slice fn es.length fcn)) := fun W hb => ⟨(Rb.out.below hb).cell0, (Rb.out.below hb).cell1⟩
        have HCl : Hid (Calls Tryz.prog 107 #[.slice aS S.length cS] wb.drew (GivesInts wb.drew S)) := Clone_is cS ((HSi.out.below Wb.out).below Hd.out)
        have HDel : Hid (∀ (W : World) (cg cc : Nat), Below wb.heap.size wb W → wb.heap.size ≤ cg → W.ownsRow wb.heap.size 2 1 (.slice (some ⟨cg, 0, none⟩) S.length cc) S.length (S.map (Value.int .i64)) → Calls Tryz.prog 136 #[.slice (some ⟨cg, 0, none⟩) S.length cc, .func (.func 134) #[] #[.pointer (some ⟨w.heap.size, 0, none⟩), .pointer (some ⟨wq.heap.size, 0, none⟩)]] W fun e w' =>
            e = .returned (.slice (some ⟨cg, 0, none⟩) (subL P S p).length cc) ∧ w'.ownsRow wb.heap.size 2 1 (.slice (some ⟨cg, 0, none⟩) (subL P S p).length cc) (subL P S p).length ((subL P S p).map (Value.int .i64)) ∧ Only (fun b => cg = b) W w') := fun W cg cc hb hcg hown => by
          have hh2 := (Tb.out.below hb).c2
          rw [hpa] at hh2
          have hwl : w.heap.size < wb.heap.size := Tb.out.lt
          have hlt2 := HSB.out
          have hpk : pk < w.heap.size := World.block_lt_of_cell? _ _ (hpc 0 HP0.out.1)
          exact DeleteFunc_is hown HSN.out HP0.out.1 (by omega) hh2 (Below.cell_some (B := 0) hb rfl PB.out) (fun v hv => by
            refine Below.cell_some (B := 0) (Wb.out.trans (hb.mono Wb.out.size)) rfl (hpc v hv)) (by omega) (by omega) (by omega)
        have HFS : Hid (∀ j, j < (subL P S p).length → Fits (nth (subL P S p) j)) := fun j hj => by
          have hs : ∀ x ∈ subL P S p, x ∈ S := fun x hx => (List.mem_filter.1 hx).1
          obtain ⟨u, hu, hun⟩ := HSN.out _ (hs _ (nth_mem hj))
          have := HP0.out.2
          rw [hu]; unfold Fits; omega
        have HSBL : Hid ((subL P S p).length ≤ 300) := Nat.le_trans (subL_len P S p) hSl
        have s0 := HSv.out _ Hd.out
        clear hqc hpu hp hw hm1 hstep hbb hsb hR hpc hpa
        rw [hwb] at s0
        clear hwb
        go_wp2
        rw [← HWB.out]
        rw [← HWB.out] at s0
        go_region_held3 (fun W => W.cell? ⟨w2.heap.size, 0, none⟩ = some (.slice fo O.length fco) ∧ W.cell? ⟨w2.heap.size, 1, none⟩ = some (.slice fn es.length fcn))
          (first
            | exact HSv.out _ Hd.out
            | exact HSv.out _ Kc.out
            | exact HSv.out _ Ke.out
            | exact HSv.out _ Kl.out
            | go_keep)
          (first
            | (go_at_call 135; refine (LoopsOf_is cc HRD.out (Fb.out.below Ke.out) IE.out).mono ?_; rintro e wl ⟨x, V, rfl, hx, hb⟩; obtain ⟨ra, rc, hrs, hrw, _⟩ := hx.shape; subst hrs; have OR := Lib.hid hx; have Kl := Lib.hid (Ke.out.trans (hb.mono Ke.out.size)); have HEL := Lib.hid Ke.out.size; have HSE : Hid (we.heap.size ≤ wl.heap.size) := hb.size; clear hx hb hrw)
            | (go_at_call 136; refine (HDel.out _ cg cc Kc.out HCG.out OC.out).mono ?_; rintro e we ⟨rfl, hown, ho⟩; have Ke := Lib.hid (Kc.out.trans (ho.below (B := wb.heap.size) Kc.out.size (fun b hb => by have := HCG.out; omega))); have IE := Lib.hid (own_at hown rfl (by have := HSBL.out; omega) HFS.out); clear hown ho)
            | (go_at_call 107; refine HCl.out.mono ?_; rintro e wc ⟨x, rfl, hx, hb⟩; obtain ⟨ca, cc, hxs, hxi, hxg⟩ := hx.shape; obtain ⟨cg, rfl, hg1, hg2, -, -⟩ := hxg HS0.out; subst hxs; have Kc := Lib.hid (Hd.out.trans (hb.mono Hd.out.size)); have HCG : Hid (wb.heap.size ≤ cg) := Nat.le_trans Hd.out.size hg1; have OC := Lib.hid (ownsRow_base hx.own Hd.out.size); clear hx hb hxi hxg hg1 hg2))
        have HIn : Hid (∀ W, Only (fun b => uu.ownBlock = some b ∨ wl.heap.size ≤ b) wl W → OwnRows W we.heap.size wl.heap.size (.slice ra R.length rc) V R ∧ W.cell? ⟨wq.heap.size, 0, none⟩ = some (.int .i64 p) ∧ Below w5.heap.size w5 W) := fun W ho => by
          have hz1 := HSB.out
          have hz2 := HEL.out
          refine ⟨OR.out.only ho (fun g hg hs => ?_) (fun j hj g hg hs => ?_), only_cell6 ho (fun hs => ?_) (Below.cell_some (B := 0) Kl.out rfl PB.out), ?_⟩
          · have h1 := OR.out.own.lt g hg
            rcases hs with hs | hs
            · have := (HUL.out g hs).2; omega
            · omega
          · have h1 := (OR.out.rows j hj).own.lt g hg
            rcases hs with hs | hs
            · have := (HUL.out g hs).2; omega
            · omega
          · rcases hs with hs | hs
            · have := (HUL.out _ hs).2
              exact absurd this (Nat.lt_irrefl _)
            · have := Kl.out.size
              have hs' : wl.heap.size ≤ wq.heap.size := hs
              omega
          · have hkl := Kb.out.trans (Kl.out.mono Kb.out.size)
            exact hkl.trans (ho.below (B := w5.heap.size) hkl.size (fun b hb => by
              rcases hb with hb | hb
              · exact (HUL.out b hb).1
              · have := hkl.size; omega))
        have Ol : Hid (wl.ownsRow w5.heap.size 2 1 uu (lostK O es P S ps who k ++ onceL P R p 0).length ((lostK O es P S ps who k ++ onceL P R p 0).map (Value.int .i64))) := by
          rw [show onceL P R p 0 = [] from rfl, List.append_nil]
          exact ownsRow_only HOb.out (S := fun _ => False) (Only.of_below Kl.out) (fun _ _ h => h)
        have HRL : Hid (∀ i, i < R.length → withV O zss P (row R i) p = withL P (row R i) p) := fun i hi => by
          unfold withV
          have h1 := loops_rows HAf.out (subL_set HSET.out) HRD.out i hi
          rw [if_pos (by unfold gameB; rw [HPAR.out, HPL.out, h1]; rfl)]
        have HRS : Hid (R.length ≤ 1048576) := by
          have h1 : R = loopsS es (subL P S p) := by rw [← HRD.out]; unfold loopsL; rw [if_pos ⟨HAf.out, subL_set HSET.out⟩]
          have h2 := loopsK_len (farF es (subL P S p)) (subL P S p) (subL P S p).length
          rw [h1]
          show (loopsK (farF es (subL P S p)) (subL P S p) (subL P S p).length).1.length ≤ 1048576
          have := HSBL.out
          omega
        have HLN : Hid (∀ i, i ≤ R.length → (lostK O es P S ps who k ++ onceL P R p i).length ≤ 300) := fun i hi => by
          have h1 := HLL.out (k + 1) (by omega)
          rw [HSTE.out, List.length_append] at h1
          rw [List.length_append]
          have h2 : (onceL P R p i).length ≤ (onceL P R p R.length).length := gatK_mono hi
          have := HSL.out
          omega
        clear s0 HCl HDel HSv OC IE HOb
        go_wp2
        go_loopw [9, 41] (fun ov iv wr2 => ∃ (i : Nat) (u2 : Value), u2 = ov ∧ i ≤ R.length ∧ iv = .int .i64 i ∧ Hid (wr2.ownsRow w5.heap.size 2 1 ov (lostK O es P S ps who k ++ onceL P R p i).length ((lostK O es P S ps who k ++ onceL P R p i).map (Value.int .i64))) ∧ Hid (∀ g, u2.ownBlock = some g → uu.ownBlock = some g ∨ wl.heap.size ≤ g) ∧ Hid (Only (fun b => uu.ownBlock = some b ∨ wl.heap.size ≤ b) wl wr2)) (fun _ iv _ => R.length - (intOf iv).toNat)
        case atStart => exact ⟨0, _, rfl, Nat.zero_le _, rfl, Ol, fun g hg => .inl hg, Only.refl _ _⟩
        case round =>
          clear Ol
          obtain ⟨i, u2, hu2, hi, rfl, HO2, HU2, HN2⟩ := hrel
          subst hu2
          have hin := HIn.out wr HN2.out
          have HR2 := Lib.hid hin.1
          have HB2 := Lib.hid hin.2.2
          have p1 := hin.2.1
          clear hin
          by_cases hlt2 : i < R.length
          · have hj1 : (i : Int) < R.length := by omega
            have hj0 : (0 : Int) ≤ (i : Int) := by omega
            obtain ⟨rb, rd, hrs, hrw, hrV⟩ := HR2.out.shape
            simp only [Value.slice.injEq, true_and] at hrs
            obtain ⟨rfl, rfl⟩ := hrs
            obtain ⟨nb, no, hna, hnc⟩ := hrw.cell (by omega)
            have n1 : wr.cell? ⟨nb, no + i, none⟩ = some (.slice (addrOf (V i)) (row R i).length (capOf (V i))) := hnc i hlt2
            have HRw := Lib.hid (hrw.rows i hlt2)
            have BW2 := Lib.hid (B5.out.trans (HB2.out.mono B5.out.size))
            have t0 := (T5.out.below HB2.out).c0
            have t1 := (T5.out.below HB2.out).c1
            have t2 := (T5.out.below HB2.out).c2
            obtain ⟨na, hn1⟩ : ∃ x, x = addrOf (V i) := ⟨_, rfl⟩
            obtain ⟨nc, hn2⟩ : ∃ x, x = capOf (V i) := ⟨_, rfl⟩
            have HRx : Hid (IntsAt wr na (row R i)) := by rw [hn1]; exact HRw.out
            rw [← hn1, ← hn2] at n1
            have HWP := Lib.hid (WithPrio_is nc (HRL.out i hlt2) (HGm.out.below BW2.out) HRx.out)
            clear hn1 hn2
            have hsz2 := HN2.out.size
            have hRS := HRS.out
            subst hna
            clear hnc hrw hrV
            go_wp2_with fail
            refine HWP.out.mono ?_
            rintro e w8 ⟨x, rfl, hx, hb⟩
            obtain ⟨ya, yc, hys, hyi, _⟩ := hx.shape
            subst hys
            have HO8 : Hid (w8.ownsRow w5.heap.size 2 1 u2 (lostK O es P S ps who k ++ onceL P R p i).length ((lostK O es P S ps who k ++ onceL P R p i).map (Value.int .i64))) := ownsRow_only HO2.out (S := fun _ => False) (Only.of_below hb) (fun _ _ h => h)
            have Y8 := Lib.hid hyi
            have hN8 : Only (fun b => uu.ownBlock = some b ∨ wl.heap.size ≤ b) wl w8 := HN2.out.trans (Only.of_below hb)
            have HN8 := Lib.hid hN8
            have hs8 := hb.size
            have hw5 := HB2.out.size
            have hnx := HLN.out (i + 1) (by omega)
            have honce : onceL P R p (i + 1) = onceL P R p i ++ withL P (row R i) p := rfl
            rw [honce, ← List.append_assoc, List.length_append] at hnx
            have HON := Lib.hid honce
            clear hx hb hyi hN8 t0 t1 t2 p1 n1 HWP honce
            go_wp2_with (at_builtin; refine wpList_append_any' rfl _ _ rfl w5.heap.size u2 _ _ rfl HO8.out ya (withL P (row R i) p) yc rfl Y8.out ?c1 ?c2 ?c3 ?_)
            case c1 => unfold maxLen; omega
            case c2 => omega
            case c3 => omega
            intro v' w9 hown hgrow hblk
            have hg : Only (fun b => uu.ownBlock = some b ∨ wl.heap.size ≤ b) w8 w9 := (Only.of_grown hgrow).mono fun b hb => HU2.out b hb
            have HN9 := Lib.hid (HN8.out.trans hg)
            have HO9 : Hid (w9.ownsRow w5.heap.size 2 1 v' (lostK O es P S ps who k ++ onceL P R p (i + 1)).length ((lostK O es P S ps who k ++ onceL P R p (i + 1)).map (Value.int .i64))) := by
              have e1 : (lostK O es P S ps who k ++ onceL P R p (i + 1)).length = (lostK O es P S ps who k).length + (onceL P R p i).length + (withL P (row R i) p).length := by rw [HON.out]; simp; omega
              have e2 : (lostK O es P S ps who k ++ onceL P R p (i + 1)).map (Value.int .i64) = (lostK O es P S ps who k).map (Value.int .i64) ++ ((onceL P R p i).map (Value.int .i64) ++ (withL P (row R i) p).map (Value.int .i64)) := by rw [HON.out]; simp
              unfold Hid
              rw [e1, e2]
              exact hown
            have HU9 : Hid (∀ g, v'.ownBlock = some g → uu.ownBlock = some g ∨ wl.heap.size ≤ g) := fun g hg => by
              rcases hblk with h | h
              · exact HU2.out g (by rw [← h]; exact hg)
              · rw [h] at hg
                have : w8.heap.size = g := Option.some.inj hg
                exact .inr (by omega)
            clear hown hgrow hblk hg
            go_wp2
            go_roundw
            case rel => exact ⟨i + 1, _, rfl, by omega, by go_num, HO9, HU9, HN9⟩
            case measure => simp [intOf]; omega
          · have hj1 : ¬ (i : Int) < R.length := by omega
            have hii : i = R.length := by omega
            rw [hii, ← HSTE.out] at HO2
            clear hii p1
            go_wp2
            go_roundw
            case rel => exact ⟨k + 1, _, rfl, by omega, by go_num, HO2, HB2⟩
            case measure => simp [intOf]; omega
    · have hi1 : ¬ (k : Int) < ps.length := by omega
      have hkk : k = ps.length := by omega
      rw [hkk] at HO
      have HSO := Lib.hid (sort_own HO.out (by rw [← hkk]; omega))
      rw [HLB.out] at HSO
      have hlen : (lostK O es P S ps who ps.length).length = L.length := by rw [← HLB.out, List.length_mergeSort]
      have HLEN := Lib.hid hlen
      have HLF : Hid (∀ j, j < L.length → Fits (nth L j)) := fun j hj => by
        have hm : nth L j ∈ lostK O es P S ps who ps.length := by
          have h1 := nth_mem hj
          rw [← HLB.out, List.mem_mergeSort] at h1
          rw [HLB.out] at h1
          exact h1
        unfold lostK at hm
        obtain ⟨i2, hi2, hx⟩ := gatK_mem.1 hm
        split at hx
        · simp at hx
        · obtain ⟨u, hu, hus, _⟩ := (once_mem HAf.out HSET.out rfl).1 hx
          obtain ⟨y, hy, hyn⟩ := HSN.out _ hus
          have := HP0.out.2
          rw [hu]; unfold Fits; omega
      have HKL : Hid (L.length ≤ 300) := by unfold Hid; rw [← hlen, ← hkk]; omega
      clear hlen
      have hshape : ∃ a c, uu = .slice a (lostK O es P S ps who ps.length).length c := by
        rcases HO.out.2 with ⟨hv, h0⟩ | ⟨g, cap, cur, hv, _⟩
        · exact ⟨none, 0, by rw [hv, h0]⟩
        · exact ⟨_, _, hv⟩
      obtain ⟨sa, sc, hss⟩ := hshape
      subst hss
      clear hkk
      go_wp2_with fail
      refine HSO.out.mono ?_
      rintro e w9 ⟨rfl, hown, ho⟩
      rw [HLEN.out] at hown
      have hfin := Lib.hid ((OwnInts.mk' (zs := L) hown (by have := HKL.out; omega) HLF.out).base (B' := w.heap.size) B5.out.size)
      have Kf := Lib.hid (B5.out.trans ((HK.out.trans (ho.below (B := w5.heap.size) HK.out.size (fun b hb => (HO.out.lt b hb).1))).mono B5.out.size))
      clear hown ho HO HSO
      go_wp2
      go_ret
      exact ⟨_, rfl, by first | exact hfin.out | (rw [← HLEN.out] at hfin; exact hfin.out), Kf.out⟩
end

end Go.Proofs.YtokcinhopajniaaGreatDoor
