/-
  Several texts in one: GameImpl, OddsImpl, MeasVal, AtMath, Region, Scale, LostW.
-/
import Derived.Deep.RegionHeld3
import Derived.Shelf.SlicesE.DeleteFunc
import Derived.Shelf.SlicesE.Reverse
import Derived.Lib.OwnBridge
import Derived.OrdersHeld
import Derived.OrdersIn
import Derived.RangeFuncCalls
import Derived.Test.YtihaajcmephlmaaPo00
import Derived.Test.YtihaajcmephlmaaPo01
import Derived.Test.YtihaajcmephlmaaPo02
import Derived.Test.YtihaajcmephlmaaPo04
namespace Go.Proofs.Ytihaajcmephlmaa
section
open Go.RowKit

theorem arenaSize_is {w : World} {va : Value} {O : List Int} {zss : List (List Int)} (h : ArenaAt w va O zss) :
    Calls Try.prog 61 #[va] w fun e w' => e = .returned (.int .i64 O.length) ∧ Below w.heap.size w w' := by
  obtain ⟨ao, an, co, cn, A, C, rfl, h1, h2⟩ := h
  exact (size_is ao an O.length zss.length co cn w h1.len).mono fun e w' ⟨he, hw⟩ => ⟨he, hw ▸ below1 _ _⟩

theorem min_ok {P : List Int} (hz : 0 < P.length) : 0 ≤ minN P (P.length - 1) ↔ ∀ x ∈ P, 0 ≤ x := by
  constructor
  · intro h x hx
    obtain ⟨k, hk, rfl⟩ := mem_nth.1 hx
    have := minN_le (zs := P) (k := P.length - 1) (j := k) (by omega)
    omega
  · intro h
    obtain ⟨j, hj, e⟩ := minN_at (zs := P) (P.length - 1)
    rw [← e]; exact h _ (nth_mem (by omega))
theorem max_ok {P : List Int} (hz : 0 < P.length) : maxN P (P.length - 1) ≤ 40 ↔ ∀ x ∈ P, x ≤ 40 := by
  constructor
  · intro h x hx
    obtain ⟨k, hk, rfl⟩ := mem_nth.1 hx
    have := maxN_ge (zs := P) (k := P.length - 1) (j := k) (by omega)
    omega
  · intro h
    obtain ⟨j, hj, e⟩ := maxN_at (zs := P) (P.length - 1)
    rw [← e]; exact h _ (nth_mem (by omega))

set_option maxHeartbeats 4000000 in
set_option maxRecDepth 100000 in
theorem ParityOk_is {w : World} {v : Value} {O : List Int} {zss : List (List Int)} {P : List Int} {r : Bool} (hr : parityB O zss P = r) (h : GameAt w v O zss P) :
    Calls Try.prog 77 #[v] w fun e w' => e = .returned (.bool r) ∧ Below w.heap.size w w' := by
  obtain ⟨ao, an, ap, co, cn, cp, A, C, rfl, h1, h2, h3⟩ := h
  have hlO := h1.len
  have hlP := h3.len
  have HP := Lib.hid h3
  obtain ⟨w1, hw1⟩ : ∃ y, y = w.alloc (.cells #[.slice ao O.length co, .slice an zss.length cn, .slice ap P.length cp] 32) := ⟨_, rfl⟩
  have HW1 := Lib.hid hw1
  have B1 : Hid (Below w.heap.size w w1) := by rw [hw1]; exact below1 _ _
  have T1 : Hid (Box3 w1 w.heap.size 32 (.slice ao O.length co) (.slice an zss.length cn) (.slice ap P.length cp)) := by rw [hw1]; exact Box3.new _ _ _ _ _
  have HA : Hid (ArenaAt w (.agg #[.slice ao O.length co, .slice an zss.length cn]) O zss) := ⟨_, _, _, _, _, _, rfl, h1, h2⟩
  clear h1 h2 h3 hw1
  have t0 := T1.out.c0
  have t1 := T1.out.c1
  have t2 := T1.out.c2
  have hd1 : Below w1.heap.size w1 w1.drew := (Below.refl _ _).drew
  have B1d := Lib.hid (B1.out.trans (hd1.mono B1.out.size))
  have T1d := Lib.hid (T1.out.below hd1)
  clear hd1
  cases hA : arenaB O zss with
  | false =>
    have HE : Hid (r = false) := by rw [← hr]; simp [parityB, hA, Hid]
    have HC := Lib.hid (ArenaOk_at hA (HA.out.below B1d.out))
    clear hA hr
    go_enter Try.func77, Try.ntmps77
    go_wp2_with fail
    rw [← HW1.out]
    first
      | go_region_law (first
          | (go_simp; go_at_call 103; refine HC.out.mono ?_; rintro e w2 ⟨rfl, hb⟩; have B2 := Lib.hid (B1d.out.trans (hb.mono B1d.out.size)); clear hb))
      | fail
    all_goals (
      go_wp2
      go_ret
      exact ⟨by rw [HE.out]; rfl, B2.out⟩)
  | true =>
    have HAP := Lib.hid (arenaB_iff.1 hA)
    have HC := Lib.hid (ArenaOk_at hA (HA.out.below B1d.out))
    by_cases hl : P.length = O.length
    · have hn0 : 0 < P.length := by have := HAP.out.1; omega
      have hne : ((P.length : Int) != (O.length : Int)) = false := by simp; omega
      have HR : Hid (priosB P = r) := by rw [← hr]; simp [parityB, hA, hl, Hid]
      have hmn := min_ok hn0
      have hmx := max_ok hn0
      obtain ⟨mn, hmnE⟩ : ∃ m, minN P (P.length - 1) = m := ⟨_, rfl⟩
      obtain ⟨mx, hmxE⟩ : ∃ m, maxN P (P.length - 1) = m := ⟨_, rfl⟩
      rw [hmnE] at hmn
      rw [hmxE] at hmx
      have HMN := Lib.hid hmn
      have HMX := Lib.hid hmx
      have HMNE := Lib.hid hmnE
      have HMXE := Lib.hid hmxE
      have HL := Lib.hid hl
      have HN0 := Lib.hid hn0
      clear hA hr hl hmn hmx hmnE hmxE hn0
      go_enter Try.func77, Try.ntmps77
      go_wp2_with fail
      rw [← HW1.out]
      go_region_held3 (fun w' => w'.cell? ⟨w.heap.size, 0, none⟩ = some (.slice ao O.length co) ∧ w'.cell? ⟨w.heap.size, 1, none⟩ = some (.slice an zss.length cn) ∧ w'.cell? ⟨w.heap.size, 2, none⟩ = some (.slice ap P.length cp))
        (first
          | go_keep
          | exact ⟨e0, e1, e2⟩
          | exact ⟨f0, f1, f2⟩)
        (first
          | (go_at_call 103; refine HC.out.mono ?_; rintro e w2 ⟨rfl, hb⟩; have B2 := Lib.hid (B1d.out.trans (hb.mono B1d.out.size)); have T2 := Lib.hid (T1d.out.below hb); have e0 := T2.out.c0; have e1 := T2.out.c1; have e2 := T2.out.c2; clear hb)
          | (go_at_call 61; refine (arenaSize_is (HA.out.below B2.out)).mono ?_; rintro e w3 ⟨rfl, hb⟩; have B3 := Lib.hid (B2.out.trans (hb.mono B2.out.size)); have T3 := Lib.hid (T2.out.below hb); have f0 := T3.out.c0; have f1 := T3.out.c1; have f2 := T3.out.c2; clear hb))
      all_goals (
        clear e0 e1 e2 t0 t1 t2
        have HMinC := Lib.hid (Min_is cp HMNE.out (HP.out.below B3.out) HN0.out)
        have HMaxC := Lib.hid (fun W hb => Max_is (w := W) cp HMXE.out (HP.out.below hb) HN0.out)
        go_wp2_with fail
        refine HMinC.out.mono ?_
        rintro e w4 ⟨rfl, rfl⟩
        clear HMinC
        by_cases h0 : 0 ≤ mn
        · have HE : Hid (decide (mx ≤ 40) = r) := by
            rw [← HR.out]
            unfold priosB Hid
            rw [decide_eq_decide]
            constructor
            · intro h x hx; exact ⟨HMN.out.1 h0 x hx, HMX.out.1 h x hx⟩
            · intro h; exact HMX.out.2 fun x hx => (h x hx).2
          go_wp2_with fail
          refine (HMaxC.out _ B3.out).mono ?_
          rintro e w5 ⟨rfl, rfl⟩
          clear HMaxC
          go_wp2
          go_ret
          exact ⟨ret_bool HE.out, B3.out⟩
        · have HE : Hid (r = false) := by
            rw [← HR.out]
            unfold priosB Hid
            refine decide_eq_false fun h => h0 (HMN.out.2 fun x hx => (h x hx).1)
          have h1 : ¬ 0 ≤ mn := h0
          go_wp2
          go_ret
          exact ⟨by rw [HE.out]; rfl, B3.out⟩)
    · have hne : ((P.length : Int) != (O.length : Int)) = true := by simp; omega
      have HE : Hid (r = false) := by rw [← hr]; simp [parityB, hl, Hid]
      clear hA hr hl
      go_enter Try.func77, Try.ntmps77
      go_wp2_with fail
      rw [← HW1.out]
      go_region_held3 (fun w' => w'.cell? ⟨w.heap.size, 0, none⟩ = some (.slice ao O.length co) ∧ w'.cell? ⟨w.heap.size, 1, none⟩ = some (.slice an zss.length cn) ∧ w'.cell? ⟨w.heap.size, 2, none⟩ = some (.slice ap P.length cp))
        (first
          | go_keep
          | exact ⟨e0, e1, e2⟩
          | exact ⟨f0, f1, f2⟩)
        (first
          | (go_at_call 103; refine HC.out.mono ?_; rintro e w2 ⟨rfl, hb⟩; have B2 := Lib.hid (B1d.out.trans (hb.mono B1d.out.size)); have T2 := Lib.hid (T1d.out.below hb); have e0 := T2.out.c0; have e1 := T2.out.c1; have e2 := T2.out.c2; clear hb)
          | (go_at_call 61; refine (arenaSize_is (HA.out.below B2.out)).mono ?_; rintro e w3 ⟨rfl, hb⟩; have B3 := Lib.hid (B2.out.trans (hb.mono B2.out.size)); have T3 := Lib.hid (T2.out.below hb); have f0 := T3.out.c0; have f1 := T3.out.c1; have f2 := T3.out.c2; clear hb))
      all_goals (
        clear e0 e1 e2 t0 t1 t2
        go_wp2
        go_ret
        exact ⟨by rw [HE.out]; rfl, B3.out⟩)
end

section
open Go.RowKit

theorem pickP_nth {P S : List Int} {k : Nat} (h : k < S.length) : nth (pickP P S) k = nth P (nth S k).toNat := by
  unfold pickP
  rw [nth_eq (by simpa using h), List.getElem_map, nth_eq h]
theorem pickP_mem {P S : List Int} (hin : ∀ x ∈ S, ∃ u : Nat, x = (u : Int) ∧ u < P.length) : ∀ x ∈ pickP P S, x ∈ P := fun x hx => by
  obtain ⟨k, hk, e⟩ := mem_nth.1 hx
  rw [pickP_len] at hk
  rw [pickP_nth hk] at e
  obtain ⟨u, hu, hup⟩ := hin _ (nth_mem hk)
  rw [hu, Int.toNat_natCast] at e
  rw [← e]; exact nth_mem hup

/-- The greatest of the priorities. -/
theorem top_max {P In : List Int} (hin : ∀ x ∈ In, ∃ u : Nat, x = (u : Int) ∧ u < P.length) (h0 : ∀ x ∈ P, 0 ≤ x ∧ x ≤ 40) (hz : 0 < In.length) : topK P In In.length = maxN (pickP P In) ((pickP P In).length - 1) := by
  rw [pickP_len]
  have h1 : maxN (pickP P In) (In.length - 1) ≤ topK P In In.length := by
    obtain ⟨j, hj, e⟩ := maxN_at (zs := pickP P In) (In.length - 1)
    rw [pickP_nth (by omega)] at e
    rw [← e]; exact topK_ge (by omega)
  have hm0 : 0 ≤ maxN (pickP P In) (In.length - 1) := by
    obtain ⟨j, hj, e⟩ := maxN_at (zs := pickP P In) (In.length - 1)
    rw [← e]
    exact (h0 _ (pickP_mem hin _ (nth_mem (by rw [pickP_len]; omega)))).1
  rcases topK_at (P := P) (In := In) In.length with h | ⟨j, hj, h⟩
  · omega
  · have := maxN_ge (zs := pickP P In) (k := In.length - 1) (j := j) (by omega)
    rw [pickP_nth hj, h] at this
    omega
/-- The different priorities. -/
theorem prios_dist {P In : List Int} : priosK P In In.length = distL (pickP P In) := by
  have h1 : ∀ k, (priosK P In k).Pairwise (· < ·) := fun k => by
    induction k with
    | zero => simp [priosK]
    | succ k ih => rw [priosK]; exact intoL_rising _ _ ih
  have h2 : ∀ x k, (x ∈ priosK P In k ↔ ∃ j, j < k ∧ nth P (nth In j).toNat = x) := fun x k => by
    induction k with
    | zero => simp [priosK]
    | succ k ih =>
      rw [priosK, intoL_mem, ih]
      constructor
      · rintro (⟨j, hj, e⟩ | e)
        · exact ⟨j, by omega, e⟩
        · exact ⟨k, by omega, e.symm⟩
      · rintro ⟨j, hj, e⟩
        by_cases h : j = k
        · subst h; exact .inr e.symm
        · exact .inl ⟨j, by omega, e⟩
  refine rising_ext (h1 _) (distL_spec _).1 fun x => ?_
  rw [h2, (distL_spec _).2, mem_nth]
  constructor
  · rintro ⟨j, hj, e⟩; exact ⟨j, by rw [pickP_len]; exact hj, by rw [pickP_nth hj]; exact e⟩
  · rintro ⟨j, hj, e⟩; rw [pickP_len] at hj; exact ⟨j, hj, by rw [pickP_nth hj] at e; exact e⟩

theorem game_len {O : List Int} {zss : List (List Int)} {P In : List Int} (h : gameB O zss P In = true) : In.length ≤ 256 ∧ P.length ≤ 256 := by
  have hg := gameB_yes h
  have h1 := hg.1.2.1
  have h2 := hg.2.1
  have h3 := setB_len (by omega) hg.2.2.2.1
  omega

end

section
open Go.RowKit

theorem same_game {O O' : List Int} {zss zss' : List (List Int)} {P P' : List Int} (hp : parityB O zss P = true) : samePB O zss P O' zss' P' = (sameB O zss O' zss' && decide (P = P')) := by
  unfold samePB
  rw [hp]
  cases hs : sameB O zss O' zss' with
  | false => simp
  | true =>
    by_cases h : P = P'
    · subst h
      have h' : ArenaP O zss ∧ ArenaP O' zss' ∧ O = O' ∧ zss = zss' := by simpa [sameB] using hs
      obtain ⟨_, _, rfl, rfl⟩ := h'
      rw [hp]; rfl
    · simp [h]

end

section
open Go.RowKit

end

section
open Go.RowKit

/-- The last priority that was given, when k of the rising priorities have been passed; 0 before. -/
def lastK (ps : List Int) : Nat → Int
  | 0 => 0
  | k + 1 => pStep (lastK ps k) (nth ps k)
theorem last_num (ps : List Int) : ∀ k, lastK ps (k + 1) = numF ps k
  | 0 => by
    rw [num_zero]
    show pStep 0 (nth ps 0) = _
    unfold pStep
    split <;> omega
  | k + 1 => by
    rw [num_step, ← last_num ps k]; rfl
theorem last_bound (ps : List Int) : ∀ k, 0 ≤ lastK ps k ∧ lastK ps k ≤ k
  | 0 => by simp [lastK]
  | k + 1 => by
    have := last_bound ps k
    rw [lastK, pStep]
    split <;> omega
/-- What each priority becomes, when k of the rising priorities have been passed. -/
def becF (ps : List Int) : Nat → Nat → Int
  | 0, _ => 0
  | k + 1, x => if x = (nth ps k).toNat then lastK ps (k + 1) else becF ps k x
theorem becF_at {ps : List Int} (hr : ps.Pairwise (· < ·)) (h0 : ∀ i, i < ps.length → 0 ≤ nth ps i) {i : Nat} (hi : i < ps.length) : ∀ k, k ≤ ps.length → i < k → becF ps k (nth ps i).toNat = numF ps i
  | 0, _, h => absurd h (Nat.not_lt_zero _)
  | k + 1, hk, h => by
    rw [becF]
    by_cases e : i = k
    · subst e; rw [if_pos rfl, last_num]
    · have h1 := h0 i hi
      have h2 := h0 k (by omega)
      rw [if_neg (fun hh => e (rising_inj hr hi (by omega) (by omega))), becF_at hr h0 hi k (by omega) (by omega)]
/-- What the vertices' priorities become. -/
theorem becF_press {P : List Int} (h : ∀ x ∈ P, 0 ≤ x ∧ x ≤ 40) {v : Nat} (hv : v < P.length) : becF (allP P) (allP P).length (nth P v).toNat = nth (pressL P) v := by
  obtain ⟨i, hi, e⟩ := allP_at hv
  rw [pressL_at hv hi e, e]
  exact becF_at (allP_rising P) (allP_pos h) hi _ (Nat.le_refl _) hi
theorem dist_all (P : List Int) : distL P = allP P :=
  rising_ext (distL_spec P).1 (allP_rising P) fun x => by rw [(distL_spec P).2, allP_mem]

def numsF (f : Nat → Int) : Nat → Value := fun i => .int .i64 (f i)
theorem numsF_set {w : World} {b n v : Nat} {t : TypeId} {f : Nat → Int} {x : Int} (h : w.rowIs b t n (numsF f)) : (w.setCell ⟨b, v, none⟩ (.int .i64 x)).rowIs b t n (numsF fun i => if i = v then x else f i) :=
  World.rowIs.congr (h.set v (.int .i64 x)) fun i _ => by
    unfold numsF
    by_cases e : i = v <;> simp [e]
end

end Go.Proofs.Ytihaajcmephlmaa
namespace Go.Proofs.Ytihaajcmephlmaa
section
open Go.Shelf
def dropLays_ren : Go.Shelf.Ren := ⟨fun | 10 => 90 | 6 => 95 | n => n, fun | 22 => 27 | 23 => 2 | 25 => 80 | 3 => 3 | 4 => 4 | 0 => 0 | n => n, fun | n => n⟩
theorem dropLays : Go.Proofs.SlLaysH.n10 Try.prog dropLays_ren := {
  mixed := by kernel_rfl
  f6 := ⟨Try.f95.name, by decide, Try.func95.trans (congrArg some (by kernel_rfl))⟩
  f10 := ⟨Try.f90.name, by decide, Try.func90.trans (congrArg some (by kernel_rfl))⟩
  t0 := Try.underlying0
  a0 := Try.isAgg0
  z0 := Try.sizeOf0
  v0 := Try.zeroValue0
  t3 := Try.underlying3
  a3 := Try.isAgg3
  z3 := Try.sizeOf3
  v3 := Try.zeroValue3
  t4 := Try.underlying4
  a4 := Try.isAgg4
  z4 := Try.sizeOf4
  v4 := Try.zeroValue4
  t22 := Try.underlying27
  a22 := Try.isAgg27
  z22 := Try.sizeOf27
  v22 := Try.zeroValue27
  a23 := Try.isAgg2
  z23 := Try.sizeOf2
  t25 := Try.underlying80
  a25 := Try.isAgg80
  z25 := Try.sizeOf80
  v25 := Try.zeroValue80 }
end

section
open Go.RowKit Go.Shelf Go.Lib Go.Sort

theorem holds_int {w : World} {g : Nat} {cur : Array Value} {e : TypeId} {ss : List Int} (hb : w.heap[g]? = some (.cells cur e (0, 0))) (ht : cur.toList.take ss.length = ss.map (Value.int .i64)) : Holds (Value.int .i64) w g 0 ss.toArray := by
  intro j hj
  have hj' : j < ss.length := by simpa using hj
  refine ⟨?_, by simp [World.frozen?, hb]⟩
  have h1 : (cur.toList.take ss.length)[j]? = (ss.map (Value.int .i64))[j]? := by rw [ht]
  rw [List.getElem?_take_of_lt hj'] at h1
  simp only [World.cell?, hb, Nat.zero_add]
  simp only [Option.isSome_none, Bool.false_eq_true, if_false]
  rw [← Array.getElem?_toList, h1]
  simp [hj']
theorem own_holds {w : World} {B g n cap : Nat} {S : List Int} (hn : n = S.length) (h : w.ownsRow B 2 1 (.slice (some ⟨g, 0, none⟩) n cap) n (S.map (Value.int .i64))) : Holds (Value.int .i64) w g 0 S.toArray ∧ n ≤ cap := by
  subst hn
  rcases h.2 with ⟨e0, _⟩ | ⟨g', cap', cur, e0, hb, hg, hn, hm', hcs, ht⟩
  · cases e0
  · injection e0 with e1 _ e3
    injection e1 with e1
    injection e1 with e1
    subst e1
    exact ⟨holds_int hg (by simpa using ht), by omega⟩
theorem put_only {w : World} {g q : Nat} {ys : List Int} : Only (fun b => g = b) w (putRow (Value.int .i64) (Sort.ahead w q) g 0 ys.toArray) := by
  refine ⟨rfl, rfl, rfl, by simp [putRow, mapBlock, Sort.ahead], fun k hk hne => ?_⟩
  simp [putRow, mapBlock, Sort.ahead, Array.getElem?_modify, hne]

theorem info_dropInt : ∀ w, (zeroValue (dropLays_ren.t 23)).run Try.prog w = .ok (.int .i64 0) w := Try.zeroValue2

end

section
open Go.RowKit Go.Shelf

set_option maxHeartbeats 4000000 in
theorem isSmall_is {w : World} {v : Value} {O : List Int} {zss : List (List Int)} {P : List Int} {r : Bool} (hr : smallB O zss P = r) (h : GameAt w v O zss P) :
    Calls Try.prog 48 #[v] w fun e w' => e = .returned (.bool r) ∧ Below w.heap.size w w' := by
  have HGm := Lib.hid h
  obtain ⟨ao, an, ap, co, cn, cp, A, C, rfl, h1, h2, h3⟩ := h
  have hlO := h1.len
  obtain ⟨w1, hw1⟩ : ∃ y, y = w.alloc (.cells #[.slice ao O.length co, .slice an zss.length cn, .slice ap P.length cp] 32) := ⟨_, rfl⟩
  have HW1 := Lib.hid hw1
  have B1 : Hid (Below w.heap.size w w1) := by rw [hw1]; exact below1 _ _
  have T1 : Hid (Box3 w1 w.heap.size 32 (.slice ao O.length co) (.slice an zss.length cn) (.slice ap P.length cp)) := by rw [hw1]; exact Box3.new _ _ _ _ _
  have t0 := T1.out.c0
  have t1 := T1.out.c1
  have t2 := T1.out.c2
  obtain ⟨w2, hw2⟩ : ∃ y, y = w1.alloc (.cells #[.slice ao O.length co, .slice an zss.length cn] 30) := ⟨_, rfl⟩
  have HZ : Hid (Calls Try.prog 61 #[.agg #[.slice ao O.length co, .slice an zss.length cn]] w1 fun e w' => e = .returned (.int .i64 O.length) ∧ w2 = w') := by rw [hw2]; exact size_is ao an O.length zss.length co cn w1 hlO
  have hb2 : Below w1.heap.size w1 w2 := by rw [hw2]; exact below1 _ _
  have B2 := Lib.hid (B1.out.trans (hb2.mono B1.out.size))
  have T2 := Lib.hid (T1.out.below hb2)
  have HC := Lib.hid (ParityOk_is rfl (HGm.out.below B2.out))
  have HR : Hid ((decide (O.length ≤ 12) && parityB O zss P) = r) := by rw [← smallB_own]; exact hr
  clear hw1 h1 h2 h3 hb2 hw2 hr hlO
  go_enter Try.func48, Try.ntmps48
  go_wp2_with fail
  rw [← HW1.out]
  go_wp2_with fail
  refine HZ.out.mono ?_
  rintro e w3 ⟨rfl, rfl⟩
  clear t0 t1 t2 HZ
  have t0 := T2.out.c0
  have t1 := T2.out.c1
  have t2 := T2.out.c2
  by_cases hlt : O.length ≤ 12
  · have hlt1 : (O.length : Int) ≤ 12 := by omega
    have HE : Hid (r = parityB O zss P) := by have := HR.out; rw [decide_eq_true hlt] at this; exact this.symm
    go_wp2_with fail
    refine HC.out.mono ?_
    rintro e w4 ⟨rfl, hb⟩
    have B4 := Lib.hid (B2.out.trans (hb.mono B2.out.size))
    clear hb HC t0 t1 t2
    go_wp2
    go_ret
    exact ⟨ret_bool HE.out.symm, B4.out⟩
  · have hlt1 : ¬ (O.length : Int) ≤ 12 := by omega
    have HE : Hid (r = false) := by have := HR.out; rw [decide_eq_false hlt] at this; exact this.symm
    clear HC
    go_wp2
    go_ret
    exact ⟨ret_bool HE.out.symm, B2.out⟩

end
end Go.Proofs.Ytihaajcmephlmaa
namespace Go.Proofs.Ytihaajcmephlmaa
section

/-- How many of the first k vertices have a priority. -/
def manyK (P : List Int) (p : Int) (k : Nat) : Int := (((P.take k).filter fun x => decide (x = p)).length : Int)
theorem manyK_zero (P : List Int) (p : Int) : manyK P p 0 = 0 := rfl
theorem manyK_succ {P : List Int} {p : Int} {k : Nat} (hk : k < P.length) : manyK P p (k + 1) = manyK P p k + (if nth P k = p then 1 else 0) := by
  unfold manyK
  rw [take_next hk, List.filter_append, List.length_append]
  by_cases h : nth P k = p
  · rw [if_pos h]; simp [h]
  · rw [if_neg h]; simp [h]
theorem manyK_le (P : List Int) (p : Int) (k : Nat) : 0 ≤ manyK P p k ∧ manyK P p k ≤ k ∧ manyK P p k ≤ P.length := by
  unfold manyK
  have h1 : ((P.take k).filter fun x => decide (x = p)).length ≤ (P.take k).length := List.length_filter_le _ _
  have h2 : (P.take k).length ≤ k := by simp; omega
  have h3 : (P.take k).length ≤ P.length := by simp; omega
  omega
/-- How many vertices have a priority. -/
def manyL (P : List Int) (p : Int) : Int := manyK P p P.length

/-- The greatest numbers by place, over the first k vertices. -/
def mostK (P : List Int) (k : Nat) : List Int := 0 :: (oddsL P).map fun p => manyK P p k
def mostL (P : List Int) : List Int := mostK P P.length
theorem mostK_len (P : List Int) (k : Nat) : (mostK P k).length = (oddsL P).length + 1 := by unfold mostK; simp
theorem mostK_at {P : List Int} {k i : Nat} (hi : i < (oddsL P).length) : nth (mostK P k) (i + 1) = manyK P (nth (oddsL P) i) k := by
  unfold mostK nth
  simp [hi]
theorem mostK_top {P : List Int} {k : Nat} : nth (mostK P k) 0 = 0 := rfl
theorem mostK_off {P : List Int} {k i : Nat} (hi : (oddsL P).length < i) : nth (mostK P k) i = 0 := by
  have h := mostK_len P k
  unfold nth
  rw [List.getD_eq_getElem?_getD, List.getElem?_eq_none (by omega)]
  rfl
theorem mostK_start (P : List Int) (i : Nat) : nth (mostK P 0) i = 0 := by
  by_cases h : (oddsL P).length < i
  · exact mostK_off h
  · cases i with
    | zero => rfl
    | succ i => rw [mostK_at (by omega)]; exact manyK_zero _ _
theorem odds_inj {P : List Int} {i j : Nat} (hi : i < (oddsL P).length) (hj : j < (oddsL P).length) (h : nth (oddsL P) i = nth (oddsL P) j) : i = j := by
  have hp := List.pairwise_iff_getElem.1 (odds_down P)
  rw [nth_eq hi, nth_eq hj] at h
  rcases Nat.lt_trichotomy i j with h1 | h1 | h1
  · have := hp i j hi hj h1; omega
  · exact h1
  · have := hp j i hj hi h1; omega
theorem mostK_hit {P : List Int} {k i : Nat} (hk : k < P.length) (hi : i < (oddsL P).length) (h : nth (oddsL P) i = nth P k) (j : Nat) : nth (mostK P (k + 1)) j = if j = i + 1 then nth (mostK P k) j + 1 else nth (mostK P k) j := by
  by_cases h1 : (oddsL P).length < j
  · rw [mostK_off h1, mostK_off h1, if_neg (by omega)]
  · cases j with
    | zero => rw [if_neg (by omega)]; rfl
    | succ j =>
      rw [mostK_at (by omega), mostK_at (by omega), manyK_succ hk]
      by_cases e : j = i
      · subst e
        rw [if_pos h.symm, if_pos rfl]
      · rw [if_neg (fun h2 => e (odds_inj (by omega) hi (by rw [h, h2]))), if_neg (by omega)]
        omega
theorem mostK_miss {P : List Int} {k : Nat} (hk : k < P.length) (h : nth P k ∉ oddsL P) (j : Nat) : nth (mostK P (k + 1)) j = nth (mostK P k) j := by
  by_cases h1 : (oddsL P).length < j
  · rw [mostK_off h1, mostK_off h1]
  · cases j with
    | zero => rfl
    | succ j =>
      rw [mostK_at (by omega), mostK_at (by omega), manyK_succ hk, if_neg (fun h2 => h (by rw [h2]; exact nth_mem (by omega)))]
      omega
theorem mostK_le (P : List Int) (k i : Nat) : 0 ≤ nth (mostK P k) i ∧ nth (mostK P k) i ≤ k := by
  by_cases h1 : (oddsL P).length < i
  · rw [mostK_off h1]; omega
  · cases i with
    | zero => rw [mostK_top]; omega
    | succ i => rw [mostK_at (by omega)]; have := manyK_le P (nth (oddsL P) i) k; omega

/-- Are the first k numbers of a list from 0 to the greatest ones? -/
def withinB (P m : List Int) (k : Nat) : Bool := (List.range k).all fun i => decide (0 ≤ nth m i ∧ nth m i ≤ nth (mostL P) i)
theorem withinB_iff {P m : List Int} {k : Nat} : withinB P m k = true ↔ ∀ i, i < k → 0 ≤ nth m i ∧ nth m i ≤ nth (mostL P) i := by
  unfold withinB
  rw [List.all_eq_true]
  constructor
  · intro h i hi
    exact of_decide_eq_true (h i (List.mem_range.2 hi))
  · intro h i hi
    exact decide_eq_true (h i (List.mem_range.1 hi))
/-- Is a list a measure? -/
def goodB (P m : List Int) : Bool := decide (m = [1]) || (decide (m.length = (oddsL P).length + 1) && withinB P m m.length)
theorem goodB_iff {P m : List Int} : goodB P m = true ↔ m = [1] ∨ (m.length = (oddsL P).length + 1 ∧ ∀ i, i < m.length → 0 ≤ nth m i ∧ nth m i ≤ nth (mostL P) i) := by
  unfold goodB
  rw [Bool.or_eq_true, Bool.and_eq_true, decide_eq_true_eq, decide_eq_true_eq, withinB_iff]
theorem inB_iff {x lo hi : Int} : inB x lo hi = true ↔ lo ≤ x ∧ x ≤ hi := by unfold inB; rw [decide_eq_true_eq]
theorem one_iff {m : List Int} : m = [1] ↔ m.length = 1 ∧ nth m 0 = 1 := by
  constructor
  · rintro rfl; exact ⟨rfl, rfl⟩
  · rintro ⟨h1, h2⟩
    obtain ⟨x, rfl⟩ := List.length_eq_one_iff.1 h1
    have : x = 1 := h2
    rw [this]
/-- What MeasureOk answers. -/
noncomputable def measB (O : List Int) (zss : List (List Int)) (P m : List Int) : Bool := smallB O zss P && goodB P m
end
end Go.Proofs.Ytihaajcmephlmaa
namespace Go.Proofs.Ytihaajcmephlmaa
section

/-- The comparison of n numbers from place i on. -/
def cmpF (a b : List Int) : Nat → Nat → Int
  | _, 0 => 0
  | i, n + 1 => if nth a i < nth b i then -1 else if nth b i < nth a i then 1 else cmpF a b (i + 1) n
theorem cmpF_skip {a b : List Int} : ∀ {k i n : Nat}, (∀ j, i ≤ j → j < i + k → nth a j = nth b j) → cmpF a b i (k + n) = cmpF a b (i + k) n
  | 0, i, n, _ => by rw [Nat.zero_add, Nat.add_zero]
  | k + 1, i, n, h => by
    have h0 := h i (Nat.le_refl _) (by omega)
    rw [show k + 1 + n = (k + n) + 1 by omega, cmpF, if_neg (by omega), if_neg (by omega), cmpF_skip (fun j h1 h2 => h j (by omega) (by omega)), show i + 1 + k = i + (k + 1) by omega]
theorem cmpF_at {a b : List Int} {k : Nat} (hk : k < 13) (h : ∀ j, j < k → nth a j = nth b j) : cmpF a b 0 13 = if nth a k < nth b k then -1 else if nth b k < nth a k then 1 else cmpF a b (k + 1) (13 - k - 1) := by
  have h1 := cmpF_skip (a := a) (b := b) (k := k) (i := 0) (n := 13 - k) (fun j _ hj => h j (by omega))
  rw [show k + (13 - k) = 13 by omega, Nat.zero_add] at h1
  rw [h1, show 13 - k = (13 - k - 1) + 1 by omega, cmpF]
  rfl
theorem cmpF_end {a b : List Int} (h : ∀ j, j < 13 → nth a j = nth b j) : cmpF a b 0 13 = 0 := by
  have h1 := cmpF_skip (a := a) (b := b) (k := 13) (i := 0) (n := 0) (fun j _ hj => h j (by omega))
  rw [h1]; rfl
theorem cmpF_neg {a b : List Int} : ∀ {n i : Nat}, cmpF a b i n < 0 ↔ ∃ k, i ≤ k ∧ k < i + n ∧ (∀ j, i ≤ j → j < k → nth a j = nth b j) ∧ nth a k < nth b k
  | 0, i => by
    constructor
    · intro h; simp [cmpF] at h
    · rintro ⟨k, h1, h2, _⟩; omega
  | n + 1, i => by
    rw [cmpF]
    by_cases h1 : nth a i < nth b i
    · rw [if_pos h1]
      exact ⟨fun _ => ⟨i, Nat.le_refl _, by omega, fun j h2 h3 => by omega, h1⟩, fun _ => by omega⟩
    · rw [if_neg h1]
      by_cases h2 : nth b i < nth a i
      · rw [if_pos h2]
        constructor
        · intro h; omega
        · rintro ⟨k, hk1, hk2, hk3, hk4⟩
          by_cases e : k = i
          · subst e; omega
          · have := hk3 i (Nat.le_refl _) (by omega); omega
      · rw [if_neg h2, cmpF_neg]
        constructor
        · rintro ⟨k, hk1, hk2, hk3, hk4⟩
          refine ⟨k, by omega, by omega, fun j hj1 hj2 => ?_, hk4⟩
          by_cases e : j = i
          · subst e; omega
          · exact hk3 j (by omega) hj2
        · rintro ⟨k, hk1, hk2, hk3, hk4⟩
          by_cases e : k = i
          · subst e; omega
          · exact ⟨k, by omega, by omega, fun j hj1 hj2 => hk3 j (by omega) hj2, hk4⟩

/-- How many numbers the comparison from p on considers. -/
def placesL (P : List Int) (p : Int) : Nat := 1 + ((oddsL P).filter fun x => decide (p ≤ x)).length
theorem falls_filter {p : Int} : ∀ {L : List Int}, L.Pairwise (· > ·) → ∀ j, j < L.length → (j < (L.filter fun x => decide (p ≤ x)).length ↔ p ≤ nth L j)
  | [], _, j, hj => by simp at hj
  | x :: L, h, j, hj => by
    obtain ⟨h1, h2⟩ := List.pairwise_cons.1 h
    by_cases hp : p ≤ x
    · rw [List.filter_cons_of_pos (by simpa using hp)]
      cases j with
      | zero => exact ⟨fun _ => hp, fun _ => by simp⟩
      | succ j =>
        have hj' : j < L.length := by simpa using hj
        have := falls_filter (p := p) h2 j hj'
        rw [show nth (x :: L) (j + 1) = nth L j from rfl, ← this]
        simp
    · have h0 : (L.filter fun x => decide (p ≤ x)) = [] := List.filter_eq_nil_iff.2 fun y hy => by have := h1 y hy; simp; omega
      rw [List.filter_cons_of_neg (by simpa using hp), h0]
      constructor
      · intro hh; simp at hh
      · intro hh
        exfalso
        cases j with
        | zero => exact hp hh
        | succ j =>
          have hj' : j < L.length := by simpa using hj
          have h3 := h1 (nth L j) (nth_mem hj')
          rw [show nth (x :: L) (j + 1) = nth L j from rfl] at hh
          omega
theorem places_iff {P : List Int} {p : Int} {i : Nat} (hi : i < (oddsL P).length + 1) : i < placesL P p ↔ i = 0 ∨ p ≤ nth (oddsL P) (i - 1) := by
  unfold placesL
  cases i with
  | zero => exact ⟨fun _ => .inl rfl, fun _ => by omega⟩
  | succ i =>
    have h := falls_filter (p := p) (odds_down P) i (by omega)
    rw [show i + 1 - 1 = i by omega, ← h]
    omega
theorem places_le (P : List Int) (p : Int) : placesL P p ≤ (oddsL P).length + 1 := by
  unfold placesL
  have := List.length_filter_le (fun x => decide (p ≤ x)) (oddsL P)
  omega

/-- The model's word: the first difference that is considered makes a less than b. -/
def LessP (odds a b : List Int) (p : Int) : Prop := ∃ i, i < a.length ∧ (i = 0 ∨ p ≤ nth odds (i - 1)) ∧ (∀ j, j < i → nth a j = nth b j) ∧ nth a i < nth b i
theorem LessP.no {odds a b : List Int} {p : Int} {i : Nat} (he : ∀ j, j < i → nth a j = nth b j) (h : nth b i < nth a i) : ¬ LessP odds a b p := by
  rintro ⟨k, _, _, h3, h4⟩
  rcases Nat.lt_trichotomy k i with h5 | h5 | h5
  · have := he k h5; omega
  · subst h5; omega
  · have := h3 i h5; omega
theorem LessP.stop {P a b : List Int} {p : Int} {i : Nat} (hi : 0 < i) (hl : a.length ≤ (oddsL P).length + 1) (he : ∀ j, j < i → nth a j = nth b j) (h : ¬ (i < a.length ∧ p ≤ nth (oddsL P) (i - 1))) : ¬ LessP (oddsL P) a b p := by
  rintro ⟨k, h1, h2, h3, h4⟩
  by_cases h5 : k < i
  · have := he k h5; omega
  · rcases h2 with h2 | h2
    · omega
    · refine h ⟨by omega, ?_⟩
      by_cases e : i = k
      · subst e; exact h2
      · have hp := List.pairwise_iff_getElem.1 (odds_down P) (i - 1) (k - 1) (by omega) (by omega) (by omega)
        rw [← nth_eq, ← nth_eq] at hp
        omega
theorem nth_take8 (m : List Int) (K i : Nat) : nth (m.take K) i = if i < K then nth m i else 0 := by
  unfold nth
  simp only [List.getD_eq_getElem?_getD, List.getElem?_take]
  by_cases h : i < K
  · rw [if_pos h, if_pos h]
  · rw [if_neg h, if_neg h]; rfl
theorem nth_off8 {m : List Int} {i : Nat} (h : m.length ≤ i) : nth m i = 0 := by
  unfold nth
  rw [List.getD_eq_getElem?_getD, List.getElem?_eq_none h]
  rfl
theorem good_top {P m : List Int} (h : goodB P m = true) (hm : m ≠ [1]) : m.length = (oddsL P).length + 1 ∧ nth m 0 = 0 := by
  rcases goodB_iff.1 h with h | ⟨h1, h2⟩
  · exact absurd h hm
  · have := h2 0 (by omega)
    have h3 : nth (mostL P) 0 = 0 := rfl
    rw [h3] at this
    exact ⟨h1, by omega⟩
theorem at_bridge {P a b : List Int} {p : Int} (hl : (oddsL P).length ≤ 12) (ha : goodB P a = true) (hb : goodB P b = true) : cmpF (a.take (placesL P p)) (b.take (placesL P p)) 0 13 < 0 ↔ LessP (oddsL P) a b p := by
  have hple := places_le P p
  rw [cmpF_neg]
  constructor
  · rintro ⟨k, _, hk, h3, h4⟩
    rw [nth_take8, nth_take8] at h4
    by_cases h5 : k < placesL P p
    · rw [if_pos h5, if_pos h5] at h4
      have h6 := (places_iff (by omega)).1 h5
      have h7 : ∀ j, j < k → nth a j = nth b j := fun j hj => by
        have := h3 j (by omega) hj
        rw [nth_take8, nth_take8, if_pos (by omega), if_pos (by omega)] at this
        exact this
      refine ⟨k, ?_, h6, h7, h4⟩
      by_cases hal : a = [1]
      · by_cases hk0 : k = 0
        · subst hk0; rw [hal]; simp
        · exfalso
          have h8 := h7 0 (by omega)
          have hbl : b = [1] := Classical.byContradiction fun hn => by
            have := (good_top hb hn).2
            rw [hal] at h8
            have h9 : nth [1] 0 = 1 := rfl
            omega
          rw [hal, hbl] at h4
          omega
      · have := (good_top ha hal).1
        omega
    · rw [if_neg h5, if_neg h5] at h4
      omega
  · rintro ⟨k, h1, h2, h3, h4⟩
    have h0 : a.length ≤ (oddsL P).length + 1 := by
      by_cases hal : a = [1]
      · rw [hal]; simp
      · have := (good_top ha hal).1; omega
    have h5 : k < placesL P p := (places_iff (by omega)).2 h2
    refine ⟨k, Nat.zero_le _, by omega, fun j _ hj => ?_, ?_⟩
    · rw [nth_take8, nth_take8, if_pos (by omega), if_pos (by omega)]; exact h3 j hj
    · rw [nth_take8, nth_take8, if_pos h5, if_pos h5]; exact h4
/-- What AtLeastIn answers. -/
noncomputable def atB (O : List Int) (zss : List (List Int)) (P a b : List Int) (p : Int) : Bool := smallB O zss P && (goodB P a && (goodB P b && !@decide (LessP (oddsL P) a b p) (Classical.propDecidable _)))
end
end Go.Proofs.Ytihaajcmephlmaa
namespace Go.Proofs.Ytihaajcmephlmaa
section
variable {P : Program} {ops : Array Oper} {Q : Exit → Act → World → Prop} {md : Region.Mode} {S : World → Prop} {m : Nat}

/-- Do those from m on wait for all of the first m? -/
def tailB (md : Region.Mode) (ops : Array Oper) (m : Nat) : Bool :=
  (List.range ops.size).all fun j => decide (j < m) || (List.range m).all fun i => match ops[j]? with | some o => o.after.any fun e => Region.binds md e && e.on == i | none => true

theorem tail_waits {i j : Nat} {listed : Array Bool} (h : tailB md ops m = true) (hi : i < m) (hu : listed.getD i true = false) (hj : j ∈ Region.ready md ops listed) : j < m := by
  obtain ⟨-, o, ho, hall⟩ := mem_ready.1 hj
  have hjs : j < ops.size := (Array.getElem?_eq_some_iff.1 ho).1
  have h1 := List.all_eq_true.1 h j (List.mem_range.2 hjs)
  rw [Bool.or_eq_true, decide_eq_true_eq] at h1
  rcases h1 with h1 | h1
  · exact h1
  · have h2 := List.all_eq_true.1 h1 i (List.mem_range.2 hi)
    rw [ho] at h2
    obtain ⟨q, hq, hb⟩ := Array.any_eq_true.1 h2
    obtain ⟨x, hxe⟩ : ∃ x, x = o.after[q] := ⟨_, rfl⟩
    have hx : x ∈ o.after := by rw [hxe]; exact Array.getElem_mem hq
    rw [← hxe] at hb
    rw [Bool.and_eq_true, beq_iff_eq] at hb
    have h3 := hall x hx hb.1
    rw [hb.2] at h3
    by_cases hlt : i < listed.size
    · simp [hlt] at hu h3
      rw [hu] at h3
      exact Bool.noConfusion h3
    · have hn : listed[i]? = none := Array.getElem?_eq_none (by omega)
      simp [hn] at h3

/-- Whatever comes first of what may; behind each of the first m S holds. -/
def wpAnyM (P : Program) (md : Region.Mode) (ops : Array Oper) (Q : Exit → Act → World → Prop) (S : World → Prop) (m : Nat) : Nat → Array Bool → Act → World → Prop
  | 0, listed, a, w => Region.ready md ops listed = [] ∧ Q .normal a w
  | fuel + 1, listed, a, w =>
    (Region.ready md ops listed = [] → Q .normal a w) ∧
    ∀ i ∈ Region.ready md ops listed, wpOp P ops Q i (fun a' w' => (i < m → S w') ∧ wpAnyM P md ops Q S m fuel (listed.setIfInBounds i true) a' w') a w

theorem wpAny_of_M : ∀ (fuel : Nat) (listed : Array Bool) (a : Act) (w : World), wpAnyM P md ops Q S m fuel listed a w → wpAny P md ops Q fuel listed a w
  | 0, _, _, _, h => h
  | fuel + 1, _, _, _, h => ⟨h.1, fun i hi => wpOp_mono (fun _ _ h' => wpAny_of_M fuel _ _ _ h'.2) (h.2 i hi)⟩

theorem wpAnyM_first {i : Nat} {oi : Oper} {v : Value} (hT : tailB md ops m = true) (him : i < m) (hi : ops[i]? = some oi) (hsel : ∀ (j : Nat) (o : Oper) cs b, ops[j]? = some o → o.op ≠ .select cs b)
    (hQ : ∀ c a w, Q (.panic c) (a.put oi.dst v) w → Q (.panic c) a w) :
    ∀ (fuel : Nat) (listed : Array Bool) (a : Act) (w : World),
      (∀ j oj, ops[j]? = some oj → j ≠ i → listed.getD j true = false → (∀ e ∈ oj.after, Region.binds md e = true → e.on ≠ i) → oi.apart ops oj = true) →
      i ∈ Region.ready md ops listed → YieldsIf P ops S oi v a → S w →
      wpAnyM P md ops Q S m fuel (listed.setIfInBounds i true) (a.put oi.dst v) w → wpAnyM P md ops Q S m (fuel + 1) listed a w := by
  intro fuel
  induction fuel with
  | zero =>
    intro listed a w _ hr hy hS H
    refine ⟨fun h => absurd hr (by rw [h]; exact List.not_mem_nil), fun j hj => ?_⟩
    by_cases e : j = i
    · rw [e]; exact hy.wpOp hi hS ⟨fun _ => hS, H⟩
    · have := ready_mono hj e
      rw [H.1] at this
      exact absurd this List.not_mem_nil
  | succ fuel ih =>
    intro listed a w hfree hr hy hS H
    refine ⟨fun h => absurd hr (by rw [h]; exact List.not_mem_nil), fun j hj => ?_⟩
    by_cases e : j = i
    · rw [e]; exact hy.wpOp hi hS ⟨fun _ => hS, H⟩
    · obtain ⟨hjun, oj, hoj, hall⟩ := mem_ready.1 hj
      have hiun := (mem_ready.1 hr).1
      have hjm : j < m := tail_waits hT him hiun hj
      have hnot : ∀ e ∈ oj.after, Region.binds md e = true → e.on ≠ i := fun x hx hb heq => by
        have h1 := hall x hx hb
        rw [heq] at h1
        by_cases hlt : i < listed.size
        · simp [hlt] at hiun h1
          rw [hiun] at h1
          exact Bool.noConfusion h1
        · have hn : listed[i]? = none := Array.getElem?_eq_none (by omega)
          simp [hn] at h1
      have h2 := wpOp_putIf hoj (hfree j oj hoj e hjun hnot) (fun cs b => hsel i oi cs b hi) (fun cs b => hsel j oj cs b hoj) hQ hy (H.2 j (ready_mono hj e))
      have hfree' : ∀ k ok, ops[k]? = some ok → k ≠ i → (listed.setIfInBounds j true).getD k true = false → (∀ x ∈ ok.after, Region.binds md x = true → x.on ≠ i) → oi.apart ops ok = true := fun k ok hk hki hun hno => by
        refine hfree k ok hk hki ?_ hno
        by_cases hjk : j = k
        · rw [← hjk]; exact hjun
        · rw [getD_set_ne true hjk] at hun; exact hun
      refine wpOp_mono (fun a' w' h3 => ?_) h2
      obtain ⟨hy3, hS3, hW3⟩ := h3
      have hS4 := hS3 hjm
      refine ⟨fun _ => hS4, ih _ a' w' hfree' (ready_mono hr (fun x => e x.symm)) hy3 hS4 ?_⟩
      rw [Array.setIfInBounds_comm _ _ e]
      exact hW3

/-- Take number i first. -/
theorem wpAnyM_take {i : Nat} {oi : Oper} {v : Value} {fuel : Nat} {listed : Array Bool} {a : Act} {w : World} (hi : ops[i]? = some oi) (hT : tailB md ops m = true) (him : i < m)
    (hs : Region.noSelect ops = true) (hf : Region.free md ops listed i = true) (hr : (Region.ready md ops listed).contains i = true)
    (hQ : ∀ c a w, Q (.panic c) (a.put oi.dst v) w → Q (.panic c) a w) (hy : YieldsIf P ops S oi v a) (hS : S w)
    (h : wpAnyM P md ops Q S m fuel (listed.setIfInBounds i true) (a.put oi.dst v) w) : wpAnyM P md ops Q S m (fuel + 1) listed a w :=
  wpAnyM_first hT him hi (Region.noSelect_spec hs) hQ fuel listed a w (Region.free_spec hi hf) (by simpa using hr) hy hS h

/-- Number i alone may come up. -/
theorem wpAnyM_one {i : Nat} {o : Oper} {fuel : Nat} {listed : Array Bool} {a : Act} {w : World} (hr : Region.ready md ops listed = [i]) (ho : ops[i]? = some o)
    (h : ∀ K' : Act → World → Prop, Shut (∀ a w, (i < m → S w) → ((i < m → S w) → wpAnyM P md ops Q S m fuel (listed.setIfInBounds i true) a w) → K' a w) → if Region.wanted o (yielded ops a.tmps) = true then Oper.wp P o a w K' Q else K' (a.put o.dst undef) w) :
    wpAnyM P md ops Q S m (fuel + 1) listed a w :=
  ⟨fun h0 => absurd h0 (by rw [hr]; exact List.cons_ne_nil _ _), fun j hj => by
    rw [hr, List.mem_singleton] at hj
    rw [hj]
    exact wpOp_step ho (fun K' hK => h K' (fun a w hS hW => hK a w ⟨hS, hW hS⟩))⟩

/-- Two may come up. -/
theorem wpAnyM_two {i j : Nat} {o o' : Oper} {fuel : Nat} {listed : Array Bool} {a : Act} {w : World} (hr : Region.ready md ops listed = [i, j]) (ho : ops[i]? = some o) (ho' : ops[j]? = some o')
    (h : ∀ K' : Act → World → Prop, Shut (∀ a w, (i < m → S w) → ((i < m → S w) → wpAnyM P md ops Q S m fuel (listed.setIfInBounds i true) a w) → K' a w) → if Region.wanted o (yielded ops a.tmps) = true then Oper.wp P o a w K' Q else K' (a.put o.dst undef) w)
    (h' : ∀ K' : Act → World → Prop, Shut (∀ a w, (j < m → S w) → ((j < m → S w) → wpAnyM P md ops Q S m fuel (listed.setIfInBounds j true) a w) → K' a w) → if Region.wanted o' (yielded ops a.tmps) = true then Oper.wp P o' a w K' Q else K' (a.put o'.dst undef) w) :
    wpAnyM P md ops Q S m (fuel + 1) listed a w :=
  ⟨fun h0 => absurd h0 (by rw [hr]; exact List.cons_ne_nil _ _), fun k hk => by
    rw [hr, List.mem_cons, List.mem_singleton] at hk
    rcases hk with hk | hk
    · rw [hk]; exact wpOp_step ho (fun K' hK => h K' (fun a w hS hW => hK a w ⟨hS, hW hS⟩))
    · rw [hk]; exact wpOp_step ho' (fun K' hK => h' K' (fun a w hS hW => hK a w ⟨hS, hW hS⟩))⟩

theorem wpAnyM_done {listed : Array Bool} {a : Act} {w : World} (hr : Region.ready md ops listed = []) (h : Q .normal a w) : ∀ fuel, wpAnyM P md ops Q S m fuel listed a w
  | 0 => ⟨hr, h⟩
  | _ + 1 => ⟨fun _ => h, fun i hi => absurd hi (by rw [hr]; exact List.not_mem_nil)⟩

/-- The beginning, in a function's own body. -/
theorem wp_region_M {id : Nat} {a : Act} {w : World} (hm : P.follows .mixedOrders = true) (hS : S w.drew)
    (h : S w.drew → wpAnyM P .any ops Q S m ops.size (Array.replicate ops.size false) a w.drew) : (Code.region id ops true).wp P Q a w :=
  wp_region_any hm (wpAny_of_M _ _ _ _ (h hS))

/-- What is asked of a region in a round: it does not outgrow. -/
def calmQ (Q : Exit → Act → World → Prop) : Exit → Act → World → Prop
  | .outgrown, _, _ => False
  | e, a, w => Q e a w

theorem calm_normal {a : Act} {w : World} (h : Q .normal a w) : calmQ Q .normal a w := h

/-- No operation is a defer statement. -/
def noDefer (ops : Array Oper) : Bool := ops.all fun o => match o.op with | .defer _ => false | _ => true

theorem noDefer_spec {j : Nat} {o : Oper} (h : noDefer ops = true) (ho : ops[j]? = some o) : ∀ c, o.op ≠ .defer c := fun c e => by
  have hm : o ∈ ops := Array.mem_of_getElem? ho
  have := Array.all_eq_true_iff_forall_mem.1 h o hm
  rw [e] at this
  exact Bool.noConfusion this

theorem wpAnyIn_round {l n : Nat} (hd : noDefer ops = true) : ∀ (fuel : Nat) (listed : Array Bool) (a : Act) (w : World), wpAny P md ops (calmQ Q) fuel listed a w → wpAnyIn (Fence.wide.inRound l) n P md ops Q fuel listed a w
  | 0, _, _, _, h => h
  | fuel + 1, listed, a, w, h => ⟨h.1, fun i hi => by
    have h1 := h.2 i hi
    unfold wpOp at h1
    unfold wpOpIn
    cases ho : ops[i]? with
    | none => rw [ho] at h1; exact wpAnyIn_round hd fuel _ _ _ h1
    | some o =>
      rw [ho] at h1
      simp only at h1 ⊢
      by_cases hw : Region.wanted o (yielded ops a.tmps) = true
      · rw [if_pos hw] at h1 ⊢
        refine ⟨fun _ _ => trivial, ?_⟩
        rcases h1 with h1 | ⟨_, a', w', h1⟩
        · rw [Oper.semAt_eq _ _ _ (noDefer_spec hd ho)]
          unfold Oper.wp at h1
          generalize (execOp a.eval o).run P w = r at h1
          cases r with
          | ok x w' =>
            cases x with
            | value v => exact wpAnyIn_round hd fuel _ _ _ h1
            | skip => exact wpAnyIn_round hd fuel _ _ _ h1
            | defer d => exact wpAnyIn_round hd fuel _ _ _ h1
            | enter f args =>
              refine ⟨fun hh => Bool.noConfusion hh, CallsIn.inRound l (callsIn_wide.2 (Calls.mono h1 fun e w'' he => ?_))⟩
              cases e with
              | returned v => exact wpAnyIn_round hd fuel _ _ _ he
              | panicked ch => exact he
              | outgrown => obtain ⟨_, _, hf⟩ := he; exact hf.elim
            | row nm args =>
              have h2 : RowsIn Fence.wide (n - 1) P nm args w' fun v w'' => wpAnyIn (Fence.wide.inRound l) n P md ops Q fuel (listed.setIfInBounds i true) (a.put o.dst v) w'' := fun c cs _ => by
                obtain ⟨v, w2, r, s⟩ := Rows.mono h1 (fun v w'' hh => wpAnyIn_round hd fuel _ _ _ hh) c cs
                exact ⟨v, w2, r, stepsIn_wide.2 s⟩
              exact ⟨fun hh => Bool.noConfusion hh, h2⟩
            | _ => exact h1.elim
          | halt x w' =>
            cases x with
            | panic v => exact h1
            | _ => exact h1.elim
        · exact h1.elim
      · rw [if_neg hw] at h1 ⊢
        exact ⟨fun _ _ => trivial, wpAnyIn_round hd fuel _ _ _ h1⟩⟩

/-- The beginning, in a round. -/
theorem wpIn_region_M {id l n : Nat} {a : Act} {w : World} (hm : P.follows .mixedOrders = true) (hd : noDefer ops = true) (hS : S w.drew)
    (h : S w.drew → wpAnyM P .any ops (calmQ Q) S m ops.size (Array.replicate ops.size false) a w.drew) : (Code.region id ops true).wpIn (Fence.wide.inRound l) n P Q a w :=
  wpIn_region_any hm (wpAnyIn_round hd _ _ _ _ (wpAny_of_M _ _ _ _ (h hS)))
end
end Go.Proofs.Ytihaajcmephlmaa
namespace Go.Proofs.Ytihaajcmephlmaa
section
open Go.RowKit Go.Shelf
attribute [local go_sem] Oper.semAt_some

theorem wp_cut8 {P : Program} {c : Code} {Q : Exit → Act → World → Prop} {a : Act} {w : World} (R : Act → World → Prop) (h1 : Code.wp P c (Exit.then R fun _ _ _ => False) a w) (h2 : ∀ a' w', R a' w' → Q .normal a' w') : Code.wp P c Q a w :=
  wp_mono h1 fun e a' w' h => by
    cases e with
    | normal => exact h2 _ _ h
    | _ => exact h.elim

/-- The cells of a scale: four slices, thirteen numbers. -/
def scaF (a b c d : Value) (M : List Int) : Nat → Value
  | 0 => a
  | 1 => b
  | 2 => c
  | 3 => d
  | i + 4 => .int .i64 (nth M i)
/-- A measure's cells, its value. -/
def meaA (m : List Int) : Array Value := #[.int .i64 (nth m 0), .int .i64 (nth m 1), .int .i64 (nth m 2), .int .i64 (nth m 3), .int .i64 (nth m 4), .int .i64 (nth m 5), .int .i64 (nth m 6), .int .i64 (nth m 7), .int .i64 (nth m 8), .int .i64 (nth m 9), .int .i64 (nth m 10), .int .i64 (nth m 11), .int .i64 (nth m 12)]
def meaV (m : List Int) : Value := .agg (meaA m)
/-- A scale's value. -/
def scaA (a b c d : Value) (M : List Int) : Array Value := #[a, b, c, d, .int .i64 (nth M 0), .int .i64 (nth M 1), .int .i64 (nth M 2), .int .i64 (nth M 3), .int .i64 (nth M 4), .int .i64 (nth M 5), .int .i64 (nth M 6), .int .i64 (nth M 7), .int .i64 (nth M 8), .int .i64 (nth M 9), .int .i64 (nth M 10), .int .i64 (nth M 11), .int .i64 (nth M 12)]
def scaV (a b c d : Value) (M : List Int) : Value := .agg (scaA a b c d M)
/-- A scale: the game, its odds and the greatest numbers. -/
def ScaleAt (w : World) (s : Value) (O : List Int) (zss : List (List Int)) (P : List Int) : Prop :=
  ∃ ao an ap aq co cn cp cq, s = scaV (.slice ao O.length co) (.slice an zss.length cn) (.slice ap P.length cp) (.slice aq (oddsL P).length cq) (mostL P) ∧ GameAt w (.agg #[.slice ao O.length co, .slice an zss.length cn, .slice ap P.length cp]) O zss P ∧ IntsAt w aq (oddsL P)
theorem ScaleAt.below {w w' : World} {s : Value} {O P : List Int} {zss : List (List Int)} (h : ScaleAt w s O zss P) (hb : Below w.heap.size w w') : ScaleAt w' s O zss P := by
  obtain ⟨ao, an, ap, aq, co, cn, cp, cq, e, hg, hq⟩ := h
  exact ⟨ao, an, ap, aq, co, cn, cp, cq, e, hg.below hb, hq.below hb⟩
theorem meaV_congr {a b : List Int} (h : ∀ i, i < 13 → nth a i = nth b i) : meaV a = meaV b := by
  unfold meaV meaA
  rw [h 0 (by omega), h 1 (by omega), h 2 (by omega), h 3 (by omega), h 4 (by omega), h 5 (by omega), h 6 (by omega), h 7 (by omega), h 8 (by omega), h 9 (by omega), h 10 (by omega), h 11 (by omega), h 12 (by omega)]

theorem sca_new {w : World} {a b c d : Value} {M : List Int} {T : TypeId} : (w.alloc (.cells #[a, b, c, d, .int .i64 (nth M 0), .int .i64 (nth M 1), .int .i64 (nth M 2), .int .i64 (nth M 3), .int .i64 (nth M 4), .int .i64 (nth M 5), .int .i64 (nth M 6), .int .i64 (nth M 7), .int .i64 (nth M 8), .int .i64 (nth M 9), .int .i64 (nth M 10), .int .i64 (nth M 11), .int .i64 (nth M 12)] T)).rowIs w.heap.size T 17 (scaF a b c d M) := by
  refine ⟨_, heap_alloc_new w _, by simp, fun j hj => ?_⟩
  have h17 : j = 0 ∨ j = 1 ∨ j = 2 ∨ j = 3 ∨ j = 4 ∨ j = 5 ∨ j = 6 ∨ j = 7 ∨ j = 8 ∨ j = 9 ∨ j = 10 ∨ j = 11 ∨ j = 12 ∨ j = 13 ∨ j = 14 ∨ j = 15 ∨ j = 16 := by omega
  rcases h17 with rfl | rfl | rfl | rfl | rfl | rfl | rfl | rfl | rfl | rfl | rfl | rfl | rfl | rfl | rfl | rfl | rfl <;> rfl

theorem sca_of {w : World} {g : Nat} {T : TypeId} {a b c d : Value} {M : List Int} (h : w.heap[g]? = some (.cells (scaA a b c d M) T (0, 0))) : w.rowIs g T 17 (scaF a b c d M) := by
  refine ⟨_, h, rfl, fun j hj => ?_⟩
  have h17 : j = 0 ∨ j = 1 ∨ j = 2 ∨ j = 3 ∨ j = 4 ∨ j = 5 ∨ j = 6 ∨ j = 7 ∨ j = 8 ∨ j = 9 ∨ j = 10 ∨ j = 11 ∨ j = 12 ∨ j = 13 ∨ j = 14 ∨ j = 15 ∨ j = 16 := by omega
  rcases h17 with rfl | rfl | rfl | rfl | rfl | rfl | rfl | rfl | rfl | rfl | rfl | rfl | rfl | rfl | rfl | rfl | rfl <;> rfl
theorem scaA_zero (a b c d : Value) (P : List Int) : scaA a b c d [] = scaA a b c d (mostK P 0) := by
  unfold scaA
  rw [mostK_start P 0, mostK_start P 1, mostK_start P 2, mostK_start P 3, mostK_start P 4, mostK_start P 5, mostK_start P 6, mostK_start P 7, mostK_start P 8, mostK_start P 9, mostK_start P 10, mostK_start P 11, mostK_start P 12]
  rfl
theorem sca_cells {w : World} {g : Nat} {T : TypeId} {a b c d : Value} {M : List Int} (h : w.rowIs g T 17 (scaF a b c d M)) : w.heap[g]? = some (.cells (scaA a b c d M) T (0, 0)) := by
  obtain ⟨cs, hb, hn, hc⟩ := h
  have e : cs = scaA a b c d M := Array.ext (by rw [hn]; rfl) (fun j h1 h2 => by
    have h3 := hc j (by omega)
    rw [Array.getElem?_eq_getElem h1] at h3
    injection h3 with h3
    rw [h3]
    have h17 : j = 0 ∨ j = 1 ∨ j = 2 ∨ j = 3 ∨ j = 4 ∨ j = 5 ∨ j = 6 ∨ j = 7 ∨ j = 8 ∨ j = 9 ∨ j = 10 ∨ j = 11 ∨ j = 12 ∨ j = 13 ∨ j = 14 ∨ j = 15 ∨ j = 16 := by omega
    clear h3
    rcases h17 with rfl | rfl | rfl | rfl | rfl | rfl | rfl | rfl | rfl | rfl | rfl | rfl | rfl | rfl | rfl | rfl | rfl <;> rfl)
  rw [hb, e]
theorem only_row8 {S : Nat → Prop} {a w : World} {g : Nat} (h : Only S a w) (hg : S g) (cs : Array Value) : Only S a (w.setRow g cs) :=
  h.trans ⟨rfl, rfl, rfl, by simp [World.setRow], fun k _ hk => by
    have hne : g ≠ k := fun e => hk (by rw [← e]; exact hg)
    simp [World.setRow, Array.getElem?_modify, hne]⟩
theorem own_ints8 {w : World} {B D n c : Nat} {a : Option Addr} {zs : List Int} (h : OwnInts w B D (.slice a n c) zs) : IntsAt w a zs := by
  obtain ⟨a', c', e, hI, _⟩ := h.shape
  cases e
  exact hI
theorem scaF_congr {a b c d : Value} {M M' : List Int} (h : ∀ j, nth M j = nth M' j) : ∀ i, scaF a b c d M i = scaF a b c d M' i
  | 0 => rfl
  | 1 => rfl
  | 2 => rfl
  | 3 => rfl
  | j + 4 => congrArg (Value.int .i64) (h j)
theorem sca_bump {w : World} {g : Nat} {T : TypeId} {a b c d : Value} {M M' : List Int} {j : Nat} (h : w.rowIs g T 17 (scaF a b c d M)) (hM : ∀ i, nth M' i = if i = j then nth M i + 1 else nth M i) : (w.setCell ⟨g, j + 4, none⟩ (.int .i64 (nth M j + 1))).rowIs g T 17 (scaF a b c d M') := by
  refine (h.set (j + 4) _).congr fun i hi => ?_
  by_cases e : i = j + 4
  · subst e
    rw [if_pos rfl]
    show _ = Value.int .i64 (nth M' j)
    rw [hM, if_pos rfl]
  · rw [if_neg e]
    match i, e with
    | 0, _ => rfl
    | 1, _ => rfl
    | 2, _ => rfl
    | 3, _ => rfl
    | i + 4, e =>
      show Value.int .i64 (nth M i) = Value.int .i64 (nth M' i)
      rw [hM, if_neg (by omega)]
theorem idx_hit {zs : List Int} {x : Int} (h : hasB zs x = true) : ∃ j, j < zs.length ∧ nth zs j = x ∧ idx zs x = (j : Int) := by
  have hm := hasB_iff.1 h
  have hlt := List.idxOf_lt_length_iff.2 hm
  refine ⟨zs.idxOf x, hlt, ?_, ?_⟩
  · rw [nth_eq hlt]; exact List.getElem_idxOf hlt
  · unfold idx; rw [if_pos hm]
theorem idx_miss {zs : List Int} {x : Int} (h : hasB zs x = false) : idx zs x = -1 ∧ x ∉ zs := by
  have hm : x ∉ zs := fun hx => by rw [hasB_iff.2 hx] at h; cases h
  exact ⟨by unfold idx; rw [if_neg hm], hm⟩

end
end Go.Proofs.Ytihaajcmephlmaa
namespace Go.Proofs.Ytihaajcmephlmaa
section
open Go.RowKit
end
end Go.Proofs.Ytihaajcmephlmaa
