/-
  Contracts of chapter 4: the program's ParityOk, isInGame, the priorities of a list, TopIn, WithPrio, PriosIn.
-/
import Derived.Test.YtjnbpllalbfeiaaDraw1
import Derived.Test.YtjnbpllalbfeiaaDistinct
import Derived.Test.YtjnbpllalbfeiaaParity1
import Derived.Test.YtjnbpllalbfeiaaSameParity
import Derived.Test.YtjnbpllalbfeiaaBase1
import Derived.Test.YtjnbpllalbfeiaaInside
import Derived.Deep.RegionHeld3
namespace Go.Proofs.Ytjnbpllalbfeiaa
section
open Go.RowKit

theorem arenaSize_is {w : World} {va : Value} {O : List Int} {zss : List (List Int)} (h : ArenaAt w va O zss) :
    Calls Try.prog 34 #[va] w fun e w' => e = .returned (.int .i64 O.length) ∧ Below w.heap.size w w' := by
  obtain ⟨ao, an, co, cn, A, C, rfl, h1, h2⟩ := h
  exact (size_is ao an O.length zss.length co cn w h1.len).mono fun e w' ⟨he, hw⟩ => ⟨he, hw ▸ below1 _ _⟩

theorem min_ok {P : List Int} (hz : 0 < P.length) : 0 ≤ minN P (P.length - 1) ↔ ∀ x ∈ P, 0 ≤ x := by
  constructor
  · intro h x hx
    obtain ⟨k, hk, rfl⟩ := mem_nth.1 hx
    have := minN_le (zs := P) (k := P.length - 1) (j := k) (by omega)
    omega
  · intro h
    obtain ⟨j, hj, e⟩ := minN_at (zs := P) (P.length - 1)
    rw [← e]; exact h _ (nth_mem (by omega))
theorem max_ok {P : List Int} (hz : 0 < P.length) : maxN P (P.length - 1) ≤ 40 ↔ ∀ x ∈ P, x ≤ 40 := by
  constructor
  · intro h x hx
    obtain ⟨k, hk, rfl⟩ := mem_nth.1 hx
    have := maxN_ge (zs := P) (k := P.length - 1) (j := k) (by omega)
    omega
  · intro h
    obtain ⟨j, hj, e⟩ := maxN_at (zs := P) (P.length - 1)
    rw [← e]; exact h _ (nth_mem (by omega))

set_option maxHeartbeats 4000000 in
set_option maxRecDepth 100000 in
theorem ParityOk_is {w : World} {v : Value} {O : List Int} {zss : List (List Int)} {P : List Int} {r : Bool} (hr : parityB O zss P = r) (h : GameAt w v O zss P) :
    Calls Try.prog 20 #[v] w fun e w' => e = .returned (.bool r) ∧ Below w.heap.size w w' := by
  obtain ⟨ao, an, ap, co, cn, cp, A, C, rfl, h1, h2, h3⟩ := h
  have hlO := h1.len
  have hlP := h3.len
  have HP := Lib.hid h3
  obtain ⟨w1, hw1⟩ : ∃ y, y = w.alloc (.cells #[.slice ao O.length co, .slice an zss.length cn, .slice ap P.length cp] 31) := ⟨_, rfl⟩
  have HW1 := Lib.hid hw1
  have B1 : Hid (Below w.heap.size w w1) := by rw [hw1]; exact below1 _ _
  have T1 : Hid (Box3 w1 w.heap.size 31 (.slice ao O.length co) (.slice an zss.length cn) (.slice ap P.length cp)) := by rw [hw1]; exact Box3.new _ _ _ _ _
  have HA : Hid (ArenaAt w (.agg #[.slice ao O.length co, .slice an zss.length cn]) O zss) := ⟨_, _, _, _, _, _, rfl, h1, h2⟩
  clear h1 h2 h3 hw1
  have t0 := T1.out.c0
  have t1 := T1.out.c1
  have t2 := T1.out.c2
  have hd1 : Below w1.heap.size w1 w1.drew := (Below.refl _ _).drew
  have B1d := Lib.hid (B1.out.trans (hd1.mono B1.out.size))
  have T1d := Lib.hid (T1.out.below hd1)
  clear hd1
  cases hA : arenaB O zss with
  | false =>
    have HE : Hid (r = false) := by rw [← hr]; simp [parityB, hA, Hid]
    have HC := Lib.hid (ArenaOk_at hA (HA.out.below B1d.out))
    clear hA hr
    go_enter Try.func20, Try.ntmps20
    go_wp2_with fail
    rw [← HW1.out]
    first
      | go_region_law (first
          | (go_simp; go_at_call 33; refine HC.out.mono ?_; rintro e w2 ⟨rfl, hb⟩; have B2 := Lib.hid (B1d.out.trans (hb.mono B1d.out.size)); clear hb))
      | fail
    all_goals (
      go_wp2
      go_ret
      exact ⟨by rw [HE.out]; rfl, B2.out⟩)
  | true =>
    have HAP := Lib.hid (arenaB_iff.1 hA)
    have HC := Lib.hid (ArenaOk_at hA (HA.out.below B1d.out))
    by_cases hl : P.length = O.length
    · have hn0 : 0 < P.length := by have := HAP.out.1; omega
      have hne : ((P.length : Int) != (O.length : Int)) = false := by simp; omega
      have HR : Hid (priosB P = r) := by rw [← hr]; simp [parityB, hA, hl, Hid]
      have hmn := min_ok hn0
      have hmx := max_ok hn0
      obtain ⟨mn, hmnE⟩ : ∃ m, minN P (P.length - 1) = m := ⟨_, rfl⟩
      obtain ⟨mx, hmxE⟩ : ∃ m, maxN P (P.length - 1) = m := ⟨_, rfl⟩
      rw [hmnE] at hmn
      rw [hmxE] at hmx
      have HMN := Lib.hid hmn
      have HMX := Lib.hid hmx
      have HMNE := Lib.hid hmnE
      have HMXE := Lib.hid hmxE
      have HL := Lib.hid hl
      have HN0 := Lib.hid hn0
      clear hA hr hl hmn hmx hmnE hmxE hn0
      go_enter Try.func20, Try.ntmps20
      go_wp2_with fail
      rw [← HW1.out]
      go_region_held3 (fun w' => w'.cell? ⟨w.heap.size, 0, none⟩ = some (.slice ao O.length co) ∧ w'.cell? ⟨w.heap.size, 1, none⟩ = some (.slice an zss.length cn) ∧ w'.cell? ⟨w.heap.size, 2, none⟩ = some (.slice ap P.length cp))
        (first
          | go_keep
          | exact ⟨e0, e1, e2⟩
          | exact ⟨f0, f1, f2⟩)
        (first
          | (go_at_call 33; refine HC.out.mono ?_; rintro e w2 ⟨rfl, hb⟩; have B2 := Lib.hid (B1d.out.trans (hb.mono B1d.out.size)); have T2 := Lib.hid (T1d.out.below hb); have e0 := T2.out.c0; have e1 := T2.out.c1; have e2 := T2.out.c2; clear hb)
          | (go_at_call 34; refine (arenaSize_is (HA.out.below B2.out)).mono ?_; rintro e w3 ⟨rfl, hb⟩; have B3 := Lib.hid (B2.out.trans (hb.mono B2.out.size)); have T3 := Lib.hid (T2.out.below hb); have f0 := T3.out.c0; have f1 := T3.out.c1; have f2 := T3.out.c2; clear hb))
      all_goals (
        clear e0 e1 e2 t0 t1 t2
        have HMinC := Lib.hid (Min_is cp HMNE.out (HP.out.below B3.out) HN0.out)
        have HMaxC := Lib.hid (fun W hb => Max_is (w := W) cp HMXE.out (HP.out.below hb) HN0.out)
        go_wp2_with fail
        refine HMinC.out.mono ?_
        rintro e w4 ⟨rfl, rfl⟩
        clear HMinC
        by_cases h0 : 0 ≤ mn
        · have HE : Hid (decide (mx ≤ 40) = r) := by
            rw [← HR.out]
            unfold priosB Hid
            rw [decide_eq_decide]
            constructor
            · intro h x hx; exact ⟨HMN.out.1 h0 x hx, HMX.out.1 h x hx⟩
            · intro h; exact HMX.out.2 fun x hx => (h x hx).2
          go_wp2_with fail
          refine (HMaxC.out _ B3.out).mono ?_
          rintro e w5 ⟨rfl, rfl⟩
          clear HMaxC
          go_wp2
          go_ret
          exact ⟨ret_bool HE.out, B3.out⟩
        · have HE : Hid (r = false) := by
            rw [← HR.out]
            unfold priosB Hid
            refine decide_eq_false fun h => h0 (HMN.out.2 fun x hx => (h x hx).1)
          have h1 : ¬ 0 ≤ mn := h0
          go_wp2
          go_ret
          exact ⟨by rw [HE.out]; rfl, B3.out⟩)
    · have hne : ((P.length : Int) != (O.length : Int)) = true := by simp; omega
      have HE : Hid (r = false) := by rw [← hr]; simp [parityB, hl, Hid]
      clear hA hr hl
      go_enter Try.func20, Try.ntmps20
      go_wp2_with fail
      rw [← HW1.out]
      go_region_held3 (fun w' => w'.cell? ⟨w.heap.size, 0, none⟩ = some (.slice ao O.length co) ∧ w'.cell? ⟨w.heap.size, 1, none⟩ = some (.slice an zss.length cn) ∧ w'.cell? ⟨w.heap.size, 2, none⟩ = some (.slice ap P.length cp))
        (first
          | go_keep
          | exact ⟨e0, e1, e2⟩
          | exact ⟨f0, f1, f2⟩)
        (first
          | (go_at_call 33; refine HC.out.mono ?_; rintro e w2 ⟨rfl, hb⟩; have B2 := Lib.hid (B1d.out.trans (hb.mono B1d.out.size)); have T2 := Lib.hid (T1d.out.below hb); have e0 := T2.out.c0; have e1 := T2.out.c1; have e2 := T2.out.c2; clear hb)
          | (go_at_call 34; refine (arenaSize_is (HA.out.below B2.out)).mono ?_; rintro e w3 ⟨rfl, hb⟩; have B3 := Lib.hid (B2.out.trans (hb.mono B2.out.size)); have T3 := Lib.hid (T2.out.below hb); have f0 := T3.out.c0; have f1 := T3.out.c1; have f2 := T3.out.c2; clear hb))
      all_goals (
        clear e0 e1 e2 t0 t1 t2
        go_wp2
        go_ret
        exact ⟨by rw [HE.out]; rfl, B3.out⟩)
end

section
open Go.RowKit

theorem pickP_nth {P S : List Int} {k : Nat} (h : k < S.length) : nth (pickP P S) k = nth P (nth S k).toNat := by
  unfold pickP
  rw [nth_eq (by simpa using h), List.getElem_map, nth_eq h]
theorem pickP_mem {P S : List Int} (hin : ∀ x ∈ S, ∃ u : Nat, x = (u : Int) ∧ u < P.length) : ∀ x ∈ pickP P S, x ∈ P := fun x hx => by
  obtain ⟨k, hk, e⟩ := mem_nth.1 hx
  rw [pickP_len] at hk
  rw [pickP_nth hk] at e
  obtain ⟨u, hu, hup⟩ := hin _ (nth_mem hk)
  rw [hu, Int.toNat_natCast] at e
  rw [← e]; exact nth_mem hup

/-- The greatest of the priorities. -/
theorem top_max {P In : List Int} (hin : ∀ x ∈ In, ∃ u : Nat, x = (u : Int) ∧ u < P.length) (h0 : ∀ x ∈ P, 0 ≤ x ∧ x ≤ 40) (hz : 0 < In.length) : topK P In In.length = maxN (pickP P In) ((pickP P In).length - 1) := by
  rw [pickP_len]
  have h1 : maxN (pickP P In) (In.length - 1) ≤ topK P In In.length := by
    obtain ⟨j, hj, e⟩ := maxN_at (zs := pickP P In) (In.length - 1)
    rw [pickP_nth (by omega)] at e
    rw [← e]; exact topK_ge (by omega)
  have hm0 : 0 ≤ maxN (pickP P In) (In.length - 1) := by
    obtain ⟨j, hj, e⟩ := maxN_at (zs := pickP P In) (In.length - 1)
    rw [← e]
    exact (h0 _ (pickP_mem hin _ (nth_mem (by rw [pickP_len]; omega)))).1
  rcases topK_at (P := P) (In := In) In.length with h | ⟨j, hj, h⟩
  · omega
  · have := maxN_ge (zs := pickP P In) (k := In.length - 1) (j := j) (by omega)
    rw [pickP_nth hj, h] at this
    omega
/-- The different priorities. -/
theorem prios_dist {P In : List Int} : priosK P In In.length = distL (pickP P In) := by
  have h1 : ∀ k, (priosK P In k).Pairwise (· < ·) := fun k => by
    induction k with
    | zero => simp [priosK]
    | succ k ih => rw [priosK]; exact intoL_rising _ _ ih
  have h2 : ∀ x k, (x ∈ priosK P In k ↔ ∃ j, j < k ∧ nth P (nth In j).toNat = x) := fun x k => by
    induction k with
    | zero => simp [priosK]
    | succ k ih =>
      rw [priosK, intoL_mem, ih]
      constructor
      · rintro (⟨j, hj, e⟩ | e)
        · exact ⟨j, by omega, e⟩
        · exact ⟨k, by omega, e.symm⟩
      · rintro ⟨j, hj, e⟩
        by_cases h : j = k
        · subst h; exact .inr e.symm
        · exact .inl ⟨j, by omega, e⟩
  refine rising_ext (h1 _) (distL_spec _).1 fun x => ?_
  rw [h2, (distL_spec _).2, mem_nth]
  constructor
  · rintro ⟨j, hj, e⟩; exact ⟨j, by rw [pickP_len]; exact hj, by rw [pickP_nth hj]; exact e⟩
  · rintro ⟨j, hj, e⟩; rw [pickP_len] at hj; exact ⟨j, hj, by rw [pickP_nth hj] at e; exact e⟩

theorem game_len {O : List Int} {zss : List (List Int)} {P In : List Int} (h : gameB O zss P In = true) : In.length ≤ 256 ∧ P.length ≤ 256 := by
  have hg := gameB_yes h
  have h1 := hg.1.2.1
  have h2 := hg.2.1
  have h3 := setB_len (by omega) hg.2.2.2.1
  omega

end

section
open Go.RowKit

theorem same_game {O O' : List Int} {zss zss' : List (List Int)} {P P' : List Int} (hp : parityB O zss P = true) : samePB O zss P O' zss' P' = (sameB O zss O' zss' && decide (P = P')) := by
  unfold samePB
  rw [hp]
  cases hs : sameB O zss O' zss' with
  | false => simp
  | true =>
    by_cases h : P = P'
    · subst h
      have h' : ArenaP O zss ∧ ArenaP O' zss' ∧ O = O' ∧ zss = zss' := by simpa [sameB] using hs
      obtain ⟨_, _, rfl, rfl⟩ := h'
      rw [hp]; rfl
    · simp [h]

end

section
open Go.RowKit

end

section
open Go.RowKit

/-- The last priority that was given, when k of the rising priorities have been passed; 0 before. -/
def lastK (ps : List Int) : Nat → Int
  | 0 => 0
  | k + 1 => pStep (lastK ps k) (nth ps k)
theorem last_num (ps : List Int) : ∀ k, lastK ps (k + 1) = numF ps k
  | 0 => by
    rw [num_zero]
    show pStep 0 (nth ps 0) = _
    unfold pStep
    split <;> omega
  | k + 1 => by
    rw [num_step, ← last_num ps k]; rfl
theorem last_bound (ps : List Int) : ∀ k, 0 ≤ lastK ps k ∧ lastK ps k ≤ k
  | 0 => by simp [lastK]
  | k + 1 => by
    have := last_bound ps k
    rw [lastK, pStep]
    split <;> omega
/-- What each priority becomes, when k of the rising priorities have been passed. -/
def becF (ps : List Int) : Nat → Nat → Int
  | 0, _ => 0
  | k + 1, x => if x = (nth ps k).toNat then lastK ps (k + 1) else becF ps k x
theorem becF_at {ps : List Int} (hr : ps.Pairwise (· < ·)) (h0 : ∀ i, i < ps.length → 0 ≤ nth ps i) {i : Nat} (hi : i < ps.length) : ∀ k, k ≤ ps.length → i < k → becF ps k (nth ps i).toNat = numF ps i
  | 0, _, h => absurd h (Nat.not_lt_zero _)
  | k + 1, hk, h => by
    rw [becF]
    by_cases e : i = k
    · subst e; rw [if_pos rfl, last_num]
    · have h1 := h0 i hi
      have h2 := h0 k (by omega)
      rw [if_neg (fun hh => e (rising_inj hr hi (by omega) (by omega))), becF_at hr h0 hi k (by omega) (by omega)]
/-- What the vertices' priorities become. -/
theorem becF_press {P : List Int} (h : ∀ x ∈ P, 0 ≤ x ∧ x ≤ 40) {v : Nat} (hv : v < P.length) : becF (allP P) (allP P).length (nth P v).toNat = nth (pressL P) v := by
  obtain ⟨i, hi, e⟩ := allP_at hv
  rw [pressL_at hv hi e, e]
  exact becF_at (allP_rising P) (allP_pos h) hi _ (Nat.le_refl _) hi
theorem dist_all (P : List Int) : distL P = allP P :=
  rising_ext (distL_spec P).1 (allP_rising P) fun x => by rw [(distL_spec P).2, allP_mem]

def numsF (f : Nat → Int) : Nat → Value := fun i => .int .i64 (f i)
theorem numsF_set {w : World} {b n v : Nat} {t : TypeId} {f : Nat → Int} {x : Int} (h : w.rowIs b t n (numsF f)) : (w.setCell ⟨b, v, none⟩ (.int .i64 x)).rowIs b t n (numsF fun i => if i = v then x else f i) :=
  World.rowIs.congr (h.set v (.int .i64 x)) fun i _ => by
    unfold numsF
    by_cases e : i = v <;> simp [e]
end

end Go.Proofs.Ytjnbpllalbfeiaa
