/-
  Contracts of chapter 4: the program's ParityOk, isInGame, the priorities of a list, TopIn, WithPrio, PriosIn.
-/
import Derived.Test.YtmobegiojhlakaaDistinct
import Derived.Test.YtmobegiojhlakaaSpec4
import Derived.Test.YtmobegiojhlakaaFlipSpec
import Derived.Test.YtmobegiojhlakaaPress
import Derived.Test.YtmobegiojhlakaaSameParity
import Derived.Test.YtmobegiojhlakaaEdge
import Derived.Test.YtmobegiojhlakaaInside
import Derived.Deep.RegionHeld3
namespace Go.Proofs.Ytmobegiojhlakaa
section
open Go.RowKit

theorem arenaSize_is {w : World} {va : Value} {O : List Int} {zss : List (List Int)} (h : ArenaAt w va O zss) :
    Calls Try.prog 84 #[va] w fun e w' => e = .returned (.int .i64 O.length) ∧ Below w.heap.size w w' := by
  obtain ⟨ao, an, co, cn, A, C, rfl, h1, h2⟩ := h
  exact (size_is ao an O.length zss.length co cn w h1.len).mono fun e w' ⟨he, hw⟩ => ⟨he, hw ▸ below1 _ _⟩

theorem min_ok {P : List Int} (hz : 0 < P.length) : 0 ≤ minN P (P.length - 1) ↔ ∀ x ∈ P, 0 ≤ x := by
  constructor
  · intro h x hx
    obtain ⟨k, hk, rfl⟩ := mem_nth.1 hx
    have := minN_le (zs := P) (k := P.length - 1) (j := k) (by omega)
    omega
  · intro h
    obtain ⟨j, hj, e⟩ := minN_at (zs := P) (P.length - 1)
    rw [← e]; exact h _ (nth_mem (by omega))
theorem max_ok {P : List Int} (hz : 0 < P.length) : maxN P (P.length - 1) ≤ 40 ↔ ∀ x ∈ P, x ≤ 40 := by
  constructor
  · intro h x hx
    obtain ⟨k, hk, rfl⟩ := mem_nth.1 hx
    have := maxN_ge (zs := P) (k := P.length - 1) (j := k) (by omega)
    omega
  · intro h
    obtain ⟨j, hj, e⟩ := maxN_at (zs := P) (P.length - 1)
    rw [← e]; exact h _ (nth_mem (by omega))

set_option maxHeartbeats 4000000 in
set_option maxRecDepth 100000 in
theorem ParityOk_is {w : World} {v : Value} {O : List Int} {zss : List (List Int)} {P : List Int} {r : Bool} (hr : parityB O zss P = r) (h : GameAt w v O zss P) :
    Calls Try.prog 37 #[v] w fun e w' => e = .returned (.bool r) ∧ Below w.heap.size w w' := by
  obtain ⟨ao, an, ap, co, cn, cp, A, C, rfl, h1, h2, h3⟩ := h
  have hlO := h1.len
  have hlP := h3.len
  have HP := Lib.hid h3
  obtain ⟨w1, hw1⟩ : ∃ y, y = w.alloc (.cells #[.slice ao O.length co, .slice an zss.length cn, .slice ap P.length cp] 32) := ⟨_, rfl⟩
  have HW1 := Lib.hid hw1
  have B1 : Hid (Below w.heap.size w w1) := by rw [hw1]; exact below1 _ _
  have T1 : Hid (Box3 w1 w.heap.size 32 (.slice ao O.length co) (.slice an zss.length cn) (.slice ap P.length cp)) := by rw [hw1]; exact Box3.new _ _ _ _ _
  have HA : Hid (ArenaAt w (.agg #[.slice ao O.length co, .slice an zss.length cn]) O zss) := ⟨_, _, _, _, _, _, rfl, h1, h2⟩
  clear h1 h2 h3 hw1
  have t0 := T1.out.c0
  have t1 := T1.out.c1
  have t2 := T1.out.c2
  have hd1 : Below w1.heap.size w1 w1.drew := (Below.refl _ _).drew
  have B1d := Lib.hid (B1.out.trans (hd1.mono B1.out.size))
  have T1d := Lib.hid (T1.out.below hd1)
  clear hd1
  cases hA : arenaB O zss with
  | false =>
    have HE : Hid (r = false) := by rw [← hr]; simp [parityB, hA, Hid]
    have HC := Lib.hid (ArenaOk_at hA (HA.out.below B1d.out))
    clear hA hr
    go_enter Try.func37, Try.ntmps37
    go_wp2_with fail
    rw [← HW1.out]
    first
      | go_region_law (first
          | (go_simp; go_at_call 59; refine HC.out.mono ?_; rintro e w2 ⟨rfl, hb⟩; have B2 := Lib.hid (B1d.out.trans (hb.mono B1d.out.size)); clear hb))
      | fail
    all_goals (
      go_wp2
      go_ret
      exact ⟨by rw [HE.out]; rfl, B2.out⟩)
  | true =>
    have HAP := Lib.hid (arenaB_iff.1 hA)
    have HC := Lib.hid (ArenaOk_at hA (HA.out.below B1d.out))
    by_cases hl : P.length = O.length
    · have hn0 : 0 < P.length := by have := HAP.out.1; omega
      have hne : ((P.length : Int) != (O.length : Int)) = false := by simp; omega
      have HR : Hid (priosB P = r) := by rw [← hr]; simp [parityB, hA, hl, Hid]
      have hmn := min_ok hn0
      have hmx := max_ok hn0
      obtain ⟨mn, hmnE⟩ : ∃ m, minN P (P.length - 1) = m := ⟨_, rfl⟩
      obtain ⟨mx, hmxE⟩ : ∃ m, maxN P (P.length - 1) = m := ⟨_, rfl⟩
      rw [hmnE] at hmn
      rw [hmxE] at hmx
      have HMN := Lib.hid hmn
      have HMX := Lib.hid hmx
      have HMNE := Lib.hid hmnE
      have HMXE := Lib.hid hmxE
      have HL := Lib.hid hl
      have HN0 := Lib.hid hn0
      clear hA hr hl hmn hmx hmnE hmxE hn0
      go_enter Try.func37, Try.ntmps37
      go_wp2_with fail
      rw [← HW1.out]
      go_region_held3 (fun w' => w'.cell? ⟨w.heap.size, 0, none⟩ = some (.slice ao O.length co) ∧ w'.cell? ⟨w.heap.size, 1, none⟩ = some (.slice an zss.length cn) ∧ w'.cell? ⟨w.heap.size, 2, none⟩ = some (.slice ap P.length cp))
        (first
          | go_keep
          | exact ⟨e0, e1, e2⟩
          | exact ⟨f0, f1, f2⟩)
        (first
          | (go_at_call 59; refine HC.out.mono ?_; rintro e w2 ⟨rfl, hb⟩; have B2 := Lib.hid (B1d.out.trans (hb.mono B1d.out.size)); have T2 := Lib.hid (T1d.out.below hb); have e0 := T2.out.c0; have e1 := T2.out.c1; have e2 := T2.out.c2; clear hb)
          | (go_at_call 84; refine (arenaSize_is (HA.out.below B2.out)).mono ?_; rintro e w3 ⟨rfl, hb⟩; have B3 := Lib.hid (B2.out.trans (hb.mono B2.out.size)); have T3 := Lib.hid (T2.out.below hb); have f0 := T3.out.c0; have f1 := T3.out.c1; have f2 := T3.out.c2; clear hb))
      all_goals (
        clear e0 e1 e2 t0 t1 t2
        have HMinC := Lib.hid (Min_is cp HMNE.out (HP.out.below B3.out) HN0.out)
        have HMaxC := Lib.hid (fun W hb => Max_is (w := W) cp HMXE.out (HP.out.below hb) HN0.out)
        go_wp2_with fail
        refine HMinC.out.mono ?_
        rintro e w4 ⟨rfl, rfl⟩
        clear HMinC
        by_cases h0 : 0 ≤ mn
        · have HE : Hid (decide (mx ≤ 40) = r) := by
            rw [← HR.out]
            unfold priosB Hid
            rw [decide_eq_decide]
            constructor
            · intro h x hx; exact ⟨HMN.out.1 h0 x hx, HMX.out.1 h x hx⟩
            · intro h; exact HMX.out.2 fun x hx => (h x hx).2
          go_wp2_with fail
          refine (HMaxC.out _ B3.out).mono ?_
          rintro e w5 ⟨rfl, rfl⟩
          clear HMaxC
          go_wp2
          go_ret
          exact ⟨ret_bool HE.out, B3.out⟩
        · have HE : Hid (r = false) := by
            rw [← HR.out]
            unfold priosB Hid
            refine decide_eq_false fun h => h0 (HMN.out.2 fun x hx => (h x hx).1)
          have h1 : ¬ 0 ≤ mn := h0
          go_wp2
          go_ret
          exact ⟨by rw [HE.out]; rfl, B3.out⟩)
    · have hne : ((P.length : Int) != (O.length : Int)) = true := by simp; omega
      have HE : Hid (r = false) := by rw [← hr]; simp [parityB, hl, Hid]
      clear hA hr hl
      go_enter Try.func37, Try.ntmps37
      go_wp2_with fail
      rw [← HW1.out]
      go_region_held3 (fun w' => w'.cell? ⟨w.heap.size, 0, none⟩ = some (.slice ao O.length co) ∧ w'.cell? ⟨w.heap.size, 1, none⟩ = some (.slice an zss.length cn) ∧ w'.cell? ⟨w.heap.size, 2, none⟩ = some (.slice ap P.length cp))
        (first
          | go_keep
          | exact ⟨e0, e1, e2⟩
          | exact ⟨f0, f1, f2⟩)
        (first
          | (go_at_call 59; refine HC.out.mono ?_; rintro e w2 ⟨rfl, hb⟩; have B2 := Lib.hid (B1d.out.trans (hb.mono B1d.out.size)); have T2 := Lib.hid (T1d.out.below hb); have e0 := T2.out.c0; have e1 := T2.out.c1; have e2 := T2.out.c2; clear hb)
          | (go_at_call 84; refine (arenaSize_is (HA.out.below B2.out)).mono ?_; rintro e w3 ⟨rfl, hb⟩; have B3 := Lib.hid (B2.out.trans (hb.mono B2.out.size)); have T3 := Lib.hid (T2.out.below hb); have f0 := T3.out.c0; have f1 := T3.out.c1; have f2 := T3.out.c2; clear hb))
      all_goals (
        clear e0 e1 e2 t0 t1 t2
        go_wp2
        go_ret
        exact ⟨by rw [HE.out]; rfl, B3.out⟩)
end

section
open Go.RowKit

set_option maxHeartbeats 4000000 in
set_option maxRecDepth 100000 in
theorem isInGame_is {w : World} {v : Value} {O : List Int} {zss : List (List Int)} {P In : List Int} {aI : Option Addr} {r : Bool} (cI : Nat) (hr : gameB O zss P In = r) (h : GameAt w v O zss P) (hI : IntsAt w aI In) :
    Calls Try.prog 89 #[v, .slice aI In.length cI] w fun e w' => e = .returned (.bool r) ∧ Below w.heap.size w w' := by
  have HGm := Lib.hid h
  have HI := Lib.hid hI
  obtain ⟨ao, an, ap, co, cn, cp, A, C, rfl, h1, h2, h3⟩ := h
  have HA : Hid (ArenaAt w (.agg #[.slice ao O.length co, .slice an zss.length cn]) O zss) := ⟨_, _, _, _, _, _, rfl, h1, h2⟩
  obtain ⟨w1, hw1⟩ : ∃ y, y = w.alloc (.cells #[.slice ao O.length co, .slice an zss.length cn, .slice ap P.length cp] 32) := ⟨_, rfl⟩
  have HW1 := Lib.hid hw1
  have B1 : Hid (Below w.heap.size w w1) := by rw [hw1]; exact below1 _ _
  have T1 : Hid (Box3 w1 w.heap.size 32 (.slice ao O.length co) (.slice an zss.length cn) (.slice ap P.length cp)) := by rw [hw1]; exact Box3.new _ _ _ _ _
  clear hw1 h1 h2 h3 hI
  cases hp : parityB O zss P with
  | false =>
    have HE : Hid (r = false) := by rw [← hr]; unfold gameB; rw [hp]; rfl
    have HC := Lib.hid (ParityOk_is hp (HGm.out.below B1.out))
    clear hr hp
    go_enter Try.func89, Try.ntmps89
    go_wp2_with fail
    rw [← HW1.out]
    refine HC.out.mono ?_
    rintro e w2 ⟨rfl, hb⟩
    have B2 := Lib.hid (B1.out.trans (hb.mono B1.out.size))
    clear hb HC
    go_wp2
    go_ret
    exact ⟨ret_bool HE.out.symm, B2.out⟩
  | true =>
    have HC := Lib.hid (ParityOk_is hp (HGm.out.below B1.out))
    have hlo : P.length = O.length := (parityB_iff.1 hp).2.1
    have hO256 : O.length ≤ 256 := (parityB_iff.1 hp).1.2.1
    have HS : Hid (setB (O.length : Int) In = r) := by rw [← hr]; unfold gameB; rw [hp, hlo]; simp [Hid]
    have HLO := Lib.hid hlo
    clear hr hp hlo
    go_enter Try.func89, Try.ntmps89
    go_wp2_with fail
    rw [← HW1.out]
    refine HC.out.mono ?_
    rintro e w2 ⟨rfl, hb⟩
    have B2 := Lib.hid (B1.out.trans (hb.mono B1.out.size))
    have T2 := Lib.hid (T1.out.below hb)
    clear hb HC
    have t0 := T2.out.c0
    have t1 := T2.out.c1
    have t2 := T2.out.c2
    go_wp2_with fail
    refine (arenaSize_is (HA.out.below B2.out)).mono ?_
    rintro e w3 ⟨rfl, hb⟩
    have B3 := Lib.hid (B2.out.trans (hb.mono B2.out.size))
    clear hb t0 t1 t2
    go_wp2_with fail
    refine (isSet_is HS.out cI w3 (HI.out.below B3.out) (by unfold Fits; omega)).mono ?_
    rintro e w4 ⟨rfl, rfl⟩
    go_wp2
    go_ret
    exact ⟨rfl, B3.out⟩

theorem pickP_nth {P S : List Int} {k : Nat} (h : k < S.length) : nth (pickP P S) k = nth P (nth S k).toNat := by
  unfold pickP
  rw [nth_eq (by simpa using h), List.getElem_map, nth_eq h]
theorem pickP_mem {P S : List Int} (hin : ∀ x ∈ S, ∃ u : Nat, x = (u : Int) ∧ u < P.length) : ∀ x ∈ pickP P S, x ∈ P := fun x hx => by
  obtain ⟨k, hk, e⟩ := mem_nth.1 hx
  rw [pickP_len] at hk
  rw [pickP_nth hk] at e
  obtain ⟨u, hu, hup⟩ := hin _ (nth_mem hk)
  rw [hu, Int.toNat_natCast] at e
  rw [← e]; exact nth_mem hup

set_option maxHeartbeats 8000000 in
set_option maxRecDepth 100000 in
theorem prios_is {w : World} {v : Value} {O : List Int} {zss : List (List Int)} {P In : List Int} {aI : Option Addr} (cI : Nat) (h : GameAt w v O zss P) (hI : IntsAt w aI In) (hin : ∀ x ∈ In, ∃ u : Nat, x = (u : Int) ∧ u < P.length) (hl : In.length ≤ 1048576) :
    Calls Try.prog 90 #[v, .slice aI In.length cI] w (GivesInts w (pickP P In)) := by
  obtain ⟨i0, hi, hz0, hz1, hz2⟩ := info_parts info_int
  obtain ⟨ao, an, ap, co, cn, cp, A, C, rfl, h1, h2, h3⟩ := h
  have hlP := h3.len
  have HP := Lib.hid h3
  have HI := Lib.hid hI
  have HIN := Lib.hid hin
  obtain ⟨w1, hw1⟩ : ∃ y, y = w.alloc (.cells #[.slice ao O.length co, .slice an zss.length cn, .slice ap P.length cp] 32) := ⟨_, rfl⟩
  have HW1 := Lib.hid hw1
  have B1 : Hid (Below w.heap.size w w1) := by rw [hw1]; exact below1 _ _
  have T1 : Hid (Box3 w1 w.heap.size 32 (.slice ao O.length co) (.slice an zss.length cn) (.slice ap P.length cp)) := by rw [hw1]; exact Box3.new _ _ _ _ _
  clear hw1 h1 h2 h3 hI hin
  go_enter Try.func90, Try.ntmps90
  go_wp2
  rw [← HW1.out]
  go_loopw [5, 10] (fun ov iv wr => ∃ k : Nat, k ≤ In.length ∧ iv = .int .i64 k ∧ Hid (wr.ownsRow w1.heap.size 2 1 ov (pickP P (In.take k)).length ((pickP P (In.take k)).map (Value.int .i64))) ∧ Hid (Below w1.heap.size w1 wr)) (fun _ iv _ => In.length - (intOf iv).toNat)
  case atStart => exact ⟨0, Nat.zero_le _, rfl, by simpa [pickP, Hid] using World.ownsRow_nil w1 w1.heap.size 2 1, Below.refl _ _⟩
  case round =>
    obtain ⟨k, hk, rfl, HO, HK⟩ := hrel
    have hfl : (pickP P (In.take k)).length ≤ k := by rw [pickP_len]; simp; omega
    by_cases hlt : k < In.length
    · have hi1 : (k : Int) < In.length := by omega
      have hk0 : (0 : Int) ≤ (k : Int) := by omega
      obtain ⟨u, hu, hup⟩ := HIN.out _ (nth_mem hlt)
      have BWr := Lib.hid (B1.out.trans (HK.out.mono B1.out.size))
      obtain ⟨ib, io, hia, hic⟩ := (HI.out.below BWr.out).cell (by omega)
      obtain ⟨pb, po, hpa, hpc⟩ := (HP.out.below BWr.out).cell (by omega)
      have i1 := hic k hlt
      have p1 := hpc u hup
      rw [hu] at i1
      have hu0 : (0 : Int) ≤ (u : Int) := by omega
      have hup1 : (u : Int) < P.length := by omega
      have t2 := (T1.out.below HK.out).c2
      obtain ⟨z, hz⟩ : ∃ z, z = nth P u := ⟨_, rfl⟩
      have hst := pickP_take (P := P) hlt
      rw [hu, Int.toNat_natCast, ← hz] at hst
      rw [← hz] at p1
      subst hia
      subst hpa
      have HST := Lib.hid hst
      have hksz := HK.out.size
      clear hic hpc hst hu hz
      go_wp2_with (at_builtin; refine wpList_append_own_at _ rfl _ _ 27 rfl w1.heap.size 2 i0 (.int .i64 0) 1 8 Try.underlying27 hi hz0 hz1 hz2 rfl (by decide) _ _ _ rfl (HO.out.alloc _) ⟨wr.heap.size, 0, none⟩ 1 1 [.int .i64 z] rfl rfl ?c1 ?c2 ?c3 ?c4 ?c5 ?_)
      try (case c1 => exact cell_one_new _ _ _)
      case c2 => first | rfl | (intro u hu; simp at hu; subst hu; rfl)
      case c3 => unfold maxLen; omega
      case c4 => omega
      case c5 => simp; omega
      intro v' w4 hown hgrow _ _
      have hg : Only (fun b => w1.heap.size ≤ b) wr w4 := (Only.of_below (below1 wr _)).trans ((Only.of_grown hgrow).mono fun b hb => (HO.out.lt b hb).1)
      have Kn := Lib.hid (HK.out.trans (hg.below HK.out.size (fun _ h => h)))
      have HOn : Hid (w4.ownsRow w1.heap.size 2 1 v' (pickP P (In.take (k + 1))).length ((pickP P (In.take (k + 1))).map (Value.int .i64))) := by
        rw [HST.out, List.map_append, List.length_append]; exact hown
      clear hown hgrow hg
      go_wp2
      go_roundw
      case rel => exact ⟨k + 1, by omega, by go_num, HOn, Kn⟩
      case measure => simp [intOf]; omega
    · have hi1 : ¬ (k : Int) < In.length := by omega
      have hkk : k = In.length := by omega
      rw [hkk, List.take_length] at HO
      have hfin := Lib.hid (And.intro ((OwnInts.mk' (zs := pickP P In) HO.out (by rw [pickP_len]; omega) (fun j hj => by
        obtain ⟨i, hi, e⟩ := mem_nth.1 (pickP_mem HIN.out _ (nth_mem hj))
        rw [← e]; exact HP.out.fits i hi)).base (B' := w.heap.size) B1.out.size) (B1.out.trans (HK.out.mono B1.out.size)))
      clear hkk HO
      go_wp2
      go_ret
      exact ⟨_, rfl, hfin.out⟩

/-- The greatest of the priorities. -/
theorem top_max {P In : List Int} (hin : ∀ x ∈ In, ∃ u : Nat, x = (u : Int) ∧ u < P.length) (h0 : ∀ x ∈ P, 0 ≤ x ∧ x ≤ 40) (hz : 0 < In.length) : topK P In In.length = maxN (pickP P In) ((pickP P In).length - 1) := by
  rw [pickP_len]
  have h1 : maxN (pickP P In) (In.length - 1) ≤ topK P In In.length := by
    obtain ⟨j, hj, e⟩ := maxN_at (zs := pickP P In) (In.length - 1)
    rw [pickP_nth (by omega)] at e
    rw [← e]; exact topK_ge (by omega)
  have hm0 : 0 ≤ maxN (pickP P In) (In.length - 1) := by
    obtain ⟨j, hj, e⟩ := maxN_at (zs := pickP P In) (In.length - 1)
    rw [← e]
    exact (h0 _ (pickP_mem hin _ (nth_mem (by rw [pickP_len]; omega)))).1
  rcases topK_at (P := P) (In := In) In.length with h | ⟨j, hj, h⟩
  · omega
  · have := maxN_ge (zs := pickP P In) (k := In.length - 1) (j := j) (by omega)
    rw [pickP_nth hj, h] at this
    omega
/-- The different priorities. -/
theorem prios_dist {P In : List Int} : priosK P In In.length = distL (pickP P In) := by
  have h1 : ∀ k, (priosK P In k).Pairwise (· < ·) := fun k => by
    induction k with
    | zero => simp [priosK]
    | succ k ih => rw [priosK]; exact intoL_rising _ _ ih
  have h2 : ∀ x k, (x ∈ priosK P In k ↔ ∃ j, j < k ∧ nth P (nth In j).toNat = x) := fun x k => by
    induction k with
    | zero => simp [priosK]
    | succ k ih =>
      rw [priosK, intoL_mem, ih]
      constructor
      · rintro (⟨j, hj, e⟩ | e)
        · exact ⟨j, by omega, e⟩
        · exact ⟨k, by omega, e.symm⟩
      · rintro ⟨j, hj, e⟩
        by_cases h : j = k
        · subst h; exact .inr e.symm
        · exact .inl ⟨j, by omega, e⟩
  refine rising_ext (h1 _) (distL_spec _).1 fun x => ?_
  rw [h2, (distL_spec _).2, mem_nth]
  constructor
  · rintro ⟨j, hj, e⟩; exact ⟨j, by rw [pickP_len]; exact hj, by rw [pickP_nth hj]; exact e⟩
  · rintro ⟨j, hj, e⟩; rw [pickP_len] at hj; exact ⟨j, hj, by rw [pickP_nth hj] at e; exact e⟩

theorem game_len {O : List Int} {zss : List (List Int)} {P In : List Int} (h : gameB O zss P In = true) : In.length ≤ 256 ∧ P.length ≤ 256 := by
  have hg := gameB_yes h
  have h1 := hg.1.2.1
  have h2 := hg.2.1
  have h3 := setB_len (by omega) hg.2.2.2.1
  omega

set_option maxHeartbeats 4000000 in
set_option maxRecDepth 100000 in
theorem TopIn_is {w : World} {v : Value} {O : List Int} {zss : List (List Int)} {P In : List Int} {r : Int} {aI : Option Addr} (cI : Nat) (hr : topV O zss P In = r) (h : GameAt w v O zss P) (hI : IntsAt w aI In) :
    Calls Try.prog 41 #[v, .slice aI In.length cI] w fun e w' => e = .returned (.int .i64 r) ∧ Below w.heap.size w w' := by
  have HGm := Lib.hid h
  have HI := Lib.hid hI
  have hlI := hI.len
  obtain ⟨ao, an, ap, co, cn, cp, A, C, rfl, h1, h2, h3⟩ := h
  obtain ⟨w1, hw1⟩ : ∃ y, y = w.alloc (.cells #[.slice ao O.length co, .slice an zss.length cn, .slice ap P.length cp] 32) := ⟨_, rfl⟩
  have HW1 := Lib.hid hw1
  have B1 : Hid (Below w.heap.size w w1) := by rw [hw1]; exact below1 _ _
  have T1 : Hid (Box3 w1 w.heap.size 32 (.slice ao O.length co) (.slice an zss.length cn) (.slice ap P.length cp)) := by rw [hw1]; exact Box3.new _ _ _ _ _
  clear hw1 h1 h2 h3 hI
  cases hg : gameB O zss P In with
  | false =>
    have HE : Hid (r = -1) := by rw [← hr]; unfold topV; rw [hg]; simp [Hid]
    have HC := Lib.hid (isInGame_is cI hg (HGm.out.below B1.out) (HI.out.below B1.out))
    clear hr hg
    go_enter Try.func41, Try.ntmps41
    go_wp2_with fail
    rw [← HW1.out]
    refine HC.out.mono ?_
    rintro e w2 ⟨rfl, hb⟩
    have B2 := Lib.hid (B1.out.trans (hb.mono B1.out.size))
    clear hb HC
    go_wp2
    go_ret
    exact ⟨ret_i64 HE.out.symm, B2.out⟩
  | true =>
    have HC := Lib.hid (isInGame_is cI hg (HGm.out.below B1.out) (HI.out.below B1.out))
    have HGY := Lib.hid (gameB_yes hg)
    have HLI := Lib.hid (game_len hg)
    by_cases hz : In.length = 0
    · have HE : Hid (r = -1) := by rw [← hr]; unfold topV; rw [hg, hz]; rfl
      have hz1 : ((In.length : Int) == 0) = true := by rw [hz]; rfl
      clear hr hg hz
      go_enter Try.func41, Try.ntmps41
      go_wp2_with fail
      rw [← HW1.out]
      refine HC.out.mono ?_
      rintro e w2 ⟨rfl, hb⟩
      have B2 := Lib.hid (B1.out.trans (hb.mono B1.out.size))
      clear hb HC
      go_wp2
      go_ret
      exact ⟨ret_i64 HE.out.symm, B2.out⟩
    · have hz1 : ((In.length : Int) == 0) = false := beq_eq_false_iff_ne.2 (by omega)
      have HE : Hid (maxN (pickP P In) ((pickP P In).length - 1) = r) := by
        rw [← hr]; unfold topV; rw [if_pos hg]; exact (top_max HGY.out.2.2.2.2 HGY.out.2.2.1 (by omega)).symm
      have HZ : Hid (0 < (pickP P In).length) := by rw [pickP_len]; unfold Hid; omega
      clear hr hg hz
      go_enter Try.func41, Try.ntmps41
      go_wp2_with fail
      rw [← HW1.out]
      refine HC.out.mono ?_
      rintro e w2 ⟨rfl, hb⟩
      have B2 := Lib.hid (B1.out.trans (hb.mono B1.out.size))
      have T2 := Lib.hid (T1.out.below hb)
      clear hb HC
      have t0 := T2.out.c0
      have t1 := T2.out.c1
      have t2 := T2.out.c2
      go_wp2_with fail
      refine (prios_is cI (HGm.out.below B2.out) (HI.out.below B2.out) HGY.out.2.2.2.2 (by have := HLI.out; omega)).mono ?_
      rintro e w3 ⟨x, rfl, hx, hb⟩
      obtain ⟨xa, xc, hxs, hxi, _⟩ := hx.shape
      subst hxs
      have X3 := Lib.hid hxi
      have B3 := Lib.hid (B2.out.trans (hb.mono B2.out.size))
      clear hx hxi hb t0 t1 t2
      go_wp2_with fail
      refine (Max_is xc HE.out X3.out HZ.out).mono ?_
      rintro e w4 ⟨rfl, rfl⟩
      go_wp2
      go_ret
      exact ⟨rfl, B3.out⟩

set_option maxHeartbeats 4000000 in
set_option maxRecDepth 100000 in
theorem PriosIn_is {w : World} {v : Value} {O : List Int} {zss : List (List Int)} {P In r : List Int} {aI : Option Addr} (cI : Nat) (hr : priosV O zss P In = r) (h : GameAt w v O zss P) (hI : IntsAt w aI In) :
    Calls Try.prog 49 #[v, .slice aI In.length cI] w (GivesInts w r) := by
  have HGm := Lib.hid h
  have HI := Lib.hid hI
  obtain ⟨ao, an, ap, co, cn, cp, A, C, rfl, h1, h2, h3⟩ := h
  obtain ⟨w1, hw1⟩ : ∃ y, y = w.alloc (.cells #[.slice ao O.length co, .slice an zss.length cn, .slice ap P.length cp] 32) := ⟨_, rfl⟩
  have HW1 := Lib.hid hw1
  have B1 : Hid (Below w.heap.size w w1) := by rw [hw1]; exact below1 _ _
  have T1 : Hid (Box3 w1 w.heap.size 32 (.slice ao O.length co) (.slice an zss.length cn) (.slice ap P.length cp)) := by rw [hw1]; exact Box3.new _ _ _ _ _
  clear hw1 h1 h2 h3 hI
  cases hg : gameB O zss P In with
  | false =>
    have HE : Hid (r = []) := by rw [← hr]; unfold priosV; rw [hg]; simp [Hid]
    have HC := Lib.hid (isInGame_is cI hg (HGm.out.below B1.out) (HI.out.below B1.out))
    clear hr hg
    go_enter Try.func49, Try.ntmps49
    go_wp2_with fail
    rw [← HW1.out]
    refine HC.out.mono ?_
    rintro e w2 ⟨rfl, hb⟩
    have B2 := Lib.hid (B1.out.trans (hb.mono B1.out.size))
    clear hb HC
    go_wp2
    go_ret
    exact ⟨_, rfl, by rw [HE.out]; exact OwnInts.nil _ _ _, B2.out⟩
  | true =>
    have HC := Lib.hid (isInGame_is cI hg (HGm.out.below B1.out) (HI.out.below B1.out))
    have HGY := Lib.hid (gameB_yes hg)
    have HLI := Lib.hid (game_len hg)
    have HE : Hid (distL (pickP P In) = r) := by
      rw [← hr]; unfold priosV; rw [if_pos hg]; exact prios_dist.symm
    clear hr hg
    go_enter Try.func49, Try.ntmps49
    go_wp2_with fail
    rw [← HW1.out]
    refine HC.out.mono ?_
    rintro e w2 ⟨rfl, hb⟩
    have B2 := Lib.hid (B1.out.trans (hb.mono B1.out.size))
    have T2 := Lib.hid (T1.out.below hb)
    clear hb HC
    have t0 := T2.out.c0
    have t1 := T2.out.c1
    have t2 := T2.out.c2
    go_wp2_with fail
    refine (prios_is cI (HGm.out.below B2.out) (HI.out.below B2.out) HGY.out.2.2.2.2 (by have := HLI.out; omega)).mono ?_
    rintro e w3 ⟨x, rfl, hx, hb⟩
    obtain ⟨xa, xc, hxs, hxi, _⟩ := hx.shape
    subst hxs
    have X3 := Lib.hid hxi
    have B3 := Lib.hid (B2.out.trans (hb.mono B2.out.size))
    clear hx hxi hb t0 t1 t2
    go_wp2_with fail
    refine (distinct_is xc HE.out X3.out (by rw [pickP_len]; have := HLI.out; omega)).mono ?_
    rintro e w4 ⟨y, rfl, hy, hb⟩
    have B4 := Lib.hid (B3.out.trans (hb.mono B3.out.size))
    have Y4 := Lib.hid (hy.base (B' := w.heap.size) B3.out.size)
    clear hy hb
    go_wp2
    go_ret
    exact ⟨_, rfl, Y4.out, B4.out⟩

set_option maxHeartbeats 8000000 in
set_option maxRecDepth 100000 in
theorem WithPrio_is {w : World} {v : Value} {O : List Int} {zss : List (List Int)} {P In r : List Int} {aI : Option Addr} {q : Int} (cI : Nat) (hr : withV O zss P In q = r) (h : GameAt w v O zss P) (hI : IntsAt w aI In) :
    Calls Try.prog 44 #[v, .slice aI In.length cI, .int .i64 q] w (GivesInts w r) := by
  obtain ⟨i0, hi, hz0, hz1, hz2⟩ := info_parts info_int
  have HGm := Lib.hid h
  have HI := Lib.hid hI
  have hlI := hI.len
  obtain ⟨ao, an, ap, co, cn, cp, A, C, rfl, h1, h2, h3⟩ := h
  have hlP := h3.len
  have HP := Lib.hid h3
  obtain ⟨w1, hw1⟩ : ∃ y, y = w.alloc (.cells #[.slice ao O.length co, .slice an zss.length cn, .slice ap P.length cp] 32) := ⟨_, rfl⟩
  have HW1 := Lib.hid hw1
  have B1 : Hid (Below w.heap.size w w1) := by rw [hw1]; exact below1 _ _
  have T1 : Hid (Box3 w1 w.heap.size 32 (.slice ao O.length co) (.slice an zss.length cn) (.slice ap P.length cp)) := by rw [hw1]; exact Box3.new _ _ _ _ _
  clear hw1 h1 h2 h3 hI
  cases hg : gameB O zss P In with
  | false =>
    have HE : Hid (r = []) := by rw [← hr]; unfold withV; rw [hg]; simp [Hid]
    have HC := Lib.hid (isInGame_is cI hg (HGm.out.below B1.out) (HI.out.below B1.out))
    clear hr hg
    go_enter Try.func44, Try.ntmps44
    go_wp2_with fail
    rw [← HW1.out]
    refine HC.out.mono ?_
    rintro e w2 ⟨rfl, hb⟩
    have B2 := Lib.hid (B1.out.trans (hb.mono B1.out.size))
    clear hb HC
    go_wp2
    go_ret
    exact ⟨_, rfl, by rw [HE.out]; exact OwnInts.nil _ _ _, B2.out⟩
  | true =>
    have HC := Lib.hid (isInGame_is cI hg (HGm.out.below B1.out) (HI.out.below B1.out))
    have HIN : Hid (∀ x ∈ In, ∃ u : Nat, x = (u : Int) ∧ u < P.length) := (gameB_yes hg).2.2.2.2
    have HLI := Lib.hid (game_len hg)
    have HE : Hid (r = withL P In q) := by rw [← hr]; unfold withV; rw [if_pos hg]; rfl
    clear hr hg
    go_enter Try.func44, Try.ntmps44
    go_wp2_with fail
    rw [← HW1.out]
    refine HC.out.mono ?_
    rintro e w2 ⟨rfl, hb⟩
    have B2 := Lib.hid (B1.out.trans (hb.mono B1.out.size))
    have T2 := Lib.hid (T1.out.below hb)
    clear hb HC
    go_wp2
    go_loopw [7, 16] (fun ov iv wr => ∃ k : Nat, k ≤ In.length ∧ iv = .int .i64 k ∧ Hid (wr.ownsRow w2.heap.size 2 1 ov ((In.take k).filter fun x => decide (nth P x.toNat = q)).length (((In.take k).filter fun x => decide (nth P x.toNat = q)).map (Value.int .i64))) ∧ Hid (Below w2.heap.size w2 wr)) (fun _ iv _ => In.length - (intOf iv).toNat)
    case atStart => exact ⟨0, Nat.zero_le _, rfl, by simpa [Hid] using World.ownsRow_nil w2 w2.heap.size 2 1, Below.refl _ _⟩
    case round =>
      obtain ⟨k, hk, rfl, HO, HK⟩ := hrel
      have hfl : ((In.take k).filter fun x => decide (nth P x.toNat = q)).length ≤ k := Nat.le_trans (List.length_filter_le _ _) (by simp; omega)
      by_cases hlt : k < In.length
      · have hi1 : (k : Int) < In.length := by omega
        have hk0 : (0 : Int) ≤ (k : Int) := by omega
        obtain ⟨u, hu, hup⟩ := HIN.out _ (nth_mem hlt)
        have BWr := Lib.hid (B2.out.trans (HK.out.mono B2.out.size))
        obtain ⟨ib, io, hia, hic⟩ := (HI.out.below BWr.out).cell (by omega)
        obtain ⟨pb, po, hpa, hpc⟩ := (HP.out.below BWr.out).cell (by omega)
        have i1 := hic k hlt
        have p1 := hpc u hup
        rw [hu] at i1
        have hu0 : (0 : Int) ≤ (u : Int) := by omega
        have hup1 : (u : Int) < P.length := by omega
        have t2 := (T2.out.below HK.out).c2
        obtain ⟨z, hz⟩ : ∃ z, z = nth P u := ⟨_, rfl⟩
        have hst := with_step (fun x => decide (nth P x.toNat = q)) hlt
        rw [hu, Int.toNat_natCast, ← hz] at hst
        rw [← hz] at p1
        subst hia
        subst hpa
        have HST := Lib.hid hst
        have hksz := HK.out.size
        clear hic hpc hst hu hz
        by_cases hq : z = q
        · have hqe : (z == q) = true := by simpa using hq
          have HQ := Lib.hid hq
          clear hq
          go_wp2_with (at_builtin; refine wpList_append_own_at _ rfl _ _ 27 rfl w2.heap.size 2 i0 (.int .i64 0) 1 8 Try.underlying27 hi hz0 hz1 hz2 rfl (by decide) _ _ _ rfl (HO.out.alloc _) ⟨wr.heap.size, 0, none⟩ 1 1 [.int .i64 u] rfl rfl ?c1 ?c2 ?c3 ?c4 ?c5 ?_)
          try (case c1 => exact cell_one_new _ _ _)
          case c2 => first | rfl | (intro u hu; simp at hu; subst hu; rfl)
          case c3 => unfold maxLen; omega
          case c4 => omega
          case c5 => simp; omega
          intro v' w4 hown hgrow _ _
          have hg : Only (fun b => w2.heap.size ≤ b) wr w4 := (Only.of_below (below1 wr _)).trans ((Only.of_grown hgrow).mono fun b hb => (HO.out.lt b hb).1)
          have Kn := Lib.hid (HK.out.trans (hg.below HK.out.size (fun _ h => h)))
          have HOn : Hid (w4.ownsRow w2.heap.size 2 1 v' ((In.take (k + 1)).filter fun x => decide (nth P x.toNat = q)).length (((In.take (k + 1)).filter fun x => decide (nth P x.toNat = q)).map (Value.int .i64))) := by
            rw [HST.out, if_pos (decide_eq_true HQ.out), List.map_append, List.length_append]; exact hown
          clear hown hgrow hg
          go_wp2
          go_roundw
          case rel => exact ⟨k + 1, by omega, by go_num, HOn, Kn⟩
          case measure => simp [intOf]; omega
        · have hqe : (z == q) = false := beq_eq_false_iff_ne.2 hq
          have HQ := Lib.hid hq
          have HOn : Hid (wr.ownsRow w2.heap.size 2 1 u7 ((In.take (k + 1)).filter fun x => decide (nth P x.toNat = q)).length (((In.take (k + 1)).filter fun x => decide (nth P x.toNat = q)).map (Value.int .i64))) := by
            have e := HST.out
            rw [if_neg (by simpa using HQ.out), List.append_nil] at e
            rw [e]; exact HO.out
          clear hq
          go_wp2
          go_roundw
          case rel => exact ⟨k + 1, by omega, by go_num, HOn, HK⟩
          case measure => simp [intOf]; omega
      · have hi1 : ¬ (k : Int) < In.length := by omega
        have hkk : k = In.length := by omega
        rw [hkk, List.take_length] at HO
        have hfin := Lib.hid (And.intro ((OwnInts.mk' (zs := withL P In q) HO.out (by unfold withL; have := List.length_filter_le (fun x => decide (nth P x.toNat = q)) In; omega) (fun j hj => by
          have hm := nth_mem hj
          obtain ⟨u, hu, hup⟩ := HIN.out _ (List.mem_filter.1 hm).1
          rw [hu]; unfold Fits; omega)).base (B' := w.heap.size) B2.out.size) (B2.out.trans (HK.out.mono B2.out.size)))
        clear hkk HO
        go_wp2
        go_ret
        exact ⟨_, rfl, by rw [HE.out]; exact hfin.out.1, hfin.out.2⟩
end

section
open Go.RowKit

theorem same_game {O O' : List Int} {zss zss' : List (List Int)} {P P' : List Int} (hp : parityB O zss P = true) : samePB O zss P O' zss' P' = (sameB O zss O' zss' && decide (P = P')) := by
  unfold samePB
  rw [hp]
  cases hs : sameB O zss O' zss' with
  | false => simp
  | true =>
    by_cases h : P = P'
    · subst h
      have h' : ArenaP O zss ∧ ArenaP O' zss' ∧ O = O' ∧ zss = zss' := by simpa [sameB] using hs
      obtain ⟨_, _, rfl, rfl⟩ := h'
      rw [hp]; rfl
    · simp [h]

set_option maxHeartbeats 4000000 in
set_option maxRecDepth 100000 in
theorem SameParity_is {w : World} {v v' : Value} {O O' : List Int} {zss zss' : List (List Int)} {P P' : List Int} {r : Bool} (hr : samePB O zss P O' zss' P' = r) (h : GameAt w v O zss P) (h' : GameAt w v' O' zss' P') :
    Calls Try.prog 28 #[v, v'] w fun e w' => e = .returned (.bool r) ∧ Below w.heap.size w w' := by
  have HGa := Lib.hid h
  obtain ⟨ao, an, ap, co, cn, cp, A, C, rfl, h1, h2, h3⟩ := h
  obtain ⟨bo, bn, bp, do', dn, dp, A', C', rfl, g1, g2, g3⟩ := h'
  obtain ⟨w0, hw0⟩ : ∃ y, y = w.alloc (.cells #[.slice ao O.length co, .slice an zss.length cn, .slice ap P.length cp] 32) := ⟨_, rfl⟩
  have hs0 : w0.heap.size = w.heap.size + 1 := by rw [hw0]; simp
  obtain ⟨w1, hw1⟩ : ∃ y, y = w0.alloc (.cells #[.slice bo O'.length do', .slice bn zss'.length dn, .slice bp P'.length dp] 32) := ⟨_, rfl⟩
  have HW0 := Lib.hid hw0
  have HW1 := Lib.hid hw1
  have hb0 : Below w.heap.size w w0 := by rw [hw0]; exact below1 _ _
  have hb1 : Below w0.heap.size w0 w1 := by rw [hw1]; exact below1 _ _
  have B1 : Hid (Below w.heap.size w w1) := hb0.trans (hb1.mono (by omega))
  have Ta1 : Hid (Box3 w1 w.heap.size 32 (.slice ao O.length co) (.slice an zss.length cn) (.slice ap P.length cp)) := Box3.below (by rw [hw0]; exact Box3.new _ _ _ _ _) hb1
  have Tb1 : Hid (Box3 w1 (w.heap.size + 1) 32 (.slice bo O'.length do') (.slice bn zss'.length dn) (.slice bp P'.length dp)) := by rw [← hs0, hw1]; exact Box3.new _ _ _ _ _
  have HAa : Hid (ArenaAt w (.agg #[.slice ao O.length co, .slice an zss.length cn]) O zss) := ⟨_, _, _, _, _, _, rfl, h1, h2⟩
  have HAb : Hid (ArenaAt w (.agg #[.slice bo O'.length do', .slice bn zss'.length dn]) O' zss') := ⟨_, _, _, _, _, _, rfl, g1, g2⟩
  have HPa := Lib.hid h3
  have HPb := Lib.hid g3
  clear hw0 hw1 hb0 hb1 hs0 h1 h2 h3 g1 g2 g3
  cases hp : parityB O zss P with
  | false =>
    have HE : Hid (r = false) := by rw [← hr]; unfold samePB; rw [hp]; rfl
    have HC := Lib.hid (ParityOk_is hp (HGa.out.below B1.out))
    clear hr hp
    go_enter Try.func28, Try.ntmps28
    go_wp2_with fail
    rw [← HW0.out, ← HW1.out]
    refine HC.out.mono ?_
    rintro e w2 ⟨rfl, hb⟩
    have B2 := Lib.hid (B1.out.trans (hb.mono B1.out.size))
    clear hb HC
    go_wp2
    go_ret
    exact ⟨ret_bool HE.out.symm, B2.out⟩
  | true =>
    have HC := Lib.hid (ParityOk_is hp (HGa.out.below B1.out))
    rw [same_game hp] at hr
    cases hs : sameB O zss O' zss' with
    | false =>
      have HE : Hid (r = false) := by rw [← hr, hs]; rfl
      have HS := Lib.hid hs
      clear hr hp hs
      go_enter Try.func28, Try.ntmps28
      go_wp2_with fail
      rw [← HW0.out, ← HW1.out]
      refine HC.out.mono ?_
      rintro e w2 ⟨rfl, hb⟩
      have B2 := Lib.hid (B1.out.trans (hb.mono B1.out.size))
      have Ta2 := Lib.hid (Ta1.out.below hb)
      have Tb2 := Lib.hid (Tb1.out.below hb)
      clear hb HC
      have ta0 := Ta2.out.c0
      have ta1 := Ta2.out.c1
      have tb0 := Tb2.out.c0
      have tb1 := Tb2.out.c1
      go_wp2_with fail
      refine (SameArena_is HS.out (HAa.out.below B2.out) (HAb.out.below B2.out)).mono ?_
      rintro e w3 ⟨rfl, hb⟩
      have B3 := Lib.hid (B2.out.trans (hb.mono B2.out.size))
      clear hb ta0 ta1 tb0 tb1
      go_wp2
      go_ret
      exact ⟨ret_bool HE.out.symm, B3.out⟩
    | true =>
      have HE : Hid (decide (P = P') = r) := by rw [← hr, hs]; rfl
      have HS := Lib.hid hs
      clear hr hp hs
      go_enter Try.func28, Try.ntmps28
      go_wp2_with fail
      rw [← HW0.out, ← HW1.out]
      refine HC.out.mono ?_
      rintro e w2 ⟨rfl, hb⟩
      have B2 := Lib.hid (B1.out.trans (hb.mono B1.out.size))
      have Ta2 := Lib.hid (Ta1.out.below hb)
      have Tb2 := Lib.hid (Tb1.out.below hb)
      clear hb HC
      have ta0 := Ta2.out.c0
      have ta1 := Ta2.out.c1
      have tb0 := Tb2.out.c0
      have tb1 := Tb2.out.c1
      go_wp2_with fail
      refine (SameArena_is HS.out (HAa.out.below B2.out) (HAb.out.below B2.out)).mono ?_
      rintro e w3 ⟨rfl, hb⟩
      have B3 := Lib.hid (B2.out.trans (hb.mono B2.out.size))
      have Ta3 := Lib.hid (Ta2.out.below hb)
      have Tb3 := Lib.hid (Tb2.out.below hb)
      clear hb ta0 ta1 tb0 tb1
      have ta2 := Ta3.out.c2
      have tb2 := Tb3.out.c2
      go_wp2_with fail
      refine (Equal_is HE.out w3 cp dp (HPa.out.below B3.out) (HPb.out.below B3.out)).mono ?_
      rintro e w4 ⟨rfl, q, rfl⟩
      go_wp2
      go_ret
      exact ⟨rfl, below_drewN B3.out q⟩

set_option maxHeartbeats 8000000 in
set_option maxRecDepth 100000 in
theorem Flipped_is {w : World} {v : Value} {O fO P fP : List Int} {zss fN : List (List Int)} {r : Bool} (hr : flipO O zss P = fO ∧ flipN O zss P = fN ∧ flipP O zss P = fP ∧ flipB O zss P = r) (h : GameAt w v O zss P) :
    Calls Try.prog 17 #[v] w (GivesGameB w fO fN fP r) := by
  obtain ⟨j0, hj, hj0, hj1, hj2⟩ := info_parts info_int
  have HGm := Lib.hid h
  obtain ⟨ao, an, ap, co, cn, cp, A, C, rfl, h1, h2, h3⟩ := h
  obtain ⟨w1, hw1⟩ : ∃ y, y = (w.alloc (.cells #[.slice ao O.length co, .slice an zss.length cn, .slice ap P.length cp] 32)).alloc (.cells #[.slice none 0 0, .slice none 0 0, .slice none 0 0] 32) := ⟨_, rfl⟩
  have HW1 := Lib.hid hw1
  have B1 : Hid (Below w.heap.size w w1) := by rw [hw1]; exact below2 _ _ _
  have hs1 : w1.heap.size = w.heap.size + 1 + 1 := by rw [hw1]; simp
  have HS1 := Lib.hid hs1
  have T1 : Hid (Box3 w1 w.heap.size 32 (.slice ao O.length co) (.slice an zss.length cn) (.slice ap P.length cp)) := by rw [hw1]; exact (Box3.new w _ _ _ _).below (below1 _ _)
  have R1 : Hid (Box3 w1 (w.heap.size + 1) 32 (.slice none 0 0) (.slice none 0 0) (.slice none 0 0)) := by rw [hw1]; exact Box3.new2 (by simp) _ _ _ _
  have HAt : Hid (ArenaAt w (.agg #[.slice ao O.length co, .slice an zss.length cn]) O zss) := ⟨_, _, _, _, _, _, rfl, h1, h2⟩
  have HPi := Lib.hid h3
  clear hw1 h1 h2 h3 hs1
  cases hp : parityB O zss P with
  | false =>
    have HE := Lib.hid (flip_no hr (by unfold flipB; rw [hp]; rfl))
    have HC := Lib.hid (ParityOk_is hp (HGm.out.below B1.out))
    clear hr hp
    go_enter Try.func17, Try.ntmps17
    go_wp2_with fail
    rw [← HW1.out]
    refine HC.out.mono ?_
    rintro e w2 ⟨rfl, hb⟩
    have B2 := Lib.hid (B1.out.trans (hb.mono B1.out.size))
    have R2 := Lib.hid (R1.out.below hb)
    have d0 := R2.out.c0
    have d1 := R2.out.c1
    have d2 := R2.out.c2
    have g0 := World.rowIs.frozen R2.out 0
    have g1 := World.rowIs.frozen R2.out 1
    have g2 := World.rowIs.frozen R2.out 2
    clear hb HC
    go_wp2
    exact bodyPost_ret (v := .tuple #[.agg #[.slice none 0 0, .slice none 0 0, .slice none 0 0], .bool false]) (by simp [results, Try.results17, go_sem, d0, d1, d2]) rfl ⟨_, by rw [HE.out.2.2.2], by rw [HE.out.1, HE.out.2.1, HE.out.2.2.1]; exact OwnGame.zero _ _ _, zero_stored3 B2.out (by omega)⟩
  | true =>
    have hPy := parityB_iff.1 hp
    have hlP : P.length ≤ 256 := by have := hPy.1.2.1; have := hPy.2.1; omega
    have hz256 : zss.length ≤ 256 := by have := hPy.1.2.1; have := hPy.1.2.2.1; omega
    have HPB := Lib.hid hPy.2.2
    have HAP := Lib.hid hPy.1
    have HLO := Lib.hid hPy.2.1
    have HC := Lib.hid (ParityOk_is hp (HGm.out.below B1.out))
    clear hPy
    by_cases h40 : (40 : Int) ∈ P
    · have HE := Lib.hid (flip_no hr (by unfold flipB; rw [hp]; simp [h40]))
      have HH : Hid (hasB P 40 = true) := by unfold Hid hasB; simpa using h40
      clear hr hp h40
      go_enter Try.func17, Try.ntmps17
      go_wp2_with fail
      rw [← HW1.out]
      refine HC.out.mono ?_
      rintro e w2 ⟨rfl, hb⟩
      have B2 := Lib.hid (B1.out.trans (hb.mono B1.out.size))
      have T2 := Lib.hid (T1.out.below hb)
      have R2 := Lib.hid (R1.out.below hb)
      have t2 := T2.out.c2
      clear hb HC
      go_wp2_with fail
      refine (Contains_is HH.out cp w2 (HPi.out.below B2.out)).mono ?_
      rintro e w3 ⟨rfl, rfl⟩
      have d0 := R2.out.c0
      have d1 := R2.out.c1
      have d2 := R2.out.c2
      have g0 := World.rowIs.frozen R2.out 0
      have g1 := World.rowIs.frozen R2.out 1
      have g2 := World.rowIs.frozen R2.out 2
      clear t2
      go_wp2
      exact bodyPost_ret (v := .tuple #[.agg #[.slice none 0 0, .slice none 0 0, .slice none 0 0], .bool false]) (by simp [results, Try.results17, go_sem, d0, d1, d2]) rfl
        ⟨_, by rw [HE.out.2.2.2], by rw [HE.out.1, HE.out.2.1, HE.out.2.2.1]; exact OwnGame.zero _ _ _, zero_stored3 B2.out (by omega)⟩
    · have HE := Lib.hid (flip_yes hr (by unfold flipB; rw [hp]; simp [h40]))
      have HH : Hid (hasB P 40 = false) := by unfold Hid hasB; simpa using h40
      have H40 : Hid (∀ x ∈ P, 0 ≤ x ∧ x < 40) := fun x hx => by
        have h := HPB.out x hx
        have hne : x ≠ 40 := fun e => h40 (e ▸ hx)
        omega
      clear hr hp h40
      go_enter Try.func17, Try.ntmps17
      go_wp2_with fail
      rw [← HW1.out]
      refine HC.out.mono ?_
      rintro e w4 ⟨rfl, hb⟩
      have B4 := Lib.hid (B1.out.trans (hb.mono B1.out.size))
      have T4 := Lib.hid (T1.out.below hb)
      have R4 := Lib.hid (R1.out.below hb)
      have K4 : Hid (w1.heap.size ≤ w4.heap.size) := hb.size
      have t2 := T4.out.c2
      clear hb HC
      go_wp2_with fail
      refine (Contains_is HH.out cp w4 (HPi.out.below B4.out)).mono ?_
      rintro e w3 ⟨rfl, rfl⟩
      have c0 := T4.out.c0
      have c1 := T4.out.c1
      clear t2
      go_wp2_with fail
      refine (Turned_is ⟨by unfold turnedO; rw [if_pos HAP.out], by unfold turnedN; rw [if_pos HAP.out]⟩ (HAt.out.below B4.out)).mono ?_
      rintro e w5 ⟨x, rfl, hx, hb⟩
      have hs4 := B4.out.size
      have hs14 : w1.heap.size ≤ w4.heap.size := K4.out
      obtain ⟨vo, vn, V, rfl, x1, x2, x3⟩ := hx
      obtain ⟨a1, e1, hvs, _, _⟩ := x1.shape
      rw [turnO_len] at hvs
      subst hvs
      obtain ⟨a2, e2, hvs, _, _⟩ := x2.shape
      subst hvs
      have X1 := Lib.hid x1
      have X2 := Lib.hid x2
      have X3 := Lib.hid x3
      have B5 := Lib.hid (B4.out.trans (hb.mono B4.out.size))
      have K5 := Lib.hid hb
      have T5 := Lib.hid (T4.out.below hb)
      clear hb x1 x2 x3 c0 c1
      have hn5 : w4.heap.size ≤ w5.heap.size := K5.out.size
      have HF : Hid (Half5 w4.heap.size (w5.alloc (.cells #[.slice a1 O.length e1, .slice a2 zss.length e2, .slice none 0 0] 32)) w5.heap.size (.slice a1 O.length e1) (.slice a2 zss.length e2) (.slice none 0 0) V (turnO O) zss (moreP (P.take 0))) :=
        ⟨hn5, tri3_new _ _ _ _ _, (X1.out.below (below1 _ _)).retop, (X2.out.below (below1 _ _)).retop, OwnInts.nil _ _ _, X3.out, fun _ _ _ _ hh => by simp [Value.ownBlock] at hh, fun _ _ hh => by simp [Value.ownBlock] at hh⟩
      have KF : Hid (Below w4.heap.size w4 (w5.alloc (.cells #[.slice a1 O.length e1, .slice a2 zss.length e2, .slice none 0 0] 32))) := K5.out.trans ((below1 _ _).mono hn5)
      have t2 := T5.out.c2
      have t2a := (T5.out.below (below1 w5 (.cells #[.slice a1 O.length e1, .slice a2 zss.length e2, .slice none 0 0] 32))).c2
      clear X1 X2 X3 K5 B5 T5
      go_wp2
      clear t2 t2a
      go_loopw [23] (fun v wr => ∃ (k : Nat) (vp : Value), k ≤ P.length ∧ v = .int .i64 k ∧ Hid (Half5 w4.heap.size wr w5.heap.size (.slice a1 O.length e1) (.slice a2 zss.length e2) vp V (turnO O) zss (moreP (P.take k))) ∧ Hid (Below w4.heap.size w4 wr)) (fun v _ => P.length - (intOf v).toNat)
      case atStart => exact ⟨0, _, Nat.zero_le _, rfl, HF, KF⟩
      case round =>
        clear HF KF
        obtain ⟨k, vp, hk, rfl, HF, KF⟩ := hrel
        have hmk : (moreP (P.take k)).length = k := by rw [moreP_len, List.length_take]; omega
        by_cases hlt : k < P.length
        · have hi1 : (k : Int) < P.length := by omega
          have hk0 : (0 : Int) ≤ (k : Int) := by omega
          obtain ⟨pb, po, hpa, hpc⟩ := (HPi.out.below (B4.out.trans (KF.out.mono B4.out.size))).cell (by omega)
          have p1 := hpc k hlt
          subst hpa
          obtain ⟨q, hq⟩ : ∃ q, q = nth P k := ⟨_, rfl⟩
          have hq1 := H40.out _ (nth_mem hlt)
          have HMT := Lib.hid (moreP_take hlt)
          rw [← hq] at p1 hq1 HMT
          obtain ⟨hq2, hq3⟩ := hq1
          have hw1q : IntKind.i64.wrap (q + 1) = q + 1 := IntWalk.i64_in _ (by omega)
          obtain ⟨a3, c3, hvs, _, _⟩ := HF.out.prio.shape
          rw [hmk] at hvs
          subst hvs
          have HOWN : Hid (wr.ownsRow w4.heap.size 2 1 (.slice a3 k c3) k ((moreP (P.take k)).map (Value.int .i64))) := by rw [← hmk]; have := HF.out.prio.own; rw [hmk] at this ⊢; exact this
          have s2 : wr.cell? ⟨w5.heap.size, 2, none⟩ = some (.slice a3 k c3) := HF.out.str.cell (i := 2) (by omega)
          have hsr : w4.heap.size ≤ wr.heap.size := KF.out.size
          have HFb := Lib.hid (HF.out.keep (below1 wr (.cells #[.int .i64 (q + 1)] 2)))
          clear hpc hq
          go_wp2_with (at_builtin; refine wpList_append_lies _ rfl _ _ 27 rfl w4.heap.size 2 j0 (.int .i64 0) 1 8 Try.underlying27 hj hj0 hj1 hj2 rfl (by decide) _ _ _ rfl (HOWN.out.alloc _) ⟨wr.heap.size, 0, none⟩ 1 1 [.int .i64 (q + 1)] rfl rfl ?c1 ?c2 (by omega) ?c3 ?c4 ?c5 (wr.heap.size + 1) ?c6 ?_)
          case c1 => exact cell_one_new _ _ _
          case c2 => intro u hu; simp at hu; subst hu; rfl
          case c3 => unfold maxLen; omega
          case c4 => omega
          case c5 => simp; omega
          case c6 => simp
          intro gg cap w8 hown8 hgrow hat hlt8
          have hbx := game_grown HFb.out.str (HOWN.out.alloc _) (by decide) hgrow
          have q8 : w8.cell? ⟨w5.heap.size, 2, none⟩ = some (.slice a3 k c3) := hbx.cell (i := 2) (by omega)
          have p8 := hbx.frozen 2
          have hp9 := HFb.out.prior (cap := cap) (gg := gg) (x := q + 1) (by rw [hmk]; omega) (by unfold Fits; omega) (by rw [hmk]; exact hown8) (by exact hgrow) (hat.imp_right fun h => by simp; omega)
          rw [hmk, ← HMT.out] at hp9
          have H9 := Lib.hid hp9.1
          have K9 := Lib.hid ((KF.out.trans ((below1 wr (.cells #[.int .i64 (q + 1)] 2)).mono KF.out.size)).trans (hp9.2.below (B := w4.heap.size) (by rw [World.size_alloc]; exact Nat.le_succ_of_le hsr) (fun b hb => hb)))
          clear hp9 hown8 hgrow hat hbx s2
          go_wp2
          go_roundw
          case rel => exact ⟨k + 1, _, by omega, by go_num, H9, K9⟩
          case measure => simp [intOf]; omega
        · have hi1 : ¬ (k : Int) < P.length := by omega
          have hkk : k = P.length := by omega
          rw [hkk, List.take_length] at HF
          obtain ⟨a3, c3, hvs, _, _⟩ := HF.out.prio.shape
          rw [moreP_len] at hvs
          subst hvs
          have Rr := Lib.hid (R4.out.below KF.out)
          have Br := Lib.hid (B4.out.trans (KF.out.mono B4.out.size))
          have s0 : wr.cell? ⟨w5.heap.size, 0, none⟩ = some (.slice a1 O.length e1) := HF.out.str.cell (i := 0) (by omega)
          have s1 : wr.cell? ⟨w5.heap.size, 1, none⟩ = some (.slice a2 zss.length e2) := HF.out.str.cell (i := 1) (by omega)
          have s2 : wr.cell? ⟨w5.heap.size, 2, none⟩ = some (.slice a3 P.length c3) := HF.out.str.cell (i := 2) (by omega)
          have r0 := Rr.out.c0
          have r1 := Rr.out.c1
          have r2 := Rr.out.c2
          have g0 := World.rowIs.frozen Rr.out 0
          have g1 := World.rowIs.frozen Rr.out 1
          have g2 := World.rowIs.frozen Rr.out 2
          have hst := game_stored (w := w) (wr := wr) (t := w.heap.size + 1) (n := w4.heap.size) Rr.out HF.out.game (by omega) (by omega) (by have := HS1.out; omega) Br.out
          have HST := Lib.hid hst
          have u0 := hst.2.2.c0
          have u1 := hst.2.2.c1
          have u2 := hst.2.2.c2
          clear hst
          go_wp2
          exact bodyPost_ret (v := .tuple #[.agg #[.slice a1 O.length e1, .slice a2 zss.length e2, .slice a3 P.length c3], .bool true]) (by simp [results, Try.results17, go_sem, u0, u1, u2]) rfl
            ⟨_, by rw [HE.out.2.2.2], by rw [HE.out.1, HE.out.2.1, HE.out.2.2.1]; exact HST.out.1, HST.out.2.1⟩
end

section
open Go.RowKit

theorem OwnArena.base {w : World} {B B' D : Nat} {v : Value} {O : List Int} {zss : List (List Int)} (h : OwnArena w B D v O zss) (hB : B' ≤ B) : OwnArena w B' D v O zss := by
  obtain ⟨vo, vn, V, hv, h1, h2, h4⟩ := h
  exact ⟨vo, vn, V, hv, h1.base hB, h2.base hB, h4⟩

theorem OwnArena.top34 {w : World} {B D D' : Nat} {v : Value} {O : List Int} {zss : List (List Int)} (h : OwnArena w B D v O zss) (hD : D ≤ D') : OwnArena w B D' v O zss := by
  obtain ⟨vo, vn, V, hv, h1, h2, h4⟩ := h
  refine ⟨vo, vn, V, hv, ⟨h1.own, fun g hg => by have := h1.top g hg; omega, h1.len, h1.fits⟩, ⟨h2.own, fun g hg => by have := h2.top g hg; omega, h2.len, fun k hk => ?_, h2.apart⟩, h4⟩
  have h := h2.rows k hk
  exact ⟨h.own, fun g hg => by have := h.top g hg; omega, h.len, h.fits⟩

set_option maxHeartbeats 8000000 in
set_option maxRecDepth 100000 in
theorem SubgameOf_is {w : World} {v : Value} {O rO P rP S : List Int} {zss rN : List (List Int)} {aS : Option Addr} {r : Bool} (cS : Nat) (hr : subO O zss P S = rO ∧ subN O zss P S = rN ∧ subP O zss P S = rP ∧ subB O zss P S = r) (h : GameAt w v O zss P) (hS : IntsAt w aS S) :
    Calls Try.prog 53 #[v, .slice aS S.length cS] w (GivesGameB w rO rN rP r) := by
  have HGm := Lib.hid h
  have HSi := Lib.hid hS
  have hlS := hS.len
  obtain ⟨ao, an, ap, co, cn, cp, A, C, rfl, h1, h2, h3⟩ := h
  obtain ⟨w1, hw1⟩ : ∃ y, y = (w.alloc (.cells #[.slice ao O.length co, .slice an zss.length cn, .slice ap P.length cp] 32)).alloc (.cells #[.slice none 0 0, .slice none 0 0, .slice none 0 0] 32) := ⟨_, rfl⟩
  have HW1 := Lib.hid hw1
  have B1 : Hid (Below w.heap.size w w1) := by rw [hw1]; exact below2 _ _ _
  have hs1 : w1.heap.size = w.heap.size + 1 + 1 := by rw [hw1]; simp
  have HS1 := Lib.hid hs1
  have T1 : Hid (Box3 w1 w.heap.size 32 (.slice ao O.length co) (.slice an zss.length cn) (.slice ap P.length cp)) := by rw [hw1]; exact (Box3.new w _ _ _ _).below (below1 _ _)
  have R1 : Hid (Box3 w1 (w.heap.size + 1) 32 (.slice none 0 0) (.slice none 0 0) (.slice none 0 0)) := by rw [hw1]; exact Box3.new2 (by simp) _ _ _ _
  have HAt : Hid (ArenaAt w (.agg #[.slice ao O.length co, .slice an zss.length cn]) O zss) := ⟨_, _, _, _, _, _, rfl, h1, h2⟩
  have HPi := Lib.hid h3
  clear hw1 h1 h2 h3 hs1 hS
  obtain ⟨iO, hiO⟩ : ∃ x, insideO O zss S = x := ⟨_, rfl⟩
  obtain ⟨iN, hiN⟩ : ∃ x, insideN O zss S = x := ⟨_, rfl⟩
  have HIO := Lib.hid hiO
  have HIN := Lib.hid hiN
  cases hp : parityB O zss P with
  | false =>
    have HE := Lib.hid (sub_no hr (by unfold subB; rw [hp]; rfl))
    have HC := Lib.hid (ParityOk_is hp (HGm.out.below B1.out))
    clear hr hiO hiN hp
    go_enter Try.func53, Try.ntmps53
    go_wp2_with fail
    rw [← HW1.out]
    refine HC.out.mono ?_
    rintro e w2 ⟨rfl, hb⟩
    have B2 := Lib.hid (B1.out.trans (hb.mono B1.out.size))
    have R2 := Lib.hid (R1.out.below hb)
    have d0 := R2.out.c0
    have d1 := R2.out.c1
    have d2 := R2.out.c2
    have g0 := World.rowIs.frozen R2.out 0
    have g1 := World.rowIs.frozen R2.out 1
    have g2 := World.rowIs.frozen R2.out 2
    clear hb HC
    go_wp2
    exact bodyPost_ret (v := .tuple #[.agg #[.slice none 0 0, .slice none 0 0, .slice none 0 0], .bool false]) (by simp [results, Try.results53, go_sem, d0, d1, d2]) rfl
      ⟨_, by rw [HE.out.2.2.2], by rw [HE.out.1, HE.out.2.1, HE.out.2.2.1]; exact OwnGame.zero _ _ _, zero_stored3 B2.out (by omega)⟩
  | true =>
    have HC := Lib.hid (ParityOk_is hp (HGm.out.below B1.out))
    cases hi : insideB O zss S with
    | false =>
      have HE := Lib.hid (sub_no hr (by unfold subB; rw [hi]; simp))
      have HI := Lib.hid (And.intro HIO.out (And.intro HIN.out hi))
      clear hr hiO hiN hp hi
      go_enter Try.func53, Try.ntmps53
      go_wp2_with fail
      rw [← HW1.out]
      refine HC.out.mono ?_
      rintro e w2 ⟨rfl, hb⟩
      have B2 := Lib.hid (B1.out.trans (hb.mono B1.out.size))
      have R2 := Lib.hid (R1.out.below hb)
      have T2 := Lib.hid (T1.out.below hb)
      have t0 := T2.out.c0
      have t1 := T2.out.c1
      clear hb HC
      go_wp2_with fail
      refine (InsideOf_is cS HI.out (HAt.out.below B2.out) (HSi.out.below B2.out)).mono ?_
      rintro e w3 ⟨x, rfl, hx, hb⟩
      obtain ⟨a1, e1, a2, e2, V, rfl, x1, x2, x3⟩ := hx.shape3
      have hb3 := hb.trans ((below1 w3 (.cells #[.slice a1 iO.length e1, .slice a2 iN.length e2] 30)).mono hb.size)
      have B3 := Lib.hid (B2.out.trans (hb3.mono B2.out.size))
      have R3 := Lib.hid (R2.out.below hb3)
      have d0 := R3.out.c0
      have d1 := R3.out.c1
      have d2 := R3.out.c2
      have g0 := World.rowIs.frozen R3.out 0
      have g1 := World.rowIs.frozen R3.out 1
      have g2 := World.rowIs.frozen R3.out 2
      clear hx hb x1 x2 x3 hb3 t0 t1
      go_wp2
      exact bodyPost_ret (v := .tuple #[.agg #[.slice none 0 0, .slice none 0 0, .slice none 0 0], .bool false]) (by simp [results, Try.results53, go_sem, d0, d1, d2]) rfl
        ⟨_, by rw [HE.out.2.2.2], by rw [HE.out.1, HE.out.2.1, HE.out.2.2.1]; exact OwnGame.zero _ _ _, zero_stored3 B3.out (by omega)⟩
    | true =>
      have hPy := parityB_iff.1 hp
      have hiP : InsideP O zss S := by simpa [insideB] using hi
      have hlP : P.length ≤ 256 := by have := hPy.1.2.1; have := hPy.2.1; omega
      have HSB : Hid (∀ x ∈ S, ∃ u : Nat, x = (u : Int) ∧ u < P.length) := fun x hx => by
        obtain ⟨i, hi', rfl⟩ := mem_nth.1 hx
        obtain ⟨h0, h1, _⟩ := setB_bounds hiP.2.1 hi'
        have := hPy.2.1
        exact ⟨(nth S i).toNat, by omega, by omega⟩
      have hlS2 : S.length ≤ 256 := by
        have h := setB_len (Int.natCast_nonneg _) hiP.2.1
        have := hPy.1.2.1
        omega
      have HE := Lib.hid (sub_yes hr (by unfold subB; rw [hp, hi]; rfl))
      have HI := Lib.hid (And.intro HIO.out (And.intro HIN.out hi))
      clear hr hi hiO hiN hp hPy hiP
      go_enter Try.func53, Try.ntmps53
      go_wp2_with fail
      rw [← HW1.out]
      refine HC.out.mono ?_
      rintro e w2 ⟨rfl, hb⟩
      have B2 := Lib.hid (B1.out.trans (hb.mono B1.out.size))
      have R2 := Lib.hid (R1.out.below hb)
      have T2 := Lib.hid (T1.out.below hb)
      have K2 : Hid (w1.heap.size ≤ w2.heap.size) := hb.size
      have t0 := T2.out.c0
      have t1 := T2.out.c1
      clear hb HC
      go_wp2_with fail
      refine (InsideOf_is cS HI.out (HAt.out.below B2.out) (HSi.out.below B2.out)).mono ?_
      rintro e w3 ⟨x, rfl, hx, hb⟩
      obtain ⟨a1, e1, a2, e2, V, rfl, x1, x2, x3⟩ := hx.shape3
      have X3 := Lib.hid hx
      obtain ⟨w4, hw4⟩ : ∃ y, y = w3.alloc (.cells #[.slice a1 iO.length e1, .slice a2 iN.length e2] 30) := ⟨_, rfl⟩
      have HW4 := Lib.hid hw4
      have hb34 : Below w3.heap.size w3 w4 := by rw [hw4]; exact below1 w3 _
      have hb4 : Below w2.heap.size w2 w4 := hb.trans (hb34.mono hb.size)
      have A4 : Hid (Box2 w4 w3.heap.size 30 (.slice a1 iO.length e1) (.slice a2 iN.length e2)) := by rw [hw4]; exact Box2.new _ _ _ _
      have L4 := Lib.hid hb34
      have hs23 : w2.heap.size ≤ w3.heap.size := hb.size
      have hs34 : w3.heap.size ≤ w4.heap.size := hb34.size
      have B4 := Lib.hid (B2.out.trans (hb4.mono B2.out.size))
      have R4 := Lib.hid (R2.out.below hb4)
      have T4 := Lib.hid (T2.out.below hb4)
      clear hx hb x1 x2 x3 hb34 hb4 hw4 t0 t1
      go_wp2
      rw [← HW4.out]
      have t0 := T4.out.c0
      have t1 := T4.out.c1
      have t2 := T4.out.c2
      have s0 := A4.out.cell0
      have s1 := A4.out.cell1
      have hd4 : Below w4.heap.size w4 w4.drew := (Below.refl _ _).drew
      have HD4 := Lib.hid hd4
      have B5 := Lib.hid (B4.out.trans (hd4.mono B4.out.size))
      clear hd4
      have hne1 : w3.heap.size ≠ w.heap.size + 1 := by have := HS1.out; have := K2.out; omega
      have hne2 : w.heap.size + 1 ≠ w3.heap.size := fun e => hne1 e.symm
      go_region_held3 (fun w' => w'.cell? ⟨w.heap.size, 0, none⟩ = some (.slice ao O.length co) ∧ w'.cell? ⟨w.heap.size, 1, none⟩ = some (.slice an zss.length cn) ∧ w'.cell? ⟨w.heap.size, 2, none⟩ = some (.slice ap P.length cp) ∧ w'.cell? ⟨w3.heap.size, 0, none⟩ = some (.slice a1 iO.length e1) ∧ w'.cell? ⟨w3.heap.size, 1, none⟩ = some (.slice a2 iN.length e2))
        (first
          | go_keep
          | exact ⟨q0, q1, q2, q3, q4⟩
          | (refine ⟨?_, ?_, ?_, ?_, ?_⟩ <;> go_keep))
        (first
          | (go_at_call 90; refine (prios_is cS (HGm.out.below B5.out) (HSi.out.below B5.out) HSB.out (by omega)).mono ?_; rintro e w6 ⟨y, rfl, hy, hb⟩; obtain ⟨ya, yc, hys, _, _⟩ := hy.shape; rw [pickP_len] at hys; subst hys; have Y6 := Lib.hid hy; have K6 := Lib.hid (HD4.out.trans (hb.mono HD4.out.size)); have B6 := Lib.hid (B4.out.trans (K6.out.mono B4.out.size)); have R6 := Lib.hid (R4.out.below K6.out); have q0 := (T4.out.below K6.out).c0; have q1 := (T4.out.below K6.out).c1; have q2 := (T4.out.below K6.out).c2; have q3 := (A4.out.below K6.out).cell0; have q4 := (A4.out.below K6.out).cell1; have d0 := R6.out.c0; have d1 := R6.out.c1; have d2 := R6.out.c2; have g0 := World.rowIs.frozen R6.out 0; have g1 := World.rowIs.frozen R6.out 1; have g2 := World.rowIs.frozen R6.out 2; clear hy hb))
      all_goals (
        have hgame : OwnGame w6 w2.heap.size w6.heap.size (.agg #[.slice a1 iO.length e1, .slice a2 iN.length e2, .slice ya S.length yc]) iO iN (pickP P S) :=
          OwnGame.of_parts (M := w4.heap.size) (((X3.out.below L4.out).below K6.out).top34 hs34) (Y6.out.base (Nat.le_refl _)) (by omega) K6.out.size
        have hst := game_stored (w := w) (wr := w6) (t := w.heap.size + 1) (n := w2.heap.size) R6.out hgame (by have := B2.out.size; omega) (by omega) (by have := HS1.out; have := K2.out; omega) B6.out
        have HST := Lib.hid hst
        have u0 := hst.2.2.c0
        have u1 := hst.2.2.c1
        have u2 := hst.2.2.c2
        clear hst hgame
        go_wp2
        exact bodyPost_ret (v := .tuple #[.agg #[.slice a1 iO.length e1, .slice a2 iN.length e2, .slice ya S.length yc], .bool true]) (by simp [results, Try.results53, go_sem, u0, u1, u2]) rfl
          ⟨_, by rw [HE.out.2.2.2], by rw [HE.out.1, HE.out.2.1, HE.out.2.2.1, HIO.out, HIN.out]; exact HST.out.1, HST.out.2.1⟩)
end

section
open Go.RowKit

/-- The last priority that was given, when k of the rising priorities have been passed; 0 before. -/
def lastK (ps : List Int) : Nat → Int
  | 0 => 0
  | k + 1 => pStep (lastK ps k) (nth ps k)
theorem last_num (ps : List Int) : ∀ k, lastK ps (k + 1) = numF ps k
  | 0 => by
    rw [num_zero]
    show pStep 0 (nth ps 0) = _
    unfold pStep
    split <;> omega
  | k + 1 => by
    rw [num_step, ← last_num ps k]; rfl
theorem last_bound (ps : List Int) : ∀ k, 0 ≤ lastK ps k ∧ lastK ps k ≤ k
  | 0 => by simp [lastK]
  | k + 1 => by
    have := last_bound ps k
    rw [lastK, pStep]
    split <;> omega
/-- What each priority becomes, when k of the rising priorities have been passed. -/
def becF (ps : List Int) : Nat → Nat → Int
  | 0, _ => 0
  | k + 1, x => if x = (nth ps k).toNat then lastK ps (k + 1) else becF ps k x
theorem becF_at {ps : List Int} (hr : ps.Pairwise (· < ·)) (h0 : ∀ i, i < ps.length → 0 ≤ nth ps i) {i : Nat} (hi : i < ps.length) : ∀ k, k ≤ ps.length → i < k → becF ps k (nth ps i).toNat = numF ps i
  | 0, _, h => absurd h (Nat.not_lt_zero _)
  | k + 1, hk, h => by
    rw [becF]
    by_cases e : i = k
    · subst e; rw [if_pos rfl, last_num]
    · have h1 := h0 i hi
      have h2 := h0 k (by omega)
      rw [if_neg (fun hh => e (rising_inj hr hi (by omega) (by omega))), becF_at hr h0 hi k (by omega) (by omega)]
/-- What the vertices' priorities become. -/
theorem becF_press {P : List Int} (h : ∀ x ∈ P, 0 ≤ x ∧ x ≤ 40) {v : Nat} (hv : v < P.length) : becF (allP P) (allP P).length (nth P v).toNat = nth (pressL P) v := by
  obtain ⟨i, hi, e⟩ := allP_at hv
  rw [pressL_at hv hi e, e]
  exact becF_at (allP_rising P) (allP_pos h) hi _ (Nat.le_refl _) hi
theorem dist_all (P : List Int) : distL P = allP P :=
  rising_ext (distL_spec P).1 (allP_rising P) fun x => by rw [(distL_spec P).2, allP_mem]

def numsF (f : Nat → Int) : Nat → Value := fun i => .int .i64 (f i)
theorem numsF_set {w : World} {b n v : Nat} {t : TypeId} {f : Nat → Int} {x : Int} (h : w.rowIs b t n (numsF f)) : (w.setCell ⟨b, v, none⟩ (.int .i64 x)).rowIs b t n (numsF fun i => if i = v then x else f i) :=
  World.rowIs.congr (h.set v (.int .i64 x)) fun i _ => by
    unfold numsF
    by_cases e : i = v <;> simp [e]
/-- The table of what each priority becomes, just made. -/
theorem table_new (w : World) : (w.alloc (.cells #[.int .i64 0, .int .i64 0, .int .i64 0, .int .i64 0, .int .i64 0, .int .i64 0, .int .i64 0, .int .i64 0, .int .i64 0, .int .i64 0, .int .i64 0, .int .i64 0, .int .i64 0, .int .i64 0, .int .i64 0, .int .i64 0, .int .i64 0, .int .i64 0, .int .i64 0, .int .i64 0, .int .i64 0, .int .i64 0, .int .i64 0, .int .i64 0, .int .i64 0, .int .i64 0, .int .i64 0, .int .i64 0, .int .i64 0, .int .i64 0, .int .i64 0, .int .i64 0, .int .i64 0, .int .i64 0, .int .i64 0, .int .i64 0, .int .i64 0, .int .i64 0, .int .i64 0, .int .i64 0, .int .i64 0] 71)).rowIs w.heap.size 71 41 (numsF fun _ => 0) := by
  refine ⟨_, heap_alloc_new w _, by simp, fun j hj => ?_⟩
  have e : (#[.int .i64 0, .int .i64 0, .int .i64 0, .int .i64 0, .int .i64 0, .int .i64 0, .int .i64 0, .int .i64 0, .int .i64 0, .int .i64 0, .int .i64 0, .int .i64 0, .int .i64 0, .int .i64 0, .int .i64 0, .int .i64 0, .int .i64 0, .int .i64 0, .int .i64 0, .int .i64 0, .int .i64 0, .int .i64 0, .int .i64 0, .int .i64 0, .int .i64 0, .int .i64 0, .int .i64 0, .int .i64 0, .int .i64 0, .int .i64 0, .int .i64 0, .int .i64 0, .int .i64 0, .int .i64 0, .int .i64 0, .int .i64 0, .int .i64 0, .int .i64 0, .int .i64 0, .int .i64 0, .int .i64 0] : Array Value) = Array.replicate 41 (.int .i64 0) := rfl
  rw [e]
  simp [numsF, hj]

set_option maxHeartbeats 8000000 in
set_option maxRecDepth 100000 in
theorem Pressed_is {w : World} {v : Value} {O gO P gP : List Int} {zss gN : List (List Int)} (hr : pressO O zss P = gO ∧ pressN O zss P = gN ∧ pressV O zss P = gP) (h : GameAt w v O zss P) :
    Calls Try.prog 18 #[v] w (GivesGame w gO gN gP) := by
  obtain ⟨j0, hj, hj0, hj1, hj2⟩ := info_parts info_int
  have HGm := Lib.hid h
  obtain ⟨ao, an, ap, co, cn, cp, A, C, rfl, h1, h2, h3⟩ := h
  obtain ⟨w1, hw1⟩ : ∃ y, y = (w.alloc (.cells #[.slice ao O.length co, .slice an zss.length cn, .slice ap P.length cp] 32)).alloc (.cells #[.slice none 0 0, .slice none 0 0, .slice none 0 0] 32) := ⟨_, rfl⟩
  have HW1 := Lib.hid hw1
  have B1 : Hid (Below w.heap.size w w1) := by rw [hw1]; exact below2 _ _ _
  have hs1 : w1.heap.size = w.heap.size + 1 + 1 := by rw [hw1]; simp
  have HS1 := Lib.hid hs1
  have T1 : Hid (Box3 w1 w.heap.size 32 (.slice ao O.length co) (.slice an zss.length cn) (.slice ap P.length cp)) := by rw [hw1]; exact (Box3.new w _ _ _ _).below (below1 _ _)
  have R1 : Hid (Box3 w1 (w.heap.size + 1) 32 (.slice none 0 0) (.slice none 0 0) (.slice none 0 0)) := by rw [hw1]; exact Box3.new2 (by simp) _ _ _ _
  have HAt : Hid (ArenaAt w (.agg #[.slice ao O.length co, .slice an zss.length cn]) O zss) := ⟨_, _, _, _, _, _, rfl, h1, h2⟩
  have HPi := Lib.hid h3
  clear hw1 h1 h2 h3 hs1
  cases hp : parityB O zss P with
  | false =>
    have HE := Lib.hid (press_no hr hp)
    have HC := Lib.hid (ParityOk_is hp (HGm.out.below B1.out))
    clear hr hp
    go_enter Try.func18, Try.ntmps18
    go_wp2_with fail
    rw [← HW1.out]
    refine HC.out.mono ?_
    rintro e w2 ⟨rfl, hb⟩
    have B2 := Lib.hid (B1.out.trans (hb.mono B1.out.size))
    have R2 := Lib.hid (R1.out.below hb)
    have d0 := R2.out.c0
    have d1 := R2.out.c1
    have d2 := R2.out.c2
    have g0 := World.rowIs.frozen R2.out 0
    have g1 := World.rowIs.frozen R2.out 1
    have g2 := World.rowIs.frozen R2.out 2
    clear hb HC
    go_wp2
    exact bodyPost_ret (v := .agg #[.slice none 0 0, .slice none 0 0, .slice none 0 0]) (by simp [results, Try.results18, go_sem, d0, d1, d2]) rfl
      ⟨_, rfl, by rw [HE.out.1, HE.out.2.1, HE.out.2.2]; exact OwnGame.zero _ _ _, zero_stored3 B2.out (by omega)⟩
  | true =>
    have hPy := parityB_iff.1 hp
    have hlP : P.length ≤ 256 := by have := hPy.1.2.1; have := hPy.2.1; omega
    have hlP0 : 0 < P.length := by have := hPy.1.1; have := hPy.2.1; omega
    have hz256 : zss.length ≤ 1048576 := by have := hPy.1.2.1; have := hPy.1.2.2.1; omega
    have HE := Lib.hid (press_yes hr hp)
    have HC := Lib.hid (ParityOk_is hp (HGm.out.below B1.out))
    obtain ⟨ps, hps⟩ : ∃ ps, ps = allP P := ⟨_, rfl⟩
    have HPS := Lib.hid hps
    have HPD : Hid (distL P = ps) := by rw [hps]; exact dist_all P
    have hpsl : ps.length ≤ 256 := by
      have := distL_len P
      rw [HPD.out] at this
      omega
    have HPB : Hid (∀ i, i < ps.length → ∃ q : Nat, nth ps i = (q : Int) ∧ q < 41) := fun i hi => by
      have := hPy.2.2 _ (allP_mem.1 (by rw [← HPS.out]; exact nth_mem hi))
      exact ⟨(nth ps i).toNat, by omega, by omega⟩
    have HP41 : Hid (∀ i, i < P.length → ∃ q : Nat, nth P i = (q : Int) ∧ q < 41) := fun i hi => by
      have := hPy.2.2 _ (nth_mem hi)
      exact ⟨(nth P i).toNat, by omega, by omega⟩
    have HBP : Hid (∀ v, v < P.length → becF ps ps.length (nth P v).toNat = nth (pressL P) v) := by rw [hps]; exact fun v hv => becF_press hPy.2.2 hv
    have HPF : Hid (∀ x ∈ pressL P, 0 ≤ x ∧ x ≤ 40) := press_bound hPy.2.2
    clear hr hp hps hPy
    go_enter Try.func18, Try.ntmps18
    go_wp2_with fail
    rw [← HW1.out]
    refine HC.out.mono ?_
    rintro e w2 ⟨rfl, hb⟩
    have B2 := Lib.hid (B1.out.trans (hb.mono B1.out.size))
    have K2 := Lib.hid hb
    have hn2 : w1.heap.size ≤ w2.heap.size := hb.size
    clear hb HC
    obtain ⟨w3, hw3⟩ : ∃ y, y = w2.alloc (.cells #[.int .i64 0, .int .i64 0, .int .i64 0, .int .i64 0, .int .i64 0, .int .i64 0, .int .i64 0, .int .i64 0, .int .i64 0, .int .i64 0, .int .i64 0, .int .i64 0, .int .i64 0, .int .i64 0, .int .i64 0, .int .i64 0, .int .i64 0, .int .i64 0, .int .i64 0, .int .i64 0, .int .i64 0, .int .i64 0, .int .i64 0, .int .i64 0, .int .i64 0, .int .i64 0, .int .i64 0, .int .i64 0, .int .i64 0, .int .i64 0, .int .i64 0, .int .i64 0, .int .i64 0, .int .i64 0, .int .i64 0, .int .i64 0, .int .i64 0, .int .i64 0, .int .i64 0, .int .i64 0, .int .i64 0] 71) := ⟨_, rfl⟩
    have HW3 := Lib.hid hw3
    have hb3 : Below w2.heap.size w2 w3 := by rw [hw3]; exact below1 _ _
    have hs3 : w3.heap.size = w2.heap.size + 1 := by rw [hw3]; simp
    have HS3 := Lib.hid hs3
    have TB3 : Hid (w3.rowIs w2.heap.size 71 41 (numsF (becF ps 0))) := by rw [hw3]; exact table_new w2
    have K3 := Lib.hid (K2.out.trans (hb3.mono K2.out.size))
    have t2 := (T1.out.below K3.out).c2
    rw [hw3] at t2
    clear hw3 hb3 hs3 K2
    go_wp2_with fail
    rw [← HW3.out]
    clear t2
    refine (distinct_is cp HPD.out (HPi.out.below (B1.out.trans (K3.out.mono B1.out.size))) (by omega)).mono ?_
    rintro e w4 ⟨x, rfl, hx, hb⟩
    obtain ⟨pa, pc, hxs, hxi, _⟩ := hx.shape
    subst hxs
    have HPC : Hid (∀ wr, Only (fun b => b = w2.heap.size) w4 wr → IntsAt wr pa ps) := fun wr ho => by
      obtain ⟨a', c', hv, hi', _⟩ := (hx.only ho (fun g hg e => by have := (hx.own.lt g hg).1; have := HS3.out; omega)).shape
      cases hv
      exact hi'
    have L4 := Lib.hid hb
    have K4 := Lib.hid (K3.out.trans (hb.mono K3.out.size))
    have TB4 := Lib.hid (rowIs_below TB3.out hb)
    have hpl := hxi.len
    clear hx hxi hb
    go_wp2
    go_loopw [4, 18] (fun lv iv wr => ∃ k : Nat, k ≤ ps.length ∧ iv = .int .i64 k ∧ lv = .int .i64 (lastK ps k) ∧ Hid (wr.rowIs w2.heap.size 71 41 (numsF (becF ps k))) ∧ Hid (Only (fun b => b = w2.heap.size) w4 wr)) (fun _ iv _ => ps.length - (intOf iv).toNat)
    case atStart => exact ⟨0, Nat.zero_le _, rfl, rfl, TB4, Only.refl _ _⟩
    case round =>
      clear TB4
      obtain ⟨k, hk, rfl, rfl, HTB, HO⟩ := hrel
      by_cases hlt : k < ps.length
      · have hi1 : (k : Int) < ps.length := by omega
        have hk0 : (0 : Int) ≤ (k : Int) := by omega
        obtain ⟨pb, po, hpa, hpc⟩ := (HPC.out wr HO.out).cell (by omega)
        have p1 := hpc k hlt
        obtain ⟨q, hq, hq41⟩ := HPB.out k hlt
        rw [hq] at p1
        have hq0 : (0 : Int) ≤ (q : Int) := by omega
        have hq1 : (q : Int) < 41 := by omega
        obtain ⟨n, hn⟩ : ∃ n, n = lastK ps k := ⟨_, rfl⟩
        have hnb := last_bound ps k
        rw [← hn] at hnb ⊢
        obtain ⟨hn0, hn1⟩ := hnb
        have ht1 : (q : Int).tmod 2 = (q : Int) % 2 := Int.tmod_eq_emod_of_nonneg hq0
        have ht2 : n.tmod 2 = n % 2 := Int.tmod_eq_emod_of_nonneg hn0
        have hwn : IntKind.i64.wrap (n + 1) = n + 1 := IntWalk.i64_in _ (by omega)
        have hcase : (lastK ps (k + 1) = n ∧ ((q : Int) % 2 != n % 2) = false) ∨ (lastK ps (k + 1) = n + 1 ∧ ((q : Int) % 2 != n % 2) = true) := by
          have e : lastK ps (k + 1) = pStep n q := by rw [hn, ← hq]; rfl
          rw [e]; unfold pStep
          by_cases h : (q : Int) % 2 = n % 2
          · exact .inl ⟨by rw [if_pos h], by simp [h]⟩
          · exact .inr ⟨by rw [if_neg h], by simpa using h⟩
        have hset := fun x => numsF_set (v := q) (x := x) HTB.out
        have hbe : ∀ x, lastK ps (k + 1) = x → (fun i => if i = q then x else becF ps k i) = becF ps (k + 1) := fun x hx => funext fun i => by
          rw [becF, hq, Int.toNat_natCast, hx]
        have b1 := HTB.out.cell (i := q) (by omega)
        have bf := HTB.out.frozen q
        have hsz := HO.out.size
        subst hpa
        clear hpc hq hn
        rcases hcase with ⟨hn', hpar⟩ | ⟨hn', hpar⟩
        · have hs1 := hset n
          rw [hbe n hn'] at hs1
          have HS1' := Lib.hid hs1
          have HO1 := Lib.hid (HO.out.setCell (p := ⟨w2.heap.size, q, none⟩) rfl (.int .i64 n))
          have HN' := Lib.hid hn'
          clear hn' hs1 hset hbe
          go_wp2
          go_roundw
          case rel => exact ⟨k + 1, by omega, by go_num, by rw [HN'.out], HS1', HO1⟩
          case measure => simp [intOf]; omega
        · have hs1 := hset (n + 1)
          rw [hbe (n + 1) hn'] at hs1
          have HS1' := Lib.hid hs1
          have HO1 := Lib.hid (HO.out.setCell (p := ⟨w2.heap.size, q, none⟩) rfl (.int .i64 (n + 1)))
          have HN' := Lib.hid hn'
          clear hn' hs1 hset hbe
          go_wp2
          go_roundw
          case rel => exact ⟨k + 1, by omega, by go_num, by rw [HN'.out], HS1', HO1⟩
          case measure => simp [intOf]; omega
      · have hi1 : ¬ (k : Int) < ps.length := by omega
        have hkk : k = ps.length := by omega
        rw [hkk] at HTB
        obtain ⟨wq, hwq⟩ : ∃ x, x = wr := ⟨_, rfl⟩
        subst hwq
        have K5 := Lib.hid (K4.out.trans (HO.out.below (B := w1.heap.size) K4.out.size (fun b hb => by omega)))
        have B5 := Lib.hid (B1.out.trans (K5.out.mono B1.out.size))
        have HTB5 := HTB
        have T5 := Lib.hid (T1.out.below K5.out)
        have t0 := T5.out.c0
        have t1 := T5.out.c1
        clear hkk HTB HPC L4
        go_wp2_with fail
        refine (clone_is (HAt.out.below B5.out) hz256).mono ?_
        rintro e w6 ⟨x, rfl, hx, hb⟩
        obtain ⟨a1, e1, a2, e2, V, rfl, x1, x2, x3⟩ := hx.shape3
        have X1 := Lib.hid x1
        have X2 := Lib.hid x2
        have X3 := Lib.hid x3
        have TB6 := Lib.hid (rowIs_below HTB5.out hb)
        have K6 := Lib.hid hb
        have hn6 : wq.heap.size ≤ w6.heap.size := hb.size
        have hn5 : w1.heap.size ≤ wq.heap.size := K5.out.size
        have T6 := Lib.hid (T5.out.below hb)
        clear hx hb x1 x2 x3 t0 t1
        have HF : Hid (Half5 wq.heap.size (w6.alloc (.cells #[.slice a1 O.length e1, .slice a2 zss.length e2, .slice none 0 0] 32)) w6.heap.size (.slice a1 O.length e1) (.slice a2 zss.length e2) (.slice none 0 0) V O zss ((pressL P).take 0)) :=
          ⟨hn6, tri3_new _ _ _ _ _, (X1.out.below (below1 _ _)).retop, (X2.out.below (below1 _ _)).retop, OwnInts.nil _ _ _, X3.out, fun _ _ _ _ hh => by simp [Value.ownBlock] at hh, fun _ _ hh => by simp [Value.ownBlock] at hh⟩
        have KF : Hid (Below wq.heap.size wq (w6.alloc (.cells #[.slice a1 O.length e1, .slice a2 zss.length e2, .slice none 0 0] 32))) := K6.out.trans ((below1 _ _).mono hn6)
        have t2 := T6.out.c2
        have t2a := (T6.out.below (below1 w6 (.cells #[.slice a1 O.length e1, .slice a2 zss.length e2, .slice none 0 0] 32))).c2
        clear X1 X2 X3 K6 T6 TB6
        go_wp2
        clear t2 t2a
        go_loopw [40] (fun v wv => ∃ (k : Nat) (vp : Value), k ≤ P.length ∧ v = .int .i64 k ∧ Hid (Half5 wq.heap.size wv w6.heap.size (.slice a1 O.length e1) (.slice a2 zss.length e2) vp V O zss ((pressL P).take k)) ∧ Hid (Below wq.heap.size wq wv)) (fun v _ => P.length - (intOf v).toNat)
        case atStart => exact ⟨0, _, Nat.zero_le _, rfl, HF, KF⟩
        case round =>
          clear HF KF
          obtain ⟨k, vp, hk, rfl, HF, KF⟩ := hrel
          have hmk : ((pressL P).take k).length = k := by rw [List.length_take, pressL_len]; omega
          by_cases hlt : k < P.length
          · have hi1 : (k : Int) < P.length := by omega
            have hk0 : (0 : Int) ≤ (k : Int) := by omega
            obtain ⟨pb, po, hpa, hpc⟩ := (HPi.out.below (B5.out.trans (KF.out.mono B5.out.size))).cell (by omega)
            have p1 := hpc k hlt
            subst hpa
            obtain ⟨q, hq, hq41⟩ := HP41.out k hlt
            have hbec := HBP.out k hlt
            rw [hq] at p1 hbec
            rw [Int.toNat_natCast] at hbec
            have hq0 : (0 : Int) ≤ (q : Int) := by omega
            have hq1 : (q : Int) < 41 := by omega
            have HTr := Lib.hid (rowIs_below HTB5.out KF.out)
            have b1 := HTr.out.cell (i := q) hq41
            unfold numsF at b1
            obtain ⟨z, hz⟩ : ∃ z, z = nth (pressL P) k := ⟨_, rfl⟩
            have hz1 := HPF.out _ (nth_mem (show k < (pressL P).length by rw [pressL_len]; exact hlt))
            have HMT := Lib.hid (take_next (zs := pressL P) (k := k) (by rw [pressL_len]; exact hlt))
            rw [← hz] at hbec hz1 HMT
            rw [hbec] at b1
            obtain ⟨hz2, hz3⟩ := hz1
            obtain ⟨a3, c3, hvs, _, _⟩ := HF.out.prio.shape
            rw [hmk] at hvs
            subst hvs
            have HOWN : Hid (wr.ownsRow wq.heap.size 2 1 (.slice a3 k c3) k (((pressL P).take k).map (Value.int .i64))) := by have := HF.out.prio.own; rw [hmk] at this; exact this
            have HFd := Lib.hid (HF.out.keep (Below.refl _ wr).drew)
            have KFd := Lib.hid (KF.out.trans ((Below.refl wr.heap.size wr).drew.mono KF.out.size))
            have HOWNd := Lib.hid (show wr.drew.ownsRow wq.heap.size 2 1 (.slice a3 k c3) k (((pressL P).take k).map (Value.int .i64)) from HOWN.out)
            have s2 : wr.cell? ⟨w6.heap.size, 2, none⟩ = some (.slice a3 k c3) := HF.out.str.cell (i := 2) (by omega)
            have hsr : wq.heap.size ≤ wr.heap.size := KF.out.size
            have HFb := Lib.hid (HFd.out.keep (below1 wr.drew (.cells #[.int .i64 z] 2)))
            have s3 : (wr.alloc (.cells #[.int .i64 z] 2)).cell? ⟨w6.heap.size, 2, none⟩ = some (.slice a3 k c3) := by
              have h := (HF.out.keep (below1 wr (.cells #[.int .i64 z] 2))).str.cell (i := 2) (by omega)
              exact h
            clear hpc hq hz hbec
            go_wp2
            go_region_law (first
              | (refine step_append_lies _ (by rfl) _ _ _ (by rfl) wq.heap.size 2 j0 (.int .i64 0) 1 8 Try.underlying27 hj hj0 hj1 hj2 rfl (by decide) (.slice a3 k c3) k (((pressL P).take k).map (Value.int .i64)) (by rfl) (HOWNd.out.alloc _) ⟨wr.drew.heap.size, 0, none⟩ 1 1 [.int .i64 z] (by rfl) (by rfl) (World.news_of_block (cs := #[.int .i64 z]) (t := 2) (fr := (0, 0)) (heap_alloc_new wr.drew _)) (by simp [Value.oneCell']) (by omega) (by unfold maxLen; omega) (by omega) (by simp; omega) (wr.drew.heap.size + 1) (by simp) ?_; intro gg cap w8 hown8 hgrow hat hlt8; have hbx := game_grown HFb.out.str (HOWNd.out.alloc _) (by decide) hgrow; have q8 : w8.cell? ⟨w6.heap.size, 2, none⟩ = some (.slice a3 k c3) := hbx.cell (i := 2) (by omega); have p8 := hbx.frozen 2))
            all_goals (
              have hp9 := HFb.out.prior (cap := cap) (gg := gg) (x := z) (by rw [hmk]; omega) (by unfold Fits; omega) (by rw [hmk]; exact hown8) (by exact hgrow) (hat.imp_right fun h => by have hdz : wr.drew.heap.size = wr.heap.size := rfl; simp; omega)
              rw [hmk, ← HMT.out] at hp9
              have H9 := Lib.hid hp9.1
              have K9 := Lib.hid ((KFd.out.trans ((below1 wr.drew (.cells #[.int .i64 z] 2)).mono KFd.out.size)).trans (hp9.2.below (B := wq.heap.size) (by rw [World.size_alloc]; exact Nat.le_succ_of_le hsr) (fun b hb => hb)))
              clear hp9 hown8 hgrow hat hbx q8 p8 s2 s3
              go_wp2
              go_roundw
              case rel => exact ⟨k + 1, _, by omega, by go_num, H9, K9⟩
              case measure => simp [intOf]; omega)
          · have hi1 : ¬ (k : Int) < P.length := by omega
            have hkk : k = P.length := by omega
            have htk : (pressL P).take P.length = pressL P := by rw [← pressL_len]; exact List.take_length
            rw [hkk, htk] at HF
            obtain ⟨a3, c3, hvs, _, _⟩ := HF.out.prio.shape
            rw [pressL_len] at hvs
            subst hvs
            have Kr := Lib.hid (K5.out.trans (KF.out.mono K5.out.size))
            have Rr := Lib.hid (R1.out.below Kr.out)
            have Br := Lib.hid (B5.out.trans (KF.out.mono B5.out.size))
            have s0 : wr.cell? ⟨w6.heap.size, 0, none⟩ = some (.slice a1 O.length e1) := HF.out.str.cell (i := 0) (by omega)
            have s1 : wr.cell? ⟨w6.heap.size, 1, none⟩ = some (.slice a2 zss.length e2) := HF.out.str.cell (i := 1) (by omega)
            have s2 : wr.cell? ⟨w6.heap.size, 2, none⟩ = some (.slice a3 P.length c3) := HF.out.str.cell (i := 2) (by omega)
            have r0 := Rr.out.c0
            have r1 := Rr.out.c1
            have r2 := Rr.out.c2
            have g0 := World.rowIs.frozen Rr.out 0
            have g1 := World.rowIs.frozen Rr.out 1
            have g2 := World.rowIs.frozen Rr.out 2
            have hst := game_stored (w := w) (wr := wr) (t := w.heap.size + 1) (n := wq.heap.size) Rr.out HF.out.game (by have := B5.out.size; omega) (by omega) (by have := HS1.out; omega) Br.out
            have HST := Lib.hid hst
            have u0 := hst.2.2.c0
            have u1 := hst.2.2.c1
            have u2 := hst.2.2.c2
            clear hst htk hkk
            go_wp2
            exact bodyPost_ret (v := .agg #[.slice a1 O.length e1, .slice a2 zss.length e2, .slice a3 P.length c3]) (by simp [results, Try.results18, go_sem, u0, u1, u2]) rfl
              ⟨_, rfl, by rw [HE.out.1, HE.out.2.1, HE.out.2.2]; exact HST.out.1, HST.out.2.1⟩
end

end Go.Proofs.Ytmobegiojhlakaa
