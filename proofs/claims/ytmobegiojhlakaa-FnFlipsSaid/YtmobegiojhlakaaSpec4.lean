/-
  Contracts: the model's ParityOk.
-/
import Derived.Test.YtmobegiojhlakaaParity
import Derived.Test.YtmobegiojhlakaaSpecArena
import Derived.Test.YtmobegiojhlakaaAll
import Derived.Test.YtmobegiojhlakaaDraws
namespace Go.Proofs.Ytmobegiojhlakaa
section
open Go.RowKit

set_option maxHeartbeats 4000000 in
set_option maxRecDepth 100000 in
theorem specParityOk_is {w : World} {v : Value} {O : List Int} {zss : List (List Int)} {P : List Int} {r : Bool} (hr : parityB O zss P = r) (h : GameAt w v O zss P) :
    Calls Try.prog 21 #[v] w fun e w' => e = .returned (.bool r) ∧ Below w.heap.size w w' := by
  obtain ⟨ao, an, ap, co, cn, cp, A, C, rfl, h1, h2, h3⟩ := h
  have hlO := h1.len
  have hlP := h3.len
  have HP := Lib.hid h3
  have BW := Lib.hid (below1 w (.cells #[.slice ao O.length co, .slice an zss.length cn, .slice ap P.length cp] 32))
  have bW := Lib.hid (Box3.new w 32 (.slice ao O.length co) (.slice an zss.length cn) (.slice ap P.length cp))
  have HA : Hid (ArenaAt (w.alloc (.cells #[.slice ao O.length co, .slice an zss.length cn, .slice ap P.length cp] 32)) (.agg #[.slice ao O.length co, .slice an zss.length cn]) O zss) := ⟨_, _, _, _, _, _, rfl, h1.below BW.out, h2.below BW.out⟩
  clear h1 h2 h3
  cases hA : arenaB O zss with
  | false =>
    have HE : Hid (r = false) := by rw [← hr]; simp [parityB, hA, Hid]
    have HC := Lib.hid (specArenaOk_at hA HA.out)
    clear hA hr
    go_enter Try.func21, Try.ntmps21
    go_wp2_with fail
    refine HC.out.mono ?_
    rintro e w1 ⟨rfl, hb⟩
    have B1 := Lib.hid (BW.out.trans (hb.mono BW.out.size))
    clear hb
    go_wp2
    go_ret
    exact ⟨by rw [HE.out]; rfl, B1.out⟩
  | true =>
    have HC := Lib.hid (specArenaOk_at hA HA.out)
    by_cases hl : P.length = O.length
    · have HL := Lib.hid hl
      have HR : Hid (priosB P = r) := by rw [← hr]; simp [parityB, hA, hl, Hid]
      clear hA hr hl
      go_enter Try.func21, Try.ntmps21
      go_wp2_with fail
      refine HC.out.mono ?_
      rintro e w1 ⟨rfl, hb⟩
      have B1 := Lib.hid (BW.out.trans (hb.mono BW.out.size))
      have T1 := Lib.hid (bW.out.below hb)
      clear hb HC BW HA bW
      have t0 := T1.out.c0
      have t2 := T1.out.c2
      have hne : ((P.length : Int) != (O.length : Int)) = false := by have := HL.out; simp; omega
      have K1 := Lib.hid (Below.refl w1.heap.size w1)
      go_wp2
      go_loopw [3] (fun iv wr => ∃ k : Nat, k ≤ P.length ∧ iv = .int .i64 k ∧ Hid (∀ j, j < k → 0 ≤ nth P j ∧ nth P j ≤ 40) ∧ Hid (Below w1.heap.size w1 wr)) (fun iv _ => P.length - (intOf iv).toNat)
      case atStart => exact ⟨0, Nat.zero_le _, rfl, fun j hj => absurd hj (Nat.not_lt_zero _), K1⟩
      case round =>
        clear K1 t0 t2 hne
        obtain ⟨k, hk, rfl, HB, HK⟩ := hrel
        have t2 := (T1.out.below HK.out).c2
        by_cases hlt : k < P.length
        · have hi1 : (k : Int) < P.length := by omega
          have hk0 : (0 : Int) ≤ (k : Int) := by omega
          obtain ⟨b, off, ha, hc⟩ := (HP.out.below (B1.out.trans (HK.out.mono B1.out.size))).cell (by omega)
          have c := hc k hlt
          subst ha
          clear hc
          cases hx : inB (nth P k) 0 40 with
          | false =>
            have HE : Hid (r = false) := by
              rw [← HR.out]
              exact priosB_no hlt (by
                intro h
                rw [inB_yes h.1 h.2] at hx
                cases hx)
            have HI := Lib.hid (fun W => l1In_is hx W)
            clear hx
            go_wp2_with fail
            refine (HI.out _).mono ?_
            rintro e w2 ⟨rfl, rfl⟩
            go_wp2
            go_ret
            exact ⟨by rw [HE.out]; rfl, B1.out.trans (HK.out.mono B1.out.size)⟩
          | true =>
            have hx2 : 0 ≤ nth P k ∧ nth P k ≤ 40 := by
              unfold inB at hx
              exact of_decide_eq_true hx
            have HBn : Hid (∀ j, j < k + 1 → 0 ≤ nth P j ∧ nth P j ≤ 40) := fun j hj => by
              by_cases e : j = k
              · rw [e]; exact hx2
              · exact HB.out j (by omega)
            have HI := Lib.hid (fun W => l1In_is hx W)
            clear hx hx2
            go_wp2_with fail
            refine (HI.out _).mono ?_
            rintro e w2 ⟨rfl, rfl⟩
            go_wp2
            go_roundw
            case rel => exact ⟨k + 1, by omega, by go_num, HBn, HK⟩
            case measure => simp [intOf]; omega
        · have hi1 : ¬ (k : Int) < P.length := by omega
          have hkk : k = P.length := by omega
          rw [hkk] at HB
          have HE : Hid (r = true) := by rw [← HR.out]; exact priosB_yes HB.out
          have hfin := Lib.hid (B1.out.trans (HK.out.mono B1.out.size))
          clear hkk HB
          go_wp2
          go_ret
          exact ⟨by rw [HE.out]; rfl, hfin.out⟩
    · have HE : Hid (r = false) := by rw [← hr]; simp [parityB, hl, Hid]
      have hne : ((P.length : Int) != (O.length : Int)) = true := by simp; omega
      clear hA hr
      go_enter Try.func21, Try.ntmps21
      go_wp2_with fail
      refine HC.out.mono ?_
      rintro e w1 ⟨rfl, hb⟩
      have B1 := Lib.hid (BW.out.trans (hb.mono BW.out.size))
      have T1 := Lib.hid (bW.out.below hb)
      clear hb
      have t0 := T1.out.c0
      have t2 := T1.out.c2
      go_wp2
      go_ret
      exact ⟨by rw [HE.out]; rfl, B1.out⟩
end

section
open Go.RowKit

theorem l4Max_is {x y r : Int} (hr : (if x < y then y else x) = r) (w : World) : Calls Try.prog 113 #[.int .i64 x, .int .i64 y] w fun e w' => e = .returned (.int .i64 r) ∧ w = w' := by
  by_cases h : y < x
  · have hE : Hid (r = x) := by rw [← hr, if_neg (by omega)]; rfl
    clear hr
    go_enter Try.func113, Try.ntmps113
    go_wp2
    go_ret
    exact ⟨by rw [hE.out]; rfl, rfl⟩
  · have hE : Hid (r = y) := by
      rw [← hr]; unfold Hid
      split <;> omega
    clear hr
    go_enter Try.func113, Try.ntmps113
    go_wp2
    go_ret
    exact ⟨by rw [hE.out]; rfl, rfl⟩

/-- The greatest priority of the first k of In. -/
def topK (P In : List Int) : Nat → Int
  | 0 => -1
  | k + 1 => if topK P In k < nth P (nth In k).toNat then nth P (nth In k).toNat else topK P In k

set_option maxHeartbeats 4000000 in
set_option maxRecDepth 100000 in
theorem l4Top_is {w : World} {v : Value} {O : List Int} {zss : List (List Int)} {P In : List Int} {aI : Option Addr} (cI : Nat) (h : GameAt w v O zss P) (hI : IntsAt w aI In) (hin : ∀ x ∈ In, ∃ u : Nat, x = (u : Int) ∧ u < P.length) :
    Calls Try.prog 88 #[v, .slice aI In.length cI] w fun e w' => e = .returned (.int .i64 (topK P In In.length)) ∧ Below w.heap.size w w' := by
  obtain ⟨ao, an, ap, co, cn, cp, A, C, rfl, h1, h2, h3⟩ := h
  have hlP := h3.len
  have hlI := hI.len
  have HP := Lib.hid h3
  have HI := Lib.hid hI
  have HIN := Lib.hid hin
  obtain ⟨w1, hw1⟩ : ∃ y, y = w.alloc (.cells #[.slice ao O.length co, .slice an zss.length cn, .slice ap P.length cp] 32) := ⟨_, rfl⟩
  have HW1 := Lib.hid hw1
  have B1 : Hid (Below w.heap.size w w1) := by rw [hw1]; exact below1 _ _
  have T1 : Hid (Box3 w1 w.heap.size 32 (.slice ao O.length co) (.slice an zss.length cn) (.slice ap P.length cp)) := by rw [hw1]; exact Box3.new _ _ _ _ _
  have K1 := Lib.hid (Below.refl w1.heap.size w1)
  clear hw1 h1 h2 h3 hI hin
  go_enter Try.func88, Try.ntmps88
  go_wp2
  rw [← HW1.out]
  go_loopw [5, 6] (fun tv iv wr => ∃ k : Nat, k ≤ In.length ∧ iv = .int .i64 k ∧ tv = .int .i64 (topK P In k) ∧ Hid (Below w1.heap.size w1 wr)) (fun _ iv _ => In.length - (intOf iv).toNat)
  case atStart => exact ⟨0, Nat.zero_le _, rfl, rfl, K1⟩
  case round =>
    clear K1
    obtain ⟨k, hk, rfl, rfl, HK⟩ := hrel
    by_cases hlt : k < In.length
    · have hi1 : (k : Int) < In.length := by omega
      have hk0 : (0 : Int) ≤ (k : Int) := by omega
      obtain ⟨u, hu, hup⟩ := HIN.out _ (nth_mem hlt)
      have HBW : Hid (∀ W', Below wr.heap.size wr W' → Below w.heap.size w W') := fun W' hb => (B1.out.trans (HK.out.mono B1.out.size)).trans (hb.mono (by have := B1.out.size; have := HK.out.size; omega))
      obtain ⟨ib, io, hia, hic⟩ := (HI.out.below (HBW.out _ (Below.refl _ _))).cell (by omega)
      obtain ⟨pb, po, hpa, hpc⟩ := (HP.out.below (HBW.out _ (Below.refl _ _))).cell (by omega)
      have i1 := hic k hlt
      have p1 := hpc u hup
      rw [hu] at i1
      have hu0 : (0 : Int) ≤ (u : Int) := by omega
      have hup1 : (u : Int) < P.length := by omega
      have t2 := (T1.out.below HK.out).c2
      obtain ⟨q, hq⟩ : ∃ q, q = nth P u := ⟨_, rfl⟩
      obtain ⟨m, hm⟩ : ∃ m, m = topK P In k := ⟨_, rfl⟩
      have HT : Hid (topK P In (k + 1) = if m < q then q else m) := by
        simp only [Hid, topK]
        rw [hu, Int.toNat_natCast, ← hq, ← hm]
      rw [← hq] at p1
      rw [← hm]
      subst hia
      subst hpa
      have HMX := Lib.hid (fun W : World => l4Max_is (x := m) (y := q) HT.out.symm W)
      clear hic hpc hq hm hu
      go_wp2
      go_region_law (first
        | (go_simp; go_at_call 113; refine (HMX.out _).mono ?_; rintro e w' ⟨rfl, rfl⟩))
      all_goals (
        go_wp2
        go_roundw
        case rel => exact ⟨k + 1, by omega, by go_num, rfl, HK.out.trans (Below.refl _ _).drew⟩
        case measure => simp [intOf]; omega)
    · have hi1 : ¬ (k : Int) < In.length := by omega
      have hkk : k = In.length := by omega
      subst hkk
      have hfin := Lib.hid (B1.out.trans (HK.out.mono B1.out.size))
      go_wp2
      go_ret
      exact ⟨rfl, hfin.out⟩
end

section
open Go.RowKit

/-- Is the game valid, and In a set of its vertices? -/
noncomputable def gameB (O : List Int) (zss : List (List Int)) (P In : List Int) : Bool := parityB O zss P && setB P.length In
theorem gameB_yes {O : List Int} {zss : List (List Int)} {P In : List Int} (h : gameB O zss P In = true) : ArenaP O zss ∧ P.length = O.length ∧ (∀ x ∈ P, 0 ≤ x ∧ x ≤ 40) ∧ setB P.length In = true ∧ ∀ x ∈ In, ∃ u : Nat, x = (u : Int) ∧ u < P.length := by
  unfold gameB at h
  rw [Bool.and_eq_true] at h
  obtain ⟨h1, h2, h3⟩ := parityB_iff.1 h.1
  refine ⟨h1, h2, h3, h.2, fun f hf => ?_⟩
  obtain ⟨i, hi, rfl⟩ := mem_nth.1 hf
  obtain ⟨h0, h1, _⟩ := setB_bounds h.2 hi
  exact ⟨(nth In i).toNat, by omega, by omega⟩

theorem l4Set_is {w : World} {v : Value} {O : List Int} {zss : List (List Int)} {P In : List Int} {aI : Option Addr} {r : Bool} (hr : setB P.length In = r) (cI : Nat) (h : GameAt w v O zss P) (hI : IntsAt w aI In) :
    Calls Try.prog 87 #[v, .slice aI In.length cI] w fun e w' => e = .returned (.bool r) ∧ Below w.heap.size w w' := by
  obtain ⟨ao, an, ap, co, cn, cp, A, C, rfl, h1, h2, h3⟩ := h
  have hlP := h3.len
  obtain ⟨w1, hw1⟩ : ∃ y, y = w.alloc (.cells #[.slice ao O.length co, .slice an zss.length cn, .slice ap P.length cp] 32) := ⟨_, rfl⟩
  have HW1 := Lib.hid hw1
  have B1 : Hid (Below w.heap.size w w1) := by rw [hw1]; exact below1 _ _
  have HC := Lib.hid (l1Set_is hr cI w1 (hI.below B1.out) (by omega) (by omega))
  clear hw1 h1 h2 h3 hI hr
  go_enter Try.func87, Try.ntmps87
  go_wp2_with fail
  try rw [← HW1.out]
  refine HC.out.mono ?_
  rintro e w2 ⟨rfl, hq⟩
  have B2 := Lib.hid (below_same B1.out hq)
  clear hq
  go_wp2
  go_ret
  exact ⟨rfl, B2.out⟩

/-- The elements of In with the priority q. -/
def withL (P In : List Int) (q : Int) : List Int := In.filter fun x => decide (nth P x.toNat = q)
theorem with_step (f : Int → Bool) {S : List Int} {k : Nat} (h : k < S.length) : (S.take (k + 1)).filter f = (S.take k).filter f ++ (if f (nth S k) = true then [nth S k] else []) := by
  rw [List.take_add_one, List.getElem?_eq_getElem h, List.filter_append, nth_eq h]
  simp [List.filter_cons]

set_option maxHeartbeats 8000000 in
set_option maxRecDepth 100000 in
theorem l4With_is {w : World} {v : Value} {O : List Int} {zss : List (List Int)} {P In : List Int} {aI : Option Addr} {q : Int} (cI : Nat) (h : GameAt w v O zss P) (hI : IntsAt w aI In) (hin : ∀ x ∈ In, ∃ u : Nat, x = (u : Int) ∧ u < P.length) (hl : In.length ≤ 1048576) :
    Calls Try.prog 91 #[v, .slice aI In.length cI, .int .i64 q] w (GivesInts w (withL P In q)) := by
  obtain ⟨i0, hi, hz0, hz1, hz2⟩ := info_parts info_int
  obtain ⟨ao, an, ap, co, cn, cp, A, C, rfl, h1, h2, h3⟩ := h
  have hlP := h3.len
  have HP := Lib.hid h3
  have HI := Lib.hid hI
  have HIN := Lib.hid hin
  obtain ⟨w1, hw1⟩ : ∃ y, y = w.alloc (.cells #[.slice ao O.length co, .slice an zss.length cn, .slice ap P.length cp] 32) := ⟨_, rfl⟩
  have HW1 := Lib.hid hw1
  have hs1 : w1.heap.size = w.heap.size + 1 := by rw [hw1]; simp
  have B1 : Hid (Below w.heap.size w w1) := by rw [hw1]; exact below1 _ _
  have T1 : Hid (Box3 w1 w.heap.size 32 (.slice ao O.length co) (.slice an zss.length cn) (.slice ap P.length cp)) := by rw [hw1]; exact Box3.new _ _ _ _ _
  obtain ⟨w2, hw2⟩ : ∃ y, y = w1.alloc (.cells #[] 2) := ⟨_, rfl⟩
  have HW2 := Lib.hid hw2
  have K2 : Hid (Below w1.heap.size w1 w2) := by rw [hw2]; exact below1 _ _
  have O2 : Hid (w2.ownsRow w1.heap.size 2 1 (.slice (some ⟨w1.heap.size, 0, none⟩) 0 0) ([] : List Int).length (([] : List Int).map (Value.int .i64))) := by rw [hw2]; exact World.ownsRow_made w1 #[] 0 (Nat.le_refl _) (by unfold maxLen; omega) rfl
  have HS1 := Lib.hid hs1
  clear hw1 hw2 h1 h2 h3 hI hin hs1
  go_enter Try.func91, Try.ntmps91
  go_wp2
  rw [← HW1.out, ← HS1.out, ← HW2.out]
  go_loopw [7, 8] (fun ov iv wr => ∃ k : Nat, k ≤ In.length ∧ iv = .int .i64 k ∧ Hid (wr.ownsRow w1.heap.size 2 1 ov ((In.take k).filter fun x => decide (nth P x.toNat = q)).length (((In.take k).filter fun x => decide (nth P x.toNat = q)).map (Value.int .i64))) ∧ Hid (Below w1.heap.size w1 wr)) (fun _ iv _ => In.length - (intOf iv).toNat)
  case atStart => exact ⟨0, Nat.zero_le _, rfl, by simpa using O2, K2⟩
  case round =>
    clear K2 O2
    obtain ⟨k, hk, rfl, HO, HK⟩ := hrel
    have hfl : ((In.take k).filter fun x => decide (nth P x.toNat = q)).length ≤ k := Nat.le_trans (List.length_filter_le _ _) (by simp; omega)
    by_cases hlt : k < In.length
    · have hi1 : (k : Int) < In.length := by omega
      have hk0 : (0 : Int) ≤ (k : Int) := by omega
      obtain ⟨u, hu, hup⟩ := HIN.out _ (nth_mem hlt)
      have BWr := Lib.hid (B1.out.trans (HK.out.mono B1.out.size))
      obtain ⟨ib, io, hia, hic⟩ := (HI.out.below BWr.out).cell (by omega)
      obtain ⟨pb, po, hpa, hpc⟩ := (HP.out.below BWr.out).cell (by omega)
      have i1 := hic k hlt
      have p1 := hpc u hup
      rw [hu] at i1
      have hu0 : (0 : Int) ≤ (u : Int) := by omega
      have hup1 : (u : Int) < P.length := by omega
      have t2 := (T1.out.below HK.out).c2
      obtain ⟨z, hz⟩ : ∃ z, z = nth P u := ⟨_, rfl⟩
      have hst := with_step (fun x => decide (nth P x.toNat = q)) hlt
      rw [hu, Int.toNat_natCast, ← hz] at hst
      rw [← hz] at p1
      subst hia
      subst hpa
      have HST := Lib.hid hst
      clear hic hpc hst hu hz
      by_cases hq : z = q
      · have hqe : (z == q) = true := by simpa using hq
        have HQ := Lib.hid hq
        clear hq
        go_wp2
        go_quiet (fail)
        obtain ⟨w3, hw3⟩ : ∃ y, y = wr.drewN nq := ⟨_, rfl⟩
        have hb3 : Below wr.heap.size wr w3 := by rw [hw3]; exact below_drewN (Below.refl _ _) nq
        rw [← hw3]
        have K3 := Lib.hid (HK.out.trans (hb3.mono HK.out.size))
        have HO3 := Lib.hid (ownsRow_only HO.out (S := fun _ => False) (Only.of_below hb3) (fun _ _ h => h))
        have i3 : w3.cell? ⟨ib, io + k, none⟩ = some (.int .i64 u) := (hb3.cell (World.block_lt_of_cell? _ _ i1)).trans i1
        clear hw3 hb3 p1 t2 i1
        go_wp2_with (at_builtin; refine wpList_append_own_at _ rfl _ _ 27 rfl w1.heap.size 2 i0 (.int .i64 0) 1 8 Try.underlying27 hi hz0 hz1 hz2 rfl (by decide) _ _ _ rfl (HO3.out.alloc _) ⟨w3.heap.size, 0, none⟩ 1 1 [.int .i64 u] rfl rfl ?c1 ?c2 ?c3 ?c4 ?c5 ?_)
        try (case c1 => exact cell_one_new _ _ _)
        case c2 => first | rfl | (intro u hu; simp at hu; subst hu; rfl)
        case c3 => unfold maxLen; omega
        case c4 => omega
        case c5 => have := K3.out.size; simp; omega
        intro v' w4 hown hgrow _ _
        have hg : Only (fun b => w1.heap.size ≤ b) w3 w4 := (Only.of_below (below1 w3 _)).trans ((Only.of_grown hgrow).mono fun b hb => (HO3.out.lt b hb).1)
        have Kn := Lib.hid (K3.out.trans (hg.below K3.out.size (fun _ h => h)))
        have HOn : Hid (w4.ownsRow w1.heap.size 2 1 v' ((In.take (k + 1)).filter fun x => decide (nth P x.toNat = q)).length (((In.take (k + 1)).filter fun x => decide (nth P x.toNat = q)).map (Value.int .i64))) := by
          rw [HST.out, if_pos (decide_eq_true HQ.out), List.map_append, List.length_append]; exact hown
        clear hown hgrow hg
        go_wp2
        go_roundw
        case rel => exact ⟨k + 1, by omega, by go_num, HOn, Kn⟩
        case measure => simp [intOf]; omega
      · have hqe : (z == q) = false := beq_eq_false_iff_ne.2 hq
        have HQ := Lib.hid hq
        clear hq
        go_wp2
        go_quiet (fail)
        go_wp2
        have hb3 : Below wr.heap.size wr (wr.drewN nq) := below_drewN (Below.refl _ _) nq
        have hO' := ownsRow_only HO.out (S := fun _ => False) (Only.of_below hb3) (fun _ _ h => h)
        have e := HST.out
        rw [if_neg (by simpa using HQ.out), List.append_nil] at e
        rw [← e] at hO'
        have HOn := Lib.hid hO'
        clear hO' e
        go_roundw
        case rel => exact ⟨k + 1, by omega, by go_num, HOn, HK.out.trans (hb3.mono HK.out.size)⟩
        case measure => simp [intOf]; omega
    · have hi1 : ¬ (k : Int) < In.length := by omega
      have hkk : k = In.length := by omega
      rw [hkk, List.take_length] at HO
      have hfin := Lib.hid (And.intro ((OwnInts.mk' (zs := withL P In q) HO.out (by unfold withL; have := List.length_filter_le (fun x => decide (nth P x.toNat = q)) In; omega) (fun j hj => by
        have hm := nth_mem hj
        obtain ⟨u, hu, hup⟩ := HIN.out _ (List.mem_filter.1 hm).1
        rw [hu]; unfold Fits; omega)).base (B' := w.heap.size) (by have := HS1.out; omega)) (B1.out.trans (HK.out.mono B1.out.size)))
      clear hkk HO
      go_wp2
      go_ret
      exact ⟨_, rfl, hfin.out⟩

open Classical in
/-- What WithPrio gives. -/
noncomputable def withV (O : List Int) (zss : List (List Int)) (P In : List Int) (q : Int) : List Int := if gameB O zss P In = true then withL P In q else []

set_option maxHeartbeats 4000000 in
theorem specWithPrio_is {w : World} {v : Value} {O : List Int} {zss : List (List Int)} {P In r : List Int} {aI : Option Addr} {q : Int} (cI : Nat) (hr : withV O zss P In q = r) (h : GameAt w v O zss P) (hI : IntsAt w aI In) :
    Calls Try.prog 43 #[v, .slice aI In.length cI, .int .i64 q] w (GivesInts w r) := by
  have HGm := Lib.hid h
  have HI := Lib.hid hI
  obtain ⟨ao, an, ap, co, cn, cp, A, C, rfl, h1, h2, h3⟩ := h
  obtain ⟨w1, hw1⟩ : ∃ y, y = w.alloc (.cells #[.slice ao O.length co, .slice an zss.length cn, .slice ap P.length cp] 32) := ⟨_, rfl⟩
  have HW1 := Lib.hid hw1
  have B1 : Hid (Below w.heap.size w w1) := by rw [hw1]; exact below1 _ _
  have T1 : Hid (Box3 w1 w.heap.size 32 (.slice ao O.length co) (.slice an zss.length cn) (.slice ap P.length cp)) := by rw [hw1]; exact Box3.new _ _ _ _ _
  clear hw1 h1 h2 h3 hI
  cases hp : parityB O zss P with
  | false =>
    have HE : Hid (r = []) := by rw [← hr]; unfold withV gameB; rw [hp]; simp [Hid]
    have HC := Lib.hid (specParityOk_is hp (HGm.out.below B1.out))
    clear hr hp
    go_enter Try.func43, Try.ntmps43
    go_wp2_with fail
    rw [← HW1.out]
    refine HC.out.mono ?_
    rintro e w2 ⟨rfl, hb⟩
    have B2 := Lib.hid (B1.out.trans (hb.mono B1.out.size))
    clear hb HC
    go_wp2
    go_ret
    refine ⟨_, rfl, ?_, B2.out.trans ((below1 w2 _).mono B2.out.size)⟩
    rw [HE.out]
    exact OwnInts.mk' (World.ownsRow_made w2 #[] 0 B2.out.size (by unfold maxLen; omega) rfl) (by simp) (fun k hk => absurd hk (by simp))
  | true =>
    have HC := Lib.hid (specParityOk_is hp (HGm.out.below B1.out))
    cases hs : setB P.length In with
    | false =>
      have HE : Hid (r = []) := by rw [← hr]; unfold withV gameB; rw [hp, hs]; simp [Hid]
      have HS := Lib.hid hs
      clear hr hp hs
      go_enter Try.func43, Try.ntmps43
      go_wp2_with fail
      rw [← HW1.out]
      refine HC.out.mono ?_
      rintro e w2 ⟨rfl, hb⟩
      have B2 := Lib.hid (B1.out.trans (hb.mono B1.out.size))
      have T2 := Lib.hid (T1.out.below hb)
      clear hb HC
      have t0 := T2.out.c0
      have t1 := T2.out.c1
      have t2 := T2.out.c2
      have HC2 := Lib.hid (l4Set_is HS.out cI (HGm.out.below B2.out) (HI.out.below B2.out))
      go_wp2_with fail
      refine HC2.out.mono ?_
      rintro e w3 ⟨rfl, hb⟩
      have B3 := Lib.hid (B2.out.trans (hb.mono B2.out.size))
      clear hb HC2 t0 t1 t2
      go_wp2
      go_ret
      refine ⟨_, rfl, ?_, B3.out.trans ((below1 w3 _).mono B3.out.size)⟩
      rw [HE.out]
      exact OwnInts.mk' (World.ownsRow_made w3 #[] 0 B3.out.size (by unfold maxLen; omega) rfl) (by simp) (fun k hk => absurd hk (by simp))
    | true =>
      have hg : gameB O zss P In = true := by unfold gameB; rw [hp, hs]; rfl
      have HE : Hid (r = withL P In q) := by rw [← hr]; unfold withV; rw [if_pos hg]; rfl
      have HS := Lib.hid hs
      have HGY := Lib.hid (gameB_yes hg)
      clear hr hp hs hg
      go_enter Try.func43, Try.ntmps43
      go_wp2_with fail
      rw [← HW1.out]
      refine HC.out.mono ?_
      rintro e w2 ⟨rfl, hb⟩
      have B2 := Lib.hid (B1.out.trans (hb.mono B1.out.size))
      have T2 := Lib.hid (T1.out.below hb)
      clear hb HC
      have t0 := T2.out.c0
      have t1 := T2.out.c1
      have t2 := T2.out.c2
      have HC2 := Lib.hid (l4Set_is HS.out cI (HGm.out.below B2.out) (HI.out.below B2.out))
      go_wp2_with fail
      refine HC2.out.mono ?_
      rintro e w3 ⟨rfl, hb⟩
      have B3 := Lib.hid (B2.out.trans (hb.mono B2.out.size))
      have T3 := Lib.hid (T2.out.below hb)
      clear hb HC2 t0 t1 t2
      have t0 := T3.out.c0
      have t1 := T3.out.c1
      have t2 := T3.out.c2
      have HC3 := Lib.hid (l4With_is (q := q) cI (HGm.out.below B3.out) (HI.out.below B3.out) HGY.out.2.2.2.2 (by
        have h1 := HGY.out.1.2.1
        have h2 := HGY.out.2.1
        have h3 := setB_len (by omega) HGY.out.2.2.2.1
        omega))
      go_wp2_with fail
      refine HC3.out.mono ?_
      rintro e w4 ⟨vz, rfl, hv, hb⟩
      have B4 := Lib.hid (B3.out.trans (hb.mono B3.out.size))
      have HV := Lib.hid (hv.base B3.out.size)
      clear hb hv HC3 t0 t1 t2
      go_wp2
      go_ret
      exact ⟨_, rfl, by rw [HE.out]; exact HV.out, B4.out⟩
end

section
open Go.RowKit

open Classical in
/-- What TopIn gives. -/
noncomputable def topV (O : List Int) (zss : List (List Int)) (P In : List Int) : Int := if gameB O zss P In = true then topK P In In.length else -1

theorem topK_ge {P In : List Int} : ∀ {k j : Nat}, j < k → nth P (nth In j).toNat ≤ topK P In k
  | 0, _, h => absurd h (Nat.not_lt_zero _)
  | k + 1, j, h => by
    rw [topK]
    by_cases e : j = k
    · subst e; split <;> omega
    · have := topK_ge (P := P) (In := In) (k := k) (j := j) (by omega)
      split <;> omega
theorem topK_at {P In : List Int} : ∀ k, topK P In k = -1 ∨ ∃ j, j < k ∧ nth P (nth In j).toNat = topK P In k
  | 0 => .inl rfl
  | k + 1 => by
    rw [topK]
    split
    · exact .inr ⟨k, by omega, rfl⟩
    · rcases topK_at (P := P) (In := In) k with h | ⟨j, hj, h⟩
      · exact .inl h
      · exact .inr ⟨j, by omega, h⟩
/-- The greatest priority of all is 40 just when one is. -/
theorem top_all {P : List Int} (h : ∀ x ∈ P, 0 ≤ x ∧ x ≤ 40) : topK P (upL P.length) P.length = 40 ↔ (40 : Int) ∈ P := by
  constructor
  · intro e
    rcases topK_at (P := P) (In := upL P.length) P.length with h1 | ⟨j, hj, h1⟩
    · omega
    · rw [upL_nth hj, Int.toNat_natCast] at h1
      rw [← e, ← h1]; exact nth_mem hj
  · intro hm
    obtain ⟨j, hj, e⟩ := mem_nth.1 hm
    have h1 := topK_ge (P := P) (In := upL P.length) hj
    rw [upL_nth hj, Int.toNat_natCast, e] at h1
    rcases topK_at (P := P) (In := upL P.length) P.length with h2 | ⟨i, hi, h2⟩
    · omega
    · rw [upL_nth hi, Int.toNat_natCast] at h2
      have := (h _ (nth_mem hi)).2
      omega

set_option maxHeartbeats 4000000 in
theorem specTopIn_is {w : World} {v : Value} {O : List Int} {zss : List (List Int)} {P In : List Int} {r : Int} {aI : Option Addr} (cI : Nat) (hr : topV O zss P In = r) (h : GameAt w v O zss P) (hI : IntsAt w aI In) :
    Calls Try.prog 39 #[v, .slice aI In.length cI] w fun e w' => e = .returned (.int .i64 r) ∧ Below w.heap.size w w' := by
  have HGm := Lib.hid h
  have HI := Lib.hid hI
  obtain ⟨ao, an, ap, co, cn, cp, A, C, rfl, h1, h2, h3⟩ := h
  obtain ⟨w1, hw1⟩ : ∃ y, y = w.alloc (.cells #[.slice ao O.length co, .slice an zss.length cn, .slice ap P.length cp] 32) := ⟨_, rfl⟩
  have HW1 := Lib.hid hw1
  have B1 : Hid (Below w.heap.size w w1) := by rw [hw1]; exact below1 _ _
  have T1 : Hid (Box3 w1 w.heap.size 32 (.slice ao O.length co) (.slice an zss.length cn) (.slice ap P.length cp)) := by rw [hw1]; exact Box3.new _ _ _ _ _
  clear hw1 h1 h2 h3 hI
  cases hp : parityB O zss P with
  | false =>
    have HE : Hid (r = -1) := by rw [← hr]; unfold topV gameB; rw [hp]; simp [Hid]
    have HC := Lib.hid (specParityOk_is hp (HGm.out.below B1.out))
    clear hr hp
    go_enter Try.func39, Try.ntmps39
    go_wp2_with fail
    rw [← HW1.out]
    refine HC.out.mono ?_
    rintro e w2 ⟨rfl, hb⟩
    have B2 := Lib.hid (B1.out.trans (hb.mono B1.out.size))
    clear hb HC
    go_wp2
    go_ret
    exact ⟨ret_i64 HE.out.symm, B2.out⟩
  | true =>
    have HC := Lib.hid (specParityOk_is hp (HGm.out.below B1.out))
    cases hs : setB P.length In with
    | false =>
      have HE : Hid (r = -1) := by rw [← hr]; unfold topV gameB; rw [hp, hs]; simp [Hid]
      have HS := Lib.hid hs
      clear hr hp hs
      go_enter Try.func39, Try.ntmps39
      go_wp2_with fail
      rw [← HW1.out]
      refine HC.out.mono ?_
      rintro e w2 ⟨rfl, hb⟩
      have B2 := Lib.hid (B1.out.trans (hb.mono B1.out.size))
      have T2 := Lib.hid (T1.out.below hb)
      clear hb HC
      have t0 := T2.out.c0
      have t1 := T2.out.c1
      have t2 := T2.out.c2
      have HC2 := Lib.hid (l4Set_is HS.out cI (HGm.out.below B2.out) (HI.out.below B2.out))
      go_wp2_with fail
      refine HC2.out.mono ?_
      rintro e w3 ⟨rfl, hb⟩
      have B3 := Lib.hid (B2.out.trans (hb.mono B2.out.size))
      clear hb HC2 t0 t1 t2
      go_wp2
      go_ret
      exact ⟨ret_i64 HE.out.symm, B3.out⟩
    | true =>
      have hg : gameB O zss P In = true := by unfold gameB; rw [hp, hs]; rfl
      have HE : Hid (r = topK P In In.length) := by rw [← hr]; unfold topV; rw [if_pos hg]; rfl
      have HS := Lib.hid hs
      have HGY := Lib.hid (gameB_yes hg)
      clear hr hp hs hg
      go_enter Try.func39, Try.ntmps39
      go_wp2_with fail
      rw [← HW1.out]
      refine HC.out.mono ?_
      rintro e w2 ⟨rfl, hb⟩
      have B2 := Lib.hid (B1.out.trans (hb.mono B1.out.size))
      have T2 := Lib.hid (T1.out.below hb)
      clear hb HC
      have t0 := T2.out.c0
      have t1 := T2.out.c1
      have t2 := T2.out.c2
      have HC2 := Lib.hid (l4Set_is HS.out cI (HGm.out.below B2.out) (HI.out.below B2.out))
      go_wp2_with fail
      refine HC2.out.mono ?_
      rintro e w3 ⟨rfl, hb⟩
      have B3 := Lib.hid (B2.out.trans (hb.mono B2.out.size))
      have T3 := Lib.hid (T2.out.below hb)
      clear hb HC2 t0 t1 t2
      have t0 := T3.out.c0
      have t1 := T3.out.c1
      have t2 := T3.out.c2
      have HC3 := Lib.hid (l4Top_is cI (HGm.out.below B3.out) (HI.out.below B3.out) HGY.out.2.2.2.2)
      go_wp2_with fail
      refine HC3.out.mono ?_
      rintro e w4 ⟨rfl, hb⟩
      have B4 := Lib.hid (B3.out.trans (hb.mono B3.out.size))
      clear hb HC3 t0 t1 t2
      go_wp2
      go_ret
      exact ⟨ret_i64 HE.out.symm, B4.out⟩
end

section
open Go.RowKit

/-- The priorities of the first k of In, rising. -/
def priosK (P In : List Int) : Nat → List Int
  | 0 => []
  | k + 1 => intoL (priosK P In k) (nth P (nth In k).toNat)
theorem priosK_len (P In : List Int) : ∀ k, (priosK P In k).length ≤ k
  | 0 => by simp [priosK]
  | k + 1 => by
    have h1 := priosK_len P In k
    have h2 := intoL_len (priosK P In k) (nth P (nth In k).toNat)
    rw [priosK]; omega

set_option maxHeartbeats 8000000 in
set_option maxRecDepth 100000 in
theorem l4Prios_is {w : World} {v : Value} {O : List Int} {zss : List (List Int)} {P In : List Int} {aI : Option Addr} (cI : Nat) (h : GameAt w v O zss P) (hI : IntsAt w aI In) (hin : ∀ x ∈ In, ∃ u : Nat, x = (u : Int) ∧ u < P.length) (hl : In.length ≤ 1048576) :
    Calls Try.prog 75 #[v, .slice aI In.length cI] w (GivesInts w (priosK P In In.length)) := by
  obtain ⟨ao, an, ap, co, cn, cp, A, C, rfl, h1, h2, h3⟩ := h
  have hlP := h3.len
  have HP := Lib.hid h3
  have HI := Lib.hid hI
  have HIN := Lib.hid hin
  obtain ⟨w1, hw1⟩ : ∃ y, y = w.alloc (.cells #[.slice ao O.length co, .slice an zss.length cn, .slice ap P.length cp] 32) := ⟨_, rfl⟩
  have HW1 := Lib.hid hw1
  have hs1 : w1.heap.size = w.heap.size + 1 := by rw [hw1]; simp
  have B1 : Hid (Below w.heap.size w w1) := by rw [hw1]; exact below1 _ _
  have T1 : Hid (Box3 w1 w.heap.size 32 (.slice ao O.length co) (.slice an zss.length cn) (.slice ap P.length cp)) := by rw [hw1]; exact Box3.new _ _ _ _ _
  obtain ⟨w2, hw2⟩ : ∃ y, y = w1.alloc (.cells #[] 2) := ⟨_, rfl⟩
  have HW2 := Lib.hid hw2
  have K2 : Hid (Below w1.heap.size w1 w2) := by rw [hw2]; exact below1 _ _
  have O2 : Hid (OwnInts w2 w1.heap.size w2.heap.size (.slice (some ⟨w1.heap.size, 0, none⟩) 0 0) []) := by
    rw [hw2]; exact OwnInts.mk' (World.ownsRow_made w1 #[] 0 (Nat.le_refl _) (by unfold maxLen; omega) rfl) (by simp) (fun k hk => absurd hk (by simp))
  have HS1 := Lib.hid hs1
  clear hw1 hw2 h1 h2 h3 hI hin hs1
  go_enter Try.func75, Try.ntmps75
  go_wp2
  rw [← HW1.out, ← HS1.out, ← HW2.out]
  go_loopw [5, 6] (fun ov iv wr => ∃ k : Nat, k ≤ In.length ∧ iv = .int .i64 k ∧ Hid (OwnInts wr w1.heap.size wr.heap.size ov (priosK P In k)) ∧ Hid (Below w1.heap.size w1 wr)) (fun _ iv _ => In.length - (intOf iv).toNat)
  case atStart => exact ⟨0, Nat.zero_le _, rfl, O2, K2⟩
  case round =>
    clear K2 O2
    obtain ⟨k, hk, rfl, HO, HK⟩ := hrel
    have hpl := priosK_len P In k
    by_cases hlt : k < In.length
    · have hi1 : (k : Int) < In.length := by omega
      have hk0 : (0 : Int) ≤ (k : Int) := by omega
      obtain ⟨u, hu, hup⟩ := HIN.out _ (nth_mem hlt)
      have BWr := Lib.hid (B1.out.trans (HK.out.mono B1.out.size))
      obtain ⟨ib, io, hia, hic⟩ := (HI.out.below BWr.out).cell (by omega)
      obtain ⟨pb, po, hpa, hpc⟩ := (HP.out.below BWr.out).cell (by omega)
      have hfz := HP.out.fits u hup
      have i1 := hic k hlt
      have p1 := hpc u hup
      rw [hu] at i1
      have hu0 : (0 : Int) ≤ (u : Int) := by omega
      have hup1 : (u : Int) < P.length := by omega
      have t2 := (T1.out.below HK.out).c2
      obtain ⟨z, hz⟩ : ∃ z, z = nth P u := ⟨_, rfl⟩
      have HT : Hid (priosK P In (k + 1) = intoL (priosK P In k) z) := by
        simp only [Hid, priosK]
        rw [hu, Int.toNat_natCast, ← hz]
      rw [← hz] at p1 hfz
      subst hia
      subst hpa
      have HOd := Lib.hid ((HO.out.below (Below.refl _ wr).drew).retop)
      have Kd := Lib.hid (HK.out.trans ((Below.refl wr.heap.size wr).drew.mono HK.out.size))
      have HIt := Lib.hid (l1Into_is (x := z) HOd.out Kd.out.size (by omega) hfz)
      clear hic hpc hz hu hfz
      go_wp2
      go_region_law (first
        | (go_simp; go_at_call 96; refine HIt.out.mono ?_; rintro e w3 ⟨u3, rfl, hu3, hb3⟩; have HO3 := Lib.hid hu3; have K3 := Lib.hid (Kd.out.trans (hb3.mono Kd.out.size)); clear hu3 hb3))
      all_goals (
        rw [← HT.out] at HO3
        go_wp2
        go_roundw
        case rel => exact ⟨k + 1, by omega, by go_num, HO3, K3⟩
        case measure => simp [intOf]; omega)
    · have hi1 : ¬ (k : Int) < In.length := by omega
      have hkk : k = In.length := by omega
      rw [hkk] at HO
      have hfin := Lib.hid (And.intro (HO.out.base (B' := w.heap.size) (by have := HS1.out; omega)) (B1.out.trans (HK.out.mono B1.out.size)))
      clear hkk HO
      go_wp2
      go_ret
      exact ⟨_, rfl, hfin.out⟩

open Classical in
/-- What PriosIn gives. -/
noncomputable def priosV (O : List Int) (zss : List (List Int)) (P In : List Int) : List Int := if gameB O zss P In = true then priosK P In In.length else []

set_option maxHeartbeats 4000000 in
theorem specPriosIn_is {w : World} {v : Value} {O : List Int} {zss : List (List Int)} {P In r : List Int} {aI : Option Addr} (cI : Nat) (hr : priosV O zss P In = r) (h : GameAt w v O zss P) (hI : IntsAt w aI In) :
    Calls Try.prog 48 #[v, .slice aI In.length cI] w (GivesInts w r) := by
  have HGm := Lib.hid h
  have HI := Lib.hid hI
  obtain ⟨ao, an, ap, co, cn, cp, A, C, rfl, h1, h2, h3⟩ := h
  obtain ⟨w1, hw1⟩ : ∃ y, y = w.alloc (.cells #[.slice ao O.length co, .slice an zss.length cn, .slice ap P.length cp] 32) := ⟨_, rfl⟩
  have HW1 := Lib.hid hw1
  have B1 : Hid (Below w.heap.size w w1) := by rw [hw1]; exact below1 _ _
  have T1 : Hid (Box3 w1 w.heap.size 32 (.slice ao O.length co) (.slice an zss.length cn) (.slice ap P.length cp)) := by rw [hw1]; exact Box3.new _ _ _ _ _
  clear hw1 h1 h2 h3 hI
  cases hp : parityB O zss P with
  | false =>
    have HE : Hid (r = []) := by rw [← hr]; unfold priosV gameB; rw [hp]; simp [Hid]
    have HC := Lib.hid (specParityOk_is hp (HGm.out.below B1.out))
    clear hr hp
    go_enter Try.func48, Try.ntmps48
    go_wp2_with fail
    rw [← HW1.out]
    refine HC.out.mono ?_
    rintro e w2 ⟨rfl, hb⟩
    have B2 := Lib.hid (B1.out.trans (hb.mono B1.out.size))
    clear hb HC
    go_wp2
    go_ret
    refine ⟨_, rfl, ?_, B2.out.trans ((below1 w2 _).mono B2.out.size)⟩
    rw [HE.out]
    exact OwnInts.mk' (World.ownsRow_made w2 #[] 0 B2.out.size (by unfold maxLen; omega) rfl) (by simp) (fun k hk => absurd hk (by simp))
  | true =>
    have HC := Lib.hid (specParityOk_is hp (HGm.out.below B1.out))
    cases hs : setB P.length In with
    | false =>
      have HE : Hid (r = []) := by rw [← hr]; unfold priosV gameB; rw [hp, hs]; simp [Hid]
      have HS := Lib.hid hs
      clear hr hp hs
      go_enter Try.func48, Try.ntmps48
      go_wp2_with fail
      rw [← HW1.out]
      refine HC.out.mono ?_
      rintro e w2 ⟨rfl, hb⟩
      have B2 := Lib.hid (B1.out.trans (hb.mono B1.out.size))
      have T2 := Lib.hid (T1.out.below hb)
      clear hb HC
      have t0 := T2.out.c0
      have t1 := T2.out.c1
      have t2 := T2.out.c2
      have HC2 := Lib.hid (l4Set_is HS.out cI (HGm.out.below B2.out) (HI.out.below B2.out))
      go_wp2_with fail
      refine HC2.out.mono ?_
      rintro e w3 ⟨rfl, hb⟩
      have B3 := Lib.hid (B2.out.trans (hb.mono B2.out.size))
      clear hb HC2 t0 t1 t2
      go_wp2
      go_ret
      refine ⟨_, rfl, ?_, B3.out.trans ((below1 w3 _).mono B3.out.size)⟩
      rw [HE.out]
      exact OwnInts.mk' (World.ownsRow_made w3 #[] 0 B3.out.size (by unfold maxLen; omega) rfl) (by simp) (fun k hk => absurd hk (by simp))
    | true =>
      have hg : gameB O zss P In = true := by unfold gameB; rw [hp, hs]; rfl
      have HE : Hid (r = priosK P In In.length) := by rw [← hr]; unfold priosV; rw [if_pos hg]; rfl
      have HS := Lib.hid hs
      have HGY := Lib.hid (gameB_yes hg)
      clear hr hp hs hg
      go_enter Try.func48, Try.ntmps48
      go_wp2_with fail
      rw [← HW1.out]
      refine HC.out.mono ?_
      rintro e w2 ⟨rfl, hb⟩
      have B2 := Lib.hid (B1.out.trans (hb.mono B1.out.size))
      have T2 := Lib.hid (T1.out.below hb)
      clear hb HC
      have t0 := T2.out.c0
      have t1 := T2.out.c1
      have t2 := T2.out.c2
      have HC2 := Lib.hid (l4Set_is HS.out cI (HGm.out.below B2.out) (HI.out.below B2.out))
      go_wp2_with fail
      refine HC2.out.mono ?_
      rintro e w3 ⟨rfl, hb⟩
      have B3 := Lib.hid (B2.out.trans (hb.mono B2.out.size))
      have T3 := Lib.hid (T2.out.below hb)
      clear hb HC2 t0 t1 t2
      have t0 := T3.out.c0
      have t1 := T3.out.c1
      have t2 := T3.out.c2
      have HC3 := Lib.hid (l4Prios_is cI (HGm.out.below B3.out) (HI.out.below B3.out) HGY.out.2.2.2.2 (by
        have h1 := HGY.out.1.2.1
        have h2 := HGY.out.2.1
        have h3 := setB_len (by omega) HGY.out.2.2.2.1
        omega))
      go_wp2_with fail
      refine HC3.out.mono ?_
      rintro e w4 ⟨vz, rfl, hv, hb⟩
      have B4 := Lib.hid (B3.out.trans (hb.mono B3.out.size))
      have HV := Lib.hid (hv.base B3.out.size)
      clear hb hv HC3 t0 t1 t2
      go_wp2
      go_ret
      exact ⟨_, rfl, by rw [HE.out]; exact HV.out, B4.out⟩
end

end Go.Proofs.Ytmobegiojhlakaa
