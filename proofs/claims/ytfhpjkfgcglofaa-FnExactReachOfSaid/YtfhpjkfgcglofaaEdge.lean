/-
  Contracts: is a number in a slice (l1Has, slices.Index, slices.Contains), is a number a vertex, EdgeIn and its model.
-/
import Derived.Test.YtfhpjkfgcglofaaSpecArena
namespace Go.Proofs.Ytfhpjkfgcglofaa
open Go.RowKit

set_option maxHeartbeats 400000 in
theorem l1Has_is {a : Option Addr} {zs : List Int} {x : Int} {r : Bool} (hr : hasB zs x = r) (cap : Nat) (w : World) (h : IntsAt w a zs) :
    Calls Try.prog 61 #[.slice a zs.length cap, .int .i64 x] w fun e w' => e = .returned (.bool r) ∧ w = w' := by
  obtain ⟨hlen, _, hcell⟩ := h
  have HR := Lib.hid hr
  have HC := Lib.hid hcell
  clear hcell hr
  go_enter Try.func61, Try.ntmps61
  go_wp2
  go_loop [5] (fun i => ∃ k : Nat, k ≤ zs.length ∧ i = .int .i64 k ∧ Hid (∀ j, j < k → nth zs j ≠ x)) (fun i => zs.length - (intOf i).toNat)
  case atStart => exact ⟨0, Nat.zero_le _, rfl, fun j hj => absurd hj (Nat.not_lt_zero _)⟩
  case round =>
    obtain ⟨k, hk, rfl, HK⟩ := hrel
    by_cases hlt : k < zs.length
    · obtain ⟨b, off, ha, hc⟩ := HC.out (by omega)
      subst ha
      have hck := hc k hlt
      clear hc
      by_cases he : nth zs k = x
      · have HE : Hid (r = true) := by rw [← HR.out]; exact hasB_yes hlt he
        have he' : (nth zs k == x) = true := by simp [he]
        clear he
        go_wp2
        go_ret
        exact ⟨ret_bool HE.out.symm, rfl⟩
      · have HE : Hid (∀ j, j < k + 1 → nth zs j ≠ x) := fun j hj => by
          by_cases hj' : j < k
          · exact HK.out j hj'
          · obtain rfl : j = k := by omega
            exact he
        have he' : (nth zs k == x) = false := by simp [he]
        clear he
        go_wp2
        go_round
        case rel => exact ⟨k + 1, by omega, by go_num, HE⟩
        case measure => simp [intOf]; omega
    · have HE : Hid (r = false) := by rw [← HR.out]; exact hasB_no fun j hj => HK.out j (by omega)
      go_wp2
      go_ret
      exact ⟨ret_bool HE.out.symm, rfl⟩

set_option maxHeartbeats 400000 in
theorem Index_is {a : Option Addr} {zs : List Int} {x i : Int} (hr : idx zs x = i) (cap : Nat) (w : World) (h : IntsAt w a zs) :
    Calls Try.prog 90 #[.slice a zs.length cap, .int .i64 x] w fun e w' => e = .returned (.int .i64 i) ∧ w = w' := by
  obtain ⟨hlen, _, hcell⟩ := h
  have HR := Lib.hid hr
  have HC := Lib.hid hcell
  clear hcell hr
  go_enter Try.func90, Try.ntmps90
  go_wp2
  go_loop [8] (fun i => ∃ k : Nat, k ≤ zs.length ∧ i = .int .i64 k ∧ Hid (∀ j, j < k → nth zs j ≠ x)) (fun i => zs.length - (intOf i).toNat)
  case atStart => exact ⟨0, Nat.zero_le _, rfl, fun j hj => absurd hj (Nat.not_lt_zero _)⟩
  case round =>
    obtain ⟨k, hk, rfl, HK⟩ := hrel
    by_cases hlt : k < zs.length
    · obtain ⟨b, off, ha, hc⟩ := HC.out (by omega)
      subst ha
      have hck := hc k hlt
      clear hc
      by_cases he : x = nth zs k
      · have HE : Hid ((k : Int) = i) := by rw [← HR.out]; exact (idx_at hlt he.symm HK.out).symm
        have he' : (x == nth zs k) = true := by simp [he]
        clear he
        go_wp2
        go_ret
        exact ⟨ret_i64 HE.out, rfl⟩
      · have HE : Hid (∀ j, j < k + 1 → nth zs j ≠ x) := fun j hj => by
          by_cases hj' : j < k
          · exact HK.out j hj'
          · obtain rfl : j = k := by omega
            exact fun e => he e.symm
        have he' : (x == nth zs k) = false := by simp [he]
        clear he
        go_wp2
        go_round
        case rel => exact ⟨k + 1, by omega, by go_num, HE⟩
        case measure => simp [intOf]; omega
    · have HE : Hid (i = -1) := by rw [← HR.out]; exact idx_none fun j hj => HK.out j (by omega)
      go_wp2
      go_ret
      exact ⟨ret_i64 HE.out.symm, rfl⟩

theorem idx_has (zs : List Int) (x : Int) : decide (0 ≤ idx zs x) = hasB zs x := by
  unfold idx hasB
  by_cases h : x ∈ zs
  · rw [if_pos h]; simp [h]
  · rw [if_neg h]; simp [h]

set_option maxHeartbeats 400000 in
theorem Contains_is {a : Option Addr} {zs : List Int} {x : Int} {r : Bool} (hr : hasB zs x = r) (cap : Nat) (w : World) (h : IntsAt w a zs) :
    Calls Try.prog 71 #[.slice a zs.length cap, .int .i64 x] w fun e w' => e = .returned (.bool r) ∧ w = w' := by
  obtain ⟨i, hi⟩ : ∃ i, idx zs x = i := ⟨_, rfl⟩
  have HE : Hid (decide (0 ≤ i) = r) := by rw [← hr, ← idx_has, hi]; rfl
  have HC := Lib.hid (Index_is hi cap w h)
  clear hr hi h
  go_enter Try.func71, Try.ntmps71
  go_wp2_with (go_at_call 90; refine HC.out.mono ?_; rintro e w' ⟨rfl, rfl⟩)
  go_ret
  exact ⟨ret_bool HE.out, rfl⟩

/-- Is v a vertex of an arena of n vertices? -/
def thereB (n : Nat) (v : Int) : Bool := decide (0 ≤ v ∧ v < n)

set_option maxHeartbeats 400000 in
theorem hasVertex_is {w : World} {va : Value} {O : List Int} {zss : List (List Int)} {x : Int} {r : Bool} (hr : thereB O.length x = r) (h : ArenaAt w va O zss) :
    Calls Try.prog 70 #[va, .int .i64 x] w fun e w' => e = .returned (.bool r) ∧ Below w.heap.size w w' := by
  obtain ⟨ao, an, co, cn, A, C, rfl, h1, h2⟩ := h
  have hl := h1.len
  clear h1 h2
  unfold thereB at hr
  by_cases h0 : 0 ≤ x
  · have HE : Hid (decide (x < O.length) = r) := by rw [← hr]; simp [Hid, h0]
    clear hr
    go_enter Try.func70, Try.ntmps70
    go_wp2
    go_ret
    exact ⟨ret_bool HE.out, below2 _ _ _⟩
  · have HE : Hid (r = false) := by rw [← hr]; simp [Hid, h0]
    clear hr
    go_enter Try.func70, Try.ntmps70
    go_wp2
    go_ret
    exact ⟨ret_bool HE.out.symm, below1 _ _⟩

theorem thereB_in (n : Nat) (x : Int) : inB x 0 ((n : Int) - 1) = thereB n x := by
  unfold inB thereB
  exact decide_eq_decide.2 (by omega)

set_option maxHeartbeats 400000 in
theorem l1There_is {w : World} {va : Value} {O : List Int} {zss : List (List Int)} {x : Int} {r : Bool} (hr : thereB O.length x = r) (h : ArenaAt w va O zss) :
    Calls Try.prog 69 #[va, .int .i64 x] w fun e w' => e = .returned (.bool r) ∧ Below w.heap.size w w' := by
  obtain ⟨ao, an, co, cn, A, C, rfl, h1, h2⟩ := h
  have hl := h1.len
  clear h1 h2
  rw [← thereB_in] at hr
  have HC := Lib.hid (l1In_is hr)
  clear hr
  go_enter Try.func69, Try.ntmps69
  go_wp2_with (go_at_call 64; refine (HC.out _).mono ?_; rintro e w' ⟨rfl, rfl⟩)
  go_ret
  exact ⟨rfl, below1 _ _⟩

noncomputable def edgeB (O : List Int) (zss : List (List Int)) (v u : Int) : Bool := arenaB O zss && (thereB O.length v && hasB (row zss v.toNat) u)

theorem there_nat {n : Nat} {v : Int} (h : thereB n v = true) : ∃ k : Nat, v = k ∧ k < n := by
  simp only [thereB, decide_eq_true_eq] at h
  exact ⟨v.toNat, by omega, by omega⟩

set_option maxHeartbeats 1000000 in
theorem EdgeIn_is {w : World} {va : Value} {O : List Int} {zss : List (List Int)} {v u : Int} {r : Bool} (hr : edgeB O zss v u = r) (h : ArenaAt w va O zss) :
    Calls Try.prog 26 #[va, .int .i64 v, .int .i64 u] w fun e w' => e = .returned (.bool r) ∧ Below w.heap.size w w' := by
  have HAt := Lib.hid h
  obtain ⟨ao, an, co, cn, A, C, rfl, h1, h2⟩ := h
  have hlO := h1.len
  have hlN := h2.len
  have HN := Lib.hid h2
  clear h1 h2
  have HR := Lib.hid hr
  clear hr
  cases hA : arenaB O zss with
  | false =>
    have HE : Hid (r = false) := by rw [← HR.out]; simp [edgeB, hA, Hid]
    have HC := Lib.hid (ArenaOk_at hA (HAt.out.alloc (.cells #[.slice ao O.length co, .slice an zss.length cn] 27)))
    clear hA
    go_enter Try.func26, Try.ntmps26
    go_wp2_with (go_at_call 21; refine HC.out.mono ?_; rintro e w1 ⟨rfl, hb⟩; have B1 := Lib.hid ((below1 _ _).trans (hb.mono (by simp))); clear hb)
    go_ret
    exact ⟨ret_bool HE.out.symm, B1.out⟩
  | true =>
    have HP := Lib.hid (arenaB_iff.1 hA)
    have HC := Lib.hid (ArenaOk_at hA (HAt.out.alloc (.cells #[.slice ao O.length co, .slice an zss.length cn] 27)))
    cases hT : thereB O.length v with
    | false =>
      have HE : Hid (r = false) := by rw [← HR.out]; simp [edgeB, hT, Hid]
      have HT := Lib.hid hT
      clear hA hT
      go_enter Try.func26, Try.ntmps26
      go_wp2_with fail
      refine HC.out.mono ?_
      rintro e w1 ⟨rfl, hb⟩
      have B1 := Lib.hid ((below1 _ _).trans (hb.mono (by simp)))
      have b1 := Lib.hid ((Box2.new w 27 (.slice ao O.length co) (.slice an zss.length cn)).below hb)
      have A1 := Lib.hid ((HAt.out.alloc _).below hb)
      clear hb
      have c0 := b1.out.cell0
      have c1 := b1.out.cell1
      go_wp2_with fail
      refine (hasVertex_is HT.out A1.out).mono ?_
      rintro e w2 ⟨rfl, hb⟩
      have B2 := Lib.hid (B1.out.trans (hb.mono B1.out.size))
      clear hb
      go_wp2
      go_ret
      exact ⟨ret_bool HE.out.symm, B2.out⟩
    | true =>
      have HE : Hid (hasB (row zss v.toNat) u = r) := by rw [← HR.out]; simp [edgeB, hA, hT, Hid]
      obtain ⟨k, rfl, hk⟩ := there_nat hT
      rw [Int.toNat_natCast] at HE
      have HT := Lib.hid hT
      have hkz : k < zss.length := by rw [HP.out.2.2.1]; exact hk
      clear hA hT
      go_enter Try.func26, Try.ntmps26
      go_wp2_with fail
      refine HC.out.mono ?_
      rintro e w1 ⟨rfl, hb⟩
      have B1 := Lib.hid ((below1 _ _).trans (hb.mono (by simp)))
      have b1 := Lib.hid ((Box2.new w 27 (.slice ao O.length co) (.slice an zss.length cn)).below hb)
      have A1 := Lib.hid ((HAt.out.alloc _).below hb)
      have N1 := Lib.hid ((HN.out.alloc _).below hb)
      clear hb
      have c0 := b1.out.cell0
      have c1 := b1.out.cell1
      go_wp2_with fail
      refine (hasVertex_is HT.out A1.out).mono ?_
      rintro e w2 ⟨rfl, hb⟩
      have B2 := Lib.hid (B1.out.trans (hb.mono B1.out.size))
      have N2 := Lib.hid (N1.out.below hb)
      have b2 := Lib.hid (b1.out.below hb)
      clear hb c0 c1
      obtain ⟨b, off, ha, hc⟩ := N2.out.cell (by omega)
      subst ha
      have hck := hc k hkz
      clear hc
      have c1 := b2.out.cell1
      have HH := Lib.hid (Contains_is HE.out (C k) w2 (N2.out.rows k hkz))
      go_wp2_with (go_at_call 71; refine HH.out.mono ?_; rintro e w' ⟨rfl, rfl⟩)
      go_ret
      exact ⟨rfl, B2.out⟩

set_option maxHeartbeats 1000000 in
theorem specEdgeIn_is {w : World} {va : Value} {O : List Int} {zss : List (List Int)} {v u : Int} {r : Bool} (hr : edgeB O zss v u = r) (h : ArenaAt w va O zss) :
    Calls Try.prog 25 #[va, .int .i64 v, .int .i64 u] w fun e w' => e = .returned (.bool r) ∧ Below w.heap.size w w' := by
  have HAt := Lib.hid h
  obtain ⟨ao, an, co, cn, A, C, rfl, h1, h2⟩ := h
  have hlO := h1.len
  have hlN := h2.len
  have HN := Lib.hid h2
  clear h1 h2
  have HR := Lib.hid hr
  clear hr
  cases hA : arenaB O zss with
  | false =>
    have HE : Hid (r = false) := by rw [← HR.out]; simp [edgeB, hA, Hid]
    have HC := Lib.hid (specArenaOk_at hA (HAt.out.alloc (.cells #[.slice ao O.length co, .slice an zss.length cn] 27)))
    clear hA
    go_enter Try.func25, Try.ntmps25
    go_wp2_with (go_at_call 19; refine HC.out.mono ?_; rintro e w1 ⟨rfl, hb⟩; have B1 := Lib.hid ((below1 _ _).trans (hb.mono (by simp))); clear hb)
    go_ret
    exact ⟨ret_bool HE.out.symm, B1.out⟩
  | true =>
    have HP := Lib.hid (arenaB_iff.1 hA)
    have HC := Lib.hid (specArenaOk_at hA (HAt.out.alloc (.cells #[.slice ao O.length co, .slice an zss.length cn] 27)))
    cases hT : thereB O.length v with
    | false =>
      have HE : Hid (r = false) := by rw [← HR.out]; simp [edgeB, hT, Hid]
      have HT := Lib.hid hT
      clear hA hT
      go_enter Try.func25, Try.ntmps25
      go_wp2_with fail
      refine HC.out.mono ?_
      rintro e w1 ⟨rfl, hb⟩
      have B1 := Lib.hid ((below1 _ _).trans (hb.mono (by simp)))
      have b1 := Lib.hid ((Box2.new w 27 (.slice ao O.length co) (.slice an zss.length cn)).below hb)
      have A1 := Lib.hid ((HAt.out.alloc _).below hb)
      clear hb
      have c0 := b1.out.cell0
      have c1 := b1.out.cell1
      go_wp2_with fail
      refine (l1There_is HT.out A1.out).mono ?_
      rintro e w2 ⟨rfl, hb⟩
      have B2 := Lib.hid (B1.out.trans (hb.mono B1.out.size))
      clear hb
      go_wp2
      go_ret
      exact ⟨ret_bool HE.out.symm, B2.out⟩
    | true =>
      have HE : Hid (hasB (row zss v.toNat) u = r) := by rw [← HR.out]; simp [edgeB, hA, hT, Hid]
      obtain ⟨k, rfl, hk⟩ := there_nat hT
      rw [Int.toNat_natCast] at HE
      have HT := Lib.hid hT
      have hkz : k < zss.length := by rw [HP.out.2.2.1]; exact hk
      clear hA hT
      go_enter Try.func25, Try.ntmps25
      go_wp2_with fail
      refine HC.out.mono ?_
      rintro e w1 ⟨rfl, hb⟩
      have B1 := Lib.hid ((below1 _ _).trans (hb.mono (by simp)))
      have b1 := Lib.hid ((Box2.new w 27 (.slice ao O.length co) (.slice an zss.length cn)).below hb)
      have A1 := Lib.hid ((HAt.out.alloc _).below hb)
      have N1 := Lib.hid ((HN.out.alloc _).below hb)
      clear hb
      have c0 := b1.out.cell0
      have c1 := b1.out.cell1
      go_wp2_with fail
      refine (l1There_is HT.out A1.out).mono ?_
      rintro e w2 ⟨rfl, hb⟩
      have B2 := Lib.hid (B1.out.trans (hb.mono B1.out.size))
      have N2 := Lib.hid (N1.out.below hb)
      have b2 := Lib.hid (b1.out.below hb)
      clear hb c0 c1
      obtain ⟨b, off, ha, hc⟩ := N2.out.cell (by omega)
      subst ha
      have hck := hc k hkz
      clear hc
      have c1 := b2.out.cell1
      have HH := Lib.hid (l1Has_is HE.out (C k) w2 (N2.out.rows k hkz))
      go_wp2_with (go_at_call 61; refine HH.out.mono ?_; rintro e w' ⟨rfl, rfl⟩)
      go_ret
      exact ⟨rfl, B2.out⟩

end Go.Proofs.Ytfhpjkfgcglofaa
