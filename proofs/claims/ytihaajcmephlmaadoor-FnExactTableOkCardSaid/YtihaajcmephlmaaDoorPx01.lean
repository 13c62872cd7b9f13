/-
  Contracts: the model's ParityOk.
-/
import Derived.Deep.RegionHeld3
import Derived.Lib.SlicesCompact
import Derived.Test.YtihaajcmephlmaaDoorPx00
namespace Go.Proofs.YtihaajcmephlmaaDoor
section
section
open Go.RowKit

set_option maxHeartbeats 4000000 in
set_option maxRecDepth 100000 in
theorem specParityOk_is {w : World} {v : Value} {O : List Int} {zss : List (List Int)} {P : List Int} {r : Bool} (hr : parityB O zss P = r) (h : GameAt w v O zss P) :
    Calls Tryd.prog 58 #[v] w fun e w' => e = .returned (.bool r) ∧ Below w.heap.size w w' := by
  obtain ⟨ao, an, ap, co, cn, cp, A, C, rfl, h1, h2, h3⟩ := h
  have hlO := h1.len
  have hlP := h3.len
  have HP := Lib.hid h3
  have BW := Lib.hid (below1 w (.cells #[.slice ao O.length co, .slice an zss.length cn, .slice ap P.length cp] 33))
  have bW := Lib.hid (Box3.new w 33 (.slice ao O.length co) (.slice an zss.length cn) (.slice ap P.length cp))
  have HA : Hid (ArenaAt (w.alloc (.cells #[.slice ao O.length co, .slice an zss.length cn, .slice ap P.length cp] 33)) (.agg #[.slice ao O.length co, .slice an zss.length cn]) O zss) := ⟨_, _, _, _, _, _, rfl, h1.below BW.out, h2.below BW.out⟩
  clear h1 h2 h3
  cases hA : arenaB O zss with
  | false =>
    have HE : Hid (r = false) := by rw [← hr]; simp [parityB, hA, Hid]
    have HC := Lib.hid (specArenaOk_at hA HA.out)
    clear hA hr
    go_enter Tryd.func58, Tryd.ntmps58
    go_wp2_with fail
    refine HC.out.mono ?_
    rintro e w1 ⟨rfl, hb⟩
    have B1 := Lib.hid (BW.out.trans (hb.mono BW.out.size))
    clear hb
    go_wp2
    go_ret
    exact ⟨by rw [HE.out]; rfl, B1.out⟩
  | true =>
    have HC := Lib.hid (specArenaOk_at hA HA.out)
    by_cases hl : P.length = O.length
    · have HL := Lib.hid hl
      have HR : Hid (priosB P = r) := by rw [← hr]; simp [parityB, hA, hl, Hid]
      clear hA hr hl
      go_enter Tryd.func58, Tryd.ntmps58
      go_wp2_with fail
      refine HC.out.mono ?_
      rintro e w1 ⟨rfl, hb⟩
      have B1 := Lib.hid (BW.out.trans (hb.mono BW.out.size))
      have T1 := Lib.hid (bW.out.below hb)
      clear hb HC BW HA bW
      have t0 := T1.out.c0
      have t2 := T1.out.c2
      have hne : ((P.length : Int) != (O.length : Int)) = false := by have := HL.out; simp; omega
      have K1 := Lib.hid (Below.refl w1.heap.size w1)
      go_wp2
      go_loopw [3] (fun iv wr => ∃ k : Nat, k ≤ P.length ∧ iv = .int .i64 k ∧ Hid (∀ j, j < k → 0 ≤ nth P j ∧ nth P j ≤ 40) ∧ Hid (Below w1.heap.size w1 wr)) (fun iv _ => P.length - (intOf iv).toNat)
      case atStart => exact ⟨0, Nat.zero_le _, rfl, fun j hj => absurd hj (Nat.not_lt_zero _), K1⟩
      case round =>
        clear K1 t0 t2 hne
        obtain ⟨k, hk, rfl, HB, HK⟩ := hrel
        have t2 := (T1.out.below HK.out).c2
        by_cases hlt : k < P.length
        · have hi1 : (k : Int) < P.length := by omega
          have hk0 : (0 : Int) ≤ (k : Int) := by omega
          obtain ⟨b, off, ha, hc⟩ := (HP.out.below (B1.out.trans (HK.out.mono B1.out.size))).cell (by omega)
          have c := hc k hlt
          subst ha
          clear hc
          cases hx : inB (nth P k) 0 40 with
          | false =>
            have HE : Hid (r = false) := by
              rw [← HR.out]
              exact priosB_no hlt (by
                intro h
                rw [inB_yes h.1 h.2] at hx
                cases hx)
            have HI := Lib.hid (fun W => l1In_is hx W)
            clear hx
            go_wp2_with fail
            refine (HI.out _).mono ?_
            rintro e w2 ⟨rfl, rfl⟩
            go_wp2
            go_ret
            exact ⟨by rw [HE.out]; rfl, B1.out.trans (HK.out.mono B1.out.size)⟩
          | true =>
            have hx2 : 0 ≤ nth P k ∧ nth P k ≤ 40 := by
              unfold inB at hx
              exact of_decide_eq_true hx
            have HBn : Hid (∀ j, j < k + 1 → 0 ≤ nth P j ∧ nth P j ≤ 40) := fun j hj => by
              by_cases e : j = k
              · rw [e]; exact hx2
              · exact HB.out j (by omega)
            have HI := Lib.hid (fun W => l1In_is hx W)
            clear hx hx2
            go_wp2_with fail
            refine (HI.out _).mono ?_
            rintro e w2 ⟨rfl, rfl⟩
            go_wp2
            go_roundw
            case rel => exact ⟨k + 1, by omega, by go_num, HBn, HK⟩
            case measure => simp [intOf]; omega
        · have hi1 : ¬ (k : Int) < P.length := by omega
          have hkk : k = P.length := by omega
          rw [hkk] at HB
          have HE : Hid (r = true) := by rw [← HR.out]; exact priosB_yes HB.out
          have hfin := Lib.hid (B1.out.trans (HK.out.mono B1.out.size))
          clear hkk HB
          go_wp2
          go_ret
          exact ⟨by rw [HE.out]; rfl, hfin.out⟩
    · have HE : Hid (r = false) := by rw [← hr]; simp [parityB, hl, Hid]
      have hne : ((P.length : Int) != (O.length : Int)) = true := by simp; omega
      clear hA hr
      go_enter Tryd.func58, Tryd.ntmps58
      go_wp2_with fail
      refine HC.out.mono ?_
      rintro e w1 ⟨rfl, hb⟩
      have B1 := Lib.hid (BW.out.trans (hb.mono BW.out.size))
      have T1 := Lib.hid (bW.out.below hb)
      clear hb
      have t0 := T1.out.c0
      have t2 := T1.out.c2
      go_wp2
      go_ret
      exact ⟨by rw [HE.out]; rfl, B1.out⟩
end

section
open Go.RowKit

end

section
open Go.RowKit

end

section
open Go.RowKit

end

section
open Go.RowKit

end
end

section
open Go.RowKit

end

section
section
open Go.RowKit

end

section
open Go.RowKit

end
end

section
section
open Go.RowKit

theorem arr_nth (zs : List Int) (m : Nat) : zs.toArray[m]! = nth zs m := by
  by_cases h : m < zs.length
  · rw [getElem!_pos _ _ (by simpa using h), nth_eq h]; simp
  · simp [nth, h]

/-- Of a sorted list each element once. -/
def compL (zs : List Int) : List Int := Go.Lib.compactUpTo zs.toArray zs.length

theorem comp_spec {zs : List Int} (hs : ∀ i j, i ≤ j → j < zs.length → nth zs i ≤ nth zs j) : ∀ m, m ≤ zs.length →
    (Go.Lib.compactUpTo zs.toArray m).Pairwise (· < ·) ∧ ∀ x, x ∈ Go.Lib.compactUpTo zs.toArray m ↔ ∃ j, j < m ∧ nth zs j = x
  | 0, _ => ⟨by simp [Go.Lib.compactUpTo], by simp [Go.Lib.compactUpTo]⟩
  | m + 1, h => by
    obtain ⟨ih1, ih2⟩ := comp_spec hs m (by omega)
    rw [Go.Lib.compactUpTo_succ]
    by_cases hk : m = 0 ∨ nth zs m ≠ nth zs (m - 1)
    · have hkp : Go.Lib.keeps zs.toArray m = true := by unfold Go.Lib.keeps; rw [arr_nth, arr_nth]; simpa using hk
      rw [if_pos hkp, arr_nth]
      refine ⟨List.pairwise_append.2 ⟨ih1, by simp, fun a ha b hb => ?_⟩, fun x => ?_⟩
      · simp at hb; subst hb
        obtain ⟨j, hj, rfl⟩ := (ih2 a).1 ha
        have h1 := hs j (m - 1) (by omega) (by omega)
        have h2 := hs (m - 1) m (by omega) (by omega)
        rcases hk with hk | hk
        · omega
        · omega
      · rw [List.mem_append, ih2]
        constructor
        · rintro (⟨j, hj, e⟩ | hx)
          · exact ⟨j, by omega, e⟩
          · simp at hx; exact ⟨m, by omega, hx.symm⟩
        · rintro ⟨j, hj, e⟩
          by_cases hjm : j = m
          · subst hjm; exact .inr (by simp [e])
          · exact .inl ⟨j, by omega, e⟩
    · have hm0 : m ≠ 0 := fun e => hk (.inl e)
      have hme : nth zs m = nth zs (m - 1) := by
        rcases Int.lt_trichotomy (nth zs m) (nth zs (m - 1)) with h | h | h
        · exact absurd (.inr (by omega)) hk
        · exact h
        · exact absurd (.inr (by omega)) hk
      have hkn : Go.Lib.keeps zs.toArray m = false := by unfold Go.Lib.keeps; rw [arr_nth, arr_nth]; simp [hm0, hme]
      rw [hkn]
      refine ⟨by simpa using ih1, fun x => ?_⟩
      simp only [Bool.false_eq_true, if_false, List.append_nil]
      rw [ih2]
      constructor
      · rintro ⟨j, hj, e⟩; exact ⟨j, by omega, e⟩
      · rintro ⟨j, hj, e⟩
        by_cases hjm : j = m
        · subst hjm; exact ⟨j - 1, by omega, by rw [← hme]; exact e⟩
        · exact ⟨j, by omega, e⟩

theorem comp_len (zs : List Int) : (compL zs).length ≤ zs.length := by
  unfold compL Go.Lib.compactUpTo
  rw [List.length_map]
  have := List.length_filter_le (Go.Lib.keeps zs.toArray) (List.range zs.length)
  simpa using this

end

section
open Go.RowKit

end
end

section
section
open Go.RowKit

section
variable {P ps : List Int} {k j : Nat}
end

section
variable {P ps : List Int}

end

section
variable {P : List Int}

end
end

section
open Go.RowKit

end
end

end Go.Proofs.YtihaajcmephlmaaDoor
