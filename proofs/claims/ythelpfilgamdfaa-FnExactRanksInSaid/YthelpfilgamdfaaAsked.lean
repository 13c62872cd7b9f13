/-
  Contracts of chapter 3: the program's isAsked and escapes.
-/
import Derived.Test.YthelpfilgamdfaaTrapSpec
namespace Go.Proofs.Ythelpfilgamdfaa
open Go.RowKit

theorem isPlayer_is {x : Int} {r : Bool} (hr : inB x 0 1 = r) (w : World) :
    Calls Try.prog 65 #[.int .i64 x] w fun e w' => e = .returned (.bool r) ∧ w = w' := by
  by_cases h0 : x = 0
  · subst h0
    have HR : Hid (true = r) := by rw [← hr]; rfl
    clear hr
    go_enter Try.func65, Try.ntmps65
    go_wp2
    go_ret
    exact ⟨ret_bool HR.out, rfl⟩
  · by_cases h1 : x = 1
    · subst h1
      have HR : Hid (true = r) := by rw [← hr]; rfl
      clear hr
      go_enter Try.func65, Try.ntmps65
      go_wp2
      go_ret
      exact ⟨ret_bool HR.out, rfl⟩
    · have HR : Hid (false = r) := by rw [← hr]; unfold Hid inB; simp; omega
      clear hr
      go_enter Try.func65, Try.ntmps65
      go_wp2
      go_ret
      exact ⟨ret_bool (by rw [← HR.out]; simp [h0, h1]), rfl⟩

noncomputable def askB (O : List Int) (zss : List (List Int)) (who : Int) (Ss : List (List Int)) : Bool := arenaB O zss && inB who 0 1 && Ss.all (setB O.length)

set_option maxHeartbeats 4000000 in
theorem isAsked_is {w : World} {va : Value} {O : List Int} {zss : List (List Int)} {n0 : Int} {a : Option Addr} {A : Nat → Option Addr} {C : Nat → Nat} {Ss : List (List Int)} {r : Bool} (hr : askB O zss n0 Ss = r) (cap : Nat) (h : ArenaAt w va O zss) (hR : RowsAt w a A C Ss) :
    Calls Try.prog 40 #[va, .int .i64 n0, .slice a Ss.length cap] w fun e w' => e = .returned (.bool r) ∧ Below w.heap.size w w' := by
  have hlen := hR.len
  have HAt := Lib.hid h
  have HRw := Lib.hid hR
  obtain ⟨ao, an, co, cn, AA, CC, rfl, h1, h2⟩ := h
  have hlO := h1.len
  clear h1 h2 hR
  have BW := Lib.hid (below1 w (.cells #[.slice ao O.length co, .slice an zss.length cn] 30))
  have bW := Lib.hid (Box2.new w 30 (.slice ao O.length co) (.slice an zss.length cn))
  cases hA : arenaB O zss with
  | false =>
    have HE : Hid (r = false) := by rw [← hr]; simp [askB, hA, Hid]
    have HC := Lib.hid (ArenaOk_at hA (HAt.out.below BW.out))
    clear hA hr
    go_enter Try.func40, Try.ntmps40
    go_wp2_with fail
    refine HC.out.mono ?_
    rintro e w1 ⟨rfl, hb⟩
    have B1 := Lib.hid (BW.out.trans (hb.mono BW.out.size))
    clear hb
    go_wp2
    go_ret
    exact ⟨ret_bool HE.out.symm, B1.out⟩
  | true =>
    have HC := Lib.hid (ArenaOk_at hA (HAt.out.below BW.out))
    cases hP : inB n0 0 1 with
    | false =>
      have HE : Hid (r = false) := by rw [← hr]; simp [askB, hP, Hid]
      have HP := Lib.hid hP
      clear hA hr hP
      go_enter Try.func40, Try.ntmps40
      go_wp2_with fail
      refine HC.out.mono ?_
      rintro e w1 ⟨rfl, hb⟩
      have B1 := Lib.hid (BW.out.trans (hb.mono BW.out.size))
      clear hb
      go_wp2_with fail
      refine (isPlayer_is HP.out w1).mono ?_
      rintro e w2 ⟨rfl, rfl⟩
      go_wp2
      go_ret
      exact ⟨ret_bool HE.out.symm, B1.out⟩
    | true =>
      have HR : Hid (Ss.all (setB O.length) = r) := by rw [← hr]; simp [askB, hA, hP, Hid]
      have HP := Lib.hid hP
      clear hA hr hP
      go_enter Try.func40, Try.ntmps40
      go_wp2_with fail
      refine HC.out.mono ?_
      rintro e w1 ⟨rfl, hb⟩
      have B1 := Lib.hid (BW.out.trans (hb.mono BW.out.size))
      have b1 := Lib.hid (bW.out.below hb)
      clear hb
      go_wp2_with fail
      refine (isPlayer_is HP.out w1).mono ?_
      rintro e w2 ⟨rfl, rfl⟩
      go_wp2
      go_loopw [19] (fun i wr => ∃ k : Nat, k ≤ Ss.length ∧ i = .int .i64 k ∧ Hid (∀ j, j < k → setB O.length (row Ss j) = true) ∧ Hid (Below w.heap.size w wr) ∧ Hid (Box2 wr w.heap.size 30 (.slice ao O.length co) (.slice an zss.length cn))) (fun i _ => Ss.length - (intOf i).toNat)
      case atStart => exact ⟨0, Nat.zero_le _, rfl, fun j hj => absurd hj (Nat.not_lt_zero _), B1, b1⟩
      case round =>
        obtain ⟨k, hk, rfl, HK, HB, hb⟩ := hrel
        by_cases hlt : k < Ss.length
        · have R1 := Lib.hid (HRw.out.below HB.out)
          obtain ⟨b, off, ha, hc⟩ := R1.out.cell (by omega)
          subst ha
          have hck := hc k hlt
          clear hc
          have c0 := hb.out.cell0
          have c1 := hb.out.cell1
          obtain ⟨w3, hw3⟩ : ∃ y, y = wr.alloc (.cells #[.slice ao O.length co, .slice an zss.length cn] 30) := ⟨_, rfl⟩
          have HZ := Lib.hid (size_is ao an O.length zss.length co cn wr (by omega))
          have B3 : Hid (Below w.heap.size w w3) := by rw [hw3]; exact HB.out.trans ((below1 _ _).mono HB.out.size)
          have b3 : Hid (Box2 w3 w.heap.size 30 (.slice ao O.length co) (.slice an zss.length cn)) := by rw [hw3]; exact hb.out.alloc _
          have R3 : Hid (IntsAt w3 (A k) (row Ss k)) := by rw [hw3]; exact (R1.out.rows k hlt).alloc _
          rw [← hw3] at HZ
          clear hw3
          cases hs : setB O.length (row Ss k) with
          | true =>
            have HI := Lib.hid (isSet_is hs (C k) _ R3.out (by unfold Fits; omega))
            have HK' : Hid (∀ j, j < k + 1 → setB O.length (row Ss j) = true) := fun j hj => by
              by_cases e : j = k
              · subst e; exact hs
              · exact HK.out j (by omega)
            clear hs
            go_wp2_with (first
              | (go_at_call 67; refine HZ.out.mono ?_; rintro e w' ⟨rfl, rfl⟩)
              | (go_at_call 66; refine HI.out.mono ?_; rintro e w' ⟨rfl, rfl⟩))
            go_roundw
            case rel => exact ⟨k + 1, by omega, by go_num, HK', B3, b3⟩
            case measure => simp [intOf]; omega
          | false =>
            have HI := Lib.hid (isSet_is hs (C k) _ R3.out (by unfold Fits; omega))
            have HE : Hid (r = false) := by
              rw [← HR.out]
              cases hall : Ss.all (setB O.length) with
              | false => rfl
              | true => rw [all_rows.1 hall k hlt] at hs; cases hs
            clear hs
            go_wp2_with (first
              | (go_at_call 67; refine HZ.out.mono ?_; rintro e w' ⟨rfl, rfl⟩)
              | (go_at_call 66; refine HI.out.mono ?_; rintro e w' ⟨rfl, rfl⟩))
            go_ret
            exact ⟨ret_bool HE.out.symm, B3.out⟩
        · have HE : Hid (r = true) := by
            rw [← HR.out]; exact all_rows.2 fun j hj => HK.out j (by omega)
          go_wp2
          go_ret
          exact ⟨ret_bool HE.out.symm, HB.out⟩

end Go.Proofs.Ythelpfilgamdfaa
