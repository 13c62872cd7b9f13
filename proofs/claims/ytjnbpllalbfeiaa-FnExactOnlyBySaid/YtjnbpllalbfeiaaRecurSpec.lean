/-
  Contracts of chapter 7: the model's l7None, l7All, l7Region, l7Same, l7HasIn, l7Won, l7Holds.
-/
import Derived.Test.YtjnbpllalbfeiaaWonIn
import Derived.Deep.RegionHeld3
namespace Go.Proofs.Ytjnbpllalbfeiaa
section
open Go.RowKit

theorem rep_take {k : Nat} : List.replicate (k + 1) (-1 : Int) = List.replicate k (-1) ++ [-1] := by
  rw [List.replicate_succ']

/-- Whose vertices they are. -/
def regI (X : List Int) (who : Int) : Nat → Bool := fun v => nth X v == who

theorem same_of {X Y : List Int} (hl : X.length = Y.length) (h : ∀ j, j < X.length → nth X j = nth Y j) : X = Y := by
  apply List.ext_getElem hl
  intro i h1 h2
  have := h i h1
  rwa [nth_eq h1, nth_eq h2] at this

set_option maxHeartbeats 4000000 in
set_option maxRecDepth 100000 in
theorem l7HasIn_is {w : World} {a : Option Addr} {zs : List Int} {x : Int} {r : Bool} (hr : hasB zs x = r) (cap : Nat) (h : IntsAt w a zs) :
    Calls Try.prog 31 #[.slice a zs.length cap, .int .i64 x] w fun e w' => e = .returned (.bool r) ∧ w = w' := by
  have H := Lib.hid h
  have hl := h.len
  have HN : Hid (x ∉ zs → r = false) := fun h => by rw [← hr]; unfold hasB; exact decide_eq_false h
  have HE : Hid (x ∈ zs → r = true) := fun h => by rw [← hr]; unfold hasB; exact decide_eq_true h
  clear h hr
  go_enter Try.func31, Try.ntmps31
  go_wp2
  go_loopw [5] (fun iv wr => ∃ k : Nat, k ≤ zs.length ∧ iv = .int .i64 k ∧ Hid (∀ j, j < k → nth zs j ≠ x) ∧ w = wr) (fun iv _ => zs.length - (intOf iv).toNat)
  case atStart => exact ⟨0, Nat.zero_le _, rfl, fun j hj => absurd hj (Nat.not_lt_zero _), rfl⟩
  case round =>
    obtain ⟨k, hk, rfl, HJ, rfl⟩ := hrel
    by_cases hlt : k < zs.length
    · have hi1 : (k : Int) < zs.length := by omega
      have hk0 : (0 : Int) ≤ (k : Int) := by omega
      obtain ⟨b, off, ha, hc⟩ := H.out.cell (by omega)
      have z1 := hc k hlt
      obtain ⟨z, hz⟩ : ∃ q, q = nth zs k := ⟨_, rfl⟩
      rw [← hz] at z1
      have HZ := Lib.hid hz
      subst ha
      clear hc hz
      by_cases e : z = x
      · have he : (z == x) = true := by simpa using e
        have HF : Hid (r = true) := HE.out (by rw [← e, HZ.out]; exact nth_mem hlt)
        clear e
        go_wp2
        go_ret
        exact ⟨ret_bool HF.out.symm, rfl⟩
      · have he : (z == x) = false := beq_eq_false_iff_ne.2 e
        have HJn : Hid (∀ j, j < k + 1 → nth zs j ≠ x) := fun j hj => by
          by_cases h : j = k
          · subst h; rw [← HZ.out]; exact e
          · exact HJ.out j (by omega)
        clear e
        go_wp2
        go_roundw
        case rel => exact ⟨k + 1, by omega, by go_num, HJn, by simp⟩
        case measure => simp [intOf]; omega
    · have hi1 : ¬ (k : Int) < zs.length := by omega
      have HF : Hid (r = false) := HN.out fun h => by
        obtain ⟨j, hj, e⟩ := mem_nth.1 h
        exact HJ.out j (by omega) e
      go_wp2
      go_ret
      exact ⟨ret_bool HF.out.symm, rfl⟩

/-- Does who win all of I, by the picks? -/
noncomputable def holdsZ (zss : List (List Int)) (O P Pk : List Int) (I : Nat → Bool) (who : Int) : Bool := !anyK (fun v => I v && (winZ (zssE zss Pk) O (nth P) zss.length I v != decide (who = 0))) zss.length
theorem anyK_no {f : Nat → Bool} : ∀ {n : Nat}, anyK f n = false ↔ ∀ v, v < n → f v = false
  | 0 => by simp [anyK]
  | n + 1 => by
    rw [anyK, Bool.or_eq_false_iff, anyK_no]
    constructor
    · rintro ⟨h1, h2⟩ v hv
      by_cases e : v = n
      · subst e; exact h2
      · exact h1 v (by omega)
    · exact fun h => ⟨fun v hv => h v (by omega), h n (by omega)⟩

end

section
open Go.RowKit

/-- The winners. -/
noncomputable def wonL (zss : List (List Int)) (O P : List Int) : List Int := fnL zss.length fun v => if wonZ zss O P v = true then 0 else 1
theorem wonL_len {zss : List (List Int)} {O P : List Int} : (wonL zss O P).length = zss.length := fnL_len _ _
theorem wonL_nth {zss : List (List Int)} {O P : List Int} {v : Nat} (h : v < zss.length) : nth (wonL zss O P) v = if wonZ zss O P v = true then 0 else 1 := fnL_nth h

end

section
open Go.RowKit

/-- Picks of successors. -/
def PicksP (zss : List (List Int)) (Pk : List Int) : Prop := Pk.length = zss.length ∧ ∀ v, v < Pk.length → nth Pk v = -1 ∨ nth Pk v ∈ row zss v
noncomputable def picksB (zss : List (List Int)) (Pk : List Int) : Bool := @decide (PicksP zss Pk) (Classical.propDecidable _)
theorem picksB_iff {zss : List (List Int)} {Pk : List Int} : picksB zss Pk = true ↔ PicksP zss Pk := by unfold picksB; rw [@decide_eq_true_eq _ (Classical.propDecidable _)]
theorem picksB_no {zss : List (List Int)} {Pk : List Int} (h : ¬ PicksP zss Pk) : picksB zss Pk = false := by
  cases hb : picksB zss Pk with
  | false => rfl
  | true => exact absurd (picksB_iff.1 hb) h

set_option maxHeartbeats 8000000 in
set_option maxRecDepth 100000 in
theorem l7Picks_is {w : World} {v : Value} {O P Pk : List Int} {zss : List (List Int)} {aK : Option Addr} {r : Bool} (cK : Nat) (hr : picksB zss Pk = r) (h : GameAt w v O zss P) (hPl : P.length = zss.length) (hz : zss.length ≤ 256) (hK : IntsAt w aK Pk) :
    Calls Try.prog 17 #[v, .slice aK Pk.length cK] w fun e w' => e = .returned (.bool r) ∧ Below w.heap.size w w' := by
  obtain ⟨ao, an, ap, co, cn, cp, A, C, rfl, h1, h2, h3⟩ := h
  have hlP := h3.len
  have hlK := hK.len
  have HNi := Lib.hid h2
  have HKi := Lib.hid hK
  obtain ⟨w1, hw1⟩ : ∃ y, y = w.alloc (.cells #[.slice ao O.length co, .slice an zss.length cn, .slice ap P.length cp] 31) := ⟨_, rfl⟩
  have HW1 := Lib.hid hw1
  have B1 : Hid (Below w.heap.size w w1) := by rw [hw1]; exact below1 _ _
  have T1 : Hid (Box3 w1 w.heap.size 31 (.slice ao O.length co) (.slice an zss.length cn) (.slice ap P.length cp)) := by rw [hw1]; exact Box3.new _ _ _ _ _
  have HN : Hid (¬ PicksP zss Pk → r = false) := fun h => by rw [← hr]; exact picksB_no h
  have HY : Hid (PicksP zss Pk → r = true) := fun h => by rw [← hr]; exact picksB_iff.2 h
  have c2 := T1.out.c2
  rw [hw1] at c2
  have HPL := Lib.hid hPl
  clear hw1 h1 h2 h3 hK hr hPl
  by_cases hl : Pk.length = P.length
  · have hl1 : ((Pk.length : Int) != (P.length : Int)) = false := by simp; omega
    have hl2 : (Pk.length != P.length) = false := by simp; omega
    have HL := Lib.hid hl
    clear hl
    go_enter Try.func17, Try.ntmps17
    go_wp2
    rw [← HW1.out]
    clear c2 hl1 hl2
    go_loopw [5] (fun iv wr => ∃ k : Nat, k ≤ Pk.length ∧ iv = .int .i64 k ∧ Hid (∀ j, j < k → nth Pk j = -1 ∨ nth Pk j ∈ row zss j) ∧ Hid (Below w1.heap.size w1 wr)) (fun iv _ => Pk.length - (intOf iv).toNat)
    case atStart => exact ⟨0, Nat.zero_le _, rfl, fun j hj => absurd hj (Nat.not_lt_zero _), Below.refl _ _⟩
    case round =>
      obtain ⟨k, hk, rfl, HJ, HB⟩ := hrel
      have Bw := Lib.hid (B1.out.trans (HB.out.mono B1.out.size))
      by_cases hlt : k < Pk.length
      · have hi1 : (k : Int) < Pk.length := by omega
        have hk0 : (0 : Int) ≤ (k : Int) := by omega
        have hkZ : k < zss.length := by have := HL.out; have := HPL.out; omega
        have hi2 : (k : Int) < zss.length := by omega
        obtain ⟨pb, po, hpa, hpc⟩ := (HKi.out.below Bw.out).cell (by omega)
        obtain ⟨nb, no, hna, hnc⟩ := (HNi.out.below Bw.out).cell (by omega)
        have p1 := hpc k hlt
        have n1 := hnc k hkZ
        have HRw := Lib.hid ((HNi.out.below Bw.out).rows k hkZ)
        have t1 := (T1.out.below HB.out).c1
        obtain ⟨p, hp⟩ : ∃ q, q = nth Pk k := ⟨_, rfl⟩
        have HP := Lib.hid hp
        rw [← hp] at p1
        subst hpa
        subst hna
        clear hpc hnc hp
        by_cases e : p = -1
        · have he : (p != -1) = false := by simpa using e
          have HJn : Hid (∀ j, j < k + 1 → nth Pk j = -1 ∨ nth Pk j ∈ row zss j) := fun j hj => by
            by_cases h : j = k
            · subst h; exact .inl (by rw [← HP.out]; exact e)
            · exact HJ.out j (by omega)
          clear e
          go_wp2
          go_quiet (fail)
          go_wp2
          go_roundw
          case rel => exact ⟨k + 1, by omega, by go_num, HJn, below_drewN HB.out _⟩
          case measure => simp [intOf]; omega
        · have he : (p != -1) = true := by simpa using e
          cases hh : hasB (row zss k) p with
          | false =>
            have HF : Hid (r = false) := HN.out fun h => by
              have h1 := h.2 k hlt
              rw [← HP.out] at h1
              rcases h1 with h1 | h1
              · exact e h1
              · rw [hasB_iff.2 h1] at hh; cases hh
            have HHq : Hid (∀ m, Calls Try.prog 31 #[.slice (A k) (row zss k).length (C k), .int .i64 p] (wr.drewN m) fun e w' => e = .returned (.bool false) ∧ wr.drewN m = w') := fun m => l7HasIn_is hh (C k) (HRw.out.same ⟨m, rfl⟩)
            clear e hh
            go_wp2
            go_quiet ((go_at_call 31; exact quiet_eq (HHq.out _)))
            go_wp2
            go_ret
            exact ⟨ret_bool HF.out.symm, below_drewN Bw.out _⟩
          | true =>
            have HJn : Hid (∀ j, j < k + 1 → nth Pk j = -1 ∨ nth Pk j ∈ row zss j) := fun j hj => by
              by_cases h : j = k
              · subst h; exact .inr (by rw [← HP.out]; exact hasB_iff.1 hh)
              · exact HJ.out j (by omega)
            have HHq : Hid (∀ m, Calls Try.prog 31 #[.slice (A k) (row zss k).length (C k), .int .i64 p] (wr.drewN m) fun e w' => e = .returned (.bool true) ∧ wr.drewN m = w') := fun m => l7HasIn_is hh (C k) (HRw.out.same ⟨m, rfl⟩)
            clear e hh
            go_wp2
            go_quiet ((go_at_call 31; exact quiet_eq (HHq.out _)))
            go_wp2
            go_roundw
            case rel => exact ⟨k + 1, by omega, by go_num, HJn, below_drewN HB.out _⟩
            case measure => simp [intOf]; omega
      · have hi1 : ¬ (k : Int) < Pk.length := by omega
        have HF : Hid (r = true) := HY.out ⟨HL.out.trans HPL.out, fun v hv => HJ.out v (by omega)⟩
        go_wp2
        go_ret
        exact ⟨ret_bool HF.out.symm, Bw.out⟩
  · have hl1 : ((Pk.length : Int) != (P.length : Int)) = true := by simp; omega
    have hl2 : (Pk.length != P.length) = true := by simp; omega
    have HF : Hid (r = false) := HN.out fun h => hl (h.1.trans HPL.out.symm)
    clear hl
    go_enter Try.func17, Try.ntmps17
    go_wp2
    rw [← HW1.out]
    go_ret
    exact ⟨ret_bool HF.out.symm, B1.out⟩

theorem ints_nums {w : World} {k n : Nat} {Pk : List Int} (h : w.rowIs k 2 n (numsV (nth Pk))) (hl : Pk.length = n) (hn : n ≤ 256) (hf : ∀ j, j < n → Fits (nth Pk j)) : IntsAt w (some ⟨k, 0, none⟩) Pk := by
  refine ⟨by omega, fun j hj => hf j (by omega), fun _ => ⟨k, 0, rfl, fun j hj => ?_⟩⟩
  have h1 := World.rowIs.cell (i := j) h (by omega)
  rw [Nat.zero_add]
  exact h1

/-- The first successor in the part with which it holds. -/
def pickZ (hold : Int → Bool) (I : Nat → Bool) : List Int → Int
  | [] => -1
  | u :: us => if I u.toNat && hold u then u else pickZ hold I us
theorem drop_nth {zs : List Int} {i : Nat} (h : i < zs.length) : zs.drop i = nth zs i :: zs.drop (i + 1) := by
  rw [List.drop_eq_getElem_cons h, nth_eq h]

/-- What is read of the solver's game but for the picks. -/
structure RestL (w : World) (ao ap an aq : Option Addr) (A : Nat → Option Addr) (C : Nat → Nat) (A' : Nat → Option Addr) (C' : Nat → Nat) (O P : List Int) (zss : List (List Int)) (bI : Nat) (I : Nat → Bool) : Prop where
  own : IntsAt w ao O
  prio : IntsAt w ap P
  next : RowsAt w an A C zss
  prev : RowsAt w aq A' C' (rowsOf zss.length fun u => predsK zss u zss.length)
  part : w.rowIs bI 4 zss.length (marksV I)

end

end Go.Proofs.Ytjnbpllalbfeiaa
