/-
  Contracts of the laws' own helpers: the sizes of arguments (szInt64S, szInt64SS, szArena).
-/
import Derived.Test.YtmobegiojhlakaaSpecArena
namespace Go.Proofs.Ytmobegiojhlakaa
open Go.RowKit

/-- What is left of 'left' behind n: -1 if there is not enough. -/
def leftOf (left : Int) (n : Nat) : Int := if left < n then -1 else left - n

theorem leftOf_no {left : Int} {n : Nat} (h : left < n) : leftOf left n = -1 := by simp [leftOf, h]
theorem leftOf_yes {left : Int} {n : Nat} (h : (n : Int) ≤ left) : leftOf left n = left - n := by unfold leftOf; rw [if_neg (by omega)]

/-- How many numbers the first k rows hold. -/
def sumLen (zss : List (List Int)) : Nat → Nat
  | 0 => 0
  | k + 1 => sumLen zss k + (row zss k).length

theorem sumLen_mono (zss : List (List Int)) {j k : Nat} (h : j ≤ k) : sumLen zss j ≤ sumLen zss k := by
  induction k with
  | zero => obtain rfl : j = 0 := by omega
            exact Nat.le_refl _
  | succ k ih =>
    by_cases e : j = k + 1
    · subst e; exact Nat.le_refl _
    · have := ih (by omega); simp only [sumLen]; omega


set_option maxHeartbeats 400000 in
theorem szInt64S_any (a : Option Addr) (n : Nat) (cap : Nat) (left : Int) (w : World) (_hn : n ≤ 17592186044416) (_h0 : -1048576 ≤ left) (_h1 : left ≤ 1048576) :
    Calls Try.prog 77 #[.slice a n cap, .int .i64 left] w fun e w' => e = .returned (.int .i64 (leftOf left n)) ∧ w = w' := by
  by_cases h : left < n
  · have HE := Lib.hid (leftOf_no h)
    go_enter Try.func77, Try.ntmps77
    go_wp2
    go_ret
    exact ⟨ret_i64 HE.out.symm, rfl⟩
  · have HE := Lib.hid (leftOf_yes (left := left) (n := n) (by omega))
    go_enter Try.func77, Try.ntmps77
    go_wp2
    go_ret
    exact ⟨ret_i64 HE.out.symm, rfl⟩

theorem szInt64S_no {a : Option Addr} {n : Nat} {left : Int} (h : left < n) (cap : Nat) (w : World) (hn : n ≤ 17592186044416) (h0 : -1048576 ≤ left) (h1 : left ≤ 1048576) :
    Calls Try.prog 77 #[.slice a n cap, .int .i64 left] w fun e w' => e = .returned (.int .i64 (-1)) ∧ w = w' := by
  have := szInt64S_any a n cap left w hn h0 h1
  rw [leftOf_no h] at this; exact this

theorem szInt64S_yes {a : Option Addr} {n : Nat} {left : Int} (h : (n : Int) ≤ left) (cap : Nat) (w : World) (hn : n ≤ 17592186044416) (h0 : -1048576 ≤ left) (h1 : left ≤ 1048576) :
    Calls Try.prog 77 #[.slice a n cap, .int .i64 left] w fun e w' => e = .returned (.int .i64 (left - n)) ∧ w = w' := by
  have := szInt64S_any a n cap left w hn h0 h1
  rw [leftOf_yes h] at this; exact this

set_option maxHeartbeats 1000000 in
theorem szInt64SS_any (a : Option Addr) (A : Nat → Option Addr) (C : Nat → Nat) (zss : List (List Int)) (cap : Nat) (left : Int) (w : World) (h : RowsAt w a A C zss) (_h0 : 0 ≤ left) (_h1 : left ≤ 1048576) :
    Calls Try.prog 78 #[.slice a zss.length cap, .int .i64 left] w fun e w' => e = .returned (.int .i64 (leftOf left (zss.length + sumLen zss zss.length))) ∧ w = w' := by
  have hlen := h.len
  have HR := Lib.hid h
  clear h
  by_cases hlt : left < zss.length
  · have HE := Lib.hid (leftOf_no (left := left) (n := zss.length + sumLen zss zss.length) (by omega))
    go_enter Try.func78, Try.ntmps78
    go_wp2
    go_ret
    exact ⟨ret_i64 HE.out.symm, rfl⟩
  · go_enter Try.func78, Try.ntmps78
    go_wp2
    go_loop [1, 5] (fun l i => ∃ (k : Nat) (x : Int), k ≤ zss.length ∧ i = .int .i64 k ∧ l = .int .i64 x ∧ 0 ≤ x ∧ x ≤ 1048576 ∧ Hid (x = left - zss.length - sumLen zss k)) (fun _ i => zss.length - (intOf i).toNat)
    case atStart => exact ⟨0, _, Nat.zero_le _, rfl, rfl, by omega, by omega, by simp [Hid, sumLen]⟩
    case round =>
      obtain ⟨k, x, hk, rfl, rfl, hx0, hx1, HX⟩ := hrel
      by_cases hkl : k < zss.length
      · obtain ⟨b, off, ha, hc⟩ := HR.out.cell (by omega)
        subst ha
        have hck := hc k hkl
        clear hc
        have hrl := (HR.out.rows k hkl).len
        by_cases hfit : ((row zss k).length : Int) ≤ x
        · have HC := Lib.hid (szInt64S_yes (a := A k) hfit (C k) w hrl (by omega) (by omega))
          have HX' : Hid (x - (row zss k).length = left - zss.length - sumLen zss (k + 1)) := by have := HX.out; simp only [Hid, sumLen]; omega
          go_wp2_with (go_at_call 77; refine HC.out.mono ?_; rintro e w' ⟨rfl, rfl⟩)
          go_round
          case rel => exact ⟨k + 1, _, by omega, by go_num, rfl, by omega, by omega, HX'⟩
          case measure => simp [intOf]; omega
        · have HC := Lib.hid (szInt64S_no (a := A k) (left := x) (n := (row zss k).length) (by omega) (C k) w hrl (by omega) (by omega))
          have HE : Hid (leftOf left (zss.length + sumLen zss zss.length) = -1) := leftOf_no (by
            have h1 := sumLen_mono zss (show k + 1 ≤ zss.length by omega)
            have h2 := HX.out
            simp only [sumLen] at h1
            omega)
          go_wp2_with (go_at_call 77; refine HC.out.mono ?_; rintro e w' ⟨rfl, rfl⟩)
          go_ret
          exact ⟨ret_i64 HE.out.symm, rfl⟩
      · have HE : Hid (x = leftOf left (zss.length + sumLen zss zss.length)) := by
          have h2 := HX.out
          obtain rfl : k = zss.length := by omega
          rw [leftOf_yes (by omega)]; simp only [Hid]; omega
        go_wp2
        go_ret
        exact ⟨ret_i64 HE.out, rfl⟩

theorem szInt64SS_no {a : Option Addr} {A : Nat → Option Addr} {C : Nat → Nat} {zss : List (List Int)} {left : Int} (hlt : left < ((zss.length + sumLen zss zss.length : Nat) : Int)) (cap : Nat) (w : World) (h : RowsAt w a A C zss) (h0 : 0 ≤ left) (h1 : left ≤ 1048576) :
    Calls Try.prog 78 #[.slice a zss.length cap, .int .i64 left] w fun e w' => e = .returned (.int .i64 (-1)) ∧ w = w' := by
  have := szInt64SS_any a A C zss cap left w h h0 h1
  rw [leftOf_no hlt] at this; exact this

theorem szInt64SS_yes {a : Option Addr} {A : Nat → Option Addr} {C : Nat → Nat} {zss : List (List Int)} {left : Int} (hle : ((zss.length + sumLen zss zss.length : Nat) : Int) ≤ left) (cap : Nat) (w : World) (h : RowsAt w a A C zss) (h0 : 0 ≤ left) (h1 : left ≤ 1048576) :
    Calls Try.prog 78 #[.slice a zss.length cap, .int .i64 left] w fun e w' => e = .returned (.int .i64 (left - (zss.length + sumLen zss zss.length : Nat))) ∧ w = w' := by
  have := szInt64SS_any a A C zss cap left w h h0 h1
  rw [leftOf_yes hle] at this; exact this

/-- How many places an arena takes. -/
def sizeArena (O : List Int) (zss : List (List Int)) : Nat := O.length + (zss.length + sumLen zss zss.length)

set_option maxHeartbeats 1000000 in
theorem szArena_any (ao an : Option Addr) (O : List Int) (zss : List (List Int)) (co cn : Nat) (A : Nat → Option Addr) (C : Nat → Nat) (left : Int) (w : World) (hO : IntsAt w ao O) (hN : RowsAt w an A C zss) (_h0 : 0 ≤ left) (_h1 : left ≤ 1048576) :
    Calls Try.prog 29 #[.agg #[.slice ao O.length co, .slice an zss.length cn], .int .i64 left] w fun e w' => e = .returned (.int .i64 (leftOf left (sizeArena O zss))) ∧ Below w.heap.size w w' := by
  have hlO := hO.len
  have HN := Lib.hid hN
  clear hO hN
  by_cases h1 : left < O.length
  · have HC := Lib.hid (szInt64S_no (a := ao) h1 co (w.alloc (.cells #[.slice ao O.length co, .slice an zss.length cn] 46)) hlO (by omega) (by omega))
    have HE : Hid (leftOf left (sizeArena O zss) = -1) := leftOf_no (by unfold sizeArena; omega)
    go_enter Try.func29, Try.ntmps29
    go_wp2_with (go_at_call 77; refine HC.out.mono ?_; rintro e w' ⟨rfl, rfl⟩)
    go_ret
    exact ⟨ret_i64 HE.out.symm, below1 _ _⟩
  · have HC := Lib.hid (szInt64S_yes (a := ao) (left := left) (n := O.length) (by omega) co (w.alloc (.cells #[.slice ao O.length co, .slice an zss.length cn] 46)) hlO (by omega) (by omega))
    have hx0 : 0 ≤ left - O.length := by omega
    have hx1 : left - O.length ≤ 1048576 := by omega
    by_cases h2 : left - O.length < ((zss.length + sumLen zss zss.length : Nat) : Int)
    · have HC' := Lib.hid (szInt64SS_no h2 cn (w.alloc (.cells #[.slice ao O.length co, .slice an zss.length cn] 46)) (HN.out.alloc _) hx0 hx1)
      have HE : Hid (leftOf left (sizeArena O zss) = -1) := leftOf_no (by unfold sizeArena; omega)
      clear h2
      go_enter Try.func29, Try.ntmps29
      go_wp2_with (first | (go_at_call 77; refine HC.out.mono ?_; rintro e w' ⟨rfl, rfl⟩) | (go_at_call 78; refine HC'.out.mono ?_; rintro e w' ⟨rfl, rfl⟩))
      go_ret
      exact ⟨ret_i64 HE.out.symm, below1 _ _⟩
    · have HC' := Lib.hid (szInt64SS_yes (left := left - O.length) (zss := zss) (by omega) cn (w.alloc (.cells #[.slice ao O.length co, .slice an zss.length cn] 46)) (HN.out.alloc _) hx0 hx1)
      have HE : Hid (left - O.length - ((zss.length + sumLen zss zss.length : Nat) : Int) = leftOf left (sizeArena O zss)) := by
        rw [leftOf_yes (by unfold sizeArena; omega)]; unfold sizeArena Hid; omega
      obtain ⟨m, hm⟩ : ∃ m, m = left - O.length - ((zss.length + sumLen zss zss.length : Nat) : Int) := ⟨_, rfl⟩
      have hm0 : 0 ≤ m := by omega
      rw [← hm] at HC' HE
      clear h2 hm
      go_enter Try.func29, Try.ntmps29
      go_wp2_with (first | (go_at_call 77; refine HC.out.mono ?_; rintro e w' ⟨rfl, rfl⟩) | (go_at_call 78; refine HC'.out.mono ?_; rintro e w' ⟨rfl, rfl⟩))
      go_ret
      exact ⟨ret_i64 HE.out, below1 _ _⟩

theorem szArena_at {w : World} {v : Value} {O : List Int} {zss : List (List Int)} {left r : Int} (hr : leftOf left (sizeArena O zss) = r) (h : ArenaAt w v O zss) (h0 : 0 ≤ left) (h1 : left ≤ 1048576) :
    Calls Try.prog 29 #[v, .int .i64 left] w fun e w' => e = .returned (.int .i64 r) ∧ Below w.heap.size w w' := by
  obtain ⟨ao, an, co, cn, A, C, rfl, h2, h3⟩ := h
  subst hr
  exact szArena_any ao an O zss co cn A C left w h2 h3 h0 h1

theorem sizeArena_rows {O : List Int} {zss : List (List Int)} {m : Int} (h : (sizeArena O zss : Int) ≤ m) : (zss.length : Int) ≤ m := by unfold sizeArena at h; omega

end Go.Proofs.Ytmobegiojhlakaa
