/-
  Contracts of the laws' own helpers: two readings that are alike (eqInt64S, eqInt64SS, eqArena).
-/
import Derived.Test.YtmobegiojhlakaaSpecArena
namespace Go.Proofs.Ytmobegiojhlakaa
open Go.RowKit

set_option maxHeartbeats 1000000 in
theorem eqInt64S_yes {a c : Option Addr} {zs : List Int} (w : World) (ca cc : Nat) (ha : IntsAt w a zs) (hc : IntsAt w c zs) :
    Calls Try.prog 42 #[.slice a zs.length ca, .slice c zs.length cc] w fun e w' => e = .returned (.bool true) ∧ ∃ q, w' = w.drewN q := by
  have hlen := ha.len
  have HA := Lib.hid ha
  have HC := Lib.hid hc
  clear ha hc
  have hne : ((zs.length : Int) != (zs.length : Int)) = false := by simp
  go_enter Try.func42, Try.ntmps42
  go_wp2
  go_loopw [5] (fun i wr => ∃ k : Nat, k ≤ zs.length ∧ i = .int .i64 k ∧ Hid (∃ q, wr = w.drewN q)) (fun i _ => zs.length - (intOf i).toNat)
  case atStart => exact ⟨0, Nat.zero_le _, rfl, 0, rfl⟩
  case round =>
    obtain ⟨k, hk, rfl, HW⟩ := hrel
    by_cases hlt : k < zs.length
    · obtain ⟨b, off, e1, h1⟩ := (HA.out.same HW.out).cell (by omega)
      obtain ⟨b2, off2, e2, h2⟩ := (HC.out.same HW.out).cell (by omega)
      subst e1
      subst e2
      have hck := h1 k hlt
      have hck2 := h2 k hlt
      clear h1 h2
      have hi1 : (k : Int) < zs.length := by omega
      have hn : (nth zs k != nth zs k) = false := by simp
      go_wp2
      go_quiet (fail)
      go_wp2
      go_roundw
      case rel => exact ⟨k + 1, by omega, by go_num, drewn HW.out⟩
      case measure => simp [intOf]; omega
    · go_wp2
      go_ret
      exact ⟨rfl, HW.out⟩

set_option maxHeartbeats 1000000 in
theorem eqInt64SS_yes {a c : Option Addr} {A A' : Nat → Option Addr} {C C' : Nat → Nat} {zss : List (List Int)} (w : World) (ca cc : Nat) (ha : RowsAt w a A C zss) (hc : RowsAt w c A' C' zss) :
    Calls Try.prog 81 #[.slice a zss.length ca, .slice c zss.length cc] w fun e w' => e = .returned (.bool true) ∧ ∃ q, w' = w.drewN q := by
  have hlen := ha.len
  have HA := Lib.hid ha
  have HC := Lib.hid hc
  clear ha hc
  have hne : ((zss.length : Int) != (zss.length : Int)) = false := by simp
  go_enter Try.func81, Try.ntmps81
  go_wp2
  go_loopw [5] (fun i wr => ∃ k : Nat, k ≤ zss.length ∧ i = .int .i64 k ∧ Hid (∃ q, wr = w.drewN q)) (fun i _ => zss.length - (intOf i).toNat)
  case atStart => exact ⟨0, Nat.zero_le _, rfl, 0, rfl⟩
  case round =>
    obtain ⟨k, hk, rfl, HW⟩ := hrel
    by_cases hlt : k < zss.length
    · have hA' := Lib.hid (HA.out.same HW.out)
      have hC' := Lib.hid (HC.out.same HW.out)
      obtain ⟨b, off, e1, h1⟩ := hA'.out.cell (by omega)
      obtain ⟨b2, off2, e2, h2⟩ := hC'.out.cell (by omega)
      subst e1
      subst e2
      have hck := h1 k hlt
      have hck2 := h2 k hlt
      clear h1 h2
      have hi1 : (k : Int) < zss.length := by omega
      have HE : Hid (∀ q, Calls Try.prog 42 #[.slice (A k) (row zss k).length (C k), .slice (A' k) (row zss k).length (C' k)] (wr.drewN q) fun e w' => e = .returned (.bool true) ∧ ∃ m, w' = (wr.drewN q).drewN m) := fun q =>
        eqInt64S_yes (wr.drewN q) (C k) (C' k) ((hA'.out.rows k hlt).same ⟨q, rfl⟩) ((hC'.out.rows k hlt).same ⟨q, rfl⟩)
      go_wp2
      go_quiet ((go_at_call 42; exact Calls.quiet_of (HE.out _)))
      go_wp2
      go_roundw
      case rel => exact ⟨k + 1, by omega, by go_num, drewn HW.out⟩
      case measure => simp [intOf]; omega
    · go_wp2
      go_ret
      exact ⟨rfl, HW.out⟩

set_option maxHeartbeats 1000000 in
theorem eqArena_yes {ao an co cn : Option Addr} {A A' : Nat → Option Addr} {C C' : Nat → Nat} {O : List Int} {zss : List (List Int)} (w : World) (k1 k2 k3 k4 : Nat)
    (h1 : IntsAt w ao O) (h2 : RowsAt w an A C zss) (h3 : IntsAt w co O) (h4 : RowsAt w cn A' C' zss) :
    Calls Try.prog 32 #[.agg #[.slice ao O.length k1, .slice an zss.length k2], .agg #[.slice co O.length k3, .slice cn zss.length k4]] w fun e w' => e = .returned (.bool true) ∧ Below w.heap.size w w' := by
  have HE := Lib.hid (eqInt64S_yes _ k1 k3 ((h1.alloc (.cells #[.slice ao O.length k1, .slice an zss.length k2] 30)).alloc (.cells #[.slice co O.length k3, .slice cn zss.length k4] 30)) ((h3.alloc _).alloc _))
  have HF : Hid (∀ q, Calls Try.prog 81 #[.slice an zss.length k2, .slice cn zss.length k4] (((w.alloc (.cells #[.slice ao O.length k1, .slice an zss.length k2] 30)).alloc (.cells #[.slice co O.length k3, .slice cn zss.length k4] 30)).drewN q) fun e w' => e = .returned (.bool true) ∧ ∃ m, w' = (((w.alloc (.cells #[.slice ao O.length k1, .slice an zss.length k2] 30)).alloc (.cells #[.slice co O.length k3, .slice cn zss.length k4] 30)).drewN q).drewN m) := fun q =>
    eqInt64SS_yes _ k2 k4 (((h2.alloc _).alloc _).same ⟨q, rfl⟩) (((h4.alloc _).alloc _).same ⟨q, rfl⟩)
  clear h1 h2 h3 h4
  go_enter Try.func32, Try.ntmps32
  go_wp2_with (first | (go_at_call 42; refine HE.out.mono ?_; rintro e w' ⟨rfl, q, rfl⟩) | (go_at_call 81; refine (HF.out _).mono ?_; rintro e w' ⟨rfl, q', rfl⟩))
  go_ret
  exact ⟨rfl, below_drewN (below2 _ _ _) _⟩

theorem eqArena_at {w : World} {v v' : Value} {O : List Int} {zss : List (List Int)} (h : ArenaAt w v O zss) (h' : ArenaAt w v' O zss) :
    Calls Try.prog 32 #[v, v'] w fun e w' => e = .returned (.bool true) ∧ Below w.heap.size w w' := by
  obtain ⟨ao, an, co, cn, A, C, rfl, h1, h2⟩ := h
  obtain ⟨ao', an', co', cn', A', C', rfl, h1', h2'⟩ := h'
  exact eqArena_yes w co cn co' cn' h1 h2 h1' h2'

end Go.Proofs.Ytmobegiojhlakaa
