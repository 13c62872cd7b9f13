/-
  Contracts of chapter 2: AllOf, on both sides.
-/
import Derived.Test.YtaoagikipbcjpaaSets
namespace Go.Proofs.Ytaoagikipbcjpaa
open Go.RowKit

/-- What AllOf says. -/
def allL (n : Int) : List Int := if 0 ≤ n ∧ n ≤ 256 then upL n.toNat else []

theorem allL_yes {n : Nat} (h : n ≤ 256) : allL (n : Int) = upL n := by unfold allL; rw [if_pos ⟨by omega, by omega⟩]; simp
theorem allL_no {n : Int} (h : ¬ (0 ≤ n ∧ n ≤ 256)) : allL n = [] := by unfold allL; rw [if_neg h]
theorem upL_succ (k : Nat) : upL (k + 1) = upL k ++ [(k : Int)] := by simp [upL, List.range_succ]
theorem upL_fits {n : Nat} (h : n ≤ 1048576) : ∀ k, k < (upL n).length → Fits (nth (upL n) k) := fun k hk => by
  rw [upL_len] at hk; rw [upL_nth hk]; unfold Fits; omega

set_option maxHeartbeats 1000000 in
set_option maxRecDepth 100000 in
theorem specAllOf_is {w : World} {n : Int} {r : List Int} (hr : allL n = r) :
    Calls Try.prog 9 #[.int .i64 n] w (GivesInts w r) := by
  obtain ⟨i0, hi, hz0, hz1, hz2⟩ := info_parts info_int
  have oW : Hid ((w.alloc (.cells #[] 2)).ownsRow w.heap.size 2 1 (.slice (some ⟨w.heap.size, 0, none⟩) 0 0) 0 []) := World.ownsRow_made w #[] 0 (Nat.le_refl _) (by unfold maxLen; omega) rfl
  have B0 := Lib.hid (below1 w (.cells #[] 2))
  by_cases hn : 0 ≤ n ∧ n ≤ 256
  · obtain ⟨m, rfl⟩ := Int.eq_ofNat_of_zero_le hn.1
    have hm : m ≤ 256 := by omega
    rw [allL_yes hm] at hr
    have HR := Lib.hid hr
    clear hr hn
    have hm' : (m : Int) ≤ 256 := by omega
    go_enter Try.func9, Try.ntmps9
    go_wp2
    go_loopw [3, 4] (fun u i wr => ∃ k : Nat, k ≤ m ∧ i = .int .i64 k ∧ Hid (wr.ownsRow w.heap.size 2 1 u (upL k).length ((upL k).map (Value.int .i64))) ∧ Hid (Below w.heap.size w wr)) (fun _ i _ => m - (intOf i).toNat)
    case atStart => exact ⟨0, Nat.zero_le _, rfl, oW, B0⟩
    case round =>
      clear oW B0
      obtain ⟨k, hk, rfl, HU, HB⟩ := hrel
      have hsz := HB.out.size
      by_cases hlt : k < m
      · have hi1 : (k : Int) < m := by omega
        have HS1 := Lib.hid (upL_succ k)
        have hpl := upL_len k
        go_wp2_with (at_builtin; refine wpList_append_own_at _ rfl _ _ 27 rfl w.heap.size 2 i0 (.int .i64 0) 1 8 Try.underlying27 hi hz0 hz1 hz2 rfl (by decide) _ _ _ rfl (HU.out.alloc _) ⟨wr.heap.size, 0, none⟩ 1 1 [.int .i64 k] rfl rfl ?c1 ?c2 ?c3 ?c4 ?c5 ?_)
        case c1 => exact cell_one_new _ _ _
        case c2 => intro u hu; simp at hu; subst hu; rfl
        case c3 => unfold maxLen; omega
        case c4 => omega
        case c5 => simp; omega
        · intro v' w1' hown' hgrow _ _
          have HBn := Lib.hid ((HB.out.alloc HB.out.size _).grown hgrow (by simp; omega) (fun g hg => (HU.out.lt g hg).1))
          have e1 : (upL (k + 1)).length = k + 1 := upL_len _
          have e2 : (upL (k + 1)).map (Value.int .i64) = (upL k).map (Value.int .i64) ++ [.int .i64 k] := by rw [HS1.out]; simp
          have HOn := Lib.hid hown'
          rw [← e1, ← e2] at HOn
          clear hown' hgrow e1 e2 hpl
          go_wp2
          go_roundw
          case rel => exact ⟨k + 1, by omega, by go_num, HOn, HBn⟩
          case measure => simp [intOf]; omega
      · have hkk : k = m := by omega
        have hi1 : ¬ (k : Int) < m := by omega
        rw [hkk, HR.out] at HU
        have hl : r.length ≤ 256 := by rw [← HR.out, upL_len]; exact hm
        have hf : ∀ k, k < r.length → Fits (nth r k) := by rw [← HR.out]; exact upL_fits (by omega)
        have hfin := Lib.hid (And.intro (OwnInts.mk' HU.out (by omega) hf) HB.out)
        clear hkk HU hf
        go_wp2
        go_ret
        exact ⟨_, rfl, hfin.out⟩
  · have HR : Hid (r = []) := by rw [← hr]; exact allL_no hn
    have hfin := Lib.hid (OwnInts.mk' (zs := []) oW.out (by simp) (fun k hk => absurd hk (by simp)))
    clear hr oW
    by_cases hlo : 0 < n
    · have hhi : ¬ n ≤ 256 := by omega
      have hi1 : ((0 : Nat) : Int) < n := by omega
      go_enter Try.func9, Try.ntmps9
      go_wp2
      go_loopw [3, 4] (fun u i wr => i = .int .i64 0 ∧ Hid (u = .slice (some ⟨w.heap.size, 0, none⟩) 0 0) ∧ Hid (wr = w.alloc (.cells #[] 2))) (fun _ _ _ => 0)
      case atStart => exact ⟨rfl, rfl, rfl⟩
      case round =>
        obtain ⟨rfl, hu, hw⟩ := hrel
        go_wp2
        go_ret
        exact ⟨_, rfl, by rw [HR.out, hu.out, hw.out]; exact hfin.out, by rw [hw.out]; exact B0.out⟩
    · have hi1 : ¬ ((0 : Nat) : Int) < n := by omega
      go_enter Try.func9, Try.ntmps9
      go_wp2
      go_loopw [3, 4] (fun u i wr => i = .int .i64 0 ∧ Hid (u = .slice (some ⟨w.heap.size, 0, none⟩) 0 0) ∧ Hid (wr = w.alloc (.cells #[] 2))) (fun _ _ _ => 0)
      case atStart => exact ⟨rfl, rfl, rfl⟩
      case round =>
        obtain ⟨rfl, hu, hw⟩ := hrel
        go_wp2
        go_ret
        exact ⟨_, rfl, by rw [HR.out, hu.out, hw.out]; exact hfin.out, by rw [hw.out]; exact B0.out⟩

end Go.Proofs.Ytaoagikipbcjpaa
