/-
  Contract: the model's l1Marked.
-/
import Derived.Test.YtkfmaajhemijlaaBools
namespace Go.Proofs.Ytkfmaajhemijlaa
open Go.RowKit

set_option maxHeartbeats 2000000 in
theorem l1Marked_is {w : World} {b n : Nat} {xs : Nat → Bool} {zs : List Int} (hr : markedK xs n = zs) (h : w.rowIs b 4 n (marksV xs)) (hn : n ≤ 1048576) :
    Calls Try.prog 52 #[.slice (some ⟨b, 0, none⟩) n n] w (GivesInts w zs) := by
  obtain ⟨j0, hj, hj0, hj1, hj2⟩ := info_parts info_int
  have HR := Lib.hid h
  have hbw := h.lt
  have HE := Lib.hid hr
  have oW : Hid ((w.alloc (.cells #[] 2)).ownsRow w.heap.size 2 1 (.slice (some ⟨w.heap.size, 0, none⟩) 0 0) 0 []) := World.ownsRow_made w #[] 0 (Nat.le_refl _) (by unfold maxLen; omega) rfl
  have B0 : Hid (Below w.heap.size w (w.alloc (.cells #[] 2))) := below1 _ _
  clear h hr
  go_enter Try.func52, Try.ntmps52
  go_wp2
  go_loopw [3, 4] (fun u j wr => ∃ k : Nat, k ≤ n ∧ j = .int .i64 k ∧ Hid (wr.ownsRow w.heap.size 2 1 u (markedK xs k).length ((markedK xs k).map (Value.int .i64))) ∧ Hid (Below w.heap.size w wr)) (fun _ j _ => n - (intOf j).toNat)
  case atStart => exact ⟨0, Nat.zero_le _, rfl, oW, B0⟩
  case round =>
    clear oW B0
    obtain ⟨k, hk, rfl, HU, HB⟩ := hrel
    have hsz := HB.out.size
    by_cases hlt : k < n
    · have hcs := (rowIs_below HR.out HB.out).cell hlt
      have hpl := markedK_len xs k
      have hi1 : (k : Int) < n := by omega
      cases hx : xs k with
      | false =>
        have hs1 : markedK xs (k + 1) = markedK xs k := by simp [markedK, hx]
        have HSV := HU
        rw [← hs1] at HSV
        rw [marksV, hx] at hcs
        clear hs1
        go_wp2
        go_roundw
        case rel => exact ⟨k + 1, by omega, by go_num, HSV, HB⟩
        case measure => simp [intOf]; omega
      | true =>
        have HS1 : Hid (markedK xs (k + 1) = markedK xs k ++ [(k : Int)]) := by simp [markedK, hx, Hid]
        rw [marksV, hx] at hcs
        clear hx
        go_wp2_with (at_builtin; refine wpList_append_own_at _ rfl _ _ 24 rfl w.heap.size 2 j0 (.int .i64 0) 1 8 Try.underlying24 hj hj0 hj1 hj2 rfl (by decide) _ _ _ rfl (HU.out.alloc _) ⟨wr.heap.size, 0, none⟩ 1 1 [.int .i64 k] rfl rfl ?c1 ?c2 ?c3 ?c4 ?c5 ?_)
        case c1 => exact cell_one_new _ _ _
        case c2 => intro u hu; simp at hu; subst hu; rfl
        case c3 => unfold maxLen; omega
        case c4 => omega
        case c5 => simp; omega
        · intro v' w7 hown' hgrow _ _
          have HBn := Lib.hid ((HB.out.alloc HB.out.size _).grown hgrow (by simp; omega) (fun g hg => (HU.out.lt g hg).1))
          have e1 : (markedK xs (k + 1)).length = (markedK xs k).length + 1 := by rw [HS1.out]; simp
          have e2 : (markedK xs (k + 1)).map (Value.int .i64) = (markedK xs k).map (Value.int .i64) ++ [.int .i64 k] := by rw [HS1.out]; simp
          have HOn := Lib.hid hown'
          rw [← e1, ← e2] at HOn
          clear hown' hgrow e1 e2
          go_wp2
          go_roundw
          case rel => exact ⟨k + 1, by omega, by go_num, HOn, HBn⟩
          case measure => simp [intOf]; omega
    · have hkk : k = n := by omega
      rw [hkk, HE.out] at HU
      have hl := markedK_len xs n
      have hf := markedK_fits xs n (by omega)
      rw [HE.out] at hl hf
      have hfin := Lib.hid (And.intro (OwnInts.mk' HU.out (by omega) hf) HB.out)
      have hi1 : ¬ (k : Int) < n := by omega
      clear hf
      go_wp2
      go_ret
      exact ⟨_, rfl, hfin.out⟩

end Go.Proofs.Ytkfmaajhemijlaa
