/-
  The library's slices.Sort at this program: the numbers that its contract is laid at.
-/
import Derived.Shelf.SlGeneric
import Derived.Shelf.SortM.Plain
import Derived.Shelf.SortM.SortNone
import Derived.Ground.SlgmProg
import Derived.Test.YtjnbpllalbfeiaaProg
import Derived.Test.YtjnbpllalbfeiaaBase1
import Derived.Sort.OwnSortedInts
import Derived.Shelf.SlicesE.Compact
import Derived.Ground.SlgnProg
import Derived.Test.YtjnbpllalbfeiaaParity1
import Derived.Lib.AppendZeros
import Derived.Lib.OwnBridge
import Derived.Test.YtjnbpllalbfeiaaParity
namespace Go.Proofs.Ytjnbpllalbfeiaa
section
section
open Go.Shelf
end

section
open Go.RowKit Go.Sort

end
end

section
open Go.Shelf
end

section
open Go.Shelf
end

section
open Go.RowKit Go.Sort

theorem zero23 : ∀ w, (zeroValue 2).run Try.prog w = .ok (.int .i64 0) w := Try.zeroValue2

theorem rows_pair {w : World} {a a' : Option Addr} {S T : List Int} {cs ct : Nat} (t : TypeId) (h : IntsAt w a S) (h' : IntsAt w a' T) :
    RowsAt (w.alloc (.cells #[.slice a S.length cs, .slice a' T.length ct] t)) (some ⟨w.heap.size, 0, none⟩) (fun k => if k = 0 then a else a') (fun k => if k = 0 then cs else ct) [S, T] := by
  have hb := Box2.new w t (.slice a S.length cs) (.slice a' T.length ct)
  refine ⟨by simp, fun _ => ⟨_, 0, rfl, fun k hk => ?_⟩, fun k hk => ?_⟩
  · match k with
    | 0 => exact hb.cell0
    | 1 => exact hb.cell1
    | k + 2 => exact absurd hk (by simp)
  · match k with
    | 0 => exact h.alloc _
    | 1 => exact h'.alloc _
    | k + 2 => exact absurd hk (by simp)

theorem catK_fits {w : World} {a : Option Addr} {A : Nat → Option Addr} {C : Nat → Nat} {zss : List (List Int)} (h : RowsAt w a A C zss) : ∀ n, n ≤ zss.length → ∀ k, k < (catK zss n).length → Fits (nth (catK zss n) k)
  | 0, _, k, hk => absurd hk (by simp [catK])
  | n + 1, hn, k, hk => by
    have hm := nth_mem hk
    generalize nth (catK zss (n + 1)) k = y at hm
    rw [catK, List.mem_append] at hm
    rcases hm with hm | hm
    · obtain ⟨j, hj, e⟩ := mem_nth.1 hm
      rw [← e]; exact catK_fits h n (by omega) j hj
    · obtain ⟨j, hj, e⟩ := mem_nth.1 hm
      rw [← e]; exact (h.rows n (by omega)).fits j hj

end

section
open Go.RowKit

theorem rows_three {w : World} {a a' b : Option Addr} {S T U : List Int} {cs ct cu : Nat} (t : TypeId) (h : IntsAt w a S) (h' : IntsAt w a' T) (h2 : IntsAt w b U) :
    RowsAt (w.alloc (.cells #[.slice a S.length cs, .slice a' T.length ct, .slice b U.length cu] t)) (some ⟨w.heap.size, 0, none⟩) (fun k => if k = 0 then a else if k = 1 then a' else b) (fun k => if k = 0 then cs else if k = 1 then ct else cu) [S, T, U] := by
  have hb := Box3.new w t (.slice a S.length cs) (.slice a' T.length ct) (.slice b U.length cu)
  refine ⟨by simp, fun _ => ⟨_, 0, rfl, fun k hk => ?_⟩, fun k hk => ?_⟩
  · match k with
    | 0 => exact hb.c0
    | 1 => exact hb.c1
    | 2 => exact hb.c2
    | k + 3 => exact absurd hk (by simp)
  · match k with
    | 0 => exact h.alloc _
    | 1 => exact h'.alloc _
    | 2 => exact h2.alloc _
    | k + 3 => exact absurd hk (by simp)

end

end Go.Proofs.Ytjnbpllalbfeiaa
