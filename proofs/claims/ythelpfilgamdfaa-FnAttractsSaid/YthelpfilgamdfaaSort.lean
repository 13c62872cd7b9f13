/-
  Contract: slices.Sort at []int64, over a slice of the call's own.
-/
import Derived.Test.YthelpfilgamdfaaSortLays
import Derived.Test.YthelpfilgamdfaaTurned
import Derived.Sort.OwnSortedInts
namespace Go.Proofs.Ythelpfilgamdfaa
open Go.RowKit Go.Sort

theorem sort_own {w : World} {B : Nat} {v : Value} {zs : List Int} (h : w.ownsRow B 2 1 v zs.length (zs.map (Value.int .i64))) (hl : zs.length ≤ 1048576) :
    Calls Try.prog 42 #[v] w fun e w' => e = .returned (.tuple #[]) ∧ w'.ownsRow B 2 1 v zs.length ((zs.mergeSort fun x y => decide (x ≤ y)).map (Value.int .i64)) ∧ Only (fun b => v.ownBlock = some b) w w' := by
  rcases h.2 with ⟨hv, h0⟩ | ⟨g, cap, cur, hv, hg, hb, hc, hm, hcs, ht⟩
  · have hz : zs = [] := List.length_eq_zero_iff.1 h0
    subst hz
    subst hv
    refine (AnyM.slices_Sort_int_none sortLays none 0 w).mono ?_
    rintro e w' ⟨rfl, rfl⟩
    exact ⟨rfl, by simpa using h, Only.refl _ _⟩
  · subst hv
    have hlt : g < w.heap.size := (Array.getElem?_eq_some_iff.1 hb).1
    refine (AnyM.slices_Sort_int sortLays g 0 cap zs w (holds_of_blockI hb (by simpa using ht)) hlt (by omega)).mono ?_
    rintro e w' ⟨rfl, n, os, rfl⟩
    refine ⟨rfl, ownsRow_sortedI (List.length_mergeSort _) hg hb hc hm hcs, ?_⟩
    exact (Only.of_grown (grownBy_sortedI (w := w) (g := g) (n := n) (os := os) _)).mono fun b hb => by simpa [Value.ownBlock] using hb

end Go.Proofs.Ythelpfilgamdfaa
