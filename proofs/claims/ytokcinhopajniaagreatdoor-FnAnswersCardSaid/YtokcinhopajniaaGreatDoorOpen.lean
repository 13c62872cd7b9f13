/-
  From the arguments' readings to the words of the walks: a slice of numbers, a slice of such slices, an arena.
-/
import Derived.Test.YtokcinhopajniaaGreatDoorSpecArena
import Derived.ProofKit
import Derived.SizedLaws
import Derived.Deep.Matrix
import Derived.Lib.SmallJoins
import Derived.Test.YtokcinhopajniaaGreatDoorParity
import Derived.Test.YtokcinhopajniaaGreatDoorLasso
import Derived.Test.YtokcinhopajniaaGreatDoorDraw1
namespace Go.Proofs.YtokcinhopajniaaGreatDoor
section
section
section
open Go.ChangeShapes Go.WideShapes Go.ChangeAt Go.RowKit Go.Deep

section
variable {H : Type} {enc : TypeId × Value → H} {W : World}

end
end

section
open Go.ChangeShapes Go.WideShapes Go.ChangeAt Go.RowKit Go.Deep

end

section
open Go.RowKit Go.ChangeShapes Go.Joins Go.WideShapes

end
end

section
open Go.ChangeShapes Go.WideShapes Go.ChangeAt Go.RowKit Go.Deep

end
end

section
open Go.ChangeShapes Go.WideShapes Go.ChangeAt Go.RowKit Go.Deep

theorem cells_byte : Tryz.prog.cellsOf 5 = 1 := by kernel_rfl
theorem bytes_byte : Tryz.prog.bytesOf 5 = 1 := by kernel_rfl

theorem byte_of_wf {n : Int} (h : (Lit.int .u8 n).wf = true) : 0 ≤ n ∧ n ≤ 255 := by
  have h1 : IntKind.u8.min = 0 := rfl
  have h2 : IntKind.u8.max = 255 := rfl
  simp only [Lit.wf, Bool.and_eq_true, decide_eq_true_eq] at h
  omega

theorem bytes_mk {W : World} {a : Addr} {L cap : Nat} {Z : List Int} (hl : L ≤ cap) (hz : Z.length = cap) (hc : ∀ i, i < cap → W.cell? (a.add i) = some (.int .u8 (Z.getD i 0))) (hw : ∀ n ∈ Z, (Lit.int .u8 n).wf = true) (hb : cap * 1 ≤ reachBytes) :
    (Z.take L).length = L ∧ BytesAt W (some a) (Z.take L) := by
  have hlen : (Z.take L).length = L := by simp; omega
  have hnth : ∀ k, k < L → nth (Z.take L) k = Z.getD k 0 := fun k hk => by simp [nth, List.getD, hk]
  by_cases hL : L ≤ 140737488355328
  · refine ⟨hlen, by rw [hlen]; exact hL, fun k hk => ?_⟩
    rw [hlen] at hk
    obtain ⟨b, off, spot⟩ := a
    have hs : spot = none := by simpa [Addr.add] using World.cell?_spot (hc 0 (by omega))
    subst hs
    have h := hc k (by omega)
    refine ⟨b, off, rfl, ?_, ?_⟩
    · rw [hnth k hk, ← add_plain]; exact h
    · rw [hnth k hk]
      refine byte_of_wf (hw _ ?_)
      rw [show Z.getD k 0 = Z[k]'(by omega) from by simp [List.getD, show k < Z.length from by omega]]
      exact List.getElem_mem _
  · exact absurd hb (by have := reachBytes_lt; omega)

set_option maxRecDepth 100000 in
theorem bytes_of {H : Type} {enc : TypeId × Value → H} {W : World} {v : Value} {d : DataW H} {p : List MemPlace} {r : Reach} {b0 : Nat} (hv : Value.okWide Tryz.prog W r b0 22 v) (h : DataW.Trod enc Tryz.prog W 0 (fun _ => true) true 22 v d p) (hw : ∀ n ∈ d.weights Tryz.prog 22, n ≤ reachBytes) :
    ∃ a zs cap, v = .slice a zs.length cap ∧ BytesAt W a zs := by
  obtain ⟨a, len, cap, rfl⟩ := okWide_slice Tryz.underlying22 hv
  obtain ⟨fuel, hf⟩ := h
  have hf' : DataW.trod enc Tryz.prog W 0 (fun _ => true) true fuel 22 [.slice a len cap] = some (d, p) := by simpa [Value.cells] using hf
  rcases open_ints Tryz.underlying22 Tryz.underlying5 cells_byte hf' with ⟨hcs, _⟩ | ⟨a', len', cap', zs, hcs, _, hl, hm, hz, hx, hcell, hwz⟩
  · simp only [List.cons.injEq, and_true] at hcs
    exact ⟨none, [], 0, hcs, by simp, fun k hk => absurd hk (by simp)⟩
  · simp only [List.cons.injEq, and_true] at hcs
    simp only [if_true] at hz
    injection hx with hx1 hx2
    subst hx1
    have hb := hw ((lits (H := H) .u8 (zs.take len')).length * 1 + (lits (H := H) .u8 (zs.drop len')).length * 1) (by simp [DataW.weights, Tryz.underlying22, bytes_byte])
    simp only [lits, List.length_map, List.length_take, List.length_drop] at hb
    obtain ⟨h1, h2⟩ := bytes_mk hl hz (fun i hi => hcell i (by omega)) hwz (by omega)
    exact ⟨some a', _, cap', by rw [hcs, h1], h2⟩
end

section
open Go.ChangeShapes Go.WideShapes Go.ChangeAt Go.RowKit Go.Deep

end

end Go.Proofs.YtokcinhopajniaaGreatDoor
