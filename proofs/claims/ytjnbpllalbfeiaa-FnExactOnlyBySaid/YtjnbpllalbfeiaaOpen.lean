/-
  From the arguments' readings to the words of the walks: a slice of numbers, a slice of such slices, an arena.
-/
import Derived.Test.YtjnbpllalbfeiaaSpecArena
import Derived.ProofKit
import Derived.SizedLaws
import Derived.Deep.Matrix
import Derived.Lib.SmallJoins
import Derived.Test.YtjnbpllalbfeiaaParity
import Derived.Test.YtjnbpllalbfeiaaLasso
import Derived.Test.YtjnbpllalbfeiaaDraw1
namespace Go.Proofs.Ytjnbpllalbfeiaa
section
section
section
open Go.ChangeShapes Go.WideShapes Go.ChangeAt Go.RowKit Go.Deep

theorem cells_int : Try.prog.cellsOf 2 = 1 := by kernel_rfl
theorem cells_ints : Try.prog.cellsOf 22 = 1 := by kernel_rfl
theorem bytes_int : Try.prog.bytesOf 2 = 8 := by kernel_rfl
theorem bytes_ints : Try.prog.bytesOf 22 = 24 := by kernel_rfl

theorem fits_of_wf {n : Int} (h : (Lit.int .i64 n).wf = true) : Fits n := by
  have h1 : IntKind.i64.min = -9223372036854775808 := rfl
  have h2 : IntKind.i64.max = 9223372036854775807 := rfl
  simp only [Lit.wf, Bool.and_eq_true, decide_eq_true_eq] at h
  unfold Fits
  omega

theorem mem_weightsAll {H : Type} {P : Program} {e : TypeId} {d : DataW H} {n : Nat} : ∀ {l : List (DataW H)}, d ∈ l → n ∈ d.weights P e → n ∈ DataW.weightsAll P e l
  | [], h, _ => by cases h
  | x :: r, h, hn => by
    simp only [DataW.weightsAll, List.mem_append]
    rcases List.mem_cons.1 h with rfl | h
    · exact Or.inl hn
    · exact Or.inr (mem_weightsAll h hn)

section
variable {H : Type} {enc : TypeId × Value → H} {W : World}

theorem nil_ints (W : World) : IntsAt W none [] := ⟨by simp, fun k hk => absurd hk (by simp), fun h => absurd h (by simp)⟩

/-- One slice of numbers: its cells, its length, its bounds. -/
theorem ints_mk {a : Addr} {L cap : Nat} {Z : List Int} (hl : L ≤ cap) (hz : Z.length = cap) (hc : ∀ i, i < cap → W.cell? (a.add i) = some (.int .i64 (Z.getD i 0))) (hw : ∀ n ∈ Z, (Lit.int .i64 n).wf = true) (hb : cap * 8 ≤ reachBytes) :
    (Z.take L).length = L ∧ IntsAt W (some a) (Z.take L) := by
  have hlen : (Z.take L).length = L := by simp; omega
  have hnth : ∀ k, k < L → nth (Z.take L) k = Z.getD k 0 := fun k hk => by simp [nth, List.getD, hk]
  refine ⟨hlen, by rw [hlen]; have := reachBytes_lt; omega, fun k hk => ?_, fun h0 => ?_⟩
  · rw [hlen] at hk
    rw [hnth k hk]
    refine fits_of_wf (hw _ ?_)
    rw [show Z.getD k 0 = Z[k]'(by omega) from by simp [List.getD, show k < Z.length from by omega]]
    exact List.getElem_mem _
  · rw [hlen] at h0
    obtain ⟨b, off, spot⟩ := a
    have hs : spot = none := by simpa [Addr.add] using World.cell?_spot (hc 0 (by omega))
    subst hs
    refine ⟨b, off, rfl, fun k hk => ?_⟩
    rw [hlen] at hk
    have h := hc k (by omega)
    rw [hnth k hk, ← add_plain]
    exact h

theorem ints_of {fuel : Nat} {v : Value} {y : DataW H × List MemPlace} (h : DataW.trod enc Try.prog W 0 (fun _ => true) true fuel 22 [v] = some y) (hw : ∀ n ∈ y.1.weights Try.prog 22, n ≤ reachBytes) :
    ∃ a zs cap, v = .slice a zs.length cap ∧ IntsAt W a zs := by
  rcases open_ints Try.underlying22 Try.underlying2 cells_int h with ⟨hcs, _⟩ | ⟨a, len, cap, zs, hcs, _, hl, hm, hz, hx, hcell, hwz⟩
  · simp only [List.cons.injEq, and_true] at hcs
    exact ⟨none, [], 0, hcs, nil_ints W⟩
  · simp only [List.cons.injEq, and_true] at hcs
    simp only [if_true] at hz
    subst hx
    have hb := hw ((lits (H := H) .i64 (zs.take len)).length * 8 + (lits (H := H) .i64 (zs.drop len)).length * 8) (by simp [DataW.weights, Try.underlying22, bytes_int, Nat.add_mul])
    simp only [lits, List.length_map, List.length_take, List.length_drop] at hb
    obtain ⟨h1, h2⟩ := ints_mk hl hz (fun i hi => hcell i (by omega)) hwz (by omega)
    exact ⟨some a, _, cap, by rw [hcs, h1], h2⟩

theorem rows_of {fuel : Nat} {v : Value} {y : DataW H × List MemPlace} (h : DataW.trod enc Try.prog W 0 (fun _ => true) true fuel 23 [v] = some y) (hw : ∀ n ∈ y.1.weights Try.prog 23, n ≤ reachBytes) :
    ∃ a A C zss cap, v = .slice a zss.length cap ∧ RowsAt W a A C zss := by
  rcases open_int_rows Try.underlying23 Try.underlying22 Try.underlying2 cells_ints cells_int h with ⟨hcs, _⟩ | ⟨a, len, cap, A, L, C, Z, hcs, _, hl, hm, hx, hcell⟩
  · simp only [List.cons.injEq, and_true] at hcs
    exact ⟨none, fun _ => none, fun _ => 0, [], 0, hcs, by simp, fun h => absurd h (by simp), fun k hk => absurd hk (by simp)⟩
  · simp only [List.cons.injEq, and_true] at hcs
    subst hx
    have hlen : ((List.range len).map fun r => (Z r).take (L r)).length = len := by simp
    have hrow : ∀ k, k < len → row ((List.range len).map fun r => (Z r).take (L r)) k = (Z k).take (L k) := fun k hk => by simp [row, hk]
    have hb : len ≤ 17592186044416 := by
      have := hw ((((List.range len).map fun r => intRow (H := H) .i64 (A r) (L r) (Z r)).length + ((List.range (cap - len)).map fun j => intRow (H := H) .i64 (A (len + j)) (L (len + j)) (Z (len + j))).length) * 24) (by simp [DataW.weights, Try.underlying23, bytes_ints])
      simp only [List.length_map, List.length_range] at this
      have := reachBytes_lt
      omega
    have hrb : ∀ r, r < len → ∀ ad, A r = some ad → C r * 8 ≤ reachBytes := fun r hr ad had => by
      have hc := hcell r (by omega)
      have := hw (C r * 8) (by
        simp only [DataW.weights, Try.underlying23, List.mem_cons, List.mem_append]
        refine Or.inr (Or.inl (mem_weightsAll (d := intRow (H := H) .i64 (A r) (L r) (Z r)) (List.mem_map.2 ⟨r, List.mem_range.2 hr, rfl⟩) ?_))
        have hcl := hc.2.1
        have hzl := hc.2.2.2.1
        have e : min (L r) (Z r).length + ((Z r).length - L r) = C r := by omega
        simp [intRow, had, DataW.weights, Try.underlying22, bytes_int, lits, e])
      exact this
    have hrows : ∀ k, k < len → ((Z k).take (L k)).length = L k ∧ IntsAt W (A k) ((Z k).take (L k)) := fun k hk => by
      obtain ⟨_, c1, c2, c3, c4, c5, c6⟩ := hcell k (by omega)
      cases hA : A k with
      | none =>
        have h0 := c5 hA
        have hz0 : Z k = [] := List.length_eq_zero_iff.1 (by omega)
        rw [hz0]
        exact ⟨by simp; omega, by simpa using nil_ints W⟩
      | some ad =>
        exact ints_mk c1 c3 (fun i hi => (c6 ad hA).2 i hi) c4 (hrb k hk ad hA)
    refine ⟨some a, A, C, (List.range len).map fun r => (Z r).take (L r), cap, by rw [hcs, hlen], by rw [hlen]; exact hb, fun h0 => ?_, fun k hk => ?_⟩
    · rw [hlen] at h0
      obtain ⟨b, off, spot⟩ := a
      have hs : spot = none := by simpa [Addr.add] using World.cell?_spot (hcell 0 (by omega)).1
      subst hs
      refine ⟨b, off, rfl, fun k hk => ?_⟩
      rw [hlen] at hk
      have hc := (hcell k (by omega)).1
      rw [hrow k hk, (hrows k hk).1, ← add_plain]
      exact hc
    · rw [hlen] at hk
      rw [hrow k hk]
      exact (hrows k hk).2

set_option maxRecDepth 100000 in
theorem arena_of {v : Value} {d : DataW H} {p : List MemPlace} {r : Reach} {b0 : Nat} (hv : Value.okWide Try.prog W r b0 25 v) (h : DataW.Trod enc Try.prog W 0 (fun _ => true) true 25 v d p) (hw : ∀ n ∈ d.weights Try.prog 25, n ≤ reachBytes) :
    ∃ O zss, ArenaAt W v O zss := by
  obtain ⟨v0, v1, y0, y1, n, rfl, rfl, rfl, h0, h1⟩ := Go.Joins.open_agg2 Try.underlying25 (by kernel_rfl) (by kernel_rfl) hv h
  have hw0 : ∀ n ∈ y0.1.weights Try.prog 22, n ≤ reachBytes := fun n hn => hw n (by simp [DataW.weights, Try.underlying25, DataW.weightsEach, hn])
  have hw1 : ∀ n ∈ y1.1.weights Try.prog 23, n ≤ reachBytes := fun n hn => hw n (by simp [DataW.weights, Try.underlying25, DataW.weightsEach, hn])
  obtain ⟨ao, O, co, rfl, hO⟩ := ints_of h0 hw0
  obtain ⟨an, A, C, zss, cn, rfl, hN⟩ := rows_of h1 hw1
  exact ⟨O, zss, ao, an, co, cn, A, C, rfl, hO, hN⟩

end
end

section
open Go.ChangeShapes Go.WideShapes Go.ChangeAt Go.RowKit Go.Deep

set_option maxRecDepth 100000 in
theorem slice_of {H : Type} {enc : TypeId × Value → H} {W : World} {v : Value} {d : DataW H} {p : List MemPlace} {r : Reach} {b0 : Nat} (hv : Value.okWide Try.prog W r b0 22 v) (h : DataW.Trod enc Try.prog W 0 (fun _ => true) true 22 v d p) (hw : ∀ n ∈ d.weights Try.prog 22, n ≤ reachBytes) :
    ∃ a zs cap, v = .slice a zs.length cap ∧ IntsAt W a zs := by
  obtain ⟨a, len, cap, rfl⟩ := okWide_slice Try.underlying22 hv
  obtain ⟨fuel, hf⟩ := h
  exact ints_of (y := (d, p)) (by simpa [Value.cells] using hf) hw
end

section
open Go.RowKit Go.ChangeShapes Go.Joins Go.WideShapes

set_option maxRecDepth 100000 in
theorem game_of {H : Type} {enc : TypeId × Value → H} {W : World} {v : Value} {d : DataW H} {p : List MemPlace} {r : Reach} {b0 : Nat} (hv : Value.okWide Try.prog W r b0 27 v) (h : DataW.Trod enc Try.prog W 0 (fun _ => true) true 27 v d p) (hw : ∀ n ∈ d.weights Try.prog 27, n ≤ reachBytes) :
    ∃ O zss P, GameAt W v O zss P := by
  obtain ⟨cs, rfl, hsz⟩ := okWide_struct Try.underlying27 hv
  have hC : Try.prog.cellsOf 27 = 3 := by kernel_rfl
  have hA : Try.prog.cellsOf 25 = 2 := by kernel_rfl
  have hS : Try.prog.cellsOf 22 = 1 := by kernel_rfl
  have hR : Try.prog.cellsOf 23 = 1 := by kernel_rfl
  obtain ⟨c0, c1, c2, rfl⟩ := array3 (hsz.trans hC)
  obtain ⟨fuel, hf⟩ := h
  obtain ⟨y0, y1, n, hx, _, h0, h1⟩ := trod_struct2 Try.underlying27 hf
  obtain ⟨z0, z1, m, hx', _, g0, g1⟩ := trod_struct2 Try.underlying25 h0
  simp only [Prod.mk.injEq] at hx
  obtain ⟨rfl, rfl⟩ := hx
  subst hx'
  have k0 : DataW.trod enc Try.prog W 0 (fun _ => true) true m 22 [c0] = some z0 := by simpa [Value.cells, hA, hS] using g0
  have k1 : DataW.trod enc Try.prog W 0 (fun _ => true) true m 23 [c1] = some z1 := by simpa [Value.cells, hA, hR] using g1
  have k2 : DataW.trod enc Try.prog W 0 (fun _ => true) true n 22 [c2] = some y1 := by simpa [Value.cells, hS] using h1
  have hw0 : ∀ n ∈ z0.1.weights Try.prog 22, n ≤ reachBytes := fun n hn => hw n (by simp [DataW.weights, Try.underlying27, Try.underlying25, DataW.weightsEach, hn])
  have hw1 : ∀ n ∈ z1.1.weights Try.prog 23, n ≤ reachBytes := fun n hn => hw n (by simp [DataW.weights, Try.underlying27, Try.underlying25, DataW.weightsEach, hn])
  have hw2 : ∀ n ∈ y1.1.weights Try.prog 22, n ≤ reachBytes := fun n hn => hw n (by simp [DataW.weights, Try.underlying27, DataW.weightsEach, hn])
  obtain ⟨ao, O, co, rfl, hO⟩ := ints_of k0 hw0
  obtain ⟨an, A, C, zss, cn, rfl, hN⟩ := rows_of k1 hw1
  obtain ⟨ap, P, cp, rfl, hP⟩ := ints_of k2 hw2
  exact ⟨O, zss, P, ao, an, ap, co, cn, cp, A, C, rfl, hO, hN, hP⟩
end
end

section
open Go.ChangeShapes Go.WideShapes Go.ChangeAt Go.RowKit Go.Deep

end
end

section
open Go.ChangeShapes Go.WideShapes Go.ChangeAt Go.RowKit Go.Deep

theorem cells_byte : Try.prog.cellsOf 5 = 1 := by kernel_rfl
theorem bytes_byte : Try.prog.bytesOf 5 = 1 := by kernel_rfl

theorem byte_of_wf {n : Int} (h : (Lit.int .u8 n).wf = true) : 0 ≤ n ∧ n ≤ 255 := by
  have h1 : IntKind.u8.min = 0 := rfl
  have h2 : IntKind.u8.max = 255 := rfl
  simp only [Lit.wf, Bool.and_eq_true, decide_eq_true_eq] at h
  omega

theorem bytes_mk {W : World} {a : Addr} {L cap : Nat} {Z : List Int} (hl : L ≤ cap) (hz : Z.length = cap) (hc : ∀ i, i < cap → W.cell? (a.add i) = some (.int .u8 (Z.getD i 0))) (hw : ∀ n ∈ Z, (Lit.int .u8 n).wf = true) (hb : cap * 1 ≤ reachBytes) :
    (Z.take L).length = L ∧ BytesAt W (some a) (Z.take L) := by
  have hlen : (Z.take L).length = L := by simp; omega
  have hnth : ∀ k, k < L → nth (Z.take L) k = Z.getD k 0 := fun k hk => by simp [nth, List.getD, hk]
  by_cases hL : L ≤ 140737488355328
  · refine ⟨hlen, by rw [hlen]; exact hL, fun k hk => ?_⟩
    rw [hlen] at hk
    obtain ⟨b, off, spot⟩ := a
    have hs : spot = none := by simpa [Addr.add] using World.cell?_spot (hc 0 (by omega))
    subst hs
    have h := hc k (by omega)
    refine ⟨b, off, rfl, ?_, ?_⟩
    · rw [hnth k hk, ← add_plain]; exact h
    · rw [hnth k hk]
      refine byte_of_wf (hw _ ?_)
      rw [show Z.getD k 0 = Z[k]'(by omega) from by simp [List.getD, show k < Z.length from by omega]]
      exact List.getElem_mem _
  · exact absurd hb (by have := reachBytes_lt; omega)

end

section
open Go.ChangeShapes Go.WideShapes Go.ChangeAt Go.RowKit Go.Deep

end

end Go.Proofs.Ytjnbpllalbfeiaa
