/-
  Contracts of the laws' own helpers: copies of arguments (toInt64S, toInt64SS, toArena).
-/
import Derived.Test.YtaoagikipbcjpaaSpecArena
import Derived.Deep.OwnRows
namespace Go.Proofs.Ytaoagikipbcjpaa
open Go.RowKit

theorem info_int : (Try.prog.info? 2).map (fun i => (i.zero, i.size, i.bytes)) = some (some (.int .i64 0), 1, 8) := by kernel_rfl
theorem info_ints : (Try.prog.info? 27).map (fun i => (i.zero, i.size, i.bytes)) = some (some (.slice none 0 0), 1, 24) := by kernel_rfl

/-- What the copy's row holds when k numbers are copied. -/
def part (zs : List Int) (k : Nat) : Nat → Value := fun i => if i < k then .int .i64 (nth zs i) else .int .i64 0

theorem part_step {w : World} {g n k : Nat} {t : TypeId} {zs : List Int} (h : w.rowIs g t n (part zs k)) : (w.setCell ⟨g, k, none⟩ (.int .i64 (nth zs k))).rowIs g t n (part zs (k + 1)) := by
  refine (h.set k _).congr fun i _ => ?_
  simp only [part]
  by_cases e : i = k
  · subst e; simp
  · rw [if_neg e]
    by_cases hlt : i < k
    · rw [if_pos hlt, if_pos (by omega)]
    · rw [if_neg hlt, if_neg (by omega)]

/-- The copied rows' outer row when k rows are copied. -/
def outer (N : Nat) (zss : List (List Int)) (k : Nat) : Nat → Value := fun j => if j < k then .slice (some ⟨N + 1 + j, 0, none⟩) (row zss j).length (row zss j).length else .slice none 0 0

/-- What holds when k rows are copied; N: the outer row's block. -/
structure Copied (w wr : World) (N : Nat) (zss : List (List Int)) (k : Nat) : Prop where
  below : Below w.heap.size w wr
  size : wr.heap.size = N + 1 + k
  top : wr.rowIs N 27 zss.length (outer N zss k)
  done : ∀ j, j < k → wr.rowIs (N + 1 + j) 2 (row zss j).length (fun i => .int .i64 (nth (row zss j) i))

theorem rowIs_below {w w' : World} {g n : Nat} {t : TypeId} {f : Nat → Value} (h : w.rowIs g t n f) (hb : Below w.heap.size w w') : w'.rowIs g t n f := h.of_block (hb.block g h.lt)

theorem Copied.step {w wr w1 : World} {N k : Nat} {zss : List (List Int)} (h : Copied w wr N zss k) (hN : w.heap.size ≤ N) (hb : Below wr.heap.size wr w1) (hs : w1.heap.size = wr.heap.size + 1)
    (hr : w1.rowIs wr.heap.size 2 (row zss k).length (fun i => .int .i64 (nth (row zss k) i))) :
    Copied w (w1.setCell ⟨N, k, none⟩ (.slice (some ⟨wr.heap.size, 0, none⟩) (row zss k).length (row zss k).length)) N zss (k + 1) := by
  refine ⟨(h.below.trans (hb.mono h.below.size)).setCell hN _, by simp [hs, h.size]; omega, ((rowIs_below h.top hb).set k _).congr fun j _ => ?_, fun j hj => ?_⟩
  · simp only [outer]
    by_cases e : j = k
    · subst e; simp [h.size]
    · rw [if_neg e]
      by_cases hlt : j < k
      · rw [if_pos hlt, if_pos (by omega)]
      · rw [if_neg hlt, if_neg (by omega)]
  · by_cases e : j = k
    · subst e
      have := hr.setOther (a := ⟨N, j, none⟩) (by rw [h.size]; show N + 1 + j ≠ N; omega) (.slice (some ⟨wr.heap.size, 0, none⟩) (row zss j).length (row zss j).length)
      rw [h.size] at this ⊢
      exact this
    · exact (rowIs_below (h.done j (by omega)) hb).setOther (by show N + 1 + j ≠ N; omega) _

/-- What toArena leaves: the owners' copy in the fourth new block, the rows' in the fifth and those behind it. -/
structure ArenaCopy (w w' : World) (O : List Int) (zss : List (List Int)) : Prop where
  below : Below w.heap.size w w'
  size : w'.heap.size = w.heap.size + 5 + zss.length
  owner : w'.rowIs (w.heap.size + 3) 2 O.length (fun i => .int .i64 (nth O i))
  top : w'.rowIs (w.heap.size + 4) 27 zss.length (outer (w.heap.size + 4) zss zss.length)
  done : ∀ j, j < zss.length → w'.rowIs (w.heap.size + 4 + 1 + j) 2 (row zss j).length (fun i => .int .i64 (nth (row zss j) i))

theorem ArenaCopy.ints {w w' w0 : World} {a : Option Addr} {O : List Int} {zss : List (List Int)} (h : ArenaCopy w w' O zss) (hO : IntsAt w0 a O) : IntsAt w' (some ⟨w.heap.size + 3, 0, none⟩) O :=
  ⟨hO.len, hO.fits, fun _ => ⟨_, _, rfl, fun k hk => by rw [Nat.zero_add]; exact h.owner.cell hk⟩⟩

theorem ArenaCopy.rows {w w' w0 : World} {a : Option Addr} {A : Nat → Option Addr} {C : Nat → Nat} {O : List Int} {zss : List (List Int)} (h : ArenaCopy w w' O zss) (hN : RowsAt w0 a A C zss) :
    RowsAt w' (some ⟨w.heap.size + 4, 0, none⟩) (fun j => some ⟨w.heap.size + 4 + 1 + j, 0, none⟩) (fun j => (row zss j).length) zss :=
  ⟨hN.len, fun _ => ⟨_, _, rfl, fun k hk => by rw [Nat.zero_add, h.top.cell hk]; simp only [outer]; rw [if_pos hk]⟩,
    fun k hk => ⟨(hN.rows k hk).len, (hN.rows k hk).fits, fun _ => ⟨_, _, rfl, fun i hi => by rw [Nat.zero_add]; exact (h.done k hk).cell hi⟩⟩⟩

end Go.Proofs.Ytaoagikipbcjpaa
