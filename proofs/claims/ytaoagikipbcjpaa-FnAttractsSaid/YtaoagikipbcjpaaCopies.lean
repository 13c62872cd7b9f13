/-
  Contracts: copies of slices (the model's l1Copy, slices.Clone).
-/
import Derived.Test.YtaoagikipbcjpaaPreds
import Derived.Deep.AppendSrc
import Derived.Laws.AppendOwnNone
namespace Go.Proofs.Ytaoagikipbcjpaa
open Go.RowKit

theorem wpList_append_nil {P : Program} {w : World} {ops : Array Oper} {rest : List Oper} {o : Oper} {a : Act} {Q : Exit → Act → World → Prop} (hgd : o.guard = none) (s x : Operand) (t : TypeId)
    (ho : o.op = .call { callee := .builtin .append, args := #[s, x], argTypes := #[t, t] })
    (base : Nat) (e : TypeId) (i : TypeInfo) (size : Nat) (ht : P.underlying t = some (.slice e)) (hi : P.info? e = some i)
    (v : Value) (n : Nat) (xs : List Value) (hs : a.eval s = v) (hown : w.ownsRow base e size v n xs) (c : Nat) (hx : a.eval x = .slice none 0 c)
    (h : wpList P ops Q rest (a.put o.dst v) w) : wpList P ops Q (o :: rest) a w := by
  refine wpList_plain hgd fun K hK => ?_
  have hrun : (Builtin.append_ #[t, t] o.type #[v, .slice none 0 c]).run P w = .ok v w := by
    rcases hown.2 with ⟨rfl, rfl⟩ | ⟨g, cap, cur, rfl, _, _, hnc, _⟩
    · simp [Builtin.append_, run_underlying ht, sizeOf, typeInfo, hi, Builtin.lenOf, Builtin.firstCells]
    · simp [Builtin.append_, run_underlying ht, sizeOf, typeInfo, hi, Builtin.lenOf, Builtin.firstCells, hnc, storeCells]
  unfold Oper.wp
  simp [execOp, ho, resolve, invoke, builtin, hs, hx, hrun, Result.andThen]
  exact hK _ _ h

theorem news_of {w : World} {ad : Addr} {zs : List Int} (h : IntsAt w (some ad) zs) : ∀ j u, (zs.map (Value.int .i64))[j]? = some u → w.cell? (ad.add j) = some u := by
  intro j u hu
  have hj : j < zs.length := by
    rcases Nat.lt_or_ge j zs.length with h | h
    · exact h
    · simp [h] at hu
  obtain ⟨b, off, ha, hc⟩ := h.cell (by omega)
  cases ha
  rw [Go.WideShapes.add_plain, hc j hj]
  simp [hj] at hu
  rw [← hu, nth_eq hj]

theorem one_of (zs : List Int) : ∀ u ∈ zs.map (Value.int .i64), u.oneCell' = true := by
  intro u hu
  obtain ⟨z, _, rfl⟩ := List.mem_map.1 hu
  rfl

set_option maxHeartbeats 1000000 in
theorem l1Copy_is {w : World} {a : Option Addr} {zs : List Int} (cap : Nat) (h : IntsAt w a zs) :
    Calls Try.prog 33 #[.slice a zs.length cap] w (GivesInts w zs) := by
  obtain ⟨i0, hi, hz0, hz1, hz2⟩ := info_parts info_int
  have hlen := h.len
  have HF := Lib.hid h.fits
  have oW : Hid ((w.alloc (.cells #[] 2)).ownsRow w.heap.size 2 1 (.slice (some ⟨w.heap.size, 0, none⟩) 0 0) 0 []) := World.ownsRow_made w #[] 0 (Nat.le_refl _) (by unfold maxLen; omega) rfl
  have hI := Lib.hid (h.alloc (.cells #[] 2))
  clear h
  cases a with
  | none =>
    have hz : zs = [] := List.length_eq_zero_iff.1 (by
      rcases Nat.eq_zero_or_pos zs.length with h | h
      · exact h
      · obtain ⟨b, off, ha, _⟩ := hI.out.cell h; cases ha)
    subst hz
    go_enter Try.func33, Try.ntmps33
    go_wp2_with (at_builtin; refine wpList_append_nil rfl _ _ 27 rfl w.heap.size 2 i0 1 Try.underlying27 hi _ _ _ rfl oW.out _ rfl ?_)
    go_ret
    exact ⟨_, rfl, OwnInts.mk' oW.out (by simp) (fun k hk => absurd hk (by simp)), below1 _ _⟩
  | some ad =>
    go_enter Try.func33, Try.ntmps33
    go_wp2_with (at_builtin; refine wpList_append_own _ rfl _ _ 27 rfl w.heap.size 2 i0 (.int .i64 0) 1 8 Try.underlying27 hi hz0 hz1 hz2 rfl (by decide) _ _ _ rfl oW.out ad zs.length cap (zs.map (Value.int .i64)) rfl (by simp) (news_of hI.out) (one_of zs) ?c3 ?c4 ?c5 ?_)
    case c3 => unfold maxLen; omega
    case c4 => omega
    case c5 => simp
    · intro v' w1 hown hgrow _
      have hfin : Hid (OwnInts w1 w.heap.size w1.heap.size v' zs ∧ Below w.heap.size w w1) := by
        exact ⟨OwnInts.mk' (by simpa using hown) hlen HF.out, (below1 w _).grown hgrow (by simp) (fun k hk => by simp [Value.ownBlock] at hk; omega)⟩
      clear hown hgrow
      go_wp2
      go_ret
      exact ⟨_, rfl, hfin.out⟩

end Go.Proofs.Ytaoagikipbcjpaa
