/-
  What stays as it was, kept in one word; the laws' helpers in one form. No program text.
-/
import Derived.Test.YtmobegiojhlakaaInts
import Derived.Test.YtmobegiojhlakaaBeyond
namespace Go.Proofs.Ytmobegiojhlakaa
open Go.RowKit

/-- What was there in each of these worlds is there still. -/
def Keep : List World → World → Prop
  | [], _ => True
  | a :: l, w => Below a.heap.size a w ∧ Keep l w
theorem Keep.step : ∀ {l : List World} {w w' : World}, Keep l w → Below w.heap.size w w' → Keep l w'
  | [], _, _, _, _ => trivial
  | _ :: _, _, _, h, hb => ⟨h.1.trans (hb.mono h.1.size), Keep.step h.2 hb⟩
theorem Keep.add {l : List World} {w : World} (h : Keep l w) : Keep (w :: l) w := ⟨Below.refl _ _, h⟩
theorem Keep.only : ∀ {l : List World} {w w' : World} {S : Nat → Prop}, Keep l w → Only S w w' → (∀ a ∈ l, ∀ b, S b → a.heap.size ≤ b) → Keep l w'
  | [], _, _, _, _, _, _ => trivial
  | a :: l, _, _, _, h, ho, hs => ⟨h.1.trans (ho.below h.1.size (hs a (by simp))), Keep.only h.2 ho fun a ha => hs a (by simp [ha])⟩
theorem only2 {a b : World} {B D : Nat} (ha : a.heap.size ≤ B) (hb : b.heap.size ≤ B) : ∀ x ∈ [b, a], ∀ k, (B ≤ k ∧ k < D) → x.heap.size ≤ k := fun x hx k hk => by
  simp only [List.mem_cons, List.not_mem_nil, or_false] at hx
  rcases hx with rfl | rfl <;> omega
theorem only3 {a b c : World} {B D : Nat} (ha : a.heap.size ≤ B) (hb : b.heap.size ≤ B) (hc : c.heap.size ≤ B) : ∀ x ∈ [c, b, a], ∀ k, (B ≤ k ∧ k < D) → x.heap.size ≤ k := fun x hx k hk => by
  simp only [List.mem_cons, List.not_mem_nil, or_false] at hx
  rcases hx with rfl | rfl | rfl <;> omega

theorem toArena_own {w : World} {v : Value} {O : List Int} {zss : List (List Int)} (h : ArenaAt w v O zss) (hn : zss.length ≤ 1048576) :
    Calls Try.prog 31 #[v] w (GivesArena w O zss) :=
  (toArena_at h hn).mono fun _ _ ⟨he, hc, _⟩ => ⟨_, he, hc.owned h, hc.below⟩
theorem toInts_own {w : World} {v : Value} {zs : List Int} (h : IntsV w v zs) :
    Calls Try.prog 40 #[v] w (GivesInts w zs) := toInts_at h
theorem heldArena_own {w : World} {v : Value} {O : List Int} {zss : List (List Int)} {k r : Int} (hr : k + O.length + sumLen zss zss.length = r) (h : ArenaAt w v (marks k O.length) (markRows (k + O.length) zss)) (h0 : 0 ≤ k) (h1 : k ≤ 1073741824) (hs : sizeArena O zss ≤ 1048576) :
    Calls Try.prog 34 #[v, .int .i64 k] w fun e w' => e = .returned (.int .i64 r) ∧ Below w.heap.size w w' := by
  unfold sizeArena at hs
  exact heldArena_at hr h h0 h1 (by omega) (by omega)
theorem heldInts_own {w : World} {v : Value} {k r : Int} {n : Nat} (hr : k + (n : Int) = r) (h : IntsV w v (marks k n)) (h0 : 0 ≤ k) (h1 : k ≤ 1152921504606846976) :
    Calls Try.prog 47 #[v, .int .i64 k] w fun e w' => e = .returned (.int .i64 r) ∧ Below w.heap.size w w' :=
  (heldInts_is hr h h0 h1).mono fun _ _ ⟨he, hw⟩ => ⟨he, hw ▸ Below.refl _ _⟩

theorem OwnArena.shape2 {w : World} {B D : Nat} {v : Value} {O : List Int} {zss : List (List Int)} (h : OwnArena w B D v O zss) : ∃ a0 c0 a1 c1, v = .agg #[.slice a0 O.length c0, .slice a1 zss.length c1] := by
  obtain ⟨ao, an, co, cn, A, C, hv, _, _⟩ := h.at
  exact ⟨ao, co, an, cn, hv⟩
theorem OwnInts.shape2 {w : World} {B D : Nat} {v : Value} {zs : List Int} (h : OwnInts w B D v zs) : ∃ a c, v = .slice a zs.length c := by
  obtain ⟨a, c, hv, _, _⟩ := h.shape
  exact ⟨a, c, hv⟩
theorem IntsV.at {w : World} {a : Option Addr} {n c : Nat} {zs : List Int} (h : IntsV w (.slice a n c) zs) : IntsAt w a zs := by
  obtain ⟨a', c', hv, hi⟩ := h
  cases hv; exact hi

end Go.Proofs.Ytmobegiojhlakaa
