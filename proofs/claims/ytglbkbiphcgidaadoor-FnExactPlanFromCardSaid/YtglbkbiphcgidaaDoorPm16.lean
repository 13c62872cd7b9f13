import Derived.Test.YtglbkbiphcgidaaDoorPm12
import Derived.Test.YtglbkbiphcgidaaDoorPm15
namespace Go.Proofs.YtglbkbiphcgidaaDoor
section
open Go.RowKit Go.Shelf
theorem abw {b n nb pb kb : Nat} {Ow Lv E Pd : Nat → Nat → Bool} {ah : List (List Int)} {O : List Int} {p : Nat → Int} (hG : jC ah O n Ow E Pd) (hL : Pn n p O Lv) : ∀ (m : Nat) (I : Nat → Bool), (aU I 256).length < m → (∀ v, I v = true → v < n) → fE ah I → BL ah O p b n nb pb kb Ow Lv E Pd I := by
 intro m
 induction m with
 | zero =>
   intro I h
   exact absurd h (Nat.not_lt_zero _)
 | succ m ih =>
   intro I h hI ht
   refine ahK hG hL hI ht ?_
   intro J hJ hJn hJt
   exact ih J (Nat.lt_of_lt_of_le hJ (Nat.le_of_lt_succ h)) hJn hJt
end
end Go.Proofs.YtglbkbiphcgidaaDoor
namespace Go.Proofs.YtglbkbiphcgidaaDoor
section
open Go.RowKit Go.Shelf
def nT (E : Nat → Nat → Bool) (v : Nat) (K : Nat → Bool) : Nat → Nat → Bool := fun u => if u = v then K else E u
theorem G9 {E : Nat → Nat → Bool} {v : Nat} {K : Nat → Bool} : nT E v K v = K := by unfold nT; simp
theorem He {E : Nat → Nat → Bool} {u v : Nat} {K : Nat → Bool} (h : u ≠ v) : nT E v K u = E u := by unfold nT; simp [h]
theorem iL.put {w : World} {b off n v : Nat} {E : Nat → Nat → Bool} (h : iL w b off n E) (hv : v < n) (K : Nat → Bool) :
 iL ((((w.setCell ⟨b, off + v * 4, none⟩ (.int .u64 (aj K 0))).setCell ⟨b, off + v * 4 + 1, none⟩ (.int .u64 (aj K 1))).setCell ⟨b, off + v * 4 + 2, none⟩ (.int .u64 (aj K 2))).setCell ⟨b, off + v * 4 + 3, none⟩ (.int .u64 (aj K 3))) b off n (nT E v K) := by
 intro u hu j hj
 have far : ∀ {W : World} {x y : Nat} {z : Value}, x ≠ y → (W.setCell ⟨b, x, none⟩ z).cell? ⟨b, y, none⟩ = W.cell? ⟨b, y, none⟩ := fun hxy => by
  apply World.cell?_setCell_other
  intro e
  injection e with _ e2
  exact hxy e2
 have same : ∀ {W : World} {x : Nat} {z t : Value}, W.cell? ⟨b, x, none⟩ = some t → (W.setCell ⟨b, x, none⟩ z).cell? ⟨b, x, none⟩ = some z := fun h => World.cell?_setCell_same _ _ _ h
 by_cases e : u = v
 · subst e
   rw [G9]
   have c0 := h u hu 0 (by omega)
   have c1 := h u hu 1 (by omega)
   have c2 := h u hu 2 (by omega)
   have c3 := h u hu 3 (by omega)
   rw [Nat.add_zero] at c0
   have : j = 0 ∨ j = 1 ∨ j = 2 ∨ j = 3 := by omega
   rcases this with rfl | rfl | rfl | rfl
   · rw [Nat.add_zero]
     exact (far (by omega)).trans ((far (by omega)).trans ((far (by omega)).trans (same c0)))
   · exact (far (by omega)).trans ((far (by omega)).trans (same ((far (by omega)).trans c1)))
   · exact (far (by omega)).trans (same ((far (by omega)).trans ((far (by omega)).trans c2)))
   · exact same ((far (by omega)).trans ((far (by omega)).trans ((far (by omega)).trans c3)))
 · rw [He e]
   exact (far (by omega)).trans ((far (by omega)).trans ((far (by omega)).trans ((far (by omega)).trans (h u hu j hj))))
theorem ahU {Q Q' : (Nat → Bool) → Value → Prop} {w : World} {kb : Nat} (ty : TypeId) (hM : dH w kb Q) :
 ∃ w', (Builtin.clear_ #[126] ty #[.map (some kb)]).run Tryd.prog w = .ok (.tuple #[]) w' ∧ dH w' kb Q' ∧ Only (fun k => k = kb) w w' := by
 obtain ⟨es, c, hb, _⟩ := hM
 have ht : Tryd.prog.underlying 126 = some (.map 69 71) := by kernel_rfl
 refine ⟨{ w with heap := w.heap.setIfInBounds kb (.map #[] c) }, by simp [Builtin.clear_, run_underlying ht, MapKept.run_getObj_map hb, MapKept.run_setObj_map _ hb, Result.andThen], ⟨#[], c, (MapKept.heap_set hb).1, fun e h => by simp at h⟩, ⟨rfl, rfl, rfl, by simp, fun k _ hk => (MapKept.heap_set hb).2 k hk⟩⟩
end
end Go.Proofs.YtglbkbiphcgidaaDoor
