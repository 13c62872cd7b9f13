/-
  Several texts in one: MeasOf, AtImpl, KitGame, Lasso, Open, MeasIn.
-/
import Derived.Deep.MidRow
import Derived.ProofKit
import Derived.SizedLaws
import Derived.Deep.Matrix
import Derived.Lib.SmallJoins
import Derived.Great.BuildSlice
import Derived.Test.YtihaajcmephlmaaPo00
import Derived.Test.YtihaajcmephlmaaPo01
import Derived.Test.YtihaajcmephlmaaPo02
import Derived.Test.YtihaajcmephlmaaPo08
namespace Go.Proofs.Ytihaajcmephlmaa
section
open Go.RowKit Go.Shelf

/-- A measure's cells by place. -/
def meaF (m : List Int) : Nat → Value := fun i => .int .i64 (nth m i)
theorem mea_of {w : World} {g : Nat} {T : TypeId} {m : List Int} (h : w.heap[g]? = some (.cells (meaA m) T (0, 0))) : w.rowIs g T 13 (meaF m) := by
  refine ⟨_, h, rfl, fun j hj => ?_⟩
  have h13 : j = 0 ∨ j = 1 ∨ j = 2 ∨ j = 3 ∨ j = 4 ∨ j = 5 ∨ j = 6 ∨ j = 7 ∨ j = 8 ∨ j = 9 ∨ j = 10 ∨ j = 11 ∨ j = 12 := by omega
  rcases h13 with rfl | rfl | rfl | rfl | rfl | rfl | rfl | rfl | rfl | rfl | rfl | rfl | rfl <;> rfl
theorem mea_cells {w : World} {g : Nat} {T : TypeId} {m : List Int} (h : w.rowIs g T 13 (meaF m)) : w.heap[g]? = some (.cells (meaA m) T (0, 0)) := by
  obtain ⟨cs, hb, hn, hc⟩ := h
  have e : cs = meaA m := Array.ext (by rw [hn]; rfl) (fun j h1 h2 => by
    have h3 := hc j (by omega)
    rw [Array.getElem?_eq_getElem h1] at h3
    injection h3 with h3
    rw [h3]
    have h13 : j = 0 ∨ j = 1 ∨ j = 2 ∨ j = 3 ∨ j = 4 ∨ j = 5 ∨ j = 6 ∨ j = 7 ∨ j = 8 ∨ j = 9 ∨ j = 10 ∨ j = 11 ∨ j = 12 := by omega
    clear h3
    rcases h13 with rfl | rfl | rfl | rfl | rfl | rfl | rfl | rfl | rfl | rfl | rfl | rfl | rfl <;> rfl)
  rw [hb, e]
theorem meaA_size (m : List Int) : (meaA m).size = 13 := rfl
theorem meaA_one (m : List Int) : (meaA m).all (·.oneCell') = true := by simp [meaA, Value.oneCell']
theorem mea_step {w : World} {g : Nat} {T : TypeId} {m : List Int} {k : Nat} (hk : k < m.length) (h : w.rowIs g T 13 (meaF (m.take k))) : (w.setCell ⟨g, k, none⟩ (.int .i64 (nth m k))).rowIs g T 13 (meaF (m.take (k + 1))) := by
  refine (h.set k _).congr fun i hi => ?_
  unfold meaF
  by_cases e : i = k
  · subst e
    rw [if_pos rfl]
    congr 1
    unfold nth
    simp [hk]
  · rw [if_neg e]
    congr 1
    unfold nth
    simp only [List.getD_eq_getElem?_getD, List.getElem?_take]
    by_cases h1 : i < k
    · rw [if_pos h1, if_pos (by omega)]
    · rw [if_neg h1, if_neg (by omega)]
end
end Go.Proofs.Ytihaajcmephlmaa
namespace Go.Proofs.Ytihaajcmephlmaa
section
open Go.RowKit Go.Shelf

/-- The places counted over k of the odds. -/
def plK (P : List Int) (p : Int) (k : Nat) : Int := 1 + ((((oddsL P).take k).filter fun x => decide (p ≤ x)).length : Int)
theorem plK_yes {P : List Int} {p : Int} {k : Nat} (hk : k < (oddsL P).length) (h : p ≤ nth (oddsL P) k) : plK P p (k + 1) = plK P p k + 1 := by
  unfold plK
  rw [take_next hk, List.filter_append, List.length_append]
  simp [h]
  omega
theorem plK_no {P : List Int} {p : Int} {k : Nat} (hk : k < (oddsL P).length) (h : ¬ p ≤ nth (oddsL P) k) : plK P p (k + 1) = plK P p k := by
  unfold plK
  rw [take_next hk, List.filter_append, List.length_append]
  simp [h]
theorem plK_le (P : List Int) (p : Int) (k : Nat) : 1 ≤ plK P p k ∧ plK P p k ≤ k + 1 := by
  unfold plK
  have h1 := List.length_filter_le (fun x => decide (p ≤ x)) ((oddsL P).take k)
  have h2 : ((oddsL P).take k).length ≤ k := by simp; omega
  omega
theorem plK_all (P : List Int) (p : Int) : plK P p (oddsL P).length = (placesL P p : Int) := by
  unfold plK placesL
  rw [List.take_length]
  omega

theorem row_zeros {b : Nat} {T : TypeId} {n : Nat} : ∀ (c o : Nat) {w : World} {f : Nat → Value}, w.rowIs b T n f → ((w.setCells b o (List.replicate c (.int .i64 0))).rowIs b T n (fun i => if o ≤ i ∧ i < o + c then .int .i64 0 else f i) ∧ Only (fun x => x = b) w (w.setCells b o (List.replicate c (.int .i64 0))))
  | 0, o, w, f, h => ⟨World.rowIs.congr h fun i _ => by rw [if_neg (by omega)], Only.refl _ _⟩
  | c + 1, o, w, f, h => by
    obtain ⟨h1, h2⟩ := row_zeros c (o + 1) (h.set o (.int .i64 0))
    refine ⟨World.rowIs.congr h1 fun i hi => ?_, ((Only.refl (fun x => x = b) w).setCell (p := ⟨b, o, none⟩) rfl _).trans h2⟩
    by_cases e : i = o
    · subst e; rw [if_neg (by omega), if_pos rfl, if_pos (by omega)]
    · by_cases h3 : o + 1 ≤ i ∧ i < o + 1 + c
      · rw [if_pos h3, if_pos (by omega)]
      · rw [if_neg h3, if_neg e, if_neg (by omega)]
theorem zeros_list (n : Nat) : (Builtin.zeroCells #[Value.int .i64 0] n).toList = List.replicate n (.int .i64 0) := by
  refine List.ext_getElem (by simp [Builtin.zeroCells]) fun i h1 h2 => ?_
  simp [Builtin.zeroCells, Nat.mod_one]
theorem wpList_clear8 {ops : Array Oper} {rest : List Oper} {o : Oper} {a : Act} {w : World} {Q : Exit → Act → World → Prop} {b k n c : Nat} {m : List Int} {T : TypeId} (hgd : o.guard = none) (s : Operand) (ho : o.op = .call { callee := .builtin .clear, args := #[s], argTypes := #[27] })
    (hs : a.eval s = .slice (some ⟨b, k, none⟩) n c) (hr : w.rowIs b T 13 (meaF m)) (hn : k + n = 13)
    (h : ∀ w', w'.rowIs b T 13 (meaF (m.take k)) → Only (fun x => x = b) w w' → wpList Try.prog ops Q rest (a.put o.dst (.tuple #[])) w') : wpList Try.prog ops Q (o :: rest) a w := by
  obtain ⟨h1, h2⟩ := row_zeros n k hr
  have hrun : (Builtin.clear_ #[27] o.type #[.slice (some ⟨b, k, none⟩) n c]).run Try.prog w = .ok (.tuple #[]) (w.setCells b k (List.replicate n (.int .i64 0))) := by
    cases n with
    | zero => simp [Builtin.clear_, run_underlying Try.underlying27, World.setCells]
    | succ n =>
      have hst := run_storeCells_cells (P := Try.prog) b k (List.replicate (n + 1) (.int .i64 0)) 0 w (fun j hj => by rw [Nat.add_zero, hr.cell (by simp at hj; omega)]; rfl) (fun j hj => hr.frozen _) (fun v hv => by rw [List.eq_of_mem_replicate hv]; rfl)
      rw [Nat.add_zero] at hst
      have hz := zeros_list (n + 1)
      simp [Builtin.clear_, run_underlying Try.underlying27, Try.zeroValue2, Value.cells, hz, hst]
  refine wpList_plain hgd fun K hK => ?_
  unfold Oper.wp execOp
  simp only [ho, resolve, invoke, builtin, Sem.run_bind, Sem.run_pure, Result.andThen_ok, List.map_toArray, List.map_cons, List.map_nil, hs, hrun]
  refine hK _ _ (h _ (World.rowIs.congr h1 fun i hi => ?_) h2)
  unfold meaF
  rw [nth_take8]
  by_cases h3 : k ≤ i ∧ i < k + n
  · rw [if_pos h3, if_neg (by omega)]
  · rw [if_neg h3, if_pos (by omega)]


theorem rowIs_drewN8 {w : World} {b : Nat} {t : TypeId} {n : Nat} {f : Nat → Value} (h : w.rowIs b t n f) (q : Nat) : (w.drewN q).rowIs b t n f := rowIs_below h (below_drewN (Below.refl _ _) q)
theorem wpList_clear0 {ops : Array Oper} {rest : List Oper} {o : Oper} {a : Act} {w : World} {Q : Exit → Act → World → Prop} {x : Option Addr} {c : Nat} (hgd : o.guard = none) (s : Operand) (ho : o.op = .call { callee := .builtin .clear, args := #[s], argTypes := #[27] })
    (hs : a.eval s = .slice x 0 c) (h : wpList Try.prog ops Q rest (a.put o.dst (.tuple #[])) w) : wpList Try.prog ops Q (o :: rest) a w := by
  have hrun : (Builtin.clear_ #[27] o.type #[.slice x 0 c]).run Try.prog w = .ok (.tuple #[]) w := by
    cases x <;> simp [Builtin.clear_, run_underlying Try.underlying27]
  refine wpList_plain hgd fun K hK => ?_
  unfold Oper.wp execOp
  simp only [ho, resolve, invoke, builtin, Sem.run_bind, Sem.run_pure, Result.andThen_ok, List.map_toArray, List.map_cons, List.map_nil, hs, hrun]
  exact hK _ _ h
theorem isNaN8 (x : Int) (w : World) : Calls Try.prog 106 #[.int .i64 x] w fun e w' => e = .returned (.bool false) ∧ w = w' := by
  have h1 : (x != x) = false := by simp
  go_enter Try.func106, Try.ntmps106
  go_wp2
  go_ret
  exact ⟨rfl, rfl⟩
set_option maxHeartbeats 2000000 in
theorem cmp8_is {x y v : Int} (hv : (if x < y then -1 else if y < x then 1 else 0) = v) (w : World) : Calls Try.prog 79 #[.int .i64 x, .int .i64 y] w fun e w' => e = .returned (.int .i64 v) ∧ w = w' := by
  by_cases h1 : x < y
  · rw [if_pos h1] at hv
    subst hv
    go_enter Try.func79, Try.ntmps79
    go_wp2_with (go_at_call 106; refine (isNaN8 _ _).mono ?_; rintro e w' ⟨rfl, rfl⟩)
    go_ret
    exact ⟨rfl, rfl⟩
  · rw [if_neg h1] at hv
    by_cases h2 : y < x
    · rw [if_pos h2] at hv
      subst hv
      go_enter Try.func79, Try.ntmps79
      go_wp2_with (go_at_call 106; refine (isNaN8 _ _).mono ?_; rintro e w' ⟨rfl, rfl⟩)
      go_ret
      exact ⟨rfl, rfl⟩
    · rw [if_neg h2] at hv
      subst hv
      go_enter Try.func79, Try.ntmps79
      go_wp2_with (go_at_call 106; refine (isNaN8 _ _).mono ?_; rintro e w' ⟨rfl, rfl⟩)
      go_ret
      exact ⟨rfl, rfl⟩

set_option maxHeartbeats 4000000 in
theorem Compare13_is {w : World} {a b : List Int} {ga gb : Nat} {r : Int} (hr : cmpF a b 0 13 = r) (ha : ∀ j, j < 13 → w.cell? ⟨ga, j, none⟩ = some (.int .i64 (nth a j))) (hb : ∀ j, j < 13 → w.cell? ⟨gb, j, none⟩ = some (.int .i64 (nth b j))) :
    Calls Try.prog 73 #[.slice (some ⟨ga, 0, none⟩) 13 13, .slice (some ⟨gb, 0, none⟩) 13 13] w fun e w' => e = .returned (.int .i64 r) ∧ w = w' := by
  have HA := Lib.hid ha
  have HB := Lib.hid hb
  have HR := Lib.hid hr
  clear ha hb hr
  go_enter Try.func73, Try.ntmps73
  go_wp2
  go_loopw [11] (fun iv wr => ∃ k : Nat, k ≤ 13 ∧ iv = .int .i64 k ∧ Hid (∀ j, j < k → nth a j = nth b j) ∧ w = wr) (fun iv _ => 13 - (intOf iv).toNat)
  case atStart => exact ⟨0, Nat.zero_le _, rfl, fun j hj => absurd hj (Nat.not_lt_zero _), rfl⟩
  case round =>
    obtain ⟨k, hk, rfl, HJ, rfl⟩ := hrel
    by_cases hlt : k < 13
    · have hi1 : (k : Int) < 13 := by omega
      have hk0 : (0 : Int) ≤ (k : Int) := by omega
      have hge : ¬ (13 : Int) ≤ (k : Int) := by omega
      have x1 := HA.out k hlt
      have y1 := HB.out k hlt
      have HC := Lib.hid (cmpF_at hlt HJ.out)
      obtain ⟨x, hx⟩ : ∃ x, x = nth a k := ⟨_, rfl⟩
      obtain ⟨y, hy⟩ : ∃ y, y = nth b k := ⟨_, rfl⟩
      have HX := Lib.hid hx
      have HY := Lib.hid hy
      rw [← hx] at x1
      rw [← hy] at y1
      rw [← hx, ← hy] at HC
      clear hx hy
      by_cases h1 : x < y
      · have HE : Hid (-1 = r) := by rw [← HR.out, HC.out, if_pos h1]; rfl
        have HM := Lib.hid (cmp8_is (v := -1) (if_pos h1) w)
        clear h1
        go_wp2_with (go_at_call 79; refine HM.out.mono ?_; rintro e w' ⟨rfl, rfl⟩)
        go_ret
        exact ⟨by rw [← HE.out]; rfl, rfl⟩
      · by_cases h2 : y < x
        · have HE : Hid (1 = r) := by rw [← HR.out, HC.out, if_neg h1, if_pos h2]; rfl
          have HM := Lib.hid (cmp8_is (v := 1) (by rw [if_neg h1, if_pos h2]) w)
          clear h1 h2
          go_wp2_with (go_at_call 79; refine HM.out.mono ?_; rintro e w' ⟨rfl, rfl⟩)
          go_ret
          exact ⟨by rw [← HE.out]; rfl, rfl⟩
        · have HJn : Hid (∀ j, j < k + 1 → nth a j = nth b j) := fun j hj => by
            by_cases e : j = k
            · rw [e, ← HX.out, ← HY.out]; omega
            · exact HJ.out j (by omega)
          have HM := Lib.hid (cmp8_is (v := 0) (by rw [if_neg h1, if_neg h2]) w)
          clear h1 h2
          go_wp2_with (go_at_call 79; refine HM.out.mono ?_; rintro e w' ⟨rfl, rfl⟩)
          go_roundw
          case rel => exact ⟨k + 1, by omega, by go_num, HJn, by first | rfl | trivial⟩
          case measure => simp [intOf]; omega
    · have hi1 : ¬ (k : Int) < 13 := by omega
      have HE : Hid (0 = r) := by rw [← HR.out, cmpF_end (fun j hj => HJ.out j (by omega))]; rfl
      go_wp2
      go_ret
      exact ⟨by rw [← HE.out]; rfl, rfl⟩

end
end Go.Proofs.Ytihaajcmephlmaa
namespace Go.Proofs.Ytihaajcmephlmaa
section
open Go.RowKit

theorem tri_any {w : World} {g : Nat} {T : TypeId} {a b c : Value} (h : Box3 w g T a b c) {w' : World} (hb : w'.heap[g]? = w.heap[g]?) : Box3 w' g T a b c := h.of_block hb
theorem Box3.set0 {w : World} {g : Nat} {T : TypeId} {a b c : Value} (h : Box3 w g T a b c) (x : Value) : Box3 (w.setCell ⟨g, 0, none⟩ x) g T x b c :=
  World.rowIs.congr (h.set 0 x) fun i hi => by
    by_cases h : i = 0 <;> simp [tri, h]
theorem Box3.set1 {w : World} {g : Nat} {T : TypeId} {a b c : Value} (h : Box3 w g T a b c) (x : Value) : Box3 (w.setCell ⟨g, 1, none⟩ x) g T a x c :=
  World.rowIs.congr (h.set 1 x) fun i hi => by
    have h3 : i = 0 ∨ i = 1 ∨ i = 2 := by omega
    rcases h3 with rfl | rfl | rfl <;> simp [tri]
theorem Box3.set2 {w : World} {g : Nat} {T : TypeId} {a b c : Value} (h : Box3 w g T a b c) (x : Value) : Box3 (w.setCell ⟨g, 2, none⟩ x) g T a b x :=
  World.rowIs.congr (h.set 2 x) fun i hi => by
    have h3 : i = 0 ∨ i = 1 ∨ i = 2 := by omega
    rcases h3 with rfl | rfl | rfl <;> simp [tri]
theorem Box3.frozen {w : World} {g : Nat} {T : TypeId} {a b c : Value} (h : Box3 w g T a b c) (i : Nat) : w.frozen? ⟨g, i, none⟩ = false := World.rowIs.frozen h i
theorem Box3.other {w : World} {g : Nat} {T : TypeId} {a b c : Value} (h : Box3 w g T a b c) {p : Addr} (hp : g ≠ p.block) (x : Value) : Box3 (w.setCell p x) g T a b c := World.rowIs.setOther h hp x
theorem Box3.alloc {w : World} {g : Nat} {T : TypeId} {a b c : Value} (h : Box3 w g T a b c) (o : Obj) : Box3 (w.alloc o) g T a b c := h.below (below1 w o)
theorem Box3.new_at {w : World} {g : Nat} (hg : g = w.heap.size) (T : TypeId) (a b c : Value) : Box3 (w.alloc (.cells #[a, b, c] T)) g T a b c := by subst hg; exact Box3.new _ _ _ _ _

theorem Box3.only {w w' : World} {g : Nat} {t : TypeId} {a b c : Value} {S : Nat → Prop} (h : Box3 w g t a b c) (hk : Only S w w') (hs : ¬ S g) : Box3 w' g t a b c := rowIs_only h hk hs
theorem Box3.not_own {w : World} {g : Nat} {t e : TypeId} {a b c x : Value} {B size n : Nat} {xs : List Value} (h : Box3 w g t a b c) (ho : w.ownsRow B e size x n xs) (hte : e ≠ t) : x.ownBlock ≠ some g := rowIs_not_own h ho hte

set_option maxHeartbeats 2000000 in
theorem markGameA_is {w : World} {B D : Nat} {vo vn : Value} {V : Nat → Value} {O : List Int} {zss : List (List Int)} {k r : Int} (hr : k + O.length + sumLen zss zss.length = r) (h2 : OwnInts w B D vo O) (h3 : OwnRows w B D vn V zss) (h5 : ∀ i, i < zss.length → ∀ g, (V i).ownBlock = some g → vo.ownBlock ≠ some g) (h0 : 0 ≤ k) (h1 : k ≤ 1073741824) (hs : sizeArena O zss ≤ 1048576) :
    Calls Try.prog 56 #[.agg #[vo, vn], .int .i64 k] w fun e w' => e = .returned (.int .i64 r) ∧ OwnInts w' B D vo (marks k O.length) ∧ OwnRows w' B D vn V (markRows (k + O.length) zss) ∧
      Only (fun b => vo.ownBlock = some b ∨ ∃ i, i < zss.length ∧ (V i).ownBlock = some b) w w' := by
  subst hr
  unfold sizeArena at hs
  obtain ⟨a, cap, rfl, hI, _⟩ := h2.shape
  obtain ⟨a', cap', rfl, hR, _⟩ := h3.shape
  have HV := Lib.hid h5
  have HI := Lib.hid h2
  have HR := Lib.hid h3
  clear h2 h3 h5 hI hR
  go_enter Try.func56, Try.ntmps56
  go_wp2_with fail
  refine (markInt64S_is (HI.out.below (below1 _ _)) k h0 (by omega)).mono ?_
  rintro e w1 ⟨rfl, g1, g2⟩
  have g2' := (Only.of_below (S := fun b => (Value.slice a O.length cap).ownBlock = some b) (below1 w (.cells #[.slice a O.length cap, .slice a' zss.length cap'] 30))).trans g2
  have hb0 : Box2 w1 w.heap.size 30 (.slice a O.length cap) (.slice a' zss.length cap') := by
    refine (g2.block _ (by simp) (fun hb => ?_)).trans (Box2.new w _ _ _)
    have := (HI.out.own.lt _ hb).2
    omega
  have hR1 : OwnRows w1 B D (.slice a' zss.length cap') V zss := (HR.out.below (below1 w _)).only g2 (own_types HR.out.own HI.out.own) (fun k hk g hg => HV.out k hk g hg)
  have HB := Lib.hid g2'
  have H1 := Lib.hid g1
  have HR1 := Lib.hid hR1
  have c0 := hb0.cell0
  have c1 := hb0.cell1
  clear g1 g2 g2' hb0 hR1
  go_wp2_with fail
  refine (markInt64SS_is HR1.out (k + O.length) (by omega) (by omega) (by omega)).mono ?_
  rintro e w2 ⟨rfl, g1, g2⟩
  have hfin : Hid (OwnInts w2 B D (.slice a O.length cap) (marks k O.length) ∧ OwnRows w2 B D (.slice a' zss.length cap') V (markRows (k + O.length) zss)) :=
    ⟨H1.out.only g2 (fun g hg ⟨i, hi, hg'⟩ => HV.out i hi g hg' hg), g1⟩
  have hB2 : Hid (Only (fun b => (Value.slice a O.length cap).ownBlock = some b ∨ ∃ i, i < zss.length ∧ (V i).ownBlock = some b) w w2) := (HB.out.mono fun b hb => .inl hb).trans (g2.mono fun b ⟨i, hi, hb⟩ => .inr ⟨i, hi, hb⟩)
  clear g1 g2
  go_wp2
  go_ret
  exact ⟨rfl, hfin.out.1, hfin.out.2, hB2.out⟩

/-- How many places a game takes. -/
def sizeGame (O : List Int) (zss : List (List Int)) (P : List Int) : Nat := sizeArena O zss + P.length

set_option maxHeartbeats 4000000 in
theorem szGame_at {w : World} {v : Value} {O : List Int} {zss : List (List Int)} {P : List Int} {left r : Int} (hr : leftOf left (sizeGame O zss P) = r) (h : GameAt w v O zss P) (h0 : 0 ≤ left) (h1 : left ≤ 1048576) :
    Calls Try.prog 16 #[v, .int .i64 left] w fun e w' => e = .returned (.int .i64 r) ∧ Below w.heap.size w w' := by
  obtain ⟨ao, an, ap, co, cn, cp, A, C, rfl, hO, hN, hP⟩ := h
  have hlP := hP.len
  obtain ⟨w1, hw1⟩ : ∃ y, y = w.alloc (.cells #[.slice ao O.length co, .slice an zss.length cn, .slice ap P.length cp] 42) := ⟨_, rfl⟩
  have HW1 := Lib.hid hw1
  have B1 : Hid (Below w.heap.size w w1) := by rw [hw1]; exact below1 _ _
  have T1 : Hid (Box3 w1 w.heap.size 42 (.slice ao O.length co) (.slice an zss.length cn) (.slice ap P.length cp)) := by rw [hw1]; exact Box3.new _ _ _ _ _
  obtain ⟨m, hm⟩ : ∃ m, leftOf left (sizeArena O zss) = m := ⟨_, rfl⟩
  have HA : Hid (ArenaAt w (.agg #[.slice ao O.length co, .slice an zss.length cn]) O zss) := ⟨_, _, _, _, _, _, rfl, hO, hN⟩
  have HC := Lib.hid (szArena_at hm (HA.out.below B1.out) h0 h1)
  clear hw1 hO hN hP
  by_cases hlt : left < sizeArena O zss
  · have hm1 : m = -1 := by rw [← hm]; exact leftOf_no hlt
    have HE : Hid (r = -1) := by rw [← hr]; exact leftOf_no (by unfold sizeGame; omega)
    have hneg : m < 0 := by omega
    clear hm hr hlt hm1
    go_enter Try.func16, Try.ntmps16
    go_wp2_with fail
    rw [← HW1.out]
    refine HC.out.mono ?_
    rintro e w2 ⟨rfl, hb⟩
    have B2 := Lib.hid (B1.out.trans (hb.mono B1.out.size))
    clear hb HC
    go_wp2
    go_ret
    exact ⟨ret_i64 HE.out.symm, B2.out⟩
  · have hm1 : m = left - sizeArena O zss := by rw [← hm]; exact leftOf_yes (by omega)
    have hm0 : ¬ m < 0 := by omega
    have hr2 : leftOf m P.length = r := by
      rw [← hr]; unfold leftOf sizeGame
      by_cases h : m < P.length
      · rw [if_pos h, if_pos (by omega)]
      · rw [if_neg h, if_neg (by omega)]; omega
    have HZ := Lib.hid (fun W => szInt64S_any ap P.length cp m W hlP (by omega) (by omega))
    rw [hr2] at HZ
    have HR2 := Lib.hid hr2
    have hm00 : 0 ≤ m := by omega
    clear hm hr hlt hm1 hr2
    go_enter Try.func16, Try.ntmps16
    go_wp2_with fail
    rw [← HW1.out]
    refine HC.out.mono ?_
    rintro e w2 ⟨rfl, hb⟩
    have B2 := Lib.hid (B1.out.trans (hb.mono B1.out.size))
    have T2 := Lib.hid (T1.out.below hb)
    clear hb HC
    have t2 := T2.out.c2
    go_wp2_with fail
    refine (HZ.out _).mono ?_
    rintro e w3 ⟨rfl, rfl⟩
    by_cases hs : r < 0
    · have HE : Hid (r = -1) := by
        have := HR2.out
        unfold leftOf at this
        simp only [Hid]
        split at this <;> omega
      go_wp2
      go_ret
      exact ⟨ret_i64 HE.out.symm, B2.out⟩
    · go_wp2
      go_ret
      exact ⟨rfl, B2.out⟩

set_option maxHeartbeats 4000000 in
theorem eqGame_at {w : World} {v v' : Value} {O : List Int} {zss : List (List Int)} {P : List Int} (h : GameAt w v O zss P) (h' : GameAt w v' O zss P) :
    Calls Try.prog 20 #[v, v'] w fun e w' => e = .returned (.bool true) ∧ Below w.heap.size w w' := by
  obtain ⟨ao, an, ap, co, cn, cp, A, C, rfl, h1, h2, h3⟩ := h
  obtain ⟨bo, bn, bp, do', dn, dp, A', C', rfl, g1, g2, g3⟩ := h'
  obtain ⟨w0, hw0⟩ : ∃ y, y = w.alloc (.cells #[.slice ao O.length co, .slice an zss.length cn, .slice ap P.length cp] 32) := ⟨_, rfl⟩
  have hs0 : w0.heap.size = w.heap.size + 1 := by rw [hw0]; simp
  obtain ⟨w1, hw1⟩ : ∃ y, y = w0.alloc (.cells #[.slice bo O.length do', .slice bn zss.length dn, .slice bp P.length dp] 32) := ⟨_, rfl⟩
  have HW0 := Lib.hid hw0
  have HW1 := Lib.hid hw1
  have hb0 : Below w.heap.size w w0 := by rw [hw0]; exact below1 _ _
  have hb1 : Below w0.heap.size w0 w1 := by rw [hw1]; exact below1 _ _
  have B1 : Hid (Below w.heap.size w w1) := hb0.trans (hb1.mono (by omega))
  have Ta1 : Hid (Box3 w1 w.heap.size 32 (.slice ao O.length co) (.slice an zss.length cn) (.slice ap P.length cp)) := Box3.below (by rw [hw0]; exact Box3.new _ _ _ _ _) hb1
  have Tb1 : Hid (Box3 w1 (w.heap.size + 1) 32 (.slice bo O.length do') (.slice bn zss.length dn) (.slice bp P.length dp)) := by rw [← hs0, hw1]; exact Box3.new _ _ _ _ _
  have HC := Lib.hid (eqArena_at (show ArenaAt w1 (.agg #[.slice ao O.length co, .slice an zss.length cn]) O zss from ⟨_, _, _, _, _, _, rfl, h1.below B1.out, h2.below B1.out⟩) (show ArenaAt w1 (.agg #[.slice bo O.length do', .slice bn zss.length dn]) O zss from ⟨_, _, _, _, _, _, rfl, g1.below B1.out, g2.below B1.out⟩))
  have HPa : Hid (IntsV w (.slice ap P.length cp) P) := ⟨_, _, rfl, h3⟩
  have HPb : Hid (IntsV w (.slice bp P.length dp) P) := ⟨_, _, rfl, g3⟩
  clear hw0 hw1 hb0 hb1 hs0 h1 h2 h3 g1 g2 g3
  go_enter Try.func20, Try.ntmps20
  go_wp2_with fail
  rw [← HW0.out, ← HW1.out]
  refine HC.out.mono ?_
  rintro e w2 ⟨rfl, hb⟩
  have B2 := Lib.hid (B1.out.trans (hb.mono B1.out.size))
  have Ta2 := Lib.hid (Ta1.out.below hb)
  have Tb2 := Lib.hid (Tb1.out.below hb)
  clear hb HC
  have ta2 := Ta2.out.c2
  have tb2 := Tb2.out.c2
  go_wp2_with fail
  refine (eqInts_at (HPa.out.below B2.out) (HPb.out.below B2.out)).mono ?_
  rintro e w3 ⟨rfl, hb⟩
  have B3 := Lib.hid (B2.out.trans (hb.mono B2.out.size))
  clear hb
  go_wp2
  go_ret
  exact ⟨rfl, B3.out⟩

set_option maxHeartbeats 4000000 in
theorem markGame_at {w : World} {B D : Nat} {v : Value} {O : List Int} {zss : List (List Int)} {P : List Int} {k r : Int} (hr : k + O.length + sumLen zss zss.length + P.length = r) (h : OwnGame w B D v O zss P) (h0 : 0 ≤ k) (h1 : k ≤ 1073741824) (hs : sizeGame O zss P ≤ 1048576) :
    Calls Try.prog 26 #[v, .int .i64 k] w fun e w' => e = .returned (.int .i64 r) ∧
      OwnGame w' B D v (marks k O.length) (markRows (k + O.length) zss) (marks (k + O.length + sumLen zss zss.length) P.length) ∧ Only (fun b => B ≤ b ∧ b < D) w w' := by
  unfold sizeGame at hs
  have hsA : sizeArena O zss ≤ 1048576 := by omega
  have hsP : P.length ≤ 1048576 := by omega
  have hA0 := hsA
  unfold sizeArena at hA0
  obtain ⟨m, hm⟩ : ∃ m : Int, k + O.length + sumLen zss zss.length = m := ⟨_, rfl⟩
  have hm0 : 0 ≤ m := by omega
  have hm1 : m ≤ 1152921504606846976 := by omega
  have HM := Lib.hid hm
  rw [hm] at hr ⊢
  have HR := Lib.hid hr
  obtain ⟨vo, vn, vp, V, rfl, h2, h3, h4, h5, h6, h7⟩ := h
  obtain ⟨a, cap, rfl, hI, _⟩ := h2.shape
  obtain ⟨a', cap', rfl, hRo, _⟩ := h3.shape
  obtain ⟨a'', cap'', rfl, hPp, _⟩ := h4.shape
  obtain ⟨w1, hw1⟩ : ∃ y, y = w.alloc (.cells #[.slice a O.length cap, .slice a' zss.length cap', .slice a'' P.length cap''] 32) := ⟨_, rfl⟩
  have HW1 := Lib.hid hw1
  have hb1 : Below w.heap.size w w1 := by rw [hw1]; exact below1 _ _
  have T1 : Hid (Box3 w1 w.heap.size 32 (.slice a O.length cap) (.slice a' zss.length cap') (.slice a'' P.length cap'')) := by rw [hw1]; exact Box3.new _ _ _ _ _
  have HAo : Hid (OwnArena w1 B D (.agg #[.slice a O.length cap, .slice a' zss.length cap']) O zss) := ⟨_, _, V, rfl, h2.below hb1, h3.below hb1, h5⟩
  have HO := Lib.hid (h2.below hb1)
  have HRs := Lib.hid (h3.below hb1)
  have HP := Lib.hid (h4.below hb1)
  have H5 := Lib.hid h5
  have H6 := Lib.hid h6
  have H7 := Lib.hid h7
  have B1 := Lib.hid hb1
  have hlt : ∀ g, B ≤ g → g < D → g < w.heap.size ∨ D ≤ w.heap.size ∨ True := fun _ _ _ => .inr (.inr trivial)
  clear h2 h3 h4 h5 h6 h7 hI hRo hPp hw1 hb1 hr hm hlt
  -- the three slices of the game are marked in turn: each of them apart
  have hHA := HAo.out
  obtain ⟨vo', vn', V', hv', q1, q2, q3⟩ := hHA
  clear hv' q1 q2 q3 V' vo' vn'
  go_enter Try.func26, Try.ntmps26
  go_wp2_with fail
  rw [← HW1.out]
  refine (markGameA_is HM.out HO.out HRs.out H5.out h0 h1 hsA).mono ?_
  rintro e w2 ⟨rfl, g1, g2, g3⟩
  have T2 := Lib.hid (World.rowIs.of_block T1.out (g3.block _ (World.rowIs.lt T1.out) (fun hb => by
    rcases hb with hb | ⟨i, hi, hb⟩
    · have := HO.out.own.lt _ hb
      exact T1.out.not_own HO.out.own (by decide) hb
    · exact T1.out.not_own (HRs.out.rows i hi).own (by decide) hb)))
  have HP2 := Lib.hid (HP.out.only g3 (fun g hg hb => by
    rcases hb with hb | ⟨i, hi, hb⟩
    · exact H7.out g hb hg
    · exact H6.out i hi g hb hg))
  have K2 := Lib.hid g3
  have G1 := Lib.hid g1
  have G2 := Lib.hid g2
  clear g1 g2 g3
  have t2 := Box3.c2 T2.out
  go_wp2_with fail
  refine (markInt64S_is HP2.out m hm0 hm1).mono ?_
  rintro e w3 ⟨rfl, g1, g2⟩
  have hfin : Hid (OwnGame w3 B D (.agg #[.slice a O.length cap, .slice a' zss.length cap', .slice a'' P.length cap'']) (marks k O.length) (markRows (k + O.length) zss) (marks m P.length)) :=
    ⟨_, _, _, V, rfl, G1.out.only g2 (fun g hg hb => H7.out g hg hb), G2.out.only g2 (fun g hg hb => own_types G2.out.own HP2.out.own g hg hb) (fun i hi g hg hb => H6.out i (by rw [markRows_len] at hi; exact hi) g hg hb), g1, fun i hi => H5.out i (by rw [markRows_len] at hi; exact hi), fun i hi => H6.out i (by rw [markRows_len] at hi; exact hi), H7.out⟩
  have hO3 : Hid (Only (fun b => B ≤ b ∧ b < D) w w3) := (Only.of_below B1.out).trans ((K2.out.mono fun b hb => by
    rcases hb with hb | ⟨i, hi, hb⟩
    · exact ⟨(HO.out.own.lt b hb).1, HO.out.top b hb⟩
    · exact ⟨((HRs.out.rows i hi).own.lt b hb).1, (HRs.out.rows i hi).top b hb⟩).trans (g2.mono fun b hb => ⟨(HP2.out.own.lt b hb).1, HP2.out.top b hb⟩))
  have HR3 : Hid (m + P.length = r) := HR.out
  clear g1 g2
  go_wp2
  go_ret
  exact ⟨ret_i64 HR3.out, hfin.out, hO3.out⟩

set_option maxHeartbeats 4000000 in
set_option maxRecDepth 100000 in
theorem toGame_at {w : World} {v : Value} {O : List Int} {zss : List (List Int)} {P : List Int} (h : GameAt w v O zss P) (hn : zss.length ≤ 1048576) :
    Calls Try.prog 18 #[v] w (GivesGame w O zss P) := by
  obtain ⟨ao, an, ap, co, cn, cp, A, C, rfl, hO, hN, hP⟩ := h
  obtain ⟨w1, hw1⟩ : ∃ y, y = ((w.alloc (.cells #[.slice ao O.length co, .slice an zss.length cn, .slice ap P.length cp] 42)).alloc (.cells #[.slice none 0 0, .slice none 0 0, .slice none 0 0] 32)).alloc (.cells #[.slice none 0 0, .slice none 0 0, .slice none 0 0] 32) := ⟨_, rfl⟩
  have HW1 := Lib.hid hw1
  have hs1 : w1.heap.size = w.heap.size + 1 + 1 + 1 := by rw [hw1]; simp
  have HS1 := Lib.hid hs1
  have B1 : Hid (Below w.heap.size w w1) := by rw [hw1]; exact (below2 _ _ _).alloc (by simp; omega) _
  have T1 : Hid (Box3 w1 w.heap.size 42 (.slice ao O.length co) (.slice an zss.length cn) (.slice ap P.length cp)) := by rw [hw1]; exact ((Box3.new w _ _ _ _).alloc _).alloc _
  have R1 : Hid (Box3 w1 (w.heap.size + 1) 32 (.slice none 0 0) (.slice none 0 0) (.slice none 0 0)) := by rw [hw1]; exact (Box3.new_at (by simp) _ _ _ _).alloc _
  have U1 : Hid (Box3 w1 (w.heap.size + 1 + 1) 32 (.slice none 0 0) (.slice none 0 0) (.slice none 0 0)) := by rw [hw1]; exact Box3.new_at (by simp) _ _ _ _
  have HA : Hid (ArenaAt w (.agg #[.slice ao O.length co, .slice an zss.length cn]) O zss) := ⟨_, _, _, _, _, _, rfl, hO, hN⟩
  have HPv : Hid (IntsV w (.slice ap P.length cp) P) := ⟨_, _, rfl, hP⟩
  have HC := Lib.hid (toArena_at (HA.out.below B1.out) hn)
  clear hw1 hs1 hO hN hP
  go_enter Try.func18, Try.ntmps18
  go_wp2_with fail
  rw [← HW1.out]
  refine HC.out.mono ?_
  rintro e w2 ⟨rfl, hc, -⟩
  obtain ⟨b0, hs0⟩ : ∃ s, s = w1.heap.size + 3 := ⟨_, rfl⟩
  obtain ⟨b1, hs1⟩ : ∃ s, s = w1.heap.size + 4 := ⟨_, rfl⟩
  have G2 := Lib.hid (hc.owned (HA.out.below B1.out))
  rw [← hs0, ← hs1] at G2 ⊢
  have B2 := Lib.hid (B1.out.trans (hc.below.mono B1.out.size))
  have T2 := Lib.hid (T1.out.below hc.below)
  have R2 := Lib.hid (R1.out.below hc.below)
  have U2 := Lib.hid (U1.out.below hc.below)
  have hsz2 := hc.size
  have HS2 := Lib.hid hsz2
  clear hc HC hs0 hs1 hsz2
  have t0 := T2.out.c0
  have t1 := T2.out.c1
  have t2 := T2.out.c2
  have u0 := U2.out.c0
  have u1 := U2.out.c1
  have fu0 := U2.out.frozen 0
  have fu1 := U2.out.frozen 1
  go_wp2_with fail
  obtain ⟨w3, hw3⟩ : ∃ y, y = (w2.setCell ⟨w.heap.size + 1 + 1, 0, none⟩ (.slice (some ⟨b0, 0, none⟩) O.length O.length)).setCell ⟨w.heap.size + 1 + 1, 1, none⟩ (.slice (some ⟨b1, 0, none⟩) zss.length zss.length) := ⟨_, rfl⟩
  have HW3 := Lib.hid hw3
  have hO3 : Only (fun b => b = w.heap.size + 1 + 1) w2 w3 := by rw [hw3]; exact ((Only.refl (fun b => b = w.heap.size + 1 + 1) w2).setCell (p := ⟨w.heap.size + 1 + 1, 0, none⟩) rfl _).setCell (p := ⟨w.heap.size + 1 + 1, 1, none⟩) rfl _
  have hs3 : w3.heap.size = w2.heap.size := by rw [hw3]; simp
  have HS3 := Lib.hid hs3
  have B3 := Lib.hid (B2.out.trans (hO3.below (B := w.heap.size) B2.out.size (fun b hb => by omega)))
  have U3 : Hid (Box3 w3 (w.heap.size + 1 + 1) 32 (.slice (some ⟨b0, 0, none⟩) O.length O.length) (.slice (some ⟨b1, 0, none⟩) zss.length zss.length) (.slice none 0 0)) := by rw [hw3]; exact (U2.out.set0 (.slice (some ⟨b0, 0, none⟩) O.length O.length)).set1 (.slice (some ⟨b1, 0, none⟩) zss.length zss.length)
  have R3 : Hid (Box3 w3 (w.heap.size + 1) 32 (.slice none 0 0) (.slice none 0 0) (.slice none 0 0)) := rowIs_only R2.out hO3 (by omega)
  have G3 : Hid (OwnArena w3 w1.heap.size w2.heap.size (.agg #[(.slice (some ⟨b0, 0, none⟩) O.length O.length), (.slice (some ⟨b1, 0, none⟩) zss.length zss.length)]) O zss) := G2.out.only hO3 (fun g hg _ hb => by have := HS1.out; omega)
  rw [← HW3.out]
  clear hw3 hO3 hs3 t0 t1 t2 u0 u1 fu0 fu1
  refine (toInts_at (HPv.out.below B3.out)).mono ?_
  rintro e w4 ⟨u, rfl, hu, hb⟩
  obtain ⟨ua, uc, hus, _, _⟩ := hu.shape
  subst hus
  have B4 := Lib.hid (B3.out.trans (hb.mono B3.out.size))
  have U4 := Lib.hid (U3.out.below hb)
  have R4 := Lib.hid (R3.out.below hb)
  have G4 := Lib.hid (G3.out.below hb)
  have P4 := Lib.hid hu
  have hsz4 := hb.size
  have HS4 := Lib.hid hsz4
  clear hu hb hsz4
  have u2 := U4.out.c2
  have fu2 := U4.out.frozen 2
  have U5 := Lib.hid (U4.out.set2 (.slice ua P.length uc))
  have R5 := Lib.hid (R4.out.other (p := ⟨w.heap.size + 1 + 1, 2, none⟩) (by show w.heap.size + 1 ≠ w.heap.size + 1 + 1; omega) (.slice ua P.length uc))
  have v0 := U5.out.c0
  have v1 := U5.out.c1
  have v2 := U5.out.c2
  have r0 := R5.out.c0
  have r1 := R5.out.c1
  have r2 := R5.out.c2
  have f0 := R5.out.frozen 0
  have f1 := R5.out.frozen 1
  have f2 := R5.out.frozen 2
  go_wp2_with fail
  have R6 := Lib.hid (((R5.out.set0 (.slice (some ⟨b0, 0, none⟩) O.length O.length)).set1 (.slice (some ⟨b1, 0, none⟩) zss.length zss.length)).set2 (.slice ua P.length uc))
  have d0 := R6.out.c0
  have d1 := R6.out.c1
  have d2 := R6.out.c2
  obtain ⟨w6, hw6⟩ : ∃ y, y = (((w4.setCell ⟨w.heap.size + 1 + 1, 2, none⟩ (.slice ua P.length uc)).setCell ⟨w.heap.size + 1, 0, none⟩ (.slice (some ⟨b0, 0, none⟩) O.length O.length)).setCell ⟨w.heap.size + 1, 1, none⟩ (.slice (some ⟨b1, 0, none⟩) zss.length zss.length)).setCell ⟨w.heap.size + 1, 2, none⟩ (.slice ua P.length uc) := ⟨_, rfl⟩
  have hO6 : Only (fun b => b = w.heap.size + 1 ∨ b = w.heap.size + 1 + 1) w4 w6 := by
    rw [hw6]
    exact ((((Only.refl _ w4).setCell (p := ⟨w.heap.size + 1 + 1, 2, none⟩) (.inr rfl) _).setCell (p := ⟨w.heap.size + 1, 0, none⟩) (.inl rfl) _).setCell (p := ⟨w.heap.size + 1, 1, none⟩) (.inl rfl) _).setCell (p := ⟨w.heap.size + 1, 2, none⟩) (.inl rfl) _
  have hfin : Hid (OwnGame w6 w.heap.size w6.heap.size (.agg #[(.slice (some ⟨b0, 0, none⟩) O.length O.length), (.slice (some ⟨b1, 0, none⟩) zss.length zss.length), (.slice ua P.length uc)]) O zss P ∧ Below w.heap.size w w6) := by
    have e1 := HS1.out
    have e2 := HS2.out
    have e3 := HS3.out
    have e4 := HS4.out
    refine ⟨OwnGame.retop (D := w4.heap.size) (OwnGame.of_parts (M := w3.heap.size) ?_ ?_ (by omega) (by omega)), B4.out.trans (hO6.below (B := w.heap.size) B4.out.size (fun b hb => by omega))⟩
    · have h := G4.out.only hO6 (fun g hg _ hb => by omega)
      obtain ⟨vo, vn, V, hv, k1, k2, k3⟩ := h
      rw [← e3] at k1 k2
      exact ⟨vo, vn, V, hv, k1.base (by omega), k2.base (by omega), k3⟩
    · exact P4.out.only hO6 (fun g hg hb => by have := (P4.out.own.lt g hg).1; omega)
  rw [← hw6] at d0 d1 d2 ⊢
  clear hw6 hO6
  exact bodyPost_ret (v := .agg #[(.slice (some ⟨b0, 0, none⟩) O.length O.length), (.slice (some ⟨b1, 0, none⟩) zss.length zss.length), (.slice ua P.length uc)]) (by simp [results, Try.results18, go_sem, d0, d1, d2]) rfl ⟨_, rfl, hfin.out⟩
end

section
open Go.RowKit

theorem flip_size {O P : List Int} {zss : List (List Int)} (h : sizeGame O zss P ≤ 1048576) : sizeGame (flipO O zss P) (flipN O zss P) (flipP O zss P) ≤ 1048576 := by
  unfold flipO flipN flipP
  cases flipB O zss P with
  | false => simp [sizeGame, sizeArena, sumLen]
  | true =>
    simp only [if_true]
    unfold sizeGame sizeArena at h ⊢
    rw [turnO_len, moreP_len]; exact h
theorem press_size {O P : List Int} {zss : List (List Int)} (h : sizeGame O zss P ≤ 1048576) : sizeGame (pressO O zss P) (pressN O zss P) (pressV O zss P) ≤ 1048576 := by
  unfold pressO pressN pressV
  cases parityB O zss P with
  | false => simp [sizeGame, sizeArena, sumLen]
  | true =>
    simp only [if_true]
    unfold sizeGame sizeArena at h ⊢
    rw [pressL_len]; exact h
theorem sumLen_caps {zss : List (List Int)} {c : Nat} (h : ∀ i, i < zss.length → (row zss i).length ≤ c) : ∀ k, k ≤ zss.length → sumLen zss k ≤ c * k
  | 0, _ => by simp [sumLen]
  | k + 1, hk => by
    have h1 := sumLen_caps h k (by omega)
    have h2 := h k (by omega)
    simp only [sumLen, Nat.mul_succ]
    omega
theorem sub_size {O P S : List Int} {zss : List (List Int)} : sizeGame (subO O zss P S) (subN O zss P S) (subP O zss P S) ≤ 1048576 := by
  unfold subO subN subP
  cases hb : subB O zss P S with
  | false => simp [sizeGame, sizeArena, sumLen]
  | true =>
    simp only [if_true]
    unfold subB at hb
    rw [Bool.and_eq_true] at hb
    have hi : InsideP O zss S := by simpa [insideB] using hb.2
    rw [(inside_yes hi).1, (inside_yes hi).2.1]
    obtain ⟨hP, hB, _, _⟩ := hi
    have hl : (S.length : Int) ≤ (O.length : Int) := setB_len (Int.natCast_nonneg _) hB
    have hO := hP.2.1
    have hs := sumLen_caps (zss := inNK S zss S.length) (c := 16) (fun i hi => by
      rw [inNK_len] at hi
      obtain ⟨h0, h1, _⟩ := setB_bounds hB hi
      have h16 := (hP.2.2.2 (nth S i).toNat (by omega)).2.2.1
      have hr : row (inNK S zss S.length) i = inRow S zss i := by simp [row, inNK, hi]
      rw [hr]
      exact Nat.le_trans (places_len _ _ _) h16) _ (Nat.le_refl _)
    rw [inNK_len] at hs
    unfold sizeGame sizeArena
    rw [inOK_len, inNK_len, pickP_len]
    omega
end

end Go.Proofs.Ytihaajcmephlmaa
namespace Go.Proofs.Ytihaajcmephlmaa
open Go.RowKit

/-- A struct of two slices that reads as a play. -/
def LassoAt (w : World) (v : Value) (X Y : List Int) : Prop :=
  ∃ ax ay cx cy, v = .agg #[.slice ax X.length cx, .slice ay Y.length cy] ∧ IntsAt w ax X ∧ IntsAt w ay Y
theorem LassoAt.below {w w' : World} {v : Value} {X Y : List Int} (h : LassoAt w v X Y) (hb : Below w.heap.size w w') : LassoAt w' v X Y := by
  obtain ⟨ax, ay, cx, cy, hv, h1, h2⟩ := h
  exact ⟨ax, ay, cx, cy, hv, h1.below hb, h2.below hb⟩

/-- The struct v owns a play. -/
def OwnLasso (w : World) (B D : Nat) (v : Value) (X Y : List Int) : Prop :=
  ∃ vx vy, v = .agg #[vx, vy] ∧ OwnInts w B D vx X ∧ OwnInts w B D vy Y ∧ ∀ g, vx.ownBlock = some g → vy.ownBlock ≠ some g

section
variable {w w' : World} {B B' D : Nat} {v : Value} {X Y : List Int}
theorem OwnLasso.at (h : OwnLasso w B D v X Y) : LassoAt w v X Y := by
  obtain ⟨vx, vy, rfl, h1, h2, _⟩ := h
  obtain ⟨a, c, rfl, hi, _⟩ := h1.shape
  obtain ⟨b, d, rfl, hj, _⟩ := h2.shape
  exact ⟨_, _, _, _, rfl, hi, hj⟩
theorem OwnLasso.only {S : Nat → Prop} (h : OwnLasso w B D v X Y) (hk : Only S w w') (hs : ∀ g, B ≤ g → g < D → ¬ S g) : OwnLasso w' B D v X Y := by
  obtain ⟨vx, vy, hv, h1, h2, h3⟩ := h
  exact ⟨vx, vy, hv, h1.only hk (fun g hg => hs g (h1.own.lt g hg).1 (h1.top g hg)), h2.only hk (fun g hg => hs g (h2.own.lt g hg).1 (h2.top g hg)), h3⟩
theorem OwnLasso.below (h : OwnLasso w B D v X Y) (hb : Below w.heap.size w w') : OwnLasso w' B D v X Y := by
  obtain ⟨vx, vy, hv, h1, h2, h3⟩ := h
  exact ⟨vx, vy, hv, h1.below hb, h2.below hb, h3⟩
theorem OwnLasso.base (h : OwnLasso w B D v X Y) (hB : B' ≤ B) : OwnLasso w B' D v X Y := by
  obtain ⟨vx, vy, hv, h1, h2, h3⟩ := h
  exact ⟨vx, vy, hv, h1.base hB, h2.base hB, h3⟩
theorem OwnLasso.retop (h : OwnLasso w B D v X Y) : OwnLasso w B w.heap.size v X Y := by
  obtain ⟨vx, vy, hv, h1, h2, h3⟩ := h
  exact ⟨vx, vy, hv, h1.retop, h2.retop, h3⟩
theorem OwnLasso.zero (w : World) (B D : Nat) : OwnLasso w B D (.agg #[.slice none 0 0, .slice none 0 0]) [] [] :=
  ⟨_, _, rfl, OwnInts.nil _ _ _, OwnInts.nil _ _ _, fun g hg => by simp [Value.ownBlock] at hg⟩
theorem OwnLasso.shape (h : OwnLasso w B D v X Y) : ∃ a0 c0 a1 c1, v = .agg #[.slice a0 X.length c0, .slice a1 Y.length c1] := by
  obtain ⟨ax, ay, cx, cy, hv, _⟩ := h.at
  exact ⟨_, _, _, _, hv⟩
/-- Two slices of numbers of one's own, one made behind the other. -/
theorem OwnLasso.of_parts {vx vy : Value} {M : Nat} (h : OwnInts w B M vx X) (hp : OwnInts w M D vy Y) (hBM : B ≤ M) (hMD : M ≤ D) : OwnLasso w B D (.agg #[vx, vy]) X Y :=
  ⟨_, _, rfl, ⟨h.own, fun g hg => by have := h.top g hg; omega, h.len, h.fits⟩, hp.base hBM, fun g hg hh => by
    have := h.top g hg
    have := (hp.own.lt g hh).1
    omega⟩
end

/-- A call hands back a play of its own. -/
def GivesLasso (w : World) (X Y : List Int) (e : Ending) (w' : World) : Prop :=
  ∃ v, e = .returned v ∧ OwnLasso w' w.heap.size w'.heap.size v X Y ∧ Below w.heap.size w w'
/-- A call hands back a play of its own and a bool. -/
def GivesLassoB (w : World) (X Y : List Int) (r : Bool) (e : Ending) (w' : World) : Prop :=
  ∃ v, e = .returned (.tuple #[v, .bool r]) ∧ OwnLasso w' w.heap.size w'.heap.size v X Y ∧ Below w.heap.size w w'

theorem zero_stored2 {w wr : World} {r : Nat} (hb : Below w.heap.size w wr) (hr : w.heap.size ≤ r) : Below w.heap.size w ((wr.setCell ⟨r, 0, none⟩ (.slice none 0 0)).setCell ⟨r, 1, none⟩ (.slice none 0 0)) :=
  (hb.setCell (p := ⟨r, 0, none⟩) hr _).setCell (p := ⟨r, 1, none⟩) hr _

end Go.Proofs.Ytihaajcmephlmaa
namespace Go.Proofs.Ytihaajcmephlmaa
section
section
section
open Go.ChangeShapes Go.WideShapes Go.ChangeAt Go.RowKit Go.Deep

theorem cells_int : Try.prog.cellsOf 2 = 1 := by kernel_rfl
theorem cells_ints : Try.prog.cellsOf 27 = 1 := by kernel_rfl
theorem bytes_int : Try.prog.bytesOf 2 = 8 := by kernel_rfl
theorem bytes_ints : Try.prog.bytesOf 27 = 24 := by kernel_rfl

theorem fits_of_wf {n : Int} (h : (Lit.int .i64 n).wf = true) : Fits n := by
  have h1 : IntKind.i64.min = -9223372036854775808 := rfl
  have h2 : IntKind.i64.max = 9223372036854775807 := rfl
  simp only [Lit.wf, Bool.and_eq_true, decide_eq_true_eq] at h
  unfold Fits
  omega

theorem mem_weightsAll {H : Type} {P : Program} {e : TypeId} {d : DataW H} {n : Nat} : ∀ {l : List (DataW H)}, d ∈ l → n ∈ d.weights P e → n ∈ DataW.weightsAll P e l
  | [], h, _ => by cases h
  | x :: r, h, hn => by
    simp only [DataW.weightsAll, List.mem_append]
    rcases List.mem_cons.1 h with rfl | h
    · exact Or.inl hn
    · exact Or.inr (mem_weightsAll h hn)

section
variable {H : Type} {enc : TypeId × Value → H} {W : World}

theorem nil_ints (W : World) : IntsAt W none [] := ⟨by simp, fun k hk => absurd hk (by simp), fun h => absurd h (by simp)⟩

/-- One slice of numbers: its cells, its length, its bounds. -/
theorem ints_mk {a : Addr} {L cap : Nat} {Z : List Int} (hl : L ≤ cap) (hz : Z.length = cap) (hc : ∀ i, i < cap → W.cell? (a.add i) = some (.int .i64 (Z.getD i 0))) (hw : ∀ n ∈ Z, (Lit.int .i64 n).wf = true) (hb : cap * 8 ≤ reachBytes) :
    (Z.take L).length = L ∧ IntsAt W (some a) (Z.take L) := by
  have hlen : (Z.take L).length = L := by simp; omega
  have hnth : ∀ k, k < L → nth (Z.take L) k = Z.getD k 0 := fun k hk => by simp [nth, List.getD, hk]
  refine ⟨hlen, by rw [hlen]; have := reachBytes_lt; omega, fun k hk => ?_, fun h0 => ?_⟩
  · rw [hlen] at hk
    rw [hnth k hk]
    refine fits_of_wf (hw _ ?_)
    rw [show Z.getD k 0 = Z[k]'(by omega) from by simp [List.getD, show k < Z.length from by omega]]
    exact List.getElem_mem _
  · rw [hlen] at h0
    obtain ⟨b, off, spot⟩ := a
    have hs : spot = none := by simpa [Addr.add] using World.cell?_spot (hc 0 (by omega))
    subst hs
    refine ⟨b, off, rfl, fun k hk => ?_⟩
    rw [hlen] at hk
    have h := hc k (by omega)
    rw [hnth k hk, ← add_plain]
    exact h

theorem ints_of {fuel : Nat} {v : Value} {y : DataW H × List MemPlace} (h : DataW.trod enc Try.prog W 0 (fun _ => true) true fuel 27 [v] = some y) (hw : ∀ n ∈ y.1.weights Try.prog 27, n ≤ reachBytes) :
    ∃ a zs cap, v = .slice a zs.length cap ∧ IntsAt W a zs := by
  rcases open_ints Try.underlying27 Try.underlying2 cells_int h with ⟨hcs, _⟩ | ⟨a, len, cap, zs, hcs, _, hl, hm, hz, hx, hcell, hwz⟩
  · simp only [List.cons.injEq, and_true] at hcs
    exact ⟨none, [], 0, hcs, nil_ints W⟩
  · simp only [List.cons.injEq, and_true] at hcs
    simp only [if_true] at hz
    subst hx
    have hb := hw ((lits (H := H) .i64 (zs.take len)).length * 8 + (lits (H := H) .i64 (zs.drop len)).length * 8) (by simp [DataW.weights, Try.underlying27, bytes_int, Nat.add_mul])
    simp only [lits, List.length_map, List.length_take, List.length_drop] at hb
    obtain ⟨h1, h2⟩ := ints_mk hl hz (fun i hi => hcell i (by omega)) hwz (by omega)
    exact ⟨some a, _, cap, by rw [hcs, h1], h2⟩

theorem rows_of {fuel : Nat} {v : Value} {y : DataW H × List MemPlace} (h : DataW.trod enc Try.prog W 0 (fun _ => true) true fuel 28 [v] = some y) (hw : ∀ n ∈ y.1.weights Try.prog 28, n ≤ reachBytes) :
    ∃ a A C zss cap, v = .slice a zss.length cap ∧ RowsAt W a A C zss := by
  rcases open_int_rows Try.underlying28 Try.underlying27 Try.underlying2 cells_ints cells_int h with ⟨hcs, _⟩ | ⟨a, len, cap, A, L, C, Z, hcs, _, hl, hm, hx, hcell⟩
  · simp only [List.cons.injEq, and_true] at hcs
    exact ⟨none, fun _ => none, fun _ => 0, [], 0, hcs, by simp, fun h => absurd h (by simp), fun k hk => absurd hk (by simp)⟩
  · simp only [List.cons.injEq, and_true] at hcs
    subst hx
    have hlen : ((List.range len).map fun r => (Z r).take (L r)).length = len := by simp
    have hrow : ∀ k, k < len → row ((List.range len).map fun r => (Z r).take (L r)) k = (Z k).take (L k) := fun k hk => by simp [row, hk]
    have hb : len ≤ 17592186044416 := by
      have := hw ((((List.range len).map fun r => intRow (H := H) .i64 (A r) (L r) (Z r)).length + ((List.range (cap - len)).map fun j => intRow (H := H) .i64 (A (len + j)) (L (len + j)) (Z (len + j))).length) * 24) (by simp [DataW.weights, Try.underlying28, bytes_ints])
      simp only [List.length_map, List.length_range] at this
      have := reachBytes_lt
      omega
    have hrb : ∀ r, r < len → ∀ ad, A r = some ad → C r * 8 ≤ reachBytes := fun r hr ad had => by
      have hc := hcell r (by omega)
      have := hw (C r * 8) (by
        simp only [DataW.weights, Try.underlying28, List.mem_cons, List.mem_append]
        refine Or.inr (Or.inl (mem_weightsAll (d := intRow (H := H) .i64 (A r) (L r) (Z r)) (List.mem_map.2 ⟨r, List.mem_range.2 hr, rfl⟩) ?_))
        have hcl := hc.2.1
        have hzl := hc.2.2.2.1
        have e : min (L r) (Z r).length + ((Z r).length - L r) = C r := by omega
        simp [intRow, had, DataW.weights, Try.underlying27, bytes_int, lits, e])
      exact this
    have hrows : ∀ k, k < len → ((Z k).take (L k)).length = L k ∧ IntsAt W (A k) ((Z k).take (L k)) := fun k hk => by
      obtain ⟨_, c1, c2, c3, c4, c5, c6⟩ := hcell k (by omega)
      cases hA : A k with
      | none =>
        have h0 := c5 hA
        have hz0 : Z k = [] := List.length_eq_zero_iff.1 (by omega)
        rw [hz0]
        exact ⟨by simp; omega, by simpa using nil_ints W⟩
      | some ad =>
        exact ints_mk c1 c3 (fun i hi => (c6 ad hA).2 i hi) c4 (hrb k hk ad hA)
    refine ⟨some a, A, C, (List.range len).map fun r => (Z r).take (L r), cap, by rw [hcs, hlen], by rw [hlen]; exact hb, fun h0 => ?_, fun k hk => ?_⟩
    · rw [hlen] at h0
      obtain ⟨b, off, spot⟩ := a
      have hs : spot = none := by simpa [Addr.add] using World.cell?_spot (hcell 0 (by omega)).1
      subst hs
      refine ⟨b, off, rfl, fun k hk => ?_⟩
      rw [hlen] at hk
      have hc := (hcell k (by omega)).1
      rw [hrow k hk, (hrows k hk).1, ← add_plain]
      exact hc
    · rw [hlen] at hk
      rw [hrow k hk]
      exact (hrows k hk).2

set_option maxRecDepth 100000 in
theorem arena_of {v : Value} {d : DataW H} {p : List MemPlace} {r : Reach} {b0 : Nat} (hv : Value.okWide Try.prog W r b0 40 v) (h : DataW.Trod enc Try.prog W 0 (fun _ => true) true 40 v d p) (hw : ∀ n ∈ d.weights Try.prog 40, n ≤ reachBytes) :
    ∃ O zss, ArenaAt W v O zss := by
  obtain ⟨v0, v1, y0, y1, n, rfl, rfl, rfl, h0, h1⟩ := Go.Joins.open_agg2 Try.underlying40 (by kernel_rfl) (by kernel_rfl) hv h
  have hw0 : ∀ n ∈ y0.1.weights Try.prog 27, n ≤ reachBytes := fun n hn => hw n (by simp [DataW.weights, Try.underlying40, DataW.weightsEach, hn])
  have hw1 : ∀ n ∈ y1.1.weights Try.prog 28, n ≤ reachBytes := fun n hn => hw n (by simp [DataW.weights, Try.underlying40, DataW.weightsEach, hn])
  obtain ⟨ao, O, co, rfl, hO⟩ := ints_of h0 hw0
  obtain ⟨an, A, C, zss, cn, rfl, hN⟩ := rows_of h1 hw1
  exact ⟨O, zss, ao, an, co, cn, A, C, rfl, hO, hN⟩

end
end

section
open Go.ChangeShapes Go.WideShapes Go.ChangeAt Go.RowKit Go.Deep

set_option maxRecDepth 100000 in
theorem slice_of {H : Type} {enc : TypeId × Value → H} {W : World} {v : Value} {d : DataW H} {p : List MemPlace} {r : Reach} {b0 : Nat} (hv : Value.okWide Try.prog W r b0 27 v) (h : DataW.Trod enc Try.prog W 0 (fun _ => true) true 27 v d p) (hw : ∀ n ∈ d.weights Try.prog 27, n ≤ reachBytes) :
    ∃ a zs cap, v = .slice a zs.length cap ∧ IntsAt W a zs := by
  obtain ⟨a, len, cap, rfl⟩ := okWide_slice Try.underlying27 hv
  obtain ⟨fuel, hf⟩ := h
  exact ints_of (y := (d, p)) (by simpa [Value.cells] using hf) hw
end

section
open Go.RowKit Go.ChangeShapes Go.Joins Go.WideShapes

set_option maxRecDepth 100000 in
theorem game_of {H : Type} {enc : TypeId × Value → H} {W : World} {v : Value} {d : DataW H} {p : List MemPlace} {r : Reach} {b0 : Nat} (hv : Value.okWide Try.prog W r b0 42 v) (h : DataW.Trod enc Try.prog W 0 (fun _ => true) true 42 v d p) (hw : ∀ n ∈ d.weights Try.prog 42, n ≤ reachBytes) :
    ∃ O zss P, GameAt W v O zss P := by
  obtain ⟨cs, rfl, hsz⟩ := okWide_struct Try.underlying42 hv
  have hC : Try.prog.cellsOf 42 = 3 := by kernel_rfl
  have hA : Try.prog.cellsOf 40 = 2 := by kernel_rfl
  have hS : Try.prog.cellsOf 27 = 1 := by kernel_rfl
  have hR : Try.prog.cellsOf 28 = 1 := by kernel_rfl
  obtain ⟨c0, c1, c2, rfl⟩ := array3 (hsz.trans hC)
  obtain ⟨fuel, hf⟩ := h
  obtain ⟨y0, y1, n, hx, _, h0, h1⟩ := trod_struct2 Try.underlying42 hf
  obtain ⟨z0, z1, m, hx', _, g0, g1⟩ := trod_struct2 Try.underlying40 h0
  simp only [Prod.mk.injEq] at hx
  obtain ⟨rfl, rfl⟩ := hx
  subst hx'
  have k0 : DataW.trod enc Try.prog W 0 (fun _ => true) true m 27 [c0] = some z0 := by simpa [Value.cells, hA, hS] using g0
  have k1 : DataW.trod enc Try.prog W 0 (fun _ => true) true m 28 [c1] = some z1 := by simpa [Value.cells, hA, hR] using g1
  have k2 : DataW.trod enc Try.prog W 0 (fun _ => true) true n 27 [c2] = some y1 := by simpa [Value.cells, hS] using h1
  have hw0 : ∀ n ∈ z0.1.weights Try.prog 27, n ≤ reachBytes := fun n hn => hw n (by simp [DataW.weights, Try.underlying42, Try.underlying40, DataW.weightsEach, hn])
  have hw1 : ∀ n ∈ z1.1.weights Try.prog 28, n ≤ reachBytes := fun n hn => hw n (by simp [DataW.weights, Try.underlying42, Try.underlying40, DataW.weightsEach, hn])
  have hw2 : ∀ n ∈ y1.1.weights Try.prog 27, n ≤ reachBytes := fun n hn => hw n (by simp [DataW.weights, Try.underlying42, DataW.weightsEach, hn])
  obtain ⟨ao, O, co, rfl, hO⟩ := ints_of k0 hw0
  obtain ⟨an, A, C, zss, cn, rfl, hN⟩ := rows_of k1 hw1
  obtain ⟨ap, P, cp, rfl, hP⟩ := ints_of k2 hw2
  exact ⟨O, zss, P, ao, an, ap, co, cn, cp, A, C, rfl, hO, hN, hP⟩
end
end

section
open Go.ChangeShapes Go.WideShapes Go.ChangeAt Go.RowKit Go.Deep

end
end

section
open Go.ChangeShapes Go.WideShapes Go.ChangeAt Go.RowKit Go.Deep

theorem cells_byte : Try.prog.cellsOf 5 = 1 := by kernel_rfl
theorem bytes_byte : Try.prog.bytesOf 5 = 1 := by kernel_rfl

theorem byte_of_wf {n : Int} (h : (Lit.int .u8 n).wf = true) : 0 ≤ n ∧ n ≤ 255 := by
  have h1 : IntKind.u8.min = 0 := rfl
  have h2 : IntKind.u8.max = 255 := rfl
  simp only [Lit.wf, Bool.and_eq_true, decide_eq_true_eq] at h
  omega

theorem bytes_mk {W : World} {a : Addr} {L cap : Nat} {Z : List Int} (hl : L ≤ cap) (hz : Z.length = cap) (hc : ∀ i, i < cap → W.cell? (a.add i) = some (.int .u8 (Z.getD i 0))) (hw : ∀ n ∈ Z, (Lit.int .u8 n).wf = true) (hb : cap * 1 ≤ reachBytes) :
    (Z.take L).length = L ∧ BytesAt W (some a) (Z.take L) := by
  have hlen : (Z.take L).length = L := by simp; omega
  have hnth : ∀ k, k < L → nth (Z.take L) k = Z.getD k 0 := fun k hk => by simp [nth, List.getD, hk]
  by_cases hL : L ≤ 140737488355328
  · refine ⟨hlen, by rw [hlen]; exact hL, fun k hk => ?_⟩
    rw [hlen] at hk
    obtain ⟨b, off, spot⟩ := a
    have hs : spot = none := by simpa [Addr.add] using World.cell?_spot (hc 0 (by omega))
    subst hs
    have h := hc k (by omega)
    refine ⟨b, off, rfl, ?_, ?_⟩
    · rw [hnth k hk, ← add_plain]; exact h
    · rw [hnth k hk]
      refine byte_of_wf (hw _ ?_)
      rw [show Z.getD k 0 = Z[k]'(by omega) from by simp [List.getD, show k < Z.length from by omega]]
      exact List.getElem_mem _
  · exact absurd hb (by have := reachBytes_lt; omega)

set_option maxRecDepth 100000 in
theorem bytes_of {H : Type} {enc : TypeId × Value → H} {W : World} {v : Value} {d : DataW H} {p : List MemPlace} {r : Reach} {b0 : Nat} (hv : Value.okWide Try.prog W r b0 22 v) (h : DataW.Trod enc Try.prog W 0 (fun _ => true) true 22 v d p) (hw : ∀ n ∈ d.weights Try.prog 22, n ≤ reachBytes) :
    ∃ a zs cap, v = .slice a zs.length cap ∧ BytesAt W a zs := by
  obtain ⟨a, len, cap, rfl⟩ := okWide_slice Try.underlying22 hv
  obtain ⟨fuel, hf⟩ := h
  have hf' : DataW.trod enc Try.prog W 0 (fun _ => true) true fuel 22 [.slice a len cap] = some (d, p) := by simpa [Value.cells] using hf
  rcases open_ints Try.underlying22 Try.underlying5 cells_byte hf' with ⟨hcs, _⟩ | ⟨a', len', cap', zs, hcs, _, hl, hm, hz, hx, hcell, hwz⟩
  · simp only [List.cons.injEq, and_true] at hcs
    exact ⟨none, [], 0, hcs, by simp, fun k hk => absurd hk (by simp)⟩
  · simp only [List.cons.injEq, and_true] at hcs
    simp only [if_true] at hz
    injection hx with hx1 hx2
    subst hx1
    have hb := hw ((lits (H := H) .u8 (zs.take len')).length * 1 + (lits (H := H) .u8 (zs.drop len')).length * 1) (by simp [DataW.weights, Try.underlying22, bytes_byte])
    simp only [lits, List.length_map, List.length_take, List.length_drop] at hb
    obtain ⟨h1, h2⟩ := bytes_mk hl hz (fun i hi => hcell i (by omega)) hwz (by omega)
    exact ⟨some a', _, cap', by rw [hcs, h1], h2⟩
end

section
open Go.ChangeShapes Go.WideShapes Go.ChangeAt Go.RowKit Go.Deep

end

end Go.Proofs.Ytihaajcmephlmaa
namespace Go.Proofs.Ytihaajcmephlmaa
section
open Go.RowKit Go.Shelf

theorem scaA_one {a b c d : Value} (ha : a.oneCell' = true) (hb : b.oneCell' = true) (hc : c.oneCell' = true) (hd : d.oneCell' = true) (M : List Int) : (scaA a b c d M).all (·.oneCell') = true := by
  have h : ∀ n, (Value.int .i64 n).oneCell' = true := fun _ => rfl
  simp [scaA, ha, hb, hc, hd, h]
/-- The cells of measures, one behind another. -/
def meaL (ls : List (List Int)) : List Value := (ls.map fun m => (meaA m).toList).flatten
theorem meaL_snoc {ls : List (List Int)} {k : Nat} (h : k < ls.length) : meaL (ls.take (k + 1)) = meaL (ls.take k) ++ (meaA (row ls k)).toList := by
  unfold meaL
  rw [List.take_succ_eq_append_getElem h, List.map_append, List.flatten_append]
  congr 1
  have e : row ls k = ls[k] := by unfold row; simp [h]
  rw [e]
  simp
set_option linter.unusedSimpArgs false in
theorem wpList_move8 {P : Program} {ops : Array Oper} {rest : List Oper} {o : Oper} {a : Act} {w : World} {Q : Exit → Act → World → Prop} (hgd : o.guard = none) (x : Operand) (ho : o.op = .move x ∨ o.op = .assign x) (h : wpList P ops Q rest (a.put o.dst (a.eval x)) w) : wpList P ops Q (o :: rest) a w := by
  refine wpList_plain hgd fun K hK => ?_
  unfold Oper.wp execOp
  rcases ho with ho | ho <;> simp only [ho, Sem.run_pure, Sem.run_bind, Result.andThen_ok] <;> exact hK _ _ h
theorem fill_mea (m : List Int) : Instr.fill (fun i => some (i * 13, 13)) ((Array.range (1 * 13)).map ((Value.agg #[.int .i64 0, .int .i64 0, .int .i64 0, .int .i64 0, .int .i64 0, .int .i64 0, .int .i64 0, .int .i64 0, .int .i64 0, .int .i64 0, .int .i64 0, .int .i64 0, .int .i64 0]).cells[· % (Value.agg #[.int .i64 0, .int .i64 0, .int .i64 0, .int .i64 0, .int .i64 0, .int .i64 0, .int .i64 0, .int .i64 0, .int .i64 0, .int .i64 0, .int .i64 0, .int .i64 0, .int .i64 0]).cells.size]!)) [(0, .agg (meaA m))] = some (meaA m) := by kernel_rfl
theorem mea_news {w : World} {g : Nat} {T : TypeId} {m : List Int} (h : w.heap[g]? = some (.cells (meaA m) T (0, 0))) : ∀ j u, (meaA m).toList[j]? = some u → w.cell? ((⟨g, 0, none⟩ : Addr).add j) = some u := by
  intro j u hj
  rw [Addr.add_mid, Nat.zero_add, cell_of_row _ _ _ _ _ _ h, ← Array.getElem?_toList]
  exact hj
theorem mea_ones (m : List Int) : ∀ u ∈ (meaA m).toList, u.oneCell' = true := by
  intro u hu
  have h := meaA_one m
  rw [Array.all_eq_true'] at h
  exact h u (by simpa using hu)
/-- Are all of the lists measures of a small game? -/
noncomputable def goodsB (O : List Int) (zss : List (List Int)) (P : List Int) (ls : List (List Int)) : Bool := smallB O zss P && ls.all (goodB P)
theorem goodsB_no {O P : List Int} {zss ls : List (List Int)} {k : Nat} (hk : k < ls.length) (h : goodB P (row ls k) = false) : goodsB O zss P ls = false := by
  cases hg : goodsB O zss P ls with
  | false => rfl
  | true =>
    unfold goodsB at hg
    rw [Bool.and_eq_true, List.all_eq_true] at hg
    have e : row ls k = ls[k] := by unfold row; simp [hk]
    rw [e, hg.2 _ (List.getElem_mem hk)] at h
    cases h
theorem goodsB_yes {O P : List Int} {zss ls : List (List Int)} (hs : smallB O zss P = true) (h : ∀ k, k < ls.length → goodB P (row ls k) = true) : goodsB O zss P ls = true := by
  unfold goodsB
  rw [hs, Bool.true_and, List.all_eq_true]
  intro x hx
  obtain ⟨k, hk, rfl⟩ := List.mem_iff_getElem.1 hx
  have e : row ls k = ls[k] := by unfold row; simp [hk]
  rw [← e]; exact h k hk

end
end Go.Proofs.Ytihaajcmephlmaa
