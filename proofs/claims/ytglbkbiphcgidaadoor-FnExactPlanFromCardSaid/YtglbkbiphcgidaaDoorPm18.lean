import Derived.Deep.DeepCutAuto
import Derived.Laws.MakeOwn
import Derived.Test.YtglbkbiphcgidaaDoorPm00
import Derived.Test.YtglbkbiphcgidaaDoorPm04
import Derived.Test.YtglbkbiphcgidaaDoorPm05
import Derived.Test.YtglbkbiphcgidaaDoorPm08
import Derived.Test.YtglbkbiphcgidaaDoorPm17
namespace Go.Proofs.YtglbkbiphcgidaaDoor
section
open Go.RowKit Go.Shelf
def dB (O : List Int) (k : Nat) : Nat → Nat → Bool := fun i v => decide (v < k) && decide (nth O v = (i : Int))
def lu (ah : List (List Int)) (k : Nat) : Nat → Nat → Bool := fun v => if v < k then eX (row ah v) else fun _ => false
def lC (ah : List (List Int)) (k : Nat) : Nat → Nat → Bool := fun u v => decide (v < k) && eX (row ah v) u
theorem abG {O : List Int} : dB O 0 = fun _ _ => false := funext fun i => funext fun v => by unfold dB; simp
theorem ah3 {ah : List (List Int)} : lu ah 0 = fun _ _ => false := funext fun v => by unfold lu; simp
theorem ah4 {ah : List (List Int)} : lC ah 0 = fun _ _ => false := funext fun u => funext fun v => by unfold lC; simp
theorem abH {O : List Int} {k i : Nat} (h : nth O k = (i : Int)) : nT (dB O k) i (aO (dB O k i) (aS k)) = dB O (k + 1) := funext fun j => by
 by_cases e : j = i
 · subst e
   rw [G9]
   refine funext fun v => ?_
   unfold aO dB aS
   by_cases hv : v = k
   · subst hv; simp [h]
   · by_cases h1 : v < k
     · have : v < k + 1 := by omega
       simp [h1, this, hv]
     · have : ¬ v < k + 1 := by omega
       simp [h1, this, hv]
 · rw [He e]
   refine funext fun v => ?_
   unfold dB
   by_cases hv : v = k
   · subst hv
     have : ¬ ((i : Int) = (j : Int)) := by omega
     simp [h, this]
   · by_cases h1 : v < k
     · have : v < k + 1 := by omega
       simp [h1, this]
     · have : ¬ v < k + 1 := by omega
       simp [h1, this]
theorem ah5 {ah : List (List Int)} {k : Nat} : nT (lu ah k) k (eX (row ah k)) = lu ah (k + 1) := funext fun v => by
 by_cases e : v = k
 · subst e
   rw [G9]; unfold lu; simp
 · rw [He e]
   unfold lu
   by_cases h1 : v < k
   · have : v < k + 1 := by omega
     simp [h1, this]
   · have : ¬ v < k + 1 := by omega
     simp [h1, this]
theorem abI {ah : List (List Int)} {k : Nat} (v : Nat) : lu ah k k v = false := by unfold lu; simp
theorem ah6 {ah : List (List Int)} {k u : Nat} {X : Nat → Bool} (h : X = cond (eX (row ah k) u) (aO (cond (lu ah k k u) (aQ (lC ah k u) (aS k)) (lC ah k u)) (aS k)) (cond (lu ah k k u) (aQ (lC ah k u) (aS k)) (lC ah k u))) : X = lC ah (k + 1) u := by
 rw [h, abI]
 simp only [cond_false]
 refine funext fun v => ?_
 by_cases hv : v = k
 · subst hv
   cases hx : eX (row ah v) u <;> simp [lC, aO, aS, hx]
 · by_cases h1 : v < k
   · have h2 : v < k + 1 := by omega
     cases hx : eX (row ah k) u <;> simp [lC, aO, aS, h1, h2, hv]
   · have h2 : ¬ v < k + 1 := by omega
     cases hx : eX (row ah k) u <;> simp [lC, aO, aS, h1, h2, hv]
theorem iL.congr {w : World} {b off n : Nat} {E E' : Nat → Nat → Bool} (h : iL w b off n E) (he : ∀ u, u < n → E u = E' u) : iL w b off n E' := fun u hu j hj => by rw [← he u hu]; exact h u hu j hj
theorem dX.ah7 {w : World} {b n nb pb kb : Nat} {Ow Lv E Pd ru : Nat → Nat → Bool} (h : dX w b n nb pb kb Ow Lv E Pd) (he : ∀ u, u < n → Pd u = ru u) : dX w b n nb pb kb Ow Lv E ru :=
 ⟨h.own, h.pJ, h.next, h.AQ, h.known, h.succ, h.back.congr he, h.pos, h.small, h.apart, h.map⟩
theorem abJ {O P : List Int} {ah : List (List Int)} (hp : fZ O ah P = true) : jC ah O O.length (dB O O.length) (lu ah O.length) (lC ah O.length) := by
 obtain ⟨hA, hl, _⟩ := iY.1 hp
 have hz : ah.length = O.length := hA.2.2.1
 refine ⟨hz, jL hA, fun i _ v => ?_, fun v hv x => ?_, fun x _ v => ?_⟩
 · unfold dB; simp
 · unfold lu; rw [if_pos hv]; exact wR
 · unfold lC lu
   by_cases hv : v < O.length
   · simp [hv]
   · simp [hv]
theorem VR {O P : List Int} {ah : List (List Int)} (hp : fZ O ah P = true) : Pn O.length (nth P) O (dB P O.length) := by
 obtain ⟨hA, hl, hq⟩ := iY.1 hp
 refine ⟨fun q _ v => by unfold dB; simp, fun v hv => hq _ (jo (by omega)), fun v hv => (hA.2.2.2 v hv).1⟩
def jD (w : World) (g : Nat) (t : TypeId) (x y z : Value) : Prop := w.heap[g]? = some (.cells #[x, y, z] t (0, 0))
section
variable {w w' : World} {g : Nat} {t : TypeId} {x y z : Value}
theorem jD.lt (h : jD w g t x y z) : g < w.heap.size := (Array.getElem?_eq_some_iff.1 h).1
theorem jD.below (h : jD w g t x y z) (hb : Below w.heap.size w w') : jD w' g t x y z := (hb.block g h.lt).trans h
theorem jD.only {S : Nat → Prop} (h : jD w g t x y z) (hk : Only S w w') (hs : ¬ S g) : jD w' g t x y z := (hk.block g h.lt hs).trans h
theorem jD.c0 (h : jD w g t x y z) : w.cell? ⟨g, 0, none⟩ = some x := by unfold jD at h; simp [World.cell?, h]
theorem jD.c1 (h : jD w g t x y z) : w.cell? ⟨g, 1, none⟩ = some y := by unfold jD at h; simp [World.cell?, h]
theorem jD.c2 (h : jD w g t x y z) : w.cell? ⟨g, 2, none⟩ = some z := by unfold jD at h; simp [World.cell?, h]
theorem jD.new (w : World) (t : TypeId) (x y z : Value) : jD (w.alloc (.cells #[x, y, z] t)) w.heap.size t x y z := heap_alloc_new w _
end
abbrev aJ (n : Nat) : Obj := .cells (madeCells #[.int .u64 0, .int .u64 0, .int .u64 0, .int .u64 0] (n * 4)) 69
theorem abK {w : World} {g n : Nat} (h : w.heap[g]? = some (aJ n)) : iL w g 0 n (fun _ _ => false) := fun u hu j hj => by
 have hk : 0 + u * 4 + j < n * 4 := by omega
 have hz : (.int .u64 (aj (fun _ => false) j) : Value) = .int .u64 0 := by rw [jG]; rfl
 have : j = 0 ∨ j = 1 ∨ j = 2 ∨ j = 3 := by omega
 rw [hz]
 simp only [World.cell?, h, aJ, madeCells]
 rw [Array.getElem?_map, Array.getElem?_range, if_pos hk]
 rcases this with rfl | rfl | rfl | rfl <;> simp <;> (try rfl)
theorem abL {w : World} {g n : Nat} (h : w.heap[g]? = some (aJ n)) : eY w g := ⟨(Array.getElem?_eq_some_iff.1 h).1, fun k => by simp [World.frozen?, h]⟩
def je (nb pb n kb : Nat) : Array Value := Array.replicate 172 (.int .u64 0) ++ #[.slice (some ⟨nb, 0, none⟩) n n, .slice (some ⟨pb, 0, none⟩) n n, .map (some kb)]
theorem abM {nb pb n kb k : Nat} (h : k < 172) : (je nb pb n kb)[k]? = some (.int .u64 0) := by
 unfold je
 rw [Array.getElem?_append_left (by simpa using h)]
 simp [h]
theorem ah8 {w : World} {b nb pb n kb : Nat} (h : w.heap[b]? = some (.cells (je nb pb n kb) 129)) (hn : w.heap[nb]? = some (aJ n)) (hp : w.heap[pb]? = some (aJ n)) (hk : w.heap[kb]? = some (.map #[] 0)) (h0 : 0 < n) (h1 : n ≤ 256)
 (ha : b ≠ nb ∧ b ≠ pb ∧ b ≠ kb ∧ nb ≠ pb ∧ nb ≠ kb ∧ pb ≠ kb) : dX w b n nb pb kb (fun _ _ => false) (fun _ _ => false) (fun _ _ => false) (fun _ _ => false) := by
 have hz : ∀ j, (.int .u64 (aj (fun _ => false) j) : Value) = .int .u64 0 := fun j => by rw [jG]; rfl
 have cell : ∀ k, w.cell? ⟨b, k, none⟩ = (je nb pb n kb)[k]? := fun k => by simp [World.cell?, h]
 refine ⟨fun i hi j hj => ?_, fun u hu j hj => ?_, ?_, ?_, ?_, abK hn, abK hp, h0, h1, ha, (Array.getElem?_eq_some_iff.1 hk).1⟩
 · rw [cell, abM (by omega), hz]
 · rw [cell, abM (by omega), hz]
 · rw [cell]; simp [je]
 · rw [cell]; simp [je]
 · rw [cell]; simp [je]
noncomputable abbrev nU (nb pb n kb : Nat) : Array Value := ((Tryd.zeroCells129.setIfInBounds 172 (.slice (some ⟨nb, 0, none⟩) n n)).setIfInBounds 173 (.slice (some ⟨pb, 0, none⟩) n n)).setIfInBounds 174 (.map (some kb))
theorem oM (nb pb n kb : Nat) : nU nb pb n kb = je nb pb n kb := by kernel_rfl
theorem ah9 (w : World) : (Instr.makeMap 126 none).run Tryd.prog w = .ok (.map (some w.heap.size)) (w.alloc (.map #[] 0)) := by kernel_rfl
theorem aia (w : World) (n : Nat) (hn : n ≤ 256) : (Instr.makeSlice 125 (.int .i64 (n : Int)) (.int .i64 (n : Int))).run Tryd.prog w = .ok (.slice (some ⟨w.heap.size, 0, none⟩) n n) (w.alloc (aJ n)) := by
 have ht : Tryd.prog.underlying 125 = some (.slice 69) := by kernel_rfl
 have hinfo : (Tryd.prog.info? 69).map (fun i => (i.zero, i.size, i.bytes)) = some (some (.agg #[.int .u64 0, .int .u64 0, .int .u64 0, .int .u64 0]), 4, 32) := by kernel_rfl
 obtain ⟨i, hi, hzz⟩ := Option.map_eq_some_iff.1 hinfo
 simp only [Prod.mk.injEq] at hzz
 obtain ⟨hz, hs, hb⟩ := hzz
 have h := run_make (P := Tryd.prog) w _ _ i _ ht hi hz .i64 .i64 (n : Int) (n : Int) (by omega) (by omega) (by rw [hb]; omega) (by omega)
 rw [hs] at h
 simpa [Value.cells] using h
theorem VT {w w' : World} (h : Below w.heap.size w w') : Below w.drew.heap.size w.drew w'.drew := ⟨h.os, h.tape, h.output, h.size, h.block⟩
theorem dX.aib {w : World} {b n nb pb kb : Nat} {Ow Lv E Pd : Nat → Nat → Bool} (h : dX w b n nb pb kb Ow Lv E Pd) {i : Nat} (hi : i < 2) (K : Nat → Bool) :
 dX ((((w.setCell ⟨b, i * 4, none⟩ (.int .u64 (aj K 0))).setCell ⟨b, i * 4 + 1, none⟩ (.int .u64 (aj K 1))).setCell ⟨b, i * 4 + 2, none⟩ (.int .u64 (aj K 2))).setCell ⟨b, i * 4 + 3, none⟩ (.int .u64 (aj K 3))) b n nb pb kb (nT Ow i K) Lv E Pd := by
 have hl := h.lt
 have ha := h.apart
 have h0 : iL w b 0 2 Ow := fun u hu j hj => by rw [Nat.zero_add]; exact h.own u hu j hj
 have h1 := h0.put hi K
 simp only [Nat.zero_add] at h1
 have ho := dw (S := fun k => k = b) (Only.refl _ w) (g := b) rfl (.int .u64 (aj K 0)) (.int .u64 (aj K 1)) (.int .u64 (aj K 2)) (.int .u64 (aj K 3)) (i * 4)
 have far : ∀ k, 8 ≤ k → World.cell? ((((w.setCell ⟨b, i * 4, none⟩ (.int .u64 (aj K 0))).setCell ⟨b, i * 4 + 1, none⟩ (.int .u64 (aj K 1))).setCell ⟨b, i * 4 + 2, none⟩ (.int .u64 (aj K 2))).setCell ⟨b, i * 4 + 3, none⟩ (.int .u64 (aj K 3))) ⟨b, k, none⟩ = World.cell? w ⟨b, k, none⟩ := fun k hk => by
  have ne : ∀ {j : Nat}, j < 8 → (⟨b, k, none⟩ : Addr) ≠ ⟨b, j, none⟩ := fun hj e => by injection e with _ e2; omega
  rw [World.cell?_setCell_other _ _ _ _ (fun e => ne (by omega) e.symm), World.cell?_setCell_other _ _ _ _ (fun e => ne (by omega) e.symm), World.cell?_setCell_other _ _ _ _ (fun e => ne (by omega) e.symm), World.cell?_setCell_other _ _ _ _ (fun e => ne (by omega) e.symm)]
 refine ⟨fun u hu j hj => by have := h1 u hu j hj; rw [Nat.zero_add] at this; exact this, fun u hu j hj => (far _ (by omega)).trans (h.pJ u hu j hj), (far _ (by omega)).trans h.next, (far _ (by omega)).trans h.AQ, (far _ (by omega)).trans h.known, h.succ.only ho (by omega), h.back.only ho (by omega), h.pos, h.small, h.apart, Nat.lt_of_lt_of_le h.map ho.size⟩
theorem dX.aic {w : World} {b n nb pb kb : Nat} {Ow Lv E Pd : Nat → Nat → Bool} (h : dX w b n nb pb kb Ow Lv E Pd) {q : Nat} (hq : q < 41) (K : Nat → Bool) :
 dX ((((w.setCell ⟨b, 8 + q * 4, none⟩ (.int .u64 (aj K 0))).setCell ⟨b, 8 + q * 4 + 1, none⟩ (.int .u64 (aj K 1))).setCell ⟨b, 8 + q * 4 + 2, none⟩ (.int .u64 (aj K 2))).setCell ⟨b, 8 + q * 4 + 3, none⟩ (.int .u64 (aj K 3))) b n nb pb kb Ow (nT Lv q K) E Pd := by
 have hl := h.lt
 have ha := h.apart
 have h1 := h.pJ.put hq K
 have ho := dw (S := fun k => k = b) (Only.refl _ w) (g := b) rfl (.int .u64 (aj K 0)) (.int .u64 (aj K 1)) (.int .u64 (aj K 2)) (.int .u64 (aj K 3)) (8 + q * 4)
 have far : ∀ k, k < 8 ∨ 172 ≤ k → World.cell? ((((w.setCell ⟨b, 8 + q * 4, none⟩ (.int .u64 (aj K 0))).setCell ⟨b, 8 + q * 4 + 1, none⟩ (.int .u64 (aj K 1))).setCell ⟨b, 8 + q * 4 + 2, none⟩ (.int .u64 (aj K 2))).setCell ⟨b, 8 + q * 4 + 3, none⟩ (.int .u64 (aj K 3))) ⟨b, k, none⟩ = World.cell? w ⟨b, k, none⟩ := fun k hk => by
  have ne : ∀ {j : Nat}, 8 ≤ j → j < 172 → (⟨b, k, none⟩ : Addr) ≠ ⟨b, j, none⟩ := fun h1 h2 e => by injection e with _ e2; omega
  rw [World.cell?_setCell_other _ _ _ _ (fun e => ne (by omega) (by omega) e.symm), World.cell?_setCell_other _ _ _ _ (fun e => ne (by omega) (by omega) e.symm), World.cell?_setCell_other _ _ _ _ (fun e => ne (by omega) (by omega) e.symm), World.cell?_setCell_other _ _ _ _ (fun e => ne (by omega) (by omega) e.symm)]
 refine ⟨fun u hu j hj => (far _ (by omega)).trans (h.own u hu j hj), h1, (far _ (by omega)).trans h.next, (far _ (by omega)).trans h.AQ, (far _ (by omega)).trans h.known, h.succ.only ho (by omega), h.back.only ho (by omega), h.pos, h.small, h.apart, Nat.lt_of_lt_of_le h.map ho.size⟩
theorem dH.new {w : World} {kb : Nat} (Q : (Nat → Bool) → Value → Prop) (h : w.heap[kb]? = some (.map #[] 0)) : dH w kb Q := ⟨#[], 0, h, fun e he => by simp at he⟩
end
section
variable {P : Program} {ops : Array Oper} {Q : Exit → Act → World → Prop} {md : Region.Mode} {S : World → Prop} {m : Nat}
theorem abN {i j l : Nat} {o o' o'' : Oper} {fuel : Nat} {listed : Array Bool} {a : Act} {w : World} (hr : Region.ready md ops listed = [i, j, l]) (ho : ops[i]? = some o) (ho' : ops[j]? = some o') (aie : ops[l]? = some o'')
 (h : ∀ K' : Act → World → Prop, Shut (∀ a w, (i < m → S w) → ((i < m → S w) → lS P md ops Q S m fuel (listed.setIfInBounds i true) a w) → K' a w) → if Region.wanted o (yielded ops a.tmps) = true then Oper.wp P o a w K' Q else K' (a.put o.dst undef) w)
 (h' : ∀ K' : Act → World → Prop, Shut (∀ a w, (j < m → S w) → ((j < m → S w) → lS P md ops Q S m fuel (listed.setIfInBounds j true) a w) → K' a w) → if Region.wanted o' (yielded ops a.tmps) = true then Oper.wp P o' a w K' Q else K' (a.put o'.dst undef) w)
 (h'' : ∀ K' : Act → World → Prop, Shut (∀ a w, (l < m → S w) → ((l < m → S w) → lS P md ops Q S m fuel (listed.setIfInBounds l true) a w) → K' a w) → if Region.wanted o'' (yielded ops a.tmps) = true then Oper.wp P o'' a w K' Q else K' (a.put o''.dst undef) w) :
 lS P md ops Q S m (fuel + 1) listed a w :=
 ⟨fun h0 => absurd h0 (by rw [hr]; exact List.cons_ne_nil _ _), fun k hk => by
  rw [hr, List.mem_cons, List.mem_cons, List.mem_singleton] at hk
  rcases hk with hk | hk | hk
  · rw [hk]; exact wpOp_step ho (fun K' hK => h K' (fun a w hS hW => hK a w ⟨hS, hW hS⟩))
  · rw [hk]; exact wpOp_step ho' (fun K' hK => h' K' (fun a w hS hW => hK a w ⟨hS, hW hS⟩))
  · rw [hk]; exact wpOp_step aie (fun K' hK => h'' K' (fun a w hS hW => hK a w ⟨hS, hW hS⟩))⟩
end
end Go.Proofs.YtglbkbiphcgidaaDoor
namespace Go.Proofs.YtglbkbiphcgidaaDoor
section
open Go.RowKit Go.Shelf
theorem jC.lead {abO J9 : List (List Int)} {O : List Int} {n v : Nat} {Ow E Pd ru : Nat → Nat → Bool} {N : Nat → Bool} (h : jC abO O n Ow E Pd) (hv : v < n) (hl : J9.length = n) (hB : iO J9) (hrow : ∀ w, w < n → w ≠ v → row J9 w = row abO w)
 (hN : ∀ x : Nat, N x = true ↔ (x : Int) ∈ row J9 v)
 (hPd : ∀ u, u < n → ru u = cond (N u) (aO (cond (E v u) (aQ (Pd u) (aS v)) (Pd u)) (aS v)) (cond (E v u) (aQ (Pd u) (aS v)) (Pd u))) : jC J9 O n Ow (nT E v N) ru := by
 refine ⟨hl, hB, h.own, fun w hw x => ?_, fun x hx w => ?_⟩
 · by_cases e : w = v
   · subst e; rw [G9]; exact hN x
   · rw [He e, hrow w hw e]; exact h.succ w hw x
 · have hb := h.back x hx
   have hbv := hb v
   rw [hPd x hx]
   by_cases e : w = v
   · subst e
     rw [G9]
     cases U6 : N x with
     | true => simp [aO, aS, hv]
     | false =>
       cases hEx : E w x with
       | true => simp [aQ, aS]
       | false =>
         have : Pd x w = false := by
          cases hp : Pd x w with
          | false => rfl
          | true => have := (hb w).1 hp; rw [hEx] at this; cases this.2
         simp [this]
   · rw [He e]
     have h1 : cond (N x) (aO (cond (E v x) (aQ (Pd x) (aS v)) (Pd x)) (aS v)) (cond (E v x) (aQ (Pd x) (aS v)) (Pd x)) w = Pd x w := by
      cases N x <;> cases E v x <;> simp [aO, aQ, aS, e]
     rw [h1]; exact hb w
section
variable {ah : List (List Int)} {O P Pk : List Int} {I : Nat → Bool} {who : Int} {v n : Nat}
theorem abP {u : Int} (hl : Pk.length = ah.length) (hv : v < ah.length) {w : Nat} (hw : w < ah.length) (hne : w ≠ v) : row (bU ah (Pk.set v u)) w = row (bU ah Pk) w := by
 rw [jM hw, jM hw]
 refine List.filter_congr fun x _ => ?_
 unfold jX
 rw [nP (by omega) w, if_neg hne]
theorem abQ {u : Int} (hl : Pk.length = ah.length) (hv : v < ah.length) (hu : 0 ≤ u) (x : Int) : x ∈ row (bU ah (Pk.set v u)) v ↔ x ∈ row ah v ∧ u = x := by
 rw [jM hv, List.mem_filter]
 unfold jX
 rw [nP (by omega) v, if_pos rfl]
 simp only [Bool.or_eq_true, decide_eq_true_eq]
 constructor
 · rintro ⟨h1, h2 | h2⟩
   · omega
   · exact ⟨h1, h2⟩
 · rintro ⟨h1, h2⟩; exact ⟨h1, .inr h2⟩
theorem aif (hv : v < ah.length) (h : nth Pk v < 0) : row (bU ah Pk) v = row ah v := by
 rw [jM hv]
 refine List.filter_eq_self.2 fun x _ => ?_
 unfold jX
 simp [h]
theorem aii {u : Nat} (hl : Pk.length = ah.length) (hv : v < ah.length) (hur : (u : Int) ∈ row ah v) (hI : I u = true) (ht : fE (bU ah Pk) I) : fE (bU ah (Pk.set v (u : Int))) I := fun w hw hIw => by
 rw [dQ] at hw
 by_cases e : w = v
 · subst e
   exact ⟨(u : Int), (abQ hl hv (by omega) _).2 ⟨hur, rfl⟩, by rw [Int.toNat_natCast]; exact hI⟩
 · obtain ⟨x, hx, hIx⟩ := ht w (by rw [dQ]; exact hw) hIw
   exact ⟨x, by rw [abP hl hv hw e]; exact hx, hIx⟩
theorem same_holds (hn : ah.length ≤ 256) (hI : ∀ v, I v = true → v < ah.length) : nR (dM (bU ah Pk) O (nth P) I who) I = fC ah O P Pk I who := by
 rw [Bool.eq_iff_iff, Gm]
 unfold fC
 rw [Bool.not_eq_true', FZ]
 unfold dM dK
 rw [dQ]
 constructor
 · intro h v hv
   have h1 := h v (by omega)
   cases iE : I v with
   | false => rfl
   | true =>
     rw [iE] at h1
     cases hw : dO (bU ah Pk) O (nth P) ah.length I v <;> cases hd : decide (who = 0) <;> simp_all
 · intro h v hv
   cases iE : I v with
   | false => rfl
   | true =>
     have h1 := h v (hI v iE)
     rw [iE] at h1
     cases hw : dO (bU ah Pk) O (nth P) ah.length I v <;> cases hd : decide (who = 0) <;> simp_all
theorem abR {hold : Int → Bool} : ∀ {us : List Int} {x : Int}, us.Pairwise (· < ·) → x ∈ us → I x.toNat = true → hold x = true → (∀ y ∈ us, y < x → I y.toNat = true → hold y = false) → gu hold I us = x
 | u :: us, x, hp, hx, hI, hh, hb => by
   obtain ⟨h1, h2⟩ := List.pairwise_cons.1 hp
   unfold gu
   rcases List.mem_cons.1 hx with e | hx
   · subst e
     rw [if_pos (by rw [hI, hh]; rfl)]
   · have hlt := h1 x hx
     have hno : (I u.toNat && hold u) = false := by
      cases gY : I u.toNat with
      | false => rfl
      | true => rw [hb u (by simp) hlt gY]; rfl
     rw [if_neg (by rw [hno]; simp)]
     exact abR h2 hx hI hh fun y hy hyx uG => hb y (by simp [hy]) hyx uG
theorem aij {L : List Int} {k : Nat} {x y : Int} (hp : L.Pairwise (· < ·)) (hx : x ∈ L.take k) (hy : y ∈ L) (hyx : y < x) : y ∈ L.take k := by
 rw [← List.take_append_drop k L] at hy hp
 rcases List.mem_append.1 hy with h | h
 · exact h
 · have := (List.pairwise_append.1 hp).2.2 x hx y h
   omega
theorem aik {hold : Int → Bool} {k : Nat} {pre : List (eH (dR (eX (row ah v)) I))} {x : eH (dR (eX (row ah v)) I)} (hr : iO ah) (hs : (row ah v).Pairwise (· < ·)) (_hn : ah.length ≤ 256) (hv : v < ah.length)
 (hk : jd (pre ++ [x]) = (aU (dR (eX (row ah v)) I) 256).take k) (hpre : ∀ y ∈ pre, hold (y.1 : Int) = false) (hx : hold (x.1 : Int) = true) : gu hold I (row ah v) = (x.1 : Int) := by
 have hx2 := x.2.2
 unfold dR at hx2
 rw [Bool.and_eq_true] at hx2
 refine abR hs (wR.1 hx2.1) (by rw [Int.toNat_natCast]; exact hx2.2) hx fun y hy hyx uG => ?_
 obtain ⟨u, rfl, hu⟩ := hr.eu v hv y hy
 rw [Int.toNat_natCast] at uG
 have hm : (u : Int) ∈ aU (dR (eX (row ah v)) I) 256 := (zJ _ _ _).2 ⟨u, rfl, by omega, by unfold dR; rw [wR.2 hy, uG]; rfl⟩
 have hxt : (x.1 : Int) ∈ (aU (dR (eX (row ah v)) I) 256).take k := by rw [← hk]; simp [jd]
 have h1 := aij (Zi _ _) hxt hm hyx
 rw [← hk] at h1
 unfold jd at h1
 rw [List.map_append, List.mem_append] at h1
 rcases h1 with h1 | h1
 · obtain ⟨z, hz, e⟩ := List.mem_map.1 h1
   rw [← e]; exact hpre z hz
 · simp at h1; omega
theorem ail {hold : Int → Bool} {xs : List (eH (dR (eX (row ah v)) I))} (hn : ah.length ≤ 256) (hv : v < ah.length) (hr : iO ah) (hk : jd xs = aU (dR (eX (row ah v)) I) 256) (hno : ∀ y ∈ xs, hold (y.1 : Int) = false) : ¬ ∃ u ∈ row ah v, I u.toNat = true ∧ hold u = true := by
 rintro ⟨y, hy, uG, hh⟩
 obtain ⟨u, rfl, hu⟩ := hr.eu v hv y hy
 rw [Int.toNat_natCast] at uG
 have hm : (u : Int) ∈ jd xs := by
  rw [hk]; exact (zJ _ _ _).2 ⟨u, rfl, by omega, by unfold dR; rw [wR.2 hy, uG]; rfl⟩
 obtain ⟨z, hz, e⟩ := List.mem_map.1 hm
 rw [← e, hno z hz] at hh
 cases hh
end
end
end Go.Proofs.YtglbkbiphcgidaaDoor
namespace Go.Proofs.YtglbkbiphcgidaaDoor
section
open Go.RowKit
section
variable {ah : List (List Int)} {O P Pk : List Int} {who : Int}
theorem abS (hr : iO ah) (hp : tN ah Pk) {v : Nat} (hv : v < ah.length) (x : Int) : x ∈ row (rowsOf ah.length (dG ah Pk)) v ↔ x ∈ row (bU ah Pk) v := by
 rw [vY hv, jM hv, List.mem_filter]
 unfold dG jX
 rcases hp.2 v (by rw [hp.1]; exact hv) with h | h
 · rw [if_neg (by omega)]
   have : nth Pk v < 0 := by omega
   simp [this]
 · have h0 := hr.pos hv _ h
   rw [if_pos h0, List.mem_singleton]
   have : ¬ nth Pk v < 0 := by omega
   simp only [this, decide_false, Bool.false_or, decide_eq_true_eq]
   constructor
   · rintro rfl; exact ⟨h, rfl⟩
   · rintro ⟨_, e⟩; exact e.symm
theorem ain (hpar : fZ O ah P = true) (hk : jb O ah P Pk = true) (hw : who = 0 ∨ who = 1) : wQ ah O P Pk who := by
 unfold jb at hk
 rw [Bool.and_eq_true, decide_eq_true_eq] at hk
 obtain ⟨hb, hsame⟩ := hk
 obtain ⟨hA, hl, hp⟩ := iY.1 hpar
 obtain ⟨hA2, _, _⟩ := iY.1 (NC hb)
 have hpk : tN ah Pk := by
  unfold fO at hb
  rw [Bool.and_eq_true] at hb
  exact tV.1 hb.2
 have hmem := fun {v : Nat} (hv : v < ah.length) (x : Int) => abS (jL hA) hpk hv x
 obtain ⟨N, hN⟩ : ∃ N, N = rowsOf ah.length (dG ah Pk) := ⟨_, rfl⟩
 rw [← hN] at hA2 hsame hmem
 have hNl : N.length = ah.length := by rw [hN, oV]
 have hrg : ∀ v, bC N O P who v = bC ah O P who v := fun v => by
  by_cases hv : v < ah.length
  · rw [Bool.eq_iff_iff, Dq hw (by omega), Dq hw hv, hsame]
  · have h1 : ∀ {M : List (List Int)}, M.length = ah.length → bC M O P who v = false := fun {M} hM => by
     cases h : bC M O P who v with
     | false => rfl
     | true => have := Gl h; omega
    rw [h1 hNl, h1 rfl]
 have hs : ∃ s, dF N O (nth P) (allI N.length) (bC N O P who) who s := by
  have h := won_holds hA2 hl (fun x hx => (hp x hx).1)
  rcases hw with rfl | rfl
  · exact h.1
  · exact h.2
 obtain ⟨s, hs⟩ := hs
 refine ⟨s, fun v hv => hv, fun v hv hR ho => ?_, fun v hv hR ho x hx hI => hI, fun c L hl i hm => hs.wins c L ⟨hl.pos, hl.per, fun j => ?_⟩ i hm⟩
 · rw [dQ] at hv
   have h1 := hs.own v (by omega) (by rw [hrg]; exact hR) ho
   exact ⟨(hmem hv _).1 h1.1, by rw [← hrg]; exact h1.2⟩
 · obtain ⟨h1, h2, h3, h4, h5⟩ := hl.step j
   rw [dQ] at h2
   exact ⟨by rw [hrg]; exact h1, by omega, (hmem h2 _).2 h3, by rw [hrg]; exact h4, h5⟩
structure abT (ah : List (List Int)) (O P VU : List Int) (k : Nat) (Pk : List Int) : Prop where
 len : Pk.length = ah.length
 good : ∀ who : Int, (who = 0 ∨ who = 1) → wQ ah O P Pk who
 bQ : ∀ who : Int, (who = 0 ∨ who = 1) → ∀ v, bC ah O P who v = true → nth O v ≠ who → nth Pk v < 0
 rest : ∀ v, k ≤ v → v < ah.length → nth Pk v = nth VU v
 small : ∀ v, v < ah.length → nth Pk v = -1 ∨ nth Pk v ∈ row ah v
theorem abU (hpar : fZ O ah P = true) (hk : jb O ah P Pk = true) (hown : ∀ v, v < Pk.length → nth Pk v ≠ -1 → nth (dJ ah O P) v = nth O v) : ∀ k, k ≤ ah.length → abT ah O P Pk k (bD ah O P Pk k)
 | 0, _ => by
   have hpk : tN ah Pk := by
    have hb := hk
    unfold jb fO at hb
    rw [Bool.and_eq_true, Bool.and_eq_true] at hb
    exact tV.1 hb.1.2
   refine ⟨hpk.1, fun who hw => ain hpar hk hw, fun who hw v hv ho => ?_, fun v _ _ => rfl, fun v hv => hpk.2 v (by rw [hpk.1]; exact hv)⟩
   have hvn := Gl hv
   by_cases e : nth Pk v = -1
   · show nth Pk v < 0
     omega
   · have h1 := hown v (by rw [hpk.1]; exact hvn) e
     have h2 := (Dq hw hvn).1 hv
     exact absurd (by rw [← h1, h2]) ho
 | k + 1, hkn => by
   have ih := abU hpar hk hown k (by omega)
   obtain ⟨hA, hl, hp⟩ := iY.1 hpar
   have hp0 : ∀ x ∈ P, 0 ≤ x := fun x hx => (hp x hx).1
   obtain ⟨Q, hQ⟩ : ∃ Q, bD ah O P Pk k = Q := ⟨_, rfl⟩
   rw [bD]
   rw [hQ] at ih ⊢
   have hkz : k < ah.length := by omega
   by_cases hx : 0 ≤ nth Q k ∨ nth (dJ ah O P) k ≠ nth O k
   · rw [if_pos hx]
     exact ⟨ih.len, ih.good, ih.bQ, fun v hv => ih.rest v (by omega), ih.small⟩
   · rw [if_neg hx]
     have hneg : nth Q k < 0 := by omega
     have yA : nth (dJ ah O P) k = nth O k := Classical.byContradiction fun h => hx (.inr h)
     obtain ⟨who, hwho⟩ : ∃ who, nth O k = who := ⟨_, rfl⟩
     have hw : who = 0 ∨ who = 1 := by rw [← hwho]; exact (tK hA hkz).1
     rw [hwho]
     have hR : bC ah O P who k = true := (Dq hw hkz).2 (by rw [yA, hwho])
     obtain ⟨h1, h2, h3⟩ := aay hA hl hp0 hw ih.len (ih.bQ who hw) (ih.good who hw) hkz hR hwho hneg
     obtain ⟨u, hu⟩ : ∃ u, gu (fun u => fC ah O P (Q.set k u) (bC ah O P who) who) (bC ah O P who) (row ah k) = u := ⟨_, rfl⟩
     rw [hu] at h1 h2 h3 ⊢
     have hkl : k < Q.length := by rw [ih.len]; exact hkz
     have hother : ∀ who', (who' = 0 ∨ who' = 1) → who' ≠ who → bC ah O P who' k = false := fun who' hw' hne => by
      cases h : bC ah O P who' k with
      | false => rfl
      | true =>
        have h4 := (Dq hw' hkz).1 h
        exact absurd (by rw [← h4, yA, hwho]) hne
     refine ⟨by rw [List.length_set]; exact ih.len, fun who' hw' => ?_, fun who' hw' v hv ho => ?_, fun v hv hvn => ?_, fun v hv => ?_⟩
     · by_cases e : who' = who
       · rw [e]; exact h3
       · refine agf (ih.good who' hw') fun v hv => ?_
         rw [nP hkl, if_neg]
         rintro rfl
         rw [hother who' hw' e] at hv
         cases hv
     · rw [nP hkl, if_neg]
       · exact ih.bQ who' hw' v hv ho
       · rintro rfl
         by_cases e : who' = who
         · exact ho (by rw [e]; exact hwho)
         · rw [hother who' hw' e] at hv
           cases hv
     · rw [nP hkl, if_neg (by omega)]
       exact ih.rest v (by omega) hvn
     · rw [nP hkl]
       by_cases e : v = k
       · subst e; rw [if_pos rfl]; exact .inr h1
       · rw [if_neg e]; exact ih.small v hv
theorem abV (hpar : fZ O ah P = true) {VU Q : List Int} {k : Nat} (h : abT ah O P VU k Q) (hkz : k < ah.length) (yA : nth (dJ ah O P) k = nth O k) (hneg : nth Q k < 0) :
 (nth O k = 0 ∨ nth O k = 1) ∧ fE (bU ah Q) (bC ah O P (nth O k)) ∧ ∃ u ∈ row ah k, bC ah O P (nth O k) u.toNat = true ∧ fC ah O P (Q.set k u) (bC ah O P (nth O k)) (nth O k) = true := by
 obtain ⟨hA, hl, hp⟩ := iY.1 hpar
 have hp0 : ∀ x ∈ P, 0 ≤ x := fun x hx => (hp x hx).1
 obtain ⟨who, hwho⟩ : ∃ who, nth O k = who := ⟨_, rfl⟩
 have hw : who = 0 ∨ who = 1 := by rw [← hwho]; exact (tK hA hkz).1
 have hR : bC ah O P who k = true := (Dq hw hkz).2 (by rw [yA, hwho])
 obtain ⟨h1, h2, h3⟩ := aay hA hl hp0 hw h.len (h.bQ who hw) (h.good who hw) hkz hR hwho hneg
 have hkl : k < Q.length := by rw [h.len]; exact hkz
 rw [hwho]
 refine ⟨hw, aax hA hl hp0 hw (h.bQ who hw) (h.good who hw), _, h1, h2, good_holds hA hl hp0 hw (fun v hv ho => ?_) h3⟩
 rw [nP hkl, if_neg]
 · exact h.bQ who hw v hv ho
 · rintro rfl
   exact ho hwho
end
end
end Go.Proofs.YtglbkbiphcgidaaDoor
