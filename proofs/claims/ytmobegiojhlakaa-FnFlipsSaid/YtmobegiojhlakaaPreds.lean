/-
  Contracts: PredsOf and its model.
-/
import Derived.Test.YtmobegiojhlakaaOwn
import Derived.Test.YtmobegiojhlakaaCopy
import Derived.Test.YtmobegiojhlakaaEdge
import Derived.Maps.AppendAt
namespace Go.Proofs.Ytmobegiojhlakaa
section
open Go.RowKit

theorem OwnInts.mk' {w : World} {B : Nat} {v : Value} {zs : List Int} (h : w.ownsRow B 2 1 v zs.length (zs.map (Value.int .i64))) (hl : zs.length ≤ 17592186044416) (hf : ∀ k, k < zs.length → Fits (nth zs k)) : OwnInts w B w.heap.size v zs :=
  ⟨h, fun g hg => (h.lt g hg).2, hl, hf⟩
theorem ownsRow_base {w : World} {B B' : Nat} {e : TypeId} {size : Nat} {v : Value} {n : Nat} {xs : List Value} (h : w.ownsRow B e size v n xs) (hB : B' ≤ B) : w.ownsRow B' e size v n xs := by
  refine ⟨h.1, ?_⟩
  rcases h.2 with hn | ⟨g, cap, cur, hv, hb, r⟩
  · exact .inl hn
  · exact .inr ⟨g, cap, cur, hv, by omega, r⟩
theorem OwnInts.nil (w : World) (B D : Nat) : OwnInts w B D (.slice none 0 0) [] :=
  ⟨World.ownsRow_nil _ _ _ _, fun g hg => by simp [Value.ownBlock] at hg, by simp, fun k hk => absurd hk (by simp)⟩

/-- A call hands back a slice of its own that reads as zs, and nothing that was there has turned. -/
def GivesInts (w : World) (zs : List Int) (e : Ending) (w' : World) : Prop :=
  ∃ v, e = .returned v ∧ OwnInts w' w.heap.size w'.heap.size v zs ∧ Below w.heap.size w w'

/-- The predecessors of u among the first k vertices. -/
def predsK (zss : List (List Int)) (u : Int) : Nat → List Int
  | 0 => []
  | k + 1 => predsK zss u k ++ if hasB (row zss k) u then [(k : Int)] else []

theorem predsK_len (zss : List (List Int)) (u : Int) (k : Nat) : (predsK zss u k).length ≤ k := by
  induction k with
  | zero => simp [predsK]
  | succ k ih => simp only [predsK]; split <;> simp <;> omega

theorem predsK_mem (zss : List (List Int)) (u : Int) (k : Nat) : ∀ x ∈ predsK zss u k, 0 ≤ x ∧ x < k := by
  induction k with
  | zero => simp [predsK]
  | succ k ih =>
    intro x hx
    simp only [predsK, List.mem_append] at hx
    rcases hx with hx | hx
    · have := ih x hx; omega
    · split at hx
      · simp at hx; omega
      · simp at hx

theorem nth_mem {zs : List Int} {k : Nat} (h : k < zs.length) : nth zs k ∈ zs := by rw [nth_eq h]; exact List.getElem_mem _

theorem predsK_fits (zss : List (List Int)) (u : Int) (k : Nat) (hk : k ≤ 17592186044416) : ∀ j, j < (predsK zss u k).length → Fits (nth (predsK zss u k) j) := fun j hj => by
  have := predsK_mem zss u k _ (nth_mem hj)
  unfold Fits; omega

open Classical in
/-- The value of PredsOf. -/
noncomputable def predsL (O : List Int) (zss : List (List Int)) (u : Int) : List Int := if ArenaP O zss ∧ thereB O.length u = true then predsK zss u zss.length else []

end

section
open Go.RowKit

/-- n rows, row u is R u. -/
def rowsOf (n : Nat) (R : Nat → List Int) : List (List Int) := (List.range n).map R
theorem rowsOf_len (n : Nat) (R : Nat → List Int) : (rowsOf n R).length = n := by simp [rowsOf]
theorem rowsOf_row {n u : Nat} {R : Nat → List Int} (h : u < n) : row (rowsOf n R) u = R u := by simp [row, rowsOf, h]
theorem rowsOf_congr {n : Nat} {R R' : Nat → List Int} (h : ∀ u, u < n → R u = R' u) : rowsOf n R = rowsOf n R' := by
  unfold rowsOf; exact List.map_congr_left fun u hu => h u (List.mem_range.1 hu)

/-- n rows in memory: the outer slice lies at the head of block g. -/
structure RowSet (w : World) (B g n : Nat) (V : Nat → Value) (R : Nat → List Int) : Prop where
  own : w.ownsRow B 27 1 (.slice (some ⟨g, 0, none⟩) n n) n ((List.range n).map V)
  rows : ∀ k, k < n → OwnInts w B w.heap.size (V k) (R k)
  apart : ∀ i j, i < n → j < n → i ≠ j → ∀ b, (V i).ownBlock = some b → (V j).ownBlock ≠ some b

theorem OwnInts.retop {w : World} {B D : Nat} {v : Value} {zs : List Int} (h : OwnInts w B D v zs) : OwnInts w B w.heap.size v zs := ⟨h.own, fun g hg => (h.own.lt g hg).2, h.len, h.fits⟩

theorem RowSet.put {w w1 : World} {B g n u : Nat} {V : Nat → Value} {R : Nat → List Int} (h : RowSet w B g n V R) (hu : u < n) {v' : Value} {zs' : List Int} (h1 : OwnInts w1 B w1.heap.size v' zs') (hg : Only (fun b => (V u).ownBlock = some b) w w1)
    (hw : v'.ownBlock = (V u).ownBlock ∨ ∃ X, v'.ownBlock = some X ∧ w.heap.size ≤ X) : RowSet (w1.setCell ⟨g, u, none⟩ v') B g n (fun i => if i = u then v' else V i) (fun i => if i = u then zs' else R i) := by
  have ho := ownsRow_only h.own hg (own_types h.own (h.rows u hu).own)
  obtain ⟨hs, hgr⟩ := ho.stored u v'
  have hS : Only (fun b => b = g) w1 (w1.setCell ⟨g, u, none⟩ v') := Only.setCell (S := fun b => b = g) (Only.refl _ _) (p := ⟨g, u, none⟩) rfl v'
  refine ⟨?_, fun k hk => ?_, fun i j hi hj hne b hb hb' => ?_⟩
  · have e : ((List.range n).map V).set u v' = (List.range n).map (fun i => if i = u then v' else V i) := by
      apply List.ext_getElem?
      intro i
      by_cases hi : i < n
      · by_cases e : i = u
        · subst e; simp [hi]
        · simp [hi, e, Ne.symm e]
      · simp [hi]
    rw [← e]; exact hs
  · by_cases e : k = u
    · subst e
      simp only [if_true]
      exact (h1.only hS (fun b hb e => own_types ho h1.own b (by simp [Value.ownBlock, e]) hb)).retop
    · simp only [if_neg e]
      have hr := (h.rows k hk).only hg (h.apart k u hk hu e)
      exact (hr.only hS (fun b hb e => own_types ho hr.own b (by simp [Value.ownBlock, e]) hb)).retop
  · have hlt : ∀ k, k < n → ∀ b, (V k).ownBlock = some b → b < w.heap.size := fun k hk b hb => ((h.rows k hk).own.lt b hb).2
    by_cases e : i = u
    · subst e
      simp only [if_true] at hb
      simp only [if_neg (Ne.symm hne)] at hb'
      rcases hw with hw | ⟨X, hX, hge⟩
      · rw [hw] at hb; exact h.apart i j hi hj hne b hb hb'
      · rw [hX] at hb; have := hlt j hj b hb'; simp at hb; omega
    · simp only [if_neg e] at hb
      by_cases e' : j = u
      · subst e'
        simp only [if_true] at hb'
        rcases hw with hw | ⟨X, hX, hge⟩
        · rw [hw] at hb'; exact h.apart i j hi hj hne b hb hb'
        · rw [hX] at hb'; have := hlt i hi b hb; simp at hb'; omega
      · simp only [if_neg e'] at hb'
        exact h.apart i j hi hj hne b hb hb'

theorem RowSet.congr {w : World} {B g n : Nat} {V : Nat → Value} {R R' : Nat → List Int} (h : RowSet w B g n V R) (e : ∀ u, u < n → R u = R' u) : RowSet w B g n V R' :=
  ⟨h.own, fun k hk => by rw [← e k hk]; exact h.rows k hk, h.apart⟩
theorem RowSet.below {w w' : World} {B g n : Nat} {V : Nat → Value} {R : Nat → List Int} (h : RowSet w B g n V R) (hb : Below w.heap.size w w') : RowSet w' B g n V R :=
  ⟨ownsRow_only h.own (S := fun _ => False) (Only.of_below hb) (fun _ _ h => h), fun k hk => ((h.rows k hk).below hb).retop, h.apart⟩
theorem RowSet.start (w : World) {B g : Nat} (hg : g = w.heap.size) (hB : B ≤ w.heap.size) (n : Nat) (hn : n ≤ maxLen) : RowSet (w.alloc (.cells (madeCells #[.slice none 0 0] n) 27)) B g n (fun _ => .slice none 0 0) (fun _ => []) := by
  subst hg
  exact ⟨ownsRow_of_rowIs (World.rowIs_made w (.slice none 0 0) n 27) hB hn, fun k _ => OwnInts.nil _ _ _, fun i j _ _ _ b hb => by simp [Value.ownBlock] at hb⟩
theorem RowSet.shape {w : World} {B g n u : Nat} {V : Nat → Value} {R : Nat → List Int} (h : RowSet w B g n V R) (hu : u < n) : V u = .slice (addrOf (V u)) (R u).length (capOf (V u)) ∧ w.cell? ⟨g, u, none⟩ = some (.slice (addrOf (V u)) (R u).length (capOf (V u))) ∧ w.frozen? ⟨g, u, none⟩ = false := by
  obtain ⟨a, cap, hv, _, _⟩ := (h.rows u hu).shape
  have e : V u = .slice (addrOf (V u)) (R u).length (capOf (V u)) := by rw [hv]; rfl
  refine ⟨e, ?_, h.own.frozenAt u⟩
  rw [h.own.cellAt u (by omega), ← e]
  simp [hu]

/-- A valid row's numbers rise and are vertices. -/
theorem setFrom_bounds (n : Int) : ∀ (zs : List Int) (l : Int), setFrom n l zs = true → ∀ k, k < zs.length → l < nth zs k ∧ nth zs k < n ∧ ∀ j, j < k → nth zs j < nth zs k
  | [], _, _, k, hk => absurd hk (by simp)
  | z :: r, l, h, k, hk => by
    simp only [setFrom, Bool.and_eq_true, decide_eq_true_eq] at h
    have ih := setFrom_bounds n r z h.2
    cases k with
    | zero => exact ⟨by simpa [nth] using h.1.1, by simpa [nth] using h.1.2, fun j hj => absurd hj (Nat.not_lt_zero _)⟩
    | succ k =>
      have hk' : k < r.length := by simpa using hk
      have := ih k hk'
      have e : nth (z :: r) (k + 1) = nth r k := by simp [nth]
      rw [e]
      refine ⟨by omega, this.2.1, fun j hj => ?_⟩
      cases j with
      | zero => have : nth (z :: r) 0 = z := by simp [nth]
                omega
      | succ j => have e' : nth (z :: r) (j + 1) = nth r j := by simp [nth]
                  rw [e']; exact this.2.2 j (by omega)

theorem setB_bounds {n : Int} {zs : List Int} (h : setB n zs = true) {k : Nat} (hk : k < zs.length) : 0 ≤ nth zs k ∧ nth zs k < n ∧ ∀ j, j < k → nth zs j < nth zs k := by
  have := setFrom_bounds n zs (-1) h k hk
  exact ⟨by omega, this.2.1, this.2.2⟩

/-- Row u when v vertices and i successors of v are through. -/
def partP (zss : List (List Int)) (v i u : Nat) : List Int := predsK zss u v ++ if ∃ j, j < i ∧ nth (row zss v) j = (u : Int) then [(v : Int)] else []

theorem partP_zero (zss : List (List Int)) (v u : Nat) : partP zss v 0 u = predsK zss u v := by simp [partP]
theorem partP_full (zss : List (List Int)) (v u : Nat) : partP zss v (row zss v).length u = predsK zss u (v + 1) := by
  simp only [partP, predsK]
  congr 1
  by_cases h : hasB (row zss v) u = true
  · rw [if_pos h, if_pos (mem_nth.1 (hasB_iff.1 h))]
  · rw [if_neg h, if_neg (fun hh => h (hasB_iff.2 (mem_nth.2 hh)))]
theorem partP_hit {zss : List (List Int)} {v i u : Nat} (hi : nth (row zss v) i = (u : Int)) (hj : ∀ j, j < i → nth (row zss v) j < nth (row zss v) i) : partP zss v (i + 1) u = partP zss v i u ++ [(v : Int)] ∧ partP zss v i u = predsK zss u v := by
  have h1 : ¬ ∃ j, j < i ∧ nth (row zss v) j = (u : Int) := fun ⟨j, h, e⟩ => by have := hj j h; omega
  have h2 : ∃ j, j < i + 1 ∧ nth (row zss v) j = (u : Int) := ⟨i, by omega, hi⟩
  simp only [partP]
  rw [if_neg h1, if_pos h2]
  simp
theorem partP_miss {zss : List (List Int)} {v i u u' : Nat} (hi : nth (row zss v) i = (u : Int)) (hne : u' ≠ u) : partP zss v (i + 1) u' = partP zss v i u' := by
  simp only [partP]
  congr 1
  by_cases h : ∃ j, j < i ∧ nth (row zss v) j = (u' : Int)
  · obtain ⟨j, h1, h2⟩ := h
    rw [if_pos ⟨j, by omega, h2⟩, if_pos ⟨j, h1, h2⟩]
  · rw [if_neg (c := ∃ j, j < i ∧ nth (row zss v) j = (u' : Int)) h, if_neg]
    rintro ⟨j, h1, h2⟩
    by_cases e : j = i
    · subst e; omega
    · exact h ⟨j, by omega, h2⟩

/-- What preds leaves. -/
def GivesRows (w : World) (n : Nat) (R : Nat → List Int) (e : Ending) (w' : World) : Prop :=
  ∃ g V, e = .returned (.slice (some ⟨g, 0, none⟩) n n) ∧ RowSet w' w.heap.size g n V R ∧ Below w.heap.size w w'

set_option maxHeartbeats 400000 in
theorem size_is (ao an : Option Addr) (n m co cn : Nat) (w : World) (_hn : n ≤ 17592186044416) :
    Calls Try.prog 84 #[.agg #[.slice ao n co, .slice an m cn]] w fun e w' => e = .returned (.int .i64 n) ∧ w.alloc (.cells #[.slice ao n co, .slice an m cn] 30) = w' := by
  go_enter Try.func84, Try.ntmps84
  go_wp2
  go_ret
  exact ⟨rfl, rfl⟩

end

end Go.Proofs.Ytmobegiojhlakaa
