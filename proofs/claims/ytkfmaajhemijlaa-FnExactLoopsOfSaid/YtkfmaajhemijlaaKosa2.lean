/-
  The second pass: each walk over the predecessors, from the vertex that was left last, takes one component. No program text.
-/
import Derived.Test.YtkfmaajhemijlaaKosa
namespace Go.Proofs.Ytkfmaajhemijlaa
open Go.RowKit

/-- Of one component. -/
def Mut (zss : List (List Int)) (o : Nat → Bool) (x y : Nat) : Prop := Pth zss o x y ∧ Pth zss o y x

theorem Mut.symm {zss : List (List Int)} {o : Nat → Bool} {x y : Nat} (h : Mut zss o x y) : Mut zss o y x := ⟨h.2, h.1⟩
theorem Mut.trans {zss : List (List Int)} {o : Nat → Bool} {x y z : Nat} (h : Mut zss o x y) (k : Mut zss o y z) : Mut zss o x z := ⟨h.1.trans k.1, k.2.trans h.2⟩
theorem Mut.refl {zss : List (List Int)} {o : Nat → Bool} {x : Nat} (h : o x = true) : Mut zss o x x := ⟨.refl h, .refl h⟩

/-- ps are the predecessors. -/
structure PredP (zss ps : List (List Int)) : Prop where
  len : ps.length = zss.length
  mem : ∀ u v : Nat, u < zss.length → v < zss.length → ((u : Int) ∈ row ps v ↔ (v : Int) ∈ row zss u)
  nat : ∀ v : Nat, v < ps.length → ∀ x ∈ row ps v, ∃ u : Nat, x = (u : Int) ∧ u < ps.length

theorem PredP.rev {zss ps : List (List Int)} (hP : PredP zss ps) {U : Nat → Bool} (hon : ∀ i, U i = true → i < zss.length) {x y : Nat} (h : Pth ps U x y) : Pth zss U y x := by
  induction h with
  | refl h => exact .refl h
  | @tail y z hp hm ho ih =>
    have he := (hP.mem z y (hon z ho) (hon y hp.last)).1 hm
    exact (Pth.tail (.refl ho) he hp.last).trans ih
theorem PredP.fwd {zss ps : List (List Int)} (hP : PredP zss ps) {U : Nat → Bool} (hon : ∀ i, U i = true → i < zss.length) {x y : Nat} (h : Pth zss U x y) : Pth ps U y x := by
  induction h with
  | refl h => exact .refl h
  | @tail y z hp hm ho ih =>
    have he := (hP.mem y z (hon y hp.last) (hon z ho)).2 hm
    exact (Pth.tail (.refl ho) he hp.last).trans ih

theorem dfs_set {ps : List (List Int)} (hin : ∀ u : Nat, u < ps.length → ∀ x ∈ row ps u, ∃ v : Nat, x = (v : Int) ∧ v < ps.length) {f : Nat} {U : Nat → Bool} {v : Nat} (hv : v < ps.length) (hon : ∀ i, U i = true → i < ps.length) (hf : opens U ps.length < f) {u : Nat} (hu : u < ps.length) :
    (u : Int) ∈ (dfs ps f U v).2 ↔ Pth ps U v u := by
  have hw := dfs_walk hin f U v hv hf
  have ho := dfs_ord hin f U v hv hon hf
  constructor
  · intro h
    obtain ⟨u', hu', hp⟩ := ho.pth u h
    have : u' = v := by simp at hu'; omega
    rw [this] at hp; exact hp
  · intro h
    exact (hw.mem u hu).2 ⟨h.last, hw.stays hon h (hw.self v (by simp))⟩

theorem split_unique {α : Type} {x : α} : ∀ {A B A' B' : List α}, (A ++ x :: B).Nodup → A ++ x :: B = A' ++ x :: B' → A = A' ∧ B = B'
  | [], B, [], B', _, h => ⟨rfl, by simpa using h⟩
  | [], B, a :: A', B', hn, h => by
    simp at h
    obtain ⟨rfl, h2⟩ := h
    have hx : x ∉ B := (List.nodup_cons.1 hn).1
    rw [h2] at hx
    exact absurd (by simp) hx
  | a :: A, B, [], B', hn, h => by
    simp at h
    obtain ⟨rfl, h2⟩ := h
    have hx : a ∉ A ++ a :: B := (List.nodup_cons.1 hn).1
    exact absurd (by simp) hx
  | a :: A, B, a' :: A', B', hn, h => by
    simp at h
    obtain ⟨rfl, h2⟩ := h
    have hn' : (A ++ x :: B).Nodup := (List.nodup_cons.1 hn).2
    obtain ⟨h3, h4⟩ := split_unique hn' h2
    exact ⟨by rw [h3], h4⟩

theorem After.tail {A B : List Int} {v z : Nat} (hn : (A ++ (v : Int) :: B).Nodup) (h : After (A ++ (v : Int) :: B) v z) : (z : Int) ∈ B := by
  obtain ⟨A', B', h1, h2, h3⟩ := h
  obtain ⟨P, Q, rfl⟩ := List.append_of_mem h2
  have e : A ++ (v : Int) :: B = P ++ (v : Int) :: (Q ++ B') := by rw [h1]; simp
  obtain ⟨_, h5⟩ := split_unique hn e
  rw [h5]; exact List.mem_append.2 (.inr h3)

/-- Behind some rounds of the second pass: A is still to come, B is behind. -/
structure KosP (zss : List (List Int)) (o U : Nat → Bool) (B : List Int) : Prop where
  sub : ∀ i, U i = true → o i = true
  uni : ∀ x z, U x = true → Mut zss o x z → U z = true
  done : ∀ b : Nat, (b : Int) ∈ B → U b = false

theorem KosP.inside {zss : List (List Int)} {o U : Nat → Bool} {B : List Int} (h : KosP zss o U B) {u v : Nat} (hv : U v = true) (hvu : Pth zss o v u) : ∀ {y : Nat}, Pth zss o u y → Pth zss o y v → Pth zss U u y := by
  intro y hp
  induction hp with
  | refl ho => intro hy; exact .refl (h.uni v u hv ⟨hvu, hy⟩)
  | @tail y z hp hm ho ih =>
    intro hz
    have hy : Pth zss o y v := (Pth.tail (.refl hp.last) hm ho).trans hz
    exact .tail (ih hy) hm (h.uni v z hv ⟨hvu.trans (.tail hp hm ho), hz⟩)

/-- One round: what the walk from v takes is v's component, or nothing if v was taken before. -/
theorem KosP.step {zss ps : List (List Int)} {o U : Nat → Bool} {A B L : List Int} {v f : Nat} {us : List Int} (hP : PredP zss ps) (hon : ∀ i, o i = true → i < zss.length) (hord : OrdP zss o us L) (hnd : L.Nodup) (hall : ∀ i, o i = true → (i : Int) ∈ L)
    (hL : L = A ++ (v : Int) :: B) (hv : v < zss.length) (hf : opens U zss.length < f) (h : KosP zss o U B) :
    KosP zss o (dfs ps f U v).1 ((v : Int) :: B) ∧ (∀ u : Nat, (u : Int) ∈ (dfs ps f U v).2 ↔ U v = true ∧ Mut zss o u v) := by
  have honU : ∀ i, U i = true → i < zss.length := fun i hi => hon i (h.sub i hi)
  have hw := dfs_walk hP.nat f U v (by rw [hP.len]; exact hv) (by rw [hP.len]; exact hf)
  have hset : ∀ u : Nat, (u : Int) ∈ (dfs ps f U v).2 ↔ U v = true ∧ Mut zss o u v := fun u => by
    constructor
    · intro hu
      obtain ⟨i, hi, hin⟩ := hw.nat _ hu
      have e : u = i := by omega
      subst e
      have hp := (dfs_set hP.nat (by rw [hP.len]; exact hv) (fun i hi => by rw [hP.len]; exact honU i hi) (by rw [hP.len]; exact hf) hin).1 hu
      have hq := hP.rev honU hp
      have hq' := hq.mono h.sub
      refine ⟨hp.first, hq', ?_⟩
      apply Classical.byContradiction
      intro hn
      obtain ⟨z, z1, z2, z3⟩ := hord.ord u v (hall u hq'.first) (hall v hq'.last) hq' hn
      rw [hL] at z3 hnd
      have hz := h.done z (After.tail hnd z3)
      rw [h.uni u z hq.first ⟨z1, z2⟩] at hz
      cases hz
    · rintro ⟨hUv, hm⟩
      have hq := h.inside hUv hm.2 hm.1 (.refl (h.sub v hUv))
      have hp := hP.fwd honU hq
      exact (dfs_set hP.nat (by rw [hP.len]; exact hv) (fun i hi => by rw [hP.len]; exact honU i hi) (by rw [hP.len]; exact hf) (by rw [hP.len]; exact hon u hm.1.first)).2 hp
  refine ⟨⟨fun i hi => h.sub i (hw.shut i hi), fun x z hx hm => ?_, fun b hb => ?_⟩, hset⟩
  · have hUx := hw.shut x hx
    have hUz := h.uni x z hUx hm
    cases hb : (dfs ps f U v).1 z with
    | true => rfl
    | false =>
      have hz := (hw.mem z (by rw [hP.len]; exact honU z hUz)).2 ⟨hUz, hb⟩
      obtain ⟨hUv, hzv⟩ := (hset z).1 hz
      have hxv := (hset x).2 ⟨hUv, hm.trans hzv⟩
      have := ((hw.mem x (by rw [hP.len]; exact honU x hUx)).1 hxv).2
      rw [this] at hx; cases hx
  · rcases List.mem_cons.1 hb with hb | hb
    · have : b = v := by omega
      subst this
      exact hw.self b (by simp)
    · cases hc : (dfs ps f U v).1 b with
      | false => rfl
      | true => have := hw.shut b hc; rw [h.done b hb] at this; cases this

theorem KosP.start {zss : List (List Int)} {o : Nat → Bool} : KosP zss o o [] := ⟨fun _ h => h, fun _ _ _ h => h.1.last, fun b hb => by cases hb⟩

end Go.Proofs.Ytkfmaajhemijlaa
