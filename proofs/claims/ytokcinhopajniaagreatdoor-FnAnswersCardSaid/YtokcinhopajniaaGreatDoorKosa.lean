/-
  The order in which the cursor leaves vertices behind, and what it says of components. No program text.
-/
import Derived.Test.YtokcinhopajniaaGreatDoorWalks1
import Derived.Test.YtokcinhopajniaaGreatDoorLoops
import Derived.Test.YtokcinhopajniaaGreatDoorParity1
import Derived.Test.YtokcinhopajniaaGreatDoorBase1
namespace Go.Proofs.YtokcinhopajniaaGreatDoor
open Go.RowKit

/-- From x to y by any number of steps, all vertices open. -/
inductive Pth (zss : List (List Int)) (o : Nat → Bool) : Nat → Nat → Prop
  | refl {x : Nat} : o x = true → Pth zss o x x
  | tail {x y z : Nat} : Pth zss o x y → (z : Int) ∈ row zss y → o z = true → Pth zss o x z

theorem Pth.first {zss : List (List Int)} {o : Nat → Bool} {x y : Nat} (h : Pth zss o x y) : o x = true := by
  induction h with
  | refl h => exact h
  | tail _ _ _ ih => exact ih
theorem Pth.last {zss : List (List Int)} {o : Nat → Bool} {x y : Nat} (h : Pth zss o x y) : o y = true := by
  cases h with
  | refl h => exact h
  | tail _ _ h => exact h
theorem Pth.trans {zss : List (List Int)} {o : Nat → Bool} {x y z : Nat} (h : Pth zss o x y) (k : Pth zss o y z) : Pth zss o x z := by
  induction k with
  | refl _ => exact h
  | tail _ hm ho ih => exact .tail ih hm ho
theorem Pth.mono {zss : List (List Int)} {o o' : Nat → Bool} (hs : ∀ i, o i = true → o' i = true) {x y : Nat} (h : Pth zss o x y) : Pth zss o' x y := by
  induction h with
  | refl h => exact .refl (hs _ h)
  | tail _ hm ho ih => exact .tail ih hm (hs _ ho)
/-- One vertex shut: a way either avoids it or leads to it. -/
theorem Pth.through {zss : List (List Int)} {o : Nat → Bool} {v x y : Nat} (h : Pth zss o x y) : Pth zss (mark1 o v false) x y ∨ Pth zss o x v := by
  induction h with
  | refl h =>
    by_cases e : x = v
    · subst e; exact .inr (.refl h)
    · exact .inl (.refl (by simp [mark1, e, h]))
  | @tail y z hp hm ho ih =>
    rcases ih with ih | ih
    · by_cases e : z = v
      · subst e; exact .inr (.tail hp hm ho)
      · exact .inl (.tail ih hm (by simp [mark1, e, ho]))
    · exact .inr ih

/-- a stands ahead of b. -/
def After (L : List Int) (a b : Nat) : Prop := ∃ A B, L = A ++ B ∧ (a : Int) ∈ A ∧ (b : Int) ∈ B

theorem After.left {L M : List Int} {a b : Nat} (h : After L a b) : After (L ++ M) a b := by
  obtain ⟨A, B, h1, h2, h3⟩ := h
  exact ⟨A, B ++ M, by rw [h1, List.append_assoc], h2, List.mem_append.2 (.inl h3)⟩
theorem After.right {L M : List Int} {a b : Nat} (h : After M a b) : After (L ++ M) a b := by
  obtain ⟨A, B, h1, h2, h3⟩ := h
  exact ⟨L ++ A, B, by rw [h1, List.append_assoc], List.mem_append.2 (.inr h2), h3⟩

/-- What is left behind is reached; and of two that are not of one component the later one's component ends later. -/
structure OrdP (zss : List (List Int)) (o : Nat → Bool) (us : List Int) (L : List Int) : Prop where
  pth : ∀ x : Nat, (x : Int) ∈ L → ∃ u : Nat, (u : Int) ∈ us ∧ Pth zss o u x
  ord : ∀ x y : Nat, (x : Int) ∈ L → (y : Int) ∈ L → Pth zss o x y → ¬ Pth zss o y x → ∃ z, Pth zss o x z ∧ Pth zss o z x ∧ After L y z

theorem WalkP.stays {zss : List (List Int)} {o : Nat → Bool} {us : List Int} {r : (Nat → Bool) × List Int} (h : WalkP zss o us r) (hon : ∀ i, o i = true → i < zss.length) {x y : Nat} (hp : Pth zss o x y) (hx : r.1 x = false) : r.1 y = false := by
  induction hp with
  | refl _ => exact hx
  | @tail y z hp hm ho ih => exact h.clos y (hon y hp.last) hp.last ih z hm

theorem WalkP.out {zss : List (List Int)} {o : Nat → Bool} {us : List Int} {r : (Nat → Bool) × List Int} (h : WalkP zss o us r) (hon : ∀ i, o i = true → i < zss.length) {x y : Nat} (hp : Pth zss o x y) (hy : r.1 y = true) : Pth zss r.1 x y := by
  induction hp with
  | refl _ => exact .refl hy
  | @tail y z hp hm ho ih =>
    have hb : r.1 y = true := by
      cases hb : r.1 y with
      | true => rfl
      | false => have := h.clos y (hon y hp.last) hp.last hb z hm; rw [this] at hy; cases hy
    exact .tail (ih hb) hm hy

theorem OrdP.list {zss : List (List Int)} {step : (Nat → Bool) → Nat → (Nat → Bool) × List Int} {m : Nat} (hw : ∀ o v, v < zss.length → opens o zss.length < m → WalkP zss o [(v : Int)] (step o v))
    (h : ∀ o v, v < zss.length → (∀ i, o i = true → i < zss.length) → opens o zss.length < m → OrdP zss o [(v : Int)] (step o v).2) (us : List Int) (hus : ∀ x ∈ us, ∃ v : Nat, x = (v : Int) ∧ v < zss.length) :
    ∀ o, (∀ i, o i = true → i < zss.length) → opens o zss.length < m → OrdP zss o us (dfsL step o us).2 := by
  induction us with
  | nil => intro o _ _; exact ⟨fun x hx => by simp [dfsL] at hx, fun x y hx => by simp [dfsL] at hx⟩
  | cons u us ih =>
    intro o hon ho
    obtain ⟨v, hv, hvn⟩ := hus u (by simp)
    subst hv
    have w1 := hw o v hvn ho
    have h1 := h o v hvn hon ho
    have hon1 : ∀ i, (step o v).1 i = true → i < zss.length := fun i hi => hon i (w1.shut i hi)
    have ho1 := Nat.lt_of_le_of_lt (opens_mono (n := zss.length) fun i _ hi => w1.shut i hi) ho
    have h2 := ih (fun x hx => hus x (by simp [hx])) (step o v).1 hon1 ho1
    have w2 := WalkP.list hw us (fun x hx => hus x (by simp [hx])) (step o v).1 ho1
    have e : (dfsL step o ((v : Int) :: us)).2 = (step o v).2 ++ (dfsL step (step o v).1 us).2 := by simp [dfsL]
    rw [e]
    have in1 : ∀ x : Nat, (x : Int) ∈ (step o v).2 → x < zss.length ∧ o x = true ∧ (step o v).1 x = false := fun x hx => by
      obtain ⟨i, hi, hin⟩ := w1.nat _ hx
      have : x = i := by omega
      subst this
      exact ⟨hin, (w1.mem x hin).1 hx⟩
    have in2 : ∀ x : Nat, (x : Int) ∈ (dfsL step (step o v).1 us).2 → x < zss.length ∧ (step o v).1 x = true := fun x hx => by
      obtain ⟨i, hi, hin⟩ := w2.nat _ hx
      have : x = i := by omega
      subst this
      exact ⟨hin, ((w2.mem x hin).1 hx).1⟩
    refine ⟨fun x hx => ?_, fun x y hx hy hp hn => ?_⟩
    · rcases List.mem_append.1 hx with hx | hx
      · obtain ⟨u, hu, hp⟩ := h1.pth x hx
        exact ⟨u, by simp at hu; simp [hu], hp⟩
      · obtain ⟨u, hu, hp⟩ := h2.pth x hx
        exact ⟨u, by simp [hu], hp.mono fun i hi => w1.shut i hi⟩
    · rcases List.mem_append.1 hy with hy | hy
      · rcases List.mem_append.1 hx with hx | hx
        · obtain ⟨z, z1, z2, z3⟩ := h1.ord x y hx hy hp hn
          exact ⟨z, z1, z2, z3.left⟩
        · exact ⟨x, .refl hp.first, .refl hp.first, _, _, rfl, hy, hx⟩
      · have hy2 := in2 y hy
        rcases List.mem_append.1 hx with hx | hx
        · have := w1.stays hon hp (in1 x hx).2.2
          rw [this] at hy2; cases hy2.2
        · have hp2 := w1.out hon hp hy2.2
          obtain ⟨z, z1, z2, z3⟩ := h2.ord x y hx hy hp2 (fun hc => hn (hc.mono fun i hi => w1.shut i hi))
          exact ⟨z, z1.mono fun i hi => w1.shut i hi, z2.mono fun i hi => w1.shut i hi, z3.right⟩

theorem dfs_ord {zss : List (List Int)} (hin : ∀ u : Nat, u < zss.length → ∀ x ∈ row zss u, ∃ v : Nat, x = (v : Int) ∧ v < zss.length) : ∀ f o v, v < zss.length → (∀ i, o i = true → i < zss.length) → opens o zss.length < f → OrdP zss o [(v : Int)] (dfs zss f o v).2 := by
  intro f
  induction f with
  | zero => intro o v _ _ h; omega
  | succ f ih =>
    intro o v hv hon hf
    cases ho : o v with
    | false =>
      have hd : dfs zss (f + 1) o v = (o, []) := by simp [dfs, ho]
      rw [hd]
      exact ⟨fun x hx => by simp at hx, fun x y hx => by simp at hx⟩
    | true =>
      have hs := opens_shut hv ho
      have hsub : ∀ i, mark1 o v false i = true → o i = true := fun i hi => by
        simp only [mark1] at hi
        split at hi
        · cases hi
        · exact hi
      have h := OrdP.list (m := f) (dfs_walk hin f) ih (row zss v) (hin v hv) (mark1 o v false) (fun i hi => hon i (hsub i hi)) (by omega)
      have hd : (dfs zss (f + 1) o v).2 = (dfsL (dfs zss f) (mark1 o v false) (row zss v)).2 ++ [(v : Int)] := by simp [dfs, ho]
      rw [hd]
      have hpt : ∀ x : Nat, (x : Int) ∈ (dfsL (dfs zss f) (mark1 o v false) (row zss v)).2 ++ [(v : Int)] → Pth zss o v x := fun x hx => by
        rcases List.mem_append.1 hx with hx | hx
        · obtain ⟨u, hu, hp⟩ := h.pth x hx
          exact (Pth.tail (.refl ho) hu (hsub _ hp.first)).trans (hp.mono hsub)
        · have : x = v := by simp at hx; omega
          subst this; exact .refl ho
      refine ⟨fun x hx => ⟨v, by simp, hpt x hx⟩, fun x y hx hy hp hn => ?_⟩
      rcases List.mem_append.1 hy with hy' | hy'
      · rcases List.mem_append.1 hx with hx' | hx'
        · rcases hp.through (v := v) with h1 | h1
          · obtain ⟨z, z1, z2, z3⟩ := h.ord x y hx' hy' h1 (fun hc => hn (hc.mono hsub))
            exact ⟨z, z1.mono hsub, z2.mono hsub, z3.left⟩
          · exact ⟨v, h1, hpt x hx, _, _, rfl, hy', by simp⟩
        · have : x = v := by simp at hx'; omega
          subst this
          exact ⟨x, .refl ho, .refl ho, _, _, rfl, hy', by simp⟩
      · have : y = v := by simp at hy'; omega
        subst this
        exact absurd (hpt x hx) hn

open Go.RowKit

/-- Of one component. -/
def Mut (zss : List (List Int)) (o : Nat → Bool) (x y : Nat) : Prop := Pth zss o x y ∧ Pth zss o y x

theorem Mut.symm {zss : List (List Int)} {o : Nat → Bool} {x y : Nat} (h : Mut zss o x y) : Mut zss o y x := ⟨h.2, h.1⟩
theorem Mut.trans {zss : List (List Int)} {o : Nat → Bool} {x y z : Nat} (h : Mut zss o x y) (k : Mut zss o y z) : Mut zss o x z := ⟨h.1.trans k.1, k.2.trans h.2⟩
theorem Mut.refl {zss : List (List Int)} {o : Nat → Bool} {x : Nat} (h : o x = true) : Mut zss o x x := ⟨.refl h, .refl h⟩

/-- ps are the predecessors. -/
structure PredP (zss ps : List (List Int)) : Prop where
  len : ps.length = zss.length
  mem : ∀ u v : Nat, u < zss.length → v < zss.length → ((u : Int) ∈ row ps v ↔ (v : Int) ∈ row zss u)
  nat : ∀ v : Nat, v < ps.length → ∀ x ∈ row ps v, ∃ u : Nat, x = (u : Int) ∧ u < ps.length

theorem PredP.rev {zss ps : List (List Int)} (hP : PredP zss ps) {U : Nat → Bool} (hon : ∀ i, U i = true → i < zss.length) {x y : Nat} (h : Pth ps U x y) : Pth zss U y x := by
  induction h with
  | refl h => exact .refl h
  | @tail y z hp hm ho ih =>
    have he := (hP.mem z y (hon z ho) (hon y hp.last)).1 hm
    exact (Pth.tail (.refl ho) he hp.last).trans ih
theorem PredP.fwd {zss ps : List (List Int)} (hP : PredP zss ps) {U : Nat → Bool} (hon : ∀ i, U i = true → i < zss.length) {x y : Nat} (h : Pth zss U x y) : Pth ps U y x := by
  induction h with
  | refl h => exact .refl h
  | @tail y z hp hm ho ih =>
    have he := (hP.mem y z (hon y hp.last) (hon z ho)).2 hm
    exact (Pth.tail (.refl ho) he hp.last).trans ih

theorem dfs_set {ps : List (List Int)} (hin : ∀ u : Nat, u < ps.length → ∀ x ∈ row ps u, ∃ v : Nat, x = (v : Int) ∧ v < ps.length) {f : Nat} {U : Nat → Bool} {v : Nat} (hv : v < ps.length) (hon : ∀ i, U i = true → i < ps.length) (hf : opens U ps.length < f) {u : Nat} (hu : u < ps.length) :
    (u : Int) ∈ (dfs ps f U v).2 ↔ Pth ps U v u := by
  have hw := dfs_walk hin f U v hv hf
  have ho := dfs_ord hin f U v hv hon hf
  constructor
  · intro h
    obtain ⟨u', hu', hp⟩ := ho.pth u h
    have : u' = v := by simp at hu'; omega
    rw [this] at hp; exact hp
  · intro h
    exact (hw.mem u hu).2 ⟨h.last, hw.stays hon h (hw.self v (by simp))⟩

theorem split_unique {α : Type} {x : α} : ∀ {A B A' B' : List α}, (A ++ x :: B).Nodup → A ++ x :: B = A' ++ x :: B' → A = A' ∧ B = B'
  | [], B, [], B', _, h => ⟨rfl, by simpa using h⟩
  | [], B, a :: A', B', hn, h => by
    simp at h
    obtain ⟨rfl, h2⟩ := h
    have hx : x ∉ B := (List.nodup_cons.1 hn).1
    rw [h2] at hx
    exact absurd (by simp) hx
  | a :: A, B, [], B', hn, h => by
    simp at h
    obtain ⟨rfl, h2⟩ := h
    have hx : a ∉ A ++ a :: B := (List.nodup_cons.1 hn).1
    exact absurd (by simp) hx
  | a :: A, B, a' :: A', B', hn, h => by
    simp at h
    obtain ⟨rfl, h2⟩ := h
    have hn' : (A ++ x :: B).Nodup := (List.nodup_cons.1 hn).2
    obtain ⟨h3, h4⟩ := split_unique hn' h2
    exact ⟨by rw [h3], h4⟩

theorem After.tail {A B : List Int} {v z : Nat} (hn : (A ++ (v : Int) :: B).Nodup) (h : After (A ++ (v : Int) :: B) v z) : (z : Int) ∈ B := by
  obtain ⟨A', B', h1, h2, h3⟩ := h
  obtain ⟨P, Q, rfl⟩ := List.append_of_mem h2
  have e : A ++ (v : Int) :: B = P ++ (v : Int) :: (Q ++ B') := by rw [h1]; simp
  obtain ⟨_, h5⟩ := split_unique hn e
  rw [h5]; exact List.mem_append.2 (.inr h3)

/-- Behind some rounds of the second pass: A is still to come, B is behind. -/
structure KosP (zss : List (List Int)) (o U : Nat → Bool) (B : List Int) : Prop where
  sub : ∀ i, U i = true → o i = true
  uni : ∀ x z, U x = true → Mut zss o x z → U z = true
  done : ∀ b : Nat, (b : Int) ∈ B → U b = false

theorem KosP.inside {zss : List (List Int)} {o U : Nat → Bool} {B : List Int} (h : KosP zss o U B) {u v : Nat} (hv : U v = true) (hvu : Pth zss o v u) : ∀ {y : Nat}, Pth zss o u y → Pth zss o y v → Pth zss U u y := by
  intro y hp
  induction hp with
  | refl ho => intro hy; exact .refl (h.uni v u hv ⟨hvu, hy⟩)
  | @tail y z hp hm ho ih =>
    intro hz
    have hy : Pth zss o y v := (Pth.tail (.refl hp.last) hm ho).trans hz
    exact .tail (ih hy) hm (h.uni v z hv ⟨hvu.trans (.tail hp hm ho), hz⟩)

/-- One round: what the walk from v takes is v's component, or nothing if v was taken before. -/
theorem KosP.step {zss ps : List (List Int)} {o U : Nat → Bool} {A B L : List Int} {v f : Nat} {us : List Int} (hP : PredP zss ps) (hon : ∀ i, o i = true → i < zss.length) (hord : OrdP zss o us L) (hnd : L.Nodup) (hall : ∀ i, o i = true → (i : Int) ∈ L)
    (hL : L = A ++ (v : Int) :: B) (hv : v < zss.length) (hf : opens U zss.length < f) (h : KosP zss o U B) :
    KosP zss o (dfs ps f U v).1 ((v : Int) :: B) ∧ (∀ u : Nat, (u : Int) ∈ (dfs ps f U v).2 ↔ U v = true ∧ Mut zss o u v) := by
  have honU : ∀ i, U i = true → i < zss.length := fun i hi => hon i (h.sub i hi)
  have hw := dfs_walk hP.nat f U v (by rw [hP.len]; exact hv) (by rw [hP.len]; exact hf)
  have hset : ∀ u : Nat, (u : Int) ∈ (dfs ps f U v).2 ↔ U v = true ∧ Mut zss o u v := fun u => by
    constructor
    · intro hu
      obtain ⟨i, hi, hin⟩ := hw.nat _ hu
      have e : u = i := by omega
      subst e
      have hp := (dfs_set hP.nat (by rw [hP.len]; exact hv) (fun i hi => by rw [hP.len]; exact honU i hi) (by rw [hP.len]; exact hf) hin).1 hu
      have hq := hP.rev honU hp
      have hq' := hq.mono h.sub
      refine ⟨hp.first, hq', ?_⟩
      apply Classical.byContradiction
      intro hn
      obtain ⟨z, z1, z2, z3⟩ := hord.ord u v (hall u hq'.first) (hall v hq'.last) hq' hn
      rw [hL] at z3 hnd
      have hz := h.done z (After.tail hnd z3)
      rw [h.uni u z hq.first ⟨z1, z2⟩] at hz
      cases hz
    · rintro ⟨hUv, hm⟩
      have hq := h.inside hUv hm.2 hm.1 (.refl (h.sub v hUv))
      have hp := hP.fwd honU hq
      exact (dfs_set hP.nat (by rw [hP.len]; exact hv) (fun i hi => by rw [hP.len]; exact honU i hi) (by rw [hP.len]; exact hf) (by rw [hP.len]; exact hon u hm.1.first)).2 hp
  refine ⟨⟨fun i hi => h.sub i (hw.shut i hi), fun x z hx hm => ?_, fun b hb => ?_⟩, hset⟩
  · have hUx := hw.shut x hx
    have hUz := h.uni x z hUx hm
    cases hb : (dfs ps f U v).1 z with
    | true => rfl
    | false =>
      have hz := (hw.mem z (by rw [hP.len]; exact honU z hUz)).2 ⟨hUz, hb⟩
      obtain ⟨hUv, hzv⟩ := (hset z).1 hz
      have hxv := (hset x).2 ⟨hUv, hm.trans hzv⟩
      have := ((hw.mem x (by rw [hP.len]; exact honU x hUx)).1 hxv).2
      rw [this] at hx; cases hx
  · rcases List.mem_cons.1 hb with hb | hb
    · have : b = v := by omega
      subst this
      exact hw.self b (by simp)
    · cases hc : (dfs ps f U v).1 b with
      | false => rfl
      | true => have := hw.shut b hc; rw [h.done b hb] at this; cases this

theorem KosP.start {zss : List (List Int)} {o : Nat → Bool} : KosP zss o o [] := ⟨fun _ h => h, fun _ _ _ h => h.1.last, fun b hb => by cases hb⟩

open Go.RowKit

open Classical in
/-- The component of v. -/
noncomputable def cls (zss : List (List Int)) (o : Nat → Bool) (S : List Int) (v : Nat) : List Int := S.filter fun x => decide (Mut zss o x.toNat v)

/-- Is a walk's part a component with a way back? -/
def kosC (zss : List (List Int)) (v : Int) (part : List Int) : Bool := decide (1 < part.length) || (part.length == 1 && hasB (row zss v.toNat) v)

/-- What the second pass appends, from the open vertices o on. -/
def kosR (zss ps : List (List Int)) (f : Nat) : (Nat → Bool) → List Int → List (List Int)
  | _, [] => []
  | o, v :: vs => (if kosC zss v (dfs ps f o v.toNat).2 then [(dfs ps f o v.toNat).2.mergeSort fun x y => decide (x ≤ y)] else []) ++ kosR zss ps f (dfs ps f o v.toNat).1 vs

theorem pth_rch {zss : List (List Int)} {o : Nat → Bool} {v u : Nat} (h : Pth zss o v u) (hne : u ≠ v) : Rch zss o [(v : Int)] u := by
  have key : u = v ∨ Rch zss o [(v : Int)] u := by
    induction h with
    | refl _ => exact .inl rfl
    | @tail y z hp hm ho ih =>
      right
      by_cases e : y = v
      · subst e; exact .one (by simp) hm ho
      · rcases ih e with h1 | h1
        · exact absurd h1 e
        · exact .more h1 hm ho
  exact key.resolve_left hne
theorem rch_pth {zss : List (List Int)} {o : Nat → Bool} {v u : Nat} (hv : o v = true) (h : Rch zss o [(v : Int)] u) : Pth zss o v u := by
  induction h with
  | @one a b hf hm ho =>
    have : a = v := by simp at hf; omega
    subst this
    exact .tail (.refl hv) hm ho
  | more _ hm ho ih => exact .tail ih hm ho
theorem rch_trans {zss : List (List Int)} {o : Nat → Bool} {v u z : Nat} (h : Rch zss o [(v : Int)] u) (k : Pth zss o u z) : Rch zss o [(v : Int)] z := by
  induction k with
  | refl _ => exact h
  | tail _ hm ho ih => exact .more ih hm ho

/-- A way back. -/
def Loop (zss : List (List Int)) (o : Nat → Bool) (v : Nat) : Prop := Rch zss o [(v : Int)] v

theorem Loop.of_mut {zss : List (List Int)} {o : Nat → Bool} {v w : Nat} (h : Loop zss o v) (m : Mut zss o w v) : Loop zss o w := by
  by_cases e : w = v
  · subst e; exact h
  · exact rch_trans (pth_rch m.1 (fun hh => e hh.symm)) m.2

theorem two_len {L : List Int} {a b : Int} (ha : a ∈ L) (hb : b ∈ L) (hne : a ≠ b) : 1 < L.length := by
  match L with
  | [] => cases ha
  | [x] => simp at ha hb; exact absurd (ha.trans hb.symm) hne
  | _ :: _ :: _ => simp

theorem kosC_iff {zss : List (List Int)} {o : Nat → Bool} {part : List Int} {w : Nat} (hw : o w = true) (hmem : ∀ u : Nat, (u : Int) ∈ part ↔ Mut zss o u w) (hnat : ∀ x ∈ part, ∃ u : Nat, x = (u : Int)) (hnd : part.Nodup) : kosC zss (w : Int) part = true ↔ Loop zss o w := by
  have hself : (w : Int) ∈ part := (hmem w).2 (.refl hw)
  have hpos : 0 < part.length := List.length_pos_of_mem hself
  unfold kosC
  rw [Bool.or_eq_true, Bool.and_eq_true, decide_eq_true_eq, beq_iff_eq, hasB_iff, Int.toNat_natCast]
  constructor
  · rintro (h | ⟨_, h⟩)
    · have : ∃ u ∈ part, u ≠ (w : Int) := by
        apply Classical.byContradiction
        intro hn
        have hall : ∀ x ∈ part, x = (w : Int) := fun x hx => Classical.byContradiction fun hh => hn ⟨x, hx, hh⟩
        match part, hnd, h with
        | a :: b :: r, hnd, _ =>
          have h1 := hall a (by simp)
          have h2 := hall b (by simp)
          rw [h1, h2] at hnd
          simp at hnd
      obtain ⟨x, hx, hne⟩ := this
      obtain ⟨u, rfl⟩ := hnat x hx
      have hm := (hmem u).1 hx
      have hne' : u ≠ w := by omega
      exact rch_trans (pth_rch hm.2 hne') hm.1
    · exact .one (by simp) h hw
  · intro h
    have selfloop : (w : Int) ∈ row zss w → 1 < part.length ∨ (part.length = 1 ∧ (w : Int) ∈ row zss w) := fun hm => by
      by_cases e : part.length = 1
      · exact .inr ⟨e, hm⟩
      · exact .inl (by omega)
    have key : ∀ x, Rch zss o [(w : Int)] x → x = w → (1 < part.length ∨ (part.length = 1 ∧ (w : Int) ∈ row zss w)) := fun x hr e => by
      cases hr with
      | @one a b hf hm ho =>
        have ha : a = w := by simp at hf; omega
        rw [ha, e] at hm
        exact selfloop hm
      | @more a b hr hm ho =>
        rw [e] at hm
        by_cases e2 : a = w
        · rw [e2] at hm; exact selfloop hm
        · have hp := rch_pth hw hr
          have hm2 : Mut zss o a w := ⟨.tail (.refl hp.last) hm hw, hp⟩
          exact .inl (two_len hself ((hmem a).2 hm2) (by omega))
    exact key w h rfl

theorem cls_mem {zss : List (List Int)} {o : Nat → Bool} {S : List Int} {v u : Nat} (hS : ∀ i, o i = true → (i : Int) ∈ S) : (u : Int) ∈ cls zss o S v ↔ Mut zss o u v := by
  simp only [cls, List.mem_filter, decide_eq_true_eq, Int.toNat_natCast]
  exact ⟨fun h => h.2, fun h => ⟨hS u h.1.first, h⟩⟩

theorem cls_congr {zss : List (List Int)} {o : Nat → Bool} {S : List Int} {v w : Nat} (h : Mut zss o v w) : cls zss o S v = cls zss o S w := by
  unfold cls
  exact List.filter_congr fun x _ => decide_eq_decide.2 ⟨fun hx => hx.trans h, fun hx => hx.trans h.symm⟩

/-- A component, sorted, is the filter. -/
theorem sort_cls {zss : List (List Int)} {o : Nat → Bool} {S part : List Int} {w : Nat} (hS : ∀ i, o i = true → (i : Int) ∈ S) (hp : S.Pairwise (· < ·)) (hnS : ∀ x ∈ S, ∃ u : Nat, x = (u : Int)) (hmem : ∀ u : Nat, (u : Int) ∈ part ↔ Mut zss o u w) (hnat : ∀ x ∈ part, ∃ u : Nat, x = (u : Int)) (hnd : part.Nodup) :
    (part.mergeSort fun x y => decide (x ≤ y)) = cls zss o S w := by
  have hs := List.pairwise_mergeSort (le := fun x y : Int => decide (x ≤ y)) (fun a b c h1 h2 => by simp at *; omega) (fun a b => by simp; omega) part
  have hn2 : (part.mergeSort fun x y => decide (x ≤ y)).Nodup := (List.mergeSort_perm _ _).nodup_iff.2 hnd
  refine rising_ext ?_ ?_ fun x => ?_
  · exact (hs.and hn2).imp fun ⟨h1, h2⟩ => by simp at h1; omega
  · unfold cls; exact hp.sublist List.filter_sublist
  · rw [List.mem_mergeSort]
    constructor
    · intro hx
      obtain ⟨u, rfl⟩ := hnat x hx
      exact (cls_mem hS).2 ((hmem u).1 hx)
    · intro hx
      obtain ⟨u, rfl⟩ := hnS x (List.mem_filter.1 hx).1
      exact (hmem u).2 ((cls_mem hS).1 hx)

/-- What the second pass gives. -/
structure KosR (zss : List (List Int)) (o U : Nat → Bool) (S vs : List Int) (R : List (List Int)) : Prop where
  c1 : ∀ p ∈ R, ∃ v : Nat, U v = true ∧ Loop zss o v ∧ p = cls zss o S v
  c2 : ∀ v : Nat, U v = true → (v : Int) ∈ vs → Loop zss o v → cls zss o S v ∈ R
  c3 : R.Pairwise fun p q => ∀ x ∈ p, x ∉ q

theorem kosR_is {zss ps : List (List Int)} {o : Nat → Bool} {L S us : List Int} {f : Nat} (hP : PredP zss ps) (hon : ∀ i, o i = true → i < zss.length) (hord : OrdP zss o us L) (hnd : L.Nodup) (hall : ∀ i, o i = true → (i : Int) ∈ L) (hLn : ∀ x ∈ L, ∃ v : Nat, x = (v : Int) ∧ v < zss.length)
    (hS : ∀ i, o i = true → (i : Int) ∈ S) (hSp : S.Pairwise (· < ·)) (hSn : ∀ x ∈ S, ∃ u : Nat, x = (u : Int)) (hf : zss.length < f) :
    ∀ (vs B : List Int) (U : Nat → Bool), L = vs.reverse ++ B → KosP zss o U B → KosR zss o U S vs (kosR zss ps f U vs)
  | [], _, _, _, _ => ⟨fun p hp => by simp [kosR] at hp, fun v _ hv => by simp at hv, by simp [kosR]⟩
  | x :: vs, B, U, hL, hk => by
    have hL2 : L = vs.reverse ++ x :: B := by rw [hL]; simp
    obtain ⟨v, hv, hvn⟩ := hLn x (by rw [hL2]; simp)
    subst hv
    have hfo : opens U zss.length < f := Nat.lt_of_le_of_lt (opens_le _ _) hf
    obtain ⟨hk2, hset⟩ := hk.step hP hon hord hnd hall hL2 hvn hfo
    have ih := kosR_is hP hon hord hnd hall hLn hS hSp hSn hf vs ((v : Int) :: B) (dfs ps f U v).1 hL2 hk2
    have hw := dfs_walk hP.nat f U v (by rw [hP.len]; exact hvn) (by rw [hP.len]; exact hfo)
    have hpn : ∀ y ∈ (dfs ps f U v).2, ∃ u : Nat, y = (u : Int) := fun y hy => by obtain ⟨u, hu, _⟩ := hw.nat y hy; exact ⟨u, hu⟩
    have honU : ∀ i, U i = true → i < ps.length := fun i hi => by rw [hP.len]; exact hon i (hk.sub i hi)
    have e : kosR zss ps f U ((v : Int) :: vs) = (if kosC zss (v : Int) (dfs ps f U v).2 then [(dfs ps f U v).2.mergeSort fun x y => decide (x ≤ y)] else []) ++ kosR zss ps f (dfs ps f U v).1 vs := by simp [kosR]
    rw [e]
    cases hU : U v with
    | false =>
      have hemp : (dfs ps f U v).2 = [] := by
        rw [List.eq_nil_iff_forall_not_mem]
        intro y hy
        obtain ⟨u, rfl⟩ := hpn y hy
        have := ((hset u).1 hy).1
        rw [hU] at this; cases this
      have hc : kosC zss (v : Int) (dfs ps f U v).2 = false := by rw [hemp]; simp [kosC]
      rw [hc]
      simp only [Bool.false_eq_true, if_false, List.nil_append]
      have hsame : ∀ i, U i = true → (dfs ps f U v).1 i = true := fun i hi => by
        cases hb : (dfs ps f U v).1 i with
        | true => rfl
        | false => have := (hw.mem i (honU i hi)).2 ⟨hi, hb⟩; rw [hemp] at this; cases this
      refine ⟨fun p hp => ?_, fun u hu hm hl => ?_, ih.c3⟩
      · obtain ⟨u, h1, h2, h3⟩ := ih.c1 p hp
        exact ⟨u, hw.shut u h1, h2, h3⟩
      · rcases List.mem_cons.1 hm with hm | hm
        · have : u = v := by omega
          subst this; rw [hU] at hu; cases hu
        · exact ih.c2 u (hsame u hu) hm hl
    | true =>
      have hov := hk.sub v hU
      have hmem : ∀ u : Nat, (u : Int) ∈ (dfs ps f U v).2 ↔ Mut zss o u v := fun u => (hset u).trans ⟨fun h => h.2, fun h => ⟨hU, h⟩⟩
      have hiff := kosC_iff hov hmem hpn hw.nodup
      have hsort := sort_cls hS hSp hSn hmem hpn hw.nodup
      have hshut : ∀ u : Nat, Mut zss o u v → (dfs ps f U v).1 u = false := fun u hu => by
        have h1 := (hmem u).2 hu
        obtain ⟨i, hi, hin⟩ := hw.nat _ h1
        have : u = i := by omega
        subst this
        exact ((hw.mem u hin).1 h1).2
      have hc2 : ∀ u : Nat, U u = true → (u : Int) ∈ (v : Int) :: vs → Loop zss o u → ¬ Mut zss o u v → cls zss o S u ∈ kosR zss ps f (dfs ps f U v).1 vs := fun u hu hm hl hn => by
        have hb : (dfs ps f U v).1 u = true := by
          cases hb : (dfs ps f U v).1 u with
          | true => rfl
          | false => exact absurd ((hmem u).1 ((hw.mem u (honU u hu)).2 ⟨hu, hb⟩)) hn
        rcases List.mem_cons.1 hm with hm | hm
        · have : u = v := by omega
          subst this
          exact absurd (.refl hov) hn
        · exact ih.c2 u hb hm hl
      cases hc : kosC zss (v : Int) (dfs ps f U v).2 with
      | true =>
        have hloop := hiff.1 hc
        simp only [if_true, List.singleton_append]
        rw [hsort]
        refine ⟨fun p hp => ?_, fun u hu hm hl => ?_, List.pairwise_cons.2 ⟨fun q hq y hy hy2 => ?_, ih.c3⟩⟩
        · rcases List.mem_cons.1 hp with rfl | hp
          · exact ⟨v, hU, hloop, rfl⟩
          · obtain ⟨u, h1, h2, h3⟩ := ih.c1 p hp
            exact ⟨u, hw.shut u h1, h2, h3⟩
        · by_cases hmv : Mut zss o u v
          · rw [cls_congr hmv]; simp
          · exact List.mem_cons_of_mem _ (hc2 u hu hm hl hmv)
        · obtain ⟨u, h1, h2, h3⟩ := ih.c1 q hq
          subst h3
          obtain ⟨z, rfl⟩ := hSn y (List.mem_filter.1 hy).1
          have m1 := (cls_mem hS).1 hy
          have m2 := (cls_mem hS).1 hy2
          rw [hshut u (m2.symm.trans m1)] at h1
          cases h1
      | false =>
        have hnl : ¬ Loop zss o v := fun hl => by rw [hiff.2 hl] at hc; cases hc
        simp only [Bool.false_eq_true, if_false, List.nil_append]
        refine ⟨fun p hp => ?_, fun u hu hm hl => ?_, ih.c3⟩
        · obtain ⟨u, h1, h2, h3⟩ := ih.c1 p hp
          exact ⟨u, hw.shut u h1, h2, h3⟩
        · by_cases hmv : Mut zss o u v
          · exact absurd (hl.of_mut hmv.symm) hnl
          · exact hc2 u hu hm hl hmv

open Go.RowKit

/-- The first element. -/
def hd (p : List Int) : Int := nth p 0

theorem keyed_ext {l m : List (List Int)} (h1 : l.Pairwise fun p q => hd p < hd q) (h2 : m.Pairwise fun p q => hd p < hd q) (h : ∀ p, p ∈ l ↔ p ∈ m) : l = m := by
  have n1 : l.Nodup := h1.imp fun hab e => by rw [e] at hab; omega
  have n2 : m.Nodup := h2.imp fun hab e => by rw [e] at hab; omega
  exact ((List.perm_ext_iff_of_nodup n1 n2).2 h).eq_of_pairwise (le := fun p q => hd p < hd q) (fun a b _ _ h1 h2 => by omega) h1 h2

theorem hd_mem {p : List Int} {x : Int} (h : x ∈ p) : hd p ∈ p := by
  match p with
  | [] => cases h
  | a :: r => simp [hd, nth]
theorem hd_least {p : List Int} {v : Int} (hp : p.Pairwise (· < ·)) (hv : v ∈ p) (hl : ∀ x ∈ p, v ≤ x) : hd p = v := by
  match p with
  | [] => cases hv
  | a :: r =>
    have h1 := hl a (by simp)
    have e : hd (a :: r) = a := by simp [hd, nth]
    rw [e]
    rcases List.mem_cons.1 hv with rfl | hv
    · rfl
    · have := (List.pairwise_cons.1 hp).1 v hv
      omega

/-- The marks of a set. -/
structure SetO (S : List Int) (o : Nat → Bool) : Prop where
  iff : ∀ i : Nat, o i = true ↔ (i : Int) ∈ S
  rise : S.Pairwise (· < ·)
  nat : ∀ x ∈ S, ∃ u : Nat, x = (u : Int)

open Classical in
theorem farF_iff {zss : List (List Int)} {S : List Int} {v u : Nat} : farF zss S v u = true ↔ Rch zss (openS S S.length) [(v : Int)] u := by
  unfold farF beyM; exact decide_eq_true_iff

theorem openS_all (S : List Int) (i : Nat) : openS S S.length i = true ↔ (i : Int) ∈ S := by simp [openS]

theorem partF_cls {zss : List (List Int)} {S : List Int} {v : Nat} (hS : SetO S (openS S S.length)) (hv : (v : Int) ∈ S) (hl : Loop zss (openS S S.length) v) : partF (farF zss S) S v = cls zss (openS S S.length) S v := by
  unfold partF cls
  refine List.filter_congr fun x hx => ?_
  obtain ⟨u, rfl⟩ := hS.nat x hx
  have hou := (hS.iff u).2 hx
  have hov := (hS.iff v).2 hv
  rw [Bool.eq_iff_iff]
  simp only [Bool.and_eq_true, farF_iff, Int.toNat_natCast, decide_eq_true_eq]
  by_cases e : u = v
  · subst e; exact ⟨fun _ => .refl hov, fun _ => ⟨hl, hl⟩⟩
  · exact ⟨fun ⟨h1, h2⟩ => ⟨rch_pth hou h2, rch_pth hov h1⟩, fun ⟨h1, h2⟩ => ⟨pth_rch h2 e, pth_rch h1 (fun h => e h.symm)⟩⟩

/-- What the model has behind k elements. -/
structure ModP (zss : List (List Int)) (o : Nat → Bool) (S : List Int) (k : Nat) (out : List (List Int)) (d : Nat → Bool) : Prop where
  a : ∀ p ∈ out, ∃ v : Nat, (v : Int) ∈ S.take k ∧ Loop zss o v ∧ p = cls zss o S v
  b : ∀ v : Nat, (v : Int) ∈ S.take k → Loop zss o v → cls zss o S v ∈ out
  c : ∀ u : Nat, d u = true ↔ ∃ v : Nat, (v : Int) ∈ S.take k ∧ Loop zss o v ∧ Mut zss o u v
  e : out.Pairwise fun p q => hd p < hd q
  g : ∀ p ∈ out, hd p ∈ S.take k

theorem loopsK_mod {zss : List (List Int)} {S : List Int} (hS : SetO S (openS S S.length)) : ∀ k, k ≤ S.length → ModP zss (openS S S.length) S k (loopsK (farF zss S) S k).1 (loopsK (farF zss S) S k).2
  | 0, _ => ⟨fun p hp => by simp [loopsK] at hp, fun v hv => by simp at hv, fun u => by simp [loopsK], by simp [loopsK], fun p hp => by simp [loopsK] at hp⟩
  | k + 1, hk => by
    have ih := loopsK_mod (zss := zss) hS k (by omega)
    obtain ⟨v, hv⟩ := hS.nat _ (nth_mem (show k < S.length by omega))
    have hvS : (v : Int) ∈ S := by rw [← hv]; exact nth_mem (by omega)
    have hov := (hS.iff v).2 hvS
    have ht : S.take (k + 1) = S.take k ++ [(v : Int)] := by
      rw [List.take_add_one, List.getElem?_eq_getElem (by omega), ← hv, nth_eq (by omega)]; rfl
    have hlt : ∀ x ∈ S.take k, x < (v : Int) := fun x hx => by
      have hp := hS.rise
      rw [← List.take_append_drop (k + 1) S, ht, List.append_assoc] at hp
      exact (List.pairwise_append.1 hp).2.2 x hx (v : Int) (by simp)
    have hvt : (nth S k).toNat = v := by rw [hv]; simp
    have hmemS : ∀ i : Nat, openS S S.length i = true → (i : Int) ∈ S := fun i hi => (hS.iff i).1 hi
    rw [loopsK, hvt]
    cases hd1 : (loopsK (farF zss S) S k).2 v with
    | true =>
      simp only [Bool.true_or, if_true]
      obtain ⟨w, hw1, hw2, hw3⟩ := (ih.c v).1 hd1
      refine ⟨fun p hp => ?_, fun u hu hl => ?_, fun u => ?_, ih.e, fun p hp => ?_⟩
      · obtain ⟨u, h1, h2, h3⟩ := ih.a p hp
        exact ⟨u, by rw [ht]; simp [h1], h2, h3⟩
      · rw [ht] at hu
        rcases List.mem_append.1 hu with hu | hu
        · exact ih.b u hu hl
        · have : u = v := by simp at hu; omega
          subst this
          rw [cls_congr hw3]; exact ih.b w hw1 hw2
      · rw [ih.c u]
        constructor
        · rintro ⟨z, h1, h2, h3⟩; exact ⟨z, by rw [ht]; simp [h1], h2, h3⟩
        · rintro ⟨z, h1, h2, h3⟩
          rw [ht] at h1
          rcases List.mem_append.1 h1 with h1 | h1
          · exact ⟨z, h1, h2, h3⟩
          · have : z = v := by simp at h1; omega
            subst this
            exact ⟨w, hw1, hw2, h3.trans hw3⟩
      · have := ih.g p hp; rw [ht]; simp [this]
    | false =>
      cases hf : farF zss S v v with
      | false =>
        simp only [Bool.false_or, Bool.not_false, if_true]
        have hnl : ¬ Loop zss (openS S S.length) v := fun h => by rw [farF_iff.2 h] at hf; cases hf
        refine ⟨fun p hp => ?_, fun u hu hl => ?_, fun u => ?_, ih.e, fun p hp => ?_⟩
        · obtain ⟨u, h1, h2, h3⟩ := ih.a p hp
          exact ⟨u, by rw [ht]; simp [h1], h2, h3⟩
        · rw [ht] at hu
          rcases List.mem_append.1 hu with hu | hu
          · exact ih.b u hu hl
          · have : u = v := by simp at hu; omega
            subst this; exact absurd hl hnl
        · rw [ih.c u]
          constructor
          · rintro ⟨z, h1, h2, h3⟩; exact ⟨z, by rw [ht]; simp [h1], h2, h3⟩
          · rintro ⟨z, h1, h2, h3⟩
            rw [ht] at h1
            rcases List.mem_append.1 h1 with h1 | h1
            · exact ⟨z, h1, h2, h3⟩
            · have : z = v := by simp at h1; omega
              subst this; exact absurd h2 hnl
        · have := ih.g p hp; rw [ht]; simp [this]
      | true =>
        have hl : Loop zss (openS S S.length) v := farF_iff.1 hf
        simp only [Bool.false_or, Bool.not_true, Bool.false_eq_true, if_false]
        rw [partF_cls hS hvS hl]
        have hself : (v : Int) ∈ cls zss (openS S S.length) S v := (cls_mem hmemS).2 (.refl hov)
        have hrise : (cls zss (openS S S.length) S v).Pairwise (· < ·) := hS.rise.sublist List.filter_sublist
        have hhd : hd (cls zss (openS S S.length) S v) = (v : Int) := hd_least hrise hself fun x hx => by
          have hxS : x ∈ S := (List.mem_filter.1 hx).1
          obtain ⟨u, rfl⟩ := hS.nat x hxS
          have hm := (cls_mem hmemS).1 hx
          apply Classical.byContradiction
          intro hlt2
          have hin : (u : Int) ∈ S.take k := by
            have hx2 := hxS
            rw [← List.take_append_drop (k + 1) S, ht] at hx2
            rcases List.mem_append.1 hx2 with h | h
            · rcases List.mem_append.1 h with h | h
              · exact h
              · simp at h; omega
            · have hp := hS.rise
              rw [← List.take_append_drop (k + 1) S, ht] at hp
              have := (List.pairwise_append.1 hp).2.2 (v : Int) (by simp) (u : Int) h
              omega
          have := (ih.c v).2 ⟨u, hin, hl.of_mut hm, hm.symm⟩
          rw [hd1] at this; cases this
        refine ⟨fun p hp => ?_, fun u hu hlu => ?_, fun u => ?_, List.pairwise_append.2 ⟨ih.e, by simp, fun p hp q hq => ?_⟩, fun p hp => ?_⟩
        · rcases List.mem_append.1 hp with hp | hp
          · obtain ⟨u, h1, h2, h3⟩ := ih.a p hp
            exact ⟨u, by rw [ht]; simp [h1], h2, h3⟩
          · exact ⟨v, by rw [ht]; simp, hl, by simpa using hp⟩
        · rw [ht] at hu
          rcases List.mem_append.1 hu with hu | hu
          · exact List.mem_append.2 (.inl (ih.b u hu hlu))
          · have : u = v := by simp at hu; omega
            subst this; simp
        · rw [Bool.or_eq_true, ih.c u, hasB_iff, cls_mem hmemS]
          constructor
          · rintro (⟨z, h1, h2, h3⟩ | h)
            · exact ⟨z, by rw [ht]; simp [h1], h2, h3⟩
            · exact ⟨v, by rw [ht]; simp, hl, h⟩
          · rintro ⟨z, h1, h2, h3⟩
            rw [ht] at h1
            rcases List.mem_append.1 h1 with h1 | h1
            · exact .inl ⟨z, h1, h2, h3⟩
            · have : z = v := by simp at h1; omega
              subst this; exact .inr h3
        · have hq' : q = cls zss (openS S S.length) S v := by simpa using hq
          rw [hq', hhd]
          exact hlt _ (ih.g p hp)
        · rcases List.mem_append.1 hp with hp | hp
          · have := ih.g p hp; rw [ht]; simp [this]
          · have hp' : p = cls zss (openS S S.length) S v := by simpa using hp
            rw [hp', hhd, ht]; simp

/-- Whoever gives each component once, by the smallest first, gives the model's list. -/
theorem loops_eq {zss : List (List Int)} {S vs : List Int} {R R0 : List (List Int)} (hS : SetO S (openS S S.length)) (h : KosR zss (openS S S.length) (openS S S.length) S vs R0) (hvs : ∀ x ∈ S, x ∈ vs) (hp : R.Perm R0) (hs : R.Pairwise fun p q => ¬ hd q < hd p) :
    R = loopsS zss S := by
  have hm := loopsK_mod (zss := zss) hS S.length (Nat.le_refl _)
  have hmemS : ∀ i : Nat, openS S S.length i = true → (i : Int) ∈ S := fun i hi => (hS.iff i).1 hi
  have hne : ∀ p ∈ R0, hd p ∈ p := fun p hp => by
    obtain ⟨v, h1, _, h3⟩ := h.c1 p hp
    rw [h3]
    exact hd_mem ((cls_mem hmemS).2 (.refl h1))
  have hsym : ∀ {p q : List Int}, (∀ x ∈ p, x ∉ q) → (∀ x ∈ q, x ∉ p) := fun hh x hx hp => hh x hp hx
  have hdis : R.Pairwise fun p q => ∀ x ∈ p, x ∉ q := (hp.pairwise_iff (fun hh => hsym hh)).2 h.c3
  refine keyed_ext ?_ hm.e fun p => ?_
  · refine (hs.and hdis).imp_of_mem fun {a b} ha hb ⟨h1, h2⟩ => ?_
    have e1 := hne a (hp.mem_iff.1 ha)
    have e2 := hne b (hp.mem_iff.1 hb)
    have : hd a ≠ hd b := fun e => h2 (hd a) e1 (by rw [e]; exact e2)
    omega
  · rw [hp.mem_iff]
    constructor
    · intro hpr
      obtain ⟨v, h1, h2, h3⟩ := h.c1 p hpr
      rw [h3]; exact hm.b v (by rw [List.take_length]; exact hmemS v h1) h2
    · intro hpm
      obtain ⟨v, h1, h2, h3⟩ := hm.a p hpm
      rw [List.take_length] at h1
      rw [h3]; exact h.c2 v ((hS.iff v).2 h1) (hvs _ h1) h2

open Go.RowKit

/-- What the second pass has open and appends behind one more vertex. -/
theorem kosR_snoc (zss ps : List (List Int)) (f : Nat) (v : Int) : ∀ (vs : List Int) (o : Nat → Bool), kosR zss ps f o (vs ++ [v]) = kosR zss ps f o vs ++ (if kosC zss v (dfs ps f (dfsL (dfs ps f) o vs).1 v.toNat).2 then [(dfs ps f (dfsL (dfs ps f) o vs).1 v.toNat).2.mergeSort fun x y => decide (x ≤ y)] else [])
  | [], o => List.append_nil _
  | x :: vs, o => by
    have ih := kosR_snoc zss ps f v vs (dfs ps f o x.toNat).1
    rw [List.cons_append, kosR, ih, kosR, List.append_assoc]
    rfl

theorem predsK_iffK (zss : List (List Int)) (u : Int) (k : Nat) (v : Nat) : (v : Int) ∈ predsK zss u k ↔ v < k ∧ u ∈ row zss v := by
  induction k with
  | zero => simp [predsK]
  | succ k ih =>
    simp only [predsK, List.mem_append, ih]
    constructor
    · rintro (⟨h1, h2⟩ | h)
      · exact ⟨by omega, h2⟩
      · split at h
        · next hh =>
          have e : v = k := by simp at h; omega
          subst e; exact ⟨by omega, hasB_iff.1 hh⟩
        · simp at h
    · rintro ⟨h1, h2⟩
      by_cases e : v = k
      · subst e; exact .inr (by rw [if_pos (hasB_iff.2 h2)]; simp)
      · exact .inl ⟨by omega, h2⟩

/-- The predecessors' rows. -/
def predR (zss : List (List Int)) (n : Nat) : List (List Int) := rowsOf n fun u => predsK zss u zss.length

theorem predR_predP {zss : List (List Int)} : PredP zss (predR zss zss.length) where
  len := rowsOf_len _ _
  mem u v hu hv := by rw [predR, rowsOf_row hv, predsK_iffK]; exact ⟨fun h => h.2, fun h => ⟨hu, h⟩⟩
  nat v hv x hx := by
    have hl : (predR zss zss.length).length = zss.length := rowsOf_len _ _
    rw [hl] at hv
    rw [predR, rowsOf_row hv] at hx
    have := predsK_mem zss v _ x hx
    exact ⟨x.toNat, by omega, by rw [hl]; omega⟩

theorem predR_short {zss : List (List Int)} {n : Nat} (hn : zss.length ≤ 256) : ∀ u, u < (predR zss n).length → (row (predR zss n) u).length ≤ 256 := fun u hu => by
  have hl : (predR zss n).length = n := rowsOf_len _ _
  rw [predR, rowsOf_row (by omega)]
  exact Nat.le_trans (predsK_len _ _ _) hn

/-- What the first pass leaves behind. -/
def aheadL (zss : List (List Int)) (S : List Int) (f : Nat) : List Int := (dfsL (dfs zss f) (openS S S.length) S).2

theorem setO_of {n : Nat} {S : List Int} (hp : S.Pairwise (· < ·)) (h : setB n S = true) : SetO S (openS S S.length) :=
  ⟨openS_all S, hp, fun x hx => by obtain ⟨u, hu, _⟩ := set_nats h x hx; exact ⟨u, hu⟩⟩

theorem aheadL_walk {zss : List (List Int)} {S : List Int} {f : Nat} (hin : ∀ u : Nat, u < zss.length → ∀ x ∈ row zss u, ∃ v : Nat, x = (v : Int) ∧ v < zss.length) (hS : ∀ x ∈ S, ∃ u : Nat, x = (u : Int) ∧ u < zss.length) (hf : zss.length < f) :
    WalkP zss (openS S S.length) S (dfsL (dfs zss f) (openS S S.length) S) :=
  WalkP.list (dfs_walk hin f) S hS (openS S S.length) (Nat.lt_of_le_of_lt (opens_le _ _) hf)

theorem aheadL_nats {zss : List (List Int)} {S : List Int} {f : Nat} (hin : ∀ u : Nat, u < zss.length → ∀ x ∈ row zss u, ∃ v : Nat, x = (v : Int) ∧ v < zss.length) (hS : ∀ x ∈ S, ∃ u : Nat, x = (u : Int) ∧ u < zss.length) (hf : zss.length < f) :
    ∀ x ∈ aheadL zss S f, ∃ u : Nat, x = (u : Int) ∧ u < zss.length := (aheadL_walk hin hS hf).nat

/-- Both passes, and the sort by the first elements, give the model's list. -/
theorem kos_all {zss R : List (List Int)} {S : List Int} {f : Nat} (hin : ∀ u : Nat, u < zss.length → ∀ x ∈ row zss u, ∃ v : Nat, x = (v : Int) ∧ v < zss.length) (hp : S.Pairwise (· < ·)) (hSB : setB zss.length S = true) (hf : zss.length < f)
    (hR : R.Perm (kosR zss (predR zss zss.length) f (openS S S.length) (aheadL zss S f).reverse)) (hs : R.Pairwise fun p q => ¬ hd q < hd p) : R = loopsS zss S := by
  have hSn := set_nats hSB
  have hw := aheadL_walk hin hSn hf
  have hO := setO_of hp hSB
  have hon : ∀ i, openS S S.length i = true → i < zss.length := fun i hi => by
    obtain ⟨u, hu, hl⟩ := hSn _ ((openS_all S i).1 hi); omega
  have hall : ∀ i, openS S S.length i = true → (i : Int) ∈ aheadL zss S f := fun i hi =>
    (hw.mem i (hon i hi)).2 ⟨hi, hw.self i ((openS_all S i).1 hi)⟩
  have hord : OrdP zss (openS S S.length) S (aheadL zss S f) := OrdP.list (dfs_walk hin f) (dfs_ord hin f) S hSn _ hon (Nat.lt_of_le_of_lt (opens_le _ _) hf)
  have hk := kosR_is (S := S) (f := f) predR_predP hon hord hw.nodup hall hw.nat (fun i hi => (openS_all S i).1 hi) hp hO.nat hf (aheadL zss S f).reverse [] (openS S S.length) (by simp) KosP.start
  refine loops_eq hO hk (fun x hx => ?_) hR hs
  obtain ⟨u, hu, _⟩ := hSn x hx
  subst hu
  exact List.mem_reverse.2 (hall u ((openS_all S u).2 hx))

/-- A component is not empty. -/
theorem kosR_ne (zss ps : List (List Int)) (f : Nat) : ∀ (vs : List Int) (o : Nat → Bool), ∀ p ∈ kosR zss ps f o vs, 0 < p.length
  | [], _, p, h => by simp [kosR] at h
  | v :: vs, o, p, h => by
    rw [kosR, List.mem_append] at h
    rcases h with h | h
    · split at h
      · next hc =>
        have : p = (dfs ps f o v.toNat).2.mergeSort fun x y => decide (x ≤ y) := by simpa using h
        rw [this, List.length_mergeSort]
        unfold kosC at hc
        rw [Bool.or_eq_true, Bool.and_eq_true] at hc
        rcases hc with hc | ⟨hc, _⟩
        · have := of_decide_eq_true hc; omega
        · have := of_decide_eq_true hc; omega
      · simp at h
    · exact kosR_ne zss ps f vs _ p h

theorem kosR_len (zss ps : List (List Int)) (f : Nat) : ∀ (vs : List Int) (o : Nat → Bool), (kosR zss ps f o vs).length ≤ vs.length
  | [], _ => by simp [kosR]
  | v :: vs, o => by
    rw [kosR, List.length_append, List.length_cons]
    have := kosR_len zss ps f vs (dfs ps f o v.toNat).1
    split <;> simp <;> omega

end Go.Proofs.YtokcinhopajniaaGreatDoor
