/-
  The order in which the cursor leaves vertices behind, and what it says of components. No program text.
-/
import Derived.Test.YtkfmaajhemijlaaWalk
namespace Go.Proofs.Ytkfmaajhemijlaa
open Go.RowKit

/-- From x to y by any number of steps, all vertices open. -/
inductive Pth (zss : List (List Int)) (o : Nat → Bool) : Nat → Nat → Prop
  | refl {x : Nat} : o x = true → Pth zss o x x
  | tail {x y z : Nat} : Pth zss o x y → (z : Int) ∈ row zss y → o z = true → Pth zss o x z

theorem Pth.first {zss : List (List Int)} {o : Nat → Bool} {x y : Nat} (h : Pth zss o x y) : o x = true := by
  induction h with
  | refl h => exact h
  | tail _ _ _ ih => exact ih
theorem Pth.last {zss : List (List Int)} {o : Nat → Bool} {x y : Nat} (h : Pth zss o x y) : o y = true := by
  cases h with
  | refl h => exact h
  | tail _ _ h => exact h
theorem Pth.trans {zss : List (List Int)} {o : Nat → Bool} {x y z : Nat} (h : Pth zss o x y) (k : Pth zss o y z) : Pth zss o x z := by
  induction k with
  | refl _ => exact h
  | tail _ hm ho ih => exact .tail ih hm ho
theorem Pth.mono {zss : List (List Int)} {o o' : Nat → Bool} (hs : ∀ i, o i = true → o' i = true) {x y : Nat} (h : Pth zss o x y) : Pth zss o' x y := by
  induction h with
  | refl h => exact .refl (hs _ h)
  | tail _ hm ho ih => exact .tail ih hm (hs _ ho)
/-- One vertex shut: a way either avoids it or leads to it. -/
theorem Pth.through {zss : List (List Int)} {o : Nat → Bool} {v x y : Nat} (h : Pth zss o x y) : Pth zss (mark1 o v false) x y ∨ Pth zss o x v := by
  induction h with
  | refl h =>
    by_cases e : x = v
    · subst e; exact .inr (.refl h)
    · exact .inl (.refl (by simp [mark1, e, h]))
  | @tail y z hp hm ho ih =>
    rcases ih with ih | ih
    · by_cases e : z = v
      · subst e; exact .inr (.tail hp hm ho)
      · exact .inl (.tail ih hm (by simp [mark1, e, ho]))
    · exact .inr ih

/-- a stands ahead of b. -/
def After (L : List Int) (a b : Nat) : Prop := ∃ A B, L = A ++ B ∧ (a : Int) ∈ A ∧ (b : Int) ∈ B

theorem After.left {L M : List Int} {a b : Nat} (h : After L a b) : After (L ++ M) a b := by
  obtain ⟨A, B, h1, h2, h3⟩ := h
  exact ⟨A, B ++ M, by rw [h1, List.append_assoc], h2, List.mem_append.2 (.inl h3)⟩
theorem After.right {L M : List Int} {a b : Nat} (h : After M a b) : After (L ++ M) a b := by
  obtain ⟨A, B, h1, h2, h3⟩ := h
  exact ⟨L ++ A, B, by rw [h1, List.append_assoc], List.mem_append.2 (.inr h2), h3⟩

/-- What is left behind is reached; and of two that are not of one component the later one's component ends later. -/
structure OrdP (zss : List (List Int)) (o : Nat → Bool) (us : List Int) (L : List Int) : Prop where
  pth : ∀ x : Nat, (x : Int) ∈ L → ∃ u : Nat, (u : Int) ∈ us ∧ Pth zss o u x
  ord : ∀ x y : Nat, (x : Int) ∈ L → (y : Int) ∈ L → Pth zss o x y → ¬ Pth zss o y x → ∃ z, Pth zss o x z ∧ Pth zss o z x ∧ After L y z

theorem WalkP.stays {zss : List (List Int)} {o : Nat → Bool} {us : List Int} {r : (Nat → Bool) × List Int} (h : WalkP zss o us r) (hon : ∀ i, o i = true → i < zss.length) {x y : Nat} (hp : Pth zss o x y) (hx : r.1 x = false) : r.1 y = false := by
  induction hp with
  | refl _ => exact hx
  | @tail y z hp hm ho ih => exact h.clos y (hon y hp.last) hp.last ih z hm

theorem WalkP.out {zss : List (List Int)} {o : Nat → Bool} {us : List Int} {r : (Nat → Bool) × List Int} (h : WalkP zss o us r) (hon : ∀ i, o i = true → i < zss.length) {x y : Nat} (hp : Pth zss o x y) (hy : r.1 y = true) : Pth zss r.1 x y := by
  induction hp with
  | refl _ => exact .refl hy
  | @tail y z hp hm ho ih =>
    have hb : r.1 y = true := by
      cases hb : r.1 y with
      | true => rfl
      | false => have := h.clos y (hon y hp.last) hp.last hb z hm; rw [this] at hy; cases hy
    exact .tail (ih hb) hm hy

theorem OrdP.list {zss : List (List Int)} {step : (Nat → Bool) → Nat → (Nat → Bool) × List Int} {m : Nat} (hw : ∀ o v, v < zss.length → opens o zss.length < m → WalkP zss o [(v : Int)] (step o v))
    (h : ∀ o v, v < zss.length → (∀ i, o i = true → i < zss.length) → opens o zss.length < m → OrdP zss o [(v : Int)] (step o v).2) (us : List Int) (hus : ∀ x ∈ us, ∃ v : Nat, x = (v : Int) ∧ v < zss.length) :
    ∀ o, (∀ i, o i = true → i < zss.length) → opens o zss.length < m → OrdP zss o us (dfsL step o us).2 := by
  induction us with
  | nil => intro o _ _; exact ⟨fun x hx => by simp [dfsL] at hx, fun x y hx => by simp [dfsL] at hx⟩
  | cons u us ih =>
    intro o hon ho
    obtain ⟨v, hv, hvn⟩ := hus u (by simp)
    subst hv
    have w1 := hw o v hvn ho
    have h1 := h o v hvn hon ho
    have hon1 : ∀ i, (step o v).1 i = true → i < zss.length := fun i hi => hon i (w1.shut i hi)
    have ho1 := Nat.lt_of_le_of_lt (opens_mono (n := zss.length) fun i _ hi => w1.shut i hi) ho
    have h2 := ih (fun x hx => hus x (by simp [hx])) (step o v).1 hon1 ho1
    have w2 := WalkP.list hw us (fun x hx => hus x (by simp [hx])) (step o v).1 ho1
    have e : (dfsL step o ((v : Int) :: us)).2 = (step o v).2 ++ (dfsL step (step o v).1 us).2 := by simp [dfsL]
    rw [e]
    have in1 : ∀ x : Nat, (x : Int) ∈ (step o v).2 → x < zss.length ∧ o x = true ∧ (step o v).1 x = false := fun x hx => by
      obtain ⟨i, hi, hin⟩ := w1.nat _ hx
      have : x = i := by omega
      subst this
      exact ⟨hin, (w1.mem x hin).1 hx⟩
    have in2 : ∀ x : Nat, (x : Int) ∈ (dfsL step (step o v).1 us).2 → x < zss.length ∧ (step o v).1 x = true := fun x hx => by
      obtain ⟨i, hi, hin⟩ := w2.nat _ hx
      have : x = i := by omega
      subst this
      exact ⟨hin, ((w2.mem x hin).1 hx).1⟩
    refine ⟨fun x hx => ?_, fun x y hx hy hp hn => ?_⟩
    · rcases List.mem_append.1 hx with hx | hx
      · obtain ⟨u, hu, hp⟩ := h1.pth x hx
        exact ⟨u, by simp at hu; simp [hu], hp⟩
      · obtain ⟨u, hu, hp⟩ := h2.pth x hx
        exact ⟨u, by simp [hu], hp.mono fun i hi => w1.shut i hi⟩
    · rcases List.mem_append.1 hy with hy | hy
      · rcases List.mem_append.1 hx with hx | hx
        · obtain ⟨z, z1, z2, z3⟩ := h1.ord x y hx hy hp hn
          exact ⟨z, z1, z2, z3.left⟩
        · exact ⟨x, .refl hp.first, .refl hp.first, _, _, rfl, hy, hx⟩
      · have hy2 := in2 y hy
        rcases List.mem_append.1 hx with hx | hx
        · have := w1.stays hon hp (in1 x hx).2.2
          rw [this] at hy2; cases hy2.2
        · have hp2 := w1.out hon hp hy2.2
          obtain ⟨z, z1, z2, z3⟩ := h2.ord x y hx hy hp2 (fun hc => hn (hc.mono fun i hi => w1.shut i hi))
          exact ⟨z, z1.mono fun i hi => w1.shut i hi, z2.mono fun i hi => w1.shut i hi, z3.right⟩

theorem dfs_ord {zss : List (List Int)} (hin : ∀ u : Nat, u < zss.length → ∀ x ∈ row zss u, ∃ v : Nat, x = (v : Int) ∧ v < zss.length) : ∀ f o v, v < zss.length → (∀ i, o i = true → i < zss.length) → opens o zss.length < f → OrdP zss o [(v : Int)] (dfs zss f o v).2 := by
  intro f
  induction f with
  | zero => intro o v _ _ h; omega
  | succ f ih =>
    intro o v hv hon hf
    cases ho : o v with
    | false =>
      have hd : dfs zss (f + 1) o v = (o, []) := by simp [dfs, ho]
      rw [hd]
      exact ⟨fun x hx => by simp at hx, fun x y hx => by simp at hx⟩
    | true =>
      have hs := opens_shut hv ho
      have hsub : ∀ i, mark1 o v false i = true → o i = true := fun i hi => by
        simp only [mark1] at hi
        split at hi
        · cases hi
        · exact hi
      have h := OrdP.list (m := f) (dfs_walk hin f) ih (row zss v) (hin v hv) (mark1 o v false) (fun i hi => hon i (hsub i hi)) (by omega)
      have hd : (dfs zss (f + 1) o v).2 = (dfsL (dfs zss f) (mark1 o v false) (row zss v)).2 ++ [(v : Int)] := by simp [dfs, ho]
      rw [hd]
      have hpt : ∀ x : Nat, (x : Int) ∈ (dfsL (dfs zss f) (mark1 o v false) (row zss v)).2 ++ [(v : Int)] → Pth zss o v x := fun x hx => by
        rcases List.mem_append.1 hx with hx | hx
        · obtain ⟨u, hu, hp⟩ := h.pth x hx
          exact (Pth.tail (.refl ho) hu (hsub _ hp.first)).trans (hp.mono hsub)
        · have : x = v := by simp at hx; omega
          subst this; exact .refl ho
      refine ⟨fun x hx => ⟨v, by simp, hpt x hx⟩, fun x y hx hy hp hn => ?_⟩
      rcases List.mem_append.1 hy with hy' | hy'
      · rcases List.mem_append.1 hx with hx' | hx'
        · rcases hp.through (v := v) with h1 | h1
          · obtain ⟨z, z1, z2, z3⟩ := h.ord x y hx' hy' h1 (fun hc => hn (hc.mono hsub))
            exact ⟨z, z1.mono hsub, z2.mono hsub, z3.left⟩
          · exact ⟨v, h1, hpt x hx, _, _, rfl, hy', by simp⟩
        · have : x = v := by simp at hx'; omega
          subst this
          exact ⟨x, .refl ho, .refl ho, _, _, rfl, hy', by simp⟩
      · have : y = v := by simp at hy'; omega
        subst this
        exact absurd (hpt x hx) hn

end Go.Proofs.Ytkfmaajhemijlaa
