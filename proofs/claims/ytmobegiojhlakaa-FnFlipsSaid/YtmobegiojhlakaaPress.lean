/-
  Compressed priorities: what the model computes. No program text.
-/
import Derived.Test.YtmobegiojhlakaaSpec4
import Derived.Test.YtmobegiojhlakaaBothSpec
import Derived.Test.YtmobegiojhlakaaFlipSpec
namespace Go.Proofs.Ytmobegiojhlakaa
section
open Go.RowKit

/-- The next compressed priority. -/
def pStep (now p : Int) : Int := if p % 2 = now % 2 then now else now + 1
/-- What the first k of the rising priorities become: the last of them. -/
def nowK (ps : List Int) : Nat → Int
  | 0 => nth ps 0 % 2
  | k + 1 => pStep (nowK ps k) (nth ps k)
/-- What vertex v has when k of the priorities have been passed. -/
def outF (P ps : List Int) : Nat → Nat → Int
  | 0, v => nth P v
  | k + 1, v => if nth P v = nth ps k then nowK ps (k + 1) else outF P ps k v
def outL (P ps : List Int) (k : Nat) : List Int := (List.range P.length).map (outF P ps k)
/-- In the middle of a pass. -/
def mixF (P ps : List Int) (k j v : Nat) : Int := if v < j then outF P ps (k + 1) v else outF P ps k v
def mixL (P ps : List Int) (k j : Nat) : List Int := (List.range P.length).map (mixF P ps k j)

section
variable {P ps : List Int} {k j : Nat}
theorem outL_len : (outL P ps k).length = P.length := by simp [outL]
theorem mixL_len : (mixL P ps k j).length = P.length := by simp [mixL]
theorem outL_nth {v : Nat} (hv : v < P.length) : nth (outL P ps k) v = outF P ps k v := by simp [outL, nth, hv]
theorem mixL_nth {v : Nat} (hv : v < P.length) : nth (mixL P ps k j) v = mixF P ps k j v := by simp [mixL, nth, hv]
theorem outL_zero : outL P ps 0 = P := list_ext outL_len fun v hv => by rw [outL_len] at hv; rw [outL_nth hv]; rfl
theorem mixL_zero : mixL P ps k 0 = outL P ps k := list_ext (by rw [mixL_len, outL_len]) fun v hv => by
  rw [mixL_len] at hv; rw [mixL_nth hv, outL_nth hv]; unfold mixF; rw [if_neg (by omega)]
theorem mixL_all : mixL P ps k P.length = outL P ps (k + 1) := list_ext (by rw [mixL_len, outL_len]) fun v hv => by
  rw [mixL_len] at hv; rw [mixL_nth hv, outL_nth hv]; unfold mixF; rw [if_pos hv]
theorem mixL_hit (hj : j < P.length) (h : nth P j = nth ps k) : (mixL P ps k j).set j (nowK ps (k + 1)) = mixL P ps k (j + 1) := list_ext (by simp [mixL_len]) fun v hv => by
  simp only [List.length_set, mixL_len] at hv
  rw [nth_set (by rw [mixL_len]; exact hj), mixL_nth hv, mixL_nth hv]
  unfold mixF
  by_cases e : v = j
  · subst e
    rw [if_pos rfl, if_pos (by omega), outF, if_pos h]
  · rw [if_neg e]
    by_cases hl : v < j
    · rw [if_pos hl, if_pos (by omega)]
    · rw [if_neg hl, if_neg (by omega)]
theorem mixL_pass (hj : j < P.length) (h : nth P j ≠ nth ps k) : mixL P ps k j = mixL P ps k (j + 1) := list_ext (by rw [mixL_len, mixL_len]) fun v hv => by
  rw [mixL_len] at hv
  rw [mixL_nth hv, mixL_nth hv]
  unfold mixF
  by_cases e : v = j
  · subst e
    rw [if_neg (by omega), if_pos (by omega), outF, if_neg h]
  · by_cases hl : v < j
    · rw [if_pos hl, if_pos (by omega)]
    · rw [if_neg hl, if_neg (by omega)]

theorem nowK_bound (h : ∀ i, i < ps.length → 0 ≤ nth ps i) (hp : 0 < ps.length) : ∀ k, 0 ≤ nowK ps k ∧ nowK ps k ≤ 1 + k
  | 0 => by have := h 0 hp; rw [nowK]; omega
  | k + 1 => by
    have ih := nowK_bound h hp k
    rw [nowK, pStep]
    split <;> omega
end

/-- The compressed priorities of a game. -/
def pressL (P : List Int) : List Int := outL P (priosK P (upL P.length) P.length) (priosK P (upL P.length) P.length).length
noncomputable def pressO (O : List Int) (zss : List (List Int)) (P : List Int) : List Int := if parityB O zss P = true then O else []
noncomputable def pressN (O : List Int) (zss : List (List Int)) (P : List Int) : List (List Int) := if parityB O zss P = true then zss else []
noncomputable def pressV (O : List Int) (zss : List (List Int)) (P : List Int) : List Int := if parityB O zss P = true then pressL P else []

/-- The priorities that occur, as a rising list. -/
def allP (P : List Int) : List Int := priosK P (upL P.length) P.length
theorem allP_mem {P : List Int} {x : Int} : x ∈ allP P ↔ x ∈ P := by
  have h : ∀ k, k ≤ P.length → (x ∈ priosK P (upL P.length) k ↔ ∃ j, j < k ∧ nth P j = x) := fun k => by
    induction k with
    | zero => intro _; simp [priosK]
    | succ k ih =>
      intro hk
      rw [priosK, intoL_mem, ih (by omega), upL_nth (by omega), Int.toNat_natCast]
      constructor
      · rintro (⟨j, hj, e⟩ | e)
        · exact ⟨j, by omega, e⟩
        · exact ⟨k, by omega, e.symm⟩
      · rintro ⟨j, hj, e⟩
        by_cases h : j = k
        · subst h; exact .inr e.symm
        · exact .inl ⟨j, by omega, e⟩
  rw [allP, h _ (Nat.le_refl _)]
  exact ⟨fun ⟨j, hj, e⟩ => e ▸ nth_mem hj, fun h => by obtain ⟨j, hj, e⟩ := mem_nth.1 h; exact ⟨j, hj, e⟩⟩

theorem allP_rising (P : List Int) : (allP P).Pairwise (· < ·) := by
  have h : ∀ k, (priosK P (upL P.length) k).Pairwise (· < ·) := fun k => by
    induction k with
    | zero => simp [priosK]
    | succ k ih => rw [priosK]; exact intoL_rising _ _ ih
  exact h _
theorem pairwise_nth {zs : List Int} (h : zs.Pairwise (· < ·)) {i j : Nat} (hij : i < j) (hj : j < zs.length) : nth zs i < nth zs j := by
  rw [nth_eq hj, nth_eq (show i < zs.length by omega)]
  exact List.pairwise_iff_getElem.1 h i j (by omega) hj hij
theorem rising_inj {zs : List Int} (h : zs.Pairwise (· < ·)) {i j : Nat} (hi : i < zs.length) (hj : j < zs.length) (e : nth zs i = nth zs j) : i = j := by
  rcases Nat.lt_trichotomy i j with h1 | h1 | h1
  · have := pairwise_nth h h1 hj; omega
  · exact h1
  · have := pairwise_nth h h1 hi; omega
/-- What priority number k becomes. -/
def numF (ps : List Int) (k : Nat) : Int := nowK ps (k + 1)

section
variable {P ps : List Int}

/-- A vertex whose priority is number i has what that number becomes, once it has been passed. -/
theorem outF_at (hr : ps.Pairwise (· < ·)) {i : Nat} {v : Nat} (hi : i < ps.length) (h : nth P v = nth ps i) : ∀ k, k ≤ ps.length → outF P ps k v = if i < k then numF ps i else nth P v
  | 0, _ => by rw [outF, if_neg (by omega)]
  | k + 1, hk => by
    rw [outF]
    by_cases e : i = k
    · subst e; rw [if_pos h, if_pos (by omega)]; rfl
    · have hne : nth P v ≠ nth ps k := fun hh => e (rising_inj hr hi (by omega) (by rw [← h, hh]))
      rw [if_neg hne, outF_at hr hi h k (by omega)]
      by_cases hl : i < k
      · rw [if_pos hl, if_pos (by omega)]
      · rw [if_neg hl, if_neg (by omega)]

theorem num_step {k : Nat} : numF ps (k + 1) = pStep (numF ps k) (nth ps (k + 1)) := rfl
theorem num_zero : numF ps 0 = nth ps 0 % 2 := by
  show pStep (nth ps 0 % 2) (nth ps 0) = _
  unfold pStep; rw [if_pos (by omega)]
theorem num_mono {k : Nat} : numF ps k ≤ numF ps (k + 1) ∧ numF ps (k + 1) ≤ numF ps k + 1 := by
  rw [num_step, pStep]; split <;> omega
theorem num_le {i j : Nat} (h : i ≤ j) : numF ps i ≤ numF ps j := by
  induction j with
  | zero => have : i = 0 := by omega
            subst this; exact Int.le_refl _
  | succ j ih =>
    by_cases e : i = j + 1
    · subst e; exact Int.le_refl _
    · have := ih (by omega); have := (num_mono (ps := ps) (k := j)).1; omega
theorem num_even (_h0 : ∀ i, i < ps.length → 0 ≤ nth ps i) : ∀ {k : Nat}, k < ps.length → numF ps k % 2 = nth ps k % 2
  | 0, _ => by rw [num_zero]; omega
  | k + 1, hk => by
    rw [num_step, pStep]
    split <;> omega
theorem num_under (hr : ps.Pairwise (· < ·)) (h0 : ∀ i, i < ps.length → 0 ≤ nth ps i) : ∀ {k : Nat}, k < ps.length → 0 ≤ numF ps k ∧ numF ps k ≤ nth ps k
  | 0, hk => by have := h0 0 hk; rw [num_zero]; omega
  | k + 1, hk => by
    have ih := num_under hr h0 (k := k) (by omega)
    have := pairwise_nth hr (show k < k + 1 by omega) hk
    have := num_mono (ps := ps) (k := k)
    omega
/-- Numbers that follow one another stay. -/
theorem num_same (h0 : 0 ≤ nth ps 0) (h1 : nth ps 0 ≤ 1) (h : ∀ k, k + 1 < ps.length → nth ps (k + 1) = nth ps k + 1) : ∀ {k : Nat}, k < ps.length → numF ps k = nth ps k
  | 0, _ => by rw [num_zero]; omega
  | k + 1, hk => by
    rw [num_step, num_same h0 h1 h (k := k) (by omega), h k hk, pStep, if_neg (by omega)]
end

section
variable {P : List Int}

theorem allP_at {v : Nat} (hv : v < P.length) : ∃ i, i < (allP P).length ∧ nth P v = nth (allP P) i := by
  obtain ⟨i, hi, e⟩ := mem_nth.1 (allP_mem.2 (nth_mem hv))
  exact ⟨i, hi, e.symm⟩
theorem allP_pos (h : ∀ x ∈ P, 0 ≤ x ∧ x ≤ 40) : ∀ i, i < (allP P).length → 0 ≤ nth (allP P) i := fun _ hi => (h _ (allP_mem.1 (nth_mem hi))).1
theorem pressL_len : (pressL P).length = P.length := outL_len
theorem pressL_at {v i : Nat} (hv : v < P.length) (hi : i < (allP P).length) (h : nth P v = nth (allP P) i) : nth (pressL P) v = numF (allP P) i := by
  show nth (outL P (allP P) (allP P).length) v = _
  rw [outL_nth hv, outF_at (allP_rising P) hi h _ (Nat.le_refl _), if_pos hi]

/-- Compressing keeps parity and order, and makes nothing greater. -/
theorem press_keeps (h : ∀ x ∈ P, 0 ≤ x ∧ x ≤ 40) {v : Nat} (hv : v < P.length) : nth (pressL P) v % 2 = nth P v % 2 ∧ 0 ≤ nth (pressL P) v ∧ nth (pressL P) v ≤ nth P v := by
  obtain ⟨i, hi, e⟩ := allP_at hv
  rw [pressL_at hv hi e, e]
  have h1 := num_even (allP_pos h) hi
  have h2 := num_under (allP_rising P) (allP_pos h) hi
  exact ⟨h1, h2.1, h2.2⟩
theorem press_order {u v : Nat} (hu : u < P.length) (hv : v < P.length) (h : nth P u ≤ nth P v) : nth (pressL P) u ≤ nth (pressL P) v := by
  obtain ⟨i, hi, e⟩ := allP_at hu
  obtain ⟨j, hj, e'⟩ := allP_at hv
  rw [pressL_at hu hi e, pressL_at hv hj e']
  refine num_le ?_
  rcases Nat.lt_or_ge j i with hl | hl
  · have := pairwise_nth (allP_rising P) hl hi; omega
  · exact hl
theorem press_bound (h : ∀ x ∈ P, 0 ≤ x ∧ x ≤ 40) : ∀ x ∈ pressL P, 0 ≤ x ∧ x ≤ 40 := fun x hx => by
  obtain ⟨v, hv, rfl⟩ := mem_nth.1 hx
  rw [pressL_len] at hv
  have h1 := press_keeps h hv
  have h2 := h _ (nth_mem hv)
  omega

/-- The numbers from the first on, each one more. -/
def fromL (a : Int) (n : Nat) : List Int := (List.range n).map fun (i : Nat) => a + (i : Int)
theorem fromL_len {a : Int} {n : Nat} : (fromL a n).length = n := by simp [fromL]
theorem fromL_nth {a : Int} {n i : Nat} (h : i < n) : nth (fromL a n) i = a + i := by simp [fromL, nth, h]
theorem fromL_rising {a : Int} {n : Nat} : (fromL a n).Pairwise (· < ·) := by
  rw [List.pairwise_iff_getElem]
  intro i j hi hj hij
  rw [fromL_len] at hi hj
  rw [← nth_eq (by rw [fromL_len]; exact hi), ← nth_eq (by rw [fromL_len]; exact hj), fromL_nth hi, fromL_nth hj]
  omega
theorem fromL_mem {a x : Int} {n : Nat} : x ∈ fromL a n ↔ a ≤ x ∧ x < a + n := by
  constructor
  · intro h
    obtain ⟨i, hi, e⟩ := mem_nth.1 h
    rw [fromL_len] at hi
    rw [fromL_nth hi] at e
    omega
  · intro h
    have hi : (x - a).toNat < n := by omega
    have := nth_mem (zs := fromL a n) (k := (x - a).toNat) (by rw [fromL_len]; exact hi)
    rw [fromL_nth hi, show a + ((x - a).toNat : Int) = x by omega] at this
    exact this

/-- All between what the first and the last become occur. -/
theorem num_onto {ps : List Int} {x : Int} : ∀ {n : Nat}, numF ps 0 ≤ x → x ≤ numF ps n → ∃ k, k ≤ n ∧ numF ps k = x
  | 0, h0, h1 => ⟨0, Nat.le_refl _, by omega⟩
  | n + 1, h0, h1 => by
    by_cases h : x ≤ numF ps n
    · obtain ⟨k, hk, e⟩ := num_onto h0 h
      exact ⟨k, by omega, e⟩
    · have := num_mono (ps := ps) (k := n)
      exact ⟨n + 1, Nat.le_refl _, by omega⟩

/-- Compressing once more changes nothing. -/
theorem press_twice (h : ∀ x ∈ P, 0 ≤ x ∧ x ≤ 40) : pressL (pressL P) = pressL P := by
  by_cases hP : P.length = 0
  · have : P = [] := List.length_eq_zero_iff.1 hP
    subst this; rfl
  have hps : 0 < (allP P).length := by
    obtain ⟨i, hi, _⟩ := allP_at (P := P) (v := 0) (by omega)
    omega
  obtain ⟨n, hn⟩ : ∃ n, (allP P).length = n + 1 := ⟨(allP P).length - 1, by omega⟩
  obtain ⟨a, ha⟩ : ∃ a, a = numF (allP P) 0 := ⟨_, rfl⟩
  have ha01 : 0 ≤ a ∧ a ≤ 1 := by rw [ha, num_zero]; omega
  have e : allP (pressL P) = fromL a (numF (allP P) n - a + 1).toNat := by
    refine rising_ext (allP_rising _) fromL_rising fun x => ?_
    have hle := num_le (ps := allP P) (show 0 ≤ n by omega)
    rw [← ha] at hle
    rw [allP_mem, fromL_mem]
    constructor
    · intro hx
      obtain ⟨v, hv, rfl⟩ := mem_nth.1 hx
      rw [pressL_len] at hv
      obtain ⟨i, hi, e⟩ := allP_at hv
      rw [pressL_at hv hi e]
      have h1 := num_le (ps := allP P) (show 0 ≤ i by omega)
      have h2 := num_le (ps := allP P) (show i ≤ n by omega)
      omega
    · intro hx
      obtain ⟨k, hk, e⟩ := num_onto (ps := allP P) (x := x) (n := n) (by omega) (by omega)
      obtain ⟨v, hv, e'⟩ := mem_nth.1 (allP_mem.1 (nth_mem (zs := allP P) (k := k) (by omega)))
      rw [← e, ← pressL_at hv (by omega) e']
      exact nth_mem (by rw [pressL_len]; exact hv)
  refine list_ext (by rw [pressL_len]) fun v hv => ?_
  rw [pressL_len] at hv
  obtain ⟨i, hi, e'⟩ := allP_at hv
  rw [pressL_at hv hi e', e', e]
  rw [e, fromL_len] at hi
  refine num_same ?_ ?_ (fun k hk => ?_) (by rw [fromL_len]; exact hi)
  · rw [fromL_nth (by omega)]; omega
  · rw [fromL_nth (by omega)]; omega
  · rw [fromL_len] at hk
    rw [fromL_nth hk, fromL_nth (by omega)]; omega
end
end

section
open Go.RowKit

theorem OwnGame.shape3 {w : World} {B D : Nat} {v : Value} {O P : List Int} {zss : List (List Int)} (h : OwnGame w B D v O zss P) : ∃ a0 c0 a1 c1 a2 c2 V, v = .agg #[.slice a0 O.length c0, .slice a1 zss.length c1, .slice a2 P.length c2] ∧ OwnInts w B D (.slice a0 O.length c0) O ∧ OwnRows w B D (.slice a1 zss.length c1) V zss ∧ OwnInts w B D (.slice a2 P.length c2) P ∧
    (∀ k, k < zss.length → ∀ g, (V k).ownBlock = some g → (Value.slice a0 O.length c0).ownBlock ≠ some g) ∧ (∀ k, k < zss.length → ∀ g, (V k).ownBlock = some g → (Value.slice a2 P.length c2).ownBlock ≠ some g) ∧ ∀ g, (Value.slice a0 O.length c0).ownBlock = some g → (Value.slice a2 P.length c2).ownBlock ≠ some g := by
  obtain ⟨vo, vn, vp, V, rfl, x1, x2, x3, x4, x5, x6⟩ := h
  obtain ⟨a1, e1, hvs, _, _⟩ := x1.shape
  subst hvs
  obtain ⟨a2, e2, hvs, _, _⟩ := x2.shape
  subst hvs
  obtain ⟨a3, e3, hvs, _, _⟩ := x3.shape
  subst hvs
  exact ⟨_, _, _, _, _, _, V, rfl, x1, x2, x3, x4, x5, x6⟩

theorem OwnArena.shape2g {w : World} {B D : Nat} {v : Value} {O : List Int} {zss : List (List Int)} (h : OwnArena w B D v O zss) : ∃ a0 c0 a1 c1, v = .agg #[.slice a0 O.length c0, .slice a1 zss.length c1] := by
  obtain ⟨ao, an, co, cn, A, C, hv, _, _⟩ := h.at
  exact ⟨ao, co, an, cn, hv⟩

set_option maxHeartbeats 8000000 in
set_option maxRecDepth 100000 in
theorem l4Copy_is {w : World} {v : Value} {O P : List Int} {zss : List (List Int)} (h : GameAt w v O zss P) (hn : zss.length ≤ 1048576) :
    Calls Try.prog 74 #[v] w (GivesGame w O zss P) := by
  obtain ⟨ao, an, ap, co, cn, cp, A, C, rfl, h1, h2, h3⟩ := h
  obtain ⟨w1, hw1⟩ : ∃ y, y = (w.alloc (.cells #[.slice ao O.length co, .slice an zss.length cn, .slice ap P.length cp] 32)).alloc (.cells #[.slice none 0 0, .slice none 0 0, .slice none 0 0] 32) := ⟨_, rfl⟩
  have HW1 := Lib.hid hw1
  have B1 : Hid (Below w.heap.size w w1) := by rw [hw1]; exact below2 _ _ _
  have hs1 : w1.heap.size = w.heap.size + 1 + 1 := by rw [hw1]; simp
  have HS1 := Lib.hid hs1
  have T1 : Hid (Box3 w1 w.heap.size 32 (.slice ao O.length co) (.slice an zss.length cn) (.slice ap P.length cp)) := by rw [hw1]; exact (Box3.new w _ _ _ _).below (below1 _ _)
  have R1 : Hid (Box3 w1 (w.heap.size + 1) 32 (.slice none 0 0) (.slice none 0 0) (.slice none 0 0)) := by rw [hw1]; exact Box3.new2 (by simp) _ _ _ _
  have HAt : Hid (ArenaAt w (.agg #[.slice ao O.length co, .slice an zss.length cn]) O zss) := ⟨_, _, _, _, _, _, rfl, h1, h2⟩
  have HPi := Lib.hid h3
  clear hw1 h1 h2 h3 hs1
  have hd1 : Below w1.heap.size w1 w1.drew := (Below.refl _ _).drew
  have B1d := Lib.hid (B1.out.trans (hd1.mono B1.out.size))
  have T1d := Lib.hid (T1.out.below hd1)
  have R1d := Lib.hid (R1.out.below hd1)
  clear hd1
  have c0 := T1.out.c0
  have c1 := T1.out.c1
  have c2 := T1.out.c2
  go_enter Try.func74, Try.ntmps74
  go_wp2_with fail
  rw [← HW1.out]
  go_region_held3 (fun w' => w'.cell? ⟨w.heap.size, 0, none⟩ = some (.slice ao O.length co) ∧ w'.cell? ⟨w.heap.size, 1, none⟩ = some (.slice an zss.length cn) ∧ w'.cell? ⟨w.heap.size, 2, none⟩ = some (.slice ap P.length cp))
    (first
      | go_keep
      | exact ⟨e0, e1, e2⟩
      | exact ⟨f0, f1, f2⟩)
    (first
      | (go_at_call 79; refine (l1CopyArena_is (HAt.out.below B1d.out) hn).mono ?_; rintro e w2 ⟨x, rfl, hx, hb⟩; obtain ⟨a1, k1, a2, k2, hxs⟩ := hx.shape2g; subst hxs; have X2 := Lib.hid hx; have B2 := Lib.hid (B1d.out.trans (hb.mono B1d.out.size)); have T2 := Lib.hid (T1d.out.below hb); have R2 := Lib.hid (R1d.out.below hb); have N2 : Hid (w1.heap.size ≤ w2.heap.size) := hb.size; have e0 := T2.out.c0; have e1 := T2.out.c1; have e2 := T2.out.c2; clear hb hx)
      | (go_at_call 95; refine (l1Copy_is cp (HPi.out.below B2.out)).mono ?_; rintro e w3 ⟨x, rfl, hx, hb⟩; obtain ⟨a3, k3, hxs, _, _⟩ := hx.shape; subst hxs; have Y3 := Lib.hid hx; have X3 := Lib.hid (X2.out.below hb); have B3 := Lib.hid (B2.out.trans (hb.mono B2.out.size)); have T3 := Lib.hid (T2.out.below hb); have R3 := Lib.hid (R2.out.below hb); have N3 : Hid (w2.heap.size ≤ w3.heap.size) := hb.size; have f0 := T3.out.c0; have f1 := T3.out.c1; have f2 := T3.out.c2; have r0 := R3.out.c0; have r1 := R3.out.c1; have r2 := R3.out.c2; have g0 := World.rowIs.frozen R3.out 0; have g1 := World.rowIs.frozen R3.out 1; have g2 := World.rowIs.frozen R3.out 2; clear hb hx))
  have hst := game_stored (w := w) (wr := w3) (t := w.heap.size + 1) (n := w1.heap.size) R3.out (OwnGame.of_parts (M := w2.heap.size) X3.out Y3.out N2.out N3.out) (by have := HS1.out; omega) (by omega) (by have := HS1.out; omega) B3.out
  have HST := Lib.hid hst
  have u0 := hst.2.2.c0
  have u1 := hst.2.2.c1
  have u2 := hst.2.2.c2
  clear hst
  go_wp2
  exact bodyPost_ret (v := .agg #[.slice a1 O.length k1, .slice a2 zss.length k2, .slice a3 P.length k3]) (by simp [results, Try.results74, go_sem, u0, u1, u2]) rfl ⟨_, rfl, HST.out.1, HST.out.2.1⟩

theorem ps_own {w : World} {B D : Nat} {v : Value} {P ps : List Int} (h : ps = allP P) (hl : (upL P.length).length = P.length) (hx : OwnInts w B D v (priosK P (upL P.length) (upL P.length).length)) : OwnInts w B D v ps := by
  rw [hl] at hx; subst h; exact hx
theorem press_no {O gO P gP : List Int} {zss gN : List (List Int)} (hr : pressO O zss P = gO ∧ pressN O zss P = gN ∧ pressV O zss P = gP) (h : parityB O zss P = false) : gO = [] ∧ gN = [] ∧ gP = [] := by
  obtain ⟨rfl, rfl, rfl⟩ := hr
  unfold pressO pressN pressV
  rw [h]; simp
theorem press_yes {O gO P gP : List Int} {zss gN : List (List Int)} (hr : pressO O zss P = gO ∧ pressN O zss P = gN ∧ pressV O zss P = gP) (h : parityB O zss P = true) : gO = O ∧ gN = zss ∧ gP = pressL P := by
  obtain ⟨rfl, rfl, rfl⟩ := hr
  unfold pressO pressN pressV
  rw [h]; simp

set_option maxHeartbeats 16000000 in
set_option maxRecDepth 100000 in
theorem specPressed_is {w : World} {v : Value} {O gO P gP : List Int} {zss gN : List (List Int)} (hr : pressO O zss P = gO ∧ pressN O zss P = gN ∧ pressV O zss P = gP) (h : GameAt w v O zss P) :
    Calls Try.prog 27 #[v] w (GivesGame w gO gN gP) := by
  have HGm := Lib.hid h
  obtain ⟨ao, an, ap, co, cn, cp, A, C, rfl, h1, h2, h3⟩ := h
  obtain ⟨w1, hw1⟩ : ∃ y, y = (w.alloc (.cells #[.slice ao O.length co, .slice an zss.length cn, .slice ap P.length cp] 32)).alloc (.cells #[.slice none 0 0, .slice none 0 0, .slice none 0 0] 32) := ⟨_, rfl⟩
  have HW1 := Lib.hid hw1
  have B1 : Hid (Below w.heap.size w w1) := by rw [hw1]; exact below2 _ _ _
  have hs1 : w1.heap.size = w.heap.size + 1 + 1 := by rw [hw1]; simp
  have HS1 := Lib.hid hs1
  have T1 : Hid (Box3 w1 w.heap.size 32 (.slice ao O.length co) (.slice an zss.length cn) (.slice ap P.length cp)) := by rw [hw1]; exact (Box3.new w _ _ _ _).below (below1 _ _)
  have R1 : Hid (Box3 w1 (w.heap.size + 1) 32 (.slice none 0 0) (.slice none 0 0) (.slice none 0 0)) := by rw [hw1]; exact Box3.new2 (by simp) _ _ _ _
  have HPi := Lib.hid h3
  clear hw1 h1 h2 h3 hs1
  cases hp : parityB O zss P with
  | false =>
    have HE := Lib.hid (press_no hr hp)
    have HC := Lib.hid (specParityOk_is hp (HGm.out.below B1.out))
    clear hr hp
    go_enter Try.func27, Try.ntmps27
    go_wp2_with fail
    rw [← HW1.out]
    refine HC.out.mono ?_
    rintro e w2 ⟨rfl, hb⟩
    have B2 := Lib.hid (B1.out.trans (hb.mono B1.out.size))
    have R2 := Lib.hid (R1.out.below hb)
    have d0 := R2.out.c0
    have d1 := R2.out.c1
    have d2 := R2.out.c2
    have g0 := World.rowIs.frozen R2.out 0
    have g1 := World.rowIs.frozen R2.out 1
    have g2 := World.rowIs.frozen R2.out 2
    clear hb HC
    go_wp2
    exact bodyPost_ret (v := .agg #[.slice none 0 0, .slice none 0 0, .slice none 0 0]) (by simp [results, Try.results27, go_sem, d0, d1, d2]) rfl
      ⟨_, rfl, by rw [HE.out.1, HE.out.2.1, HE.out.2.2]; exact OwnGame.zero _ _ _, zero_stored3 B2.out (by omega)⟩
  | true =>
    have hPy := parityB_iff.1 hp
    have hlP : P.length ≤ 256 := by have := hPy.1.2.1; have := hPy.2.1; omega
    have hlP0 : 0 < P.length := by have := hPy.1.1; have := hPy.2.1; omega
    have hz256 : zss.length ≤ 1048576 := by have := hPy.1.2.1; have := hPy.1.2.2.1; omega
    have HE := Lib.hid (press_yes hr hp)
    have HC := Lib.hid (specParityOk_is hp (HGm.out.below B1.out))
    have hlP2 : (upL P.length).length = P.length := upL_len _
    have HLP2 := Lib.hid hlP2
    have HIN : Hid (∀ x ∈ upL P.length, ∃ u : Nat, x = (u : Int) ∧ u < P.length) := fun x hx => by
      obtain ⟨j, hj, e⟩ := mem_nth.1 hx
      rw [upL_len] at hj
      rw [upL_nth hj] at e
      exact ⟨j, e.symm, hj⟩
    obtain ⟨ps, hps⟩ : ∃ ps, ps = allP P := ⟨_, rfl⟩
    have HPS := Lib.hid hps
    have hps0 : 0 < ps.length := by
      obtain ⟨i, hi, _⟩ := allP_at (P := P) (v := 0) hlP0
      rw [hps]; omega
    have hpsl : ps.length ≤ 256 := by
      have := priosK_len P (upL P.length) P.length
      rw [hps]; unfold allP; omega
    have HPB : Hid (∀ i, i < ps.length → 0 ≤ nth ps i) := by rw [hps]; exact allP_pos hPy.2.2
    have HPN : Hid (∀ k, 0 ≤ nowK ps k ∧ nowK ps k ≤ 1 + k) := nowK_bound HPB.out hps0
    clear hr hp hlP2 hps hPy
    go_enter Try.func27, Try.ntmps27
    go_wp2_with fail
    rw [← HW1.out]
    refine HC.out.mono ?_
    rintro e w2 ⟨rfl, hb⟩
    have B2 := Lib.hid (B1.out.trans (hb.mono B1.out.size))
    have K2 := Lib.hid hb
    have T2 := Lib.hid (T1.out.below hb)
    have hn2 : w1.heap.size ≤ w2.heap.size := hb.size
    clear hb HC
    have c0 := T2.out.c0
    have c1 := T2.out.c1
    have c2 := T2.out.c2
    go_wp2_with fail
    refine (l4Copy_is (HGm.out.below B2.out) hz256).mono ?_
    rintro e w3 ⟨x, rfl, hx, hb⟩
    obtain ⟨a0, k0, a1, k1, a2, k2, V, rfl, x1, x2, x3, x4, x5, x6⟩ := hx.shape3
    have hn3 : w2.heap.size ≤ w3.heap.size := hb.size
    obtain ⟨w4, hw4⟩ : ∃ y, y = w3.alloc (.cells #[.slice a0 O.length k0, .slice a1 zss.length k1, .slice a2 P.length k2] 32) := ⟨_, rfl⟩
    have HW4 := Lib.hid hw4
    have hb4 : Below w3.heap.size w3 w4 := by rw [hw4]; exact below1 _ _
    have hs4 : w4.heap.size = w3.heap.size + 1 := by rw [hw4]; simp
    have HS4 := Lib.hid hs4
    have U4 : Hid (Box3 w4 w3.heap.size 32 (.slice a0 O.length k0) (.slice a1 zss.length k1) (.slice a2 P.length k2)) := by rw [hw4]; exact Box3.new _ _ _ _ _
    have K4 := Lib.hid (K2.out.trans ((hb.trans (hb4.mono hb.size)).mono K2.out.size))
    have X1 := Lib.hid (x1.below hb4)
    have X2 := Lib.hid (x2.below hb4)
    have X3 := Lib.hid (x3.below hb4)
    have X4 := Lib.hid x4
    have X5 := Lib.hid x5
    have X6 := Lib.hid x6
    clear hx hb hb4 x1 x2 x3 x4 x5 x6 c0 c1 c2 K2 T2 hs4
    have K4d : Hid (Below w1.heap.size w1 w4.drew) := K4.out.drew
    have U4d : Hid (Box3 w4.drew w3.heap.size 32 (.slice a0 O.length k0) (.slice a1 zss.length k1) (.slice a2 P.length k2)) := U4.out.below (Below.refl _ _).drew
    have L4d : Hid (Below w4.heap.size w4 w4.drew) := (Below.refl _ _).drew
    have c0 := (T1.out.below K4.out).c0
    have c1 := (T1.out.below K4.out).c1
    have c2 := (T1.out.below K4.out).c2
    rw [hw4] at c0 c1 c2
    clear hw4
    go_wp2_with fail
    rw [← HW4.out]
    rw [← HW4.out] at c0 c1 c2
    go_region_held3 (fun w' => w'.cell? ⟨w.heap.size, 0, none⟩ = some (.slice ao O.length co) ∧ w'.cell? ⟨w.heap.size, 1, none⟩ = some (.slice an zss.length cn) ∧ w'.cell? ⟨w.heap.size, 2, none⟩ = some (.slice ap P.length cp))
      (first
        | go_keep
        | exact ⟨e0, e1, e2⟩
        | exact ⟨f0, f1, f2⟩)
      (first
        | (go_at_call 76; refine (l4All_is (HGm.out.below (B1.out.trans (K4d.out.mono B1.out.size))) hlP).mono ?_; rintro e w5 ⟨x, rfl, hx, hb⟩; obtain ⟨xa, xc, hxs, hxi, _⟩ := hx.shape; subst hxs; have Y5 := Lib.hid hxi; have K5 := Lib.hid (K4d.out.trans (hb.mono K4d.out.size)); have L5 := Lib.hid (L4d.out.trans (hb.mono L4d.out.size)); have e0 := (T1.out.below K5.out).c0; have e1 := (T1.out.below K5.out).c1; have e2 := (T1.out.below K5.out).c2; clear hx hxi hb)
        | (go_at_call 75; refine (l4Prios_is xc (HGm.out.below (B1.out.trans (K5.out.mono B1.out.size))) Y5.out HIN.out (by rw [HLP2.out]; omega)).mono ?_; rintro e w6 ⟨x, rfl, hx, hb⟩; have hx' : OwnInts w6 w5.heap.size w6.heap.size x ps := ps_own HPS.out HLP2.out hx; obtain ⟨pa, pc, hxs, _, hpg⟩ := hx'.shape; subst hxs; have Q6 := Lib.hid hx'; have K6 := Lib.hid (K5.out.trans (hb.mono K5.out.size)); have L6 := Lib.hid (L5.out.trans (hb.mono L5.out.size)); have f0 := (T1.out.below K6.out).c0; have f1 := (T1.out.below K6.out).c1; have f2 := (T1.out.below K6.out).c2; clear hx hx' hb))
    have hn5 : w4.heap.size ≤ w5.heap.size := L5.out.size
    have hn6 : w4.heap.size ≤ w6.heap.size := L6.out.size
    have hn34 : w3.heap.size < w4.heap.size := by have := HS4.out; omega
    clear c0 c1 c2 e0 e1 e2 f0 f1 f2 K4d U4d L4d K5 L5 Y5
    obtain ⟨pg, hpa, hpg1, -, -, -⟩ := hpg hps0
    subst hpa
    obtain ⟨a2', c2', hv2, -, hg2⟩ := X3.out.shape
    cases hv2
    obtain ⟨og, hog, hog1, hog2, hog3, -⟩ := hg2 hlP0
    subst hog
    clear hpg hg2
    have HM0 : Hid (OwnInts w6 w2.heap.size w3.heap.size (.slice (some ⟨og, 0, none⟩) P.length k2) (outL P ps 0)) := by rw [outL_zero]; exact X3.out.below L6.out
    have HO0 : Hid (Only (fun b => b = og) w6 w6) := Only.refl _ _
    have HK : Hid (∀ wr, Only (fun b => b = og) w6 wr → Below w1.heap.size w1 wr) := fun wr ho => K6.out.trans (ho.below (B := w1.heap.size) K6.out.size (fun b hb => by omega))
    have HPC : Hid (∀ wr, Only (fun b => b = og) w6 wr → ∀ i, i < ps.length → wr.cell? ⟨pg, i, none⟩ = some (.int .i64 (nth ps i))) := fun wr ho i hi => by
      have h := Q6.out.only ho (fun g hg e => by simp [Value.ownBlock] at hg; omega)
      obtain ⟨a', c', hv, hi', _⟩ := h.shape
      cases hv
      obtain ⟨b, off, hb, hc⟩ := hi'.cell hps0
      cases hb
      have := hc i hi
      rwa [Nat.zero_add] at this
    have HU : Hid (∀ wr, Only (fun b => b = og) w6 wr → Box3 wr w3.heap.size 32 (.slice a0 O.length k0) (.slice a1 zss.length k1) (.slice (some ⟨og, 0, none⟩) P.length k2)) := fun wr ho => rowIs_only (U4.out.below L6.out) ho (by omega)
    have HFR : Hid (∀ wr i, Only (fun b => b = og) w6 wr → ∀ zs, OwnInts wr w2.heap.size w3.heap.size (.slice (some ⟨og, 0, none⟩) P.length k2) zs → zs.length = P.length → wr.frozen? ⟨og, i, none⟩ = false) := fun wr i _ zs h hl => by
      obtain ⟨a', c', hv, _, hf⟩ := h.shape
      obtain ⟨g, hg, _, _, _, hfz⟩ := hf (by omega)
      simp only [Value.slice.injEq] at hv
      rw [hg] at hv
      simp only [Option.some.injEq, Addr.mk.injEq] at hv
      rw [hv.1.1]
      exact hfz i
    have q0 := HPC.out w6 HO0.out 0 hps0
    obtain ⟨p0, hp0⟩ : ∃ p, p = nth ps 0 := ⟨_, rfl⟩
    have hp00 : 0 ≤ p0 := by rw [hp0]; exact HPB.out 0 hps0
    have hps00 : (0 : Int) < ps.length := by omega
    have HN0 : Hid (p0 % 2 = nowK ps 0) := by rw [hp0]; rfl
    have htm : p0.tmod 2 = p0 % 2 := Int.tmod_eq_emod_of_nonneg hp00
    rw [← hp0] at q0
    clear hp0
    go_wp2
    clear q0
    go_loopw [5, 6] (fun nv iv wr => ∃ k : Nat, k ≤ ps.length ∧ iv = .int .i64 k ∧ nv = .int .i64 (nowK ps k) ∧ Hid (OwnInts wr w2.heap.size w3.heap.size (.slice (some ⟨og, 0, none⟩) P.length k2) (outL P ps k)) ∧ Hid (Only (fun b => b = og) w6 wr)) (fun _ iv _ => ps.length - (intOf iv).toNat)
    case atStart => exact ⟨0, Nat.zero_le _, rfl, by rw [← HN0.out], HM0, HO0⟩
    case round =>
      clear HM0 HO0 HN0 htm
      obtain ⟨k, hk, rfl, rfl, HM, HO⟩ := hrel
      by_cases hlt : k < ps.length
      · have hi1 : (k : Int) < ps.length := by omega
        have hk0 : (0 : Int) ≤ (k : Int) := by omega
        have pc1 := HPC.out wr HO.out k hlt
        obtain ⟨n, hn⟩ : ∃ n, n = nowK ps k := ⟨_, rfl⟩
        obtain ⟨p, hpv⟩ : ∃ p, p = nth ps k := ⟨_, rfl⟩
        have hnb := HPN.out k
        have hnb1 := HPN.out (k + 1)
        have hpb : 0 ≤ p := by rw [hpv]; exact HPB.out k hlt
        rw [← hn] at hnb ⊢
        rw [← hpv] at pc1
        obtain ⟨hnb0, hnb2⟩ := hnb
        have ht1 : p.tmod 2 = p % 2 := Int.tmod_eq_emod_of_nonneg hpb
        have ht2 : n.tmod 2 = n % 2 := Int.tmod_eq_emod_of_nonneg hnb0
        have hwn : IntKind.i64.wrap (n + 1) = n + 1 := IntWalk.i64_in _ (by omega)
        have hcase : (nowK ps (k + 1) = n ∧ (p % 2 != n % 2) = false) ∨ (nowK ps (k + 1) = n + 1 ∧ (p % 2 != n % 2) = true) := by
          have e : nowK ps (k + 1) = pStep n p := by rw [hn, hpv]; rfl
          rw [e]; unfold pStep
          by_cases h : p % 2 = n % 2
          · exact .inl ⟨by rw [if_pos h], by simp [h]⟩
          · exact .inr ⟨by rw [if_neg h], by simpa using h⟩
        have HPV := Lib.hid hpv
        have HMZ : Hid (OwnInts wr w2.heap.size w3.heap.size (.slice (some ⟨og, 0, none⟩) P.length k2) (mixL P ps k 0)) := by rw [mixL_zero]; exact HM.out
        clear hn hpv
        rcases hcase with ⟨hn', hpar⟩ | ⟨hn', hpar⟩
        all_goals (
          have HN' := Lib.hid hn'
          rw [hn'] at hnb1
          obtain ⟨hnc0, hnc1⟩ := hnb1
          clear hn'
          go_wp2
          clear pc1 hpar ht1 ht2
          go_loopw [7] (fun vv wv => ∃ j : Nat, j ≤ P.length ∧ vv = .int .i64 j ∧ Hid (OwnInts wv w2.heap.size w3.heap.size (.slice (some ⟨og, 0, none⟩) P.length k2) (mixL P ps k j)) ∧ Hid (Only (fun b => b = og) w6 wv)) (fun vv _ => P.length - (intOf vv).toNat)
          case atStart => exact ⟨0, Nat.zero_le _, rfl, HMZ, HO⟩
          case round =>
            clear HMZ HM HO
            obtain ⟨j, hj, rfl, HMj, HOj⟩ := hrel
            have Tj := Lib.hid (T1.out.below (HK.out _ HOj.out))
            have t2 := Tj.out.c2
            by_cases hjt : j < P.length
            · have hj1 : (j : Int) < P.length := by omega
              have hj0 : (0 : Int) ≤ (j : Int) := by omega
              have pc2 := HPC.out _ HOj.out k hlt
              rw [← HPV.out] at pc2
              obtain ⟨pb, po, hpa', hpc'⟩ := (HPi.out.below (B1.out.trans ((HK.out _ HOj.out).mono B1.out.size))).cell (by omega)
              have p1 := hpc' j hjt
              subst hpa'
              obtain ⟨x, hx⟩ : ∃ x, x = nth P j := ⟨_, rfl⟩
              have HX := Lib.hid hx
              rw [← hx] at p1
              clear hpc' hx
              by_cases e : x = p
              · have he : (x == p) = true := by simpa using e
                have HE2 := Lib.hid e
                clear e
                go_wp2
                go_quiet (fail)
                obtain ⟨wx, hwx⟩ : ∃ y, y = wr.drewN nq := ⟨_, rfl⟩
                have hox : Only (fun b => b = og) wr wx := by rw [hwx]; exact Only.of_below (below_drewN (Below.refl _ _) nq)
                rw [← hwx]
                have HOx := Lib.hid (HOj.out.trans hox)
                have HMx := Lib.hid (HMj.out.only (S := fun _ => False) (Only.of_below (show Below wr.heap.size wr wx by rw [hwx]; exact below_drewN (Below.refl _ _) nq)) (fun _ _ h => h))
                have u2 := (HU.out _ HOx.out).c2
                have fz := HFR.out wx j HOx.out _ HMx.out mixL_len
                have cz : wx.cell? ⟨og, j, none⟩ = some (.int .i64 (nth (mixL P ps k j) j)) := by
                  obtain ⟨a', c', hv, hi', _⟩ := HMx.out.shape
                  rw [mixL_len] at hv
                  cases hv
                  obtain ⟨b, off, hb, hc⟩ := hi'.cell (by rw [mixL_len]; exact hlP0)
                  cases hb
                  have := hc j (by rw [mixL_len]; exact hjt)
                  rwa [Nat.zero_add] at this
                clear hwx hox t2 pc2 p1
                have hst := HMx.out.store (x := nowK ps (k + 1)) mixL_len.symm (j := j) (by rw [mixL_len]; exact hjt) (by rw [HN'.out]; unfold Fits; omega)
                rw [mixL_hit hjt (by rw [← HX.out, HE2.out, HPV.out]), HN'.out] at hst
                have HMn := Lib.hid hst
                have HOn := Lib.hid (HOx.out.setCell (p := ⟨og, j, none⟩) rfl (.int .i64 (nowK ps (k + 1))))
                rw [HN'.out] at HOn
                clear hst
                go_wp2
                go_roundw
                case rel => exact ⟨j + 1, by omega, by go_num, HMn, HOn⟩
                case measure => simp [intOf]; omega
              · have he : (x == p) = false := beq_eq_false_iff_ne.2 e
                have HE2 := Lib.hid e
                clear e
                go_wp2
                go_quiet (fail)
                obtain ⟨wx, hwx⟩ : ∃ y, y = wr.drewN nq := ⟨_, rfl⟩
                have hbx : Below wr.heap.size wr wx := by rw [hwx]; exact below_drewN (Below.refl _ _) nq
                rw [← hwx]
                have HOn := Lib.hid (HOj.out.trans (Only.of_below (S := fun b => b = og) hbx))
                have hmn := HMj.out.only (S := fun _ => False) (Only.of_below hbx) (fun _ _ h => h)
                rw [mixL_pass hjt (by rw [← HX.out, ← HPV.out]; exact HE2.out)] at hmn
                have HMn := Lib.hid hmn
                clear hwx hbx hmn t2 pc2 p1
                go_wp2
                go_roundw
                case rel => exact ⟨j + 1, by omega, by go_num, HMn, HOn⟩
                case measure => simp [intOf]; omega
            · have hj1 : ¬ (j : Int) < P.length := by omega
              have hjj : j = P.length := by omega
              rw [hjj, mixL_all] at HMj
              clear hjj
              go_wp2
              clear t2
              go_roundw
              case rel => exact ⟨k + 1, by omega, by go_num, by rw [HN'.out], HMj, HOj⟩
              case measure => simp [intOf]; omega)
      · have hi1 : ¬ (k : Int) < ps.length := by omega
        have hkk : k = ps.length := by omega
        have HMf : Hid (OwnInts wr w2.heap.size w3.heap.size (.slice (some ⟨og, 0, none⟩) P.length k2) (pressL P)) := by
          have h := HM.out
          rw [hkk, HPS.out] at h
          exact h
        have hk9 := HK.out wr HO.out
        have Br := Lib.hid (B1.out.trans (hk9.mono B1.out.size))
        have Rr := Lib.hid (R1.out.below hk9)
        have Ur := Lib.hid (HU.out wr HO.out)
        have HG : Hid (OwnGame wr w2.heap.size w3.heap.size (.agg #[.slice a0 O.length k0, .slice a1 zss.length k1, .slice (some ⟨og, 0, none⟩) P.length k2]) O zss (pressL P)) :=
          ⟨_, _, _, V, rfl, (X1.out.below L6.out).only HO.out (fun g hg e => X6.out g hg (by rw [e]; rfl)), (X2.out.below L6.out).only HO.out (fun g hg e => own_types X2.out.own X3.out.own g hg (by rw [e]; rfl)) (fun i hi g hg e => X5.out i hi g hg (by rw [e]; rfl)), HMf.out, X4.out, X5.out, X6.out⟩
        clear hk9 hkk HM
        have s0 := Ur.out.c0
        have s1 := Ur.out.c1
        have s2 := Ur.out.c2
        have r0 := Rr.out.c0
        have r1 := Rr.out.c1
        have r2 := Rr.out.c2
        have g0 := World.rowIs.frozen Rr.out 0
        have g1 := World.rowIs.frozen Rr.out 1
        have g2 := World.rowIs.frozen Rr.out 2
        have hst := game_stored (w := w) (wr := wr) (t := w.heap.size + 1) (n := w2.heap.size) Rr.out HG.out (by have := HS1.out; omega) (by omega) (by have := HS1.out; omega) Br.out
        have HST := Lib.hid hst
        have u0 := hst.2.2.c0
        have u1 := hst.2.2.c1
        have u2 := hst.2.2.c2
        clear hst
        go_wp2
        exact bodyPost_ret (v := .agg #[.slice a0 O.length k0, .slice a1 zss.length k1, .slice (some ⟨og, 0, none⟩) P.length k2]) (by simp [results, Try.results27, go_sem, u0, u1, u2]) rfl
          ⟨_, rfl, by rw [HE.out.1, HE.out.2.1, HE.out.2.2]; exact HST.out.1, HST.out.2.1⟩
end

end Go.Proofs.Ytmobegiojhlakaa
