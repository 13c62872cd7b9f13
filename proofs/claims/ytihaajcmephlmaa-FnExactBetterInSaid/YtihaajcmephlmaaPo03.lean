/-
  The solver's game in memory; contracts: the model's l7Edge and l7Degree.
-/
import Derived.Deep.RegionHeld3
import Derived.Deep.DeepCutAuto
import Derived.Deep.AppendLies
import Derived.Test.YtihaajcmephlmaaPo00
import Derived.Test.YtihaajcmephlmaaPo01
import Derived.Test.YtihaajcmephlmaaPo02
namespace Go.Proofs.Ytihaajcmephlmaa
section
open Go.RowKit

def quint (a b c d e : Value) : Nat → Value := fun i => if i = 0 then a else if i = 1 then b else if i = 2 then c else if i = 3 then d else e

/-- A box of five slices. -/
def Box5 (w : World) (g : Nat) (t : TypeId) (a b c d e : Value) : Prop := w.rowIs g t 5 (quint a b c d e)
theorem Box5.new (w : World) (T : TypeId) (a b c d e : Value) : Box5 (w.alloc (.cells #[a, b, c, d, e] T)) w.heap.size T a b c d e := by
  refine ⟨_, heap_alloc_new w _, by simp, fun j hj => ?_⟩
  have hj3 : j = 0 ∨ j = 1 ∨ j = 2 ∨ j = 3 ∨ j = 4 := by omega
  rcases hj3 with rfl | rfl | rfl | rfl | rfl <;> rfl
section
variable {w w' : World} {g : Nat} {t : TypeId} {a b c d e : Value}
theorem Box5.below (h : Box5 w g t a b c d e) (hb : Below w.heap.size w w') : Box5 w' g t a b c d e := rowIs_below h hb
theorem Box5.c0 (h : Box5 w g t a b c d e) : w.cell? ⟨g, 0, none⟩ = some a := World.rowIs.cell (i := 0) h (by omega)
theorem Box5.c1 (h : Box5 w g t a b c d e) : w.cell? ⟨g, 1, none⟩ = some b := World.rowIs.cell (i := 1) h (by omega)
theorem Box5.c2 (h : Box5 w g t a b c d e) : w.cell? ⟨g, 2, none⟩ = some c := World.rowIs.cell (i := 2) h (by omega)
theorem Box5.c3 (h : Box5 w g t a b c d e) : w.cell? ⟨g, 3, none⟩ = some d := World.rowIs.cell (i := 3) h (by omega)
theorem Box5.c4 (h : Box5 w g t a b c d e) : w.cell? ⟨g, 4, none⟩ = some e := World.rowIs.cell (i := 4) h (by omega)
theorem Box5.lt (h : Box5 w g t a b c d e) : g < w.heap.size := World.rowIs.lt h
end

/-- A struct of five slices that reads as the solver's game: owners, priorities, successors, predecessors, picks. -/
structure GameL (w : World) (ao ap an aq ak : Option Addr) (A : Nat → Option Addr) (C : Nat → Nat) (A' : Nat → Option Addr) (C' : Nat → Nat) (O P : List Int) (zss : List (List Int)) (Pk : List Int) : Prop where
  own : IntsAt w ao O
  prio : IntsAt w ap P
  next : RowsAt w an A C zss
  prev : RowsAt w aq A' C' (rowsOf zss.length fun u => predsK zss u zss.length)
  pick : IntsAt w ak Pk
theorem GameL.below {w w' : World} {ao ap an aq ak : Option Addr} {A : Nat → Option Addr} {C : Nat → Nat} {A' : Nat → Option Addr} {C' : Nat → Nat} {O P : List Int} {zss : List (List Int)} {Pk : List Int} (h : GameL w ao ap an aq ak A C A' C' O P zss Pk) (hb : Below w.heap.size w w') : GameL w' ao ap an aq ak A C A' C' O P zss Pk :=
  ⟨h.own.below hb, h.prio.below hb, h.next.below hb, h.prev.below hb, h.pick.below hb⟩

/-- May v step to u, by the picks? -/
def pickB (Pk : List Int) (v : Nat) (u : Int) : Bool := decide (nth Pk v < 0) || decide (nth Pk v = u)
/-- The successors that there are by the picks. -/
def zssE (zss : List (List Int)) (Pk : List Int) : List (List Int) := rowsOf zss.length fun v => (row zss v).filter (pickB Pk v)
theorem zssE_len {zss : List (List Int)} {Pk : List Int} : (zssE zss Pk).length = zss.length := rowsOf_len _ _
theorem zssE_row {zss : List (List Int)} {Pk : List Int} {v : Nat} (hv : v < zss.length) : row (zssE zss Pk) v = (row zss v).filter (pickB Pk v) := rowsOf_row hv

theorem zssE_rows {zss : List (List Int)} {Pk : List Int} (h : RowsP zss) : RowsP (zssE zss Pk) where
  inG := fun u hu x hx => by
    rw [zssE_len] at hu ⊢
    rw [zssE_row hu] at hx
    exact h.inG u hu x (List.mem_filter.1 hx).1
  once := fun v hv => by
    rw [zssE_len] at hv
    rw [zssE_row hv]
    exact (h.once v hv).filter _

/-- How many of the first k successors of v lie in the part and may be stepped to. -/
def degK (I : Nat → Bool) (Pk : List Int) (v : Nat) (us : List Int) : Int := ((us.filter fun x => I x.toNat && pickB Pk v x).length : Int)

end

section
open Go.RowKit

/-- A call hands back marks of its own. -/
def GivesMarks (w : World) (n : Nat) (f : Nat → Bool) (e : Ending) (w' : World) : Prop :=
  ∃ b, e = .returned (.slice (some ⟨b, 0, none⟩) n n) ∧ w.heap.size ≤ b ∧ w'.rowIs b 4 n (marksV f) ∧ Below w.heap.size w w'

/-- While l7Less runs. -/
def lessK (I A : Nat → Bool) (k : Nat) : Nat → Bool := fun v => decide (v < k) && lessB I A v
theorem lessK_succ {I A : Nat → Bool} {k : Nat} : lessK I A (k + 1) = mark1 (lessK I A k) k (lessB I A k) := funext fun v => by
  unfold lessK mark1
  by_cases e : v = k
  · subst e; simp
  · rw [if_neg e]
    congr 1
    rw [decide_eq_decide]; omega
theorem lessK_all {I A : Nat → Bool} {n : Nat} {w : World} {b : Nat} (h : w.rowIs b 4 n (marksV (lessK I A n))) : w.rowIs b 4 n (marksV (lessB I A)) :=
  h.congr fun i hi => by simp [marksV, lessK, hi]

end

section
open Go.RowKit

def numsV (f : Nat → Int) : Nat → Value := fun i => .int .i64 (f i)
theorem nums_set {w : World} {b n v : Nat} {t : TypeId} {f : Nat → Int} {x : Int} (h : w.rowIs b t n (numsV f)) : (w.setCell ⟨b, v, none⟩ (.int .i64 x)).rowIs b t n (numsV fun i => if i = v then x else f i) :=
  World.rowIs.congr (h.set v (.int .i64 x)) fun i _ => by
    unfold numsV
    by_cases e : i = v <;> simp [e]
theorem marks_one {w : World} {b n v : Nat} {t : TypeId} {f : Nat → Bool} (h : w.rowIs b t n (marksV f)) : (w.setCell ⟨b, v, none⟩ (.bool true)).rowIs b t n (marksV fun i => if i = v then true else f i) :=
  World.rowIs.congr (h.set v (.bool true)) fun i _ => by
    unfold marksV
    by_cases e : i = v <;> simp [e]

/-- The goal in the part. -/
def goalB (I G : Nat → Bool) : Nat → Bool := fun v => I v && G v
def outA (I G : Nat → Bool) (k : Nat) : Nat → Bool := fun v => decide (v < k) && goalB I G v
def leftA (zss : List (List Int)) (I : Nat → Bool) (Pk : List Int) (k : Nat) : Nat → Int := fun v => if v < k ∧ I v = true then degK I Pk v (row zss v) else 0

section
variable {zss : List (List Int)} {O Pk : List Int} {who : Int} {I G : Nat → Bool}

theorem outA_pass {k : Nat} (h : goalB I G k = false) : outA I G (k + 1) = outA I G k := funext fun v => by
  unfold outA
  by_cases e : v = k
  · subst e; simp [h]
  · congr 1; rw [decide_eq_decide]; omega
theorem outA_hit {k : Nat} (h : goalB I G k = true) : (fun i => if i = k then true else outA I G k i) = outA I G (k + 1) := funext fun v => by
  unfold outA
  by_cases e : v = k
  · subst e; simp [h]
  · rw [if_neg e]; congr 1; rw [decide_eq_decide]; omega
theorem leftA_pass {k : Nat} (h : I k = false) : leftA zss I Pk (k + 1) = leftA zss I Pk k := funext fun v => by
  unfold leftA
  by_cases e : v = k
  · subst e; rw [if_neg (fun hh => by rw [h] at hh; cases hh.2), if_neg (fun hh => by omega)]
  · by_cases hc : v < k ∧ I v = true
    · rw [if_pos hc, if_pos ⟨by omega, hc.2⟩]
    · rw [if_neg hc, if_neg (fun hh => hc ⟨by omega, hh.2⟩)]
theorem leftA_hit {k : Nat} (h : I k = true) : (fun i => if i = k then degK I Pk k (row zss k) else leftA zss I Pk k i) = leftA zss I Pk (k + 1) := funext fun v => by
  unfold leftA
  by_cases e : v = k
  · subst e; rw [if_pos rfl, if_pos ⟨by omega, h⟩]
  · rw [if_neg e]
    by_cases hc : v < k ∧ I v = true
    · rw [if_pos hc, if_pos ⟨by omega, hc.2⟩]
    · rw [if_neg hc, if_neg (fun hh => hc ⟨by omega, hh.2⟩)]

/-- Before the queue is read. -/
theorem attract_starts (hz : RowsP zss) : QuP (zssE zss Pk) O who I G (fun x => (x : Int) ∈ (markedK (goalB I G) zss.length).take 0) (markedK (goalB I G) zss.length) (outA I G zss.length) (leftA zss I Pk zss.length) where
  verts := ⟨(markedK_rising _ _).imp fun h => by omega, fun x hx => by
    obtain ⟨v, hv, hvn, _⟩ := (markedK_mem _ _ _).1 hx
    exact ⟨v, hv, by rw [zssE_len]; exact hvn⟩⟩
  outs := fun v hv => by
    rw [zssE_len] at hv
    simp only [List.take_zero, List.not_mem_nil]
    unfold outA goalB QueP
    simp only [hv, decide_true, Bool.true_and, Bool.and_eq_true]
    constructor
    · rintro ⟨h1, h2⟩; exact ⟨h1, .inl h2⟩
    · rintro ⟨h1, h2 | h2⟩
      · exact ⟨h1, h2⟩
      · exact absurd h2 CanP.none
  mem := fun v hv => by
    rw [zssE_len] at hv
    rw [markedK_mem]
    unfold outA
    simp only [hv, decide_true, Bool.true_and]
    constructor
    · rintro ⟨u, hu, _, h⟩
      obtain rfl := Int.natCast_inj.1 hu
      exact h
    · intro h; exact ⟨v, rfl, hv, h⟩
  lefts := fun v hv hI _ => by
    rw [zssE_len] at hv
    unfold leftA cntF degK
    rw [if_pos ⟨hv, hI⟩, zssE_row hv, List.filter_filter]
    congr 2
    refine List.filter_congr fun x _ => ?_
    simp
  sound := fun v hv h => by
    have hv' := hv
    rw [zssE_len] at hv'
    unfold outA goalB at h
    simp only [hv', decide_true, Bool.true_and, Bool.and_eq_true] at h
    exact (attr_fix (zssE_rows hz).inG hv).2 ⟨h.1, .inl h.2⟩

end

end

section
open Go.RowKit

/-- While marks are written in order. -/
def outK (f : Nat → Bool) (k : Nat) : Nat → Bool := fun v => decide (v < k) && f v
theorem outK_succ {f : Nat → Bool} {k : Nat} : outK f (k + 1) = mark1 (outK f k) k (f k) := funext fun v => by
  unfold outK mark1
  by_cases e : v = k
  · subst e; simp
  · rw [if_neg e]
    congr 1
    rw [decide_eq_decide]; omega
theorem outK_all {f : Nat → Bool} {n : Nat} {w : World} {b : Nat} (h : w.rowIs b 4 n (marksV (outK f n))) : w.rowIs b 4 n (marksV f) :=
  h.congr fun i hi => by simp [marksV, outK, hi]
theorem outK_new {w : World} {f : Nat → Bool} {n : Nat} : (w.alloc (.cells (madeCells #[.bool false] n) 4)).rowIs w.heap.size 4 n (marksV (outK f 0)) :=
  (World.rowIs_made w _ _ _).congr (fun i _ => by simp [marksV, outK])
theorem outK_other {w : World} {f g : Nat → Bool} {n b : Nat} (h : w.rowIs b 4 n (marksV (outK f 0))) : w.rowIs b 4 n (marksV (outK g 0)) :=
  h.congr (fun i _ => by simp [marksV, outK])
theorem outK_set {w : World} {f : Nat → Bool} {n b k : Nat} {x : Bool} (h : w.rowIs b 4 n (marksV (outK f k))) (hx : f k = x) : (w.setCell ⟨b, k, none⟩ (.bool x)).rowIs b 4 n (marksV (outK f (k + 1))) := by
  rw [outK_succ, hx]; exact marks_set h
def anyK (f : Nat → Bool) : Nat → Bool
  | 0 => false
  | k + 1 => anyK f k || f k
theorem anyK_range {f : Nat → Bool} : ∀ n, (List.range n).any f = anyK f n
  | 0 => rfl
  | n + 1 => by rw [List.range_succ, List.any_append, anyK_range n]; simp [anyK]

/-- One call of the solver over what its calls give. -/
noncomputable def stepZ (zss : List (List Int)) (O : List Int) (p : Nat → Int) (W : (Nat → Bool) → Nat → Bool) (I : Nat → Bool) (v : Nat) : Bool :=
  if topZ p I zss.length < 0 then false
  else if (List.range zss.length).any (lostZ (topZ p I zss.length % 2) (restZ zss O p I) (W (restZ zss O p I))) = false then I v && decide (topZ p I zss.length % 2 = 0)
  else W (lessB I (attrB zss O (1 - topZ p I zss.length % 2) I (lostZ (topZ p I zss.length % 2) (restZ zss O p I) (W (restZ zss O p I))))) v ||
    (attrB zss O (1 - topZ p I zss.length % 2) I (lostZ (topZ p I zss.length % 2) (restZ zss O p I) (W (restZ zss O p I))) v && decide (topZ p I zss.length % 2 = 1))

section
variable {zss : List (List Int)} {O : List Int} {p : Nat → Int} {W : (Nat → Bool) → Nat → Bool} {I : Nat → Bool} {n : Nat} {top who : Int}

theorem step_none (hl : zss.length = n) (ht : topZ p I n < 0) : stepZ zss O p W I = fun _ => false := funext fun v => by
  unfold stepZ; rw [hl, if_pos ht]
/-- The goal is that of the greatest priority; the rest is what it does not pull. -/
theorem step_rest (hl : zss.length = n) (ht : topZ p I n = top) : lessB I (attrB zss O (top % 2) I (fun v => I v && decide (p v = top))) = restZ zss O p I := by
  unfold restZ goalZ; rw [hl, ht]
theorem step_some {rest lost : Nat → Bool} (hl : zss.length = n) (ht : topZ p I n = top) (h0 : ¬ top < 0) (hr : rest = restZ zss O p I) (hlo : lost = lostZ (top % 2) rest (W rest)) (hs : anyK lost n = true) :
    stepZ zss O p W I = fun v => W (lessB I (attrB zss O (1 - top % 2) I lost)) v || (attrB zss O (1 - top % 2) I lost v && decide (top % 2 = 1)) := funext fun v => by
  unfold stepZ
  rw [hl, ht, if_neg h0, anyK_range, ← hr, ← hlo, if_neg (by rw [hs]; simp)]
theorem step_all {rest lost : Nat → Bool} (hl : zss.length = n) (ht : topZ p I n = top) (h0 : ¬ top < 0) (hr : rest = restZ zss O p I) (hlo : lost = lostZ (top % 2) rest (W rest)) (hs : anyK lost n = false) :
    stepZ zss O p W I = fun v => I v && decide (top % 2 = 0) := funext fun v => by
  unfold stepZ
  rw [hl, ht, if_neg h0, anyK_range, ← hr, ← hlo, if_pos hs]
/-- The rest is smaller, and so is what is left behind the opponent's pull. -/
theorem step_less (hin : InG zss) (hl : zss.length = n) (ht : topZ p I n = top) (h0 : ¬ top < 0) : (markedK (restZ zss O p I) n).length < (markedK I n).length := by
  obtain ⟨g, hg1, hg2, hg3⟩ := topZ_at (p := p) (I := I) n (by omega)
  rw [← step_rest hl ht]
  refine marked_less (fun v _ h => (lessB_iff.1 h).1) hg1 hg2 ?_
  have hgA : attrB zss O (top % 2) I (fun v => I v && decide (p v = top)) g = true := (attr_fix hin (by rw [hl]; exact hg1)).2 ⟨hg2, .inl (by simp [hg2, hg3, ht])⟩
  cases h : lessB I (attrB zss O (top % 2) I (fun v => I v && decide (p v = top))) g with
  | false => rfl
  | true => rw [(lessB_iff.1 h).2] at hgA; cases hgA
theorem step_less2 {lost : Nat → Bool} (hin : InG zss) (hl : zss.length = n) {b : Int} (hs : anyK lost n = true) (hsub : ∀ v, lost v = true → I v = true) : (markedK (lessB I (attrB zss O b I lost)) n).length < (markedK I n).length := by
  rw [← anyK_range, List.any_eq_true] at hs
  obtain ⟨x, hx, hlx⟩ := hs
  rw [List.mem_range] at hx
  refine marked_less (fun v _ h => (lessB_iff.1 h).1) hx (hsub x hlx) ?_
  have hax : attrB zss O b I lost x = true := (attr_fix hin (by rw [hl]; exact hx)).2 ⟨hsub x hlx, .inl hlx⟩
  cases h : lessB I (attrB zss O b I lost) x with
  | false => rfl
  | true => rw [(lessB_iff.1 h).2] at hax; cases hax
theorem lost_sub {w : Int} {low : Nat → Bool} {v : Nat} (h : lostZ w (restZ zss O p I) low v = true) : I v = true := by
  unfold lostZ restZ at h
  rw [Bool.and_eq_true] at h
  exact (lessB_iff.1 h.1).1

end

theorem winZ_step {zss : List (List Int)} {O : List Int} {p : Nat → Int} {m : Nat} {I : Nat → Bool} : winZ zss O p (m + 1) I = stepZ zss O p (winZ zss O p m) I := funext fun v => by
  rw [winZ]; rfl
theorem step_empty {zss : List (List Int)} {O : List Int} {p : Nat → Int} {W : (Nat → Bool) → Nat → Bool} {I : Nat → Bool} (h : (markedK I zss.length).length ≤ 0) : stepZ zss O p W I = winZ zss O p 0 I := by
  rw [step_none rfl (Classical.byContradiction fun hn => ?_)]
  · funext v; simp [winZ]
  · obtain ⟨g, hg1, hg2, _⟩ := topZ_at (p := p) (I := I) zss.length (by omega)
    have := marked_less (n := zss.length) (I := I) (J := fun _ => false) (fun _ _ h => by cases h) hg1 hg2 rfl
    omega

end

section
open Go.RowKit

/-- A call hands back the solver's game: the arena's slices are shared, who goes to whom the other way and the picks are its own. -/
def GivesSolver (w : World) (ao an ap : Option Addr) (co cn cp : Nat) (n : Nat) (zss : List (List Int)) (e : Ending) (w' : World) : Prop :=
  ∃ q k V, e = .returned (.agg #[.slice ao n co, .slice ap n cp, .slice an n cn, .slice (some ⟨q, 0, none⟩) n n, .slice (some ⟨k, 0, none⟩) n n]) ∧ RowSet w' w.heap.size q n V (fun u => predsK zss u n) ∧ w'.rowIs k 2 n (fun _ => .int .i64 (-1)) ∧ Below w.heap.size w w'
/-- The same, and the picks lie apart. -/
def GivesSolver2 (w : World) (ao an ap : Option Addr) (co cn cp : Nat) (n : Nat) (zss : List (List Int)) (e : Ending) (w' : World) : Prop :=
  ∃ q k V, e = .returned (.agg #[.slice ao n co, .slice ap n cp, .slice an n cn, .slice (some ⟨q, 0, none⟩) n n, .slice (some ⟨k, 0, none⟩) n n]) ∧ RowSet w' w.heap.size q n V (fun u => predsK zss u n) ∧ w'.rowIs k 2 n (fun _ => .int .i64 (-1)) ∧ Below w.heap.size w w' ∧ w.heap.size ≤ k ∧ ∀ u, u < n → ∀ b, (V u).ownBlock = some b → b ≠ k

theorem box3_keep {w w' : World} {g : Nat} {t : TypeId} {a b c : Value} (h : Box3 w g t a b c) (hb : Below w.heap.size w w') : w'.cell? ⟨g, 0, none⟩ = some a ∧ w'.cell? ⟨g, 1, none⟩ = some b ∧ w'.cell? ⟨g, 2, none⟩ = some c :=
  ⟨(h.below hb).c0, (h.below hb).c1, (h.below hb).c2⟩

/-- Three blocks made one behind the other. -/
theorem chain3 (w : World) (o1 o2 o3 : Obj) : (((w.alloc o1).alloc o2).alloc o3).drew.heap[w.heap.size]? = some o1 ∧ (((w.alloc o1).alloc o2).alloc o3).drew.heap[w.heap.size + 1]? = some o2 ∧ (((w.alloc o1).alloc o2).alloc o3).drew.heap[w.heap.size + 1 + 1]? = some o3 ∧ Below w.heap.size w (((w.alloc o1).alloc o2).alloc o3).drew := by
  refine ⟨?_, ?_, ?_, ?_⟩
  · show (((w.alloc o1).alloc o2).alloc o3).heap[w.heap.size]? = some o1
    rw [Below.heap_alloc _ _ _ (by simp; omega), Below.heap_alloc _ _ _ (by simp)]
    exact heap_alloc_new w o1
  · show (((w.alloc o1).alloc o2).alloc o3).heap[w.heap.size + 1]? = some o2
    rw [Below.heap_alloc _ _ _ (by simp)]
    have h := heap_alloc_new (w.alloc o1) o2
    rwa [World.size_alloc] at h
  · show (((w.alloc o1).alloc o2).alloc o3).heap[w.heap.size + 1 + 1]? = some o3
    have h := heap_alloc_new ((w.alloc o1).alloc o2) o3
    rwa [World.size_alloc, World.size_alloc] at h
  · exact ((below2 w o1 o2).alloc (by simp; omega) o3).drew
theorem box5_of_heap {w : World} {g : Nat} {T : TypeId} {a b c d e : Value} (h : w.heap[g]? = some (.cells #[a, b, c, d, e] T)) : Box5 w g T a b c d e := by
  refine ⟨_, h, by simp, fun j hj => ?_⟩
  have hj3 : j = 0 ∨ j = 1 ∨ j = 2 ∨ j = 3 ∨ j = 4 := by omega
  rcases hj3 with rfl | rfl | rfl | rfl | rfl <;> rfl
theorem made_of_heap {w : World} {g n : Nat} {T : TypeId} {z : Value} (h : w.heap[g]? = some (.cells (madeCells #[z] n) T)) : w.rowIs g T n (fun _ => z) :=
  ⟨_, h, size_madeCells _ _, fun i hi => by simp [madeCells, hi, Nat.mod_one]⟩
theorem rowset_of_heap {w : World} {B g n : Nat} {R : Nat → List Int} (h : w.heap[g]? = some (.cells (madeCells #[.slice none 0 0] n) 27)) (hB : B ≤ g) (hn : n ≤ maxLen) (hR : ∀ u, R u = []) : RowSet w B g n (fun _ => .slice none 0 0) R := by
  obtain rfl : R = fun _ => [] := funext hR
  exact ⟨ownsRow_of_rowIs (made_of_heap h) hB hn, fun k _ => OwnInts.nil _ _ _, fun i j _ _ _ b hb => by simp [Value.ownBlock] at hb⟩

/-- The result's box takes the solver's game. -/
theorem solver_stored {wr : World} {t : Nat} {T : TypeId} {x0 x1 x2 x3 x4 a0 a1 a2 a3 a4 : Value} (hR : Box5 wr t T x0 x1 x2 x3 x4) :
    Only (fun b => b = t) wr (((((wr.setCell ⟨t, 0, none⟩ a0).setCell ⟨t, 1, none⟩ a1).setCell ⟨t, 2, none⟩ a2).setCell ⟨t, 3, none⟩ a3).setCell ⟨t, 4, none⟩ a4) ∧
      Box5 (((((wr.setCell ⟨t, 0, none⟩ a0).setCell ⟨t, 1, none⟩ a1).setCell ⟨t, 2, none⟩ a2).setCell ⟨t, 3, none⟩ a3).setCell ⟨t, 4, none⟩ a4) t T a0 a1 a2 a3 a4 := by
  refine ⟨(((((Only.refl (fun b => b = t) wr).setCell (p := ⟨t, 0, none⟩) rfl _).setCell (p := ⟨t, 1, none⟩) rfl _).setCell (p := ⟨t, 2, none⟩) rfl _).setCell (p := ⟨t, 3, none⟩) rfl _).setCell (p := ⟨t, 4, none⟩) rfl _, ?_⟩
  exact World.rowIs.congr (((((World.rowIs.set hR 0 a0).set 1 a1).set 2 a2).set 3 a3).set 4 a4) fun i hi => by
    have h5 : i = 0 ∨ i = 1 ∨ i = 2 ∨ i = 3 ∨ i = 4 := by omega
    rcases h5 with rfl | rfl | rfl | rfl | rfl <;> simp [quint]

theorem none_own {n S : Nat} : ∀ u, u < n → ∀ b, ((fun _ => Value.slice none 0 0 : Nat → Value) u).ownBlock = some b → S ≤ b := fun _ _ b hb => by simp [Value.ownBlock] at hb
theorem lt_of_three {w : World} {g : Nat} {o1 o2 o3 : Obj} (h1 : w.heap[g]? = some o1) (h2 : w.heap[g + 1]? = some o2) (h3 : w.heap[g + 1 + 1]? = some o3) : g < w.heap.size ∧ g + 1 < w.heap.size ∧ g + 1 + 1 < w.heap.size := by
  obtain ⟨h1, _⟩ := Array.getElem?_eq_some_iff.1 h1
  obtain ⟨h2, _⟩ := Array.getElem?_eq_some_iff.1 h2
  obtain ⟨h3, _⟩ := Array.getElem?_eq_some_iff.1 h3
  exact ⟨h1, h2, h3⟩
/-- The picks while they are laid. -/
def pickK (k : Nat) : Nat → Int := fun i => if i < k then -1 else 0
theorem pickK_hit {k : Nat} : (fun i => if i = k then -1 else pickK k i) = pickK (k + 1) := funext fun i => by
  unfold pickK
  by_cases e : i = k
  · subst e; simp
  · rw [if_neg e]; by_cases h : i < k
    · rw [if_pos h, if_pos (by omega)]
    · rw [if_neg h, if_neg (by omega)]
theorem pick_start {w : World} {k n : Nat} (h : w.rowIs k 2 n (fun _ => .int .i64 0)) : w.rowIs k 2 n (numsV (pickK 0)) := World.rowIs.congr h fun i _ => by simp [numsV, pickK]
theorem rowset_lt {w : World} {B g n : Nat} {V : Nat → Value} {R : Nat → List Int} (h : RowSet w B g n V R) : g < w.heap.size := (h.own.lt g rfl).2
theorem rowset_other {S : Nat → Prop} {w w' : World} {B g n : Nat} {V : Nat → Value} {R : Nat → List Int} (h : RowSet w B g n V R) (hS : Only S w w') (hg : ¬ S g) (hb : ∀ u, u < n → ∀ b, (V u).ownBlock = some b → ¬ S b) : RowSet w' B g n V R :=
  ⟨ownsRow_only h.own hS (fun b hb e => by simp [Value.ownBlock] at hb; subst hb; exact hg e), fun u hu => ((h.rows u hu).only hS (fun b hb' => hb u hu b hb')).retop, h.apart⟩

theorem grown_only {w w1 w2 : World} {V : Nat → Value} {u : Nat} {v : Value} (hv : V u = v) (hb : Below w.heap.size w w1) (hg : w1.grownBy w2 v.ownBlock) : Only (fun b => (V u).ownBlock = some b) w w2 :=
  (Only.of_below hb).trans ⟨hg.os, hg.tape, hg.output, hg.size, fun b hb' hne => hg.block b hb' (fun e => hne (by rw [hv]; exact e.symm))⟩
theorem row_kept {w w2 : World} {B g n u : Nat} {V : Nat → Value} {R : Nat → List Int} {v : Value} (h : RowSet w B g n V R) (hu : u < n) (ho : Only (fun b => (V u).ownBlock = some b) w w2) (hv : V u = v) : w2.cell? ⟨g, u, none⟩ = some v := by
  have ho1 := ownsRow_only h.own ho (own_types h.own (h.rows u hu).own)
  rw [ho1.cellAt u (by omega)]
  simp [hu, hv]
theorem row_frozen {w w2 : World} {B g n u : Nat} {V : Nat → Value} {R : Nat → List Int} (h : RowSet w B g n V R) (hu : u < n) (ho : Only (fun b => (V u).ownBlock = some b) w w2) : w2.frozen? ⟨g, u, none⟩ = false :=
  (ownsRow_only h.own ho (own_types h.own (h.rows u hu).own)).frozenAt u

/-- One more predecessor of u. -/
theorem prev_next {zss : List (List Int)} {w w8 : World} {B q n u v i pl S gg cap : Nat} {V : Nat → Value} {va : Option Addr} {vc : Nat} (h : RowSet w B q n V (partP zss v i)) (hb : ∀ u, u < n → ∀ b, (V u).ownBlock = some b → S ≤ b) (hu : u < n) (hv : V u = .slice va pl vc)
    (hU : nth (row zss v) i = (u : Int)) (hUP : ∀ j, j < i → nth (row zss v) j < nth (row zss v) i) (hpl : pl = (partP zss v i u).length) (hv256 : v < 256) (hOn : Only (fun b => (V u).ownBlock = some b) w w8)
    (hown : w8.ownsRow B 2 1 (.slice (some ⟨gg, 0, none⟩) ((partP zss v i u).length + 1) cap) ((partP zss v i u).length + 1) ((partP zss v i u).map (Value.int .i64) ++ [.int .i64 v]))
    (hat : (Value.slice va pl vc).ownBlock = some gg ∨ w.heap.size ≤ gg) (hS : S ≤ w.heap.size) :
    ∃ V', RowSet (w8.setCell ⟨q, u, none⟩ (.slice (some ⟨gg, 0, none⟩) (pl + 1) cap)) B q n V' (partP zss v (i + 1)) ∧ ∀ u, u < n → ∀ b, (V' u).ownBlock = some b → S ≤ b := by
  have hhit := partP_hit hU hUP
  have e1 : (partP zss v (i + 1) u).length = (partP zss v i u).length + 1 := by rw [hhit.1]; simp
  have e2 : (partP zss v (i + 1) u).map (Value.int .i64) = (partP zss v i u).map (Value.int .i64) ++ [.int .i64 v] := by rw [hhit.1]; simp
  rw [← e1, ← e2] at hown
  have hlen : (partP zss v (i + 1) u).length ≤ v + 1 := by rw [e1, hhit.2]; have := predsK_len zss u v; omega
  have hmem : ∀ x ∈ partP zss v (i + 1) u, 0 ≤ x ∧ x ≤ (v : Int) := fun x hx => by
    rw [hhit.1, hhit.2] at hx
    rcases List.mem_append.1 hx with hx | hx
    · have := predsK_mem _ _ _ x hx; omega
    · simp at hx; omega
  have hI : OwnInts w8 B w8.heap.size (.slice (some ⟨gg, 0, none⟩) (partP zss v (i + 1) u).length cap) (partP zss v (i + 1) u) := OwnInts.mk' hown (by omega) (fun j hj => by have := hmem _ (nth_mem hj); unfold Fits; omega)
  have hput := (h.put hu hI hOn (by
    rcases hat with hh | hh
    · left; rw [hv]; exact hh.symm
    · exact Or.inr ⟨gg, rfl, hh⟩)).congr (R' := partP zss v (i + 1)) (fun u' _ => by
      by_cases e : u' = u
      · subst e; simp
      · simp only [if_neg e]; exact (partP_miss hU e).symm)
  rw [e1, ← hpl] at hput
  refine ⟨_, hput, fun u' hu' b hb' => ?_⟩
  by_cases e : u' = u
  · simp only [if_pos e] at hb'
    rcases hat with hh | hh
    · exact hb u hu b (by rw [hv, hh]; exact hb')
    · simp [Value.ownBlock] at hb'; omega
  · simp only [if_neg e] at hb'
    exact hb u' hu' b hb'

end

end Go.Proofs.Ytihaajcmephlmaa
