/-
  Several texts in one: Mem, Arena, SpecArena, Base1, Walks1.
-/
import Derived.WalkKit
import Derived.WalkSpells
import Derived.WalkLawsBesides
import Derived.Test.YtihaajcmephlmaaRows
import Derived.LoopTactic
import Derived.Deep.QuietTactic
import Derived.BigQuiet
import Derived.Outline
import Derived.Lib.Hide
import Derived.Deep.DeepFit
import Derived.IntWalk
import Derived.Deep.OwnRows
import Derived.Maps.AppendAt
import Derived.Deep.AppendSrc
import Derived.Laws.AppendOwnNone
import Derived.Deep.RegionLaw
import Derived.Deep.AppendLies
import Derived.WalkSmall
import Derived.Deep.RegionHeld3
import Derived.Laws.Closers25b
namespace Go.Proofs.Ytihaajcmephlmaa
section
open Go.RowKit

/-- Element k of a list of numbers. -/
def nth (zs : List Int) (k : Nat) : Int := zs.getD k 0
/-- Row k of a list of rows. -/
def row (zss : List (List Int)) (k : Nat) : List Int := zss.getD k []

theorem nth_eq {zs : List Int} {k : Nat} (h : k < zs.length) : nth zs k = zs[k] := by simp [nth, h]
theorem row_eq {zss : List (List Int)} {k : Nat} (h : k < zss.length) : row zss k = zss[k] := by simp [row, h]

def Fits (z : Int) : Prop := -9223372036854775808 ≤ z ∧ z ≤ 9223372036854775807

/-- A slice whose address is a reads in w as the numbers zs. -/
structure IntsAt (w : World) (a : Option Addr) (zs : List Int) : Prop where
  len : zs.length ≤ 17592186044416
  fits : ∀ k, k < zs.length → Fits (nth zs k)
  cell : 0 < zs.length → ∃ b off, a = some ⟨b, off, none⟩ ∧ ∀ k, k < zs.length → w.cell? ⟨b, off + k, none⟩ = some (.int .i64 (nth zs k))

/-- A slice whose address is a reads in w as the rows zss; row k has the address A k and the capacity C k. -/
structure RowsAt (w : World) (a : Option Addr) (A : Nat → Option Addr) (C : Nat → Nat) (zss : List (List Int)) : Prop where
  len : zss.length ≤ 17592186044416
  cell : 0 < zss.length → ∃ b off, a = some ⟨b, off, none⟩ ∧ ∀ k, k < zss.length → w.cell? ⟨b, off + k, none⟩ = some (.slice (A k) (row zss k).length (C k))
  rows : ∀ k, k < zss.length → IntsAt w (A k) (row zss k)

theorem Below.cell_some {B : Nat} {w w' : World} (h : Below w.heap.size w w') (_hB : B = B) {p : Addr} {v : Value} (hc : w.cell? p = some v) : w'.cell? p = some v :=
  (h.cell (World.block_lt_of_cell? w p hc)).trans hc

theorem IntsAt.below {w w' : World} {a : Option Addr} {zs : List Int} (h : IntsAt w a zs) (hb : Below w.heap.size w w') : IntsAt w' a zs :=
  ⟨h.len, h.fits, fun h0 => by
    obtain ⟨b, off, ha, hc⟩ := h.cell h0
    exact ⟨b, off, ha, fun k hk => Below.cell_some (B := 0) hb rfl (hc k hk)⟩⟩

theorem RowsAt.below {w w' : World} {a : Option Addr} {A : Nat → Option Addr} {C : Nat → Nat} {zss : List (List Int)} (h : RowsAt w a A C zss) (hb : Below w.heap.size w w') : RowsAt w' a A C zss :=
  ⟨h.len, fun h0 => by
    obtain ⟨b, off, ha, hc⟩ := h.cell h0
    exact ⟨b, off, ha, fun k hk => Below.cell_some (B := 0) hb rfl (hc k hk)⟩, fun k hk => (h.rows k hk).below hb⟩

/-- Block g is a box of two cells. -/
def Box2 (w : World) (g : Nat) (t : TypeId) (u v : Value) : Prop := w.heap[g]? = some (.cells #[u, v] t (0, 0))

theorem Box2.lt {w : World} {g : Nat} {t : TypeId} {u v : Value} (h : Box2 w g t u v) : g < w.heap.size := (Array.getElem?_eq_some_iff.1 h).1
theorem Box2.cell0 {w : World} {g : Nat} {t : TypeId} {u v : Value} (h : Box2 w g t u v) : w.cell? ⟨g, 0, none⟩ = some u := by unfold Box2 at h; simp [World.cell?, h]
theorem Box2.cell1 {w : World} {g : Nat} {t : TypeId} {u v : Value} (h : Box2 w g t u v) : w.cell? ⟨g, 1, none⟩ = some v := by unfold Box2 at h; simp [World.cell?, h]
theorem Box2.frozen {w : World} {g : Nat} {t : TypeId} {u v : Value} (h : Box2 w g t u v) (k : Nat) : w.frozen? ⟨g, k, none⟩ = false := by unfold Box2 at h; simp [World.frozen?, h]
theorem Box2.below {w w' : World} {g : Nat} {t : TypeId} {u v : Value} (h : Box2 w g t u v) (hb : Below w.heap.size w w') : Box2 w' g t u v := (hb.block g h.lt).trans h
theorem Box2.alloc {w : World} {g : Nat} {t : TypeId} {u v : Value} (h : Box2 w g t u v) (o : Obj) : Box2 (w.alloc o) g t u v := h.below ((Below.refl _ _).alloc (Nat.le_refl _) _)
theorem Box2.new (w : World) (t : TypeId) (u v : Value) : Box2 (w.alloc (.cells #[u, v] t)) w.heap.size t u v := heap_alloc_new w _
theorem Box2.new_at {w : World} {g : Nat} (hg : g = w.heap.size) (t : TypeId) (u v : Value) : Box2 (w.alloc (.cells #[u, v] t)) g t u v := by subst hg; exact heap_alloc_new w _
theorem Box2.other {w : World} {g : Nat} {t : TypeId} {u v : Value} (h : Box2 w g t u v) {a : Addr} (hn : g ≠ a.block) (x : Value) : Box2 (w.setCell a x) g t u v := (Below.heap_setCell w a x g hn).trans h
theorem Box2.set0 {w : World} {g : Nat} {t : TypeId} {u v : Value} (h : Box2 w g t u v) (x : Value) : Box2 (w.setCell ⟨g, 0, none⟩ x) g t x v := by
  unfold Box2 at *; simp [World.setCell, Array.getElem?_modify, h]
theorem Box2.set1 {w : World} {g : Nat} {t : TypeId} {u v : Value} (h : Box2 w g t u v) (x : Value) : Box2 (w.setCell ⟨g, 1, none⟩ x) g t u x := by
  unfold Box2 at *; simp [World.setCell, Array.getElem?_modify, h]

theorem IntsAt.alloc {w : World} {a : Option Addr} {zs : List Int} (h : IntsAt w a zs) (o : Obj) : IntsAt (w.alloc o) a zs := h.below ((Below.refl _ _).alloc (Nat.le_refl _) _)
theorem RowsAt.alloc {w : World} {a : Option Addr} {A : Nat → Option Addr} {C : Nat → Nat} {zss : List (List Int)} (h : RowsAt w a A C zss) (o : Obj) : RowsAt (w.alloc o) a A C zss := h.below ((Below.refl _ _).alloc (Nat.le_refl _) _)
theorem below1 (w : World) (o : Obj) : Below w.heap.size w (w.alloc o) := (Below.refl _ _).alloc (Nat.le_refl _) _
theorem below2 (w : World) (o o' : Obj) : Below w.heap.size w ((w.alloc o).alloc o') := ((Below.refl _ _).alloc (Nat.le_refl _) o).alloc (by simp) o'
theorem ret_bool {a b : Bool} (h : a = b) : Ending.returned (.bool a) = .returned (.bool b) := by rw [h]
theorem ret_i64 {a b : Int} (h : a = b) : Ending.returned (.int .i64 a) = .returned (.int .i64 b) := by rw [h]

/-- A struct of two slices that reads as an arena. -/
def ArenaAt (w : World) (v : Value) (O : List Int) (zss : List (List Int)) : Prop :=
  ∃ ao an co cn A C, v = .agg #[.slice ao O.length co, .slice an zss.length cn] ∧ IntsAt w ao O ∧ RowsAt w an A C zss

theorem ArenaAt.below {w w' : World} {v : Value} {O : List Int} {zss : List (List Int)} (h : ArenaAt w v O zss) (hb : Below w.heap.size w w') : ArenaAt w' v O zss := by
  obtain ⟨ao, an, co, cn, A, C, hv, h1, h2⟩ := h
  exact ⟨ao, an, co, cn, A, C, hv, h1.below hb, h2.below hb⟩
theorem ArenaAt.alloc {w : World} {v : Value} {O : List Int} {zss : List (List Int)} (h : ArenaAt w v O zss) (o : Obj) : ArenaAt (w.alloc o) v O zss := h.below (below1 _ _)
end

section
/-- From the k-th element on the list rises, stays below n, and begins above 'last'. -/
def setFrom (n : Int) (last : Int) : List Int → Bool
  | [] => true
  | v :: r => decide (last < v ∧ v < n) && setFrom n v r

/-- A set of numbers from 0 to n-1. -/
def setB (n : Int) (zs : List Int) : Bool := setFrom n (-1) zs

/-- The element before the k-th; -1 before the first. -/
def lastAt (zs : List Int) (k : Nat) : Int := if k = 0 then -1 else nth zs (k - 1)

theorem setFrom_drop (n : Int) (zs : List Int) (k : Nat) (h : k < zs.length) : setFrom n (lastAt zs k) (zs.drop k) = (decide (lastAt zs k < nth zs k ∧ nth zs k < n) && setFrom n (lastAt zs (k + 1)) (zs.drop (k + 1))) := by
  rw [List.drop_eq_getElem_cons h, setFrom]
  have : lastAt zs (k + 1) = zs[k] := by simp [lastAt, nth_eq h]
  rw [this, nth_eq h]

theorem setFrom_no (n : Int) (zs : List Int) (k : Nat) (h : k < zs.length) (hc : nth zs k ≤ lastAt zs k ∨ n ≤ nth zs k) : setFrom n (lastAt zs k) (zs.drop k) = false := by
  rw [setFrom_drop n zs k h, decide_eq_false (by omega)]; rfl

theorem setFrom_yes (n : Int) (zs : List Int) (k : Nat) (h : k < zs.length) (h1 : lastAt zs k < nth zs k) (h2 : nth zs k < n) : setFrom n (lastAt zs k) (zs.drop k) = setFrom n (lastAt zs (k + 1)) (zs.drop (k + 1)) := by
  rw [setFrom_drop n zs k h, decide_eq_true ⟨h1, h2⟩]; rfl

theorem setFrom_end (n l : Int) (zs : List Int) (k : Nat) (h : zs.length ≤ k) : setFrom n l (zs.drop k) = true := by
  rw [List.drop_eq_nil_of_le h]; rfl

theorem setFrom_len (n : Int) (zs : List Int) : ∀ l, l ≤ n - 1 → setFrom n l zs = true → (zs.length : Int) ≤ n - 1 - l := by
  induction zs with
  | nil => intro l h _; simp; omega
  | cons v r ih =>
    intro l h hs
    simp only [setFrom, Bool.and_eq_true, decide_eq_true_eq] at hs
    have := ih v (by omega) hs.2
    simp only [List.length_cons]
    omega

theorem setB_len {n : Int} {zs : List Int} (h0 : 0 ≤ n) (h : setB n zs = true) : (zs.length : Int) ≤ n := by
  have := setFrom_len n zs (-1) (by omega) h
  omega

/-- x from lo to hi. -/
def inB (x lo hi : Int) : Bool := decide (lo ≤ x ∧ x ≤ hi)
theorem inB_yes {x lo hi : Int} (h1 : lo ≤ x) (h2 : x ≤ hi) : inB x lo hi = true := by simp [inB, h1, h2]
theorem inB_no {x lo hi : Int} (h : x < lo ∨ hi < x) : inB x lo hi = false := by simp [inB]; omega

/-- Is x in the list? -/
def hasB (zs : List Int) (x : Int) : Bool := decide (x ∈ zs)

theorem mem_nth {zs : List Int} {x : Int} : x ∈ zs ↔ ∃ k, k < zs.length ∧ nth zs k = x := by
  rw [List.mem_iff_getElem]
  constructor
  · rintro ⟨k, hk, h⟩; exact ⟨k, hk, by rw [nth_eq hk, h]⟩
  · rintro ⟨k, hk, h⟩; exact ⟨k, hk, by rw [← nth_eq hk, h]⟩

theorem hasB_yes {zs : List Int} {x : Int} {k : Nat} (hk : k < zs.length) (h : nth zs k = x) : hasB zs x = true := by
  simp only [hasB, decide_eq_true_eq]; exact mem_nth.2 ⟨k, hk, h⟩
theorem hasB_no {zs : List Int} {x : Int} (h : ∀ j, j < zs.length → nth zs j ≠ x) : hasB zs x = false := by
  simp only [hasB, decide_eq_false_iff_not]; exact fun hm => by obtain ⟨k, hk, e⟩ := mem_nth.1 hm; exact h k hk e
theorem hasB_iff {zs : List Int} {x : Int} : hasB zs x = true ↔ x ∈ zs := by simp [hasB]

/-- Where x stands first; -1 where it does not. -/
def idx (zs : List Int) (x : Int) : Int := if x ∈ zs then (zs.idxOf x : Int) else -1

theorem idxOf_first : ∀ (zs : List Int) (x : Int) (k : Nat), k < zs.length → nth zs k = x → (∀ j, j < k → nth zs j ≠ x) → zs.idxOf x = k
  | [], _, _, h, _, _ => absurd h (by simp)
  | z :: r, x, 0, _, h, _ => by
    have : z = x := by simpa [nth] using h
    simp [this]
  | z :: r, x, k + 1, hk, h, hj => by
    have h0 : z ≠ x := by simpa [nth] using hj 0 (by omega)
    have ih := idxOf_first r x k (by simpa using hk) (by simpa [nth] using h) (fun j hjk => by simpa [nth] using hj (j + 1) (by omega))
    have hz : (z == x) = false := by simp [h0]
    simp [List.idxOf_cons, hz, ih]

theorem idx_at {zs : List Int} {x : Int} {k : Nat} (hk : k < zs.length) (h : nth zs k = x) (hj : ∀ j, j < k → nth zs j ≠ x) : idx zs x = k := by
  unfold idx; rw [if_pos (mem_nth.2 ⟨k, hk, h⟩), idxOf_first zs x k hk h hj]
theorem idx_none {zs : List Int} {x : Int} (hj : ∀ j, j < zs.length → nth zs j ≠ x) : idx zs x = -1 := by
  unfold idx; rw [if_neg (fun hm => by obtain ⟨k, hk, e⟩ := mem_nth.1 hm; exact hj k hk e)]

/-- What ArenaOk asks of one vertex. -/
def VertexP (O : List Int) (zss : List (List Int)) (k : Nat) : Prop :=
  (nth O k = 0 ∨ nth O k = 1) ∧ 1 ≤ (row zss k).length ∧ (row zss k).length ≤ 16 ∧ setB O.length (row zss k) = true

/-- A valid arena. -/
def ArenaP (O : List Int) (zss : List (List Int)) : Prop :=
  1 ≤ O.length ∧ O.length ≤ 256 ∧ zss.length = O.length ∧ ∀ k, k < O.length → VertexP O zss k

noncomputable def arenaB (O : List Int) (zss : List (List Int)) : Bool := @decide (ArenaP O zss) (Classical.propDecidable _)

theorem arenaB_yes {O : List Int} {zss : List (List Int)} (h : ArenaP O zss) : arenaB O zss = true := by simp [arenaB, h]
theorem arenaB_no {O : List Int} {zss : List (List Int)} (h : ¬ ArenaP O zss) : arenaB O zss = false := by simp [arenaB, h]
theorem arenaB_iff {O : List Int} {zss : List (List Int)} : arenaB O zss = true ↔ ArenaP O zss := by simp [arenaB]

theorem arenaB_vertex {O : List Int} {zss : List (List Int)} {k : Nat} (hk : k < O.length) (h : ¬ VertexP O zss k) : arenaB O zss = false :=
  arenaB_no fun ⟨_, _, _, hv⟩ => h (hv k hk)
end

end Go.Proofs.Ytihaajcmephlmaa
namespace Go.Proofs.Ytihaajcmephlmaa
open Go.RowKit


set_option maxHeartbeats 400000 in
theorem isSet_any (a : Option Addr) (zs : List Int) (cap : Nat) (n : Int) (w : World) (h : IntsAt w a zs) (_hn : Fits n) :
    Calls Try.prog 60 #[.slice a zs.length cap, .int .i64 n] w fun e w' => e = .returned (.bool (setB n zs)) ∧ w = w' := by
  obtain ⟨hlen, hfit, hcell⟩ := h
  unfold Fits at _hn
  have HS : Hid (setFrom n (lastAt zs 0) (zs.drop 0) = setB n zs) := rfl
  have HC := Lib.hid hcell
  have HF := Lib.hid hfit
  clear hcell hfit
  go_enter Try.func60, Try.ntmps60
  go_wp2
  go_loop [5, 10] (fun l i => ∃ k : Nat, k ≤ zs.length ∧ i = .int .i64 k ∧ l = .int .i64 (lastAt zs k) ∧ Hid (setFrom n (lastAt zs k) (zs.drop k) = setB n zs))
    (fun _ i => zs.length - (intOf i).toNat)
  case atStart => exact ⟨0, Nat.zero_le _, rfl, rfl, HS⟩
  case round =>
    obtain ⟨k, hk, rfl, rfl, HK⟩ := hrel
    by_cases hlt : k < zs.length
    · obtain ⟨b, off, ha, hc⟩ := HC.out (by omega)
      subst ha
      have hck := hc k hlt
      have hfk := HF.out k hlt
      clear hc
      have HL : Hid (lastAt zs (k + 1) = nth zs k) := by simp [Hid, lastAt]
      unfold Fits at hfk
      by_cases hA : nth zs k ≤ lastAt zs k
      · have hA' : decide (nth zs k ≤ lastAt zs k) = true := by simpa using hA
        have HN := setFrom_no n zs k hlt (Or.inl hA)
        have HE : Hid (setB n zs = false) := by rw [← HK.out]; exact HN
        clear HN
        go_wp2
        go_ret
        exact ⟨ret_bool HE.out.symm, rfl⟩
      · by_cases hB : n ≤ nth zs k
        · have HN := setFrom_no n zs k hlt (Or.inr hB)
          have HE : Hid (setB n zs = false) := by rw [← HK.out]; exact HN
          clear HN
          go_wp2
          go_ret
          exact ⟨ret_bool HE.out.symm, rfl⟩
        · have HE : Hid (setFrom n (lastAt zs (k + 1)) (zs.drop (k + 1)) = setB n zs) := by
            have := HK.out
            rw [setFrom_yes n zs k hlt (by omega) (by omega)] at this; exact this
          go_wp2
          go_round
          case rel => exact ⟨k + 1, by omega, by go_num, by rw [HL.out], HE⟩
          case measure => simp [intOf]; omega
    · have HE : Hid (setB n zs = true) := by rw [← HK.out]; exact setFrom_end _ _ _ _ (by omega)
      go_wp2
      go_ret
      exact ⟨ret_bool HE.out.symm, rfl⟩

theorem isSet_is {a : Option Addr} {zs : List Int} {n : Int} {r : Bool} (hr : setB n zs = r) (cap : Nat) (w : World) (h : IntsAt w a zs) (hn : Fits n) :
    Calls Try.prog 60 #[.slice a zs.length cap, .int .i64 n] w fun e w' => e = .returned (.bool r) ∧ w = w' := by
  subst hr
  exact isSet_any a zs cap n w h hn



set_option maxHeartbeats 2000000 in
set_option maxRecDepth 100000 in
theorem ArenaOk_any (ao an : Option Addr) (O : List Int) (zss : List (List Int)) (co cn : Nat) (A : Nat → Option Addr) (C : Nat → Nat) (w : World) (hO : IntsAt w ao O) (hN : RowsAt w an A C zss) :
    Calls Try.prog 103 #[.agg #[.slice ao O.length co, .slice an zss.length cn]] w fun e w' => e = .returned (.bool (arenaB O zss)) ∧ Below w.heap.size w w' := by
  have hO1 := (hO.alloc (.cells #[.slice ao O.length co, .slice an zss.length cn] 30)).alloc (.cells #[.slice ao O.length co, .slice an zss.length cn] 30)
  have hN1 := (hN.alloc (.cells #[.slice ao O.length co, .slice an zss.length cn] 30)).alloc (.cells #[.slice ao O.length co, .slice an zss.length cn] 30)
  have hlO := hO.len
  have hlN := hN.len
  clear hO hN
  have HO := Lib.hid hO1
  have HN := Lib.hid hN1
  clear hO1 hN1
  by_cases h1 : O.length < 1
  · have HE : Hid (arenaB O zss = false) := arenaB_no fun h => by have := h.1; omega
    go_enter Try.func103, Try.ntmps103
    go_wp2
    go_ret
    exact ⟨ret_bool HE.out.symm, below2 _ _ _⟩
  · by_cases h2 : 256 < O.length
    · have HE : Hid (arenaB O zss = false) := arenaB_no fun h => by have := h.2.1; omega
      go_enter Try.func103, Try.ntmps103
      go_wp2
      go_ret
      exact ⟨ret_bool HE.out.symm, below2 _ _ _⟩
    · by_cases h3 : zss.length = O.length
      · have h3' : ((zss.length : Int) != (O.length : Int)) = false := by simp [h3]
        have HL := Lib.hid h3
        have h3a : zss.length ≤ O.length := by omega
        have h3b : O.length ≤ zss.length := by omega
        clear h3
        go_enter Try.func103, Try.ntmps103
        go_wp2
        go_loop [26] (fun i => ∃ k : Nat, k ≤ O.length ∧ i = .int .i64 k ∧ Hid (∀ j, j < k → VertexP O zss j)) (fun i => O.length - (intOf i).toNat)
        case atStart => exact ⟨0, Nat.zero_le _, rfl, fun j hj => absurd hj (Nat.not_lt_zero _)⟩
        case round =>
          obtain ⟨k, hk, rfl, HK⟩ := hrel
          by_cases hlt : k < O.length
          · obtain ⟨b, off, ha, hc⟩ := HO.out.cell (by omega)
            subst ha
            have hck := hc k hlt
            clear hc
            obtain ⟨bn, offn, hn, hcn⟩ := HN.out.cell (by omega)
            subst hn
            have hcnk := hcn k (by omega)
            clear hcn
            by_cases h4 : nth O k = 0 ∨ nth O k = 1
            · have h4' : (nth O k != 0) = false ∨ ((nth O k != 0) = true ∧ (nth O k != 1) = false) := by rcases h4 with h | h <;> simp [h]
              have H4 := Lib.hid h4
              clear h4
              have hltz : k < zss.length := by omega
              have HR := HN.out.rows k hltz
              have hlr := HR.len
              by_cases h5 : (row zss k).length < 1
              · have HE : Hid (arenaB O zss = false) := arenaB_vertex hlt fun h => by have := h.2.1; omega
                rcases h4' with h4' | ⟨h4', h4''⟩
                all_goals
                  go_wp2
                  go_ret
                  exact ⟨ret_bool HE.out.symm, below2 _ _ _⟩
              · by_cases h6 : 16 < (row zss k).length
                · have HE : Hid (arenaB O zss = false) := arenaB_vertex hlt fun h => by have := h.2.2.1; omega
                  rcases h4' with h4' | ⟨h4', h4''⟩
                  all_goals
                    go_wp2
                    go_ret
                    exact ⟨ret_bool HE.out.symm, below2 _ _ _⟩
                · by_cases h7 : setB O.length (row zss k) = true
                  · have HV : Hid (∀ j, j < k + 1 → VertexP O zss j) := fun j hj => by
                      by_cases hj' : j < k
                      · exact HK.out j hj'
                      · obtain rfl : j = k := by omega
                        exact ⟨H4.out, by omega, by omega, h7⟩
                    have HC := isSet_is h7 (C k) _ HR (n := O.length) (by unfold Fits; omega)
                    have HC' := Lib.hid HC
                    clear HC h7
                    rcases h4' with h4' | ⟨h4', h4''⟩
                    all_goals
                      go_wp2_with (go_at_call 60; refine HC'.out.mono ?_; rintro e w' ⟨rfl, rfl⟩)
                      go_round
                      case rel => exact ⟨k + 1, by omega, by go_num, HV⟩
                      case measure => simp [intOf]; omega
                  · have h7' : setB O.length (row zss k) = false := by simpa using h7
                    have HE : Hid (arenaB O zss = false) := arenaB_vertex hlt fun h => h7 h.2.2.2
                    have HC := isSet_is h7' (C k) _ HR (n := O.length) (by unfold Fits; omega)
                    have HC' := Lib.hid HC
                    clear HC h7 h7'
                    rcases h4' with h4' | ⟨h4', h4''⟩
                    all_goals
                      go_wp2_with (go_at_call 60; refine HC'.out.mono ?_; rintro e w' ⟨rfl, rfl⟩)
                      go_ret
                      exact ⟨ret_bool HE.out.symm, below2 _ _ _⟩
            · have HE : Hid (arenaB O zss = false) := arenaB_vertex hlt fun h => h4 h.1
              have h4' : (nth O k != 0) = true := by simp; omega
              have h4'' : (nth O k != 1) = true := by simp; omega
              clear h4
              go_wp2
              go_ret
              exact ⟨ret_bool HE.out.symm, below2 _ _ _⟩
          · have HE : Hid (arenaB O zss = true) := arenaB_yes ⟨by omega, by omega, HL.out, fun j hj => HK.out j (by omega)⟩
            go_wp2
            go_ret
            exact ⟨ret_bool HE.out.symm, below2 _ _ _⟩
      · have HE : Hid (arenaB O zss = false) := arenaB_no fun h => h3 h.2.2.1
        have h3' : ((zss.length : Int) != (O.length : Int)) = true := by simp; omega
        clear h3
        go_enter Try.func103, Try.ntmps103
        go_wp2
        go_ret
        exact ⟨ret_bool HE.out.symm, below2 _ _ _⟩

theorem ArenaOk_at {w : World} {v : Value} {O : List Int} {zss : List (List Int)} {r : Bool} (hr : arenaB O zss = r) (h : ArenaAt w v O zss) :
    Calls Try.prog 103 #[v] w fun e w' => e = .returned (.bool r) ∧ Below w.heap.size w w' := by
  obtain ⟨ao, an, co, cn, A, C, rfl, h1, h2⟩ := h
  subst hr
  exact ArenaOk_any ao an O zss co cn A C w h1 h2

end Go.Proofs.Ytihaajcmephlmaa
namespace Go.Proofs.Ytihaajcmephlmaa
open Go.RowKit

theorem quiet_eq {P : Program} {f : FuncId} {args : Array Value} {w : World} {n : Nat} {v : Value}
    (h : Calls P f args (w.drewN n) fun e w' => e = .returned v ∧ w.drewN n = w') : Calls P f args (w.drewN n) fun e w'' => e = .returned v ∧ ∃ m, w'' = w.drewN m :=
  h.mono fun _ _ ⟨he, hm⟩ => ⟨he, n, hm.symm⟩

set_option maxHeartbeats 400000 in
theorem l1In_any (x lo hi : Int) (w : World) : Calls Try.prog 59 #[.int .i64 x, .int .i64 lo, .int .i64 hi] w fun e w' => e = .returned (.bool (inB x lo hi)) ∧ w = w' := by
  by_cases h1 : lo ≤ x
  · by_cases h2 : x ≤ hi
    · have HE := Lib.hid (inB_yes h1 h2)
      go_enter Try.func59, Try.ntmps59
      go_wp2
      go_ret
      exact ⟨ret_bool HE.out.symm, rfl⟩
    · have HE := Lib.hid (inB_no (x := x) (lo := lo) (hi := hi) (by omega))
      go_enter Try.func59, Try.ntmps59
      go_wp2
      go_ret
      exact ⟨ret_bool HE.out.symm, rfl⟩
  · have HE := Lib.hid (inB_no (x := x) (lo := lo) (hi := hi) (by omega))
    go_enter Try.func59, Try.ntmps59
    go_wp2
    go_ret
    exact ⟨ret_bool HE.out.symm, rfl⟩

theorem l1In_is {x lo hi : Int} {r : Bool} (hr : inB x lo hi = r) (w : World) : Calls Try.prog 59 #[.int .i64 x, .int .i64 lo, .int .i64 hi] w fun e w' => e = .returned (.bool r) ∧ w = w' := by
  subst hr; exact l1In_any x lo hi w

theorem lastAt_ge {zs : List Int} {k : Nat} (h : ∀ j, j < k → 0 ≤ nth zs j) : -1 ≤ lastAt zs k := by
  unfold lastAt
  split
  · omega
  · have := h (k - 1) (by omega); omega

theorem drewn {w wr : World} {m : Nat} (h : ∃ q, wr = w.drewN q) : ∃ q, wr.drewN m = w.drewN q := by
  obtain ⟨q, rfl⟩ := h
  exact ⟨q + m, by rw [World.drewN_drewN]⟩

set_option maxHeartbeats 1000000 in
theorem l1Rises_any (a : Option Addr) (zs : List Int) (cap : Nat) (n : Int) (w : World) (h : IntsAt w a zs) (_h0 : 0 ≤ n) (_hn : n ≤ 4611686018427387904) :
    Calls Try.prog 115 #[.slice a zs.length cap, .int .i64 n] w fun e w' => e = .returned (.bool (setB n zs)) ∧ ∃ q, w' = w.drewN q := by
  obtain ⟨hlen, hfit, hcell⟩ := h
  have HS : Hid (setFrom n (lastAt zs 0) (zs.drop 0) = setB n zs) := rfl
  have HC := Lib.hid hcell
  clear hcell hfit
  go_enter Try.func115, Try.ntmps115
  go_wp2
  go_loopw [5] (fun i wr => ∃ k : Nat, k ≤ zs.length ∧ i = .int .i64 k ∧ Hid (setFrom n (lastAt zs k) (zs.drop k) = setB n zs) ∧ Hid (∀ j, j < k → 0 ≤ nth zs j) ∧ Hid (∃ q, wr = w.drewN q))
    (fun i _ => zs.length - (intOf i).toNat)
  case atStart => exact ⟨0, Nat.zero_le _, rfl, HS, fun j hj => absurd hj (Nat.not_lt_zero _), ⟨0, rfl⟩⟩
  case round =>
    obtain ⟨k, hk, rfl, HK, HP, HW⟩ := hrel
    have hwc : ∀ a, wr.cell? a = w.cell? a := fun a => by obtain ⟨q, hq⟩ := HW.out; rw [hq]; simp
    by_cases hlt : k < zs.length
    · obtain ⟨b, off, ha, hc⟩ := HC.out (by omega)
      subst ha
      have hck := (hwc _).trans (hc k hlt)
      have hcp : 0 < k → wr.cell? ⟨b, off + (k - 1), none⟩ = some (.int .i64 (nth zs (k - 1))) := fun h => (hwc _).trans (hc (k - 1) (by omega))
      clear hc hwc
      have hw1 : IntKind.i64.wrap (n - 1) = n - 1 := IntWalk.i64_in _ (by omega)
      have HW1 := Lib.hid hw1
      clear hw1
      have hi1 : (k : Int) < zs.length := by omega
      have hi6 : IntKind.i64.wrap ((k : Int) - 1) = (k : Int) - 1 := IntWalk.i64_in _ (by omega)
      have HI6 := Lib.hid hi6
      clear hi6
      by_cases hr : 0 ≤ nth zs k ∧ nth zs k ≤ n - 1
      · have HA := Lib.hid (l1In_is (inB_yes hr.1 hr.2))
        have HQ : Hid (∀ j, j < k + 1 → 0 ≤ nth zs j) := fun j hj => by
          by_cases hj' : j < k
          · exact HP.out j hj'
          · obtain rfl : j = k := by omega
            exact hr.1
        by_cases hz : k = 0
        · have hz' : ¬ (0 : Int) < k := by omega
          have hz'' : decide ((0 : Int) < (k : Int)) = false := by simpa using hz'
          have hz3 : decide (0 < k) = false := by simpa using hz
          have HE : Hid (setFrom n (lastAt zs (k + 1)) (zs.drop (k + 1)) = setB n zs) := by
            have := HK.out
            rw [setFrom_yes n zs k hlt (by subst hz; simp [lastAt]; omega) (by omega)] at this; exact this
          clear hz hcp
          have hw1 := HW1.out
          go_wp2
          go_quiet ((go_at_call 59; exact quiet_eq (HA.out _)))
          go_wp2
          go_roundw
          case rel => exact ⟨k + 1, by omega, by go_num, HE, HQ, drewn HW.out⟩
          case measure => simp [intOf]; omega
        · have hkm : 0 < k := by omega
          have hcm := hcp hkm
          clear hcp
          have HL : Hid (lastAt zs k = nth zs (k - 1)) := by simp only [Hid, lastAt]; rw [if_neg hz]
          have hi2 : (0 : Int) < k := by omega
          have hi3 : (k : Int) - 1 < zs.length := by omega
          have hi4 : (0 : Int) ≤ (k : Int) - 1 := by omega
          by_cases hle : nth zs k ≤ nth zs (k - 1)
          · have HN := setFrom_no n zs k hlt (Or.inl (by rw [HL.out]; exact hle))
            have HE : Hid (setB n zs = false) := by rw [← HK.out]; exact HN
            clear HN
            have hi5 : ((k : Int) - 1).toNat = k - 1 := by omega
            have hi6 := HI6.out
            have hw1 := HW1.out
            go_wp2
            go_quiet ((go_at_call 59; exact quiet_eq (HA.out _)))
            go_wp2
            go_ret
            exact ⟨ret_bool HE.out.symm, drewn HW.out⟩
          · have HE : Hid (setFrom n (lastAt zs (k + 1)) (zs.drop (k + 1)) = setB n zs) := by
              have := HK.out
              rw [setFrom_yes n zs k hlt (by rw [HL.out]; omega) (by omega)] at this; exact this
            have hi5 : ((k : Int) - 1).toNat = k - 1 := by omega
            have hi6 := HI6.out
            have hw1 := HW1.out
            go_wp2
            go_quiet ((go_at_call 59; exact quiet_eq (HA.out _)))
            clear hi5 hi6 hw1
            go_wp2
            go_roundw
            case rel => exact ⟨k + 1, by omega, by go_num, HE, HQ, drewn HW.out⟩
            case measure => simp [intOf]; omega
      · have HA := Lib.hid (l1In_is (inB_no (x := nth zs k) (lo := 0) (hi := n - 1) (by omega)))
        have HE : Hid (setB n zs = false) := by
          rw [← HK.out]
          refine setFrom_no n zs k hlt ?_
          have := lastAt_ge HP.out
          omega
        clear hcp
        have hw1 := HW1.out
        go_wp2
        go_quiet ((go_at_call 59; exact quiet_eq (HA.out _)))
        go_wp2
        go_ret
        exact ⟨ret_bool HE.out.symm, drewn HW.out⟩
    · have HE : Hid (setB n zs = true) := by rw [← HK.out]; exact setFrom_end _ _ _ _ (by omega)
      clear hwc
      go_wp2
      go_ret
      exact ⟨ret_bool HE.out.symm, HW.out⟩

theorem l1Rises_is {a : Option Addr} {zs : List Int} {n : Int} {r : Bool} (hr : setB n zs = r) (cap : Nat) (w : World) (h : IntsAt w a zs) (h0 : 0 ≤ n) (hn : n ≤ 4611686018427387904) :
    Calls Try.prog 115 #[.slice a zs.length cap, .int .i64 n] w fun e w' => e = .returned (.bool r) ∧ ∃ q, w' = w.drewN q := by
  subst hr; exact l1Rises_any a zs cap n w h h0 hn

set_option maxHeartbeats 400000 in
theorem l1Set_is {a : Option Addr} {zs : List Int} {n : Int} {r : Bool} (hr : setB n zs = r) (cap : Nat) (w : World) (h : IntsAt w a zs) (_h0 : 0 ≤ n) (_hn : n ≤ 4611686018427387904) :
    Calls Try.prog 94 #[.slice a zs.length cap, .int .i64 n] w fun e w' => e = .returned (.bool r) ∧ ∃ q, w' = w.drewN q := by
  have hl := h.len
  by_cases hle : (zs.length : Int) ≤ n
  · have HC := Lib.hid (l1Rises_is hr cap w h _h0 _hn)
    clear hr h
    go_enter Try.func94, Try.ntmps94
    go_wp2_with (go_at_call 115; refine HC.out.mono ?_; rintro e w' ⟨rfl, HW⟩)
    go_ret
    exact ⟨rfl, HW⟩
  · have HE : Hid (r = false) := by
      rw [← hr]
      cases hb : setB n zs with
      | false => rfl
      | true => exact absurd (setB_len _h0 hb) hle
    clear hr h
    go_enter Try.func94, Try.ntmps94
    go_wp2
    go_ret
    exact ⟨ret_bool HE.out.symm, 0, rfl⟩

theorem below_drewN {B : Nat} {a w : World} (h : Below B a w) (n : Nat) : Below B a (w.drewN n) := ⟨h.os, h.tape, h.output, h.size, h.block⟩
theorem below_same {B : Nat} {a w w' : World} (h : Below B a w) (k : ∃ q, w' = w.drewN q) : Below B a w' := by
  obtain ⟨q, rfl⟩ := k; exact below_drewN h q
theorem same_trans {w wr w' : World} (h : ∃ q, wr = w.drewN q) (h' : ∃ q, w' = wr.drewN q) : ∃ q, w' = w.drewN q := by
  obtain ⟨q, rfl⟩ := h'; exact drewn h
theorem IntsAt.same {w w' : World} {a : Option Addr} {zs : List Int} (h : IntsAt w a zs) (k : ∃ q, w' = w.drewN q) : IntsAt w' a zs := h.below (below_same (Below.refl _ _) k)
theorem RowsAt.same {w w' : World} {a : Option Addr} {A : Nat → Option Addr} {C : Nat → Nat} {zss : List (List Int)} (h : RowsAt w a A C zss) (k : ∃ q, w' = w.drewN q) : RowsAt w' a A C zss := h.below (below_same (Below.refl _ _) k)

set_option maxHeartbeats 2000000 in
set_option maxRecDepth 100000 in
theorem specArenaOk_any (ao an : Option Addr) (O : List Int) (zss : List (List Int)) (co cn : Nat) (A : Nat → Option Addr) (C : Nat → Nat) (w : World) (hO : IntsAt w ao O) (hN : RowsAt w an A C zss) :
    Calls Try.prog 102 #[.agg #[.slice ao O.length co, .slice an zss.length cn]] w fun e w' => e = .returned (.bool (arenaB O zss)) ∧ Below w.heap.size w w' := by
  have hO1 := hO.alloc (.cells #[.slice ao O.length co, .slice an zss.length cn] 30)
  have hN1 := hN.alloc (.cells #[.slice ao O.length co, .slice an zss.length cn] 30)
  have hlO := hO.len
  have hlN := hN.len
  clear hO hN
  have HO := Lib.hid hO1
  have HN := Lib.hid hN1
  clear hO1 hN1
  by_cases h1 : O.length < 1
  · have HE : Hid (arenaB O zss = false) := arenaB_no fun h => by have := h.1; omega
    have HI := Lib.hid (l1In_is (inB_no (x := O.length) (lo := 1) (hi := 256) (by omega)))
    go_enter Try.func102, Try.ntmps102
    go_wp2_with (go_at_call 59; refine (HI.out _).mono ?_; rintro e w' ⟨rfl, rfl⟩)
    go_ret
    exact ⟨ret_bool HE.out.symm, below1 _ _⟩
  · by_cases h2 : 256 < O.length
    · have HE : Hid (arenaB O zss = false) := arenaB_no fun h => by have := h.2.1; omega
      have HI := Lib.hid (l1In_is (inB_no (x := O.length) (lo := 1) (hi := 256) (by omega)))
      go_enter Try.func102, Try.ntmps102
      go_wp2_with (go_at_call 59; refine (HI.out _).mono ?_; rintro e w' ⟨rfl, rfl⟩)
      go_ret
      exact ⟨ret_bool HE.out.symm, below1 _ _⟩
    · have HI := Lib.hid (l1In_is (inB_yes (x := O.length) (lo := 1) (hi := 256) (by omega) (by omega)))
      by_cases h3 : zss.length = O.length
      · have h3' : ((zss.length : Int) != (O.length : Int)) = false := by simp [h3]
        have HL := Lib.hid h3
        have h3a : zss.length ≤ O.length := by omega
        have h3b : O.length ≤ zss.length := by omega
        clear h3
        go_enter Try.func102, Try.ntmps102
        go_wp2_with (go_at_call 59; refine (HI.out _).mono ?_; rintro e w' ⟨rfl, rfl⟩)
        go_loopw [4] (fun i wr => ∃ k : Nat, k ≤ O.length ∧ i = .int .i64 k ∧ Hid (∀ j, j < k → VertexP O zss j) ∧ Hid (∃ q, wr = (w.alloc (.cells #[.slice ao O.length co, .slice an zss.length cn] 30)).drewN q)) (fun i _ => O.length - (intOf i).toNat)
        case atStart => exact ⟨0, Nat.zero_le _, rfl, fun j hj => absurd hj (Nat.not_lt_zero _), 0, rfl⟩
        case round =>
          obtain ⟨k, hk, rfl, HK, HW⟩ := hrel
          have hB : Hid (Below w.heap.size w wr) := below_same (below1 _ _) HW.out
          have hb0 : wr.cell? ⟨w.heap.size, 0, none⟩ = some (.slice ao O.length co) := by obtain ⟨q, hq⟩ := HW.out; rw [hq]; simp [World.cell?_alloc_at _ _ _ _ rfl]
          have hb1 : wr.cell? ⟨w.heap.size, 1, none⟩ = some (.slice an zss.length cn) := by obtain ⟨q, hq⟩ := HW.out; rw [hq]; simp [World.cell?_alloc_at _ _ _ _ rfl]
          by_cases hlt : k < O.length
          · obtain ⟨b, off, ha, hc⟩ := (HO.out.same HW.out).cell (by omega)
            subst ha
            have hck := hc k hlt
            clear hc
            obtain ⟨bn, offn, hn, hcn⟩ := (HN.out.same HW.out).cell (by omega)
            subst hn
            have hcnk := hcn k (by omega)
            clear hcn
            by_cases h4 : nth O k = 0 ∨ nth O k = 1
            · have HI' := Lib.hid (l1In_is (inB_yes (x := nth O k) (lo := 0) (hi := 1) (by omega) (by omega)))
              have H4 := Lib.hid h4
              clear h4
              have hltz : k < zss.length := by omega
              have HR := Lib.hid ((HN.out.same HW.out).rows k hltz)
              have hlr := HR.out.len
              by_cases h5 : (row zss k).length < 1
              · have HE : Hid (arenaB O zss = false) := arenaB_vertex hlt fun h => by have := h.2.1; omega
                go_wp2_with (go_at_call 59; refine (HI'.out _).mono ?_; rintro e w' ⟨rfl, rfl⟩)
                go_ret
                exact ⟨ret_bool HE.out.symm, hB.out⟩
              · by_cases h6 : 16 < (row zss k).length
                · have HE : Hid (arenaB O zss = false) := arenaB_vertex hlt fun h => by have := h.2.2.1; omega
                  go_wp2_with (go_at_call 59; refine (HI'.out _).mono ?_; rintro e w' ⟨rfl, rfl⟩)
                  go_ret
                  exact ⟨ret_bool HE.out.symm, hB.out⟩
                · by_cases h7 : setB O.length (row zss k) = true
                  · have HV : Hid (∀ j, j < k + 1 → VertexP O zss j) := fun j hj => by
                      by_cases hj' : j < k
                      · exact HK.out j hj'
                      · obtain rfl : j = k := by omega
                        exact ⟨H4.out, by omega, by omega, h7⟩
                    have HC' := Lib.hid (l1Set_is h7 (C k) _ HR.out (n := O.length) (by omega) (by omega))
                    clear h7
                    go_wp2_with (first | (go_at_call 59; refine (HI'.out _).mono ?_; rintro e w' ⟨rfl, rfl⟩) | (go_at_call 94; refine HC'.out.mono ?_; rintro e w' ⟨rfl, HW'⟩; have HX := Lib.hid (same_trans HW.out HW'); clear HW'))
                    go_roundw
                    case rel => exact ⟨k + 1, by omega, by go_num, HV, HX.out⟩
                    case measure => simp [intOf]; omega
                  · have h7' : setB O.length (row zss k) = false := by simpa using h7
                    have HE : Hid (arenaB O zss = false) := arenaB_vertex hlt fun h => h7 h.2.2.2
                    have HC' := Lib.hid (l1Set_is h7' (C k) _ HR.out (n := O.length) (by omega) (by omega))
                    clear h7 h7'
                    go_wp2_with (first | (go_at_call 59; refine (HI'.out _).mono ?_; rintro e w' ⟨rfl, rfl⟩) | (go_at_call 94; refine HC'.out.mono ?_; rintro e w' ⟨rfl, HW'⟩; have HX := Lib.hid (below_same hB.out HW'); clear HW'))
                    go_ret
                    exact ⟨ret_bool HE.out.symm, HX.out⟩
            · have HE : Hid (arenaB O zss = false) := arenaB_vertex hlt fun h => h4 h.1
              have HI' := Lib.hid (l1In_is (inB_no (x := nth O k) (lo := 0) (hi := 1) (by omega)))
              clear h4
              go_wp2_with (go_at_call 59; refine (HI'.out _).mono ?_; rintro e w' ⟨rfl, rfl⟩)
              go_ret
              exact ⟨ret_bool HE.out.symm, hB.out⟩
          · have HE : Hid (arenaB O zss = true) := arenaB_yes ⟨by omega, by omega, HL.out, fun j hj => HK.out j (by omega)⟩
            go_wp2
            go_ret
            exact ⟨ret_bool HE.out.symm, hB.out⟩
      · have HE : Hid (arenaB O zss = false) := arenaB_no fun h => h3 h.2.2.1
        have h3' : ((zss.length : Int) != (O.length : Int)) = true := by simp; omega
        clear h3
        go_enter Try.func102, Try.ntmps102
        go_wp2_with (go_at_call 59; refine (HI.out _).mono ?_; rintro e w' ⟨rfl, rfl⟩)
        go_ret
        exact ⟨ret_bool HE.out.symm, below1 _ _⟩

theorem specArenaOk_at {w : World} {v : Value} {O : List Int} {zss : List (List Int)} {r : Bool} (hr : arenaB O zss = r) (h : ArenaAt w v O zss) :
    Calls Try.prog 102 #[v] w fun e w' => e = .returned (.bool r) ∧ Below w.heap.size w w' := by
  obtain ⟨ao, an, co, cn, A, C, rfl, h1, h2⟩ := h
  subst hr
  exact specArenaOk_any ao an O zss co cn A C w h1 h2

theorem ArenaAt.same {w w' : World} {v : Value} {O : List Int} {zss : List (List Int)} (h : ArenaAt w v O zss) (k : ∃ q, w' = w.drewN q) : ArenaAt w' v O zss := h.below (below_same (Below.refl _ _) k)

end Go.Proofs.Ytihaajcmephlmaa
namespace Go.Proofs.Ytihaajcmephlmaa
section
open Go.RowKit

/-- Of what was there, blocks of which S holds alone may have turned. -/
structure Only (S : Nat → Prop) (w w' : World) : Prop where
  os : w'.os = w.os
  tape : w'.tape = w.tape
  output : w'.output = w.output
  size : w.heap.size ≤ w'.heap.size
  block : ∀ k, k < w.heap.size → ¬ S k → w'.heap[k]? = w.heap[k]?

theorem Only.refl (S : Nat → Prop) (w : World) : Only S w w := ⟨rfl, rfl, rfl, Nat.le_refl _, fun _ _ _ => rfl⟩
theorem Only.trans {S : Nat → Prop} {a b c : World} (h : Only S a b) (k : Only S b c) : Only S a c :=
  ⟨k.os.trans h.os, k.tape.trans h.tape, k.output.trans h.output, Nat.le_trans h.size k.size, fun i hi hs => (k.block i (Nat.lt_of_lt_of_le hi h.size) hs).trans (h.block i hi hs)⟩
theorem Only.mono {S T : Nat → Prop} {w w' : World} (h : Only S w w') (hs : ∀ k, S k → T k) : Only T w w' :=
  ⟨h.os, h.tape, h.output, h.size, fun i hi ht => h.block i hi (fun hk => ht (hs i hk))⟩
theorem Only.of_below {S : Nat → Prop} {w w' : World} (h : Below w.heap.size w w') : Only S w w' := ⟨h.os, h.tape, h.output, h.size, fun i hi _ => h.block i hi⟩
theorem Only.setCell {S : Nat → Prop} {a w : World} (h : Only S a w) {p : Addr} (hp : S p.block) (u : Value) : Only S a (w.setCell p u) :=
  h.trans ⟨rfl, rfl, rfl, by simp [World.setCell], fun k _ hk => Below.heap_setCell _ _ _ _ (fun e => hk (by rw [e]; exact hp))⟩
theorem Only.below {S : Nat → Prop} {B : Nat} {w w' : World} (h : Only S w w') (hB : B ≤ w.heap.size) (hs : ∀ k, S k → B ≤ k) : Below B w w' :=
  ⟨h.os, h.tape, h.output, h.size, fun k hk => h.block k (by omega) (fun hS => by have := hs k hS; omega)⟩

/-- The slice v owns the numbers zs, in a block from B on and below D. -/
structure OwnInts (w : World) (B D : Nat) (v : Value) (zs : List Int) : Prop where
  own : w.ownsRow B 2 1 v zs.length (zs.map (Value.int .i64))
  top : ∀ g, v.ownBlock = some g → g < D
  len : zs.length ≤ 17592186044416
  fits : ∀ k, k < zs.length → Fits (nth zs k)

theorem OwnInts.shape {w : World} {B D : Nat} {v : Value} {zs : List Int} (h : OwnInts w B D v zs) :
    ∃ a cap, v = .slice a zs.length cap ∧ IntsAt w a zs ∧ (0 < zs.length → ∃ g, a = some ⟨g, 0, none⟩ ∧ B ≤ g ∧ g < D ∧ v.ownBlock = some g ∧ ∀ k, w.frozen? ⟨g, k, none⟩ = false) := by
  have hown := h.own
  rcases h.own.2 with ⟨hv, h0⟩ | ⟨g, cap, cur, hv, hg, hh, hn, hm, hcs, htake⟩
  · rw [h0]
    refine ⟨none, 0, hv, ⟨h.len, h.fits, fun hp => absurd hp (by omega)⟩, fun hp => absurd hp (by omega)⟩
  · subst hv
    refine ⟨some ⟨g, 0, none⟩, cap, rfl, ⟨h.len, h.fits, fun _ => ⟨g, 0, rfl, fun k hk => ?_⟩⟩, fun _ => ⟨g, rfl, hg, h.top g rfl, rfl, fun k => hown.frozenAt k⟩⟩
    rw [Nat.zero_add, hown.cellAt k (by omega)]
    simp [nth, hk]

theorem ownsRow_only {w w' : World} {S : Nat → Prop} {B : Nat} {e : TypeId} {size : Nat} {v : Value} {n : Nat} {xs : List Value} (h : w.ownsRow B e size v n xs) (hk : Only S w w') (hs : ∀ g, v.ownBlock = some g → ¬ S g) : w'.ownsRow B e size v n xs := by
  refine ⟨h.1, ?_⟩
  rcases h.2 with hn | ⟨g, cap, cur, rfl, hb, hgg, rest⟩
  · exact .inl hn
  · refine .inr ⟨g, cap, cur, rfl, hb, ?_, rest⟩
    rw [hk.block g (Array.getElem?_eq_some_iff.1 hgg).1 (hs g rfl)]
    exact hgg

theorem OwnInts.only {w w' : World} {S : Nat → Prop} {B D : Nat} {v : Value} {zs : List Int} (h : OwnInts w B D v zs) (hk : Only S w w') (hs : ∀ g, v.ownBlock = some g → ¬ S g) : OwnInts w' B D v zs :=
  ⟨ownsRow_only h.own hk hs, h.top, h.len, h.fits⟩
theorem OwnInts.below {w w' : World} {B D : Nat} {v : Value} {zs : List Int} (h : OwnInts w B D v zs) (hb : Below w.heap.size w w') : OwnInts w' B D v zs :=
  h.only (S := fun _ => False) (Only.of_below hb) (fun _ _ h => h)

def addrOf : Value → Option Addr | .slice a _ _ => a | _ => none
def capOf : Value → Nat | .slice _ _ c => c | _ => 0

/-- The slice v owns the rows zss: row k is the value V k. -/
structure OwnRows (w : World) (B D : Nat) (v : Value) (V : Nat → Value) (zss : List (List Int)) : Prop where
  own : w.ownsRow B 27 1 v zss.length ((List.range zss.length).map V)
  top : ∀ g, v.ownBlock = some g → g < D
  len : zss.length ≤ 17592186044416
  rows : ∀ k, k < zss.length → OwnInts w B D (V k) (row zss k)
  apart : ∀ i j, i < zss.length → j < zss.length → i ≠ j → ∀ g, (V i).ownBlock = some g → (V j).ownBlock ≠ some g

theorem OwnRows.shape {w : World} {B D : Nat} {v : Value} {V : Nat → Value} {zss : List (List Int)} (h : OwnRows w B D v V zss) :
    ∃ a cap, v = .slice a zss.length cap ∧ RowsAt w a (fun k => addrOf (V k)) (fun k => capOf (V k)) zss ∧ (∀ k, k < zss.length → V k = .slice (addrOf (V k)) (row zss k).length (capOf (V k))) := by
  have hV : ∀ k, k < zss.length → V k = .slice (addrOf (V k)) (row zss k).length (capOf (V k)) ∧ IntsAt w (addrOf (V k)) (row zss k) := fun k hk => by
    obtain ⟨a, cap, hv, hi, _⟩ := (h.rows k hk).shape
    rw [hv]; exact ⟨rfl, hi⟩
  have hown := h.own
  rcases h.own.2 with ⟨hv, h0⟩ | ⟨g, cap, cur, hv, hg, hh, hn, hm, hcs, htake⟩
  · refine ⟨none, 0, by rw [hv, h0], ⟨h.len, fun hp => absurd hp (by omega), fun k hk => absurd hk (by omega)⟩, fun k hk => (hV k hk).1⟩
  · subst hv
    refine ⟨some ⟨g, 0, none⟩, cap, rfl, ⟨h.len, fun _ => ⟨g, 0, rfl, fun k hk => ?_⟩, fun k hk => (hV k hk).2⟩, fun k hk => (hV k hk).1⟩
    rw [Nat.zero_add, hown.cellAt k (by omega)]
    rw [← (hV k hk).1]
    simp [hk]

theorem OwnRows.only {w w' : World} {S : Nat → Prop} {B D : Nat} {v : Value} {V : Nat → Value} {zss : List (List Int)} (h : OwnRows w B D v V zss) (hk : Only S w w') (hs : ∀ g, v.ownBlock = some g → ¬ S g)
    (hr : ∀ k, k < zss.length → ∀ g, (V k).ownBlock = some g → ¬ S g) : OwnRows w' B D v V zss :=
  ⟨ownsRow_only h.own hk hs, h.top, h.len, fun k hk' => (h.rows k hk').only hk (hr k hk'), h.apart⟩
theorem OwnRows.below {w w' : World} {B D : Nat} {v : Value} {V : Nat → Value} {zss : List (List Int)} (h : OwnRows w B D v V zss) (hb : Below w.heap.size w w') : OwnRows w' B D v V zss :=
  h.only (S := fun _ => False) (Only.of_below hb) (fun _ _ h => h) (fun _ _ _ _ h => h)

/-- The outer row's block is no row's block: their cells are of two types. -/
theorem own_types {w : World} {B : Nat} {v u : Value} {n m : Nat} {xs ys : List Value} (h : w.ownsRow B 27 1 v n xs) (k : w.ownsRow B 2 1 u m ys) : ∀ g, v.ownBlock = some g → u.ownBlock ≠ some g := by
  intro g hg hu
  rcases h.2 with ⟨rfl, _⟩ | ⟨g1, _, _, rfl, _, h1, _⟩
  · simp [Value.ownBlock] at hg
  · rcases k.2 with ⟨rfl, _⟩ | ⟨g2, _, _, rfl, _, h2, _⟩
    · simp [Value.ownBlock] at hu
    · simp [Value.ownBlock] at hg hu
      subst hg; subst hu
      rw [h1] at h2
      simp at h2

/-- The struct v owns an arena. -/
def OwnArena (w : World) (B D : Nat) (v : Value) (O : List Int) (zss : List (List Int)) : Prop :=
  ∃ vo vn V, v = .agg #[vo, vn] ∧ OwnInts w B D vo O ∧ OwnRows w B D vn V zss ∧ ∀ k, k < zss.length → ∀ g, (V k).ownBlock = some g → vo.ownBlock ≠ some g

theorem OwnArena.at {w : World} {B D : Nat} {v : Value} {O : List Int} {zss : List (List Int)} (h : OwnArena w B D v O zss) : ArenaAt w v O zss := by
  obtain ⟨vo, vn, V, rfl, h1, h2, _⟩ := h
  obtain ⟨a, c, rfl, hi, _⟩ := h1.shape
  obtain ⟨a', c', rfl, hr, _⟩ := h2.shape
  exact ⟨_, _, _, _, _, _, rfl, hi, hr⟩

theorem OwnArena.below {w w' : World} {B D : Nat} {v : Value} {O : List Int} {zss : List (List Int)} (h : OwnArena w B D v O zss) (hb : Below w.heap.size w w') : OwnArena w' B D v O zss := by
  obtain ⟨vo, vn, V, hv, h1, h2, h3⟩ := h
  exact ⟨vo, vn, V, hv, h1.below hb, h2.below hb, h3⟩

theorem OwnArena.only {w w' : World} {S : Nat → Prop} {B D : Nat} {v : Value} {O : List Int} {zss : List (List Int)} (h : OwnArena w B D v O zss) (hk : Only S w w') (hs : ∀ g, B ≤ g → g < D → ¬ S g) : OwnArena w' B D v O zss := by
  obtain ⟨vo, vn, V, hv, h1, h2, h3⟩ := h
  refine ⟨vo, vn, V, hv, h1.only hk (fun g hg => hs g ?_ (h1.top g hg)), h2.only hk (fun g hg => hs g ?_ (h2.top g hg)) (fun k hk' g hg => hs g ?_ ((h2.rows k hk').top g hg)), h3⟩
  · exact (h1.own.lt g hg).1
  · exact (h2.own.lt g hg).1
  · exact ((h2.rows k hk').own.lt g hg).1

theorem ownsRow_of_rowIs {w : World} {B b n : Nat} {t : TypeId} {f : Nat → Value} (h : w.rowIs b t n f) (hB : B ≤ b) (hn : n ≤ maxLen) : w.ownsRow B t 1 (.slice (some ⟨b, 0, none⟩) n n) n ((List.range n).map f) := by
  obtain ⟨c, hh, hs, hc⟩ := h
  refine ⟨by simp, .inr ⟨b, n, c, rfl, hB, hh, Nat.le_refl _, hn, by omega, ?_⟩⟩
  apply List.ext_getElem?
  intro i
  by_cases hi : i < n
  · have := hc i hi
    simp [hi, this]
  · simp [List.getElem?_take, hi]

theorem map_nth (zs : List Int) : (List.range zs.length).map (fun i => Value.int .i64 (nth zs i)) = zs.map (Value.int .i64) := by
  apply List.ext_getElem?
  intro i
  by_cases hi : i < zs.length
  · simp [hi, nth_eq hi]
  · simp [hi]

theorem OwnInts.of_rowIs {w : World} {B D b : Nat} {zs : List Int} (h : w.rowIs b 2 zs.length (fun i => .int .i64 (nth zs i))) (hB : B ≤ b) (hD : b < D) (hl : zs.length ≤ 17592186044416) (hf : ∀ k, k < zs.length → Fits (nth zs k)) :
    OwnInts w B D (.slice (some ⟨b, 0, none⟩) zs.length zs.length) zs := by
  refine ⟨?_, fun g hg => by simp [Value.ownBlock] at hg; omega, hl, hf⟩
  rw [← map_nth]
  exact ownsRow_of_rowIs h hB (by unfold maxLen; omega)
end

section
open Go.RowKit

theorem info_int : (Try.prog.info? 2).map (fun i => (i.zero, i.size, i.bytes)) = some (some (.int .i64 0), 1, 8) := by kernel_rfl
theorem info_ints : (Try.prog.info? 27).map (fun i => (i.zero, i.size, i.bytes)) = some (some (.slice none 0 0), 1, 24) := by kernel_rfl

/-- What the copy's row holds when k numbers are copied. -/
def part (zs : List Int) (k : Nat) : Nat → Value := fun i => if i < k then .int .i64 (nth zs i) else .int .i64 0

theorem part_step {w : World} {g n k : Nat} {t : TypeId} {zs : List Int} (h : w.rowIs g t n (part zs k)) : (w.setCell ⟨g, k, none⟩ (.int .i64 (nth zs k))).rowIs g t n (part zs (k + 1)) := by
  refine (h.set k _).congr fun i _ => ?_
  simp only [part]
  by_cases e : i = k
  · subst e; simp
  · rw [if_neg e]
    by_cases hlt : i < k
    · rw [if_pos hlt, if_pos (by omega)]
    · rw [if_neg hlt, if_neg (by omega)]

set_option maxHeartbeats 1000000 in
theorem toInt64S_any (a : Option Addr) (zs : List Int) (cap : Nat) (w : World) (h : IntsAt w a zs) :
    Calls Try.prog 22 #[.slice a zs.length cap] w fun e w' => e = .returned (.slice (some ⟨w.heap.size, 0, none⟩) zs.length zs.length) ∧
      w'.rowIs w.heap.size 2 zs.length (fun i => .int .i64 (nth zs i)) ∧ w'.heap.size = w.heap.size + 1 ∧ Below w.heap.size w w' := by
  obtain ⟨hlen, _, hcell⟩ := h
  have hmk := run_make_row' (P := Try.prog) 27 2 (.int .i64 0) 8 Try.underlying27 info_int rfl .i64 .i64 zs.length (by omega) (by omega)
  have HC := Lib.hid hcell
  clear hcell
  go_enter Try.func22, Try.ntmps22
  go_wp2
  go_loopw [4] (fun i wr => ∃ k : Nat, k ≤ zs.length ∧ i = .int .i64 k ∧ Hid (wr.rowIs w.heap.size 2 zs.length (part zs k)) ∧ Hid (wr.heap.size = w.heap.size + 1) ∧ Hid (Below w.heap.size w wr)) (fun i _ => zs.length - (intOf i).toNat)
  case atStart => exact ⟨0, Nat.zero_le _, rfl, (World.rowIs_made _ _ _ _).congr (fun i _ => by simp [part]), by simp [Hid], below1 _ _⟩
  case round =>
    clear hmk
    obtain ⟨k, hk, rfl, HR, HS, HB⟩ := hrel
    by_cases hlt : k < zs.length
    · obtain ⟨b, off, ha, hc⟩ := HC.out (by omega)
      subst ha
      have hck := Below.cell_some (B := 0) HB.out rfl (hc k hlt)
      have hcs := HR.out.cell hlt
      have hcf := HR.out.frozen k
      clear hc
      go_wp2
      go_roundw
      case rel => exact ⟨k + 1, by omega, by go_num, part_step HR.out, by simp [Hid]; exact HS.out, HB.out.setCell (Nat.le_refl _) _⟩
      case measure => simp [intOf]; omega
    · have HE : Hid (wr.rowIs w.heap.size 2 zs.length (fun i => .int .i64 (nth zs i))) := HR.out.congr fun i hi => by simp only [part]; rw [if_pos (by omega)]
      go_wp2
      go_ret
      exact ⟨rfl, HE.out, HS.out, HB.out⟩

/-- The copied rows' outer row when k rows are copied. -/
def outer (N : Nat) (zss : List (List Int)) (k : Nat) : Nat → Value := fun j => if j < k then .slice (some ⟨N + 1 + j, 0, none⟩) (row zss j).length (row zss j).length else .slice none 0 0

/-- What holds when k rows are copied; N: the outer row's block. -/
structure Copied (w wr : World) (N : Nat) (zss : List (List Int)) (k : Nat) : Prop where
  below : Below w.heap.size w wr
  size : wr.heap.size = N + 1 + k
  top : wr.rowIs N 27 zss.length (outer N zss k)
  done : ∀ j, j < k → wr.rowIs (N + 1 + j) 2 (row zss j).length (fun i => .int .i64 (nth (row zss j) i))

theorem rowIs_below {w w' : World} {g n : Nat} {t : TypeId} {f : Nat → Value} (h : w.rowIs g t n f) (hb : Below w.heap.size w w') : w'.rowIs g t n f := h.of_block (hb.block g h.lt)

theorem Copied.step {w wr w1 : World} {N k : Nat} {zss : List (List Int)} (h : Copied w wr N zss k) (hN : w.heap.size ≤ N) (hb : Below wr.heap.size wr w1) (hs : w1.heap.size = wr.heap.size + 1)
    (hr : w1.rowIs wr.heap.size 2 (row zss k).length (fun i => .int .i64 (nth (row zss k) i))) :
    Copied w (w1.setCell ⟨N, k, none⟩ (.slice (some ⟨wr.heap.size, 0, none⟩) (row zss k).length (row zss k).length)) N zss (k + 1) := by
  refine ⟨(h.below.trans (hb.mono h.below.size)).setCell hN _, by simp [hs, h.size]; omega, ((rowIs_below h.top hb).set k _).congr fun j _ => ?_, fun j hj => ?_⟩
  · simp only [outer]
    by_cases e : j = k
    · subst e; simp [h.size]
    · rw [if_neg e]
      by_cases hlt : j < k
      · rw [if_pos hlt, if_pos (by omega)]
      · rw [if_neg hlt, if_neg (by omega)]
  · by_cases e : j = k
    · subst e
      have := hr.setOther (a := ⟨N, j, none⟩) (by rw [h.size]; show N + 1 + j ≠ N; omega) (.slice (some ⟨wr.heap.size, 0, none⟩) (row zss j).length (row zss j).length)
      rw [h.size] at this ⊢
      exact this
    · exact (rowIs_below (h.done j (by omega)) hb).setOther (by show N + 1 + j ≠ N; omega) _

set_option maxHeartbeats 1000000 in
theorem toInt64SS_any (a : Option Addr) (A : Nat → Option Addr) (C : Nat → Nat) (zss : List (List Int)) (cap : Nat) (w : World) (h : RowsAt w a A C zss) (hn : zss.length ≤ 1048576) :
    Calls Try.prog 76 #[.slice a zss.length cap] w fun e w' => e = .returned (.slice (some ⟨w.heap.size, 0, none⟩) zss.length zss.length) ∧ Copied w w' w.heap.size zss zss.length := by
  have hmk := run_make_row' (P := Try.prog) 28 27 (.slice none 0 0) 24 Try.underlying28 info_ints rfl .i64 .i64 zss.length (by omega) (by omega)
  have HC := Lib.hid h
  clear h
  go_enter Try.func76, Try.ntmps76
  go_wp2
  go_loopw [4] (fun i wr => ∃ k : Nat, k ≤ zss.length ∧ i = .int .i64 k ∧ Hid (Copied w wr w.heap.size zss k)) (fun i _ => zss.length - (intOf i).toNat)
  case atStart => exact ⟨0, Nat.zero_le _, rfl, below1 _ _, by simp, (World.rowIs_made _ _ _ _).congr (fun i _ => by simp [outer]), fun j hj => absurd hj (Nat.not_lt_zero _)⟩
  case round =>
    clear hmk
    obtain ⟨k, hk, rfl, HR⟩ := hrel
    by_cases hlt : k < zss.length
    · have HC' := Lib.hid (HC.out.below (HR.out.below))
      obtain ⟨b, off, ha, hc⟩ := HC'.out.cell (by omega)
      subst ha
      have hck := hc k hlt
      clear hc
      have HT := Lib.hid (toInt64S_any (A k) (row zss k) (C k) wr (HC'.out.rows k hlt))
      have HF : Hid (∀ w1, Below wr.heap.size wr w1 → w1.cell? ⟨w.heap.size, k, none⟩ = some (outer w.heap.size zss k k) ∧ w1.frozen? ⟨w.heap.size, k, none⟩ = false) := fun w1 hb => by
        have := rowIs_below HR.out.top hb
        exact ⟨this.cell hlt, this.frozen k⟩
      go_wp2_with (go_at_call 22; refine HT.out.mono ?_; rintro e w1 ⟨rfl, h1, h2, h3⟩; obtain ⟨hf1, hf2⟩ := HF.out w1 h3; have HS := Lib.hid (HR.out.step (Nat.le_refl _) h3 h2 h1); clear h1 h2 h3)
      go_roundw
      case rel => exact ⟨k + 1, by omega, by go_num, HS.out⟩
      case measure => simp [intOf]; omega
    · have hkk : k = zss.length := by omega
      have HE : Hid (Copied w wr w.heap.size zss zss.length) := by rw [← hkk]; exact HR.out
      clear hkk
      go_wp2
      go_ret
      exact ⟨rfl, HE.out⟩

/-- What toArena leaves: the owners' copy in the fourth new block, the rows' in the fifth and those behind it. -/
structure ArenaCopy (w w' : World) (O : List Int) (zss : List (List Int)) : Prop where
  below : Below w.heap.size w w'
  size : w'.heap.size = w.heap.size + 5 + zss.length
  owner : w'.rowIs (w.heap.size + 3) 2 O.length (fun i => .int .i64 (nth O i))
  top : w'.rowIs (w.heap.size + 4) 27 zss.length (outer (w.heap.size + 4) zss zss.length)
  done : ∀ j, j < zss.length → w'.rowIs (w.heap.size + 4 + 1 + j) 2 (row zss j).length (fun i => .int .i64 (nth (row zss j) i))

theorem ArenaCopy.ints {w w' w0 : World} {a : Option Addr} {O : List Int} {zss : List (List Int)} (h : ArenaCopy w w' O zss) (hO : IntsAt w0 a O) : IntsAt w' (some ⟨w.heap.size + 3, 0, none⟩) O :=
  ⟨hO.len, hO.fits, fun _ => ⟨_, _, rfl, fun k hk => by rw [Nat.zero_add]; exact h.owner.cell hk⟩⟩

theorem ArenaCopy.rows {w w' w0 : World} {a : Option Addr} {A : Nat → Option Addr} {C : Nat → Nat} {O : List Int} {zss : List (List Int)} (h : ArenaCopy w w' O zss) (hN : RowsAt w0 a A C zss) :
    RowsAt w' (some ⟨w.heap.size + 4, 0, none⟩) (fun j => some ⟨w.heap.size + 4 + 1 + j, 0, none⟩) (fun j => (row zss j).length) zss :=
  ⟨hN.len, fun _ => ⟨_, _, rfl, fun k hk => by rw [Nat.zero_add, h.top.cell hk]; simp only [outer]; rw [if_pos hk]⟩,
    fun k hk => ⟨(hN.rows k hk).len, (hN.rows k hk).fits, fun _ => ⟨_, _, rfl, fun i hi => by rw [Nat.zero_add]; exact (h.done k hk).cell hi⟩⟩⟩

set_option maxHeartbeats 1000000 in
theorem toArena_any (ao an : Option Addr) (O : List Int) (zss : List (List Int)) (co cn : Nat) (A : Nat → Option Addr) (C : Nat → Nat) (w : World) (hO : IntsAt w ao O) (hN : RowsAt w an A C zss) (hn : zss.length ≤ 1048576) :
    Calls Try.prog 47 #[.agg #[.slice ao O.length co, .slice an zss.length cn]] w fun e w' =>
      e = .returned (.agg #[.slice (some ⟨w.heap.size + 3, 0, none⟩) O.length O.length, .slice (some ⟨w.heap.size + 4, 0, none⟩) zss.length zss.length]) ∧ ArenaCopy w w' O zss := by
  have HO := Lib.hid hO
  have HN := Lib.hid hN
  clear hO hN
  go_enter Try.func47, Try.ntmps47
  go_wp2_with fail
  refine (toInt64S_any ao O co _ (((HO.out.alloc _).alloc _).alloc _)).mono ?_
  rintro e w1 ⟨rfl, h1, h2, h3⟩
  have hs1 : w1.heap.size = w.heap.size + 4 := by simp at h2; omega
  have HS1 := Lib.hid hs1
  have b0 := Lib.hid ((((Box2.new w 40 (.slice ao O.length co) (.slice an zss.length cn)).alloc _).alloc _).below h3)
  have b1 := Lib.hid (((Box2.new_at (g := w.heap.size + 1) (by simp) 30 (.slice none 0 0) (.slice none 0 0)).alloc _).below h3)
  have b2 := Lib.hid ((Box2.new_at (g := w.heap.size + 1 + 1) (by simp) 30 (.slice none 0 0) (.slice none 0 0)).below h3)
  have hB1 : Hid (Below w.heap.size w w1) := ((below2 w _ _).alloc (by simp; omega) _).trans (h3.mono (by simp; omega))
  have hR1 : Hid (w1.rowIs (w.heap.size + 3) 2 O.length (fun i => .int .i64 (nth O i))) := by simpa [Hid] using h1
  have c00 := b0.out.cell0
  have c01 := b0.out.cell1
  have c20 := b2.out.cell0
  have f20 := b2.out.frozen 0
  have hlt0 : w.heap.size ≠ w.heap.size + 1 + 1 := by omega
  clear h1 h2 h3 hs1
  go_wp2_with fail
  have hB4 : Hid (Below w.heap.size w (w1.setCell ⟨w.heap.size + 1 + 1, 0, none⟩ (.slice (some ⟨w.heap.size + 1 + 1 + 1, 0, none⟩) O.length O.length))) := hB1.out.setCell (by show w.heap.size ≤ w.heap.size + 1 + 1; omega) _
  refine (toInt64SS_any an A C zss cn _ (HN.out.below hB4.out) hn).mono ?_
  rintro e w2 ⟨rfl, h1⟩
  have b0' := Lib.hid ((b0.out.other (a := ⟨w.heap.size + 1 + 1, 0, none⟩) (by show w.heap.size ≠ w.heap.size + 1 + 1; omega) _).below h1.below)
  have b1' := Lib.hid ((b1.out.other (a := ⟨w.heap.size + 1 + 1, 0, none⟩) (by show w.heap.size + 1 ≠ w.heap.size + 1 + 1; omega) _).below h1.below)
  have b2' := Lib.hid ((b2.out.set0 (.slice (some ⟨w.heap.size + 1 + 1 + 1, 0, none⟩) O.length O.length)).below h1.below)
  have hB2 : Hid (Below w.heap.size w w2) := hB4.out.trans (h1.below.mono hB4.out.size)
  have hR2 : Hid (w2.rowIs (w.heap.size + 3) 2 O.length (fun i => .int .i64 (nth O i))) := rowIs_below (hR1.out.setOther (a := ⟨w.heap.size + 1 + 1, 0, none⟩) (by show w.heap.size + 3 ≠ w.heap.size + 1 + 1; omega) _) h1.below
  have HC := Lib.hid h1
  have hsz : Hid ((w1.setCell ⟨w.heap.size + 1 + 1, 0, none⟩ (.slice (some ⟨w.heap.size + 1 + 1 + 1, 0, none⟩) O.length O.length)).heap.size = w.heap.size + 4) := by simp [Hid]; exact HS1.out
  rw [hsz.out] at HC ⊢
  clear h1 c00 c01 c20 f20 hlt0
  have c20 := b2'.out.cell0
  have c21 := b2'.out.cell1
  have f21 := b2'.out.frozen 1
  have c10 := b1'.out.cell0
  have c11 := b1'.out.cell1
  have f10 := b1'.out.frozen 0
  have f11 := b1'.out.frozen 1
  go_wp2_with fail
  have b1f := Lib.hid (((b1'.out.other (a := ⟨w.heap.size + 1 + 1, 1, none⟩) (by show w.heap.size + 1 ≠ w.heap.size + 1 + 1; omega) (.slice (some ⟨w.heap.size + 4, 0, none⟩) zss.length zss.length)).set0 (.slice (some ⟨w.heap.size + 1 + 1 + 1, 0, none⟩) O.length O.length)).set1 (.slice (some ⟨w.heap.size + 4, 0, none⟩) zss.length zss.length))
  have d0 := b1f.out.cell0
  have d1 := b1f.out.cell1
  have hfin : Hid (ArenaCopy w (((w2.setCell ⟨w.heap.size + 1 + 1, 1, none⟩ (.slice (some ⟨w.heap.size + 4, 0, none⟩) zss.length zss.length)).setCell ⟨w.heap.size + 1, 0, none⟩ (.slice (some ⟨w.heap.size + 1 + 1 + 1, 0, none⟩) O.length O.length)).setCell
      ⟨w.heap.size + 1, 1, none⟩ (.slice (some ⟨w.heap.size + 4, 0, none⟩) zss.length zss.length)) O zss) := by
    have hh := HC.out
    refine ⟨((hB2.out.setCell (by show w.heap.size ≤ w.heap.size + 1 + 1; omega) _).setCell (by show w.heap.size ≤ w.heap.size + 1; omega) _).setCell (by show w.heap.size ≤ w.heap.size + 1; omega) _, by simp [hh.size], ?_, ?_, fun j hj => ?_⟩
    · exact ((hR2.out.setOther (by show w.heap.size + 3 ≠ w.heap.size + 1 + 1; omega) _).setOther (by show w.heap.size + 3 ≠ w.heap.size + 1; omega) _).setOther (by show w.heap.size + 3 ≠ w.heap.size + 1; omega) _
    · exact ((hh.top.setOther (by show w.heap.size + 4 ≠ w.heap.size + 1 + 1; omega) _).setOther (by show w.heap.size + 4 ≠ w.heap.size + 1; omega) _).setOther (by show w.heap.size + 4 ≠ w.heap.size + 1; omega) _
    · exact (((hh.done j hj).setOther (by show w.heap.size + 4 + 1 + j ≠ w.heap.size + 1 + 1; omega) _).setOther (by show w.heap.size + 4 + 1 + j ≠ w.heap.size + 1; omega) _).setOther (by show w.heap.size + 4 + 1 + j ≠ w.heap.size + 1; omega) _
  exact bodyPost_ret (v := .agg #[.slice (some ⟨w.heap.size + 1 + 1 + 1, 0, none⟩) O.length O.length, .slice (some ⟨w.heap.size + 4, 0, none⟩) zss.length zss.length]) (by simp [results, Try.results47, go_sem, c10, c11]) rfl ⟨rfl, hfin.out⟩

/-- The copy of an arena: it reads as the arena, and nothing that was there has turned. -/
theorem toArena_at {w : World} {v : Value} {O : List Int} {zss : List (List Int)} (h : ArenaAt w v O zss) (hn : zss.length ≤ 1048576) :
    Calls Try.prog 47 #[v] w fun e w' =>
      e = .returned (.agg #[.slice (some ⟨w.heap.size + 3, 0, none⟩) O.length O.length, .slice (some ⟨w.heap.size + 4, 0, none⟩) zss.length zss.length]) ∧ ArenaCopy w w' O zss ∧
      ArenaAt w' (.agg #[.slice (some ⟨w.heap.size + 3, 0, none⟩) O.length O.length, .slice (some ⟨w.heap.size + 4, 0, none⟩) zss.length zss.length]) O zss := by
  obtain ⟨ao, an, co, cn, A, C, rfl, h1, h2⟩ := h
  refine (toArena_any ao an O zss co cn A C w h1 h2 hn).mono fun e w' ⟨he, hc⟩ => ⟨he, hc, ?_⟩
  exact ⟨_, _, _, _, _, _, rfl, hc.ints h1, hc.rows h2⟩
end

section
open Go.RowKit

set_option maxHeartbeats 400000 in
theorem l1Has_is {a : Option Addr} {zs : List Int} {x : Int} {r : Bool} (hr : hasB zs x = r) (cap : Nat) (w : World) (h : IntsAt w a zs) :
    Calls Try.prog 118 #[.slice a zs.length cap, .int .i64 x] w fun e w' => e = .returned (.bool r) ∧ w = w' := by
  obtain ⟨hlen, _, hcell⟩ := h
  have HR := Lib.hid hr
  have HC := Lib.hid hcell
  clear hcell hr
  go_enter Try.func118, Try.ntmps118
  go_wp2
  go_loop [5] (fun i => ∃ k : Nat, k ≤ zs.length ∧ i = .int .i64 k ∧ Hid (∀ j, j < k → nth zs j ≠ x)) (fun i => zs.length - (intOf i).toNat)
  case atStart => exact ⟨0, Nat.zero_le _, rfl, fun j hj => absurd hj (Nat.not_lt_zero _)⟩
  case round =>
    obtain ⟨k, hk, rfl, HK⟩ := hrel
    by_cases hlt : k < zs.length
    · obtain ⟨b, off, ha, hc⟩ := HC.out (by omega)
      subst ha
      have hck := hc k hlt
      clear hc
      by_cases he : nth zs k = x
      · have HE : Hid (r = true) := by rw [← HR.out]; exact hasB_yes hlt he
        have he' : (nth zs k == x) = true := by simp [he]
        clear he
        go_wp2
        go_ret
        exact ⟨ret_bool HE.out.symm, rfl⟩
      · have HE : Hid (∀ j, j < k + 1 → nth zs j ≠ x) := fun j hj => by
          by_cases hj' : j < k
          · exact HK.out j hj'
          · obtain rfl : j = k := by omega
            exact he
        have he' : (nth zs k == x) = false := by simp [he]
        clear he
        go_wp2
        go_round
        case rel => exact ⟨k + 1, by omega, by go_num, HE⟩
        case measure => simp [intOf]; omega
    · have HE : Hid (r = false) := by rw [← HR.out]; exact hasB_no fun j hj => HK.out j (by omega)
      go_wp2
      go_ret
      exact ⟨ret_bool HE.out.symm, rfl⟩

set_option maxHeartbeats 400000 in
theorem Index_is {a : Option Addr} {zs : List Int} {x i : Int} (hr : idx zs x = i) (cap : Nat) (w : World) (h : IntsAt w a zs) :
    Calls Try.prog 89 #[.slice a zs.length cap, .int .i64 x] w fun e w' => e = .returned (.int .i64 i) ∧ w = w' := by
  obtain ⟨hlen, _, hcell⟩ := h
  have HR := Lib.hid hr
  have HC := Lib.hid hcell
  clear hcell hr
  go_enter Try.func89, Try.ntmps89
  go_wp2
  go_loop [8] (fun i => ∃ k : Nat, k ≤ zs.length ∧ i = .int .i64 k ∧ Hid (∀ j, j < k → nth zs j ≠ x)) (fun i => zs.length - (intOf i).toNat)
  case atStart => exact ⟨0, Nat.zero_le _, rfl, fun j hj => absurd hj (Nat.not_lt_zero _)⟩
  case round =>
    obtain ⟨k, hk, rfl, HK⟩ := hrel
    by_cases hlt : k < zs.length
    · obtain ⟨b, off, ha, hc⟩ := HC.out (by omega)
      subst ha
      have hck := hc k hlt
      clear hc
      by_cases he : x = nth zs k
      · have HE : Hid ((k : Int) = i) := by rw [← HR.out]; exact (idx_at hlt he.symm HK.out).symm
        have he' : (x == nth zs k) = true := by simp [he]
        clear he
        go_wp2
        go_ret
        exact ⟨ret_i64 HE.out, rfl⟩
      · have HE : Hid (∀ j, j < k + 1 → nth zs j ≠ x) := fun j hj => by
          by_cases hj' : j < k
          · exact HK.out j hj'
          · obtain rfl : j = k := by omega
            exact fun e => he e.symm
        have he' : (x == nth zs k) = false := by simp [he]
        clear he
        go_wp2
        go_round
        case rel => exact ⟨k + 1, by omega, by go_num, HE⟩
        case measure => simp [intOf]; omega
    · have HE : Hid (i = -1) := by rw [← HR.out]; exact idx_none fun j hj => HK.out j (by omega)
      go_wp2
      go_ret
      exact ⟨ret_i64 HE.out.symm, rfl⟩

theorem idx_has (zs : List Int) (x : Int) : decide (0 ≤ idx zs x) = hasB zs x := by
  unfold idx hasB
  by_cases h : x ∈ zs
  · rw [if_pos h]; simp [h]
  · rw [if_neg h]; simp [h]

set_option maxHeartbeats 400000 in
theorem Contains_is {a : Option Addr} {zs : List Int} {x : Int} {r : Bool} (hr : hasB zs x = r) (cap : Nat) (w : World) (h : IntsAt w a zs) :
    Calls Try.prog 142 #[.slice a zs.length cap, .int .i64 x] w fun e w' => e = .returned (.bool r) ∧ w = w' := by
  obtain ⟨i, hi⟩ : ∃ i, idx zs x = i := ⟨_, rfl⟩
  have HE : Hid (decide (0 ≤ i) = r) := by rw [← hr, ← idx_has, hi]; rfl
  have HC := Lib.hid (Index_is hi cap w h)
  clear hr hi h
  go_enter Try.func142, Try.ntmps142
  go_wp2_with (go_at_call 89; refine HC.out.mono ?_; rintro e w' ⟨rfl, rfl⟩)
  go_ret
  exact ⟨ret_bool HE.out, rfl⟩

/-- Is v a vertex of an arena of n vertices? -/
def thereB (n : Nat) (v : Int) : Bool := decide (0 ≤ v ∧ v < n)

set_option maxHeartbeats 400000 in
theorem hasVertex_is {w : World} {va : Value} {O : List Int} {zss : List (List Int)} {x : Int} {r : Bool} (hr : thereB O.length x = r) (h : ArenaAt w va O zss) :
    Calls Try.prog 49 #[va, .int .i64 x] w fun e w' => e = .returned (.bool r) ∧ Below w.heap.size w w' := by
  obtain ⟨ao, an, co, cn, A, C, rfl, h1, h2⟩ := h
  have hl := h1.len
  clear h1 h2
  unfold thereB at hr
  by_cases h0 : 0 ≤ x
  · have HE : Hid (decide (x < O.length) = r) := by rw [← hr]; simp [Hid, h0]
    clear hr
    go_enter Try.func49, Try.ntmps49
    go_wp2
    go_ret
    exact ⟨ret_bool HE.out, below2 _ _ _⟩
  · have HE : Hid (r = false) := by rw [← hr]; simp [Hid, h0]
    clear hr
    go_enter Try.func49, Try.ntmps49
    go_wp2
    go_ret
    exact ⟨ret_bool HE.out.symm, below1 _ _⟩

theorem thereB_in (n : Nat) (x : Int) : inB x 0 ((n : Int) - 1) = thereB n x := by
  unfold inB thereB
  exact decide_eq_decide.2 (by omega)

set_option maxHeartbeats 1000000 in
theorem leads_is {w : World} {va : Value} {O : List Int} {zss : List (List Int)} {v : Nat} {u : Int} {r : Bool} (hr : hasB (row zss v) u = r) (hv : v < zss.length) (h : ArenaAt w va O zss) :
    Calls Try.prog 120 #[va, .int .i64 v, .int .i64 u] w fun e w' => e = .returned (.bool r) ∧ Below w.heap.size w w' := by
  obtain ⟨ao, an, co, cn, A, C, rfl, h1, h2⟩ := h
  have hlN := h2.len
  have hv0 : (0 : Int) ≤ (v : Int) := by omega
  have hv1 : (v : Int) < zss.length := by omega
  have B1 := Lib.hid (below1 w (.cells #[.slice ao O.length co, .slice an zss.length cn] 30))
  have b1 := Box2.new w 30 (.slice ao O.length co) (.slice an zss.length cn)
  have c1 := b1.cell1
  have N1 := Lib.hid (h2.below B1.out)
  obtain ⟨b, off, ha, hc⟩ := N1.out.cell (by omega)
  subst ha
  have hck := hc v hv
  have HH := Lib.hid (Contains_is hr (C v) _ (N1.out.rows v hv))
  clear hr h1 h2 hc b1
  go_enter Try.func120, Try.ntmps120
  go_wp2_with (go_at_call 142; refine HH.out.mono ?_; rintro e w' ⟨rfl, rfl⟩)
  go_ret
  exact ⟨rfl, B1.out⟩

noncomputable def edgeB (O : List Int) (zss : List (List Int)) (v u : Int) : Bool := arenaB O zss && (thereB O.length v && hasB (row zss v.toNat) u)

theorem there_nat {n : Nat} {v : Int} (h : thereB n v = true) : ∃ k : Nat, v = k ∧ k < n := by
  simp only [thereB, decide_eq_true_eq] at h
  exact ⟨v.toNat, by omega, by omega⟩

end

section
section
open Go.RowKit

theorem OwnInts.mk' {w : World} {B : Nat} {v : Value} {zs : List Int} (h : w.ownsRow B 2 1 v zs.length (zs.map (Value.int .i64))) (hl : zs.length ≤ 17592186044416) (hf : ∀ k, k < zs.length → Fits (nth zs k)) : OwnInts w B w.heap.size v zs :=
  ⟨h, fun g hg => (h.lt g hg).2, hl, hf⟩
theorem ownsRow_base {w : World} {B B' : Nat} {e : TypeId} {size : Nat} {v : Value} {n : Nat} {xs : List Value} (h : w.ownsRow B e size v n xs) (hB : B' ≤ B) : w.ownsRow B' e size v n xs := by
  refine ⟨h.1, ?_⟩
  rcases h.2 with hn | ⟨g, cap, cur, hv, hb, r⟩
  · exact .inl hn
  · exact .inr ⟨g, cap, cur, hv, by omega, r⟩
theorem OwnInts.nil (w : World) (B D : Nat) : OwnInts w B D (.slice none 0 0) [] :=
  ⟨World.ownsRow_nil _ _ _ _, fun g hg => by simp [Value.ownBlock] at hg, by simp, fun k hk => absurd hk (by simp)⟩

/-- A call hands back a slice of its own that reads as zs, and nothing that was there has turned. -/
def GivesInts (w : World) (zs : List Int) (e : Ending) (w' : World) : Prop :=
  ∃ v, e = .returned v ∧ OwnInts w' w.heap.size w'.heap.size v zs ∧ Below w.heap.size w w'

/-- The predecessors of u among the first k vertices. -/
def predsK (zss : List (List Int)) (u : Int) : Nat → List Int
  | 0 => []
  | k + 1 => predsK zss u k ++ if hasB (row zss k) u then [(k : Int)] else []

theorem predsK_len (zss : List (List Int)) (u : Int) (k : Nat) : (predsK zss u k).length ≤ k := by
  induction k with
  | zero => simp [predsK]
  | succ k ih => simp only [predsK]; split <;> simp <;> omega

theorem predsK_mem (zss : List (List Int)) (u : Int) (k : Nat) : ∀ x ∈ predsK zss u k, 0 ≤ x ∧ x < k := by
  induction k with
  | zero => simp [predsK]
  | succ k ih =>
    intro x hx
    simp only [predsK, List.mem_append] at hx
    rcases hx with hx | hx
    · have := ih x hx; omega
    · split at hx
      · simp at hx; omega
      · simp at hx

theorem nth_mem {zs : List Int} {k : Nat} (h : k < zs.length) : nth zs k ∈ zs := by rw [nth_eq h]; exact List.getElem_mem _

theorem predsK_fits (zss : List (List Int)) (u : Int) (k : Nat) (hk : k ≤ 17592186044416) : ∀ j, j < (predsK zss u k).length → Fits (nth (predsK zss u k) j) := fun j hj => by
  have := predsK_mem zss u k _ (nth_mem hj)
  unfold Fits; omega

open Classical in
/-- The value of PredsOf. -/
noncomputable def predsL (O : List Int) (zss : List (List Int)) (u : Int) : List Int := if ArenaP O zss ∧ thereB O.length u = true then predsK zss u zss.length else []

end

section
open Go.RowKit

/-- n rows, row u is R u. -/
def rowsOf (n : Nat) (R : Nat → List Int) : List (List Int) := (List.range n).map R
theorem rowsOf_len (n : Nat) (R : Nat → List Int) : (rowsOf n R).length = n := by simp [rowsOf]
theorem rowsOf_row {n u : Nat} {R : Nat → List Int} (h : u < n) : row (rowsOf n R) u = R u := by simp [row, rowsOf, h]
theorem rowsOf_congr {n : Nat} {R R' : Nat → List Int} (h : ∀ u, u < n → R u = R' u) : rowsOf n R = rowsOf n R' := by
  unfold rowsOf; exact List.map_congr_left fun u hu => h u (List.mem_range.1 hu)

/-- n rows in memory: the outer slice lies at the head of block g. -/
structure RowSet (w : World) (B g n : Nat) (V : Nat → Value) (R : Nat → List Int) : Prop where
  own : w.ownsRow B 27 1 (.slice (some ⟨g, 0, none⟩) n n) n ((List.range n).map V)
  rows : ∀ k, k < n → OwnInts w B w.heap.size (V k) (R k)
  apart : ∀ i j, i < n → j < n → i ≠ j → ∀ b, (V i).ownBlock = some b → (V j).ownBlock ≠ some b

theorem OwnInts.retop {w : World} {B D : Nat} {v : Value} {zs : List Int} (h : OwnInts w B D v zs) : OwnInts w B w.heap.size v zs := ⟨h.own, fun g hg => (h.own.lt g hg).2, h.len, h.fits⟩

theorem RowSet.put {w w1 : World} {B g n u : Nat} {V : Nat → Value} {R : Nat → List Int} (h : RowSet w B g n V R) (hu : u < n) {v' : Value} {zs' : List Int} (h1 : OwnInts w1 B w1.heap.size v' zs') (hg : Only (fun b => (V u).ownBlock = some b) w w1)
    (hw : v'.ownBlock = (V u).ownBlock ∨ ∃ X, v'.ownBlock = some X ∧ w.heap.size ≤ X) : RowSet (w1.setCell ⟨g, u, none⟩ v') B g n (fun i => if i = u then v' else V i) (fun i => if i = u then zs' else R i) := by
  have ho := ownsRow_only h.own hg (own_types h.own (h.rows u hu).own)
  obtain ⟨hs, hgr⟩ := ho.stored u v'
  have hS : Only (fun b => b = g) w1 (w1.setCell ⟨g, u, none⟩ v') := Only.setCell (S := fun b => b = g) (Only.refl _ _) (p := ⟨g, u, none⟩) rfl v'
  refine ⟨?_, fun k hk => ?_, fun i j hi hj hne b hb hb' => ?_⟩
  · have e : ((List.range n).map V).set u v' = (List.range n).map (fun i => if i = u then v' else V i) := by
      apply List.ext_getElem?
      intro i
      by_cases hi : i < n
      · by_cases e : i = u
        · subst e; simp [hi]
        · simp [hi, e, Ne.symm e]
      · simp [hi]
    rw [← e]; exact hs
  · by_cases e : k = u
    · subst e
      simp only [if_true]
      exact (h1.only hS (fun b hb e => own_types ho h1.own b (by simp [Value.ownBlock, e]) hb)).retop
    · simp only [if_neg e]
      have hr := (h.rows k hk).only hg (h.apart k u hk hu e)
      exact (hr.only hS (fun b hb e => own_types ho hr.own b (by simp [Value.ownBlock, e]) hb)).retop
  · have hlt : ∀ k, k < n → ∀ b, (V k).ownBlock = some b → b < w.heap.size := fun k hk b hb => ((h.rows k hk).own.lt b hb).2
    by_cases e : i = u
    · subst e
      simp only [if_true] at hb
      simp only [if_neg (Ne.symm hne)] at hb'
      rcases hw with hw | ⟨X, hX, hge⟩
      · rw [hw] at hb; exact h.apart i j hi hj hne b hb hb'
      · rw [hX] at hb; have := hlt j hj b hb'; simp at hb; omega
    · simp only [if_neg e] at hb
      by_cases e' : j = u
      · subst e'
        simp only [if_true] at hb'
        rcases hw with hw | ⟨X, hX, hge⟩
        · rw [hw] at hb'; exact h.apart i j hi hj hne b hb hb'
        · rw [hX] at hb'; have := hlt i hi b hb; simp at hb'; omega
      · simp only [if_neg e'] at hb'
        exact h.apart i j hi hj hne b hb hb'

theorem RowSet.congr {w : World} {B g n : Nat} {V : Nat → Value} {R R' : Nat → List Int} (h : RowSet w B g n V R) (e : ∀ u, u < n → R u = R' u) : RowSet w B g n V R' :=
  ⟨h.own, fun k hk => by rw [← e k hk]; exact h.rows k hk, h.apart⟩
theorem RowSet.below {w w' : World} {B g n : Nat} {V : Nat → Value} {R : Nat → List Int} (h : RowSet w B g n V R) (hb : Below w.heap.size w w') : RowSet w' B g n V R :=
  ⟨ownsRow_only h.own (S := fun _ => False) (Only.of_below hb) (fun _ _ h => h), fun k hk => ((h.rows k hk).below hb).retop, h.apart⟩
theorem RowSet.start (w : World) {B g : Nat} (hg : g = w.heap.size) (hB : B ≤ w.heap.size) (n : Nat) (hn : n ≤ maxLen) : RowSet (w.alloc (.cells (madeCells #[.slice none 0 0] n) 27)) B g n (fun _ => .slice none 0 0) (fun _ => []) := by
  subst hg
  exact ⟨ownsRow_of_rowIs (World.rowIs_made w (.slice none 0 0) n 27) hB hn, fun k _ => OwnInts.nil _ _ _, fun i j _ _ _ b hb => by simp [Value.ownBlock] at hb⟩
theorem RowSet.shape {w : World} {B g n u : Nat} {V : Nat → Value} {R : Nat → List Int} (h : RowSet w B g n V R) (hu : u < n) : V u = .slice (addrOf (V u)) (R u).length (capOf (V u)) ∧ w.cell? ⟨g, u, none⟩ = some (.slice (addrOf (V u)) (R u).length (capOf (V u))) ∧ w.frozen? ⟨g, u, none⟩ = false := by
  obtain ⟨a, cap, hv, _, _⟩ := (h.rows u hu).shape
  have e : V u = .slice (addrOf (V u)) (R u).length (capOf (V u)) := by rw [hv]; rfl
  refine ⟨e, ?_, h.own.frozenAt u⟩
  rw [h.own.cellAt u (by omega), ← e]
  simp [hu]

/-- A valid row's numbers rise and are vertices. -/
theorem setFrom_bounds (n : Int) : ∀ (zs : List Int) (l : Int), setFrom n l zs = true → ∀ k, k < zs.length → l < nth zs k ∧ nth zs k < n ∧ ∀ j, j < k → nth zs j < nth zs k
  | [], _, _, k, hk => absurd hk (by simp)
  | z :: r, l, h, k, hk => by
    simp only [setFrom, Bool.and_eq_true, decide_eq_true_eq] at h
    have ih := setFrom_bounds n r z h.2
    cases k with
    | zero => exact ⟨by simpa [nth] using h.1.1, by simpa [nth] using h.1.2, fun j hj => absurd hj (Nat.not_lt_zero _)⟩
    | succ k =>
      have hk' : k < r.length := by simpa using hk
      have := ih k hk'
      have e : nth (z :: r) (k + 1) = nth r k := by simp [nth]
      rw [e]
      refine ⟨by omega, this.2.1, fun j hj => ?_⟩
      cases j with
      | zero => have : nth (z :: r) 0 = z := by simp [nth]
                omega
      | succ j => have e' : nth (z :: r) (j + 1) = nth r j := by simp [nth]
                  rw [e']; exact this.2.2 j (by omega)

theorem setB_bounds {n : Int} {zs : List Int} (h : setB n zs = true) {k : Nat} (hk : k < zs.length) : 0 ≤ nth zs k ∧ nth zs k < n ∧ ∀ j, j < k → nth zs j < nth zs k := by
  have := setFrom_bounds n zs (-1) h k hk
  exact ⟨by omega, this.2.1, this.2.2⟩

/-- Row u when v vertices and i successors of v are through. -/
def partP (zss : List (List Int)) (v i u : Nat) : List Int := predsK zss u v ++ if ∃ j, j < i ∧ nth (row zss v) j = (u : Int) then [(v : Int)] else []

theorem partP_zero (zss : List (List Int)) (v u : Nat) : partP zss v 0 u = predsK zss u v := by simp [partP]
theorem partP_full (zss : List (List Int)) (v u : Nat) : partP zss v (row zss v).length u = predsK zss u (v + 1) := by
  simp only [partP, predsK]
  congr 1
  by_cases h : hasB (row zss v) u = true
  · rw [if_pos h, if_pos (mem_nth.1 (hasB_iff.1 h))]
  · rw [if_neg h, if_neg (fun hh => h (hasB_iff.2 (mem_nth.2 hh)))]
theorem partP_hit {zss : List (List Int)} {v i u : Nat} (hi : nth (row zss v) i = (u : Int)) (hj : ∀ j, j < i → nth (row zss v) j < nth (row zss v) i) : partP zss v (i + 1) u = partP zss v i u ++ [(v : Int)] ∧ partP zss v i u = predsK zss u v := by
  have h1 : ¬ ∃ j, j < i ∧ nth (row zss v) j = (u : Int) := fun ⟨j, h, e⟩ => by have := hj j h; omega
  have h2 : ∃ j, j < i + 1 ∧ nth (row zss v) j = (u : Int) := ⟨i, by omega, hi⟩
  simp only [partP]
  rw [if_neg h1, if_pos h2]
  simp
theorem partP_miss {zss : List (List Int)} {v i u u' : Nat} (hi : nth (row zss v) i = (u : Int)) (hne : u' ≠ u) : partP zss v (i + 1) u' = partP zss v i u' := by
  simp only [partP]
  congr 1
  by_cases h : ∃ j, j < i ∧ nth (row zss v) j = (u' : Int)
  · obtain ⟨j, h1, h2⟩ := h
    rw [if_pos ⟨j, by omega, h2⟩, if_pos ⟨j, h1, h2⟩]
  · rw [if_neg (c := ∃ j, j < i ∧ nth (row zss v) j = (u' : Int)) h, if_neg]
    rintro ⟨j, h1, h2⟩
    by_cases e : j = i
    · subst e; omega
    · exact h ⟨j, by omega, h2⟩

/-- What preds leaves. -/
def GivesRows (w : World) (n : Nat) (R : Nat → List Int) (e : Ending) (w' : World) : Prop :=
  ∃ g V, e = .returned (.slice (some ⟨g, 0, none⟩) n n) ∧ RowSet w' w.heap.size g n V R ∧ Below w.heap.size w w'

set_option maxHeartbeats 400000 in
theorem size_is (ao an : Option Addr) (n m co cn : Nat) (w : World) (_hn : n ≤ 17592186044416) :
    Calls Try.prog 61 #[.agg #[.slice ao n co, .slice an m cn]] w fun e w' => e = .returned (.int .i64 n) ∧ w.alloc (.cells #[.slice ao n co, .slice an m cn] 30) = w' := by
  go_enter Try.func61, Try.ntmps61
  go_wp2
  go_ret
  exact ⟨rfl, rfl⟩

end
end

section
open Go.RowKit

theorem wpList_append_nil {P : Program} {w : World} {ops : Array Oper} {rest : List Oper} {o : Oper} {a : Act} {Q : Exit → Act → World → Prop} (hgd : o.guard = none) (s x : Operand) (t : TypeId)
    (ho : o.op = .call { callee := .builtin .append, args := #[s, x], argTypes := #[t, t] })
    (base : Nat) (e : TypeId) (i : TypeInfo) (size : Nat) (ht : P.underlying t = some (.slice e)) (hi : P.info? e = some i)
    (v : Value) (n : Nat) (xs : List Value) (hs : a.eval s = v) (hown : w.ownsRow base e size v n xs) (c : Nat) (hx : a.eval x = .slice none 0 c)
    (h : wpList P ops Q rest (a.put o.dst v) w) : wpList P ops Q (o :: rest) a w := by
  refine wpList_plain hgd fun K hK => ?_
  have hrun : (Builtin.append_ #[t, t] o.type #[v, .slice none 0 c]).run P w = .ok v w := by
    rcases hown.2 with ⟨rfl, rfl⟩ | ⟨g, cap, cur, rfl, _, _, hnc, _⟩
    · simp [Builtin.append_, run_underlying ht, sizeOf, typeInfo, hi, Builtin.lenOf, Builtin.firstCells]
    · simp [Builtin.append_, run_underlying ht, sizeOf, typeInfo, hi, Builtin.lenOf, Builtin.firstCells, hnc, storeCells]
  unfold Oper.wp
  simp [execOp, ho, resolve, invoke, builtin, hs, hx, hrun, Result.andThen]
  exact hK _ _ h

theorem news_of {w : World} {ad : Addr} {zs : List Int} (h : IntsAt w (some ad) zs) : ∀ j u, (zs.map (Value.int .i64))[j]? = some u → w.cell? (ad.add j) = some u := by
  intro j u hu
  have hj : j < zs.length := by
    rcases Nat.lt_or_ge j zs.length with h | h
    · exact h
    · simp [h] at hu
  obtain ⟨b, off, ha, hc⟩ := h.cell (by omega)
  cases ha
  rw [Go.WideShapes.add_plain, hc j hj]
  simp [hj] at hu
  rw [← hu, nth_eq hj]

theorem one_of (zs : List Int) : ∀ u ∈ zs.map (Value.int .i64), u.oneCell' = true := by
  intro u hu
  obtain ⟨z, _, rfl⟩ := List.mem_map.1 hu
  rfl

set_option maxHeartbeats 1000000 in
theorem l1Copy_is {w : World} {a : Option Addr} {zs : List Int} (cap : Nat) (h : IntsAt w a zs) :
    Calls Try.prog 68 #[.slice a zs.length cap] w (GivesInts w zs) := by
  obtain ⟨i0, hi, hz0, hz1, hz2⟩ := info_parts info_int
  have hlen := h.len
  have HF := Lib.hid h.fits
  have oW : Hid ((w.alloc (.cells #[] 2)).ownsRow w.heap.size 2 1 (.slice (some ⟨w.heap.size, 0, none⟩) 0 0) 0 []) := World.ownsRow_made w #[] 0 (Nat.le_refl _) (by unfold maxLen; omega) rfl
  have hI := Lib.hid (h.alloc (.cells #[] 2))
  clear h
  cases a with
  | none =>
    have hz : zs = [] := List.length_eq_zero_iff.1 (by
      rcases Nat.eq_zero_or_pos zs.length with h | h
      · exact h
      · obtain ⟨b, off, ha, _⟩ := hI.out.cell h; cases ha)
    subst hz
    go_enter Try.func68, Try.ntmps68
    go_wp2_with (at_builtin; refine wpList_append_nil rfl _ _ 27 rfl w.heap.size 2 i0 1 Try.underlying27 hi _ _ _ rfl oW.out _ rfl ?_)
    go_ret
    exact ⟨_, rfl, OwnInts.mk' oW.out (by simp) (fun k hk => absurd hk (by simp)), below1 _ _⟩
  | some ad =>
    go_enter Try.func68, Try.ntmps68
    go_wp2_with (at_builtin; refine wpList_append_own _ rfl _ _ 27 rfl w.heap.size 2 i0 (.int .i64 0) 1 8 Try.underlying27 hi hz0 hz1 hz2 rfl (by decide) _ _ _ rfl oW.out ad zs.length cap (zs.map (Value.int .i64)) rfl (by simp) (news_of hI.out) (one_of zs) ?c3 ?c4 ?c5 ?_)
    case c3 => unfold maxLen; omega
    case c4 => omega
    case c5 => simp
    · intro v' w1 hown hgrow _
      have hfin : Hid (OwnInts w1 w.heap.size w1.heap.size v' zs ∧ Below w.heap.size w w1) := by
        exact ⟨OwnInts.mk' (by simpa using hown) hlen HF.out, (below1 w _).grown hgrow (by simp) (fun k hk => by simp [Value.ownBlock] at hk; omega)⟩
      clear hown hgrow
      go_wp2
      go_ret
      exact ⟨_, rfl, hfin.out⟩

set_option maxHeartbeats 1000000 in
set_option maxRecDepth 10000 in
theorem Clone_is {w : World} {a : Option Addr} {zs : List Int} (cap : Nat) (h : IntsAt w a zs) :
    Calls Try.prog 110 #[.slice a zs.length cap] w (GivesInts w zs) := by
  obtain ⟨i0, hi, hz0, hz1, hz2⟩ := info_parts info_int
  have hlen := h.len
  have HF := Lib.hid h.fits
  have oW : Hid ((w.alloc (.cells #[] 2)).ownsRow w.heap.size 2 1 (.slice (some ⟨w.heap.size, 0, none⟩) 0 0) 0 []) := World.ownsRow_made w #[] 0 (Nat.le_refl _) (by unfold maxLen; omega) rfl
  have hI := Lib.hid (h.alloc (.cells #[] 2))
  clear h
  cases a with
  | none =>
    have hz : zs = [] := List.length_eq_zero_iff.1 (by
      rcases Nat.eq_zero_or_pos zs.length with h | h
      · exact h
      · obtain ⟨b, off, ha, _⟩ := hI.out.cell h; cases ha)
    subst hz
    have hq : ∀ wx, (binOp .eql 27 (.slice none 0 cap) (.slice none 0 0)).run Try.prog wx = .ok (.bool true) wx := fun wx => Lib.run_eql_slice_nil wx 27 2 none 0 cap 0 0 Try.underlying27
    go_enter Try.func110, Try.ntmps110
    go_wp2
    go_ret
    exact ⟨_, rfl, OwnInts.nil _ _ _, Below.refl _ _⟩
  | some ad =>
    have hq : ∀ wx, (binOp .eql 27 (.slice (some ad) zs.length cap) (.slice none 0 0)).run Try.prog wx = .ok (.bool false) wx := fun wx => Lib.run_eql_slice_nil wx 27 2 (some ad) zs.length cap 0 0 Try.underlying27
    go_enter Try.func110, Try.ntmps110
    go_wp2_with (at_builtin; refine wpList_append_own _ rfl _ _ 27 rfl w.heap.size 2 i0 (.int .i64 0) 1 8 Try.underlying27 hi hz0 hz1 hz2 rfl (by decide) _ _ _ rfl oW.out ad zs.length cap (zs.map (Value.int .i64)) rfl (by simp) (news_of hI.out) (one_of zs) ?c3 ?c4 ?c5 ?_)
    case c3 => unfold maxLen; omega
    case c4 => omega
    case c5 => simp
    · intro v' w1 hown hgrow _
      have hfin : Hid (OwnInts w1 w.heap.size w1.heap.size v' zs ∧ Below w.heap.size w w1) := by
        exact ⟨OwnInts.mk' (by simpa using hown) hlen HF.out, (below1 w _).grown hgrow (by simp) (fun k hk => by simp [Value.ownBlock] at hk; omega)⟩
      clear hown hgrow
      go_wp2
      go_ret
      exact ⟨_, rfl, hfin.out⟩
end

section
open Go.RowKit

/-- What is left of 'left' behind n: -1 if there is not enough. -/
def leftOf (left : Int) (n : Nat) : Int := if left < n then -1 else left - n

theorem leftOf_no {left : Int} {n : Nat} (h : left < n) : leftOf left n = -1 := by simp [leftOf, h]
theorem leftOf_yes {left : Int} {n : Nat} (h : (n : Int) ≤ left) : leftOf left n = left - n := by unfold leftOf; rw [if_neg (by omega)]

/-- How many numbers the first k rows hold. -/
def sumLen (zss : List (List Int)) : Nat → Nat
  | 0 => 0
  | k + 1 => sumLen zss k + (row zss k).length

theorem sumLen_mono (zss : List (List Int)) {j k : Nat} (h : j ≤ k) : sumLen zss j ≤ sumLen zss k := by
  induction k with
  | zero => obtain rfl : j = 0 := by omega
            exact Nat.le_refl _
  | succ k ih =>
    by_cases e : j = k + 1
    · subst e; exact Nat.le_refl _
    · have := ih (by omega); simp only [sumLen]; omega


set_option maxHeartbeats 400000 in
theorem szInt64S_any (a : Option Addr) (n : Nat) (cap : Nat) (left : Int) (w : World) (_hn : n ≤ 17592186044416) (_h0 : -1048576 ≤ left) (_h1 : left ≤ 1048576) :
    Calls Try.prog 43 #[.slice a n cap, .int .i64 left] w fun e w' => e = .returned (.int .i64 (leftOf left n)) ∧ w = w' := by
  by_cases h : left < n
  · have HE := Lib.hid (leftOf_no h)
    go_enter Try.func43, Try.ntmps43
    go_wp2
    go_ret
    exact ⟨ret_i64 HE.out.symm, rfl⟩
  · have HE := Lib.hid (leftOf_yes (left := left) (n := n) (by omega))
    go_enter Try.func43, Try.ntmps43
    go_wp2
    go_ret
    exact ⟨ret_i64 HE.out.symm, rfl⟩

theorem szInt64S_no {a : Option Addr} {n : Nat} {left : Int} (h : left < n) (cap : Nat) (w : World) (hn : n ≤ 17592186044416) (h0 : -1048576 ≤ left) (h1 : left ≤ 1048576) :
    Calls Try.prog 43 #[.slice a n cap, .int .i64 left] w fun e w' => e = .returned (.int .i64 (-1)) ∧ w = w' := by
  have := szInt64S_any a n cap left w hn h0 h1
  rw [leftOf_no h] at this; exact this

theorem szInt64S_yes {a : Option Addr} {n : Nat} {left : Int} (h : (n : Int) ≤ left) (cap : Nat) (w : World) (hn : n ≤ 17592186044416) (h0 : -1048576 ≤ left) (h1 : left ≤ 1048576) :
    Calls Try.prog 43 #[.slice a n cap, .int .i64 left] w fun e w' => e = .returned (.int .i64 (left - n)) ∧ w = w' := by
  have := szInt64S_any a n cap left w hn h0 h1
  rw [leftOf_yes h] at this; exact this

set_option maxHeartbeats 1000000 in
theorem szInt64SS_any (a : Option Addr) (A : Nat → Option Addr) (C : Nat → Nat) (zss : List (List Int)) (cap : Nat) (left : Int) (w : World) (h : RowsAt w a A C zss) (_h0 : 0 ≤ left) (_h1 : left ≤ 1048576) :
    Calls Try.prog 74 #[.slice a zss.length cap, .int .i64 left] w fun e w' => e = .returned (.int .i64 (leftOf left (zss.length + sumLen zss zss.length))) ∧ w = w' := by
  have hlen := h.len
  have HR := Lib.hid h
  clear h
  by_cases hlt : left < zss.length
  · have HE := Lib.hid (leftOf_no (left := left) (n := zss.length + sumLen zss zss.length) (by omega))
    go_enter Try.func74, Try.ntmps74
    go_wp2
    go_ret
    exact ⟨ret_i64 HE.out.symm, rfl⟩
  · go_enter Try.func74, Try.ntmps74
    go_wp2
    go_loop [1, 5] (fun l i => ∃ (k : Nat) (x : Int), k ≤ zss.length ∧ i = .int .i64 k ∧ l = .int .i64 x ∧ 0 ≤ x ∧ x ≤ 1048576 ∧ Hid (x = left - zss.length - sumLen zss k)) (fun _ i => zss.length - (intOf i).toNat)
    case atStart => exact ⟨0, _, Nat.zero_le _, rfl, rfl, by omega, by omega, by simp [Hid, sumLen]⟩
    case round =>
      obtain ⟨k, x, hk, rfl, rfl, hx0, hx1, HX⟩ := hrel
      by_cases hkl : k < zss.length
      · obtain ⟨b, off, ha, hc⟩ := HR.out.cell (by omega)
        subst ha
        have hck := hc k hkl
        clear hc
        have hrl := (HR.out.rows k hkl).len
        by_cases hfit : ((row zss k).length : Int) ≤ x
        · have HC := Lib.hid (szInt64S_yes (a := A k) hfit (C k) w hrl (by omega) (by omega))
          have HX' : Hid (x - (row zss k).length = left - zss.length - sumLen zss (k + 1)) := by have := HX.out; simp only [Hid, sumLen]; omega
          go_wp2_with (go_at_call 43; refine HC.out.mono ?_; rintro e w' ⟨rfl, rfl⟩)
          go_round
          case rel => exact ⟨k + 1, _, by omega, by go_num, rfl, by omega, by omega, HX'⟩
          case measure => simp [intOf]; omega
        · have HC := Lib.hid (szInt64S_no (a := A k) (left := x) (n := (row zss k).length) (by omega) (C k) w hrl (by omega) (by omega))
          have HE : Hid (leftOf left (zss.length + sumLen zss zss.length) = -1) := leftOf_no (by
            have h1 := sumLen_mono zss (show k + 1 ≤ zss.length by omega)
            have h2 := HX.out
            simp only [sumLen] at h1
            omega)
          go_wp2_with (go_at_call 43; refine HC.out.mono ?_; rintro e w' ⟨rfl, rfl⟩)
          go_ret
          exact ⟨ret_i64 HE.out.symm, rfl⟩
      · have HE : Hid (x = leftOf left (zss.length + sumLen zss zss.length)) := by
          have h2 := HX.out
          obtain rfl : k = zss.length := by omega
          rw [leftOf_yes (by omega)]; simp only [Hid]; omega
        go_wp2
        go_ret
        exact ⟨ret_i64 HE.out, rfl⟩

theorem szInt64SS_no {a : Option Addr} {A : Nat → Option Addr} {C : Nat → Nat} {zss : List (List Int)} {left : Int} (hlt : left < ((zss.length + sumLen zss zss.length : Nat) : Int)) (cap : Nat) (w : World) (h : RowsAt w a A C zss) (h0 : 0 ≤ left) (h1 : left ≤ 1048576) :
    Calls Try.prog 74 #[.slice a zss.length cap, .int .i64 left] w fun e w' => e = .returned (.int .i64 (-1)) ∧ w = w' := by
  have := szInt64SS_any a A C zss cap left w h h0 h1
  rw [leftOf_no hlt] at this; exact this

theorem szInt64SS_yes {a : Option Addr} {A : Nat → Option Addr} {C : Nat → Nat} {zss : List (List Int)} {left : Int} (hle : ((zss.length + sumLen zss zss.length : Nat) : Int) ≤ left) (cap : Nat) (w : World) (h : RowsAt w a A C zss) (h0 : 0 ≤ left) (h1 : left ≤ 1048576) :
    Calls Try.prog 74 #[.slice a zss.length cap, .int .i64 left] w fun e w' => e = .returned (.int .i64 (left - (zss.length + sumLen zss zss.length : Nat))) ∧ w = w' := by
  have := szInt64SS_any a A C zss cap left w h h0 h1
  rw [leftOf_yes hle] at this; exact this

/-- How many places an arena takes. -/
def sizeArena (O : List Int) (zss : List (List Int)) : Nat := O.length + (zss.length + sumLen zss zss.length)

set_option maxHeartbeats 1000000 in
theorem szArena_any (ao an : Option Addr) (O : List Int) (zss : List (List Int)) (co cn : Nat) (A : Nat → Option Addr) (C : Nat → Nat) (left : Int) (w : World) (hO : IntsAt w ao O) (hN : RowsAt w an A C zss) (_h0 : 0 ≤ left) (_h1 : left ≤ 1048576) :
    Calls Try.prog 42 #[.agg #[.slice ao O.length co, .slice an zss.length cn], .int .i64 left] w fun e w' => e = .returned (.int .i64 (leftOf left (sizeArena O zss))) ∧ Below w.heap.size w w' := by
  have hlO := hO.len
  have HN := Lib.hid hN
  clear hO hN
  by_cases h1 : left < O.length
  · have HC := Lib.hid (szInt64S_no (a := ao) h1 co (w.alloc (.cells #[.slice ao O.length co, .slice an zss.length cn] 40)) hlO (by omega) (by omega))
    have HE : Hid (leftOf left (sizeArena O zss) = -1) := leftOf_no (by unfold sizeArena; omega)
    go_enter Try.func42, Try.ntmps42
    go_wp2_with (go_at_call 43; refine HC.out.mono ?_; rintro e w' ⟨rfl, rfl⟩)
    go_ret
    exact ⟨ret_i64 HE.out.symm, below1 _ _⟩
  · have HC := Lib.hid (szInt64S_yes (a := ao) (left := left) (n := O.length) (by omega) co (w.alloc (.cells #[.slice ao O.length co, .slice an zss.length cn] 40)) hlO (by omega) (by omega))
    have hx0 : 0 ≤ left - O.length := by omega
    have hx1 : left - O.length ≤ 1048576 := by omega
    by_cases h2 : left - O.length < ((zss.length + sumLen zss zss.length : Nat) : Int)
    · have HC' := Lib.hid (szInt64SS_no h2 cn (w.alloc (.cells #[.slice ao O.length co, .slice an zss.length cn] 40)) (HN.out.alloc _) hx0 hx1)
      have HE : Hid (leftOf left (sizeArena O zss) = -1) := leftOf_no (by unfold sizeArena; omega)
      clear h2
      go_enter Try.func42, Try.ntmps42
      go_wp2_with (first | (go_at_call 43; refine HC.out.mono ?_; rintro e w' ⟨rfl, rfl⟩) | (go_at_call 74; refine HC'.out.mono ?_; rintro e w' ⟨rfl, rfl⟩))
      go_ret
      exact ⟨ret_i64 HE.out.symm, below1 _ _⟩
    · have HC' := Lib.hid (szInt64SS_yes (left := left - O.length) (zss := zss) (by omega) cn (w.alloc (.cells #[.slice ao O.length co, .slice an zss.length cn] 40)) (HN.out.alloc _) hx0 hx1)
      have HE : Hid (left - O.length - ((zss.length + sumLen zss zss.length : Nat) : Int) = leftOf left (sizeArena O zss)) := by
        rw [leftOf_yes (by unfold sizeArena; omega)]; unfold sizeArena Hid; omega
      obtain ⟨m, hm⟩ : ∃ m, m = left - O.length - ((zss.length + sumLen zss zss.length : Nat) : Int) := ⟨_, rfl⟩
      have hm0 : 0 ≤ m := by omega
      rw [← hm] at HC' HE
      clear h2 hm
      go_enter Try.func42, Try.ntmps42
      go_wp2_with (first | (go_at_call 43; refine HC.out.mono ?_; rintro e w' ⟨rfl, rfl⟩) | (go_at_call 74; refine HC'.out.mono ?_; rintro e w' ⟨rfl, rfl⟩))
      go_ret
      exact ⟨ret_i64 HE.out, below1 _ _⟩

theorem szArena_at {w : World} {v : Value} {O : List Int} {zss : List (List Int)} {left r : Int} (hr : leftOf left (sizeArena O zss) = r) (h : ArenaAt w v O zss) (h0 : 0 ≤ left) (h1 : left ≤ 1048576) :
    Calls Try.prog 42 #[v, .int .i64 left] w fun e w' => e = .returned (.int .i64 r) ∧ Below w.heap.size w w' := by
  obtain ⟨ao, an, co, cn, A, C, rfl, h2, h3⟩ := h
  subst hr
  exact szArena_any ao an O zss co cn A C left w h2 h3 h0 h1

theorem sizeArena_rows {O : List Int} {zss : List (List Int)} {m : Int} (h : (sizeArena O zss : Int) ≤ m) : (zss.length : Int) ≤ m := by unfold sizeArena at h; omega
end

section
open Go.RowKit

theorem ArenaCopy.owned {w w' w0 : World} {v : Value} {O : List Int} {zss : List (List Int)} (h : ArenaCopy w w' O zss) (hA : ArenaAt w0 v O zss) :
    OwnArena w' w.heap.size w'.heap.size (.agg #[.slice (some ⟨w.heap.size + 3, 0, none⟩) O.length O.length, .slice (some ⟨w.heap.size + 4, 0, none⟩) zss.length zss.length]) O zss := by
  obtain ⟨ao, an, co, cn, A, C, _, hO, hN⟩ := hA
  have hs := h.size
  refine ⟨_, _, outer (w.heap.size + 4) zss zss.length, rfl, OwnInts.of_rowIs h.owner (by omega) (by omega) hO.len hO.fits, ⟨ownsRow_of_rowIs h.top (by omega) (by have := hN.len; unfold maxLen; omega), fun g hg => by simp [Value.ownBlock] at hg; omega, hN.len, fun k hk => ?_, fun i j hi hj hne g hg hg' => ?_⟩, fun k hk g hg hg' => ?_⟩
  · have e : outer (w.heap.size + 4) zss zss.length k = .slice (some ⟨w.heap.size + 4 + 1 + k, 0, none⟩) (row zss k).length (row zss k).length := by simp only [outer]; rw [if_pos hk]
    rw [e]
    exact OwnInts.of_rowIs (h.done k hk) (by omega) (by omega) (hN.rows k hk).len (hN.rows k hk).fits
  · simp only [outer] at hg hg'
    rw [if_pos hi] at hg
    rw [if_pos hj] at hg'
    simp [Value.ownBlock] at hg hg'
    omega
  · simp only [outer] at hg
    rw [if_pos hk] at hg
    simp [Value.ownBlock] at hg hg'
    omega

/-- n marks from k on. -/
def marks (k : Int) (n : Nat) : List Int := (List.range n).map fun i : Nat => k + (i : Int)
theorem marks_len (k : Int) (n : Nat) : (marks k n).length = n := by simp [marks]
theorem marks_nth {k : Int} {n i : Nat} (h : i < n) : nth (marks k n) i = k + i := by simp [nth, marks, h]

theorem list_ext {xs ys : List Int} (hl : xs.length = ys.length) (h : ∀ i, i < xs.length → nth xs i = nth ys i) : xs = ys := by
  apply List.ext_getElem hl
  intro i h1 h2
  have := h i h1
  rwa [nth_eq h1, nth_eq h2] at this

theorem nth_set {zs : List Int} {j i : Nat} {x : Int} (hj : j < zs.length) : nth (zs.set j x) i = if i = j then x else nth zs i := by
  unfold nth
  simp only [List.getD, List.getElem?_set]
  by_cases e : j = i
  · subst e; simp [hj]
  · rw [if_neg e, if_neg (fun h => e h.symm)]

theorem OwnInts.store {w : World} {B D g n cap : Nat} {zs : List Int} (h : OwnInts w B D (.slice (some ⟨g, 0, none⟩) n cap) zs) (hn : n = zs.length) {j : Nat} (_hj : j < zs.length) {x : Int} (hx : Fits x) :
    OwnInts (w.setCell ⟨g, j, none⟩ (.int .i64 x)) B D (.slice (some ⟨g, 0, none⟩) n cap) (zs.set j x) := by
  subst hn
  have ho := h.own
  obtain ⟨h1, _⟩ := ho.stored j (.int .i64 x)
  refine ⟨?_, h.top, by simpa using h.len, fun k hk => ?_⟩
  · rw [← List.map_set] at h1
    simpa using h1
  · rw [nth_set _hj]
    split
    · exact hx
    · exact h.fits k (by simpa using hk)

set_option maxHeartbeats 1000000 in
theorem markInt64S_is {w : World} {B D : Nat} {v : Value} {zs : List Int} (h : OwnInts w B D v zs) (k : Int) (_h0 : 0 ≤ k) (_h1 : k ≤ 1152921504606846976) :
    Calls Try.prog 27 #[v, .int .i64 k] w fun e w' => e = .returned (.int .i64 (k + zs.length)) ∧ OwnInts w' B D v (marks k zs.length) ∧ Only (fun b => v.ownBlock = some b) w w' := by
  obtain ⟨a, cap, hv, hI, hg⟩ := h.shape
  have hlen := h.len
  have HG := Lib.hid hg
  have HH : Hid (∃ zs', zs'.length = zs.length ∧ OwnInts w B D v zs' ∧ ∀ i, i < 0 → nth zs' i = k + i) := ⟨zs, rfl, h, fun i hi => absurd hi (Nat.not_lt_zero _)⟩
  have HV := Lib.hid hv
  clear h hI hg
  rw [hv]
  rw [hv] at HH HG
  have HO : Hid (Only (fun b => (Value.slice a zs.length cap).ownBlock = some b) w w) := Only.refl _ _
  clear hv
  go_enter Try.func27, Try.ntmps27
  go_wp2
  go_loopw [1, 5] (fun x i wr => ∃ j : Nat, j ≤ zs.length ∧ i = .int .i64 j ∧ x = .int .i64 (k + j) ∧ Hid (∃ zs', zs'.length = zs.length ∧ OwnInts wr B D (.slice a zs.length cap) zs' ∧ ∀ i, i < j → nth zs' i = k + i) ∧ Hid (Only (fun b => (Value.slice a zs.length cap).ownBlock = some b) w wr))
    (fun _ i _ => zs.length - (intOf i).toNat)
  case atStart => exact ⟨0, Nat.zero_le _, rfl, by simp, HH, HO⟩
  case round =>
    clear HH HO
    obtain ⟨j, hj, rfl, rfl, HH, HO⟩ := hrel
    by_cases hlt : j < zs.length
    · obtain ⟨g, ha, hgB, hgD, hgo, hfr⟩ := HG.out (by omega)
      subst ha
      have hHn : Hid (∃ zs', zs'.length = zs.length ∧ OwnInts (wr.setCell ⟨g, j, none⟩ (.int .i64 (k + j))) B D (.slice (some ⟨g, 0, none⟩) zs.length cap) zs' ∧ ∀ i, i < j + 1 → nth zs' i = k + i) := by
        obtain ⟨zs', hl, ho, hm⟩ := HH.out
        refine ⟨zs'.set j (k + j), by simpa using hl, ho.store hl.symm (by omega) (by unfold Fits; omega), fun i hi => ?_⟩
        rw [nth_set (by omega)]
        by_cases e : i = j
        · subst e; simp
        · rw [if_neg e]; exact hm i (by omega)
      have hOn : Hid (Only (fun b => (Value.slice (some ⟨g, 0, none⟩) zs.length cap).ownBlock = some b) w (wr.setCell ⟨g, j, none⟩ (.int .i64 (k + j)))) := HO.out.setCell (by simp [Value.ownBlock]) _
      obtain ⟨c, hc⟩ : ∃ c, wr.cell? ⟨g, j, none⟩ = some c := by
        obtain ⟨zs', hl, ho, hm⟩ := HH.out
        have ho' := ho.own
        rw [hl] at ho'
        exact ⟨_, (ho'.cellAt j (by omega)).trans (by simp [hl, hlt]; rfl)⟩
      have hf : wr.frozen? ⟨g, j, none⟩ = false := by
        obtain ⟨zs', hl, ho, hm⟩ := HH.out
        have ho' := ho.own
        rw [hl] at ho'
        exact ho'.frozenAt j
      clear hgo hfr
      go_wp2
      go_roundw
      case rel => exact ⟨j + 1, by omega, by go_num, by go_num, hHn, hOn⟩
      case measure => simp [intOf]; omega
    · have hjj : j = zs.length := by omega
      have HE : Hid (OwnInts wr B D (.slice a zs.length cap) (marks k zs.length)) := by
        obtain ⟨zs', hl, ho, hm⟩ := HH.out
        have : zs' = marks k zs.length := list_ext (by rw [hl, marks_len]) fun i hi => by rw [hm i (by omega), marks_nth (by omega)]
        rw [← this]; exact ho
      have HX : Hid (k + (j : Int) = k + (zs.length : Int)) := by rw [hjj]; rfl
      clear hjj
      go_wp2
      go_ret
      exact ⟨ret_i64 HX.out, HE.out, HO.out⟩

set_option maxHeartbeats 400000 in
theorem heldInt64S_is {w : World} {a : Option Addr} {zs : List Int} (k : Int) (cap : Nat) (h : IntsAt w a (marks k zs.length)) (_h0 : 0 ≤ k) (_h1 : k ≤ 1152921504606846976) :
    Calls Try.prog 57 #[.slice a zs.length cap, .int .i64 k] w fun e w' => e = .returned (.int .i64 (k + zs.length)) ∧ w = w' := by
  have hlen := h.len
  rw [marks_len] at hlen
  have HC := Lib.hid h.cell
  clear h
  go_enter Try.func57, Try.ntmps57
  go_wp2
  go_loop [1, 5] (fun x i => ∃ j : Nat, j ≤ zs.length ∧ i = .int .i64 j ∧ x = .int .i64 (k + j)) (fun _ i => zs.length - (intOf i).toNat)
  case atStart => exact ⟨0, Nat.zero_le _, rfl, by simp⟩
  case round =>
    obtain ⟨j, hj, rfl, rfl⟩ := hrel
    by_cases hlt : j < zs.length
    · obtain ⟨b, off, ha, hc⟩ := HC.out (by rw [marks_len]; omega)
      subst ha
      have hck := hc j (by rw [marks_len]; exact hlt)
      rw [marks_nth hlt] at hck
      clear hc
      have hn : (k + (j : Int) != k + (j : Int)) = false := by simp
      go_wp2
      go_round
      case rel => exact ⟨j + 1, by omega, by go_num, by go_num⟩
      case measure => simp [intOf]; omega
    · have HX : Hid (k + (j : Int) = k + (zs.length : Int)) := by have : j = zs.length := by omega
                                                                  rw [this]; rfl
      go_wp2
      go_ret
      exact ⟨ret_i64 HX.out, rfl⟩

/-- The rows' marks, from k on. -/
def markRows (k : Int) (zss : List (List Int)) : List (List Int) := (List.range zss.length).map fun j : Nat => marks (k + (sumLen zss j : Int)) (row zss j).length
theorem markRows_len (k : Int) (zss : List (List Int)) : (markRows k zss).length = zss.length := by simp [markRows]
theorem markRows_row {k : Int} {zss : List (List Int)} {j : Nat} (h : j < zss.length) : row (markRows k zss) j = marks (k + (sumLen zss j : Int)) (row zss j).length := by simp [row, markRows, h]

/-- j of the rows are marked. -/
structure Half (w wr : World) (B D : Nat) (v : Value) (V : Nat → Value) (zss : List (List Int)) (k : Int) (j : Nat) : Prop where
  own : wr.ownsRow B 27 1 v zss.length ((List.range zss.length).map V)
  done : ∀ i, i < j → i < zss.length → OwnInts wr B D (V i) (marks (k + (sumLen zss i : Int)) (row zss i).length)
  todo : ∀ i, j ≤ i → i < zss.length → OwnInts wr B D (V i) (row zss i)
  only : Only (fun b => ∃ i, i < zss.length ∧ (V i).ownBlock = some b) w wr

theorem Half.step {w wr w1 : World} {B D : Nat} {v : Value} {V : Nat → Value} {zss : List (List Int)} {k : Int} {j : Nat} (h : Half w wr B D v V zss k j) (hj : j < zss.length)
    (ap : ∀ i j, i < zss.length → j < zss.length → i ≠ j → ∀ g, (V i).ownBlock = some g → (V j).ownBlock ≠ some g)
    (h1 : OwnInts w1 B D (V j) (marks (k + (sumLen zss j : Int)) (row zss j).length)) (h2 : Only (fun b => (V j).ownBlock = some b) wr w1) : Half w w1 B D v V zss k (j + 1) := by
  refine ⟨ownsRow_only h.own h2 (own_types h.own (h.todo j (Nat.le_refl _) hj).own), fun i hi hin => ?_, fun i hi hin => (h.todo i (by omega) hin).only h2 (ap i j hin hj (by omega)), h.only.trans (h2.mono fun b hb => ⟨j, hj, hb⟩)⟩
  by_cases e : i = j
  · subst e; exact h1
  · exact (h.done i (by omega) hin).only h2 (ap i j hin hj e)

theorem sumLen_le {zss : List (List Int)} {j : Nat} (h : j < zss.length) : sumLen zss j ≤ sumLen zss zss.length := sumLen_mono zss (by omega)

set_option maxHeartbeats 1000000 in
theorem markInt64SS_is {w : World} {B D : Nat} {v : Value} {V : Nat → Value} {zss : List (List Int)} (h : OwnRows w B D v V zss) (k : Int) (_h0 : 0 ≤ k) (_h1 : k ≤ 1099511627776) (_h2 : sumLen zss zss.length ≤ 1099511627776) :
    Calls Try.prog 93 #[v, .int .i64 k] w fun e w' => e = .returned (.int .i64 (k + sumLen zss zss.length)) ∧ OwnRows w' B D v V (markRows k zss) ∧ Only (fun b => ∃ i, i < zss.length ∧ (V i).ownBlock = some b) w w' := by
  obtain ⟨a, cap, hv, hI, hVs⟩ := h.shape
  have hlen := h.len
  have HA := Lib.hid h.apart
  have HT := Lib.hid h.top
  have HX := Lib.hid hVs
  have HH : Hid (Half w w B D v V zss k 0) := ⟨h.own, fun i hi => absurd hi (Nat.not_lt_zero _), fun i _ hi => h.rows i hi, Only.refl _ _⟩
  clear h hI hVs
  subst hv
  go_enter Try.func93, Try.ntmps93
  go_wp2
  go_loopw [1, 5] (fun x i wr => ∃ (j : Nat) (m : Int), j ≤ zss.length ∧ i = .int .i64 j ∧ x = .int .i64 m ∧ 0 ≤ m ∧ m ≤ 2199023255552 ∧ Hid (m = k + sumLen zss j) ∧ Hid (Half w wr B D (.slice a zss.length cap) V zss k j)) (fun _ i _ => zss.length - (intOf i).toNat)
  case atStart => exact ⟨0, k, Nat.zero_le _, rfl, rfl, by omega, by omega, by simp [Hid, sumLen], HH⟩
  case round =>
    clear HH
    obtain ⟨j, m, hj, rfl, rfl, hm0, hm1, HM, HH⟩ := hrel
    by_cases hlt : j < zss.length
    · have hsl := sumLen_mono zss (show j + 1 ≤ zss.length from hlt)
      have HM' : Hid (m + ((row zss j).length : Int) = k + sumLen zss (j + 1)) := by have := HM.out; simp only [Hid, sumLen]; omega
      have hm2 : m + ((row zss j).length : Int) ≤ 2199023255552 := by have := HM'.out; omega
      clear hsl
      have hVj := HX.out j hlt
      obtain ⟨g, ha⟩ : ∃ g, a = some ⟨g, 0, none⟩ := by
        rcases HH.out.own.2 with ⟨hv, h0⟩ | ⟨g, cap', cur, hv, _⟩
        · omega
        · simp only [Value.slice.injEq] at hv
          exact ⟨g, hv.1⟩
      subst ha
      have hck : wr.cell? ⟨g, j, none⟩ = some (.slice (addrOf (V j)) (row zss j).length (capOf (V j))) := by
        rw [HH.out.own.cellAt j (by omega), ← hVj]
        simp [hlt]
      have hmk := markInt64S_is (HH.out.todo j (Nat.le_refl _) hlt) m hm0 (by omega)
      rw [hVj] at hmk
      have HK := Lib.hid hmk
      have HVj := Lib.hid hVj
      clear hmk hVj
      go_wp2_with (go_at_call 27; refine HK.out.mono ?_; rintro e w1 ⟨rfl, h1, h2⟩; rw [← HVj.out] at h1 h2; rw [HM.out] at h1; have HN := Lib.hid (HH.out.step hlt HA.out h1 h2); clear h1 h2)
      go_roundw
      case rel => exact ⟨j + 1, _, by omega, by go_num, rfl, by omega, hm2, HM', HN⟩
      case measure => simp [intOf]; omega
    · have hjj : j = zss.length := by omega
      have HE : Hid (OwnRows wr B D (.slice a zss.length cap) V (markRows k zss)) := by
        subst hjj
        refine ⟨by rw [markRows_len]; exact HH.out.own, HT.out, by rw [markRows_len]; exact hlen, fun i hi => ?_, fun i j hi hj => ?_⟩
        · rw [markRows_len] at hi
          rw [markRows_row hi]
          exact HH.out.done i hi hi
        · rw [markRows_len] at hi hj
          exact HA.out i j hi hj
      have HY : Hid (m = k + (sumLen zss zss.length : Int)) := by rw [← hjj]; exact HM.out
      clear hjj
      go_wp2
      go_ret
      exact ⟨ret_i64 HY.out, HE.out, HH.out.only⟩

set_option maxHeartbeats 1000000 in
theorem markArena_is {w : World} {B D : Nat} {v : Value} {O : List Int} {zss : List (List Int)} (h : OwnArena w B D v O zss) (k : Int) (_h0 : 0 ≤ k) (_h1 : k ≤ 1073741824) (_h2 : O.length ≤ 1048576) (_h3 : sumLen zss zss.length ≤ 1048576) :
    Calls Try.prog 56 #[v, .int .i64 k] w fun e w' => e = .returned (.int .i64 (k + O.length + sumLen zss zss.length)) ∧ OwnArena w' B D v (marks k O.length) (markRows (k + O.length) zss) ∧ Only (fun b => B ≤ b ∧ b < D) w w' := by
  obtain ⟨vo, vn, V, rfl, h1, h2, h3⟩ := h
  obtain ⟨a, cap, rfl, hI, _⟩ := h1.shape
  obtain ⟨a', cap', rfl, hR, _⟩ := h2.shape
  have HV := Lib.hid h3
  have HI := Lib.hid h1
  have HR := Lib.hid h2
  clear h1 h2 h3 hI hR
  go_enter Try.func56, Try.ntmps56
  go_wp2_with fail
  refine (markInt64S_is (HI.out.below (below1 _ _)) k _h0 (by omega)).mono ?_
  rintro e w1 ⟨rfl, g1, g2⟩
  have g2' : Only (fun b => B ≤ b ∧ b < D) w w1 := (Only.of_below (below1 _ _)).trans (g2.mono fun b hb => ⟨(HI.out.own.lt b hb).1, HI.out.top b hb⟩)
  have hb0 : Box2 w1 w.heap.size 30 (.slice a O.length cap) (.slice a' zss.length cap') := by
    refine (g2.block _ (by simp) (fun hb => ?_)).trans (Box2.new w _ _ _)
    have := (HI.out.own.lt _ hb).2
    omega
  have hR1 : OwnRows w1 B D (.slice a' zss.length cap') V zss := (HR.out.below (below1 w _)).only g2 (own_types HR.out.own HI.out.own) (fun k hk g hg => HV.out k hk g hg)
  have HB := Lib.hid g2'
  have H1 := Lib.hid g1
  have HR1 := Lib.hid hR1
  have c0 := hb0.cell0
  have c1 := hb0.cell1
  clear g1 g2 g2' hb0 hR1
  go_wp2_with fail
  refine (markInt64SS_is HR1.out (k + O.length) (by omega) (by omega) (by omega)).mono ?_
  rintro e w2 ⟨rfl, g1, g2⟩
  have hfin : Hid (OwnArena w2 B D (.agg #[.slice a O.length cap, .slice a' zss.length cap']) (marks k O.length) (markRows (k + O.length) zss)) :=
    ⟨_, _, V, rfl, H1.out.only g2 (fun g hg ⟨i, hi, hg'⟩ => HV.out i hi g hg' hg), g1, fun i hi g hg => HV.out i (by rw [markRows_len] at hi; exact hi) g hg⟩
  have hB2 : Hid (Only (fun b => B ≤ b ∧ b < D) w w2) := HB.out.trans (g2.mono fun b ⟨i, hi, hb⟩ => ⟨((HR1.out.rows i hi).own.lt b hb).1, (HR1.out.rows i hi).top b hb⟩)
  clear g1 g2
  go_wp2
  go_ret
  exact ⟨rfl, hfin.out, hB2.out⟩

end

section
section
open Go.RowKit

theorem row_snoc {zss : List (List Int)} {zs : List Int} : row (zss ++ [zs]) zss.length = zs := by simp [row]
theorem row_snoc_old {zss : List (List Int)} {zs : List Int} {k : Nat} (h : k < zss.length) : row (zss ++ [zs]) k = row zss k := by simp [row, List.getElem?_append_left h]

/-- A row is appended: behind the outer append. -/
theorem OwnRows.push {w w1 : World} {B D D' : Nat} {v v' u : Value} {V : Nat → Value} {zss : List (List Int)} {zs : List Int} (h : OwnRows w B D v V zss) (hu : OwnInts w B D' u zs) (hap : ∀ i, i < zss.length → ∀ g, u.ownBlock = some g → (V i).ownBlock ≠ some g)
    (ho : w1.ownsRow B 27 1 v' (zss.length + 1) ((List.range zss.length).map V ++ [u])) (hg : Only (fun b => v.ownBlock = some b) w w1) (hl : zss.length + 1 ≤ 17592186044416) :
    OwnRows w1 B w1.heap.size v' (fun i => if i = zss.length then u else V i) (zss ++ [zs]) := by
  refine ⟨?_, fun g hg => (ho.lt g hg).2, by simpa using hl, fun k hk => ?_, fun i j hi hj hne g hg1 hg2 => ?_⟩
  · have e : (List.range (zss ++ [zs]).length).map (fun i => if i = zss.length then u else V i) = (List.range zss.length).map V ++ [u] := by
      simp only [List.length_append, List.length_cons, List.length_nil, List.range_succ, List.map_append, List.map_cons, List.map_nil, Nat.zero_add, if_true]
      congr 1
      exact List.map_congr_left fun i hi => by rw [if_neg (by have := List.mem_range.1 hi; omega)]
    rw [e]
    simpa using ho
  · by_cases e : k = zss.length
    · subst e
      simp only [if_true]
      rw [row_snoc]
      exact (hu.only hg (fun g h1 h2 => own_types h.own hu.own g h2 h1)).retop
    · have hk' : k < zss.length := by simp at hk; omega
      simp only [if_neg e]
      rw [row_snoc_old hk']
      exact ((h.rows k hk').only hg (fun g h1 h2 => own_types h.own (h.rows k hk').own g h2 h1)).retop
  · simp only [List.length_append, List.length_cons, List.length_nil] at hi hj
    by_cases e : i = zss.length
    · subst e
      simp only [if_true] at hg1
      simp only [if_neg (Ne.symm hne)] at hg2
      exact hap j (by omega) g hg1 hg2
    · simp only [if_neg e] at hg1
      by_cases e' : j = zss.length
      · subst e'
        simp only [if_true] at hg2
        exact hap i (by omega) g hg2 hg1
      · simp only [if_neg e'] at hg2
        exact h.apart i j (by omega) (by omega) hne g hg1 hg2

theorem OwnRows.nil (w : World) (B D : Nat) : OwnRows w B D (.slice none 0 0) (fun _ => .slice none 0 0) [] :=
  ⟨World.ownsRow_nil _ _ _ _, fun g hg => by simp [Value.ownBlock] at hg, by simp, fun k hk => absurd hk (by simp), fun i j hi => absurd hi (by simp)⟩
theorem OwnRows.retop {w : World} {B D : Nat} {v : Value} {V : Nat → Value} {zss : List (List Int)} (h : OwnRows w B D v V zss) : OwnRows w B w.heap.size v V zss :=
  ⟨h.own, fun g hg => (h.own.lt g hg).2, h.len, fun k hk => (h.rows k hk).retop, h.apart⟩
theorem OwnInts.base {w : World} {B B' D : Nat} {v : Value} {zs : List Int} (h : OwnInts w B D v zs) (hB : B' ≤ B) : OwnInts w B' D v zs := ⟨ownsRow_base h.own hB, h.top, h.len, h.fits⟩
theorem OwnRows.base {w : World} {B B' D : Nat} {v : Value} {V : Nat → Value} {zss : List (List Int)} (h : OwnRows w B D v V zss) (hB : B' ≤ B) : OwnRows w B' D v V zss :=
  ⟨ownsRow_base h.own hB, h.top, h.len, fun k hk => (h.rows k hk).base hB, h.apart⟩
theorem Only.of_grown {w w' : World} {r : Option Nat} (h : w.grownBy w' r) : Only (fun b => r = some b) w w' := ⟨h.os, h.tape, h.output, h.size, fun b hb hne => h.block b hb (fun e => hne e.symm)⟩

theorem take_snoc_rows {zss : List (List Int)} {k : Nat} (h : k < zss.length) : zss.take (k + 1) = zss.take k ++ [row zss k] := by
  rw [List.take_succ_eq_append_getElem h, row_eq h]

theorem Box2.not_own {w : World} {g : Nat} {t e : TypeId} {u v x : Value} {B size n : Nat} {xs : List Value} (h : Box2 w g t u v) (ho : w.ownsRow B e size x n xs) (hte : e ≠ t) : x.ownBlock ≠ some g := by
  intro hx
  rcases ho.2 with ⟨rfl, _⟩ | ⟨g1, _, _, rfl, _, h1, _⟩
  · simp [Value.ownBlock] at hx
  · simp [Value.ownBlock] at hx
    subst hx
    unfold Box2 at h
    rw [h] at h1
    simp at h1
    exact hte h1.2.symm

theorem Box2.only {w w' : World} {g : Nat} {t : TypeId} {u v : Value} {S : Nat → Prop} (h : Box2 w g t u v) (hk : Only S w w') (hs : ¬ S g) : Box2 w' g t u v := (hk.block g h.lt hs).trans h

/-- A struct's own box behind an append that wrote the row x. -/
theorem Box2.grown {w w' : World} {g : Nat} {t e : TypeId} {u v x : Value} {B size n : Nat} {xs : List Value} (h : Box2 w g t u v) (ho : w.ownsRow B e size x n xs) (hte : e ≠ t) (hg : w.grownBy w' x.ownBlock) : Box2 w' g t u v :=
  h.only (Only.of_grown hg) (h.not_own ho hte)

/-- What holds when k rows are copied: t: the copy's own struct, b: the argument's box. -/
structure Half2 (w wr : World) (t b : Nat) (vo sa sb : Value) (O : List Int) (zss : List (List Int)) : Prop where
  below : Below w.heap.size w wr
  box : Box2 wr b 30 sa sb
  own : ∃ vn V, Box2 wr t 30 vo vn ∧ OwnInts wr w.heap.size wr.heap.size vo O ∧ OwnRows wr w.heap.size wr.heap.size vn V zss ∧ ∀ i, i < zss.length → ∀ g, (V i).ownBlock = some g → vo.ownBlock ≠ some g

/-- A row u is appended to the rows: w2: behind the row's making, o: the one-element slice, w3: behind the append; then the new rows are stored into the struct. -/
theorem Half2.step {w wr w2 w3 : World} {t b gg cap : Nat} {o : Obj} {vo sa sb vn u : Value} {V : Nat → Value} {O zs : List Int} {zss : List (List Int)} (hbel : Below w.heap.size w wr) (hb : Box2 wr b 30 sa sb) (hT : Box2 wr t 30 vo vn)
    (hvo : OwnInts wr w.heap.size wr.heap.size vo O) (hvn : OwnRows wr w.heap.size wr.heap.size vn V zss) (hap : ∀ i, i < zss.length → ∀ g, (V i).ownBlock = some g → vo.ownBlock ≠ some g) (htw : w.heap.size ≤ t) (hbt : b ≠ t) (hl : zss.length ≤ 1048576)
    (h2 : Below wr.heap.size wr w2) (hu : OwnInts w2 wr.heap.size w2.heap.size u zs) (hown3 : w3.ownsRow w.heap.size 27 1 (.slice (some ⟨gg, 0, none⟩) (zss.length + 1) cap) (zss.length + 1) ((List.range zss.length).map V ++ [u])) (hgrow : (w2.alloc o).grownBy w3 vn.ownBlock) :
    Half2 w (w3.setCell ⟨t, 1, none⟩ (.slice (some ⟨gg, 0, none⟩) (zss.length + 1) cap)) t b vo sa sb O (zss ++ [zs]) := by
  have h2a : Below wr.heap.size wr (w2.alloc o) := h2.alloc h2.size o
  have hown : (w2.alloc o).ownsRow w.heap.size 27 1 vn zss.length ((List.range zss.length).map V) := ownsRow_only hvn.own (S := fun _ => False) (Only.of_below h2a) (fun _ _ h => h)
  have hT3 := (hT.below h2a).grown hown (by decide) hgrow
  have hb3 := (hb.below h2a).grown hown (by decide) hgrow
  have hvo3 : OwnInts w3 w.heap.size w3.heap.size vo O := ((hvo.below h2a).only (Only.of_grown hgrow) (fun g h1 h2 => own_types hown (hvo.below h2a).own g h2 h1)).retop
  have hu' : OwnInts (w2.alloc o) w.heap.size w2.heap.size u zs := (hu.below (below1 _ _)).base hbel.size
  have hlow : ∀ g, u.ownBlock = some g → wr.heap.size ≤ g := fun g hg => (hu.own.lt g hg).1
  have hrows := (hvn.below h2a).push (w1 := w3) hu' (fun i hi g h1 h3 => by have := (hvn.rows i hi).top g h3; have := hlow g h1; omega) hown3 (Only.of_grown hgrow) (by omega)
  have hS : Only (fun b => b = t) w3 (w3.setCell ⟨t, 1, none⟩ (.slice (some ⟨gg, 0, none⟩) (zss.length + 1) cap)) := Only.setCell (S := fun b => b = t) (Only.refl _ _) (p := ⟨t, 1, none⟩) rfl _
  refine ⟨?_, hb3.only hS hbt, _, _, hT3.set1 _, (hvo3.only hS (fun g hg e => hT3.not_own hvo3.own (by decide) (by rw [hg, e]))).retop, (hrows.only hS (fun g hg e => hT3.not_own hrows.own (by decide) (by rw [hg, e])) (fun k hk g hg e => hT3.not_own (hrows.rows k hk).own (by decide) (by rw [hg, e]))).retop, fun i hi g hg => ?_⟩
  · have h3 : Below w.heap.size w (w2.alloc o) := hbel.trans (h2a.mono hbel.size)
    exact (h3.trans ((Only.of_grown hgrow).below h3.size (fun g hg => (hown.lt g hg).1))).setCell htw _
  · by_cases e : i = zss.length
    · subst e
      simp only [if_true] at hg
      intro hh
      have := hvo.top g hh
      have := hlow g hg
      omega
    · simp only [if_neg e] at hg
      exact hap i (by simp at hi; omega) g hg
end

section
open Go.RowKit

theorem info_rows : (Try.prog.info? 27).map (fun i => (i.zero, i.size, i.bytes)) = some (some (.slice none 0 0), 1, 24) := by kernel_rfl

/-- A call hands back an arena of its own. -/
def GivesArena (w : World) (O : List Int) (zss : List (List Int)) (e : Ending) (w' : World) : Prop :=
  ∃ v, e = .returned v ∧ OwnArena w' w.heap.size w'.heap.size v O zss ∧ Below w.heap.size w w'

end

section
open Go.RowKit

theorem Box2.set0_only {w : World} {t : Nat} (x : Value) : Only (fun b => b = t) w (w.setCell ⟨t, 0, none⟩ x) := Only.setCell (S := fun b => b = t) (Only.refl _ _) (p := ⟨t, 0, none⟩) rfl _
theorem Box2.set1_only {w : World} {t : Nat} (x : Value) : Only (fun b => b = t) w (w.setCell ⟨t, 1, none⟩ x) := Only.setCell (S := fun b => b = t) (Only.refl _ _) (p := ⟨t, 1, none⟩) rfl _

/-- A number x is appended to the owners; then the new owners are stored into the struct. -/
theorem Half2.owner {w wr w1 : World} {t b gg cap : Nat} {ob : Obj} {vo sa sb vn : Value} {V : Nat → Value} {O : List Int} {x : Int} {zss : List (List Int)} (hbel : Below w.heap.size w wr) (hb : Box2 wr b 30 sa sb) (hT : Box2 wr t 30 vo vn)
    (hvo : OwnInts wr w.heap.size wr.heap.size vo O) (hvn : OwnRows wr w.heap.size wr.heap.size vn V zss) (hap : ∀ i, i < zss.length → ∀ g, (V i).ownBlock = some g → vo.ownBlock ≠ some g) (htw : w.heap.size ≤ t) (hbt : b ≠ t) (hl : O.length ≤ 1048576) (hx : Fits x)
    (hown1 : w1.ownsRow w.heap.size 2 1 (.slice (some ⟨gg, 0, none⟩) (O.length + 1) cap) (O.length + 1) (O.map (Value.int .i64) ++ [.int .i64 x])) (hgrow : (wr.alloc ob).grownBy w1 vo.ownBlock) (hat : vo.ownBlock = some gg ∨ gg = wr.heap.size + 1) :
    Half2 w (w1.setCell ⟨t, 0, none⟩ (.slice (some ⟨gg, 0, none⟩) (O.length + 1) cap)) t b (.slice (some ⟨gg, 0, none⟩) (O.length + 1) cap) sa sb (O ++ [x]) zss := by
  have h2a : Below wr.heap.size wr (wr.alloc ob) := below1 _ _
  have hown := (hvo.below h2a).own
  have hT1 := (hT.below h2a).grown hown (by decide) hgrow
  have hb1 := (hb.below h2a).grown hown (by decide) hgrow
  have hI : OwnInts w1 w.heap.size w1.heap.size (.slice (some ⟨gg, 0, none⟩) (O.length + 1) cap) (O ++ [x]) := by
    refine OwnInts.mk' (by simpa using hown1) (by simp; omega) fun k hk => ?_
    by_cases e : k < O.length
    · rw [show nth (O ++ [x]) k = nth O k from by simp [nth, List.getElem?_append_left e]]
      exact hvo.fits k e
    · have : k = O.length := by simp at hk; omega
      subst this
      rw [show nth (O ++ [x]) O.length = x from by simp [nth]]
      exact hx
  have hR := (hvn.below h2a).only (Only.of_grown hgrow) (fun g h1 h2 => own_types (hvn.below h2a).own hown g h1 h2) (fun k hk g h1 h2 => hap k hk g h1 h2)
  have hS := Box2.set0_only (w := w1) (t := t) (.slice (some ⟨gg, 0, none⟩) (O.length + 1) cap)
  refine ⟨?_, hb1.only hS hbt, _, V, hT1.set0 _, (hI.only hS (fun g hg e => hT1.not_own hI.own (by decide) (by rw [hg, e]))).retop, (hR.only hS (fun g hg e => hT1.not_own hR.own (by decide) (by rw [hg, e])) (fun k hk g hg e => hT1.not_own (hR.rows k hk).own (by decide) (by rw [hg, e]))).retop, fun i hi g hg hh => ?_⟩
  · have h3 : Below w.heap.size w (wr.alloc ob) := hbel.alloc hbel.size ob
    exact (h3.trans ((Only.of_grown hgrow).below h3.size (fun g hg => (hown.lt g hg).1))).setCell htw _
  · simp [Value.ownBlock] at hh
    subst hh
    rcases hat with h | h
    · exact hap i hi _ hg h
    · have := (hvn.rows i hi).top _ hg
      omega

def turnO (O : List Int) : List Int := O.map fun x => 1 - x
theorem turnO_len (O : List Int) : (turnO O).length = O.length := by simp [turnO]
theorem turnO_nth {O : List Int} {k : Nat} (h : k < O.length) : nth (turnO O) k = 1 - nth O k := by simp [turnO, nth, h]

open Classical in
noncomputable def turnedO (O : List Int) (zss : List (List Int)) : List Int := if ArenaP O zss then turnO O else []
open Classical in
noncomputable def turnedN (O : List Int) (zss : List (List Int)) : List (List Int) := if ArenaP O zss then zss else []

theorem ownArena_zero (w : World) (B D : Nat) : OwnArena w B D (.agg #[.slice none 0 0, .slice none 0 0]) [] [] := ⟨_, _, _, rfl, OwnInts.nil _ _ _, OwnRows.nil _ _ _, fun k hk => absurd hk (by simp)⟩

/-- k owners are exchanged in place. -/
structure Turn (w wr : World) (t r k : Nat) (vo vn : Value) (V : Nat → Value) (O : List Int) (zss : List (List Int)) : Prop where
  below : Below w.heap.size w wr
  box : Box2 wr t 30 vo vn
  res : Box2 wr r 30 (.slice none 0 0) (.slice none 0 0)
  own : ∃ P, P.length = O.length ∧ OwnInts wr w.heap.size wr.heap.size vo P ∧ ∀ i, i < O.length → nth P i = if i < k then 1 - nth O i else nth O i
  rows : OwnRows wr w.heap.size wr.heap.size vn V zss

theorem Turn.step {w wr : World} {t r k g n c : Nat} {vn : Value} {V : Nat → Value} {O : List Int} {zss : List (List Int)} (h : Turn w wr t r k (.slice (some ⟨g, 0, none⟩) n c) vn V O zss) (hn : n = O.length) (hk : k < O.length) (hf : Fits (1 - nth O k)) (hg : w.heap.size ≤ g) 
    (hap : ∀ i, i < zss.length → ∀ b, (V i).ownBlock = some b → b ≠ g) :
    Turn w (wr.setCell ⟨g, k, none⟩ (.int .i64 (1 - nth O k))) t r (k + 1) (.slice (some ⟨g, 0, none⟩) n c) vn V O zss := by
  obtain ⟨P, hl, ho, hm⟩ := h.own
  have hS : Only (fun b => b = g) wr (wr.setCell ⟨g, k, none⟩ (.int .i64 (1 - nth O k))) := Only.setCell (S := fun b => b = g) (Only.refl _ _) (p := ⟨g, k, none⟩) rfl _
  have htg : t ≠ g := fun e => h.box.not_own ho.own (by decide) (by simp [Value.ownBlock, e])
  have hrg : r ≠ g := fun e => h.res.not_own ho.own (by decide) (by simp [Value.ownBlock, e])
  refine ⟨h.below.setCell hg _, h.box.only hS htg, h.res.only hS hrg, ⟨P.set k (1 - nth O k), by simpa using hl, (ho.store (by omega) (by omega) hf).retop, fun i hi => ?_⟩, (h.rows.only hS (fun b hb e => own_types h.rows.own ho.own b hb (by simp [Value.ownBlock, e])) (fun i hi b hb e => hap i hi b hb e)).retop⟩
  rw [nth_set (by omega)]
  by_cases e : i = k
  · subst e; simp
  · rw [if_neg e, hm i hi]
    by_cases h' : i < k
    · rw [if_pos h', if_pos (by omega)]
    · rw [if_neg h', if_neg (by omega)]

theorem Turn.drew {w wr : World} {t r k : Nat} {vo vn : Value} {V : Nat → Value} {O : List Int} {zss : List (List Int)} (h : Turn w wr t r k vo vn V O zss) : Turn w wr.drew t r k vo vn V O zss := by
  have hb : Below wr.heap.size wr wr.drew := (Below.refl _ _).drew
  obtain ⟨P, hl, ho, hm⟩ := h.own
  exact ⟨h.below.drew, h.box.below hb, h.res.below hb, ⟨P, hl, (ho.below hb).retop, hm⟩, (h.rows.below hb).retop⟩

theorem turnO_take {O : List Int} {k : Nat} (h : k < O.length) : turnO (O.take (k + 1)) = turnO (O.take k) ++ [1 - nth O k] := by
  rw [List.take_succ_eq_append_getElem h, nth_eq h]; simp only [turnO, List.map_append, List.map_cons, List.map_nil]

theorem turned_size {O : List Int} {zss : List (List Int)} (h : sizeArena O zss ≤ 1048576) : sizeArena (turnedO O zss) (turnedN O zss) ≤ 1048576 := by
  unfold turnedO turnedN
  split
  · unfold sizeArena at *; rw [turnO_len]; exact h
  · simp [sizeArena, sumLen]
end
end

section
open Go.RowKit

/-- The numbers rise. -/
def Rises (zs : List Int) : Prop := ∀ j k, j < k → k < zs.length → nth zs j < nth zs k

theorem rises_of {n : Int} {zs : List Int} (h : setB n zs = true) : Rises zs := fun j _ hjk hk => (setB_bounds h hk).2.2 j hjk

theorem idx_rises {zs : List Int} {x : Int} {k : Nat} (hr : Rises zs) (hk : k < zs.length) (h : nth zs k = x) : idx zs x = k :=
  idx_at hk h fun j hj => by have := hr j k hj hk; omega

theorem less_any (a b : Int) (w : World) : Calls Try.prog 128 #[.int .i64 a, .int .i64 b] w fun e w' => e = .returned (.bool (decide (a < b))) ∧ w = w' := by
  have h1 : (a != a) = false := by simp
  have h2 : (b != b) = false := by simp
  go_enter Try.func128, Try.ntmps128
  go_wp2
  go_ret
  exact ⟨rfl, rfl⟩

theorem less_is {a b : Int} {r : Bool} (hr : decide (a < b) = r) (w : World) : Calls Try.prog 128 #[.int .i64 a, .int .i64 b] w fun e w' => e = .returned (.bool r) ∧ w = w' := by
  subst hr; exact less_any a b w

/-- What BinarySearch hands back. -/
def Found (zs : List Int) (x : Int) (w : World) (e : Ending) (w' : World) : Prop :=
  ∃ i : Int, e = .returned (.tuple #[.int .i64 i, .bool (hasB zs x)]) ∧ (hasB zs x = true → i = idx zs x) ∧ w = w'

theorem found_mk {zs : List Int} {x : Int} {w : World} {i : Int} {b : Bool} (hb : hasB zs x = b) (hi : b = true → i = idx zs x) : Found zs x w (.returned (.tuple #[.int .i64 i, .bool b])) w :=
  ⟨i, by rw [hb], fun h => hi (by rw [← hb]; exact h), rfl⟩

/-- Where the numbers of r stand that S has. -/
def places (S : List Int) : List Int → Nat → List Int
  | _, 0 => []
  | r, k + 1 => places S r k ++ if hasB S (nth r k) then [idx S (nth r k)] else []

theorem places_len (S r : List Int) (k : Nat) : (places S r k).length ≤ k := by
  induction k with
  | zero => simp [places]
  | succ k ih => simp only [places]; split <;> simp <;> omega

theorem idx_bounds {S : List Int} {x : Int} (h : hasB S x = true) : 0 ≤ idx S x ∧ idx S x < S.length := by
  have hm := hasB_iff.1 h
  unfold idx
  rw [if_pos hm]
  have := List.idxOf_lt_length_iff.2 hm
  omega

theorem places_mem (S r : List Int) (k : Nat) : ∀ x ∈ places S r k, 0 ≤ x ∧ x < S.length := by
  induction k with
  | zero => simp [places]
  | succ k ih =>
    intro x hx
    simp only [places, List.mem_append] at hx
    rcases hx with hx | hx
    · exact ih x hx
    · split at hx
      · rename_i h
        simp at hx
        subst hx
        exact idx_bounds h
      · simp at hx

theorem places_fits {S r : List Int} {k : Nat} (hS : S.length ≤ 17592186044416) : ∀ j, j < (places S r k).length → Fits (nth (places S r k) j) := fun j hj => by
  have := places_mem S r k _ (nth_mem hj)
  unfold Fits; omega

end

section
open Go.RowKit

set_option maxHeartbeats 1000000 in
theorem eqInt64S_yes {a c : Option Addr} {zs : List Int} (w : World) (ca cc : Nat) (ha : IntsAt w a zs) (hc : IntsAt w c zs) :
    Calls Try.prog 25 #[.slice a zs.length ca, .slice c zs.length cc] w fun e w' => e = .returned (.bool true) ∧ ∃ q, w' = w.drewN q := by
  have hlen := ha.len
  have HA := Lib.hid ha
  have HC := Lib.hid hc
  clear ha hc
  have hne : ((zs.length : Int) != (zs.length : Int)) = false := by simp
  go_enter Try.func25, Try.ntmps25
  go_wp2
  go_loopw [5] (fun i wr => ∃ k : Nat, k ≤ zs.length ∧ i = .int .i64 k ∧ Hid (∃ q, wr = w.drewN q)) (fun i _ => zs.length - (intOf i).toNat)
  case atStart => exact ⟨0, Nat.zero_le _, rfl, 0, rfl⟩
  case round =>
    obtain ⟨k, hk, rfl, HW⟩ := hrel
    by_cases hlt : k < zs.length
    · obtain ⟨b, off, e1, h1⟩ := (HA.out.same HW.out).cell (by omega)
      obtain ⟨b2, off2, e2, h2⟩ := (HC.out.same HW.out).cell (by omega)
      subst e1
      subst e2
      have hck := h1 k hlt
      have hck2 := h2 k hlt
      clear h1 h2
      have hi1 : (k : Int) < zs.length := by omega
      have hn : (nth zs k != nth zs k) = false := by simp
      go_wp2
      go_quiet (fail)
      go_wp2
      go_roundw
      case rel => exact ⟨k + 1, by omega, by go_num, drewn HW.out⟩
      case measure => simp [intOf]; omega
    · go_wp2
      go_ret
      exact ⟨rfl, HW.out⟩

set_option maxHeartbeats 1000000 in
theorem eqInt64SS_yes {a c : Option Addr} {A A' : Nat → Option Addr} {C C' : Nat → Nat} {zss : List (List Int)} (w : World) (ca cc : Nat) (ha : RowsAt w a A C zss) (hc : RowsAt w c A' C' zss) :
    Calls Try.prog 80 #[.slice a zss.length ca, .slice c zss.length cc] w fun e w' => e = .returned (.bool true) ∧ ∃ q, w' = w.drewN q := by
  have hlen := ha.len
  have HA := Lib.hid ha
  have HC := Lib.hid hc
  clear ha hc
  have hne : ((zss.length : Int) != (zss.length : Int)) = false := by simp
  go_enter Try.func80, Try.ntmps80
  go_wp2
  go_loopw [5] (fun i wr => ∃ k : Nat, k ≤ zss.length ∧ i = .int .i64 k ∧ Hid (∃ q, wr = w.drewN q)) (fun i _ => zss.length - (intOf i).toNat)
  case atStart => exact ⟨0, Nat.zero_le _, rfl, 0, rfl⟩
  case round =>
    obtain ⟨k, hk, rfl, HW⟩ := hrel
    by_cases hlt : k < zss.length
    · have hA' := Lib.hid (HA.out.same HW.out)
      have hC' := Lib.hid (HC.out.same HW.out)
      obtain ⟨b, off, e1, h1⟩ := hA'.out.cell (by omega)
      obtain ⟨b2, off2, e2, h2⟩ := hC'.out.cell (by omega)
      subst e1
      subst e2
      have hck := h1 k hlt
      have hck2 := h2 k hlt
      clear h1 h2
      have hi1 : (k : Int) < zss.length := by omega
      have HE : Hid (∀ q, Calls Try.prog 25 #[.slice (A k) (row zss k).length (C k), .slice (A' k) (row zss k).length (C' k)] (wr.drewN q) fun e w' => e = .returned (.bool true) ∧ ∃ m, w' = (wr.drewN q).drewN m) := fun q =>
        eqInt64S_yes (wr.drewN q) (C k) (C' k) ((hA'.out.rows k hlt).same ⟨q, rfl⟩) ((hC'.out.rows k hlt).same ⟨q, rfl⟩)
      go_wp2
      go_quiet ((go_at_call 25; exact Calls.quiet_of (HE.out _)))
      go_wp2
      go_roundw
      case rel => exact ⟨k + 1, by omega, by go_num, drewn HW.out⟩
      case measure => simp [intOf]; omega
    · go_wp2
      go_ret
      exact ⟨rfl, HW.out⟩

set_option maxHeartbeats 1000000 in
theorem eqArena_yes {ao an co cn : Option Addr} {A A' : Nat → Option Addr} {C C' : Nat → Nat} {O : List Int} {zss : List (List Int)} (w : World) (k1 k2 k3 k4 : Nat)
    (h1 : IntsAt w ao O) (h2 : RowsAt w an A C zss) (h3 : IntsAt w co O) (h4 : RowsAt w cn A' C' zss) :
    Calls Try.prog 51 #[.agg #[.slice ao O.length k1, .slice an zss.length k2], .agg #[.slice co O.length k3, .slice cn zss.length k4]] w fun e w' => e = .returned (.bool true) ∧ Below w.heap.size w w' := by
  have HE := Lib.hid (eqInt64S_yes _ k1 k3 ((h1.alloc (.cells #[.slice ao O.length k1, .slice an zss.length k2] 30)).alloc (.cells #[.slice co O.length k3, .slice cn zss.length k4] 30)) ((h3.alloc _).alloc _))
  have HF : Hid (∀ q, Calls Try.prog 80 #[.slice an zss.length k2, .slice cn zss.length k4] (((w.alloc (.cells #[.slice ao O.length k1, .slice an zss.length k2] 30)).alloc (.cells #[.slice co O.length k3, .slice cn zss.length k4] 30)).drewN q) fun e w' => e = .returned (.bool true) ∧ ∃ m, w' = (((w.alloc (.cells #[.slice ao O.length k1, .slice an zss.length k2] 30)).alloc (.cells #[.slice co O.length k3, .slice cn zss.length k4] 30)).drewN q).drewN m) := fun q =>
    eqInt64SS_yes _ k2 k4 (((h2.alloc _).alloc _).same ⟨q, rfl⟩) (((h4.alloc _).alloc _).same ⟨q, rfl⟩)
  clear h1 h2 h3 h4
  go_enter Try.func51, Try.ntmps51
  go_wp2_with (first | (go_at_call 25; refine HE.out.mono ?_; rintro e w' ⟨rfl, q, rfl⟩) | (go_at_call 80; refine (HF.out _).mono ?_; rintro e w' ⟨rfl, q', rfl⟩))
  go_ret
  exact ⟨rfl, below_drewN (below2 _ _ _) _⟩

theorem eqArena_at {w : World} {v v' : Value} {O : List Int} {zss : List (List Int)} (h : ArenaAt w v O zss) (h' : ArenaAt w v' O zss) :
    Calls Try.prog 51 #[v, v'] w fun e w' => e = .returned (.bool true) ∧ Below w.heap.size w w' := by
  obtain ⟨ao, an, co, cn, A, C, rfl, h1, h2⟩ := h
  obtain ⟨ao', an', co', cn', A', C', rfl, h1', h2'⟩ := h'
  exact eqArena_yes w co cn co' cn' h1 h2 h1' h2'
end

section
open Go.RowKit

/-- The slice v reads as zs. -/
def IntsV (w : World) (v : Value) (zs : List Int) : Prop := ∃ a cap, v = .slice a zs.length cap ∧ IntsAt w a zs

theorem IntsV.below {w w' : World} {v : Value} {zs : List Int} (h : IntsV w v zs) (hb : Below w.heap.size w w') : IntsV w' v zs := by
  obtain ⟨a, cap, hv, hi⟩ := h
  exact ⟨a, cap, hv, hi.below hb⟩
theorem OwnInts.v {w : World} {B D : Nat} {v : Value} {zs : List Int} (h : OwnInts w B D v zs) : IntsV w v zs := by
  obtain ⟨a, cap, hv, hi, _⟩ := h.shape
  exact ⟨a, cap, hv, hi⟩

theorem eqInts_at {w : World} {v v' : Value} {zs : List Int} (h : IntsV w v zs) (h' : IntsV w v' zs) :
    Calls Try.prog 25 #[v, v'] w fun e w' => e = .returned (.bool true) ∧ Below w.heap.size w w' := by
  obtain ⟨a, cap, rfl, hi⟩ := h
  obtain ⟨a', cap', rfl, hi'⟩ := h'
  exact (eqInt64S_yes w cap cap' hi hi').mono fun e w' ⟨he, hq⟩ => ⟨he, below_same (Below.refl _ _) hq⟩

theorem heldInts_at {w : World} {v : Value} {k : Int} {n : Nat} (h : IntsV w v (marks k n)) (h0 : 0 ≤ k) (h1 : k ≤ 1152921504606846976) :
    Calls Try.prog 57 #[v, .int .i64 k] w fun e w' => e = .returned (.int .i64 (k + n)) ∧ w = w' := by
  obtain ⟨a, cap, rfl, hi⟩ := h
  have h := heldInt64S_is (zs := marks k n) k cap (by rw [marks_len]; exact hi) h0 h1
  rw [marks_len] at h ⊢
  exact h

theorem markInts_at {w : World} {B D : Nat} {v : Value} {zs : List Int} {k r : Int} (hr : k + zs.length = r) (h : OwnInts w B D v zs) (h0 : 0 ≤ k) (h1 : k ≤ 1152921504606846976) :
    Calls Try.prog 27 #[v, .int .i64 k] w fun e w' => e = .returned (.int .i64 r) ∧ OwnInts w' B D v (marks k zs.length) ∧ Only (fun b => B ≤ b ∧ b < D) w w' := by
  subst hr
  exact (markInt64S_is h k h0 h1).mono fun e w' ⟨he, ho, hn⟩ => ⟨he, ho, hn.mono fun b hb => ⟨(h.own.lt b hb).1, h.top b hb⟩⟩

theorem heldInts_is {w : World} {v : Value} {k r : Int} {n : Nat} (hr : k + (n : Int) = r) (h : IntsV w v (marks k n)) (h0 : 0 ≤ k) (h1 : k ≤ 1152921504606846976) :
    Calls Try.prog 57 #[v, .int .i64 k] w fun e w' => e = .returned (.int .i64 r) ∧ w = w' := by
  subst hr
  exact heldInts_at h h0 h1

theorem markArena_at {w : World} {B D : Nat} {v : Value} {O : List Int} {zss : List (List Int)} {k r : Int} (hr : k + O.length + sumLen zss zss.length = r) (h : OwnArena w B D v O zss) (h0 : 0 ≤ k) (h1 : k ≤ 1073741824) (hs : sizeArena O zss ≤ 1048576) :
    Calls Try.prog 56 #[v, .int .i64 k] w fun e w' => e = .returned (.int .i64 r) ∧ OwnArena w' B D v (marks k O.length) (markRows (k + O.length) zss) ∧ Only (fun b => B ≤ b ∧ b < D) w w' := by
  subst hr
  unfold sizeArena at hs
  exact markArena_is h k h0 h1 (by omega) (by omega)

theorem toInts_at {w : World} {v : Value} {zs : List Int} (h : IntsV w v zs) :
    Calls Try.prog 22 #[v] w fun e w' => ∃ u, e = .returned u ∧ OwnInts w' w.heap.size w'.heap.size u zs ∧ Below w.heap.size w w' := by
  obtain ⟨a, cap, rfl, hi⟩ := h
  refine (toInt64S_any a zs cap w hi).mono fun e w' ⟨he, hr, hs, hb⟩ => ⟨_, he, OwnInts.of_rowIs hr (Nat.le_refl _) (by omega) hi.len hi.fits, hb⟩
end

end Go.Proofs.Ytihaajcmephlmaa
namespace Go.Proofs.Ytihaajcmephlmaa
section
section
open Go.RowKit

/-- t: the struct that grows, with the owners vo and the rows vn (row k is V k); b: the argument's box. -/
structure Half3 (w wr : World) (t b : Nat) (vo vn : Value) (V : Nat → Value) (sa sb : Value) (O : List Int) (zss : List (List Int)) : Prop where
  below : Below w.heap.size w wr
  box : Box2 wr b 30 sa sb
  str : Box2 wr t 30 vo vn
  ints : OwnInts wr w.heap.size wr.heap.size vo O
  rows : OwnRows wr w.heap.size wr.heap.size vn V zss
  apart : ∀ i, i < zss.length → ∀ g, (V i).ownBlock = some g → vo.ownBlock ≠ some g

theorem Half3.keep {w wr wr' : World} {t b : Nat} {vo vn : Value} {V : Nat → Value} {sa sb : Value} {O : List Int} {zss : List (List Int)} (h : Half3 w wr t b vo vn V sa sb O zss) (hb : Below wr.heap.size wr wr') : Half3 w wr' t b vo vn V sa sb O zss :=
  ⟨h.below.trans (hb.mono h.below.size), h.box.below hb, h.str.below hb, (h.ints.below hb).retop, (h.rows.below hb).retop, h.apart⟩

theorem Half3.owner {w wr w1 : World} {t b gg cap : Nat} {vo vn : Value} {V : Nat → Value} {sa sb : Value} {O : List Int} {x : Int} {zss : List (List Int)} (h : Half3 w wr t b vo vn V sa sb O zss) (htw : w.heap.size ≤ t) (hbt : b ≠ t) (hl : O.length ≤ 1048576) (hx : Fits x)
    (hown1 : w1.ownsRow w.heap.size 2 1 (.slice (some ⟨gg, 0, none⟩) (O.length + 1) cap) (O.length + 1) (O.map (Value.int .i64) ++ [.int .i64 x])) (hgrow : wr.grownBy w1 vo.ownBlock) (hat : vo.ownBlock = some gg ∨ wr.heap.size ≤ gg) :
    Half3 w (w1.setCell ⟨t, 0, none⟩ (.slice (some ⟨gg, 0, none⟩) (O.length + 1) cap)) t b (.slice (some ⟨gg, 0, none⟩) (O.length + 1) cap) vn V sa sb (O ++ [x]) zss := by
  have hown := h.ints.own
  have hT1 := h.str.grown hown (by decide) hgrow
  have hb1 := h.box.grown hown (by decide) hgrow
  have hI : OwnInts w1 w.heap.size w1.heap.size (.slice (some ⟨gg, 0, none⟩) (O.length + 1) cap) (O ++ [x]) := by
    refine OwnInts.mk' (by simpa using hown1) (by simp; omega) fun k hk => ?_
    by_cases e : k < O.length
    · rw [show nth (O ++ [x]) k = nth O k from by simp [nth, List.getElem?_append_left e]]
      exact h.ints.fits k e
    · have : k = O.length := by simp at hk; omega
      subst this
      rw [show nth (O ++ [x]) O.length = x from by simp [nth]]
      exact hx
  have hR := h.rows.only (Only.of_grown hgrow) (fun g h1 h2 => own_types h.rows.own hown g h1 h2) (fun k hk g h1 h2 => h.apart k hk g h1 h2)
  have hS := Box2.set0_only (w := w1) (t := t) (.slice (some ⟨gg, 0, none⟩) (O.length + 1) cap)
  refine ⟨?_, hb1.only hS hbt, hT1.set0 _, (hI.only hS (fun g hg e => hT1.not_own hI.own (by decide) (by rw [hg, e]))).retop, (hR.only hS (fun g hg e => hT1.not_own hR.own (by decide) (by rw [hg, e])) (fun k hk g hg e => hT1.not_own (hR.rows k hk).own (by decide) (by rw [hg, e]))).retop, fun i hi g hg hh => ?_⟩
  · exact (h.below.trans ((Only.of_grown hgrow).below h.below.size (fun g hg => (hown.lt g hg).1))).setCell htw _
  · simp [Value.ownBlock] at hh
    subst hh
    rcases hat with h' | h'
    · exact h.apart i hi _ hg h'
    · have := (h.rows.rows i hi).top _ hg
      omega

theorem Half3.push {w wr w3 : World} {t b gg cap : Nat} {vo vn u : Value} {V : Nat → Value} {sa sb : Value} {O zs : List Int} {zss : List (List Int)} {B D : Nat} (h : Half3 w wr t b vo vn V sa sb O zss) (htw : w.heap.size ≤ t) (hbt : b ≠ t) (hl : zss.length ≤ 1048576)
    (hu : OwnInts wr B D u zs) (hB : w.heap.size ≤ B) (hapu : ∀ i, i < zss.length → ∀ g, u.ownBlock = some g → (V i).ownBlock ≠ some g) (hvu : ∀ g, u.ownBlock = some g → vo.ownBlock ≠ some g)
    (hown3 : w3.ownsRow w.heap.size 27 1 (.slice (some ⟨gg, 0, none⟩) (zss.length + 1) cap) (zss.length + 1) ((List.range zss.length).map V ++ [u])) (hgrow : wr.grownBy w3 vn.ownBlock) :
    Half3 w (w3.setCell ⟨t, 1, none⟩ (.slice (some ⟨gg, 0, none⟩) (zss.length + 1) cap)) t b vo (.slice (some ⟨gg, 0, none⟩) (zss.length + 1) cap) (fun i => if i = zss.length then u else V i) sa sb O (zss ++ [zs]) := by
  have hown := h.rows.own
  have hT3 := h.str.grown hown (by decide) hgrow
  have hb3 := h.box.grown hown (by decide) hgrow
  have hvo3 : OwnInts w3 w.heap.size w3.heap.size vo O := (h.ints.only (Only.of_grown hgrow) (fun g h1 h2 => own_types hown h.ints.own g h2 h1)).retop
  have hrows := h.rows.push (w1 := w3) (hu.base hB) (fun i hi g h1 h3 => hapu i hi g h1 h3) hown3 (Only.of_grown hgrow) (by omega)
  have hS : Only (fun b => b = t) w3 (w3.setCell ⟨t, 1, none⟩ (.slice (some ⟨gg, 0, none⟩) (zss.length + 1) cap)) := Box2.set1_only _
  refine ⟨(h.below.trans ((Only.of_grown hgrow).below h.below.size (fun g hg => (hown.lt g hg).1))).setCell htw _, hb3.only hS hbt, hT3.set1 _, (hvo3.only hS (fun g hg e => hT3.not_own hvo3.own (by decide) (by rw [hg, e]))).retop, (hrows.only hS (fun g hg e => hT3.not_own hrows.own (by decide) (by rw [hg, e])) (fun k hk g hg e => hT3.not_own (hrows.rows k hk).own (by decide) (by rw [hg, e]))).retop, fun i hi g hg => ?_⟩
  by_cases e : i = zss.length
  · subst e
    simp only [if_true] at hg
    exact hvu g hg
  · simp only [if_neg e] at hg
    exact h.apart i (by simp at hi; omega) g hg

/-- The i-th row of the arena that S induces. -/
def inRow (S : List Int) (zss : List (List Int)) (i : Nat) : List Int := places S (row zss (nth S i).toNat) (row zss (nth S i).toNat).length
def inNK (S : List Int) (zss : List (List Int)) (k : Nat) : List (List Int) := (List.range k).map (inRow S zss)
def inOK (S : List Int) (O : List Int) (k : Nat) : List Int := (List.range k).map fun i => nth O (nth S i).toNat

theorem inNK_len (S : List Int) (zss : List (List Int)) (k : Nat) : (inNK S zss k).length = k := by simp [inNK]
theorem inOK_len (S O : List Int) (k : Nat) : (inOK S O k).length = k := by simp [inOK]
theorem inNK_succ (S : List Int) (zss : List (List Int)) (k : Nat) : inNK S zss (k + 1) = inNK S zss k ++ [inRow S zss k] := by simp [inNK, List.range_succ]
theorem inOK_succ (S O : List Int) (k : Nat) : inOK S O (k + 1) = inOK S O k ++ [nth O (nth S k).toNat] := by simp [inOK, List.range_succ]

/-- When InsideOf yields an arena. -/
def InsideP (O : List Int) (zss : List (List Int)) (S : List Int) : Prop := ArenaP O zss ∧ setB O.length S = true ∧ 0 < S.length ∧ ∀ i, i < S.length → 0 < (inRow S zss i).length

open Classical in
noncomputable def insideO (O : List Int) (zss : List (List Int)) (S : List Int) : List Int := if InsideP O zss S then inOK S O S.length else []
open Classical in
noncomputable def insideN (O : List Int) (zss : List (List Int)) (S : List Int) : List (List Int) := if InsideP O zss S then inNK S zss S.length else []
open Classical in
noncomputable def insideB (O : List Int) (zss : List (List Int)) (S : List Int) : Bool := decide (InsideP O zss S)

/-- A call hands back an arena of its own and a bool. -/
def GivesArenaB (w : World) (O : List Int) (zss : List (List Int)) (r : Bool) (e : Ending) (w' : World) : Prop :=
  ∃ v, e = .returned (.tuple #[v, .bool r]) ∧ OwnArena w' w.heap.size w'.heap.size v O zss ∧ Below w.heap.size w w'

theorem inside_no {O : List Int} {zss : List (List Int)} {S : List Int} (h : ¬ InsideP O zss S) : insideO O zss S = [] ∧ insideN O zss S = [] ∧ insideB O zss S = false := by
  unfold insideO insideN insideB
  rw [if_neg h, if_neg h]; exact ⟨rfl, rfl, by simp [h]⟩
theorem inside_yes {O : List Int} {zss : List (List Int)} {S : List Int} (h : InsideP O zss S) : insideO O zss S = inOK S O S.length ∧ insideN O zss S = inNK S zss S.length ∧ insideB O zss S = true := by
  unfold insideO insideN insideB
  rw [if_pos h, if_pos h]; exact ⟨rfl, rfl, by simp [h]⟩

theorem zero_stored {w wr : World} {r : Nat} (hb : Below w.heap.size w wr) (hr : w.heap.size ≤ r) : Below w.heap.size w ((wr.setCell ⟨r, 0, none⟩ (.slice none 0 0)).setCell ⟨r, 1, none⟩ (.slice none 0 0)) :=
  (hb.setCell (p := ⟨r, 0, none⟩) hr _).setCell (p := ⟨r, 1, none⟩) hr _
end

section
open Go.RowKit

/-- v is reached from F by at least one step, every vertex stepped to being one of I. -/
inductive Rch (zss : List (List Int)) (I : Nat → Bool) (F : List Int) : Nat → Prop
  | one {u v : Nat} : (u : Int) ∈ F → (v : Int) ∈ row zss u → I v = true → Rch zss I F v
  | more {u v : Nat} : Rch zss I F u → (v : Int) ∈ row zss u → I v = true → Rch zss I F v

/-- How many of the first n are not marked. -/
def cnt (xs : Nat → Bool) : Nat → Nat
  | 0 => 0
  | k + 1 => cnt xs k + if xs k = true then 0 else 1

theorem cnt_le (xs : Nat → Bool) (n : Nat) : cnt xs n ≤ n := by
  induction n with
  | zero => simp [cnt]
  | succ k ih => simp only [cnt]; split <;> omega

theorem cnt_congr {xs ys : Nat → Bool} {n : Nat} (h : ∀ i, i < n → xs i = ys i) : cnt xs n = cnt ys n := by
  induction n with
  | zero => rfl
  | succ k ih => simp only [cnt]; rw [ih (fun i hi => h i (by omega)), h k (by omega)]

/-- One more mark. -/
def mark1 (xs : Nat → Bool) (v : Nat) (b : Bool) : Nat → Bool := fun i => if i = v then b else xs i

theorem cnt_mark {xs : Nat → Bool} {n v : Nat} (hv : v < n) (hx : xs v = false) : cnt (mark1 xs v true) n + 1 = cnt xs n := by
  induction n with
  | zero => omega
  | succ k ih =>
    simp only [cnt]
    by_cases e : v = k
    · subst e
      have h1 : cnt (mark1 xs v true) v = cnt xs v := cnt_congr fun i hi => by simp [mark1, show i ≠ v from by omega]
      have h2 : mark1 xs v true v = true := by simp [mark1]
      rw [h1, h2, hx]; simp
    · have h1 := ih (by omega)
      have h2 : mark1 xs v true k = xs k := by simp [mark1, show k ≠ v from fun h => e h.symm]
      rw [h2]; omega

theorem mark1_self (xs : Nat → Bool) (v : Nat) (b : Bool) : mark1 xs v b v = b := by simp [mark1]
theorem mark1_mono {xs : Nat → Bool} {v i : Nat} (h : xs i = true) : mark1 xs v true i = true := by
  unfold mark1; split <;> simp_all

/-- The model's search: xs is marked, todo is still to be looked at. -/
structure Bey0 (zss : List (List Int)) (I : Nat → Bool) (F : List Int) (n : Nat) (xs : Nat → Bool) (todo : List Int) : Prop where
  snd : ∀ v, v < n → xs v = true → Rch zss I F v
  tin : ∀ t ∈ todo, ∃ u : Nat, t = (u : Int) ∧ u < n ∧ ((u : Int) ∈ F ∨ xs u = true)
  cmp : ∀ u : Nat, u < n → ((u : Int) ∈ F ∨ xs u = true) → (u : Int) ∈ todo ∨ ∀ v : Nat, (v : Int) ∈ row zss u → I v = true → xs v = true
  bnd : todo.length + cnt xs n ≤ F.length + n

/-- The same inside a round: p was taken, q of its successors have been looked at. -/
structure Bey (zss : List (List Int)) (I : Nat → Bool) (F : List Int) (n : Nat) (xs : Nat → Bool) (todo : List Int) (p q : Nat) : Prop where
  snd : ∀ v, v < n → xs v = true → Rch zss I F v
  tin : ∀ t ∈ todo, ∃ u : Nat, t = (u : Int) ∧ u < n ∧ ((u : Int) ∈ F ∨ xs u = true)
  cmp : ∀ u : Nat, u < n → ((u : Int) ∈ F ∨ xs u = true) → (u : Int) ∈ todo ∨ u = p ∨ ∀ v : Nat, (v : Int) ∈ row zss u → I v = true → xs v = true
  pin : (p : Int) ∈ F ∨ xs p = true
  prt : ∀ j, j < q → ∀ v : Nat, nth (row zss p) j = (v : Int) → I v = true → xs v = true
  bnd : todo.length + 1 + cnt xs n ≤ F.length + n

theorem Bey0.start {zss : List (List Int)} {I : Nat → Bool} {F : List Int} {n : Nat} (hF : ∀ f ∈ F, ∃ u : Nat, f = (u : Int) ∧ u < n) : Bey0 zss I F n (fun _ => false) F :=
  ⟨fun v _ h => by simp at h, fun t ht => (hF t ht).elim fun u hu => ⟨u, hu.1, hu.2, .inl (hu.1 ▸ ht)⟩,
    fun u _ h => by
      rcases h with h | h
      · exact .inl h
      · simp at h, by have := cnt_le (fun _ => false) n; omega⟩

theorem Bey0.take {zss : List (List Int)} {I : Nat → Bool} {F : List Int} {n : Nat} {xs : Nat → Bool} {ts : List Int} {p : Nat} (h : Bey0 zss I F n xs (ts ++ [(p : Int)])) : p < n ∧ Bey zss I F n xs ts p 0 := by
  obtain ⟨u, hu, hun, hx⟩ := h.tin (p : Int) (by simp)
  have : p = u := by omega
  subst this
  refine ⟨hun, h.snd, fun t ht => h.tin t (by simp [ht]), fun u hu hx => ?_, hx, fun j hj => by omega, by have := h.bnd; simp at this; omega⟩
  rcases h.cmp u hu hx with hm | hm
  · rcases List.mem_append.1 hm with hm | hm
    · exact .inl hm
    · simp at hm; exact .inr (.inl (by omega))
  · exact .inr (.inr hm)

theorem Bey.skip {zss : List (List Int)} {I : Nat → Bool} {F : List Int} {n : Nat} {xs : Nat → Bool} {ts : List Int} {p q u : Nat} (h : Bey zss I F n xs ts p q) (hu : nth (row zss p) q = (u : Int)) (hs : I u = false ∨ xs u = true) : Bey zss I F n xs ts p (q + 1) :=
  ⟨h.snd, h.tin, h.cmp, h.pin, fun j hj v hv hI => by
    by_cases e : j = q
    · subst e
      have : u = v := by omega
      subst this
      rcases hs with hs | hs
      · rw [hs] at hI; cases hI
      · exact hs
    · exact h.prt j (by omega) v hv hI, h.bnd⟩

theorem Bey.push {zss : List (List Int)} {I : Nat → Bool} {F : List Int} {n : Nat} {xs : Nat → Bool} {ts : List Int} {p q u : Nat} (h : Bey zss I F n xs ts p q) (hp : p < n) (hq : q < (row zss p).length) (hu : nth (row zss p) q = (u : Int)) (hun : u < n) (hI : I u = true) (hx : xs u = false) :
    Bey zss I F n (mark1 xs u true) (ts ++ [(u : Int)]) p (q + 1) := by
  have hmem : (u : Int) ∈ row zss p := by rw [← hu]; exact nth_mem hq
  refine ⟨fun v hv hm => ?_, fun t ht => ?_, fun v hv hm => ?_, ?_, fun j hj v hv hIv => ?_, ?_⟩
  · by_cases e : v = u
    · subst e
      rcases h.pin with hf | hf
      · exact .one hf hmem hI
      · exact .more (h.snd p hp hf) hmem hI
    · exact h.snd v hv (by simpa [mark1, e] using hm)
  · rcases List.mem_append.1 ht with ht | ht
    · obtain ⟨w, h1, h2, h3⟩ := h.tin t ht
      exact ⟨w, h1, h2, h3.imp_right mark1_mono⟩
    · simp at ht
      exact ⟨u, ht, hun, .inr (mark1_self _ _ _)⟩
  · by_cases e : v = u
    · subst e; exact .inl (by simp)
    · have hm' : (v : Int) ∈ F ∨ xs v = true := hm.imp_right fun hh => by simpa [mark1, e] using hh
      rcases h.cmp v hv hm' with h1 | h1 | h1
      · exact .inl (List.mem_append.2 (.inl h1))
      · exact .inr (.inl h1)
      · exact .inr (.inr fun z hz hIz => mark1_mono (h1 z hz hIz))
  · exact h.pin.imp_right mark1_mono
  · by_cases e : j = q
    · subst e
      have : u = v := by omega
      subst this
      exact mark1_self _ _ _
    · exact mark1_mono (h.prt j (by omega) v hv hIv)
  · have h1 := cnt_mark hun hx
    have h2 := h.bnd
    simp
    omega

theorem Bey.done {zss : List (List Int)} {I : Nat → Bool} {F : List Int} {n : Nat} {xs : Nat → Bool} {ts : List Int} {p q : Nat} (h : Bey zss I F n xs ts p q) (hq : (row zss p).length ≤ q) : Bey0 zss I F n xs ts :=
  ⟨h.snd, h.tin, fun u hu hx => by
    rcases h.cmp u hu hx with h1 | h1 | h1
    · exact .inl h1
    · subst h1
      refine .inr fun v hv hI => ?_
      obtain ⟨i, hi, he⟩ := mem_nth.1 hv
      exact h.prt i (by omega) v he hI
    · exact .inr h1, by have := h.bnd; omega⟩

/-- At the end all that is reached is marked. -/
theorem Bey0.all {zss : List (List Int)} {I : Nat → Bool} {F : List Int} {n : Nat} {xs : Nat → Bool} (h : Bey0 zss I F n xs []) (hin : ∀ u : Nat, u < n → ∀ v : Nat, (v : Int) ∈ row zss u → v < n) (hF : ∀ f ∈ F, ∃ u : Nat, f = (u : Int) ∧ u < n) (v : Nat) (hv : v < n) : xs v = true ↔ Rch zss I F v := by
  refine ⟨h.snd v hv, fun hr => ?_⟩
  have key : ∀ v, Rch zss I F v → v < n ∧ xs v = true := by
    intro v hr
    induction hr with
    | @one u v hf hm hI =>
      obtain ⟨u', h1, h2⟩ := hF _ hf
      have : u = u' := by omega
      subst this
      rcases h.cmp u h2 (.inl hf) with hh | hh
      · cases hh
      · exact ⟨hin u h2 v hm, hh v hm hI⟩
    | @more u v _ hm hI ih =>
      rcases h.cmp u ih.1 (.inr ih.2) with hh | hh
      · cases hh
      · exact ⟨hin u ih.1 v hm, hh v hm hI⟩
  exact (key v hr).2

/-- What is marked, rising. -/
def markedK (xs : Nat → Bool) : Nat → List Int
  | 0 => []
  | k + 1 => markedK xs k ++ if xs k = true then [(k : Int)] else []

theorem markedK_len (xs : Nat → Bool) (k : Nat) : (markedK xs k).length ≤ k := by
  induction k with
  | zero => simp [markedK]
  | succ k ih => simp only [markedK]; split <;> simp <;> omega

theorem markedK_mem (xs : Nat → Bool) (k : Nat) (x : Int) : x ∈ markedK xs k ↔ ∃ v : Nat, x = (v : Int) ∧ v < k ∧ xs v = true := by
  induction k with
  | zero => simp [markedK]
  | succ k ih =>
    simp only [markedK, List.mem_append, ih]
    constructor
    · rintro (⟨v, h1, h2, h3⟩ | h)
      · exact ⟨v, h1, by omega, h3⟩
      · split at h
        · simp at h; exact ⟨k, h, by omega, by assumption⟩
        · simp at h
    · rintro ⟨v, h1, h2, h3⟩
      by_cases e : v = k
      · subst e; right; rw [if_pos h3]; simp [h1]
      · exact .inl ⟨v, h1, by omega, h3⟩

theorem markedK_congr {xs ys : Nat → Bool} {n : Nat} (h : ∀ i, i < n → xs i = ys i) : markedK xs n = markedK ys n := by
  induction n with
  | zero => rfl
  | succ k ih => simp only [markedK]; rw [ih (fun i hi => h i (by omega)), h k (by omega)]

theorem markedK_fits (xs : Nat → Bool) (k : Nat) (hk : k ≤ 17592186044416) : ∀ j, j < (markedK xs k).length → Fits (nth (markedK xs k) j) := fun j hj => by
  obtain ⟨v, h1, h2, _⟩ := (markedK_mem xs k _).1 (nth_mem hj)
  unfold Fits; omega

open Classical in
/-- Reached from F by any number of steps. -/
noncomputable def reachM (zss : List (List Int)) (F : List Int) : Nat → Bool := fun v => decide ((v : Int) ∈ F ∨ Rch zss (fun _ => true) F v)

open Classical in
/-- The value of ReachOf. -/
noncomputable def reachL (O : List Int) (zss : List (List Int)) (F : List Int) : List Int := if ArenaP O zss ∧ setB O.length F = true then markedK (reachM zss F) zss.length else []
end
end

section
open Go.RowKit

theorem info_bool : (Try.prog.info? 4).map (fun i => (i.zero, i.size, i.bytes)) = some (some (.bool false), 1, 1) := by kernel_rfl

/-- What a row of marks reads as. -/
def marksV (xs : Nat → Bool) : Nat → Value := fun i => .bool (xs i)

theorem marks_set {w : World} {b n v : Nat} {t : TypeId} {xs : Nat → Bool} {c : Bool} (h : w.rowIs b t n (marksV xs)) : (w.setCell ⟨b, v, none⟩ (.bool c)).rowIs b t n (marksV (mark1 xs v c)) := by
  refine (h.set v _).congr fun i _ => ?_
  simp only [marksV, mark1]
  by_cases e : i = v
  · subst e; simp
  · simp [e]

end

section
open Go.RowKit

theorem rowIs_only {S : Nat → Prop} {w w' : World} {g n : Nat} {t : TypeId} {f : Nat → Value} (h : w.rowIs g t n f) (hk : Only S w w') (hs : ¬ S g) : w'.rowIs g t n f := h.of_block (hk.block g h.lt hs)

theorem own_top {w : World} {B n : Nat} {e : TypeId} {v : Value} {xs : List Value} (h : w.ownsRow B e 1 v n xs) (hn : 0 < n) : ∃ g cap, v = .slice (some ⟨g, 0, none⟩) n cap ∧ n ≤ cap ∧ cap ≤ maxLen ∧ B ≤ g := by
  rcases h.2 with ⟨_, h0⟩ | ⟨g, cap, cur, hv, hg, _, hc, hm, _⟩
  · omega
  · exact ⟨g, cap, hv, hc, hm, hg⟩

open Classical in
/-- How many cells of a block of marks are not set. -/
noncomputable def cntW (w : World) (b n : Nat) : Nat := cnt (fun k => decide (w.cell? ⟨b, k, none⟩ = some (.bool true))) n

theorem cntW_of {w : World} {b n : Nat} {t : TypeId} {xs : Nat → Bool} (h : w.rowIs b t n (marksV xs)) : cntW w b n = cnt xs n := by
  refine cnt_congr fun i hi => ?_
  have hc := h.cell hi
  rw [hc]
  by_cases hb : xs i = true
  · simp [marksV, hb]
  · have hb' : xs i = false := by simpa using hb
    simp [marksV, hb']

theorem own_shape {w : World} {B n : Nat} {e : TypeId} {v : Value} {xs : List Value} (h : w.ownsRow B e 1 v n xs) : ∃ a c, v = .slice a n c := by
  rcases h.2 with ⟨hv, h0⟩ | ⟨g, cap, cur, hv, _⟩
  · exact ⟨_, _, by rw [hv, h0]⟩
  · exact ⟨_, _, hv⟩

def lenOf : Value → Nat
  | .slice _ n _ => n
  | _ => 0

theorem lenOf_own {w : World} {B n : Nat} {e : TypeId} {v : Value} {xs : List Value} (h : w.ownsRow B e 1 v n xs) : lenOf v = n := by
  rcases h.2 with ⟨hv, h0⟩ | ⟨g, cap, cur, hv, _⟩
  · rw [hv, h0]; rfl
  · rw [hv]; rfl

open Classical in
/-- What l1Beyond marks. -/
noncomputable def beyM (zss : List (List Int)) (I : Nat → Bool) (F : List Int) : Nat → Bool := fun v => decide (Rch zss I F v)

end

section
section
open Go.RowKit

/-- One call after another; what each leaves behind is appended. -/
def dfsL (step : (Nat → Bool) → Nat → (Nat → Bool) × List Int) : (Nat → Bool) → List Int → (Nat → Bool) × List Int
  | o, [] => (o, [])
  | o, u :: us => ((dfsL step (step o u.toNat).1 us).1, (step o u.toNat).2 ++ (dfsL step (step o u.toNat).1 us).2)

/-- What the walk from v leaves open, and what it leaves behind, in its order. -/
def dfs (zss : List (List Int)) : Nat → (Nat → Bool) → Nat → (Nat → Bool) × List Int
  | 0, o, _ => (o, [])
  | f + 1, o, v => if o v = true then ((dfsL (dfs zss f) (mark1 o v false) (row zss v)).1, (dfsL (dfs zss f) (mark1 o v false) (row zss v)).2 ++ [(v : Int)]) else (o, [])

theorem dfsL_snoc (step : (Nat → Bool) → Nat → (Nat → Bool) × List Int) (us : List Int) (u : Int) : ∀ o, dfsL step o (us ++ [u]) = ((step (dfsL step o us).1 u.toNat).1, (dfsL step o us).2 ++ (step (dfsL step o us).1 u.toNat).2) := by
  induction us with
  | nil => intro o; simp [dfsL]
  | cons x xs ih => intro o; simp [dfsL, ih, List.append_assoc]

/-- How many of the first n are open. -/
def opens (o : Nat → Bool) : Nat → Nat
  | 0 => 0
  | k + 1 => opens o k + if o k = true then 1 else 0

theorem opens_le (o : Nat → Bool) (n : Nat) : opens o n ≤ n := by
  induction n with
  | zero => simp [opens]
  | succ k ih => simp only [opens]; split <;> omega

theorem opens_mono {o o' : Nat → Bool} {n : Nat} (h : ∀ i, i < n → o' i = true → o i = true) : opens o' n ≤ opens o n := by
  induction n with
  | zero => simp [opens]
  | succ k ih =>
    have h1 := ih (fun i hi => h i (by omega))
    simp only [opens]
    by_cases e : o' k = true
    · rw [if_pos e, if_pos (h k (by omega) e)]; omega
    · rw [if_neg e]; omega

theorem opens_shut {o : Nat → Bool} {n v : Nat} (hv : v < n) (ho : o v = true) : opens (mark1 o v false) n + 1 = opens o n := by
  induction n with
  | zero => omega
  | succ k ih =>
    simp only [opens]
    by_cases e : v = k
    · subst e
      have h1 : opens (mark1 o v false) v = opens o v := by
        apply Nat.le_antisymm
        · exact opens_mono fun i hi h => by simpa [mark1, show i ≠ v from by omega] using h
        · exact opens_mono fun i hi h => by simpa [mark1, show i ≠ v from by omega] using h
      rw [h1, mark1_self, ho]; simp
    · have h1 := ih (by omega)
      have h2 : mark1 o v false k = o k := by simp [mark1, show k ≠ v from fun h => e h.symm]
      rw [h2]; omega

/-- A step that opens nothing. -/
def Shuts (step : (Nat → Bool) → Nat → (Nat → Bool) × List Int) : Prop := ∀ o v i, (step o v).1 i = true → o i = true

theorem dfsL_shuts {step : (Nat → Bool) → Nat → (Nat → Bool) × List Int} (h : Shuts step) (us : List Int) : ∀ o i, (dfsL step o us).1 i = true → o i = true := by
  induction us with
  | nil => intro o i hi; exact hi
  | cons u us ih => intro o i hi; exact h o _ i (ih _ i hi)

theorem dfs_shuts (zss : List (List Int)) : ∀ f, Shuts (dfs zss f) := by
  intro f
  induction f with
  | zero => intro o v i h; exact h
  | succ f ih =>
    intro o v i h
    simp only [dfs] at h
    split at h
    · have := dfsL_shuts ih _ _ _ h
      simp only [mark1] at this
      split at this
      · simp at this
      · exact this
    · exact h

def tri (a b c : Value) : Nat → Value := fun i => if i = 0 then a else if i = 1 then b else c

theorem tri_set {a b c d : Value} : ∀ i, i < 3 → (if i = 2 then d else tri a b c i) = tri a b d i := fun i hi => by
  have h : i = 0 ∨ i = 1 ∨ i = 2 := by omega
  rcases h with rfl | rfl | rfl <;> simp [tri]

theorem dfsL_len {step : (Nat → Bool) → Nat → (Nat → Bool) × List Int} {n : Nat} (h : ∀ o v, v < n → (step o v).2.length + opens (step o v).1 n ≤ opens o n) (us : List Int) (hus : ∀ x ∈ us, ∃ v : Nat, x = (v : Int) ∧ v < n) : ∀ o, (dfsL step o us).2.length + opens (dfsL step o us).1 n ≤ opens o n := by
  induction us with
  | nil => intro o; simp [dfsL]
  | cons u us ih =>
    intro o
    obtain ⟨v, h1, h2⟩ := hus u (by simp)
    subst h1
    have h3 := h o v h2
    have h4 := ih (fun x hx => hus x (by simp [hx])) (step o v).1
    simp only [dfsL, Int.toNat_natCast, List.length_append]
    omega

theorem dfs_len {zss : List (List Int)} (hin : ∀ u : Nat, u < zss.length → ∀ x ∈ row zss u, ∃ v : Nat, x = (v : Int) ∧ v < zss.length) : ∀ f o v, v < zss.length → (dfs zss f o v).2.length + opens (dfs zss f o v).1 zss.length ≤ opens o zss.length := by
  intro f
  induction f with
  | zero => intro o v _; simp [dfs]
  | succ f ih =>
    intro o v hv
    simp only [dfs]
    split
    · next ho =>
      have h1 := opens_shut hv ho
      have h2 := dfsL_len (step := dfs zss f) ih (row zss v) (hin v hv) (mark1 o v false)
      simp only [List.length_append, List.length_singleton]
      omega
    · simp

end

section
open Go.RowKit

/-- 0, ..., n-1. -/
def upL (n : Nat) : List Int := (List.range n).map (fun (i : Nat) => Int.ofNat i)
theorem upL_len (n : Nat) : (upL n).length = n := by simp [upL]
theorem upL_nth {n i : Nat} (h : i < n) : nth (upL n) i = i := by simp [nth, upL, h]

def upPart (k : Nat) : Nat → Value := fun i => if i < k then .int .i64 i else .int .i64 0

theorem up_step {w : World} {g n k : Nat} {t : TypeId} (h : w.rowIs g t n (upPart k)) : (w.setCell ⟨g, k, none⟩ (.int .i64 k)).rowIs g t n (upPart (k + 1)) := by
  refine (h.set k _).congr fun i _ => ?_
  simp only [upPart]
  by_cases e : i = k
  · subst e; simp
  · by_cases hlt : i < k
    · rw [if_neg e, if_pos hlt, if_pos (by omega)]
    · rw [if_neg e, if_neg hlt, if_neg (by omega)]

set_option maxHeartbeats 1000000 in
theorem upTo_is (n : Nat) (hn : n ≤ 1048576) (w : World) :
    Calls Try.prog 72 #[.int .i64 n] w fun e w' => e = .returned (.slice (some ⟨w.heap.size, 0, none⟩) n n) ∧ IntsAt w' (some ⟨w.heap.size, 0, none⟩) (upL n) ∧ Below w.heap.size w w' := by
  have hmk := run_make_row' (P := Try.prog) 27 2 (.int .i64 0) 8 Try.underlying27 info_int rfl .i64 .i64 n (by omega) (by omega)
  go_enter Try.func72, Try.ntmps72
  go_wp2
  go_loopw [9] (fun i wr => ∃ k : Nat, k ≤ n ∧ i = .int .i64 k ∧ Hid (wr.rowIs w.heap.size 2 n (upPart k)) ∧ Hid (Below w.heap.size w wr)) (fun i _ => n - (intOf i).toNat)
  case atStart => exact ⟨0, Nat.zero_le _, rfl, (World.rowIs_made _ _ _ _).congr (fun i _ => by simp [upPart]), below1 _ _⟩
  case round =>
    clear hmk
    obtain ⟨k, hk, rfl, HR, HB⟩ := hrel
    by_cases hlt : k < n
    · have hcs := HR.out.cell hlt
      have hcf := HR.out.frozen k
      have hi1 : (k : Int) < n := by omega
      go_wp2
      go_roundw
      case rel => exact ⟨k + 1, by omega, by go_num, up_step HR.out, HB.out.setCell (Nat.le_refl _) _⟩
      case measure => simp [intOf]; omega
    · have HE : Hid (IntsAt wr (some ⟨w.heap.size, 0, none⟩) (upL n)) :=
        ⟨by rw [upL_len]; omega, fun i hi => by rw [upL_len] at hi; rw [upL_nth hi]; unfold Fits; omega, fun _ => ⟨_, _, rfl, fun i hi => by
          rw [upL_len] at hi
          rw [Nat.zero_add, HR.out.cell hi, upL_nth hi]; simp only [upPart]; rw [if_pos (by omega)]⟩⟩
      have hi1 : ¬ (k : Int) < n := by omega
      have hi2 : ¬ k < n := hlt
      go_wp2
      go_ret
      exact ⟨rfl, HE.out, HB.out⟩

/-- What is open at first: the elements of a list. -/
def openS (S : List Int) (k : Nat) : Nat → Bool := fun v => decide ((v : Int) ∈ S.take k)

theorem openS_succ {S : List Int} {k u : Nat} (hk : k < S.length) (hu : nth S k = (u : Int)) : openS S (k + 1) = mark1 (openS S k) u true := by
  funext v
  have ht : S.take (k + 1) = S.take k ++ [(u : Int)] := by
    rw [List.take_add_one, List.getElem?_eq_getElem hk, ← hu, nth_eq hk]; rfl
  by_cases e : v = u
  · subst e; simp [mark1, openS, ht]
  · have e' : (v : Int) ≠ (u : Int) := by omega
    simp [mark1, openS, ht, e, e']

end
end

section
open Go.RowKit

def fnL (n : Nat) (f : Nat → Int) : List Int := (List.range n).map f
theorem fnL_len (n : Nat) (f : Nat → Int) : (fnL n f).length = n := by simp [fnL]
theorem fnL_nth {n i : Nat} {f : Nat → Int} (h : i < n) : nth (fnL n f) i = f i := by simp [nth, fnL, h]
theorem fnL_succ (n : Nat) (f : Nat → Int) : fnL (n + 1) f = fnL n f ++ [f n] := by simp [fnL, List.range_succ]
theorem fnL_congr {n : Nat} {f g : Nat → Int} (h : ∀ i, i < n → f i = g i) : fnL n f = fnL n g := List.map_congr_left fun i hi => h i (List.mem_range.1 hi)
theorem fnL_eq {n : Nat} {f g : Nat → Int} (h : fnL n f = fnL n g) : ∀ i, i < n → f i = g i := fun i hi => by
  have := congrArg (fun l => nth l i) h
  simpa [fnL_nth hi] using this
theorem fnL_set {n u : Nat} {f : Nat → Int} {x : Int} : (fnL n f).set u x = fnL n (fun i => if i = u then x else f i) := by
  apply List.ext_getElem?
  intro i
  by_cases hi : i < n
  · by_cases e : i = u
    · subst e; simp [fnL, hi]
    · simp [fnL, hi, e, Ne.symm e]
  · simp [fnL, hi]

/-- The slice at the head of block g owns f's values. -/
def OwnF (w : World) (B g cap n : Nat) (f : Nat → Int) : Prop := OwnInts w B w.heap.size (.slice (some ⟨g, 0, none⟩) n cap) (fnL n f)

theorem OwnF.row {w : World} {B g cap n : Nat} {f : Nat → Int} (h : OwnF w B g cap n f) : w.ownsRow B 2 1 (.slice (some ⟨g, 0, none⟩) n cap) n ((fnL n f).map (Value.int .i64)) := by
  have := h.own
  rw [fnL_len] at this
  exact this
theorem OwnF.lt {w : World} {B g cap n : Nat} {f : Nat → Int} (h : OwnF w B g cap n f) : B ≤ g ∧ g < w.heap.size := h.own.lt g rfl
theorem OwnF.ints {w : World} {B g cap n : Nat} {f : Nat → Int} (h : OwnF w B g cap n f) : IntsAt w (some ⟨g, 0, none⟩) (fnL n f) := by
  obtain ⟨a, c, hv, hi, _⟩ := h.shape
  simp only [Value.slice.injEq] at hv
  rw [hv.1]
  exact hi
theorem OwnF.cell {w : World} {B g cap n u : Nat} {f : Nat → Int} (h : OwnF w B g cap n f) (hu : u < n) : w.cell? ⟨g, u, none⟩ = some (.int .i64 (f u)) := by
  rw [h.row.cellAt u (by omega)]
  simp [fnL, hu]
theorem OwnF.frozen {w : World} {B g cap n : Nat} {f : Nat → Int} (h : OwnF w B g cap n f) (u : Nat) : w.frozen? ⟨g, u, none⟩ = false := h.row.frozenAt u
theorem OwnF.only {w w' : World} {S : Nat → Prop} {B g cap n : Nat} {f : Nat → Int} (h : OwnF w B g cap n f) (hk : Only S w w') (hs : ¬ S g) : OwnF w' B g cap n f :=
  (OwnInts.only h hk (fun b hb => by simp [Value.ownBlock] at hb; subst hb; exact hs)).retop
theorem OwnF.congr {w : World} {B g cap n : Nat} {f f' : Nat → Int} (h : OwnF w B g cap n f) (he : ∀ i, i < n → f i = f' i) : OwnF w B g cap n f' := by
  unfold OwnF at *; rw [← fnL_congr he]; exact h
theorem OwnF.put {w : World} {B g cap n u : Nat} {f : Nat → Int} {x : Int} (h : OwnF w B g cap n f) (hx : Fits x) : OwnF (w.setCell ⟨g, u, none⟩ (.int .i64 x)) B g cap n (fun i => if i = u then x else f i) := by
  obtain ⟨hs, _⟩ := h.row.stored u (.int .i64 x)
  have hm : ((fnL n f).map (Value.int .i64)).set u (.int .i64 x) = (fnL n (fun i => if i = u then x else f i)).map (Value.int .i64) := by rw [← fnL_set, List.map_set]
  rw [hm] at hs
  refine OwnInts.mk' (by rw [fnL_len]; exact hs) (by rw [fnL_len]; have := h.len; rw [fnL_len] at this; exact this) fun k hk => ?_
  rw [fnL_len] at hk
  rw [fnL_nth hk]
  have hf := h.fits k (by rw [fnL_len]; exact hk)
  rw [fnL_nth hk] at hf
  by_cases e : k = u
  · rw [if_pos e]; exact hx
  · rw [if_neg e]; exact hf
end

section
open Go.RowKit

/-- What was there in each of these worlds is there still. -/
def Keep : List World → World → Prop
  | [], _ => True
  | a :: l, w => Below a.heap.size a w ∧ Keep l w
theorem Keep.step : ∀ {l : List World} {w w' : World}, Keep l w → Below w.heap.size w w' → Keep l w'
  | [], _, _, _, _ => trivial
  | _ :: _, _, _, h, hb => ⟨h.1.trans (hb.mono h.1.size), Keep.step h.2 hb⟩
theorem Keep.add {l : List World} {w : World} (h : Keep l w) : Keep (w :: l) w := ⟨Below.refl _ _, h⟩
theorem Keep.only : ∀ {l : List World} {w w' : World} {S : Nat → Prop}, Keep l w → Only S w w' → (∀ a ∈ l, ∀ b, S b → a.heap.size ≤ b) → Keep l w'
  | [], _, _, _, _, _, _ => trivial
  | a :: l, _, _, _, h, ho, hs => ⟨h.1.trans (ho.below h.1.size (hs a (by simp))), Keep.only h.2 ho fun a ha => hs a (by simp [ha])⟩
theorem only2 {a b : World} {B D : Nat} (ha : a.heap.size ≤ B) (hb : b.heap.size ≤ B) : ∀ x ∈ [b, a], ∀ k, (B ≤ k ∧ k < D) → x.heap.size ≤ k := fun x hx k hk => by
  simp only [List.mem_cons, List.not_mem_nil, or_false] at hx
  rcases hx with rfl | rfl <;> omega
theorem only3 {a b c : World} {B D : Nat} (ha : a.heap.size ≤ B) (hb : b.heap.size ≤ B) (hc : c.heap.size ≤ B) : ∀ x ∈ [c, b, a], ∀ k, (B ≤ k ∧ k < D) → x.heap.size ≤ k := fun x hx k hk => by
  simp only [List.mem_cons, List.not_mem_nil, or_false] at hx
  rcases hx with rfl | rfl | rfl <;> omega

theorem toArena_own {w : World} {v : Value} {O : List Int} {zss : List (List Int)} (h : ArenaAt w v O zss) (hn : zss.length ≤ 1048576) :
    Calls Try.prog 47 #[v] w (GivesArena w O zss) :=
  (toArena_at h hn).mono fun _ _ ⟨he, hc, _⟩ => ⟨_, he, hc.owned h, hc.below⟩
theorem toInts_own {w : World} {v : Value} {zs : List Int} (h : IntsV w v zs) :
    Calls Try.prog 22 #[v] w (GivesInts w zs) := toInts_at h
theorem heldInts_own {w : World} {v : Value} {k r : Int} {n : Nat} (hr : k + (n : Int) = r) (h : IntsV w v (marks k n)) (h0 : 0 ≤ k) (h1 : k ≤ 1152921504606846976) :
    Calls Try.prog 57 #[v, .int .i64 k] w fun e w' => e = .returned (.int .i64 r) ∧ Below w.heap.size w w' :=
  (heldInts_is hr h h0 h1).mono fun _ _ ⟨he, hw⟩ => ⟨he, hw ▸ Below.refl _ _⟩

theorem OwnArena.shape2 {w : World} {B D : Nat} {v : Value} {O : List Int} {zss : List (List Int)} (h : OwnArena w B D v O zss) : ∃ a0 c0 a1 c1, v = .agg #[.slice a0 O.length c0, .slice a1 zss.length c1] := by
  obtain ⟨ao, an, co, cn, A, C, hv, _, _⟩ := h.at
  exact ⟨ao, co, an, cn, hv⟩
theorem OwnInts.shape2 {w : World} {B D : Nat} {v : Value} {zs : List Int} (h : OwnInts w B D v zs) : ∃ a c, v = .slice a zs.length c := by
  obtain ⟨a, c, hv, _, _⟩ := h.shape
  exact ⟨a, c, hv⟩
theorem IntsV.at {w : World} {a : Option Addr} {n c : Nat} {zs : List Int} (h : IntsV w (.slice a n c) zs) : IntsAt w a zs := by
  obtain ⟨a', c', hv, hi⟩ := h
  cases hv; exact hi
end

section
open Go.RowKit

/-- What one walk from the vertices us does. -/
structure WalkP (zss : List (List Int)) (o : Nat → Bool) (us : List Int) (r : (Nat → Bool) × List Int) : Prop where
  shut : ∀ i, r.1 i = true → o i = true
  mem : ∀ i, i < zss.length → ((i : Int) ∈ r.2 ↔ o i = true ∧ r.1 i = false)
  nat : ∀ x ∈ r.2, ∃ i : Nat, x = (i : Int) ∧ i < zss.length
  nodup : r.2.Nodup
  reach : ∀ i, i < zss.length → o i = true → r.1 i = false → (i : Int) ∈ us ∨ Rch zss (fun _ => true) us i
  clos : ∀ i, i < zss.length → o i = true → r.1 i = false → ∀ j : Nat, (j : Int) ∈ row zss i → r.1 j = false
  self : ∀ u : Nat, (u : Int) ∈ us → r.1 u = false

theorem rch_mono {zss : List (List Int)} {I : Nat → Bool} {F G : List Int} (h : ∀ x ∈ F, x ∈ G) {v : Nat} (hr : Rch zss I F v) : Rch zss I G v := by
  induction hr with
  | one hf hm hI => exact .one (h _ hf) hm hI
  | more _ hm hI ih => exact .more ih hm hI

theorem rch_from {zss : List (List Int)} {I : Nat → Bool} {F : List Int} {w : Nat} (hw : ∀ u : Nat, (u : Int) ∈ F → (u : Int) ∈ row zss w ∧ I u = true) {G : List Int} (hG : (w : Int) ∈ G) {v : Nat} (hr : Rch zss I F v) : Rch zss I G v := by
  induction hr with
  | one hf hm hI => exact .more (.one hG (hw _ hf).1 (hw _ hf).2) hm hI
  | more _ hm hI ih => exact .more ih hm hI

theorem WalkP.list {zss : List (List Int)} {step : (Nat → Bool) → Nat → (Nat → Bool) × List Int} {m : Nat} (h : ∀ o v, v < zss.length → opens o zss.length < m → WalkP zss o [(v : Int)] (step o v)) (us : List Int) (hus : ∀ x ∈ us, ∃ v : Nat, x = (v : Int) ∧ v < zss.length) :
    ∀ o, opens o zss.length < m → WalkP zss o us (dfsL step o us) := by
  induction us with
  | nil => intro o _; exact ⟨fun i h => h, fun i _ => by simp [dfsL], fun x hx => by simp [dfsL] at hx, by simp [dfsL], fun i _ h1 h2 => by simp [dfsL, h1] at h2, fun i _ h1 h2 => by simp [dfsL, h1] at h2, fun u hu => by simp at hu⟩
  | cons u us ih =>
    intro o ho
    obtain ⟨v, hv, hvn⟩ := hus u (by simp)
    subst hv
    have h1 := h o v hvn ho
    have h2 := ih (fun x hx => hus x (by simp [hx])) (step o v).1 (Nat.lt_of_le_of_lt (opens_mono fun i _ hi => h1.shut i hi) ho)
    have hstay : ∀ i, (step o v).1 i = false → (dfsL step (step o v).1 us).1 i = false := fun i hi => by
      cases hb : (dfsL step (step o v).1 us).1 i with
      | false => rfl
      | true => rw [h2.shut i hb] at hi; cases hi
    refine ⟨fun i hi => ?_, fun i hi => ?_, fun x hx => ?_, ?_, fun i hi hoi hr => ?_, fun i hi hoi hr j hj => ?_, fun w hw => ?_⟩
    · simp only [dfsL, Int.toNat_natCast] at hi
      exact h1.shut i (h2.shut i hi)
    · simp only [dfsL, Int.toNat_natCast, List.mem_append, h1.mem i hi, h2.mem i hi]
      constructor
      · rintro (⟨ha, hb⟩ | ⟨ha, hb⟩)
        · exact ⟨ha, hstay i hb⟩
        · exact ⟨h1.shut i ha, hb⟩
      · rintro ⟨ha, hb⟩
        cases hc : (step o v).1 i with
        | false => exact .inl ⟨ha, rfl⟩
        | true => exact .inr ⟨rfl, hb⟩
    · simp only [dfsL, Int.toNat_natCast, List.mem_append] at hx
      exact hx.elim (h1.nat x) (h2.nat x)
    · simp only [dfsL, Int.toNat_natCast]
      refine List.nodup_append.2 ⟨h1.nodup, h2.nodup, fun a ha b hb hab => ?_⟩
      subst hab
      obtain ⟨i, rfl, hi⟩ := h1.nat a ha
      have q1 := ((h1.mem i hi).1 ha).2
      have q2 := ((h2.mem i hi).1 hb).1
      rw [q1] at q2; cases q2
    · simp only [dfsL, Int.toNat_natCast] at hr
      cases hc : (step o v).1 i with
      | false =>
        rcases h1.reach i hi hoi hc with hh | hh
        · left; simp at hh; simp; left; omega
        · right; exact rch_mono (fun x hx => by simp at hx; simp [hx]) hh
      | true =>
        rcases h2.reach i hi hc hr with hh | hh
        · left; simp [hh]
        · right; exact rch_mono (fun x hx => by simp [hx]) hh
    · simp only [dfsL, Int.toNat_natCast] at hr ⊢
      cases hc : (step o v).1 i with
      | false => exact hstay j (h1.clos i hi hoi hc j hj)
      | true => exact h2.clos i hi hc hr j hj
    · simp only [dfsL, Int.toNat_natCast]
      simp only [List.mem_cons] at hw
      rcases hw with hw | hw
      · exact hstay w (h1.self w (by simp; omega))
      · exact h2.self w hw

theorem dfs_walk {zss : List (List Int)} (hin : ∀ u : Nat, u < zss.length → ∀ x ∈ row zss u, ∃ v : Nat, x = (v : Int) ∧ v < zss.length) : ∀ f o v, v < zss.length → opens o zss.length < f → WalkP zss o [(v : Int)] (dfs zss f o v) := by
  intro f
  induction f with
  | zero => intro o v _ h; omega
  | succ f ih =>
    intro o v hv hf
    cases ho : o v with
    | false =>
      have hd : dfs zss (f + 1) o v = (o, []) := by simp [dfs, ho]
      rw [hd]
      refine ⟨fun i h => h, fun i _ => by simp, fun x hx => by simp at hx, by simp, fun i _ h1 h2 => by simp [h1] at h2, fun i _ h1 h2 => by simp [h1] at h2, fun u hu => ?_⟩
      have hu' : u = v := by simp at hu; omega
      subst hu'
      exact ho
    | true =>
      have hs := opens_shut hv ho
      have h := WalkP.list (m := f) ih (row zss v) (hin v hv) (mark1 o v false) (by omega)
      have hd : dfs zss (f + 1) o v = ((dfsL (dfs zss f) (mark1 o v false) (row zss v)).1, (dfsL (dfs zss f) (mark1 o v false) (row zss v)).2 ++ [(v : Int)]) := by simp [dfs, ho]
      rw [hd]
      have hvf : (dfsL (dfs zss f) (mark1 o v false) (row zss v)).1 v = false := by
        cases hb : (dfsL (dfs zss f) (mark1 o v false) (row zss v)).1 v with
        | false => rfl
        | true => have := h.shut v hb; simp [mark1] at this
      have hne : ∀ i, i ≠ v → mark1 o v false i = o i := fun i hi => by simp [mark1, hi]
      refine ⟨fun i hi => ?_, fun i hi => ?_, fun x hx => ?_, ?_, fun i hi hoi hr => ?_, fun i hi hoi hr j hj => ?_, fun w hw => ?_⟩
      · have := h.shut i hi
        by_cases e : i = v
        · subst e; exact ho
        · rwa [hne i e] at this
      · simp only [List.mem_append, h.mem i hi, List.mem_singleton]
        by_cases e : i = v
        · subst e; simp [hvf, ho]
        · rw [hne i e]
          constructor
          · rintro (h1 | h1)
            · exact h1
            · omega
          · exact .inl
      · rcases List.mem_append.1 hx with hx | hx
        · exact h.nat x hx
        · exact ⟨v, by simpa using hx, hv⟩
      · refine List.nodup_append.2 ⟨h.nodup, by simp, fun a ha b hb hab => ?_⟩
        subst hab
        have hb' : a = (v : Int) := by simpa using hb
        subst hb'
        have := ((h.mem v hv).1 ha).1
        simp [mark1] at this
      · by_cases e : i = v
        · subst e; left; simp
        · right
          rcases h.reach i hi (by rw [hne i e]; exact hoi) hr with hh | hh
          · exact .one (by simp) hh rfl
          · exact rch_from (w := v) (fun u hu => ⟨hu, rfl⟩) (by simp) hh
      · by_cases e : i = v
        · subst e; exact h.self j hj
        · exact h.clos i hi (by rw [hne i e]; exact hoi) hr j hj
      · have : w = v := by simp at hw; omega
        subst this; exact hvf

theorem markedK_rising (xs : Nat → Bool) (k : Nat) : (markedK xs k).Pairwise (· < ·) := by
  induction k with
  | zero => simp [markedK]
  | succ k ih =>
    simp only [markedK]
    refine List.pairwise_append.2 ⟨ih, by split <;> simp, fun a ha b hb => ?_⟩
    obtain ⟨v, rfl, hv, _⟩ := (markedK_mem xs k a).1 ha
    split at hb
    · simp at hb; omega
    · simp at hb

/-- What the walk from F leaves behind, sorted, is what is reached. -/
theorem walk_sorted {zss : List (List Int)} (hin : ∀ u : Nat, u < zss.length → ∀ x ∈ row zss u, ∃ v : Nat, x = (v : Int) ∧ v < zss.length) {F : List Int} (hF : ∀ x ∈ F, ∃ v : Nat, x = (v : Int) ∧ v < zss.length) {o : Nat → Bool} (ho : ∀ i, i < zss.length → o i = true) {f : Nat} (hf : opens o zss.length < f) :
    ((dfsL (dfs zss f) o F).2.mergeSort fun x y => decide (x ≤ y)) = markedK (reachM zss F) zss.length := by
  have h := WalkP.list (m := f) (dfs_walk hin f) F hF o hf
  have key : ∀ v, Rch zss (fun _ => true) F v → v < zss.length ∧ (dfsL (dfs zss f) o F).1 v = false := by
    intro v hr
    induction hr with
    | @one u v hu hm _ =>
      obtain ⟨u', h1, h2⟩ := hF _ hu
      have e : u = u' := by omega
      subst e
      obtain ⟨v', h3, h4⟩ := hin u h2 _ hm
      exact ⟨by omega, h.clos u h2 (ho u h2) (h.self u hu) v hm⟩
    | @more u v _ hm _ ih =>
      obtain ⟨v', h3, h4⟩ := hin u ih.1 _ hm
      exact ⟨by omega, h.clos u ih.1 (ho u ih.1) ih.2 v hm⟩
  have hmem : ∀ x, x ∈ (dfsL (dfs zss f) o F).2 ↔ x ∈ markedK (reachM zss F) zss.length := by
    intro x
    rw [markedK_mem]
    constructor
    · intro hx
      obtain ⟨i, rfl, hi⟩ := h.nat x hx
      have h2 := (h.mem i hi).1 hx
      exact ⟨i, rfl, hi, by simpa [reachM] using h.reach i hi h2.1 h2.2⟩
    · rintro ⟨v, rfl, hv, hr⟩
      refine (h.mem v hv).2 ⟨ho v hv, ?_⟩
      have hr' : (v : Int) ∈ F ∨ Rch zss (fun _ => true) F v := by simpa [reachM] using hr
      rcases hr' with hh | hh
      · exact h.self v hh
      · exact (key v hh).2
  have hnd : (markedK (reachM zss F) zss.length).Nodup := (markedK_rising _ _).imp fun hab => by omega
  have hp : ((dfsL (dfs zss f) o F).2.mergeSort fun x y => decide (x ≤ y)).Perm (markedK (reachM zss F) zss.length) :=
    (List.mergeSort_perm _ _).trans ((List.perm_ext_iff_of_nodup h.nodup hnd).2 hmem)
  refine hp.eq_of_pairwise (le := fun x y => x ≤ y) (fun a b _ _ h1 h2 => by omega) ?_ ((markedK_rising _ _).imp fun hab => by omega)
  have := List.pairwise_mergeSort (le := fun x y : Int => decide (x ≤ y)) (fun a b c h1 h2 => by simp at *; omega) (fun a b => by simp; omega) (dfsL (dfs zss f) o F).2
  exact this.imp fun hab => by simpa using hab
end

section
section
open Go.RowKit

end

section
open Go.RowKit

theorem set_nats {n : Nat} {zs : List Int} (h : setB n zs = true) : ∀ f ∈ zs, ∃ u : Nat, f = (u : Int) ∧ u < n := fun f hf => by
  obtain ⟨i, hi, he⟩ := mem_nth.1 hf
  obtain ⟨h0, h1, _⟩ := setB_bounds h hi
  exact ⟨f.toNat, by omega, by omega⟩

theorem arena_nats {O : List Int} {zss : List (List Int)} (h : ArenaP O zss) : ∀ u : Nat, u < zss.length → ∀ x ∈ row zss u, ∃ v : Nat, x = (v : Int) ∧ v < zss.length := fun u hu x hx => by
  have hl := h.2.2.1
  obtain ⟨v, h1, h2⟩ := set_nats (h.2.2.2 u (by omega)).2.2.2 x hx
  exact ⟨v, h1, by omega⟩

open Classical in
/-- What is marked when k of the starts are marked, too. -/
noncomputable def fromK (zss : List (List Int)) (F : List Int) (k : Nat) : Nat → Bool := fun v => decide ((v : Int) ∈ F.take k ∨ Rch zss (fun _ => true) F v)

theorem fromK_zero (zss : List (List Int)) (F : List Int) : fromK zss F 0 = beyM zss (fun _ => true) F := by
  funext v; unfold fromK beyM; congr 1; simp
theorem fromK_all (zss : List (List Int)) (F : List Int) : fromK zss F F.length = reachM zss F := by
  funext v; simp [fromK, reachM]
theorem fromK_succ {zss : List (List Int)} {F : List Int} {k u : Nat} (hk : k < F.length) (hu : nth F k = (u : Int)) : fromK zss F (k + 1) = mark1 (fromK zss F k) u true := by
  funext v
  have ht : F.take (k + 1) = F.take k ++ [(u : Int)] := by
    rw [List.take_add_one, List.getElem?_eq_getElem hk, ← hu, nth_eq hk]; rfl
  by_cases e : v = u
  · subst e; simp [mark1, fromK, ht]
  · have e' : (v : Int) ≠ (u : Int) := by omega
    simp [mark1, fromK, ht, e, e']

end
end

section
section
open Go.RowKit

theorem bits_and_small (x m : Int) (h0 : 0 ≤ m) (h1 : m ≤ 1073741823) : 0 ≤ bits .and .i64 x m ∧ bits .and .i64 x m ≤ m := by
  have hm : (BitVec.ofInt 64 m).toNat = m.toNat := by
    obtain ⟨k, rfl⟩ := Int.eq_ofNat_of_zero_le h0
    rw [BitVec.ofInt_natCast, BitVec.toNat_ofNat]; exact Nat.mod_eq_of_lt (by omega)
  have hle : (BitVec.ofInt 64 x &&& BitVec.ofInt 64 m).toNat ≤ m.toNat := by
    rw [BitVec.toNat_and, hm]; exact Nat.and_le_right
  have hb : bits .and .i64 x m = IntKind.i64.wrap ((BitVec.ofInt 64 x &&& BitVec.ofInt 64 m).toNat : Int) := rfl
  rw [hb]
  generalize (BitVec.ofInt 64 x &&& BitVec.ofInt 64 m).toNat = q at hle
  have hw : IntKind.i64.wrap (q : Int) = q := by
    have hq : q < 4294967296 := by omega
    simp only [IntKind.wrap, IntKind.bits, IntKind.signed]
    simp
    omega
  rw [hw]
  omega

theorem tri_set2 {a b c d : Value} : ∀ i, i < 3 → (if i = 2 then d else tri a b c i) = tri a b d i := tri_set
theorem tri_set1 {a b c d : Value} : ∀ i, i < 3 → (if i = 1 then d else tri a b c i) = tri a d c i := fun i hi => by
  have h : i = 0 ∨ i = 1 ∨ i = 2 := by omega
  rcases h with rfl | rfl | rfl <;> simp [tri]

end

section
open Go.RowKit

end
end

end Go.Proofs.Ytihaajcmephlmaa
