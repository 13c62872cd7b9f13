/-
  Several texts in one: Mem, Arena, SpecArena, Base1, Walks1, Draw1, Parity.
-/
import Derived.WalkKit
import Derived.WalkSpells
import Derived.WalkLawsBesides
import Derived.Test.YtihaajcmephlmaaDoorRows
import Derived.LoopTactic
import Derived.Deep.QuietTactic
import Derived.BigQuiet
import Derived.Outline
import Derived.Lib.Hide
import Derived.Deep.DeepFit
import Derived.IntWalk
import Derived.Deep.OwnRows
import Derived.Maps.AppendAt
import Derived.Deep.AppendSrc
import Derived.Laws.AppendOwnNone
import Derived.Deep.RegionLaw
import Derived.Deep.AppendLies
import Derived.WalkSmall
import Derived.Deep.RegionHeld3
import Derived.Laws.Closers25b
namespace Go.Proofs.YtihaajcmephlmaaDoor
section
open Go.RowKit

/-- Element k of a list of numbers. -/
def nth (zs : List Int) (k : Nat) : Int := zs.getD k 0
/-- Row k of a list of rows. -/
def row (zss : List (List Int)) (k : Nat) : List Int := zss.getD k []

theorem nth_eq {zs : List Int} {k : Nat} (h : k < zs.length) : nth zs k = zs[k] := by simp [nth, h]
def Fits (z : Int) : Prop := -9223372036854775808 ≤ z ∧ z ≤ 9223372036854775807

/-- A slice whose address is a reads in w as the numbers zs. -/
structure IntsAt (w : World) (a : Option Addr) (zs : List Int) : Prop where
  len : zs.length ≤ 17592186044416
  fits : ∀ k, k < zs.length → Fits (nth zs k)
  cell : 0 < zs.length → ∃ b off, a = some ⟨b, off, none⟩ ∧ ∀ k, k < zs.length → w.cell? ⟨b, off + k, none⟩ = some (.int .i64 (nth zs k))

/-- A slice whose address is a reads in w as the rows zss; row k has the address A k and the capacity C k. -/
structure RowsAt (w : World) (a : Option Addr) (A : Nat → Option Addr) (C : Nat → Nat) (zss : List (List Int)) : Prop where
  len : zss.length ≤ 17592186044416
  cell : 0 < zss.length → ∃ b off, a = some ⟨b, off, none⟩ ∧ ∀ k, k < zss.length → w.cell? ⟨b, off + k, none⟩ = some (.slice (A k) (row zss k).length (C k))
  rows : ∀ k, k < zss.length → IntsAt w (A k) (row zss k)

theorem Below.cell_some {B : Nat} {w w' : World} (h : Below w.heap.size w w') (_hB : B = B) {p : Addr} {v : Value} (hc : w.cell? p = some v) : w'.cell? p = some v :=
  (h.cell (World.block_lt_of_cell? w p hc)).trans hc

theorem IntsAt.below {w w' : World} {a : Option Addr} {zs : List Int} (h : IntsAt w a zs) (hb : Below w.heap.size w w') : IntsAt w' a zs :=
  ⟨h.len, h.fits, fun h0 => by
    obtain ⟨b, off, ha, hc⟩ := h.cell h0
    exact ⟨b, off, ha, fun k hk => Below.cell_some (B := 0) hb rfl (hc k hk)⟩⟩

theorem RowsAt.below {w w' : World} {a : Option Addr} {A : Nat → Option Addr} {C : Nat → Nat} {zss : List (List Int)} (h : RowsAt w a A C zss) (hb : Below w.heap.size w w') : RowsAt w' a A C zss :=
  ⟨h.len, fun h0 => by
    obtain ⟨b, off, ha, hc⟩ := h.cell h0
    exact ⟨b, off, ha, fun k hk => Below.cell_some (B := 0) hb rfl (hc k hk)⟩, fun k hk => (h.rows k hk).below hb⟩

/-- Block g is a box of two cells. -/
def Box2 (w : World) (g : Nat) (t : TypeId) (u v : Value) : Prop := w.heap[g]? = some (.cells #[u, v] t (0, 0))

theorem Box2.lt {w : World} {g : Nat} {t : TypeId} {u v : Value} (h : Box2 w g t u v) : g < w.heap.size := (Array.getElem?_eq_some_iff.1 h).1
theorem Box2.cell0 {w : World} {g : Nat} {t : TypeId} {u v : Value} (h : Box2 w g t u v) : w.cell? ⟨g, 0, none⟩ = some u := by unfold Box2 at h; simp [World.cell?, h]
theorem Box2.cell1 {w : World} {g : Nat} {t : TypeId} {u v : Value} (h : Box2 w g t u v) : w.cell? ⟨g, 1, none⟩ = some v := by unfold Box2 at h; simp [World.cell?, h]
theorem Box2.frozen {w : World} {g : Nat} {t : TypeId} {u v : Value} (h : Box2 w g t u v) (k : Nat) : w.frozen? ⟨g, k, none⟩ = false := by unfold Box2 at h; simp [World.frozen?, h]
theorem Box2.below {w w' : World} {g : Nat} {t : TypeId} {u v : Value} (h : Box2 w g t u v) (hb : Below w.heap.size w w') : Box2 w' g t u v := (hb.block g h.lt).trans h
theorem Box2.alloc {w : World} {g : Nat} {t : TypeId} {u v : Value} (h : Box2 w g t u v) (o : Obj) : Box2 (w.alloc o) g t u v := h.below ((Below.refl _ _).alloc (Nat.le_refl _) _)
theorem Box2.new (w : World) (t : TypeId) (u v : Value) : Box2 (w.alloc (.cells #[u, v] t)) w.heap.size t u v := heap_alloc_new w _
theorem Box2.new_at {w : World} {g : Nat} (hg : g = w.heap.size) (t : TypeId) (u v : Value) : Box2 (w.alloc (.cells #[u, v] t)) g t u v := by subst hg; exact heap_alloc_new w _
theorem Box2.other {w : World} {g : Nat} {t : TypeId} {u v : Value} (h : Box2 w g t u v) {a : Addr} (hn : g ≠ a.block) (x : Value) : Box2 (w.setCell a x) g t u v := (Below.heap_setCell w a x g hn).trans h
theorem Box2.set0 {w : World} {g : Nat} {t : TypeId} {u v : Value} (h : Box2 w g t u v) (x : Value) : Box2 (w.setCell ⟨g, 0, none⟩ x) g t x v := by
  unfold Box2 at *; simp [World.setCell, Array.getElem?_modify, h]
theorem Box2.set1 {w : World} {g : Nat} {t : TypeId} {u v : Value} (h : Box2 w g t u v) (x : Value) : Box2 (w.setCell ⟨g, 1, none⟩ x) g t u x := by
  unfold Box2 at *; simp [World.setCell, Array.getElem?_modify, h]

theorem IntsAt.alloc {w : World} {a : Option Addr} {zs : List Int} (h : IntsAt w a zs) (o : Obj) : IntsAt (w.alloc o) a zs := h.below ((Below.refl _ _).alloc (Nat.le_refl _) _)
theorem RowsAt.alloc {w : World} {a : Option Addr} {A : Nat → Option Addr} {C : Nat → Nat} {zss : List (List Int)} (h : RowsAt w a A C zss) (o : Obj) : RowsAt (w.alloc o) a A C zss := h.below ((Below.refl _ _).alloc (Nat.le_refl _) _)
theorem below1 (w : World) (o : Obj) : Below w.heap.size w (w.alloc o) := (Below.refl _ _).alloc (Nat.le_refl _) _
theorem below2 (w : World) (o o' : Obj) : Below w.heap.size w ((w.alloc o).alloc o') := ((Below.refl _ _).alloc (Nat.le_refl _) o).alloc (by simp) o'
theorem ret_bool {a b : Bool} (h : a = b) : Ending.returned (.bool a) = .returned (.bool b) := by rw [h]
theorem ret_i64 {a b : Int} (h : a = b) : Ending.returned (.int .i64 a) = .returned (.int .i64 b) := by rw [h]

/-- A struct of two slices that reads as an arena. -/
def ArenaAt (w : World) (v : Value) (O : List Int) (zss : List (List Int)) : Prop :=
  ∃ ao an co cn A C, v = .agg #[.slice ao O.length co, .slice an zss.length cn] ∧ IntsAt w ao O ∧ RowsAt w an A C zss

theorem ArenaAt.below {w w' : World} {v : Value} {O : List Int} {zss : List (List Int)} (h : ArenaAt w v O zss) (hb : Below w.heap.size w w') : ArenaAt w' v O zss := by
  obtain ⟨ao, an, co, cn, A, C, hv, h1, h2⟩ := h
  exact ⟨ao, an, co, cn, A, C, hv, h1.below hb, h2.below hb⟩
theorem ArenaAt.alloc {w : World} {v : Value} {O : List Int} {zss : List (List Int)} (h : ArenaAt w v O zss) (o : Obj) : ArenaAt (w.alloc o) v O zss := h.below (below1 _ _)
end

section
/-- From the k-th element on the list rises, stays below n, and begins above 'last'. -/
def setFrom (n : Int) (last : Int) : List Int → Bool
  | [] => true
  | v :: r => decide (last < v ∧ v < n) && setFrom n v r

/-- A set of numbers from 0 to n-1. -/
def setB (n : Int) (zs : List Int) : Bool := setFrom n (-1) zs

/-- The element before the k-th; -1 before the first. -/
def lastAt (zs : List Int) (k : Nat) : Int := if k = 0 then -1 else nth zs (k - 1)

theorem setFrom_drop (n : Int) (zs : List Int) (k : Nat) (h : k < zs.length) : setFrom n (lastAt zs k) (zs.drop k) = (decide (lastAt zs k < nth zs k ∧ nth zs k < n) && setFrom n (lastAt zs (k + 1)) (zs.drop (k + 1))) := by
  rw [List.drop_eq_getElem_cons h, setFrom]
  have : lastAt zs (k + 1) = zs[k] := by simp [lastAt, nth_eq h]
  rw [this, nth_eq h]

theorem setFrom_no (n : Int) (zs : List Int) (k : Nat) (h : k < zs.length) (hc : nth zs k ≤ lastAt zs k ∨ n ≤ nth zs k) : setFrom n (lastAt zs k) (zs.drop k) = false := by
  rw [setFrom_drop n zs k h, decide_eq_false (by omega)]; rfl

theorem setFrom_yes (n : Int) (zs : List Int) (k : Nat) (h : k < zs.length) (h1 : lastAt zs k < nth zs k) (h2 : nth zs k < n) : setFrom n (lastAt zs k) (zs.drop k) = setFrom n (lastAt zs (k + 1)) (zs.drop (k + 1)) := by
  rw [setFrom_drop n zs k h, decide_eq_true ⟨h1, h2⟩]; rfl

theorem setFrom_end (n l : Int) (zs : List Int) (k : Nat) (h : zs.length ≤ k) : setFrom n l (zs.drop k) = true := by
  rw [List.drop_eq_nil_of_le h]; rfl

theorem setFrom_len (n : Int) (zs : List Int) : ∀ l, l ≤ n - 1 → setFrom n l zs = true → (zs.length : Int) ≤ n - 1 - l := by
  induction zs with
  | nil => intro l h _; simp; omega
  | cons v r ih =>
    intro l h hs
    simp only [setFrom, Bool.and_eq_true, decide_eq_true_eq] at hs
    have := ih v (by omega) hs.2
    simp only [List.length_cons]
    omega

theorem setB_len {n : Int} {zs : List Int} (h0 : 0 ≤ n) (h : setB n zs = true) : (zs.length : Int) ≤ n := by
  have := setFrom_len n zs (-1) (by omega) h
  omega

/-- x from lo to hi. -/
def inB (x lo hi : Int) : Bool := decide (lo ≤ x ∧ x ≤ hi)
theorem inB_yes {x lo hi : Int} (h1 : lo ≤ x) (h2 : x ≤ hi) : inB x lo hi = true := by simp [inB, h1, h2]
theorem inB_no {x lo hi : Int} (h : x < lo ∨ hi < x) : inB x lo hi = false := by simp [inB]; omega

/-- Is x in the list? -/
def hasB (zs : List Int) (x : Int) : Bool := decide (x ∈ zs)

theorem mem_nth {zs : List Int} {x : Int} : x ∈ zs ↔ ∃ k, k < zs.length ∧ nth zs k = x := by
  rw [List.mem_iff_getElem]
  constructor
  · rintro ⟨k, hk, h⟩; exact ⟨k, hk, by rw [nth_eq hk, h]⟩
  · rintro ⟨k, hk, h⟩; exact ⟨k, hk, by rw [← nth_eq hk, h]⟩

theorem hasB_iff {zs : List Int} {x : Int} : hasB zs x = true ↔ x ∈ zs := by simp [hasB]

/-- Where x stands first; -1 where it does not. -/
def idx (zs : List Int) (x : Int) : Int := if x ∈ zs then (zs.idxOf x : Int) else -1

theorem idxOf_first : ∀ (zs : List Int) (x : Int) (k : Nat), k < zs.length → nth zs k = x → (∀ j, j < k → nth zs j ≠ x) → zs.idxOf x = k
  | [], _, _, h, _, _ => absurd h (by simp)
  | z :: r, x, 0, _, h, _ => by
    have : z = x := by simpa [nth] using h
    simp [this]
  | z :: r, x, k + 1, hk, h, hj => by
    have h0 : z ≠ x := by simpa [nth] using hj 0 (by omega)
    have ih := idxOf_first r x k (by simpa using hk) (by simpa [nth] using h) (fun j hjk => by simpa [nth] using hj (j + 1) (by omega))
    have hz : (z == x) = false := by simp [h0]
    simp [List.idxOf_cons, hz, ih]

theorem idx_at {zs : List Int} {x : Int} {k : Nat} (hk : k < zs.length) (h : nth zs k = x) (hj : ∀ j, j < k → nth zs j ≠ x) : idx zs x = k := by
  unfold idx; rw [if_pos (mem_nth.2 ⟨k, hk, h⟩), idxOf_first zs x k hk h hj]
theorem idx_none {zs : List Int} {x : Int} (hj : ∀ j, j < zs.length → nth zs j ≠ x) : idx zs x = -1 := by
  unfold idx; rw [if_neg (fun hm => by obtain ⟨k, hk, e⟩ := mem_nth.1 hm; exact hj k hk e)]

/-- What ArenaOk asks of one vertex. -/
def VertexP (O : List Int) (zss : List (List Int)) (k : Nat) : Prop :=
  (nth O k = 0 ∨ nth O k = 1) ∧ 1 ≤ (row zss k).length ∧ (row zss k).length ≤ 16 ∧ setB O.length (row zss k) = true

/-- A valid arena. -/
def ArenaP (O : List Int) (zss : List (List Int)) : Prop :=
  1 ≤ O.length ∧ O.length ≤ 256 ∧ zss.length = O.length ∧ ∀ k, k < O.length → VertexP O zss k

noncomputable def arenaB (O : List Int) (zss : List (List Int)) : Bool := @decide (ArenaP O zss) (Classical.propDecidable _)

theorem arenaB_yes {O : List Int} {zss : List (List Int)} (h : ArenaP O zss) : arenaB O zss = true := by simp [arenaB, h]
theorem arenaB_no {O : List Int} {zss : List (List Int)} (h : ¬ ArenaP O zss) : arenaB O zss = false := by simp [arenaB, h]
theorem arenaB_iff {O : List Int} {zss : List (List Int)} : arenaB O zss = true ↔ ArenaP O zss := by simp [arenaB]

theorem arenaB_vertex {O : List Int} {zss : List (List Int)} {k : Nat} (hk : k < O.length) (h : ¬ VertexP O zss k) : arenaB O zss = false :=
  arenaB_no fun ⟨_, _, _, hv⟩ => h (hv k hk)
end

end Go.Proofs.YtihaajcmephlmaaDoor
namespace Go.Proofs.YtihaajcmephlmaaDoor
open Go.RowKit


set_option maxHeartbeats 400000 in
theorem isSet_any (a : Option Addr) (zs : List Int) (cap : Nat) (n : Int) (w : World) (h : IntsAt w a zs) (_hn : Fits n) :
    Calls Tryd.prog 93 #[.slice a zs.length cap, .int .i64 n] w fun e w' => e = .returned (.bool (setB n zs)) ∧ w = w' := by
  obtain ⟨hlen, hfit, hcell⟩ := h
  unfold Fits at _hn
  have HS : Hid (setFrom n (lastAt zs 0) (zs.drop 0) = setB n zs) := rfl
  have HC := Lib.hid hcell
  have HF := Lib.hid hfit
  clear hcell hfit
  go_enter Tryd.func93, Tryd.ntmps93
  go_wp2
  go_loop [5, 10] (fun l i => ∃ k : Nat, k ≤ zs.length ∧ i = .int .i64 k ∧ l = .int .i64 (lastAt zs k) ∧ Hid (setFrom n (lastAt zs k) (zs.drop k) = setB n zs))
    (fun _ i => zs.length - (intOf i).toNat)
  case atStart => exact ⟨0, Nat.zero_le _, rfl, rfl, HS⟩
  case round =>
    obtain ⟨k, hk, rfl, rfl, HK⟩ := hrel
    by_cases hlt : k < zs.length
    · obtain ⟨b, off, ha, hc⟩ := HC.out (by omega)
      subst ha
      have hck := hc k hlt
      have hfk := HF.out k hlt
      clear hc
      have HL : Hid (lastAt zs (k + 1) = nth zs k) := by simp [Hid, lastAt]
      unfold Fits at hfk
      by_cases hA : nth zs k ≤ lastAt zs k
      · have hA' : decide (nth zs k ≤ lastAt zs k) = true := by simpa using hA
        have HN := setFrom_no n zs k hlt (Or.inl hA)
        have HE : Hid (setB n zs = false) := by rw [← HK.out]; exact HN
        clear HN
        go_wp2
        go_ret
        exact ⟨ret_bool HE.out.symm, rfl⟩
      · by_cases hB : n ≤ nth zs k
        · have HN := setFrom_no n zs k hlt (Or.inr hB)
          have HE : Hid (setB n zs = false) := by rw [← HK.out]; exact HN
          clear HN
          go_wp2
          go_ret
          exact ⟨ret_bool HE.out.symm, rfl⟩
        · have HE : Hid (setFrom n (lastAt zs (k + 1)) (zs.drop (k + 1)) = setB n zs) := by
            have := HK.out
            rw [setFrom_yes n zs k hlt (by omega) (by omega)] at this; exact this
          go_wp2
          go_round
          case rel => exact ⟨k + 1, by omega, by go_num, by rw [HL.out], HE⟩
          case measure => simp [intOf]; omega
    · have HE : Hid (setB n zs = true) := by rw [← HK.out]; exact setFrom_end _ _ _ _ (by omega)
      go_wp2
      go_ret
      exact ⟨ret_bool HE.out.symm, rfl⟩

theorem isSet_is {a : Option Addr} {zs : List Int} {n : Int} {r : Bool} (hr : setB n zs = r) (cap : Nat) (w : World) (h : IntsAt w a zs) (hn : Fits n) :
    Calls Tryd.prog 93 #[.slice a zs.length cap, .int .i64 n] w fun e w' => e = .returned (.bool r) ∧ w = w' := by
  subst hr
  exact isSet_any a zs cap n w h hn



set_option maxHeartbeats 2000000 in
set_option maxRecDepth 100000 in
theorem ArenaOk_any (ao an : Option Addr) (O : List Int) (zss : List (List Int)) (co cn : Nat) (A : Nat → Option Addr) (C : Nat → Nat) (w : World) (hO : IntsAt w ao O) (hN : RowsAt w an A C zss) :
    Calls Tryd.prog 78 #[.agg #[.slice ao O.length co, .slice an zss.length cn]] w fun e w' => e = .returned (.bool (arenaB O zss)) ∧ Below w.heap.size w w' := by
  have hO1 := (hO.alloc (.cells #[.slice ao O.length co, .slice an zss.length cn] 31)).alloc (.cells #[.slice ao O.length co, .slice an zss.length cn] 31)
  have hN1 := (hN.alloc (.cells #[.slice ao O.length co, .slice an zss.length cn] 31)).alloc (.cells #[.slice ao O.length co, .slice an zss.length cn] 31)
  have hlO := hO.len
  have hlN := hN.len
  clear hO hN
  have HO := Lib.hid hO1
  have HN := Lib.hid hN1
  clear hO1 hN1
  by_cases h1 : O.length < 1
  · have HE : Hid (arenaB O zss = false) := arenaB_no fun h => by have := h.1; omega
    go_enter Tryd.func78, Tryd.ntmps78
    go_wp2
    go_ret
    exact ⟨ret_bool HE.out.symm, below2 _ _ _⟩
  · by_cases h2 : 256 < O.length
    · have HE : Hid (arenaB O zss = false) := arenaB_no fun h => by have := h.2.1; omega
      go_enter Tryd.func78, Tryd.ntmps78
      go_wp2
      go_ret
      exact ⟨ret_bool HE.out.symm, below2 _ _ _⟩
    · by_cases h3 : zss.length = O.length
      · have h3' : ((zss.length : Int) != (O.length : Int)) = false := by simp [h3]
        have HL := Lib.hid h3
        have h3a : zss.length ≤ O.length := by omega
        have h3b : O.length ≤ zss.length := by omega
        clear h3
        go_enter Tryd.func78, Tryd.ntmps78
        go_wp2
        go_loop [26] (fun i => ∃ k : Nat, k ≤ O.length ∧ i = .int .i64 k ∧ Hid (∀ j, j < k → VertexP O zss j)) (fun i => O.length - (intOf i).toNat)
        case atStart => exact ⟨0, Nat.zero_le _, rfl, fun j hj => absurd hj (Nat.not_lt_zero _)⟩
        case round =>
          obtain ⟨k, hk, rfl, HK⟩ := hrel
          by_cases hlt : k < O.length
          · obtain ⟨b, off, ha, hc⟩ := HO.out.cell (by omega)
            subst ha
            have hck := hc k hlt
            clear hc
            obtain ⟨bn, offn, hn, hcn⟩ := HN.out.cell (by omega)
            subst hn
            have hcnk := hcn k (by omega)
            clear hcn
            by_cases h4 : nth O k = 0 ∨ nth O k = 1
            · have h4' : (nth O k != 0) = false ∨ ((nth O k != 0) = true ∧ (nth O k != 1) = false) := by rcases h4 with h | h <;> simp [h]
              have H4 := Lib.hid h4
              clear h4
              have hltz : k < zss.length := by omega
              have HR := HN.out.rows k hltz
              have hlr := HR.len
              by_cases h5 : (row zss k).length < 1
              · have HE : Hid (arenaB O zss = false) := arenaB_vertex hlt fun h => by have := h.2.1; omega
                rcases h4' with h4' | ⟨h4', h4''⟩
                all_goals
                  go_wp2
                  go_ret
                  exact ⟨ret_bool HE.out.symm, below2 _ _ _⟩
              · by_cases h6 : 16 < (row zss k).length
                · have HE : Hid (arenaB O zss = false) := arenaB_vertex hlt fun h => by have := h.2.2.1; omega
                  rcases h4' with h4' | ⟨h4', h4''⟩
                  all_goals
                    go_wp2
                    go_ret
                    exact ⟨ret_bool HE.out.symm, below2 _ _ _⟩
                · by_cases h7 : setB O.length (row zss k) = true
                  · have HV : Hid (∀ j, j < k + 1 → VertexP O zss j) := fun j hj => by
                      by_cases hj' : j < k
                      · exact HK.out j hj'
                      · obtain rfl : j = k := by omega
                        exact ⟨H4.out, by omega, by omega, h7⟩
                    have HC := isSet_is h7 (C k) _ HR (n := O.length) (by unfold Fits; omega)
                    have HC' := Lib.hid HC
                    clear HC h7
                    rcases h4' with h4' | ⟨h4', h4''⟩
                    all_goals
                      go_wp2_with (go_at_call 93; refine HC'.out.mono ?_; rintro e w' ⟨rfl, rfl⟩)
                      go_round
                      case rel => exact ⟨k + 1, by omega, by go_num, HV⟩
                      case measure => simp [intOf]; omega
                  · have h7' : setB O.length (row zss k) = false := by simpa using h7
                    have HE : Hid (arenaB O zss = false) := arenaB_vertex hlt fun h => h7 h.2.2.2
                    have HC := isSet_is h7' (C k) _ HR (n := O.length) (by unfold Fits; omega)
                    have HC' := Lib.hid HC
                    clear HC h7 h7'
                    rcases h4' with h4' | ⟨h4', h4''⟩
                    all_goals
                      go_wp2_with (go_at_call 93; refine HC'.out.mono ?_; rintro e w' ⟨rfl, rfl⟩)
                      go_ret
                      exact ⟨ret_bool HE.out.symm, below2 _ _ _⟩
            · have HE : Hid (arenaB O zss = false) := arenaB_vertex hlt fun h => h4 h.1
              have h4' : (nth O k != 0) = true := by simp; omega
              have h4'' : (nth O k != 1) = true := by simp; omega
              clear h4
              go_wp2
              go_ret
              exact ⟨ret_bool HE.out.symm, below2 _ _ _⟩
          · have HE : Hid (arenaB O zss = true) := arenaB_yes ⟨by omega, by omega, HL.out, fun j hj => HK.out j (by omega)⟩
            go_wp2
            go_ret
            exact ⟨ret_bool HE.out.symm, below2 _ _ _⟩
      · have HE : Hid (arenaB O zss = false) := arenaB_no fun h => h3 h.2.2.1
        have h3' : ((zss.length : Int) != (O.length : Int)) = true := by simp; omega
        clear h3
        go_enter Tryd.func78, Tryd.ntmps78
        go_wp2
        go_ret
        exact ⟨ret_bool HE.out.symm, below2 _ _ _⟩

theorem ArenaOk_at {w : World} {v : Value} {O : List Int} {zss : List (List Int)} {r : Bool} (hr : arenaB O zss = r) (h : ArenaAt w v O zss) :
    Calls Tryd.prog 78 #[v] w fun e w' => e = .returned (.bool r) ∧ Below w.heap.size w w' := by
  obtain ⟨ao, an, co, cn, A, C, rfl, h1, h2⟩ := h
  subst hr
  exact ArenaOk_any ao an O zss co cn A C w h1 h2

end Go.Proofs.YtihaajcmephlmaaDoor
namespace Go.Proofs.YtihaajcmephlmaaDoor
open Go.RowKit

theorem quiet_eq {P : Program} {f : FuncId} {args : Array Value} {w : World} {n : Nat} {v : Value}
    (h : Calls P f args (w.drewN n) fun e w' => e = .returned v ∧ w.drewN n = w') : Calls P f args (w.drewN n) fun e w'' => e = .returned v ∧ ∃ m, w'' = w.drewN m :=
  h.mono fun _ _ ⟨he, hm⟩ => ⟨he, n, hm.symm⟩

set_option maxHeartbeats 400000 in
theorem l1In_any (x lo hi : Int) (w : World) : Calls Tryd.prog 60 #[.int .i64 x, .int .i64 lo, .int .i64 hi] w fun e w' => e = .returned (.bool (inB x lo hi)) ∧ w = w' := by
  by_cases h1 : lo ≤ x
  · by_cases h2 : x ≤ hi
    · have HE := Lib.hid (inB_yes h1 h2)
      go_enter Tryd.func60, Tryd.ntmps60
      go_wp2
      go_ret
      exact ⟨ret_bool HE.out.symm, rfl⟩
    · have HE := Lib.hid (inB_no (x := x) (lo := lo) (hi := hi) (by omega))
      go_enter Tryd.func60, Tryd.ntmps60
      go_wp2
      go_ret
      exact ⟨ret_bool HE.out.symm, rfl⟩
  · have HE := Lib.hid (inB_no (x := x) (lo := lo) (hi := hi) (by omega))
    go_enter Tryd.func60, Tryd.ntmps60
    go_wp2
    go_ret
    exact ⟨ret_bool HE.out.symm, rfl⟩

theorem l1In_is {x lo hi : Int} {r : Bool} (hr : inB x lo hi = r) (w : World) : Calls Tryd.prog 60 #[.int .i64 x, .int .i64 lo, .int .i64 hi] w fun e w' => e = .returned (.bool r) ∧ w = w' := by
  subst hr; exact l1In_any x lo hi w

theorem lastAt_ge {zs : List Int} {k : Nat} (h : ∀ j, j < k → 0 ≤ nth zs j) : -1 ≤ lastAt zs k := by
  unfold lastAt
  split
  · omega
  · have := h (k - 1) (by omega); omega

theorem drewn {w wr : World} {m : Nat} (h : ∃ q, wr = w.drewN q) : ∃ q, wr.drewN m = w.drewN q := by
  obtain ⟨q, rfl⟩ := h
  exact ⟨q + m, by rw [World.drewN_drewN]⟩

set_option maxHeartbeats 1000000 in
theorem l1Rises_any (a : Option Addr) (zs : List Int) (cap : Nat) (n : Int) (w : World) (h : IntsAt w a zs) (_h0 : 0 ≤ n) (_hn : n ≤ 4611686018427387904) :
    Calls Tryd.prog 98 #[.slice a zs.length cap, .int .i64 n] w fun e w' => e = .returned (.bool (setB n zs)) ∧ ∃ q, w' = w.drewN q := by
  obtain ⟨hlen, hfit, hcell⟩ := h
  have HS : Hid (setFrom n (lastAt zs 0) (zs.drop 0) = setB n zs) := rfl
  have HC := Lib.hid hcell
  clear hcell hfit
  go_enter Tryd.func98, Tryd.ntmps98
  go_wp2
  go_loopw [5] (fun i wr => ∃ k : Nat, k ≤ zs.length ∧ i = .int .i64 k ∧ Hid (setFrom n (lastAt zs k) (zs.drop k) = setB n zs) ∧ Hid (∀ j, j < k → 0 ≤ nth zs j) ∧ Hid (∃ q, wr = w.drewN q))
    (fun i _ => zs.length - (intOf i).toNat)
  case atStart => exact ⟨0, Nat.zero_le _, rfl, HS, fun j hj => absurd hj (Nat.not_lt_zero _), ⟨0, rfl⟩⟩
  case round =>
    obtain ⟨k, hk, rfl, HK, HP, HW⟩ := hrel
    have hwc : ∀ a, wr.cell? a = w.cell? a := fun a => by obtain ⟨q, hq⟩ := HW.out; rw [hq]; simp
    by_cases hlt : k < zs.length
    · obtain ⟨b, off, ha, hc⟩ := HC.out (by omega)
      subst ha
      have hck := (hwc _).trans (hc k hlt)
      have hcp : 0 < k → wr.cell? ⟨b, off + (k - 1), none⟩ = some (.int .i64 (nth zs (k - 1))) := fun h => (hwc _).trans (hc (k - 1) (by omega))
      clear hc hwc
      have hw1 : IntKind.i64.wrap (n - 1) = n - 1 := IntWalk.i64_in _ (by omega)
      have HW1 := Lib.hid hw1
      clear hw1
      have hi1 : (k : Int) < zs.length := by omega
      have hi6 : IntKind.i64.wrap ((k : Int) - 1) = (k : Int) - 1 := IntWalk.i64_in _ (by omega)
      have HI6 := Lib.hid hi6
      clear hi6
      by_cases hr : 0 ≤ nth zs k ∧ nth zs k ≤ n - 1
      · have HA := Lib.hid (l1In_is (inB_yes hr.1 hr.2))
        have HQ : Hid (∀ j, j < k + 1 → 0 ≤ nth zs j) := fun j hj => by
          by_cases hj' : j < k
          · exact HP.out j hj'
          · obtain rfl : j = k := by omega
            exact hr.1
        by_cases hz : k = 0
        · have hz' : ¬ (0 : Int) < k := by omega
          have hz'' : decide ((0 : Int) < (k : Int)) = false := by simpa using hz'
          have hz3 : decide (0 < k) = false := by simpa using hz
          have HE : Hid (setFrom n (lastAt zs (k + 1)) (zs.drop (k + 1)) = setB n zs) := by
            have := HK.out
            rw [setFrom_yes n zs k hlt (by subst hz; simp [lastAt]; omega) (by omega)] at this; exact this
          clear hz hcp
          have hw1 := HW1.out
          go_wp2
          go_quiet ((go_at_call 60; exact quiet_eq (HA.out _)))
          go_wp2
          go_roundw
          case rel => exact ⟨k + 1, by omega, by go_num, HE, HQ, drewn HW.out⟩
          case measure => simp [intOf]; omega
        · have hkm : 0 < k := by omega
          have hcm := hcp hkm
          clear hcp
          have HL : Hid (lastAt zs k = nth zs (k - 1)) := by simp only [Hid, lastAt]; rw [if_neg hz]
          have hi2 : (0 : Int) < k := by omega
          have hi3 : (k : Int) - 1 < zs.length := by omega
          have hi4 : (0 : Int) ≤ (k : Int) - 1 := by omega
          by_cases hle : nth zs k ≤ nth zs (k - 1)
          · have HN := setFrom_no n zs k hlt (Or.inl (by rw [HL.out]; exact hle))
            have HE : Hid (setB n zs = false) := by rw [← HK.out]; exact HN
            clear HN
            have hi5 : ((k : Int) - 1).toNat = k - 1 := by omega
            have hi6 := HI6.out
            have hw1 := HW1.out
            go_wp2
            go_quiet ((go_at_call 60; exact quiet_eq (HA.out _)))
            go_wp2
            go_ret
            exact ⟨ret_bool HE.out.symm, drewn HW.out⟩
          · have HE : Hid (setFrom n (lastAt zs (k + 1)) (zs.drop (k + 1)) = setB n zs) := by
              have := HK.out
              rw [setFrom_yes n zs k hlt (by rw [HL.out]; omega) (by omega)] at this; exact this
            have hi5 : ((k : Int) - 1).toNat = k - 1 := by omega
            have hi6 := HI6.out
            have hw1 := HW1.out
            go_wp2
            go_quiet ((go_at_call 60; exact quiet_eq (HA.out _)))
            clear hi5 hi6 hw1
            go_wp2
            go_roundw
            case rel => exact ⟨k + 1, by omega, by go_num, HE, HQ, drewn HW.out⟩
            case measure => simp [intOf]; omega
      · have HA := Lib.hid (l1In_is (inB_no (x := nth zs k) (lo := 0) (hi := n - 1) (by omega)))
        have HE : Hid (setB n zs = false) := by
          rw [← HK.out]
          refine setFrom_no n zs k hlt ?_
          have := lastAt_ge HP.out
          omega
        clear hcp
        have hw1 := HW1.out
        go_wp2
        go_quiet ((go_at_call 60; exact quiet_eq (HA.out _)))
        go_wp2
        go_ret
        exact ⟨ret_bool HE.out.symm, drewn HW.out⟩
    · have HE : Hid (setB n zs = true) := by rw [← HK.out]; exact setFrom_end _ _ _ _ (by omega)
      clear hwc
      go_wp2
      go_ret
      exact ⟨ret_bool HE.out.symm, HW.out⟩

theorem l1Rises_is {a : Option Addr} {zs : List Int} {n : Int} {r : Bool} (hr : setB n zs = r) (cap : Nat) (w : World) (h : IntsAt w a zs) (h0 : 0 ≤ n) (hn : n ≤ 4611686018427387904) :
    Calls Tryd.prog 98 #[.slice a zs.length cap, .int .i64 n] w fun e w' => e = .returned (.bool r) ∧ ∃ q, w' = w.drewN q := by
  subst hr; exact l1Rises_any a zs cap n w h h0 hn

set_option maxHeartbeats 400000 in
theorem l1Set_is {a : Option Addr} {zs : List Int} {n : Int} {r : Bool} (hr : setB n zs = r) (cap : Nat) (w : World) (h : IntsAt w a zs) (_h0 : 0 ≤ n) (_hn : n ≤ 4611686018427387904) :
    Calls Tryd.prog 89 #[.slice a zs.length cap, .int .i64 n] w fun e w' => e = .returned (.bool r) ∧ ∃ q, w' = w.drewN q := by
  have hl := h.len
  by_cases hle : (zs.length : Int) ≤ n
  · have HC := Lib.hid (l1Rises_is hr cap w h _h0 _hn)
    clear hr h
    go_enter Tryd.func89, Tryd.ntmps89
    go_wp2_with (go_at_call 98; refine HC.out.mono ?_; rintro e w' ⟨rfl, HW⟩)
    go_ret
    exact ⟨rfl, HW⟩
  · have HE : Hid (r = false) := by
      rw [← hr]
      cases hb : setB n zs with
      | false => rfl
      | true => exact absurd (setB_len _h0 hb) hle
    clear hr h
    go_enter Tryd.func89, Tryd.ntmps89
    go_wp2
    go_ret
    exact ⟨ret_bool HE.out.symm, 0, rfl⟩

theorem below_drewN {B : Nat} {a w : World} (h : Below B a w) (n : Nat) : Below B a (w.drewN n) := ⟨h.os, h.tape, h.output, h.size, h.block⟩
theorem below_same {B : Nat} {a w w' : World} (h : Below B a w) (k : ∃ q, w' = w.drewN q) : Below B a w' := by
  obtain ⟨q, rfl⟩ := k; exact below_drewN h q
theorem same_trans {w wr w' : World} (h : ∃ q, wr = w.drewN q) (h' : ∃ q, w' = wr.drewN q) : ∃ q, w' = w.drewN q := by
  obtain ⟨q, rfl⟩ := h'; exact drewn h
theorem IntsAt.same {w w' : World} {a : Option Addr} {zs : List Int} (h : IntsAt w a zs) (k : ∃ q, w' = w.drewN q) : IntsAt w' a zs := h.below (below_same (Below.refl _ _) k)
theorem RowsAt.same {w w' : World} {a : Option Addr} {A : Nat → Option Addr} {C : Nat → Nat} {zss : List (List Int)} (h : RowsAt w a A C zss) (k : ∃ q, w' = w.drewN q) : RowsAt w' a A C zss := h.below (below_same (Below.refl _ _) k)

set_option maxHeartbeats 2000000 in
set_option maxRecDepth 100000 in
theorem specArenaOk_any (ao an : Option Addr) (O : List Int) (zss : List (List Int)) (co cn : Nat) (A : Nat → Option Addr) (C : Nat → Nat) (w : World) (hO : IntsAt w ao O) (hN : RowsAt w an A C zss) :
    Calls Tryd.prog 75 #[.agg #[.slice ao O.length co, .slice an zss.length cn]] w fun e w' => e = .returned (.bool (arenaB O zss)) ∧ Below w.heap.size w w' := by
  have hO1 := hO.alloc (.cells #[.slice ao O.length co, .slice an zss.length cn] 31)
  have hN1 := hN.alloc (.cells #[.slice ao O.length co, .slice an zss.length cn] 31)
  have hlO := hO.len
  have hlN := hN.len
  clear hO hN
  have HO := Lib.hid hO1
  have HN := Lib.hid hN1
  clear hO1 hN1
  by_cases h1 : O.length < 1
  · have HE : Hid (arenaB O zss = false) := arenaB_no fun h => by have := h.1; omega
    have HI := Lib.hid (l1In_is (inB_no (x := O.length) (lo := 1) (hi := 256) (by omega)))
    go_enter Tryd.func75, Tryd.ntmps75
    go_wp2_with (go_at_call 60; refine (HI.out _).mono ?_; rintro e w' ⟨rfl, rfl⟩)
    go_ret
    exact ⟨ret_bool HE.out.symm, below1 _ _⟩
  · by_cases h2 : 256 < O.length
    · have HE : Hid (arenaB O zss = false) := arenaB_no fun h => by have := h.2.1; omega
      have HI := Lib.hid (l1In_is (inB_no (x := O.length) (lo := 1) (hi := 256) (by omega)))
      go_enter Tryd.func75, Tryd.ntmps75
      go_wp2_with (go_at_call 60; refine (HI.out _).mono ?_; rintro e w' ⟨rfl, rfl⟩)
      go_ret
      exact ⟨ret_bool HE.out.symm, below1 _ _⟩
    · have HI := Lib.hid (l1In_is (inB_yes (x := O.length) (lo := 1) (hi := 256) (by omega) (by omega)))
      by_cases h3 : zss.length = O.length
      · have h3' : ((zss.length : Int) != (O.length : Int)) = false := by simp [h3]
        have HL := Lib.hid h3
        have h3a : zss.length ≤ O.length := by omega
        have h3b : O.length ≤ zss.length := by omega
        clear h3
        go_enter Tryd.func75, Tryd.ntmps75
        go_wp2_with (go_at_call 60; refine (HI.out _).mono ?_; rintro e w' ⟨rfl, rfl⟩)
        go_loopw [4] (fun i wr => ∃ k : Nat, k ≤ O.length ∧ i = .int .i64 k ∧ Hid (∀ j, j < k → VertexP O zss j) ∧ Hid (∃ q, wr = (w.alloc (.cells #[.slice ao O.length co, .slice an zss.length cn] 31)).drewN q)) (fun i _ => O.length - (intOf i).toNat)
        case atStart => exact ⟨0, Nat.zero_le _, rfl, fun j hj => absurd hj (Nat.not_lt_zero _), 0, rfl⟩
        case round =>
          obtain ⟨k, hk, rfl, HK, HW⟩ := hrel
          have hB : Hid (Below w.heap.size w wr) := below_same (below1 _ _) HW.out
          have hb0 : wr.cell? ⟨w.heap.size, 0, none⟩ = some (.slice ao O.length co) := by obtain ⟨q, hq⟩ := HW.out; rw [hq]; simp [World.cell?_alloc_at _ _ _ _ rfl]
          have hb1 : wr.cell? ⟨w.heap.size, 1, none⟩ = some (.slice an zss.length cn) := by obtain ⟨q, hq⟩ := HW.out; rw [hq]; simp [World.cell?_alloc_at _ _ _ _ rfl]
          by_cases hlt : k < O.length
          · obtain ⟨b, off, ha, hc⟩ := (HO.out.same HW.out).cell (by omega)
            subst ha
            have hck := hc k hlt
            clear hc
            obtain ⟨bn, offn, hn, hcn⟩ := (HN.out.same HW.out).cell (by omega)
            subst hn
            have hcnk := hcn k (by omega)
            clear hcn
            by_cases h4 : nth O k = 0 ∨ nth O k = 1
            · have HI' := Lib.hid (l1In_is (inB_yes (x := nth O k) (lo := 0) (hi := 1) (by omega) (by omega)))
              have H4 := Lib.hid h4
              clear h4
              have hltz : k < zss.length := by omega
              have HR := Lib.hid ((HN.out.same HW.out).rows k hltz)
              have hlr := HR.out.len
              by_cases h5 : (row zss k).length < 1
              · have HE : Hid (arenaB O zss = false) := arenaB_vertex hlt fun h => by have := h.2.1; omega
                go_wp2_with (go_at_call 60; refine (HI'.out _).mono ?_; rintro e w' ⟨rfl, rfl⟩)
                go_ret
                exact ⟨ret_bool HE.out.symm, hB.out⟩
              · by_cases h6 : 16 < (row zss k).length
                · have HE : Hid (arenaB O zss = false) := arenaB_vertex hlt fun h => by have := h.2.2.1; omega
                  go_wp2_with (go_at_call 60; refine (HI'.out _).mono ?_; rintro e w' ⟨rfl, rfl⟩)
                  go_ret
                  exact ⟨ret_bool HE.out.symm, hB.out⟩
                · by_cases h7 : setB O.length (row zss k) = true
                  · have HV : Hid (∀ j, j < k + 1 → VertexP O zss j) := fun j hj => by
                      by_cases hj' : j < k
                      · exact HK.out j hj'
                      · obtain rfl : j = k := by omega
                        exact ⟨H4.out, by omega, by omega, h7⟩
                    have HC' := Lib.hid (l1Set_is h7 (C k) _ HR.out (n := O.length) (by omega) (by omega))
                    clear h7
                    go_wp2_with (first | (go_at_call 60; refine (HI'.out _).mono ?_; rintro e w' ⟨rfl, rfl⟩) | (go_at_call 89; refine HC'.out.mono ?_; rintro e w' ⟨rfl, HW'⟩; have HX := Lib.hid (same_trans HW.out HW'); clear HW'))
                    go_roundw
                    case rel => exact ⟨k + 1, by omega, by go_num, HV, HX.out⟩
                    case measure => simp [intOf]; omega
                  · have h7' : setB O.length (row zss k) = false := by simpa using h7
                    have HE : Hid (arenaB O zss = false) := arenaB_vertex hlt fun h => h7 h.2.2.2
                    have HC' := Lib.hid (l1Set_is h7' (C k) _ HR.out (n := O.length) (by omega) (by omega))
                    clear h7 h7'
                    go_wp2_with (first | (go_at_call 60; refine (HI'.out _).mono ?_; rintro e w' ⟨rfl, rfl⟩) | (go_at_call 89; refine HC'.out.mono ?_; rintro e w' ⟨rfl, HW'⟩; have HX := Lib.hid (below_same hB.out HW'); clear HW'))
                    go_ret
                    exact ⟨ret_bool HE.out.symm, HX.out⟩
            · have HE : Hid (arenaB O zss = false) := arenaB_vertex hlt fun h => h4 h.1
              have HI' := Lib.hid (l1In_is (inB_no (x := nth O k) (lo := 0) (hi := 1) (by omega)))
              clear h4
              go_wp2_with (go_at_call 60; refine (HI'.out _).mono ?_; rintro e w' ⟨rfl, rfl⟩)
              go_ret
              exact ⟨ret_bool HE.out.symm, hB.out⟩
          · have HE : Hid (arenaB O zss = true) := arenaB_yes ⟨by omega, by omega, HL.out, fun j hj => HK.out j (by omega)⟩
            go_wp2
            go_ret
            exact ⟨ret_bool HE.out.symm, hB.out⟩
      · have HE : Hid (arenaB O zss = false) := arenaB_no fun h => h3 h.2.2.1
        have h3' : ((zss.length : Int) != (O.length : Int)) = true := by simp; omega
        clear h3
        go_enter Tryd.func75, Tryd.ntmps75
        go_wp2_with (go_at_call 60; refine (HI.out _).mono ?_; rintro e w' ⟨rfl, rfl⟩)
        go_ret
        exact ⟨ret_bool HE.out.symm, below1 _ _⟩

theorem specArenaOk_at {w : World} {v : Value} {O : List Int} {zss : List (List Int)} {r : Bool} (hr : arenaB O zss = r) (h : ArenaAt w v O zss) :
    Calls Tryd.prog 75 #[v] w fun e w' => e = .returned (.bool r) ∧ Below w.heap.size w w' := by
  obtain ⟨ao, an, co, cn, A, C, rfl, h1, h2⟩ := h
  subst hr
  exact specArenaOk_any ao an O zss co cn A C w h1 h2

theorem ArenaAt.same {w w' : World} {v : Value} {O : List Int} {zss : List (List Int)} (h : ArenaAt w v O zss) (k : ∃ q, w' = w.drewN q) : ArenaAt w' v O zss := h.below (below_same (Below.refl _ _) k)

end Go.Proofs.YtihaajcmephlmaaDoor
namespace Go.Proofs.YtihaajcmephlmaaDoor
section
open Go.RowKit

/-- Of what was there, blocks of which S holds alone may have turned. -/
structure Only (S : Nat → Prop) (w w' : World) : Prop where
  os : w'.os = w.os
  tape : w'.tape = w.tape
  output : w'.output = w.output
  size : w.heap.size ≤ w'.heap.size
  block : ∀ k, k < w.heap.size → ¬ S k → w'.heap[k]? = w.heap[k]?

theorem Only.refl (S : Nat → Prop) (w : World) : Only S w w := ⟨rfl, rfl, rfl, Nat.le_refl _, fun _ _ _ => rfl⟩
theorem Only.trans {S : Nat → Prop} {a b c : World} (h : Only S a b) (k : Only S b c) : Only S a c :=
  ⟨k.os.trans h.os, k.tape.trans h.tape, k.output.trans h.output, Nat.le_trans h.size k.size, fun i hi hs => (k.block i (Nat.lt_of_lt_of_le hi h.size) hs).trans (h.block i hi hs)⟩
theorem Only.mono {S T : Nat → Prop} {w w' : World} (h : Only S w w') (hs : ∀ k, S k → T k) : Only T w w' :=
  ⟨h.os, h.tape, h.output, h.size, fun i hi ht => h.block i hi (fun hk => ht (hs i hk))⟩
theorem Only.of_below {S : Nat → Prop} {w w' : World} (h : Below w.heap.size w w') : Only S w w' := ⟨h.os, h.tape, h.output, h.size, fun i hi _ => h.block i hi⟩
theorem Only.setCell {S : Nat → Prop} {a w : World} (h : Only S a w) {p : Addr} (hp : S p.block) (u : Value) : Only S a (w.setCell p u) :=
  h.trans ⟨rfl, rfl, rfl, by simp [World.setCell], fun k _ hk => Below.heap_setCell _ _ _ _ (fun e => hk (by rw [e]; exact hp))⟩
theorem Only.below {S : Nat → Prop} {B : Nat} {w w' : World} (h : Only S w w') (hB : B ≤ w.heap.size) (hs : ∀ k, S k → B ≤ k) : Below B w w' :=
  ⟨h.os, h.tape, h.output, h.size, fun k hk => h.block k (by omega) (fun hS => by have := hs k hS; omega)⟩

/-- The slice v owns the numbers zs, in a block from B on and below D. -/
structure OwnInts (w : World) (B D : Nat) (v : Value) (zs : List Int) : Prop where
  own : w.ownsRow B 2 1 v zs.length (zs.map (Value.int .i64))
  top : ∀ g, v.ownBlock = some g → g < D
  len : zs.length ≤ 17592186044416
  fits : ∀ k, k < zs.length → Fits (nth zs k)

theorem OwnInts.shape {w : World} {B D : Nat} {v : Value} {zs : List Int} (h : OwnInts w B D v zs) :
    ∃ a cap, v = .slice a zs.length cap ∧ IntsAt w a zs ∧ (0 < zs.length → ∃ g, a = some ⟨g, 0, none⟩ ∧ B ≤ g ∧ g < D ∧ v.ownBlock = some g ∧ ∀ k, w.frozen? ⟨g, k, none⟩ = false) := by
  have hown := h.own
  rcases h.own.2 with ⟨hv, h0⟩ | ⟨g, cap, cur, hv, hg, hh, hn, hm, hcs, htake⟩
  · rw [h0]
    refine ⟨none, 0, hv, ⟨h.len, h.fits, fun hp => absurd hp (by omega)⟩, fun hp => absurd hp (by omega)⟩
  · subst hv
    refine ⟨some ⟨g, 0, none⟩, cap, rfl, ⟨h.len, h.fits, fun _ => ⟨g, 0, rfl, fun k hk => ?_⟩⟩, fun _ => ⟨g, rfl, hg, h.top g rfl, rfl, fun k => hown.frozenAt k⟩⟩
    rw [Nat.zero_add, hown.cellAt k (by omega)]
    simp [nth, hk]

theorem ownsRow_only {w w' : World} {S : Nat → Prop} {B : Nat} {e : TypeId} {size : Nat} {v : Value} {n : Nat} {xs : List Value} (h : w.ownsRow B e size v n xs) (hk : Only S w w') (hs : ∀ g, v.ownBlock = some g → ¬ S g) : w'.ownsRow B e size v n xs := by
  refine ⟨h.1, ?_⟩
  rcases h.2 with hn | ⟨g, cap, cur, rfl, hb, hgg, rest⟩
  · exact .inl hn
  · refine .inr ⟨g, cap, cur, rfl, hb, ?_, rest⟩
    rw [hk.block g (Array.getElem?_eq_some_iff.1 hgg).1 (hs g rfl)]
    exact hgg

theorem OwnInts.only {w w' : World} {S : Nat → Prop} {B D : Nat} {v : Value} {zs : List Int} (h : OwnInts w B D v zs) (hk : Only S w w') (hs : ∀ g, v.ownBlock = some g → ¬ S g) : OwnInts w' B D v zs :=
  ⟨ownsRow_only h.own hk hs, h.top, h.len, h.fits⟩
theorem OwnInts.below {w w' : World} {B D : Nat} {v : Value} {zs : List Int} (h : OwnInts w B D v zs) (hb : Below w.heap.size w w') : OwnInts w' B D v zs :=
  h.only (S := fun _ => False) (Only.of_below hb) (fun _ _ h => h)

def addrOf : Value → Option Addr | .slice a _ _ => a | _ => none
def capOf : Value → Nat | .slice _ _ c => c | _ => 0

/-- The slice v owns the rows zss: row k is the value V k. -/
structure OwnRows (w : World) (B D : Nat) (v : Value) (V : Nat → Value) (zss : List (List Int)) : Prop where
  own : w.ownsRow B 22 1 v zss.length ((List.range zss.length).map V)
  top : ∀ g, v.ownBlock = some g → g < D
  len : zss.length ≤ 17592186044416
  rows : ∀ k, k < zss.length → OwnInts w B D (V k) (row zss k)
  apart : ∀ i j, i < zss.length → j < zss.length → i ≠ j → ∀ g, (V i).ownBlock = some g → (V j).ownBlock ≠ some g

theorem OwnRows.shape {w : World} {B D : Nat} {v : Value} {V : Nat → Value} {zss : List (List Int)} (h : OwnRows w B D v V zss) :
    ∃ a cap, v = .slice a zss.length cap ∧ RowsAt w a (fun k => addrOf (V k)) (fun k => capOf (V k)) zss ∧ (∀ k, k < zss.length → V k = .slice (addrOf (V k)) (row zss k).length (capOf (V k))) := by
  have hV : ∀ k, k < zss.length → V k = .slice (addrOf (V k)) (row zss k).length (capOf (V k)) ∧ IntsAt w (addrOf (V k)) (row zss k) := fun k hk => by
    obtain ⟨a, cap, hv, hi, _⟩ := (h.rows k hk).shape
    rw [hv]; exact ⟨rfl, hi⟩
  have hown := h.own
  rcases h.own.2 with ⟨hv, h0⟩ | ⟨g, cap, cur, hv, hg, hh, hn, hm, hcs, htake⟩
  · refine ⟨none, 0, by rw [hv, h0], ⟨h.len, fun hp => absurd hp (by omega), fun k hk => absurd hk (by omega)⟩, fun k hk => (hV k hk).1⟩
  · subst hv
    refine ⟨some ⟨g, 0, none⟩, cap, rfl, ⟨h.len, fun _ => ⟨g, 0, rfl, fun k hk => ?_⟩, fun k hk => (hV k hk).2⟩, fun k hk => (hV k hk).1⟩
    rw [Nat.zero_add, hown.cellAt k (by omega)]
    rw [← (hV k hk).1]
    simp [hk]

theorem OwnRows.only {w w' : World} {S : Nat → Prop} {B D : Nat} {v : Value} {V : Nat → Value} {zss : List (List Int)} (h : OwnRows w B D v V zss) (hk : Only S w w') (hs : ∀ g, v.ownBlock = some g → ¬ S g)
    (hr : ∀ k, k < zss.length → ∀ g, (V k).ownBlock = some g → ¬ S g) : OwnRows w' B D v V zss :=
  ⟨ownsRow_only h.own hk hs, h.top, h.len, fun k hk' => (h.rows k hk').only hk (hr k hk'), h.apart⟩
theorem OwnRows.below {w w' : World} {B D : Nat} {v : Value} {V : Nat → Value} {zss : List (List Int)} (h : OwnRows w B D v V zss) (hb : Below w.heap.size w w') : OwnRows w' B D v V zss :=
  h.only (S := fun _ => False) (Only.of_below hb) (fun _ _ h => h) (fun _ _ _ _ h => h)

/-- The outer row's block is no row's block: their cells are of two types. -/
theorem own_types {w : World} {B : Nat} {v u : Value} {n m : Nat} {xs ys : List Value} (h : w.ownsRow B 22 1 v n xs) (k : w.ownsRow B 2 1 u m ys) : ∀ g, v.ownBlock = some g → u.ownBlock ≠ some g := by
  intro g hg hu
  rcases h.2 with ⟨rfl, _⟩ | ⟨g1, _, _, rfl, _, h1, _⟩
  · simp [Value.ownBlock] at hg
  · rcases k.2 with ⟨rfl, _⟩ | ⟨g2, _, _, rfl, _, h2, _⟩
    · simp [Value.ownBlock] at hu
    · simp [Value.ownBlock] at hg hu
      subst hg; subst hu
      rw [h1] at h2
      simp at h2

/-- The struct v owns an arena. -/
def OwnArena (w : World) (B D : Nat) (v : Value) (O : List Int) (zss : List (List Int)) : Prop :=
  ∃ vo vn V, v = .agg #[vo, vn] ∧ OwnInts w B D vo O ∧ OwnRows w B D vn V zss ∧ ∀ k, k < zss.length → ∀ g, (V k).ownBlock = some g → vo.ownBlock ≠ some g

theorem OwnArena.at {w : World} {B D : Nat} {v : Value} {O : List Int} {zss : List (List Int)} (h : OwnArena w B D v O zss) : ArenaAt w v O zss := by
  obtain ⟨vo, vn, V, rfl, h1, h2, _⟩ := h
  obtain ⟨a, c, rfl, hi, _⟩ := h1.shape
  obtain ⟨a', c', rfl, hr, _⟩ := h2.shape
  exact ⟨_, _, _, _, _, _, rfl, hi, hr⟩

theorem OwnArena.below {w w' : World} {B D : Nat} {v : Value} {O : List Int} {zss : List (List Int)} (h : OwnArena w B D v O zss) (hb : Below w.heap.size w w') : OwnArena w' B D v O zss := by
  obtain ⟨vo, vn, V, hv, h1, h2, h3⟩ := h
  exact ⟨vo, vn, V, hv, h1.below hb, h2.below hb, h3⟩

theorem OwnArena.only {w w' : World} {S : Nat → Prop} {B D : Nat} {v : Value} {O : List Int} {zss : List (List Int)} (h : OwnArena w B D v O zss) (hk : Only S w w') (hs : ∀ g, B ≤ g → g < D → ¬ S g) : OwnArena w' B D v O zss := by
  obtain ⟨vo, vn, V, hv, h1, h2, h3⟩ := h
  refine ⟨vo, vn, V, hv, h1.only hk (fun g hg => hs g ?_ (h1.top g hg)), h2.only hk (fun g hg => hs g ?_ (h2.top g hg)) (fun k hk' g hg => hs g ?_ ((h2.rows k hk').top g hg)), h3⟩
  · exact (h1.own.lt g hg).1
  · exact (h2.own.lt g hg).1
  · exact ((h2.rows k hk').own.lt g hg).1

theorem ownsRow_of_rowIs {w : World} {B b n : Nat} {t : TypeId} {f : Nat → Value} (h : w.rowIs b t n f) (hB : B ≤ b) (hn : n ≤ maxLen) : w.ownsRow B t 1 (.slice (some ⟨b, 0, none⟩) n n) n ((List.range n).map f) := by
  obtain ⟨c, hh, hs, hc⟩ := h
  refine ⟨by simp, .inr ⟨b, n, c, rfl, hB, hh, Nat.le_refl _, hn, by omega, ?_⟩⟩
  apply List.ext_getElem?
  intro i
  by_cases hi : i < n
  · have := hc i hi
    simp [hi, this]
  · simp [List.getElem?_take, hi]

theorem map_nth (zs : List Int) : (List.range zs.length).map (fun i => Value.int .i64 (nth zs i)) = zs.map (Value.int .i64) := by
  apply List.ext_getElem?
  intro i
  by_cases hi : i < zs.length
  · simp [hi, nth_eq hi]
  · simp [hi]

theorem OwnInts.of_rowIs {w : World} {B D b : Nat} {zs : List Int} (h : w.rowIs b 2 zs.length (fun i => .int .i64 (nth zs i))) (hB : B ≤ b) (hD : b < D) (hl : zs.length ≤ 17592186044416) (hf : ∀ k, k < zs.length → Fits (nth zs k)) :
    OwnInts w B D (.slice (some ⟨b, 0, none⟩) zs.length zs.length) zs := by
  refine ⟨?_, fun g hg => by simp [Value.ownBlock] at hg; omega, hl, hf⟩
  rw [← map_nth]
  exact ownsRow_of_rowIs h hB (by unfold maxLen; omega)
end

section
open Go.RowKit

theorem info_int : (Tryd.prog.info? 2).map (fun i => (i.zero, i.size, i.bytes)) = some (some (.int .i64 0), 1, 8) := by kernel_rfl
theorem info_ints : (Tryd.prog.info? 22).map (fun i => (i.zero, i.size, i.bytes)) = some (some (.slice none 0 0), 1, 24) := by kernel_rfl

/-- What the copy's row holds when k numbers are copied. -/
def part (zs : List Int) (k : Nat) : Nat → Value := fun i => if i < k then .int .i64 (nth zs i) else .int .i64 0

theorem part_step {w : World} {g n k : Nat} {t : TypeId} {zs : List Int} (h : w.rowIs g t n (part zs k)) : (w.setCell ⟨g, k, none⟩ (.int .i64 (nth zs k))).rowIs g t n (part zs (k + 1)) := by
  refine (h.set k _).congr fun i _ => ?_
  simp only [part]
  by_cases e : i = k
  · subst e; simp
  · rw [if_neg e]
    by_cases hlt : i < k
    · rw [if_pos hlt, if_pos (by omega)]
    · rw [if_neg hlt, if_neg (by omega)]

set_option maxHeartbeats 1000000 in
theorem toInt64S_any (a : Option Addr) (zs : List Int) (cap : Nat) (w : World) (h : IntsAt w a zs) :
    Calls Tryd.prog 36 #[.slice a zs.length cap] w fun e w' => e = .returned (.slice (some ⟨w.heap.size, 0, none⟩) zs.length zs.length) ∧
      w'.rowIs w.heap.size 2 zs.length (fun i => .int .i64 (nth zs i)) ∧ w'.heap.size = w.heap.size + 1 ∧ Below w.heap.size w w' := by
  obtain ⟨hlen, _, hcell⟩ := h
  have hmk := run_make_row' (P := Tryd.prog) 22 2 (.int .i64 0) 8 Tryd.underlying22 info_int rfl .i64 .i64 zs.length (by omega) (by omega)
  have HC := Lib.hid hcell
  clear hcell
  go_enter Tryd.func36, Tryd.ntmps36
  go_wp2
  go_loopw [4] (fun i wr => ∃ k : Nat, k ≤ zs.length ∧ i = .int .i64 k ∧ Hid (wr.rowIs w.heap.size 2 zs.length (part zs k)) ∧ Hid (wr.heap.size = w.heap.size + 1) ∧ Hid (Below w.heap.size w wr)) (fun i _ => zs.length - (intOf i).toNat)
  case atStart => exact ⟨0, Nat.zero_le _, rfl, (World.rowIs_made _ _ _ _).congr (fun i _ => by simp [part]), by simp [Hid], below1 _ _⟩
  case round =>
    clear hmk
    obtain ⟨k, hk, rfl, HR, HS, HB⟩ := hrel
    by_cases hlt : k < zs.length
    · obtain ⟨b, off, ha, hc⟩ := HC.out (by omega)
      subst ha
      have hck := Below.cell_some (B := 0) HB.out rfl (hc k hlt)
      have hcs := HR.out.cell hlt
      have hcf := HR.out.frozen k
      clear hc
      go_wp2
      go_roundw
      case rel => exact ⟨k + 1, by omega, by go_num, part_step HR.out, by simp [Hid]; exact HS.out, HB.out.setCell (Nat.le_refl _) _⟩
      case measure => simp [intOf]; omega
    · have HE : Hid (wr.rowIs w.heap.size 2 zs.length (fun i => .int .i64 (nth zs i))) := HR.out.congr fun i hi => by simp only [part]; rw [if_pos (by omega)]
      go_wp2
      go_ret
      exact ⟨rfl, HE.out, HS.out, HB.out⟩

/-- The copied rows' outer row when k rows are copied. -/
def outer (N : Nat) (zss : List (List Int)) (k : Nat) : Nat → Value := fun j => if j < k then .slice (some ⟨N + 1 + j, 0, none⟩) (row zss j).length (row zss j).length else .slice none 0 0

/-- What holds when k rows are copied; N: the outer row's block. -/
structure Copied (w wr : World) (N : Nat) (zss : List (List Int)) (k : Nat) : Prop where
  below : Below w.heap.size w wr
  size : wr.heap.size = N + 1 + k
  top : wr.rowIs N 22 zss.length (outer N zss k)
  done : ∀ j, j < k → wr.rowIs (N + 1 + j) 2 (row zss j).length (fun i => .int .i64 (nth (row zss j) i))

theorem rowIs_below {w w' : World} {g n : Nat} {t : TypeId} {f : Nat → Value} (h : w.rowIs g t n f) (hb : Below w.heap.size w w') : w'.rowIs g t n f := h.of_block (hb.block g h.lt)

theorem Copied.step {w wr w1 : World} {N k : Nat} {zss : List (List Int)} (h : Copied w wr N zss k) (hN : w.heap.size ≤ N) (hb : Below wr.heap.size wr w1) (hs : w1.heap.size = wr.heap.size + 1)
    (hr : w1.rowIs wr.heap.size 2 (row zss k).length (fun i => .int .i64 (nth (row zss k) i))) :
    Copied w (w1.setCell ⟨N, k, none⟩ (.slice (some ⟨wr.heap.size, 0, none⟩) (row zss k).length (row zss k).length)) N zss (k + 1) := by
  refine ⟨(h.below.trans (hb.mono h.below.size)).setCell hN _, by simp [hs, h.size]; omega, ((rowIs_below h.top hb).set k _).congr fun j _ => ?_, fun j hj => ?_⟩
  · simp only [outer]
    by_cases e : j = k
    · subst e; simp [h.size]
    · rw [if_neg e]
      by_cases hlt : j < k
      · rw [if_pos hlt, if_pos (by omega)]
      · rw [if_neg hlt, if_neg (by omega)]
  · by_cases e : j = k
    · subst e
      have := hr.setOther (a := ⟨N, j, none⟩) (by rw [h.size]; show N + 1 + j ≠ N; omega) (.slice (some ⟨wr.heap.size, 0, none⟩) (row zss j).length (row zss j).length)
      rw [h.size] at this ⊢
      exact this
    · exact (rowIs_below (h.done j (by omega)) hb).setOther (by show N + 1 + j ≠ N; omega) _

set_option maxHeartbeats 1000000 in
theorem toInt64SS_any (a : Option Addr) (A : Nat → Option Addr) (C : Nat → Nat) (zss : List (List Int)) (cap : Nat) (w : World) (h : RowsAt w a A C zss) (hn : zss.length ≤ 1048576) :
    Calls Tryd.prog 12 #[.slice a zss.length cap] w fun e w' => e = .returned (.slice (some ⟨w.heap.size, 0, none⟩) zss.length zss.length) ∧ Copied w w' w.heap.size zss zss.length := by
  have hmk := run_make_row' (P := Tryd.prog) 23 22 (.slice none 0 0) 24 Tryd.underlying23 info_ints rfl .i64 .i64 zss.length (by omega) (by omega)
  have HC := Lib.hid h
  clear h
  go_enter Tryd.func12, Tryd.ntmps12
  go_wp2
  go_loopw [4] (fun i wr => ∃ k : Nat, k ≤ zss.length ∧ i = .int .i64 k ∧ Hid (Copied w wr w.heap.size zss k)) (fun i _ => zss.length - (intOf i).toNat)
  case atStart => exact ⟨0, Nat.zero_le _, rfl, below1 _ _, by simp, (World.rowIs_made _ _ _ _).congr (fun i _ => by simp [outer]), fun j hj => absurd hj (Nat.not_lt_zero _)⟩
  case round =>
    clear hmk
    obtain ⟨k, hk, rfl, HR⟩ := hrel
    by_cases hlt : k < zss.length
    · have HC' := Lib.hid (HC.out.below (HR.out.below))
      obtain ⟨b, off, ha, hc⟩ := HC'.out.cell (by omega)
      subst ha
      have hck := hc k hlt
      clear hc
      have HT := Lib.hid (toInt64S_any (A k) (row zss k) (C k) wr (HC'.out.rows k hlt))
      have HF : Hid (∀ w1, Below wr.heap.size wr w1 → w1.cell? ⟨w.heap.size, k, none⟩ = some (outer w.heap.size zss k k) ∧ w1.frozen? ⟨w.heap.size, k, none⟩ = false) := fun w1 hb => by
        have := rowIs_below HR.out.top hb
        exact ⟨this.cell hlt, this.frozen k⟩
      go_wp2_with (go_at_call 36; refine HT.out.mono ?_; rintro e w1 ⟨rfl, h1, h2, h3⟩; obtain ⟨hf1, hf2⟩ := HF.out w1 h3; have HS := Lib.hid (HR.out.step (Nat.le_refl _) h3 h2 h1); clear h1 h2 h3)
      go_roundw
      case rel => exact ⟨k + 1, by omega, by go_num, HS.out⟩
      case measure => simp [intOf]; omega
    · have hkk : k = zss.length := by omega
      have HE : Hid (Copied w wr w.heap.size zss zss.length) := by rw [← hkk]; exact HR.out
      clear hkk
      go_wp2
      go_ret
      exact ⟨rfl, HE.out⟩

/-- What toArena leaves: the owners' copy in the fourth new block, the rows' in the fifth and those behind it. -/
structure ArenaCopy (w w' : World) (O : List Int) (zss : List (List Int)) : Prop where
  below : Below w.heap.size w w'
  size : w'.heap.size = w.heap.size + 5 + zss.length
  owner : w'.rowIs (w.heap.size + 3) 2 O.length (fun i => .int .i64 (nth O i))
  top : w'.rowIs (w.heap.size + 4) 22 zss.length (outer (w.heap.size + 4) zss zss.length)
  done : ∀ j, j < zss.length → w'.rowIs (w.heap.size + 4 + 1 + j) 2 (row zss j).length (fun i => .int .i64 (nth (row zss j) i))

theorem ArenaCopy.ints {w w' w0 : World} {a : Option Addr} {O : List Int} {zss : List (List Int)} (h : ArenaCopy w w' O zss) (hO : IntsAt w0 a O) : IntsAt w' (some ⟨w.heap.size + 3, 0, none⟩) O :=
  ⟨hO.len, hO.fits, fun _ => ⟨_, _, rfl, fun k hk => by rw [Nat.zero_add]; exact h.owner.cell hk⟩⟩

theorem ArenaCopy.rows {w w' w0 : World} {a : Option Addr} {A : Nat → Option Addr} {C : Nat → Nat} {O : List Int} {zss : List (List Int)} (h : ArenaCopy w w' O zss) (hN : RowsAt w0 a A C zss) :
    RowsAt w' (some ⟨w.heap.size + 4, 0, none⟩) (fun j => some ⟨w.heap.size + 4 + 1 + j, 0, none⟩) (fun j => (row zss j).length) zss :=
  ⟨hN.len, fun _ => ⟨_, _, rfl, fun k hk => by rw [Nat.zero_add, h.top.cell hk]; simp only [outer]; rw [if_pos hk]⟩,
    fun k hk => ⟨(hN.rows k hk).len, (hN.rows k hk).fits, fun _ => ⟨_, _, rfl, fun i hi => by rw [Nat.zero_add]; exact (h.done k hk).cell hi⟩⟩⟩

set_option maxHeartbeats 1000000 in
theorem toArena_any (ao an : Option Addr) (O : List Int) (zss : List (List Int)) (co cn : Nat) (A : Nat → Option Addr) (C : Nat → Nat) (w : World) (hO : IntsAt w ao O) (hN : RowsAt w an A C zss) (hn : zss.length ≤ 1048576) :
    Calls Tryd.prog 35 #[.agg #[.slice ao O.length co, .slice an zss.length cn]] w fun e w' =>
      e = .returned (.agg #[.slice (some ⟨w.heap.size + 3, 0, none⟩) O.length O.length, .slice (some ⟨w.heap.size + 4, 0, none⟩) zss.length zss.length]) ∧ ArenaCopy w w' O zss := by
  have HO := Lib.hid hO
  have HN := Lib.hid hN
  clear hO hN
  go_enter Tryd.func35, Tryd.ntmps35
  go_wp2_with fail
  refine (toInt64S_any ao O co _ (((HO.out.alloc _).alloc _).alloc _)).mono ?_
  rintro e w1 ⟨rfl, h1, h2, h3⟩
  have hs1 : w1.heap.size = w.heap.size + 4 := by simp at h2; omega
  have HS1 := Lib.hid hs1
  have b0 := Lib.hid ((((Box2.new w 25 (.slice ao O.length co) (.slice an zss.length cn)).alloc _).alloc _).below h3)
  have b1 := Lib.hid (((Box2.new_at (g := w.heap.size + 1) (by simp) 31 (.slice none 0 0) (.slice none 0 0)).alloc _).below h3)
  have b2 := Lib.hid ((Box2.new_at (g := w.heap.size + 1 + 1) (by simp) 31 (.slice none 0 0) (.slice none 0 0)).below h3)
  have hB1 : Hid (Below w.heap.size w w1) := ((below2 w _ _).alloc (by simp; omega) _).trans (h3.mono (by simp; omega))
  have hR1 : Hid (w1.rowIs (w.heap.size + 3) 2 O.length (fun i => .int .i64 (nth O i))) := by simpa [Hid] using h1
  have c00 := b0.out.cell0
  have c01 := b0.out.cell1
  have c20 := b2.out.cell0
  have f20 := b2.out.frozen 0
  have hlt0 : w.heap.size ≠ w.heap.size + 1 + 1 := by omega
  clear h1 h2 h3 hs1
  go_wp2_with fail
  have hB4 : Hid (Below w.heap.size w (w1.setCell ⟨w.heap.size + 1 + 1, 0, none⟩ (.slice (some ⟨w.heap.size + 1 + 1 + 1, 0, none⟩) O.length O.length))) := hB1.out.setCell (by show w.heap.size ≤ w.heap.size + 1 + 1; omega) _
  refine (toInt64SS_any an A C zss cn _ (HN.out.below hB4.out) hn).mono ?_
  rintro e w2 ⟨rfl, h1⟩
  have b0' := Lib.hid ((b0.out.other (a := ⟨w.heap.size + 1 + 1, 0, none⟩) (by show w.heap.size ≠ w.heap.size + 1 + 1; omega) _).below h1.below)
  have b1' := Lib.hid ((b1.out.other (a := ⟨w.heap.size + 1 + 1, 0, none⟩) (by show w.heap.size + 1 ≠ w.heap.size + 1 + 1; omega) _).below h1.below)
  have b2' := Lib.hid ((b2.out.set0 (.slice (some ⟨w.heap.size + 1 + 1 + 1, 0, none⟩) O.length O.length)).below h1.below)
  have hB2 : Hid (Below w.heap.size w w2) := hB4.out.trans (h1.below.mono hB4.out.size)
  have hR2 : Hid (w2.rowIs (w.heap.size + 3) 2 O.length (fun i => .int .i64 (nth O i))) := rowIs_below (hR1.out.setOther (a := ⟨w.heap.size + 1 + 1, 0, none⟩) (by show w.heap.size + 3 ≠ w.heap.size + 1 + 1; omega) _) h1.below
  have HC := Lib.hid h1
  have hsz : Hid ((w1.setCell ⟨w.heap.size + 1 + 1, 0, none⟩ (.slice (some ⟨w.heap.size + 1 + 1 + 1, 0, none⟩) O.length O.length)).heap.size = w.heap.size + 4) := by simp [Hid]; exact HS1.out
  rw [hsz.out] at HC ⊢
  clear h1 c00 c01 c20 f20 hlt0
  have c20 := b2'.out.cell0
  have c21 := b2'.out.cell1
  have f21 := b2'.out.frozen 1
  have c10 := b1'.out.cell0
  have c11 := b1'.out.cell1
  have f10 := b1'.out.frozen 0
  have f11 := b1'.out.frozen 1
  go_wp2_with fail
  have b1f := Lib.hid (((b1'.out.other (a := ⟨w.heap.size + 1 + 1, 1, none⟩) (by show w.heap.size + 1 ≠ w.heap.size + 1 + 1; omega) (.slice (some ⟨w.heap.size + 4, 0, none⟩) zss.length zss.length)).set0 (.slice (some ⟨w.heap.size + 1 + 1 + 1, 0, none⟩) O.length O.length)).set1 (.slice (some ⟨w.heap.size + 4, 0, none⟩) zss.length zss.length))
  have d0 := b1f.out.cell0
  have d1 := b1f.out.cell1
  have hfin : Hid (ArenaCopy w (((w2.setCell ⟨w.heap.size + 1 + 1, 1, none⟩ (.slice (some ⟨w.heap.size + 4, 0, none⟩) zss.length zss.length)).setCell ⟨w.heap.size + 1, 0, none⟩ (.slice (some ⟨w.heap.size + 1 + 1 + 1, 0, none⟩) O.length O.length)).setCell
      ⟨w.heap.size + 1, 1, none⟩ (.slice (some ⟨w.heap.size + 4, 0, none⟩) zss.length zss.length)) O zss) := by
    have hh := HC.out
    refine ⟨((hB2.out.setCell (by show w.heap.size ≤ w.heap.size + 1 + 1; omega) _).setCell (by show w.heap.size ≤ w.heap.size + 1; omega) _).setCell (by show w.heap.size ≤ w.heap.size + 1; omega) _, by simp [hh.size], ?_, ?_, fun j hj => ?_⟩
    · exact ((hR2.out.setOther (by show w.heap.size + 3 ≠ w.heap.size + 1 + 1; omega) _).setOther (by show w.heap.size + 3 ≠ w.heap.size + 1; omega) _).setOther (by show w.heap.size + 3 ≠ w.heap.size + 1; omega) _
    · exact ((hh.top.setOther (by show w.heap.size + 4 ≠ w.heap.size + 1 + 1; omega) _).setOther (by show w.heap.size + 4 ≠ w.heap.size + 1; omega) _).setOther (by show w.heap.size + 4 ≠ w.heap.size + 1; omega) _
    · exact (((hh.done j hj).setOther (by show w.heap.size + 4 + 1 + j ≠ w.heap.size + 1 + 1; omega) _).setOther (by show w.heap.size + 4 + 1 + j ≠ w.heap.size + 1; omega) _).setOther (by show w.heap.size + 4 + 1 + j ≠ w.heap.size + 1; omega) _
  exact bodyPost_ret (v := .agg #[.slice (some ⟨w.heap.size + 1 + 1 + 1, 0, none⟩) O.length O.length, .slice (some ⟨w.heap.size + 4, 0, none⟩) zss.length zss.length]) (by simp [results, Tryd.results35, go_sem, c10, c11]) rfl ⟨rfl, hfin.out⟩

/-- The copy of an arena: it reads as the arena, and nothing that was there has turned. -/
theorem toArena_at {w : World} {v : Value} {O : List Int} {zss : List (List Int)} (h : ArenaAt w v O zss) (hn : zss.length ≤ 1048576) :
    Calls Tryd.prog 35 #[v] w fun e w' =>
      e = .returned (.agg #[.slice (some ⟨w.heap.size + 3, 0, none⟩) O.length O.length, .slice (some ⟨w.heap.size + 4, 0, none⟩) zss.length zss.length]) ∧ ArenaCopy w w' O zss ∧
      ArenaAt w' (.agg #[.slice (some ⟨w.heap.size + 3, 0, none⟩) O.length O.length, .slice (some ⟨w.heap.size + 4, 0, none⟩) zss.length zss.length]) O zss := by
  obtain ⟨ao, an, co, cn, A, C, rfl, h1, h2⟩ := h
  refine (toArena_any ao an O zss co cn A C w h1 h2 hn).mono fun e w' ⟨he, hc⟩ => ⟨he, hc, ?_⟩
  exact ⟨_, _, _, _, _, _, rfl, hc.ints h1, hc.rows h2⟩
end

section
open Go.RowKit

set_option maxHeartbeats 400000 in
theorem Index_is {a : Option Addr} {zs : List Int} {x i : Int} (hr : idx zs x = i) (cap : Nat) (w : World) (h : IntsAt w a zs) :
    Calls Tryd.prog 67 #[.slice a zs.length cap, .int .i64 x] w fun e w' => e = .returned (.int .i64 i) ∧ w = w' := by
  obtain ⟨hlen, _, hcell⟩ := h
  have HR := Lib.hid hr
  have HC := Lib.hid hcell
  clear hcell hr
  go_enter Tryd.func67, Tryd.ntmps67
  go_wp2
  go_loop [8] (fun i => ∃ k : Nat, k ≤ zs.length ∧ i = .int .i64 k ∧ Hid (∀ j, j < k → nth zs j ≠ x)) (fun i => zs.length - (intOf i).toNat)
  case atStart => exact ⟨0, Nat.zero_le _, rfl, fun j hj => absurd hj (Nat.not_lt_zero _)⟩
  case round =>
    obtain ⟨k, hk, rfl, HK⟩ := hrel
    by_cases hlt : k < zs.length
    · obtain ⟨b, off, ha, hc⟩ := HC.out (by omega)
      subst ha
      have hck := hc k hlt
      clear hc
      by_cases he : x = nth zs k
      · have HE : Hid ((k : Int) = i) := by rw [← HR.out]; exact (idx_at hlt he.symm HK.out).symm
        have he' : (x == nth zs k) = true := by simp [he]
        clear he
        go_wp2
        go_ret
        exact ⟨ret_i64 HE.out, rfl⟩
      · have HE : Hid (∀ j, j < k + 1 → nth zs j ≠ x) := fun j hj => by
          by_cases hj' : j < k
          · exact HK.out j hj'
          · obtain rfl : j = k := by omega
            exact fun e => he e.symm
        have he' : (x == nth zs k) = false := by simp [he]
        clear he
        go_wp2
        go_round
        case rel => exact ⟨k + 1, by omega, by go_num, HE⟩
        case measure => simp [intOf]; omega
    · have HE : Hid (i = -1) := by rw [← HR.out]; exact idx_none fun j hj => HK.out j (by omega)
      go_wp2
      go_ret
      exact ⟨ret_i64 HE.out.symm, rfl⟩

end

section
section
open Go.RowKit

theorem OwnInts.mk' {w : World} {B : Nat} {v : Value} {zs : List Int} (h : w.ownsRow B 2 1 v zs.length (zs.map (Value.int .i64))) (hl : zs.length ≤ 17592186044416) (hf : ∀ k, k < zs.length → Fits (nth zs k)) : OwnInts w B w.heap.size v zs :=
  ⟨h, fun g hg => (h.lt g hg).2, hl, hf⟩
theorem ownsRow_base {w : World} {B B' : Nat} {e : TypeId} {size : Nat} {v : Value} {n : Nat} {xs : List Value} (h : w.ownsRow B e size v n xs) (hB : B' ≤ B) : w.ownsRow B' e size v n xs := by
  refine ⟨h.1, ?_⟩
  rcases h.2 with hn | ⟨g, cap, cur, hv, hb, r⟩
  · exact .inl hn
  · exact .inr ⟨g, cap, cur, hv, by omega, r⟩
theorem OwnInts.nil (w : World) (B D : Nat) : OwnInts w B D (.slice none 0 0) [] :=
  ⟨World.ownsRow_nil _ _ _ _, fun g hg => by simp [Value.ownBlock] at hg, by simp, fun k hk => absurd hk (by simp)⟩

/-- A call hands back a slice of its own that reads as zs, and nothing that was there has turned. -/
def GivesInts (w : World) (zs : List Int) (e : Ending) (w' : World) : Prop :=
  ∃ v, e = .returned v ∧ OwnInts w' w.heap.size w'.heap.size v zs ∧ Below w.heap.size w w'

/-- The predecessors of u among the first k vertices. -/
def predsK (zss : List (List Int)) (u : Int) : Nat → List Int
  | 0 => []
  | k + 1 => predsK zss u k ++ if hasB (row zss k) u then [(k : Int)] else []

theorem predsK_mem (zss : List (List Int)) (u : Int) (k : Nat) : ∀ x ∈ predsK zss u k, 0 ≤ x ∧ x < k := by
  induction k with
  | zero => simp [predsK]
  | succ k ih =>
    intro x hx
    simp only [predsK, List.mem_append] at hx
    rcases hx with hx | hx
    · have := ih x hx; omega
    · split at hx
      · simp at hx; omega
      · simp at hx

theorem nth_mem {zs : List Int} {k : Nat} (h : k < zs.length) : nth zs k ∈ zs := by rw [nth_eq h]; exact List.getElem_mem _

end

section
open Go.RowKit

/-- n rows, row u is R u. -/
def rowsOf (n : Nat) (R : Nat → List Int) : List (List Int) := (List.range n).map R
/-- n rows in memory: the outer slice lies at the head of block g. -/
structure RowSet (w : World) (B g n : Nat) (V : Nat → Value) (R : Nat → List Int) : Prop where
  own : w.ownsRow B 22 1 (.slice (some ⟨g, 0, none⟩) n n) n ((List.range n).map V)
  rows : ∀ k, k < n → OwnInts w B w.heap.size (V k) (R k)
  apart : ∀ i j, i < n → j < n → i ≠ j → ∀ b, (V i).ownBlock = some b → (V j).ownBlock ≠ some b

theorem OwnInts.retop {w : World} {B D : Nat} {v : Value} {zs : List Int} (h : OwnInts w B D v zs) : OwnInts w B w.heap.size v zs := ⟨h.own, fun g hg => (h.own.lt g hg).2, h.len, h.fits⟩

theorem RowSet.put {w w1 : World} {B g n u : Nat} {V : Nat → Value} {R : Nat → List Int} (h : RowSet w B g n V R) (hu : u < n) {v' : Value} {zs' : List Int} (h1 : OwnInts w1 B w1.heap.size v' zs') (hg : Only (fun b => (V u).ownBlock = some b) w w1)
    (hw : v'.ownBlock = (V u).ownBlock ∨ ∃ X, v'.ownBlock = some X ∧ w.heap.size ≤ X) : RowSet (w1.setCell ⟨g, u, none⟩ v') B g n (fun i => if i = u then v' else V i) (fun i => if i = u then zs' else R i) := by
  have ho := ownsRow_only h.own hg (own_types h.own (h.rows u hu).own)
  obtain ⟨hs, hgr⟩ := ho.stored u v'
  have hS : Only (fun b => b = g) w1 (w1.setCell ⟨g, u, none⟩ v') := Only.setCell (S := fun b => b = g) (Only.refl _ _) (p := ⟨g, u, none⟩) rfl v'
  refine ⟨?_, fun k hk => ?_, fun i j hi hj hne b hb hb' => ?_⟩
  · have e : ((List.range n).map V).set u v' = (List.range n).map (fun i => if i = u then v' else V i) := by
      apply List.ext_getElem?
      intro i
      by_cases hi : i < n
      · by_cases e : i = u
        · subst e; simp [hi]
        · simp [hi, e, Ne.symm e]
      · simp [hi]
    rw [← e]; exact hs
  · by_cases e : k = u
    · subst e
      simp only [if_true]
      exact (h1.only hS (fun b hb e => own_types ho h1.own b (by simp [Value.ownBlock, e]) hb)).retop
    · simp only [if_neg e]
      have hr := (h.rows k hk).only hg (h.apart k u hk hu e)
      exact (hr.only hS (fun b hb e => own_types ho hr.own b (by simp [Value.ownBlock, e]) hb)).retop
  · have hlt : ∀ k, k < n → ∀ b, (V k).ownBlock = some b → b < w.heap.size := fun k hk b hb => ((h.rows k hk).own.lt b hb).2
    by_cases e : i = u
    · subst e
      simp only [if_true] at hb
      simp only [if_neg (Ne.symm hne)] at hb'
      rcases hw with hw | ⟨X, hX, hge⟩
      · rw [hw] at hb; exact h.apart i j hi hj hne b hb hb'
      · rw [hX] at hb; have := hlt j hj b hb'; simp at hb; omega
    · simp only [if_neg e] at hb
      by_cases e' : j = u
      · subst e'
        simp only [if_true] at hb'
        rcases hw with hw | ⟨X, hX, hge⟩
        · rw [hw] at hb'; exact h.apart i j hi hj hne b hb hb'
        · rw [hX] at hb'; have := hlt i hi b hb; simp at hb'; omega
      · simp only [if_neg e'] at hb'
        exact h.apart i j hi hj hne b hb hb'

theorem RowSet.congr {w : World} {B g n : Nat} {V : Nat → Value} {R R' : Nat → List Int} (h : RowSet w B g n V R) (e : ∀ u, u < n → R u = R' u) : RowSet w B g n V R' :=
  ⟨h.own, fun k hk => by rw [← e k hk]; exact h.rows k hk, h.apart⟩
theorem RowSet.below {w w' : World} {B g n : Nat} {V : Nat → Value} {R : Nat → List Int} (h : RowSet w B g n V R) (hb : Below w.heap.size w w') : RowSet w' B g n V R :=
  ⟨ownsRow_only h.own (S := fun _ => False) (Only.of_below hb) (fun _ _ h => h), fun k hk => ((h.rows k hk).below hb).retop, h.apart⟩
theorem RowSet.shape {w : World} {B g n u : Nat} {V : Nat → Value} {R : Nat → List Int} (h : RowSet w B g n V R) (hu : u < n) : V u = .slice (addrOf (V u)) (R u).length (capOf (V u)) ∧ w.cell? ⟨g, u, none⟩ = some (.slice (addrOf (V u)) (R u).length (capOf (V u))) ∧ w.frozen? ⟨g, u, none⟩ = false := by
  obtain ⟨a, cap, hv, _, _⟩ := (h.rows u hu).shape
  have e : V u = .slice (addrOf (V u)) (R u).length (capOf (V u)) := by rw [hv]; rfl
  refine ⟨e, ?_, h.own.frozenAt u⟩
  rw [h.own.cellAt u (by omega), ← e]
  simp [hu]

set_option maxHeartbeats 400000 in
theorem size_is (ao an : Option Addr) (n m co cn : Nat) (w : World) (_hn : n ≤ 17592186044416) :
    Calls Tryd.prog 51 #[.agg #[.slice ao n co, .slice an m cn]] w fun e w' => e = .returned (.int .i64 n) ∧ w.alloc (.cells #[.slice ao n co, .slice an m cn] 31) = w' := by
  go_enter Tryd.func51, Tryd.ntmps51
  go_wp2
  go_ret
  exact ⟨rfl, rfl⟩

end
end

section
open Go.RowKit

end

section
open Go.RowKit

/-- What is left of 'left' behind n: -1 if there is not enough. -/
def leftOf (left : Int) (n : Nat) : Int := if left < n then -1 else left - n

theorem leftOf_no {left : Int} {n : Nat} (h : left < n) : leftOf left n = -1 := by simp [leftOf, h]
theorem leftOf_yes {left : Int} {n : Nat} (h : (n : Int) ≤ left) : leftOf left n = left - n := by unfold leftOf; rw [if_neg (by omega)]

/-- How many numbers the first k rows hold. -/
def sumLen (zss : List (List Int)) : Nat → Nat
  | 0 => 0
  | k + 1 => sumLen zss k + (row zss k).length

theorem sumLen_mono (zss : List (List Int)) {j k : Nat} (h : j ≤ k) : sumLen zss j ≤ sumLen zss k := by
  induction k with
  | zero => obtain rfl : j = 0 := by omega
            exact Nat.le_refl _
  | succ k ih =>
    by_cases e : j = k + 1
    · subst e; exact Nat.le_refl _
    · have := ih (by omega); simp only [sumLen]; omega


set_option maxHeartbeats 400000 in
theorem szInt64S_any (a : Option Addr) (n : Nat) (cap : Nat) (left : Int) (w : World) (_hn : n ≤ 17592186044416) (_h0 : -1048576 ≤ left) (_h1 : left ≤ 1048576) :
    Calls Tryd.prog 31 #[.slice a n cap, .int .i64 left] w fun e w' => e = .returned (.int .i64 (leftOf left n)) ∧ w = w' := by
  by_cases h : left < n
  · have HE := Lib.hid (leftOf_no h)
    go_enter Tryd.func31, Tryd.ntmps31
    go_wp2
    go_ret
    exact ⟨ret_i64 HE.out.symm, rfl⟩
  · have HE := Lib.hid (leftOf_yes (left := left) (n := n) (by omega))
    go_enter Tryd.func31, Tryd.ntmps31
    go_wp2
    go_ret
    exact ⟨ret_i64 HE.out.symm, rfl⟩

theorem szInt64S_no {a : Option Addr} {n : Nat} {left : Int} (h : left < n) (cap : Nat) (w : World) (hn : n ≤ 17592186044416) (h0 : -1048576 ≤ left) (h1 : left ≤ 1048576) :
    Calls Tryd.prog 31 #[.slice a n cap, .int .i64 left] w fun e w' => e = .returned (.int .i64 (-1)) ∧ w = w' := by
  have := szInt64S_any a n cap left w hn h0 h1
  rw [leftOf_no h] at this; exact this

theorem szInt64S_yes {a : Option Addr} {n : Nat} {left : Int} (h : (n : Int) ≤ left) (cap : Nat) (w : World) (hn : n ≤ 17592186044416) (h0 : -1048576 ≤ left) (h1 : left ≤ 1048576) :
    Calls Tryd.prog 31 #[.slice a n cap, .int .i64 left] w fun e w' => e = .returned (.int .i64 (left - n)) ∧ w = w' := by
  have := szInt64S_any a n cap left w hn h0 h1
  rw [leftOf_yes h] at this; exact this

set_option maxHeartbeats 1000000 in
theorem szInt64SS_any (a : Option Addr) (A : Nat → Option Addr) (C : Nat → Nat) (zss : List (List Int)) (cap : Nat) (left : Int) (w : World) (h : RowsAt w a A C zss) (_h0 : 0 ≤ left) (_h1 : left ≤ 1048576) :
    Calls Tryd.prog 9 #[.slice a zss.length cap, .int .i64 left] w fun e w' => e = .returned (.int .i64 (leftOf left (zss.length + sumLen zss zss.length))) ∧ w = w' := by
  have hlen := h.len
  have HR := Lib.hid h
  clear h
  by_cases hlt : left < zss.length
  · have HE := Lib.hid (leftOf_no (left := left) (n := zss.length + sumLen zss zss.length) (by omega))
    go_enter Tryd.func9, Tryd.ntmps9
    go_wp2
    go_ret
    exact ⟨ret_i64 HE.out.symm, rfl⟩
  · go_enter Tryd.func9, Tryd.ntmps9
    go_wp2
    go_loop [1, 5] (fun l i => ∃ (k : Nat) (x : Int), k ≤ zss.length ∧ i = .int .i64 k ∧ l = .int .i64 x ∧ 0 ≤ x ∧ x ≤ 1048576 ∧ Hid (x = left - zss.length - sumLen zss k)) (fun _ i => zss.length - (intOf i).toNat)
    case atStart => exact ⟨0, _, Nat.zero_le _, rfl, rfl, by omega, by omega, by simp [Hid, sumLen]⟩
    case round =>
      obtain ⟨k, x, hk, rfl, rfl, hx0, hx1, HX⟩ := hrel
      by_cases hkl : k < zss.length
      · obtain ⟨b, off, ha, hc⟩ := HR.out.cell (by omega)
        subst ha
        have hck := hc k hkl
        clear hc
        have hrl := (HR.out.rows k hkl).len
        by_cases hfit : ((row zss k).length : Int) ≤ x
        · have HC := Lib.hid (szInt64S_yes (a := A k) hfit (C k) w hrl (by omega) (by omega))
          have HX' : Hid (x - (row zss k).length = left - zss.length - sumLen zss (k + 1)) := by have := HX.out; simp only [Hid, sumLen]; omega
          go_wp2_with (go_at_call 31; refine HC.out.mono ?_; rintro e w' ⟨rfl, rfl⟩)
          go_round
          case rel => exact ⟨k + 1, _, by omega, by go_num, rfl, by omega, by omega, HX'⟩
          case measure => simp [intOf]; omega
        · have HC := Lib.hid (szInt64S_no (a := A k) (left := x) (n := (row zss k).length) (by omega) (C k) w hrl (by omega) (by omega))
          have HE : Hid (leftOf left (zss.length + sumLen zss zss.length) = -1) := leftOf_no (by
            have h1 := sumLen_mono zss (show k + 1 ≤ zss.length by omega)
            have h2 := HX.out
            simp only [sumLen] at h1
            omega)
          go_wp2_with (go_at_call 31; refine HC.out.mono ?_; rintro e w' ⟨rfl, rfl⟩)
          go_ret
          exact ⟨ret_i64 HE.out.symm, rfl⟩
      · have HE : Hid (x = leftOf left (zss.length + sumLen zss zss.length)) := by
          have h2 := HX.out
          obtain rfl : k = zss.length := by omega
          rw [leftOf_yes (by omega)]; simp only [Hid]; omega
        go_wp2
        go_ret
        exact ⟨ret_i64 HE.out, rfl⟩

theorem szInt64SS_no {a : Option Addr} {A : Nat → Option Addr} {C : Nat → Nat} {zss : List (List Int)} {left : Int} (hlt : left < ((zss.length + sumLen zss zss.length : Nat) : Int)) (cap : Nat) (w : World) (h : RowsAt w a A C zss) (h0 : 0 ≤ left) (h1 : left ≤ 1048576) :
    Calls Tryd.prog 9 #[.slice a zss.length cap, .int .i64 left] w fun e w' => e = .returned (.int .i64 (-1)) ∧ w = w' := by
  have := szInt64SS_any a A C zss cap left w h h0 h1
  rw [leftOf_no hlt] at this; exact this

theorem szInt64SS_yes {a : Option Addr} {A : Nat → Option Addr} {C : Nat → Nat} {zss : List (List Int)} {left : Int} (hle : ((zss.length + sumLen zss zss.length : Nat) : Int) ≤ left) (cap : Nat) (w : World) (h : RowsAt w a A C zss) (h0 : 0 ≤ left) (h1 : left ≤ 1048576) :
    Calls Tryd.prog 9 #[.slice a zss.length cap, .int .i64 left] w fun e w' => e = .returned (.int .i64 (left - (zss.length + sumLen zss zss.length : Nat))) ∧ w = w' := by
  have := szInt64SS_any a A C zss cap left w h h0 h1
  rw [leftOf_yes hle] at this; exact this

/-- How many places an arena takes. -/
def sizeArena (O : List Int) (zss : List (List Int)) : Nat := O.length + (zss.length + sumLen zss zss.length)

set_option maxHeartbeats 1000000 in
theorem szArena_any (ao an : Option Addr) (O : List Int) (zss : List (List Int)) (co cn : Nat) (A : Nat → Option Addr) (C : Nat → Nat) (left : Int) (w : World) (hO : IntsAt w ao O) (hN : RowsAt w an A C zss) (_h0 : 0 ≤ left) (_h1 : left ≤ 1048576) :
    Calls Tryd.prog 30 #[.agg #[.slice ao O.length co, .slice an zss.length cn], .int .i64 left] w fun e w' => e = .returned (.int .i64 (leftOf left (sizeArena O zss))) ∧ Below w.heap.size w w' := by
  have hlO := hO.len
  have HN := Lib.hid hN
  clear hO hN
  by_cases h1 : left < O.length
  · have HC := Lib.hid (szInt64S_no (a := ao) h1 co (w.alloc (.cells #[.slice ao O.length co, .slice an zss.length cn] 25)) hlO (by omega) (by omega))
    have HE : Hid (leftOf left (sizeArena O zss) = -1) := leftOf_no (by unfold sizeArena; omega)
    go_enter Tryd.func30, Tryd.ntmps30
    go_wp2_with (go_at_call 31; refine HC.out.mono ?_; rintro e w' ⟨rfl, rfl⟩)
    go_ret
    exact ⟨ret_i64 HE.out.symm, below1 _ _⟩
  · have HC := Lib.hid (szInt64S_yes (a := ao) (left := left) (n := O.length) (by omega) co (w.alloc (.cells #[.slice ao O.length co, .slice an zss.length cn] 25)) hlO (by omega) (by omega))
    have hx0 : 0 ≤ left - O.length := by omega
    have hx1 : left - O.length ≤ 1048576 := by omega
    by_cases h2 : left - O.length < ((zss.length + sumLen zss zss.length : Nat) : Int)
    · have HC' := Lib.hid (szInt64SS_no h2 cn (w.alloc (.cells #[.slice ao O.length co, .slice an zss.length cn] 25)) (HN.out.alloc _) hx0 hx1)
      have HE : Hid (leftOf left (sizeArena O zss) = -1) := leftOf_no (by unfold sizeArena; omega)
      clear h2
      go_enter Tryd.func30, Tryd.ntmps30
      go_wp2_with (first | (go_at_call 31; refine HC.out.mono ?_; rintro e w' ⟨rfl, rfl⟩) | (go_at_call 9; refine HC'.out.mono ?_; rintro e w' ⟨rfl, rfl⟩))
      go_ret
      exact ⟨ret_i64 HE.out.symm, below1 _ _⟩
    · have HC' := Lib.hid (szInt64SS_yes (left := left - O.length) (zss := zss) (by omega) cn (w.alloc (.cells #[.slice ao O.length co, .slice an zss.length cn] 25)) (HN.out.alloc _) hx0 hx1)
      have HE : Hid (left - O.length - ((zss.length + sumLen zss zss.length : Nat) : Int) = leftOf left (sizeArena O zss)) := by
        rw [leftOf_yes (by unfold sizeArena; omega)]; unfold sizeArena Hid; omega
      obtain ⟨m, hm⟩ : ∃ m, m = left - O.length - ((zss.length + sumLen zss zss.length : Nat) : Int) := ⟨_, rfl⟩
      have hm0 : 0 ≤ m := by omega
      rw [← hm] at HC' HE
      clear h2 hm
      go_enter Tryd.func30, Tryd.ntmps30
      go_wp2_with (first | (go_at_call 31; refine HC.out.mono ?_; rintro e w' ⟨rfl, rfl⟩) | (go_at_call 9; refine HC'.out.mono ?_; rintro e w' ⟨rfl, rfl⟩))
      go_ret
      exact ⟨ret_i64 HE.out, below1 _ _⟩

theorem szArena_at {w : World} {v : Value} {O : List Int} {zss : List (List Int)} {left r : Int} (hr : leftOf left (sizeArena O zss) = r) (h : ArenaAt w v O zss) (h0 : 0 ≤ left) (h1 : left ≤ 1048576) :
    Calls Tryd.prog 30 #[v, .int .i64 left] w fun e w' => e = .returned (.int .i64 r) ∧ Below w.heap.size w w' := by
  obtain ⟨ao, an, co, cn, A, C, rfl, h2, h3⟩ := h
  subst hr
  exact szArena_any ao an O zss co cn A C left w h2 h3 h0 h1

end

section
open Go.RowKit

theorem ArenaCopy.owned {w w' w0 : World} {v : Value} {O : List Int} {zss : List (List Int)} (h : ArenaCopy w w' O zss) (hA : ArenaAt w0 v O zss) :
    OwnArena w' w.heap.size w'.heap.size (.agg #[.slice (some ⟨w.heap.size + 3, 0, none⟩) O.length O.length, .slice (some ⟨w.heap.size + 4, 0, none⟩) zss.length zss.length]) O zss := by
  obtain ⟨ao, an, co, cn, A, C, _, hO, hN⟩ := hA
  have hs := h.size
  refine ⟨_, _, outer (w.heap.size + 4) zss zss.length, rfl, OwnInts.of_rowIs h.owner (by omega) (by omega) hO.len hO.fits, ⟨ownsRow_of_rowIs h.top (by omega) (by have := hN.len; unfold maxLen; omega), fun g hg => by simp [Value.ownBlock] at hg; omega, hN.len, fun k hk => ?_, fun i j hi hj hne g hg hg' => ?_⟩, fun k hk g hg hg' => ?_⟩
  · have e : outer (w.heap.size + 4) zss zss.length k = .slice (some ⟨w.heap.size + 4 + 1 + k, 0, none⟩) (row zss k).length (row zss k).length := by simp only [outer]; rw [if_pos hk]
    rw [e]
    exact OwnInts.of_rowIs (h.done k hk) (by omega) (by omega) (hN.rows k hk).len (hN.rows k hk).fits
  · simp only [outer] at hg hg'
    rw [if_pos hi] at hg
    rw [if_pos hj] at hg'
    simp [Value.ownBlock] at hg hg'
    omega
  · simp only [outer] at hg
    rw [if_pos hk] at hg
    simp [Value.ownBlock] at hg hg'
    omega

/-- n marks from k on. -/
def marks (k : Int) (n : Nat) : List Int := (List.range n).map fun i : Nat => k + (i : Int)
theorem nth_set {zs : List Int} {j i : Nat} {x : Int} (hj : j < zs.length) : nth (zs.set j x) i = if i = j then x else nth zs i := by
  unfold nth
  simp only [List.getD, List.getElem?_set]
  by_cases e : j = i
  · subst e; simp [hj]
  · rw [if_neg e, if_neg (fun h => e h.symm)]

theorem OwnInts.store {w : World} {B D g n cap : Nat} {zs : List Int} (h : OwnInts w B D (.slice (some ⟨g, 0, none⟩) n cap) zs) (hn : n = zs.length) {j : Nat} (_hj : j < zs.length) {x : Int} (hx : Fits x) :
    OwnInts (w.setCell ⟨g, j, none⟩ (.int .i64 x)) B D (.slice (some ⟨g, 0, none⟩) n cap) (zs.set j x) := by
  subst hn
  have ho := h.own
  obtain ⟨h1, _⟩ := ho.stored j (.int .i64 x)
  refine ⟨?_, h.top, by simpa using h.len, fun k hk => ?_⟩
  · rw [← List.map_set] at h1
    simpa using h1
  · rw [nth_set _hj]
    split
    · exact hx
    · exact h.fits k (by simpa using hk)

/-- j of the rows are marked. -/
structure Half (w wr : World) (B D : Nat) (v : Value) (V : Nat → Value) (zss : List (List Int)) (k : Int) (j : Nat) : Prop where
  own : wr.ownsRow B 22 1 v zss.length ((List.range zss.length).map V)
  done : ∀ i, i < j → i < zss.length → OwnInts wr B D (V i) (marks (k + (sumLen zss i : Int)) (row zss i).length)
  todo : ∀ i, j ≤ i → i < zss.length → OwnInts wr B D (V i) (row zss i)
  only : Only (fun b => ∃ i, i < zss.length ∧ (V i).ownBlock = some b) w wr

theorem Half.step {w wr w1 : World} {B D : Nat} {v : Value} {V : Nat → Value} {zss : List (List Int)} {k : Int} {j : Nat} (h : Half w wr B D v V zss k j) (hj : j < zss.length)
    (ap : ∀ i j, i < zss.length → j < zss.length → i ≠ j → ∀ g, (V i).ownBlock = some g → (V j).ownBlock ≠ some g)
    (h1 : OwnInts w1 B D (V j) (marks (k + (sumLen zss j : Int)) (row zss j).length)) (h2 : Only (fun b => (V j).ownBlock = some b) wr w1) : Half w w1 B D v V zss k (j + 1) := by
  refine ⟨ownsRow_only h.own h2 (own_types h.own (h.todo j (Nat.le_refl _) hj).own), fun i hi hin => ?_, fun i hi hin => (h.todo i (by omega) hin).only h2 (ap i j hin hj (by omega)), h.only.trans (h2.mono fun b hb => ⟨j, hj, hb⟩)⟩
  by_cases e : i = j
  · subst e; exact h1
  · exact (h.done i (by omega) hin).only h2 (ap i j hin hj e)

end

section
section
open Go.RowKit

theorem row_snoc {zss : List (List Int)} {zs : List Int} : row (zss ++ [zs]) zss.length = zs := by simp [row]
theorem row_snoc_old {zss : List (List Int)} {zs : List Int} {k : Nat} (h : k < zss.length) : row (zss ++ [zs]) k = row zss k := by simp [row, List.getElem?_append_left h]

/-- A row is appended: behind the outer append. -/
theorem OwnRows.push {w w1 : World} {B D D' : Nat} {v v' u : Value} {V : Nat → Value} {zss : List (List Int)} {zs : List Int} (h : OwnRows w B D v V zss) (hu : OwnInts w B D' u zs) (hap : ∀ i, i < zss.length → ∀ g, u.ownBlock = some g → (V i).ownBlock ≠ some g)
    (ho : w1.ownsRow B 22 1 v' (zss.length + 1) ((List.range zss.length).map V ++ [u])) (hg : Only (fun b => v.ownBlock = some b) w w1) (hl : zss.length + 1 ≤ 17592186044416) :
    OwnRows w1 B w1.heap.size v' (fun i => if i = zss.length then u else V i) (zss ++ [zs]) := by
  refine ⟨?_, fun g hg => (ho.lt g hg).2, by simpa using hl, fun k hk => ?_, fun i j hi hj hne g hg1 hg2 => ?_⟩
  · have e : (List.range (zss ++ [zs]).length).map (fun i => if i = zss.length then u else V i) = (List.range zss.length).map V ++ [u] := by
      simp only [List.length_append, List.length_cons, List.length_nil, List.range_succ, List.map_append, List.map_cons, List.map_nil, Nat.zero_add, if_true]
      congr 1
      exact List.map_congr_left fun i hi => by rw [if_neg (by have := List.mem_range.1 hi; omega)]
    rw [e]
    simpa using ho
  · by_cases e : k = zss.length
    · subst e
      simp only [if_true]
      rw [row_snoc]
      exact (hu.only hg (fun g h1 h2 => own_types h.own hu.own g h2 h1)).retop
    · have hk' : k < zss.length := by simp at hk; omega
      simp only [if_neg e]
      rw [row_snoc_old hk']
      exact ((h.rows k hk').only hg (fun g h1 h2 => own_types h.own (h.rows k hk').own g h2 h1)).retop
  · simp only [List.length_append, List.length_cons, List.length_nil] at hi hj
    by_cases e : i = zss.length
    · subst e
      simp only [if_true] at hg1
      simp only [if_neg (Ne.symm hne)] at hg2
      exact hap j (by omega) g hg1 hg2
    · simp only [if_neg e] at hg1
      by_cases e' : j = zss.length
      · subst e'
        simp only [if_true] at hg2
        exact hap i (by omega) g hg2 hg1
      · simp only [if_neg e'] at hg2
        exact h.apart i j (by omega) (by omega) hne g hg1 hg2

theorem OwnRows.nil (w : World) (B D : Nat) : OwnRows w B D (.slice none 0 0) (fun _ => .slice none 0 0) [] :=
  ⟨World.ownsRow_nil _ _ _ _, fun g hg => by simp [Value.ownBlock] at hg, by simp, fun k hk => absurd hk (by simp), fun i j hi => absurd hi (by simp)⟩
theorem OwnRows.retop {w : World} {B D : Nat} {v : Value} {V : Nat → Value} {zss : List (List Int)} (h : OwnRows w B D v V zss) : OwnRows w B w.heap.size v V zss :=
  ⟨h.own, fun g hg => (h.own.lt g hg).2, h.len, fun k hk => (h.rows k hk).retop, h.apart⟩
theorem OwnInts.base {w : World} {B B' D : Nat} {v : Value} {zs : List Int} (h : OwnInts w B D v zs) (hB : B' ≤ B) : OwnInts w B' D v zs := ⟨ownsRow_base h.own hB, h.top, h.len, h.fits⟩
theorem OwnRows.base {w : World} {B B' D : Nat} {v : Value} {V : Nat → Value} {zss : List (List Int)} (h : OwnRows w B D v V zss) (hB : B' ≤ B) : OwnRows w B' D v V zss :=
  ⟨ownsRow_base h.own hB, h.top, h.len, fun k hk => (h.rows k hk).base hB, h.apart⟩
theorem Only.of_grown {w w' : World} {r : Option Nat} (h : w.grownBy w' r) : Only (fun b => r = some b) w w' := ⟨h.os, h.tape, h.output, h.size, fun b hb hne => h.block b hb (fun e => hne e.symm)⟩

theorem Box2.not_own {w : World} {g : Nat} {t e : TypeId} {u v x : Value} {B size n : Nat} {xs : List Value} (h : Box2 w g t u v) (ho : w.ownsRow B e size x n xs) (hte : e ≠ t) : x.ownBlock ≠ some g := by
  intro hx
  rcases ho.2 with ⟨rfl, _⟩ | ⟨g1, _, _, rfl, _, h1, _⟩
  · simp [Value.ownBlock] at hx
  · simp [Value.ownBlock] at hx
    subst hx
    unfold Box2 at h
    rw [h] at h1
    simp at h1
    exact hte h1.2.symm

theorem Box2.only {w w' : World} {g : Nat} {t : TypeId} {u v : Value} {S : Nat → Prop} (h : Box2 w g t u v) (hk : Only S w w') (hs : ¬ S g) : Box2 w' g t u v := (hk.block g h.lt hs).trans h

/-- A struct's own box behind an append that wrote the row x. -/
theorem Box2.grown {w w' : World} {g : Nat} {t e : TypeId} {u v x : Value} {B size n : Nat} {xs : List Value} (h : Box2 w g t u v) (ho : w.ownsRow B e size x n xs) (hte : e ≠ t) (hg : w.grownBy w' x.ownBlock) : Box2 w' g t u v :=
  h.only (Only.of_grown hg) (h.not_own ho hte)

/-- What holds when k rows are copied: t: the copy's own struct, b: the argument's box. -/
structure Half2 (w wr : World) (t b : Nat) (vo sa sb : Value) (O : List Int) (zss : List (List Int)) : Prop where
  below : Below w.heap.size w wr
  box : Box2 wr b 31 sa sb
  own : ∃ vn V, Box2 wr t 31 vo vn ∧ OwnInts wr w.heap.size wr.heap.size vo O ∧ OwnRows wr w.heap.size wr.heap.size vn V zss ∧ ∀ i, i < zss.length → ∀ g, (V i).ownBlock = some g → vo.ownBlock ≠ some g

/-- A row u is appended to the rows: w2: behind the row's making, o: the one-element slice, w3: behind the append; then the new rows are stored into the struct. -/
theorem Half2.step {w wr w2 w3 : World} {t b gg cap : Nat} {o : Obj} {vo sa sb vn u : Value} {V : Nat → Value} {O zs : List Int} {zss : List (List Int)} (hbel : Below w.heap.size w wr) (hb : Box2 wr b 31 sa sb) (hT : Box2 wr t 31 vo vn)
    (hvo : OwnInts wr w.heap.size wr.heap.size vo O) (hvn : OwnRows wr w.heap.size wr.heap.size vn V zss) (hap : ∀ i, i < zss.length → ∀ g, (V i).ownBlock = some g → vo.ownBlock ≠ some g) (htw : w.heap.size ≤ t) (hbt : b ≠ t) (hl : zss.length ≤ 1048576)
    (h2 : Below wr.heap.size wr w2) (hu : OwnInts w2 wr.heap.size w2.heap.size u zs) (hown3 : w3.ownsRow w.heap.size 22 1 (.slice (some ⟨gg, 0, none⟩) (zss.length + 1) cap) (zss.length + 1) ((List.range zss.length).map V ++ [u])) (hgrow : (w2.alloc o).grownBy w3 vn.ownBlock) :
    Half2 w (w3.setCell ⟨t, 1, none⟩ (.slice (some ⟨gg, 0, none⟩) (zss.length + 1) cap)) t b vo sa sb O (zss ++ [zs]) := by
  have h2a : Below wr.heap.size wr (w2.alloc o) := h2.alloc h2.size o
  have hown : (w2.alloc o).ownsRow w.heap.size 22 1 vn zss.length ((List.range zss.length).map V) := ownsRow_only hvn.own (S := fun _ => False) (Only.of_below h2a) (fun _ _ h => h)
  have hT3 := (hT.below h2a).grown hown (by decide) hgrow
  have hb3 := (hb.below h2a).grown hown (by decide) hgrow
  have hvo3 : OwnInts w3 w.heap.size w3.heap.size vo O := ((hvo.below h2a).only (Only.of_grown hgrow) (fun g h1 h2 => own_types hown (hvo.below h2a).own g h2 h1)).retop
  have hu' : OwnInts (w2.alloc o) w.heap.size w2.heap.size u zs := (hu.below (below1 _ _)).base hbel.size
  have hlow : ∀ g, u.ownBlock = some g → wr.heap.size ≤ g := fun g hg => (hu.own.lt g hg).1
  have hrows := (hvn.below h2a).push (w1 := w3) hu' (fun i hi g h1 h3 => by have := (hvn.rows i hi).top g h3; have := hlow g h1; omega) hown3 (Only.of_grown hgrow) (by omega)
  have hS : Only (fun b => b = t) w3 (w3.setCell ⟨t, 1, none⟩ (.slice (some ⟨gg, 0, none⟩) (zss.length + 1) cap)) := Only.setCell (S := fun b => b = t) (Only.refl _ _) (p := ⟨t, 1, none⟩) rfl _
  refine ⟨?_, hb3.only hS hbt, _, _, hT3.set1 _, (hvo3.only hS (fun g hg e => hT3.not_own hvo3.own (by decide) (by rw [hg, e]))).retop, (hrows.only hS (fun g hg e => hT3.not_own hrows.own (by decide) (by rw [hg, e])) (fun k hk g hg e => hT3.not_own (hrows.rows k hk).own (by decide) (by rw [hg, e]))).retop, fun i hi g hg => ?_⟩
  · have h3 : Below w.heap.size w (w2.alloc o) := hbel.trans (h2a.mono hbel.size)
    exact (h3.trans ((Only.of_grown hgrow).below h3.size (fun g hg => (hown.lt g hg).1))).setCell htw _
  · by_cases e : i = zss.length
    · subst e
      simp only [if_true] at hg
      intro hh
      have := hvo.top g hh
      have := hlow g hg
      omega
    · simp only [if_neg e] at hg
      exact hap i (by simp at hi; omega) g hg
end

section
open Go.RowKit

end

section
open Go.RowKit

theorem Box2.set0_only {w : World} {t : Nat} (x : Value) : Only (fun b => b = t) w (w.setCell ⟨t, 0, none⟩ x) := Only.setCell (S := fun b => b = t) (Only.refl _ _) (p := ⟨t, 0, none⟩) rfl _
theorem Box2.set1_only {w : World} {t : Nat} (x : Value) : Only (fun b => b = t) w (w.setCell ⟨t, 1, none⟩ x) := Only.setCell (S := fun b => b = t) (Only.refl _ _) (p := ⟨t, 1, none⟩) rfl _

/-- A number x is appended to the owners; then the new owners are stored into the struct. -/
theorem Half2.owner {w wr w1 : World} {t b gg cap : Nat} {ob : Obj} {vo sa sb vn : Value} {V : Nat → Value} {O : List Int} {x : Int} {zss : List (List Int)} (hbel : Below w.heap.size w wr) (hb : Box2 wr b 31 sa sb) (hT : Box2 wr t 31 vo vn)
    (hvo : OwnInts wr w.heap.size wr.heap.size vo O) (hvn : OwnRows wr w.heap.size wr.heap.size vn V zss) (hap : ∀ i, i < zss.length → ∀ g, (V i).ownBlock = some g → vo.ownBlock ≠ some g) (htw : w.heap.size ≤ t) (hbt : b ≠ t) (hl : O.length ≤ 1048576) (hx : Fits x)
    (hown1 : w1.ownsRow w.heap.size 2 1 (.slice (some ⟨gg, 0, none⟩) (O.length + 1) cap) (O.length + 1) (O.map (Value.int .i64) ++ [.int .i64 x])) (hgrow : (wr.alloc ob).grownBy w1 vo.ownBlock) (hat : vo.ownBlock = some gg ∨ gg = wr.heap.size + 1) :
    Half2 w (w1.setCell ⟨t, 0, none⟩ (.slice (some ⟨gg, 0, none⟩) (O.length + 1) cap)) t b (.slice (some ⟨gg, 0, none⟩) (O.length + 1) cap) sa sb (O ++ [x]) zss := by
  have h2a : Below wr.heap.size wr (wr.alloc ob) := below1 _ _
  have hown := (hvo.below h2a).own
  have hT1 := (hT.below h2a).grown hown (by decide) hgrow
  have hb1 := (hb.below h2a).grown hown (by decide) hgrow
  have hI : OwnInts w1 w.heap.size w1.heap.size (.slice (some ⟨gg, 0, none⟩) (O.length + 1) cap) (O ++ [x]) := by
    refine OwnInts.mk' (by simpa using hown1) (by simp; omega) fun k hk => ?_
    by_cases e : k < O.length
    · rw [show nth (O ++ [x]) k = nth O k from by simp [nth, List.getElem?_append_left e]]
      exact hvo.fits k e
    · have : k = O.length := by simp at hk; omega
      subst this
      rw [show nth (O ++ [x]) O.length = x from by simp [nth]]
      exact hx
  have hR := (hvn.below h2a).only (Only.of_grown hgrow) (fun g h1 h2 => own_types (hvn.below h2a).own hown g h1 h2) (fun k hk g h1 h2 => hap k hk g h1 h2)
  have hS := Box2.set0_only (w := w1) (t := t) (.slice (some ⟨gg, 0, none⟩) (O.length + 1) cap)
  refine ⟨?_, hb1.only hS hbt, _, V, hT1.set0 _, (hI.only hS (fun g hg e => hT1.not_own hI.own (by decide) (by rw [hg, e]))).retop, (hR.only hS (fun g hg e => hT1.not_own hR.own (by decide) (by rw [hg, e])) (fun k hk g hg e => hT1.not_own (hR.rows k hk).own (by decide) (by rw [hg, e]))).retop, fun i hi g hg hh => ?_⟩
  · have h3 : Below w.heap.size w (wr.alloc ob) := hbel.alloc hbel.size ob
    exact (h3.trans ((Only.of_grown hgrow).below h3.size (fun g hg => (hown.lt g hg).1))).setCell htw _
  · simp [Value.ownBlock] at hh
    subst hh
    rcases hat with h | h
    · exact hap i hi _ hg h
    · have := (hvn.rows i hi).top _ hg
      omega

/-- k owners are exchanged in place. -/
structure Turn (w wr : World) (t r k : Nat) (vo vn : Value) (V : Nat → Value) (O : List Int) (zss : List (List Int)) : Prop where
  below : Below w.heap.size w wr
  box : Box2 wr t 31 vo vn
  res : Box2 wr r 31 (.slice none 0 0) (.slice none 0 0)
  own : ∃ P, P.length = O.length ∧ OwnInts wr w.heap.size wr.heap.size vo P ∧ ∀ i, i < O.length → nth P i = if i < k then 1 - nth O i else nth O i
  rows : OwnRows wr w.heap.size wr.heap.size vn V zss

theorem Turn.step {w wr : World} {t r k g n c : Nat} {vn : Value} {V : Nat → Value} {O : List Int} {zss : List (List Int)} (h : Turn w wr t r k (.slice (some ⟨g, 0, none⟩) n c) vn V O zss) (hn : n = O.length) (hk : k < O.length) (hf : Fits (1 - nth O k)) (hg : w.heap.size ≤ g) 
    (hap : ∀ i, i < zss.length → ∀ b, (V i).ownBlock = some b → b ≠ g) :
    Turn w (wr.setCell ⟨g, k, none⟩ (.int .i64 (1 - nth O k))) t r (k + 1) (.slice (some ⟨g, 0, none⟩) n c) vn V O zss := by
  obtain ⟨P, hl, ho, hm⟩ := h.own
  have hS : Only (fun b => b = g) wr (wr.setCell ⟨g, k, none⟩ (.int .i64 (1 - nth O k))) := Only.setCell (S := fun b => b = g) (Only.refl _ _) (p := ⟨g, k, none⟩) rfl _
  have htg : t ≠ g := fun e => h.box.not_own ho.own (by decide) (by simp [Value.ownBlock, e])
  have hrg : r ≠ g := fun e => h.res.not_own ho.own (by decide) (by simp [Value.ownBlock, e])
  refine ⟨h.below.setCell hg _, h.box.only hS htg, h.res.only hS hrg, ⟨P.set k (1 - nth O k), by simpa using hl, (ho.store (by omega) (by omega) hf).retop, fun i hi => ?_⟩, (h.rows.only hS (fun b hb e => own_types h.rows.own ho.own b hb (by simp [Value.ownBlock, e])) (fun i hi b hb e => hap i hi b hb e)).retop⟩
  rw [nth_set (by omega)]
  by_cases e : i = k
  · subst e; simp
  · rw [if_neg e, hm i hi]
    by_cases h' : i < k
    · rw [if_pos h', if_pos (by omega)]
    · rw [if_neg h', if_neg (by omega)]

theorem Turn.drew {w wr : World} {t r k : Nat} {vo vn : Value} {V : Nat → Value} {O : List Int} {zss : List (List Int)} (h : Turn w wr t r k vo vn V O zss) : Turn w wr.drew t r k vo vn V O zss := by
  have hb : Below wr.heap.size wr wr.drew := (Below.refl _ _).drew
  obtain ⟨P, hl, ho, hm⟩ := h.own
  exact ⟨h.below.drew, h.box.below hb, h.res.below hb, ⟨P, hl, (ho.below hb).retop, hm⟩, (h.rows.below hb).retop⟩

end
end

section
open Go.RowKit

/-- Where the numbers of r stand that S has. -/
def places (S : List Int) : List Int → Nat → List Int
  | _, 0 => []
  | r, k + 1 => places S r k ++ if hasB S (nth r k) then [idx S (nth r k)] else []

end

section
open Go.RowKit

set_option maxHeartbeats 1000000 in
theorem eqInt64S_yes {a c : Option Addr} {zs : List Int} (w : World) (ca cc : Nat) (ha : IntsAt w a zs) (hc : IntsAt w c zs) :
    Calls Tryd.prog 25 #[.slice a zs.length ca, .slice c zs.length cc] w fun e w' => e = .returned (.bool true) ∧ ∃ q, w' = w.drewN q := by
  have hlen := ha.len
  have HA := Lib.hid ha
  have HC := Lib.hid hc
  clear ha hc
  have hne : ((zs.length : Int) != (zs.length : Int)) = false := by simp
  go_enter Tryd.func25, Tryd.ntmps25
  go_wp2
  go_loopw [5] (fun i wr => ∃ k : Nat, k ≤ zs.length ∧ i = .int .i64 k ∧ Hid (∃ q, wr = w.drewN q)) (fun i _ => zs.length - (intOf i).toNat)
  case atStart => exact ⟨0, Nat.zero_le _, rfl, 0, rfl⟩
  case round =>
    obtain ⟨k, hk, rfl, HW⟩ := hrel
    by_cases hlt : k < zs.length
    · obtain ⟨b, off, e1, h1⟩ := (HA.out.same HW.out).cell (by omega)
      obtain ⟨b2, off2, e2, h2⟩ := (HC.out.same HW.out).cell (by omega)
      subst e1
      subst e2
      have hck := h1 k hlt
      have hck2 := h2 k hlt
      clear h1 h2
      have hi1 : (k : Int) < zs.length := by omega
      have hn : (nth zs k != nth zs k) = false := by simp
      go_wp2
      go_quiet (fail)
      go_wp2
      go_roundw
      case rel => exact ⟨k + 1, by omega, by go_num, drewn HW.out⟩
      case measure => simp [intOf]; omega
    · go_wp2
      go_ret
      exact ⟨rfl, HW.out⟩

set_option maxHeartbeats 1000000 in
theorem eqInt64SS_yes {a c : Option Addr} {A A' : Nat → Option Addr} {C C' : Nat → Nat} {zss : List (List Int)} (w : World) (ca cc : Nat) (ha : RowsAt w a A C zss) (hc : RowsAt w c A' C' zss) :
    Calls Tryd.prog 15 #[.slice a zss.length ca, .slice c zss.length cc] w fun e w' => e = .returned (.bool true) ∧ ∃ q, w' = w.drewN q := by
  have hlen := ha.len
  have HA := Lib.hid ha
  have HC := Lib.hid hc
  clear ha hc
  have hne : ((zss.length : Int) != (zss.length : Int)) = false := by simp
  go_enter Tryd.func15, Tryd.ntmps15
  go_wp2
  go_loopw [5] (fun i wr => ∃ k : Nat, k ≤ zss.length ∧ i = .int .i64 k ∧ Hid (∃ q, wr = w.drewN q)) (fun i _ => zss.length - (intOf i).toNat)
  case atStart => exact ⟨0, Nat.zero_le _, rfl, 0, rfl⟩
  case round =>
    obtain ⟨k, hk, rfl, HW⟩ := hrel
    by_cases hlt : k < zss.length
    · have hA' := Lib.hid (HA.out.same HW.out)
      have hC' := Lib.hid (HC.out.same HW.out)
      obtain ⟨b, off, e1, h1⟩ := hA'.out.cell (by omega)
      obtain ⟨b2, off2, e2, h2⟩ := hC'.out.cell (by omega)
      subst e1
      subst e2
      have hck := h1 k hlt
      have hck2 := h2 k hlt
      clear h1 h2
      have hi1 : (k : Int) < zss.length := by omega
      have HE : Hid (∀ q, Calls Tryd.prog 25 #[.slice (A k) (row zss k).length (C k), .slice (A' k) (row zss k).length (C' k)] (wr.drewN q) fun e w' => e = .returned (.bool true) ∧ ∃ m, w' = (wr.drewN q).drewN m) := fun q =>
        eqInt64S_yes (wr.drewN q) (C k) (C' k) ((hA'.out.rows k hlt).same ⟨q, rfl⟩) ((hC'.out.rows k hlt).same ⟨q, rfl⟩)
      go_wp2
      go_quiet ((go_at_call 25; exact Calls.quiet_of (HE.out _)))
      go_wp2
      go_roundw
      case rel => exact ⟨k + 1, by omega, by go_num, drewn HW.out⟩
      case measure => simp [intOf]; omega
    · go_wp2
      go_ret
      exact ⟨rfl, HW.out⟩

set_option maxHeartbeats 1000000 in
theorem eqArena_yes {ao an co cn : Option Addr} {A A' : Nat → Option Addr} {C C' : Nat → Nat} {O : List Int} {zss : List (List Int)} (w : World) (k1 k2 k3 k4 : Nat)
    (h1 : IntsAt w ao O) (h2 : RowsAt w an A C zss) (h3 : IntsAt w co O) (h4 : RowsAt w cn A' C' zss) :
    Calls Tryd.prog 38 #[.agg #[.slice ao O.length k1, .slice an zss.length k2], .agg #[.slice co O.length k3, .slice cn zss.length k4]] w fun e w' => e = .returned (.bool true) ∧ Below w.heap.size w w' := by
  have HE := Lib.hid (eqInt64S_yes _ k1 k3 ((h1.alloc (.cells #[.slice ao O.length k1, .slice an zss.length k2] 31)).alloc (.cells #[.slice co O.length k3, .slice cn zss.length k4] 31)) ((h3.alloc _).alloc _))
  have HF : Hid (∀ q, Calls Tryd.prog 15 #[.slice an zss.length k2, .slice cn zss.length k4] (((w.alloc (.cells #[.slice ao O.length k1, .slice an zss.length k2] 31)).alloc (.cells #[.slice co O.length k3, .slice cn zss.length k4] 31)).drewN q) fun e w' => e = .returned (.bool true) ∧ ∃ m, w' = (((w.alloc (.cells #[.slice ao O.length k1, .slice an zss.length k2] 31)).alloc (.cells #[.slice co O.length k3, .slice cn zss.length k4] 31)).drewN q).drewN m) := fun q =>
    eqInt64SS_yes _ k2 k4 (((h2.alloc _).alloc _).same ⟨q, rfl⟩) (((h4.alloc _).alloc _).same ⟨q, rfl⟩)
  clear h1 h2 h3 h4
  go_enter Tryd.func38, Tryd.ntmps38
  go_wp2_with (first | (go_at_call 25; refine HE.out.mono ?_; rintro e w' ⟨rfl, q, rfl⟩) | (go_at_call 15; refine (HF.out _).mono ?_; rintro e w' ⟨rfl, q', rfl⟩))
  go_ret
  exact ⟨rfl, below_drewN (below2 _ _ _) _⟩

theorem eqArena_at {w : World} {v v' : Value} {O : List Int} {zss : List (List Int)} (h : ArenaAt w v O zss) (h' : ArenaAt w v' O zss) :
    Calls Tryd.prog 38 #[v, v'] w fun e w' => e = .returned (.bool true) ∧ Below w.heap.size w w' := by
  obtain ⟨ao, an, co, cn, A, C, rfl, h1, h2⟩ := h
  obtain ⟨ao', an', co', cn', A', C', rfl, h1', h2'⟩ := h'
  exact eqArena_yes w co cn co' cn' h1 h2 h1' h2'
end

section
open Go.RowKit

/-- The slice v reads as zs. -/
def IntsV (w : World) (v : Value) (zs : List Int) : Prop := ∃ a cap, v = .slice a zs.length cap ∧ IntsAt w a zs

theorem IntsV.below {w w' : World} {v : Value} {zs : List Int} (h : IntsV w v zs) (hb : Below w.heap.size w w') : IntsV w' v zs := by
  obtain ⟨a, cap, hv, hi⟩ := h
  exact ⟨a, cap, hv, hi.below hb⟩
theorem OwnInts.v {w : World} {B D : Nat} {v : Value} {zs : List Int} (h : OwnInts w B D v zs) : IntsV w v zs := by
  obtain ⟨a, cap, hv, hi, _⟩ := h.shape
  exact ⟨a, cap, hv, hi⟩

theorem eqInts_at {w : World} {v v' : Value} {zs : List Int} (h : IntsV w v zs) (h' : IntsV w v' zs) :
    Calls Tryd.prog 25 #[v, v'] w fun e w' => e = .returned (.bool true) ∧ Below w.heap.size w w' := by
  obtain ⟨a, cap, rfl, hi⟩ := h
  obtain ⟨a', cap', rfl, hi'⟩ := h'
  exact (eqInt64S_yes w cap cap' hi hi').mono fun e w' ⟨he, hq⟩ => ⟨he, below_same (Below.refl _ _) hq⟩

theorem toInts_at {w : World} {v : Value} {zs : List Int} (h : IntsV w v zs) :
    Calls Tryd.prog 36 #[v] w fun e w' => ∃ u, e = .returned u ∧ OwnInts w' w.heap.size w'.heap.size u zs ∧ Below w.heap.size w w' := by
  obtain ⟨a, cap, rfl, hi⟩ := h
  refine (toInt64S_any a zs cap w hi).mono fun e w' ⟨he, hr, hs, hb⟩ => ⟨_, he, OwnInts.of_rowIs hr (Nat.le_refl _) (by omega) hi.len hi.fits, hb⟩
end

end Go.Proofs.YtihaajcmephlmaaDoor
namespace Go.Proofs.YtihaajcmephlmaaDoor
section
section
open Go.RowKit

/-- t: the struct that grows, with the owners vo and the rows vn (row k is V k); b: the argument's box. -/
structure Half3 (w wr : World) (t b : Nat) (vo vn : Value) (V : Nat → Value) (sa sb : Value) (O : List Int) (zss : List (List Int)) : Prop where
  below : Below w.heap.size w wr
  box : Box2 wr b 31 sa sb
  str : Box2 wr t 31 vo vn
  ints : OwnInts wr w.heap.size wr.heap.size vo O
  rows : OwnRows wr w.heap.size wr.heap.size vn V zss
  apart : ∀ i, i < zss.length → ∀ g, (V i).ownBlock = some g → vo.ownBlock ≠ some g

theorem Half3.keep {w wr wr' : World} {t b : Nat} {vo vn : Value} {V : Nat → Value} {sa sb : Value} {O : List Int} {zss : List (List Int)} (h : Half3 w wr t b vo vn V sa sb O zss) (hb : Below wr.heap.size wr wr') : Half3 w wr' t b vo vn V sa sb O zss :=
  ⟨h.below.trans (hb.mono h.below.size), h.box.below hb, h.str.below hb, (h.ints.below hb).retop, (h.rows.below hb).retop, h.apart⟩

theorem Half3.owner {w wr w1 : World} {t b gg cap : Nat} {vo vn : Value} {V : Nat → Value} {sa sb : Value} {O : List Int} {x : Int} {zss : List (List Int)} (h : Half3 w wr t b vo vn V sa sb O zss) (htw : w.heap.size ≤ t) (hbt : b ≠ t) (hl : O.length ≤ 1048576) (hx : Fits x)
    (hown1 : w1.ownsRow w.heap.size 2 1 (.slice (some ⟨gg, 0, none⟩) (O.length + 1) cap) (O.length + 1) (O.map (Value.int .i64) ++ [.int .i64 x])) (hgrow : wr.grownBy w1 vo.ownBlock) (hat : vo.ownBlock = some gg ∨ wr.heap.size ≤ gg) :
    Half3 w (w1.setCell ⟨t, 0, none⟩ (.slice (some ⟨gg, 0, none⟩) (O.length + 1) cap)) t b (.slice (some ⟨gg, 0, none⟩) (O.length + 1) cap) vn V sa sb (O ++ [x]) zss := by
  have hown := h.ints.own
  have hT1 := h.str.grown hown (by decide) hgrow
  have hb1 := h.box.grown hown (by decide) hgrow
  have hI : OwnInts w1 w.heap.size w1.heap.size (.slice (some ⟨gg, 0, none⟩) (O.length + 1) cap) (O ++ [x]) := by
    refine OwnInts.mk' (by simpa using hown1) (by simp; omega) fun k hk => ?_
    by_cases e : k < O.length
    · rw [show nth (O ++ [x]) k = nth O k from by simp [nth, List.getElem?_append_left e]]
      exact h.ints.fits k e
    · have : k = O.length := by simp at hk; omega
      subst this
      rw [show nth (O ++ [x]) O.length = x from by simp [nth]]
      exact hx
  have hR := h.rows.only (Only.of_grown hgrow) (fun g h1 h2 => own_types h.rows.own hown g h1 h2) (fun k hk g h1 h2 => h.apart k hk g h1 h2)
  have hS := Box2.set0_only (w := w1) (t := t) (.slice (some ⟨gg, 0, none⟩) (O.length + 1) cap)
  refine ⟨?_, hb1.only hS hbt, hT1.set0 _, (hI.only hS (fun g hg e => hT1.not_own hI.own (by decide) (by rw [hg, e]))).retop, (hR.only hS (fun g hg e => hT1.not_own hR.own (by decide) (by rw [hg, e])) (fun k hk g hg e => hT1.not_own (hR.rows k hk).own (by decide) (by rw [hg, e]))).retop, fun i hi g hg hh => ?_⟩
  · exact (h.below.trans ((Only.of_grown hgrow).below h.below.size (fun g hg => (hown.lt g hg).1))).setCell htw _
  · simp [Value.ownBlock] at hh
    subst hh
    rcases hat with h' | h'
    · exact h.apart i hi _ hg h'
    · have := (h.rows.rows i hi).top _ hg
      omega

theorem Half3.push {w wr w3 : World} {t b gg cap : Nat} {vo vn u : Value} {V : Nat → Value} {sa sb : Value} {O zs : List Int} {zss : List (List Int)} {B D : Nat} (h : Half3 w wr t b vo vn V sa sb O zss) (htw : w.heap.size ≤ t) (hbt : b ≠ t) (hl : zss.length ≤ 1048576)
    (hu : OwnInts wr B D u zs) (hB : w.heap.size ≤ B) (hapu : ∀ i, i < zss.length → ∀ g, u.ownBlock = some g → (V i).ownBlock ≠ some g) (hvu : ∀ g, u.ownBlock = some g → vo.ownBlock ≠ some g)
    (hown3 : w3.ownsRow w.heap.size 22 1 (.slice (some ⟨gg, 0, none⟩) (zss.length + 1) cap) (zss.length + 1) ((List.range zss.length).map V ++ [u])) (hgrow : wr.grownBy w3 vn.ownBlock) :
    Half3 w (w3.setCell ⟨t, 1, none⟩ (.slice (some ⟨gg, 0, none⟩) (zss.length + 1) cap)) t b vo (.slice (some ⟨gg, 0, none⟩) (zss.length + 1) cap) (fun i => if i = zss.length then u else V i) sa sb O (zss ++ [zs]) := by
  have hown := h.rows.own
  have hT3 := h.str.grown hown (by decide) hgrow
  have hb3 := h.box.grown hown (by decide) hgrow
  have hvo3 : OwnInts w3 w.heap.size w3.heap.size vo O := (h.ints.only (Only.of_grown hgrow) (fun g h1 h2 => own_types hown h.ints.own g h2 h1)).retop
  have hrows := h.rows.push (w1 := w3) (hu.base hB) (fun i hi g h1 h3 => hapu i hi g h1 h3) hown3 (Only.of_grown hgrow) (by omega)
  have hS : Only (fun b => b = t) w3 (w3.setCell ⟨t, 1, none⟩ (.slice (some ⟨gg, 0, none⟩) (zss.length + 1) cap)) := Box2.set1_only _
  refine ⟨(h.below.trans ((Only.of_grown hgrow).below h.below.size (fun g hg => (hown.lt g hg).1))).setCell htw _, hb3.only hS hbt, hT3.set1 _, (hvo3.only hS (fun g hg e => hT3.not_own hvo3.own (by decide) (by rw [hg, e]))).retop, (hrows.only hS (fun g hg e => hT3.not_own hrows.own (by decide) (by rw [hg, e])) (fun k hk g hg e => hT3.not_own (hrows.rows k hk).own (by decide) (by rw [hg, e]))).retop, fun i hi g hg => ?_⟩
  by_cases e : i = zss.length
  · subst e
    simp only [if_true] at hg
    exact hvu g hg
  · simp only [if_neg e] at hg
    exact h.apart i (by simp at hi; omega) g hg

end

section
open Go.RowKit

/-- v is reached from F by at least one step, every vertex stepped to being one of I. -/
inductive Rch (zss : List (List Int)) (I : Nat → Bool) (F : List Int) : Nat → Prop
  | one {u v : Nat} : (u : Int) ∈ F → (v : Int) ∈ row zss u → I v = true → Rch zss I F v
  | more {u v : Nat} : Rch zss I F u → (v : Int) ∈ row zss u → I v = true → Rch zss I F v

/-- How many of the first n are not marked. -/
def cnt (xs : Nat → Bool) : Nat → Nat
  | 0 => 0
  | k + 1 => cnt xs k + if xs k = true then 0 else 1

theorem cnt_congr {xs ys : Nat → Bool} {n : Nat} (h : ∀ i, i < n → xs i = ys i) : cnt xs n = cnt ys n := by
  induction n with
  | zero => rfl
  | succ k ih => simp only [cnt]; rw [ih (fun i hi => h i (by omega)), h k (by omega)]

/-- One more mark. -/
def mark1 (xs : Nat → Bool) (v : Nat) (b : Bool) : Nat → Bool := fun i => if i = v then b else xs i

theorem cnt_mark {xs : Nat → Bool} {n v : Nat} (hv : v < n) (hx : xs v = false) : cnt (mark1 xs v true) n + 1 = cnt xs n := by
  induction n with
  | zero => omega
  | succ k ih =>
    simp only [cnt]
    by_cases e : v = k
    · subst e
      have h1 : cnt (mark1 xs v true) v = cnt xs v := cnt_congr fun i hi => by simp [mark1, show i ≠ v from by omega]
      have h2 : mark1 xs v true v = true := by simp [mark1]
      rw [h1, h2, hx]; simp
    · have h1 := ih (by omega)
      have h2 : mark1 xs v true k = xs k := by simp [mark1, show k ≠ v from fun h => e h.symm]
      rw [h2]; omega

theorem mark1_self (xs : Nat → Bool) (v : Nat) (b : Bool) : mark1 xs v b v = b := by simp [mark1]
theorem mark1_mono {xs : Nat → Bool} {v i : Nat} (h : xs i = true) : mark1 xs v true i = true := by
  unfold mark1; split <;> simp_all

/-- The model's search: xs is marked, todo is still to be looked at. -/
structure Bey0 (zss : List (List Int)) (I : Nat → Bool) (F : List Int) (n : Nat) (xs : Nat → Bool) (todo : List Int) : Prop where
  snd : ∀ v, v < n → xs v = true → Rch zss I F v
  tin : ∀ t ∈ todo, ∃ u : Nat, t = (u : Int) ∧ u < n ∧ ((u : Int) ∈ F ∨ xs u = true)
  cmp : ∀ u : Nat, u < n → ((u : Int) ∈ F ∨ xs u = true) → (u : Int) ∈ todo ∨ ∀ v : Nat, (v : Int) ∈ row zss u → I v = true → xs v = true
  bnd : todo.length + cnt xs n ≤ F.length + n

/-- The same inside a round: p was taken, q of its successors have been looked at. -/
structure Bey (zss : List (List Int)) (I : Nat → Bool) (F : List Int) (n : Nat) (xs : Nat → Bool) (todo : List Int) (p q : Nat) : Prop where
  snd : ∀ v, v < n → xs v = true → Rch zss I F v
  tin : ∀ t ∈ todo, ∃ u : Nat, t = (u : Int) ∧ u < n ∧ ((u : Int) ∈ F ∨ xs u = true)
  cmp : ∀ u : Nat, u < n → ((u : Int) ∈ F ∨ xs u = true) → (u : Int) ∈ todo ∨ u = p ∨ ∀ v : Nat, (v : Int) ∈ row zss u → I v = true → xs v = true
  pin : (p : Int) ∈ F ∨ xs p = true
  prt : ∀ j, j < q → ∀ v : Nat, nth (row zss p) j = (v : Int) → I v = true → xs v = true
  bnd : todo.length + 1 + cnt xs n ≤ F.length + n

theorem Bey0.take {zss : List (List Int)} {I : Nat → Bool} {F : List Int} {n : Nat} {xs : Nat → Bool} {ts : List Int} {p : Nat} (h : Bey0 zss I F n xs (ts ++ [(p : Int)])) : p < n ∧ Bey zss I F n xs ts p 0 := by
  obtain ⟨u, hu, hun, hx⟩ := h.tin (p : Int) (by simp)
  have : p = u := by omega
  subst this
  refine ⟨hun, h.snd, fun t ht => h.tin t (by simp [ht]), fun u hu hx => ?_, hx, fun j hj => by omega, by have := h.bnd; simp at this; omega⟩
  rcases h.cmp u hu hx with hm | hm
  · rcases List.mem_append.1 hm with hm | hm
    · exact .inl hm
    · simp at hm; exact .inr (.inl (by omega))
  · exact .inr (.inr hm)

theorem Bey.skip {zss : List (List Int)} {I : Nat → Bool} {F : List Int} {n : Nat} {xs : Nat → Bool} {ts : List Int} {p q u : Nat} (h : Bey zss I F n xs ts p q) (hu : nth (row zss p) q = (u : Int)) (hs : I u = false ∨ xs u = true) : Bey zss I F n xs ts p (q + 1) :=
  ⟨h.snd, h.tin, h.cmp, h.pin, fun j hj v hv hI => by
    by_cases e : j = q
    · subst e
      have : u = v := by omega
      subst this
      rcases hs with hs | hs
      · rw [hs] at hI; cases hI
      · exact hs
    · exact h.prt j (by omega) v hv hI, h.bnd⟩

theorem Bey.push {zss : List (List Int)} {I : Nat → Bool} {F : List Int} {n : Nat} {xs : Nat → Bool} {ts : List Int} {p q u : Nat} (h : Bey zss I F n xs ts p q) (hp : p < n) (hq : q < (row zss p).length) (hu : nth (row zss p) q = (u : Int)) (hun : u < n) (hI : I u = true) (hx : xs u = false) :
    Bey zss I F n (mark1 xs u true) (ts ++ [(u : Int)]) p (q + 1) := by
  have hmem : (u : Int) ∈ row zss p := by rw [← hu]; exact nth_mem hq
  refine ⟨fun v hv hm => ?_, fun t ht => ?_, fun v hv hm => ?_, ?_, fun j hj v hv hIv => ?_, ?_⟩
  · by_cases e : v = u
    · subst e
      rcases h.pin with hf | hf
      · exact .one hf hmem hI
      · exact .more (h.snd p hp hf) hmem hI
    · exact h.snd v hv (by simpa [mark1, e] using hm)
  · rcases List.mem_append.1 ht with ht | ht
    · obtain ⟨w, h1, h2, h3⟩ := h.tin t ht
      exact ⟨w, h1, h2, h3.imp_right mark1_mono⟩
    · simp at ht
      exact ⟨u, ht, hun, .inr (mark1_self _ _ _)⟩
  · by_cases e : v = u
    · subst e; exact .inl (by simp)
    · have hm' : (v : Int) ∈ F ∨ xs v = true := hm.imp_right fun hh => by simpa [mark1, e] using hh
      rcases h.cmp v hv hm' with h1 | h1 | h1
      · exact .inl (List.mem_append.2 (.inl h1))
      · exact .inr (.inl h1)
      · exact .inr (.inr fun z hz hIz => mark1_mono (h1 z hz hIz))
  · exact h.pin.imp_right mark1_mono
  · by_cases e : j = q
    · subst e
      have : u = v := by omega
      subst this
      exact mark1_self _ _ _
    · exact mark1_mono (h.prt j (by omega) v hv hIv)
  · have h1 := cnt_mark hun hx
    have h2 := h.bnd
    simp
    omega

theorem Bey.done {zss : List (List Int)} {I : Nat → Bool} {F : List Int} {n : Nat} {xs : Nat → Bool} {ts : List Int} {p q : Nat} (h : Bey zss I F n xs ts p q) (hq : (row zss p).length ≤ q) : Bey0 zss I F n xs ts :=
  ⟨h.snd, h.tin, fun u hu hx => by
    rcases h.cmp u hu hx with h1 | h1 | h1
    · exact .inl h1
    · subst h1
      refine .inr fun v hv hI => ?_
      obtain ⟨i, hi, he⟩ := mem_nth.1 hv
      exact h.prt i (by omega) v he hI
    · exact .inr h1, by have := h.bnd; omega⟩

/-- At the end all that is reached is marked. -/
theorem Bey0.all {zss : List (List Int)} {I : Nat → Bool} {F : List Int} {n : Nat} {xs : Nat → Bool} (h : Bey0 zss I F n xs []) (hin : ∀ u : Nat, u < n → ∀ v : Nat, (v : Int) ∈ row zss u → v < n) (hF : ∀ f ∈ F, ∃ u : Nat, f = (u : Int) ∧ u < n) (v : Nat) (hv : v < n) : xs v = true ↔ Rch zss I F v := by
  refine ⟨h.snd v hv, fun hr => ?_⟩
  have key : ∀ v, Rch zss I F v → v < n ∧ xs v = true := by
    intro v hr
    induction hr with
    | @one u v hf hm hI =>
      obtain ⟨u', h1, h2⟩ := hF _ hf
      have : u = u' := by omega
      subst this
      rcases h.cmp u h2 (.inl hf) with hh | hh
      · cases hh
      · exact ⟨hin u h2 v hm, hh v hm hI⟩
    | @more u v _ hm hI ih =>
      rcases h.cmp u ih.1 (.inr ih.2) with hh | hh
      · cases hh
      · exact ⟨hin u ih.1 v hm, hh v hm hI⟩
  exact (key v hr).2

/-- What is marked, rising. -/
def markedK (xs : Nat → Bool) : Nat → List Int
  | 0 => []
  | k + 1 => markedK xs k ++ if xs k = true then [(k : Int)] else []

theorem markedK_len (xs : Nat → Bool) (k : Nat) : (markedK xs k).length ≤ k := by
  induction k with
  | zero => simp [markedK]
  | succ k ih => simp only [markedK]; split <;> simp <;> omega

end
end

section
open Go.RowKit

/-- What a row of marks reads as. -/
def marksV (xs : Nat → Bool) : Nat → Value := fun i => .bool (xs i)

end

section
open Go.RowKit

theorem rowIs_only {S : Nat → Prop} {w w' : World} {g n : Nat} {t : TypeId} {f : Nat → Value} (h : w.rowIs g t n f) (hk : Only S w w') (hs : ¬ S g) : w'.rowIs g t n f := h.of_block (hk.block g h.lt hs)

def lenOf : Value → Nat
  | .slice _ n _ => n
  | _ => 0

end

section
section
open Go.RowKit

/-- One call after another; what each leaves behind is appended. -/
def dfsL (step : (Nat → Bool) → Nat → (Nat → Bool) × List Int) : (Nat → Bool) → List Int → (Nat → Bool) × List Int
  | o, [] => (o, [])
  | o, u :: us => ((dfsL step (step o u.toNat).1 us).1, (step o u.toNat).2 ++ (dfsL step (step o u.toNat).1 us).2)

/-- How many of the first n are open. -/
def opens (o : Nat → Bool) : Nat → Nat
  | 0 => 0
  | k + 1 => opens o k + if o k = true then 1 else 0

theorem opens_mono {o o' : Nat → Bool} {n : Nat} (h : ∀ i, i < n → o' i = true → o i = true) : opens o' n ≤ opens o n := by
  induction n with
  | zero => simp [opens]
  | succ k ih =>
    have h1 := ih (fun i hi => h i (by omega))
    simp only [opens]
    by_cases e : o' k = true
    · rw [if_pos e, if_pos (h k (by omega) e)]; omega
    · rw [if_neg e]; omega

def tri (a b c : Value) : Nat → Value := fun i => if i = 0 then a else if i = 1 then b else c

end

section
open Go.RowKit

end
end

section
open Go.RowKit

def fnL (n : Nat) (f : Nat → Int) : List Int := (List.range n).map f
theorem fnL_len (n : Nat) (f : Nat → Int) : (fnL n f).length = n := by simp [fnL]
theorem fnL_nth {n i : Nat} {f : Nat → Int} (h : i < n) : nth (fnL n f) i = f i := by simp [nth, fnL, h]
theorem fnL_congr {n : Nat} {f g : Nat → Int} (h : ∀ i, i < n → f i = g i) : fnL n f = fnL n g := List.map_congr_left fun i hi => h i (List.mem_range.1 hi)
theorem fnL_set {n u : Nat} {f : Nat → Int} {x : Int} : (fnL n f).set u x = fnL n (fun i => if i = u then x else f i) := by
  apply List.ext_getElem?
  intro i
  by_cases hi : i < n
  · by_cases e : i = u
    · subst e; simp [fnL, hi]
    · simp [fnL, hi, e, Ne.symm e]
  · simp [fnL, hi]

/-- The slice at the head of block g owns f's values. -/
def OwnF (w : World) (B g cap n : Nat) (f : Nat → Int) : Prop := OwnInts w B w.heap.size (.slice (some ⟨g, 0, none⟩) n cap) (fnL n f)

theorem OwnF.row {w : World} {B g cap n : Nat} {f : Nat → Int} (h : OwnF w B g cap n f) : w.ownsRow B 2 1 (.slice (some ⟨g, 0, none⟩) n cap) n ((fnL n f).map (Value.int .i64)) := by
  have := h.own
  rw [fnL_len] at this
  exact this
theorem OwnF.lt {w : World} {B g cap n : Nat} {f : Nat → Int} (h : OwnF w B g cap n f) : B ≤ g ∧ g < w.heap.size := h.own.lt g rfl
theorem OwnF.ints {w : World} {B g cap n : Nat} {f : Nat → Int} (h : OwnF w B g cap n f) : IntsAt w (some ⟨g, 0, none⟩) (fnL n f) := by
  obtain ⟨a, c, hv, hi, _⟩ := h.shape
  simp only [Value.slice.injEq] at hv
  rw [hv.1]
  exact hi
theorem OwnF.cell {w : World} {B g cap n u : Nat} {f : Nat → Int} (h : OwnF w B g cap n f) (hu : u < n) : w.cell? ⟨g, u, none⟩ = some (.int .i64 (f u)) := by
  rw [h.row.cellAt u (by omega)]
  simp [fnL, hu]
theorem OwnF.frozen {w : World} {B g cap n : Nat} {f : Nat → Int} (h : OwnF w B g cap n f) (u : Nat) : w.frozen? ⟨g, u, none⟩ = false := h.row.frozenAt u
theorem OwnF.only {w w' : World} {S : Nat → Prop} {B g cap n : Nat} {f : Nat → Int} (h : OwnF w B g cap n f) (hk : Only S w w') (hs : ¬ S g) : OwnF w' B g cap n f :=
  (OwnInts.only h hk (fun b hb => by simp [Value.ownBlock] at hb; subst hb; exact hs)).retop
theorem OwnF.congr {w : World} {B g cap n : Nat} {f f' : Nat → Int} (h : OwnF w B g cap n f) (he : ∀ i, i < n → f i = f' i) : OwnF w B g cap n f' := by
  unfold OwnF at *; rw [← fnL_congr he]; exact h
theorem OwnF.put {w : World} {B g cap n u : Nat} {f : Nat → Int} {x : Int} (h : OwnF w B g cap n f) (hx : Fits x) : OwnF (w.setCell ⟨g, u, none⟩ (.int .i64 x)) B g cap n (fun i => if i = u then x else f i) := by
  obtain ⟨hs, _⟩ := h.row.stored u (.int .i64 x)
  have hm : ((fnL n f).map (Value.int .i64)).set u (.int .i64 x) = (fnL n (fun i => if i = u then x else f i)).map (Value.int .i64) := by rw [← fnL_set, List.map_set]
  rw [hm] at hs
  refine OwnInts.mk' (by rw [fnL_len]; exact hs) (by rw [fnL_len]; have := h.len; rw [fnL_len] at this; exact this) fun k hk => ?_
  rw [fnL_len] at hk
  rw [fnL_nth hk]
  have hf := h.fits k (by rw [fnL_len]; exact hk)
  rw [fnL_nth hk] at hf
  by_cases e : k = u
  · rw [if_pos e]; exact hx
  · rw [if_neg e]; exact hf
end

section
open Go.RowKit

/-- What was there in each of these worlds is there still. -/
def Keep : List World → World → Prop
  | [], _ => True
  | a :: l, w => Below a.heap.size a w ∧ Keep l w
theorem Keep.step : ∀ {l : List World} {w w' : World}, Keep l w → Below w.heap.size w w' → Keep l w'
  | [], _, _, _, _ => trivial
  | _ :: _, _, _, h, hb => ⟨h.1.trans (hb.mono h.1.size), Keep.step h.2 hb⟩
theorem Keep.add {l : List World} {w : World} (h : Keep l w) : Keep (w :: l) w := ⟨Below.refl _ _, h⟩
theorem Keep.only : ∀ {l : List World} {w w' : World} {S : Nat → Prop}, Keep l w → Only S w w' → (∀ a ∈ l, ∀ b, S b → a.heap.size ≤ b) → Keep l w'
  | [], _, _, _, _, _, _ => trivial
  | a :: l, _, _, _, h, ho, hs => ⟨h.1.trans (ho.below h.1.size (hs a (by simp))), Keep.only h.2 ho fun a ha => hs a (by simp [ha])⟩
theorem OwnArena.shape2 {w : World} {B D : Nat} {v : Value} {O : List Int} {zss : List (List Int)} (h : OwnArena w B D v O zss) : ∃ a0 c0 a1 c1, v = .agg #[.slice a0 O.length c0, .slice a1 zss.length c1] := by
  obtain ⟨ao, an, co, cn, A, C, hv, _, _⟩ := h.at
  exact ⟨ao, co, an, cn, hv⟩
theorem OwnInts.shape2 {w : World} {B D : Nat} {v : Value} {zs : List Int} (h : OwnInts w B D v zs) : ∃ a c, v = .slice a zs.length c := by
  obtain ⟨a, c, hv, _, _⟩ := h.shape
  exact ⟨a, c, hv⟩
theorem IntsV.at {w : World} {a : Option Addr} {n c : Nat} {zs : List Int} (h : IntsV w (.slice a n c) zs) : IntsAt w a zs := by
  obtain ⟨a', c', hv, hi⟩ := h
  cases hv; exact hi
end

section
open Go.RowKit

/-- What one walk from the vertices us does. -/
structure WalkP (zss : List (List Int)) (o : Nat → Bool) (us : List Int) (r : (Nat → Bool) × List Int) : Prop where
  shut : ∀ i, r.1 i = true → o i = true
  mem : ∀ i, i < zss.length → ((i : Int) ∈ r.2 ↔ o i = true ∧ r.1 i = false)
  nat : ∀ x ∈ r.2, ∃ i : Nat, x = (i : Int) ∧ i < zss.length
  nodup : r.2.Nodup
  reach : ∀ i, i < zss.length → o i = true → r.1 i = false → (i : Int) ∈ us ∨ Rch zss (fun _ => true) us i
  clos : ∀ i, i < zss.length → o i = true → r.1 i = false → ∀ j : Nat, (j : Int) ∈ row zss i → r.1 j = false
  self : ∀ u : Nat, (u : Int) ∈ us → r.1 u = false

theorem rch_mono {zss : List (List Int)} {I : Nat → Bool} {F G : List Int} (h : ∀ x ∈ F, x ∈ G) {v : Nat} (hr : Rch zss I F v) : Rch zss I G v := by
  induction hr with
  | one hf hm hI => exact .one (h _ hf) hm hI
  | more _ hm hI ih => exact .more ih hm hI

theorem WalkP.list {zss : List (List Int)} {step : (Nat → Bool) → Nat → (Nat → Bool) × List Int} {m : Nat} (h : ∀ o v, v < zss.length → opens o zss.length < m → WalkP zss o [(v : Int)] (step o v)) (us : List Int) (hus : ∀ x ∈ us, ∃ v : Nat, x = (v : Int) ∧ v < zss.length) :
    ∀ o, opens o zss.length < m → WalkP zss o us (dfsL step o us) := by
  induction us with
  | nil => intro o _; exact ⟨fun i h => h, fun i _ => by simp [dfsL], fun x hx => by simp [dfsL] at hx, by simp [dfsL], fun i _ h1 h2 => by simp [dfsL, h1] at h2, fun i _ h1 h2 => by simp [dfsL, h1] at h2, fun u hu => by simp at hu⟩
  | cons u us ih =>
    intro o ho
    obtain ⟨v, hv, hvn⟩ := hus u (by simp)
    subst hv
    have h1 := h o v hvn ho
    have h2 := ih (fun x hx => hus x (by simp [hx])) (step o v).1 (Nat.lt_of_le_of_lt (opens_mono fun i _ hi => h1.shut i hi) ho)
    have hstay : ∀ i, (step o v).1 i = false → (dfsL step (step o v).1 us).1 i = false := fun i hi => by
      cases hb : (dfsL step (step o v).1 us).1 i with
      | false => rfl
      | true => rw [h2.shut i hb] at hi; cases hi
    refine ⟨fun i hi => ?_, fun i hi => ?_, fun x hx => ?_, ?_, fun i hi hoi hr => ?_, fun i hi hoi hr j hj => ?_, fun w hw => ?_⟩
    · simp only [dfsL, Int.toNat_natCast] at hi
      exact h1.shut i (h2.shut i hi)
    · simp only [dfsL, Int.toNat_natCast, List.mem_append, h1.mem i hi, h2.mem i hi]
      constructor
      · rintro (⟨ha, hb⟩ | ⟨ha, hb⟩)
        · exact ⟨ha, hstay i hb⟩
        · exact ⟨h1.shut i ha, hb⟩
      · rintro ⟨ha, hb⟩
        cases hc : (step o v).1 i with
        | false => exact .inl ⟨ha, rfl⟩
        | true => exact .inr ⟨rfl, hb⟩
    · simp only [dfsL, Int.toNat_natCast, List.mem_append] at hx
      exact hx.elim (h1.nat x) (h2.nat x)
    · simp only [dfsL, Int.toNat_natCast]
      refine List.nodup_append.2 ⟨h1.nodup, h2.nodup, fun a ha b hb hab => ?_⟩
      subst hab
      obtain ⟨i, rfl, hi⟩ := h1.nat a ha
      have q1 := ((h1.mem i hi).1 ha).2
      have q2 := ((h2.mem i hi).1 hb).1
      rw [q1] at q2; cases q2
    · simp only [dfsL, Int.toNat_natCast] at hr
      cases hc : (step o v).1 i with
      | false =>
        rcases h1.reach i hi hoi hc with hh | hh
        · left; simp at hh; simp; left; omega
        · right; exact rch_mono (fun x hx => by simp at hx; simp [hx]) hh
      | true =>
        rcases h2.reach i hi hc hr with hh | hh
        · left; simp [hh]
        · right; exact rch_mono (fun x hx => by simp [hx]) hh
    · simp only [dfsL, Int.toNat_natCast] at hr ⊢
      cases hc : (step o v).1 i with
      | false => exact hstay j (h1.clos i hi hoi hc j hj)
      | true => exact h2.clos i hi hc hr j hj
    · simp only [dfsL, Int.toNat_natCast]
      simp only [List.mem_cons] at hw
      rcases hw with hw | hw
      · exact hstay w (h1.self w (by simp; omega))
      · exact h2.self w hw

end

section
section
open Go.RowKit

end

section
open Go.RowKit

end
end

section
section
open Go.RowKit

theorem tri_set1 {a b c d : Value} : ∀ i, i < 3 → (if i = 1 then d else tri a b c i) = tri a d c i := fun i hi => by
  have h : i = 0 ∨ i = 1 ∨ i = 2 := by omega
  rcases h with rfl | rfl | rfl <;> simp [tri]

end

section
open Go.RowKit

end
end

end Go.Proofs.YtihaajcmephlmaaDoor
namespace Go.Proofs.YtihaajcmephlmaaDoor
section
section
open Go.RowKit

end

section
open Go.RowKit

end
end

section
section
open Go.RowKit

theorem IntsAt.take {w : World} {a : Option Addr} {zs : List Int} (h : IntsAt w a zs) (k : Nat) (hk : k ≤ zs.length) : IntsAt w a (zs.take k) := by
  have hl : (zs.take k).length = k := by simp; omega
  have hn : ∀ j, j < k → nth (zs.take k) j = nth zs j := fun j hj => by simp [nth, hj]
  refine ⟨by rw [hl]; have := h.len; omega, fun j hj => ?_, fun h0 => ?_⟩
  · rw [hl] at hj; rw [hn j hj]; exact h.fits j (by omega)
  · rw [hl] at h0
    obtain ⟨b, off, ha, hc⟩ := h.cell (by omega)
    exact ⟨b, off, ha, fun j hj => by rw [hl] at hj; rw [hn j hj]; exact hc j (by omega)⟩

end

section
open Go.RowKit

/-- The bytes of a slice. -/
structure BytesAt (w : World) (a : Option Addr) (bs : List Int) : Prop where
  len : bs.length ≤ 140737488355328
  byt : ∀ k, k < bs.length → ∃ b off, a = some ⟨b, off, none⟩ ∧ w.cell? ⟨b, off + k, none⟩ = some (.int .u8 (nth bs k)) ∧ 0 ≤ nth bs k ∧ nth bs k ≤ 255

theorem Only.new {S T : Nat → Prop} {a b c : World} (h : Only S a b) (k : Only T b c) (ht : ∀ x, T x → S x ∨ a.heap.size ≤ x) : Only S a c :=
  ⟨k.os.trans h.os, k.tape.trans h.tape, k.output.trans h.output, Nat.le_trans h.size k.size, fun i hi hs => (k.block i (Nat.lt_of_lt_of_le hi h.size) (fun hT => by
    rcases ht i hT with h1 | h1
    · exact hs h1
    · omega)).trans (h.block i hi hs)⟩

theorem IntsAt.only {w w' : World} {S : Nat → Prop} {b : Nat} {zs : List Int} (h : IntsAt w (some ⟨b, 0, none⟩) zs) (hk : Only S w w') (hb : b < w.heap.size) (hs : ¬ S b) : IntsAt w' (some ⟨b, 0, none⟩) zs :=
  ⟨h.len, h.fits, fun h0 => by
    obtain ⟨b', off, ha, hc⟩ := h.cell h0
    cases ha
    exact ⟨b, 0, rfl, fun k hk' => by
      rw [World.cell?_of_block (w := w) (hk.block b hb hs)]
      exact hc k hk'⟩⟩

theorem OwnInts.snoc {w : World} {B D : Nat} {v v' : Value} {zs : List Int} {x : Int} {w' : World} (h : OwnInts w B D v zs) (hx : Fits x) (hl : zs.length ≤ 1048576) (ho : w'.ownsRow B 2 1 v' (zs.length + 1) (zs.map (Value.int .i64) ++ [.int .i64 x])) : OwnInts w' B w'.heap.size v' (zs ++ [x]) := by
  refine OwnInts.mk' (by simpa using ho) (by simp; omega) fun k hk => ?_
  have hm := nth_mem hk
  generalize nth (zs ++ [x]) k = y at hm
  rcases List.mem_append.1 hm with hm | hm
  · obtain ⟨j, hj, e⟩ := mem_nth.1 hm
    rw [← e]; exact h.fits j hj
  · simp at hm; rw [hm]; exact hx

end
end

section
open Go.RowKit

end

section
open Go.RowKit

section
open Go.RowKit
theorem BytesAt.below {w w' : World} {a : Option Addr} {bs : List Int} (h : BytesAt w a bs) (hb : Below w.heap.size w w') : BytesAt w' a bs :=
  ⟨h.len, fun k hk => by
    obtain ⟨b, off, h1, h2, h3⟩ := h.byt k hk
    exact ⟨b, off, h1, Below.cell_some (B := 0) hb rfl h2, h3⟩⟩
end
end

section
open Go.RowKit

/-- t: the struct that grows, with the owners vo and the rows vn (row k is V k), all from block n on. -/
structure Half4 (n : Nat) (wr : World) (t : Nat) (vo vn : Value) (V : Nat → Value) (O : List Int) (zss : List (List Int)) : Prop where
  base : n ≤ t
  str : Box2 wr t 31 vo vn
  ints : OwnInts wr n wr.heap.size vo O
  rows : OwnRows wr n wr.heap.size vn V zss
  apart : ∀ i, i < zss.length → ∀ g, (V i).ownBlock = some g → vo.ownBlock ≠ some g

theorem Half4.only {n t : Nat} {wr wr' : World} {vo vn : Value} {V : Nat → Value} {O : List Int} {zss : List (List Int)} {S : Nat → Prop} (h : Half4 n wr t vo vn V O zss) (hk : Only S wr wr') (hs : ∀ b, S b → b < n) : Half4 n wr' t vo vn V O zss :=
  ⟨h.base, h.str.only hk (fun e => by have := hs _ e; have := h.base; omega), (h.ints.only hk (fun g hg e => by have := hs _ e; have := (h.ints.own.lt g hg).1; omega)).retop,
    (h.rows.only hk (fun g hg e => by have := hs _ e; have := (h.rows.own.lt g hg).1; omega) (fun k hk' g hg e => by have := hs _ e; have := ((h.rows.rows k hk').own.lt g hg).1; omega)).retop, h.apart⟩
theorem Half4.keep {n t : Nat} {wr wr' : World} {vo vn : Value} {V : Nat → Value} {O : List Int} {zss : List (List Int)} (h : Half4 n wr t vo vn V O zss) (hb : Below wr.heap.size wr wr') : Half4 n wr' t vo vn V O zss :=
  h.only (S := fun _ => False) (Only.of_below hb) (fun _ h => h.elim)

theorem Half4.owner {n t gg cap : Nat} {wr w1 : World} {vo vn : Value} {V : Nat → Value} {O : List Int} {x : Int} {zss : List (List Int)} (h : Half4 n wr t vo vn V O zss) (hl : O.length ≤ 1048576) (hx : Fits x)
    (hown1 : w1.ownsRow n 2 1 (.slice (some ⟨gg, 0, none⟩) (O.length + 1) cap) (O.length + 1) (O.map (Value.int .i64) ++ [.int .i64 x])) (hgrow : wr.grownBy w1 vo.ownBlock) (hat : vo.ownBlock = some gg ∨ wr.heap.size ≤ gg) :
    Half4 n (w1.setCell ⟨t, 0, none⟩ (.slice (some ⟨gg, 0, none⟩) (O.length + 1) cap)) t (.slice (some ⟨gg, 0, none⟩) (O.length + 1) cap) vn V (O ++ [x]) zss ∧
      Only (fun b => n ≤ b) wr (w1.setCell ⟨t, 0, none⟩ (.slice (some ⟨gg, 0, none⟩) (O.length + 1) cap)) := by
  have hown := h.ints.own
  have hT1 := h.str.grown hown (by decide) hgrow
  have hI : OwnInts w1 n w1.heap.size (.slice (some ⟨gg, 0, none⟩) (O.length + 1) cap) (O ++ [x]) := h.ints.snoc hx hl hown1
  have hR := h.rows.only (Only.of_grown hgrow) (fun g h1 h2 => own_types h.rows.own hown g h1 h2) (fun k hk g h1 h2 => h.apart k hk g h1 h2)
  have hS := Box2.set0_only (w := w1) (t := t) (.slice (some ⟨gg, 0, none⟩) (O.length + 1) cap)
  refine ⟨⟨h.base, hT1.set0 _, (hI.only hS (fun g hg e => hT1.not_own hI.own (by decide) (by rw [hg, e]))).retop, (hR.only hS (fun g hg e => hT1.not_own hR.own (by decide) (by rw [hg, e])) (fun k hk g hg e => hT1.not_own (hR.rows k hk).own (by decide) (by rw [hg, e]))).retop, fun i hi g hg hh => ?_⟩, ?_⟩
  · simp [Value.ownBlock] at hh
    subst hh
    rcases hat with h' | h'
    · exact h.apart i hi _ hg h'
    · have := (h.rows.rows i hi).top _ hg
      omega
  · exact ((Only.of_grown hgrow).mono fun b hb => (hown.lt b hb).1).trans (hS.mono fun b hb => by rw [hb]; exact h.base)

theorem Half4.push {n t gg cap : Nat} {wr w3 : World} {vo vn u : Value} {V : Nat → Value} {O zs : List Int} {zss : List (List Int)} {B D : Nat} (h : Half4 n wr t vo vn V O zss) (hl : zss.length ≤ 1048576)
    (hu : OwnInts wr B D u zs) (hB : n ≤ B) (hapu : ∀ i, i < zss.length → ∀ g, u.ownBlock = some g → (V i).ownBlock ≠ some g) (hvu : ∀ g, u.ownBlock = some g → vo.ownBlock ≠ some g)
    (hown3 : w3.ownsRow n 22 1 (.slice (some ⟨gg, 0, none⟩) (zss.length + 1) cap) (zss.length + 1) ((List.range zss.length).map V ++ [u])) (hgrow : wr.grownBy w3 vn.ownBlock) :
    Half4 n (w3.setCell ⟨t, 1, none⟩ (.slice (some ⟨gg, 0, none⟩) (zss.length + 1) cap)) t vo (.slice (some ⟨gg, 0, none⟩) (zss.length + 1) cap) (fun i => if i = zss.length then u else V i) O (zss ++ [zs]) ∧
      Only (fun b => n ≤ b) wr (w3.setCell ⟨t, 1, none⟩ (.slice (some ⟨gg, 0, none⟩) (zss.length + 1) cap)) := by
  have hown := h.rows.own
  have hT3 := h.str.grown hown (by decide) hgrow
  have hvo3 : OwnInts w3 n w3.heap.size vo O := (h.ints.only (Only.of_grown hgrow) (fun g h1 h2 => own_types hown h.ints.own g h2 h1)).retop
  have hrows := h.rows.push (w1 := w3) (hu.base hB) (fun i hi g h1 h3 => hapu i hi g h1 h3) hown3 (Only.of_grown hgrow) (by omega)
  have hS : Only (fun b => b = t) w3 (w3.setCell ⟨t, 1, none⟩ (.slice (some ⟨gg, 0, none⟩) (zss.length + 1) cap)) := Box2.set1_only _
  refine ⟨⟨h.base, hT3.set1 _, (hvo3.only hS (fun g hg e => hT3.not_own hvo3.own (by decide) (by rw [hg, e]))).retop, (hrows.only hS (fun g hg e => hT3.not_own hrows.own (by decide) (by rw [hg, e])) (fun k hk g hg e => hT3.not_own (hrows.rows k hk).own (by decide) (by rw [hg, e]))).retop, fun i hi g hg => ?_⟩, ?_⟩
  · by_cases e : i = zss.length
    · subst e
      simp only [if_true] at hg
      exact hvu g hg
    · simp only [if_neg e] at hg
      exact h.apart i (by simp at hi; omega) g hg
  · exact ((Only.of_grown hgrow).mono fun b hb => (hown.lt b hb).1).trans (hS.mono fun b hb => by rw [hb]; exact h.base)

end

section
open Go.RowKit

theorem row_set {zss : List (List Int)} {v k : Nat} {zs : List Int} (hv : v < zss.length) : row (zss.set v zs) k = if k = v then zs else row zss k := by
  unfold row
  by_cases e : k = v
  · subst e; simp [hv]
  · rw [if_neg e]; simp [Ne.symm e]

theorem Half4.putRow {n t g cap v : Nat} {wr w7 : World} {vo u : Value} {V : Nat → Value} {O zs : List Int} {zss : List (List Int)} (h : Half4 n wr t vo (.slice (some ⟨g, 0, none⟩) zss.length cap) V O zss) (hv : v < zss.length)
    (hg : Only (fun b => (V v).ownBlock = some b) wr w7) (hu : OwnInts w7 n w7.heap.size u zs) (hw : u.ownBlock = (V v).ownBlock ∨ ∃ X, u.ownBlock = some X ∧ wr.heap.size ≤ X) :
    Half4 n (w7.setCell ⟨g, v, none⟩ u) t vo (.slice (some ⟨g, 0, none⟩) zss.length cap) (fun i => if i = v then u else V i) O (zss.set v zs) ∧ Only (fun b => n ≤ b) wr (w7.setCell ⟨g, v, none⟩ u) := by
  have hVv := h.rows.rows v hv
  have ho := ownsRow_only h.rows.own hg (own_types h.rows.own hVv.own)
  obtain ⟨hs, hgr⟩ := ho.stored v u
  have hgn : n ≤ g := (ho.lt g rfl).1
  have hS : Only (fun b => b = g) w7 (w7.setCell ⟨g, v, none⟩ u) := Only.setCell (S := fun b => b = g) (Only.refl _ _) (p := ⟨g, v, none⟩) rfl _
  have hl : (zss.set v zs).length = zss.length := by simp
  have e : ((List.range zss.length).map V).set v u = (List.range zss.length).map (fun i => if i = v then u else V i) := by
    apply List.ext_getElem?
    intro i
    by_cases hi : i < zss.length
    · by_cases e : i = v
      · subst e; simp [hi]
      · simp [hi, e, Ne.symm e]
    · simp [hi]
  rw [e] at hs
  have hI : OwnInts w7 n w7.heap.size vo O := (h.ints.only hg (fun b hb e => h.apart v hv b e hb)).retop
  have hR : ∀ k, k < zss.length → k ≠ v → OwnInts w7 n w7.heap.size (V k) (row zss k) := fun k hk hne => ((h.rows.rows k hk).only hg (h.rows.apart k v hk hv hne)).retop
  have hown : ∀ {zs' : List Int} {x : Value}, OwnInts w7 n w7.heap.size x zs' → ∀ b, x.ownBlock = some b → ¬ b = g := fun hx b hb e => own_types ho hx.own b (by rw [e]; rfl) hb
  have hstr : Box2 w7 t 31 vo (.slice (some ⟨g, 0, none⟩) zss.length cap) := h.str.only hg (fun e => h.str.not_own hVv.own (by decide) e)
  have hul : ∀ i, i < zss.length → i ≠ v → ∀ b, u.ownBlock = some b → (V i).ownBlock ≠ some b := fun i hi hne b hb hb' => by
    rcases hw with hw | ⟨X, hX, hge⟩
    · rw [hw] at hb; exact h.rows.apart i v hi hv hne b hb' hb
    · rw [hX] at hb; have := (h.rows.rows i hi).top b hb'; simp at hb; omega
  refine ⟨⟨h.base, hstr.only hS (fun e => hstr.not_own ho (by decide) (by rw [e]; rfl)), (hI.only hS (hown hI)).retop, ⟨by rw [hl]; exact hs, fun g' hg => (hs.lt g' hg).2, by rw [hl]; exact h.rows.len, fun k hk => ?_, fun i j hi hj hne b hb hb' => ?_⟩, fun i hi b hb => ?_⟩, ?_⟩
  · rw [hl] at hk
    rw [row_set hv]
    by_cases e : k = v
    · simp only [if_pos e]; exact (hu.only hS (hown hu)).retop
    · simp only [if_neg e]; exact ((hR k hk e).only hS (hown (hR k hk e))).retop
  · rw [hl] at hi hj
    by_cases e1 : i = v
    · rw [if_pos e1] at hb
      rw [if_neg (by omega)] at hb'
      exact hul j hj (by omega) b hb hb'
    · rw [if_neg e1] at hb
      by_cases e2 : j = v
      · rw [if_pos e2] at hb'
        exact hul i hi e1 b hb' hb
      · rw [if_neg e2] at hb'
        exact h.rows.apart i j hi hj hne b hb hb'
  · rw [hl] at hi
    by_cases e1 : i = v
    · simp only [if_pos e1] at hb
      intro hb'
      rcases hw with hw | ⟨X, hX, hge⟩
      · rw [hw] at hb; exact h.apart v hv b hb hb'
      · rw [hX] at hb; have := h.ints.top b hb'; simp at hb; omega
    · simp only [if_neg e1] at hb; exact h.apart i hi b hb
  · exact (hg.mono fun b hb => (hVv.own.lt b hb).1).trans (hS.mono fun b hb => by omega)

theorem OwnArena.base {w : World} {B B' D : Nat} {v : Value} {O : List Int} {zss : List (List Int)} (h : OwnArena w B D v O zss) (hB : B' ≤ B) : OwnArena w B' D v O zss := by
  obtain ⟨vo, vn, V, hv, h1, h2, h4⟩ := h
  exact ⟨vo, vn, V, hv, h1.base hB, h2.base hB, h4⟩

end

end Go.Proofs.YtihaajcmephlmaaDoor
namespace Go.Proofs.YtihaajcmephlmaaDoor
section
open Go.RowKit

/-- A struct of three slices that reads as a game. -/
def GameAt (w : World) (v : Value) (O : List Int) (zss : List (List Int)) (P : List Int) : Prop :=
  ∃ ao an ap co cn cp A C, v = .agg #[.slice ao O.length co, .slice an zss.length cn, .slice ap P.length cp] ∧ IntsAt w ao O ∧ RowsAt w an A C zss ∧ IntsAt w ap P

theorem GameAt.below {w w' : World} {v : Value} {O : List Int} {zss : List (List Int)} {P : List Int} (h : GameAt w v O zss P) (hb : Below w.heap.size w w') : GameAt w' v O zss P := by
  obtain ⟨ao, an, ap, co, cn, cp, A, C, hv, h1, h2, h3⟩ := h
  exact ⟨ao, an, ap, co, cn, cp, A, C, hv, h1.below hb, h2.below hb, h3.below hb⟩

/-- All priorities are from 0 to 40. -/
def priosB (P : List Int) : Bool := decide (∀ x ∈ P, 0 ≤ x ∧ x ≤ 40)
/-- A valid game. -/
noncomputable def parityB (O : List Int) (zss : List (List Int)) (P : List Int) : Bool := arenaB O zss && (decide (P.length = O.length) && priosB P)

theorem priosB_yes {P : List Int} (h : ∀ k, k < P.length → 0 ≤ nth P k ∧ nth P k ≤ 40) : priosB P = true := decide_eq_true fun x hx => by
  obtain ⟨k, hk, rfl⟩ := mem_nth.1 hx
  exact h k hk
theorem priosB_no {P : List Int} {k : Nat} (hk : k < P.length) (h : ¬ (0 ≤ nth P k ∧ nth P k ≤ 40)) : priosB P = false := decide_eq_false fun hh => h (hh _ (nth_mem hk))
theorem parityB_iff {O : List Int} {zss : List (List Int)} {P : List Int} : parityB O zss P = true ↔ ArenaP O zss ∧ P.length = O.length ∧ ∀ x ∈ P, 0 ≤ x ∧ x ≤ 40 := by
  unfold parityB priosB
  rw [Bool.and_eq_true, Bool.and_eq_true, arenaB_iff, decide_eq_true_eq, decide_eq_true_eq]

theorem tri3_new (w : World) (T : TypeId) (a b c : Value) : (w.alloc (.cells #[a, b, c] T)).rowIs w.heap.size T 3 (tri a b c) := by
  refine ⟨_, heap_alloc_new w _, by simp, fun j hj => ?_⟩
  have hj3 : j = 0 ∨ j = 1 ∨ j = 2 := by omega
  rcases hj3 with rfl | rfl | rfl <;> rfl

/-- A box of a game. -/
def Box3 (w : World) (g : Nat) (t : TypeId) (a b c : Value) : Prop := w.rowIs g t 3 (tri a b c)
theorem Box3.new (w : World) (T : TypeId) (a b c : Value) : Box3 (w.alloc (.cells #[a, b, c] T)) w.heap.size T a b c := tri3_new w T a b c
theorem Box3.below {w w' : World} {g : Nat} {t : TypeId} {a b c : Value} (h : Box3 w g t a b c) (hb : Below w.heap.size w w') : Box3 w' g t a b c := rowIs_below h hb
theorem Box3.c0 {w : World} {g : Nat} {t : TypeId} {a b c : Value} (h : Box3 w g t a b c) : w.cell? ⟨g, 0, none⟩ = some a := World.rowIs.cell (i := 0) h (by omega)
theorem Box3.c1 {w : World} {g : Nat} {t : TypeId} {a b c : Value} (h : Box3 w g t a b c) : w.cell? ⟨g, 1, none⟩ = some b := World.rowIs.cell (i := 1) h (by omega)
theorem Box3.c2 {w : World} {g : Nat} {t : TypeId} {a b c : Value} (h : Box3 w g t a b c) : w.cell? ⟨g, 2, none⟩ = some c := World.rowIs.cell (i := 2) h (by omega)
theorem Box3.lt {w : World} {g : Nat} {t : TypeId} {a b c : Value} (h : Box3 w g t a b c) : g < w.heap.size := World.rowIs.lt h
end

section
open Go.RowKit

/-- The struct v owns a game. -/
def OwnGame (w : World) (B D : Nat) (v : Value) (O : List Int) (zss : List (List Int)) (P : List Int) : Prop :=
  ∃ vo vn vp V, v = .agg #[vo, vn, vp] ∧ OwnInts w B D vo O ∧ OwnRows w B D vn V zss ∧ OwnInts w B D vp P ∧ (∀ k, k < zss.length → ∀ g, (V k).ownBlock = some g → vo.ownBlock ≠ some g) ∧
    (∀ k, k < zss.length → ∀ g, (V k).ownBlock = some g → vp.ownBlock ≠ some g) ∧ ∀ g, vo.ownBlock = some g → vp.ownBlock ≠ some g

section
variable {w w' : World} {B B' D : Nat} {v : Value} {O P : List Int} {zss : List (List Int)}

theorem OwnGame.at (h : OwnGame w B D v O zss P) : GameAt w v O zss P := by
  obtain ⟨vo, vn, vp, V, rfl, h1, h2, h3, _⟩ := h
  obtain ⟨a, c, rfl, hi, _⟩ := h1.shape
  obtain ⟨a', c', rfl, hr, _⟩ := h2.shape
  obtain ⟨b, d, rfl, hp, _⟩ := h3.shape
  exact ⟨_, _, _, _, _, _, _, _, rfl, hi, hr, hp⟩
theorem OwnGame.only {S : Nat → Prop} (h : OwnGame w B D v O zss P) (hk : Only S w w') (hs : ∀ g, B ≤ g → g < D → ¬ S g) : OwnGame w' B D v O zss P := by
  obtain ⟨vo, vn, vp, V, hv, h1, h2, h3, h4⟩ := h
  refine ⟨vo, vn, vp, V, hv, h1.only hk (fun g hg => hs g (h1.own.lt g hg).1 (h1.top g hg)), h2.only hk (fun g hg => hs g (h2.own.lt g hg).1 (h2.top g hg)) (fun k hk' g hg => hs g ((h2.rows k hk').own.lt g hg).1 ((h2.rows k hk').top g hg)), h3.only hk (fun g hg => hs g (h3.own.lt g hg).1 (h3.top g hg)), h4⟩
theorem OwnGame.below (h : OwnGame w B D v O zss P) (hb : Below w.heap.size w w') : OwnGame w' B D v O zss P := by
  obtain ⟨vo, vn, vp, V, hv, h1, h2, h3, h4⟩ := h
  exact ⟨vo, vn, vp, V, hv, h1.below hb, h2.below hb, h3.below hb, h4⟩
theorem OwnGame.base (h : OwnGame w B D v O zss P) (hB : B' ≤ B) : OwnGame w B' D v O zss P := by
  obtain ⟨vo, vn, vp, V, hv, h1, h2, h3, h4⟩ := h
  exact ⟨vo, vn, vp, V, hv, h1.base hB, h2.base hB, h3.base hB, h4⟩
theorem OwnGame.retop (h : OwnGame w B D v O zss P) : OwnGame w B w.heap.size v O zss P := by
  obtain ⟨vo, vn, vp, V, hv, h1, h2, h3, h4⟩ := h
  exact ⟨vo, vn, vp, V, hv, h1.retop, h2.retop, h3.retop, h4⟩
theorem OwnGame.zero (w : World) (B D : Nat) : OwnGame w B D (.agg #[.slice none 0 0, .slice none 0 0, .slice none 0 0]) [] [] [] :=
  ⟨_, _, _, _, rfl, OwnInts.nil _ _ _, OwnRows.nil _ _ _, OwnInts.nil _ _ _, fun k hk => absurd hk (by simp), fun k hk => absurd hk (by simp), fun g hg => by simp [Value.ownBlock] at hg⟩
theorem OwnGame.shape (h : OwnGame w B D v O zss P) : ∃ a0 c0 a1 c1 a2 c2, v = .agg #[.slice a0 O.length c0, .slice a1 zss.length c1, .slice a2 P.length c2] := by
  obtain ⟨ao, an, ap, co, cn, cp, A, C, hv, _⟩ := h.at
  exact ⟨_, _, _, _, _, _, hv⟩
/-- The arena of a game of one's own. -/
theorem OwnGame.arena {vo vn vp : Value} (h : OwnGame w B D (.agg #[vo, vn, vp]) O zss P) : OwnArena w B D (.agg #[vo, vn]) O zss ∧ OwnInts w B D vp P := by
  obtain ⟨vo', vn', vp', V, hv, h1, h2, h3, h4, _⟩ := h
  cases hv
  exact ⟨⟨_, _, V, rfl, h1, h2, h4⟩, h3⟩
/-- An arena and a slice of numbers, of one's own, one made behind the other. -/
theorem OwnGame.of_parts {vo vn vp : Value} {M : Nat} (h : OwnArena w B M (.agg #[vo, vn]) O zss) (hp : OwnInts w M D vp P) (hBM : B ≤ M) (hMD : M ≤ D) : OwnGame w B D (.agg #[vo, vn, vp]) O zss P := by
  obtain ⟨vo', vn', V, hv, h1, h2, h4⟩ := h
  cases hv
  refine ⟨_, _, _, V, rfl, ⟨h1.own, fun g hg => by have := h1.top g hg; omega, h1.len, h1.fits⟩, ⟨h2.own, fun g hg => by have := h2.top g hg; omega, h2.len, fun k hk => ?_, h2.apart⟩, hp.base hBM, h4, fun k hk g hg hh => ?_, fun g hg hh => ?_⟩
  · have h := h2.rows k hk
    exact ⟨h.own, fun g hg => by have := h.top g hg; omega, h.len, h.fits⟩
  · have := (h2.rows k hk).top g hg
    have := (hp.own.lt g hh).1
    omega
  · have := h1.top g hg
    have := (hp.own.lt g hh).1
    omega
end

/-- A call hands back a game of its own. -/
def GivesGame (w : World) (O : List Int) (zss : List (List Int)) (P : List Int) (e : Ending) (w' : World) : Prop :=
  ∃ v, e = .returned v ∧ OwnGame w' w.heap.size w'.heap.size v O zss P ∧ Below w.heap.size w w'
end

section
open Go.RowKit

theorem game_row {w : World} {b n B size m : Nat} {t e : TypeId} {f : Nat → Value} {v : Value} {xs : List Value} (h : w.rowIs b t n f) (ho : w.ownsRow B e size v m xs) (hte : e ≠ t) : v.ownBlock ≠ some b := by
  intro hb
  obtain ⟨c, hc, _⟩ := h
  rcases ho.2 with ⟨rfl, _⟩ | ⟨g, _, _, rfl, _, h1, _⟩
  · simp [Value.ownBlock] at hb
  · simp [Value.ownBlock] at hb
    subst hb
    rw [hc] at h1
    simp at h1
    exact hte h1.2.symm
theorem game_grown {w w1 : World} {b n B size m : Nat} {t e : TypeId} {f : Nat → Value} {v : Value} {xs : List Value} (h : w.rowIs b t n f) (ho : w.ownsRow B e size v m xs) (hte : e ≠ t) (hg : w.grownBy w1 v.ownBlock) : w1.rowIs b t n f :=
  rowIs_only h (Only.of_grown hg) (fun hb => game_row h ho hte hb)
theorem tri_set0 {a b c d : Value} : ∀ i, i < 3 → (if i = 0 then d else tri a b c i) = tri d b c i := fun i hi => by
  by_cases h : i = 0 <;> simp [tri, h]
/-- t: the game that grows, with the owners vo, the rows vn (row k is V k) and the priorities vp, all from block n on. -/
structure Half5 (n : Nat) (wr : World) (t : Nat) (vo vn vp : Value) (V : Nat → Value) (O : List Int) (zss : List (List Int)) (P : List Int) : Prop where
  base : n ≤ t
  str : wr.rowIs t 33 3 (tri vo vn vp)
  ints : OwnInts wr n wr.heap.size vo O
  rows : OwnRows wr n wr.heap.size vn V zss
  prio : OwnInts wr n wr.heap.size vp P
  apart : ∀ i, i < zss.length → ∀ g, (V i).ownBlock = some g → vo.ownBlock ≠ some g
  app : ∀ i, i < zss.length → ∀ g, (V i).ownBlock = some g → vp.ownBlock ≠ some g
  apo : ∀ g, vo.ownBlock = some g → vp.ownBlock ≠ some g

section
variable {n t : Nat} {wr wr' w1 : World} {vo vn vp : Value} {V : Nat → Value} {O P : List Int} {zss : List (List Int)}

theorem Half5.only {S : Nat → Prop} (h : Half5 n wr t vo vn vp V O zss P) (hk : Only S wr wr') (hs : ∀ b, S b → b < n) : Half5 n wr' t vo vn vp V O zss P :=
  ⟨h.base, rowIs_only h.str hk (fun e => by have := hs _ e; have := h.base; omega), (h.ints.only hk (fun g hg e => by have := hs _ e; have := (h.ints.own.lt g hg).1; omega)).retop,
    (h.rows.only hk (fun g hg e => by have := hs _ e; have := (h.rows.own.lt g hg).1; omega) (fun k hk' g hg e => by have := hs _ e; have := ((h.rows.rows k hk').own.lt g hg).1; omega)).retop,
    (h.prio.only hk (fun g hg e => by have := hs _ e; have := (h.prio.own.lt g hg).1; omega)).retop, h.apart, h.app, h.apo⟩
theorem Half5.keep (h : Half5 n wr t vo vn vp V O zss P) (hb : Below wr.heap.size wr wr') : Half5 n wr' t vo vn vp V O zss P :=
  h.only (S := fun _ => False) (Only.of_below hb) (fun _ h => h.elim)

/-- A cell of the game's box is written: the rest stays. -/
theorem Half5.ints_set (hT : wr.rowIs t 33 3 (tri vo vn vp)) {u : Value} {zs : List Int} (h : OwnInts wr n wr.heap.size u zs) (i : Nat) (x : Value) : OwnInts (wr.setCell ⟨t, i, none⟩ x) n (wr.setCell ⟨t, i, none⟩ x).heap.size u zs :=
  (h.only ((Only.refl (fun b => b = t) wr).setCell (p := ⟨t, i, none⟩) rfl x) (fun g hg e => game_row hT h.own (by decide) (by rw [hg, e]))).retop
theorem Half5.rows_set (hT : wr.rowIs t 33 3 (tri vo vn vp)) {u : Value} (h : OwnRows wr n wr.heap.size u V zss) (i : Nat) (x : Value) : OwnRows (wr.setCell ⟨t, i, none⟩ x) n (wr.setCell ⟨t, i, none⟩ x).heap.size u V zss :=
  (h.only ((Only.refl (fun b => b = t) wr).setCell (p := ⟨t, i, none⟩) rfl x) (fun g hg e => game_row hT h.own (by decide) (by rw [hg, e])) (fun k hk g hg e => game_row hT (h.rows k hk).own (by decide) (by rw [hg, e]))).retop

theorem Half5.owner {gg cap : Nat} {x : Int} (h : Half5 n wr t vo vn vp V O zss P) (hl : O.length ≤ 1048576) (hx : Fits x)
    (hown1 : w1.ownsRow n 2 1 (.slice (some ⟨gg, 0, none⟩) (O.length + 1) cap) (O.length + 1) (O.map (Value.int .i64) ++ [.int .i64 x])) (hgrow : wr.grownBy w1 vo.ownBlock) (hat : vo.ownBlock = some gg ∨ wr.heap.size ≤ gg) :
    Half5 n (w1.setCell ⟨t, 0, none⟩ (.slice (some ⟨gg, 0, none⟩) (O.length + 1) cap)) t (.slice (some ⟨gg, 0, none⟩) (O.length + 1) cap) vn vp V (O ++ [x]) zss P ∧
      Only (fun b => n ≤ b) wr (w1.setCell ⟨t, 0, none⟩ (.slice (some ⟨gg, 0, none⟩) (O.length + 1) cap)) := by
  have hown := h.ints.own
  have hT1 := game_grown h.str hown (by decide) hgrow
  have hI : OwnInts w1 n w1.heap.size (.slice (some ⟨gg, 0, none⟩) (O.length + 1) cap) (O ++ [x]) := h.ints.snoc hx hl hown1
  have hR := (h.rows.only (Only.of_grown hgrow) (fun g h1 h2 => own_types h.rows.own hown g h1 h2) (fun k hk g h1 h2 => h.apart k hk g h1 h2)).retop
  have hP := (h.prio.only (Only.of_grown hgrow) (fun g h1 h2 => h.apo g h2 h1)).retop
  have hS : Only (fun b => b = t) w1 (w1.setCell ⟨t, 0, none⟩ (.slice (some ⟨gg, 0, none⟩) (O.length + 1) cap)) := Box2.set0_only _
  refine ⟨⟨h.base, (hT1.set 0 _).congr tri_set0, Half5.ints_set hT1 hI 0 _, Half5.rows_set hT1 hR 0 _, Half5.ints_set hT1 hP 0 _, fun i hi g hg hh => ?_, h.app, fun g hg hh => ?_⟩, ?_⟩
  · simp [Value.ownBlock] at hh
    subst hh
    rcases hat with h' | h'
    · exact h.apart i hi _ hg h'
    · have := (h.rows.rows i hi).top _ hg
      omega
  · simp [Value.ownBlock] at hg
    subst hg
    rcases hat with h' | h'
    · exact h.apo _ h' hh
    · have := h.prio.top _ hh
      omega
  · exact ((Only.of_grown hgrow).mono fun b hb => (hown.lt b hb).1).trans (hS.mono fun b hb => by rw [hb]; exact h.base)

theorem Half5.push {gg cap : Nat} {u : Value} {zs : List Int} {B D : Nat} (h : Half5 n wr t vo vn vp V O zss P) (hl : zss.length ≤ 1048576)
    (hu : OwnInts wr B D u zs) (hB : n ≤ B) (hapu : ∀ i, i < zss.length → ∀ g, u.ownBlock = some g → (V i).ownBlock ≠ some g) (hvu : ∀ g, u.ownBlock = some g → vo.ownBlock ≠ some g) (hpu : ∀ g, u.ownBlock = some g → vp.ownBlock ≠ some g)
    (hown3 : w1.ownsRow n 22 1 (.slice (some ⟨gg, 0, none⟩) (zss.length + 1) cap) (zss.length + 1) ((List.range zss.length).map V ++ [u])) (hgrow : wr.grownBy w1 vn.ownBlock) :
    Half5 n (w1.setCell ⟨t, 1, none⟩ (.slice (some ⟨gg, 0, none⟩) (zss.length + 1) cap)) t vo (.slice (some ⟨gg, 0, none⟩) (zss.length + 1) cap) vp (fun i => if i = zss.length then u else V i) O (zss ++ [zs]) P ∧
      Only (fun b => n ≤ b) wr (w1.setCell ⟨t, 1, none⟩ (.slice (some ⟨gg, 0, none⟩) (zss.length + 1) cap)) := by
  have hown := h.rows.own
  have hT3 := game_grown h.str hown (by decide) hgrow
  have hvo3 : OwnInts w1 n w1.heap.size vo O := (h.ints.only (Only.of_grown hgrow) (fun g h1 h2 => own_types hown h.ints.own g h2 h1)).retop
  have hvp3 : OwnInts w1 n w1.heap.size vp P := (h.prio.only (Only.of_grown hgrow) (fun g h1 h2 => own_types hown h.prio.own g h2 h1)).retop
  have hrows := (h.rows.push (w1 := w1) (hu.base hB) (fun i hi g h1 h3 => hapu i hi g h1 h3) hown3 (Only.of_grown hgrow) (by omega)).retop
  have hS : Only (fun b => b = t) w1 (w1.setCell ⟨t, 1, none⟩ (.slice (some ⟨gg, 0, none⟩) (zss.length + 1) cap)) := Box2.set1_only _
  refine ⟨⟨h.base, (hT3.set 1 _).congr tri_set1, Half5.ints_set hT3 hvo3 1 _, Half5.rows_set hT3 hrows 1 _, Half5.ints_set hT3 hvp3 1 _, fun i hi g hg => ?_, fun i hi g hg => ?_, h.apo⟩, ?_⟩
  · by_cases e : i = zss.length
    · subst e
      simp only [if_true] at hg
      exact hvu g hg
    · simp only [if_neg e] at hg
      exact h.apart i (by simp at hi; omega) g hg
  · by_cases e : i = zss.length
    · subst e
      simp only [if_true] at hg
      exact hpu g hg
    · simp only [if_neg e] at hg
      exact h.app i (by simp at hi; omega) g hg
  · exact ((Only.of_grown hgrow).mono fun b hb => (hown.lt b hb).1).trans (hS.mono fun b hb => by rw [hb]; exact h.base)

end

/-- The game that has grown. -/
theorem Half5.game {n t : Nat} {wr : World} {vo vn vp : Value} {V : Nat → Value} {O P : List Int} {zss : List (List Int)} (h : Half5 n wr t vo vn vp V O zss P) : OwnGame wr n wr.heap.size (.agg #[vo, vn, vp]) O zss P :=
  ⟨_, _, _, V, rfl, h.ints, h.rows, h.prio, h.apart, h.app, h.apo⟩
end

end Go.Proofs.YtihaajcmephlmaaDoor
