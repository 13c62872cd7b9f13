/-
  Several texts in one: Mem, Arena.
-/
import Derived.WalkKit
import Derived.WalkSpells
import Derived.WalkLawsBesides
import Derived.Test.YtphkgnpkcfbnkabDoorRows
import Derived.LoopTactic
import Derived.Deep.QuietTactic
import Derived.BigQuiet
import Derived.Outline
import Derived.Lib.Hide
import Derived.Deep.DeepFit
namespace Go.Proofs.YtphkgnpkcfbnkabDoor
section
open Go.RowKit

/-- Element k of a list of numbers. -/
def nth (zs : List Int) (k : Nat) : Int := zs.getD k 0
/-- Row k of a list of rows. -/
def row (zss : List (List Int)) (k : Nat) : List Int := zss.getD k []

theorem nth_eq {zs : List Int} {k : Nat} (h : k < zs.length) : nth zs k = zs[k] := by simp [nth, h]
theorem row_eq {zss : List (List Int)} {k : Nat} (h : k < zss.length) : row zss k = zss[k] := by simp [row, h]

def Fits (z : Int) : Prop := -9223372036854775808 ≤ z ∧ z ≤ 9223372036854775807

/-- A slice whose address is a reads in w as the numbers zs. -/
structure IntsAt (w : World) (a : Option Addr) (zs : List Int) : Prop where
  len : zs.length ≤ 17592186044416
  fits : ∀ k, k < zs.length → Fits (nth zs k)
  cell : 0 < zs.length → ∃ b off, a = some ⟨b, off, none⟩ ∧ ∀ k, k < zs.length → w.cell? ⟨b, off + k, none⟩ = some (.int .i64 (nth zs k))

/-- A slice whose address is a reads in w as the rows zss; row k has the address A k and the capacity C k. -/
structure RowsAt (w : World) (a : Option Addr) (A : Nat → Option Addr) (C : Nat → Nat) (zss : List (List Int)) : Prop where
  len : zss.length ≤ 17592186044416
  cell : 0 < zss.length → ∃ b off, a = some ⟨b, off, none⟩ ∧ ∀ k, k < zss.length → w.cell? ⟨b, off + k, none⟩ = some (.slice (A k) (row zss k).length (C k))
  rows : ∀ k, k < zss.length → IntsAt w (A k) (row zss k)

theorem Below.cell_some {B : Nat} {w w' : World} (h : Below w.heap.size w w') (_hB : B = B) {p : Addr} {v : Value} (hc : w.cell? p = some v) : w'.cell? p = some v :=
  (h.cell (World.block_lt_of_cell? w p hc)).trans hc

theorem IntsAt.below {w w' : World} {a : Option Addr} {zs : List Int} (h : IntsAt w a zs) (hb : Below w.heap.size w w') : IntsAt w' a zs :=
  ⟨h.len, h.fits, fun h0 => by
    obtain ⟨b, off, ha, hc⟩ := h.cell h0
    exact ⟨b, off, ha, fun k hk => Below.cell_some (B := 0) hb rfl (hc k hk)⟩⟩

theorem RowsAt.below {w w' : World} {a : Option Addr} {A : Nat → Option Addr} {C : Nat → Nat} {zss : List (List Int)} (h : RowsAt w a A C zss) (hb : Below w.heap.size w w') : RowsAt w' a A C zss :=
  ⟨h.len, fun h0 => by
    obtain ⟨b, off, ha, hc⟩ := h.cell h0
    exact ⟨b, off, ha, fun k hk => Below.cell_some (B := 0) hb rfl (hc k hk)⟩, fun k hk => (h.rows k hk).below hb⟩

/-- Block g is a box of two cells. -/
def Box2 (w : World) (g : Nat) (t : TypeId) (u v : Value) : Prop := w.heap[g]? = some (.cells #[u, v] t (0, 0))

theorem Box2.lt {w : World} {g : Nat} {t : TypeId} {u v : Value} (h : Box2 w g t u v) : g < w.heap.size := (Array.getElem?_eq_some_iff.1 h).1
theorem Box2.cell0 {w : World} {g : Nat} {t : TypeId} {u v : Value} (h : Box2 w g t u v) : w.cell? ⟨g, 0, none⟩ = some u := by unfold Box2 at h; simp [World.cell?, h]
theorem Box2.cell1 {w : World} {g : Nat} {t : TypeId} {u v : Value} (h : Box2 w g t u v) : w.cell? ⟨g, 1, none⟩ = some v := by unfold Box2 at h; simp [World.cell?, h]
theorem Box2.frozen {w : World} {g : Nat} {t : TypeId} {u v : Value} (h : Box2 w g t u v) (k : Nat) : w.frozen? ⟨g, k, none⟩ = false := by unfold Box2 at h; simp [World.frozen?, h]
theorem Box2.below {w w' : World} {g : Nat} {t : TypeId} {u v : Value} (h : Box2 w g t u v) (hb : Below w.heap.size w w') : Box2 w' g t u v := (hb.block g h.lt).trans h
theorem Box2.alloc {w : World} {g : Nat} {t : TypeId} {u v : Value} (h : Box2 w g t u v) (o : Obj) : Box2 (w.alloc o) g t u v := h.below ((Below.refl _ _).alloc (Nat.le_refl _) _)
theorem Box2.new (w : World) (t : TypeId) (u v : Value) : Box2 (w.alloc (.cells #[u, v] t)) w.heap.size t u v := heap_alloc_new w _
theorem Box2.new_at {w : World} {g : Nat} (hg : g = w.heap.size) (t : TypeId) (u v : Value) : Box2 (w.alloc (.cells #[u, v] t)) g t u v := by subst hg; exact heap_alloc_new w _
theorem Box2.other {w : World} {g : Nat} {t : TypeId} {u v : Value} (h : Box2 w g t u v) {a : Addr} (hn : g ≠ a.block) (x : Value) : Box2 (w.setCell a x) g t u v := (Below.heap_setCell w a x g hn).trans h
theorem Box2.set0 {w : World} {g : Nat} {t : TypeId} {u v : Value} (h : Box2 w g t u v) (x : Value) : Box2 (w.setCell ⟨g, 0, none⟩ x) g t x v := by
  unfold Box2 at *; simp [World.setCell, Array.getElem?_modify, h]
theorem Box2.set1 {w : World} {g : Nat} {t : TypeId} {u v : Value} (h : Box2 w g t u v) (x : Value) : Box2 (w.setCell ⟨g, 1, none⟩ x) g t u x := by
  unfold Box2 at *; simp [World.setCell, Array.getElem?_modify, h]

theorem IntsAt.alloc {w : World} {a : Option Addr} {zs : List Int} (h : IntsAt w a zs) (o : Obj) : IntsAt (w.alloc o) a zs := h.below ((Below.refl _ _).alloc (Nat.le_refl _) _)
theorem RowsAt.alloc {w : World} {a : Option Addr} {A : Nat → Option Addr} {C : Nat → Nat} {zss : List (List Int)} (h : RowsAt w a A C zss) (o : Obj) : RowsAt (w.alloc o) a A C zss := h.below ((Below.refl _ _).alloc (Nat.le_refl _) _)
theorem below1 (w : World) (o : Obj) : Below w.heap.size w (w.alloc o) := (Below.refl _ _).alloc (Nat.le_refl _) _
theorem below2 (w : World) (o o' : Obj) : Below w.heap.size w ((w.alloc o).alloc o') := ((Below.refl _ _).alloc (Nat.le_refl _) o).alloc (by simp) o'
theorem ret_bool {a b : Bool} (h : a = b) : Ending.returned (.bool a) = .returned (.bool b) := by rw [h]
theorem ret_i64 {a b : Int} (h : a = b) : Ending.returned (.int .i64 a) = .returned (.int .i64 b) := by rw [h]

/-- A struct of two slices that reads as an arena. -/
def ArenaAt (w : World) (v : Value) (O : List Int) (zss : List (List Int)) : Prop :=
  ∃ ao an co cn A C, v = .agg #[.slice ao O.length co, .slice an zss.length cn] ∧ IntsAt w ao O ∧ RowsAt w an A C zss

theorem ArenaAt.below {w w' : World} {v : Value} {O : List Int} {zss : List (List Int)} (h : ArenaAt w v O zss) (hb : Below w.heap.size w w') : ArenaAt w' v O zss := by
  obtain ⟨ao, an, co, cn, A, C, hv, h1, h2⟩ := h
  exact ⟨ao, an, co, cn, A, C, hv, h1.below hb, h2.below hb⟩
theorem ArenaAt.alloc {w : World} {v : Value} {O : List Int} {zss : List (List Int)} (h : ArenaAt w v O zss) (o : Obj) : ArenaAt (w.alloc o) v O zss := h.below (below1 _ _)
end

section
/-- From the k-th element on the list rises, stays below n, and begins above 'last'. -/
def setFrom (n : Int) (last : Int) : List Int → Bool
  | [] => true
  | v :: r => decide (last < v ∧ v < n) && setFrom n v r

/-- A set of numbers from 0 to n-1. -/
def setB (n : Int) (zs : List Int) : Bool := setFrom n (-1) zs

/-- The element before the k-th; -1 before the first. -/
def lastAt (zs : List Int) (k : Nat) : Int := if k = 0 then -1 else nth zs (k - 1)

theorem setFrom_drop (n : Int) (zs : List Int) (k : Nat) (h : k < zs.length) : setFrom n (lastAt zs k) (zs.drop k) = (decide (lastAt zs k < nth zs k ∧ nth zs k < n) && setFrom n (lastAt zs (k + 1)) (zs.drop (k + 1))) := by
  rw [List.drop_eq_getElem_cons h, setFrom]
  have : lastAt zs (k + 1) = zs[k] := by simp [lastAt, nth_eq h]
  rw [this, nth_eq h]

theorem setFrom_no (n : Int) (zs : List Int) (k : Nat) (h : k < zs.length) (hc : nth zs k ≤ lastAt zs k ∨ n ≤ nth zs k) : setFrom n (lastAt zs k) (zs.drop k) = false := by
  rw [setFrom_drop n zs k h, decide_eq_false (by omega)]; rfl

theorem setFrom_yes (n : Int) (zs : List Int) (k : Nat) (h : k < zs.length) (h1 : lastAt zs k < nth zs k) (h2 : nth zs k < n) : setFrom n (lastAt zs k) (zs.drop k) = setFrom n (lastAt zs (k + 1)) (zs.drop (k + 1)) := by
  rw [setFrom_drop n zs k h, decide_eq_true ⟨h1, h2⟩]; rfl

theorem setFrom_end (n l : Int) (zs : List Int) (k : Nat) (h : zs.length ≤ k) : setFrom n l (zs.drop k) = true := by
  rw [List.drop_eq_nil_of_le h]; rfl

theorem setFrom_len (n : Int) (zs : List Int) : ∀ l, l ≤ n - 1 → setFrom n l zs = true → (zs.length : Int) ≤ n - 1 - l := by
  induction zs with
  | nil => intro l h _; simp; omega
  | cons v r ih =>
    intro l h hs
    simp only [setFrom, Bool.and_eq_true, decide_eq_true_eq] at hs
    have := ih v (by omega) hs.2
    simp only [List.length_cons]
    omega

theorem setB_len {n : Int} {zs : List Int} (h0 : 0 ≤ n) (h : setB n zs = true) : (zs.length : Int) ≤ n := by
  have := setFrom_len n zs (-1) (by omega) h
  omega

/-- x from lo to hi. -/
def inB (x lo hi : Int) : Bool := decide (lo ≤ x ∧ x ≤ hi)
theorem inB_yes {x lo hi : Int} (h1 : lo ≤ x) (h2 : x ≤ hi) : inB x lo hi = true := by simp [inB, h1, h2]
theorem inB_no {x lo hi : Int} (h : x < lo ∨ hi < x) : inB x lo hi = false := by simp [inB]; omega

/-- Is x in the list? -/
def hasB (zs : List Int) (x : Int) : Bool := decide (x ∈ zs)

theorem mem_nth {zs : List Int} {x : Int} : x ∈ zs ↔ ∃ k, k < zs.length ∧ nth zs k = x := by
  rw [List.mem_iff_getElem]
  constructor
  · rintro ⟨k, hk, h⟩; exact ⟨k, hk, by rw [nth_eq hk, h]⟩
  · rintro ⟨k, hk, h⟩; exact ⟨k, hk, by rw [← nth_eq hk, h]⟩

theorem hasB_iff {zs : List Int} {x : Int} : hasB zs x = true ↔ x ∈ zs := by simp [hasB]

/-- Where x stands first; -1 where it does not. -/
def idx (zs : List Int) (x : Int) : Int := if x ∈ zs then (zs.idxOf x : Int) else -1

theorem idxOf_first : ∀ (zs : List Int) (x : Int) (k : Nat), k < zs.length → nth zs k = x → (∀ j, j < k → nth zs j ≠ x) → zs.idxOf x = k
  | [], _, _, h, _, _ => absurd h (by simp)
  | z :: r, x, 0, _, h, _ => by
    have : z = x := by simpa [nth] using h
    simp [this]
  | z :: r, x, k + 1, hk, h, hj => by
    have h0 : z ≠ x := by simpa [nth] using hj 0 (by omega)
    have ih := idxOf_first r x k (by simpa using hk) (by simpa [nth] using h) (fun j hjk => by simpa [nth] using hj (j + 1) (by omega))
    have hz : (z == x) = false := by simp [h0]
    simp [List.idxOf_cons, hz, ih]

theorem idx_at {zs : List Int} {x : Int} {k : Nat} (hk : k < zs.length) (h : nth zs k = x) (hj : ∀ j, j < k → nth zs j ≠ x) : idx zs x = k := by
  unfold idx; rw [if_pos (mem_nth.2 ⟨k, hk, h⟩), idxOf_first zs x k hk h hj]
theorem idx_none {zs : List Int} {x : Int} (hj : ∀ j, j < zs.length → nth zs j ≠ x) : idx zs x = -1 := by
  unfold idx; rw [if_neg (fun hm => by obtain ⟨k, hk, e⟩ := mem_nth.1 hm; exact hj k hk e)]

/-- What ArenaOk asks of one vertex. -/
def VertexP (O : List Int) (zss : List (List Int)) (k : Nat) : Prop :=
  (nth O k = 0 ∨ nth O k = 1) ∧ 1 ≤ (row zss k).length ∧ (row zss k).length ≤ 16 ∧ setB O.length (row zss k) = true

/-- A valid arena. -/
def ArenaP (O : List Int) (zss : List (List Int)) : Prop :=
  1 ≤ O.length ∧ O.length ≤ 256 ∧ zss.length = O.length ∧ ∀ k, k < O.length → VertexP O zss k

noncomputable def arenaB (O : List Int) (zss : List (List Int)) : Bool := @decide (ArenaP O zss) (Classical.propDecidable _)

theorem arenaB_yes {O : List Int} {zss : List (List Int)} (h : ArenaP O zss) : arenaB O zss = true := by simp [arenaB, h]
theorem arenaB_no {O : List Int} {zss : List (List Int)} (h : ¬ ArenaP O zss) : arenaB O zss = false := by simp [arenaB, h]
theorem arenaB_iff {O : List Int} {zss : List (List Int)} : arenaB O zss = true ↔ ArenaP O zss := by simp [arenaB]

theorem arenaB_vertex {O : List Int} {zss : List (List Int)} {k : Nat} (hk : k < O.length) (h : ¬ VertexP O zss k) : arenaB O zss = false :=
  arenaB_no fun ⟨_, _, _, hv⟩ => h (hv k hk)
end

end Go.Proofs.YtphkgnpkcfbnkabDoor
namespace Go.Proofs.YtphkgnpkcfbnkabDoor
open Go.RowKit


set_option maxHeartbeats 400000 in
theorem isSet_any (a : Option Addr) (zs : List Int) (cap : Nat) (n : Int) (w : World) (h : IntsAt w a zs) (_hn : Fits n) :
    Calls Tryd.prog 142 #[.slice a zs.length cap, .int .i64 n] w fun e w' => e = .returned (.bool (setB n zs)) ∧ w = w' := by
  obtain ⟨hlen, hfit, hcell⟩ := h
  unfold Fits at _hn
  have HS : Hid (setFrom n (lastAt zs 0) (zs.drop 0) = setB n zs) := rfl
  have HC := Lib.hid hcell
  have HF := Lib.hid hfit
  clear hcell hfit
  go_enter Tryd.func142, Tryd.ntmps142
  go_wp2
  go_loop [5, 10] (fun l i => ∃ k : Nat, k ≤ zs.length ∧ i = .int .i64 k ∧ l = .int .i64 (lastAt zs k) ∧ Hid (setFrom n (lastAt zs k) (zs.drop k) = setB n zs))
    (fun _ i => zs.length - (intOf i).toNat)
  case atStart => exact ⟨0, Nat.zero_le _, rfl, rfl, HS⟩
  case round =>
    obtain ⟨k, hk, rfl, rfl, HK⟩ := hrel
    by_cases hlt : k < zs.length
    · obtain ⟨b, off, ha, hc⟩ := HC.out (by omega)
      subst ha
      have hck := hc k hlt
      have hfk := HF.out k hlt
      clear hc
      have HL : Hid (lastAt zs (k + 1) = nth zs k) := by simp [Hid, lastAt]
      unfold Fits at hfk
      by_cases hA : nth zs k ≤ lastAt zs k
      · have hA' : decide (nth zs k ≤ lastAt zs k) = true := by simpa using hA
        have HN := setFrom_no n zs k hlt (Or.inl hA)
        have HE : Hid (setB n zs = false) := by rw [← HK.out]; exact HN
        clear HN
        go_wp2
        go_ret
        exact ⟨ret_bool HE.out.symm, rfl⟩
      · by_cases hB : n ≤ nth zs k
        · have HN := setFrom_no n zs k hlt (Or.inr hB)
          have HE : Hid (setB n zs = false) := by rw [← HK.out]; exact HN
          clear HN
          go_wp2
          go_ret
          exact ⟨ret_bool HE.out.symm, rfl⟩
        · have HE : Hid (setFrom n (lastAt zs (k + 1)) (zs.drop (k + 1)) = setB n zs) := by
            have := HK.out
            rw [setFrom_yes n zs k hlt (by omega) (by omega)] at this; exact this
          go_wp2
          go_round
          case rel => exact ⟨k + 1, by omega, by go_num, by rw [HL.out], HE⟩
          case measure => simp [intOf]; omega
    · have HE : Hid (setB n zs = true) := by rw [← HK.out]; exact setFrom_end _ _ _ _ (by omega)
      go_wp2
      go_ret
      exact ⟨ret_bool HE.out.symm, rfl⟩

theorem isSet_is {a : Option Addr} {zs : List Int} {n : Int} {r : Bool} (hr : setB n zs = r) (cap : Nat) (w : World) (h : IntsAt w a zs) (hn : Fits n) :
    Calls Tryd.prog 142 #[.slice a zs.length cap, .int .i64 n] w fun e w' => e = .returned (.bool r) ∧ w = w' := by
  subst hr
  exact isSet_any a zs cap n w h hn



set_option maxHeartbeats 2000000 in
set_option maxRecDepth 100000 in
theorem ArenaOk_any (ao an : Option Addr) (O : List Int) (zss : List (List Int)) (co cn : Nat) (A : Nat → Option Addr) (C : Nat → Nat) (w : World) (hO : IntsAt w ao O) (hN : RowsAt w an A C zss) :
    Calls Tryd.prog 112 #[.agg #[.slice ao O.length co, .slice an zss.length cn]] w fun e w' => e = .returned (.bool (arenaB O zss)) ∧ Below w.heap.size w w' := by
  have hO1 := (hO.alloc (.cells #[.slice ao O.length co, .slice an zss.length cn] 30)).alloc (.cells #[.slice ao O.length co, .slice an zss.length cn] 30)
  have hN1 := (hN.alloc (.cells #[.slice ao O.length co, .slice an zss.length cn] 30)).alloc (.cells #[.slice ao O.length co, .slice an zss.length cn] 30)
  have hlO := hO.len
  have hlN := hN.len
  clear hO hN
  have HO := Lib.hid hO1
  have HN := Lib.hid hN1
  clear hO1 hN1
  by_cases h1 : O.length < 1
  · have HE : Hid (arenaB O zss = false) := arenaB_no fun h => by have := h.1; omega
    go_enter Tryd.func112, Tryd.ntmps112
    go_wp2
    go_ret
    exact ⟨ret_bool HE.out.symm, below2 _ _ _⟩
  · by_cases h2 : 256 < O.length
    · have HE : Hid (arenaB O zss = false) := arenaB_no fun h => by have := h.2.1; omega
      go_enter Tryd.func112, Tryd.ntmps112
      go_wp2
      go_ret
      exact ⟨ret_bool HE.out.symm, below2 _ _ _⟩
    · by_cases h3 : zss.length = O.length
      · have h3' : ((zss.length : Int) != (O.length : Int)) = false := by simp [h3]
        have HL := Lib.hid h3
        have h3a : zss.length ≤ O.length := by omega
        have h3b : O.length ≤ zss.length := by omega
        clear h3
        go_enter Tryd.func112, Tryd.ntmps112
        go_wp2
        go_loop [26] (fun i => ∃ k : Nat, k ≤ O.length ∧ i = .int .i64 k ∧ Hid (∀ j, j < k → VertexP O zss j)) (fun i => O.length - (intOf i).toNat)
        case atStart => exact ⟨0, Nat.zero_le _, rfl, fun j hj => absurd hj (Nat.not_lt_zero _)⟩
        case round =>
          obtain ⟨k, hk, rfl, HK⟩ := hrel
          by_cases hlt : k < O.length
          · obtain ⟨b, off, ha, hc⟩ := HO.out.cell (by omega)
            subst ha
            have hck := hc k hlt
            clear hc
            obtain ⟨bn, offn, hn, hcn⟩ := HN.out.cell (by omega)
            subst hn
            have hcnk := hcn k (by omega)
            clear hcn
            by_cases h4 : nth O k = 0 ∨ nth O k = 1
            · have h4' : (nth O k != 0) = false ∨ ((nth O k != 0) = true ∧ (nth O k != 1) = false) := by rcases h4 with h | h <;> simp [h]
              have H4 := Lib.hid h4
              clear h4
              have hltz : k < zss.length := by omega
              have HR := HN.out.rows k hltz
              have hlr := HR.len
              by_cases h5 : (row zss k).length < 1
              · have HE : Hid (arenaB O zss = false) := arenaB_vertex hlt fun h => by have := h.2.1; omega
                rcases h4' with h4' | ⟨h4', h4''⟩
                all_goals
                  go_wp2
                  go_ret
                  exact ⟨ret_bool HE.out.symm, below2 _ _ _⟩
              · by_cases h6 : 16 < (row zss k).length
                · have HE : Hid (arenaB O zss = false) := arenaB_vertex hlt fun h => by have := h.2.2.1; omega
                  rcases h4' with h4' | ⟨h4', h4''⟩
                  all_goals
                    go_wp2
                    go_ret
                    exact ⟨ret_bool HE.out.symm, below2 _ _ _⟩
                · by_cases h7 : setB O.length (row zss k) = true
                  · have HV : Hid (∀ j, j < k + 1 → VertexP O zss j) := fun j hj => by
                      by_cases hj' : j < k
                      · exact HK.out j hj'
                      · obtain rfl : j = k := by omega
                        exact ⟨H4.out, by omega, by omega, h7⟩
                    have HC := isSet_is h7 (C k) _ HR (n := O.length) (by unfold Fits; omega)
                    have HC' := Lib.hid HC
                    clear HC h7
                    rcases h4' with h4' | ⟨h4', h4''⟩
                    all_goals
                      go_wp2_with (go_at_call 142; refine HC'.out.mono ?_; rintro e w' ⟨rfl, rfl⟩)
                      go_round
                      case rel => exact ⟨k + 1, by omega, by go_num, HV⟩
                      case measure => simp [intOf]; omega
                  · have h7' : setB O.length (row zss k) = false := by simpa using h7
                    have HE : Hid (arenaB O zss = false) := arenaB_vertex hlt fun h => h7 h.2.2.2
                    have HC := isSet_is h7' (C k) _ HR (n := O.length) (by unfold Fits; omega)
                    have HC' := Lib.hid HC
                    clear HC h7 h7'
                    rcases h4' with h4' | ⟨h4', h4''⟩
                    all_goals
                      go_wp2_with (go_at_call 142; refine HC'.out.mono ?_; rintro e w' ⟨rfl, rfl⟩)
                      go_ret
                      exact ⟨ret_bool HE.out.symm, below2 _ _ _⟩
            · have HE : Hid (arenaB O zss = false) := arenaB_vertex hlt fun h => h4 h.1
              have h4' : (nth O k != 0) = true := by simp; omega
              have h4'' : (nth O k != 1) = true := by simp; omega
              clear h4
              go_wp2
              go_ret
              exact ⟨ret_bool HE.out.symm, below2 _ _ _⟩
          · have HE : Hid (arenaB O zss = true) := arenaB_yes ⟨by omega, by omega, HL.out, fun j hj => HK.out j (by omega)⟩
            go_wp2
            go_ret
            exact ⟨ret_bool HE.out.symm, below2 _ _ _⟩
      · have HE : Hid (arenaB O zss = false) := arenaB_no fun h => h3 h.2.2.1
        have h3' : ((zss.length : Int) != (O.length : Int)) = true := by simp; omega
        clear h3
        go_enter Tryd.func112, Tryd.ntmps112
        go_wp2
        go_ret
        exact ⟨ret_bool HE.out.symm, below2 _ _ _⟩

theorem ArenaOk_at {w : World} {v : Value} {O : List Int} {zss : List (List Int)} {r : Bool} (hr : arenaB O zss = r) (h : ArenaAt w v O zss) :
    Calls Tryd.prog 112 #[v] w fun e w' => e = .returned (.bool r) ∧ Below w.heap.size w w' := by
  obtain ⟨ao, an, co, cn, A, C, rfl, h1, h2⟩ := h
  subst hr
  exact ArenaOk_any ao an O zss co cn A C w h1 h2

end Go.Proofs.YtphkgnpkcfbnkabDoor
