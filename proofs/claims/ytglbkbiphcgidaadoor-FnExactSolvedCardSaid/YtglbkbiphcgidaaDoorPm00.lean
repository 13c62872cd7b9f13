import Derived.WalkKit
import Derived.WalkSpells
import Derived.WalkLawsBesides
import Derived.Test.YtglbkbiphcgidaaDoorRows
import Derived.LoopTactic
import Derived.Deep.QuietTactic
import Derived.BigQuiet
import Derived.Outline
import Derived.Lib.Hide
import Derived.Deep.DeepFit
import Derived.IntWalk
import Derived.Deep.OwnRows
import Derived.Maps.AppendAt
import Derived.Deep.AppendSrc
import Derived.Laws.AppendOwnNone
import Derived.Deep.RegionLaw
import Derived.Deep.AppendLies
import Derived.WalkSmall
import Derived.Deep.RegionHeld3
import Derived.Laws.Closers25b
namespace Go.Proofs.YtglbkbiphcgidaaDoor
section
open Go.RowKit
def nth (zs : List Int) (k : Nat) : Int := zs.getD k 0
def row (ah : List (List Int)) (k : Nat) : List Int := ah.getD k []
theorem jl {zs : List Int} {k : Nat} (h : k < zs.length) : nth zs k = zs[k] := by simp [nth, h]
theorem adT {ah : List (List Int)} {k : Nat} (h : k < ah.length) : row ah k = ah[k] := by simp [row, h]
def Fits (z : Int) : Prop := -9223372036854775808 ≤ z ∧ z ≤ 9223372036854775807
structure aV (w : World) (a : Option Addr) (zs : List Int) : Prop where
 len : zs.length ≤ 17592186044416
 fits : ∀ k, k < zs.length → Fits (nth zs k)
 cell : 0 < zs.length → ∃ b off, a = some ⟨b, off, none⟩ ∧ ∀ k, k < zs.length → w.cell? ⟨b, off + k, none⟩ = some (.int .i64 (nth zs k))
structure dU (w : World) (a : Option Addr) (A : Nat → Option Addr) (C : Nat → Nat) (ah : List (List Int)) : Prop where
 len : ah.length ≤ 17592186044416
 cell : 0 < ah.length → ∃ b off, a = some ⟨b, off, none⟩ ∧ ∀ k, k < ah.length → w.cell? ⟨b, off + k, none⟩ = some (.slice (A k) (row ah k).length (C k))
 rows : ∀ k, k < ah.length → aV w (A k) (row ah k)
theorem Below.CJ {B : Nat} {w w' : World} (h : Below w.heap.size w w') (_hB : B = B) {p : Addr} {v : Value} (hc : w.cell? p = some v) : w'.cell? p = some v :=
 (h.cell (World.block_lt_of_cell? w p hc)).trans hc
theorem aV.below {w w' : World} {a : Option Addr} {zs : List Int} (h : aV w a zs) (hb : Below w.heap.size w w') : aV w' a zs :=
 ⟨h.len, h.fits, fun h0 => by
  obtain ⟨b, off, ha, hc⟩ := h.cell h0
  exact ⟨b, off, ha, fun k hk => Below.CJ (B := 0) hb rfl (hc k hk)⟩⟩
theorem dU.below {w w' : World} {a : Option Addr} {A : Nat → Option Addr} {C : Nat → Nat} {ah : List (List Int)} (h : dU w a A C ah) (hb : Below w.heap.size w w') : dU w' a A C ah :=
 ⟨h.len, fun h0 => by
  obtain ⟨b, off, ha, hc⟩ := h.cell h0
  exact ⟨b, off, ha, fun k hk => Below.CJ (B := 0) hb rfl (hc k hk)⟩, fun k hk => (h.rows k hk).below hb⟩
def aI (w : World) (g : Nat) (t : TypeId) (u v : Value) : Prop := w.heap[g]? = some (.cells #[u, v] t (0, 0))
theorem aI.lt {w : World} {g : Nat} {t : TypeId} {u v : Value} (h : aI w g t u v) : g < w.heap.size := (Array.getElem?_eq_some_iff.1 h).1
theorem aI.cell0 {w : World} {g : Nat} {t : TypeId} {u v : Value} (h : aI w g t u v) : w.cell? ⟨g, 0, none⟩ = some u := by unfold aI at h; simp [World.cell?, h]
theorem aI.cell1 {w : World} {g : Nat} {t : TypeId} {u v : Value} (h : aI w g t u v) : w.cell? ⟨g, 1, none⟩ = some v := by unfold aI at h; simp [World.cell?, h]
theorem aI.frozen {w : World} {g : Nat} {t : TypeId} {u v : Value} (h : aI w g t u v) (k : Nat) : w.frozen? ⟨g, k, none⟩ = false := by unfold aI at h; simp [World.frozen?, h]
theorem aI.below {w w' : World} {g : Nat} {t : TypeId} {u v : Value} (h : aI w g t u v) (hb : Below w.heap.size w w') : aI w' g t u v := (hb.block g h.lt).trans h
theorem aI.alloc {w : World} {g : Nat} {t : TypeId} {u v : Value} (h : aI w g t u v) (o : Obj) : aI (w.alloc o) g t u v := h.below ((Below.refl _ _).alloc (Nat.le_refl _) _)
theorem aI.new (w : World) (t : TypeId) (u v : Value) : aI (w.alloc (.cells #[u, v] t)) w.heap.size t u v := heap_alloc_new w _
theorem aI.xJ {w : World} {g : Nat} (hg : g = w.heap.size) (t : TypeId) (u v : Value) : aI (w.alloc (.cells #[u, v] t)) g t u v := by subst hg; exact heap_alloc_new w _
theorem aI.other {w : World} {g : Nat} {t : TypeId} {u v : Value} (h : aI w g t u v) {a : Addr} (hn : g ≠ a.block) (x : Value) : aI (w.setCell a x) g t u v := (Below.heap_setCell w a x g hn).trans h
theorem aI.set0 {w : World} {g : Nat} {t : TypeId} {u v : Value} (h : aI w g t u v) (x : Value) : aI (w.setCell ⟨g, 0, none⟩ x) g t x v := by
 unfold aI at *; simp [World.setCell, Array.getElem?_modify, h]
theorem aI.set1 {w : World} {g : Nat} {t : TypeId} {u v : Value} (h : aI w g t u v) (x : Value) : aI (w.setCell ⟨g, 1, none⟩ x) g t u x := by
 unfold aI at *; simp [World.setCell, Array.getElem?_modify, h]
theorem aV.alloc {w : World} {a : Option Addr} {zs : List Int} (h : aV w a zs) (o : Obj) : aV (w.alloc o) a zs := h.below ((Below.refl _ _).alloc (Nat.le_refl _) _)
theorem dU.alloc {w : World} {a : Option Addr} {A : Nat → Option Addr} {C : Nat → Nat} {ah : List (List Int)} (h : dU w a A C ah) (o : Obj) : dU (w.alloc o) a A C ah := h.below ((Below.refl _ _).alloc (Nat.le_refl _) _)
theorem aA (w : World) (o : Obj) : Below w.heap.size w (w.alloc o) := (Below.refl _ _).alloc (Nat.le_refl _) _
theorem below2 (w : World) (o o' : Obj) : Below w.heap.size w ((w.alloc o).alloc o') := ((Below.refl _ _).alloc (Nat.le_refl _) o).alloc (by simp) o'
theorem dY {a b : Bool} (h : a = b) : Ending.returned (.bool a) = .returned (.bool b) := by rw [h]
theorem kG {a b : Int} (h : a = b) : Ending.returned (.int .i64 a) = .returned (.int .i64 b) := by rw [h]
def gZ (w : World) (v : Value) (O : List Int) (ah : List (List Int)) : Prop :=
 ∃ ao an co cn A C, v = .agg #[.slice ao O.length co, .slice an ah.length cn] ∧ aV w ao O ∧ dU w an A C ah
theorem gZ.below {w w' : World} {v : Value} {O : List Int} {ah : List (List Int)} (h : gZ w v O ah) (hb : Below w.heap.size w w') : gZ w' v O ah := by
 obtain ⟨ao, an, co, cn, A, C, hv, h1, h2⟩ := h
 exact ⟨ao, an, co, cn, A, C, hv, h1.below hb, h2.below hb⟩
theorem gZ.alloc {w : World} {v : Value} {O : List Int} {ah : List (List Int)} (h : gZ w v O ah) (o : Obj) : gZ (w.alloc o) v O ah := h.below (aA _ _)
end
section
def jE (n : Int) (last : Int) : List Int → Bool
 | [] => true
 | v :: r => decide (last < v ∧ v < n) && jE n v r
def iI (n : Int) (zs : List Int) : Bool := jE n (-1) zs
def iJ (zs : List Int) (k : Nat) : Int := if k = 0 then -1 else nth zs (k - 1)
theorem YK (n : Int) (zs : List Int) (k : Nat) (h : k < zs.length) : jE n (iJ zs k) (zs.drop k) = (decide (iJ zs k < nth zs k ∧ nth zs k < n) && jE n (iJ zs (k + 1)) (zs.drop (k + 1))) := by
 rw [List.drop_eq_getElem_cons h, jE]
 have : iJ zs (k + 1) = zs[k] := by simp [iJ, jl h]
 rw [this, jl h]
theorem LZ (n : Int) (zs : List Int) (k : Nat) (h : k < zs.length) (hc : nth zs k ≤ iJ zs k ∨ n ≤ nth zs k) : jE n (iJ zs k) (zs.drop k) = false := by
 rw [YK n zs k h, decide_eq_false (by omega)]; rfl
theorem QN (n : Int) (zs : List Int) (k : Nat) (h : k < zs.length) (h1 : iJ zs k < nth zs k) (h2 : nth zs k < n) : jE n (iJ zs k) (zs.drop k) = jE n (iJ zs (k + 1)) (zs.drop (k + 1)) := by
 rw [YK n zs k h, decide_eq_true ⟨h1, h2⟩]; rfl
theorem YL (n l : Int) (zs : List Int) (k : Nat) (h : zs.length ≤ k) : jE n l (zs.drop k) = true := by
 rw [List.drop_eq_nil_of_le h]; rfl
theorem adU (n : Int) (zs : List Int) : ∀ l, l ≤ n - 1 → jE n l zs = true → (zs.length : Int) ≤ n - 1 - l := by
 induction zs with
 | nil => intro l h _; simp; omega
 | cons v r ih =>
   intro l h hs
   simp only [jE, Bool.and_eq_true, decide_eq_true_eq] at hs
   have := ih v (by omega) hs.2
   simp only [List.length_cons]
   omega
theorem adV {n : Int} {zs : List Int} (h0 : 0 ≤ n) (h : iI n zs = true) : (zs.length : Int) ≤ n := by
 have := adU n zs (-1) (by omega) h
 omega
def inB (x lo hi : Int) : Bool := decide (lo ≤ x ∧ x ≤ hi)
theorem IV {x lo hi : Int} (h1 : lo ≤ x) (h2 : x ≤ hi) : inB x lo hi = true := by simp [inB, h1, h2]
theorem EU {x lo hi : Int} (h : x < lo ∨ hi < x) : inB x lo hi = false := by simp [inB]; omega
def hasB (zs : List Int) (x : Int) : Bool := decide (x ∈ zs)
theorem rF {zs : List Int} {x : Int} : x ∈ zs ↔ ∃ k, k < zs.length ∧ nth zs k = x := by
 rw [List.mem_iff_getElem]
 constructor
 · rintro ⟨k, hk, h⟩; exact ⟨k, hk, by rw [jl hk, h]⟩
 · rintro ⟨k, hk, h⟩; exact ⟨k, hk, by rw [← jl hk, h]⟩
theorem xK {zs : List Int} {x : Int} : hasB zs x = true ↔ x ∈ zs := by simp [hasB]
def idx (zs : List Int) (x : Int) : Int := if x ∈ zs then (zs.idxOf x : Int) else -1
theorem YM : ∀ (zs : List Int) (x : Int) (k : Nat), k < zs.length → nth zs k = x → (∀ j, j < k → nth zs j ≠ x) → zs.idxOf x = k
 | [], _, _, h, _, _ => absurd h (by simp)
 | z :: r, x, 0, _, h, _ => by
   have : z = x := by simpa [nth] using h
   simp [this]
 | z :: r, x, k + 1, hk, h, hj => by
   have h0 : z ≠ x := by simpa [nth] using hj 0 (by omega)
   have ih := YM r x k (by simpa using hk) (by simpa [nth] using h) (fun j hjk => by simpa [nth] using hj (j + 1) (by omega))
   have hz : (z == x) = false := by simp [h0]
   simp [List.idxOf_cons, hz, ih]
theorem adW {zs : List Int} {x : Int} {k : Nat} (hk : k < zs.length) (h : nth zs k = x) (hj : ∀ j, j < k → nth zs j ≠ x) : idx zs x = k := by
 unfold idx; rw [if_pos (rF.2 ⟨k, hk, h⟩), YM zs x k hk h hj]
theorem adX {zs : List Int} {x : Int} (hj : ∀ j, j < zs.length → nth zs j ≠ x) : idx zs x = -1 := by
 unfold idx; rw [if_neg (fun hm => by obtain ⟨k, hk, e⟩ := rF.1 hm; exact hj k hk e)]
def zF (O : List Int) (ah : List (List Int)) (k : Nat) : Prop :=
 (nth O k = 0 ∨ nth O k = 1) ∧ 1 ≤ (row ah k).length ∧ (row ah k).length ≤ 16 ∧ iI O.length (row ah k) = true
def lJ (O : List Int) (ah : List (List Int)) : Prop :=
 1 ≤ O.length ∧ O.length ≤ 256 ∧ ah.length = O.length ∧ ∀ k, k < O.length → zF O ah k
noncomputable def gW (O : List Int) (ah : List (List Int)) : Bool := @decide (lJ O ah) (Classical.propDecidable _)
theorem YN {O : List Int} {ah : List (List Int)} (h : lJ O ah) : gW O ah = true := by simp [gW, h]
theorem CO {O : List Int} {ah : List (List Int)} (h : ¬ lJ O ah) : gW O ah = false := by simp [gW, h]
theorem YO {O : List Int} {ah : List (List Int)} : gW O ah = true ↔ lJ O ah := by simp [gW]
theorem zG {O : List Int} {ah : List (List Int)} {k : Nat} (hk : k < O.length) (h : ¬ zF O ah k) : gW O ah = false :=
 CO fun ⟨_, _, _, hv⟩ => h (hv k hk)
end
end Go.Proofs.YtglbkbiphcgidaaDoor
namespace Go.Proofs.YtglbkbiphcgidaaDoor
open Go.RowKit
set_option maxHeartbeats 400000 in
theorem adY (a : Option Addr) (zs : List Int) (cap : Nat) (n : Int) (w : World) (h : aV w a zs) (_hn : Fits n) :
 Calls Tryd.prog 157 #[.slice a zs.length cap, .int .i64 n] w fun e w' => e = .returned (.bool (iI n zs)) ∧ w = w' := by
 obtain ⟨hlen, hfit, hcell⟩ := h
 unfold Fits at _hn
 have HS : Hid (jE n (iJ zs 0) (zs.drop 0) = iI n zs) := rfl
 have HC := Lib.hid hcell
 have HF := Lib.hid hfit
 clear hcell hfit
 go_enter Tryd.func157, Tryd.ntmps157
 go_wp2
 go_loop [5, 10] (fun l i => ∃ k : Nat, k ≤ zs.length ∧ i = .int .i64 k ∧ l = .int .i64 (iJ zs k) ∧ Hid (jE n (iJ zs k) (zs.drop k) = iI n zs))
  (fun _ i => zs.length - (intOf i).toNat)
 case atStart => exact ⟨0, Nat.zero_le _, rfl, rfl, HS⟩
 case round =>
  obtain ⟨k, hk, rfl, rfl, HK⟩ := hrel
  by_cases hlt : k < zs.length
  · obtain ⟨b, off, ha, hc⟩ := HC.out (by omega)
    subst ha
    have hck := hc k hlt
    have hfk := HF.out k hlt
    clear hc
    have HL : Hid (iJ zs (k + 1) = nth zs k) := by simp [Hid, iJ]
    unfold Fits at hfk
    by_cases hA : nth zs k ≤ iJ zs k
    · have hA' : decide (nth zs k ≤ iJ zs k) = true := by simpa using hA
      have HN := LZ n zs k hlt (Or.inl hA)
      have HE : Hid (iI n zs = false) := by rw [← HK.out]; exact HN
      clear HN
      go_wp2
      go_ret
      exact ⟨dY HE.out.symm, rfl⟩
    · by_cases hB : n ≤ nth zs k
      · have HN := LZ n zs k hlt (Or.inr hB)
        have HE : Hid (iI n zs = false) := by rw [← HK.out]; exact HN
        clear HN
        go_wp2
        go_ret
        exact ⟨dY HE.out.symm, rfl⟩
      · have HE : Hid (jE n (iJ zs (k + 1)) (zs.drop (k + 1)) = iI n zs) := by
         have := HK.out
         rw [QN n zs k hlt (by omega) (by omega)] at this; exact this
        go_wp2
        go_round
        case rel => exact ⟨k + 1, by omega, by go_num, by rw [HL.out], HE⟩
        case measure => simp [intOf]; omega
  · have HE : Hid (iI n zs = true) := by rw [← HK.out]; exact YL _ _ _ _ (by omega)
    go_wp2
    go_ret
    exact ⟨dY HE.out.symm, rfl⟩
theorem YP {a : Option Addr} {zs : List Int} {n : Int} {r : Bool} (hr : iI n zs = r) (cap : Nat) (w : World) (h : aV w a zs) (hn : Fits n) :
 Calls Tryd.prog 157 #[.slice a zs.length cap, .int .i64 n] w fun e w' => e = .returned (.bool r) ∧ w = w' := by
 subst hr
 exact adY a zs cap n w h hn
set_option maxHeartbeats 2000000 in
set_option maxRecDepth 100000 in
theorem adZ (ao an : Option Addr) (O : List Int) (ah : List (List Int)) (co cn : Nat) (A : Nat → Option Addr) (C : Nat → Nat) (w : World) (hO : aV w ao O) (hN : dU w an A C ah) :
 Calls Tryd.prog 134 #[.agg #[.slice ao O.length co, .slice an ah.length cn]] w fun e w' => e = .returned (.bool (gW O ah)) ∧ Below w.heap.size w w' := by
 have vX := (hO.alloc (.cells #[.slice ao O.length co, .slice an ah.length cn] 33)).alloc (.cells #[.slice ao O.length co, .slice an ah.length cn] 33)
 have hN1 := (hN.alloc (.cells #[.slice ao O.length co, .slice an ah.length cn] 33)).alloc (.cells #[.slice ao O.length co, .slice an ah.length cn] 33)
 have CP := hO.len
 have YQ := hN.len
 clear hO hN
 have HO := Lib.hid vX
 have HN := Lib.hid hN1
 clear vX hN1
 by_cases h1 : O.length < 1
 · have HE : Hid (gW O ah = false) := CO fun h => by have := h.1; omega
   go_enter Tryd.func134, Tryd.ntmps134
   go_wp2
   go_ret
   exact ⟨dY HE.out.symm, below2 _ _ _⟩
 · by_cases h2 : 256 < O.length
   · have HE : Hid (gW O ah = false) := CO fun h => by have := h.2.1; omega
     go_enter Tryd.func134, Tryd.ntmps134
     go_wp2
     go_ret
     exact ⟨dY HE.out.symm, below2 _ _ _⟩
   · by_cases h3 : ah.length = O.length
     · have h3' : ((ah.length : Int) != (O.length : Int)) = false := by simp [h3]
       have HL := Lib.hid h3
       have h3a : ah.length ≤ O.length := by omega
       have h3b : O.length ≤ ah.length := by omega
       clear h3
       go_enter Tryd.func134, Tryd.ntmps134
       go_wp2
       go_loop [26] (fun i => ∃ k : Nat, k ≤ O.length ∧ i = .int .i64 k ∧ Hid (∀ j, j < k → zF O ah j)) (fun i => O.length - (intOf i).toNat)
       case atStart => exact ⟨0, Nat.zero_le _, rfl, fun j hj => absurd hj (Nat.not_lt_zero _)⟩
       case round =>
        obtain ⟨k, hk, rfl, HK⟩ := hrel
        by_cases hlt : k < O.length
        · obtain ⟨b, off, ha, hc⟩ := HO.out.cell (by omega)
          subst ha
          have hck := hc k hlt
          clear hc
          obtain ⟨bn, ad1, hn, hcn⟩ := HN.out.cell (by omega)
          subst hn
          have ad2 := hcn k (by omega)
          clear hcn
          by_cases h4 : nth O k = 0 ∨ nth O k = 1
          · have h4' : (nth O k != 0) = false ∨ ((nth O k != 0) = true ∧ (nth O k != 1) = false) := by rcases h4 with h | h <;> simp [h]
            have H4 := Lib.hid h4
            clear h4
            have hltz : k < ah.length := by omega
            have HR := HN.out.rows k hltz
            have hlr := HR.len
            by_cases h5 : (row ah k).length < 1
            · have HE : Hid (gW O ah = false) := zG hlt fun h => by have := h.2.1; omega
              rcases h4' with h4' | ⟨h4', L6⟩
              all_goals
               go_wp2
               go_ret
               exact ⟨dY HE.out.symm, below2 _ _ _⟩
            · by_cases h6 : 16 < (row ah k).length
              · have HE : Hid (gW O ah = false) := zG hlt fun h => by have := h.2.2.1; omega
                rcases h4' with h4' | ⟨h4', L6⟩
                all_goals
                 go_wp2
                 go_ret
                 exact ⟨dY HE.out.symm, below2 _ _ _⟩
              · by_cases h7 : iI O.length (row ah k) = true
                · have HV : Hid (∀ j, j < k + 1 → zF O ah j) := fun j hj => by
                   by_cases hj' : j < k
                   · exact HK.out j hj'
                   · obtain rfl : j = k := by omega
                     exact ⟨H4.out, by omega, by omega, h7⟩
                  have HC := YP h7 (C k) _ HR (n := O.length) (by unfold Fits; omega)
                  have og := Lib.hid HC
                  clear HC h7
                  rcases h4' with h4' | ⟨h4', L6⟩
                  all_goals
                   go_wp2_with (go_at_call 157; refine og.out.mono ?_; rintro e w' ⟨rfl, rfl⟩)
                   go_round
                   case rel => exact ⟨k + 1, by omega, by go_num, HV⟩
                   case measure => simp [intOf]; omega
                · have IW : iI O.length (row ah k) = false := by simpa using h7
                  have HE : Hid (gW O ah = false) := zG hlt fun h => h7 h.2.2.2
                  have HC := YP IW (C k) _ HR (n := O.length) (by unfold Fits; omega)
                  have og := Lib.hid HC
                  clear HC h7 IW
                  rcases h4' with h4' | ⟨h4', L6⟩
                  all_goals
                   go_wp2_with (go_at_call 157; refine og.out.mono ?_; rintro e w' ⟨rfl, rfl⟩)
                   go_ret
                   exact ⟨dY HE.out.symm, below2 _ _ _⟩
          · have HE : Hid (gW O ah = false) := zG hlt fun h => h4 h.1
            have h4' : (nth O k != 0) = true := by simp; omega
            have L6 : (nth O k != 1) = true := by simp; omega
            clear h4
            go_wp2
            go_ret
            exact ⟨dY HE.out.symm, below2 _ _ _⟩
        · have HE : Hid (gW O ah = true) := YN ⟨by omega, by omega, HL.out, fun j hj => HK.out j (by omega)⟩
          go_wp2
          go_ret
          exact ⟨dY HE.out.symm, below2 _ _ _⟩
     · have HE : Hid (gW O ah = false) := CO fun h => h3 h.2.2.1
       have h3' : ((ah.length : Int) != (O.length : Int)) = true := by simp; omega
       clear h3
       go_enter Tryd.func134, Tryd.ntmps134
       go_wp2
       go_ret
       exact ⟨dY HE.out.symm, below2 _ _ _⟩
theorem YR {w : World} {v : Value} {O : List Int} {ah : List (List Int)} {r : Bool} (hr : gW O ah = r) (h : gZ w v O ah) :
 Calls Tryd.prog 134 #[v] w fun e w' => e = .returned (.bool r) ∧ Below w.heap.size w w' := by
 obtain ⟨ao, an, co, cn, A, C, rfl, h1, h2⟩ := h
 subst hr
 exact adZ ao an O ah co cn A C w h1 h2
end Go.Proofs.YtglbkbiphcgidaaDoor
namespace Go.Proofs.YtglbkbiphcgidaaDoor
open Go.RowKit
theorem EW {P : Program} {f : FuncId} {args : Array Value} {w : World} {n : Nat} {v : Value}
 (h : Calls P f args (w.drewN n) fun e w' => e = .returned v ∧ w.drewN n = w') : Calls P f args (w.drewN n) fun e w'' => e = .returned v ∧ ∃ m, w'' = w.drewN m :=
 h.mono fun _ _ ⟨he, hm⟩ => ⟨he, n, hm.symm⟩
set_option maxHeartbeats 400000 in
theorem ad3 (x lo hi : Int) (w : World) : Calls Tryd.prog 79 #[.int .i64 x, .int .i64 lo, .int .i64 hi] w fun e w' => e = .returned (.bool (inB x lo hi)) ∧ w = w' := by
 by_cases h1 : lo ≤ x
 · by_cases h2 : x ≤ hi
   · have HE := Lib.hid (IV h1 h2)
     go_enter Tryd.func79, Tryd.ntmps79
     go_wp2
     go_ret
     exact ⟨dY HE.out.symm, rfl⟩
   · have HE := Lib.hid (EU (x := x) (lo := lo) (hi := hi) (by omega))
     go_enter Tryd.func79, Tryd.ntmps79
     go_wp2
     go_ret
     exact ⟨dY HE.out.symm, rfl⟩
 · have HE := Lib.hid (EU (x := x) (lo := lo) (hi := hi) (by omega))
   go_enter Tryd.func79, Tryd.ntmps79
   go_wp2
   go_ret
   exact ⟨dY HE.out.symm, rfl⟩
theorem xM {x lo hi : Int} {r : Bool} (hr : inB x lo hi = r) (w : World) : Calls Tryd.prog 79 #[.int .i64 x, .int .i64 lo, .int .i64 hi] w fun e w' => e = .returned (.bool r) ∧ w = w' := by
 subst hr; exact ad3 x lo hi w
theorem ad4 {zs : List Int} {k : Nat} (h : ∀ j, j < k → 0 ≤ nth zs j) : -1 ≤ iJ zs k := by
 unfold iJ
 split
 · omega
 · have := h (k - 1) (by omega); omega
theorem CQ {w wr : World} {m : Nat} (h : ∃ q, wr = w.drewN q) : ∃ q, wr.drewN m = w.drewN q := by
 obtain ⟨q, rfl⟩ := h
 exact ⟨q + m, by rw [World.drewN_drewN]⟩
set_option maxHeartbeats 1000000 in
theorem ad5 (a : Option Addr) (zs : List Int) (cap : Nat) (n : Int) (w : World) (h : aV w a zs) (_h0 : 0 ≤ n) (_hn : n ≤ 4611686018427387904) :
 Calls Tryd.prog 158 #[.slice a zs.length cap, .int .i64 n] w fun e w' => e = .returned (.bool (iI n zs)) ∧ ∃ q, w' = w.drewN q := by
 obtain ⟨hlen, hfit, hcell⟩ := h
 have HS : Hid (jE n (iJ zs 0) (zs.drop 0) = iI n zs) := rfl
 have HC := Lib.hid hcell
 clear hcell hfit
 go_enter Tryd.func158, Tryd.ntmps158
 go_wp2
 go_loopw [5] (fun i wr => ∃ k : Nat, k ≤ zs.length ∧ i = .int .i64 k ∧ Hid (jE n (iJ zs k) (zs.drop k) = iI n zs) ∧ Hid (∀ j, j < k → 0 ≤ nth zs j) ∧ Hid (∃ q, wr = w.drewN q))
  (fun i _ => zs.length - (intOf i).toNat)
 case atStart => exact ⟨0, Nat.zero_le _, rfl, HS, fun j hj => absurd hj (Nat.not_lt_zero _), ⟨0, rfl⟩⟩
 case round =>
  obtain ⟨k, hk, rfl, HK, HP, HW⟩ := hrel
  have hwc : ∀ a, wr.cell? a = w.cell? a := fun a => by obtain ⟨q, hq⟩ := HW.out; rw [hq]; simp
  by_cases hlt : k < zs.length
  · obtain ⟨b, off, ha, hc⟩ := HC.out (by omega)
    subst ha
    have hck := (hwc _).trans (hc k hlt)
    have hcp : 0 < k → wr.cell? ⟨b, off + (k - 1), none⟩ = some (.int .i64 (nth zs (k - 1))) := fun h => (hwc _).trans (hc (k - 1) (by omega))
    clear hc hwc
    have hw1 : IntKind.i64.wrap (n - 1) = n - 1 := IntWalk.i64_in _ (by omega)
    have HW1 := Lib.hid hw1
    clear hw1
    have hi1 : (k : Int) < zs.length := by omega
    have IX : IntKind.i64.wrap ((k : Int) - 1) = (k : Int) - 1 := IntWalk.i64_in _ (by omega)
    have EX := Lib.hid IX
    clear IX
    by_cases hr : 0 ≤ nth zs k ∧ nth zs k ≤ n - 1
    · have HA := Lib.hid (xM (IV hr.1 hr.2))
      have HQ : Hid (∀ j, j < k + 1 → 0 ≤ nth zs j) := fun j hj => by
       by_cases hj' : j < k
       · exact HP.out j hj'
       · obtain rfl : j = k := by omega
         exact hr.1
      by_cases hz : k = 0
      · have hz' : ¬ (0 : Int) < k := by omega
        have aj7 : decide ((0 : Int) < (k : Int)) = false := by simpa using hz'
        have hz3 : decide (0 < k) = false := by simpa using hz
        have HE : Hid (jE n (iJ zs (k + 1)) (zs.drop (k + 1)) = iI n zs) := by
         have := HK.out
         rw [QN n zs k hlt (by subst hz; simp [iJ]; omega) (by omega)] at this; exact this
        clear hz hcp
        have hw1 := HW1.out
        go_wp2
        go_quiet ((go_at_call 79; exact EW (HA.out _)))
        go_wp2
        go_roundw
        case rel => exact ⟨k + 1, by omega, by go_num, HE, HQ, CQ HW.out⟩
        case measure => simp [intOf]; omega
      · have hkm : 0 < k := by omega
        have hcm := hcp hkm
        clear hcp
        have HL : Hid (iJ zs k = nth zs (k - 1)) := by simp only [Hid, iJ]; rw [if_neg hz]
        have hi2 : (0 : Int) < k := by omega
        have hi3 : (k : Int) - 1 < zs.length := by omega
        have hi4 : (0 : Int) ≤ (k : Int) - 1 := by omega
        by_cases hle : nth zs k ≤ nth zs (k - 1)
        · have HN := LZ n zs k hlt (Or.inl (by rw [HL.out]; exact hle))
          have HE : Hid (iI n zs = false) := by rw [← HK.out]; exact HN
          clear HN
          have hi5 : ((k : Int) - 1).toNat = k - 1 := by omega
          have IX := EX.out
          have hw1 := HW1.out
          go_wp2
          go_quiet ((go_at_call 79; exact EW (HA.out _)))
          go_wp2
          go_ret
          exact ⟨dY HE.out.symm, CQ HW.out⟩
        · have HE : Hid (jE n (iJ zs (k + 1)) (zs.drop (k + 1)) = iI n zs) := by
           have := HK.out
           rw [QN n zs k hlt (by rw [HL.out]; omega) (by omega)] at this; exact this
          have hi5 : ((k : Int) - 1).toNat = k - 1 := by omega
          have IX := EX.out
          have hw1 := HW1.out
          go_wp2
          go_quiet ((go_at_call 79; exact EW (HA.out _)))
          clear hi5 IX hw1
          go_wp2
          go_roundw
          case rel => exact ⟨k + 1, by omega, by go_num, HE, HQ, CQ HW.out⟩
          case measure => simp [intOf]; omega
    · have HA := Lib.hid (xM (EU (x := nth zs k) (lo := 0) (hi := n - 1) (by omega)))
      have HE : Hid (iI n zs = false) := by
       rw [← HK.out]
       refine LZ n zs k hlt ?_
       have := ad4 HP.out
       omega
      clear hcp
      have hw1 := HW1.out
      go_wp2
      go_quiet ((go_at_call 79; exact EW (HA.out _)))
      go_wp2
      go_ret
      exact ⟨dY HE.out.symm, CQ HW.out⟩
  · have HE : Hid (iI n zs = true) := by rw [← HK.out]; exact YL _ _ _ _ (by omega)
    clear hwc
    go_wp2
    go_ret
    exact ⟨dY HE.out.symm, HW.out⟩
theorem ad6 {a : Option Addr} {zs : List Int} {n : Int} {r : Bool} (hr : iI n zs = r) (cap : Nat) (w : World) (h : aV w a zs) (h0 : 0 ≤ n) (hn : n ≤ 4611686018427387904) :
 Calls Tryd.prog 158 #[.slice a zs.length cap, .int .i64 n] w fun e w' => e = .returned (.bool r) ∧ ∃ q, w' = w.drewN q := by
 subst hr; exact ad5 a zs cap n w h h0 hn
set_option maxHeartbeats 400000 in
theorem YS {a : Option Addr} {zs : List Int} {n : Int} {r : Bool} (hr : iI n zs = r) (cap : Nat) (w : World) (h : aV w a zs) (_h0 : 0 ≤ n) (_hn : n ≤ 4611686018427387904) :
 Calls Tryd.prog 141 #[.slice a zs.length cap, .int .i64 n] w fun e w' => e = .returned (.bool r) ∧ ∃ q, w' = w.drewN q := by
 have hl := h.len
 by_cases hle : (zs.length : Int) ≤ n
 · have HC := Lib.hid (ad6 hr cap w h _h0 _hn)
   clear hr h
   go_enter Tryd.func141, Tryd.ntmps141
   go_wp2_with (go_at_call 158; refine HC.out.mono ?_; rintro e w' ⟨rfl, HW⟩)
   go_ret
   exact ⟨rfl, HW⟩
 · have HE : Hid (r = false) := by
    rw [← hr]
    cases hb : iI n zs with
    | false => rfl
    | true => exact absurd (adV _h0 hb) hle
   clear hr h
   go_enter Tryd.func141, Tryd.ntmps141
   go_wp2
   go_ret
   exact ⟨dY HE.out.symm, 0, rfl⟩
theorem below_drewN {B : Nat} {a w : World} (h : Below B a w) (n : Nat) : Below B a (w.drewN n) := ⟨h.os, h.tape, h.output, h.size, h.block⟩
theorem EY {B : Nat} {a w w' : World} (h : Below B a w) (k : ∃ q, w' = w.drewN q) : Below B a w' := by
 obtain ⟨q, rfl⟩ := k; exact below_drewN h q
theorem ad7 {w wr w' : World} (h : ∃ q, wr = w.drewN q) (h' : ∃ q, w' = wr.drewN q) : ∃ q, w' = w.drewN q := by
 obtain ⟨q, rfl⟩ := h'; exact CQ h
theorem aV.same {w w' : World} {a : Option Addr} {zs : List Int} (h : aV w a zs) (k : ∃ q, w' = w.drewN q) : aV w' a zs := h.below (EY (Below.refl _ _) k)
theorem dU.same {w w' : World} {a : Option Addr} {A : Nat → Option Addr} {C : Nat → Nat} {ah : List (List Int)} (h : dU w a A C ah) (k : ∃ q, w' = w.drewN q) : dU w' a A C ah := h.below (EY (Below.refl _ _) k)
set_option maxHeartbeats 2000000 in
set_option maxRecDepth 100000 in
theorem ad8 (ao an : Option Addr) (O : List Int) (ah : List (List Int)) (co cn : Nat) (A : Nat → Option Addr) (C : Nat → Nat) (w : World) (hO : aV w ao O) (hN : dU w an A C ah) :
 Calls Tryd.prog 113 #[.agg #[.slice ao O.length co, .slice an ah.length cn]] w fun e w' => e = .returned (.bool (gW O ah)) ∧ Below w.heap.size w w' := by
 have vX := hO.alloc (.cells #[.slice ao O.length co, .slice an ah.length cn] 33)
 have hN1 := hN.alloc (.cells #[.slice ao O.length co, .slice an ah.length cn] 33)
 have CP := hO.len
 have YQ := hN.len
 clear hO hN
 have HO := Lib.hid vX
 have HN := Lib.hid hN1
 clear vX hN1
 by_cases h1 : O.length < 1
 · have HE : Hid (gW O ah = false) := CO fun h => by have := h.1; omega
   have HI := Lib.hid (xM (EU (x := O.length) (lo := 1) (hi := 256) (by omega)))
   go_enter Tryd.func113, Tryd.ntmps113
   go_wp2_with (go_at_call 79; refine (HI.out _).mono ?_; rintro e w' ⟨rfl, rfl⟩)
   go_ret
   exact ⟨dY HE.out.symm, aA _ _⟩
 · by_cases h2 : 256 < O.length
   · have HE : Hid (gW O ah = false) := CO fun h => by have := h.2.1; omega
     have HI := Lib.hid (xM (EU (x := O.length) (lo := 1) (hi := 256) (by omega)))
     go_enter Tryd.func113, Tryd.ntmps113
     go_wp2_with (go_at_call 79; refine (HI.out _).mono ?_; rintro e w' ⟨rfl, rfl⟩)
     go_ret
     exact ⟨dY HE.out.symm, aA _ _⟩
   · have HI := Lib.hid (xM (IV (x := O.length) (lo := 1) (hi := 256) (by omega) (by omega)))
     by_cases h3 : ah.length = O.length
     · have h3' : ((ah.length : Int) != (O.length : Int)) = false := by simp [h3]
       have HL := Lib.hid h3
       have h3a : ah.length ≤ O.length := by omega
       have h3b : O.length ≤ ah.length := by omega
       clear h3
       go_enter Tryd.func113, Tryd.ntmps113
       go_wp2_with (go_at_call 79; refine (HI.out _).mono ?_; rintro e w' ⟨rfl, rfl⟩)
       go_loopw [4] (fun i wr => ∃ k : Nat, k ≤ O.length ∧ i = .int .i64 k ∧ Hid (∀ j, j < k → zF O ah j) ∧ Hid (∃ q, wr = (w.alloc (.cells #[.slice ao O.length co, .slice an ah.length cn] 33)).drewN q)) (fun i _ => O.length - (intOf i).toNat)
       case atStart => exact ⟨0, Nat.zero_le _, rfl, fun j hj => absurd hj (Nat.not_lt_zero _), 0, rfl⟩
       case round =>
        obtain ⟨k, hk, rfl, HK, HW⟩ := hrel
        have hB : Hid (Below w.heap.size w wr) := EY (aA _ _) HW.out
        have hb0 : wr.cell? ⟨w.heap.size, 0, none⟩ = some (.slice ao O.length co) := by obtain ⟨q, hq⟩ := HW.out; rw [hq]; simp [World.cell?_alloc_at _ _ _ _ rfl]
        have hb1 : wr.cell? ⟨w.heap.size, 1, none⟩ = some (.slice an ah.length cn) := by obtain ⟨q, hq⟩ := HW.out; rw [hq]; simp [World.cell?_alloc_at _ _ _ _ rfl]
        by_cases hlt : k < O.length
        · obtain ⟨b, off, ha, hc⟩ := (HO.out.same HW.out).cell (by omega)
          subst ha
          have hck := hc k hlt
          clear hc
          obtain ⟨bn, ad1, hn, hcn⟩ := (HN.out.same HW.out).cell (by omega)
          subst hn
          have ad2 := hcn k (by omega)
          clear hcn
          by_cases h4 : nth O k = 0 ∨ nth O k = 1
          · have EZ := Lib.hid (xM (IV (x := nth O k) (lo := 0) (hi := 1) (by omega) (by omega)))
            have H4 := Lib.hid h4
            clear h4
            have hltz : k < ah.length := by omega
            have HR := Lib.hid ((HN.out.same HW.out).rows k hltz)
            have hlr := HR.out.len
            by_cases h5 : (row ah k).length < 1
            · have HE : Hid (gW O ah = false) := zG hlt fun h => by have := h.2.1; omega
              go_wp2_with (go_at_call 79; refine (EZ.out _).mono ?_; rintro e w' ⟨rfl, rfl⟩)
              go_ret
              exact ⟨dY HE.out.symm, hB.out⟩
            · by_cases h6 : 16 < (row ah k).length
              · have HE : Hid (gW O ah = false) := zG hlt fun h => by have := h.2.2.1; omega
                go_wp2_with (go_at_call 79; refine (EZ.out _).mono ?_; rintro e w' ⟨rfl, rfl⟩)
                go_ret
                exact ⟨dY HE.out.symm, hB.out⟩
              · by_cases h7 : iI O.length (row ah k) = true
                · have HV : Hid (∀ j, j < k + 1 → zF O ah j) := fun j hj => by
                   by_cases hj' : j < k
                   · exact HK.out j hj'
                   · obtain rfl : j = k := by omega
                     exact ⟨H4.out, by omega, by omega, h7⟩
                  have og := Lib.hid (YS h7 (C k) _ HR.out (n := O.length) (by omega) (by omega))
                  clear h7
                  go_wp2_with (first | (go_at_call 79; refine (EZ.out _).mono ?_; rintro e w' ⟨rfl, rfl⟩) | (go_at_call 141; refine og.out.mono ?_; rintro e w' ⟨rfl, IY⟩; have HX := Lib.hid (ad7 HW.out IY); clear IY))
                  go_roundw
                  case rel => exact ⟨k + 1, by omega, by go_num, HV, HX.out⟩
                  case measure => simp [intOf]; omega
                · have IW : iI O.length (row ah k) = false := by simpa using h7
                  have HE : Hid (gW O ah = false) := zG hlt fun h => h7 h.2.2.2
                  have og := Lib.hid (YS IW (C k) _ HR.out (n := O.length) (by omega) (by omega))
                  clear h7 IW
                  go_wp2_with (first | (go_at_call 79; refine (EZ.out _).mono ?_; rintro e w' ⟨rfl, rfl⟩) | (go_at_call 141; refine og.out.mono ?_; rintro e w' ⟨rfl, IY⟩; have HX := Lib.hid (EY hB.out IY); clear IY))
                  go_ret
                  exact ⟨dY HE.out.symm, HX.out⟩
          · have HE : Hid (gW O ah = false) := zG hlt fun h => h4 h.1
            have EZ := Lib.hid (xM (EU (x := nth O k) (lo := 0) (hi := 1) (by omega)))
            clear h4
            go_wp2_with (go_at_call 79; refine (EZ.out _).mono ?_; rintro e w' ⟨rfl, rfl⟩)
            go_ret
            exact ⟨dY HE.out.symm, hB.out⟩
        · have HE : Hid (gW O ah = true) := YN ⟨by omega, by omega, HL.out, fun j hj => HK.out j (by omega)⟩
          go_wp2
          go_ret
          exact ⟨dY HE.out.symm, hB.out⟩
     · have HE : Hid (gW O ah = false) := CO fun h => h3 h.2.2.1
       have h3' : ((ah.length : Int) != (O.length : Int)) = true := by simp; omega
       clear h3
       go_enter Tryd.func113, Tryd.ntmps113
       go_wp2_with (go_at_call 79; refine (HI.out _).mono ?_; rintro e w' ⟨rfl, rfl⟩)
       go_ret
       exact ⟨dY HE.out.symm, aA _ _⟩
theorem YT {w : World} {v : Value} {O : List Int} {ah : List (List Int)} {r : Bool} (hr : gW O ah = r) (h : gZ w v O ah) :
 Calls Tryd.prog 113 #[v] w fun e w' => e = .returned (.bool r) ∧ Below w.heap.size w w' := by
 obtain ⟨ao, an, co, cn, A, C, rfl, h1, h2⟩ := h
 subst hr
 exact ad8 ao an O ah co cn A C w h1 h2
theorem gZ.same {w w' : World} {v : Value} {O : List Int} {ah : List (List Int)} (h : gZ w v O ah) (k : ∃ q, w' = w.drewN q) : gZ w' v O ah := h.below (EY (Below.refl _ _) k)
end Go.Proofs.YtglbkbiphcgidaaDoor
namespace Go.Proofs.YtglbkbiphcgidaaDoor
section
open Go.RowKit
structure Only (S : Nat → Prop) (w w' : World) : Prop where
 os : w'.os = w.os
 tape : w'.tape = w.tape
 output : w'.output = w.output
 size : w.heap.size ≤ w'.heap.size
 block : ∀ k, k < w.heap.size → ¬ S k → w'.heap[k]? = w.heap[k]?
theorem Only.refl (S : Nat → Prop) (w : World) : Only S w w := ⟨rfl, rfl, rfl, Nat.le_refl _, fun _ _ _ => rfl⟩
theorem Only.trans {S : Nat → Prop} {a b c : World} (h : Only S a b) (k : Only S b c) : Only S a c :=
 ⟨k.os.trans h.os, k.tape.trans h.tape, k.output.trans h.output, Nat.le_trans h.size k.size, fun i hi hs => (k.block i (Nat.lt_of_lt_of_le hi h.size) hs).trans (h.block i hi hs)⟩
theorem Only.mono {S T : Nat → Prop} {w w' : World} (h : Only S w w') (hs : ∀ k, S k → T k) : Only T w w' :=
 ⟨h.os, h.tape, h.output, h.size, fun i hi ht => h.block i hi (fun hk => ht (hs i hk))⟩
theorem Only.of_below {S : Nat → Prop} {w w' : World} (h : Below w.heap.size w w') : Only S w w' := ⟨h.os, h.tape, h.output, h.size, fun i hi _ => h.block i hi⟩
theorem Only.setCell {S : Nat → Prop} {a w : World} (h : Only S a w) {p : Addr} (hp : S p.block) (u : Value) : Only S a (w.setCell p u) :=
 h.trans ⟨rfl, rfl, rfl, by simp [World.setCell], fun k _ hk => Below.heap_setCell _ _ _ _ (fun e => hk (by rw [e]; exact hp))⟩
theorem Only.below {S : Nat → Prop} {B : Nat} {w w' : World} (h : Only S w w') (hB : B ≤ w.heap.size) (hs : ∀ k, S k → B ≤ k) : Below B w w' :=
 ⟨h.os, h.tape, h.output, h.size, fun k hk => h.block k (by omega) (fun hS => by have := hs k hS; omega)⟩
structure aF (w : World) (B D : Nat) (v : Value) (zs : List Int) : Prop where
 own : w.ownsRow B 2 1 v zs.length (zs.map (Value.int .i64))
 top : ∀ g, v.ownBlock = some g → g < D
 len : zs.length ≤ 17592186044416
 fits : ∀ k, k < zs.length → Fits (nth zs k)
theorem aF.shape {w : World} {B D : Nat} {v : Value} {zs : List Int} (h : aF w B D v zs) :
 ∃ a cap, v = .slice a zs.length cap ∧ aV w a zs ∧ (0 < zs.length → ∃ g, a = some ⟨g, 0, none⟩ ∧ B ≤ g ∧ g < D ∧ v.ownBlock = some g ∧ ∀ k, w.frozen? ⟨g, k, none⟩ = false) := by
 have hown := h.own
 rcases h.own.2 with ⟨hv, h0⟩ | ⟨g, cap, cur, hv, hg, hh, hn, hm, hcs, htake⟩
 · rw [h0]
   refine ⟨none, 0, hv, ⟨h.len, h.fits, fun hp => absurd hp (by omega)⟩, fun hp => absurd hp (by omega)⟩
 · subst hv
   refine ⟨some ⟨g, 0, none⟩, cap, rfl, ⟨h.len, h.fits, fun _ => ⟨g, 0, rfl, fun k hk => ?_⟩⟩, fun _ => ⟨g, rfl, hg, h.top g rfl, rfl, fun k => hown.frozenAt k⟩⟩
   rw [Nat.zero_add, hown.cellAt k (by omega)]
   simp [nth, hk]
theorem kH {w w' : World} {S : Nat → Prop} {B : Nat} {e : TypeId} {size : Nat} {v : Value} {n : Nat} {xs : List Value} (h : w.ownsRow B e size v n xs) (hk : Only S w w') (hs : ∀ g, v.ownBlock = some g → ¬ S g) : w'.ownsRow B e size v n xs := by
 refine ⟨h.1, ?_⟩
 rcases h.2 with hn | ⟨g, cap, cur, rfl, hb, hgg, rest⟩
 · exact .inl hn
 · refine .inr ⟨g, cap, cur, rfl, hb, ?_, rest⟩
   rw [hk.block g (Array.getElem?_eq_some_iff.1 hgg).1 (hs g rfl)]
   exact hgg
theorem aF.only {w w' : World} {S : Nat → Prop} {B D : Nat} {v : Value} {zs : List Int} (h : aF w B D v zs) (hk : Only S w w') (hs : ∀ g, v.ownBlock = some g → ¬ S g) : aF w' B D v zs :=
 ⟨kH h.own hk hs, h.top, h.len, h.fits⟩
theorem aF.below {w w' : World} {B D : Nat} {v : Value} {zs : List Int} (h : aF w B D v zs) (hb : Below w.heap.size w w') : aF w' B D v zs :=
 h.only (S := fun _ => False) (Only.of_below hb) (fun _ _ h => h)
def addrOf : Value → Option Addr | .slice a _ _ => a | _ => none
def capOf : Value → Nat | .slice _ _ c => c | _ => 0
structure OwnRows (w : World) (B D : Nat) (v : Value) (V : Nat → Value) (ah : List (List Int)) : Prop where
 own : w.ownsRow B 22 1 v ah.length ((List.range ah.length).map V)
 top : ∀ g, v.ownBlock = some g → g < D
 len : ah.length ≤ 17592186044416
 rows : ∀ k, k < ah.length → aF w B D (V k) (row ah k)
 apart : ∀ i j, i < ah.length → j < ah.length → i ≠ j → ∀ g, (V i).ownBlock = some g → (V j).ownBlock ≠ some g
theorem OwnRows.shape {w : World} {B D : Nat} {v : Value} {V : Nat → Value} {ah : List (List Int)} (h : OwnRows w B D v V ah) :
 ∃ a cap, v = .slice a ah.length cap ∧ dU w a (fun k => addrOf (V k)) (fun k => capOf (V k)) ah ∧ (∀ k, k < ah.length → V k = .slice (addrOf (V k)) (row ah k).length (capOf (V k))) := by
 have hV : ∀ k, k < ah.length → V k = .slice (addrOf (V k)) (row ah k).length (capOf (V k)) ∧ aV w (addrOf (V k)) (row ah k) := fun k hk => by
  obtain ⟨a, cap, hv, hi, _⟩ := (h.rows k hk).shape
  rw [hv]; exact ⟨rfl, hi⟩
 have hown := h.own
 rcases h.own.2 with ⟨hv, h0⟩ | ⟨g, cap, cur, hv, hg, hh, hn, hm, hcs, htake⟩
 · refine ⟨none, 0, by rw [hv, h0], ⟨h.len, fun hp => absurd hp (by omega), fun k hk => absurd hk (by omega)⟩, fun k hk => (hV k hk).1⟩
 · subst hv
   refine ⟨some ⟨g, 0, none⟩, cap, rfl, ⟨h.len, fun _ => ⟨g, 0, rfl, fun k hk => ?_⟩, fun k hk => (hV k hk).2⟩, fun k hk => (hV k hk).1⟩
   rw [Nat.zero_add, hown.cellAt k (by omega)]
   rw [← (hV k hk).1]
   simp [hk]
theorem OwnRows.only {w w' : World} {S : Nat → Prop} {B D : Nat} {v : Value} {V : Nat → Value} {ah : List (List Int)} (h : OwnRows w B D v V ah) (hk : Only S w w') (hs : ∀ g, v.ownBlock = some g → ¬ S g)
 (hr : ∀ k, k < ah.length → ∀ g, (V k).ownBlock = some g → ¬ S g) : OwnRows w' B D v V ah :=
 ⟨kH h.own hk hs, h.top, h.len, fun k hk' => (h.rows k hk').only hk (hr k hk'), h.apart⟩
theorem OwnRows.below {w w' : World} {B D : Nat} {v : Value} {V : Nat → Value} {ah : List (List Int)} (h : OwnRows w B D v V ah) (hb : Below w.heap.size w w') : OwnRows w' B D v V ah :=
 h.only (S := fun _ => False) (Only.of_below hb) (fun _ _ h => h) (fun _ _ _ _ h => h)
theorem iV {w : World} {B : Nat} {v u : Value} {n m : Nat} {xs ys : List Value} (h : w.ownsRow B 22 1 v n xs) (k : w.ownsRow B 2 1 u m ys) : ∀ g, v.ownBlock = some g → u.ownBlock ≠ some g := by
 intro g hg hu
 rcases h.2 with ⟨rfl, _⟩ | ⟨g1, _, _, rfl, _, h1, _⟩
 · simp [Value.ownBlock] at hg
 · rcases k.2 with ⟨rfl, _⟩ | ⟨g2, _, _, rfl, _, h2, _⟩
   · simp [Value.ownBlock] at hu
   · simp [Value.ownBlock] at hg hu
     subst hg; subst hu
     rw [h1] at h2
     simp at h2
def jm (w : World) (B D : Nat) (v : Value) (O : List Int) (ah : List (List Int)) : Prop :=
 ∃ vo vn V, v = .agg #[vo, vn] ∧ aF w B D vo O ∧ OwnRows w B D vn V ah ∧ ∀ k, k < ah.length → ∀ g, (V k).ownBlock = some g → vo.ownBlock ≠ some g
theorem jm.at {w : World} {B D : Nat} {v : Value} {O : List Int} {ah : List (List Int)} (h : jm w B D v O ah) : gZ w v O ah := by
 obtain ⟨vo, vn, V, rfl, h1, h2, _⟩ := h
 obtain ⟨a, c, rfl, hi, _⟩ := h1.shape
 obtain ⟨a', c', rfl, hr, _⟩ := h2.shape
 exact ⟨_, _, _, _, _, _, rfl, hi, hr⟩
theorem jm.below {w w' : World} {B D : Nat} {v : Value} {O : List Int} {ah : List (List Int)} (h : jm w B D v O ah) (hb : Below w.heap.size w w') : jm w' B D v O ah := by
 obtain ⟨vo, vn, V, hv, h1, h2, h3⟩ := h
 exact ⟨vo, vn, V, hv, h1.below hb, h2.below hb, h3⟩
theorem jm.only {w w' : World} {S : Nat → Prop} {B D : Nat} {v : Value} {O : List Int} {ah : List (List Int)} (h : jm w B D v O ah) (hk : Only S w w') (hs : ∀ g, B ≤ g → g < D → ¬ S g) : jm w' B D v O ah := by
 obtain ⟨vo, vn, V, hv, h1, h2, h3⟩ := h
 refine ⟨vo, vn, V, hv, h1.only hk (fun g hg => hs g ?_ (h1.top g hg)), h2.only hk (fun g hg => hs g ?_ (h2.top g hg)) (fun k hk' g hg => hs g ?_ ((h2.rows k hk').top g hg)), h3⟩
 · exact (h1.own.lt g hg).1
 · exact (h2.own.lt g hg).1
 · exact ((h2.rows k hk').own.lt g hg).1
theorem L9 {w : World} {B b n : Nat} {t : TypeId} {f : Nat → Value} (h : w.rowIs b t n f) (hB : B ≤ b) (hn : n ≤ maxLen) : w.ownsRow B t 1 (.slice (some ⟨b, 0, none⟩) n n) n ((List.range n).map f) := by
 obtain ⟨c, hh, hs, hc⟩ := h
 refine ⟨by simp, .inr ⟨b, n, c, rfl, hB, hh, Nat.le_refl _, hn, by omega, ?_⟩⟩
 apply List.ext_getElem?
 intro i
 by_cases hi : i < n
 · have := hc i hi
   simp [hi, this]
 · simp [List.getElem?_take, hi]
theorem ad9 (zs : List Int) : (List.range zs.length).map (fun i => Value.int .i64 (nth zs i)) = zs.map (Value.int .i64) := by
 apply List.ext_getElem?
 intro i
 by_cases hi : i < zs.length
 · simp [hi, jl hi]
 · simp [hi]
theorem aF.xN {w : World} {B D b : Nat} {zs : List Int} (h : w.rowIs b 2 zs.length (fun i => .int .i64 (nth zs i))) (hB : B ≤ b) (hD : b < D) (hl : zs.length ≤ 17592186044416) (hf : ∀ k, k < zs.length → Fits (nth zs k)) :
 aF w B D (.slice (some ⟨b, 0, none⟩) zs.length zs.length) zs := by
 refine ⟨?_, fun g hg => by simp [Value.ownBlock] at hg; omega, hl, hf⟩
 rw [← ad9]
 exact L9 h hB (by unfold maxLen; omega)
end
section
open Go.RowKit
theorem qH : (Tryd.prog.info? 2).map (fun i => (i.zero, i.size, i.bytes)) = some (some (.int .i64 0), 1, 8) := by kernel_rfl
theorem YU : (Tryd.prog.info? 22).map (fun i => (i.zero, i.size, i.bytes)) = some (some (.slice none 0 0), 1, 24) := by kernel_rfl
def part (zs : List Int) (k : Nat) : Nat → Value := fun i => if i < k then .int .i64 (nth zs i) else .int .i64 0
theorem aea {w : World} {g n k : Nat} {t : TypeId} {zs : List Int} (h : w.rowIs g t n (part zs k)) : (w.setCell ⟨g, k, none⟩ (.int .i64 (nth zs k))).rowIs g t n (part zs (k + 1)) := by
 refine (h.set k _).congr fun i _ => ?_
 simp only [part]
 by_cases e : i = k
 · subst e; simp
 · rw [if_neg e]
   by_cases hlt : i < k
   · rw [if_pos hlt, if_pos (by omega)]
   · rw [if_neg hlt, if_neg (by omega)]
set_option maxHeartbeats 1000000 in
theorem QO (a : Option Addr) (zs : List Int) (cap : Nat) (w : World) (h : aV w a zs) :
 Calls Tryd.prog 16 #[.slice a zs.length cap] w fun e w' => e = .returned (.slice (some ⟨w.heap.size, 0, none⟩) zs.length zs.length) ∧
  w'.rowIs w.heap.size 2 zs.length (fun i => .int .i64 (nth zs i)) ∧ w'.heap.size = w.heap.size + 1 ∧ Below w.heap.size w w' := by
 obtain ⟨hlen, _, hcell⟩ := h
 have hmk := run_make_row' (P := Tryd.prog) 22 2 (.int .i64 0) 8 Tryd.underlying22 qH rfl .i64 .i64 zs.length (by omega) (by omega)
 have HC := Lib.hid hcell
 clear hcell
 go_enter Tryd.func16, Tryd.ntmps16
 go_wp2
 go_loopw [4] (fun i wr => ∃ k : Nat, k ≤ zs.length ∧ i = .int .i64 k ∧ Hid (wr.rowIs w.heap.size 2 zs.length (part zs k)) ∧ Hid (wr.heap.size = w.heap.size + 1) ∧ Hid (Below w.heap.size w wr)) (fun i _ => zs.length - (intOf i).toNat)
 case atStart => exact ⟨0, Nat.zero_le _, rfl, (World.rowIs_made _ _ _ _).congr (fun i _ => by simp [part]), by simp [Hid], aA _ _⟩
 case round =>
  clear hmk
  obtain ⟨k, hk, rfl, HR, HS, HB⟩ := hrel
  by_cases hlt : k < zs.length
  · obtain ⟨b, off, ha, hc⟩ := HC.out (by omega)
    subst ha
    have hck := Below.CJ (B := 0) HB.out rfl (hc k hlt)
    have hcs := HR.out.cell hlt
    have hcf := HR.out.frozen k
    clear hc
    go_wp2
    go_roundw
    case rel => exact ⟨k + 1, by omega, by go_num, aea HR.out, by simp [Hid]; exact HS.out, HB.out.setCell (Nat.le_refl _) _⟩
    case measure => simp [intOf]; omega
  · have HE : Hid (wr.rowIs w.heap.size 2 zs.length (fun i => .int .i64 (nth zs i))) := HR.out.congr fun i hi => by simp only [part]; rw [if_pos (by omega)]
    go_wp2
    go_ret
    exact ⟨rfl, HE.out, HS.out, HB.out⟩
def outer (N : Nat) (ah : List (List Int)) (k : Nat) : Nat → Value := fun j => if j < k then .slice (some ⟨N + 1 + j, 0, none⟩) (row ah j).length (row ah j).length else .slice none 0 0
structure E8 (w wr : World) (N : Nat) (ah : List (List Int)) (k : Nat) : Prop where
 below : Below w.heap.size w wr
 size : wr.heap.size = N + 1 + k
 top : wr.rowIs N 22 ah.length (outer N ah k)
 done : ∀ j, j < k → wr.rowIs (N + 1 + j) 2 (row ah j).length (fun i => .int .i64 (nth (row ah j) i))
theorem bY {w w' : World} {g n : Nat} {t : TypeId} {f : Nat → Value} (h : w.rowIs g t n f) (hb : Below w.heap.size w w') : w'.rowIs g t n f := h.of_block (hb.block g h.lt)
theorem E8.step {w wr w1 : World} {N k : Nat} {ah : List (List Int)} (h : E8 w wr N ah k) (hN : w.heap.size ≤ N) (hb : Below wr.heap.size wr w1) (hs : w1.heap.size = wr.heap.size + 1)
 (hr : w1.rowIs wr.heap.size 2 (row ah k).length (fun i => .int .i64 (nth (row ah k) i))) :
 E8 w (w1.setCell ⟨N, k, none⟩ (.slice (some ⟨wr.heap.size, 0, none⟩) (row ah k).length (row ah k).length)) N ah (k + 1) := by
 refine ⟨(h.below.trans (hb.mono h.below.size)).setCell hN _, by simp [hs, h.size]; omega, ((bY h.top hb).set k _).congr fun j _ => ?_, fun j hj => ?_⟩
 · simp only [outer]
   by_cases e : j = k
   · subst e; simp [h.size]
   · rw [if_neg e]
     by_cases hlt : j < k
     · rw [if_pos hlt, if_pos (by omega)]
     · rw [if_neg hlt, if_neg (by omega)]
 · by_cases e : j = k
   · subst e
     have := hr.setOther (a := ⟨N, j, none⟩) (by rw [h.size]; show N + 1 + j ≠ N; omega) (.slice (some ⟨wr.heap.size, 0, none⟩) (row ah j).length (row ah j).length)
     rw [h.size] at this ⊢
     exact this
   · exact (bY (h.done j (by omega)) hb).setOther (by show N + 1 + j ≠ N; omega) _
set_option maxHeartbeats 1000000 in
theorem aeb (a : Option Addr) (A : Nat → Option Addr) (C : Nat → Nat) (ah : List (List Int)) (cap : Nat) (w : World) (h : dU w a A C ah) (hn : ah.length ≤ 1048576) :
 Calls Tryd.prog 36 #[.slice a ah.length cap] w fun e w' => e = .returned (.slice (some ⟨w.heap.size, 0, none⟩) ah.length ah.length) ∧ E8 w w' w.heap.size ah ah.length := by
 have hmk := run_make_row' (P := Tryd.prog) 23 22 (.slice none 0 0) 24 Tryd.underlying23 YU rfl .i64 .i64 ah.length (by omega) (by omega)
 have HC := Lib.hid h
 clear h
 go_enter Tryd.func36, Tryd.ntmps36
 go_wp2
 go_loopw [4] (fun i wr => ∃ k : Nat, k ≤ ah.length ∧ i = .int .i64 k ∧ Hid (E8 w wr w.heap.size ah k)) (fun i _ => ah.length - (intOf i).toNat)
 case atStart => exact ⟨0, Nat.zero_le _, rfl, aA _ _, by simp, (World.rowIs_made _ _ _ _).congr (fun i _ => by simp [outer]), fun j hj => absurd hj (Nat.not_lt_zero _)⟩
 case round =>
  clear hmk
  obtain ⟨k, hk, rfl, HR⟩ := hrel
  by_cases hlt : k < ah.length
  · have og := Lib.hid (HC.out.below (HR.out.below))
    obtain ⟨b, off, ha, hc⟩ := og.out.cell (by omega)
    subst ha
    have hck := hc k hlt
    clear hc
    have HT := Lib.hid (QO (A k) (row ah k) (C k) wr (og.out.rows k hlt))
    have HF : Hid (∀ w1, Below wr.heap.size wr w1 → w1.cell? ⟨w.heap.size, k, none⟩ = some (outer w.heap.size ah k k) ∧ w1.frozen? ⟨w.heap.size, k, none⟩ = false) := fun w1 hb => by
     have := bY HR.out.top hb
     exact ⟨this.cell hlt, this.frozen k⟩
    go_wp2_with (go_at_call 16; refine HT.out.mono ?_; rintro e w1 ⟨rfl, h1, h2, h3⟩; obtain ⟨hf1, hf2⟩ := HF.out w1 h3; have HS := Lib.hid (HR.out.step (Nat.le_refl _) h3 h2 h1); clear h1 h2 h3)
    go_roundw
    case rel => exact ⟨k + 1, by omega, by go_num, HS.out⟩
    case measure => simp [intOf]; omega
  · have hkk : k = ah.length := by omega
    have HE : Hid (E8 w wr w.heap.size ah ah.length) := by rw [← hkk]; exact HR.out
    clear hkk
    go_wp2
    go_ret
    exact ⟨rfl, HE.out⟩
structure xO (w w' : World) (O : List Int) (ah : List (List Int)) : Prop where
 below : Below w.heap.size w w'
 size : w'.heap.size = w.heap.size + 5 + ah.length
 owner : w'.rowIs (w.heap.size + 3) 2 O.length (fun i => .int .i64 (nth O i))
 top : w'.rowIs (w.heap.size + 4) 22 ah.length (outer (w.heap.size + 4) ah ah.length)
 done : ∀ j, j < ah.length → w'.rowIs (w.heap.size + 4 + 1 + j) 2 (row ah j).length (fun i => .int .i64 (nth (row ah j) i))
theorem xO.ints {w w' w0 : World} {a : Option Addr} {O : List Int} {ah : List (List Int)} (h : xO w w' O ah) (hO : aV w0 a O) : aV w' (some ⟨w.heap.size + 3, 0, none⟩) O :=
 ⟨hO.len, hO.fits, fun _ => ⟨_, _, rfl, fun k hk => by rw [Nat.zero_add]; exact h.owner.cell hk⟩⟩
theorem xO.rows {w w' w0 : World} {a : Option Addr} {A : Nat → Option Addr} {C : Nat → Nat} {O : List Int} {ah : List (List Int)} (h : xO w w' O ah) (hN : dU w0 a A C ah) :
 dU w' (some ⟨w.heap.size + 4, 0, none⟩) (fun j => some ⟨w.heap.size + 4 + 1 + j, 0, none⟩) (fun j => (row ah j).length) ah :=
 ⟨hN.len, fun _ => ⟨_, _, rfl, fun k hk => by rw [Nat.zero_add, h.top.cell hk]; simp only [outer]; rw [if_pos hk]⟩,
  fun k hk => ⟨(hN.rows k hk).len, (hN.rows k hk).fits, fun _ => ⟨_, _, rfl, fun i hi => by rw [Nat.zero_add]; exact (h.done k hk).cell hi⟩⟩⟩
set_option maxHeartbeats 1000000 in
theorem aec (ao an : Option Addr) (O : List Int) (ah : List (List Int)) (co cn : Nat) (A : Nat → Option Addr) (C : Nat → Nat) (w : World) (hO : aV w ao O) (hN : dU w an A C ah) (hn : ah.length ≤ 1048576) :
 Calls Tryd.prog 56 #[.agg #[.slice ao O.length co, .slice an ah.length cn]] w fun e w' =>
  e = .returned (.agg #[.slice (some ⟨w.heap.size + 3, 0, none⟩) O.length O.length, .slice (some ⟨w.heap.size + 4, 0, none⟩) ah.length ah.length]) ∧ xO w w' O ah := by
 have HO := Lib.hid hO
 have HN := Lib.hid hN
 clear hO hN
 go_enter Tryd.func56, Tryd.ntmps56
 go_wp2_with fail
 refine (QO ao O co _ (((HO.out.alloc _).alloc _).alloc _)).mono ?_
 rintro e w1 ⟨rfl, h1, h2, h3⟩
 have hs1 : w1.heap.size = w.heap.size + 4 := by simp at h2; omega
 have cO := Lib.hid hs1
 have b0 := Lib.hid ((((aI.new w 25 (.slice ao O.length co) (.slice an ah.length cn)).alloc _).alloc _).below h3)
 have b1 := Lib.hid (((aI.xJ (g := w.heap.size + 1) (by simp) 33 (.slice none 0 0) (.slice none 0 0)).alloc _).below h3)
 have b2 := Lib.hid ((aI.xJ (g := w.heap.size + 1 + 1) (by simp) 33 (.slice none 0 0) (.slice none 0 0)).below h3)
 have hB1 : Hid (Below w.heap.size w w1) := ((below2 w _ _).alloc (by simp; omega) _).trans (h3.mono (by simp; omega))
 have hR1 : Hid (w1.rowIs (w.heap.size + 3) 2 O.length (fun i => .int .i64 (nth O i))) := by simpa [Hid] using h1
 have c00 := b0.out.cell0
 have c01 := b0.out.cell1
 have c20 := b2.out.cell0
 have f20 := b2.out.frozen 0
 have hlt0 : w.heap.size ≠ w.heap.size + 1 + 1 := by omega
 clear h1 h2 h3 hs1
 go_wp2_with fail
 have hB4 : Hid (Below w.heap.size w (w1.setCell ⟨w.heap.size + 1 + 1, 0, none⟩ (.slice (some ⟨w.heap.size + 1 + 1 + 1, 0, none⟩) O.length O.length))) := hB1.out.setCell (by show w.heap.size ≤ w.heap.size + 1 + 1; omega) _
 refine (aeb an A C ah cn _ (HN.out.below hB4.out) hn).mono ?_
 rintro e w2 ⟨rfl, h1⟩
 have b0' := Lib.hid ((b0.out.other (a := ⟨w.heap.size + 1 + 1, 0, none⟩) (by show w.heap.size ≠ w.heap.size + 1 + 1; omega) _).below h1.below)
 have b1' := Lib.hid ((b1.out.other (a := ⟨w.heap.size + 1 + 1, 0, none⟩) (by show w.heap.size + 1 ≠ w.heap.size + 1 + 1; omega) _).below h1.below)
 have b2' := Lib.hid ((b2.out.set0 (.slice (some ⟨w.heap.size + 1 + 1 + 1, 0, none⟩) O.length O.length)).below h1.below)
 have hB2 : Hid (Below w.heap.size w w2) := hB4.out.trans (h1.below.mono hB4.out.size)
 have hR2 : Hid (w2.rowIs (w.heap.size + 3) 2 O.length (fun i => .int .i64 (nth O i))) := bY (hR1.out.setOther (a := ⟨w.heap.size + 1 + 1, 0, none⟩) (by show w.heap.size + 3 ≠ w.heap.size + 1 + 1; omega) _) h1.below
 have HC := Lib.hid h1
 have hsz : Hid ((w1.setCell ⟨w.heap.size + 1 + 1, 0, none⟩ (.slice (some ⟨w.heap.size + 1 + 1 + 1, 0, none⟩) O.length O.length)).heap.size = w.heap.size + 4) := by simp [Hid]; exact cO.out
 rw [hsz.out] at HC ⊢
 clear h1 c00 c01 c20 f20 hlt0
 have c20 := b2'.out.cell0
 have c21 := b2'.out.cell1
 have f21 := b2'.out.frozen 1
 have c10 := b1'.out.cell0
 have c11 := b1'.out.cell1
 have f10 := b1'.out.frozen 0
 have f11 := b1'.out.frozen 1
 go_wp2_with fail
 have YV := Lib.hid (((b1'.out.other (a := ⟨w.heap.size + 1 + 1, 1, none⟩) (by show w.heap.size + 1 ≠ w.heap.size + 1 + 1; omega) (.slice (some ⟨w.heap.size + 4, 0, none⟩) ah.length ah.length)).set0 (.slice (some ⟨w.heap.size + 1 + 1 + 1, 0, none⟩) O.length O.length)).set1 (.slice (some ⟨w.heap.size + 4, 0, none⟩) ah.length ah.length))
 have d0 := YV.out.cell0
 have d1 := YV.out.cell1
 have hfin : Hid (xO w (((w2.setCell ⟨w.heap.size + 1 + 1, 1, none⟩ (.slice (some ⟨w.heap.size + 4, 0, none⟩) ah.length ah.length)).setCell ⟨w.heap.size + 1, 0, none⟩ (.slice (some ⟨w.heap.size + 1 + 1 + 1, 0, none⟩) O.length O.length)).setCell
  ⟨w.heap.size + 1, 1, none⟩ (.slice (some ⟨w.heap.size + 4, 0, none⟩) ah.length ah.length)) O ah) := by
  have hh := HC.out
  refine ⟨((hB2.out.setCell (by show w.heap.size ≤ w.heap.size + 1 + 1; omega) _).setCell (by show w.heap.size ≤ w.heap.size + 1; omega) _).setCell (by show w.heap.size ≤ w.heap.size + 1; omega) _, by simp [hh.size], ?_, ?_, fun j hj => ?_⟩
  · exact ((hR2.out.setOther (by show w.heap.size + 3 ≠ w.heap.size + 1 + 1; omega) _).setOther (by show w.heap.size + 3 ≠ w.heap.size + 1; omega) _).setOther (by show w.heap.size + 3 ≠ w.heap.size + 1; omega) _
  · exact ((hh.top.setOther (by show w.heap.size + 4 ≠ w.heap.size + 1 + 1; omega) _).setOther (by show w.heap.size + 4 ≠ w.heap.size + 1; omega) _).setOther (by show w.heap.size + 4 ≠ w.heap.size + 1; omega) _
  · exact (((hh.done j hj).setOther (by show w.heap.size + 4 + 1 + j ≠ w.heap.size + 1 + 1; omega) _).setOther (by show w.heap.size + 4 + 1 + j ≠ w.heap.size + 1; omega) _).setOther (by show w.heap.size + 4 + 1 + j ≠ w.heap.size + 1; omega) _
 exact bodyPost_ret (v := .agg #[.slice (some ⟨w.heap.size + 1 + 1 + 1, 0, none⟩) O.length O.length, .slice (some ⟨w.heap.size + 4, 0, none⟩) ah.length ah.length]) (by simp [results, Tryd.results56, go_sem, c10, c11]) rfl ⟨rfl, hfin.out⟩
theorem aed {w : World} {v : Value} {O : List Int} {ah : List (List Int)} (h : gZ w v O ah) (hn : ah.length ≤ 1048576) :
 Calls Tryd.prog 56 #[v] w fun e w' =>
  e = .returned (.agg #[.slice (some ⟨w.heap.size + 3, 0, none⟩) O.length O.length, .slice (some ⟨w.heap.size + 4, 0, none⟩) ah.length ah.length]) ∧ xO w w' O ah ∧
  gZ w' (.agg #[.slice (some ⟨w.heap.size + 3, 0, none⟩) O.length O.length, .slice (some ⟨w.heap.size + 4, 0, none⟩) ah.length ah.length]) O ah := by
 obtain ⟨ao, an, co, cn, A, C, rfl, h1, h2⟩ := h
 refine (aec ao an O ah co cn A C w h1 h2 hn).mono fun e w' ⟨he, hc⟩ => ⟨he, hc, ?_⟩
 exact ⟨_, _, _, _, _, _, rfl, hc.ints h1, hc.rows h2⟩
end
section
open Go.RowKit
set_option maxHeartbeats 400000 in
theorem aee {a : Option Addr} {zs : List Int} {x i : Int} (hr : idx zs x = i) (cap : Nat) (w : World) (h : aV w a zs) :
 Calls Tryd.prog 123 #[.slice a zs.length cap, .int .i64 x] w fun e w' => e = .returned (.int .i64 i) ∧ w = w' := by
 obtain ⟨hlen, _, hcell⟩ := h
 have HR := Lib.hid hr
 have HC := Lib.hid hcell
 clear hcell hr
 go_enter Tryd.func123, Tryd.ntmps123
 go_wp2
 go_loop [8] (fun i => ∃ k : Nat, k ≤ zs.length ∧ i = .int .i64 k ∧ Hid (∀ j, j < k → nth zs j ≠ x)) (fun i => zs.length - (intOf i).toNat)
 case atStart => exact ⟨0, Nat.zero_le _, rfl, fun j hj => absurd hj (Nat.not_lt_zero _)⟩
 case round =>
  obtain ⟨k, hk, rfl, HK⟩ := hrel
  by_cases hlt : k < zs.length
  · obtain ⟨b, off, ha, hc⟩ := HC.out (by omega)
    subst ha
    have hck := hc k hlt
    clear hc
    by_cases he : x = nth zs k
    · have HE : Hid ((k : Int) = i) := by rw [← HR.out]; exact (adW hlt he.symm HK.out).symm
      have he' : (x == nth zs k) = true := by simp [he]
      clear he
      go_wp2
      go_ret
      exact ⟨kG HE.out, rfl⟩
    · have HE : Hid (∀ j, j < k + 1 → nth zs j ≠ x) := fun j hj => by
       by_cases hj' : j < k
       · exact HK.out j hj'
       · obtain rfl : j = k := by omega
         exact fun e => he e.symm
      have he' : (x == nth zs k) = false := by simp [he]
      clear he
      go_wp2
      go_round
      case rel => exact ⟨k + 1, by omega, by go_num, HE⟩
      case measure => simp [intOf]; omega
  · have HE : Hid (i = -1) := by rw [← HR.out]; exact adX fun j hj => HK.out j (by omega)
    go_wp2
    go_ret
    exact ⟨kG HE.out.symm, rfl⟩
theorem aef (zs : List Int) (x : Int) : decide (0 ≤ idx zs x) = hasB zs x := by
 unfold idx hasB
 by_cases h : x ∈ zs
 · rw [if_pos h]; simp [h]
 · rw [if_neg h]; simp [h]
set_option maxHeartbeats 400000 in
theorem aeg {a : Option Addr} {zs : List Int} {x : Int} {r : Bool} (hr : hasB zs x = r) (cap : Nat) (w : World) (h : aV w a zs) :
 Calls Tryd.prog 137 #[.slice a zs.length cap, .int .i64 x] w fun e w' => e = .returned (.bool r) ∧ w = w' := by
 obtain ⟨i, hi⟩ : ∃ i, idx zs x = i := ⟨_, rfl⟩
 have HE : Hid (decide (0 ≤ i) = r) := by rw [← hr, ← aef, hi]; rfl
 have HC := Lib.hid (aee hi cap w h)
 clear hr hi h
 go_enter Tryd.func137, Tryd.ntmps137
 go_wp2_with (go_at_call 123; refine HC.out.mono ?_; rintro e w' ⟨rfl, rfl⟩)
 go_ret
 exact ⟨dY HE.out, rfl⟩
set_option maxHeartbeats 1000000 in
theorem YW {w : World} {va : Value} {O : List Int} {ah : List (List Int)} {v : Nat} {u : Int} {r : Bool} (hr : hasB (row ah v) u = r) (hv : v < ah.length) (h : gZ w va O ah) :
 Calls Tryd.prog 107 #[va, .int .i64 v, .int .i64 u] w fun e w' => e = .returned (.bool r) ∧ Below w.heap.size w w' := by
 obtain ⟨ao, an, co, cn, A, C, rfl, h1, h2⟩ := h
 have YQ := h2.len
 have hv0 : (0 : Int) ≤ (v : Int) := by omega
 have hv1 : (v : Int) < ah.length := by omega
 have B1 := Lib.hid (aA w (.cells #[.slice ao O.length co, .slice an ah.length cn] 33))
 have b1 := aI.new w 33 (.slice ao O.length co) (.slice an ah.length cn)
 have c1 := b1.cell1
 have N1 := Lib.hid (h2.below B1.out)
 obtain ⟨b, off, ha, hc⟩ := N1.out.cell (by omega)
 subst ha
 have hck := hc v hv
 have HH := Lib.hid (aeg hr (C v) _ (N1.out.rows v hv))
 clear hr h1 h2 hc b1
 go_enter Tryd.func107, Tryd.ntmps107
 go_wp2_with (go_at_call 137; refine HH.out.mono ?_; rintro e w' ⟨rfl, rfl⟩)
 go_ret
 exact ⟨rfl, B1.out⟩
end
section
section
open Go.RowKit
theorem aF.mk' {w : World} {B : Nat} {v : Value} {zs : List Int} (h : w.ownsRow B 2 1 v zs.length (zs.map (Value.int .i64))) (hl : zs.length ≤ 17592186044416) (hf : ∀ k, k < zs.length → Fits (nth zs k)) : aF w B w.heap.size v zs :=
 ⟨h, fun g hg => (h.lt g hg).2, hl, hf⟩
theorem ownsRow_base {w : World} {B B' : Nat} {e : TypeId} {size : Nat} {v : Value} {n : Nat} {xs : List Value} (h : w.ownsRow B e size v n xs) (hB : B' ≤ B) : w.ownsRow B' e size v n xs := by
 refine ⟨h.1, ?_⟩
 rcases h.2 with hn | ⟨g, cap, cur, hv, hb, r⟩
 · exact .inl hn
 · exact .inr ⟨g, cap, cur, hv, by omega, r⟩
theorem aF.nil (w : World) (B D : Nat) : aF w B D (.slice none 0 0) [] :=
 ⟨World.ownsRow_nil _ _ _ _, fun g hg => by simp [Value.ownBlock] at hg, by simp, fun k hk => absurd hk (by simp)⟩
def sS (w : World) (zs : List Int) (e : Ending) (w' : World) : Prop :=
 ∃ v, e = .returned v ∧ aF w' w.heap.size w'.heap.size v zs ∧ Below w.heap.size w w'
def dN (ah : List (List Int)) (u : Int) : Nat → List Int
 | 0 => []
 | k + 1 => dN ah u k ++ if hasB (row ah k) u then [(k : Int)] else []
theorem QS (ah : List (List Int)) (u : Int) (k : Nat) : (dN ah u k).length ≤ k := by
 induction k with
 | zero => simp [dN]
 | succ k ih => simp only [dN]; split <;> simp <;> omega
theorem QT (ah : List (List Int)) (u : Int) (k : Nat) : ∀ x ∈ dN ah u k, 0 ≤ x ∧ x < k := by
 induction k with
 | zero => simp [dN]
 | succ k ih =>
   intro x hx
   simp only [dN, List.mem_append] at hx
   rcases hx with hx | hx
   · have := ih x hx; omega
   · split at hx
     · simp at hx; omega
     · simp at hx
theorem jo {zs : List Int} {k : Nat} (h : k < zs.length) : nth zs k ∈ zs := by rw [jl h]; exact List.getElem_mem _
end
section
open Go.RowKit
def rowsOf (n : Nat) (R : Nat → List Int) : List (List Int) := (List.range n).map R
theorem oV (n : Nat) (R : Nat → List Int) : (rowsOf n R).length = n := by simp [rowsOf]
theorem vY {n u : Nat} {R : Nat → List Int} (h : u < n) : row (rowsOf n R) u = R u := by simp [row, rowsOf, h]
structure fU (w : World) (B g n : Nat) (V : Nat → Value) (R : Nat → List Int) : Prop where
 own : w.ownsRow B 22 1 (.slice (some ⟨g, 0, none⟩) n n) n ((List.range n).map V)
 rows : ∀ k, k < n → aF w B w.heap.size (V k) (R k)
 apart : ∀ i j, i < n → j < n → i ≠ j → ∀ b, (V i).ownBlock = some b → (V j).ownBlock ≠ some b
theorem aF.bg {w : World} {B D : Nat} {v : Value} {zs : List Int} (h : aF w B D v zs) : aF w B w.heap.size v zs := ⟨h.own, fun g hg => (h.own.lt g hg).2, h.len, h.fits⟩
theorem fU.put {w w1 : World} {B g n u : Nat} {V : Nat → Value} {R : Nat → List Int} (h : fU w B g n V R) (hu : u < n) {v' : Value} {zs' : List Int} (h1 : aF w1 B w1.heap.size v' zs') (hg : Only (fun b => (V u).ownBlock = some b) w w1)
 (hw : v'.ownBlock = (V u).ownBlock ∨ ∃ X, v'.ownBlock = some X ∧ w.heap.size ≤ X) : fU (w1.setCell ⟨g, u, none⟩ v') B g n (fun i => if i = u then v' else V i) (fun i => if i = u then zs' else R i) := by
 have ho := kH h.own hg (iV h.own (h.rows u hu).own)
 obtain ⟨hs, hgr⟩ := ho.stored u v'
 have hS : Only (fun b => b = g) w1 (w1.setCell ⟨g, u, none⟩ v') := Only.setCell (S := fun b => b = g) (Only.refl _ _) (p := ⟨g, u, none⟩) rfl v'
 refine ⟨?_, fun k hk => ?_, fun i j hi hj hne b hb hb' => ?_⟩
 · have e : ((List.range n).map V).set u v' = (List.range n).map (fun i => if i = u then v' else V i) := by
    apply List.ext_getElem?
    intro i
    by_cases hi : i < n
    · by_cases e : i = u
      · subst e; simp [hi]
      · simp [hi, e, Ne.symm e]
    · simp [hi]
   rw [← e]; exact hs
 · by_cases e : k = u
   · subst e
     simp only [if_true]
     exact (h1.only hS (fun b hb e => iV ho h1.own b (by simp [Value.ownBlock, e]) hb)).bg
   · simp only [if_neg e]
     have hr := (h.rows k hk).only hg (h.apart k u hk hu e)
     exact (hr.only hS (fun b hb e => iV ho hr.own b (by simp [Value.ownBlock, e]) hb)).bg
 · have hlt : ∀ k, k < n → ∀ b, (V k).ownBlock = some b → b < w.heap.size := fun k hk b hb => ((h.rows k hk).own.lt b hb).2
   by_cases e : i = u
   · subst e
     simp only [if_true] at hb
     simp only [if_neg (Ne.symm hne)] at hb'
     rcases hw with hw | ⟨X, hX, hge⟩
     · rw [hw] at hb; exact h.apart i j hi hj hne b hb hb'
     · rw [hX] at hb; have := hlt j hj b hb'; simp at hb; omega
   · simp only [if_neg e] at hb
     by_cases e' : j = u
     · subst e'
       simp only [if_true] at hb'
       rcases hw with hw | ⟨X, hX, hge⟩
       · rw [hw] at hb'; exact h.apart i j hi hj hne b hb hb'
       · rw [hX] at hb'; have := hlt i hi b hb; simp at hb'; omega
     · simp only [if_neg e'] at hb'
       exact h.apart i j hi hj hne b hb hb'
theorem fU.congr {w : World} {B g n : Nat} {V : Nat → Value} {R R' : Nat → List Int} (h : fU w B g n V R) (e : ∀ u, u < n → R u = R' u) : fU w B g n V R' :=
 ⟨h.own, fun k hk => by rw [← e k hk]; exact h.rows k hk, h.apart⟩
theorem fU.below {w w' : World} {B g n : Nat} {V : Nat → Value} {R : Nat → List Int} (h : fU w B g n V R) (hb : Below w.heap.size w w') : fU w' B g n V R :=
 ⟨kH h.own (S := fun _ => False) (Only.of_below hb) (fun _ _ h => h), fun k hk => ((h.rows k hk).below hb).bg, h.apart⟩
theorem fU.start (w : World) {B g : Nat} (hg : g = w.heap.size) (hB : B ≤ w.heap.size) (n : Nat) (hn : n ≤ maxLen) : fU (w.alloc (.cells (madeCells #[.slice none 0 0] n) 22)) B g n (fun _ => .slice none 0 0) (fun _ => []) := by
 subst hg
 exact ⟨L9 (World.rowIs_made w (.slice none 0 0) n 22) hB hn, fun k _ => aF.nil _ _ _, fun i j _ _ _ b hb => by simp [Value.ownBlock] at hb⟩
theorem fU.shape {w : World} {B g n u : Nat} {V : Nat → Value} {R : Nat → List Int} (h : fU w B g n V R) (hu : u < n) : V u = .slice (addrOf (V u)) (R u).length (capOf (V u)) ∧ w.cell? ⟨g, u, none⟩ = some (.slice (addrOf (V u)) (R u).length (capOf (V u))) ∧ w.frozen? ⟨g, u, none⟩ = false := by
 obtain ⟨a, cap, hv, _, _⟩ := (h.rows u hu).shape
 have e : V u = .slice (addrOf (V u)) (R u).length (capOf (V u)) := by rw [hv]; rfl
 refine ⟨e, ?_, h.own.frozenAt u⟩
 rw [h.own.cellAt u (by omega), ← e]
 simp [hu]
theorem YX (n : Int) : ∀ (zs : List Int) (l : Int), jE n l zs = true → ∀ k, k < zs.length → l < nth zs k ∧ nth zs k < n ∧ ∀ j, j < k → nth zs j < nth zs k
 | [], _, _, k, hk => absurd hk (by simp)
 | z :: r, l, h, k, hk => by
   simp only [jE, Bool.and_eq_true, decide_eq_true_eq] at h
   have ih := YX n r z h.2
   cases k with
   | zero => exact ⟨by simpa [nth] using h.1.1, by simpa [nth] using h.1.2, fun j hj => absurd hj (Nat.not_lt_zero _)⟩
   | succ k =>
     have hk' : k < r.length := by simpa using hk
     have := ih k hk'
     have e : nth (z :: r) (k + 1) = nth r k := by simp [nth]
     rw [e]
     refine ⟨by omega, this.2.1, fun j hj => ?_⟩
     cases j with
     | zero => have : nth (z :: r) 0 = z := by simp [nth]
               omega
     | succ j => have e' : nth (z :: r) (j + 1) = nth r j := by simp [nth]
                 rw [e']; exact this.2.2 j (by omega)
theorem MB {n : Int} {zs : List Int} (h : iI n zs = true) {k : Nat} (hk : k < zs.length) : 0 ≤ nth zs k ∧ nth zs k < n ∧ ∀ j, j < k → nth zs j < nth zs k := by
 have := YX n zs (-1) h k hk
 exact ⟨by omega, this.2.1, this.2.2⟩
def gG (ah : List (List Int)) (v i u : Nat) : List Int := dN ah u v ++ if ∃ j, j < i ∧ nth (row ah v) j = (u : Int) then [(v : Int)] else []
theorem aeh (ah : List (List Int)) (v u : Nat) : gG ah v 0 u = dN ah u v := by simp [gG]
theorem aei (ah : List (List Int)) (v u : Nat) : gG ah v (row ah v).length u = dN ah u (v + 1) := by
 simp only [gG, dN]
 congr 1
 by_cases h : hasB (row ah v) u = true
 · rw [if_pos h, if_pos (rF.1 (xK.1 h))]
 · rw [if_neg h, if_neg (fun hh => h (xK.2 (rF.2 hh)))]
theorem YZ {ah : List (List Int)} {v i u : Nat} (hi : nth (row ah v) i = (u : Int)) (hj : ∀ j, j < i → nth (row ah v) j < nth (row ah v) i) : gG ah v (i + 1) u = gG ah v i u ++ [(v : Int)] ∧ gG ah v i u = dN ah u v := by
 have h1 : ¬ ∃ j, j < i ∧ nth (row ah v) j = (u : Int) := fun ⟨j, h, e⟩ => by have := hj j h; omega
 have h2 : ∃ j, j < i + 1 ∧ nth (row ah v) j = (u : Int) := ⟨i, by omega, hi⟩
 simp only [gG]
 rw [if_neg h1, if_pos h2]
 simp
theorem aej {ah : List (List Int)} {v i u u' : Nat} (hi : nth (row ah v) i = (u : Int)) (hne : u' ≠ u) : gG ah v (i + 1) u' = gG ah v i u' := by
 simp only [gG]
 congr 1
 by_cases h : ∃ j, j < i ∧ nth (row ah v) j = (u' : Int)
 · obtain ⟨j, h1, h2⟩ := h
   rw [if_pos ⟨j, by omega, h2⟩, if_pos ⟨j, h1, h2⟩]
 · rw [if_neg (c := ∃ j, j < i ∧ nth (row ah v) j = (u' : Int)) h, if_neg]
   rintro ⟨j, h1, h2⟩
   by_cases e : j = i
   · subst e; omega
   · exact h ⟨j, by omega, h2⟩
set_option maxHeartbeats 400000 in
theorem rG (ao an : Option Addr) (n m co cn : Nat) (w : World) (_hn : n ≤ 17592186044416) :
 Calls Tryd.prog 63 #[.agg #[.slice ao n co, .slice an m cn]] w fun e w' => e = .returned (.int .i64 n) ∧ w.alloc (.cells #[.slice ao n co, .slice an m cn] 33) = w' := by
 go_enter Tryd.func63, Tryd.ntmps63
 go_wp2
 go_ret
 exact ⟨rfl, rfl⟩
end
end
section
open Go.RowKit
theorem aek {P : Program} {w : World} {ops : Array Oper} {rest : List Oper} {o : Oper} {a : Act} {Q : Exit → Act → World → Prop} (hgd : o.guard = none) (s x : Operand) (t : TypeId)
 (ho : o.op = .call { callee := .builtin .append, args := #[s, x], argTypes := #[t, t] })
 (base : Nat) (e : TypeId) (i : TypeInfo) (size : Nat) (ht : P.underlying t = some (.slice e)) (hi : P.info? e = some i)
 (v : Value) (n : Nat) (xs : List Value) (hs : a.eval s = v) (hown : w.ownsRow base e size v n xs) (c : Nat) (hx : a.eval x = .slice none 0 c)
 (h : wpList P ops Q rest (a.put o.dst v) w) : wpList P ops Q (o :: rest) a w := by
 refine wpList_plain hgd fun K hK => ?_
 have hrun : (Builtin.append_ #[t, t] o.type #[v, .slice none 0 c]).run P w = .ok v w := by
  rcases hown.2 with ⟨rfl, rfl⟩ | ⟨g, cap, cur, rfl, _, _, hnc, _⟩
  · simp [Builtin.append_, run_underlying ht, sizeOf, typeInfo, hi, Builtin.lenOf, Builtin.firstCells]
  · simp [Builtin.append_, run_underlying ht, sizeOf, typeInfo, hi, Builtin.lenOf, Builtin.firstCells, hnc, storeCells]
 unfold Oper.wp
 simp [execOp, ho, resolve, invoke, builtin, hs, hx, hrun, Result.andThen]
 exact hK _ _ h
theorem Y0 {w : World} {ad : Addr} {zs : List Int} (h : aV w (some ad) zs) : ∀ j u, (zs.map (Value.int .i64))[j]? = some u → w.cell? (ad.add j) = some u := by
 intro j u hu
 have hj : j < zs.length := by
  rcases Nat.lt_or_ge j zs.length with h | h
  · exact h
  · simp [h] at hu
 obtain ⟨b, off, ha, hc⟩ := h.cell (by omega)
 cases ha
 rw [Go.WideShapes.add_plain, hc j hj]
 simp [hj] at hu
 rw [← hu, jl hj]
theorem Y1 (zs : List Int) : ∀ u ∈ zs.map (Value.int .i64), u.oneCell' = true := by
 intro u hu
 obtain ⟨z, _, rfl⟩ := List.mem_map.1 hu
 rfl
set_option maxHeartbeats 1000000 in
theorem IZ {w : World} {a : Option Addr} {zs : List Int} (cap : Nat) (h : aV w a zs) :
 Calls Tryd.prog 120 #[.slice a zs.length cap] w (sS w zs) := by
 obtain ⟨i0, hi, hz0, hz1, hz2⟩ := info_parts qH
 have hlen := h.len
 have HF := Lib.hid h.fits
 have oW : Hid ((w.alloc (.cells #[] 2)).ownsRow w.heap.size 2 1 (.slice (some ⟨w.heap.size, 0, none⟩) 0 0) 0 []) := World.ownsRow_made w #[] 0 (Nat.le_refl _) (by unfold maxLen; omega) rfl
 have hI := Lib.hid (h.alloc (.cells #[] 2))
 clear h
 cases a with
 | none =>
   have hz : zs = [] := List.length_eq_zero_iff.1 (by
    rcases Nat.eq_zero_or_pos zs.length with h | h
    · exact h
    · obtain ⟨b, off, ha, _⟩ := hI.out.cell h; cases ha)
   subst hz
   go_enter Tryd.func120, Tryd.ntmps120
   go_wp2_with (at_builtin; refine aek rfl _ _ 22 rfl w.heap.size 2 i0 1 Tryd.underlying22 hi _ _ _ rfl oW.out _ rfl ?_)
   go_ret
   exact ⟨_, rfl, aF.mk' oW.out (by simp) (fun k hk => absurd hk (by simp)), aA _ _⟩
 | some ad =>
   go_enter Tryd.func120, Tryd.ntmps120
   go_wp2_with (at_builtin; refine wpList_append_own _ rfl _ _ 22 rfl w.heap.size 2 i0 (.int .i64 0) 1 8 Tryd.underlying22 hi hz0 hz1 hz2 rfl (by decide) _ _ _ rfl oW.out ad zs.length cap (zs.map (Value.int .i64)) rfl (by simp) (Y0 hI.out) (Y1 zs) ?c3 ?c4 ?c5 ?_)
   case c3 => unfold maxLen; omega
   case c4 => omega
   case c5 => simp
   · intro v' w1 hown hgrow _
     have hfin : Hid (aF w1 w.heap.size w1.heap.size v' zs ∧ Below w.heap.size w w1) := by
      exact ⟨aF.mk' (by simpa using hown) hlen HF.out, (aA w _).grown hgrow (by simp) (fun k hk => by simp [Value.ownBlock] at hk; omega)⟩
     clear hown hgrow
     go_wp2
     go_ret
     exact ⟨_, rfl, hfin.out⟩
set_option maxHeartbeats 1000000 in
set_option maxRecDepth 10000 in
theorem MC {w : World} {a : Option Addr} {zs : List Int} (cap : Nat) (h : aV w a zs) :
 Calls Tryd.prog 60 #[.slice a zs.length cap] w (sS w zs) := by
 obtain ⟨i0, hi, hz0, hz1, hz2⟩ := info_parts qH
 have hlen := h.len
 have HF := Lib.hid h.fits
 have oW : Hid ((w.alloc (.cells #[] 2)).ownsRow w.heap.size 2 1 (.slice (some ⟨w.heap.size, 0, none⟩) 0 0) 0 []) := World.ownsRow_made w #[] 0 (Nat.le_refl _) (by unfold maxLen; omega) rfl
 have hI := Lib.hid (h.alloc (.cells #[] 2))
 clear h
 cases a with
 | none =>
   have hz : zs = [] := List.length_eq_zero_iff.1 (by
    rcases Nat.eq_zero_or_pos zs.length with h | h
    · exact h
    · obtain ⟨b, off, ha, _⟩ := hI.out.cell h; cases ha)
   subst hz
   have hq : ∀ wx, (binOp .eql 22 (.slice none 0 cap) (.slice none 0 0)).run Tryd.prog wx = .ok (.bool true) wx := fun wx => Lib.run_eql_slice_nil wx 22 2 none 0 cap 0 0 Tryd.underlying22
   go_enter Tryd.func60, Tryd.ntmps60
   go_wp2
   go_ret
   exact ⟨_, rfl, aF.nil _ _ _, Below.refl _ _⟩
 | some ad =>
   have hq : ∀ wx, (binOp .eql 22 (.slice (some ad) zs.length cap) (.slice none 0 0)).run Tryd.prog wx = .ok (.bool false) wx := fun wx => Lib.run_eql_slice_nil wx 22 2 (some ad) zs.length cap 0 0 Tryd.underlying22
   go_enter Tryd.func60, Tryd.ntmps60
   go_wp2_with (at_builtin; refine wpList_append_own _ rfl _ _ 22 rfl w.heap.size 2 i0 (.int .i64 0) 1 8 Tryd.underlying22 hi hz0 hz1 hz2 rfl (by decide) _ _ _ rfl oW.out ad zs.length cap (zs.map (Value.int .i64)) rfl (by simp) (Y0 hI.out) (Y1 zs) ?c3 ?c4 ?c5 ?_)
   case c3 => unfold maxLen; omega
   case c4 => omega
   case c5 => simp
   · intro v' w1 hown hgrow _
     have hfin : Hid (aF w1 w.heap.size w1.heap.size v' zs ∧ Below w.heap.size w w1) := by
      exact ⟨aF.mk' (by simpa using hown) hlen HF.out, (aA w _).grown hgrow (by simp) (fun k hk => by simp [Value.ownBlock] at hk; omega)⟩
     clear hown hgrow
     go_wp2
     go_ret
     exact ⟨_, rfl, hfin.out⟩
end
section
open Go.RowKit
def leftOf (left : Int) (n : Nat) : Int := if left < n then -1 else left - n
theorem sU {left : Int} {n : Nat} (h : left < n) : leftOf left n = -1 := by simp [leftOf, h]
theorem zH {left : Int} {n : Nat} (h : (n : Int) ≤ left) : leftOf left n = left - n := by unfold leftOf; rw [if_neg (by omega)]
def fD (ah : List (List Int)) : Nat → Nat
 | 0 => 0
 | k + 1 => fD ah k + (row ah k).length
theorem Y2 (ah : List (List Int)) {j k : Nat} (h : j ≤ k) : fD ah j ≤ fD ah k := by
 induction k with
 | zero => obtain rfl : j = 0 := by omega
           exact Nat.le_refl _
 | succ k ih =>
   by_cases e : j = k + 1
   · subst e; exact Nat.le_refl _
   · have := ih (by omega); simp only [fD]; omega
set_option maxHeartbeats 400000 in
theorem QU (a : Option Addr) (n : Nat) (cap : Nat) (left : Int) (w : World) (_hn : n ≤ 17592186044416) (_h0 : -1048576 ≤ left) (_h1 : left ≤ 1048576) :
 Calls Tryd.prog 50 #[.slice a n cap, .int .i64 left] w fun e w' => e = .returned (.int .i64 (leftOf left n)) ∧ w = w' := by
 by_cases h : left < n
 · have HE := Lib.hid (sU h)
   go_enter Tryd.func50, Tryd.ntmps50
   go_wp2
   go_ret
   exact ⟨kG HE.out.symm, rfl⟩
 · have HE := Lib.hid (zH (left := left) (n := n) (by omega))
   go_enter Tryd.func50, Tryd.ntmps50
   go_wp2
   go_ret
   exact ⟨kG HE.out.symm, rfl⟩
theorem Y4 {a : Option Addr} {n : Nat} {left : Int} (h : left < n) (cap : Nat) (w : World) (hn : n ≤ 17592186044416) (h0 : -1048576 ≤ left) (h1 : left ≤ 1048576) :
 Calls Tryd.prog 50 #[.slice a n cap, .int .i64 left] w fun e w' => e = .returned (.int .i64 (-1)) ∧ w = w' := by
 have := QU a n cap left w hn h0 h1
 rw [sU h] at this; exact this
theorem Y5 {a : Option Addr} {n : Nat} {left : Int} (h : (n : Int) ≤ left) (cap : Nat) (w : World) (hn : n ≤ 17592186044416) (h0 : -1048576 ≤ left) (h1 : left ≤ 1048576) :
 Calls Tryd.prog 50 #[.slice a n cap, .int .i64 left] w fun e w' => e = .returned (.int .i64 (left - n)) ∧ w = w' := by
 have := QU a n cap left w hn h0 h1
 rw [zH h] at this; exact this
set_option maxHeartbeats 1000000 in
theorem Y6 (a : Option Addr) (A : Nat → Option Addr) (C : Nat → Nat) (ah : List (List Int)) (cap : Nat) (left : Int) (w : World) (h : dU w a A C ah) (_h0 : 0 ≤ left) (_h1 : left ≤ 1048576) :
 Calls Tryd.prog 34 #[.slice a ah.length cap, .int .i64 left] w fun e w' => e = .returned (.int .i64 (leftOf left (ah.length + fD ah ah.length))) ∧ w = w' := by
 have hlen := h.len
 have HR := Lib.hid h
 clear h
 by_cases hlt : left < ah.length
 · have HE := Lib.hid (sU (left := left) (n := ah.length + fD ah ah.length) (by omega))
   go_enter Tryd.func34, Tryd.ntmps34
   go_wp2
   go_ret
   exact ⟨kG HE.out.symm, rfl⟩
 · go_enter Tryd.func34, Tryd.ntmps34
   go_wp2
   go_loop [1, 5] (fun l i => ∃ (k : Nat) (x : Int), k ≤ ah.length ∧ i = .int .i64 k ∧ l = .int .i64 x ∧ 0 ≤ x ∧ x ≤ 1048576 ∧ Hid (x = left - ah.length - fD ah k)) (fun _ i => ah.length - (intOf i).toNat)
   case atStart => exact ⟨0, _, Nat.zero_le _, rfl, rfl, by omega, by omega, by simp [Hid, fD]⟩
   case round =>
    obtain ⟨k, x, hk, rfl, rfl, hx0, hx1, HX⟩ := hrel
    by_cases hkl : k < ah.length
    · obtain ⟨b, off, ha, hc⟩ := HR.out.cell (by omega)
      subst ha
      have hck := hc k hkl
      clear hc
      have hrl := (HR.out.rows k hkl).len
      by_cases hfit : ((row ah k).length : Int) ≤ x
      · have HC := Lib.hid (Y5 (a := A k) hfit (C k) w hrl (by omega) (by omega))
        have HX' : Hid (x - (row ah k).length = left - ah.length - fD ah (k + 1)) := by have := HX.out; simp only [Hid, fD]; omega
        go_wp2_with (go_at_call 50; refine HC.out.mono ?_; rintro e w' ⟨rfl, rfl⟩)
        go_round
        case rel => exact ⟨k + 1, _, by omega, by go_num, rfl, by omega, by omega, HX'⟩
        case measure => simp [intOf]; omega
      · have HC := Lib.hid (Y4 (a := A k) (left := x) (n := (row ah k).length) (by omega) (C k) w hrl (by omega) (by omega))
        have HE : Hid (leftOf left (ah.length + fD ah ah.length) = -1) := sU (by
         have h1 := Y2 ah (show k + 1 ≤ ah.length by omega)
         have h2 := HX.out
         simp only [fD] at h1
         omega)
        go_wp2_with (go_at_call 50; refine HC.out.mono ?_; rintro e w' ⟨rfl, rfl⟩)
        go_ret
        exact ⟨kG HE.out.symm, rfl⟩
    · have HE : Hid (x = leftOf left (ah.length + fD ah ah.length)) := by
       have h2 := HX.out
       obtain rfl : k = ah.length := by omega
       rw [zH (by omega)]; simp only [Hid]; omega
      go_wp2
      go_ret
      exact ⟨kG HE.out, rfl⟩
theorem ael {a : Option Addr} {A : Nat → Option Addr} {C : Nat → Nat} {ah : List (List Int)} {left : Int} (hlt : left < ((ah.length + fD ah ah.length : Nat) : Int)) (cap : Nat) (w : World) (h : dU w a A C ah) (h0 : 0 ≤ left) (h1 : left ≤ 1048576) :
 Calls Tryd.prog 34 #[.slice a ah.length cap, .int .i64 left] w fun e w' => e = .returned (.int .i64 (-1)) ∧ w = w' := by
 have := Y6 a A C ah cap left w h h0 h1
 rw [sU hlt] at this; exact this
theorem aem {a : Option Addr} {A : Nat → Option Addr} {C : Nat → Nat} {ah : List (List Int)} {left : Int} (hle : ((ah.length + fD ah ah.length : Nat) : Int) ≤ left) (cap : Nat) (w : World) (h : dU w a A C ah) (h0 : 0 ≤ left) (h1 : left ≤ 1048576) :
 Calls Tryd.prog 34 #[.slice a ah.length cap, .int .i64 left] w fun e w' => e = .returned (.int .i64 (left - (ah.length + fD ah ah.length : Nat))) ∧ w = w' := by
 have := Y6 a A C ah cap left w h h0 h1
 rw [zH hle] at this; exact this
def jq (O : List Int) (ah : List (List Int)) : Nat := O.length + (ah.length + fD ah ah.length)
set_option maxHeartbeats 1000000 in
theorem aen (ao an : Option Addr) (O : List Int) (ah : List (List Int)) (co cn : Nat) (A : Nat → Option Addr) (C : Nat → Nat) (left : Int) (w : World) (hO : aV w ao O) (hN : dU w an A C ah) (_h0 : 0 ≤ left) (_h1 : left ≤ 1048576) :
 Calls Tryd.prog 49 #[.agg #[.slice ao O.length co, .slice an ah.length cn], .int .i64 left] w fun e w' => e = .returned (.int .i64 (leftOf left (jq O ah))) ∧ Below w.heap.size w w' := by
 have CP := hO.len
 have HN := Lib.hid hN
 clear hO hN
 by_cases h1 : left < O.length
 · have HC := Lib.hid (Y4 (a := ao) h1 co (w.alloc (.cells #[.slice ao O.length co, .slice an ah.length cn] 25)) CP (by omega) (by omega))
   have HE : Hid (leftOf left (jq O ah) = -1) := sU (by unfold jq; omega)
   go_enter Tryd.func49, Tryd.ntmps49
   go_wp2_with (go_at_call 50; refine HC.out.mono ?_; rintro e w' ⟨rfl, rfl⟩)
   go_ret
   exact ⟨kG HE.out.symm, aA _ _⟩
 · have HC := Lib.hid (Y5 (a := ao) (left := left) (n := O.length) (by omega) co (w.alloc (.cells #[.slice ao O.length co, .slice an ah.length cn] 25)) CP (by omega) (by omega))
   have hx0 : 0 ≤ left - O.length := by omega
   have hx1 : left - O.length ≤ 1048576 := by omega
   by_cases h2 : left - O.length < ((ah.length + fD ah ah.length : Nat) : Int)
   · have og := Lib.hid (ael h2 cn (w.alloc (.cells #[.slice ao O.length co, .slice an ah.length cn] 25)) (HN.out.alloc _) hx0 hx1)
     have HE : Hid (leftOf left (jq O ah) = -1) := sU (by unfold jq; omega)
     clear h2
     go_enter Tryd.func49, Tryd.ntmps49
     go_wp2_with (first | (go_at_call 50; refine HC.out.mono ?_; rintro e w' ⟨rfl, rfl⟩) | (go_at_call 34; refine og.out.mono ?_; rintro e w' ⟨rfl, rfl⟩))
     go_ret
     exact ⟨kG HE.out.symm, aA _ _⟩
   · have og := Lib.hid (aem (left := left - O.length) (ah := ah) (by omega) cn (w.alloc (.cells #[.slice ao O.length co, .slice an ah.length cn] 25)) (HN.out.alloc _) hx0 hx1)
     have HE : Hid (left - O.length - ((ah.length + fD ah ah.length : Nat) : Int) = leftOf left (jq O ah)) := by
      rw [zH (by unfold jq; omega)]; unfold jq Hid; omega
     obtain ⟨m, hm⟩ : ∃ m, m = left - O.length - ((ah.length + fD ah ah.length : Nat) : Int) := ⟨_, rfl⟩
     have hm0 : 0 ≤ m := by omega
     rw [← hm] at og HE
     clear h2 hm
     go_enter Tryd.func49, Tryd.ntmps49
     go_wp2_with (first | (go_at_call 50; refine HC.out.mono ?_; rintro e w' ⟨rfl, rfl⟩) | (go_at_call 34; refine og.out.mono ?_; rintro e w' ⟨rfl, rfl⟩))
     go_ret
     exact ⟨kG HE.out, aA _ _⟩
theorem aeo {w : World} {v : Value} {O : List Int} {ah : List (List Int)} {left r : Int} (hr : leftOf left (jq O ah) = r) (h : gZ w v O ah) (h0 : 0 ≤ left) (h1 : left ≤ 1048576) :
 Calls Tryd.prog 49 #[v, .int .i64 left] w fun e w' => e = .returned (.int .i64 r) ∧ Below w.heap.size w w' := by
 obtain ⟨ao, an, co, cn, A, C, rfl, h2, h3⟩ := h
 subst hr
 exact aen ao an O ah co cn A C left w h2 h3 h0 h1
end
section
open Go.RowKit
theorem xO.owned {w w' w0 : World} {v : Value} {O : List Int} {ah : List (List Int)} (h : xO w w' O ah) (hA : gZ w0 v O ah) :
 jm w' w.heap.size w'.heap.size (.agg #[.slice (some ⟨w.heap.size + 3, 0, none⟩) O.length O.length, .slice (some ⟨w.heap.size + 4, 0, none⟩) ah.length ah.length]) O ah := by
 obtain ⟨ao, an, co, cn, A, C, _, hO, hN⟩ := hA
 have hs := h.size
 refine ⟨_, _, outer (w.heap.size + 4) ah ah.length, rfl, aF.xN h.owner (by omega) (by omega) hO.len hO.fits, ⟨L9 h.top (by omega) (by have := hN.len; unfold maxLen; omega), fun g hg => by simp [Value.ownBlock] at hg; omega, hN.len, fun k hk => ?_, fun i j hi hj hne g hg hg' => ?_⟩, fun k hk g hg hg' => ?_⟩
 · have e : outer (w.heap.size + 4) ah ah.length k = .slice (some ⟨w.heap.size + 4 + 1 + k, 0, none⟩) (row ah k).length (row ah k).length := by simp only [outer]; rw [if_pos hk]
   rw [e]
   exact aF.xN (h.done k hk) (by omega) (by omega) (hN.rows k hk).len (hN.rows k hk).fits
 · simp only [outer] at hg hg'
   rw [if_pos hi] at hg
   rw [if_pos hj] at hg'
   simp [Value.ownBlock] at hg hg'
   omega
 · simp only [outer] at hg
   rw [if_pos hk] at hg
   simp [Value.ownBlock] at hg hg'
   omega
def marks (k : Int) (n : Nat) : List Int := (List.range n).map fun i : Nat => k + (i : Int)
theorem vZ (k : Int) (n : Nat) : (marks k n).length = n := by simp [marks]
theorem Y7 {k : Int} {n i : Nat} (h : i < n) : nth (marks k n) i = k + i := by simp [nth, marks, h]
theorem aep {xs ys : List Int} (hl : xs.length = ys.length) (h : ∀ i, i < xs.length → nth xs i = nth ys i) : xs = ys := by
 apply List.ext_getElem hl
 intro i h1 h2
 have := h i h1
 rwa [jl h1, jl h2] at this
theorem QV {zs : List Int} {j i : Nat} {x : Int} (hj : j < zs.length) : nth (zs.set j x) i = if i = j then x else nth zs i := by
 unfold nth
 simp only [List.getD, List.getElem?_set]
 by_cases e : j = i
 · subst e; simp [hj]
 · rw [if_neg e, if_neg (fun h => e h.symm)]
theorem aF.store {w : World} {B D g n cap : Nat} {zs : List Int} (h : aF w B D (.slice (some ⟨g, 0, none⟩) n cap) zs) (hn : n = zs.length) {j : Nat} (_hj : j < zs.length) {x : Int} (hx : Fits x) :
 aF (w.setCell ⟨g, j, none⟩ (.int .i64 x)) B D (.slice (some ⟨g, 0, none⟩) n cap) (zs.set j x) := by
 subst hn
 have ho := h.own
 obtain ⟨h1, _⟩ := ho.stored j (.int .i64 x)
 refine ⟨?_, h.top, by simpa using h.len, fun k hk => ?_⟩
 · rw [← List.map_set] at h1
   simpa using h1
 · rw [QV _hj]
   split
   · exact hx
   · exact h.fits k (by simpa using hk)
set_option maxHeartbeats 1000000 in
theorem E9 {w : World} {B D : Nat} {v : Value} {zs : List Int} (h : aF w B D v zs) (k : Int) (_h0 : 0 ≤ k) (_h1 : k ≤ 1152921504606846976) :
 Calls Tryd.prog 22 #[v, .int .i64 k] w fun e w' => e = .returned (.int .i64 (k + zs.length)) ∧ aF w' B D v (marks k zs.length) ∧ Only (fun b => v.ownBlock = some b) w w' := by
 obtain ⟨a, cap, hv, hI, hg⟩ := h.shape
 have hlen := h.len
 have HG := Lib.hid hg
 have HH : Hid (∃ zs', zs'.length = zs.length ∧ aF w B D v zs' ∧ ∀ i, i < 0 → nth zs' i = k + i) := ⟨zs, rfl, h, fun i hi => absurd hi (Nat.not_lt_zero _)⟩
 have HV := Lib.hid hv
 clear h hI hg
 rw [hv]
 rw [hv] at HH HG
 have HO : Hid (Only (fun b => (Value.slice a zs.length cap).ownBlock = some b) w w) := Only.refl _ _
 clear hv
 go_enter Tryd.func22, Tryd.ntmps22
 go_wp2
 go_loopw [1, 5] (fun x i wr => ∃ j : Nat, j ≤ zs.length ∧ i = .int .i64 j ∧ x = .int .i64 (k + j) ∧ Hid (∃ zs', zs'.length = zs.length ∧ aF wr B D (.slice a zs.length cap) zs' ∧ ∀ i, i < j → nth zs' i = k + i) ∧ Hid (Only (fun b => (Value.slice a zs.length cap).ownBlock = some b) w wr))
  (fun _ i _ => zs.length - (intOf i).toNat)
 case atStart => exact ⟨0, Nat.zero_le _, rfl, by simp, HH, HO⟩
 case round =>
  clear HH HO
  obtain ⟨j, hj, rfl, rfl, HH, HO⟩ := hrel
  by_cases hlt : j < zs.length
  · obtain ⟨g, ha, hgB, MH, hgo, hfr⟩ := HG.out (by omega)
    subst ha
    have hHn : Hid (∃ zs', zs'.length = zs.length ∧ aF (wr.setCell ⟨g, j, none⟩ (.int .i64 (k + j))) B D (.slice (some ⟨g, 0, none⟩) zs.length cap) zs' ∧ ∀ i, i < j + 1 → nth zs' i = k + i) := by
     obtain ⟨zs', hl, ho, hm⟩ := HH.out
     refine ⟨zs'.set j (k + j), by simpa using hl, ho.store hl.symm (by omega) (by unfold Fits; omega), fun i hi => ?_⟩
     rw [QV (by omega)]
     by_cases e : i = j
     · subst e; simp
     · rw [if_neg e]; exact hm i (by omega)
    have wB : Hid (Only (fun b => (Value.slice (some ⟨g, 0, none⟩) zs.length cap).ownBlock = some b) w (wr.setCell ⟨g, j, none⟩ (.int .i64 (k + j)))) := HO.out.setCell (by simp [Value.ownBlock]) _
    obtain ⟨c, hc⟩ : ∃ c, wr.cell? ⟨g, j, none⟩ = some c := by
     obtain ⟨zs', hl, ho, hm⟩ := HH.out
     have ho' := ho.own
     rw [hl] at ho'
     exact ⟨_, (ho'.cellAt j (by omega)).trans (by simp [hl, hlt]; rfl)⟩
    have hf : wr.frozen? ⟨g, j, none⟩ = false := by
     obtain ⟨zs', hl, ho, hm⟩ := HH.out
     have ho' := ho.own
     rw [hl] at ho'
     exact ho'.frozenAt j
    clear hgo hfr
    go_wp2
    go_roundw
    case rel => exact ⟨j + 1, by omega, by go_num, by go_num, hHn, wB⟩
    case measure => simp [intOf]; omega
  · have hjj : j = zs.length := by omega
    have HE : Hid (aF wr B D (.slice a zs.length cap) (marks k zs.length)) := by
     obtain ⟨zs', hl, ho, hm⟩ := HH.out
     have : zs' = marks k zs.length := aep (by rw [hl, vZ]) fun i hi => by rw [hm i (by omega), Y7 (by omega)]
     rw [← this]; exact ho
    have HX : Hid (k + (j : Int) = k + (zs.length : Int)) := by rw [hjj]; rfl
    clear hjj
    go_wp2
    go_ret
    exact ⟨kG HX.out, HE.out, HO.out⟩
set_option maxHeartbeats 400000 in
theorem aer {w : World} {a : Option Addr} {zs : List Int} (k : Int) (cap : Nat) (h : aV w a (marks k zs.length)) (_h0 : 0 ≤ k) (_h1 : k ≤ 1152921504606846976) :
 Calls Tryd.prog 33 #[.slice a zs.length cap, .int .i64 k] w fun e w' => e = .returned (.int .i64 (k + zs.length)) ∧ w = w' := by
 have hlen := h.len
 rw [vZ] at hlen
 have HC := Lib.hid h.cell
 clear h
 go_enter Tryd.func33, Tryd.ntmps33
 go_wp2
 go_loop [1, 5] (fun x i => ∃ j : Nat, j ≤ zs.length ∧ i = .int .i64 j ∧ x = .int .i64 (k + j)) (fun _ i => zs.length - (intOf i).toNat)
 case atStart => exact ⟨0, Nat.zero_le _, rfl, by simp⟩
 case round =>
  obtain ⟨j, hj, rfl, rfl⟩ := hrel
  by_cases hlt : j < zs.length
  · obtain ⟨b, off, ha, hc⟩ := HC.out (by rw [vZ]; omega)
    subst ha
    have hck := hc j (by rw [vZ]; exact hlt)
    rw [Y7 hlt] at hck
    clear hc
    have hn : (k + (j : Int) != k + (j : Int)) = false := by simp
    go_wp2
    go_round
    case rel => exact ⟨j + 1, by omega, by go_num, by go_num⟩
    case measure => simp [intOf]; omega
  · have HX : Hid (k + (j : Int) = k + (zs.length : Int)) := by have : j = zs.length := by omega
                                                                rw [this]; rfl
    go_wp2
    go_ret
    exact ⟨kG HX.out, rfl⟩
def wC (k : Int) (ah : List (List Int)) : List (List Int) := (List.range ah.length).map fun j : Nat => marks (k + (fD ah j : Int)) (row ah j).length
theorem CS (k : Int) (ah : List (List Int)) : (wC k ah).length = ah.length := by simp [wC]
theorem aes {k : Int} {ah : List (List Int)} {j : Nat} (h : j < ah.length) : row (wC k ah) j = marks (k + (fD ah j : Int)) (row ah j).length := by simp [row, wC, h]
structure Half (w wr : World) (B D : Nat) (v : Value) (V : Nat → Value) (ah : List (List Int)) (k : Int) (j : Nat) : Prop where
 own : wr.ownsRow B 22 1 v ah.length ((List.range ah.length).map V)
 done : ∀ i, i < j → i < ah.length → aF wr B D (V i) (marks (k + (fD ah i : Int)) (row ah i).length)
 todo : ∀ i, j ≤ i → i < ah.length → aF wr B D (V i) (row ah i)
 only : Only (fun b => ∃ i, i < ah.length ∧ (V i).ownBlock = some b) w wr
theorem Half.step {w wr w1 : World} {B D : Nat} {v : Value} {V : Nat → Value} {ah : List (List Int)} {k : Int} {j : Nat} (h : Half w wr B D v V ah k j) (hj : j < ah.length)
 (ap : ∀ i j, i < ah.length → j < ah.length → i ≠ j → ∀ g, (V i).ownBlock = some g → (V j).ownBlock ≠ some g)
 (h1 : aF w1 B D (V j) (marks (k + (fD ah j : Int)) (row ah j).length)) (h2 : Only (fun b => (V j).ownBlock = some b) wr w1) : Half w w1 B D v V ah k (j + 1) := by
 refine ⟨kH h.own h2 (iV h.own (h.todo j (Nat.le_refl _) hj).own), fun i hi hin => ?_, fun i hi hin => (h.todo i (by omega) hin).only h2 (ap i j hin hj (by omega)), h.only.trans (h2.mono fun b hb => ⟨j, hj, hb⟩)⟩
 by_cases e : i = j
 · subst e; exact h1
 · exact (h.done i (by omega) hin).only h2 (ap i j hin hj e)
set_option maxHeartbeats 1000000 in
theorem aet {w : World} {B D : Nat} {v : Value} {V : Nat → Value} {ah : List (List Int)} (h : OwnRows w B D v V ah) (k : Int) (_h0 : 0 ≤ k) (_h1 : k ≤ 1099511627776) (_h2 : fD ah ah.length ≤ 1099511627776) :
 Calls Tryd.prog 43 #[v, .int .i64 k] w fun e w' => e = .returned (.int .i64 (k + fD ah ah.length)) ∧ OwnRows w' B D v V (wC k ah) ∧ Only (fun b => ∃ i, i < ah.length ∧ (V i).ownBlock = some b) w w' := by
 obtain ⟨a, cap, hv, hI, Y8⟩ := h.shape
 have hlen := h.len
 have HA := Lib.hid h.apart
 have HT := Lib.hid h.top
 have HX := Lib.hid Y8
 have HH : Hid (Half w w B D v V ah k 0) := ⟨h.own, fun i hi => absurd hi (Nat.not_lt_zero _), fun i _ hi => h.rows i hi, Only.refl _ _⟩
 clear h hI Y8
 subst hv
 go_enter Tryd.func43, Tryd.ntmps43
 go_wp2
 go_loopw [1, 5] (fun x i wr => ∃ (j : Nat) (m : Int), j ≤ ah.length ∧ i = .int .i64 j ∧ x = .int .i64 m ∧ 0 ≤ m ∧ m ≤ 2199023255552 ∧ Hid (m = k + fD ah j) ∧ Hid (Half w wr B D (.slice a ah.length cap) V ah k j)) (fun _ i _ => ah.length - (intOf i).toNat)
 case atStart => exact ⟨0, k, Nat.zero_le _, rfl, rfl, by omega, by omega, by simp [Hid, fD], HH⟩
 case round =>
  clear HH
  obtain ⟨j, m, hj, rfl, rfl, hm0, hm1, HM, HH⟩ := hrel
  by_cases hlt : j < ah.length
  · have hsl := Y2 ah (show j + 1 ≤ ah.length from hlt)
    have Y9 : Hid (m + ((row ah j).length : Int) = k + fD ah (j + 1)) := by have := HM.out; simp only [Hid, fD]; omega
    have hm2 : m + ((row ah j).length : Int) ≤ 2199023255552 := by have := Y9.out; omega
    clear hsl
    have hVj := HX.out j hlt
    obtain ⟨g, ha⟩ : ∃ g, a = some ⟨g, 0, none⟩ := by
     rcases HH.out.own.2 with ⟨hv, h0⟩ | ⟨g, cap', cur, hv, _⟩
     · omega
     · simp only [Value.slice.injEq] at hv
       exact ⟨g, hv.1⟩
    subst ha
    have hck : wr.cell? ⟨g, j, none⟩ = some (.slice (addrOf (V j)) (row ah j).length (capOf (V j))) := by
     rw [HH.out.own.cellAt j (by omega), ← hVj]
     simp [hlt]
    have hmk := E9 (HH.out.todo j (Nat.le_refl _) hlt) m hm0 (by omega)
    rw [hVj] at hmk
    have HK := Lib.hid hmk
    have HVj := Lib.hid hVj
    clear hmk hVj
    go_wp2_with (go_at_call 22; refine HK.out.mono ?_; rintro e w1 ⟨rfl, h1, h2⟩; rw [← HVj.out] at h1 h2; rw [HM.out] at h1; have HN := Lib.hid (HH.out.step hlt HA.out h1 h2); clear h1 h2)
    go_roundw
    case rel => exact ⟨j + 1, _, by omega, by go_num, rfl, by omega, hm2, Y9, HN⟩
    case measure => simp [intOf]; omega
  · have hjj : j = ah.length := by omega
    have HE : Hid (OwnRows wr B D (.slice a ah.length cap) V (wC k ah)) := by
     subst hjj
     refine ⟨by rw [CS]; exact HH.out.own, HT.out, by rw [CS]; exact hlen, fun i hi => ?_, fun i j hi hj => ?_⟩
     · rw [CS] at hi
       rw [aes hi]
       exact HH.out.done i hi hi
     · rw [CS] at hi hj
       exact HA.out i j hi hj
    have HY : Hid (m = k + (fD ah ah.length : Int)) := by rw [← hjj]; exact HM.out
    clear hjj
    go_wp2
    go_ret
    exact ⟨kG HY.out, HE.out, HH.out.only⟩
end
section
section
open Go.RowKit
theorem aeu {ah : List (List Int)} {zs : List Int} : row (ah ++ [zs]) ah.length = zs := by simp [row]
theorem aev {ah : List (List Int)} {zs : List Int} {k : Nat} (h : k < ah.length) : row (ah ++ [zs]) k = row ah k := by simp [row, List.getElem?_append_left h]
theorem OwnRows.push {w w1 : World} {B D D' : Nat} {v v' u : Value} {V : Nat → Value} {ah : List (List Int)} {zs : List Int} (h : OwnRows w B D v V ah) (hu : aF w B D' u zs) (hap : ∀ i, i < ah.length → ∀ g, u.ownBlock = some g → (V i).ownBlock ≠ some g)
 (ho : w1.ownsRow B 22 1 v' (ah.length + 1) ((List.range ah.length).map V ++ [u])) (hg : Only (fun b => v.ownBlock = some b) w w1) (hl : ah.length + 1 ≤ 17592186044416) :
 OwnRows w1 B w1.heap.size v' (fun i => if i = ah.length then u else V i) (ah ++ [zs]) := by
 refine ⟨?_, fun g hg => (ho.lt g hg).2, by simpa using hl, fun k hk => ?_, fun i j hi hj hne g hg1 hg2 => ?_⟩
 · have e : (List.range (ah ++ [zs]).length).map (fun i => if i = ah.length then u else V i) = (List.range ah.length).map V ++ [u] := by
    simp only [List.length_append, List.length_cons, List.length_nil, List.range_succ, List.map_append, List.map_cons, List.map_nil, Nat.zero_add, if_true]
    congr 1
    exact List.map_congr_left fun i hi => by rw [if_neg (by have := List.mem_range.1 hi; omega)]
   rw [e]
   simpa using ho
 · by_cases e : k = ah.length
   · subst e
     simp only [if_true]
     rw [aeu]
     exact (hu.only hg (fun g h1 h2 => iV h.own hu.own g h2 h1)).bg
   · have hk' : k < ah.length := by simp at hk; omega
     simp only [if_neg e]
     rw [aev hk']
     exact ((h.rows k hk').only hg (fun g h1 h2 => iV h.own (h.rows k hk').own g h2 h1)).bg
 · simp only [List.length_append, List.length_cons, List.length_nil] at hi hj
   by_cases e : i = ah.length
   · subst e
     simp only [if_true] at hg1
     simp only [if_neg (Ne.symm hne)] at hg2
     exact hap j (by omega) g hg1 hg2
   · simp only [if_neg e] at hg1
     by_cases e' : j = ah.length
     · subst e'
       simp only [if_true] at hg2
       exact hap i (by omega) g hg2 hg1
     · simp only [if_neg e'] at hg2
       exact h.apart i j (by omega) (by omega) hne g hg1 hg2
theorem OwnRows.nil (w : World) (B D : Nat) : OwnRows w B D (.slice none 0 0) (fun _ => .slice none 0 0) [] :=
 ⟨World.ownsRow_nil _ _ _ _, fun g hg => by simp [Value.ownBlock] at hg, by simp, fun k hk => absurd hk (by simp), fun i j hi => absurd hi (by simp)⟩
theorem OwnRows.bg {w : World} {B D : Nat} {v : Value} {V : Nat → Value} {ah : List (List Int)} (h : OwnRows w B D v V ah) : OwnRows w B w.heap.size v V ah :=
 ⟨h.own, fun g hg => (h.own.lt g hg).2, h.len, fun k hk => (h.rows k hk).bg, h.apart⟩
theorem aF.base {w : World} {B B' D : Nat} {v : Value} {zs : List Int} (h : aF w B D v zs) (hB : B' ≤ B) : aF w B' D v zs := ⟨ownsRow_base h.own hB, h.top, h.len, h.fits⟩
theorem OwnRows.base {w : World} {B B' D : Nat} {v : Value} {V : Nat → Value} {ah : List (List Int)} (h : OwnRows w B D v V ah) (hB : B' ≤ B) : OwnRows w B' D v V ah :=
 ⟨ownsRow_base h.own hB, h.top, h.len, fun k hk => (h.rows k hk).base hB, h.apart⟩
theorem Only.dV {w w' : World} {r : Option Nat} (h : w.grownBy w' r) : Only (fun b => r = some b) w w' := ⟨h.os, h.tape, h.output, h.size, fun b hb hne => h.block b hb (fun e => hne e.symm)⟩
theorem aew {ah : List (List Int)} {k : Nat} (h : k < ah.length) : ah.take (k + 1) = ah.take k ++ [row ah k] := by
 rw [List.take_succ_eq_append_getElem h, adT h]
theorem aI.dL {w : World} {g : Nat} {t e : TypeId} {u v x : Value} {B size n : Nat} {xs : List Value} (h : aI w g t u v) (ho : w.ownsRow B e size x n xs) (hte : e ≠ t) : x.ownBlock ≠ some g := by
 intro hx
 rcases ho.2 with ⟨rfl, _⟩ | ⟨g1, _, _, rfl, _, h1, _⟩
 · simp [Value.ownBlock] at hx
 · simp [Value.ownBlock] at hx
   subst hx
   unfold aI at h
   rw [h] at h1
   simp at h1
   exact hte h1.2.symm
theorem aI.only {w w' : World} {g : Nat} {t : TypeId} {u v : Value} {S : Nat → Prop} (h : aI w g t u v) (hk : Only S w w') (hs : ¬ S g) : aI w' g t u v := (hk.block g h.lt hs).trans h
theorem aI.grown {w w' : World} {g : Nat} {t e : TypeId} {u v x : Value} {B size n : Nat} {xs : List Value} (h : aI w g t u v) (ho : w.ownsRow B e size x n xs) (hte : e ≠ t) (hg : w.grownBy w' x.ownBlock) : aI w' g t u v :=
 h.only (Only.dV hg) (h.dL ho hte)
structure CU (w wr : World) (t b : Nat) (vo sa sb : Value) (O : List Int) (ah : List (List Int)) : Prop where
 below : Below w.heap.size w wr
 box : aI wr b 33 sa sb
 own : ∃ vn V, aI wr t 33 vo vn ∧ aF wr w.heap.size wr.heap.size vo O ∧ OwnRows wr w.heap.size wr.heap.size vn V ah ∧ ∀ i, i < ah.length → ∀ g, (V i).ownBlock = some g → vo.ownBlock ≠ some g
theorem CU.step {w wr w2 w3 : World} {t b gg cap : Nat} {o : Obj} {vo sa sb vn u : Value} {V : Nat → Value} {O zs : List Int} {ah : List (List Int)} (hbel : Below w.heap.size w wr) (hb : aI wr b 33 sa sb) (hT : aI wr t 33 vo vn)
 (nI : aF wr w.heap.size wr.heap.size vo O) (hvn : OwnRows wr w.heap.size wr.heap.size vn V ah) (hap : ∀ i, i < ah.length → ∀ g, (V i).ownBlock = some g → vo.ownBlock ≠ some g) (htw : w.heap.size ≤ t) (hbt : b ≠ t) (hl : ah.length ≤ 1048576)
 (h2 : Below wr.heap.size wr w2) (hu : aF w2 wr.heap.size w2.heap.size u zs) (hown3 : w3.ownsRow w.heap.size 22 1 (.slice (some ⟨gg, 0, none⟩) (ah.length + 1) cap) (ah.length + 1) ((List.range ah.length).map V ++ [u])) (hgrow : (w2.alloc o).grownBy w3 vn.ownBlock) :
 CU w (w3.setCell ⟨t, 1, none⟩ (.slice (some ⟨gg, 0, none⟩) (ah.length + 1) cap)) t b vo sa sb O (ah ++ [zs]) := by
 have qI : Below wr.heap.size wr (w2.alloc o) := h2.alloc h2.size o
 have hown : (w2.alloc o).ownsRow w.heap.size 22 1 vn ah.length ((List.range ah.length).map V) := kH hvn.own (S := fun _ => False) (Only.of_below qI) (fun _ _ h => h)
 have kJ := (hT.below qI).grown hown (by decide) hgrow
 have hb3 := (hb.below qI).grown hown (by decide) hgrow
 have wE : aF w3 w.heap.size w3.heap.size vo O := ((nI.below qI).only (Only.dV hgrow) (fun g h1 h2 => iV hown (nI.below qI).own g h2 h1)).bg
 have hu' : aF (w2.alloc o) w.heap.size w2.heap.size u zs := (hu.below (aA _ _)).base hbel.size
 have hlow : ∀ g, u.ownBlock = some g → wr.heap.size ≤ g := fun g hg => (hu.own.lt g hg).1
 have hrows := (hvn.below qI).push (w1 := w3) hu' (fun i hi g h1 h3 => by have := (hvn.rows i hi).top g h3; have := hlow g h1; omega) hown3 (Only.dV hgrow) (by omega)
 have hS : Only (fun b => b = t) w3 (w3.setCell ⟨t, 1, none⟩ (.slice (some ⟨gg, 0, none⟩) (ah.length + 1) cap)) := Only.setCell (S := fun b => b = t) (Only.refl _ _) (p := ⟨t, 1, none⟩) rfl _
 refine ⟨?_, hb3.only hS hbt, _, _, kJ.set1 _, (wE.only hS (fun g hg e => kJ.dL wE.own (by decide) (by rw [hg, e]))).bg, (hrows.only hS (fun g hg e => kJ.dL hrows.own (by decide) (by rw [hg, e])) (fun k hk g hg e => kJ.dL (hrows.rows k hk).own (by decide) (by rw [hg, e]))).bg, fun i hi g hg => ?_⟩
 · have h3 : Below w.heap.size w (w2.alloc o) := hbel.trans (qI.mono hbel.size)
   exact (h3.trans ((Only.dV hgrow).below h3.size (fun g hg => (hown.lt g hg).1))).setCell htw _
 · by_cases e : i = ah.length
   · subst e
     simp only [if_true] at hg
     intro hh
     have := nI.top g hh
     have := hlow g hg
     omega
   · simp only [if_neg e] at hg
     exact hap i (by simp at hi; omega) g hg
end
section
open Go.RowKit
theorem Za : (Tryd.prog.info? 22).map (fun i => (i.zero, i.size, i.bytes)) = some (some (.slice none 0 0), 1, 24) := by kernel_rfl
def QW (w : World) (O : List Int) (ah : List (List Int)) (e : Ending) (w' : World) : Prop :=
 ∃ v, e = .returned v ∧ jm w' w.heap.size w'.heap.size v O ah ∧ Below w.heap.size w w'
end
section
open Go.RowKit
theorem aI.zI {w : World} {t : Nat} (x : Value) : Only (fun b => b = t) w (w.setCell ⟨t, 0, none⟩ x) := Only.setCell (S := fun b => b = t) (Only.refl _ _) (p := ⟨t, 0, none⟩) rfl _
theorem aI.I4 {w : World} {t : Nat} (x : Value) : Only (fun b => b = t) w (w.setCell ⟨t, 1, none⟩ x) := Only.setCell (S := fun b => b = t) (Only.refl _ _) (p := ⟨t, 1, none⟩) rfl _
theorem CU.owner {w wr w1 : World} {t b gg cap : Nat} {ob : Obj} {vo sa sb vn : Value} {V : Nat → Value} {O : List Int} {x : Int} {ah : List (List Int)} (hbel : Below w.heap.size w wr) (hb : aI wr b 33 sa sb) (hT : aI wr t 33 vo vn)
 (nI : aF wr w.heap.size wr.heap.size vo O) (hvn : OwnRows wr w.heap.size wr.heap.size vn V ah) (hap : ∀ i, i < ah.length → ∀ g, (V i).ownBlock = some g → vo.ownBlock ≠ some g) (htw : w.heap.size ≤ t) (hbt : b ≠ t) (hl : O.length ≤ 1048576) (hx : Fits x)
 (hown1 : w1.ownsRow w.heap.size 2 1 (.slice (some ⟨gg, 0, none⟩) (O.length + 1) cap) (O.length + 1) (O.map (Value.int .i64) ++ [.int .i64 x])) (hgrow : (wr.alloc ob).grownBy w1 vo.ownBlock) (hat : vo.ownBlock = some gg ∨ gg = wr.heap.size + 1) :
 CU w (w1.setCell ⟨t, 0, none⟩ (.slice (some ⟨gg, 0, none⟩) (O.length + 1) cap)) t b (.slice (some ⟨gg, 0, none⟩) (O.length + 1) cap) sa sb (O ++ [x]) ah := by
 have qI : Below wr.heap.size wr (wr.alloc ob) := aA _ _
 have hown := (nI.below qI).own
 have hT1 := (hT.below qI).grown hown (by decide) hgrow
 have hb1 := (hb.below qI).grown hown (by decide) hgrow
 have hI : aF w1 w.heap.size w1.heap.size (.slice (some ⟨gg, 0, none⟩) (O.length + 1) cap) (O ++ [x]) := by
  refine aF.mk' (by simpa using hown1) (by simp; omega) fun k hk => ?_
  by_cases e : k < O.length
  · rw [show nth (O ++ [x]) k = nth O k from by simp [nth, List.getElem?_append_left e]]
    exact nI.fits k e
  · have : k = O.length := by simp at hk; omega
    subst this
    rw [show nth (O ++ [x]) O.length = x from by simp [nth]]
    exact hx
 have hR := (hvn.below qI).only (Only.dV hgrow) (fun g h1 h2 => iV (hvn.below qI).own hown g h1 h2) (fun k hk g h1 h2 => hap k hk g h1 h2)
 have hS := aI.zI (w := w1) (t := t) (.slice (some ⟨gg, 0, none⟩) (O.length + 1) cap)
 refine ⟨?_, hb1.only hS hbt, _, V, hT1.set0 _, (hI.only hS (fun g hg e => hT1.dL hI.own (by decide) (by rw [hg, e]))).bg, (hR.only hS (fun g hg e => hT1.dL hR.own (by decide) (by rw [hg, e])) (fun k hk g hg e => hT1.dL (hR.rows k hk).own (by decide) (by rw [hg, e]))).bg, fun i hi g hg hh => ?_⟩
 · have h3 : Below w.heap.size w (wr.alloc ob) := hbel.alloc hbel.size ob
   exact (h3.trans ((Only.dV hgrow).below h3.size (fun g hg => (hown.lt g hg).1))).setCell htw _
 · simp [Value.ownBlock] at hh
   subst hh
   rcases hat with h | h
   · exact hap i hi _ hg h
   · have := (hvn.rows i hi).top _ hg
     omega
structure Turn (w wr : World) (t r k : Nat) (vo vn : Value) (V : Nat → Value) (O : List Int) (ah : List (List Int)) : Prop where
 below : Below w.heap.size w wr
 box : aI wr t 33 vo vn
 res : aI wr r 33 (.slice none 0 0) (.slice none 0 0)
 own : ∃ P, P.length = O.length ∧ aF wr w.heap.size wr.heap.size vo P ∧ ∀ i, i < O.length → nth P i = if i < k then 1 - nth O i else nth O i
 rows : OwnRows wr w.heap.size wr.heap.size vn V ah
theorem Turn.step {w wr : World} {t r k g n c : Nat} {vn : Value} {V : Nat → Value} {O : List Int} {ah : List (List Int)} (h : Turn w wr t r k (.slice (some ⟨g, 0, none⟩) n c) vn V O ah) (hn : n = O.length) (hk : k < O.length) (hf : Fits (1 - nth O k)) (hg : w.heap.size ≤ g) 
 (hap : ∀ i, i < ah.length → ∀ b, (V i).ownBlock = some b → b ≠ g) :
 Turn w (wr.setCell ⟨g, k, none⟩ (.int .i64 (1 - nth O k))) t r (k + 1) (.slice (some ⟨g, 0, none⟩) n c) vn V O ah := by
 obtain ⟨P, hl, ho, hm⟩ := h.own
 have hS : Only (fun b => b = g) wr (wr.setCell ⟨g, k, none⟩ (.int .i64 (1 - nth O k))) := Only.setCell (S := fun b => b = g) (Only.refl _ _) (p := ⟨g, k, none⟩) rfl _
 have htg : t ≠ g := fun e => h.box.dL ho.own (by decide) (by simp [Value.ownBlock, e])
 have hrg : r ≠ g := fun e => h.res.dL ho.own (by decide) (by simp [Value.ownBlock, e])
 refine ⟨h.below.setCell hg _, h.box.only hS htg, h.res.only hS hrg, ⟨P.set k (1 - nth O k), by simpa using hl, (ho.store (by omega) (by omega) hf).bg, fun i hi => ?_⟩, (h.rows.only hS (fun b hb e => iV h.rows.own ho.own b hb (by simp [Value.ownBlock, e])) (fun i hi b hb e => hap i hi b hb e)).bg⟩
 rw [QV (by omega)]
 by_cases e : i = k
 · subst e; simp
 · rw [if_neg e, hm i hi]
   by_cases h' : i < k
   · rw [if_pos h', if_pos (by omega)]
   · rw [if_neg h', if_neg (by omega)]
theorem Turn.drew {w wr : World} {t r k : Nat} {vo vn : Value} {V : Nat → Value} {O : List Int} {ah : List (List Int)} (h : Turn w wr t r k vo vn V O ah) : Turn w wr.drew t r k vo vn V O ah := by
 have hb : Below wr.heap.size wr wr.drew := (Below.refl _ _).drew
 obtain ⟨P, hl, ho, hm⟩ := h.own
 exact ⟨h.below.drew, h.box.below hb, h.res.below hb, ⟨P, hl, (ho.below hb).bg, hm⟩, (h.rows.below hb).bg⟩
set_option maxHeartbeats 2000000 in
set_option maxRecDepth 100000 in
theorem aex {w : World} {va : Value} {O : List Int} {ah : List (List Int)} (h : gZ w va O ah) (hn : ah.length ≤ 1048576) :
 Calls Tryd.prog 138 #[va] w (QW w O ah) := by
 obtain ⟨i0, hi, hz0, hz1, hz2⟩ := info_parts Za
 obtain ⟨ao, an, co, cn, A, C, rfl, h1, h2⟩ := h
 have HO := Lib.hid h1
 have HN := Lib.hid h2
 clear h1 h2
 go_enter Tryd.func138, Tryd.ntmps138
 go_wp2_with fail
 refine (MC co ((HO.out.alloc _).alloc _)).mono ?_
 rintro e w1 ⟨vo, rfl, ho, hb⟩
 have B1 := Lib.hid ((below2 w _ _).trans (hb.mono (by simp; omega)))
 have b1 := Lib.hid (((aI.new w 33 (.slice ao O.length co) (.slice an ah.length cn)).alloc _).below hb)
 have r1 := Lib.hid ((aI.xJ (g := w.heap.size + 1) (by simp) 33 (.slice none 0 0) (.slice none 0 0)).below hb)
 have nI : ∃ ag cg, vo = .slice ag O.length cg := by obtain ⟨a, c, hv, _⟩ := ho.shape; exact ⟨a, c, hv⟩
 obtain ⟨ag, cg, nI⟩ := nI
 subst nI
 have hs1 : w.heap.size + 2 ≤ w1.heap.size := by have := hb.size; simp at this; omega
 have o1 : Hid (aF w1 w.heap.size w1.heap.size (.slice ag O.length cg) O) := ho.base (by simp; omega)
 have cO := Lib.hid hs1
 clear ho hb hs1
 have S0 : Hid (CU w (w1.alloc (.cells #[.slice ag O.length cg, .slice none 0 0] 33)) w1.heap.size w.heap.size (.slice ag O.length cg) (.slice ao O.length co) (.slice an ah.length cn) O (ah.take 0)) :=
  ⟨B1.out.alloc B1.out.size _, b1.out.alloc _, _, _, aI.new _ _ _ _, (o1.out.below (aA _ _)).bg, OwnRows.nil _ _ _, fun i hi => absurd hi (by simp)⟩
 have R0 := Lib.hid (r1.out.alloc (.cells #[.slice ag O.length cg, .slice none 0 0] 33))
 have hlz := HN.out.len
 have c1a := (b1.out.alloc (.cells #[.slice ag O.length cg, .slice none 0 0] 33)).cell1
 go_wp2
 clear c1a
 go_loopw [13] (fun i wr => ∃ k : Nat, k ≤ ah.length ∧ i = .int .i64 k ∧ Hid (CU w wr w1.heap.size w.heap.size (.slice ag O.length cg) (.slice ao O.length co) (.slice an ah.length cn) O (ah.take k)) ∧ Hid (aI wr (w.heap.size + 1) 33 (.slice none 0 0) (.slice none 0 0))) (fun i _ => ah.length - (intOf i).toNat)
 case atStart => exact ⟨0, Nat.zero_le _, rfl, S0, R0⟩
 case round =>
  clear S0 R0
  obtain ⟨k, hk, rfl, HS, HR⟩ := hrel
  have hlen1 := cO.out
  have aey : w.heap.size ≤ w1.heap.size := by omega
  have bc1 := HS.out.box.cell1
  by_cases hlt : k < ah.length
  · obtain ⟨vn, V, hT, nI, hvn, hap⟩ := HS.out.own
    have htk : (ah.take k).length = k := by simp; omega
    obtain ⟨a', c', hvs, _, _⟩ := hvn.shape
    rw [htk] at hvs
    subst hvs
    have HT := Lib.hid hT
    have nJ := Lib.hid nI
    have wF := Lib.hid hvn
    have oZ := Lib.hid hap
    have hown := hvn.own
    rw [htk] at hown
    have HOWN := Lib.hid hown
    have QX := Lib.hid htk
    clear hT nI hvn hap hown htk
    have N1 := Lib.hid (HN.out.below HS.out.below)
    obtain ⟨b, off, ha, hc⟩ := N1.out.cell (by omega)
    subst ha
    have hck := hc k hlt
    clear hc
    have hi1 : (k : Int) < ah.length := by omega
    have ht1 := HT.out.cell1
    have HD : Hid (Below wr.heap.size wr wr.drew) := (Below.refl _ _).drew
    have aez := Lib.hid ((N1.out.rows k hlt).below HD.out)
    go_wp2
    go_region_law (first
     | (refine step_append_lies _ (by rfl) _ _ _ (by rfl) w.heap.size 22 i0 (.slice none 0 0) 1 24 Tryd.underlying23 hi hz0 hz1 hz2 rfl (by decide) (.slice a' k c') k ((List.range k).map V) (by rfl) (QY.out.alloc _) ⟨w2.heap.size, 0, none⟩ 1 1 [.slice au (row ah k).length cu] (by rfl) (by rfl) (World.news_of_block (cs := #[.slice au (row ah k).length cu]) (t := 22) (fr := (0, 0)) (heap_alloc_new w2 _)) (by simp [Value.oneCell']) (by omega) (by unfold maxLen; omega) (by omega) (by have := HB2.out.size; simp; omega) (w2.heap.size + 1) (by simp) ?_; intro gg cap w3 hown3 hgrow hat hlt3; have hbx := (HT2.out.alloc (.cells #[.slice au (row ah k).length cu] 22)).grown (QY.out.alloc _) (by decide) hgrow; have q3 := hbx.cell1; have p3 := hbx.frozen 1)
     | (go_simp; go_at_call 60; refine (MC (C k) aez.out).mono ?_; rintro e w2 ⟨u, rfl, hu, hb⟩; obtain ⟨au, cu, hus, _, _⟩ := hu.shape; subst hus; have HU := Lib.hid hu; have HB2 := Lib.hid (HS.out.below.trans ((HD.out.trans (hb.mono HD.out.size)).mono HS.out.below.size)); have oh := Lib.hid (HD.out.trans (hb.mono HD.out.size)); have t2 := (HT.out.below oh.out).cell1; have t2a := ((HT.out.below oh.out).alloc (.cells #[.slice au (row ah k).length cu] 22)).cell1; have HT2 := Lib.hid (HT.out.below oh.out); have QY := Lib.hid (kH HOWN.out (S := fun _ => False) (Only.of_below oh.out) (fun _ _ h => h)); have hlt2 := oh.out.size; have htl := HT.out.lt; clear hu hb))
    all_goals (
     have hstep := CU.step (zs := row ah k) HS.out.below HS.out.box HT.out nJ.out wF.out oZ.out aey (by omega) (by rw [QX.out]; omega) oh.out HU.out (by rw [QX.out]; exact hown3) hgrow
     rw [← aew hlt, QX.out] at hstep
     have MI := (((HR.out.below oh.out).alloc (.cells #[.slice au (row ah k).length cu] 22)).grown (QY.out.alloc _) (by decide) hgrow).other (a := ⟨w1.heap.size, 1, none⟩) (by show w.heap.size + 1 ≠ w1.heap.size; omega) (.slice (some ⟨gg, 0, none⟩) (k + 1) cap)
     have HST := Lib.hid hstep
     have HR3 := Lib.hid MI
     clear hstep MI hown3 hgrow hat hbx
     go_wp2
     go_roundw
     case rel => exact ⟨k + 1, by omega, by go_num, HST, HR3⟩
     case measure => simp [intOf]; omega)
  · have hkk : k = ah.length := by omega
    rw [hkk, List.take_length] at HS
    have Fa := HS
    obtain ⟨vn, V, hT, nI, hvn, hap⟩ := HS.out.own
    obtain ⟨a', c', hvs, _, _⟩ := hvn.shape
    subst hvs
    clear hkk
    have t0 := hT.cell0
    have t1 := hT.cell1
    have d0 := HR.out.cell0
    have d1 := HR.out.cell1
    have g0 := HR.out.frozen 0
    have g1 := HR.out.frozen 1
    have HT := Lib.hid hT
    have nJ := Lib.hid nI
    have wF := Lib.hid hvn
    have oZ := Lib.hid hap
    clear hT nI hvn hap
    go_wp2
    have hS1 : Only (fun b => b = w.heap.size + 1) wr ((wr.setCell ⟨w.heap.size + 1, 0, none⟩ (.slice ag O.length cg)).setCell ⟨w.heap.size + 1, 1, none⟩ (.slice a' ah.length c')) :=
     Only.setCell (S := fun b => b = w.heap.size + 1) (Only.setCell (S := fun b => b = w.heap.size + 1) (Only.refl _ _) (p := ⟨w.heap.size + 1, 0, none⟩) rfl _) (p := ⟨w.heap.size + 1, 1, none⟩) rfl _
    have hfin : QW w O ah (.returned (.agg #[.slice ag O.length cg, .slice a' ah.length c'])) ((wr.setCell ⟨w.heap.size + 1, 0, none⟩ (.slice ag O.length cg)).setCell ⟨w.heap.size + 1, 1, none⟩ (.slice a' ah.length c')) :=
     ⟨_, rfl, ⟨_, _, V, rfl, (nJ.out.only hS1 (fun g hg e => HR.out.dL nJ.out.own (by decide) (by rw [hg, e]))).bg, (wF.out.only hS1 (fun g hg e => HR.out.dL wF.out.own (by decide) (by rw [hg, e])) (fun k hk g hg e => HR.out.dL (wF.out.rows k hk).own (by decide) (by rw [hg, e]))).bg, oZ.out⟩,
      (Fa.out.below.setCell (by show w.heap.size ≤ w.heap.size + 1; omega) _).setCell (by show w.heap.size ≤ w.heap.size + 1; omega) _⟩
    exact bodyPost_ret (v := .agg #[.slice ag O.length cg, .slice a' ah.length c']) (by simp [results, Tryd.results138, go_sem, d0, d1]) rfl hfin
end
end
section
open Go.RowKit
def Zb (zs : List Int) : Prop := ∀ j k, j < k → k < zs.length → nth zs j < nth zs k
theorem aeA {n : Int} {zs : List Int} (h : iI n zs = true) : Zb zs := fun j _ hjk hk => (MB h hk).2.2 j hjk
def places (S : List Int) : List Int → Nat → List Int
 | _, 0 => []
 | r, k + 1 => places S r k ++ if hasB S (nth r k) then [idx S (nth r k)] else []
end
section
open Go.RowKit
set_option maxHeartbeats 1000000 in
theorem QZ {a c : Option Addr} {zs : List Int} (w : World) (ca cc : Nat) (ha : aV w a zs) (hc : aV w c zs) :
 Calls Tryd.prog 20 #[.slice a zs.length ca, .slice c zs.length cc] w fun e w' => e = .returned (.bool true) ∧ ∃ q, w' = w.drewN q := by
 have hlen := ha.len
 have HA := Lib.hid ha
 have HC := Lib.hid hc
 clear ha hc
 have hne : ((zs.length : Int) != (zs.length : Int)) = false := by simp
 go_enter Tryd.func20, Tryd.ntmps20
 go_wp2
 go_loopw [5] (fun i wr => ∃ k : Nat, k ≤ zs.length ∧ i = .int .i64 k ∧ Hid (∃ q, wr = w.drewN q)) (fun i _ => zs.length - (intOf i).toNat)
 case atStart => exact ⟨0, Nat.zero_le _, rfl, 0, rfl⟩
 case round =>
  obtain ⟨k, hk, rfl, HW⟩ := hrel
  by_cases hlt : k < zs.length
  · obtain ⟨b, off, e1, h1⟩ := (HA.out.same HW.out).cell (by omega)
    obtain ⟨b2, off2, e2, h2⟩ := (HC.out.same HW.out).cell (by omega)
    subst e1
    subst e2
    have hck := h1 k hlt
    have aeB := h2 k hlt
    clear h1 h2
    have hi1 : (k : Int) < zs.length := by omega
    have hn : (nth zs k != nth zs k) = false := by simp
    go_wp2
    go_quiet (fail)
    go_wp2
    go_roundw
    case rel => exact ⟨k + 1, by omega, by go_num, CQ HW.out⟩
    case measure => simp [intOf]; omega
  · go_wp2
    go_ret
    exact ⟨rfl, HW.out⟩
set_option maxHeartbeats 1000000 in
theorem aeC {a c : Option Addr} {A A' : Nat → Option Addr} {C C' : Nat → Nat} {ah : List (List Int)} (w : World) (ca cc : Nat) (ha : dU w a A C ah) (hc : dU w c A' C' ah) :
 Calls Tryd.prog 38 #[.slice a ah.length ca, .slice c ah.length cc] w fun e w' => e = .returned (.bool true) ∧ ∃ q, w' = w.drewN q := by
 have hlen := ha.len
 have HA := Lib.hid ha
 have HC := Lib.hid hc
 clear ha hc
 have hne : ((ah.length : Int) != (ah.length : Int)) = false := by simp
 go_enter Tryd.func38, Tryd.ntmps38
 go_wp2
 go_loopw [5] (fun i wr => ∃ k : Nat, k ≤ ah.length ∧ i = .int .i64 k ∧ Hid (∃ q, wr = w.drewN q)) (fun i _ => ah.length - (intOf i).toNat)
 case atStart => exact ⟨0, Nat.zero_le _, rfl, 0, rfl⟩
 case round =>
  obtain ⟨k, hk, rfl, HW⟩ := hrel
  by_cases hlt : k < ah.length
  · have hA' := Lib.hid (HA.out.same HW.out)
    have hC' := Lib.hid (HC.out.same HW.out)
    obtain ⟨b, off, e1, h1⟩ := hA'.out.cell (by omega)
    obtain ⟨b2, off2, e2, h2⟩ := hC'.out.cell (by omega)
    subst e1
    subst e2
    have hck := h1 k hlt
    have aeB := h2 k hlt
    clear h1 h2
    have hi1 : (k : Int) < ah.length := by omega
    have HE : Hid (∀ q, Calls Tryd.prog 20 #[.slice (A k) (row ah k).length (C k), .slice (A' k) (row ah k).length (C' k)] (wr.drewN q) fun e w' => e = .returned (.bool true) ∧ ∃ m, w' = (wr.drewN q).drewN m) := fun q =>
     QZ (wr.drewN q) (C k) (C' k) ((hA'.out.rows k hlt).same ⟨q, rfl⟩) ((hC'.out.rows k hlt).same ⟨q, rfl⟩)
    go_wp2
    go_quiet ((go_at_call 20; exact Calls.quiet_of (HE.out _)))
    go_wp2
    go_roundw
    case rel => exact ⟨k + 1, by omega, by go_num, CQ HW.out⟩
    case measure => simp [intOf]; omega
  · go_wp2
    go_ret
    exact ⟨rfl, HW.out⟩
set_option maxHeartbeats 1000000 in
theorem aeD {ao an co cn : Option Addr} {A A' : Nat → Option Addr} {C C' : Nat → Nat} {O : List Int} {ah : List (List Int)} (w : World) (k1 k2 k3 k4 : Nat)
 (h1 : aV w ao O) (h2 : dU w an A C ah) (h3 : aV w co O) (h4 : dU w cn A' C' ah) :
 Calls Tryd.prog 66 #[.agg #[.slice ao O.length k1, .slice an ah.length k2], .agg #[.slice co O.length k3, .slice cn ah.length k4]] w fun e w' => e = .returned (.bool true) ∧ Below w.heap.size w w' := by
 have HE := Lib.hid (QZ _ k1 k3 ((h1.alloc (.cells #[.slice ao O.length k1, .slice an ah.length k2] 33)).alloc (.cells #[.slice co O.length k3, .slice cn ah.length k4] 33)) ((h3.alloc _).alloc _))
 have HF : Hid (∀ q, Calls Tryd.prog 38 #[.slice an ah.length k2, .slice cn ah.length k4] (((w.alloc (.cells #[.slice ao O.length k1, .slice an ah.length k2] 33)).alloc (.cells #[.slice co O.length k3, .slice cn ah.length k4] 33)).drewN q) fun e w' => e = .returned (.bool true) ∧ ∃ m, w' = (((w.alloc (.cells #[.slice ao O.length k1, .slice an ah.length k2] 33)).alloc (.cells #[.slice co O.length k3, .slice cn ah.length k4] 33)).drewN q).drewN m) := fun q =>
  aeC _ k2 k4 (((h2.alloc _).alloc _).same ⟨q, rfl⟩) (((h4.alloc _).alloc _).same ⟨q, rfl⟩)
 clear h1 h2 h3 h4
 go_enter Tryd.func66, Tryd.ntmps66
 go_wp2_with (first | (go_at_call 20; refine HE.out.mono ?_; rintro e w' ⟨rfl, q, rfl⟩) | (go_at_call 38; refine (HF.out _).mono ?_; rintro e w' ⟨rfl, q', rfl⟩))
 go_ret
 exact ⟨rfl, below_drewN (below2 _ _ _) _⟩
theorem aeE {w : World} {v v' : Value} {O : List Int} {ah : List (List Int)} (h : gZ w v O ah) (h' : gZ w v' O ah) :
 Calls Tryd.prog 66 #[v, v'] w fun e w' => e = .returned (.bool true) ∧ Below w.heap.size w w' := by
 obtain ⟨ao, an, co, cn, A, C, rfl, h1, h2⟩ := h
 obtain ⟨ao', an', co', cn', A', C', rfl, h1', h2'⟩ := h'
 exact aeD w co cn co' cn' h1 h2 h1' h2'
end
section
open Go.RowKit
def jF (w : World) (v : Value) (zs : List Int) : Prop := ∃ a cap, v = .slice a zs.length cap ∧ aV w a zs
theorem jF.below {w w' : World} {v : Value} {zs : List Int} (h : jF w v zs) (hb : Below w.heap.size w w') : jF w' v zs := by
 obtain ⟨a, cap, hv, hi⟩ := h
 exact ⟨a, cap, hv, hi.below hb⟩
theorem aF.v {w : World} {B D : Nat} {v : Value} {zs : List Int} (h : aF w B D v zs) : jF w v zs := by
 obtain ⟨a, cap, hv, hi, _⟩ := h.shape
 exact ⟨a, cap, hv, hi⟩
theorem MJ {w : World} {v v' : Value} {zs : List Int} (h : jF w v zs) (h' : jF w v' zs) :
 Calls Tryd.prog 20 #[v, v'] w fun e w' => e = .returned (.bool true) ∧ Below w.heap.size w w' := by
 obtain ⟨a, cap, rfl, hi⟩ := h
 obtain ⟨a', cap', rfl, hi'⟩ := h'
 exact (QZ w cap cap' hi hi').mono fun e w' ⟨he, hq⟩ => ⟨he, EY (Below.refl _ _) hq⟩
theorem aeF {w : World} {v : Value} {k : Int} {n : Nat} (h : jF w v (marks k n)) (h0 : 0 ≤ k) (h1 : k ≤ 1152921504606846976) :
 Calls Tryd.prog 33 #[v, .int .i64 k] w fun e w' => e = .returned (.int .i64 (k + n)) ∧ w = w' := by
 obtain ⟨a, cap, rfl, hi⟩ := h
 have h := aer (zs := marks k n) k cap (by rw [vZ]; exact hi) h0 h1
 rw [vZ] at h ⊢
 exact h
theorem aeG {w : World} {B D : Nat} {v : Value} {zs : List Int} {k r : Int} (hr : k + zs.length = r) (h : aF w B D v zs) (h0 : 0 ≤ k) (h1 : k ≤ 1152921504606846976) :
 Calls Tryd.prog 22 #[v, .int .i64 k] w fun e w' => e = .returned (.int .i64 r) ∧ aF w' B D v (marks k zs.length) ∧ Only (fun b => B ≤ b ∧ b < D) w w' := by
 subst hr
 exact (E9 h k h0 h1).mono fun e w' ⟨he, ho, hn⟩ => ⟨he, ho, hn.mono fun b hb => ⟨(h.own.lt b hb).1, h.top b hb⟩⟩
theorem Zc {w : World} {v : Value} {k r : Int} {n : Nat} (hr : k + (n : Int) = r) (h : jF w v (marks k n)) (h0 : 0 ≤ k) (h1 : k ≤ 1152921504606846976) :
 Calls Tryd.prog 33 #[v, .int .i64 k] w fun e w' => e = .returned (.int .i64 r) ∧ w = w' := by
 subst hr
 exact aeF h h0 h1
theorem Zd {w : World} {v : Value} {zs : List Int} (h : jF w v zs) :
 Calls Tryd.prog 16 #[v] w fun e w' => ∃ u, e = .returned u ∧ aF w' w.heap.size w'.heap.size u zs ∧ Below w.heap.size w w' := by
 obtain ⟨a, cap, rfl, hi⟩ := h
 refine (QO a zs cap w hi).mono fun e w' ⟨he, hr, hs, hb⟩ => ⟨_, he, aF.xN hr (Nat.le_refl _) (by omega) hi.len hi.fits, hb⟩
end
end Go.Proofs.YtglbkbiphcgidaaDoor
namespace Go.Proofs.YtglbkbiphcgidaaDoor
section
section
open Go.RowKit
structure xP (w wr : World) (t b : Nat) (vo vn : Value) (V : Nat → Value) (sa sb : Value) (O : List Int) (ah : List (List Int)) : Prop where
 below : Below w.heap.size w wr
 box : aI wr b 33 sa sb
 str : aI wr t 33 vo vn
 ints : aF wr w.heap.size wr.heap.size vo O
 rows : OwnRows wr w.heap.size wr.heap.size vn V ah
 apart : ∀ i, i < ah.length → ∀ g, (V i).ownBlock = some g → vo.ownBlock ≠ some g
theorem xP.keep {w wr wr' : World} {t b : Nat} {vo vn : Value} {V : Nat → Value} {sa sb : Value} {O : List Int} {ah : List (List Int)} (h : xP w wr t b vo vn V sa sb O ah) (hb : Below wr.heap.size wr wr') : xP w wr' t b vo vn V sa sb O ah :=
 ⟨h.below.trans (hb.mono h.below.size), h.box.below hb, h.str.below hb, (h.ints.below hb).bg, (h.rows.below hb).bg, h.apart⟩
theorem xP.owner {w wr w1 : World} {t b gg cap : Nat} {vo vn : Value} {V : Nat → Value} {sa sb : Value} {O : List Int} {x : Int} {ah : List (List Int)} (h : xP w wr t b vo vn V sa sb O ah) (htw : w.heap.size ≤ t) (hbt : b ≠ t) (hl : O.length ≤ 1048576) (hx : Fits x)
 (hown1 : w1.ownsRow w.heap.size 2 1 (.slice (some ⟨gg, 0, none⟩) (O.length + 1) cap) (O.length + 1) (O.map (Value.int .i64) ++ [.int .i64 x])) (hgrow : wr.grownBy w1 vo.ownBlock) (hat : vo.ownBlock = some gg ∨ wr.heap.size ≤ gg) :
 xP w (w1.setCell ⟨t, 0, none⟩ (.slice (some ⟨gg, 0, none⟩) (O.length + 1) cap)) t b (.slice (some ⟨gg, 0, none⟩) (O.length + 1) cap) vn V sa sb (O ++ [x]) ah := by
 have hown := h.ints.own
 have hT1 := h.str.grown hown (by decide) hgrow
 have hb1 := h.box.grown hown (by decide) hgrow
 have hI : aF w1 w.heap.size w1.heap.size (.slice (some ⟨gg, 0, none⟩) (O.length + 1) cap) (O ++ [x]) := by
  refine aF.mk' (by simpa using hown1) (by simp; omega) fun k hk => ?_
  by_cases e : k < O.length
  · rw [show nth (O ++ [x]) k = nth O k from by simp [nth, List.getElem?_append_left e]]
    exact h.ints.fits k e
  · have : k = O.length := by simp at hk; omega
    subst this
    rw [show nth (O ++ [x]) O.length = x from by simp [nth]]
    exact hx
 have hR := h.rows.only (Only.dV hgrow) (fun g h1 h2 => iV h.rows.own hown g h1 h2) (fun k hk g h1 h2 => h.apart k hk g h1 h2)
 have hS := aI.zI (w := w1) (t := t) (.slice (some ⟨gg, 0, none⟩) (O.length + 1) cap)
 refine ⟨?_, hb1.only hS hbt, hT1.set0 _, (hI.only hS (fun g hg e => hT1.dL hI.own (by decide) (by rw [hg, e]))).bg, (hR.only hS (fun g hg e => hT1.dL hR.own (by decide) (by rw [hg, e])) (fun k hk g hg e => hT1.dL (hR.rows k hk).own (by decide) (by rw [hg, e]))).bg, fun i hi g hg hh => ?_⟩
 · exact (h.below.trans ((Only.dV hgrow).below h.below.size (fun g hg => (hown.lt g hg).1))).setCell htw _
 · simp [Value.ownBlock] at hh
   subst hh
   rcases hat with h' | h'
   · exact h.apart i hi _ hg h'
   · have := (h.rows.rows i hi).top _ hg
     omega
theorem xP.push {w wr w3 : World} {t b gg cap : Nat} {vo vn u : Value} {V : Nat → Value} {sa sb : Value} {O zs : List Int} {ah : List (List Int)} {B D : Nat} (h : xP w wr t b vo vn V sa sb O ah) (htw : w.heap.size ≤ t) (hbt : b ≠ t) (hl : ah.length ≤ 1048576)
 (hu : aF wr B D u zs) (hB : w.heap.size ≤ B) (I5 : ∀ i, i < ah.length → ∀ g, u.ownBlock = some g → (V i).ownBlock ≠ some g) (hvu : ∀ g, u.ownBlock = some g → vo.ownBlock ≠ some g)
 (hown3 : w3.ownsRow w.heap.size 22 1 (.slice (some ⟨gg, 0, none⟩) (ah.length + 1) cap) (ah.length + 1) ((List.range ah.length).map V ++ [u])) (hgrow : wr.grownBy w3 vn.ownBlock) :
 xP w (w3.setCell ⟨t, 1, none⟩ (.slice (some ⟨gg, 0, none⟩) (ah.length + 1) cap)) t b vo (.slice (some ⟨gg, 0, none⟩) (ah.length + 1) cap) (fun i => if i = ah.length then u else V i) sa sb O (ah ++ [zs]) := by
 have hown := h.rows.own
 have kJ := h.str.grown hown (by decide) hgrow
 have hb3 := h.box.grown hown (by decide) hgrow
 have wE : aF w3 w.heap.size w3.heap.size vo O := (h.ints.only (Only.dV hgrow) (fun g h1 h2 => iV hown h.ints.own g h2 h1)).bg
 have hrows := h.rows.push (w1 := w3) (hu.base hB) (fun i hi g h1 h3 => I5 i hi g h1 h3) hown3 (Only.dV hgrow) (by omega)
 have hS : Only (fun b => b = t) w3 (w3.setCell ⟨t, 1, none⟩ (.slice (some ⟨gg, 0, none⟩) (ah.length + 1) cap)) := aI.I4 _
 refine ⟨(h.below.trans ((Only.dV hgrow).below h.below.size (fun g hg => (hown.lt g hg).1))).setCell htw _, hb3.only hS hbt, kJ.set1 _, (wE.only hS (fun g hg e => kJ.dL wE.own (by decide) (by rw [hg, e]))).bg, (hrows.only hS (fun g hg e => kJ.dL hrows.own (by decide) (by rw [hg, e])) (fun k hk g hg e => kJ.dL (hrows.rows k hk).own (by decide) (by rw [hg, e]))).bg, fun i hi g hg => ?_⟩
 by_cases e : i = ah.length
 · subst e
   simp only [if_true] at hg
   exact hvu g hg
 · simp only [if_neg e] at hg
   exact h.apart i (by simp at hi; omega) g hg
end
section
open Go.RowKit
inductive wG (ah : List (List Int)) (I : Nat → Bool) (F : List Int) : Nat → Prop
 | one {u v : Nat} : (u : Int) ∈ F → (v : Int) ∈ row ah u → I v = true → wG ah I F v
 | more {u v : Nat} : wG ah I F u → (v : Int) ∈ row ah u → I v = true → wG ah I F v
def cnt (xs : Nat → Bool) : Nat → Nat
 | 0 => 0
 | k + 1 => cnt xs k + if xs k = true then 0 else 1
theorem cnt_le (xs : Nat → Bool) (n : Nat) : cnt xs n ≤ n := by
 induction n with
 | zero => simp [cnt]
 | succ k ih => simp only [cnt]; split <;> omega
theorem aeH {xs ys : Nat → Bool} {n : Nat} (h : ∀ i, i < n → xs i = ys i) : cnt xs n = cnt ys n := by
 induction n with
 | zero => rfl
 | succ k ih => simp only [cnt]; rw [ih (fun i hi => h i (by omega)), h k (by omega)]
def jV (xs : Nat → Bool) (v : Nat) (b : Bool) : Nat → Bool := fun i => if i = v then b else xs i
theorem aeI {xs : Nat → Bool} {n v : Nat} (hv : v < n) (hx : xs v = false) : cnt (jV xs v true) n + 1 = cnt xs n := by
 induction n with
 | zero => omega
 | succ k ih =>
   simp only [cnt]
   by_cases e : v = k
   · subst e
     have h1 : cnt (jV xs v true) v = cnt xs v := aeH fun i hi => by simp [jV, show i ≠ v from by omega]
     have h2 : jV xs v true v = true := by simp [jV]
     rw [h1, h2, hx]; simp
   · have h1 := ih (by omega)
     have h2 : jV xs v true k = xs k := by simp [jV, show k ≠ v from fun h => e h.symm]
     rw [h2]; omega
theorem Ze (xs : Nat → Bool) (v : Nat) (b : Bool) : jV xs v b v = b := by simp [jV]
theorem MK {xs : Nat → Bool} {v i : Nat} (h : xs i = true) : jV xs v true i = true := by
 unfold jV; split <;> simp_all
structure CV (ah : List (List Int)) (I : Nat → Bool) (F : List Int) (n : Nat) (xs : Nat → Bool) (todo : List Int) : Prop where
 snd : ∀ v, v < n → xs v = true → wG ah I F v
 Fe : ∀ t ∈ todo, ∃ u : Nat, t = (u : Int) ∧ u < n ∧ ((u : Int) ∈ F ∨ xs u = true)
 cmp : ∀ u : Nat, u < n → ((u : Int) ∈ F ∨ xs u = true) → (u : Int) ∈ todo ∨ ∀ v : Nat, (v : Int) ∈ row ah u → I v = true → xs v = true
 bnd : todo.length + cnt xs n ≤ F.length + n
structure xQ (ah : List (List Int)) (I : Nat → Bool) (F : List Int) (n : Nat) (xs : Nat → Bool) (todo : List Int) (p q : Nat) : Prop where
 snd : ∀ v, v < n → xs v = true → wG ah I F v
 Fe : ∀ t ∈ todo, ∃ u : Nat, t = (u : Int) ∧ u < n ∧ ((u : Int) ∈ F ∨ xs u = true)
 cmp : ∀ u : Nat, u < n → ((u : Int) ∈ F ∨ xs u = true) → (u : Int) ∈ todo ∨ u = p ∨ ∀ v : Nat, (v : Int) ∈ row ah u → I v = true → xs v = true
 pin : (p : Int) ∈ F ∨ xs p = true
 prt : ∀ j, j < q → ∀ v : Nat, nth (row ah p) j = (v : Int) → I v = true → xs v = true
 bnd : todo.length + 1 + cnt xs n ≤ F.length + n
theorem CV.start {ah : List (List Int)} {I : Nat → Bool} {F : List Int} {n : Nat} (hF : ∀ f ∈ F, ∃ u : Nat, f = (u : Int) ∧ u < n) : CV ah I F n (fun _ => false) F :=
 ⟨fun v _ h => by simp at h, fun t ht => (hF t ht).elim fun u hu => ⟨u, hu.1, hu.2, .inl (hu.1 ▸ ht)⟩,
  fun u _ h => by
   rcases h with h | h
   · exact .inl h
   · simp at h, by have := cnt_le (fun _ => false) n; omega⟩
theorem CV.take {ah : List (List Int)} {I : Nat → Bool} {F : List Int} {n : Nat} {xs : Nat → Bool} {ts : List Int} {p : Nat} (h : CV ah I F n xs (ts ++ [(p : Int)])) : p < n ∧ xQ ah I F n xs ts p 0 := by
 obtain ⟨u, hu, hun, hx⟩ := h.Fe (p : Int) (by simp)
 have : p = u := by omega
 subst this
 refine ⟨hun, h.snd, fun t ht => h.Fe t (by simp [ht]), fun u hu hx => ?_, hx, fun j hj => by omega, by have := h.bnd; simp at this; omega⟩
 rcases h.cmp u hu hx with hm | hm
 · rcases List.mem_append.1 hm with hm | hm
   · exact .inl hm
   · simp at hm; exact .inr (.inl (by omega))
 · exact .inr (.inr hm)
theorem xQ.skip {ah : List (List Int)} {I : Nat → Bool} {F : List Int} {n : Nat} {xs : Nat → Bool} {ts : List Int} {p q u : Nat} (h : xQ ah I F n xs ts p q) (hu : nth (row ah p) q = (u : Int)) (hs : I u = false ∨ xs u = true) : xQ ah I F n xs ts p (q + 1) :=
 ⟨h.snd, h.Fe, h.cmp, h.pin, fun j hj v hv hI => by
  by_cases e : j = q
  · subst e
    have : u = v := by omega
    subst this
    rcases hs with hs | hs
    · rw [hs] at hI; cases hI
    · exact hs
  · exact h.prt j (by omega) v hv hI, h.bnd⟩
theorem xQ.push {ah : List (List Int)} {I : Nat → Bool} {F : List Int} {n : Nat} {xs : Nat → Bool} {ts : List Int} {p q u : Nat} (h : xQ ah I F n xs ts p q) (hp : p < n) (hq : q < (row ah p).length) (hu : nth (row ah p) q = (u : Int)) (hun : u < n) (hI : I u = true) (hx : xs u = false) :
 xQ ah I F n (jV xs u true) (ts ++ [(u : Int)]) p (q + 1) := by
 have hmem : (u : Int) ∈ row ah p := by rw [← hu]; exact jo hq
 refine ⟨fun v hv hm => ?_, fun t ht => ?_, fun v hv hm => ?_, ?_, fun j hj v hv iE => ?_, ?_⟩
 · by_cases e : v = u
   · subst e
     rcases h.pin with hf | hf
     · exact .one hf hmem hI
     · exact .more (h.snd p hp hf) hmem hI
   · exact h.snd v hv (by simpa [jV, e] using hm)
 · rcases List.mem_append.1 ht with ht | ht
   · obtain ⟨w, h1, h2, h3⟩ := h.Fe t ht
     exact ⟨w, h1, h2, h3.imp_right MK⟩
   · simp at ht
     exact ⟨u, ht, hun, .inr (Ze _ _ _)⟩
 · by_cases e : v = u
   · subst e; exact .inl (by simp)
   · have hm' : (v : Int) ∈ F ∨ xs v = true := hm.imp_right fun hh => by simpa [jV, e] using hh
     rcases h.cmp v hv hm' with h1 | h1 | h1
     · exact .inl (List.mem_append.2 (.inl h1))
     · exact .inr (.inl h1)
     · exact .inr (.inr fun z hz hIz => MK (h1 z hz hIz))
 · exact h.pin.imp_right MK
 · by_cases e : j = q
   · subst e
     have : u = v := by omega
     subst this
     exact Ze _ _ _
   · exact MK (h.prt j (by omega) v hv iE)
 · have h1 := aeI hun hx
   have h2 := h.bnd
   simp
   omega
theorem xQ.done {ah : List (List Int)} {I : Nat → Bool} {F : List Int} {n : Nat} {xs : Nat → Bool} {ts : List Int} {p q : Nat} (h : xQ ah I F n xs ts p q) (hq : (row ah p).length ≤ q) : CV ah I F n xs ts :=
 ⟨h.snd, h.Fe, fun u hu hx => by
  rcases h.cmp u hu hx with h1 | h1 | h1
  · exact .inl h1
  · subst h1
    refine .inr fun v hv hI => ?_
    obtain ⟨i, hi, he⟩ := rF.1 hv
    exact h.prt i (by omega) v he hI
  · exact .inr h1, by have := h.bnd; omega⟩
theorem CV.all {ah : List (List Int)} {I : Nat → Bool} {F : List Int} {n : Nat} {xs : Nat → Bool} (h : CV ah I F n xs []) (hin : ∀ u : Nat, u < n → ∀ v : Nat, (v : Int) ∈ row ah u → v < n) (hF : ∀ f ∈ F, ∃ u : Nat, f = (u : Int) ∧ u < n) (v : Nat) (hv : v < n) : xs v = true ↔ wG ah I F v := by
 refine ⟨h.snd v hv, fun hr => ?_⟩
 have key : ∀ v, wG ah I F v → v < n ∧ xs v = true := by
  intro v hr
  induction hr with
  | @one u v hf hm hI =>
    obtain ⟨u', h1, h2⟩ := hF _ hf
    have : u = u' := by omega
    subst this
    rcases h.cmp u h2 (.inl hf) with hh | hh
    · cases hh
    · exact ⟨hin u h2 v hm, hh v hm hI⟩
  | @more u v _ hm hI ih =>
    rcases h.cmp u ih.1 (.inr ih.2) with hh | hh
    · cases hh
    · exact ⟨hin u ih.1 v hm, hh v hm hI⟩
 exact (key v hr).2
def aU (xs : Nat → Bool) : Nat → List Int
 | 0 => []
 | k + 1 => aU xs k ++ if xs k = true then [(k : Int)] else []
theorem sV (xs : Nat → Bool) (k : Nat) : (aU xs k).length ≤ k := by
 induction k with
 | zero => simp [aU]
 | succ k ih => simp only [aU]; split <;> simp <;> omega
theorem zJ (xs : Nat → Bool) (k : Nat) (x : Int) : x ∈ aU xs k ↔ ∃ v : Nat, x = (v : Int) ∧ v < k ∧ xs v = true := by
 induction k with
 | zero => simp [aU]
 | succ k ih =>
   simp only [aU, List.mem_append, ih]
   constructor
   · rintro (⟨v, h1, h2, h3⟩ | h)
     · exact ⟨v, h1, by omega, h3⟩
     · split at h
       · simp at h; exact ⟨k, h, by omega, by assumption⟩
       · simp at h
   · rintro ⟨v, h1, h2, h3⟩
     by_cases e : v = k
     · subst e; right; rw [if_pos h3]; simp [h1]
     · exact .inl ⟨v, h1, by omega, h3⟩
end
end
section
open Go.RowKit
theorem I7 : (Tryd.prog.info? 4).map (fun i => (i.zero, i.size, i.bytes)) = some (some (.bool false), 1, 1) := by kernel_rfl
def bH (xs : Nat → Bool) : Nat → Value := fun i => .bool (xs i)
theorem Zf {w : World} {b n v : Nat} {t : TypeId} {xs : Nat → Bool} {c : Bool} (h : w.rowIs b t n (bH xs)) : (w.setCell ⟨b, v, none⟩ (.bool c)).rowIs b t n (bH (jV xs v c)) := by
 refine (h.set v _).congr fun i _ => ?_
 simp only [bH, jV]
 by_cases e : i = v
 · subst e; simp
 · simp [e]
end
section
open Go.RowKit
theorem fV {S : Nat → Prop} {w w' : World} {g n : Nat} {t : TypeId} {f : Nat → Value} (h : w.rowIs g t n f) (hk : Only S w w') (hs : ¬ S g) : w'.rowIs g t n f := h.of_block (hk.block g h.lt hs)
theorem aeJ {w : World} {B n : Nat} {e : TypeId} {v : Value} {xs : List Value} (h : w.ownsRow B e 1 v n xs) (hn : 0 < n) : ∃ g cap, v = .slice (some ⟨g, 0, none⟩) n cap ∧ n ≤ cap ∧ cap ≤ maxLen ∧ B ≤ g := by
 rcases h.2 with ⟨_, h0⟩ | ⟨g, cap, cur, hv, hg, _, hc, hm, _⟩
 · omega
 · exact ⟨g, cap, hv, hc, hm, hg⟩
theorem Q9 {w : World} {B n : Nat} {e : TypeId} {v : Value} {xs : List Value} (h : w.ownsRow B e 1 v n xs) : ∃ a c, v = .slice a n c := by
 rcases h.2 with ⟨hv, h0⟩ | ⟨g, cap, cur, hv, _⟩
 · exact ⟨_, _, by rw [hv, h0]⟩
 · exact ⟨_, _, hv⟩
def lenOf : Value → Nat
 | .slice _ n _ => n
 | _ => 0
end
section
section
open Go.RowKit
def lZ (step : (Nat → Bool) → Nat → (Nat → Bool) × List Int) : (Nat → Bool) → List Int → (Nat → Bool) × List Int
 | o, [] => (o, [])
 | o, u :: us => ((lZ step (step o u.toNat).1 us).1, (step o u.toNat).2 ++ (lZ step (step o u.toNat).1 us).2)
def opens (o : Nat → Bool) : Nat → Nat
 | 0 => 0
 | k + 1 => opens o k + if o k = true then 1 else 0
theorem aeK {o o' : Nat → Bool} {n : Nat} (h : ∀ i, i < n → o' i = true → o i = true) : opens o' n ≤ opens o n := by
 induction n with
 | zero => simp [opens]
 | succ k ih =>
   have h1 := ih (fun i hi => h i (by omega))
   simp only [opens]
   by_cases e : o' k = true
   · rw [if_pos e, if_pos (h k (by omega) e)]; omega
   · rw [if_neg e]; omega
def tri (a b c : Value) : Nat → Value := fun i => if i = 0 then a else if i = 1 then b else c
end
section
open Go.RowKit
def wH (n : Nat) : List Int := (List.range n).map (fun (i : Nat) => Int.ofNat i)
theorem Fh (n : Nat) : (wH n).length = n := by simp [wH]
theorem Rf {n i : Nat} (h : i < n) : nth (wH n) i = i := by simp [nth, wH, h]
def Fj (k : Nat) : Nat → Value := fun i => if i < k then .int .i64 i else .int .i64 0
theorem aeL {w : World} {g n k : Nat} {t : TypeId} (h : w.rowIs g t n (Fj k)) : (w.setCell ⟨g, k, none⟩ (.int .i64 k)).rowIs g t n (Fj (k + 1)) := by
 refine (h.set k _).congr fun i _ => ?_
 simp only [Fj]
 by_cases e : i = k
 · subst e; simp
 · by_cases hlt : i < k
   · rw [if_neg e, if_pos hlt, if_pos (by omega)]
   · rw [if_neg e, if_neg hlt, if_neg (by omega)]
set_option maxHeartbeats 1000000 in
theorem aeM (n : Nat) (hn : n ≤ 1048576) (w : World) :
 Calls Tryd.prog 104 #[.int .i64 n] w fun e w' => e = .returned (.slice (some ⟨w.heap.size, 0, none⟩) n n) ∧ aV w' (some ⟨w.heap.size, 0, none⟩) (wH n) ∧ Below w.heap.size w w' := by
 have hmk := run_make_row' (P := Tryd.prog) 22 2 (.int .i64 0) 8 Tryd.underlying22 qH rfl .i64 .i64 n (by omega) (by omega)
 go_enter Tryd.func104, Tryd.ntmps104
 go_wp2
 go_loopw [9] (fun i wr => ∃ k : Nat, k ≤ n ∧ i = .int .i64 k ∧ Hid (wr.rowIs w.heap.size 2 n (Fj k)) ∧ Hid (Below w.heap.size w wr)) (fun i _ => n - (intOf i).toNat)
 case atStart => exact ⟨0, Nat.zero_le _, rfl, (World.rowIs_made _ _ _ _).congr (fun i _ => by simp [Fj]), aA _ _⟩
 case round =>
  clear hmk
  obtain ⟨k, hk, rfl, HR, HB⟩ := hrel
  by_cases hlt : k < n
  · have hcs := HR.out.cell hlt
    have hcf := HR.out.frozen k
    have hi1 : (k : Int) < n := by omega
    go_wp2
    go_roundw
    case rel => exact ⟨k + 1, by omega, by go_num, aeL HR.out, HB.out.setCell (Nat.le_refl _) _⟩
    case measure => simp [intOf]; omega
  · have HE : Hid (aV wr (some ⟨w.heap.size, 0, none⟩) (wH n)) :=
     ⟨by rw [Fh]; omega, fun i hi => by rw [Fh] at hi; rw [Rf hi]; unfold Fits; omega, fun _ => ⟨_, _, rfl, fun i hi => by
      rw [Fh] at hi
      rw [Nat.zero_add, HR.out.cell hi, Rf hi]; simp only [Fj]; rw [if_pos (by omega)]⟩⟩
    have hi1 : ¬ (k : Int) < n := by omega
    have hi2 : ¬ k < n := hlt
    go_wp2
    go_ret
    exact ⟨rfl, HE.out, HB.out⟩
end
end
section
open Go.RowKit
def dZ (n : Nat) (f : Nat → Int) : List Int := (List.range n).map f
theorem lK (n : Nat) (f : Nat → Int) : (dZ n f).length = n := by simp [dZ]
theorem zK {n i : Nat} {f : Nat → Int} (h : i < n) : nth (dZ n f) i = f i := by simp [nth, dZ, h]
theorem aeN (n : Nat) (f : Nat → Int) : dZ (n + 1) f = dZ n f ++ [f n] := by simp [dZ, List.range_succ]
theorem aeO {n : Nat} {f g : Nat → Int} (h : ∀ i, i < n → f i = g i) : dZ n f = dZ n g := List.map_congr_left fun i hi => h i (List.mem_range.1 hi)
theorem aeP {n u : Nat} {f : Nat → Int} {x : Int} : (dZ n f).set u x = dZ n (fun i => if i = u then x else f i) := by
 apply List.ext_getElem?
 intro i
 by_cases hi : i < n
 · by_cases e : i = u
   · subst e; simp [dZ, hi]
   · simp [dZ, hi, e, Ne.symm e]
 · simp [dZ, hi]
def iP (w : World) (B g cap n : Nat) (f : Nat → Int) : Prop := aF w B w.heap.size (.slice (some ⟨g, 0, none⟩) n cap) (dZ n f)
theorem iP.row {w : World} {B g cap n : Nat} {f : Nat → Int} (h : iP w B g cap n f) : w.ownsRow B 2 1 (.slice (some ⟨g, 0, none⟩) n cap) n ((dZ n f).map (Value.int .i64)) := by
 have := h.own
 rw [lK] at this
 exact this
theorem iP.lt {w : World} {B g cap n : Nat} {f : Nat → Int} (h : iP w B g cap n f) : B ≤ g ∧ g < w.heap.size := h.own.lt g rfl
theorem iP.ints {w : World} {B g cap n : Nat} {f : Nat → Int} (h : iP w B g cap n f) : aV w (some ⟨g, 0, none⟩) (dZ n f) := by
 obtain ⟨a, c, hv, hi, _⟩ := h.shape
 simp only [Value.slice.injEq] at hv
 rw [hv.1]
 exact hi
theorem iP.cell {w : World} {B g cap n u : Nat} {f : Nat → Int} (h : iP w B g cap n f) (hu : u < n) : w.cell? ⟨g, u, none⟩ = some (.int .i64 (f u)) := by
 rw [h.row.cellAt u (by omega)]
 simp [dZ, hu]
theorem iP.frozen {w : World} {B g cap n : Nat} {f : Nat → Int} (h : iP w B g cap n f) (u : Nat) : w.frozen? ⟨g, u, none⟩ = false := h.row.frozenAt u
theorem iP.only {w w' : World} {S : Nat → Prop} {B g cap n : Nat} {f : Nat → Int} (h : iP w B g cap n f) (hk : Only S w w') (hs : ¬ S g) : iP w' B g cap n f :=
 (aF.only h hk (fun b hb => by simp [Value.ownBlock] at hb; subst hb; exact hs)).bg
theorem iP.congr {w : World} {B g cap n : Nat} {f f' : Nat → Int} (h : iP w B g cap n f) (he : ∀ i, i < n → f i = f' i) : iP w B g cap n f' := by
 unfold iP at *; rw [← aeO he]; exact h
theorem iP.put {w : World} {B g cap n u : Nat} {f : Nat → Int} {x : Int} (h : iP w B g cap n f) (hx : Fits x) : iP (w.setCell ⟨g, u, none⟩ (.int .i64 x)) B g cap n (fun i => if i = u then x else f i) := by
 obtain ⟨hs, _⟩ := h.row.stored u (.int .i64 x)
 have hm : ((dZ n f).map (Value.int .i64)).set u (.int .i64 x) = (dZ n (fun i => if i = u then x else f i)).map (Value.int .i64) := by rw [← aeP, List.map_set]
 rw [hm] at hs
 refine aF.mk' (by rw [lK]; exact hs) (by rw [lK]; have := h.len; rw [lK] at this; exact this) fun k hk => ?_
 rw [lK] at hk
 rw [zK hk]
 have hf := h.fits k (by rw [lK]; exact hk)
 rw [zK hk] at hf
 by_cases e : k = u
 · rw [if_pos e]; exact hx
 · rw [if_neg e]; exact hf
end
section
open Go.RowKit
def Keep : List World → World → Prop
 | [], _ => True
 | a :: l, w => Below a.heap.size a w ∧ Keep l w
theorem Keep.step : ∀ {l : List World} {w w' : World}, Keep l w → Below w.heap.size w w' → Keep l w'
 | [], _, _, _, _ => trivial
 | _ :: _, _, _, h, hb => ⟨h.1.trans (hb.mono h.1.size), Keep.step h.2 hb⟩
theorem Keep.add {l : List World} {w : World} (h : Keep l w) : Keep (w :: l) w := ⟨Below.refl _ _, h⟩
theorem Keep.only : ∀ {l : List World} {w w' : World} {S : Nat → Prop}, Keep l w → Only S w w' → (∀ a ∈ l, ∀ b, S b → a.heap.size ≤ b) → Keep l w'
 | [], _, _, _, _, _, _ => trivial
 | a :: l, _, _, _, h, ho, hs => ⟨h.1.trans (ho.below h.1.size (hs a (by simp))), Keep.only h.2 ho fun a ha => hs a (by simp [ha])⟩
theorem ML {w : World} {v : Value} {zs : List Int} (h : jF w v zs) :
 Calls Tryd.prog 16 #[v] w (sS w zs) := Zd h
theorem jm.shape2 {w : World} {B D : Nat} {v : Value} {O : List Int} {ah : List (List Int)} (h : jm w B D v O ah) : ∃ a0 c0 a1 c1, v = .agg #[.slice a0 O.length c0, .slice a1 ah.length c1] := by
 obtain ⟨ao, an, co, cn, A, C, hv, _, _⟩ := h.at
 exact ⟨ao, co, an, cn, hv⟩
theorem aF.shape2 {w : World} {B D : Nat} {v : Value} {zs : List Int} (h : aF w B D v zs) : ∃ a c, v = .slice a zs.length c := by
 obtain ⟨a, c, hv, _, _⟩ := h.shape
 exact ⟨a, c, hv⟩
theorem jF.at {w : World} {a : Option Addr} {n c : Nat} {zs : List Int} (h : jF w (.slice a n c) zs) : aV w a zs := by
 obtain ⟨a', c', hv, hi⟩ := h
 cases hv; exact hi
end
section
open Go.RowKit
structure Rh (ah : List (List Int)) (o : Nat → Bool) (us : List Int) (r : (Nat → Bool) × List Int) : Prop where
 shut : ∀ i, r.1 i = true → o i = true
 mem : ∀ i, i < ah.length → ((i : Int) ∈ r.2 ↔ o i = true ∧ r.1 i = false)
 nat : ∀ x ∈ r.2, ∃ i : Nat, x = (i : Int) ∧ i < ah.length
 nodup : r.2.Nodup
 reach : ∀ i, i < ah.length → o i = true → r.1 i = false → (i : Int) ∈ us ∨ wG ah (fun _ => true) us i
 Zg : ∀ i, i < ah.length → o i = true → r.1 i = false → ∀ j : Nat, (j : Int) ∈ row ah i → r.1 j = false
 self : ∀ u : Nat, (u : Int) ∈ us → r.1 u = false
theorem Zh {ah : List (List Int)} {I : Nat → Bool} {F G : List Int} (h : ∀ x ∈ F, x ∈ G) {v : Nat} (hr : wG ah I F v) : wG ah I G v := by
 induction hr with
 | one hf hm hI => exact .one (h _ hf) hm hI
 | more _ hm hI ih => exact .more ih hm hI
theorem Rh.list {ah : List (List Int)} {step : (Nat → Bool) → Nat → (Nat → Bool) × List Int} {m : Nat} (h : ∀ o v, v < ah.length → opens o ah.length < m → Rh ah o [(v : Int)] (step o v)) (us : List Int) (hus : ∀ x ∈ us, ∃ v : Nat, x = (v : Int) ∧ v < ah.length) :
 ∀ o, opens o ah.length < m → Rh ah o us (lZ step o us) := by
 induction us with
 | nil => intro o _; exact ⟨fun i h => h, fun i _ => by simp [lZ], fun x hx => by simp [lZ] at hx, by simp [lZ], fun i _ h1 h2 => by simp [lZ, h1] at h2, fun i _ h1 h2 => by simp [lZ, h1] at h2, fun u hu => by simp at hu⟩
 | cons u us ih =>
   intro o ho
   obtain ⟨v, hv, hvn⟩ := hus u (by simp)
   subst hv
   have h1 := h o v hvn ho
   have h2 := ih (fun x hx => hus x (by simp [hx])) (step o v).1 (Nat.lt_of_le_of_lt (aeK fun i _ hi => h1.shut i hi) ho)
   have Ri : ∀ i, (step o v).1 i = false → (lZ step (step o v).1 us).1 i = false := fun i hi => by
    cases hb : (lZ step (step o v).1 us).1 i with
    | false => rfl
    | true => rw [h2.shut i hb] at hi; cases hi
   refine ⟨fun i hi => ?_, fun i hi => ?_, fun x hx => ?_, ?_, fun i hi hoi hr => ?_, fun i hi hoi hr j hj => ?_, fun w hw => ?_⟩
   · simp only [lZ, Int.toNat_natCast] at hi
     exact h1.shut i (h2.shut i hi)
   · simp only [lZ, Int.toNat_natCast, List.mem_append, h1.mem i hi, h2.mem i hi]
     constructor
     · rintro (⟨ha, hb⟩ | ⟨ha, hb⟩)
       · exact ⟨ha, Ri i hb⟩
       · exact ⟨h1.shut i ha, hb⟩
     · rintro ⟨ha, hb⟩
       cases hc : (step o v).1 i with
       | false => exact .inl ⟨ha, rfl⟩
       | true => exact .inr ⟨rfl, hb⟩
   · simp only [lZ, Int.toNat_natCast, List.mem_append] at hx
     exact hx.elim (h1.nat x) (h2.nat x)
   · simp only [lZ, Int.toNat_natCast]
     refine List.nodup_append.2 ⟨h1.nodup, h2.nodup, fun a ha b hb hab => ?_⟩
     subst hab
     obtain ⟨i, rfl, hi⟩ := h1.nat a ha
     have q1 := ((h1.mem i hi).1 ha).2
     have q2 := ((h2.mem i hi).1 hb).1
     rw [q1] at q2; cases q2
   · simp only [lZ, Int.toNat_natCast] at hr
     cases hc : (step o v).1 i with
     | false =>
       rcases h1.reach i hi hoi hc with hh | hh
       · left; simp at hh; simp; left; omega
       · right; exact Zh (fun x hx => by simp at hx; simp [hx]) hh
     | true =>
       rcases h2.reach i hi hc hr with hh | hh
       · left; simp [hh]
       · right; exact Zh (fun x hx => by simp [hx]) hh
   · simp only [lZ, Int.toNat_natCast] at hr ⊢
     cases hc : (step o v).1 i with
     | false => exact Ri j (h1.Zg i hi hoi hc j hj)
     | true => exact h2.Zg i hi hc hr j hj
   · simp only [lZ, Int.toNat_natCast]
     simp only [List.mem_cons] at hw
     rcases hw with hw | hw
     · exact Ri w (h1.self w (by simp; omega))
     · exact h2.self w hw
theorem Zi (xs : Nat → Bool) (k : Nat) : (aU xs k).Pairwise (· < ·) := by
 induction k with
 | zero => simp [aU]
 | succ k ih =>
   simp only [aU]
   refine List.pairwise_append.2 ⟨ih, by split <;> simp, fun a ha b hb => ?_⟩
   obtain ⟨v, rfl, hv, _⟩ := (zJ xs k a).1 ha
   split at hb
   · simp at hb; omega
   · simp at hb
end
section
section
open Go.RowKit
end
section
open Go.RowKit
end
end
section
section
open Go.RowKit
theorem aeQ {a b c d : Value} : ∀ i, i < 3 → (if i = 1 then d else tri a b c i) = tri a d c i := fun i hi => by
 have h : i = 0 ∨ i = 1 ∨ i = 2 := by omega
 rcases h with rfl | rfl | rfl <;> simp [tri]
end
section
open Go.RowKit
end
end
end Go.Proofs.YtglbkbiphcgidaaDoor
namespace Go.Proofs.YtglbkbiphcgidaaDoor
section
section
open Go.RowKit
end
section
open Go.RowKit
end
end
section
section
open Go.RowKit
theorem aV.take {w : World} {a : Option Addr} {zs : List Int} (h : aV w a zs) (k : Nat) (hk : k ≤ zs.length) : aV w a (zs.take k) := by
 have hl : (zs.take k).length = k := by simp; omega
 have hn : ∀ j, j < k → nth (zs.take k) j = nth zs j := fun j hj => by simp [nth, hj]
 refine ⟨by rw [hl]; have := h.len; omega, fun j hj => ?_, fun h0 => ?_⟩
 · rw [hl] at hj; rw [hn j hj]; exact h.fits j (by omega)
 · rw [hl] at h0
   obtain ⟨b, off, ha, hc⟩ := h.cell (by omega)
   exact ⟨b, off, ha, fun j hj => by rw [hl] at hj; rw [hn j hj]; exact hc j (by omega)⟩
end
section
open Go.RowKit
structure BytesAt (w : World) (a : Option Addr) (bs : List Int) : Prop where
 len : bs.length ≤ 140737488355328
 byt : ∀ k, k < bs.length → ∃ b off, a = some ⟨b, off, none⟩ ∧ w.cell? ⟨b, off + k, none⟩ = some (.int .u8 (nth bs k)) ∧ 0 ≤ nth bs k ∧ nth bs k ≤ 255
theorem Only.new {S T : Nat → Prop} {a b c : World} (h : Only S a b) (k : Only T b c) (ht : ∀ x, T x → S x ∨ a.heap.size ≤ x) : Only S a c :=
 ⟨k.os.trans h.os, k.tape.trans h.tape, k.output.trans h.output, Nat.le_trans h.size k.size, fun i hi hs => (k.block i (Nat.lt_of_lt_of_le hi h.size) (fun hT => by
  rcases ht i hT with h1 | h1
  · exact hs h1
  · omega)).trans (h.block i hi hs)⟩
theorem aV.only {w w' : World} {S : Nat → Prop} {b : Nat} {zs : List Int} (h : aV w (some ⟨b, 0, none⟩) zs) (hk : Only S w w') (hb : b < w.heap.size) (hs : ¬ S b) : aV w' (some ⟨b, 0, none⟩) zs :=
 ⟨h.len, h.fits, fun h0 => by
  obtain ⟨b', off, ha, hc⟩ := h.cell h0
  cases ha
  exact ⟨b, 0, rfl, fun k hk' => by
   rw [World.cell?_of_block (w := w) (hk.block b hb hs)]
   exact hc k hk'⟩⟩
theorem aF.snoc {w : World} {B D : Nat} {v v' : Value} {zs : List Int} {x : Int} {w' : World} (h : aF w B D v zs) (hx : Fits x) (hl : zs.length ≤ 1048576) (ho : w'.ownsRow B 2 1 v' (zs.length + 1) (zs.map (Value.int .i64) ++ [.int .i64 x])) : aF w' B w'.heap.size v' (zs ++ [x]) := by
 refine aF.mk' (by simpa using ho) (by simp; omega) fun k hk => ?_
 have hm := jo hk
 generalize nth (zs ++ [x]) k = y at hm
 rcases List.mem_append.1 hm with hm | hm
 · obtain ⟨j, hj, e⟩ := rF.1 hm
   rw [← e]; exact h.fits j hj
 · simp at hm; rw [hm]; exact hx
end
end
section
open Go.RowKit
end
section
open Go.RowKit
section
open Go.RowKit
theorem BytesAt.below {w w' : World} {a : Option Addr} {bs : List Int} (h : BytesAt w a bs) (hb : Below w.heap.size w w') : BytesAt w' a bs :=
 ⟨h.len, fun k hk => by
  obtain ⟨b, off, h1, h2, h3⟩ := h.byt k hk
  exact ⟨b, off, h1, Below.CJ (B := 0) hb rfl h2, h3⟩⟩
end
end
section
open Go.RowKit
structure iW (n : Nat) (wr : World) (t : Nat) (vo vn : Value) (V : Nat → Value) (O : List Int) (ah : List (List Int)) : Prop where
 base : n ≤ t
 str : aI wr t 33 vo vn
 ints : aF wr n wr.heap.size vo O
 rows : OwnRows wr n wr.heap.size vn V ah
 apart : ∀ i, i < ah.length → ∀ g, (V i).ownBlock = some g → vo.ownBlock ≠ some g
theorem iW.only {n t : Nat} {wr wr' : World} {vo vn : Value} {V : Nat → Value} {O : List Int} {ah : List (List Int)} {S : Nat → Prop} (h : iW n wr t vo vn V O ah) (hk : Only S wr wr') (hs : ∀ b, S b → b < n) : iW n wr' t vo vn V O ah :=
 ⟨h.base, h.str.only hk (fun e => by have := hs _ e; have := h.base; omega), (h.ints.only hk (fun g hg e => by have := hs _ e; have := (h.ints.own.lt g hg).1; omega)).bg,
  (h.rows.only hk (fun g hg e => by have := hs _ e; have := (h.rows.own.lt g hg).1; omega) (fun k hk' g hg e => by have := hs _ e; have := ((h.rows.rows k hk').own.lt g hg).1; omega)).bg, h.apart⟩
theorem iW.keep {n t : Nat} {wr wr' : World} {vo vn : Value} {V : Nat → Value} {O : List Int} {ah : List (List Int)} (h : iW n wr t vo vn V O ah) (hb : Below wr.heap.size wr wr') : iW n wr' t vo vn V O ah :=
 h.only (S := fun _ => False) (Only.of_below hb) (fun _ h => h.elim)
theorem iW.owner {n t gg cap : Nat} {wr w1 : World} {vo vn : Value} {V : Nat → Value} {O : List Int} {x : Int} {ah : List (List Int)} (h : iW n wr t vo vn V O ah) (hl : O.length ≤ 1048576) (hx : Fits x)
 (hown1 : w1.ownsRow n 2 1 (.slice (some ⟨gg, 0, none⟩) (O.length + 1) cap) (O.length + 1) (O.map (Value.int .i64) ++ [.int .i64 x])) (hgrow : wr.grownBy w1 vo.ownBlock) (hat : vo.ownBlock = some gg ∨ wr.heap.size ≤ gg) :
 iW n (w1.setCell ⟨t, 0, none⟩ (.slice (some ⟨gg, 0, none⟩) (O.length + 1) cap)) t (.slice (some ⟨gg, 0, none⟩) (O.length + 1) cap) vn V (O ++ [x]) ah ∧
  Only (fun b => n ≤ b) wr (w1.setCell ⟨t, 0, none⟩ (.slice (some ⟨gg, 0, none⟩) (O.length + 1) cap)) := by
 have hown := h.ints.own
 have hT1 := h.str.grown hown (by decide) hgrow
 have hI : aF w1 n w1.heap.size (.slice (some ⟨gg, 0, none⟩) (O.length + 1) cap) (O ++ [x]) := h.ints.snoc hx hl hown1
 have hR := h.rows.only (Only.dV hgrow) (fun g h1 h2 => iV h.rows.own hown g h1 h2) (fun k hk g h1 h2 => h.apart k hk g h1 h2)
 have hS := aI.zI (w := w1) (t := t) (.slice (some ⟨gg, 0, none⟩) (O.length + 1) cap)
 refine ⟨⟨h.base, hT1.set0 _, (hI.only hS (fun g hg e => hT1.dL hI.own (by decide) (by rw [hg, e]))).bg, (hR.only hS (fun g hg e => hT1.dL hR.own (by decide) (by rw [hg, e])) (fun k hk g hg e => hT1.dL (hR.rows k hk).own (by decide) (by rw [hg, e]))).bg, fun i hi g hg hh => ?_⟩, ?_⟩
 · simp [Value.ownBlock] at hh
   subst hh
   rcases hat with h' | h'
   · exact h.apart i hi _ hg h'
   · have := (h.rows.rows i hi).top _ hg
     omega
 · exact ((Only.dV hgrow).mono fun b hb => (hown.lt b hb).1).trans (hS.mono fun b hb => by rw [hb]; exact h.base)
theorem iW.push {n t gg cap : Nat} {wr w3 : World} {vo vn u : Value} {V : Nat → Value} {O zs : List Int} {ah : List (List Int)} {B D : Nat} (h : iW n wr t vo vn V O ah) (hl : ah.length ≤ 1048576)
 (hu : aF wr B D u zs) (hB : n ≤ B) (I5 : ∀ i, i < ah.length → ∀ g, u.ownBlock = some g → (V i).ownBlock ≠ some g) (hvu : ∀ g, u.ownBlock = some g → vo.ownBlock ≠ some g)
 (hown3 : w3.ownsRow n 22 1 (.slice (some ⟨gg, 0, none⟩) (ah.length + 1) cap) (ah.length + 1) ((List.range ah.length).map V ++ [u])) (hgrow : wr.grownBy w3 vn.ownBlock) :
 iW n (w3.setCell ⟨t, 1, none⟩ (.slice (some ⟨gg, 0, none⟩) (ah.length + 1) cap)) t vo (.slice (some ⟨gg, 0, none⟩) (ah.length + 1) cap) (fun i => if i = ah.length then u else V i) O (ah ++ [zs]) ∧
  Only (fun b => n ≤ b) wr (w3.setCell ⟨t, 1, none⟩ (.slice (some ⟨gg, 0, none⟩) (ah.length + 1) cap)) := by
 have hown := h.rows.own
 have kJ := h.str.grown hown (by decide) hgrow
 have wE : aF w3 n w3.heap.size vo O := (h.ints.only (Only.dV hgrow) (fun g h1 h2 => iV hown h.ints.own g h2 h1)).bg
 have hrows := h.rows.push (w1 := w3) (hu.base hB) (fun i hi g h1 h3 => I5 i hi g h1 h3) hown3 (Only.dV hgrow) (by omega)
 have hS : Only (fun b => b = t) w3 (w3.setCell ⟨t, 1, none⟩ (.slice (some ⟨gg, 0, none⟩) (ah.length + 1) cap)) := aI.I4 _
 refine ⟨⟨h.base, kJ.set1 _, (wE.only hS (fun g hg e => kJ.dL wE.own (by decide) (by rw [hg, e]))).bg, (hrows.only hS (fun g hg e => kJ.dL hrows.own (by decide) (by rw [hg, e])) (fun k hk g hg e => kJ.dL (hrows.rows k hk).own (by decide) (by rw [hg, e]))).bg, fun i hi g hg => ?_⟩, ?_⟩
 · by_cases e : i = ah.length
   · subst e
     simp only [if_true] at hg
     exact hvu g hg
   · simp only [if_neg e] at hg
     exact h.apart i (by simp at hi; omega) g hg
 · exact ((Only.dV hgrow).mono fun b hb => (hown.lt b hb).1).trans (hS.mono fun b hb => by rw [hb]; exact h.base)
theorem iW.give {w wr : World} {t r : Nat} {vo vn : Value} {V : Nat → Value} {O : List Int} {ah : List (List Int)} {x y : Value} (h : iW w.heap.size wr t vo vn V O ah) (hr : aI wr r 33 x y) :
 jm ((wr.setCell ⟨r, 0, none⟩ vo).setCell ⟨r, 1, none⟩ vn) w.heap.size ((wr.setCell ⟨r, 0, none⟩ vo).setCell ⟨r, 1, none⟩ vn).heap.size (.agg #[vo, vn]) O ah := by
 have hS : Only (fun b => b = r) wr ((wr.setCell ⟨r, 0, none⟩ vo).setCell ⟨r, 1, none⟩ vn) := (aI.zI _).trans (aI.I4 _)
 exact ⟨_, _, V, rfl, (h.ints.only hS (fun g hg e => hr.dL h.ints.own (by decide) (by rw [hg, e]))).bg, (h.rows.only hS (fun g hg e => hr.dL h.rows.own (by decide) (by rw [hg, e])) (fun k hk g hg e => hr.dL (h.rows.rows k hk).own (by decide) (by rw [hg, e]))).bg, h.apart⟩
end
section
open Go.RowKit
theorem Zj {ah : List (List Int)} {v k : Nat} {zs : List Int} (hv : v < ah.length) : row (ah.set v zs) k = if k = v then zs else row ah k := by
 unfold row
 by_cases e : k = v
 · subst e; simp [hv]
 · rw [if_neg e]; simp [Ne.symm e]
theorem iW.putRow {n t g cap v : Nat} {wr w7 : World} {vo u : Value} {V : Nat → Value} {O zs : List Int} {ah : List (List Int)} (h : iW n wr t vo (.slice (some ⟨g, 0, none⟩) ah.length cap) V O ah) (hv : v < ah.length)
 (hg : Only (fun b => (V v).ownBlock = some b) wr w7) (hu : aF w7 n w7.heap.size u zs) (hw : u.ownBlock = (V v).ownBlock ∨ ∃ X, u.ownBlock = some X ∧ wr.heap.size ≤ X) :
 iW n (w7.setCell ⟨g, v, none⟩ u) t vo (.slice (some ⟨g, 0, none⟩) ah.length cap) (fun i => if i = v then u else V i) O (ah.set v zs) ∧ Only (fun b => n ≤ b) wr (w7.setCell ⟨g, v, none⟩ u) := by
 have hVv := h.rows.rows v hv
 have ho := kH h.rows.own hg (iV h.rows.own hVv.own)
 obtain ⟨hs, hgr⟩ := ho.stored v u
 have hgn : n ≤ g := (ho.lt g rfl).1
 have hS : Only (fun b => b = g) w7 (w7.setCell ⟨g, v, none⟩ u) := Only.setCell (S := fun b => b = g) (Only.refl _ _) (p := ⟨g, v, none⟩) rfl _
 have hl : (ah.set v zs).length = ah.length := by simp
 have e : ((List.range ah.length).map V).set v u = (List.range ah.length).map (fun i => if i = v then u else V i) := by
  apply List.ext_getElem?
  intro i
  by_cases hi : i < ah.length
  · by_cases e : i = v
    · subst e; simp [hi]
    · simp [hi, e, Ne.symm e]
  · simp [hi]
 rw [e] at hs
 have hI : aF w7 n w7.heap.size vo O := (h.ints.only hg (fun b hb e => h.apart v hv b e hb)).bg
 have hR : ∀ k, k < ah.length → k ≠ v → aF w7 n w7.heap.size (V k) (row ah k) := fun k hk hne => ((h.rows.rows k hk).only hg (h.rows.apart k v hk hv hne)).bg
 have hown : ∀ {zs' : List Int} {x : Value}, aF w7 n w7.heap.size x zs' → ∀ b, x.ownBlock = some b → ¬ b = g := fun hx b hb e => iV ho hx.own b (by rw [e]; rfl) hb
 have hstr : aI w7 t 33 vo (.slice (some ⟨g, 0, none⟩) ah.length cap) := h.str.only hg (fun e => h.str.dL hVv.own (by decide) e)
 have Zk : ∀ i, i < ah.length → i ≠ v → ∀ b, u.ownBlock = some b → (V i).ownBlock ≠ some b := fun i hi hne b hb hb' => by
  rcases hw with hw | ⟨X, hX, hge⟩
  · rw [hw] at hb; exact h.rows.apart i v hi hv hne b hb' hb
  · rw [hX] at hb; have := (h.rows.rows i hi).top b hb'; simp at hb; omega
 refine ⟨⟨h.base, hstr.only hS (fun e => hstr.dL ho (by decide) (by rw [e]; rfl)), (hI.only hS (hown hI)).bg, ⟨by rw [hl]; exact hs, fun g' hg => (hs.lt g' hg).2, by rw [hl]; exact h.rows.len, fun k hk => ?_, fun i j hi hj hne b hb hb' => ?_⟩, fun i hi b hb => ?_⟩, ?_⟩
 · rw [hl] at hk
   rw [Zj hv]
   by_cases e : k = v
   · simp only [if_pos e]; exact (hu.only hS (hown hu)).bg
   · simp only [if_neg e]; exact ((hR k hk e).only hS (hown (hR k hk e))).bg
 · rw [hl] at hi hj
   by_cases e1 : i = v
   · rw [if_pos e1] at hb
     rw [if_neg (by omega)] at hb'
     exact Zk j hj (by omega) b hb hb'
   · rw [if_neg e1] at hb
     by_cases e2 : j = v
     · rw [if_pos e2] at hb'
       exact Zk i hi e1 b hb' hb
     · rw [if_neg e2] at hb'
       exact h.rows.apart i j hi hj hne b hb hb'
 · rw [hl] at hi
   by_cases e1 : i = v
   · simp only [if_pos e1] at hb
     intro hb'
     rcases hw with hw | ⟨X, hX, hge⟩
     · rw [hw] at hb; exact h.apart v hv b hb hb'
     · rw [hX] at hb; have := h.ints.top b hb'; simp at hb; omega
   · simp only [if_neg e1] at hb; exact h.apart i hi b hb
 · exact (hg.mono fun b hb => (hVv.own.lt b hb).1).trans (hS.mono fun b hb => by omega)
theorem iW.Zl {n t g cap v : Nat} {wr : World} {vo : Value} {V : Nat → Value} {O : List Int} {ah : List (List Int)} (h : iW n wr t vo (.slice (some ⟨g, 0, none⟩) ah.length cap) V O ah) (hv : v < ah.length) : wr.cell? ⟨g, v, none⟩ = some (V v) ∧ wr.frozen? ⟨g, v, none⟩ = false := by
 have hc := h.rows.own.cellAt v (by omega)
 have hf := h.rows.own.frozenAt v
 refine ⟨?_, hf⟩
 rw [hc]; simp [hv]
theorem aeR (w : World) (x : Int) (hx : Fits x) : aF (w.alloc (.cells #[.int .i64 x] 2)) w.heap.size (w.heap.size + 1) (.slice (some ⟨w.heap.size, 0, none⟩) 1 1) [x] :=
 ⟨⟨by simp, .inr ⟨w.heap.size, 1, _, rfl, Nat.le_refl _, heap_alloc_new w _, Nat.le_refl _, by unfold maxLen; omega, by simp, by simp⟩⟩, fun g hg => by simp [Value.ownBlock] at hg; omega, by simp, fun k hk => by
   have : k = 0 := by simp at hk; omega
   subst this; exact hx⟩
theorem jm.base {w : World} {B B' D : Nat} {v : Value} {O : List Int} {ah : List (List Int)} (h : jm w B D v O ah) (hB : B' ≤ B) : jm w B' D v O ah := by
 obtain ⟨vo, vn, V, hv, h1, h2, h4⟩ := h
 exact ⟨vo, vn, V, hv, h1.base hB, h2.base hB, h4⟩
end
end Go.Proofs.YtglbkbiphcgidaaDoor
namespace Go.Proofs.YtglbkbiphcgidaaDoor
section
open Go.RowKit
def gX (w : World) (v : Value) (O : List Int) (ah : List (List Int)) (P : List Int) : Prop :=
 ∃ ao an ap co cn cp A C, v = .agg #[.slice ao O.length co, .slice an ah.length cn, .slice ap P.length cp] ∧ aV w ao O ∧ dU w an A C ah ∧ aV w ap P
theorem gX.below {w w' : World} {v : Value} {O : List Int} {ah : List (List Int)} {P : List Int} (h : gX w v O ah P) (hb : Below w.heap.size w w') : gX w' v O ah P := by
 obtain ⟨ao, an, ap, co, cn, cp, A, C, hv, h1, h2, h3⟩ := h
 exact ⟨ao, an, ap, co, cn, cp, A, C, hv, h1.below hb, h2.below hb, h3.below hb⟩
def zL (P : List Int) : Bool := decide (∀ x ∈ P, 0 ≤ x ∧ x ≤ 40)
noncomputable def fZ (O : List Int) (ah : List (List Int)) (P : List Int) : Bool := gW O ah && (decide (P.length = O.length) && zL P)
theorem aeS {P : List Int} (h : ∀ k, k < P.length → 0 ≤ nth P k ∧ nth P k ≤ 40) : zL P = true := decide_eq_true fun x hx => by
 obtain ⟨k, hk, rfl⟩ := rF.1 hx
 exact h k hk
theorem aeT {P : List Int} {k : Nat} (hk : k < P.length) (h : ¬ (0 ≤ nth P k ∧ nth P k ≤ 40)) : zL P = false := decide_eq_false fun hh => h (hh _ (jo hk))
theorem iY {O : List Int} {ah : List (List Int)} {P : List Int} : fZ O ah P = true ↔ lJ O ah ∧ P.length = O.length ∧ ∀ x ∈ P, 0 ≤ x ∧ x ≤ 40 := by
 unfold fZ zL
 rw [Bool.and_eq_true, Bool.and_eq_true, YO, decide_eq_true_eq, decide_eq_true_eq]
theorem Zm (w : World) (T : TypeId) (a b c : Value) : (w.alloc (.cells #[a, b, c] T)).rowIs w.heap.size T 3 (tri a b c) := by
 refine ⟨_, heap_alloc_new w _, by simp, fun j hj => ?_⟩
 have hj3 : j = 0 ∨ j = 1 ∨ j = 2 := by omega
 rcases hj3 with rfl | rfl | rfl <;> rfl
def aT (w : World) (g : Nat) (t : TypeId) (a b c : Value) : Prop := w.rowIs g t 3 (tri a b c)
theorem aT.new (w : World) (T : TypeId) (a b c : Value) : aT (w.alloc (.cells #[a, b, c] T)) w.heap.size T a b c := Zm w T a b c
theorem aT.below {w w' : World} {g : Nat} {t : TypeId} {a b c : Value} (h : aT w g t a b c) (hb : Below w.heap.size w w') : aT w' g t a b c := bY h hb
theorem aT.c0 {w : World} {g : Nat} {t : TypeId} {a b c : Value} (h : aT w g t a b c) : w.cell? ⟨g, 0, none⟩ = some a := World.rowIs.cell (i := 0) h (by omega)
theorem aT.c1 {w : World} {g : Nat} {t : TypeId} {a b c : Value} (h : aT w g t a b c) : w.cell? ⟨g, 1, none⟩ = some b := World.rowIs.cell (i := 1) h (by omega)
theorem aT.c2 {w : World} {g : Nat} {t : TypeId} {a b c : Value} (h : aT w g t a b c) : w.cell? ⟨g, 2, none⟩ = some c := World.rowIs.cell (i := 2) h (by omega)
theorem aT.lt {w : World} {g : Nat} {t : TypeId} {a b c : Value} (h : aT w g t a b c) : g < w.heap.size := World.rowIs.lt h
end
section
open Go.RowKit
def eG (w : World) (B D : Nat) (v : Value) (O : List Int) (ah : List (List Int)) (P : List Int) : Prop :=
 ∃ vo vn vp V, v = .agg #[vo, vn, vp] ∧ aF w B D vo O ∧ OwnRows w B D vn V ah ∧ aF w B D vp P ∧ (∀ k, k < ah.length → ∀ g, (V k).ownBlock = some g → vo.ownBlock ≠ some g) ∧
  (∀ k, k < ah.length → ∀ g, (V k).ownBlock = some g → vp.ownBlock ≠ some g) ∧ ∀ g, vo.ownBlock = some g → vp.ownBlock ≠ some g
section
variable {w w' : World} {B B' D : Nat} {v : Value} {O P : List Int} {ah : List (List Int)}
theorem eG.at (h : eG w B D v O ah P) : gX w v O ah P := by
 obtain ⟨vo, vn, vp, V, rfl, h1, h2, h3, _⟩ := h
 obtain ⟨a, c, rfl, hi, _⟩ := h1.shape
 obtain ⟨a', c', rfl, hr, _⟩ := h2.shape
 obtain ⟨b, d, rfl, hp, _⟩ := h3.shape
 exact ⟨_, _, _, _, _, _, _, _, rfl, hi, hr, hp⟩
theorem eG.only {S : Nat → Prop} (h : eG w B D v O ah P) (hk : Only S w w') (hs : ∀ g, B ≤ g → g < D → ¬ S g) : eG w' B D v O ah P := by
 obtain ⟨vo, vn, vp, V, hv, h1, h2, h3, h4⟩ := h
 refine ⟨vo, vn, vp, V, hv, h1.only hk (fun g hg => hs g (h1.own.lt g hg).1 (h1.top g hg)), h2.only hk (fun g hg => hs g (h2.own.lt g hg).1 (h2.top g hg)) (fun k hk' g hg => hs g ((h2.rows k hk').own.lt g hg).1 ((h2.rows k hk').top g hg)), h3.only hk (fun g hg => hs g (h3.own.lt g hg).1 (h3.top g hg)), h4⟩
theorem eG.below (h : eG w B D v O ah P) (hb : Below w.heap.size w w') : eG w' B D v O ah P := by
 obtain ⟨vo, vn, vp, V, hv, h1, h2, h3, h4⟩ := h
 exact ⟨vo, vn, vp, V, hv, h1.below hb, h2.below hb, h3.below hb, h4⟩
theorem eG.base (h : eG w B D v O ah P) (hB : B' ≤ B) : eG w B' D v O ah P := by
 obtain ⟨vo, vn, vp, V, hv, h1, h2, h3, h4⟩ := h
 exact ⟨vo, vn, vp, V, hv, h1.base hB, h2.base hB, h3.base hB, h4⟩
theorem eG.bg (h : eG w B D v O ah P) : eG w B w.heap.size v O ah P := by
 obtain ⟨vo, vn, vp, V, hv, h1, h2, h3, h4⟩ := h
 exact ⟨vo, vn, vp, V, hv, h1.bg, h2.bg, h3.bg, h4⟩
theorem eG.zero (w : World) (B D : Nat) : eG w B D (.agg #[.slice none 0 0, .slice none 0 0, .slice none 0 0]) [] [] [] :=
 ⟨_, _, _, _, rfl, aF.nil _ _ _, OwnRows.nil _ _ _, aF.nil _ _ _, fun k hk => absurd hk (by simp), fun k hk => absurd hk (by simp), fun g hg => by simp [Value.ownBlock] at hg⟩
theorem eG.shape (h : eG w B D v O ah P) : ∃ a0 c0 a1 c1 a2 c2, v = .agg #[.slice a0 O.length c0, .slice a1 ah.length c1, .slice a2 P.length c2] := by
 obtain ⟨ao, an, ap, co, cn, cp, A, C, hv, _⟩ := h.at
 exact ⟨_, _, _, _, _, _, hv⟩
theorem eG.aj8 {vo vn vp : Value} (h : eG w B D (.agg #[vo, vn, vp]) O ah P) : jm w B D (.agg #[vo, vn]) O ah ∧ aF w B D vp P := by
 obtain ⟨Rj, Rk, vp', V, hv, h1, h2, h3, h4, _⟩ := h
 cases hv
 exact ⟨⟨_, _, V, rfl, h1, h2, h4⟩, h3⟩
theorem eG.Rl {vo vn vp : Value} {M : Nat} (h : jm w B M (.agg #[vo, vn]) O ah) (hp : aF w M D vp P) (Ro : B ≤ M) (hMD : M ≤ D) : eG w B D (.agg #[vo, vn, vp]) O ah P := by
 obtain ⟨Rj, Rk, V, hv, h1, h2, h4⟩ := h
 cases hv
 refine ⟨_, _, _, V, rfl, ⟨h1.own, fun g hg => by have := h1.top g hg; omega, h1.len, h1.fits⟩, ⟨h2.own, fun g hg => by have := h2.top g hg; omega, h2.len, fun k hk => ?_, h2.apart⟩, hp.base Ro, h4, fun k hk g hg hh => ?_, fun g hg hh => ?_⟩
 · have h := h2.rows k hk
   exact ⟨h.own, fun g hg => by have := h.top g hg; omega, h.len, h.fits⟩
 · have := (h2.rows k hk).top g hg
   have := (hp.own.lt g hh).1
   omega
 · have := h1.top g hg
   have := (hp.own.lt g hh).1
   omega
end
def aeU (w : World) (O : List Int) (ah : List (List Int)) (P : List Int) (e : Ending) (w' : World) : Prop :=
 ∃ v, e = .returned v ∧ eG w' w.heap.size w'.heap.size v O ah P ∧ Below w.heap.size w w'
def Zn (w : World) (O : List Int) (ah : List (List Int)) (P : List Int) (r : Bool) (e : Ending) (w' : World) : Prop :=
 ∃ v, e = .returned (.tuple #[v, .bool r]) ∧ eG w' w.heap.size w'.heap.size v O ah P ∧ Below w.heap.size w w'
theorem I8 {w wr : World} {r : Nat} (hb : Below w.heap.size w wr) (hr : w.heap.size ≤ r) : Below w.heap.size w (((wr.setCell ⟨r, 0, none⟩ (.slice none 0 0)).setCell ⟨r, 1, none⟩ (.slice none 0 0)).setCell ⟨r, 2, none⟩ (.slice none 0 0)) :=
 ((hb.setCell (p := ⟨r, 0, none⟩) hr _).setCell (p := ⟨r, 1, none⟩) hr _).setCell (p := ⟨r, 2, none⟩) hr _
end
section
open Go.RowKit
theorem CW {w : World} {b n B size m : Nat} {t e : TypeId} {f : Nat → Value} {v : Value} {xs : List Value} (h : w.rowIs b t n f) (ho : w.ownsRow B e size v m xs) (hte : e ≠ t) : v.ownBlock ≠ some b := by
 intro hb
 obtain ⟨c, hc, _⟩ := h
 rcases ho.2 with ⟨rfl, _⟩ | ⟨g, _, _, rfl, _, h1, _⟩
 · simp [Value.ownBlock] at hb
 · simp [Value.ownBlock] at hb
   subst hb
   rw [hc] at h1
   simp at h1
   exact hte h1.2.symm
theorem zM {w w1 : World} {b n B size m : Nat} {t e : TypeId} {f : Nat → Value} {v : Value} {xs : List Value} (h : w.rowIs b t n f) (ho : w.ownsRow B e size v m xs) (hte : e ≠ t) (hg : w.grownBy w1 v.ownBlock) : w1.rowIs b t n f :=
 fV h (Only.dV hg) (fun hb => CW h ho hte hb)
theorem aeV {a b c d : Value} : ∀ i, i < 3 → (if i = 0 then d else tri a b c i) = tri d b c i := fun i hi => by
 by_cases h : i = 0 <;> simp [tri, h]
structure iF (n : Nat) (wr : World) (t : Nat) (vo vn vp : Value) (V : Nat → Value) (O : List Int) (ah : List (List Int)) (P : List Int) : Prop where
 base : n ≤ t
 str : wr.rowIs t 35 3 (tri vo vn vp)
 ints : aF wr n wr.heap.size vo O
 rows : OwnRows wr n wr.heap.size vn V ah
 prio : aF wr n wr.heap.size vp P
 apart : ∀ i, i < ah.length → ∀ g, (V i).ownBlock = some g → vo.ownBlock ≠ some g
 app : ∀ i, i < ah.length → ∀ g, (V i).ownBlock = some g → vp.ownBlock ≠ some g
 I9 : ∀ g, vo.ownBlock = some g → vp.ownBlock ≠ some g
section
variable {n t : Nat} {wr wr' w1 : World} {vo vn vp : Value} {V : Nat → Value} {O P : List Int} {ah : List (List Int)}
theorem iF.only {S : Nat → Prop} (h : iF n wr t vo vn vp V O ah P) (hk : Only S wr wr') (hs : ∀ b, S b → b < n) : iF n wr' t vo vn vp V O ah P :=
 ⟨h.base, fV h.str hk (fun e => by have := hs _ e; have := h.base; omega), (h.ints.only hk (fun g hg e => by have := hs _ e; have := (h.ints.own.lt g hg).1; omega)).bg,
  (h.rows.only hk (fun g hg e => by have := hs _ e; have := (h.rows.own.lt g hg).1; omega) (fun k hk' g hg e => by have := hs _ e; have := ((h.rows.rows k hk').own.lt g hg).1; omega)).bg,
  (h.prio.only hk (fun g hg e => by have := hs _ e; have := (h.prio.own.lt g hg).1; omega)).bg, h.apart, h.app, h.I9⟩
theorem iF.keep (h : iF n wr t vo vn vp V O ah P) (hb : Below wr.heap.size wr wr') : iF n wr' t vo vn vp V O ah P :=
 h.only (S := fun _ => False) (Only.of_below hb) (fun _ h => h.elim)
theorem iF.ints_set (hT : wr.rowIs t 35 3 (tri vo vn vp)) {u : Value} {zs : List Int} (h : aF wr n wr.heap.size u zs) (i : Nat) (x : Value) : aF (wr.setCell ⟨t, i, none⟩ x) n (wr.setCell ⟨t, i, none⟩ x).heap.size u zs :=
 (h.only ((Only.refl (fun b => b = t) wr).setCell (p := ⟨t, i, none⟩) rfl x) (fun g hg e => CW hT h.own (by decide) (by rw [hg, e]))).bg
theorem iF.Zo (hT : wr.rowIs t 35 3 (tri vo vn vp)) {u : Value} (h : OwnRows wr n wr.heap.size u V ah) (i : Nat) (x : Value) : OwnRows (wr.setCell ⟨t, i, none⟩ x) n (wr.setCell ⟨t, i, none⟩ x).heap.size u V ah :=
 (h.only ((Only.refl (fun b => b = t) wr).setCell (p := ⟨t, i, none⟩) rfl x) (fun g hg e => CW hT h.own (by decide) (by rw [hg, e])) (fun k hk g hg e => CW hT (h.rows k hk).own (by decide) (by rw [hg, e]))).bg
theorem iF.owner {gg cap : Nat} {x : Int} (h : iF n wr t vo vn vp V O ah P) (hl : O.length ≤ 1048576) (hx : Fits x)
 (hown1 : w1.ownsRow n 2 1 (.slice (some ⟨gg, 0, none⟩) (O.length + 1) cap) (O.length + 1) (O.map (Value.int .i64) ++ [.int .i64 x])) (hgrow : wr.grownBy w1 vo.ownBlock) (hat : vo.ownBlock = some gg ∨ wr.heap.size ≤ gg) :
 iF n (w1.setCell ⟨t, 0, none⟩ (.slice (some ⟨gg, 0, none⟩) (O.length + 1) cap)) t (.slice (some ⟨gg, 0, none⟩) (O.length + 1) cap) vn vp V (O ++ [x]) ah P ∧
  Only (fun b => n ≤ b) wr (w1.setCell ⟨t, 0, none⟩ (.slice (some ⟨gg, 0, none⟩) (O.length + 1) cap)) := by
 have hown := h.ints.own
 have hT1 := zM h.str hown (by decide) hgrow
 have hI : aF w1 n w1.heap.size (.slice (some ⟨gg, 0, none⟩) (O.length + 1) cap) (O ++ [x]) := h.ints.snoc hx hl hown1
 have hR := (h.rows.only (Only.dV hgrow) (fun g h1 h2 => iV h.rows.own hown g h1 h2) (fun k hk g h1 h2 => h.apart k hk g h1 h2)).bg
 have hP := (h.prio.only (Only.dV hgrow) (fun g h1 h2 => h.I9 g h2 h1)).bg
 have hS : Only (fun b => b = t) w1 (w1.setCell ⟨t, 0, none⟩ (.slice (some ⟨gg, 0, none⟩) (O.length + 1) cap)) := aI.zI _
 refine ⟨⟨h.base, (hT1.set 0 _).congr aeV, iF.ints_set hT1 hI 0 _, iF.Zo hT1 hR 0 _, iF.ints_set hT1 hP 0 _, fun i hi g hg hh => ?_, h.app, fun g hg hh => ?_⟩, ?_⟩
 · simp [Value.ownBlock] at hh
   subst hh
   rcases hat with h' | h'
   · exact h.apart i hi _ hg h'
   · have := (h.rows.rows i hi).top _ hg
     omega
 · simp [Value.ownBlock] at hg
   subst hg
   rcases hat with h' | h'
   · exact h.I9 _ h' hh
   · have := h.prio.top _ hh
     omega
 · exact ((Only.dV hgrow).mono fun b hb => (hown.lt b hb).1).trans (hS.mono fun b hb => by rw [hb]; exact h.base)
theorem iF.push {gg cap : Nat} {u : Value} {zs : List Int} {B D : Nat} (h : iF n wr t vo vn vp V O ah P) (hl : ah.length ≤ 1048576)
 (hu : aF wr B D u zs) (hB : n ≤ B) (I5 : ∀ i, i < ah.length → ∀ g, u.ownBlock = some g → (V i).ownBlock ≠ some g) (hvu : ∀ g, u.ownBlock = some g → vo.ownBlock ≠ some g) (hpu : ∀ g, u.ownBlock = some g → vp.ownBlock ≠ some g)
 (hown3 : w1.ownsRow n 22 1 (.slice (some ⟨gg, 0, none⟩) (ah.length + 1) cap) (ah.length + 1) ((List.range ah.length).map V ++ [u])) (hgrow : wr.grownBy w1 vn.ownBlock) :
 iF n (w1.setCell ⟨t, 1, none⟩ (.slice (some ⟨gg, 0, none⟩) (ah.length + 1) cap)) t vo (.slice (some ⟨gg, 0, none⟩) (ah.length + 1) cap) vp (fun i => if i = ah.length then u else V i) O (ah ++ [zs]) P ∧
  Only (fun b => n ≤ b) wr (w1.setCell ⟨t, 1, none⟩ (.slice (some ⟨gg, 0, none⟩) (ah.length + 1) cap)) := by
 have hown := h.rows.own
 have kJ := zM h.str hown (by decide) hgrow
 have wE : aF w1 n w1.heap.size vo O := (h.ints.only (Only.dV hgrow) (fun g h1 h2 => iV hown h.ints.own g h2 h1)).bg
 have aeW : aF w1 n w1.heap.size vp P := (h.prio.only (Only.dV hgrow) (fun g h1 h2 => iV hown h.prio.own g h2 h1)).bg
 have hrows := (h.rows.push (w1 := w1) (hu.base hB) (fun i hi g h1 h3 => I5 i hi g h1 h3) hown3 (Only.dV hgrow) (by omega)).bg
 have hS : Only (fun b => b = t) w1 (w1.setCell ⟨t, 1, none⟩ (.slice (some ⟨gg, 0, none⟩) (ah.length + 1) cap)) := aI.I4 _
 refine ⟨⟨h.base, (kJ.set 1 _).congr aeQ, iF.ints_set kJ wE 1 _, iF.Zo kJ hrows 1 _, iF.ints_set kJ aeW 1 _, fun i hi g hg => ?_, fun i hi g hg => ?_, h.I9⟩, ?_⟩
 · by_cases e : i = ah.length
   · subst e
     simp only [if_true] at hg
     exact hvu g hg
   · simp only [if_neg e] at hg
     exact h.apart i (by simp at hi; omega) g hg
 · by_cases e : i = ah.length
   · subst e
     simp only [if_true] at hg
     exact hpu g hg
   · simp only [if_neg e] at hg
     exact h.app i (by simp at hi; omega) g hg
 · exact ((Only.dV hgrow).mono fun b hb => (hown.lt b hb).1).trans (hS.mono fun b hb => by rw [hb]; exact h.base)
end
theorem iF.game {n t : Nat} {wr : World} {vo vn vp : Value} {V : Nat → Value} {O P : List Int} {ah : List (List Int)} (h : iF n wr t vo vn vp V O ah P) : eG wr n wr.heap.size (.agg #[vo, vn, vp]) O ah P :=
 ⟨_, _, _, V, rfl, h.ints, h.rows, h.prio, h.apart, h.app, h.I9⟩
end
end Go.Proofs.YtglbkbiphcgidaaDoor
