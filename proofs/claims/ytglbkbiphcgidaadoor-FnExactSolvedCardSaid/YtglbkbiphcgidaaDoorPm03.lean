import Derived.Deep.RegionHeld3
import Derived.Deep.DeepCutAuto
import Derived.Deep.AppendLies
import Derived.Test.YtglbkbiphcgidaaDoorPm00
import Derived.Test.YtglbkbiphcgidaaDoorPm02
import Derived.Test.YtglbkbiphcgidaaDoorPm01
namespace Go.Proofs.YtglbkbiphcgidaaDoor
section
open Go.RowKit
def ZJ (a b c d e : Value) : Nat → Value := fun i => if i = 0 then a else if i = 1 then b else if i = 2 then c else if i = 3 then d else e
def eF (w : World) (g : Nat) (t : TypeId) (a b c d e : Value) : Prop := w.rowIs g t 5 (ZJ a b c d e)
theorem eF.new (w : World) (T : TypeId) (a b c d e : Value) : eF (w.alloc (.cells #[a, b, c, d, e] T)) w.heap.size T a b c d e := by
 refine ⟨_, heap_alloc_new w _, by simp, fun j hj => ?_⟩
 have hj3 : j = 0 ∨ j = 1 ∨ j = 2 ∨ j = 3 ∨ j = 4 := by omega
 rcases hj3 with rfl | rfl | rfl | rfl | rfl <;> rfl
section
variable {w w' : World} {g : Nat} {t : TypeId} {a b c d e : Value}
theorem eF.below (h : eF w g t a b c d e) (hb : Below w.heap.size w w') : eF w' g t a b c d e := bY h hb
theorem eF.c0 (h : eF w g t a b c d e) : w.cell? ⟨g, 0, none⟩ = some a := World.rowIs.cell (i := 0) h (by omega)
theorem eF.c1 (h : eF w g t a b c d e) : w.cell? ⟨g, 1, none⟩ = some b := World.rowIs.cell (i := 1) h (by omega)
theorem eF.c2 (h : eF w g t a b c d e) : w.cell? ⟨g, 2, none⟩ = some c := World.rowIs.cell (i := 2) h (by omega)
theorem eF.c3 (h : eF w g t a b c d e) : w.cell? ⟨g, 3, none⟩ = some d := World.rowIs.cell (i := 3) h (by omega)
theorem eF.c4 (h : eF w g t a b c d e) : w.cell? ⟨g, 4, none⟩ = some e := World.rowIs.cell (i := 4) h (by omega)
theorem eF.lt (h : eF w g t a b c d e) : g < w.heap.size := World.rowIs.lt h
end
structure Su (w : World) (ao ap an aq ak : Option Addr) (A : Nat → Option Addr) (C : Nat → Nat) (A' : Nat → Option Addr) (C' : Nat → Nat) (O P : List Int) (ah : List (List Int)) (Pk : List Int) : Prop where
 own : aV w ao O
 prio : aV w ap P
 next : dU w an A C ah
 prev : dU w aq A' C' (rowsOf ah.length fun u => dN ah u ah.length)
 pick : aV w ak Pk
theorem Su.below {w w' : World} {ao ap an aq ak : Option Addr} {A : Nat → Option Addr} {C : Nat → Nat} {A' : Nat → Option Addr} {C' : Nat → Nat} {O P : List Int} {ah : List (List Int)} {Pk : List Int} (h : Su w ao ap an aq ak A C A' C' O P ah Pk) (hb : Below w.heap.size w w') : Su w' ao ap an aq ak A C A' C' O P ah Pk :=
 ⟨h.own.below hb, h.prio.below hb, h.next.below hb, h.prev.below hb, h.pick.below hb⟩
def jX (Pk : List Int) (v : Nat) (u : Int) : Bool := decide (nth Pk v < 0) || decide (nth Pk v = u)
def bU (ah : List (List Int)) (Pk : List Int) : List (List Int) := rowsOf ah.length fun v => (row ah v).filter (jX Pk v)
theorem dQ {ah : List (List Int)} {Pk : List Int} : (bU ah Pk).length = ah.length := oV _ _
theorem jM {ah : List (List Int)} {Pk : List Int} {v : Nat} (hv : v < ah.length) : row (bU ah Pk) v = (row ah v).filter (jX Pk v) := vY hv
theorem sZ {ah : List (List Int)} {Pk : List Int} (h : iO ah) : iO (bU ah Pk) where
 eu := fun u hu x hx => by
  rw [dQ] at hu ⊢
  rw [jM hu] at hx
  exact h.eu u hu x (List.mem_filter.1 hx).1
 once := fun v hv => by
  rw [dQ] at hv
  rw [jM hv]
  exact (h.once v hv).filter _
set_option maxHeartbeats 4000000 in
theorem ZK {w : World} {ao ap an aq ak : Option Addr} {Pk : List Int} (lo lp ln lq : Nat) (co cp cn cq ck : Nat) {v : Nat} {u : Int} {r : Bool} (hr : jX Pk v u = r) (hk : aV w ak Pk) (hv : v < Pk.length) :
 Calls Tryd.prog 153 #[.agg #[.slice ao lo co, .slice ap lp cp, .slice an ln cn, .slice aq lq cq, .slice ak Pk.length ck], .int .i64 v, .int .i64 u] w fun e w' => e = .returned (.bool r) ∧ Below w.heap.size w w' := by
 have hlk := hk.len
 obtain ⟨kb, ko, hka, hkc⟩ := hk.cell (by omega)
 have k1 := hkc v hv
 subst hka
 have BW := Lib.hid (aA w (.cells #[.slice ao lo co, .slice ap lp cp, .slice an ln cn, .slice aq lq cq, .slice (some ⟨kb, ko, none⟩) Pk.length ck] 61))
 have k2 := (BW.out.cell (World.block_lt_of_cell? _ _ k1)).trans k1
 have hv0 : (0 : Int) ≤ v := by omega
 have hvk : (v : Int) < Pk.length := by omega
 obtain ⟨q, hq⟩ : ∃ q, q = nth Pk v := ⟨_, rfl⟩
 rw [← hq] at k1 k2
 unfold jX at hr
 rw [← hq] at hr
 clear hq hkc k1 hk
 by_cases h0 : q < 0
 · have HE : Hid (r = true) := by rw [← hr]; simp [h0, Hid]
   clear hr
   go_enter Tryd.func153, Tryd.ntmps153
   go_wp2
   go_ret
   exact ⟨dY HE.out.symm, BW.out⟩
 · have HE : Hid (r = (q == u)) := by rw [← hr]; unfold Hid; rw [Bool.eq_iff_iff]; simp [h0]
   clear hr
   go_enter Tryd.func153, Tryd.ntmps153
   go_wp2
   go_ret
   exact ⟨dY HE.out.symm, BW.out⟩
def jY (I : Nat → Bool) (Pk : List Int) (v : Nat) (us : List Int) : Int := ((us.filter fun x => I x.toNat && jX Pk v x).length : Int)
set_option maxHeartbeats 8000000 in
set_option maxRecDepth 100000 in
theorem aff {w : World} {ao ap an aq ak : Option Addr} {A : Nat → Option Addr} {C : Nat → Nat} {ah : List (List Int)} {Pk : List Int} (lo lp lq : Nat) (co cp cn cq ck cI : Nat) {v bI : Nat} {I : Nat → Bool} (hn : dU w an A C ah) (hk : aV w ak Pk) (hz : iO ah) (hpk : Pk.length = ah.length) (hI : w.rowIs bI 4 ah.length (bH I)) (hv : v < ah.length) (jZ : (row ah v).length ≤ 1048576) :
 Calls Tryd.prog 152 #[.agg #[.slice ao lo co, .slice ap lp cp, .slice an ah.length cn, .slice aq lq cq, .slice ak Pk.length ck], .slice (some ⟨bI, 0, none⟩) ah.length cI, .int .i64 v] w fun e w' => e = .returned (.int .i64 (jY I Pk v (row ah v))) ∧ Below w.heap.size w w' := by
 have zS := Lib.hid hn
 have HK := Lib.hid hk
 have HZ := Lib.hid hz
 have HMI := Lib.hid hI
 obtain ⟨w1, hw1⟩ : ∃ y, y = w.alloc (.cells #[.slice ao lo co, .slice ap lp cp, .slice an ah.length cn, .slice aq lq cq, .slice ak Pk.length ck] 61) := ⟨_, rfl⟩
 have HW1 := Lib.hid hw1
 have B1 : Hid (Below w.heap.size w w1) := by rw [hw1]; exact aA _ _
 have T1 : Hid (eF w1 w.heap.size 61 (.slice ao lo co) (.slice ap lp cp) (.slice an ah.length cn) (.slice aq lq cq) (.slice ak Pk.length ck)) := by rw [hw1]; exact eF.new _ _ _ _ _ _ _
 have hlz := hn.len
 have zT := Lib.hid hpk
 obtain ⟨xs, hxs⟩ : ∃ xs, xs = row ah v := ⟨_, rfl⟩
 have HX := Lib.hid hxs
 rw [← hxs] at jZ ⊢
 clear hn hk hz hI hw1 hxs hpk
 go_enter Tryd.func152, Tryd.ntmps152
 go_wp2
 rw [← HW1.out]
 go_loopw [7, 8] (fun nv iv wr => ∃ k : Nat, k ≤ xs.length ∧ iv = .int .i64 k ∧ nv = .int .i64 (jY I Pk v (xs.take k)) ∧ Hid (Below w1.heap.size w1 wr)) (fun _ iv _ => xs.length - (intOf iv).toNat)
 case atStart => exact ⟨0, Nat.zero_le _, rfl, rfl, Below.refl _ _⟩
 case round =>
  obtain ⟨k, hkl, rfl, rfl, HB⟩ := hrel
  have hvI : (v : Int) < ah.length := by omega
  have hv0 : (0 : Int) ≤ v := by omega
  have hk0 : (0 : Int) ≤ k := by omega
  have Bw := Lib.hid (B1.out.trans (HB.out.mono B1.out.size))
  have Tw := Lib.hid (T1.out.below HB.out)
  have c2 := Tw.out.c2
  obtain ⟨nb, no, hna, hnc⟩ := (zS.out.below Bw.out).cell (by omega)
  have n1 := hnc v hv
  rw [← HX.out] at n1
  subst hna
  have hir := (zS.out.below Bw.out).rows v hv
  rw [← HX.out] at hir
  have HIR := Lib.hid hir
  clear hnc hir
  by_cases hlt : k < xs.length
  · have hi1 : (k : Int) < xs.length := by omega
    obtain ⟨xb, xo, hxa, hxc⟩ := HIR.out.cell (by omega)
    have x1 := hxc k hlt
    rw [hxa] at n1
    obtain ⟨u, hu, hun⟩ := HZ.out.eu v hv _ (by rw [← HX.out]; exact jo hlt)
    rw [hu] at x1
    have hu0 : (0 : Int) ≤ u := by omega
    have huI : (u : Int) < ah.length := by omega
    have HM := Lib.hid (bY HMI.out Bw.out)
    have m1 := HM.out.cell hun
    have hst : xs.take (k + 1) = xs.take k ++ [(u : Int)] := by rw [take_snoc hlt, hu]
    have HST : Hid (jY I Pk v (xs.take (k + 1)) = jY I Pk v (xs.take k) + if (I u && jX Pk v (u : Int)) = true then 1 else 0) := by
     unfold jY Hid
     rw [hst, List.filter_append, List.length_append]
     cases h : (I u && jX Pk v (u : Int)) <;> simp [h]
    have hdb : 0 ≤ jY I Pk v (xs.take k) ∧ jY I Pk v (xs.take k) ≤ k := by
     have h1 := List.length_filter_le (fun x => I x.toNat && jX Pk v x) (xs.take k)
     rw [List.length_take] at h1
     unfold jY
     constructor <;> omega
    obtain ⟨q, hq⟩ : ∃ q, q = jY I Pk v (xs.take k) := ⟨_, rfl⟩
    rw [← hq] at HST hdb ⊢
    have hd0 := hdb.1
    have hd1 := hdb.2
    clear hxc hu hst hq hdb hxa
    cases gY : I u with
    | false =>
      have HD : Hid (jY I Pk v (xs.take (k + 1)) = q) := by rw [HST.out, gY]; simp [Hid]
      unfold bH at m1
      rw [gY] at m1
      clear gY
      go_wp2
      go_roundw
      case rel => exact ⟨k + 1, by omega, by go_num, by rw [HD.out], HB⟩
      case measure => simp [intOf]; omega
    | true =>
      unfold bH at m1
      rw [gY] at m1
      obtain ⟨b, hb⟩ : ∃ b, jX Pk v (u : Int) = b := ⟨_, rfl⟩
      have HE := Lib.hid (ZK (ao := ao) (ap := ap) (an := some ⟨nb, no, none⟩) (aq := aq) lo lp ah.length lq co cp cn cq ck hb (HK.out.below Bw.out) (by rw [zT.out]; exact hv))
      rw [gY, hb, Bool.true_and] at HST
      have c0 := Tw.out.c0
      have c1 := Tw.out.c1
      have c3 := Tw.out.c3
      have c4 := Tw.out.c4
      clear gY hb
      cases b with
      | true =>
        have HD : Hid (jY I Pk v (xs.take (k + 1)) = q + 1) := by rw [HST.out]; simp [Hid]
        clear HST
        go_wp2_with (go_at_call 153; refine HE.out.mono ?_; rintro e w5 ⟨rfl, hb5⟩; have xU := Lib.hid (HB.out.trans (hb5.mono HB.out.size)); clear hb5)
        go_roundw
        case rel => exact ⟨k + 1, by omega, by go_num, by rw [HD.out], xU⟩
        case measure => simp [intOf]; omega
      | false =>
        have HD : Hid (jY I Pk v (xs.take (k + 1)) = q) := by rw [HST.out]; simp [Hid]
        clear HST
        go_wp2_with (go_at_call 153; refine HE.out.mono ?_; rintro e w5 ⟨rfl, hb5⟩; have xU := Lib.hid (HB.out.trans (hb5.mono HB.out.size)); clear hb5)
        go_roundw
        case rel => exact ⟨k + 1, by omega, by go_num, by rw [HD.out], xU⟩
        case measure => simp [intOf]; omega
  · have hi1 : ¬ (k : Int) < xs.length := by omega
    have hkk : k = xs.length := by omega
    rw [hkk, List.take_length]
    have hi2 : ¬ (xs.length : Int) < xs.length := by omega
    go_wp2
    go_ret
    exact ⟨rfl, Bw.out⟩
end
section
open Go.RowKit
def tq (w : World) (n : Nat) (f : Nat → Bool) (e : Ending) (w' : World) : Prop :=
 ∃ b, e = .returned (.slice (some ⟨b, 0, none⟩) n n) ∧ w.heap.size ≤ b ∧ w'.rowIs b 4 n (bH f) ∧ Below w.heap.size w w'
def xW (I A : Nat → Bool) (k : Nat) : Nat → Bool := fun v => decide (v < k) && aQ I A v
theorem afg {I A : Nat → Bool} {k : Nat} : xW I A (k + 1) = jV (xW I A k) k (aQ I A k) := funext fun v => by
 unfold xW jV
 by_cases e : v = k
 · subst e; simp
 · rw [if_neg e]
   congr 1
   rw [decide_eq_decide]; omega
theorem afh {I A : Nat → Bool} {n : Nat} {w : World} {b : Nat} (h : w.rowIs b 4 n (bH (xW I A n))) : w.rowIs b 4 n (bH (aQ I A)) :=
 h.congr fun i hi => by simp [bH, xW, hi]
set_option maxHeartbeats 4000000 in
theorem ZL {w : World} {bI bA n : Nat} {I A : Nat → Bool} (hI : w.rowIs bI 4 n (bH I)) (hA : w.rowIs bA 4 n (bH A)) (hn : n ≤ 1048576) :
 Calls Tryd.prog 126 #[.slice (some ⟨bI, 0, none⟩) n n, .slice (some ⟨bA, 0, none⟩) n n] w (tq w n (aQ I A)) := by
 have hmk := run_make_row' (P := Tryd.prog) 63 4 (.bool false) 1 Tryd.underlying63 I7 rfl .i64 .i64 n (by omega) (by omega)
 have HI := Lib.hid hI
 have HA := Lib.hid hA
 have R0 : Hid ((w.alloc (.cells (madeCells #[.bool false] n) 4)).rowIs w.heap.size 4 n (bH (xW I A 0))) := (World.rowIs_made w _ _ _).congr (fun i _ => by simp [bH, xW])
 have B0 := Lib.hid (aA w (.cells (madeCells #[.bool false] n) 4))
 clear hI hA
 go_enter Tryd.func126, Tryd.ntmps126
 go_wp2
 go_loopw [6] (fun iv wr => ∃ k : Nat, k ≤ n ∧ iv = .int .i64 k ∧ Hid (wr.rowIs w.heap.size 4 n (bH (xW I A k))) ∧ Hid (Below w.heap.size w wr)) (fun iv _ => n - (intOf iv).toNat)
 case atStart => exact ⟨0, Nat.zero_le _, rfl, R0, B0⟩
 case round =>
  clear hmk R0 B0
  obtain ⟨k, hk, rfl, HR, HB⟩ := hrel
  by_cases hlt : k < n
  · have hk1 : (k : Int) < n := by omega
    have hk0 : (0 : Int) ≤ (k : Int) := by omega
    have i1 := (bY HI.out HB.out).cell hlt
    have a1 := (bY HA.out HB.out).cell hlt
    have o1 := HR.out.cell hlt
    have of := HR.out.frozen k
    have R1 : Hid ((wr.setCell ⟨w.heap.size, k, none⟩ (.bool (aQ I A k))).rowIs w.heap.size 4 n (bH (xW I A (k + 1)))) := by rw [afg]; exact Zf HR.out
    have B1 := Lib.hid (HB.out.setCell (p := ⟨w.heap.size, k, none⟩) (Nat.le_refl _) (.bool (aQ I A k)))
    simp only [bH] at i1 a1 o1
    unfold aQ at R1 B1
    cases hi : I k with
    | false =>
      rw [hi] at i1 R1 B1
      rw [Bool.false_and] at R1 B1
      clear hi
      go_wp2
      go_roundw
      case rel => exact ⟨k + 1, by omega, by go_num, R1, B1⟩
      case measure => simp [intOf]; omega
    | true =>
      rw [hi] at i1 R1 B1
      rw [Bool.true_and] at R1 B1
      clear hi
      go_wp2
      go_roundw
      case rel => exact ⟨k + 1, by omega, by go_num, R1, B1⟩
      case measure => simp [intOf]; omega
  · have hkk : k = n := by omega
    have hk1 : ¬ (k : Int) < n := by omega
    rw [hkk] at HR
    clear hkk
    go_wp2
    go_ret
    exact ⟨_, rfl, Nat.le_refl _, afh HR.out, HB.out⟩
set_option maxHeartbeats 4000000 in
theorem afi {w : World} {ao ap an aq ak : Option Addr} {P : List Int} {I : Nat → Bool} {bI n : Nat} (lo ln lq lk : Nat) (co cp cn cq ck : Nat) (hP : aV w ap P) (hI : w.rowIs bI 4 n (bH I)) (hn : n ≤ 1048576) (hpn : P.length = n) :
 Calls Tryd.prog 125 #[.agg #[.slice ao lo co, .slice ap P.length cp, .slice an ln cn, .slice aq lq cq, .slice ak lk ck], .slice (some ⟨bI, 0, none⟩) n n] w fun e w' => e = .returned (.int .i64 (dW (nth P) I n)) ∧ Below w.heap.size w w' := by
 have HP := Lib.hid hP
 have HI := Lib.hid hI
 obtain ⟨w1, hw1⟩ : ∃ y, y = w.alloc (.cells #[.slice ao lo co, .slice ap P.length cp, .slice an ln cn, .slice aq lq cq, .slice ak lk ck] 61) := ⟨_, rfl⟩
 have HW1 := Lib.hid hw1
 have B1 : Hid (Below w.heap.size w w1) := by rw [hw1]; exact aA _ _
 have T1 : Hid (eF w1 w.heap.size 61 (.slice ao lo co) (.slice ap P.length cp) (.slice an ln cn) (.slice aq lq cq) (.slice ak lk ck)) := by rw [hw1]; exact eF.new _ _ _ _ _ _ _
 have FC := Lib.hid hpn
 clear hP hI hw1 hpn
 go_enter Tryd.func125, Tryd.ntmps125
 go_wp2
 rw [← HW1.out]
 go_loopw [5, 6] (fun tv iv wr => ∃ k : Nat, k ≤ n ∧ iv = .int .i64 k ∧ tv = .int .i64 (dW (nth P) I k) ∧ Hid (Below w1.heap.size w1 wr)) (fun _ iv _ => n - (intOf iv).toNat)
 case atStart => exact ⟨0, Nat.zero_le _, rfl, rfl, Below.refl _ _⟩
 case round =>
  obtain ⟨k, hk, rfl, rfl, HB⟩ := hrel
  have Bw := Lib.hid (B1.out.trans (HB.out.mono B1.out.size))
  by_cases hlt : k < n
  · have hk1 : (k : Int) < n := by omega
    have hk2 : (k : Int) < P.length := by have := FC.out; omega
    have hk0 : (0 : Int) ≤ (k : Int) := by omega
    have i1 := (bY HI.out Bw.out).cell hlt
    simp only [bH] at i1
    obtain ⟨m, hm⟩ : ∃ m, m = dW (nth P) I k := ⟨_, rfl⟩
    rw [← hm]
    cases hi : I k with
    | false =>
      have HT : Hid (dW (nth P) I (k + 1) = m) := by simp [dW, hi, hm, Hid]
      rw [hi] at i1
      clear hi hm
      go_wp2
      go_roundw
      case rel => exact ⟨k + 1, by omega, by go_num, by rw [HT.out], HB⟩
      case measure => simp [intOf]; omega
    | true =>
      have t1 := (T1.out.below HB.out).c1
      obtain ⟨pb, po, hpa, hpc⟩ := (HP.out.below Bw.out).cell (by have := FC.out; omega)
      have p1 := hpc k (by have := FC.out; omega)
      obtain ⟨q, hq⟩ : ∃ q, q = nth P k := ⟨_, rfl⟩
      rw [← hq] at p1
      have HT : Hid ((if m < q then q else m) = dW (nth P) I (k + 1)) := by simp [dW, hi, hm, hq, Hid]
      subst hpa
      rw [hi] at i1
      clear hi hm hpc hq
      go_wp2_with (go_at_call 151; refine (aeX HT.out _).mono ?_; rintro e w5 ⟨rfl, rfl⟩)
      go_roundw
      case rel => exact ⟨k + 1, by omega, by go_num, rfl, HB⟩
      case measure => simp [intOf]; omega
  · have hkk : k = n := by omega
    have hk1 : ¬ (k : Int) < n := by omega
    rw [hkk]
    clear hkk
    go_wp2
    go_ret
    exact ⟨rfl, Bw.out⟩
end
section
open Go.RowKit
def dD (f : Nat → Int) : Nat → Value := fun i => .int .i64 (f i)
theorem C9 {w : World} {b n v : Nat} {t : TypeId} {f : Nat → Int} {x : Int} (h : w.rowIs b t n (dD f)) : (w.setCell ⟨b, v, none⟩ (.int .i64 x)).rowIs b t n (dD fun i => if i = v then x else f i) :=
 World.rowIs.congr (h.set v (.int .i64 x)) fun i _ => by
  unfold dD
  by_cases e : i = v <;> simp [e]
theorem Sv {w : World} {b n v : Nat} {t : TypeId} {f : Nat → Bool} (h : w.rowIs b t n (bH f)) : (w.setCell ⟨b, v, none⟩ (.bool true)).rowIs b t n (bH fun i => if i = v then true else f i) :=
 World.rowIs.congr (h.set v (.bool true)) fun i _ => by
  unfold bH
  by_cases e : i = v <;> simp [e]
def gU (I G : Nat → Bool) : Nat → Bool := fun v => I v && G v
def outA (I G : Nat → Bool) (k : Nat) : Nat → Bool := fun v => decide (v < k) && gU I G v
def leftA (ah : List (List Int)) (I : Nat → Bool) (Pk : List Int) (k : Nat) : Nat → Int := fun v => if v < k ∧ I v = true then jY I Pk v (row ah v) else 0
section
variable {ah : List (List Int)} {O Pk : List Int} {who : Int} {I G : Nat → Bool}
theorem ZM {k : Nat} (h : gU I G k = false) : outA I G (k + 1) = outA I G k := funext fun v => by
 unfold outA
 by_cases e : v = k
 · subst e; simp [h]
 · congr 1; rw [decide_eq_decide]; omega
theorem afj {k : Nat} (h : gU I G k = true) : (fun i => if i = k then true else outA I G k i) = outA I G (k + 1) := funext fun v => by
 unfold outA
 by_cases e : v = k
 · subst e; simp [h]
 · rw [if_neg e]; congr 1; rw [decide_eq_decide]; omega
theorem afk {k : Nat} (h : I k = false) : leftA ah I Pk (k + 1) = leftA ah I Pk k := funext fun v => by
 unfold leftA
 by_cases e : v = k
 · subst e; rw [if_neg (fun hh => by rw [h] at hh; cases hh.2), if_neg (fun hh => by omega)]
 · by_cases hc : v < k ∧ I v = true
   · rw [if_pos hc, if_pos ⟨by omega, hc.2⟩]
   · rw [if_neg hc, if_neg (fun hh => hc ⟨by omega, hh.2⟩)]
theorem afl {k : Nat} (h : I k = true) : (fun i => if i = k then jY I Pk k (row ah k) else leftA ah I Pk k i) = leftA ah I Pk (k + 1) := funext fun v => by
 unfold leftA
 by_cases e : v = k
 · subst e; rw [if_pos rfl, if_pos ⟨by omega, h⟩]
 · rw [if_neg e]
   by_cases hc : v < k ∧ I v = true
   · rw [if_pos hc, if_pos ⟨by omega, hc.2⟩]
   · rw [if_neg hc, if_neg (fun hh => hc ⟨by omega, hh.2⟩)]
theorem afm (hz : iO ah) : C7 (bU ah Pk) O who I G (fun x => (x : Int) ∈ (aU (gU I G) ah.length).take 0) (aU (gU I G) ah.length) (outA I G ah.length) (leftA ah I Pk ah.length) where
 ja := ⟨(Zi _ _).imp fun h => by omega, fun x hx => by
  obtain ⟨v, hv, hvn, _⟩ := (zJ _ _ _).1 hx
  exact ⟨v, hv, by rw [dQ]; exact hvn⟩⟩
 outs := fun v hv => by
  rw [dQ] at hv
  simp only [List.take_zero, List.not_mem_nil]
  unfold outA gU fA
  simp only [hv, decide_true, Bool.true_and, Bool.and_eq_true]
  constructor
  · rintro ⟨h1, h2⟩; exact ⟨h1, .inl h2⟩
  · rintro ⟨h1, h2 | h2⟩
    · exact ⟨h1, h2⟩
    · exact absurd h2 fK.none
 mem := fun v hv => by
  rw [dQ] at hv
  rw [zJ]
  unfold outA
  simp only [hv, decide_true, Bool.true_and]
  constructor
  · rintro ⟨u, hu, _, h⟩
    obtain rfl := Int.natCast_inj.1 hu
    exact h
  · intro h; exact ⟨v, rfl, hv, h⟩
 lefts := fun v hv hI _ => by
  rw [dQ] at hv
  unfold leftA cntF jY
  rw [if_pos ⟨hv, hI⟩, jM hv, List.filter_filter]
  congr 2
  refine List.filter_congr fun x _ => ?_
  simp
 sound := fun v hv h => by
  have hv' := hv
  rw [dQ] at hv'
  unfold outA gU at h
  simp only [hv', decide_true, Bool.true_and, Bool.and_eq_true] at h
  exact (qL (sZ hz).eu hv).2 ⟨h.1, .inl h.2⟩
end
set_option maxHeartbeats 16000000 in
set_option maxRecDepth 100000 in
theorem afn {w : World} {ao ap an aq ak : Option Addr} {A : Nat → Option Addr} {C : Nat → Nat} {A' : Nat → Option Addr} {C' : Nat → Nat} {ah : List (List Int)} {O Pk : List Int} {who : Int} {I G : Nat → Bool} {bI bG : Nat} (lp : Nat) (co cp cn cq ck : Nat)
 (hO : aV w ao O) (hn : dU w an A C ah) (hq : dU w aq A' C' (rowsOf ah.length fun u => dN ah u ah.length)) (hk : aV w ak Pk) (hz : iO ah) (fM : O.length = ah.length) (hpk : Pk.length = ah.length) (ku : ah.length ≤ 256) (jZ : ∀ v, v < ah.length → (row ah v).length ≤ 16)
 (hI : w.rowIs bI 4 ah.length (bH I)) (hG : w.rowIs bG 4 ah.length (bH G)) :
 Calls Tryd.prog 127 #[.agg #[.slice ao O.length co, .slice ap lp cp, .slice an ah.length cn, .slice aq ah.length cq, .slice ak Pk.length ck], .slice (some ⟨bI, 0, none⟩) ah.length ah.length, .int .i64 who, .slice (some ⟨bG, 0, none⟩) ah.length ah.length] w (tq w ah.length (aN (bU ah Pk) O who I G)) := by
 obtain ⟨j0, hji, Sz, SA, SB⟩ := info_parts qH
 obtain ⟨n, hnl⟩ : ∃ n, n = ah.length := ⟨_, rfl⟩
 have fF := Lib.hid hnl
 have hmb := run_make_row' (P := Tryd.prog) 63 4 (.bool false) 1 Tryd.underlying63 I7 rfl .i64 .i64 n (by omega) (by omega)
 have ZN := run_make_row' (P := Tryd.prog) 22 2 (.int .i64 0) 8 Tryd.underlying22 qH rfl .i64 .i64 n (by omega) (by omega)
 have HO := Lib.hid hO
 have zS := Lib.hid hn
 have HQ := Lib.hid hq
 have HK := Lib.hid hk
 have HI := Lib.hid hI
 have ZO := Lib.hid hG
 have HZ := Lib.hid hz
 have zT := Lib.hid hpk
 have FD := Lib.hid jZ
 obtain ⟨w1, hw1⟩ : ∃ y, y = w.alloc (.cells #[.slice ao O.length co, .slice ap lp cp, .slice an n cn, .slice aq n cq, .slice ak Pk.length ck] 61) := ⟨_, rfl⟩
 have HW1 := Lib.hid hw1
 have hs1 : w1.heap.size = w.heap.size + 1 := by rw [hw1]; simp
 have cO := Lib.hid hs1
 have B1 : Hid (Below w.heap.size w w1) := by rw [hw1]; exact aA _ _
 have T1 : Hid (eF w1 w.heap.size 61 (.slice ao O.length co) (.slice ap lp cp) (.slice an n cn) (.slice aq n cq) (.slice ak Pk.length ck)) := by rw [hw1]; exact eF.new _ _ _ _ _ _ _
 obtain ⟨w4, hw4⟩ : ∃ y, y = ((w1.alloc (.cells (madeCells #[.bool false] n) 4)).alloc (.cells (madeCells #[.int .i64 0] n) 2)).alloc (.cells #[] 2) := ⟨_, rfl⟩
 have kC := Lib.hid hw4
 have K4 : Hid (Below w1.heap.size w1 w4) := by rw [hw4]; exact (below2 _ _ _).alloc (by simp; omega) _
 have hs4 : w4.heap.size = w1.heap.size + 3 := by rw [hw4]; simp
 have zO := Lib.hid hs4
 have RO : Hid (w4.rowIs (w.heap.size + 1) 4 n (bH (outA I G 0))) := by
  rw [hw4, ← hs1]
  exact World.rowIs.congr (World.rowIs.alloc (World.rowIs.alloc (World.rowIs_made w1 _ _ _) _) _) fun i _ => by simp [bH, outA]
 have RL : Hid (w4.rowIs (w.heap.size + 1 + 1) 2 n (dD (leftA ah I Pk 0))) := by
  rw [hw4, ← hs1]
  have h := World.rowIs_made (w1.alloc (.cells (madeCells #[.bool false] n) 4)) (.int .i64 0) n 2
  rw [World.size_alloc] at h
  exact World.rowIs.congr (World.rowIs.alloc h _) fun i _ => by simp [dD, leftA]
 have ZP : Hid (w4.ownsRow (w.heap.size + 1 + 1 + 1) 2 1 (.slice (some ⟨w.heap.size + 1 + 1 + 1, 0, none⟩) 0 0) (aU (gU I G) 0).length ((aU (gU I G) 0).map (Value.int .i64))) := by
  rw [hw4, ← hs1]
  have h := World.ownsRow_made (base := w1.heap.size + 1 + 1) (e := 2) (size := 1) ((w1.alloc (.cells (madeCells #[.bool false] n) 4)).alloc (.cells (madeCells #[.int .i64 0] n) 2)) #[] 0 (by simp) (by unfold maxLen; omega) (by simp)
  rw [World.size_alloc, World.size_alloc] at h
  exact h
 rw [← hnl] at ku fM hpk
 have HOL := Lib.hid fM
 clear hO hn hq hk hI hG hz hw1 hs1 hw4 hs4 jZ hpk fM
 rw [← hnl]
 clear hnl
 go_enter Tryd.func127, Tryd.ntmps127
 go_wp2
 rw [← HW1.out, ← kC.out]
 clear hmb ZN
 go_loopw [11, 12] (fun qv iv wr => ∃ (k : Nat) (qq : Value), qq = qv ∧ k ≤ n ∧ iv = .int .i64 k ∧ Hid (wr.ownsRow (w.heap.size + 1 + 1 + 1) 2 1 qq (aU (gU I G) k).length ((aU (gU I G) k).map (Value.int .i64))) ∧ Hid (wr.rowIs (w.heap.size + 1) 4 n (bH (outA I G k))) ∧ Hid (wr.rowIs (w.heap.size + 1 + 1) 2 n (dD (leftA ah I Pk k))) ∧ Hid (Below w1.heap.size w1 wr)) (fun _ iv _ => n - (intOf iv).toNat)
 case atStart => exact ⟨0, _, rfl, Nat.zero_le _, rfl, ZP, RO, RL, K4⟩
 case round =>
  clear ZP RO RL K4
  obtain ⟨k, qq, hqq, hk, rfl, HU, HR, HL, HB⟩ := hrel
  subst hqq
  have Bw := Lib.hid (B1.out.trans (HB.out.mono B1.out.size))
  have hsr : w.heap.size + 1 + 1 < wr.heap.size := HL.out.lt
  by_cases hlt : k < n
  · have hk1 : (k : Int) < n := by omega
    have hk0 : (0 : Int) ≤ (k : Int) := by omega
    have i1 := (bY HI.out Bw.out).cell (i := k) (by rw [← fF.out]; exact hlt)
    simp only [bH] at i1
    have hml := sV (gU I G) k
    cases hi : I k with
    | false =>
      have hg0 : gU I G k = false := by unfold gU; rw [hi]; rfl
      have SC : Hid (wr.ownsRow (w.heap.size + 1 + 1 + 1) 2 1 qq (aU (gU I G) (k + 1)).length ((aU (gU I G) (k + 1)).map (Value.int .i64))) := by
       rw [show aU (gU I G) (k + 1) = aU (gU I G) k by simp [aU, hg0]]; exact HU.out
      have HRn : Hid (wr.rowIs (w.heap.size + 1) 4 n (bH (outA I G (k + 1)))) := by rw [ZM hg0]; exact HR.out
      have HLn : Hid (wr.rowIs (w.heap.size + 1 + 1) 2 n (dD (leftA ah I Pk (k + 1)))) := by rw [afk hi]; exact HL.out
      rw [hi] at i1
      clear hi hg0 HU HR HL
      go_wp2
      go_roundw
      case rel => exact ⟨k + 1, _, rfl, by omega, by go_num, SC, HRn, HLn, HB⟩
      case measure => simp [intOf]; omega
    | true =>
      have l1 := HL.out.cell hlt
      have fl := HL.out.frozen k
      have g1 := (bY ZO.out Bw.out).cell (i := k) (by rw [← fF.out]; exact hlt)
      simp only [bH] at g1
      obtain ⟨qa, qc, Dc⟩ := Q9 HU.out
      subst Dc
      have SG := Lib.hid (aff (ao := ao) (ap := ap) (an := an) (aq := aq) (ak := ak) O.length lp n co cp cn cq ck n (zS.out.below Bw.out) (HK.out.below Bw.out) HZ.out zT.out (bY HI.out Bw.out) (v := k) (by rw [← fF.out]; exact hlt) (by have := FD.out k (by rw [← fF.out]; exact hlt); omega))
      rw [← fF.out] at SG
      have t0 := (T1.out.below HB.out).c0
      have t1 := (T1.out.below HB.out).c1
      have t2 := (T1.out.below HB.out).c2
      have t3 := (T1.out.below HB.out).c3
      have t4 := (T1.out.below HB.out).c4
      have SH := Lib.hid hi
      rw [hi] at i1
      clear hi
      go_wp2_with fail
      refine SG.out.mono ?_
      rintro e w5 ⟨rfl, hb⟩
      have B5 := Lib.hid (HB.out.trans (hb.mono HB.out.size))
      have hl5 := C9 (x := jY I Pk k (row ah k)) (v := k) (bY HL.out hb)
      rw [afl SH.out] at hl5
      have rJ := Lib.hid hl5
      have hS5 : Only (fun b => b = w.heap.size + 1 + 1) w5 (w5.setCell ⟨w.heap.size + 1 + 1, k, none⟩ (.int .i64 (jY I Pk k (row ah k)))) := (Only.refl (fun b => b = w.heap.size + 1 + 1) w5).setCell (p := ⟨w.heap.size + 1 + 1, k, none⟩) rfl _
      have lM := Lib.hid (fV (bY HR.out hb) hS5 (by omega))
      have rM := Lib.hid (kH (kH HU.out (S := fun _ => False) (Only.of_below hb) (fun _ _ h => h)) hS5 (fun g hg e => by have := (HU.out.lt g hg).1; omega))
      have B6 := Lib.hid (B5.out.trans (hS5.below (B := w1.heap.size) B5.out.size (fun b hb => by have := cO.out; omega)))
      have l5 := (bY HL.out hb).cell hlt
      have fl5 := (bY HL.out hb).frozen k
      obtain ⟨w6, hw6⟩ : ∃ y, y = w5.setCell ⟨w.heap.size + 1 + 1, k, none⟩ (.int .i64 (jY I Pk k (row ah k))) := ⟨_, rfl⟩
      have SI := Lib.hid hw6
      rw [← hw6] at rJ lM rM B6
      have Bv := Lib.hid (B1.out.trans (B6.out.mono B1.out.size))
      have i6 := (bY HI.out Bv.out).cell (i := k) (by rw [← fF.out]; exact hlt)
      have g6 := (bY ZO.out Bv.out).cell (i := k) (by rw [← fF.out]; exact hlt)
      simp only [bH, SH.out] at i6 g6
      have o6 := lM.out.cell hlt
      have xX := lM.out.frozen k
      clear hb hl5 hS5 t0 t1 t2 t3 t4 SG i1 g1 l1 fl HU HR HL HB Bw
      cases hg : G k with
      | false =>
        have hg0 : gU I G k = false := by unfold gU; rw [hg]; simp
        have SC : Hid (w6.ownsRow (w.heap.size + 1 + 1 + 1) 2 1 (.slice qa (aU (gU I G) k).length qc) (aU (gU I G) (k + 1)).length ((aU (gU I G) (k + 1)).map (Value.int .i64))) := by
         rw [show aU (gU I G) (k + 1) = aU (gU I G) k by simp [aU, hg0]]; exact rM.out
        have HRn : Hid (w6.rowIs (w.heap.size + 1) 4 n (bH (outA I G (k + 1)))) := by rw [ZM hg0]; exact lM.out
        rw [hg] at g6
        rw [hw6] at i6 g6
        clear hg hg0 rM lM hw6 o6 xX
        go_wp2
        rw [← SI.out]
        go_roundw
        case rel => exact ⟨k + 1, _, rfl, by omega, by go_num, SC, HRn, rJ, B6⟩
        case measure => simp [intOf]; omega
      | true =>
        have hg1 : gU I G k = true := by unfold gU; rw [hg, SH.out]; rfl
        have gq : Hid (aU (gU I G) (k + 1) = aU (gU I G) k ++ [(k : Int)]) := by simp [aU, hg1, Hid]
        have hS7 : Only (fun b => b = w.heap.size + 1) w6 (w6.setCell ⟨w.heap.size + 1, k, none⟩ (.bool true)) := (Only.refl (fun b => b = w.heap.size + 1) w6).setCell (p := ⟨w.heap.size + 1, k, none⟩) rfl _
        have Df := Sv (v := k) lM.out
        rw [afj hg1] at Df
        have tu := Lib.hid Df
        have o8 := Lib.hid (fV rJ.out hS7 (by omega))
        have o9 := Lib.hid (kH rM.out hS7 (fun g hg e => by have := (rM.out.lt g hg).1; omega))
        have B7 := Lib.hid (B6.out.trans (hS7.below (B := w1.heap.size) B6.out.size (fun b hb => by have := cO.out; omega)))
        have hs7 : w.heap.size + 1 + 1 + 1 ≤ (w6.setCell ⟨w.heap.size + 1, k, none⟩ (.bool true)).heap.size := by have := o8.out.lt; omega
        rw [hg] at g6
        rw [hw6] at i6 g6 o6 xX
        rw [hw6] at o9 tu o8 B7 hs7
        have tC := Lib.hid hs7
        clear hg hg1 rM lM rJ hw6 hS7 Df B6 hs7
        go_wp2_with (at_builtin; refine wpList_append_own_at _ rfl _ _ 22 rfl (w.heap.size + 1 + 1 + 1) 2 j0 (.int .i64 0) 1 8 Tryd.underlying22 hji Sz SA SB rfl (by decide) _ _ _ rfl (o9.out.alloc _) ⟨w5.heap.size, 0, none⟩ 1 1 [.int .i64 k] rfl rfl ?c1 ?c2 ?c3 ?c4 ?c5 ?_)
        case c1 =>
         intro j u hu
         have h := cell_one_new ((w5.setCell ⟨w.heap.size + 1 + 1, k, none⟩ (.int .i64 (jY I Pk k (row ah k)))).setCell ⟨w.heap.size + 1, k, none⟩ (.bool true)) (.int .i64 k) 2 j u hu
         rw [show ((w5.setCell ⟨w.heap.size + 1 + 1, k, none⟩ (.int .i64 (jY I Pk k (row ah k)))).setCell ⟨w.heap.size + 1, k, none⟩ (.bool true)).heap.size = w5.heap.size by simp] at h
         exact h
        case c2 => intro u hu; simp at hu; subst hu; rfl
        case c3 => unfold maxLen; omega
        case c4 => omega
        case c5 => have := tC.out; simp at this ⊢; omega
        intro v' w8 hown hgrow _ _
        have hol := o9.out.lt
        have pq : Only (fun b => w.heap.size + 1 + 1 + 1 ≤ b) _ w8 := (Only.of_below (aA _ _)).trans ((Only.dV hgrow).mono fun b hb => (hol b hb).1)
        have Je := Lib.hid (fV tu.out pq (by omega))
        have Jf := Lib.hid (fV o8.out pq (by omega))
        have B8 := Lib.hid (B7.out.trans (pq.below (B := w1.heap.size) B7.out.size (fun b hb => by have := cO.out; omega)))
        have Jg : Hid (w8.ownsRow (w.heap.size + 1 + 1 + 1) 2 1 v' (aU (gU I G) (k + 1)).length ((aU (gU I G) (k + 1)).map (Value.int .i64))) := by
         rw [gq.out, List.map_append, List.length_append]; exact hown
        clear hown hgrow pq hol o9 tu o8 B7 i6 g6 o6 xX
        go_wp2
        go_roundw
        case rel => exact ⟨k + 1, _, rfl, by omega, by go_num, Jg, Je, Jf, B8⟩
        case measure => simp [intOf]; omega
  · have hkk : k = n := by omega
    have hk1 : ¬ (k : Int) < n := by omega
    rw [hkk] at HU HR HL
    clear hkk
    have SK := afm (O := O) (Pk := Pk) (who := who) (I := I) (G := G) HZ.out
    rw [← fF.out] at SK
    have nM := Lib.hid SK
    clear SK
    clear hk1
    go_wp2
    go_loopw [11, 13] (fun qv iv wr => ∃ (i : Nat) (qq : Value) (Q : List Int) (out : Nat → Bool) (left : Nat → Int), qq = qv ∧ i ≤ Q.length ∧ iv = .int .i64 i ∧ Hid (C7 (bU ah Pk) O who I G (fun x => (x : Int) ∈ Q.take i) Q out left) ∧ Hid (wr.ownsRow (w.heap.size + 1 + 1 + 1) 2 1 qq Q.length (Q.map (Value.int .i64))) ∧ Hid (wr.rowIs (w.heap.size + 1) 4 n (bH out)) ∧ Hid (wr.rowIs (w.heap.size + 1 + 1) 2 n (dD left)) ∧ Hid (Below w1.heap.size w1 wr)) (fun _ iv _ => n - (intOf iv).toNat)
    case atStart => exact ⟨0, _, _, _, _, rfl, Nat.zero_le _, rfl, nM, HU, HR, HL, HB⟩
    case round =>
     clear nM HU HR HL HB
     obtain ⟨i, qq, Q, out, left, hqq, hi, rfl, nM, HU, HR, HL, HB⟩ := hrel
     subst hqq
     obtain ⟨qa, qc, Dc⟩ := Q9 HU.out
     subst Dc
     have hQn : Q.length ≤ n := by have := nM.out.ja.len; rw [dQ, ← fF.out] at this; exact this
     have hsr : w.heap.size + 1 + 1 < wr.heap.size := HL.out.lt
     by_cases hlt : i < Q.length
     · have hi1 : (i : Int) < Q.length := by omega
       have hi0 : (0 : Int) ≤ (i : Int) := by omega
       obtain ⟨qg, qc', Dc, -, -, -⟩ := aeJ HU.out (by omega)
       cases Dc
       obtain ⟨u, hu, hun⟩ := nM.out.ja.at hlt
       rw [dQ, ← fF.out] at hun
       have q1 : wr.cell? ⟨qg, i, none⟩ = some (.int .i64 u) := by
        have h := HU.out.cellAt i (by omega)
        rw [h]
        simp [hlt, ← jl hlt, hu]
       have hu0 : (0 : Int) ≤ (u : Int) := by omega
       have afo : (u : Int) < n := by omega
       have HUQ := Lib.hid hu
       have SL : Hid (out u = true) := (nM.out.mem u (by rw [dQ, ← fF.out]; exact hun)).1 (by rw [← hu]; exact jo hlt)
       have SN : Hid (I u = true) := ((nM.out.outs u (by rw [dQ, ← fF.out]; exact hun)).1 SL.out).1
       have qN : Hid ((u : Int) ∉ Q.take i) := by have := Sm nM.out.ja.once hlt; rw [hu] at this; exact this
       have ZQ : Hid (aN (bU ah Pk) O who I G u = true) := nM.out.sound u (by rw [dQ, ← fF.out]; exact hun) SL.out
       have ZR : Hid (∀ x, x < (bU ah Pk).length → (x : Int) ∈ Q.take i → aN (bU ah Pk) O who I G x = true) := fun x hx hm => nM.out.sound x hx ((nM.out.mem x hx).1 (List.mem_of_mem_take hm))
       obtain ⟨vs, hvs⟩ : ∃ vs, vs = dN ah u n := ⟨_, rfl⟩
       have HVS := Lib.hid hvs
       have hvl : vs.length ≤ n := by rw [hvs]; exact QS _ _ _
       have wF : Hid vs.Nodup := by rw [hvs]; exact RN _ _ _
       have HVM : Hid (∀ x ∈ vs, ∃ v : Nat, x = (v : Int) ∧ v < n ∧ (u : Int) ∈ row ah v) := fun x hx => by
        rw [hvs] at hx
        obtain ⟨v, h1, h2, h3⟩ := (CY ah u n x).1 hx
        exact ⟨v, h1, h2, h3⟩
       have HVR : Hid (∀ v : Nat, v < n → (u : Int) ∈ row ah v → (v : Int) ∈ vs) := fun v h1 h2 => by
        rw [hvs]; exact (CY ah u n v).2 ⟨v, rfl, h1, h2⟩
       have afp : Hid (∀ W, Below w.heap.size w W → ∃ b off, aq = some ⟨b, off, none⟩ ∧ W.cell? ⟨b, off + u, none⟩ = some (.slice (A' u) vs.length (C' u)) ∧ aV W (A' u) vs) := fun W hb => by
        have h := HQ.out.below hb
        have hl : (rowsOf ah.length fun u => dN ah u ah.length).length = n := by rw [oV]; exact fF.out.symm
        have hr : row (rowsOf ah.length fun u => dN ah u ah.length) u = vs := by rw [vY (by rw [← fF.out]; exact hun), hvs, fF.out]
        obtain ⟨b, off, ha, hc⟩ := h.cell (by rw [hl]; omega)
        refine ⟨b, off, ha, ?_, ?_⟩
        · have := hc u (by rw [hl]; exact hun)
          rw [hr] at this; exact this
        · have := h.rows u (by rw [hl]; exact hun)
          rw [hr] at this; exact this
       have oC := Lib.hid (qM.start (u := u) (vs := vs) nM.out)
       have HT0 : Hid (i + 1 ≤ Q.length) := hlt
       clear hu hvs nM
       go_wp2
       clear q1
       go_loopw [11, 15] (fun qv jv wr => ∃ (j : Nat) (qq : Value) (Q' : List Int) (out : Nat → Bool) (left : Nat → Int), qq = qv ∧ j ≤ vs.length ∧ jv = .int .i64 j ∧ Hid (Q'.take (i + 1) = Q.take (i + 1) ∧ i + 1 ≤ Q'.length) ∧ Hid (qM (bU ah Pk) O who I G (fun x => (x : Int) ∈ Q.take i) u j vs Q' out left) ∧ Hid (wr.ownsRow (w.heap.size + 1 + 1 + 1) 2 1 qq Q'.length (Q'.map (Value.int .i64))) ∧ Hid (wr.rowIs (w.heap.size + 1) 4 n (bH out)) ∧ Hid (wr.rowIs (w.heap.size + 1 + 1) 2 n (dD left)) ∧ Hid (Below w1.heap.size w1 wr)) (fun _ jv _ => vs.length - (intOf jv).toNat)
       case atStart => exact ⟨0, _, Q, _, _, rfl, Nat.zero_le _, rfl, ⟨rfl, HT0.out⟩, oC, HU, HR, HL, HB⟩
       case round =>
        clear HT0 oC HU HR HL HB hsr SL
        obtain ⟨j, qq, Q', out, left, hqq, hj, rfl, HT, oC, HU, HR, HL, HB⟩ := hrel
        subst hqq
        have hsr : w.heap.size + 1 + 1 < wr.heap.size := HL.out.lt
        have Bw := Lib.hid (B1.out.trans (HB.out.mono B1.out.size))
        obtain ⟨rb, roff, hra, SQ, hrc⟩ := afp.out wr Bw.out
        have ZT := Lib.hid hrc
        clear hrc
        have t3 := (T1.out.below HB.out).c3
        by_cases hjt : j < vs.length
        · have hj1 : (j : Int) < vs.length := by omega
          have hj0 : (0 : Int) ≤ (j : Int) := by omega
          obtain ⟨vb, voff, hva, FH⟩ := ZT.out.cell (by omega)
          have v1 := FH j hjt
          obtain ⟨v, hv, hvn, huv⟩ := HVM.out _ (jo hjt)
          rw [hv] at v1
          have HV := Lib.hid hv
          have HUV := Lib.hid huv
          have hv0 : (0 : Int) ≤ (v : Int) := by omega
          have akb : (v : Int) < n := by omega
          have hvE : v < (bU ah Pk).length := by rw [dQ, ← fF.out]; exact hvn
          have Nq := Lib.hid hvE
          have i1 := (bY HI.out Bw.out).cell (i := v) (by rw [← fF.out]; exact hvn)
          have o1 := HR.out.cell hvn
          simp only [bH] at i1 o1
          rw [hra] at t3
          rw [hva] at SQ
          clear FH hv huv hvE hra
          have hzp : ∀ x, x < (bU ah Pk).length → ∀ y ∈ row (bU ah Pk) x, 0 ≤ y := fun x hx => (sZ HZ.out).pos hx
          have SV := Lib.hid hzp
          clear hzp
          cases iE : I v with
          | false =>
            have qO := Lib.hid (oC.out.pass SV.out wF.out Nq.out hjt HV.out (.inl iE))
            rw [iE] at i1
            clear iE oC
            go_wp2
            go_roundw
            case rel => exact ⟨j + 1, _, _, _, _, rfl, by omega, by go_num, HT, qO, HU, HR, HL, HB⟩
            case measure => simp [intOf]; omega
          | true =>
            have HIV := Lib.hid iE
            rw [iE] at i1
            clear iE
            cases hov : out v with
            | true =>
              have qO := Lib.hid (oC.out.pass SV.out wF.out Nq.out hjt HV.out (.inr (.inl hov)))
              rw [hov] at o1
              clear hov oC
              go_wp2
              go_roundw
              case rel => exact ⟨j + 1, _, _, _, _, rfl, by omega, by go_num, HT, qO, HU, HR, HL, HB⟩
              case measure => simp [intOf]; omega
            | false =>
              have HOV := Lib.hid hov
              rw [hov] at o1
              clear hov
              have t0 := (T1.out.below HB.out).c0
              have t1 := (T1.out.below HB.out).c1
              have t2 := (T1.out.below HB.out).c2
              have t4 := (T1.out.below HB.out).c4
              obtain ⟨qa, qc, Dc⟩ := Q9 HU.out
              subst Dc
              obtain ⟨pb, hpb⟩ : ∃ b, jX Pk v (u : Int) = b := ⟨_, rfl⟩
              have HE := Lib.hid (ZK (ao := ao) (ap := ap) (an := an) (aq := some ⟨rb, roff, none⟩) O.length lp n n co cp cn cq ck hpb (HK.out.below Bw.out) (by rw [zT.out, ← fF.out]; exact hvn))
              cases pb with
              | false =>
                have hnm : (u : Int) ∉ row (bU ah Pk) v := fun hm => by
                 rw [jM (by rw [← fF.out]; exact hvn)] at hm
                 have := (List.mem_filter.1 hm).2
                 rw [hpb] at this; cases this
                have qO := Lib.hid (oC.out.pass SV.out wF.out Nq.out hjt HV.out (.inr (.inr hnm)))
                clear hpb hnm oC
                go_wp2_with (go_at_call 153; refine HE.out.mono ?_; rintro e w5 ⟨rfl, hb⟩; have rM := Lib.hid (kH HU.out (S := fun _ => False) (Only.of_below hb) (fun _ _ h => h)); have lM := Lib.hid (bY HR.out hb); have rJ := Lib.hid (bY HL.out hb); have xU := Lib.hid (HB.out.trans (hb.mono HB.out.size)); clear hb)
                go_roundw
                case rel => exact ⟨j + 1, _, _, _, _, rfl, by omega, by go_num, HT, qO, rM, lM, rJ, xU⟩
                case measure => simp [intOf]; omega
              | true =>
                have hmE : (u : Int) ∈ row (bU ah Pk) v := by
                 rw [jM (by rw [← fF.out]; exact hvn)]
                 exact List.mem_filter.2 ⟨HUV.out, hpb⟩
                have ZU := Lib.hid oC.out.ja
                have oD := Lib.hid (oC.out.less (sZ HZ.out) wF.out Nq.out hjt HV.out HIV.out HOV.out hmE SN.out qN.out)
                have hlv : 0 ≤ left v - 1 ∧ left v - 1 ≤ 16 := by
                 have h1 := oD.out.1
                 have h2 := afb (ah := bU ah Pk) (I := I) (gI (fun x => (x : Int) ∈ Q.take i) u) v
                 have h3 : (row (bU ah Pk) v).length ≤ 16 := by
                  rw [jM (by rw [← fF.out]; exact hvn)]
                  exact Nat.le_trans (List.length_filter_le _ _) (FD.out v (by rw [← fF.out]; exact hvn))
                 omega
                obtain ⟨akc, hlv1⟩ := hlv
                clear hpb hmE oC
                go_wp2_with fail
                refine HE.out.mono ?_
                rintro e w5 ⟨rfl, hb⟩
                have rM := Lib.hid (kH HU.out (S := fun _ => False) (Only.of_below hb) (fun _ _ h => h))
                have lM := Lib.hid (bY HR.out hb)
                have rJ := Lib.hid (bY HL.out hb)
                have xU := Lib.hid (HB.out.trans (hb.mono HB.out.size))
                clear hb HU HR HL HB t0 t1 t2 t3 t4 i1 o1 SQ v1 HE Bw ZT
                have akd : w.heap.size + 1 + 1 < w5.heap.size := rJ.out.lt
                have l5 := rJ.out.cell hvn
                have lf5 := rJ.out.frozen v
                simp only [dD] at l5
                have hwl : IntKind.i64.wrap (left v - 1) = left v - 1 := IntWalk.i64_in _ (by omega)
                have hS6 : Only (fun b => b = w.heap.size + 1 + 1) w5 (w5.setCell ⟨w.heap.size + 1 + 1, v, none⟩ (.int .i64 (left v - 1))) := (Only.refl (fun b => b = w.heap.size + 1 + 1) w5).setCell (p := ⟨w.heap.size + 1 + 1, v, none⟩) rfl _
                have Dh := Lib.hid (C9 (v := v) (x := left v - 1) rJ.out)
                have zU := Lib.hid (fV lM.out hS6 (by omega))
                have zV := Lib.hid (kH rM.out hS6 (fun g hg e => by have := (rM.out.lt g hg).1; omega))
                have B6 := Lib.hid (xU.out.trans (hS6.below (B := w1.heap.size) xU.out.size (fun b hb => by have := cO.out; omega)))
                obtain ⟨w6, hw6⟩ : ∃ y, y = w5.setCell ⟨w.heap.size + 1 + 1, v, none⟩ (.int .i64 (left v - 1)) := ⟨_, rfl⟩
                have SI := Lib.hid hw6
                rw [← hw6] at Dh zU zV B6
                have Bx := Lib.hid (B1.out.trans (B6.out.mono B1.out.size))
                obtain ⟨ob, oo, hoa, hoc⟩ := (HO.out.below Bx.out).cell (by have := HOL.out; omega)
                have SX := hoc v (by have := HOL.out; omega)
                have FI := (T1.out.below B6.out).c0
                rw [hoa] at FI
                have ake : (v : Int) < O.length := by have := HOL.out; omega
                have l6 := Dh.out.cell hvn
                simp only [dD, if_true] at l6
                have o6 := zU.out.cell hvn
                have xX := zU.out.frozen v
                simp only [bH] at o6
                clear hoc hS6 rM lM rJ xU Bx
                by_cases hown : nth O v = who
                · have hOW : (nth O v == who) = true := by simpa using hown
                  have SY : nth O v = who ∨ left v - 1 = 0 := .inl hown
                  rw [hw6] at SX
                  clear hown hoa
                  have xY : Only (fun b => b = w.heap.size + 1) w6 (w6.setCell ⟨w.heap.size + 1, v, none⟩ (.bool true)) := (Only.refl (fun b => b = w.heap.size + 1) w6).setCell (p := ⟨w.heap.size + 1, v, none⟩) rfl _
                  have qO := Lib.hid (oD.out.2.2 SY ZR.out ZQ.out)
                  have tu := Lib.hid (Sv (v := v) zU.out)
                  have o8 := Lib.hid (fV Dh.out xY (by omega))
                  have o9 := Lib.hid (kH zV.out xY (fun g hg e => by have := (zV.out.lt g hg).1; omega))
                  have B7 := Lib.hid (B6.out.trans (xY.below (B := w1.heap.size) B6.out.size (fun b hb => by have := cO.out; omega)))
                  have hs7 : w.heap.size + 1 + 1 + 1 ≤ (w6.setCell ⟨w.heap.size + 1, v, none⟩ (.bool true)).heap.size := by have := o8.out.lt; omega
                  rw [hw6] at o9 tu o8 B7 hs7
                  have tC := Lib.hid hs7
                  rw [hw6] at o6 xX l6 FI
                  have Nr : Q'.length ≤ n := by have := ZU.out.len; rw [dQ, ← fF.out] at this; exact this
                  clear zV zU Dh hw6 xY B6 hs7 oD
                  go_wp2_with (at_builtin; refine wpList_append_own_at _ rfl _ _ 22 rfl (w.heap.size + 1 + 1 + 1) 2 j0 (.int .i64 0) 1 8 Tryd.underlying22 hji Sz SA SB rfl (by decide) _ _ _ rfl (o9.out.alloc _) ⟨w5.heap.size, 0, none⟩ 1 1 [.int .i64 v] rfl rfl ?c1 ?c2 ?c3 ?c4 ?c5 ?_)
                  case c1 =>
                   intro j u hu
                   have h := cell_one_new ((w5.setCell ⟨w.heap.size + 1 + 1, v, none⟩ (.int .i64 (left v - 1))).setCell ⟨w.heap.size + 1, v, none⟩ (.bool true)) (.int .i64 v) 2 j u hu
                   rw [show ((w5.setCell ⟨w.heap.size + 1 + 1, v, none⟩ (.int .i64 (left v - 1))).setCell ⟨w.heap.size + 1, v, none⟩ (.bool true)).heap.size = w5.heap.size by simp] at h
                   exact h
                  case c2 => intro u hu; simp at hu; subst hu; rfl
                  case c3 => unfold maxLen; omega
                  case c4 => omega
                  case c5 => have := tC.out; simp at this ⊢; omega
                  intro v' w8 hown hgrow _ _
                  have hol := o9.out.lt
                  have pq : Only (fun b => w.heap.size + 1 + 1 + 1 ≤ b) _ w8 := (Only.of_below (aA _ _)).trans ((Only.dV hgrow).mono fun b hb => (hol b hb).1)
                  have Je := Lib.hid (fV tu.out pq (by omega))
                  have Jf := Lib.hid (fV o8.out pq (by omega))
                  have B8 := Lib.hid (B7.out.trans (pq.below (B := w1.heap.size) B7.out.size (fun b hb => by have := cO.out; omega)))
                  have Jg : Hid (w8.ownsRow (w.heap.size + 1 + 1 + 1) 2 1 v' (Q' ++ [(v : Int)]).length ((Q' ++ [(v : Int)]).map (Value.int .i64))) := by
                   rw [List.map_append, List.length_append]; exact hown
                  have S9 : Hid ((Q' ++ [(v : Int)]).take (i + 1) = Q.take (i + 1) ∧ i + 1 ≤ (Q' ++ [(v : Int)]).length) := ⟨by rw [List.take_append_of_le_length HT.out.2]; exact HT.out.1, by have := HT.out.2; simp; omega⟩
                  clear hown hgrow pq hol o9 tu o8 B7 o6 xX l6 FI
                  go_wp2
                  go_roundw
                  case rel => exact ⟨j + 1, _, _, _, _, rfl, by omega, by go_num, S9, qO, Jg, Je, Jf, B8⟩
                  case measure => simp [intOf]; omega
                · have hOW : (nth O v == who) = false := beq_eq_false_iff_ne.2 hown
                  by_cases hl0 : left v - 1 = 0
                  · have hL0 : (left v - 1 == 0) = true := by simpa using hl0
                    have SY : nth O v = who ∨ left v - 1 = 0 := .inr hl0
                    rw [hw6] at SX
                    clear hown hoa hl0
                    have xY : Only (fun b => b = w.heap.size + 1) w6 (w6.setCell ⟨w.heap.size + 1, v, none⟩ (.bool true)) := (Only.refl (fun b => b = w.heap.size + 1) w6).setCell (p := ⟨w.heap.size + 1, v, none⟩) rfl _
                    have qO := Lib.hid (oD.out.2.2 SY ZR.out ZQ.out)
                    have tu := Lib.hid (Sv (v := v) zU.out)
                    have o8 := Lib.hid (fV Dh.out xY (by omega))
                    have o9 := Lib.hid (kH zV.out xY (fun g hg e => by have := (zV.out.lt g hg).1; omega))
                    have B7 := Lib.hid (B6.out.trans (xY.below (B := w1.heap.size) B6.out.size (fun b hb => by have := cO.out; omega)))
                    have hs7 : w.heap.size + 1 + 1 + 1 ≤ (w6.setCell ⟨w.heap.size + 1, v, none⟩ (.bool true)).heap.size := by have := o8.out.lt; omega
                    rw [hw6] at o9 tu o8 B7 hs7
                    have tC := Lib.hid hs7
                    rw [hw6] at o6 xX l6 FI
                    have Nr : Q'.length ≤ n := by have := ZU.out.len; rw [dQ, ← fF.out] at this; exact this
                    clear zV zU Dh hw6 xY B6 hs7 oD
                    go_wp2_with (at_builtin; refine wpList_append_own_at _ rfl _ _ 22 rfl (w.heap.size + 1 + 1 + 1) 2 j0 (.int .i64 0) 1 8 Tryd.underlying22 hji Sz SA SB rfl (by decide) _ _ _ rfl (o9.out.alloc _) ⟨w5.heap.size, 0, none⟩ 1 1 [.int .i64 v] rfl rfl ?c1 ?c2 ?c3 ?c4 ?c5 ?_)
                    case c1 =>
                     intro j u hu
                     have h := cell_one_new ((w5.setCell ⟨w.heap.size + 1 + 1, v, none⟩ (.int .i64 (left v - 1))).setCell ⟨w.heap.size + 1, v, none⟩ (.bool true)) (.int .i64 v) 2 j u hu
                     rw [show ((w5.setCell ⟨w.heap.size + 1 + 1, v, none⟩ (.int .i64 (left v - 1))).setCell ⟨w.heap.size + 1, v, none⟩ (.bool true)).heap.size = w5.heap.size by simp] at h
                     exact h
                    case c2 => intro u hu; simp at hu; subst hu; rfl
                    case c3 => unfold maxLen; omega
                    case c4 => omega
                    case c5 => have := tC.out; simp at this ⊢; omega
                    intro v' w8 hown hgrow _ _
                    have hol := o9.out.lt
                    have pq : Only (fun b => w.heap.size + 1 + 1 + 1 ≤ b) _ w8 := (Only.of_below (aA _ _)).trans ((Only.dV hgrow).mono fun b hb => (hol b hb).1)
                    have Je := Lib.hid (fV tu.out pq (by omega))
                    have Jf := Lib.hid (fV o8.out pq (by omega))
                    have B8 := Lib.hid (B7.out.trans (pq.below (B := w1.heap.size) B7.out.size (fun b hb => by have := cO.out; omega)))
                    have Jg : Hid (w8.ownsRow (w.heap.size + 1 + 1 + 1) 2 1 v' (Q' ++ [(v : Int)]).length ((Q' ++ [(v : Int)]).map (Value.int .i64))) := by
                     rw [List.map_append, List.length_append]; exact hown
                    have S9 : Hid ((Q' ++ [(v : Int)]).take (i + 1) = Q.take (i + 1) ∧ i + 1 ≤ (Q' ++ [(v : Int)]).length) := ⟨by rw [List.take_append_of_le_length HT.out.2]; exact HT.out.1, by have := HT.out.2; simp; omega⟩
                    clear hown hgrow pq hol o9 tu o8 B7 o6 xX l6 FI
                    go_wp2
                    go_roundw
                    case rel => exact ⟨j + 1, _, _, _, _, rfl, by omega, by go_num, S9, qO, Jg, Je, Jf, B8⟩
                    case measure => simp [intOf]; omega
                  · have hL0 : (left v - 1 == 0) = false := beq_eq_false_iff_ne.2 hl0
                    have qO := Lib.hid (oD.out.2.1 hown hl0)
                    rw [hw6] at o6 xX l6 FI SX
                    clear hown hl0 oD hoa hw6
                    go_wp2
                    rw [← SI.out]
                    go_roundw
                    case rel => exact ⟨j + 1, _, _, _, _, rfl, by omega, by go_num, HT, qO, zV, zU, Dh, B6⟩
                    case measure => simp [intOf]; omega
        · have hj1 : ¬ (j : Int) < vs.length := by omega
          have hjj : j = vs.length := by omega
          rw [hjj] at oC
          have qO : Hid (C7 (bU ah Pk) O who I G (fun x => (x : Int) ∈ Q'.take (i + 1)) Q' out left) := oC.out.full (fun x hx => (sZ HZ.out).pos hx) (fun x hx hm => by
           rw [dQ] at hx
           rw [jM hx] at hm
           exact HVR.out x (by rw [fF.out]; exact hx) (List.mem_filter.1 hm).1) (fun x => by
           rw [HT.out.1, take_snoc hlt, HUQ.out]
           simp [gI, Int.natCast_inj])
          have hT2 := HT.out.2
          rw [hra] at t3
          clear hjj oC hra
          go_wp2
          clear t3 SQ
          go_roundw
          case rel => exact ⟨i + 1, _, _, _, _, rfl, hT2, by go_num, qO, HU, HR, HL, HB⟩
          case measure => simp [intOf]; omega
     · have hi1 : ¬ (i : Int) < Q.length := by omega
       have hii : i = Q.length := by omega
       rw [hii, List.take_length] at nM
       have HF : Hid (wr.rowIs (w.heap.size + 1) 4 n (bH (aN (bU ah Pk) O who I G))) := World.rowIs.congr HR.out fun x hx => by
        unfold bH
        rw [nM.out.done (sZ HZ.out) x (by rw [dQ, ← fF.out]; exact hx)]
       have Bw := Lib.hid (B1.out.trans (HB.out.mono B1.out.size))
       clear hii nM
       go_wp2
       go_ret
       exact ⟨_, rfl, by omega, HF.out, Bw.out⟩
end
section
open Go.RowKit
def iG (f : Nat → Bool) (k : Nat) : Nat → Bool := fun v => decide (v < k) && f v
theorem afq {f : Nat → Bool} {k : Nat} : iG f (k + 1) = jV (iG f k) k (f k) := funext fun v => by
 unfold iG jV
 by_cases e : v = k
 · subst e; simp
 · rw [if_neg e]
   congr 1
   rw [decide_eq_decide]; omega
theorem FK {f : Nat → Bool} {n : Nat} {w : World} {b : Nat} (h : w.rowIs b 4 n (bH (iG f n))) : w.rowIs b 4 n (bH f) :=
 h.congr fun i hi => by simp [bH, iG, hi]
theorem FM {w : World} {f : Nat → Bool} {n : Nat} : (w.alloc (.cells (madeCells #[.bool false] n) 4)).rowIs w.heap.size 4 n (bH (iG f 0)) :=
 (World.rowIs_made w _ _ _).congr (fun i _ => by simp [bH, iG])
theorem ZV {w : World} {f g : Nat → Bool} {n b : Nat} (h : w.rowIs b 4 n (bH (iG f 0))) : w.rowIs b 4 n (bH (iG g 0)) :=
 h.congr (fun i _ => by simp [bH, iG])
theorem tH {w : World} {f : Nat → Bool} {n b k : Nat} {x : Bool} (h : w.rowIs b 4 n (bH (iG f k))) (hx : f k = x) : (w.setCell ⟨b, k, none⟩ (.bool x)).rowIs b 4 n (bH (iG f (k + 1))) := by
 rw [afq, hx]; exact Zf h
def lN (f : Nat → Bool) : Nat → Bool
 | 0 => false
 | k + 1 => lN f k || f k
theorem Ns {f : Nat → Bool} : ∀ n, (List.range n).any f = lN f n
 | 0 => rfl
 | n + 1 => by rw [List.range_succ, List.any_append, Ns n]; simp [lN]
noncomputable def xZ (ah : List (List Int)) (O : List Int) (p : Nat → Int) (W : (Nat → Bool) → Nat → Bool) (I : Nat → Bool) (v : Nat) : Bool :=
 if dW p I ah.length < 0 then false
 else if (List.range ah.length).any (nK (dW p I ah.length % 2) (fB ah O p I) (W (fB ah O p I))) = false then I v && decide (dW p I ah.length % 2 = 0)
 else W (aQ I (aN ah O (1 - dW p I ah.length % 2) I (nK (dW p I ah.length % 2) (fB ah O p I) (W (fB ah O p I))))) v ||
  (aN ah O (1 - dW p I ah.length % 2) I (nK (dW p I ah.length % 2) (fB ah O p I) (W (fB ah O p I))) v && decide (dW p I ah.length % 2 = 1))
section
variable {ah : List (List Int)} {O : List Int} {p : Nat → Int} {W : (Nat → Bool) → Nat → Bool} {I : Nat → Bool} {n : Nat} {top who : Int}
theorem step_none (hl : ah.length = n) (ht : dW p I n < 0) : xZ ah O p W I = fun _ => false := funext fun v => by
 unfold xZ; rw [hl, if_pos ht]
theorem ZW (hl : ah.length = n) (ht : dW p I n = top) : aQ I (aN ah O (top % 2) I (fun v => I v && decide (p v = top))) = fB ah O p I := by
 unfold fB Fz; rw [hl, ht]
theorem step_some {rest lost : Nat → Bool} (hl : ah.length = n) (ht : dW p I n = top) (h0 : ¬ top < 0) (hr : rest = fB ah O p I) (hlo : lost = nK (top % 2) rest (W rest)) (hs : lN lost n = true) :
 xZ ah O p W I = fun v => W (aQ I (aN ah O (1 - top % 2) I lost)) v || (aN ah O (1 - top % 2) I lost v && decide (top % 2 = 1)) := funext fun v => by
 unfold xZ
 rw [hl, ht, if_neg h0, Ns, ← hr, ← hlo, if_neg (by rw [hs]; simp)]
theorem afr {rest lost : Nat → Bool} (hl : ah.length = n) (ht : dW p I n = top) (h0 : ¬ top < 0) (hr : rest = fB ah O p I) (hlo : lost = nK (top % 2) rest (W rest)) (hs : lN lost n = false) :
 xZ ah O p W I = fun v => I v && decide (top % 2 = 0) := funext fun v => by
 unfold xZ
 rw [hl, ht, if_neg h0, Ns, ← hr, ← hlo, if_pos hs]
theorem afs (hin : ig ah) (hl : ah.length = n) (ht : dW p I n = top) (h0 : ¬ top < 0) : (aU (fB ah O p I) n).length < (aU I n).length := by
 obtain ⟨g, hg1, hg2, hg3⟩ := Jc (p := p) (I := I) n (by omega)
 rw [← ZW hl ht]
 refine wL (fun v _ h => (eP.1 h).1) hg1 hg2 ?_
 have hgA : aN ah O (top % 2) I (fun v => I v && decide (p v = top)) g = true := (qL hin (by rw [hl]; exact hg1)).2 ⟨hg2, .inl (by simp [hg2, hg3, ht])⟩
 cases h : aQ I (aN ah O (top % 2) I (fun v => I v && decide (p v = top))) g with
 | false => rfl
 | true => rw [(eP.1 h).2] at hgA; cases hgA
theorem aft {lost : Nat → Bool} (hin : ig ah) (hl : ah.length = n) {b : Int} (hs : lN lost n = true) (hsub : ∀ v, lost v = true → I v = true) : (aU (aQ I (aN ah O b I lost)) n).length < (aU I n).length := by
 rw [← Ns, List.any_eq_true] at hs
 obtain ⟨x, hx, hlx⟩ := hs
 rw [List.mem_range] at hx
 refine wL (fun v _ h => (eP.1 h).1) hx (hsub x hlx) ?_
 have hax : aN ah O b I lost x = true := (qL hin (by rw [hl]; exact hx)).2 ⟨hsub x hlx, .inl hlx⟩
 cases h : aQ I (aN ah O b I lost) x with
 | false => rfl
 | true => rw [(eP.1 h).2] at hax; cases hax
theorem afu {w : Int} {low : Nat → Bool} {v : Nat} (h : nK w (fB ah O p I) low v = true) : I v = true := by
 unfold nK fB at h
 rw [Bool.and_eq_true] at h
 exact (eP.1 h.1).1
end
set_option maxHeartbeats 16000000 in
set_option maxRecDepth 100000 in
theorem ZX {w : World} {ao ap an aq ak : Option Addr} {A : Nat → Option Addr} {C : Nat → Nat} {A' : Nat → Option Addr} {C' : Nat → Nat} {ah : List (List Int)} {O P Pk : List Int} {W : (Nat → Bool) → Nat → Bool} {I : Nat → Bool} {bI : Nat} (co cp cn cq ck : Nat)
 (hO : aV w ao O) (hP : aV w ap P) (hn : dU w an A C ah) (hq : dU w aq A' C' (rowsOf ah.length fun u => dN ah u ah.length)) (hk : aV w ak Pk) (hz : iO ah) (fM : O.length = ah.length) (hPl : P.length = ah.length) (hpk : Pk.length = ah.length) (ku : ah.length ≤ 256) (jZ : ∀ v, v < ah.length → (row ah v).length ≤ 16)
 (hI : w.rowIs bI 4 ah.length (bH I))
 (hrec : ∀ (w' : World) (bJ : Nat) (J : Nat → Bool), Below w.heap.size w w' → w'.rowIs bJ 4 ah.length (bH J) → (aU J ah.length).length < (aU I ah.length).length →
  Calls Tryd.prog 99 #[.agg #[.slice ao O.length co, .slice ap P.length cp, .slice an ah.length cn, .slice aq ah.length cq, .slice ak Pk.length ck], .slice (some ⟨bJ, 0, none⟩) ah.length ah.length] w' (tq w' ah.length (W J))) :
 Calls Tryd.prog 99 #[.agg #[.slice ao O.length co, .slice ap P.length cp, .slice an ah.length cn, .slice aq ah.length cq, .slice ak Pk.length ck], .slice (some ⟨bI, 0, none⟩) ah.length ah.length] w (tq w ah.length (xZ (bU ah Pk) O (nth P) W I)) := by
 obtain ⟨n, hnl⟩ : ∃ n, n = ah.length := ⟨_, rfl⟩
 have fF := Lib.hid hnl
 have ZY := Lib.hid (sZ (Pk := Pk) hz).eu
 have kL : Hid ((bU ah Pk).length = n) := by unfold Hid; rw [dQ, hnl]
 have hmb := run_make_row' (P := Tryd.prog) 63 4 (.bool false) 1 Tryd.underlying63 I7 rfl .i64 .i64 n (by omega) (by omega)
 have HO := Lib.hid hO
 have rO := Lib.hid hP
 have zS := Lib.hid hn
 have HQ := Lib.hid hq
 have HK := Lib.hid hk
 have HI := Lib.hid hI
 have HZ := Lib.hid hz
 have zT := Lib.hid hpk
 have HOL := Lib.hid fM
 have kD := Lib.hid hPl
 have FD := Lib.hid jZ
 have Tc := Lib.hid hrec
 have akf := Lib.hid ku
 have Z4 : Hid (∀ {w' : World} {G : Nat → Bool} {bG : Nat} (who : Int), Below w.heap.size w w' → w'.rowIs bG 4 n (bH G) → Calls Tryd.prog 127 #[.agg #[.slice ao O.length co, .slice ap P.length cp, .slice an n cn, .slice aq n cq, .slice ak Pk.length ck], .slice (some ⟨bI, 0, none⟩) n n, .int .i64 who, .slice (some ⟨bG, 0, none⟩) n n] w' (tq w' n (aN (bU ah Pk) O who I G))) := by
  intro w' G bG who hb hG
  rw [hnl] at hG ⊢
  exact afn P.length co cp cn cq ck (hO.below hb) (hn.below hb) (hq.below hb) (hk.below hb) hz fM hpk ku jZ (bY hI hb) hG
 have Z5 : Hid (∀ {w' : World}, Below w.heap.size w w' → Calls Tryd.prog 125 #[.agg #[.slice ao O.length co, .slice ap P.length cp, .slice an n cn, .slice aq n cq, .slice ak Pk.length ck], .slice (some ⟨bI, 0, none⟩) n n] w' fun e w2 => e = .returned (.int .i64 (dW (nth P) I n)) ∧ Below w'.heap.size w' w2) := by
  intro w' hb
  rw [hnl]
  exact afi O.length ah.length ah.length Pk.length co cp cn cq ck (hP.below hb) (bY hI hb) (by omega) hPl
 rw [← hnl] at ku fM hpk hI hPl
 have HI := Lib.hid hI
 rw [← hnl] at Tc
 obtain ⟨w1, hw1⟩ : ∃ y, y = w.alloc (.cells #[.slice ao O.length co, .slice ap P.length cp, .slice an n cn, .slice aq n cq, .slice ak Pk.length ck] 61) := ⟨_, rfl⟩
 have HW1 := Lib.hid hw1
 have hs1 : w1.heap.size = w.heap.size + 1 := by rw [hw1]; simp
 have cO := Lib.hid hs1
 have B1 : Hid (Below w.heap.size w w1) := by rw [hw1]; exact aA _ _
 have T1 : Hid (eF w1 w.heap.size 61 (.slice ao O.length co) (.slice ap P.length cp) (.slice an n cn) (.slice aq n cq) (.slice ak Pk.length ck)) := by rw [hw1]; exact eF.new _ _ _ _ _ _ _
 obtain ⟨top, htop⟩ : ∃ top, dW (nth P) I n = top := ⟨_, rfl⟩
 have HT := Lib.hid htop
 have t0 := T1.out.c0
 have t1 := T1.out.c1
 have t2 := T1.out.c2
 have t3 := T1.out.c3
 have t4 := T1.out.c4
 clear hO hP hn hq hk hI hz hw1 hs1 jZ hpk fM hPl hrec htop
 rw [← hnl]
 clear hnl
 by_cases hneg : top < 0
 · have HE := Lib.hid (step_none (O := O) (W := W) kL.out (by rw [HT.out]; exact hneg))
   go_enter Tryd.func99, Tryd.ntmps99
   go_wp2_with fail
   rw [← HW1.out]
   refine (Z5.out B1.out).mono ?_
   rintro e w2 ⟨rfl, hb⟩
   rw [HT.out]
   have RO : Hid ((w2.alloc (.cells (madeCells #[.bool false] n) 4)).rowIs w2.heap.size 4 n (bH (fun _ => false))) := (FM (f := fun _ => false)).congr fun i _ => by simp [bH, iG]
   have B2 := Lib.hid (B1.out.trans (hb.mono B1.out.size))
   have B3 := Lib.hid (B2.out.trans ((aA w2 (.cells (madeCells #[.bool false] n) 4)).mono B2.out.size))
   clear hb
   go_wp2
   go_ret
   exact ⟨_, rfl, B2.out.size, by rw [HE.out]; exact RO.out, B3.out⟩
 · have Z7 : 0 ≤ top := by omega
   obtain ⟨who, hwho⟩ : ∃ who, top % 2 = who := ⟨_, rfl⟩
   have Td := Lib.hid hwho
   have akg : top.tmod 2 = who := by rw [← hwho]; exact Int.tmod_eq_emod_of_nonneg Z7
   have Z8 : who = 0 ∨ who = 1 := by omega
   have Tf := Lib.hid Z8
   have HT0 := Lib.hid Z7
   have HTB : Hid (¬ top < 0) := hneg
   obtain ⟨G, hG⟩ : ∃ G : Nat → Bool, G = fun v => I v && decide (nth P v = top) := ⟨_, rfl⟩
   have HG := Lib.hid hG
   have Ti : Hid (aQ I (aN (bU ah Pk) O who I G) = fB (bU ah Pk) O (nth P) I) := by
    rw [hG, ← hwho]; exact ZW kL.out HT.out
   have Z9 : Hid (∀ k, G k = (I k && (nth P k == top))) := fun k => by rw [hG]; rfl
   clear hwho Z8 hG
   go_enter Tryd.func99, Tryd.ntmps99
   go_wp2_with fail
   rw [← HW1.out]
   refine (Z5.out B1.out).mono ?_
   rintro e w2 ⟨rfl, hb⟩
   rw [HT.out]
   have K2 := Lib.hid hb
   have Tj : w1.heap.size ≤ w2.heap.size := hb.size
   have FN := Lib.hid Tj
   obtain ⟨w3, hw3⟩ : ∃ y, y = w2.alloc (.cells (madeCells #[.bool false] n) 4) := ⟨_, rfl⟩
   have HW3 := Lib.hid hw3
   have RO3 : Hid (w3.rowIs w2.heap.size 4 n (bH (iG (fun _ => false) 0))) := by rw [hw3]; exact FM
   have Tm : w3.heap.size = w2.heap.size + 1 := by rw [hw3]; simp
   have H3S := Lib.hid Tm
   have K3 : Hid (Below w1.heap.size w1 w3) := by
    rw [hw3]; exact K2.out.trans ((aA w2 (.cells (madeCells #[.bool false] n) 4)).mono Tj)
   obtain ⟨w4, hw4⟩ : ∃ y, y = w3.alloc (.cells (madeCells #[.bool false] n) 4) := ⟨_, rfl⟩
   have kC := Lib.hid hw4
   have RG4 : Hid (w4.rowIs (w2.heap.size + 1) 4 n (bH (iG G 0))) := by rw [hw4, ← Tm]; exact FM
   have RO4 : Hid (w4.rowIs w2.heap.size 4 n (bH (iG (fun _ => false) 0))) := by rw [hw4]; exact World.rowIs.alloc RO3.out _
   have h4s : w4.heap.size = w3.heap.size + 1 := by rw [hw4]; simp
   have H4S := Lib.hid h4s
   have K4 : Hid (Below w1.heap.size w1 w4) := by
    rw [hw4]; exact K3.out.trans ((aA w3 (.cells (madeCells #[.bool false] n) 4)).mono (by omega))
   clear t0 t1 t2 t3 t4 hb hw3 hw4 Tm h4s Tj
   go_wp2
   rw [← HW3.out, ← kC.out]
   go_loopw [9] (fun iv wr => ∃ k : Nat, k ≤ n ∧ iv = .int .i64 k ∧ Hid (wr.rowIs (w2.heap.size + 1) 4 n (bH (iG G k))) ∧ Hid (Only (fun b => b = w2.heap.size + 1) w4 wr)) (fun iv _ => n - (intOf iv).toNat)
   case atStart => exact ⟨0, Nat.zero_le _, rfl, RG4, Only.refl _ _⟩
   case round =>
    clear RG4
    obtain ⟨k, hk, rfl, HR, HB⟩ := hrel
    have KW : Hid (Below w1.heap.size w1 wr) := K4.out.trans (HB.out.below (B := w1.heap.size) K4.out.size (fun b hb => by have := FN.out; omega))
    have BW := Lib.hid (B1.out.trans (KW.out.mono B1.out.size))
    by_cases hlt : k < n
    · have hk1 : (k : Int) < n := by omega
      have hk0 : (0 : Int) ≤ (k : Int) := by omega
      have i1 := (bY HI.out BW.out).cell hlt
      have o1 := HR.out.cell hlt
      have of := HR.out.frozen k
      simp only [bH] at i1 o1
      have hG1 := Z9.out k
      cases hi : I k with
      | false =>
        rw [hi, Bool.false_and] at hG1
        have R1 := Lib.hid (tH HR.out hG1)
        have kM := Lib.hid (HB.out.setCell (p := ⟨w2.heap.size + 1, k, none⟩) rfl (.bool false))
        rw [hi] at i1
        clear hi hG1
        go_wp2
        go_roundw
        case rel => exact ⟨k + 1, by omega, by go_num, R1, kM⟩
        case measure => simp [intOf]; omega
      | true =>
        obtain ⟨pb, po, hpa, hpc⟩ := (rO.out.below BW.out).cell (by have := kD.out; have := fF.out; omega)
        have p1 := hpc k (by have := kD.out; have := fF.out; omega)
        have hkp : (k : Int) < P.length := by have := kD.out; have := fF.out; omega
        have t1 := (T1.out.below KW.out).c1
        rw [hpa] at t1
        rw [hi, Bool.true_and] at hG1
        have R1 := Lib.hid (tH HR.out hG1)
        have kM := Lib.hid (HB.out.setCell (p := ⟨w2.heap.size + 1, k, none⟩) rfl (.bool (nth P k == top)))
        rw [hi] at i1
        clear hi hG1 hpa hpc
        go_wp2
        go_roundw
        case rel => exact ⟨k + 1, by omega, by go_num, R1, kM⟩
        case measure => simp [intOf]; omega
    · have hkk : k = n := by omega
      have hk1 : ¬ (k : Int) < n := by omega
      rw [hkk] at HR
      have RG := Lib.hid (FK HR.out)
      have hws := HB.out.size
      have RO := Lib.hid (fV RO4.out HB.out (by omega))
      clear hkk HR RO4 Z9 hws
      have t0 := (T1.out.below KW.out).c0
      have t1 := (T1.out.below KW.out).c1
      have t2 := (T1.out.below KW.out).c2
      have t3 := (T1.out.below KW.out).c3
      have t4 := (T1.out.below KW.out).c4
      have aab : w2.heap.size + 1 < wr.heap.size := RG.out.lt
      have Nu := Lib.hid aab
      obtain ⟨rest, hrest⟩ : ∃ rest, rest = fB (bU ah Pk) O (nth P) I := ⟨_, rfl⟩
      have Tq := Lib.hid hrest
      rw [← hrest] at Ti
      have aac : Hid ((aU rest n).length < (aU I n).length) := by rw [hrest]; exact afs ZY.out kL.out HT.out (by have := HT0.out; omega)
      clear hrest aab
      go_wp2_with fail
      refine (Z4.out who BW.out RG.out).mono ?_
      rintro e w5 ⟨b5, rfl, hb5, hr5, hb⟩
      have R5 := Lib.hid hr5
      have K5 := Lib.hid (KW.out.trans (hb.mono KW.out.size))
      have B5 := Lib.hid (B1.out.trans (K5.out.mono B1.out.size))
      have RO5 := Lib.hid (bY RO.out hb)
      have hw5 := hb.size
      clear t0 t1 t2 t3 t4 hr5 hb RG RO
      go_wp2_with fail
      refine (ZL (bY HI.out B5.out) R5.out (by omega)).mono ?_
      rintro e w6 ⟨b6, rfl, hb6, Tt, hb⟩
      rw [Ti.out] at Tt
      have R6 := Lib.hid Tt
      have K6 := Lib.hid (K5.out.trans (hb.mono K5.out.size))
      have B6 := Lib.hid (B1.out.trans (K6.out.mono B1.out.size))
      have RO6 := Lib.hid (bY RO5.out hb)
      have hw6 := hb.size
      have t0 := (T1.out.below K6.out).c0
      have t1 := (T1.out.below K6.out).c1
      have t2 := (T1.out.below K6.out).c2
      have t3 := (T1.out.below K6.out).c3
      have t4 := (T1.out.below K6.out).c4
      clear Tt hb RO5 R5 Ti
      go_wp2_with fail
      refine (Tc.out w6 b6 rest B6.out R6.out aac.out).mono ?_
      rintro e w7 ⟨b7, rfl, hb7, Df, hb⟩
      obtain ⟨low, hlow⟩ : ∃ low, low = W rest := ⟨_, rfl⟩
      have HLW := Lib.hid hlow
      rw [← hlow] at Df
      have R7 := Lib.hid Df
      have K7 := Lib.hid (K6.out.trans (hb.mono K6.out.size))
      have RO7 := Lib.hid (bY RO6.out hb)
      have Q7 := Lib.hid (bY R6.out hb)
      have hw7 := hb.size
      obtain ⟨lost, zQ⟩ : ∃ lost, lost = nK who rest low := ⟨_, rfl⟩
      have HLO := Lib.hid zQ
      have FO : Hid (∀ k, lost k = (rest k && (low k != (who == 0)))) := fun k => by rw [zQ]; rfl
      obtain ⟨w8, hw8⟩ : ∃ y, y = w7.alloc (.cells (madeCells #[.bool false] n) 4) := ⟨_, rfl⟩
      have HW8 := Lib.hid hw8
      have RL8 : Hid (w8.rowIs w7.heap.size 4 n (bH (iG lost 0))) := by rw [hw8]; exact FM
      have K8 : Hid (Below w1.heap.size w1 w8) := by
       rw [hw8]; exact K7.out.trans ((aA w7 (.cells (madeCells #[.bool false] n) 4)).mono K7.out.size)
      have RO8 : Hid (w8.rowIs w2.heap.size 4 n (bH (iG (fun _ => false) 0))) := by rw [hw8]; exact World.rowIs.alloc RO7.out _
      have Q8 : Hid (w8.rowIs b6 4 n (bH rest)) := by rw [hw8]; exact World.rowIs.alloc Q7.out _
      have L8 : Hid (w8.rowIs b7 4 n (bH low)) := by rw [hw8]; exact World.rowIs.alloc R7.out _
      have hq8 := Q7.out.lt
      have hl8 := R7.out.lt
      clear t0 t1 t2 t3 t4 hb hw8 Df hlow zQ RO6 R6 RO7 Q7 R7 K6 K5 K7 aac
      go_wp2
      rw [← HW8.out]
      go_loopw [13, 14] (fun sv iv wr => ∃ k : Nat, k ≤ n ∧ sv = .bool (lN lost k) ∧ iv = .int .i64 k ∧ Hid (wr.rowIs w7.heap.size 4 n (bH (iG lost k))) ∧ Hid (Only (fun b => b = w7.heap.size) w8 wr)) (fun _ iv _ => n - (intOf iv).toNat)
      case atStart => exact ⟨0, Nat.zero_le _, rfl, rfl, RL8, Only.refl _ _⟩
      case round =>
       clear RL8
       obtain ⟨k, hk, rfl, rfl, HR, HB2⟩ := hrel
       have akh : w1.heap.size ≤ w7.heap.size := by have := FN.out; have := Nu.out; omega
       have KX : Hid (Below w1.heap.size w1 wr) := K8.out.trans (HB2.out.below (B := w1.heap.size) K8.out.size (fun b hb => by omega))
       have BX := Lib.hid (B1.out.trans (KX.out.mono B1.out.size))
       by_cases hlt : k < n
       · have hk1 : (k : Int) < n := by omega
         have hk0 : (0 : Int) ≤ (k : Int) := by omega
         have q1 := (fV Q8.out HB2.out (by omega)).cell hlt
         have l1 := (fV L8.out HB2.out (by omega)).cell hlt
         have o1 := HR.out.cell hlt
         have of := HR.out.frozen k
         simp only [bH] at q1 l1 o1
         have hL1 := FO.out k
         obtain ⟨sm, hsm⟩ : ∃ sm, lN lost k = sm := ⟨_, rfl⟩
         rw [hsm]
         cases hi : rest k with
         | false =>
           rw [hi, Bool.false_and] at hL1
           have HS : Hid (lN lost (k + 1) = sm) := by simp [lN, hL1, hsm, Hid]
           have R1 := Lib.hid (tH HR.out hL1)
           have kM := Lib.hid (HB2.out.setCell (p := ⟨w7.heap.size, k, none⟩) rfl (.bool false))
           rw [hi] at q1
           clear hi hL1 hsm
           cases sm with
           | false =>
             go_wp2
             go_roundw
             case rel => exact ⟨k + 1, by omega, by rw [HS.out], by go_num, R1, kM⟩
             case measure => simp [intOf]; omega
           | true =>
             go_wp2
             go_roundw
             case rel => exact ⟨k + 1, by omega, by rw [HS.out], by go_num, R1, kM⟩
             case measure => simp [intOf]; omega
         | true =>
           rw [hi, Bool.true_and] at hL1
           obtain ⟨lk, hlk⟩ : ∃ lk, low k = lk := ⟨_, rfl⟩
           rw [hlk] at hL1 l1
           have HS : Hid (lN lost (k + 1) = (sm || (lk != (who == 0)))) := by simp [lN, hL1, hsm, Hid]
           have R1 := Lib.hid (tH HR.out hL1)
           have kM := Lib.hid (HB2.out.setCell (p := ⟨w7.heap.size, k, none⟩) rfl (.bool (lk != (who == 0))))
           rw [hi] at q1
           clear hi hL1 hsm hlk
           cases sm with
           | false =>
             go_wp2
             go_roundw
             case rel => exact ⟨k + 1, by omega, by rw [HS.out]; rfl, by go_num, R1, kM⟩
             case measure => simp [intOf]; omega
           | true =>
             go_wp2
             go_roundw
             case rel => exact ⟨k + 1, by omega, by rw [HS.out]; rfl, by go_num, R1, kM⟩
             case measure => simp [intOf]; omega
       · have hkk : k = n := by omega
         have hk1 : ¬ (k : Int) < n := by omega
         rw [hkk] at HR ⊢
         have RL := Lib.hid (FK HR.out)
         have RO := Lib.hid (fV RO8.out HB2.out (by have := Nu.out; omega))
         clear hkk HR RO8 FO Q8 L8
         obtain ⟨sm, hsm⟩ : ∃ sm, lN lost n = sm := ⟨_, rfl⟩
         rw [hsm]
         have Jh : lost = nK (top % 2) rest (W rest) := by rw [HLO.out, HLW.out, Td.out]
         have afv := Lib.hid Jh
         have BX' := Lib.hid (BX.out.size)
         cases sm with
         | false =>
           have HE := Lib.hid (afr kL.out HT.out (by have := HT0.out; omega) Tq.out Jh hsm)
           rw [Td.out] at HE
           obtain ⟨f, hf⟩ : ∃ f : Nat → Bool, f = fun v => I v && decide (who = 0) := ⟨_, rfl⟩
           rw [← hf] at HE
           have pz : Hid (∀ k, f k = (I k && (who == 0))) := fun k => by rw [hf]; rfl
           have RF := Lib.hid (ZV (g := f) RO.out)
           clear hsm Jh hf RO RL
           go_wp2
           go_loopw [15] (fun iv wy => ∃ k : Nat, k ≤ n ∧ iv = .int .i64 k ∧ Hid (wy.rowIs w2.heap.size 4 n (bH (iG f k))) ∧ Hid (Only (fun b => b = w2.heap.size) wr wy)) (fun iv _ => n - (intOf iv).toNat)
           case atStart => exact ⟨0, Nat.zero_le _, rfl, RF, Only.refl _ _⟩
           case round =>
            clear RF
            obtain ⟨k, hk, rfl, HR, HB3⟩ := hrel
            have KY := Lib.hid (KX.out.trans (HB3.out.below (B := w1.heap.size) KX.out.size (fun b hb => by have := FN.out; omega)))
            have BY := Lib.hid (B1.out.trans (KY.out.mono B1.out.size))
            by_cases hlt : k < n
            · have hk1 : (k : Int) < n := by omega
              have hk0 : (0 : Int) ≤ (k : Int) := by omega
              have i1 := (bY HI.out BY.out).cell hlt
              have o1 := HR.out.cell hlt
              have of := HR.out.frozen k
              simp only [bH] at i1 o1
              have hF1 := pz.out k
              cases hi : I k with
              | false =>
                rw [hi, Bool.false_and] at hF1
                have R1 := Lib.hid (tH HR.out hF1)
                have kM := Lib.hid (HB3.out.setCell (p := ⟨w2.heap.size, k, none⟩) rfl (.bool false))
                rw [hi] at i1
                clear hi hF1
                go_wp2
                go_roundw
                case rel => exact ⟨k + 1, by omega, by go_num, R1, kM⟩
                case measure => simp [intOf]; omega
              | true =>
                rw [hi, Bool.true_and] at hF1
                have R1 := Lib.hid (tH HR.out hF1)
                have kM := Lib.hid (HB3.out.setCell (p := ⟨w2.heap.size, k, none⟩) rfl (.bool (who == 0)))
                rw [hi] at i1
                clear hi hF1
                go_wp2
                go_roundw
                case rel => exact ⟨k + 1, by omega, by go_num, R1, kM⟩
                case measure => simp [intOf]; omega
            · have hkk : k = n := by omega
              have hk1 : ¬ (k : Int) < n := by omega
              rw [hkk] at HR
              have RF := Lib.hid (FK HR.out)
              clear hkk HR
              go_wp2
              go_ret
              exact ⟨_, rfl, by have := B1.out.size; have := FN.out; omega, by rw [HE.out]; exact RF.out, BY.out⟩
         | true =>
           have HE := Lib.hid (step_some kL.out HT.out (by have := HT0.out; omega) Tq.out Jh hsm)
           rw [Td.out] at HE
           have afw : Hid (∀ v, lost v = true → I v = true) := fun v hv => by rw [afv.out, Tq.out] at hv; exact afu hv
           have aad : Hid ((aU (aQ I (aN (bU ah Pk) O (1 - who) I lost)) n).length < (aU I n).length) := aft ZY.out kL.out hsm afw.out
           obtain ⟨away, Tu⟩ : ∃ away, away = aN (bU ah Pk) O (1 - who) I lost := ⟨_, rfl⟩
           have HAW := Lib.hid Tu
           rw [← Tu] at HE aad
           have hww : IntKind.i64.wrap (1 - who) = 1 - who := IntWalk.i64_in _ (by have := Tf.out; omega)
           have t0 := (T1.out.below KX.out).c0
           have t1 := (T1.out.below KX.out).c1
           have t2 := (T1.out.below KX.out).c2
           have t3 := (T1.out.below KX.out).c3
           have t4 := (T1.out.below KX.out).c4
           clear hsm Jh Tu
           go_wp2_with fail
           refine (Z4.out (1 - who) BX.out RL.out).mono ?_
           rintro e w9 ⟨b9, rfl, Di, Tv, hb⟩
           rw [← HAW.out] at Tv
           have R9 := Lib.hid Tv
           have K9 := Lib.hid (KX.out.trans (hb.mono KX.out.size))
           have RO9 := Lib.hid (bY RO.out hb)
           have hd9 : Below w9.heap.size w9 w9.drew := (Below.refl _ _).drew
           have Tz := Lib.hid (K9.out.trans (hd9.mono K9.out.size))
           have B9d := Lib.hid (B1.out.trans (Tz.out.mono B1.out.size))
           have R9d := Lib.hid (bY R9.out hd9)
           have afx := Lib.hid (bY RO9.out hd9)
           have N9 : Hid (w2.heap.size + 1 < w9.heap.size) := by have := Nu.out; have := RL.out.lt; have := hb.size; unfold Hid; omega
           have TA : Hid (w2.heap.size < b9) := by have := Nu.out; have := RL.out.lt; unfold Hid; omega
           have u0 := (T1.out.below K9.out).c0
           have u1 := (T1.out.below K9.out).c1
           have u2 := (T1.out.below K9.out).c2
           have u3 := (T1.out.below K9.out).c3
           have u4 := (T1.out.below K9.out).c4
           clear t0 t1 t2 t3 t4 hb Tv hd9 RO RL
           go_wp2_with fail
           go_region_held3 (fun w' => w'.cell? ⟨w.heap.size, 0, none⟩ = some (.slice ao O.length co) ∧ w'.cell? ⟨w.heap.size, 1, none⟩ = some (.slice ap P.length cp) ∧ w'.cell? ⟨w.heap.size, 2, none⟩ = some (.slice an n cn) ∧ w'.cell? ⟨w.heap.size, 3, none⟩ = some (.slice aq n cq) ∧ w'.cell? ⟨w.heap.size, 4, none⟩ = some (.slice ak Pk.length ck))
            (first
             | go_keep
             | exact ⟨e0, e1, e2, e3, e4⟩
             | exact ⟨f0, f1, f2, f3, f4⟩)
            (first
             | (go_at_call 126; refine (ZL (bY HI.out B9d.out) R9d.out (by omega)).mono ?_; rintro e wa ⟨ba, rfl, hba, hra, hb⟩; have Ra := Lib.hid hra; have Ka := Lib.hid (Tz.out.trans (hb.mono Tz.out.size)); have Ba := Lib.hid (B1.out.trans (Ka.out.mono B1.out.size)); have Ta := Lib.hid (T1.out.below Ka.out); have R9a := Lib.hid (bY R9d.out hb); have ROa := Lib.hid (bY afx.out hb); have Na : Hid (w9.heap.size ≤ wa.heap.size) := hb.size; have e0 := Ta.out.c0; have e1 := Ta.out.c1; have e2 := Ta.out.c2; have e3 := Ta.out.c3; have e4 := Ta.out.c4; clear hb hra)
             | (go_at_call 99; refine (Tc.out wa ba _ Ba.out Ra.out aad.out).mono ?_; rintro e wb ⟨bb, rfl, hbb, hrb, hb⟩; have Rb := Lib.hid hrb; have Kb := Lib.hid (Ka.out.trans (hb.mono Ka.out.size)); have Tb := Lib.hid (T1.out.below Kb.out); have R9b := Lib.hid (bY R9a.out hb); have ROb := Lib.hid (bY ROa.out hb); have Nb : Hid (wa.heap.size ≤ wb.heap.size) := hb.size; have f0 := Tb.out.c0; have f1 := Tb.out.c1; have f2 := Tb.out.c2; have f3 := Tb.out.c3; have f4 := Tb.out.c4; clear hb hrb))
           clear u0 u1 u2 u3 u4 e0 e1 e2 e3 e4 f0 f1 f2 f3 f4
           have hbo : w2.heap.size < bb := by have := N9.out; have := Na.out; omega
           obtain ⟨again, FB⟩ : ∃ again, again = W (aQ I away) := ⟨_, rfl⟩
           rw [← FB] at Rb HE
           obtain ⟨f, hf⟩ : ∃ f : Nat → Bool, f = fun v => again v || (away v && decide (who = 1)) := ⟨_, rfl⟩
           rw [← hf] at HE
           have pz : Hid (∀ k, f k = (again k || (away k && (who == 1)))) := fun k => by rw [hf]; rfl
           have RF := Lib.hid (ZV (g := f) ROb.out)
           clear hf FB ROb
           go_wp2
           go_loopw [18] (fun iv wy => ∃ k : Nat, k ≤ n ∧ iv = .int .i64 k ∧ Hid (wy.rowIs w2.heap.size 4 n (bH (iG f k))) ∧ Hid (Only (fun b => b = w2.heap.size) wb wy)) (fun iv _ => n - (intOf iv).toNat)
           case atStart => exact ⟨0, Nat.zero_le _, rfl, RF, Only.refl _ _⟩
           case round =>
            clear RF
            obtain ⟨k, hk, rfl, HR, HB3⟩ := hrel
            have KY := Lib.hid (Kb.out.trans (HB3.out.below (B := w1.heap.size) Kb.out.size (fun b hb => by have := FN.out; omega)))
            have BY := Lib.hid (B1.out.trans (KY.out.mono B1.out.size))
            by_cases hlt : k < n
            · have hk1 : (k : Int) < n := by omega
              have hk0 : (0 : Int) ≤ (k : Int) := by omega
              have g1 := (fV Rb.out HB3.out (by omega)).cell hlt
              have a1 := (fV R9b.out HB3.out (by have := TA.out; omega)).cell hlt
              have o1 := HR.out.cell hlt
              have of := HR.out.frozen k
              simp only [bH] at g1 a1 o1
              have hF1 := pz.out k
              cases hg : again k with
              | true =>
                rw [hg, Bool.true_or] at hF1
                have R1 := Lib.hid (tH HR.out hF1)
                have kM := Lib.hid (HB3.out.setCell (p := ⟨w2.heap.size, k, none⟩) rfl (.bool true))
                rw [hg] at g1
                clear hg hF1
                go_wp2
                go_roundw
                case rel => exact ⟨k + 1, by omega, by go_num, R1, kM⟩
                case measure => simp [intOf]; omega
              | false =>
                rw [hg, Bool.false_or] at hF1
                rw [hg] at g1
                clear hg
                cases ha : away k with
                | false =>
                  rw [ha, Bool.false_and] at hF1
                  have R1 := Lib.hid (tH HR.out hF1)
                  have kM := Lib.hid (HB3.out.setCell (p := ⟨w2.heap.size, k, none⟩) rfl (.bool false))
                  rw [ha] at a1
                  clear ha hF1
                  go_wp2
                  go_roundw
                  case rel => exact ⟨k + 1, by omega, by go_num, R1, kM⟩
                  case measure => simp [intOf]; omega
                | true =>
                  rw [ha, Bool.true_and] at hF1
                  have R1 := Lib.hid (tH HR.out hF1)
                  have kM := Lib.hid (HB3.out.setCell (p := ⟨w2.heap.size, k, none⟩) rfl (.bool (who == 1)))
                  rw [ha] at a1
                  clear ha hF1
                  go_wp2
                  go_roundw
                  case rel => exact ⟨k + 1, by omega, by go_num, R1, kM⟩
                  case measure => simp [intOf]; omega
            · have hkk : k = n := by omega
              have hk1 : ¬ (k : Int) < n := by omega
              rw [hkk] at HR
              have RF := Lib.hid (FK HR.out)
              clear hkk HR
              go_wp2
              go_ret
              exact ⟨_, rfl, by have := B1.out.size; have := FN.out; omega, by rw [HE.out]; exact RF.out, BY.out⟩
theorem afy {ah : List (List Int)} {O : List Int} {p : Nat → Int} {m : Nat} {I : Nat → Bool} : dO ah O p (m + 1) I = xZ ah O p (dO ah O p m) I := funext fun v => by
 rw [dO]; rfl
theorem step_empty {ah : List (List Int)} {O : List Int} {p : Nat → Int} {W : (Nat → Bool) → Nat → Bool} {I : Nat → Bool} (h : (aU I ah.length).length ≤ 0) : xZ ah O p W I = dO ah O p 0 I := by
 rw [step_none rfl (Classical.byContradiction fun hn => ?_)]
 · funext v; simp [dO]
 · obtain ⟨g, hg1, hg2, _⟩ := Jc (p := p) (I := I) ah.length (by omega)
   have := wL (n := ah.length) (I := I) (J := fun _ => false) (fun _ _ h => by cases h) hg1 hg2 rfl
   omega
theorem TB {ao ap an aq ak : Option Addr} {A : Nat → Option Addr} {C : Nat → Nat} {A' : Nat → Option Addr} {C' : Nat → Nat} {ah : List (List Int)} {O P Pk : List Int} (co cp cn cq ck : Nat)
 (hz : iO ah) (fM : O.length = ah.length) (hPl : P.length = ah.length) (hpk : Pk.length = ah.length) (ku : ah.length ≤ 256) (jZ : ∀ v, v < ah.length → (row ah v).length ≤ 16) :
 ∀ (m : Nat) {w : World} {I : Nat → Bool} {bI : Nat}, aV w ao O → aV w ap P → dU w an A C ah → dU w aq A' C' (rowsOf ah.length fun u => dN ah u ah.length) → aV w ak Pk → w.rowIs bI 4 ah.length (bH I) → (aU I ah.length).length ≤ m →
  Calls Tryd.prog 99 #[.agg #[.slice ao O.length co, .slice ap P.length cp, .slice an ah.length cn, .slice aq ah.length cq, .slice ak Pk.length ck], .slice (some ⟨bI, 0, none⟩) ah.length ah.length] w (tq w ah.length (dO (bU ah Pk) O (nth P) m I))
 | 0, w, I, bI, hO, hP, hn, hq, hk, hI, hm => by
   rw [← step_empty (W := fun _ _ => false) (by rw [dQ]; exact hm)]
   exact ZX co cp cn cq ck hO hP hn hq hk hz fM hPl hpk ku jZ hI (fun w' bJ J _ _ h => by omega)
 | m + 1, w, I, bI, hO, hP, hn, hq, hk, hI, hm => by
   rw [afy]
   exact ZX co cp cn cq ck hO hP hn hq hk hz fM hPl hpk ku jZ hI (fun w' bJ J hb hJ h =>
    TB co cp cn cq ck hz fM hPl hpk ku jZ m (hO.below hb) (hP.below hb) (hn.below hb) (hq.below hb) (hk.below hb) hJ (by omega))
end
section
open Go.RowKit
def aae (w : World) (ao an ap : Option Addr) (co cn cp : Nat) (n : Nat) (ah : List (List Int)) (e : Ending) (w' : World) : Prop :=
 ∃ q k V, e = .returned (.agg #[.slice ao n co, .slice ap n cp, .slice an n cn, .slice (some ⟨q, 0, none⟩) n n, .slice (some ⟨k, 0, none⟩) n n]) ∧ fU w' w.heap.size q n V (fun u => dN ah u n) ∧ w'.rowIs k 2 n (fun _ => .int .i64 (-1)) ∧ Below w.heap.size w w'
def TD (w : World) (ao an ap : Option Addr) (co cn cp : Nat) (n : Nat) (ah : List (List Int)) (e : Ending) (w' : World) : Prop :=
 ∃ q k V, e = .returned (.agg #[.slice ao n co, .slice ap n cp, .slice an n cn, .slice (some ⟨q, 0, none⟩) n n, .slice (some ⟨k, 0, none⟩) n n]) ∧ fU w' w.heap.size q n V (fun u => dN ah u n) ∧ w'.rowIs k 2 n (fun _ => .int .i64 (-1)) ∧ Below w.heap.size w w' ∧ w.heap.size ≤ k ∧ ∀ u, u < n → ∀ b, (V u).ownBlock = some b → b ≠ k
theorem afz {w w' : World} {g : Nat} {t : TypeId} {a b c : Value} (h : aT w g t a b c) (hb : Below w.heap.size w w') : w'.cell? ⟨g, 0, none⟩ = some a ∧ w'.cell? ⟨g, 1, none⟩ = some b ∧ w'.cell? ⟨g, 2, none⟩ = some c :=
 ⟨(h.below hb).c0, (h.below hb).c1, (h.below hb).c2⟩
theorem afA (w : World) (o1 o2 o3 : Obj) : (((w.alloc o1).alloc o2).alloc o3).drew.heap[w.heap.size]? = some o1 ∧ (((w.alloc o1).alloc o2).alloc o3).drew.heap[w.heap.size + 1]? = some o2 ∧ (((w.alloc o1).alloc o2).alloc o3).drew.heap[w.heap.size + 1 + 1]? = some o3 ∧ Below w.heap.size w (((w.alloc o1).alloc o2).alloc o3).drew := by
 refine ⟨?_, ?_, ?_, ?_⟩
 · show (((w.alloc o1).alloc o2).alloc o3).heap[w.heap.size]? = some o1
   rw [Below.heap_alloc _ _ _ (by simp; omega), Below.heap_alloc _ _ _ (by simp)]
   exact heap_alloc_new w o1
 · show (((w.alloc o1).alloc o2).alloc o3).heap[w.heap.size + 1]? = some o2
   rw [Below.heap_alloc _ _ _ (by simp)]
   have h := heap_alloc_new (w.alloc o1) o2
   rwa [World.size_alloc] at h
 · show (((w.alloc o1).alloc o2).alloc o3).heap[w.heap.size + 1 + 1]? = some o3
   have h := heap_alloc_new ((w.alloc o1).alloc o2) o3
   rwa [World.size_alloc, World.size_alloc] at h
 · exact ((below2 w o1 o2).alloc (by simp; omega) o3).drew
theorem FP {w : World} {g : Nat} {T : TypeId} {a b c d e : Value} (h : w.heap[g]? = some (.cells #[a, b, c, d, e] T)) : eF w g T a b c d e := by
 refine ⟨_, h, by simp, fun j hj => ?_⟩
 have hj3 : j = 0 ∨ j = 1 ∨ j = 2 ∨ j = 3 ∨ j = 4 := by omega
 rcases hj3 with rfl | rfl | rfl | rfl | rfl <;> rfl
theorem Dj {w : World} {g n : Nat} {T : TypeId} {z : Value} (h : w.heap[g]? = some (.cells (madeCells #[z] n) T)) : w.rowIs g T n (fun _ => z) :=
 ⟨_, h, size_madeCells _ _, fun i hi => by simp [madeCells, hi, Nat.mod_one]⟩
theorem FQ {w : World} {B g n : Nat} {R : Nat → List Int} (h : w.heap[g]? = some (.cells (madeCells #[.slice none 0 0] n) 22)) (hB : B ≤ g) (hn : n ≤ maxLen) (hR : ∀ u, R u = []) : fU w B g n (fun _ => .slice none 0 0) R := by
 obtain rfl : R = fun _ => [] := funext hR
 exact ⟨L9 (Dj h) hB hn, fun k _ => aF.nil _ _ _, fun i j _ _ _ b hb => by simp [Value.ownBlock] at hb⟩
theorem afB {wr : World} {t : Nat} {T : TypeId} {x0 x1 x2 x3 x4 a0 a1 a2 a3 a4 : Value} (hR : eF wr t T x0 x1 x2 x3 x4) :
 Only (fun b => b = t) wr (((((wr.setCell ⟨t, 0, none⟩ a0).setCell ⟨t, 1, none⟩ a1).setCell ⟨t, 2, none⟩ a2).setCell ⟨t, 3, none⟩ a3).setCell ⟨t, 4, none⟩ a4) ∧
  eF (((((wr.setCell ⟨t, 0, none⟩ a0).setCell ⟨t, 1, none⟩ a1).setCell ⟨t, 2, none⟩ a2).setCell ⟨t, 3, none⟩ a3).setCell ⟨t, 4, none⟩ a4) t T a0 a1 a2 a3 a4 := by
 refine ⟨(((((Only.refl (fun b => b = t) wr).setCell (p := ⟨t, 0, none⟩) rfl _).setCell (p := ⟨t, 1, none⟩) rfl _).setCell (p := ⟨t, 2, none⟩) rfl _).setCell (p := ⟨t, 3, none⟩) rfl _).setCell (p := ⟨t, 4, none⟩) rfl _, ?_⟩
 exact World.rowIs.congr (((((World.rowIs.set hR 0 a0).set 1 a1).set 2 a2).set 3 a3).set 4 a4) fun i hi => by
  have h5 : i = 0 ∨ i = 1 ∨ i = 2 ∨ i = 3 ∨ i = 4 := by omega
  rcases h5 with rfl | rfl | rfl | rfl | rfl <;> simp [ZJ]
theorem FT {n S : Nat} : ∀ u, u < n → ∀ b, ((fun _ => Value.slice none 0 0 : Nat → Value) u).ownBlock = some b → S ≤ b := fun _ _ b hb => by simp [Value.ownBlock] at hb
theorem FU {w : World} {g : Nat} {o1 o2 o3 : Obj} (h1 : w.heap[g]? = some o1) (h2 : w.heap[g + 1]? = some o2) (h3 : w.heap[g + 1 + 1]? = some o3) : g < w.heap.size ∧ g + 1 < w.heap.size ∧ g + 1 + 1 < w.heap.size := by
 obtain ⟨h1, _⟩ := Array.getElem?_eq_some_iff.1 h1
 obtain ⟨h2, _⟩ := Array.getElem?_eq_some_iff.1 h2
 obtain ⟨h3, _⟩ := Array.getElem?_eq_some_iff.1 h3
 exact ⟨h1, h2, h3⟩
def x8 (k : Nat) : Nat → Int := fun i => if i < k then -1 else 0
theorem afC {k : Nat} : (fun i => if i = k then -1 else x8 k i) = x8 (k + 1) := funext fun i => by
 unfold x8
 by_cases e : i = k
 · subst e; simp
 · rw [if_neg e]; by_cases h : i < k
   · rw [if_pos h, if_pos (by omega)]
   · rw [if_neg h, if_neg (by omega)]
theorem FV {w : World} {k n : Nat} (h : w.rowIs k 2 n (fun _ => .int .i64 0)) : w.rowIs k 2 n (dD (x8 0)) := World.rowIs.congr h fun i _ => by simp [dD, x8]
theorem afD {w : World} {B g n : Nat} {V : Nat → Value} {R : Nat → List Int} (h : fU w B g n V R) : g < w.heap.size := (h.own.lt g rfl).2
theorem aaf {S : Nat → Prop} {w w' : World} {B g n : Nat} {V : Nat → Value} {R : Nat → List Int} (h : fU w B g n V R) (hS : Only S w w') (hg : ¬ S g) (hb : ∀ u, u < n → ∀ b, (V u).ownBlock = some b → ¬ S b) : fU w' B g n V R :=
 ⟨kH h.own hS (fun b hb e => by simp [Value.ownBlock] at hb; subst hb; exact hg e), fun u hu => ((h.rows u hu).only hS (fun b hb' => hb u hu b hb')).bg, h.apart⟩
theorem afE {w w1 w2 : World} {V : Nat → Value} {u : Nat} {v : Value} (hv : V u = v) (hb : Below w.heap.size w w1) (hg : w1.grownBy w2 v.ownBlock) : Only (fun b => (V u).ownBlock = some b) w w2 :=
 (Only.of_below hb).trans ⟨hg.os, hg.tape, hg.output, hg.size, fun b hb' hne => hg.block b hb' (fun e => hne (by rw [hv]; exact e.symm))⟩
theorem afF {w w2 : World} {B g n u : Nat} {V : Nat → Value} {R : Nat → List Int} {v : Value} (h : fU w B g n V R) (hu : u < n) (ho : Only (fun b => (V u).ownBlock = some b) w w2) (hv : V u = v) : w2.cell? ⟨g, u, none⟩ = some v := by
 have ho1 := kH h.own ho (iV h.own (h.rows u hu).own)
 rw [ho1.cellAt u (by omega)]
 simp [hu, hv]
theorem afG {w w2 : World} {B g n u : Nat} {V : Nat → Value} {R : Nat → List Int} (h : fU w B g n V R) (hu : u < n) (ho : Only (fun b => (V u).ownBlock = some b) w w2) : w2.frozen? ⟨g, u, none⟩ = false :=
 (kH h.own ho (iV h.own (h.rows u hu).own)).frozenAt u
theorem prev_next {ah : List (List Int)} {w w8 : World} {B q n u v i pl S gg cap : Nat} {V : Nat → Value} {va : Option Addr} {vc : Nat} (h : fU w B q n V (gG ah v i)) (hb : ∀ u, u < n → ∀ b, (V u).ownBlock = some b → S ≤ b) (hu : u < n) (hv : V u = .slice va pl vc)
 (hU : nth (row ah v) i = (u : Int)) (hUP : ∀ j, j < i → nth (row ah v) j < nth (row ah v) i) (hpl : pl = (gG ah v i u).length) (FW : v < 256) (wB : Only (fun b => (V u).ownBlock = some b) w w8)
 (hown : w8.ownsRow B 2 1 (.slice (some ⟨gg, 0, none⟩) ((gG ah v i u).length + 1) cap) ((gG ah v i u).length + 1) ((gG ah v i u).map (Value.int .i64) ++ [.int .i64 v]))
 (hat : (Value.slice va pl vc).ownBlock = some gg ∨ w.heap.size ≤ gg) (hS : S ≤ w.heap.size) :
 ∃ V', fU (w8.setCell ⟨q, u, none⟩ (.slice (some ⟨gg, 0, none⟩) (pl + 1) cap)) B q n V' (gG ah v (i + 1)) ∧ ∀ u, u < n → ∀ b, (V' u).ownBlock = some b → S ≤ b := by
 have hhit := YZ hU hUP
 have e1 : (gG ah v (i + 1) u).length = (gG ah v i u).length + 1 := by rw [hhit.1]; simp
 have e2 : (gG ah v (i + 1) u).map (Value.int .i64) = (gG ah v i u).map (Value.int .i64) ++ [.int .i64 v] := by rw [hhit.1]; simp
 rw [← e1, ← e2] at hown
 have hlen : (gG ah v (i + 1) u).length ≤ v + 1 := by rw [e1, hhit.2]; have := QS ah u v; omega
 have hmem : ∀ x ∈ gG ah v (i + 1) u, 0 ≤ x ∧ x ≤ (v : Int) := fun x hx => by
  rw [hhit.1, hhit.2] at hx
  rcases List.mem_append.1 hx with hx | hx
  · have := QT _ _ _ x hx; omega
  · simp at hx; omega
 have hI : aF w8 B w8.heap.size (.slice (some ⟨gg, 0, none⟩) (gG ah v (i + 1) u).length cap) (gG ah v (i + 1) u) := aF.mk' hown (by omega) (fun j hj => by have := hmem _ (jo hj); unfold Fits; omega)
 have hput := (h.put hu hI wB (by
  rcases hat with hh | hh
  · left; rw [hv]; exact hh.symm
  · exact Or.inr ⟨gg, rfl, hh⟩)).congr (R' := gG ah v (i + 1)) (fun u' _ => by
    by_cases e : u' = u
    · subst e; simp
    · simp only [if_neg e]; exact (aej hU e).symm)
 rw [e1, ← hpl] at hput
 refine ⟨_, hput, fun u' hu' b hb' => ?_⟩
 by_cases e : u' = u
 · simp only [if_pos e] at hb'
   rcases hat with hh | hh
   · exact hb u hu b (by rw [hv, hh]; exact hb')
   · simp [Value.ownBlock] at hb'; omega
 · simp only [if_neg e] at hb'
   exact hb u' hu' b hb'
set_option maxHeartbeats 16000000 in
set_option maxRecDepth 100000 in
theorem aag {w : World} {ao an ap : Option Addr} (co cn cp : Nat) {A : Nat → Option Addr} {C : Nat → Nat} {O P : List Int} {ah : List (List Int)} (_h1 : aV w ao O) (h2 : dU w an A C ah) (_h3 : aV w ap P) (hA : lJ O ah) (hPl : P.length = ah.length) :
 Calls Tryd.prog 53 #[.agg #[.slice ao O.length co, .slice an ah.length cn, .slice ap P.length cp]] w (TD w ao an ap co cn cp ah.length ah) := by
 obtain ⟨n, hnl⟩ : ∃ n, n = ah.length := ⟨_, rfl⟩
 have x9 : n ≤ 256 := by have := hA.2.1; have := hA.2.2.1; omega
 have fM : O.length = n := by rw [hnl]; exact hA.2.2.1.symm
 rw [fM, hPl, ← hnl]
 have fF := Lib.hid hnl
 have HOL := Lib.hid fM
 have kD := Lib.hid hPl
 have HAr := Lib.hid hA
 have zS := Lib.hid h2
 clear hnl fM hPl hA h2
 obtain ⟨j0, hj, hj0, hj1, hj2⟩ := info_parts qH
 have ZN := run_make_row' (P := Tryd.prog) 22 2 (.int .i64 0) 8 Tryd.underlying22 qH rfl .i64 .i64 n (by omega) (by omega)
 have hmr := run_make_row' (P := Tryd.prog) 23 22 (.slice none 0 0) 24 Tryd.underlying23 YU rfl .i64 .i64 n (by omega) (by omega)
 obtain ⟨w1, hw1⟩ : ∃ y, y = (w.alloc (.cells #[.slice ao n co, .slice an n cn, .slice ap n cp] 35)).alloc (.cells #[.slice none 0 0, .slice none 0 0, .slice none 0 0, .slice none 0 0, .slice none 0 0] 61) := ⟨_, rfl⟩
 have HW1 := Lib.hid hw1
 have T1 : Hid (aT w1 w.heap.size 35 (.slice ao n co) (.slice an n cn) (.slice ap n cp)) := by rw [hw1]; exact (aT.new w _ _ _ _).below (aA _ _)
 have B1 : Hid (Below w.heap.size w w1) := by rw [hw1]; exact below2 _ _ _
 have hs1 : w1.heap.size = w.heap.size + 1 + 1 := by rw [hw1]; simp
 have cO := Lib.hid hs1
 have RX : Hid (eF w1 (w.heap.size + 1) 61 (.slice none 0 0) (.slice none 0 0) (.slice none 0 0) (.slice none 0 0) (.slice none 0 0)) := by
  rw [hw1]
  have h := eF.new (w.alloc (.cells #[.slice ao n co, .slice an n cn, .slice ap n cp] 35)) 61 (.slice none 0 0) (.slice none 0 0) (.slice none 0 0) (.slice none 0 0) (.slice none 0 0)
  rw [World.size_alloc] at h
  exact h
 clear hw1 hs1
 have c0 := T1.out.c0
 have c1 := T1.out.c1
 have c2 := T1.out.c2
 go_enter Tryd.func53, Tryd.ntmps53
 go_wp2_with fail
 rw [← HW1.out]
 go_cut [4] (fun s4 wx => ∃ (q k t S : Nat), s4 = .pointer (some ⟨t, 0, none⟩) ∧ Hid (eF wx t 61 (.slice ao n co) (.slice ap n cp) (.slice an n cn) (.slice (some ⟨q, 0, none⟩) n n) (.slice (some ⟨k, 0, none⟩) n n)) ∧ Hid (∃ V, fU wx w.heap.size q n V (fun u => dN ah u 0) ∧ ∀ u, u < n → ∀ b, (V u).ownBlock = some b → S ≤ b) ∧ Hid (wx.rowIs k 2 n (dD (x8 0))) ∧ Hid (Below w1.heap.size w1 wx) ∧ Hid ((w1.heap.size ≤ q ∧ w1.heap.size ≤ k ∧ w1.heap.size ≤ t) ∧ q ≠ k ∧ q ≠ t ∧ k ≠ t) ∧ Hid (S ≤ wx.heap.size) ∧ Hid (q < S ∧ k < S ∧ t < S))
 case first =>
  go_region_held3 (fun w' => w'.cell? ⟨w.heap.size, 0, none⟩ = some (.slice ao n co) ∧ w'.cell? ⟨w.heap.size, 1, none⟩ = some (.slice an n cn) ∧ w'.cell? ⟨w.heap.size, 2, none⟩ = some (.slice ap n cp))
   (first
    | exact afz T1.out (by repeat (first | exact Below.refl _ _ | refine Below.drew ?_ | refine Below.alloc ?_ (by simp <;> omega) _ | refine Below.setCell (p := _) ?_ (by simp <;> omega) _))
    | go_keep)
   (first
    | fail)
  all_goals (go_wp2_with fail; go_meet)
  all_goals (
   obtain ⟨a1, a2, a3, hb⟩ := afA w1 _ _ _
   have hs := cO.out
   first
    | exact ⟨_, _, _, _, rfl, FP a1, ⟨_, FQ a2 (by omega) (by unfold maxLen; omega) (fun _ => rfl), FT⟩, FV (Dj a3), hb, by unfold Hid; omega, Nat.le_refl _, by have := FU a1 a2 a3; unfold Hid; omega⟩
    | exact ⟨_, _, _, _, rfl, FP a1, ⟨_, FQ a3 (by omega) (by unfold maxLen; omega) (fun _ => rfl), FT⟩, FV (Dj a2), hb, by unfold Hid; omega, Nat.le_refl _, by have := FU a1 a2 a3; unfold Hid; omega⟩
    | exact ⟨_, _, _, _, rfl, FP a2, ⟨_, FQ a1 (by omega) (by unfold maxLen; omega) (fun _ => rfl), FT⟩, FV (Dj a3), hb, by unfold Hid; omega, Nat.le_refl _, by have := FU a1 a2 a3; unfold Hid; omega⟩
    | exact ⟨_, _, _, _, rfl, FP a2, ⟨_, FQ a3 (by omega) (by unfold maxLen; omega) (fun _ => rfl), FT⟩, FV (Dj a1), hb, by unfold Hid; omega, Nat.le_refl _, by have := FU a1 a2 a3; unfold Hid; omega⟩
    | exact ⟨_, _, _, _, rfl, FP a3, ⟨_, FQ a1 (by omega) (by unfold maxLen; omega) (fun _ => rfl), FT⟩, FV (Dj a2), hb, by unfold Hid; omega, Nat.le_refl _, by have := FU a1 a2 a3; unfold Hid; omega⟩
    | exact ⟨_, _, _, _, rfl, FP a3, ⟨_, FQ a2 (by omega) (by unfold maxLen; omega) (fun _ => rfl), FT⟩, FV (Dj a1), hb, by unfold Hid; omega, Nat.le_refl _, by have := FU a1 a2 a3; unfold Hid; omega⟩)
 case rest =>
  obtain ⟨q, k, t, S, rfl, HT, HV0, HK0, HB, HN, FX, oD⟩ := hcut
  clear c0 c1 c2
  go_wp2
  go_loopw [5] (fun iv wr => ∃ v : Nat, v ≤ n ∧ iv = .int .i64 v ∧ Hid (eF wr t 61 (.slice ao n co) (.slice ap n cp) (.slice an n cn) (.slice (some ⟨q, 0, none⟩) n n) (.slice (some ⟨k, 0, none⟩) n n)) ∧ Hid (∃ V, fU wr w.heap.size q n V (fun u => dN ah u v) ∧ ∀ u, u < n → ∀ b, (V u).ownBlock = some b → S ≤ b) ∧ Hid (wr.rowIs k 2 n (dD (x8 v))) ∧ Hid (Below w1.heap.size w1 wr) ∧ Hid (S ≤ wr.heap.size)) (fun iv _ => n - (intOf iv).toNat)
  case atStart => exact ⟨0, Nat.zero_le _, rfl, HT, HV0, HK0, HB, FX⟩
  case round =>
   clear HT HV0 HK0 HB FX
   obtain ⟨v, hv, rfl, HT, HV, HK, HB, Dk⟩ := hrel
   have BW := Lib.hid (B1.out.trans (HB.out.mono B1.out.size))
   have Tw := Lib.hid (T1.out.below HB.out)
   by_cases hlt : v < n
   · have hv1 : (v : Int) < n := by omega
     have hv0 : (0 : Int) ≤ (v : Int) := by omega
     have t4 := HT.out.c4
     have k1 := HK.out.cell hlt
     have kf := HK.out.frozen v
     have vX : Only (fun b => b = k) wr (wr.setCell ⟨k, v, none⟩ (.int .i64 (-1))) := (Only.refl (fun b => b = k) wr).setCell (p := ⟨k, v, none⟩) rfl _
     have hk1 := C9 (v := v) (x := -1) HK.out
     rw [afC] at hk1
     have TF := Lib.hid hk1
     have HT1 := Lib.hid (fV HT.out vX (by have := HN.out; omega))
     have zW : Hid (∃ V, fU (wr.setCell ⟨k, v, none⟩ (.int .i64 (-1))) w.heap.size q n V (gG ah v 0) ∧ ∀ u, u < n → ∀ b, (V u).ownBlock = some b → S ≤ b) := by
      obtain ⟨V, hV, hb⟩ := HV.out
      exact ⟨V, (aaf hV vX (by have := HN.out; omega) (fun u hu b hb' e => by have := hb u hu b hb'; have := oD.out; omega)).congr fun u _ => (aeh ah v u).symm, hb⟩
     have HB1 := Lib.hid (HB.out.setCell (p := ⟨k, v, none⟩) HN.out.1.2.1 (.int .i64 (-1)))
     have TG : Hid (S ≤ (wr.setCell ⟨k, v, none⟩ (.int .i64 (-1))).heap.size) := by have := vX.size; have := Dk.out; unfold Hid; omega
     obtain ⟨w5, hw5⟩ : ∃ y, y = wr.setCell ⟨k, v, none⟩ (.int .i64 (-1)) := ⟨_, rfl⟩
     have TI := Lib.hid hw5
     rw [← hw5] at TF HT1 zW HB1 TG
     clear vX hk1 hw5 HV HK HT HB Dk
     have HQ := Lib.hid (HAr.out.2.2.2 v (by have := HOL.out; omega))
     go_wp2
     rw [← TI.out]
     obtain ⟨m, hm⟩ : ∃ m, m = (row ah v).length := ⟨_, rfl⟩
     have HM := Lib.hid hm
     have nN : m ≤ 16 := by rw [hm]; exact HQ.out.2.2.1
     go_loopw [6] (fun iv wi => ∃ i : Nat, i ≤ m ∧ iv = .int .i64 i ∧ Hid (eF wi t 61 (.slice ao n co) (.slice ap n cp) (.slice an n cn) (.slice (some ⟨q, 0, none⟩) n n) (.slice (some ⟨k, 0, none⟩) n n)) ∧ Hid (∃ V, fU wi w.heap.size q n V (gG ah v i) ∧ ∀ u, u < n → ∀ b, (V u).ownBlock = some b → S ≤ b) ∧ Hid (wi.rowIs k 2 n (dD (x8 (v + 1)))) ∧ Hid (Below w1.heap.size w1 wi) ∧ Hid (S ≤ wi.heap.size)) (fun iv _ => m - (intOf iv).toNat)
     case atStart => exact ⟨0, Nat.zero_le _, rfl, HT1, zW, TF, HB1, TG⟩
     case round =>
      clear HT1 zW TF HB1 TG
      obtain ⟨i, hi, rfl, HT, HV, HK, HB, Dk⟩ := hrel
      have BW := Lib.hid (B1.out.trans (HB.out.mono B1.out.size))
      have Tw := Lib.hid (T1.out.below HB.out)
      have c1 := Tw.out.c1
      obtain ⟨nb, no, hna, hnc⟩ := (zS.out.below BW.out).cell (by have := fF.out; omega)
      have n1 := hnc v (by have := fF.out; omega)
      rw [hna] at c1
      rw [← hm] at n1
      by_cases hlt2 : i < m
      · have hi1 : (i : Int) < m := by omega
        have hi0 : (0 : Int) ≤ (i : Int) := by omega
        obtain ⟨rb, ro, hra, hrc⟩ := ((zS.out.below BW.out).rows v (by have := fF.out; omega)).cell (by omega)
        have r1 := hrc i (by omega)
        obtain ⟨h0, h1, hup⟩ := MB HQ.out.2.2.2 (k := i) (by omega)
        obtain ⟨u, hu⟩ : ∃ u : Nat, nth (row ah v) i = u := ⟨(nth (row ah v) i).toNat, by omega⟩
        have hun : u < n := by have := HOL.out; omega
        have afo : (u : Int) < n := by omega
        have hu0 : (0 : Int) ≤ (u : Int) := by omega
        have HU := Lib.hid hu
        have Ji := Lib.hid hup
        rw [hu] at r1
        rw [hra] at n1
        obtain ⟨V, hV, hVb⟩ := HV.out
        obtain ⟨s1, s2, s3⟩ := hV.shape hun
        have hown := (hV.rows u hun).own
        have hpl : (gG ah v i u).length ≤ v := by
         rw [(YZ HU.out Ji.out).2]; exact QS _ _ _
        rw [s1] at hown
        obtain ⟨pl, TJ⟩ : ∃ pl, pl = (gG ah v i u).length := ⟨_, rfl⟩
        have aah := Lib.hid TJ
        rw [← TJ] at hpl s2 hown s1
        have Nv := Lib.hid hV
        have TK := Lib.hid hVb
        have zW := Lib.hid s1
        have HOWN := Lib.hid hown
        obtain ⟨va, hva⟩ : ∃ va, va = addrOf (V u) := ⟨_, rfl⟩
        obtain ⟨vc, FH⟩ : ∃ vc, vc = capOf (V u) := ⟨_, rfl⟩
        rw [← hva, ← FH] at s2
        rw [← hva, ← FH] at HOWN zW
        have t3 := HT.out.c3
        clear hV hVb s1 hown hnc hrc hna hra h0 h1 hup hu TJ hva FH
        have hsr := Dk.out
        have Kd : Hid (Below wr.heap.size wr (wr.drew.alloc (.cells #[.int .i64 v] 2))) := (Below.refl wr.heap.size wr).drew.trans (aA wr.drew (.cells #[.int .i64 v] 2))
        have kN : Hid (wr.drew.ownsRow w.heap.size 2 1 (.slice va pl vc) pl ((gG ah v i u).map (Value.int .i64))) := HOWN.out
        have t3a : (wr.alloc (.cells #[.int .i64 v] 2)).cell? ⟨t, 3, none⟩ = some (.slice (some ⟨q, 0, none⟩) n n) := (HT.out.below (aA wr _)).c3
        have s2a : (wr.alloc (.cells #[.int .i64 v] 2)).cell? ⟨q, u, none⟩ = some (.slice va pl vc) := ((aA wr _).cell (afD Nv.out)).trans s2
        have hwb : w.heap.size ≤ wr.heap.size := BW.out.size
        go_wp2
        go_region_law (first
         | (refine step_append_lies _ (by rfl) _ _ _ (by rfl) w.heap.size 2 j0 (.int .i64 0) 1 8 Tryd.underlying22 hj hj0 hj1 hj2 rfl (by decide) (.slice va pl vc) pl ((gG ah v i u).map (Value.int .i64)) (by rfl) (kN.out.alloc _) ⟨wr.drew.heap.size, 0, none⟩ 1 1 [.int .i64 v] (by rfl) (by rfl) (World.news_of_block (cs := #[.int .i64 v]) (t := 2) (fr := (0, 0)) (heap_alloc_new wr.drew _)) (by simp [Value.oneCell']) (by omega) (by unfold maxLen; omega) (by omega) (by simp; omega) (wr.drew.heap.size + 1) (by simp) ?_; intro gg cap w8 kE hgrow hat FY; have wB := afE zW.out Kd.out hgrow; have q8 := afF Nv.out hun wB zW.out; have p8 := afG Nv.out hun wB; have t8 : w8.cell? ⟨t, 3, none⟩ = some (.slice (some ⟨q, 0, none⟩) n n) := eF.c3 (fV HT.out wB (fun e => by have := TK.out u hun _ e; have := oD.out; omega))))
        all_goals (
         have hnx := prev_next Nv.out TK.out hun zW.out HU.out Ji.out aah.out (by omega) wB (by rw [← aah.out]; exact kE) (hat.imp_right fun h => by have hdz : wr.drew.heap.size = wr.heap.size := rfl; omega) hsr
         have zX : Only (fun b => S ≤ b ∨ b = q) wr (w8.setCell ⟨q, u, none⟩ (.slice (some ⟨gg, 0, none⟩) (pl + 1) cap)) := (wB.mono fun b hb => .inl (TK.out u hun b hb)).setCell (p := ⟨q, u, none⟩) (.inr rfl) _
         have HT9 := Lib.hid (fV HT.out zX (by have := oD.out; have := HN.out; omega))
         have HK9 := Lib.hid (fV HK.out zX (by have := oD.out; have := HN.out; omega))
         have TA := Lib.hid (HB.out.trans (zX.below (B := w1.heap.size) HB.out.size (fun b hb => by have := oD.out; have := HN.out; omega)))
         have TL : Hid (S ≤ (w8.setCell ⟨q, u, none⟩ (.slice (some ⟨gg, 0, none⟩) (pl + 1) cap)).heap.size) := Nat.le_trans hsr zX.size
         have TN := Lib.hid hnx
         clear hnx zX kE hgrow hat wB q8 p8 t8 t3a s2a t3 s2
         go_wp2
         go_roundw
         case rel => exact ⟨i + 1, by omega, by go_num, HT9, TN, HK9, TA, TL⟩
         case measure => simp [intOf]; omega)
      · have hii : i = m := by omega
        have hi1 : ¬ (i : Int) < m := by omega
        have TN : Hid (∃ V, fU wr w.heap.size q n V (fun u => dN ah u (v + 1)) ∧ ∀ u, u < n → ∀ b, (V u).ownBlock = some b → S ≤ b) := by
         obtain ⟨V, hV, hb⟩ := HV.out
         rw [hii, hm] at hV
         exact ⟨V, hV.congr fun u _ => aei ah v u, hb⟩
        clear hii hm
        go_wp2
        go_roundw
        case rel => exact ⟨v + 1, by omega, by go_num, HT, TN, HK, HB, Dk⟩
        case measure => simp [intOf]; omega
   · have hv1 : ¬ (v : Int) < n := by omega
     have hvn : v = n := by omega
     rw [hvn] at HV HK
     have tJ := Lib.hid (RX.out.below HB.out)
     have t0 := HT.out.c0
     have t1 := HT.out.c1
     have t2 := HT.out.c2
     have t3 := HT.out.c3
     have t4 := HT.out.c4
     have d0 := tJ.out.c0
     have d1 := tJ.out.c1
     have d2 := tJ.out.c2
     have d3 := tJ.out.c3
     have d4 := tJ.out.c4
     have g0 := World.rowIs.frozen tJ.out 0
     have g1 := World.rowIs.frozen tJ.out 1
     have g2 := World.rowIs.frozen tJ.out 2
     have g3 := World.rowIs.frozen tJ.out 3
     have g4 := World.rowIs.frozen tJ.out 4
     have hst := afB (a0 := .slice ao n co) (a1 := .slice ap n cp) (a2 := .slice an n cn) (a3 := .slice (some ⟨q, 0, none⟩) n n) (a4 := .slice (some ⟨k, 0, none⟩) n n) tJ.out
     have u0 := hst.2.c0
     have u1 := hst.2.c1
     have u2 := hst.2.c2
     have u3 := hst.2.c3
     have u4 := hst.2.c4
     have HOX := Lib.hid hst.1
     have hfin : Hid (∀ W', Only (fun b => b = w.heap.size + 1) wr W' → TD w ao an ap co cn cp n ah (.returned (.agg #[.slice ao n co, .slice ap n cp, .slice an n cn, .slice (some ⟨q, 0, none⟩) n n, .slice (some ⟨k, 0, none⟩) n n])) W') := fun W' ho => by
      obtain ⟨V, hV, hb⟩ := HV.out
      have hn := HN.out
      have hs := cO.out
      refine ⟨q, k, V, rfl, aaf hV ho (by omega) (fun u hu b hb' e => by have := hb u hu b hb'; have := oD.out; omega), World.rowIs.congr (fV HK.out ho (by omega)) (fun i hi => by simp [dD, x8, hi]), BW.out.trans (ho.below (B := w.heap.size) BW.out.size (fun b hb => by omega)), by omega, fun u hu b hb' e => by have := hb u hu b hb'; have := oD.out; omega⟩
     clear hst hvn HV HK
     go_wp2
     exact bodyPost_ret (v := .agg #[.slice ao n co, .slice ap n cp, .slice an n cn, .slice (some ⟨q, 0, none⟩) n n, .slice (some ⟨k, 0, none⟩) n n]) (by simp [results, Tryd.results53, go_sem, u0, u1, u2, u3, u4]) rfl (hfin.out _ HOX.out)
theorem afH {w : World} {ao an ap : Option Addr} (co cn cp : Nat) {A : Nat → Option Addr} {C : Nat → Nat} {O P : List Int} {ah : List (List Int)} (h1 : aV w ao O) (h2 : dU w an A C ah) (h3 : aV w ap P) (hA : lJ O ah) (hPl : P.length = ah.length) :
 Calls Tryd.prog 53 #[.agg #[.slice ao O.length co, .slice an ah.length cn, .slice ap P.length cp]] w (aae w ao an ap co cn cp ah.length ah) := (aag co cn cp h1 h2 h3 hA hPl).mono fun e w' h => by
 obtain ⟨q, k, V, he, hV, hk, hb, _⟩ := h
 exact ⟨q, k, V, he, hV, hk, hb⟩
end
end Go.Proofs.YtglbkbiphcgidaaDoor
