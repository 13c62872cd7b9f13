/-
  The solver's game in memory; contracts: the model's l7Edge and l7Degree.
-/
import Derived.Deep.RegionHeld3
import Derived.Deep.DeepCutAuto
import Derived.Deep.AppendLies
import Derived.Test.YtphkgnpkcfbnkabDoorBase1
import Derived.Test.YtphkgnpkcfbnkabDoorPk03
import Derived.Test.YtphkgnpkcfbnkabDoorParity1
import Derived.Test.YtphkgnpkcfbnkabDoorPk05
namespace Go.Proofs.YtphkgnpkcfbnkabDoor
section
open Go.RowKit

def quint (a b c d e : Value) : Nat → Value := fun i => if i = 0 then a else if i = 1 then b else if i = 2 then c else if i = 3 then d else e

/-- A box of five slices. -/
def Box5 (w : World) (g : Nat) (t : TypeId) (a b c d e : Value) : Prop := w.rowIs g t 5 (quint a b c d e)
theorem Box5.new (w : World) (T : TypeId) (a b c d e : Value) : Box5 (w.alloc (.cells #[a, b, c, d, e] T)) w.heap.size T a b c d e := by
  refine ⟨_, heap_alloc_new w _, by simp, fun j hj => ?_⟩
  have hj3 : j = 0 ∨ j = 1 ∨ j = 2 ∨ j = 3 ∨ j = 4 := by omega
  rcases hj3 with rfl | rfl | rfl | rfl | rfl <;> rfl
section
variable {w w' : World} {g : Nat} {t : TypeId} {a b c d e : Value}
theorem Box5.below (h : Box5 w g t a b c d e) (hb : Below w.heap.size w w') : Box5 w' g t a b c d e := rowIs_below h hb
theorem Box5.c0 (h : Box5 w g t a b c d e) : w.cell? ⟨g, 0, none⟩ = some a := World.rowIs.cell (i := 0) h (by omega)
theorem Box5.c1 (h : Box5 w g t a b c d e) : w.cell? ⟨g, 1, none⟩ = some b := World.rowIs.cell (i := 1) h (by omega)
theorem Box5.c2 (h : Box5 w g t a b c d e) : w.cell? ⟨g, 2, none⟩ = some c := World.rowIs.cell (i := 2) h (by omega)
theorem Box5.c3 (h : Box5 w g t a b c d e) : w.cell? ⟨g, 3, none⟩ = some d := World.rowIs.cell (i := 3) h (by omega)
theorem Box5.c4 (h : Box5 w g t a b c d e) : w.cell? ⟨g, 4, none⟩ = some e := World.rowIs.cell (i := 4) h (by omega)
theorem Box5.lt (h : Box5 w g t a b c d e) : g < w.heap.size := World.rowIs.lt h
end

/-- A struct of five slices that reads as the solver's game: owners, priorities, successors, predecessors, picks. -/
structure GameL (w : World) (ao ap an aq ak : Option Addr) (A : Nat → Option Addr) (C : Nat → Nat) (A' : Nat → Option Addr) (C' : Nat → Nat) (O P : List Int) (zss : List (List Int)) (Pk : List Int) : Prop where
  own : IntsAt w ao O
  prio : IntsAt w ap P
  next : RowsAt w an A C zss
  prev : RowsAt w aq A' C' (rowsOf zss.length fun u => predsK zss u zss.length)
  pick : IntsAt w ak Pk
theorem GameL.below {w w' : World} {ao ap an aq ak : Option Addr} {A : Nat → Option Addr} {C : Nat → Nat} {A' : Nat → Option Addr} {C' : Nat → Nat} {O P : List Int} {zss : List (List Int)} {Pk : List Int} (h : GameL w ao ap an aq ak A C A' C' O P zss Pk) (hb : Below w.heap.size w w') : GameL w' ao ap an aq ak A C A' C' O P zss Pk :=
  ⟨h.own.below hb, h.prio.below hb, h.next.below hb, h.prev.below hb, h.pick.below hb⟩

/-- May v step to u, by the picks? -/
def pickB (Pk : List Int) (v : Nat) (u : Int) : Bool := decide (nth Pk v < 0) || decide (nth Pk v = u)
/-- The successors that there are by the picks. -/
def zssE (zss : List (List Int)) (Pk : List Int) : List (List Int) := rowsOf zss.length fun v => (row zss v).filter (pickB Pk v)
theorem zssE_len {zss : List (List Int)} {Pk : List Int} : (zssE zss Pk).length = zss.length := rowsOf_len _ _
theorem zssE_row {zss : List (List Int)} {Pk : List Int} {v : Nat} (hv : v < zss.length) : row (zssE zss Pk) v = (row zss v).filter (pickB Pk v) := rowsOf_row hv

theorem zssE_rows {zss : List (List Int)} {Pk : List Int} (h : RowsP zss) : RowsP (zssE zss Pk) where
  inG := fun u hu x hx => by
    rw [zssE_len] at hu ⊢
    rw [zssE_row hu] at hx
    exact h.inG u hu x (List.mem_filter.1 hx).1
  once := fun v hv => by
    rw [zssE_len] at hv
    rw [zssE_row hv]
    exact (h.once v hv).filter _

set_option maxHeartbeats 4000000 in
theorem l7Edge_is {w : World} {ao ap an aq ak : Option Addr} {Pk : List Int} (lo lp ln lq : Nat) (co cp cn cq ck : Nat) {v : Nat} {u : Int} {r : Bool} (hr : pickB Pk v u = r) (hk : IntsAt w ak Pk) (hv : v < Pk.length) :
    Calls Tryd.prog 153 #[.agg #[.slice ao lo co, .slice ap lp cp, .slice an ln cn, .slice aq lq cq, .slice ak Pk.length ck], .int .i64 v, .int .i64 u] w fun e w' => e = .returned (.bool r) ∧ Below w.heap.size w w' := by
  have hlk := hk.len
  obtain ⟨kb, ko, hka, hkc⟩ := hk.cell (by omega)
  have k1 := hkc v hv
  subst hka
  have BW := Lib.hid (below1 w (.cells #[.slice ao lo co, .slice ap lp cp, .slice an ln cn, .slice aq lq cq, .slice (some ⟨kb, ko, none⟩) Pk.length ck] 73))
  have k2 := (BW.out.cell (World.block_lt_of_cell? _ _ k1)).trans k1
  have hv0 : (0 : Int) ≤ v := by omega
  have hvk : (v : Int) < Pk.length := by omega
  obtain ⟨q, hq⟩ : ∃ q, q = nth Pk v := ⟨_, rfl⟩
  rw [← hq] at k1 k2
  unfold pickB at hr
  rw [← hq] at hr
  clear hq hkc k1 hk
  by_cases h0 : q < 0
  · have HE : Hid (r = true) := by rw [← hr]; simp [h0, Hid]
    clear hr
    go_enter Tryd.func153, Tryd.ntmps153
    go_wp2
    go_ret
    exact ⟨ret_bool HE.out.symm, BW.out⟩
  · have HE : Hid (r = (q == u)) := by rw [← hr]; unfold Hid; rw [Bool.eq_iff_iff]; simp [h0]
    clear hr
    go_enter Tryd.func153, Tryd.ntmps153
    go_wp2
    go_ret
    exact ⟨ret_bool HE.out.symm, BW.out⟩

/-- How many of the first k successors of v lie in the part and may be stepped to. -/
def degK (I : Nat → Bool) (Pk : List Int) (v : Nat) (us : List Int) : Int := ((us.filter fun x => I x.toNat && pickB Pk v x).length : Int)

set_option maxHeartbeats 8000000 in
set_option maxRecDepth 100000 in
theorem l7Degree_is {w : World} {ao ap an aq ak : Option Addr} {A : Nat → Option Addr} {C : Nat → Nat} {zss : List (List Int)} {Pk : List Int} (lo lp lq : Nat) (co cp cn cq ck cI : Nat) {v bI : Nat} {I : Nat → Bool} (hn : RowsAt w an A C zss) (hk : IntsAt w ak Pk) (hz : RowsP zss) (hpk : Pk.length = zss.length) (hI : w.rowIs bI 4 zss.length (marksV I)) (hv : v < zss.length) (hr16 : (row zss v).length ≤ 1048576) :
    Calls Tryd.prog 152 #[.agg #[.slice ao lo co, .slice ap lp cp, .slice an zss.length cn, .slice aq lq cq, .slice ak Pk.length ck], .slice (some ⟨bI, 0, none⟩) zss.length cI, .int .i64 v] w fun e w' => e = .returned (.int .i64 (degK I Pk v (row zss v))) ∧ Below w.heap.size w w' := by
  have HNx := Lib.hid hn
  have HK := Lib.hid hk
  have HZ := Lib.hid hz
  have HMI := Lib.hid hI
  obtain ⟨w1, hw1⟩ : ∃ y, y = w.alloc (.cells #[.slice ao lo co, .slice ap lp cp, .slice an zss.length cn, .slice aq lq cq, .slice ak Pk.length ck] 73) := ⟨_, rfl⟩
  have HW1 := Lib.hid hw1
  have B1 : Hid (Below w.heap.size w w1) := by rw [hw1]; exact below1 _ _
  have T1 : Hid (Box5 w1 w.heap.size 73 (.slice ao lo co) (.slice ap lp cp) (.slice an zss.length cn) (.slice aq lq cq) (.slice ak Pk.length ck)) := by rw [hw1]; exact Box5.new _ _ _ _ _ _ _
  have hlz := hn.len
  have HPK := Lib.hid hpk
  obtain ⟨xs, hxs⟩ : ∃ xs, xs = row zss v := ⟨_, rfl⟩
  have HX := Lib.hid hxs
  rw [← hxs] at hr16 ⊢
  clear hn hk hz hI hw1 hxs hpk
  go_enter Tryd.func152, Tryd.ntmps152
  go_wp2
  rw [← HW1.out]
  go_loopw [7, 8] (fun nv iv wr => ∃ k : Nat, k ≤ xs.length ∧ iv = .int .i64 k ∧ nv = .int .i64 (degK I Pk v (xs.take k)) ∧ Hid (Below w1.heap.size w1 wr)) (fun _ iv _ => xs.length - (intOf iv).toNat)
  case atStart => exact ⟨0, Nat.zero_le _, rfl, rfl, Below.refl _ _⟩
  case round =>
    obtain ⟨k, hkl, rfl, rfl, HB⟩ := hrel
    have hvI : (v : Int) < zss.length := by omega
    have hv0 : (0 : Int) ≤ v := by omega
    have hk0 : (0 : Int) ≤ k := by omega
    have Bw := Lib.hid (B1.out.trans (HB.out.mono B1.out.size))
    have Tw := Lib.hid (T1.out.below HB.out)
    have c2 := Tw.out.c2
    obtain ⟨nb, no, hna, hnc⟩ := (HNx.out.below Bw.out).cell (by omega)
    have n1 := hnc v hv
    rw [← HX.out] at n1
    subst hna
    have hir := (HNx.out.below Bw.out).rows v hv
    rw [← HX.out] at hir
    have HIR := Lib.hid hir
    clear hnc hir
    by_cases hlt : k < xs.length
    · have hi1 : (k : Int) < xs.length := by omega
      obtain ⟨xb, xo, hxa, hxc⟩ := HIR.out.cell (by omega)
      have x1 := hxc k hlt
      rw [hxa] at n1
      obtain ⟨u, hu, hun⟩ := HZ.out.inG v hv _ (by rw [← HX.out]; exact nth_mem hlt)
      rw [hu] at x1
      have hu0 : (0 : Int) ≤ u := by omega
      have huI : (u : Int) < zss.length := by omega
      have HM := Lib.hid (rowIs_below HMI.out Bw.out)
      have m1 := HM.out.cell hun
      have hst : xs.take (k + 1) = xs.take k ++ [(u : Int)] := by rw [take_snoc hlt, hu]
      have HST : Hid (degK I Pk v (xs.take (k + 1)) = degK I Pk v (xs.take k) + if (I u && pickB Pk v (u : Int)) = true then 1 else 0) := by
        unfold degK Hid
        rw [hst, List.filter_append, List.length_append]
        cases h : (I u && pickB Pk v (u : Int)) <;> simp [h]
      have hdb : 0 ≤ degK I Pk v (xs.take k) ∧ degK I Pk v (xs.take k) ≤ k := by
        have h1 := List.length_filter_le (fun x => I x.toNat && pickB Pk v x) (xs.take k)
        rw [List.length_take] at h1
        unfold degK
        constructor <;> omega
      obtain ⟨q, hq⟩ : ∃ q, q = degK I Pk v (xs.take k) := ⟨_, rfl⟩
      rw [← hq] at HST hdb ⊢
      have hd0 := hdb.1
      have hd1 := hdb.2
      clear hxc hu hst hq hdb hxa
      cases hIu : I u with
      | false =>
        have HD : Hid (degK I Pk v (xs.take (k + 1)) = q) := by rw [HST.out, hIu]; simp [Hid]
        unfold marksV at m1
        rw [hIu] at m1
        clear hIu
        go_wp2
        go_roundw
        case rel => exact ⟨k + 1, by omega, by go_num, by rw [HD.out], HB⟩
        case measure => simp [intOf]; omega
      | true =>
        unfold marksV at m1
        rw [hIu] at m1
        obtain ⟨b, hb⟩ : ∃ b, pickB Pk v (u : Int) = b := ⟨_, rfl⟩
        have HE := Lib.hid (l7Edge_is (ao := ao) (ap := ap) (an := some ⟨nb, no, none⟩) (aq := aq) lo lp zss.length lq co cp cn cq ck hb (HK.out.below Bw.out) (by rw [HPK.out]; exact hv))
        rw [hIu, hb, Bool.true_and] at HST
        have c0 := Tw.out.c0
        have c1 := Tw.out.c1
        have c3 := Tw.out.c3
        have c4 := Tw.out.c4
        clear hIu hb
        cases b with
        | true =>
          have HD : Hid (degK I Pk v (xs.take (k + 1)) = q + 1) := by rw [HST.out]; simp [Hid]
          clear HST
          go_wp2_with (go_at_call 153; refine HE.out.mono ?_; rintro e w5 ⟨rfl, hb5⟩; have HB5 := Lib.hid (HB.out.trans (hb5.mono HB.out.size)); clear hb5)
          go_roundw
          case rel => exact ⟨k + 1, by omega, by go_num, by rw [HD.out], HB5⟩
          case measure => simp [intOf]; omega
        | false =>
          have HD : Hid (degK I Pk v (xs.take (k + 1)) = q) := by rw [HST.out]; simp [Hid]
          clear HST
          go_wp2_with (go_at_call 153; refine HE.out.mono ?_; rintro e w5 ⟨rfl, hb5⟩; have HB5 := Lib.hid (HB.out.trans (hb5.mono HB.out.size)); clear hb5)
          go_roundw
          case rel => exact ⟨k + 1, by omega, by go_num, by rw [HD.out], HB5⟩
          case measure => simp [intOf]; omega
    · have hi1 : ¬ (k : Int) < xs.length := by omega
      have hkk : k = xs.length := by omega
      rw [hkk, List.take_length]
      have hi2 : ¬ (xs.length : Int) < xs.length := by omega
      go_wp2
      go_ret
      exact ⟨rfl, Bw.out⟩
end

section
open Go.RowKit

/-- A call hands back marks of its own. -/
def GivesMarks (w : World) (n : Nat) (f : Nat → Bool) (e : Ending) (w' : World) : Prop :=
  ∃ b, e = .returned (.slice (some ⟨b, 0, none⟩) n n) ∧ w.heap.size ≤ b ∧ w'.rowIs b 4 n (marksV f) ∧ Below w.heap.size w w'

/-- While l7Less runs. -/
def lessK (I A : Nat → Bool) (k : Nat) : Nat → Bool := fun v => decide (v < k) && lessB I A v
theorem lessK_succ {I A : Nat → Bool} {k : Nat} : lessK I A (k + 1) = mark1 (lessK I A k) k (lessB I A k) := funext fun v => by
  unfold lessK mark1
  by_cases e : v = k
  · subst e; simp
  · rw [if_neg e]
    congr 1
    rw [decide_eq_decide]; omega
theorem lessK_all {I A : Nat → Bool} {n : Nat} {w : World} {b : Nat} (h : w.rowIs b 4 n (marksV (lessK I A n))) : w.rowIs b 4 n (marksV (lessB I A)) :=
  h.congr fun i hi => by simp [marksV, lessK, hi]

set_option maxHeartbeats 4000000 in
theorem l7Less_is {w : World} {bI bA n : Nat} {I A : Nat → Bool} (hI : w.rowIs bI 4 n (marksV I)) (hA : w.rowIs bA 4 n (marksV A)) (hn : n ≤ 1048576) :
    Calls Tryd.prog 127 #[.slice (some ⟨bI, 0, none⟩) n n, .slice (some ⟨bA, 0, none⟩) n n] w (GivesMarks w n (lessB I A)) := by
  have hmk := run_make_row' (P := Tryd.prog) 75 4 (.bool false) 1 Tryd.underlying75 info_bool rfl .i64 .i64 n (by omega) (by omega)
  have HI := Lib.hid hI
  have HA := Lib.hid hA
  have R0 : Hid ((w.alloc (.cells (madeCells #[.bool false] n) 4)).rowIs w.heap.size 4 n (marksV (lessK I A 0))) := (World.rowIs_made w _ _ _).congr (fun i _ => by simp [marksV, lessK])
  have B0 := Lib.hid (below1 w (.cells (madeCells #[.bool false] n) 4))
  clear hI hA
  go_enter Tryd.func127, Tryd.ntmps127
  go_wp2
  go_loopw [6] (fun iv wr => ∃ k : Nat, k ≤ n ∧ iv = .int .i64 k ∧ Hid (wr.rowIs w.heap.size 4 n (marksV (lessK I A k))) ∧ Hid (Below w.heap.size w wr)) (fun iv _ => n - (intOf iv).toNat)
  case atStart => exact ⟨0, Nat.zero_le _, rfl, R0, B0⟩
  case round =>
    clear hmk R0 B0
    obtain ⟨k, hk, rfl, HR, HB⟩ := hrel
    by_cases hlt : k < n
    · have hk1 : (k : Int) < n := by omega
      have hk0 : (0 : Int) ≤ (k : Int) := by omega
      have i1 := (rowIs_below HI.out HB.out).cell hlt
      have a1 := (rowIs_below HA.out HB.out).cell hlt
      have o1 := HR.out.cell hlt
      have of := HR.out.frozen k
      have R1 : Hid ((wr.setCell ⟨w.heap.size, k, none⟩ (.bool (lessB I A k))).rowIs w.heap.size 4 n (marksV (lessK I A (k + 1)))) := by rw [lessK_succ]; exact marks_set HR.out
      have B1 := Lib.hid (HB.out.setCell (p := ⟨w.heap.size, k, none⟩) (Nat.le_refl _) (.bool (lessB I A k)))
      simp only [marksV] at i1 a1 o1
      unfold lessB at R1 B1
      cases hi : I k with
      | false =>
        rw [hi] at i1 R1 B1
        rw [Bool.false_and] at R1 B1
        clear hi
        go_wp2
        go_roundw
        case rel => exact ⟨k + 1, by omega, by go_num, R1, B1⟩
        case measure => simp [intOf]; omega
      | true =>
        rw [hi] at i1 R1 B1
        rw [Bool.true_and] at R1 B1
        clear hi
        go_wp2
        go_roundw
        case rel => exact ⟨k + 1, by omega, by go_num, R1, B1⟩
        case measure => simp [intOf]; omega
    · have hkk : k = n := by omega
      have hk1 : ¬ (k : Int) < n := by omega
      rw [hkk] at HR
      clear hkk
      go_wp2
      go_ret
      exact ⟨_, rfl, Nat.le_refl _, lessK_all HR.out, HB.out⟩

set_option maxHeartbeats 4000000 in
theorem l7Top_is {w : World} {ao ap an aq ak : Option Addr} {P : List Int} {I : Nat → Bool} {bI n : Nat} (lo ln lq lk : Nat) (co cp cn cq ck : Nat) (hP : IntsAt w ap P) (hI : w.rowIs bI 4 n (marksV I)) (hn : n ≤ 1048576) (hpn : P.length = n) :
    Calls Tryd.prog 126 #[.agg #[.slice ao lo co, .slice ap P.length cp, .slice an ln cn, .slice aq lq cq, .slice ak lk ck], .slice (some ⟨bI, 0, none⟩) n n] w fun e w' => e = .returned (.int .i64 (topZ (nth P) I n)) ∧ Below w.heap.size w w' := by
  have HP := Lib.hid hP
  have HI := Lib.hid hI
  obtain ⟨w1, hw1⟩ : ∃ y, y = w.alloc (.cells #[.slice ao lo co, .slice ap P.length cp, .slice an ln cn, .slice aq lq cq, .slice ak lk ck] 73) := ⟨_, rfl⟩
  have HW1 := Lib.hid hw1
  have B1 : Hid (Below w.heap.size w w1) := by rw [hw1]; exact below1 _ _
  have T1 : Hid (Box5 w1 w.heap.size 73 (.slice ao lo co) (.slice ap P.length cp) (.slice an ln cn) (.slice aq lq cq) (.slice ak lk ck)) := by rw [hw1]; exact Box5.new _ _ _ _ _ _ _
  have HPN := Lib.hid hpn
  clear hP hI hw1 hpn
  go_enter Tryd.func126, Tryd.ntmps126
  go_wp2
  rw [← HW1.out]
  go_loopw [5, 6] (fun tv iv wr => ∃ k : Nat, k ≤ n ∧ iv = .int .i64 k ∧ tv = .int .i64 (topZ (nth P) I k) ∧ Hid (Below w1.heap.size w1 wr)) (fun _ iv _ => n - (intOf iv).toNat)
  case atStart => exact ⟨0, Nat.zero_le _, rfl, rfl, Below.refl _ _⟩
  case round =>
    obtain ⟨k, hk, rfl, rfl, HB⟩ := hrel
    have Bw := Lib.hid (B1.out.trans (HB.out.mono B1.out.size))
    by_cases hlt : k < n
    · have hk1 : (k : Int) < n := by omega
      have hk2 : (k : Int) < P.length := by have := HPN.out; omega
      have hk0 : (0 : Int) ≤ (k : Int) := by omega
      have i1 := (rowIs_below HI.out Bw.out).cell hlt
      simp only [marksV] at i1
      obtain ⟨m, hm⟩ : ∃ m, m = topZ (nth P) I k := ⟨_, rfl⟩
      rw [← hm]
      cases hi : I k with
      | false =>
        have HT : Hid (topZ (nth P) I (k + 1) = m) := by simp [topZ, hi, hm, Hid]
        rw [hi] at i1
        clear hi hm
        go_wp2
        go_roundw
        case rel => exact ⟨k + 1, by omega, by go_num, by rw [HT.out], HB⟩
        case measure => simp [intOf]; omega
      | true =>
        have t1 := (T1.out.below HB.out).c1
        obtain ⟨pb, po, hpa, hpc⟩ := (HP.out.below Bw.out).cell (by have := HPN.out; omega)
        have p1 := hpc k (by have := HPN.out; omega)
        obtain ⟨q, hq⟩ : ∃ q, q = nth P k := ⟨_, rfl⟩
        rw [← hq] at p1
        have HT : Hid ((if m < q then q else m) = topZ (nth P) I (k + 1)) := by simp [topZ, hi, hm, hq, Hid]
        subst hpa
        rw [hi] at i1
        clear hi hm hpc hq
        go_wp2_with (go_at_call 151; refine (l4Max_is HT.out _).mono ?_; rintro e w5 ⟨rfl, rfl⟩)
        go_roundw
        case rel => exact ⟨k + 1, by omega, by go_num, rfl, HB⟩
        case measure => simp [intOf]; omega
    · have hkk : k = n := by omega
      have hk1 : ¬ (k : Int) < n := by omega
      rw [hkk]
      clear hkk
      go_wp2
      go_ret
      exact ⟨rfl, Bw.out⟩
end

section
open Go.RowKit

def numsV (f : Nat → Int) : Nat → Value := fun i => .int .i64 (f i)
theorem nums_set {w : World} {b n v : Nat} {t : TypeId} {f : Nat → Int} {x : Int} (h : w.rowIs b t n (numsV f)) : (w.setCell ⟨b, v, none⟩ (.int .i64 x)).rowIs b t n (numsV fun i => if i = v then x else f i) :=
  World.rowIs.congr (h.set v (.int .i64 x)) fun i _ => by
    unfold numsV
    by_cases e : i = v <;> simp [e]
theorem marks_one {w : World} {b n v : Nat} {t : TypeId} {f : Nat → Bool} (h : w.rowIs b t n (marksV f)) : (w.setCell ⟨b, v, none⟩ (.bool true)).rowIs b t n (marksV fun i => if i = v then true else f i) :=
  World.rowIs.congr (h.set v (.bool true)) fun i _ => by
    unfold marksV
    by_cases e : i = v <;> simp [e]

/-- The goal in the part. -/
def goalB (I G : Nat → Bool) : Nat → Bool := fun v => I v && G v
def outA (I G : Nat → Bool) (k : Nat) : Nat → Bool := fun v => decide (v < k) && goalB I G v
def leftA (zss : List (List Int)) (I : Nat → Bool) (Pk : List Int) (k : Nat) : Nat → Int := fun v => if v < k ∧ I v = true then degK I Pk v (row zss v) else 0

section
variable {zss : List (List Int)} {O Pk : List Int} {who : Int} {I G : Nat → Bool}

theorem outA_pass {k : Nat} (h : goalB I G k = false) : outA I G (k + 1) = outA I G k := funext fun v => by
  unfold outA
  by_cases e : v = k
  · subst e; simp [h]
  · congr 1; rw [decide_eq_decide]; omega
theorem outA_hit {k : Nat} (h : goalB I G k = true) : (fun i => if i = k then true else outA I G k i) = outA I G (k + 1) := funext fun v => by
  unfold outA
  by_cases e : v = k
  · subst e; simp [h]
  · rw [if_neg e]; congr 1; rw [decide_eq_decide]; omega
theorem leftA_pass {k : Nat} (h : I k = false) : leftA zss I Pk (k + 1) = leftA zss I Pk k := funext fun v => by
  unfold leftA
  by_cases e : v = k
  · subst e; rw [if_neg (fun hh => by rw [h] at hh; cases hh.2), if_neg (fun hh => by omega)]
  · by_cases hc : v < k ∧ I v = true
    · rw [if_pos hc, if_pos ⟨by omega, hc.2⟩]
    · rw [if_neg hc, if_neg (fun hh => hc ⟨by omega, hh.2⟩)]
theorem leftA_hit {k : Nat} (h : I k = true) : (fun i => if i = k then degK I Pk k (row zss k) else leftA zss I Pk k i) = leftA zss I Pk (k + 1) := funext fun v => by
  unfold leftA
  by_cases e : v = k
  · subst e; rw [if_pos rfl, if_pos ⟨by omega, h⟩]
  · rw [if_neg e]
    by_cases hc : v < k ∧ I v = true
    · rw [if_pos hc, if_pos ⟨by omega, hc.2⟩]
    · rw [if_neg hc, if_neg (fun hh => hc ⟨by omega, hh.2⟩)]

/-- Before the queue is read. -/
theorem attract_starts (hz : RowsP zss) : QuP (zssE zss Pk) O who I G (fun x => (x : Int) ∈ (markedK (goalB I G) zss.length).take 0) (markedK (goalB I G) zss.length) (outA I G zss.length) (leftA zss I Pk zss.length) where
  verts := ⟨(markedK_rising _ _).imp fun h => by omega, fun x hx => by
    obtain ⟨v, hv, hvn, _⟩ := (markedK_mem _ _ _).1 hx
    exact ⟨v, hv, by rw [zssE_len]; exact hvn⟩⟩
  outs := fun v hv => by
    rw [zssE_len] at hv
    simp only [List.take_zero, List.not_mem_nil]
    unfold outA goalB QueP
    simp only [hv, decide_true, Bool.true_and, Bool.and_eq_true]
    constructor
    · rintro ⟨h1, h2⟩; exact ⟨h1, .inl h2⟩
    · rintro ⟨h1, h2 | h2⟩
      · exact ⟨h1, h2⟩
      · exact absurd h2 CanP.none
  mem := fun v hv => by
    rw [zssE_len] at hv
    rw [markedK_mem]
    unfold outA
    simp only [hv, decide_true, Bool.true_and]
    constructor
    · rintro ⟨u, hu, _, h⟩
      obtain rfl := Int.natCast_inj.1 hu
      exact h
    · intro h; exact ⟨v, rfl, hv, h⟩
  lefts := fun v hv hI _ => by
    rw [zssE_len] at hv
    unfold leftA cntF degK
    rw [if_pos ⟨hv, hI⟩, zssE_row hv, List.filter_filter]
    congr 2
    refine List.filter_congr fun x _ => ?_
    simp
  sound := fun v hv h => by
    have hv' := hv
    rw [zssE_len] at hv'
    unfold outA goalB at h
    simp only [hv', decide_true, Bool.true_and, Bool.and_eq_true] at h
    exact (attr_fix (zssE_rows hz).inG hv).2 ⟨h.1, .inl h.2⟩

end

set_option maxHeartbeats 16000000 in
set_option maxRecDepth 100000 in
theorem l7Attract_is {w : World} {ao ap an aq ak : Option Addr} {A : Nat → Option Addr} {C : Nat → Nat} {A' : Nat → Option Addr} {C' : Nat → Nat} {zss : List (List Int)} {O Pk : List Int} {who : Int} {I G : Nat → Bool} {bI bG : Nat} (lp : Nat) (co cp cn cq ck : Nat)
    (hO : IntsAt w ao O) (hn : RowsAt w an A C zss) (hq : RowsAt w aq A' C' (rowsOf zss.length fun u => predsK zss u zss.length)) (hk : IntsAt w ak Pk) (hz : RowsP zss) (hOl : O.length = zss.length) (hpk : Pk.length = zss.length) (hz256 : zss.length ≤ 256) (hr16 : ∀ v, v < zss.length → (row zss v).length ≤ 16)
    (hI : w.rowIs bI 4 zss.length (marksV I)) (hG : w.rowIs bG 4 zss.length (marksV G)) :
    Calls Tryd.prog 128 #[.agg #[.slice ao O.length co, .slice ap lp cp, .slice an zss.length cn, .slice aq zss.length cq, .slice ak Pk.length ck], .slice (some ⟨bI, 0, none⟩) zss.length zss.length, .int .i64 who, .slice (some ⟨bG, 0, none⟩) zss.length zss.length] w (GivesMarks w zss.length (attrB (zssE zss Pk) O who I G)) := by
  obtain ⟨j0, hji, hji0, hji1, hji2⟩ := info_parts info_int
  obtain ⟨n, hnl⟩ : ∃ n, n = zss.length := ⟨_, rfl⟩
  have HNL := Lib.hid hnl
  have hmb := run_make_row' (P := Tryd.prog) 75 4 (.bool false) 1 Tryd.underlying75 info_bool rfl .i64 .i64 n (by omega) (by omega)
  have hmi := run_make_row' (P := Tryd.prog) 22 2 (.int .i64 0) 8 Tryd.underlying22 info_int rfl .i64 .i64 n (by omega) (by omega)
  have HO := Lib.hid hO
  have HNx := Lib.hid hn
  have HQ := Lib.hid hq
  have HK := Lib.hid hk
  have HI := Lib.hid hI
  have HGo := Lib.hid hG
  have HZ := Lib.hid hz
  have HPK := Lib.hid hpk
  have HR16 := Lib.hid hr16
  obtain ⟨w1, hw1⟩ : ∃ y, y = w.alloc (.cells #[.slice ao O.length co, .slice ap lp cp, .slice an n cn, .slice aq n cq, .slice ak Pk.length ck] 73) := ⟨_, rfl⟩
  have HW1 := Lib.hid hw1
  have hs1 : w1.heap.size = w.heap.size + 1 := by rw [hw1]; simp
  have HS1 := Lib.hid hs1
  have B1 : Hid (Below w.heap.size w w1) := by rw [hw1]; exact below1 _ _
  have T1 : Hid (Box5 w1 w.heap.size 73 (.slice ao O.length co) (.slice ap lp cp) (.slice an n cn) (.slice aq n cq) (.slice ak Pk.length ck)) := by rw [hw1]; exact Box5.new _ _ _ _ _ _ _
  obtain ⟨w4, hw4⟩ : ∃ y, y = ((w1.alloc (.cells (madeCells #[.bool false] n) 4)).alloc (.cells (madeCells #[.int .i64 0] n) 2)).alloc (.cells #[] 2) := ⟨_, rfl⟩
  have HW4 := Lib.hid hw4
  have K4 : Hid (Below w1.heap.size w1 w4) := by rw [hw4]; exact (below2 _ _ _).alloc (by simp; omega) _
  have hs4 : w4.heap.size = w1.heap.size + 3 := by rw [hw4]; simp
  have HS4 := Lib.hid hs4
  have RO : Hid (w4.rowIs (w.heap.size + 1) 4 n (marksV (outA I G 0))) := by
    rw [hw4, ← hs1]
    exact World.rowIs.congr (World.rowIs.alloc (World.rowIs.alloc (World.rowIs_made w1 _ _ _) _) _) fun i _ => by simp [marksV, outA]
  have RL : Hid (w4.rowIs (w.heap.size + 1 + 1) 2 n (numsV (leftA zss I Pk 0))) := by
    rw [hw4, ← hs1]
    have h := World.rowIs_made (w1.alloc (.cells (madeCells #[.bool false] n) 4)) (.int .i64 0) n 2
    rw [World.size_alloc] at h
    exact World.rowIs.congr (World.rowIs.alloc h _) fun i _ => by simp [numsV, leftA]
  have HQ0 : Hid (w4.ownsRow (w.heap.size + 1 + 1 + 1) 2 1 (.slice (some ⟨w.heap.size + 1 + 1 + 1, 0, none⟩) 0 0) (markedK (goalB I G) 0).length ((markedK (goalB I G) 0).map (Value.int .i64))) := by
    rw [hw4, ← hs1]
    have h := World.ownsRow_made (base := w1.heap.size + 1 + 1) (e := 2) (size := 1) ((w1.alloc (.cells (madeCells #[.bool false] n) 4)).alloc (.cells (madeCells #[.int .i64 0] n) 2)) #[] 0 (by simp) (by unfold maxLen; omega) (by simp)
    rw [World.size_alloc, World.size_alloc] at h
    exact h
  rw [← hnl] at hz256 hOl hpk
  have HOL := Lib.hid hOl
  clear hO hn hq hk hI hG hz hw1 hs1 hw4 hs4 hr16 hpk hOl
  rw [← hnl]
  clear hnl
  go_enter Tryd.func128, Tryd.ntmps128
  go_wp2
  rw [← HW1.out, ← HW4.out]
  clear hmb hmi
  go_loopw [11, 12] (fun qv iv wr => ∃ (k : Nat) (qq : Value), qq = qv ∧ k ≤ n ∧ iv = .int .i64 k ∧ Hid (wr.ownsRow (w.heap.size + 1 + 1 + 1) 2 1 qq (markedK (goalB I G) k).length ((markedK (goalB I G) k).map (Value.int .i64))) ∧ Hid (wr.rowIs (w.heap.size + 1) 4 n (marksV (outA I G k))) ∧ Hid (wr.rowIs (w.heap.size + 1 + 1) 2 n (numsV (leftA zss I Pk k))) ∧ Hid (Below w1.heap.size w1 wr)) (fun _ iv _ => n - (intOf iv).toNat)
  case atStart => exact ⟨0, _, rfl, Nat.zero_le _, rfl, HQ0, RO, RL, K4⟩
  case round =>
    clear HQ0 RO RL K4
    obtain ⟨k, qq, hqq, hk, rfl, HU, HR, HL, HB⟩ := hrel
    subst hqq
    have Bw := Lib.hid (B1.out.trans (HB.out.mono B1.out.size))
    have hsr : w.heap.size + 1 + 1 < wr.heap.size := HL.out.lt
    by_cases hlt : k < n
    · have hk1 : (k : Int) < n := by omega
      have hk0 : (0 : Int) ≤ (k : Int) := by omega
      have i1 := (rowIs_below HI.out Bw.out).cell (i := k) (by rw [← HNL.out]; exact hlt)
      simp only [marksV] at i1
      have hml := markedK_len (goalB I G) k
      cases hi : I k with
      | false =>
        have hg0 : goalB I G k = false := by unfold goalB; rw [hi]; rfl
        have HUn : Hid (wr.ownsRow (w.heap.size + 1 + 1 + 1) 2 1 qq (markedK (goalB I G) (k + 1)).length ((markedK (goalB I G) (k + 1)).map (Value.int .i64))) := by
          rw [show markedK (goalB I G) (k + 1) = markedK (goalB I G) k by simp [markedK, hg0]]; exact HU.out
        have HRn : Hid (wr.rowIs (w.heap.size + 1) 4 n (marksV (outA I G (k + 1)))) := by rw [outA_pass hg0]; exact HR.out
        have HLn : Hid (wr.rowIs (w.heap.size + 1 + 1) 2 n (numsV (leftA zss I Pk (k + 1)))) := by rw [leftA_pass hi]; exact HL.out
        rw [hi] at i1
        clear hi hg0 HU HR HL
        go_wp2
        go_roundw
        case rel => exact ⟨k + 1, _, rfl, by omega, by go_num, HUn, HRn, HLn, HB⟩
        case measure => simp [intOf]; omega
      | true =>
        have l1 := HL.out.cell hlt
        have fl := HL.out.frozen k
        have g1 := (rowIs_below HGo.out Bw.out).cell (i := k) (by rw [← HNL.out]; exact hlt)
        simp only [marksV] at g1
        obtain ⟨qa, qc, hqs⟩ := own_shape HU.out
        subst hqs
        have HDg := Lib.hid (l7Degree_is (ao := ao) (ap := ap) (an := an) (aq := aq) (ak := ak) O.length lp n co cp cn cq ck n (HNx.out.below Bw.out) (HK.out.below Bw.out) HZ.out HPK.out (rowIs_below HI.out Bw.out) (v := k) (by rw [← HNL.out]; exact hlt) (by have := HR16.out k (by rw [← HNL.out]; exact hlt); omega))
        rw [← HNL.out] at HDg
        have t0 := (T1.out.below HB.out).c0
        have t1 := (T1.out.below HB.out).c1
        have t2 := (T1.out.below HB.out).c2
        have t3 := (T1.out.below HB.out).c3
        have t4 := (T1.out.below HB.out).c4
        have HIk := Lib.hid hi
        rw [hi] at i1
        clear hi
        go_wp2_with fail
        refine HDg.out.mono ?_
        rintro e w5 ⟨rfl, hb⟩
        have B5 := Lib.hid (HB.out.trans (hb.mono HB.out.size))
        have hl5 := nums_set (x := degK I Pk k (row zss k)) (v := k) (rowIs_below HL.out hb)
        rw [leftA_hit HIk.out] at hl5
        have HL5 := Lib.hid hl5
        have hS5 : Only (fun b => b = w.heap.size + 1 + 1) w5 (w5.setCell ⟨w.heap.size + 1 + 1, k, none⟩ (.int .i64 (degK I Pk k (row zss k)))) := (Only.refl (fun b => b = w.heap.size + 1 + 1) w5).setCell (p := ⟨w.heap.size + 1 + 1, k, none⟩) rfl _
        have HR5 := Lib.hid (rowIs_only (rowIs_below HR.out hb) hS5 (by omega))
        have HU5 := Lib.hid (ownsRow_only (ownsRow_only HU.out (S := fun _ => False) (Only.of_below hb) (fun _ _ h => h)) hS5 (fun g hg e => by have := (HU.out.lt g hg).1; omega))
        have B6 := Lib.hid (B5.out.trans (hS5.below (B := w1.heap.size) B5.out.size (fun b hb => by have := HS1.out; omega)))
        have l5 := (rowIs_below HL.out hb).cell hlt
        have fl5 := (rowIs_below HL.out hb).frozen k
        obtain ⟨w6, hw6⟩ : ∃ y, y = w5.setCell ⟨w.heap.size + 1 + 1, k, none⟩ (.int .i64 (degK I Pk k (row zss k))) := ⟨_, rfl⟩
        have HW6 := Lib.hid hw6
        rw [← hw6] at HL5 HR5 HU5 B6
        have Bv := Lib.hid (B1.out.trans (B6.out.mono B1.out.size))
        have i6 := (rowIs_below HI.out Bv.out).cell (i := k) (by rw [← HNL.out]; exact hlt)
        have g6 := (rowIs_below HGo.out Bv.out).cell (i := k) (by rw [← HNL.out]; exact hlt)
        simp only [marksV, HIk.out] at i6 g6
        have o6 := HR5.out.cell hlt
        have of6 := HR5.out.frozen k
        clear hb hl5 hS5 t0 t1 t2 t3 t4 HDg i1 g1 l1 fl HU HR HL HB Bw
        cases hg : G k with
        | false =>
          have hg0 : goalB I G k = false := by unfold goalB; rw [hg]; simp
          have HUn : Hid (w6.ownsRow (w.heap.size + 1 + 1 + 1) 2 1 (.slice qa (markedK (goalB I G) k).length qc) (markedK (goalB I G) (k + 1)).length ((markedK (goalB I G) (k + 1)).map (Value.int .i64))) := by
            rw [show markedK (goalB I G) (k + 1) = markedK (goalB I G) k by simp [markedK, hg0]]; exact HU5.out
          have HRn : Hid (w6.rowIs (w.heap.size + 1) 4 n (marksV (outA I G (k + 1)))) := by rw [outA_pass hg0]; exact HR5.out
          rw [hg] at g6
          rw [hw6] at i6 g6
          clear hg hg0 HU5 HR5 hw6 o6 of6
          go_wp2
          rw [← HW6.out]
          go_roundw
          case rel => exact ⟨k + 1, _, rfl, by omega, by go_num, HUn, HRn, HL5, B6⟩
          case measure => simp [intOf]; omega
        | true =>
          have hg1 : goalB I G k = true := by unfold goalB; rw [hg, HIk.out]; rfl
          have HM1 : Hid (markedK (goalB I G) (k + 1) = markedK (goalB I G) k ++ [(k : Int)]) := by simp [markedK, hg1, Hid]
          have hS7 : Only (fun b => b = w.heap.size + 1) w6 (w6.setCell ⟨w.heap.size + 1, k, none⟩ (.bool true)) := (Only.refl (fun b => b = w.heap.size + 1) w6).setCell (p := ⟨w.heap.size + 1, k, none⟩) rfl _
          have hr7 := marks_one (v := k) HR5.out
          rw [outA_hit hg1] at hr7
          have HR7 := Lib.hid hr7
          have HL7 := Lib.hid (rowIs_only HL5.out hS7 (by omega))
          have HU7 := Lib.hid (ownsRow_only HU5.out hS7 (fun g hg e => by have := (HU5.out.lt g hg).1; omega))
          have B7 := Lib.hid (B6.out.trans (hS7.below (B := w1.heap.size) B6.out.size (fun b hb => by have := HS1.out; omega)))
          have hs7 : w.heap.size + 1 + 1 + 1 ≤ (w6.setCell ⟨w.heap.size + 1, k, none⟩ (.bool true)).heap.size := by have := HL7.out.lt; omega
          rw [hg] at g6
          rw [hw6] at i6 g6 o6 of6
          rw [hw6] at HU7 HR7 HL7 B7 hs7
          have HS7 := Lib.hid hs7
          clear hg hg1 HU5 HR5 HL5 hw6 hS7 hr7 B6 hs7
          go_wp2_with (at_builtin; refine wpList_append_own_at _ rfl _ _ 22 rfl (w.heap.size + 1 + 1 + 1) 2 j0 (.int .i64 0) 1 8 Tryd.underlying22 hji hji0 hji1 hji2 rfl (by decide) _ _ _ rfl (HU7.out.alloc _) ⟨w5.heap.size, 0, none⟩ 1 1 [.int .i64 k] rfl rfl ?c1 ?c2 ?c3 ?c4 ?c5 ?_)
          case c1 =>
            intro j u hu
            have h := cell_one_new ((w5.setCell ⟨w.heap.size + 1 + 1, k, none⟩ (.int .i64 (degK I Pk k (row zss k)))).setCell ⟨w.heap.size + 1, k, none⟩ (.bool true)) (.int .i64 k) 2 j u hu
            rw [show ((w5.setCell ⟨w.heap.size + 1 + 1, k, none⟩ (.int .i64 (degK I Pk k (row zss k)))).setCell ⟨w.heap.size + 1, k, none⟩ (.bool true)).heap.size = w5.heap.size by simp] at h
            exact h
          case c2 => intro u hu; simp at hu; subst hu; rfl
          case c3 => unfold maxLen; omega
          case c4 => omega
          case c5 => have := HS7.out; simp at this ⊢; omega
          intro v' w8 hown hgrow _ _
          have hol := HU7.out.lt
          have hS8 : Only (fun b => w.heap.size + 1 + 1 + 1 ≤ b) _ w8 := (Only.of_below (below1 _ _)).trans ((Only.of_grown hgrow).mono fun b hb => (hol b hb).1)
          have HR8 := Lib.hid (rowIs_only HR7.out hS8 (by omega))
          have HL8 := Lib.hid (rowIs_only HL7.out hS8 (by omega))
          have B8 := Lib.hid (B7.out.trans (hS8.below (B := w1.heap.size) B7.out.size (fun b hb => by have := HS1.out; omega)))
          have HU8 : Hid (w8.ownsRow (w.heap.size + 1 + 1 + 1) 2 1 v' (markedK (goalB I G) (k + 1)).length ((markedK (goalB I G) (k + 1)).map (Value.int .i64))) := by
            rw [HM1.out, List.map_append, List.length_append]; exact hown
          clear hown hgrow hS8 hol HU7 HR7 HL7 B7 i6 g6 o6 of6
          go_wp2
          go_roundw
          case rel => exact ⟨k + 1, _, rfl, by omega, by go_num, HU8, HR8, HL8, B8⟩
          case measure => simp [intOf]; omega
    · have hkk : k = n := by omega
      have hk1 : ¬ (k : Int) < n := by omega
      rw [hkk] at HU HR HL
      clear hkk
      have hQP := attract_starts (O := O) (Pk := Pk) (who := who) (I := I) (G := G) HZ.out
      rw [← HNL.out] at hQP
      have HQP := Lib.hid hQP
      clear hQP
      clear hk1
      go_wp2
      go_loopw [11, 13] (fun qv iv wr => ∃ (i : Nat) (qq : Value) (Q : List Int) (out : Nat → Bool) (left : Nat → Int), qq = qv ∧ i ≤ Q.length ∧ iv = .int .i64 i ∧ Hid (QuP (zssE zss Pk) O who I G (fun x => (x : Int) ∈ Q.take i) Q out left) ∧ Hid (wr.ownsRow (w.heap.size + 1 + 1 + 1) 2 1 qq Q.length (Q.map (Value.int .i64))) ∧ Hid (wr.rowIs (w.heap.size + 1) 4 n (marksV out)) ∧ Hid (wr.rowIs (w.heap.size + 1 + 1) 2 n (numsV left)) ∧ Hid (Below w1.heap.size w1 wr)) (fun _ iv _ => n - (intOf iv).toNat)
      case atStart => exact ⟨0, _, _, _, _, rfl, Nat.zero_le _, rfl, HQP, HU, HR, HL, HB⟩
      case round =>
        clear HQP HU HR HL HB
        obtain ⟨i, qq, Q, out, left, hqq, hi, rfl, HQP, HU, HR, HL, HB⟩ := hrel
        subst hqq
        obtain ⟨qa, qc, hqs⟩ := own_shape HU.out
        subst hqs
        have hQn : Q.length ≤ n := by have := HQP.out.verts.len; rw [zssE_len, ← HNL.out] at this; exact this
        have hsr : w.heap.size + 1 + 1 < wr.heap.size := HL.out.lt
        by_cases hlt : i < Q.length
        · have hi1 : (i : Int) < Q.length := by omega
          have hi0 : (0 : Int) ≤ (i : Int) := by omega
          obtain ⟨qg, qc', hqs, -, -, -⟩ := own_top HU.out (by omega)
          cases hqs
          obtain ⟨u, hu, hun⟩ := HQP.out.verts.at hlt
          rw [zssE_len, ← HNL.out] at hun
          have q1 : wr.cell? ⟨qg, i, none⟩ = some (.int .i64 u) := by
            have h := HU.out.cellAt i (by omega)
            rw [h]
            simp [hlt, ← nth_eq hlt, hu]
          have hu0 : (0 : Int) ≤ (u : Int) := by omega
          have hun1 : (u : Int) < n := by omega
          have HUQ := Lib.hid hu
          have HOU : Hid (out u = true) := (HQP.out.mem u (by rw [zssE_len, ← HNL.out]; exact hun)).1 (by rw [← hu]; exact nth_mem hlt)
          have HIU : Hid (I u = true) := ((HQP.out.outs u (by rw [zssE_len, ← HNL.out]; exact hun)).1 HOU.out).1
          have HPU : Hid ((u : Int) ∉ Q.take i) := by have := take_fresh HQP.out.verts.once hlt; rw [hu] at this; exact this
          have HSU : Hid (attrB (zssE zss Pk) O who I G u = true) := HQP.out.sound u (by rw [zssE_len, ← HNL.out]; exact hun) HOU.out
          have HSP : Hid (∀ x, x < (zssE zss Pk).length → (x : Int) ∈ Q.take i → attrB (zssE zss Pk) O who I G x = true) := fun x hx hm => HQP.out.sound x hx ((HQP.out.mem x hx).1 (List.mem_of_mem_take hm))
          obtain ⟨vs, hvs⟩ : ∃ vs, vs = predsK zss u n := ⟨_, rfl⟩
          have HVS := Lib.hid hvs
          have hvl : vs.length ≤ n := by rw [hvs]; exact predsK_len _ _ _
          have HVN : Hid vs.Nodup := by rw [hvs]; exact predsK_nodup _ _ _
          have HVM : Hid (∀ x ∈ vs, ∃ v : Nat, x = (v : Int) ∧ v < n ∧ (u : Int) ∈ row zss v) := fun x hx => by
            rw [hvs] at hx
            obtain ⟨v, h1, h2, h3⟩ := (predsK_iff zss u n x).1 hx
            exact ⟨v, h1, h2, h3⟩
          have HVR : Hid (∀ v : Nat, v < n → (u : Int) ∈ row zss v → (v : Int) ∈ vs) := fun v h1 h2 => by
            rw [hvs]; exact (predsK_iff zss u n v).2 ⟨v, rfl, h1, h2⟩
          have HROW : Hid (∀ W, Below w.heap.size w W → ∃ b off, aq = some ⟨b, off, none⟩ ∧ W.cell? ⟨b, off + u, none⟩ = some (.slice (A' u) vs.length (C' u)) ∧ IntsAt W (A' u) vs) := fun W hb => by
            have h := HQ.out.below hb
            have hl : (rowsOf zss.length fun u => predsK zss u zss.length).length = n := by rw [rowsOf_len]; exact HNL.out.symm
            have hr : row (rowsOf zss.length fun u => predsK zss u zss.length) u = vs := by rw [rowsOf_row (by rw [← HNL.out]; exact hun), hvs, HNL.out]
            obtain ⟨b, off, ha, hc⟩ := h.cell (by rw [hl]; omega)
            refine ⟨b, off, ha, ?_, ?_⟩
            · have := hc u (by rw [hl]; exact hun)
              rw [hr] at this; exact this
            · have := h.rows u (by rw [hl]; exact hun)
              rw [hr] at this; exact this
          have HQI := Lib.hid (QiP.start (u := u) (vs := vs) HQP.out)
          have HT0 : Hid (i + 1 ≤ Q.length) := hlt
          clear hu hvs HQP
          go_wp2
          clear q1
          go_loopw [11, 15] (fun qv jv wr => ∃ (j : Nat) (qq : Value) (Q' : List Int) (out : Nat → Bool) (left : Nat → Int), qq = qv ∧ j ≤ vs.length ∧ jv = .int .i64 j ∧ Hid (Q'.take (i + 1) = Q.take (i + 1) ∧ i + 1 ≤ Q'.length) ∧ Hid (QiP (zssE zss Pk) O who I G (fun x => (x : Int) ∈ Q.take i) u j vs Q' out left) ∧ Hid (wr.ownsRow (w.heap.size + 1 + 1 + 1) 2 1 qq Q'.length (Q'.map (Value.int .i64))) ∧ Hid (wr.rowIs (w.heap.size + 1) 4 n (marksV out)) ∧ Hid (wr.rowIs (w.heap.size + 1 + 1) 2 n (numsV left)) ∧ Hid (Below w1.heap.size w1 wr)) (fun _ jv _ => vs.length - (intOf jv).toNat)
          case atStart => exact ⟨0, _, Q, _, _, rfl, Nat.zero_le _, rfl, ⟨rfl, HT0.out⟩, HQI, HU, HR, HL, HB⟩
          case round =>
            clear HT0 HQI HU HR HL HB hsr HOU
            obtain ⟨j, qq, Q', out, left, hqq, hj, rfl, HT, HQI, HU, HR, HL, HB⟩ := hrel
            subst hqq
            have hsr : w.heap.size + 1 + 1 < wr.heap.size := HL.out.lt
            have Bw := Lib.hid (B1.out.trans (HB.out.mono B1.out.size))
            obtain ⟨rb, roff, hra, rc1, hrc⟩ := HROW.out wr Bw.out
            have HRC := Lib.hid hrc
            clear hrc
            have t3 := (T1.out.below HB.out).c3
            by_cases hjt : j < vs.length
            · have hj1 : (j : Int) < vs.length := by omega
              have hj0 : (0 : Int) ≤ (j : Int) := by omega
              obtain ⟨vb, voff, hva, hvc⟩ := HRC.out.cell (by omega)
              have v1 := hvc j hjt
              obtain ⟨v, hv, hvn, huv⟩ := HVM.out _ (nth_mem hjt)
              rw [hv] at v1
              have HV := Lib.hid hv
              have HUV := Lib.hid huv
              have hv0 : (0 : Int) ≤ (v : Int) := by omega
              have hvn1 : (v : Int) < n := by omega
              have hvE : v < (zssE zss Pk).length := by rw [zssE_len, ← HNL.out]; exact hvn
              have HVE := Lib.hid hvE
              have i1 := (rowIs_below HI.out Bw.out).cell (i := v) (by rw [← HNL.out]; exact hvn)
              have o1 := HR.out.cell hvn
              simp only [marksV] at i1 o1
              rw [hra] at t3
              rw [hva] at rc1
              clear hvc hv huv hvE hra
              have hzp : ∀ x, x < (zssE zss Pk).length → ∀ y ∈ row (zssE zss Pk) x, 0 ≤ y := fun x hx => (zssE_rows HZ.out).pos hx
              have HZP := Lib.hid hzp
              clear hzp
              cases hIv : I v with
              | false =>
                have HQn := Lib.hid (HQI.out.pass HZP.out HVN.out HVE.out hjt HV.out (.inl hIv))
                rw [hIv] at i1
                clear hIv HQI
                go_wp2
                go_roundw
                case rel => exact ⟨j + 1, _, _, _, _, rfl, by omega, by go_num, HT, HQn, HU, HR, HL, HB⟩
                case measure => simp [intOf]; omega
              | true =>
                have HIV := Lib.hid hIv
                rw [hIv] at i1
                clear hIv
                cases hov : out v with
                | true =>
                  have HQn := Lib.hid (HQI.out.pass HZP.out HVN.out HVE.out hjt HV.out (.inr (.inl hov)))
                  rw [hov] at o1
                  clear hov HQI
                  go_wp2
                  go_roundw
                  case rel => exact ⟨j + 1, _, _, _, _, rfl, by omega, by go_num, HT, HQn, HU, HR, HL, HB⟩
                  case measure => simp [intOf]; omega
                | false =>
                  have HOV := Lib.hid hov
                  rw [hov] at o1
                  clear hov
                  have t0 := (T1.out.below HB.out).c0
                  have t1 := (T1.out.below HB.out).c1
                  have t2 := (T1.out.below HB.out).c2
                  have t4 := (T1.out.below HB.out).c4
                  obtain ⟨qa, qc, hqs⟩ := own_shape HU.out
                  subst hqs
                  obtain ⟨pb, hpb⟩ : ∃ b, pickB Pk v (u : Int) = b := ⟨_, rfl⟩
                  have HE := Lib.hid (l7Edge_is (ao := ao) (ap := ap) (an := an) (aq := some ⟨rb, roff, none⟩) O.length lp n n co cp cn cq ck hpb (HK.out.below Bw.out) (by rw [HPK.out, ← HNL.out]; exact hvn))
                  cases pb with
                  | false =>
                    have hnm : (u : Int) ∉ row (zssE zss Pk) v := fun hm => by
                      rw [zssE_row (by rw [← HNL.out]; exact hvn)] at hm
                      have := (List.mem_filter.1 hm).2
                      rw [hpb] at this; cases this
                    have HQn := Lib.hid (HQI.out.pass HZP.out HVN.out HVE.out hjt HV.out (.inr (.inr hnm)))
                    clear hpb hnm HQI
                    go_wp2_with (go_at_call 153; refine HE.out.mono ?_; rintro e w5 ⟨rfl, hb⟩; have HU5 := Lib.hid (ownsRow_only HU.out (S := fun _ => False) (Only.of_below hb) (fun _ _ h => h)); have HR5 := Lib.hid (rowIs_below HR.out hb); have HL5 := Lib.hid (rowIs_below HL.out hb); have HB5 := Lib.hid (HB.out.trans (hb.mono HB.out.size)); clear hb)
                    go_roundw
                    case rel => exact ⟨j + 1, _, _, _, _, rfl, by omega, by go_num, HT, HQn, HU5, HR5, HL5, HB5⟩
                    case measure => simp [intOf]; omega
                  | true =>
                    have hmE : (u : Int) ∈ row (zssE zss Pk) v := by
                      rw [zssE_row (by rw [← HNL.out]; exact hvn)]
                      exact List.mem_filter.2 ⟨HUV.out, hpb⟩
                    have HQV := Lib.hid HQI.out.verts
                    have HLS := Lib.hid (HQI.out.less (zssE_rows HZ.out) HVN.out HVE.out hjt HV.out HIV.out HOV.out hmE HIU.out HPU.out)
                    have hlv : 0 ≤ left v - 1 ∧ left v - 1 ≤ 16 := by
                      have h1 := HLS.out.1
                      have h2 := cntF_bound (zss := zssE zss Pk) (I := I) (AddP (fun x => (x : Int) ∈ Q.take i) u) v
                      have h3 : (row (zssE zss Pk) v).length ≤ 16 := by
                        rw [zssE_row (by rw [← HNL.out]; exact hvn)]
                        exact Nat.le_trans (List.length_filter_le _ _) (HR16.out v (by rw [← HNL.out]; exact hvn))
                      omega
                    obtain ⟨hlv0, hlv1⟩ := hlv
                    clear hpb hmE HQI
                    go_wp2_with fail
                    refine HE.out.mono ?_
                    rintro e w5 ⟨rfl, hb⟩
                    have HU5 := Lib.hid (ownsRow_only HU.out (S := fun _ => False) (Only.of_below hb) (fun _ _ h => h))
                    have HR5 := Lib.hid (rowIs_below HR.out hb)
                    have HL5 := Lib.hid (rowIs_below HL.out hb)
                    have HB5 := Lib.hid (HB.out.trans (hb.mono HB.out.size))
                    clear hb HU HR HL HB t0 t1 t2 t3 t4 i1 o1 rc1 v1 HE Bw HRC
                    have hsr5 : w.heap.size + 1 + 1 < w5.heap.size := HL5.out.lt
                    have l5 := HL5.out.cell hvn
                    have lf5 := HL5.out.frozen v
                    simp only [numsV] at l5
                    have hwl : IntKind.i64.wrap (left v - 1) = left v - 1 := IntWalk.i64_in _ (by omega)
                    have hS6 : Only (fun b => b = w.heap.size + 1 + 1) w5 (w5.setCell ⟨w.heap.size + 1 + 1, v, none⟩ (.int .i64 (left v - 1))) := (Only.refl (fun b => b = w.heap.size + 1 + 1) w5).setCell (p := ⟨w.heap.size + 1 + 1, v, none⟩) rfl _
                    have HL6 := Lib.hid (nums_set (v := v) (x := left v - 1) HL5.out)
                    have HR6 := Lib.hid (rowIs_only HR5.out hS6 (by omega))
                    have HU6 := Lib.hid (ownsRow_only HU5.out hS6 (fun g hg e => by have := (HU5.out.lt g hg).1; omega))
                    have B6 := Lib.hid (HB5.out.trans (hS6.below (B := w1.heap.size) HB5.out.size (fun b hb => by have := HS1.out; omega)))
                    obtain ⟨w6, hw6⟩ : ∃ y, y = w5.setCell ⟨w.heap.size + 1 + 1, v, none⟩ (.int .i64 (left v - 1)) := ⟨_, rfl⟩
                    have HW6 := Lib.hid hw6
                    rw [← hw6] at HL6 HR6 HU6 B6
                    have Bx := Lib.hid (B1.out.trans (B6.out.mono B1.out.size))
                    obtain ⟨ob, oo, hoa, hoc⟩ := (HO.out.below Bx.out).cell (by have := HOL.out; omega)
                    have ow6 := hoc v (by have := HOL.out; omega)
                    have t06 := (T1.out.below B6.out).c0
                    rw [hoa] at t06
                    have hol6 : (v : Int) < O.length := by have := HOL.out; omega
                    have l6 := HL6.out.cell hvn
                    simp only [numsV, if_true] at l6
                    have o6 := HR6.out.cell hvn
                    have of6 := HR6.out.frozen v
                    simp only [marksV] at o6
                    clear hoc hS6 HU5 HR5 HL5 HB5 Bx
                    by_cases hown : nth O v = who
                    · have hOW : (nth O v == who) = true := by simpa using hown
                      have HCASE : nth O v = who ∨ left v - 1 = 0 := .inl hown
                      rw [hw6] at ow6
                      clear hown hoa
                      have hS9 : Only (fun b => b = w.heap.size + 1) w6 (w6.setCell ⟨w.heap.size + 1, v, none⟩ (.bool true)) := (Only.refl (fun b => b = w.heap.size + 1) w6).setCell (p := ⟨w.heap.size + 1, v, none⟩) rfl _
                      have HQn := Lib.hid (HLS.out.2.2 HCASE HSP.out HSU.out)
                      have HR7 := Lib.hid (marks_one (v := v) HR6.out)
                      have HL7 := Lib.hid (rowIs_only HL6.out hS9 (by omega))
                      have HU7 := Lib.hid (ownsRow_only HU6.out hS9 (fun g hg e => by have := (HU6.out.lt g hg).1; omega))
                      have B7 := Lib.hid (B6.out.trans (hS9.below (B := w1.heap.size) B6.out.size (fun b hb => by have := HS1.out; omega)))
                      have hs7 : w.heap.size + 1 + 1 + 1 ≤ (w6.setCell ⟨w.heap.size + 1, v, none⟩ (.bool true)).heap.size := by have := HL7.out.lt; omega
                      rw [hw6] at HU7 HR7 HL7 B7 hs7
                      have HS7 := Lib.hid hs7
                      rw [hw6] at o6 of6 l6 t06
                      have hql : Q'.length ≤ n := by have := HQV.out.len; rw [zssE_len, ← HNL.out] at this; exact this
                      clear HU6 HR6 HL6 hw6 hS9 B6 hs7 HLS
                      go_wp2_with (at_builtin; refine wpList_append_own_at _ rfl _ _ 22 rfl (w.heap.size + 1 + 1 + 1) 2 j0 (.int .i64 0) 1 8 Tryd.underlying22 hji hji0 hji1 hji2 rfl (by decide) _ _ _ rfl (HU7.out.alloc _) ⟨w5.heap.size, 0, none⟩ 1 1 [.int .i64 v] rfl rfl ?c1 ?c2 ?c3 ?c4 ?c5 ?_)
                      case c1 =>
                        intro j u hu
                        have h := cell_one_new ((w5.setCell ⟨w.heap.size + 1 + 1, v, none⟩ (.int .i64 (left v - 1))).setCell ⟨w.heap.size + 1, v, none⟩ (.bool true)) (.int .i64 v) 2 j u hu
                        rw [show ((w5.setCell ⟨w.heap.size + 1 + 1, v, none⟩ (.int .i64 (left v - 1))).setCell ⟨w.heap.size + 1, v, none⟩ (.bool true)).heap.size = w5.heap.size by simp] at h
                        exact h
                      case c2 => intro u hu; simp at hu; subst hu; rfl
                      case c3 => unfold maxLen; omega
                      case c4 => omega
                      case c5 => have := HS7.out; simp at this ⊢; omega
                      intro v' w8 hown hgrow _ _
                      have hol := HU7.out.lt
                      have hS8 : Only (fun b => w.heap.size + 1 + 1 + 1 ≤ b) _ w8 := (Only.of_below (below1 _ _)).trans ((Only.of_grown hgrow).mono fun b hb => (hol b hb).1)
                      have HR8 := Lib.hid (rowIs_only HR7.out hS8 (by omega))
                      have HL8 := Lib.hid (rowIs_only HL7.out hS8 (by omega))
                      have B8 := Lib.hid (B7.out.trans (hS8.below (B := w1.heap.size) B7.out.size (fun b hb => by have := HS1.out; omega)))
                      have HU8 : Hid (w8.ownsRow (w.heap.size + 1 + 1 + 1) 2 1 v' (Q' ++ [(v : Int)]).length ((Q' ++ [(v : Int)]).map (Value.int .i64))) := by
                        rw [List.map_append, List.length_append]; exact hown
                      have HTn : Hid ((Q' ++ [(v : Int)]).take (i + 1) = Q.take (i + 1) ∧ i + 1 ≤ (Q' ++ [(v : Int)]).length) := ⟨by rw [List.take_append_of_le_length HT.out.2]; exact HT.out.1, by have := HT.out.2; simp; omega⟩
                      clear hown hgrow hS8 hol HU7 HR7 HL7 B7 o6 of6 l6 t06
                      go_wp2
                      go_roundw
                      case rel => exact ⟨j + 1, _, _, _, _, rfl, by omega, by go_num, HTn, HQn, HU8, HR8, HL8, B8⟩
                      case measure => simp [intOf]; omega
                    · have hOW : (nth O v == who) = false := beq_eq_false_iff_ne.2 hown
                      by_cases hl0 : left v - 1 = 0
                      · have hL0 : (left v - 1 == 0) = true := by simpa using hl0
                        have HCASE : nth O v = who ∨ left v - 1 = 0 := .inr hl0
                        rw [hw6] at ow6
                        clear hown hoa hl0
                        have hS9 : Only (fun b => b = w.heap.size + 1) w6 (w6.setCell ⟨w.heap.size + 1, v, none⟩ (.bool true)) := (Only.refl (fun b => b = w.heap.size + 1) w6).setCell (p := ⟨w.heap.size + 1, v, none⟩) rfl _
                        have HQn := Lib.hid (HLS.out.2.2 HCASE HSP.out HSU.out)
                        have HR7 := Lib.hid (marks_one (v := v) HR6.out)
                        have HL7 := Lib.hid (rowIs_only HL6.out hS9 (by omega))
                        have HU7 := Lib.hid (ownsRow_only HU6.out hS9 (fun g hg e => by have := (HU6.out.lt g hg).1; omega))
                        have B7 := Lib.hid (B6.out.trans (hS9.below (B := w1.heap.size) B6.out.size (fun b hb => by have := HS1.out; omega)))
                        have hs7 : w.heap.size + 1 + 1 + 1 ≤ (w6.setCell ⟨w.heap.size + 1, v, none⟩ (.bool true)).heap.size := by have := HL7.out.lt; omega
                        rw [hw6] at HU7 HR7 HL7 B7 hs7
                        have HS7 := Lib.hid hs7
                        rw [hw6] at o6 of6 l6 t06
                        have hql : Q'.length ≤ n := by have := HQV.out.len; rw [zssE_len, ← HNL.out] at this; exact this
                        clear HU6 HR6 HL6 hw6 hS9 B6 hs7 HLS
                        go_wp2_with (at_builtin; refine wpList_append_own_at _ rfl _ _ 22 rfl (w.heap.size + 1 + 1 + 1) 2 j0 (.int .i64 0) 1 8 Tryd.underlying22 hji hji0 hji1 hji2 rfl (by decide) _ _ _ rfl (HU7.out.alloc _) ⟨w5.heap.size, 0, none⟩ 1 1 [.int .i64 v] rfl rfl ?c1 ?c2 ?c3 ?c4 ?c5 ?_)
                        case c1 =>
                          intro j u hu
                          have h := cell_one_new ((w5.setCell ⟨w.heap.size + 1 + 1, v, none⟩ (.int .i64 (left v - 1))).setCell ⟨w.heap.size + 1, v, none⟩ (.bool true)) (.int .i64 v) 2 j u hu
                          rw [show ((w5.setCell ⟨w.heap.size + 1 + 1, v, none⟩ (.int .i64 (left v - 1))).setCell ⟨w.heap.size + 1, v, none⟩ (.bool true)).heap.size = w5.heap.size by simp] at h
                          exact h
                        case c2 => intro u hu; simp at hu; subst hu; rfl
                        case c3 => unfold maxLen; omega
                        case c4 => omega
                        case c5 => have := HS7.out; simp at this ⊢; omega
                        intro v' w8 hown hgrow _ _
                        have hol := HU7.out.lt
                        have hS8 : Only (fun b => w.heap.size + 1 + 1 + 1 ≤ b) _ w8 := (Only.of_below (below1 _ _)).trans ((Only.of_grown hgrow).mono fun b hb => (hol b hb).1)
                        have HR8 := Lib.hid (rowIs_only HR7.out hS8 (by omega))
                        have HL8 := Lib.hid (rowIs_only HL7.out hS8 (by omega))
                        have B8 := Lib.hid (B7.out.trans (hS8.below (B := w1.heap.size) B7.out.size (fun b hb => by have := HS1.out; omega)))
                        have HU8 : Hid (w8.ownsRow (w.heap.size + 1 + 1 + 1) 2 1 v' (Q' ++ [(v : Int)]).length ((Q' ++ [(v : Int)]).map (Value.int .i64))) := by
                          rw [List.map_append, List.length_append]; exact hown
                        have HTn : Hid ((Q' ++ [(v : Int)]).take (i + 1) = Q.take (i + 1) ∧ i + 1 ≤ (Q' ++ [(v : Int)]).length) := ⟨by rw [List.take_append_of_le_length HT.out.2]; exact HT.out.1, by have := HT.out.2; simp; omega⟩
                        clear hown hgrow hS8 hol HU7 HR7 HL7 B7 o6 of6 l6 t06
                        go_wp2
                        go_roundw
                        case rel => exact ⟨j + 1, _, _, _, _, rfl, by omega, by go_num, HTn, HQn, HU8, HR8, HL8, B8⟩
                        case measure => simp [intOf]; omega
                      · have hL0 : (left v - 1 == 0) = false := beq_eq_false_iff_ne.2 hl0
                        have HQn := Lib.hid (HLS.out.2.1 hown hl0)
                        rw [hw6] at o6 of6 l6 t06 ow6
                        clear hown hl0 HLS hoa hw6
                        go_wp2
                        rw [← HW6.out]
                        go_roundw
                        case rel => exact ⟨j + 1, _, _, _, _, rfl, by omega, by go_num, HT, HQn, HU6, HR6, HL6, B6⟩
                        case measure => simp [intOf]; omega
            · have hj1 : ¬ (j : Int) < vs.length := by omega
              have hjj : j = vs.length := by omega
              rw [hjj] at HQI
              have HQn : Hid (QuP (zssE zss Pk) O who I G (fun x => (x : Int) ∈ Q'.take (i + 1)) Q' out left) := HQI.out.full (fun x hx => (zssE_rows HZ.out).pos hx) (fun x hx hm => by
                rw [zssE_len] at hx
                rw [zssE_row hx] at hm
                exact HVR.out x (by rw [HNL.out]; exact hx) (List.mem_filter.1 hm).1) (fun x => by
                rw [HT.out.1, take_snoc hlt, HUQ.out]
                simp [AddP, Int.natCast_inj])
              have hT2 := HT.out.2
              rw [hra] at t3
              clear hjj HQI hra
              go_wp2
              clear t3 rc1
              go_roundw
              case rel => exact ⟨i + 1, _, _, _, _, rfl, hT2, by go_num, HQn, HU, HR, HL, HB⟩
              case measure => simp [intOf]; omega
        · have hi1 : ¬ (i : Int) < Q.length := by omega
          have hii : i = Q.length := by omega
          rw [hii, List.take_length] at HQP
          have HF : Hid (wr.rowIs (w.heap.size + 1) 4 n (marksV (attrB (zssE zss Pk) O who I G))) := World.rowIs.congr HR.out fun x hx => by
            unfold marksV
            rw [HQP.out.done (zssE_rows HZ.out) x (by rw [zssE_len, ← HNL.out]; exact hx)]
          have Bw := Lib.hid (B1.out.trans (HB.out.mono B1.out.size))
          clear hii HQP
          go_wp2
          go_ret
          exact ⟨_, rfl, by omega, HF.out, Bw.out⟩
end

section
open Go.RowKit

/-- While marks are written in order. -/
def outK (f : Nat → Bool) (k : Nat) : Nat → Bool := fun v => decide (v < k) && f v
theorem outK_succ {f : Nat → Bool} {k : Nat} : outK f (k + 1) = mark1 (outK f k) k (f k) := funext fun v => by
  unfold outK mark1
  by_cases e : v = k
  · subst e; simp
  · rw [if_neg e]
    congr 1
    rw [decide_eq_decide]; omega
theorem outK_all {f : Nat → Bool} {n : Nat} {w : World} {b : Nat} (h : w.rowIs b 4 n (marksV (outK f n))) : w.rowIs b 4 n (marksV f) :=
  h.congr fun i hi => by simp [marksV, outK, hi]
theorem outK_new {w : World} {f : Nat → Bool} {n : Nat} : (w.alloc (.cells (madeCells #[.bool false] n) 4)).rowIs w.heap.size 4 n (marksV (outK f 0)) :=
  (World.rowIs_made w _ _ _).congr (fun i _ => by simp [marksV, outK])
theorem outK_other {w : World} {f g : Nat → Bool} {n b : Nat} (h : w.rowIs b 4 n (marksV (outK f 0))) : w.rowIs b 4 n (marksV (outK g 0)) :=
  h.congr (fun i _ => by simp [marksV, outK])
theorem outK_set {w : World} {f : Nat → Bool} {n b k : Nat} {x : Bool} (h : w.rowIs b 4 n (marksV (outK f k))) (hx : f k = x) : (w.setCell ⟨b, k, none⟩ (.bool x)).rowIs b 4 n (marksV (outK f (k + 1))) := by
  rw [outK_succ, hx]; exact marks_set h
def anyK (f : Nat → Bool) : Nat → Bool
  | 0 => false
  | k + 1 => anyK f k || f k
theorem anyK_range {f : Nat → Bool} : ∀ n, (List.range n).any f = anyK f n
  | 0 => rfl
  | n + 1 => by rw [List.range_succ, List.any_append, anyK_range n]; simp [anyK]

/-- One call of the solver over what its calls give. -/
noncomputable def stepZ (zss : List (List Int)) (O : List Int) (p : Nat → Int) (W : (Nat → Bool) → Nat → Bool) (I : Nat → Bool) (v : Nat) : Bool :=
  if topZ p I zss.length < 0 then false
  else if (List.range zss.length).any (lostZ (topZ p I zss.length % 2) (restZ zss O p I) (W (restZ zss O p I))) = false then I v && decide (topZ p I zss.length % 2 = 0)
  else W (lessB I (attrB zss O (1 - topZ p I zss.length % 2) I (lostZ (topZ p I zss.length % 2) (restZ zss O p I) (W (restZ zss O p I))))) v ||
    (attrB zss O (1 - topZ p I zss.length % 2) I (lostZ (topZ p I zss.length % 2) (restZ zss O p I) (W (restZ zss O p I))) v && decide (topZ p I zss.length % 2 = 1))

section
variable {zss : List (List Int)} {O : List Int} {p : Nat → Int} {W : (Nat → Bool) → Nat → Bool} {I : Nat → Bool} {n : Nat} {top who : Int}

theorem step_none (hl : zss.length = n) (ht : topZ p I n < 0) : stepZ zss O p W I = fun _ => false := funext fun v => by
  unfold stepZ; rw [hl, if_pos ht]
/-- The goal is that of the greatest priority; the rest is what it does not pull. -/
theorem step_rest (hl : zss.length = n) (ht : topZ p I n = top) : lessB I (attrB zss O (top % 2) I (fun v => I v && decide (p v = top))) = restZ zss O p I := by
  unfold restZ goalZ; rw [hl, ht]
theorem step_some {rest lost : Nat → Bool} (hl : zss.length = n) (ht : topZ p I n = top) (h0 : ¬ top < 0) (hr : rest = restZ zss O p I) (hlo : lost = lostZ (top % 2) rest (W rest)) (hs : anyK lost n = true) :
    stepZ zss O p W I = fun v => W (lessB I (attrB zss O (1 - top % 2) I lost)) v || (attrB zss O (1 - top % 2) I lost v && decide (top % 2 = 1)) := funext fun v => by
  unfold stepZ
  rw [hl, ht, if_neg h0, anyK_range, ← hr, ← hlo, if_neg (by rw [hs]; simp)]
theorem step_all {rest lost : Nat → Bool} (hl : zss.length = n) (ht : topZ p I n = top) (h0 : ¬ top < 0) (hr : rest = restZ zss O p I) (hlo : lost = lostZ (top % 2) rest (W rest)) (hs : anyK lost n = false) :
    stepZ zss O p W I = fun v => I v && decide (top % 2 = 0) := funext fun v => by
  unfold stepZ
  rw [hl, ht, if_neg h0, anyK_range, ← hr, ← hlo, if_pos hs]
/-- The rest is smaller, and so is what is left behind the opponent's pull. -/
theorem step_less (hin : InG zss) (hl : zss.length = n) (ht : topZ p I n = top) (h0 : ¬ top < 0) : (markedK (restZ zss O p I) n).length < (markedK I n).length := by
  obtain ⟨g, hg1, hg2, hg3⟩ := topZ_at (p := p) (I := I) n (by omega)
  rw [← step_rest hl ht]
  refine marked_less (fun v _ h => (lessB_iff.1 h).1) hg1 hg2 ?_
  have hgA : attrB zss O (top % 2) I (fun v => I v && decide (p v = top)) g = true := (attr_fix hin (by rw [hl]; exact hg1)).2 ⟨hg2, .inl (by simp [hg2, hg3, ht])⟩
  cases h : lessB I (attrB zss O (top % 2) I (fun v => I v && decide (p v = top))) g with
  | false => rfl
  | true => rw [(lessB_iff.1 h).2] at hgA; cases hgA
theorem step_less2 {lost : Nat → Bool} (hin : InG zss) (hl : zss.length = n) {b : Int} (hs : anyK lost n = true) (hsub : ∀ v, lost v = true → I v = true) : (markedK (lessB I (attrB zss O b I lost)) n).length < (markedK I n).length := by
  rw [← anyK_range, List.any_eq_true] at hs
  obtain ⟨x, hx, hlx⟩ := hs
  rw [List.mem_range] at hx
  refine marked_less (fun v _ h => (lessB_iff.1 h).1) hx (hsub x hlx) ?_
  have hax : attrB zss O b I lost x = true := (attr_fix hin (by rw [hl]; exact hx)).2 ⟨hsub x hlx, .inl hlx⟩
  cases h : lessB I (attrB zss O b I lost) x with
  | false => rfl
  | true => rw [(lessB_iff.1 h).2] at hax; cases hax
theorem lost_sub {w : Int} {low : Nat → Bool} {v : Nat} (h : lostZ w (restZ zss O p I) low v = true) : I v = true := by
  unfold lostZ restZ at h
  rw [Bool.and_eq_true] at h
  exact (lessB_iff.1 h.1).1

end

set_option maxHeartbeats 16000000 in
set_option maxRecDepth 100000 in
theorem l7Win_step {w : World} {ao ap an aq ak : Option Addr} {A : Nat → Option Addr} {C : Nat → Nat} {A' : Nat → Option Addr} {C' : Nat → Nat} {zss : List (List Int)} {O P Pk : List Int} {W : (Nat → Bool) → Nat → Bool} {I : Nat → Bool} {bI : Nat} (co cp cn cq ck : Nat)
    (hO : IntsAt w ao O) (hP : IntsAt w ap P) (hn : RowsAt w an A C zss) (hq : RowsAt w aq A' C' (rowsOf zss.length fun u => predsK zss u zss.length)) (hk : IntsAt w ak Pk) (hz : RowsP zss) (hOl : O.length = zss.length) (hPl : P.length = zss.length) (hpk : Pk.length = zss.length) (hz256 : zss.length ≤ 256) (hr16 : ∀ v, v < zss.length → (row zss v).length ≤ 16)
    (hI : w.rowIs bI 4 zss.length (marksV I))
    (hrec : ∀ (w' : World) (bJ : Nat) (J : Nat → Bool), Below w.heap.size w w' → w'.rowIs bJ 4 zss.length (marksV J) → (markedK J zss.length).length < (markedK I zss.length).length →
      Calls Tryd.prog 98 #[.agg #[.slice ao O.length co, .slice ap P.length cp, .slice an zss.length cn, .slice aq zss.length cq, .slice ak Pk.length ck], .slice (some ⟨bJ, 0, none⟩) zss.length zss.length] w' (GivesMarks w' zss.length (W J))) :
    Calls Tryd.prog 98 #[.agg #[.slice ao O.length co, .slice ap P.length cp, .slice an zss.length cn, .slice aq zss.length cq, .slice ak Pk.length ck], .slice (some ⟨bI, 0, none⟩) zss.length zss.length] w (GivesMarks w zss.length (stepZ (zssE zss Pk) O (nth P) W I)) := by
  obtain ⟨n, hnl⟩ : ∃ n, n = zss.length := ⟨_, rfl⟩
  have HNL := Lib.hid hnl
  have HIN := Lib.hid (zssE_rows (Pk := Pk) hz).inG
  have HZL : Hid ((zssE zss Pk).length = n) := by unfold Hid; rw [zssE_len, hnl]
  have hmb := run_make_row' (P := Tryd.prog) 75 4 (.bool false) 1 Tryd.underlying75 info_bool rfl .i64 .i64 n (by omega) (by omega)
  have HO := Lib.hid hO
  have HPi := Lib.hid hP
  have HNx := Lib.hid hn
  have HQ := Lib.hid hq
  have HK := Lib.hid hk
  have HI := Lib.hid hI
  have HZ := Lib.hid hz
  have HPK := Lib.hid hpk
  have HOL := Lib.hid hOl
  have HPL := Lib.hid hPl
  have HR16 := Lib.hid hr16
  have HREC := Lib.hid hrec
  have HZ256 := Lib.hid hz256
  have HATT : Hid (∀ {w' : World} {G : Nat → Bool} {bG : Nat} (who : Int), Below w.heap.size w w' → w'.rowIs bG 4 n (marksV G) → Calls Tryd.prog 128 #[.agg #[.slice ao O.length co, .slice ap P.length cp, .slice an n cn, .slice aq n cq, .slice ak Pk.length ck], .slice (some ⟨bI, 0, none⟩) n n, .int .i64 who, .slice (some ⟨bG, 0, none⟩) n n] w' (GivesMarks w' n (attrB (zssE zss Pk) O who I G))) := by
    intro w' G bG who hb hG
    rw [hnl] at hG ⊢
    exact l7Attract_is P.length co cp cn cq ck (hO.below hb) (hn.below hb) (hq.below hb) (hk.below hb) hz hOl hpk hz256 hr16 (rowIs_below hI hb) hG
  have HTP : Hid (∀ {w' : World}, Below w.heap.size w w' → Calls Tryd.prog 126 #[.agg #[.slice ao O.length co, .slice ap P.length cp, .slice an n cn, .slice aq n cq, .slice ak Pk.length ck], .slice (some ⟨bI, 0, none⟩) n n] w' fun e w2 => e = .returned (.int .i64 (topZ (nth P) I n)) ∧ Below w'.heap.size w' w2) := by
    intro w' hb
    rw [hnl]
    exact l7Top_is O.length zss.length zss.length Pk.length co cp cn cq ck (hP.below hb) (rowIs_below hI hb) (by omega) hPl
  rw [← hnl] at hz256 hOl hpk hI hPl
  have HI := Lib.hid hI
  rw [← hnl] at HREC
  obtain ⟨w1, hw1⟩ : ∃ y, y = w.alloc (.cells #[.slice ao O.length co, .slice ap P.length cp, .slice an n cn, .slice aq n cq, .slice ak Pk.length ck] 73) := ⟨_, rfl⟩
  have HW1 := Lib.hid hw1
  have hs1 : w1.heap.size = w.heap.size + 1 := by rw [hw1]; simp
  have HS1 := Lib.hid hs1
  have B1 : Hid (Below w.heap.size w w1) := by rw [hw1]; exact below1 _ _
  have T1 : Hid (Box5 w1 w.heap.size 73 (.slice ao O.length co) (.slice ap P.length cp) (.slice an n cn) (.slice aq n cq) (.slice ak Pk.length ck)) := by rw [hw1]; exact Box5.new _ _ _ _ _ _ _
  obtain ⟨top, htop⟩ : ∃ top, topZ (nth P) I n = top := ⟨_, rfl⟩
  have HT := Lib.hid htop
  have t0 := T1.out.c0
  have t1 := T1.out.c1
  have t2 := T1.out.c2
  have t3 := T1.out.c3
  have t4 := T1.out.c4
  clear hO hP hn hq hk hI hz hw1 hs1 hr16 hpk hOl hPl hrec htop
  rw [← hnl]
  clear hnl
  by_cases hneg : top < 0
  · have HE := Lib.hid (step_none (O := O) (W := W) HZL.out (by rw [HT.out]; exact hneg))
    go_enter Tryd.func98, Tryd.ntmps98
    go_wp2_with fail
    rw [← HW1.out]
    refine (HTP.out B1.out).mono ?_
    rintro e w2 ⟨rfl, hb⟩
    rw [HT.out]
    have RO : Hid ((w2.alloc (.cells (madeCells #[.bool false] n) 4)).rowIs w2.heap.size 4 n (marksV (fun _ => false))) := (outK_new (f := fun _ => false)).congr fun i _ => by simp [marksV, outK]
    have B2 := Lib.hid (B1.out.trans (hb.mono B1.out.size))
    have B3 := Lib.hid (B2.out.trans ((below1 w2 (.cells (madeCells #[.bool false] n) 4)).mono B2.out.size))
    clear hb
    go_wp2
    go_ret
    exact ⟨_, rfl, B2.out.size, by rw [HE.out]; exact RO.out, B3.out⟩
  · have htop0 : 0 ≤ top := by omega
    obtain ⟨who, hwho⟩ : ∃ who, top % 2 = who := ⟨_, rfl⟩
    have HWHO := Lib.hid hwho
    have hwhoT : top.tmod 2 = who := by rw [← hwho]; exact Int.tmod_eq_emod_of_nonneg htop0
    have hwho01 : who = 0 ∨ who = 1 := by omega
    have HW01 := Lib.hid hwho01
    have HT0 := Lib.hid htop0
    have HTB : Hid (¬ top < 0) := hneg
    obtain ⟨G, hG⟩ : ∃ G : Nat → Bool, G = fun v => I v && decide (nth P v = top) := ⟨_, rfl⟩
    have HG := Lib.hid hG
    have HRE : Hid (lessB I (attrB (zssE zss Pk) O who I G) = restZ (zssE zss Pk) O (nth P) I) := by
      rw [hG, ← hwho]; exact step_rest HZL.out HT.out
    have HGK : Hid (∀ k, G k = (I k && (nth P k == top))) := fun k => by rw [hG]; rfl
    clear hwho hwho01 hG
    go_enter Tryd.func98, Tryd.ntmps98
    go_wp2_with fail
    rw [← HW1.out]
    refine (HTP.out B1.out).mono ?_
    rintro e w2 ⟨rfl, hb⟩
    rw [HT.out]
    have K2 := Lib.hid hb
    have h2s : w1.heap.size ≤ w2.heap.size := hb.size
    have H2S := Lib.hid h2s
    obtain ⟨w3, hw3⟩ : ∃ y, y = w2.alloc (.cells (madeCells #[.bool false] n) 4) := ⟨_, rfl⟩
    have HW3 := Lib.hid hw3
    have RO3 : Hid (w3.rowIs w2.heap.size 4 n (marksV (outK (fun _ => false) 0))) := by rw [hw3]; exact outK_new
    have h3s : w3.heap.size = w2.heap.size + 1 := by rw [hw3]; simp
    have H3S := Lib.hid h3s
    have K3 : Hid (Below w1.heap.size w1 w3) := by
      rw [hw3]; exact K2.out.trans ((below1 w2 (.cells (madeCells #[.bool false] n) 4)).mono h2s)
    obtain ⟨w4, hw4⟩ : ∃ y, y = w3.alloc (.cells (madeCells #[.bool false] n) 4) := ⟨_, rfl⟩
    have HW4 := Lib.hid hw4
    have RG4 : Hid (w4.rowIs (w2.heap.size + 1) 4 n (marksV (outK G 0))) := by rw [hw4, ← h3s]; exact outK_new
    have RO4 : Hid (w4.rowIs w2.heap.size 4 n (marksV (outK (fun _ => false) 0))) := by rw [hw4]; exact World.rowIs.alloc RO3.out _
    have h4s : w4.heap.size = w3.heap.size + 1 := by rw [hw4]; simp
    have H4S := Lib.hid h4s
    have K4 : Hid (Below w1.heap.size w1 w4) := by
      rw [hw4]; exact K3.out.trans ((below1 w3 (.cells (madeCells #[.bool false] n) 4)).mono (by omega))
    clear t0 t1 t2 t3 t4 hb hw3 hw4 h3s h4s h2s
    go_wp2
    rw [← HW3.out, ← HW4.out]
    go_loopw [9] (fun iv wr => ∃ k : Nat, k ≤ n ∧ iv = .int .i64 k ∧ Hid (wr.rowIs (w2.heap.size + 1) 4 n (marksV (outK G k))) ∧ Hid (Only (fun b => b = w2.heap.size + 1) w4 wr)) (fun iv _ => n - (intOf iv).toNat)
    case atStart => exact ⟨0, Nat.zero_le _, rfl, RG4, Only.refl _ _⟩
    case round =>
      clear RG4
      obtain ⟨k, hk, rfl, HR, HB⟩ := hrel
      have KW : Hid (Below w1.heap.size w1 wr) := K4.out.trans (HB.out.below (B := w1.heap.size) K4.out.size (fun b hb => by have := H2S.out; omega))
      have BW := Lib.hid (B1.out.trans (KW.out.mono B1.out.size))
      by_cases hlt : k < n
      · have hk1 : (k : Int) < n := by omega
        have hk0 : (0 : Int) ≤ (k : Int) := by omega
        have i1 := (rowIs_below HI.out BW.out).cell hlt
        have o1 := HR.out.cell hlt
        have of := HR.out.frozen k
        simp only [marksV] at i1 o1
        have hG1 := HGK.out k
        cases hi : I k with
        | false =>
          rw [hi, Bool.false_and] at hG1
          have R1 := Lib.hid (outK_set HR.out hG1)
          have B1' := Lib.hid (HB.out.setCell (p := ⟨w2.heap.size + 1, k, none⟩) rfl (.bool false))
          rw [hi] at i1
          clear hi hG1
          go_wp2
          go_roundw
          case rel => exact ⟨k + 1, by omega, by go_num, R1, B1'⟩
          case measure => simp [intOf]; omega
        | true =>
          obtain ⟨pb, po, hpa, hpc⟩ := (HPi.out.below BW.out).cell (by have := HPL.out; have := HNL.out; omega)
          have p1 := hpc k (by have := HPL.out; have := HNL.out; omega)
          have hkp : (k : Int) < P.length := by have := HPL.out; have := HNL.out; omega
          have t1 := (T1.out.below KW.out).c1
          rw [hpa] at t1
          rw [hi, Bool.true_and] at hG1
          have R1 := Lib.hid (outK_set HR.out hG1)
          have B1' := Lib.hid (HB.out.setCell (p := ⟨w2.heap.size + 1, k, none⟩) rfl (.bool (nth P k == top)))
          rw [hi] at i1
          clear hi hG1 hpa hpc
          go_wp2
          go_roundw
          case rel => exact ⟨k + 1, by omega, by go_num, R1, B1'⟩
          case measure => simp [intOf]; omega
      · have hkk : k = n := by omega
        have hk1 : ¬ (k : Int) < n := by omega
        rw [hkk] at HR
        have RG := Lib.hid (outK_all HR.out)
        have hws := HB.out.size
        have RO := Lib.hid (rowIs_only RO4.out HB.out (by omega))
        clear hkk HR RO4 HGK hws
        have t0 := (T1.out.below KW.out).c0
        have t1 := (T1.out.below KW.out).c1
        have t2 := (T1.out.below KW.out).c2
        have t3 := (T1.out.below KW.out).c3
        have t4 := (T1.out.below KW.out).c4
        have hwrs : w2.heap.size + 1 < wr.heap.size := RG.out.lt
        have HWRS := Lib.hid hwrs
        obtain ⟨rest, hrest⟩ : ∃ rest, rest = restZ (zssE zss Pk) O (nth P) I := ⟨_, rfl⟩
        have HRS := Lib.hid hrest
        rw [← hrest] at HRE
        have HRLT : Hid ((markedK rest n).length < (markedK I n).length) := by rw [hrest]; exact step_less HIN.out HZL.out HT.out (by have := HT0.out; omega)
        clear hrest hwrs
        go_wp2_with fail
        refine (HATT.out who BW.out RG.out).mono ?_
        rintro e w5 ⟨b5, rfl, hb5, hr5, hb⟩
        have R5 := Lib.hid hr5
        have K5 := Lib.hid (KW.out.trans (hb.mono KW.out.size))
        have B5 := Lib.hid (B1.out.trans (K5.out.mono B1.out.size))
        have RO5 := Lib.hid (rowIs_below RO.out hb)
        have hw5 := hb.size
        clear t0 t1 t2 t3 t4 hr5 hb RG RO
        go_wp2_with fail
        refine (l7Less_is (rowIs_below HI.out B5.out) R5.out (by omega)).mono ?_
        rintro e w6 ⟨b6, rfl, hb6, hr6, hb⟩
        rw [HRE.out] at hr6
        have R6 := Lib.hid hr6
        have K6 := Lib.hid (K5.out.trans (hb.mono K5.out.size))
        have B6 := Lib.hid (B1.out.trans (K6.out.mono B1.out.size))
        have RO6 := Lib.hid (rowIs_below RO5.out hb)
        have hw6 := hb.size
        have t0 := (T1.out.below K6.out).c0
        have t1 := (T1.out.below K6.out).c1
        have t2 := (T1.out.below K6.out).c2
        have t3 := (T1.out.below K6.out).c3
        have t4 := (T1.out.below K6.out).c4
        clear hr6 hb RO5 R5 HRE
        go_wp2_with fail
        refine (HREC.out w6 b6 rest B6.out R6.out HRLT.out).mono ?_
        rintro e w7 ⟨b7, rfl, hb7, hr7, hb⟩
        obtain ⟨low, hlow⟩ : ∃ low, low = W rest := ⟨_, rfl⟩
        have HLW := Lib.hid hlow
        rw [← hlow] at hr7
        have R7 := Lib.hid hr7
        have K7 := Lib.hid (K6.out.trans (hb.mono K6.out.size))
        have RO7 := Lib.hid (rowIs_below RO6.out hb)
        have Q7 := Lib.hid (rowIs_below R6.out hb)
        have hw7 := hb.size
        obtain ⟨lost, hlost⟩ : ∃ lost, lost = lostZ who rest low := ⟨_, rfl⟩
        have HLO := Lib.hid hlost
        have HLK : Hid (∀ k, lost k = (rest k && (low k != (who == 0)))) := fun k => by rw [hlost]; rfl
        obtain ⟨w8, hw8⟩ : ∃ y, y = w7.alloc (.cells (madeCells #[.bool false] n) 4) := ⟨_, rfl⟩
        have HW8 := Lib.hid hw8
        have RL8 : Hid (w8.rowIs w7.heap.size 4 n (marksV (outK lost 0))) := by rw [hw8]; exact outK_new
        have K8 : Hid (Below w1.heap.size w1 w8) := by
          rw [hw8]; exact K7.out.trans ((below1 w7 (.cells (madeCells #[.bool false] n) 4)).mono K7.out.size)
        have RO8 : Hid (w8.rowIs w2.heap.size 4 n (marksV (outK (fun _ => false) 0))) := by rw [hw8]; exact World.rowIs.alloc RO7.out _
        have Q8 : Hid (w8.rowIs b6 4 n (marksV rest)) := by rw [hw8]; exact World.rowIs.alloc Q7.out _
        have L8 : Hid (w8.rowIs b7 4 n (marksV low)) := by rw [hw8]; exact World.rowIs.alloc R7.out _
        have hq8 := Q7.out.lt
        have hl8 := R7.out.lt
        clear t0 t1 t2 t3 t4 hb hw8 hr7 hlow hlost RO6 R6 RO7 Q7 R7 K6 K5 K7 HRLT
        go_wp2
        rw [← HW8.out]
        go_loopw [13, 14] (fun sv iv wr => ∃ k : Nat, k ≤ n ∧ sv = .bool (anyK lost k) ∧ iv = .int .i64 k ∧ Hid (wr.rowIs w7.heap.size 4 n (marksV (outK lost k))) ∧ Hid (Only (fun b => b = w7.heap.size) w8 wr)) (fun _ iv _ => n - (intOf iv).toNat)
        case atStart => exact ⟨0, Nat.zero_le _, rfl, rfl, RL8, Only.refl _ _⟩
        case round =>
          clear RL8
          obtain ⟨k, hk, rfl, rfl, HR, HB2⟩ := hrel
          have hw78 : w1.heap.size ≤ w7.heap.size := by have := H2S.out; have := HWRS.out; omega
          have KX : Hid (Below w1.heap.size w1 wr) := K8.out.trans (HB2.out.below (B := w1.heap.size) K8.out.size (fun b hb => by omega))
          have BX := Lib.hid (B1.out.trans (KX.out.mono B1.out.size))
          by_cases hlt : k < n
          · have hk1 : (k : Int) < n := by omega
            have hk0 : (0 : Int) ≤ (k : Int) := by omega
            have q1 := (rowIs_only Q8.out HB2.out (by omega)).cell hlt
            have l1 := (rowIs_only L8.out HB2.out (by omega)).cell hlt
            have o1 := HR.out.cell hlt
            have of := HR.out.frozen k
            simp only [marksV] at q1 l1 o1
            have hL1 := HLK.out k
            obtain ⟨sm, hsm⟩ : ∃ sm, anyK lost k = sm := ⟨_, rfl⟩
            rw [hsm]
            cases hi : rest k with
            | false =>
              rw [hi, Bool.false_and] at hL1
              have HS : Hid (anyK lost (k + 1) = sm) := by simp [anyK, hL1, hsm, Hid]
              have R1 := Lib.hid (outK_set HR.out hL1)
              have B1' := Lib.hid (HB2.out.setCell (p := ⟨w7.heap.size, k, none⟩) rfl (.bool false))
              rw [hi] at q1
              clear hi hL1 hsm
              cases sm with
              | false =>
                go_wp2
                go_roundw
                case rel => exact ⟨k + 1, by omega, by rw [HS.out], by go_num, R1, B1'⟩
                case measure => simp [intOf]; omega
              | true =>
                go_wp2
                go_roundw
                case rel => exact ⟨k + 1, by omega, by rw [HS.out], by go_num, R1, B1'⟩
                case measure => simp [intOf]; omega
            | true =>
              rw [hi, Bool.true_and] at hL1
              obtain ⟨lk, hlk⟩ : ∃ lk, low k = lk := ⟨_, rfl⟩
              rw [hlk] at hL1 l1
              have HS : Hid (anyK lost (k + 1) = (sm || (lk != (who == 0)))) := by simp [anyK, hL1, hsm, Hid]
              have R1 := Lib.hid (outK_set HR.out hL1)
              have B1' := Lib.hid (HB2.out.setCell (p := ⟨w7.heap.size, k, none⟩) rfl (.bool (lk != (who == 0))))
              rw [hi] at q1
              clear hi hL1 hsm hlk
              cases sm with
              | false =>
                go_wp2
                go_roundw
                case rel => exact ⟨k + 1, by omega, by rw [HS.out]; rfl, by go_num, R1, B1'⟩
                case measure => simp [intOf]; omega
              | true =>
                go_wp2
                go_roundw
                case rel => exact ⟨k + 1, by omega, by rw [HS.out]; rfl, by go_num, R1, B1'⟩
                case measure => simp [intOf]; omega
          · have hkk : k = n := by omega
            have hk1 : ¬ (k : Int) < n := by omega
            rw [hkk] at HR ⊢
            have RL := Lib.hid (outK_all HR.out)
            have RO := Lib.hid (rowIs_only RO8.out HB2.out (by have := HWRS.out; omega))
            clear hkk HR RO8 HLK Q8 L8
            obtain ⟨sm, hsm⟩ : ∃ sm, anyK lost n = sm := ⟨_, rfl⟩
            rw [hsm]
            have hLeq : lost = lostZ (top % 2) rest (W rest) := by rw [HLO.out, HLW.out, HWHO.out]
            have HLEQ := Lib.hid hLeq
            have BX' := Lib.hid (BX.out.size)
            cases sm with
            | false =>
              have HE := Lib.hid (step_all HZL.out HT.out (by have := HT0.out; omega) HRS.out hLeq hsm)
              rw [HWHO.out] at HE
              obtain ⟨f, hf⟩ : ∃ f : Nat → Bool, f = fun v => I v && decide (who = 0) := ⟨_, rfl⟩
              rw [← hf] at HE
              have HFK : Hid (∀ k, f k = (I k && (who == 0))) := fun k => by rw [hf]; rfl
              have RF := Lib.hid (outK_other (g := f) RO.out)
              clear hsm hLeq hf RO RL
              go_wp2
              go_loopw [15] (fun iv wy => ∃ k : Nat, k ≤ n ∧ iv = .int .i64 k ∧ Hid (wy.rowIs w2.heap.size 4 n (marksV (outK f k))) ∧ Hid (Only (fun b => b = w2.heap.size) wr wy)) (fun iv _ => n - (intOf iv).toNat)
              case atStart => exact ⟨0, Nat.zero_le _, rfl, RF, Only.refl _ _⟩
              case round =>
                clear RF
                obtain ⟨k, hk, rfl, HR, HB3⟩ := hrel
                have KY := Lib.hid (KX.out.trans (HB3.out.below (B := w1.heap.size) KX.out.size (fun b hb => by have := H2S.out; omega)))
                have BY := Lib.hid (B1.out.trans (KY.out.mono B1.out.size))
                by_cases hlt : k < n
                · have hk1 : (k : Int) < n := by omega
                  have hk0 : (0 : Int) ≤ (k : Int) := by omega
                  have i1 := (rowIs_below HI.out BY.out).cell hlt
                  have o1 := HR.out.cell hlt
                  have of := HR.out.frozen k
                  simp only [marksV] at i1 o1
                  have hF1 := HFK.out k
                  cases hi : I k with
                  | false =>
                    rw [hi, Bool.false_and] at hF1
                    have R1 := Lib.hid (outK_set HR.out hF1)
                    have B1' := Lib.hid (HB3.out.setCell (p := ⟨w2.heap.size, k, none⟩) rfl (.bool false))
                    rw [hi] at i1
                    clear hi hF1
                    go_wp2
                    go_roundw
                    case rel => exact ⟨k + 1, by omega, by go_num, R1, B1'⟩
                    case measure => simp [intOf]; omega
                  | true =>
                    rw [hi, Bool.true_and] at hF1
                    have R1 := Lib.hid (outK_set HR.out hF1)
                    have B1' := Lib.hid (HB3.out.setCell (p := ⟨w2.heap.size, k, none⟩) rfl (.bool (who == 0)))
                    rw [hi] at i1
                    clear hi hF1
                    go_wp2
                    go_roundw
                    case rel => exact ⟨k + 1, by omega, by go_num, R1, B1'⟩
                    case measure => simp [intOf]; omega
                · have hkk : k = n := by omega
                  have hk1 : ¬ (k : Int) < n := by omega
                  rw [hkk] at HR
                  have RF := Lib.hid (outK_all HR.out)
                  clear hkk HR
                  go_wp2
                  go_ret
                  exact ⟨_, rfl, by have := B1.out.size; have := H2S.out; omega, by rw [HE.out]; exact RF.out, BY.out⟩
            | true =>
              have HE := Lib.hid (step_some HZL.out HT.out (by have := HT0.out; omega) HRS.out hLeq hsm)
              rw [HWHO.out] at HE
              have HSUB : Hid (∀ v, lost v = true → I v = true) := fun v hv => by rw [HLEQ.out, HRS.out] at hv; exact lost_sub hv
              have HLT2 : Hid ((markedK (lessB I (attrB (zssE zss Pk) O (1 - who) I lost)) n).length < (markedK I n).length) := step_less2 HIN.out HZL.out hsm HSUB.out
              obtain ⟨away, haway⟩ : ∃ away, away = attrB (zssE zss Pk) O (1 - who) I lost := ⟨_, rfl⟩
              have HAW := Lib.hid haway
              rw [← haway] at HE HLT2
              have hww : IntKind.i64.wrap (1 - who) = 1 - who := IntWalk.i64_in _ (by have := HW01.out; omega)
              have t0 := (T1.out.below KX.out).c0
              have t1 := (T1.out.below KX.out).c1
              have t2 := (T1.out.below KX.out).c2
              have t3 := (T1.out.below KX.out).c3
              have t4 := (T1.out.below KX.out).c4
              clear hsm hLeq haway
              go_wp2_with fail
              refine (HATT.out (1 - who) BX.out RL.out).mono ?_
              rintro e w9 ⟨b9, rfl, hb9, hr9, hb⟩
              rw [← HAW.out] at hr9
              have R9 := Lib.hid hr9
              have K9 := Lib.hid (KX.out.trans (hb.mono KX.out.size))
              have RO9 := Lib.hid (rowIs_below RO.out hb)
              have hd9 : Below w9.heap.size w9 w9.drew := (Below.refl _ _).drew
              have K9d := Lib.hid (K9.out.trans (hd9.mono K9.out.size))
              have B9d := Lib.hid (B1.out.trans (K9d.out.mono B1.out.size))
              have R9d := Lib.hid (rowIs_below R9.out hd9)
              have RO9d := Lib.hid (rowIs_below RO9.out hd9)
              have N9 : Hid (w2.heap.size + 1 < w9.heap.size) := by have := HWRS.out; have := RL.out.lt; have := hb.size; unfold Hid; omega
              have HB9 : Hid (w2.heap.size < b9) := by have := HWRS.out; have := RL.out.lt; unfold Hid; omega
              have u0 := (T1.out.below K9.out).c0
              have u1 := (T1.out.below K9.out).c1
              have u2 := (T1.out.below K9.out).c2
              have u3 := (T1.out.below K9.out).c3
              have u4 := (T1.out.below K9.out).c4
              clear t0 t1 t2 t3 t4 hb hr9 hd9 RO RL
              go_wp2_with fail
              go_region_held3 (fun w' => w'.cell? ⟨w.heap.size, 0, none⟩ = some (.slice ao O.length co) ∧ w'.cell? ⟨w.heap.size, 1, none⟩ = some (.slice ap P.length cp) ∧ w'.cell? ⟨w.heap.size, 2, none⟩ = some (.slice an n cn) ∧ w'.cell? ⟨w.heap.size, 3, none⟩ = some (.slice aq n cq) ∧ w'.cell? ⟨w.heap.size, 4, none⟩ = some (.slice ak Pk.length ck))
                (first
                  | go_keep
                  | exact ⟨e0, e1, e2, e3, e4⟩
                  | exact ⟨f0, f1, f2, f3, f4⟩)
                (first
                  | (go_at_call 127; refine (l7Less_is (rowIs_below HI.out B9d.out) R9d.out (by omega)).mono ?_; rintro e wa ⟨ba, rfl, hba, hra, hb⟩; have Ra := Lib.hid hra; have Ka := Lib.hid (K9d.out.trans (hb.mono K9d.out.size)); have Ba := Lib.hid (B1.out.trans (Ka.out.mono B1.out.size)); have Ta := Lib.hid (T1.out.below Ka.out); have R9a := Lib.hid (rowIs_below R9d.out hb); have ROa := Lib.hid (rowIs_below RO9d.out hb); have Na : Hid (w9.heap.size ≤ wa.heap.size) := hb.size; have e0 := Ta.out.c0; have e1 := Ta.out.c1; have e2 := Ta.out.c2; have e3 := Ta.out.c3; have e4 := Ta.out.c4; clear hb hra)
                  | (go_at_call 98; refine (HREC.out wa ba _ Ba.out Ra.out HLT2.out).mono ?_; rintro e wb ⟨bb, rfl, hbb, hrb, hb⟩; have Rb := Lib.hid hrb; have Kb := Lib.hid (Ka.out.trans (hb.mono Ka.out.size)); have Tb := Lib.hid (T1.out.below Kb.out); have R9b := Lib.hid (rowIs_below R9a.out hb); have ROb := Lib.hid (rowIs_below ROa.out hb); have Nb : Hid (wa.heap.size ≤ wb.heap.size) := hb.size; have f0 := Tb.out.c0; have f1 := Tb.out.c1; have f2 := Tb.out.c2; have f3 := Tb.out.c3; have f4 := Tb.out.c4; clear hb hrb))
              clear u0 u1 u2 u3 u4 e0 e1 e2 e3 e4 f0 f1 f2 f3 f4
              have hbo : w2.heap.size < bb := by have := N9.out; have := Na.out; omega
              obtain ⟨again, hagain⟩ : ∃ again, again = W (lessB I away) := ⟨_, rfl⟩
              rw [← hagain] at Rb HE
              obtain ⟨f, hf⟩ : ∃ f : Nat → Bool, f = fun v => again v || (away v && decide (who = 1)) := ⟨_, rfl⟩
              rw [← hf] at HE
              have HFK : Hid (∀ k, f k = (again k || (away k && (who == 1)))) := fun k => by rw [hf]; rfl
              have RF := Lib.hid (outK_other (g := f) ROb.out)
              clear hf hagain ROb
              go_wp2
              go_loopw [18] (fun iv wy => ∃ k : Nat, k ≤ n ∧ iv = .int .i64 k ∧ Hid (wy.rowIs w2.heap.size 4 n (marksV (outK f k))) ∧ Hid (Only (fun b => b = w2.heap.size) wb wy)) (fun iv _ => n - (intOf iv).toNat)
              case atStart => exact ⟨0, Nat.zero_le _, rfl, RF, Only.refl _ _⟩
              case round =>
                clear RF
                obtain ⟨k, hk, rfl, HR, HB3⟩ := hrel
                have KY := Lib.hid (Kb.out.trans (HB3.out.below (B := w1.heap.size) Kb.out.size (fun b hb => by have := H2S.out; omega)))
                have BY := Lib.hid (B1.out.trans (KY.out.mono B1.out.size))
                by_cases hlt : k < n
                · have hk1 : (k : Int) < n := by omega
                  have hk0 : (0 : Int) ≤ (k : Int) := by omega
                  have g1 := (rowIs_only Rb.out HB3.out (by omega)).cell hlt
                  have a1 := (rowIs_only R9b.out HB3.out (by have := HB9.out; omega)).cell hlt
                  have o1 := HR.out.cell hlt
                  have of := HR.out.frozen k
                  simp only [marksV] at g1 a1 o1
                  have hF1 := HFK.out k
                  cases hg : again k with
                  | true =>
                    rw [hg, Bool.true_or] at hF1
                    have R1 := Lib.hid (outK_set HR.out hF1)
                    have B1' := Lib.hid (HB3.out.setCell (p := ⟨w2.heap.size, k, none⟩) rfl (.bool true))
                    rw [hg] at g1
                    clear hg hF1
                    go_wp2
                    go_roundw
                    case rel => exact ⟨k + 1, by omega, by go_num, R1, B1'⟩
                    case measure => simp [intOf]; omega
                  | false =>
                    rw [hg, Bool.false_or] at hF1
                    rw [hg] at g1
                    clear hg
                    cases ha : away k with
                    | false =>
                      rw [ha, Bool.false_and] at hF1
                      have R1 := Lib.hid (outK_set HR.out hF1)
                      have B1' := Lib.hid (HB3.out.setCell (p := ⟨w2.heap.size, k, none⟩) rfl (.bool false))
                      rw [ha] at a1
                      clear ha hF1
                      go_wp2
                      go_roundw
                      case rel => exact ⟨k + 1, by omega, by go_num, R1, B1'⟩
                      case measure => simp [intOf]; omega
                    | true =>
                      rw [ha, Bool.true_and] at hF1
                      have R1 := Lib.hid (outK_set HR.out hF1)
                      have B1' := Lib.hid (HB3.out.setCell (p := ⟨w2.heap.size, k, none⟩) rfl (.bool (who == 1)))
                      rw [ha] at a1
                      clear ha hF1
                      go_wp2
                      go_roundw
                      case rel => exact ⟨k + 1, by omega, by go_num, R1, B1'⟩
                      case measure => simp [intOf]; omega
                · have hkk : k = n := by omega
                  have hk1 : ¬ (k : Int) < n := by omega
                  rw [hkk] at HR
                  have RF := Lib.hid (outK_all HR.out)
                  clear hkk HR
                  go_wp2
                  go_ret
                  exact ⟨_, rfl, by have := B1.out.size; have := H2S.out; omega, by rw [HE.out]; exact RF.out, BY.out⟩

theorem winZ_step {zss : List (List Int)} {O : List Int} {p : Nat → Int} {m : Nat} {I : Nat → Bool} : winZ zss O p (m + 1) I = stepZ zss O p (winZ zss O p m) I := funext fun v => by
  rw [winZ]; rfl
theorem step_empty {zss : List (List Int)} {O : List Int} {p : Nat → Int} {W : (Nat → Bool) → Nat → Bool} {I : Nat → Bool} (h : (markedK I zss.length).length ≤ 0) : stepZ zss O p W I = winZ zss O p 0 I := by
  rw [step_none rfl (Classical.byContradiction fun hn => ?_)]
  · funext v; simp [winZ]
  · obtain ⟨g, hg1, hg2, _⟩ := topZ_at (p := p) (I := I) zss.length (by omega)
    have := marked_less (n := zss.length) (I := I) (J := fun _ => false) (fun _ _ h => by cases h) hg1 hg2 rfl
    omega

/-- The solver's contract. -/
theorem l7Win_is {ao ap an aq ak : Option Addr} {A : Nat → Option Addr} {C : Nat → Nat} {A' : Nat → Option Addr} {C' : Nat → Nat} {zss : List (List Int)} {O P Pk : List Int} (co cp cn cq ck : Nat)
    (hz : RowsP zss) (hOl : O.length = zss.length) (hPl : P.length = zss.length) (hpk : Pk.length = zss.length) (hz256 : zss.length ≤ 256) (hr16 : ∀ v, v < zss.length → (row zss v).length ≤ 16) :
    ∀ (m : Nat) {w : World} {I : Nat → Bool} {bI : Nat}, IntsAt w ao O → IntsAt w ap P → RowsAt w an A C zss → RowsAt w aq A' C' (rowsOf zss.length fun u => predsK zss u zss.length) → IntsAt w ak Pk → w.rowIs bI 4 zss.length (marksV I) → (markedK I zss.length).length ≤ m →
      Calls Tryd.prog 98 #[.agg #[.slice ao O.length co, .slice ap P.length cp, .slice an zss.length cn, .slice aq zss.length cq, .slice ak Pk.length ck], .slice (some ⟨bI, 0, none⟩) zss.length zss.length] w (GivesMarks w zss.length (winZ (zssE zss Pk) O (nth P) m I))
  | 0, w, I, bI, hO, hP, hn, hq, hk, hI, hm => by
    rw [← step_empty (W := fun _ _ => false) (by rw [zssE_len]; exact hm)]
    exact l7Win_step co cp cn cq ck hO hP hn hq hk hz hOl hPl hpk hz256 hr16 hI (fun w' bJ J _ _ h => by omega)
  | m + 1, w, I, bI, hO, hP, hn, hq, hk, hI, hm => by
    rw [winZ_step]
    exact l7Win_step co cp cn cq ck hO hP hn hq hk hz hOl hPl hpk hz256 hr16 hI (fun w' bJ J hb hJ h =>
      l7Win_is co cp cn cq ck hz hOl hPl hpk hz256 hr16 m (hO.below hb) (hP.below hb) (hn.below hb) (hq.below hb) (hk.below hb) hJ (by omega))
end

section
open Go.RowKit

/-- A call hands back the solver's game: the arena's slices are shared, who goes to whom the other way and the picks are its own. -/
def GivesSolver (w : World) (ao an ap : Option Addr) (co cn cp : Nat) (n : Nat) (zss : List (List Int)) (e : Ending) (w' : World) : Prop :=
  ∃ q k V, e = .returned (.agg #[.slice ao n co, .slice ap n cp, .slice an n cn, .slice (some ⟨q, 0, none⟩) n n, .slice (some ⟨k, 0, none⟩) n n]) ∧ RowSet w' w.heap.size q n V (fun u => predsK zss u n) ∧ w'.rowIs k 2 n (fun _ => .int .i64 (-1)) ∧ Below w.heap.size w w'
/-- The same, and the picks lie apart. -/
def GivesSolver2 (w : World) (ao an ap : Option Addr) (co cn cp : Nat) (n : Nat) (zss : List (List Int)) (e : Ending) (w' : World) : Prop :=
  ∃ q k V, e = .returned (.agg #[.slice ao n co, .slice ap n cp, .slice an n cn, .slice (some ⟨q, 0, none⟩) n n, .slice (some ⟨k, 0, none⟩) n n]) ∧ RowSet w' w.heap.size q n V (fun u => predsK zss u n) ∧ w'.rowIs k 2 n (fun _ => .int .i64 (-1)) ∧ Below w.heap.size w w' ∧ w.heap.size ≤ k ∧ ∀ u, u < n → ∀ b, (V u).ownBlock = some b → b ≠ k

theorem box3_keep {w w' : World} {g : Nat} {t : TypeId} {a b c : Value} (h : Box3 w g t a b c) (hb : Below w.heap.size w w') : w'.cell? ⟨g, 0, none⟩ = some a ∧ w'.cell? ⟨g, 1, none⟩ = some b ∧ w'.cell? ⟨g, 2, none⟩ = some c :=
  ⟨(h.below hb).c0, (h.below hb).c1, (h.below hb).c2⟩

/-- Three blocks made one behind the other. -/
theorem chain3 (w : World) (o1 o2 o3 : Obj) : (((w.alloc o1).alloc o2).alloc o3).drew.heap[w.heap.size]? = some o1 ∧ (((w.alloc o1).alloc o2).alloc o3).drew.heap[w.heap.size + 1]? = some o2 ∧ (((w.alloc o1).alloc o2).alloc o3).drew.heap[w.heap.size + 1 + 1]? = some o3 ∧ Below w.heap.size w (((w.alloc o1).alloc o2).alloc o3).drew := by
  refine ⟨?_, ?_, ?_, ?_⟩
  · show (((w.alloc o1).alloc o2).alloc o3).heap[w.heap.size]? = some o1
    rw [Below.heap_alloc _ _ _ (by simp; omega), Below.heap_alloc _ _ _ (by simp)]
    exact heap_alloc_new w o1
  · show (((w.alloc o1).alloc o2).alloc o3).heap[w.heap.size + 1]? = some o2
    rw [Below.heap_alloc _ _ _ (by simp)]
    have h := heap_alloc_new (w.alloc o1) o2
    rwa [World.size_alloc] at h
  · show (((w.alloc o1).alloc o2).alloc o3).heap[w.heap.size + 1 + 1]? = some o3
    have h := heap_alloc_new ((w.alloc o1).alloc o2) o3
    rwa [World.size_alloc, World.size_alloc] at h
  · exact ((below2 w o1 o2).alloc (by simp; omega) o3).drew
theorem box5_of_heap {w : World} {g : Nat} {T : TypeId} {a b c d e : Value} (h : w.heap[g]? = some (.cells #[a, b, c, d, e] T)) : Box5 w g T a b c d e := by
  refine ⟨_, h, by simp, fun j hj => ?_⟩
  have hj3 : j = 0 ∨ j = 1 ∨ j = 2 ∨ j = 3 ∨ j = 4 := by omega
  rcases hj3 with rfl | rfl | rfl | rfl | rfl <;> rfl
theorem made_of_heap {w : World} {g n : Nat} {T : TypeId} {z : Value} (h : w.heap[g]? = some (.cells (madeCells #[z] n) T)) : w.rowIs g T n (fun _ => z) :=
  ⟨_, h, size_madeCells _ _, fun i hi => by simp [madeCells, hi, Nat.mod_one]⟩
theorem rowset_of_heap {w : World} {B g n : Nat} {R : Nat → List Int} (h : w.heap[g]? = some (.cells (madeCells #[.slice none 0 0] n) 22)) (hB : B ≤ g) (hn : n ≤ maxLen) (hR : ∀ u, R u = []) : RowSet w B g n (fun _ => .slice none 0 0) R := by
  obtain rfl : R = fun _ => [] := funext hR
  exact ⟨ownsRow_of_rowIs (made_of_heap h) hB hn, fun k _ => OwnInts.nil _ _ _, fun i j _ _ _ b hb => by simp [Value.ownBlock] at hb⟩

/-- The result's box takes the solver's game. -/
theorem solver_stored {wr : World} {t : Nat} {T : TypeId} {x0 x1 x2 x3 x4 a0 a1 a2 a3 a4 : Value} (hR : Box5 wr t T x0 x1 x2 x3 x4) :
    Only (fun b => b = t) wr (((((wr.setCell ⟨t, 0, none⟩ a0).setCell ⟨t, 1, none⟩ a1).setCell ⟨t, 2, none⟩ a2).setCell ⟨t, 3, none⟩ a3).setCell ⟨t, 4, none⟩ a4) ∧
      Box5 (((((wr.setCell ⟨t, 0, none⟩ a0).setCell ⟨t, 1, none⟩ a1).setCell ⟨t, 2, none⟩ a2).setCell ⟨t, 3, none⟩ a3).setCell ⟨t, 4, none⟩ a4) t T a0 a1 a2 a3 a4 := by
  refine ⟨(((((Only.refl (fun b => b = t) wr).setCell (p := ⟨t, 0, none⟩) rfl _).setCell (p := ⟨t, 1, none⟩) rfl _).setCell (p := ⟨t, 2, none⟩) rfl _).setCell (p := ⟨t, 3, none⟩) rfl _).setCell (p := ⟨t, 4, none⟩) rfl _, ?_⟩
  exact World.rowIs.congr (((((World.rowIs.set hR 0 a0).set 1 a1).set 2 a2).set 3 a3).set 4 a4) fun i hi => by
    have h5 : i = 0 ∨ i = 1 ∨ i = 2 ∨ i = 3 ∨ i = 4 := by omega
    rcases h5 with rfl | rfl | rfl | rfl | rfl <;> simp [quint]

theorem none_own {n S : Nat} : ∀ u, u < n → ∀ b, ((fun _ => Value.slice none 0 0 : Nat → Value) u).ownBlock = some b → S ≤ b := fun _ _ b hb => by simp [Value.ownBlock] at hb
theorem lt_of_three {w : World} {g : Nat} {o1 o2 o3 : Obj} (h1 : w.heap[g]? = some o1) (h2 : w.heap[g + 1]? = some o2) (h3 : w.heap[g + 1 + 1]? = some o3) : g < w.heap.size ∧ g + 1 < w.heap.size ∧ g + 1 + 1 < w.heap.size := by
  obtain ⟨h1, _⟩ := Array.getElem?_eq_some_iff.1 h1
  obtain ⟨h2, _⟩ := Array.getElem?_eq_some_iff.1 h2
  obtain ⟨h3, _⟩ := Array.getElem?_eq_some_iff.1 h3
  exact ⟨h1, h2, h3⟩
/-- The picks while they are laid. -/
def pickK (k : Nat) : Nat → Int := fun i => if i < k then -1 else 0
theorem pickK_hit {k : Nat} : (fun i => if i = k then -1 else pickK k i) = pickK (k + 1) := funext fun i => by
  unfold pickK
  by_cases e : i = k
  · subst e; simp
  · rw [if_neg e]; by_cases h : i < k
    · rw [if_pos h, if_pos (by omega)]
    · rw [if_neg h, if_neg (by omega)]
theorem pick_start {w : World} {k n : Nat} (h : w.rowIs k 2 n (fun _ => .int .i64 0)) : w.rowIs k 2 n (numsV (pickK 0)) := World.rowIs.congr h fun i _ => by simp [numsV, pickK]
theorem rowset_lt {w : World} {B g n : Nat} {V : Nat → Value} {R : Nat → List Int} (h : RowSet w B g n V R) : g < w.heap.size := (h.own.lt g rfl).2
theorem rowset_other {S : Nat → Prop} {w w' : World} {B g n : Nat} {V : Nat → Value} {R : Nat → List Int} (h : RowSet w B g n V R) (hS : Only S w w') (hg : ¬ S g) (hb : ∀ u, u < n → ∀ b, (V u).ownBlock = some b → ¬ S b) : RowSet w' B g n V R :=
  ⟨ownsRow_only h.own hS (fun b hb e => by simp [Value.ownBlock] at hb; subst hb; exact hg e), fun u hu => ((h.rows u hu).only hS (fun b hb' => hb u hu b hb')).retop, h.apart⟩

theorem grown_only {w w1 w2 : World} {V : Nat → Value} {u : Nat} {v : Value} (hv : V u = v) (hb : Below w.heap.size w w1) (hg : w1.grownBy w2 v.ownBlock) : Only (fun b => (V u).ownBlock = some b) w w2 :=
  (Only.of_below hb).trans ⟨hg.os, hg.tape, hg.output, hg.size, fun b hb' hne => hg.block b hb' (fun e => hne (by rw [hv]; exact e.symm))⟩
theorem row_kept {w w2 : World} {B g n u : Nat} {V : Nat → Value} {R : Nat → List Int} {v : Value} (h : RowSet w B g n V R) (hu : u < n) (ho : Only (fun b => (V u).ownBlock = some b) w w2) (hv : V u = v) : w2.cell? ⟨g, u, none⟩ = some v := by
  have ho1 := ownsRow_only h.own ho (own_types h.own (h.rows u hu).own)
  rw [ho1.cellAt u (by omega)]
  simp [hu, hv]
theorem row_frozen {w w2 : World} {B g n u : Nat} {V : Nat → Value} {R : Nat → List Int} (h : RowSet w B g n V R) (hu : u < n) (ho : Only (fun b => (V u).ownBlock = some b) w w2) : w2.frozen? ⟨g, u, none⟩ = false :=
  (ownsRow_only h.own ho (own_types h.own (h.rows u hu).own)).frozenAt u

/-- One more predecessor of u. -/
theorem prev_next {zss : List (List Int)} {w w8 : World} {B q n u v i pl S gg cap : Nat} {V : Nat → Value} {va : Option Addr} {vc : Nat} (h : RowSet w B q n V (partP zss v i)) (hb : ∀ u, u < n → ∀ b, (V u).ownBlock = some b → S ≤ b) (hu : u < n) (hv : V u = .slice va pl vc)
    (hU : nth (row zss v) i = (u : Int)) (hUP : ∀ j, j < i → nth (row zss v) j < nth (row zss v) i) (hpl : pl = (partP zss v i u).length) (hv256 : v < 256) (hOn : Only (fun b => (V u).ownBlock = some b) w w8)
    (hown : w8.ownsRow B 2 1 (.slice (some ⟨gg, 0, none⟩) ((partP zss v i u).length + 1) cap) ((partP zss v i u).length + 1) ((partP zss v i u).map (Value.int .i64) ++ [.int .i64 v]))
    (hat : (Value.slice va pl vc).ownBlock = some gg ∨ w.heap.size ≤ gg) (hS : S ≤ w.heap.size) :
    ∃ V', RowSet (w8.setCell ⟨q, u, none⟩ (.slice (some ⟨gg, 0, none⟩) (pl + 1) cap)) B q n V' (partP zss v (i + 1)) ∧ ∀ u, u < n → ∀ b, (V' u).ownBlock = some b → S ≤ b := by
  have hhit := partP_hit hU hUP
  have e1 : (partP zss v (i + 1) u).length = (partP zss v i u).length + 1 := by rw [hhit.1]; simp
  have e2 : (partP zss v (i + 1) u).map (Value.int .i64) = (partP zss v i u).map (Value.int .i64) ++ [.int .i64 v] := by rw [hhit.1]; simp
  rw [← e1, ← e2] at hown
  have hlen : (partP zss v (i + 1) u).length ≤ v + 1 := by rw [e1, hhit.2]; have := predsK_len zss u v; omega
  have hmem : ∀ x ∈ partP zss v (i + 1) u, 0 ≤ x ∧ x ≤ (v : Int) := fun x hx => by
    rw [hhit.1, hhit.2] at hx
    rcases List.mem_append.1 hx with hx | hx
    · have := predsK_mem _ _ _ x hx; omega
    · simp at hx; omega
  have hI : OwnInts w8 B w8.heap.size (.slice (some ⟨gg, 0, none⟩) (partP zss v (i + 1) u).length cap) (partP zss v (i + 1) u) := OwnInts.mk' hown (by omega) (fun j hj => by have := hmem _ (nth_mem hj); unfold Fits; omega)
  have hput := (h.put hu hI hOn (by
    rcases hat with hh | hh
    · left; rw [hv]; exact hh.symm
    · exact Or.inr ⟨gg, rfl, hh⟩)).congr (R' := partP zss v (i + 1)) (fun u' _ => by
      by_cases e : u' = u
      · subst e; simp
      · simp only [if_neg e]; exact (partP_miss hU e).symm)
  rw [e1, ← hpl] at hput
  refine ⟨_, hput, fun u' hu' b hb' => ?_⟩
  by_cases e : u' = u
  · simp only [if_pos e] at hb'
    rcases hat with hh | hh
    · exact hb u hu b (by rw [hv, hh]; exact hb')
    · simp [Value.ownBlock] at hb'; omega
  · simp only [if_neg e] at hb'
    exact hb u' hu' b hb'

set_option maxHeartbeats 16000000 in
set_option maxRecDepth 100000 in
theorem l7Of_is2 {w : World} {ao an ap : Option Addr} (co cn cp : Nat) {A : Nat → Option Addr} {C : Nat → Nat} {O P : List Int} {zss : List (List Int)} (_h1 : IntsAt w ao O) (h2 : RowsAt w an A C zss) (_h3 : IntsAt w ap P) (hA : ArenaP O zss) (hPl : P.length = zss.length) :
    Calls Tryd.prog 58 #[.agg #[.slice ao O.length co, .slice an zss.length cn, .slice ap P.length cp]] w (GivesSolver2 w ao an ap co cn cp zss.length zss) := by
  obtain ⟨n, hnl⟩ : ∃ n, n = zss.length := ⟨_, rfl⟩
  have hn256 : n ≤ 256 := by have := hA.2.1; have := hA.2.2.1; omega
  have hOl : O.length = n := by rw [hnl]; exact hA.2.2.1.symm
  rw [hOl, hPl, ← hnl]
  have HNL := Lib.hid hnl
  have HOL := Lib.hid hOl
  have HPL := Lib.hid hPl
  have HAr := Lib.hid hA
  have HNx := Lib.hid h2
  clear hnl hOl hPl hA h2
  obtain ⟨j0, hj, hj0, hj1, hj2⟩ := info_parts info_int
  have hmi := run_make_row' (P := Tryd.prog) 22 2 (.int .i64 0) 8 Tryd.underlying22 info_int rfl .i64 .i64 n (by omega) (by omega)
  have hmr := run_make_row' (P := Tryd.prog) 23 22 (.slice none 0 0) 24 Tryd.underlying23 info_ints rfl .i64 .i64 n (by omega) (by omega)
  obtain ⟨w1, hw1⟩ : ∃ y, y = (w.alloc (.cells #[.slice ao n co, .slice an n cn, .slice ap n cp] 32)).alloc (.cells #[.slice none 0 0, .slice none 0 0, .slice none 0 0, .slice none 0 0, .slice none 0 0] 73) := ⟨_, rfl⟩
  have HW1 := Lib.hid hw1
  have T1 : Hid (Box3 w1 w.heap.size 32 (.slice ao n co) (.slice an n cn) (.slice ap n cp)) := by rw [hw1]; exact (Box3.new w _ _ _ _).below (below1 _ _)
  have B1 : Hid (Below w.heap.size w w1) := by rw [hw1]; exact below2 _ _ _
  have hs1 : w1.heap.size = w.heap.size + 1 + 1 := by rw [hw1]; simp
  have HS1 := Lib.hid hs1
  have RX : Hid (Box5 w1 (w.heap.size + 1) 73 (.slice none 0 0) (.slice none 0 0) (.slice none 0 0) (.slice none 0 0) (.slice none 0 0)) := by
    rw [hw1]
    have h := Box5.new (w.alloc (.cells #[.slice ao n co, .slice an n cn, .slice ap n cp] 32)) 73 (.slice none 0 0) (.slice none 0 0) (.slice none 0 0) (.slice none 0 0) (.slice none 0 0)
    rw [World.size_alloc] at h
    exact h
  clear hw1 hs1
  have c0 := T1.out.c0
  have c1 := T1.out.c1
  have c2 := T1.out.c2
  go_enter Tryd.func58, Tryd.ntmps58
  go_wp2_with fail
  rw [← HW1.out]
  go_cut [4] (fun s4 wx => ∃ (q k t S : Nat), s4 = .pointer (some ⟨t, 0, none⟩) ∧ Hid (Box5 wx t 73 (.slice ao n co) (.slice ap n cp) (.slice an n cn) (.slice (some ⟨q, 0, none⟩) n n) (.slice (some ⟨k, 0, none⟩) n n)) ∧ Hid (∃ V, RowSet wx w.heap.size q n V (fun u => predsK zss u 0) ∧ ∀ u, u < n → ∀ b, (V u).ownBlock = some b → S ≤ b) ∧ Hid (wx.rowIs k 2 n (numsV (pickK 0))) ∧ Hid (Below w1.heap.size w1 wx) ∧ Hid ((w1.heap.size ≤ q ∧ w1.heap.size ≤ k ∧ w1.heap.size ≤ t) ∧ q ≠ k ∧ q ≠ t ∧ k ≠ t) ∧ Hid (S ≤ wx.heap.size) ∧ Hid (q < S ∧ k < S ∧ t < S))
  case first =>
    go_region_held3 (fun w' => w'.cell? ⟨w.heap.size, 0, none⟩ = some (.slice ao n co) ∧ w'.cell? ⟨w.heap.size, 1, none⟩ = some (.slice an n cn) ∧ w'.cell? ⟨w.heap.size, 2, none⟩ = some (.slice ap n cp))
      (first
        | exact box3_keep T1.out (by repeat (first | exact Below.refl _ _ | refine Below.drew ?_ | refine Below.alloc ?_ (by simp <;> omega) _ | refine Below.setCell (p := _) ?_ (by simp <;> omega) _))
        | go_keep)
      (first
        | fail)
    all_goals (go_wp2_with fail; go_meet)
    all_goals (
      obtain ⟨a1, a2, a3, hb⟩ := chain3 w1 _ _ _
      have hs := HS1.out
      first
        | exact ⟨_, _, _, _, rfl, box5_of_heap a1, ⟨_, rowset_of_heap a2 (by omega) (by unfold maxLen; omega) (fun _ => rfl), none_own⟩, pick_start (made_of_heap a3), hb, by unfold Hid; omega, Nat.le_refl _, by have := lt_of_three a1 a2 a3; unfold Hid; omega⟩
        | exact ⟨_, _, _, _, rfl, box5_of_heap a1, ⟨_, rowset_of_heap a3 (by omega) (by unfold maxLen; omega) (fun _ => rfl), none_own⟩, pick_start (made_of_heap a2), hb, by unfold Hid; omega, Nat.le_refl _, by have := lt_of_three a1 a2 a3; unfold Hid; omega⟩
        | exact ⟨_, _, _, _, rfl, box5_of_heap a2, ⟨_, rowset_of_heap a1 (by omega) (by unfold maxLen; omega) (fun _ => rfl), none_own⟩, pick_start (made_of_heap a3), hb, by unfold Hid; omega, Nat.le_refl _, by have := lt_of_three a1 a2 a3; unfold Hid; omega⟩
        | exact ⟨_, _, _, _, rfl, box5_of_heap a2, ⟨_, rowset_of_heap a3 (by omega) (by unfold maxLen; omega) (fun _ => rfl), none_own⟩, pick_start (made_of_heap a1), hb, by unfold Hid; omega, Nat.le_refl _, by have := lt_of_three a1 a2 a3; unfold Hid; omega⟩
        | exact ⟨_, _, _, _, rfl, box5_of_heap a3, ⟨_, rowset_of_heap a1 (by omega) (by unfold maxLen; omega) (fun _ => rfl), none_own⟩, pick_start (made_of_heap a2), hb, by unfold Hid; omega, Nat.le_refl _, by have := lt_of_three a1 a2 a3; unfold Hid; omega⟩
        | exact ⟨_, _, _, _, rfl, box5_of_heap a3, ⟨_, rowset_of_heap a2 (by omega) (by unfold maxLen; omega) (fun _ => rfl), none_own⟩, pick_start (made_of_heap a1), hb, by unfold Hid; omega, Nat.le_refl _, by have := lt_of_three a1 a2 a3; unfold Hid; omega⟩)
  case rest =>
    obtain ⟨q, k, t, S, rfl, HT, HV0, HK0, HB, HN, HS0, HLS⟩ := hcut
    clear c0 c1 c2
    go_wp2
    go_loopw [5] (fun iv wr => ∃ v : Nat, v ≤ n ∧ iv = .int .i64 v ∧ Hid (Box5 wr t 73 (.slice ao n co) (.slice ap n cp) (.slice an n cn) (.slice (some ⟨q, 0, none⟩) n n) (.slice (some ⟨k, 0, none⟩) n n)) ∧ Hid (∃ V, RowSet wr w.heap.size q n V (fun u => predsK zss u v) ∧ ∀ u, u < n → ∀ b, (V u).ownBlock = some b → S ≤ b) ∧ Hid (wr.rowIs k 2 n (numsV (pickK v))) ∧ Hid (Below w1.heap.size w1 wr) ∧ Hid (S ≤ wr.heap.size)) (fun iv _ => n - (intOf iv).toNat)
    case atStart => exact ⟨0, Nat.zero_le _, rfl, HT, HV0, HK0, HB, HS0⟩
    case round =>
      clear HT HV0 HK0 HB HS0
      obtain ⟨v, hv, rfl, HT, HV, HK, HB, HSr⟩ := hrel
      have BW := Lib.hid (B1.out.trans (HB.out.mono B1.out.size))
      have Tw := Lib.hid (T1.out.below HB.out)
      by_cases hlt : v < n
      · have hv1 : (v : Int) < n := by omega
        have hv0 : (0 : Int) ≤ (v : Int) := by omega
        have t4 := HT.out.c4
        have k1 := HK.out.cell hlt
        have kf := HK.out.frozen v
        have hO1 : Only (fun b => b = k) wr (wr.setCell ⟨k, v, none⟩ (.int .i64 (-1))) := (Only.refl (fun b => b = k) wr).setCell (p := ⟨k, v, none⟩) rfl _
        have hk1 := nums_set (v := v) (x := -1) HK.out
        rw [pickK_hit] at hk1
        have HK1 := Lib.hid hk1
        have HT1 := Lib.hid (rowIs_only HT.out hO1 (by have := HN.out; omega))
        have HV1 : Hid (∃ V, RowSet (wr.setCell ⟨k, v, none⟩ (.int .i64 (-1))) w.heap.size q n V (partP zss v 0) ∧ ∀ u, u < n → ∀ b, (V u).ownBlock = some b → S ≤ b) := by
          obtain ⟨V, hV, hb⟩ := HV.out
          exact ⟨V, (rowset_other hV hO1 (by have := HN.out; omega) (fun u hu b hb' e => by have := hb u hu b hb'; have := HLS.out; omega)).congr fun u _ => (partP_zero zss v u).symm, hb⟩
        have HB1 := Lib.hid (HB.out.setCell (p := ⟨k, v, none⟩) HN.out.1.2.1 (.int .i64 (-1)))
        have HS1' : Hid (S ≤ (wr.setCell ⟨k, v, none⟩ (.int .i64 (-1))).heap.size) := by have := hO1.size; have := HSr.out; unfold Hid; omega
        obtain ⟨w5, hw5⟩ : ∃ y, y = wr.setCell ⟨k, v, none⟩ (.int .i64 (-1)) := ⟨_, rfl⟩
        have HW5 := Lib.hid hw5
        rw [← hw5] at HK1 HT1 HV1 HB1 HS1'
        clear hO1 hk1 hw5 HV HK HT HB HSr
        have HQ := Lib.hid (HAr.out.2.2.2 v (by have := HOL.out; omega))
        go_wp2
        rw [← HW5.out]
        obtain ⟨m, hm⟩ : ∃ m, m = (row zss v).length := ⟨_, rfl⟩
        have HM := Lib.hid hm
        have hm16 : m ≤ 16 := by rw [hm]; exact HQ.out.2.2.1
        go_loopw [6] (fun iv wi => ∃ i : Nat, i ≤ m ∧ iv = .int .i64 i ∧ Hid (Box5 wi t 73 (.slice ao n co) (.slice ap n cp) (.slice an n cn) (.slice (some ⟨q, 0, none⟩) n n) (.slice (some ⟨k, 0, none⟩) n n)) ∧ Hid (∃ V, RowSet wi w.heap.size q n V (partP zss v i) ∧ ∀ u, u < n → ∀ b, (V u).ownBlock = some b → S ≤ b) ∧ Hid (wi.rowIs k 2 n (numsV (pickK (v + 1)))) ∧ Hid (Below w1.heap.size w1 wi) ∧ Hid (S ≤ wi.heap.size)) (fun iv _ => m - (intOf iv).toNat)
        case atStart => exact ⟨0, Nat.zero_le _, rfl, HT1, HV1, HK1, HB1, HS1'⟩
        case round =>
          clear HT1 HV1 HK1 HB1 HS1'
          obtain ⟨i, hi, rfl, HT, HV, HK, HB, HSr⟩ := hrel
          have BW := Lib.hid (B1.out.trans (HB.out.mono B1.out.size))
          have Tw := Lib.hid (T1.out.below HB.out)
          have c1 := Tw.out.c1
          obtain ⟨nb, no, hna, hnc⟩ := (HNx.out.below BW.out).cell (by have := HNL.out; omega)
          have n1 := hnc v (by have := HNL.out; omega)
          rw [hna] at c1
          rw [← hm] at n1
          by_cases hlt2 : i < m
          · have hi1 : (i : Int) < m := by omega
            have hi0 : (0 : Int) ≤ (i : Int) := by omega
            obtain ⟨rb, ro, hra, hrc⟩ := ((HNx.out.below BW.out).rows v (by have := HNL.out; omega)).cell (by omega)
            have r1 := hrc i (by omega)
            obtain ⟨h0, h1, hup⟩ := setB_bounds HQ.out.2.2.2 (k := i) (by omega)
            obtain ⟨u, hu⟩ : ∃ u : Nat, nth (row zss v) i = u := ⟨(nth (row zss v) i).toNat, by omega⟩
            have hun : u < n := by have := HOL.out; omega
            have hun1 : (u : Int) < n := by omega
            have hu0 : (0 : Int) ≤ (u : Int) := by omega
            have HU := Lib.hid hu
            have HUP := Lib.hid hup
            rw [hu] at r1
            rw [hra] at n1
            obtain ⟨V, hV, hVb⟩ := HV.out
            obtain ⟨s1, s2, s3⟩ := hV.shape hun
            have hown := (hV.rows u hun).own
            have hpl : (partP zss v i u).length ≤ v := by
              rw [(partP_hit HU.out HUP.out).2]; exact predsK_len _ _ _
            rw [s1] at hown
            obtain ⟨pl, hplE⟩ : ∃ pl, pl = (partP zss v i u).length := ⟨_, rfl⟩
            have HPLE := Lib.hid hplE
            rw [← hplE] at hpl s2 hown s1
            have HV' := Lib.hid hV
            have HVB := Lib.hid hVb
            have HV1 := Lib.hid s1
            have HOWN := Lib.hid hown
            obtain ⟨va, hva⟩ : ∃ va, va = addrOf (V u) := ⟨_, rfl⟩
            obtain ⟨vc, hvc⟩ : ∃ vc, vc = capOf (V u) := ⟨_, rfl⟩
            rw [← hva, ← hvc] at s2
            rw [← hva, ← hvc] at HOWN HV1
            have t3 := HT.out.c3
            clear hV hVb s1 hown hnc hrc hna hra h0 h1 hup hu hplE hva hvc
            have hsr := HSr.out
            have Kd : Hid (Below wr.heap.size wr (wr.drew.alloc (.cells #[.int .i64 v] 2))) := (Below.refl wr.heap.size wr).drew.trans (below1 wr.drew (.cells #[.int .i64 v] 2))
            have HOd : Hid (wr.drew.ownsRow w.heap.size 2 1 (.slice va pl vc) pl ((partP zss v i u).map (Value.int .i64))) := HOWN.out
            have t3a : (wr.alloc (.cells #[.int .i64 v] 2)).cell? ⟨t, 3, none⟩ = some (.slice (some ⟨q, 0, none⟩) n n) := (HT.out.below (below1 wr _)).c3
            have s2a : (wr.alloc (.cells #[.int .i64 v] 2)).cell? ⟨q, u, none⟩ = some (.slice va pl vc) := ((below1 wr _).cell (rowset_lt HV'.out)).trans s2
            have hwb : w.heap.size ≤ wr.heap.size := BW.out.size
            go_wp2
            go_region_law (first
              | (refine step_append_lies _ (by rfl) _ _ _ (by rfl) w.heap.size 2 j0 (.int .i64 0) 1 8 Tryd.underlying22 hj hj0 hj1 hj2 rfl (by decide) (.slice va pl vc) pl ((partP zss v i u).map (Value.int .i64)) (by rfl) (HOd.out.alloc _) ⟨wr.drew.heap.size, 0, none⟩ 1 1 [.int .i64 v] (by rfl) (by rfl) (World.news_of_block (cs := #[.int .i64 v]) (t := 2) (fr := (0, 0)) (heap_alloc_new wr.drew _)) (by simp [Value.oneCell']) (by omega) (by unfold maxLen; omega) (by omega) (by simp; omega) (wr.drew.heap.size + 1) (by simp) ?_; intro gg cap w8 hown8 hgrow hat hlt8; have hOn := grown_only HV1.out Kd.out hgrow; have q8 := row_kept HV'.out hun hOn HV1.out; have p8 := row_frozen HV'.out hun hOn; have t8 : w8.cell? ⟨t, 3, none⟩ = some (.slice (some ⟨q, 0, none⟩) n n) := Box5.c3 (rowIs_only HT.out hOn (fun e => by have := HVB.out u hun _ e; have := HLS.out; omega))))
            all_goals (
              have hnx := prev_next HV'.out HVB.out hun HV1.out HU.out HUP.out HPLE.out (by omega) hOn (by rw [← HPLE.out]; exact hown8) (hat.imp_right fun h => by have hdz : wr.drew.heap.size = wr.heap.size := rfl; omega) hsr
              have hO9 : Only (fun b => S ≤ b ∨ b = q) wr (w8.setCell ⟨q, u, none⟩ (.slice (some ⟨gg, 0, none⟩) (pl + 1) cap)) := (hOn.mono fun b hb => .inl (HVB.out u hun b hb)).setCell (p := ⟨q, u, none⟩) (.inr rfl) _
              have HT9 := Lib.hid (rowIs_only HT.out hO9 (by have := HLS.out; have := HN.out; omega))
              have HK9 := Lib.hid (rowIs_only HK.out hO9 (by have := HLS.out; have := HN.out; omega))
              have HB9 := Lib.hid (HB.out.trans (hO9.below (B := w1.heap.size) HB.out.size (fun b hb => by have := HLS.out; have := HN.out; omega)))
              have HS9 : Hid (S ≤ (w8.setCell ⟨q, u, none⟩ (.slice (some ⟨gg, 0, none⟩) (pl + 1) cap)).heap.size) := Nat.le_trans hsr hO9.size
              have HV9 := Lib.hid hnx
              clear hnx hO9 hown8 hgrow hat hOn q8 p8 t8 t3a s2a t3 s2
              go_wp2
              go_roundw
              case rel => exact ⟨i + 1, by omega, by go_num, HT9, HV9, HK9, HB9, HS9⟩
              case measure => simp [intOf]; omega)
          · have hii : i = m := by omega
            have hi1 : ¬ (i : Int) < m := by omega
            have HV9 : Hid (∃ V, RowSet wr w.heap.size q n V (fun u => predsK zss u (v + 1)) ∧ ∀ u, u < n → ∀ b, (V u).ownBlock = some b → S ≤ b) := by
              obtain ⟨V, hV, hb⟩ := HV.out
              rw [hii, hm] at hV
              exact ⟨V, hV.congr fun u _ => partP_full zss v u, hb⟩
            clear hii hm
            go_wp2
            go_roundw
            case rel => exact ⟨v + 1, by omega, by go_num, HT, HV9, HK, HB, HSr⟩
            case measure => simp [intOf]; omega
      · have hv1 : ¬ (v : Int) < n := by omega
        have hvn : v = n := by omega
        rw [hvn] at HV HK
        have RXr := Lib.hid (RX.out.below HB.out)
        have t0 := HT.out.c0
        have t1 := HT.out.c1
        have t2 := HT.out.c2
        have t3 := HT.out.c3
        have t4 := HT.out.c4
        have d0 := RXr.out.c0
        have d1 := RXr.out.c1
        have d2 := RXr.out.c2
        have d3 := RXr.out.c3
        have d4 := RXr.out.c4
        have g0 := World.rowIs.frozen RXr.out 0
        have g1 := World.rowIs.frozen RXr.out 1
        have g2 := World.rowIs.frozen RXr.out 2
        have g3 := World.rowIs.frozen RXr.out 3
        have g4 := World.rowIs.frozen RXr.out 4
        have hst := solver_stored (a0 := .slice ao n co) (a1 := .slice ap n cp) (a2 := .slice an n cn) (a3 := .slice (some ⟨q, 0, none⟩) n n) (a4 := .slice (some ⟨k, 0, none⟩) n n) RXr.out
        have u0 := hst.2.c0
        have u1 := hst.2.c1
        have u2 := hst.2.c2
        have u3 := hst.2.c3
        have u4 := hst.2.c4
        have HOX := Lib.hid hst.1
        have hfin : Hid (∀ W', Only (fun b => b = w.heap.size + 1) wr W' → GivesSolver2 w ao an ap co cn cp n zss (.returned (.agg #[.slice ao n co, .slice ap n cp, .slice an n cn, .slice (some ⟨q, 0, none⟩) n n, .slice (some ⟨k, 0, none⟩) n n])) W') := fun W' ho => by
          obtain ⟨V, hV, hb⟩ := HV.out
          have hn := HN.out
          have hs := HS1.out
          refine ⟨q, k, V, rfl, rowset_other hV ho (by omega) (fun u hu b hb' e => by have := hb u hu b hb'; have := HLS.out; omega), World.rowIs.congr (rowIs_only HK.out ho (by omega)) (fun i hi => by simp [numsV, pickK, hi]), BW.out.trans (ho.below (B := w.heap.size) BW.out.size (fun b hb => by omega)), by omega, fun u hu b hb' e => by have := hb u hu b hb'; have := HLS.out; omega⟩
        clear hst hvn HV HK
        go_wp2
        exact bodyPost_ret (v := .agg #[.slice ao n co, .slice ap n cp, .slice an n cn, .slice (some ⟨q, 0, none⟩) n n, .slice (some ⟨k, 0, none⟩) n n]) (by simp [results, Tryd.results58, go_sem, u0, u1, u2, u3, u4]) rfl (hfin.out _ HOX.out)
theorem l7Of_is {w : World} {ao an ap : Option Addr} (co cn cp : Nat) {A : Nat → Option Addr} {C : Nat → Nat} {O P : List Int} {zss : List (List Int)} (h1 : IntsAt w ao O) (h2 : RowsAt w an A C zss) (h3 : IntsAt w ap P) (hA : ArenaP O zss) (hPl : P.length = zss.length) :
    Calls Tryd.prog 58 #[.agg #[.slice ao O.length co, .slice an zss.length cn, .slice ap P.length cp]] w (GivesSolver w ao an ap co cn cp zss.length zss) := (l7Of_is2 co cn cp h1 h2 h3 hA hPl).mono fun e w' h => by
  obtain ⟨q, k, V, he, hV, hk, hb, _⟩ := h
  exact ⟨q, k, V, he, hV, hk, hb⟩
end

end Go.Proofs.YtphkgnpkcfbnkabDoor
