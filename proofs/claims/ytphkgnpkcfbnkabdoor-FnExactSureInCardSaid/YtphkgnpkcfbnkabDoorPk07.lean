/-
  Several texts in one: WonIn, RecurSpec, MaskMath.
-/
import Derived.Deep.RegionHeld3
import Derived.Lib.TrailingZeros
import Derived.Laws.BitsAllLaws
import Derived.Test.YtphkgnpkcfbnkabDoorPk03
import Derived.Test.YtphkgnpkcfbnkabDoorParity1
import Derived.Test.YtphkgnpkcfbnkabDoorPk05
import Derived.Test.YtphkgnpkcfbnkabDoorSolver
namespace Go.Proofs.YtphkgnpkcfbnkabDoor
section
open Go.RowKit

/-- All vertices. -/
def allI (n : Nat) : Nat → Bool := fun v => decide (v < n)
/-- The vertices that player 0 wins. -/
noncomputable def wonZ (zss : List (List Int)) (O P : List Int) : Nat → Bool := winZ zss O (nth P) zss.length (allI zss.length)

section
variable {zss : List (List Int)} {O P : List Int}

theorem arena_rows (h : ArenaP O zss) {v : Nat} (hv : v < zss.length) : (nth O v = 0 ∨ nth O v = 1) ∧ 1 ≤ (row zss v).length ∧ (row zss v).length ≤ 16 := by
  have h1 := h.2.2.2 v (by rw [← h.2.2.1]; exact hv)
  exact ⟨h1.1, h1.2.1, h1.2.2.1⟩
theorem total_all (h : ArenaP O zss) : TotalP zss (allI zss.length) := fun v hv _ => by
  have h1 := arena_rows h hv
  have hm := nth_mem (zs := row zss v) (k := 0) (by omega)
  obtain ⟨u, hu, hun⟩ := (rowsP_of h).inG v hv _ hm
  exact ⟨_, hm, by rw [hu, Int.toNat_natCast]; simp [allI, hun]⟩
theorem won_holds (h : ArenaP O zss) (hl : P.length = O.length) (hp : ∀ x ∈ P, 0 ≤ x) :
    (∃ s, HoldsP zss O (nth P) (allI zss.length) (regZ 0 (allI zss.length) (wonZ zss O P)) 0 s) ∧ ∃ s, HoldsP zss O (nth P) (allI zss.length) (regZ 1 (allI zss.length) (wonZ zss O P)) 1 s :=
  winZ_holds (rowsP_of h).inG (fun v hv => (arena_rows h hv).1) (fun v hv => hp _ (nth_mem (by have := h.2.2.1; omega))) _ _ (fun v hv => by simpa [allI] using hv) (markedK_len _ _) (total_all h)

theorem reg_at {who : Int} {win : Nat → Bool} {v : Nat} (hv : v < zss.length) : regZ who (allI zss.length) win v = (win v == decide (who = 0)) := by
  unfold regZ allI; simp [hv]

end
end

section
open Go.RowKit

theorem none_nth {n v : Nat} (h : v < n) : nth (List.replicate n (-1 : Int)) v = -1 := by simp [nth, h]
theorem ints_none {w : World} {k n : Nat} (h : w.rowIs k 2 n (fun _ => .int .i64 (-1))) (hn : n ≤ 256) : IntsAt w (some ⟨k, 0, none⟩) (List.replicate n (-1)) := by
  refine ⟨by simp; omega, fun j hj => ?_, fun _ => ⟨k, 0, rfl, fun j hj => ?_⟩⟩
  · have hj' : j < n := by simpa using hj
    rw [none_nth hj']; unfold Fits; omega
  · have hj' : j < n := by simpa using hj
    rw [Nat.zero_add, none_nth hj']
    exact h.cell hj'
theorem zssE_none {zss : List (List Int)} : zssE zss (List.replicate zss.length (-1)) = zss := by
  refine List.ext_getElem (by rw [zssE_len]) fun v h1 h2 => ?_
  have e1 : (zssE zss (List.replicate zss.length (-1)))[v] = row (zssE zss (List.replicate zss.length (-1))) v := by simp [row, h1]
  have e2 : zss[v] = row zss v := by simp [row, h2]
  rw [e1, e2, zssE_row h2]
  refine List.filter_eq_self.2 fun x _ => ?_
  unfold pickB
  rw [none_nth h2]; rfl
theorem up_mem {n : Nat} : ∀ x ∈ upL n, ∃ u : Nat, x = (u : Int) ∧ u < n := fun x hx => by
  obtain ⟨k, hk, e⟩ := mem_nth.1 hx
  rw [upL_len] at hk
  rw [upL_nth hk] at e
  exact ⟨k, e.symm, hk⟩
theorem setFrom_up {n : Int} : ∀ (zs : List Int) (l : Int), zs.Pairwise (· < ·) → (∀ x ∈ zs, l < x ∧ x < n) → setFrom n l zs = true
  | [], _, _, _ => rfl
  | z :: r, l, hp, hb => by
    obtain ⟨h1, h2⟩ := List.pairwise_cons.1 hp
    have hz := hb z (by simp)
    rw [setFrom, decide_eq_true hz]
    exact setFrom_up r z h2 fun x hx => ⟨h1 x hx, (hb x (by simp [hx])).2⟩
/-- Rows of the predecessors, as the solver reads them. -/
theorem prev_rows {w : World} {B g n : Nat} {V : Nat → Value} {R : Nat → List Int} (h : RowSet w B g n V R) (hn : n ≤ 256) : RowsAt w (some ⟨g, 0, none⟩) (fun k => addrOf (V k)) (fun k => capOf (V k)) (rowsOf n R) := by
  have hl := rowsOf_len n R
  refine ⟨by omega, fun _ => ⟨g, 0, rfl, fun k hk => ?_⟩, fun k hk => ?_⟩
  · rw [hl] at hk
    obtain ⟨a, cap, hv, _, _⟩ := (h.rows k hk).shape
    rw [rowsOf_row hk, Nat.zero_add, h.own.cellAt k (by omega)]
    simp [hk, hv, addrOf, capOf]
  · rw [hl] at hk
    obtain ⟨a, cap, hv, hi, _⟩ := (h.rows k hk).shape
    rw [rowsOf_row hk, hv]
    exact hi

theorem rowset_base {w : World} {B B' q n : Nat} {V : Nat → Value} {R : Nat → List Int} (h : RowSet w B q n V R) (hB : B' ≤ B) : RowSet w B' q n V R :=
  ⟨ownsRow_base h.own hB, fun u hu => (h.rows u hu).base hB, h.apart⟩

end

end Go.Proofs.YtphkgnpkcfbnkabDoor
namespace Go.Proofs.YtphkgnpkcfbnkabDoor
section
open Go.RowKit

set_option maxHeartbeats 4000000 in
set_option maxRecDepth 100000 in
theorem l7All_is {w : World} (n : Nat) (hn : n ≤ 1048576) :
    Calls Tryd.prog 99 #[.int .i64 n] w (GivesMarks w n (allI n)) := by
  have hmk := run_make_row' (P := Tryd.prog) 75 4 (.bool false) 1 Tryd.underlying75 info_bool rfl .i64 .i64 n (by omega) (by omega)
  have R0 : Hid ((w.alloc (.cells (madeCells #[.bool false] n) 4)).rowIs w.heap.size 4 n (marksV (outK (allI n) 0))) := outK_new
  have B0 := Lib.hid (below1 w (.cells (madeCells #[.bool false] n) 4))
  go_enter Tryd.func99, Tryd.ntmps99
  go_wp2
  go_loopw [4] (fun iv wr => ∃ k : Nat, k ≤ n ∧ iv = .int .i64 k ∧ Hid (wr.rowIs w.heap.size 4 n (marksV (outK (allI n) k))) ∧ Hid (Below w.heap.size w wr)) (fun iv _ => n - (intOf iv).toNat)
  case atStart => exact ⟨0, Nat.zero_le _, rfl, R0, B0⟩
  case round =>
    clear hmk R0 B0
    obtain ⟨k, hk, rfl, HR, HB⟩ := hrel
    by_cases hlt : k < n
    · have hi1 : (k : Int) < n := by omega
      have hk0 : (0 : Int) ≤ (k : Int) := by omega
      have hcs := HR.out.cell hlt
      have hcf := HR.out.frozen k
      have R1 : Hid ((wr.setCell ⟨w.heap.size, k, none⟩ (.bool true)).rowIs w.heap.size 4 n (marksV (outK (allI n) (k + 1)))) := outK_set HR.out (by simp [allI, hlt])
      have B1 := Lib.hid (HB.out.setCell (p := ⟨w.heap.size, k, none⟩) (Nat.le_refl _) (.bool true))
      go_wp2
      go_roundw
      case rel => exact ⟨k + 1, by omega, by go_num, R1, B1⟩
      case measure => simp [intOf]; omega
    · have hi1 : ¬ (k : Int) < n := by omega
      have hkk : k = n := by omega
      rw [hkk] at HR
      have HF := Lib.hid (outK_all HR.out)
      clear hkk HR
      go_wp2
      go_ret
      exact ⟨_, rfl, Nat.le_refl _, HF.out, HB.out⟩

theorem same_of {X Y : List Int} (hl : X.length = Y.length) (h : ∀ j, j < X.length → nth X j = nth Y j) : X = Y := by
  apply List.ext_getElem hl
  intro i h1 h2
  have := h i h1
  rwa [nth_eq h1, nth_eq h2] at this

set_option maxHeartbeats 4000000 in
set_option maxRecDepth 100000 in
theorem l7Same_is {w : World} {aX aY : Option Addr} {X Y : List Int} {r : Bool} (cX cY : Nat) (hr : decide (X = Y) = r) (hX : IntsAt w aX X) (hY : IntsAt w aY Y) :
    Calls Tryd.prog 52 #[.slice aX X.length cX, .slice aY Y.length cY] w fun e w' => e = .returned (.bool r) ∧ Below w.heap.size w w' := by
  have HX := Lib.hid hX
  have HY := Lib.hid hY
  have hlX := hX.len
  have hlY := hY.len
  have HN : Hid (X ≠ Y → r = false) := fun h => by rw [← hr]; exact decide_eq_false h
  have HE : Hid (X = Y → r = true) := fun h => by rw [← hr]; exact decide_eq_true h
  clear hX hY hr
  by_cases hl : X.length = Y.length
  · have hl1 : ((X.length : Int) != (Y.length : Int)) = false := by simp; omega
    have hl2 : (X.length != Y.length) = false := by simp; omega
    have HL := Lib.hid hl
    clear hl
    go_enter Tryd.func52, Tryd.ntmps52
    go_wp2
    go_loopw [5] (fun iv wr => ∃ k : Nat, k ≤ X.length ∧ iv = .int .i64 k ∧ Hid (∀ j, j < k → nth X j = nth Y j) ∧ Hid (Below w.heap.size w wr)) (fun iv _ => X.length - (intOf iv).toNat)
    case atStart => exact ⟨0, Nat.zero_le _, rfl, fun j hj => absurd hj (Nat.not_lt_zero _), Below.refl _ _⟩
    case round =>
      obtain ⟨k, hk, rfl, HJ, HB⟩ := hrel
      by_cases hlt : k < X.length
      · have hi1 : (k : Int) < X.length := by omega
        have hk0 : (0 : Int) ≤ (k : Int) := by omega
        have hkY : k < Y.length := by have := HL.out; omega
        have hi2 : (k : Int) < Y.length := by omega
        obtain ⟨xb, xo, hxa, hxc⟩ := (HX.out.below HB.out).cell (by omega)
        obtain ⟨yb, yo, hya, hyc⟩ := (HY.out.below HB.out).cell (by omega)
        have x1 := hxc k hlt
        have y1 := hyc k hkY
        obtain ⟨x, hx⟩ : ∃ q, q = nth X k := ⟨_, rfl⟩
        obtain ⟨y, hy⟩ : ∃ q, q = nth Y k := ⟨_, rfl⟩
        rw [← hx] at x1
        rw [← hy] at y1
        have HXk := Lib.hid hx
        have HYk := Lib.hid hy
        subst hxa
        subst hya
        clear hxc hyc hx hy
        by_cases e : x = y
        · have he : (x != y) = false := by simpa using e
          have HJn : Hid (∀ j, j < k + 1 → nth X j = nth Y j) := fun j hj => by
            by_cases h : j = k
            · subst h; rw [← HXk.out, ← HYk.out]; exact e
            · exact HJ.out j (by omega)
          clear e
          go_wp2
          go_quiet (fail)
          go_wp2
          go_roundw
          case rel => exact ⟨k + 1, by omega, by go_num, HJn, below_drewN HB.out _⟩
          case measure => simp [intOf]; omega
        · have he : (x != y) = true := by simpa using e
          have HF : Hid (r = false) := HN.out fun h => e (by rw [HXk.out, HYk.out, h])
          clear e
          go_wp2
          go_quiet (fail)
          go_wp2
          go_ret
          exact ⟨ret_bool HF.out.symm, below_drewN HB.out _⟩
      · have hi1 : ¬ (k : Int) < X.length := by omega
        have HF : Hid (r = true) := HE.out (same_of HL.out fun j hj => HJ.out j (by omega))
        go_wp2
        go_ret
        exact ⟨ret_bool HF.out.symm, HB.out⟩
  · have hl1 : ((X.length : Int) != (Y.length : Int)) = true := by simp; omega
    have hl2 : (X.length != Y.length) = true := by simp; omega
    have HF : Hid (r = false) := HN.out fun h => hl (by rw [h])
    clear hl
    go_enter Tryd.func52, Tryd.ntmps52
    go_wp2
    go_ret
    exact ⟨ret_bool HF.out.symm, Below.refl _ _⟩

set_option maxHeartbeats 4000000 in
set_option maxRecDepth 100000 in
theorem l7HasIn_is {w : World} {a : Option Addr} {zs : List Int} {x : Int} {r : Bool} (hr : hasB zs x = r) (cap : Nat) (h : IntsAt w a zs) :
    Calls Tryd.prog 117 #[.slice a zs.length cap, .int .i64 x] w fun e w' => e = .returned (.bool r) ∧ w = w' := by
  have H := Lib.hid h
  have hl := h.len
  have HN : Hid (x ∉ zs → r = false) := fun h => by rw [← hr]; unfold hasB; exact decide_eq_false h
  have HE : Hid (x ∈ zs → r = true) := fun h => by rw [← hr]; unfold hasB; exact decide_eq_true h
  clear h hr
  go_enter Tryd.func117, Tryd.ntmps117
  go_wp2
  go_loopw [5] (fun iv wr => ∃ k : Nat, k ≤ zs.length ∧ iv = .int .i64 k ∧ Hid (∀ j, j < k → nth zs j ≠ x) ∧ w = wr) (fun iv _ => zs.length - (intOf iv).toNat)
  case atStart => exact ⟨0, Nat.zero_le _, rfl, fun j hj => absurd hj (Nat.not_lt_zero _), rfl⟩
  case round =>
    obtain ⟨k, hk, rfl, HJ, rfl⟩ := hrel
    by_cases hlt : k < zs.length
    · have hi1 : (k : Int) < zs.length := by omega
      have hk0 : (0 : Int) ≤ (k : Int) := by omega
      obtain ⟨b, off, ha, hc⟩ := H.out.cell (by omega)
      have z1 := hc k hlt
      obtain ⟨z, hz⟩ : ∃ q, q = nth zs k := ⟨_, rfl⟩
      rw [← hz] at z1
      have HZ := Lib.hid hz
      subst ha
      clear hc hz
      by_cases e : z = x
      · have he : (z == x) = true := by simpa using e
        have HF : Hid (r = true) := HE.out (by rw [← e, HZ.out]; exact nth_mem hlt)
        clear e
        go_wp2
        go_ret
        exact ⟨ret_bool HF.out.symm, rfl⟩
      · have he : (z == x) = false := beq_eq_false_iff_ne.2 e
        have HJn : Hid (∀ j, j < k + 1 → nth zs j ≠ x) := fun j hj => by
          by_cases h : j = k
          · subst h; rw [← HZ.out]; exact e
          · exact HJ.out j (by omega)
        clear e
        go_wp2
        go_roundw
        case rel => exact ⟨k + 1, by omega, by go_num, HJn, by simp⟩
        case measure => simp [intOf]; omega
    · have hi1 : ¬ (k : Int) < zs.length := by omega
      have HF : Hid (r = false) := HN.out fun h => by
        obtain ⟨j, hj, e⟩ := mem_nth.1 h
        exact HJ.out j (by omega) e
      go_wp2
      go_ret
      exact ⟨ret_bool HF.out.symm, rfl⟩

end

section
open Go.RowKit

/-- The winners. -/
noncomputable def wonL (zss : List (List Int)) (O P : List Int) : List Int := fnL zss.length fun v => if wonZ zss O P v = true then 0 else 1
theorem wonL_len {zss : List (List Int)} {O P : List Int} : (wonL zss O P).length = zss.length := fnL_len _ _
theorem wonL_nth {zss : List (List Int)} {O P : List Int} {v : Nat} (h : v < zss.length) : nth (wonL zss O P) v = if wonZ zss O P v = true then 0 else 1 := fnL_nth h

theorem l1Flag_is (b : Bool) (w : World) : Calls Tryd.prog 100 #[.bool b] w fun e w' => e = .returned (.int .i64 (if b = true then 1 else 0)) ∧ w = w' := by
  cases b with
  | false =>
    go_enter Tryd.func100, Tryd.ntmps100
    go_wp2
    go_ret
    exact ⟨rfl, rfl⟩
  | true =>
    go_enter Tryd.func100, Tryd.ntmps100
    go_wp2
    go_ret
    exact ⟨rfl, rfl⟩

set_option maxHeartbeats 16000000 in
set_option maxRecDepth 100000 in
theorem l7Won_is {w : World} {v : Value} {O : List Int} {zss : List (List Int)} {P : List Int} (h : GameAt w v O zss P) (hp : parityB O zss P = true) :
    Calls Tryd.prog 53 #[v] w (GivesInts w (wonL zss O P)) := by
  obtain ⟨i0, hi, hz0, hz1, hz2⟩ := info_parts info_int
  obtain ⟨ao, an, ap, co, cn, cp, A, C, rfl, h1, h2, h3⟩ := h
  obtain ⟨hA, hPO, hPB⟩ := parityB_iff.1 hp
  obtain ⟨n, hn⟩ : ∃ n, n = zss.length := ⟨_, rfl⟩
  have hOl : O.length = n := by rw [hn]; exact hA.2.2.1.symm
  have hPl : P.length = n := by omega
  have hn256 : n ≤ 256 := by have := hA.2.1; omega
  have hz := rowsP_of hA
  have HO7 : Hid (∀ W, Below w.heap.size w W → Calls Tryd.prog 58 #[.agg #[.slice ao n co, .slice an n cn, .slice ap n cp]] W (GivesSolver W ao an ap co cn cp n zss)) := fun W hb => by
    have h := l7Of_is co cn cp (h1.below hb) (h2.below hb) (h3.below hb) hA (by omega)
    rw [hOl, hPl, ← hn] at h; exact h
  have HWin : Hid (∀ W q k bI V, Below w.heap.size w W → RowSet W w.heap.size q n V (fun u => predsK zss u n) → W.rowIs k 2 n (fun _ => .int .i64 (-1)) → W.rowIs bI 4 n (marksV (allI n)) →
      Calls Tryd.prog 98 #[.agg #[.slice ao n co, .slice ap n cp, .slice an n cn, .slice (some ⟨q, 0, none⟩) n n, .slice (some ⟨k, 0, none⟩) n n], .slice (some ⟨bI, 0, none⟩) n n] W (GivesMarks W n (wonZ zss O P))) := fun W q k bI V hb hq hk hM => by
    have hq' := prev_rows hq hn256
    rw [hn] at hk hM hq' hn256
    have h := l7Win_is (Pk := List.replicate zss.length (-1)) co cp cn n n hz (by omega) (by omega) (by simp) hn256 (fun v hv => (arena_rows hA hv).2.2) zss.length (h1.below hb) (h3.below hb) (h2.below hb) hq' (ints_none hk hn256) hM (markedK_len _ _)
    rw [zssE_none, List.length_replicate, hOl, hPl, ← hn] at h
    unfold wonZ
    rw [← hn]
    exact h
  have HAl : Hid (∀ W : World, Calls Tryd.prog 99 #[.int .i64 n] W (GivesMarks W n (allI n))) := fun W => l7All_is n (by omega)
  obtain ⟨F, hF⟩ : ∃ F, F = wonZ zss O P := ⟨_, rfl⟩
  obtain ⟨L, hL⟩ : ∃ L, L = wonL zss O P := ⟨_, rfl⟩
  have HLN : Hid (∀ k, fnL k (fun v => if F v = true then (0 : Int) else 1) = fnL k (fun v => if F v = true then (0 : Int) else 1)) := fun _ => rfl
  have HLL : Hid (L = fnL n fun v => if F v = true then 0 else 1) := by rw [hL, hF, hn]; rfl
  rw [← hF] at HWin
  rw [← hL, hOl, hPl, ← hn]
  clear hF hL h1 h2 h3 hA hPO hPB hp hz hOl hPl hn
  obtain ⟨w1, hw1⟩ : ∃ y, y = w.alloc (.cells #[.slice ao n co, .slice an n cn, .slice ap n cp] 32) := ⟨_, rfl⟩
  have HW1 := Lib.hid hw1
  have B1 : Hid (Below w.heap.size w w1) := by rw [hw1]; exact below1 _ _
  have T1 : Hid (Box3 w1 w.heap.size 32 (.slice ao n co) (.slice an n cn) (.slice ap n cp)) := by rw [hw1]; exact Box3.new _ _ _ _ _
  have Kd : Hid (Below w1.heap.size w1 w1.drew) := (Below.refl _ _).drew
  have HSv : Hid (∀ W, Below w1.heap.size w1 W → W.cell? ⟨w.heap.size, 0, none⟩ = some (.slice ao n co) ∧ W.cell? ⟨w.heap.size, 1, none⟩ = some (.slice an n cn) ∧ W.cell? ⟨w.heap.size, 2, none⟩ = some (.slice ap n cp)) := fun W hb => ⟨(T1.out.below hb).c0, (T1.out.below hb).c1, (T1.out.below hb).c2⟩
  have s0 := HSv.out _ Kd.out
  rw [hw1] at s0
  clear hw1
  go_enter Tryd.func53, Tryd.ntmps53
  go_wp2
  rw [← HW1.out] at s0 ⊢
  go_region_held3 (fun W => W.cell? ⟨w.heap.size, 0, none⟩ = some (.slice ao n co) ∧ W.cell? ⟨w.heap.size, 1, none⟩ = some (.slice an n cn) ∧ W.cell? ⟨w.heap.size, 2, none⟩ = some (.slice ap n cp))
    (first
      | exact HSv.out _ Kd.out
      | exact HSv.out _ Ka.out
      | exact HSv.out _ Kb.out
      | exact HSv.out _ Kc.out)
    (first
      | (go_at_call 98; refine (HWin.out _ q k bI V (B1.out.trans (Kb.out.mono B1.out.size)) Vb.out Pb.out Mb.out).mono ?_; rintro e wc ⟨bF, rfl, -, hM, hb⟩; have MF := Lib.hid hM; have Kc := Lib.hid (Kb.out.trans (hb.mono Kb.out.size)); clear hM hb)
      | (go_at_call 99; refine (HAl.out _).mono ?_; rintro e wb ⟨bI, rfl, -, hM, hb⟩; have Mb := Lib.hid hM; have Vb := Lib.hid (rowset_base (Va.out.below hb) (Nat.le_trans B1.out.size Kd.out.size)); have Pb := Lib.hid (rowIs_below Pa.out hb); have Kb := Lib.hid (Ka.out.trans (hb.mono Ka.out.size)); clear hM hb)
      | (go_at_call 58; refine (HO7.out _ (B1.out.trans (Kd.out.mono B1.out.size))).mono ?_; rintro e wa ⟨q, k, V, rfl, hV, hK, hb⟩; have Va := Lib.hid hV; have Pa := Lib.hid hK; have Ka := Lib.hid (Kd.out.trans (hb.mono Kd.out.size)); clear hV hK hb))
  obtain ⟨w2, hw2⟩ : ∃ y, y = wc.alloc (.cells #[] 2) := ⟨_, rfl⟩
  have HW2 := Lib.hid hw2
  have hb2 : Below wc.heap.size wc w2 := by rw [hw2]; exact below1 _ _
  have O2 : Hid (w2.ownsRow wc.heap.size 2 1 (.slice (some ⟨wc.heap.size, 0, none⟩) 0 0) (fnL 0 (fun v => if F v = true then (0 : Int) else 1)).length ((fnL 0 (fun v => if F v = true then (0 : Int) else 1)).map (Value.int .i64))) := by rw [hw2]; exact World.ownsRow_made wc #[] 0 (Nat.le_refl _) (by unfold maxLen; omega) rfl
  have M2 := Lib.hid (rowIs_below MF.out hb2)
  have Bc := Lib.hid (B1.out.trans (Kc.out.mono B1.out.size))
  have hs2 : wc.heap.size ≤ w2.heap.size := hb2.size
  have K2 : Hid (Below wc.heap.size wc w2) := hb2
  clear hw2 hb2 s0
  go_wp2
  rw [← HW2.out]
  go_loopw [4, 5] (fun ov iv wr => ∃ (k : Nat) (uu : Value), uu = ov ∧ k ≤ n ∧ iv = .int .i64 k ∧ Hid (wr.ownsRow wc.heap.size 2 1 ov (fnL k (fun v => if F v = true then (0 : Int) else 1)).length ((fnL k (fun v => if F v = true then (0 : Int) else 1)).map (Value.int .i64))) ∧ Hid (Below wc.heap.size wc wr)) (fun _ iv _ => n - (intOf iv).toNat)
  case atStart => exact ⟨0, _, rfl, Nat.zero_le _, rfl, O2, K2⟩
  case round =>
    clear O2 K2
    obtain ⟨k, uu, hu0, hk, rfl, HO, HK⟩ := hrel
    subst hu0
    have hksz := HK.out.size
    have hll : (fnL k (fun v => if F v = true then (0 : Int) else 1)).length = k := fnL_len _ _
    by_cases hlt : k < n
    · have hi1 : (k : Int) < n := by omega
      have hk0 : (0 : Int) ≤ (k : Int) := by omega
      have f1 := (rowIs_below MF.out HK.out).cell hlt
      unfold marksV at f1
      have hst : fnL (k + 1) (fun v => if F v = true then (0 : Int) else 1) = fnL k (fun v => if F v = true then (0 : Int) else 1) ++ [if F k = true then (0 : Int) else 1] := fnL_succ _ _
      obtain ⟨b, hb⟩ : ∃ b, F k = b := ⟨_, rfl⟩
      rw [hb] at f1 hst
      have HFl := Lib.hid (fun W => l1Flag_is b W)
      obtain ⟨g, hg⟩ : ∃ g, fnL k (fun v => if F v = true then (0 : Int) else 1) = g := ⟨_, rfl⟩
      rw [hg] at hst hll HO
      have HST := Lib.hid hst
      clear hst hb hg
      cases b with
      | false =>
        have HFl' : Hid (∀ W : World, Calls Tryd.prog 100 #[.bool false] W fun e w' => e = .returned (.int .i64 0) ∧ W = w') := fun W => by simpa using HFl.out W
        go_wp2_with fail
        refine (HFl'.out _).mono ?_
        rintro e w4 ⟨rfl, rfl⟩
        go_wp2_with (at_builtin; refine wpList_append_own_at _ rfl _ _ 22 rfl wc.heap.size 2 i0 (.int .i64 0) 1 8 Tryd.underlying22 hi hz0 hz1 hz2 rfl (by decide) _ _ _ rfl (HO.out.alloc _) ⟨wr.heap.size, 0, none⟩ 1 1 [.int .i64 1] rfl rfl ?c1 ?c2 ?c3 ?c4 ?c5 ?_)
        try (case c1 => exact cell_one_new _ _ _)
        try (case c2 => first | rfl | (intro u hu; simp at hu; subst hu; rfl))
        case c3 => unfold maxLen; omega
        case c4 => omega
        case c5 => first | (simp; omega) | omega
        intro v' w5 hown hgrow _ _
        have hg : Only (fun b => wc.heap.size ≤ b) wr w5 := (Only.of_below (below1 wr _)).trans ((Only.of_grown hgrow).mono fun b hb => (HO.out.lt b hb).1)
        have Kn := Lib.hid (HK.out.trans (hg.below HK.out.size (fun _ h => h)))
        have HOn : Hid (w5.ownsRow wc.heap.size 2 1 v' (fnL (k + 1) (fun v => if F v = true then (0 : Int) else 1)).length ((fnL (k + 1) (fun v => if F v = true then (0 : Int) else 1)).map (Value.int .i64))) := by
          rw [HST.out, List.map_append, List.length_append]; simpa [Hid, hll] using hown
        clear hown hgrow hg
        go_wp2
        go_roundw
        case rel => exact ⟨k + 1, _, rfl, by omega, by go_num, HOn, Kn⟩
        case measure => simp [intOf]; omega
      | true =>
        have HFl' : Hid (∀ W : World, Calls Tryd.prog 100 #[.bool true] W fun e w' => e = .returned (.int .i64 1) ∧ W = w') := fun W => by simpa using HFl.out W
        go_wp2_with fail
        refine (HFl'.out _).mono ?_
        rintro e w4 ⟨rfl, rfl⟩
        go_wp2_with (at_builtin; refine wpList_append_own_at _ rfl _ _ 22 rfl wc.heap.size 2 i0 (.int .i64 0) 1 8 Tryd.underlying22 hi hz0 hz1 hz2 rfl (by decide) _ _ _ rfl (HO.out.alloc _) ⟨wr.heap.size, 0, none⟩ 1 1 [.int .i64 0] rfl rfl ?c1 ?c2 ?c3 ?c4 ?c5 ?_)
        try (case c1 => exact cell_one_new _ _ _)
        try (case c2 => first | rfl | (intro u hu; simp at hu; subst hu; rfl))
        case c3 => unfold maxLen; omega
        case c4 => omega
        case c5 => first | (simp; omega) | omega
        intro v' w5 hown hgrow _ _
        have hg : Only (fun b => wc.heap.size ≤ b) wr w5 := (Only.of_below (below1 wr _)).trans ((Only.of_grown hgrow).mono fun b hb => (HO.out.lt b hb).1)
        have Kn := Lib.hid (HK.out.trans (hg.below HK.out.size (fun _ h => h)))
        have HOn : Hid (w5.ownsRow wc.heap.size 2 1 v' (fnL (k + 1) (fun v => if F v = true then (0 : Int) else 1)).length ((fnL (k + 1) (fun v => if F v = true then (0 : Int) else 1)).map (Value.int .i64))) := by
          rw [HST.out, List.map_append, List.length_append]; simpa [Hid, hll] using hown
        clear hown hgrow hg
        go_wp2
        go_roundw
        case rel => exact ⟨k + 1, _, rfl, by omega, by go_num, HOn, Kn⟩
        case measure => simp [intOf]; omega
    · have hi1 : ¬ (k : Int) < n := by omega
      have hkk : k = n := by omega
      rw [hkk, ← HLL.out] at HO
      have HLn : Hid (L.length ≤ 256 ∧ ∀ j, j < L.length → Fits (nth L j)) := by
        rw [HLL.out]
        refine ⟨by rw [fnL_len]; omega, fun j hj => ?_⟩
        rw [fnL_len] at hj
        rw [fnL_nth hj]
        split <;> (unfold Fits; omega)
      have hsw : w.heap.size ≤ wc.heap.size := Bc.out.size
      have hfin := Lib.hid ((OwnInts.mk' HO.out (by have := HLn.out.1; omega) HLn.out.2).base (B' := w.heap.size) hsw)
      have Bw := Lib.hid (Bc.out.trans (HK.out.mono Bc.out.size))
      clear hkk HO
      go_wp2
      go_ret
      exact ⟨_, rfl, hfin.out, Bw.out⟩
end

section
open Go.RowKit

/-- Picks of successors. -/
def PicksP (zss : List (List Int)) (Pk : List Int) : Prop := Pk.length = zss.length ∧ ∀ v, v < Pk.length → nth Pk v = -1 ∨ nth Pk v ∈ row zss v
noncomputable def picksB (zss : List (List Int)) (Pk : List Int) : Bool := @decide (PicksP zss Pk) (Classical.propDecidable _)
theorem picksB_iff {zss : List (List Int)} {Pk : List Int} : picksB zss Pk = true ↔ PicksP zss Pk := by unfold picksB; rw [@decide_eq_true_eq _ (Classical.propDecidable _)]
theorem picksB_no {zss : List (List Int)} {Pk : List Int} (h : ¬ PicksP zss Pk) : picksB zss Pk = false := by
  cases hb : picksB zss Pk with
  | false => rfl
  | true => exact absurd (picksB_iff.1 hb) h

set_option maxHeartbeats 8000000 in
set_option maxRecDepth 100000 in
theorem l7Picks_is {w : World} {v : Value} {O P Pk : List Int} {zss : List (List Int)} {aK : Option Addr} {r : Bool} (cK : Nat) (hr : picksB zss Pk = r) (h : GameAt w v O zss P) (hPl : P.length = zss.length) (hz : zss.length ≤ 256) (hK : IntsAt w aK Pk) :
    Calls Tryd.prog 96 #[v, .slice aK Pk.length cK] w fun e w' => e = .returned (.bool r) ∧ Below w.heap.size w w' := by
  obtain ⟨ao, an, ap, co, cn, cp, A, C, rfl, h1, h2, h3⟩ := h
  have hlP := h3.len
  have hlK := hK.len
  have HNi := Lib.hid h2
  have HKi := Lib.hid hK
  obtain ⟨w1, hw1⟩ : ∃ y, y = w.alloc (.cells #[.slice ao O.length co, .slice an zss.length cn, .slice ap P.length cp] 32) := ⟨_, rfl⟩
  have HW1 := Lib.hid hw1
  have B1 : Hid (Below w.heap.size w w1) := by rw [hw1]; exact below1 _ _
  have T1 : Hid (Box3 w1 w.heap.size 32 (.slice ao O.length co) (.slice an zss.length cn) (.slice ap P.length cp)) := by rw [hw1]; exact Box3.new _ _ _ _ _
  have HN : Hid (¬ PicksP zss Pk → r = false) := fun h => by rw [← hr]; exact picksB_no h
  have HY : Hid (PicksP zss Pk → r = true) := fun h => by rw [← hr]; exact picksB_iff.2 h
  have c2 := T1.out.c2
  rw [hw1] at c2
  have HPL := Lib.hid hPl
  clear hw1 h1 h2 h3 hK hr hPl
  by_cases hl : Pk.length = P.length
  · have hl1 : ((Pk.length : Int) != (P.length : Int)) = false := by simp; omega
    have hl2 : (Pk.length != P.length) = false := by simp; omega
    have HL := Lib.hid hl
    clear hl
    go_enter Tryd.func96, Tryd.ntmps96
    go_wp2
    rw [← HW1.out]
    clear c2 hl1 hl2
    go_loopw [5] (fun iv wr => ∃ k : Nat, k ≤ Pk.length ∧ iv = .int .i64 k ∧ Hid (∀ j, j < k → nth Pk j = -1 ∨ nth Pk j ∈ row zss j) ∧ Hid (Below w1.heap.size w1 wr)) (fun iv _ => Pk.length - (intOf iv).toNat)
    case atStart => exact ⟨0, Nat.zero_le _, rfl, fun j hj => absurd hj (Nat.not_lt_zero _), Below.refl _ _⟩
    case round =>
      obtain ⟨k, hk, rfl, HJ, HB⟩ := hrel
      have Bw := Lib.hid (B1.out.trans (HB.out.mono B1.out.size))
      by_cases hlt : k < Pk.length
      · have hi1 : (k : Int) < Pk.length := by omega
        have hk0 : (0 : Int) ≤ (k : Int) := by omega
        have hkZ : k < zss.length := by have := HL.out; have := HPL.out; omega
        have hi2 : (k : Int) < zss.length := by omega
        obtain ⟨pb, po, hpa, hpc⟩ := (HKi.out.below Bw.out).cell (by omega)
        obtain ⟨nb, no, hna, hnc⟩ := (HNi.out.below Bw.out).cell (by omega)
        have p1 := hpc k hlt
        have n1 := hnc k hkZ
        have HRw := Lib.hid ((HNi.out.below Bw.out).rows k hkZ)
        have t1 := (T1.out.below HB.out).c1
        obtain ⟨p, hp⟩ : ∃ q, q = nth Pk k := ⟨_, rfl⟩
        have HP := Lib.hid hp
        rw [← hp] at p1
        subst hpa
        subst hna
        clear hpc hnc hp
        by_cases e : p = -1
        · have he : (p != -1) = false := by simpa using e
          have HJn : Hid (∀ j, j < k + 1 → nth Pk j = -1 ∨ nth Pk j ∈ row zss j) := fun j hj => by
            by_cases h : j = k
            · subst h; exact .inl (by rw [← HP.out]; exact e)
            · exact HJ.out j (by omega)
          clear e
          go_wp2
          go_quiet (fail)
          go_wp2
          go_roundw
          case rel => exact ⟨k + 1, by omega, by go_num, HJn, below_drewN HB.out _⟩
          case measure => simp [intOf]; omega
        · have he : (p != -1) = true := by simpa using e
          cases hh : hasB (row zss k) p with
          | false =>
            have HF : Hid (r = false) := HN.out fun h => by
              have h1 := h.2 k hlt
              rw [← HP.out] at h1
              rcases h1 with h1 | h1
              · exact e h1
              · rw [hasB_iff.2 h1] at hh; cases hh
            have HHq : Hid (∀ m, Calls Tryd.prog 117 #[.slice (A k) (row zss k).length (C k), .int .i64 p] (wr.drewN m) fun e w' => e = .returned (.bool false) ∧ wr.drewN m = w') := fun m => l7HasIn_is hh (C k) (HRw.out.same ⟨m, rfl⟩)
            clear e hh
            go_wp2
            go_quiet ((go_at_call 117; exact quiet_eq (HHq.out _)))
            go_wp2
            go_ret
            exact ⟨ret_bool HF.out.symm, below_drewN Bw.out _⟩
          | true =>
            have HJn : Hid (∀ j, j < k + 1 → nth Pk j = -1 ∨ nth Pk j ∈ row zss j) := fun j hj => by
              by_cases h : j = k
              · subst h; exact .inr (by rw [← HP.out]; exact hasB_iff.1 hh)
              · exact HJ.out j (by omega)
            have HHq : Hid (∀ m, Calls Tryd.prog 117 #[.slice (A k) (row zss k).length (C k), .int .i64 p] (wr.drewN m) fun e w' => e = .returned (.bool true) ∧ wr.drewN m = w') := fun m => l7HasIn_is hh (C k) (HRw.out.same ⟨m, rfl⟩)
            clear e hh
            go_wp2
            go_quiet ((go_at_call 117; exact quiet_eq (HHq.out _)))
            go_wp2
            go_roundw
            case rel => exact ⟨k + 1, by omega, by go_num, HJn, below_drewN HB.out _⟩
            case measure => simp [intOf]; omega
      · have hi1 : ¬ (k : Int) < Pk.length := by omega
        have HF : Hid (r = true) := HY.out ⟨HL.out.trans HPL.out, fun v hv => HJ.out v (by omega)⟩
        go_wp2
        go_ret
        exact ⟨ret_bool HF.out.symm, Bw.out⟩
  · have hl1 : ((Pk.length : Int) != (P.length : Int)) = true := by simp; omega
    have hl2 : (Pk.length != P.length) = true := by simp; omega
    have HF : Hid (r = false) := HN.out fun h => hl (h.1.trans HPL.out.symm)
    clear hl
    go_enter Tryd.func96, Tryd.ntmps96
    go_wp2
    rw [← HW1.out]
    go_ret
    exact ⟨ret_bool HF.out.symm, B1.out⟩

end

end Go.Proofs.YtphkgnpkcfbnkabDoor
namespace Go.Proofs.YtphkgnpkcfbnkabDoor
section
open Go.RowKit

/-- The number whose binary digits are f 0, .., f (k - 1). -/
def wordN (f : Nat → Bool) : Nat → Nat
  | 0 => 0
  | k + 1 => wordN f k + (if f k = true then 2 ^ k else 0)

theorem wordN_lt (f : Nat → Bool) : ∀ k, wordN f k < 2 ^ k
  | 0 => by simp [wordN]
  | k + 1 => by
    have ih := wordN_lt f k
    rw [wordN, Nat.pow_succ]
    split <;> omega

theorem wordN_bit (f : Nat → Bool) : ∀ k i, (wordN f k).testBit i = (decide (i < k) && f i)
  | 0, i => by simp [wordN]
  | k + 1, i => by
    have ih := wordN_bit f k i
    have hl := wordN_lt f k
    by_cases h : f k = true
    · rw [wordN, if_pos h]
      have e := Nat.testBit_two_pow_mul_add 1 hl i
      rw [Nat.mul_one, Nat.add_comm] at e
      rw [e]
      by_cases hi : i < k
      · rw [if_pos hi, ih]; simp [hi]; intro; omega
      · rw [if_neg hi]
        by_cases e2 : i = k
        · subst e2; simp [h]
        · have : i - k = (i - k - 1) + 1 := by omega
          rw [this, Nat.testBit_succ]
          simp
          intro; omega
    · rw [wordN, if_neg h, Nat.add_zero, ih]
      by_cases hi : i < k
      · have : i < k + 1 := by omega
        simp [hi, this]
      · by_cases e2 : i = k
        · subst e2; simp at h; simp [h]
        · have h1 : ¬ i < k + 1 := by omega
          simp [hi, h1]

theorem wordN_congr {f g : Nat → Bool} {k : Nat} (h : ∀ i, i < k → f i = g i) : wordN f k = wordN g k := by
  refine Nat.eq_of_testBit_eq fun i => ?_
  rw [wordN_bit, wordN_bit]
  by_cases hi : i < k
  · simp [hi, h i hi]
  · simp [hi]

theorem wordN_none {f : Nat → Bool} {k : Nat} : wordN f k = 0 ↔ ∀ i, i < k → f i = false := by
  constructor
  · intro h i hi
    have := wordN_bit f k i
    rw [h] at this
    simpa [hi] using this.symm
  · intro h
    refine Nat.eq_of_testBit_eq fun i => ?_
    rw [wordN_bit, Nat.zero_testBit]
    by_cases hi : i < k
    · simp [h i hi]
    · simp [hi]

/-- The word i of the mask of a set. -/
def maskW (I : Nat → Bool) (i : Nat) : Nat := wordN (fun b => I (64 * i + b)) 64
theorem maskW_lt (I : Nat → Bool) (i : Nat) : maskW I i < 18446744073709551616 := wordN_lt _ 64
theorem maskW_bit (I : Nat → Bool) (i b : Nat) : (maskW I i).testBit b = (decide (b < 64) && I (64 * i + b)) := wordN_bit _ _ _
theorem maskW_none (i : Nat) : maskW (fun _ => false) i = 0 := wordN_none.2 fun _ _ => rfl

def orB (I J : Nat → Bool) : Nat → Bool := fun v => I v || J v
def andB (I J : Nat → Bool) : Nat → Bool := fun v => I v && J v
def oneB (x : Nat) : Nat → Bool := fun v => decide (v = x)

theorem maskW_or (I J : Nat → Bool) (i : Nat) : maskW I i ||| maskW J i = maskW (orB I J) i := by
  refine Nat.eq_of_testBit_eq fun b => ?_
  rw [Nat.testBit_or, maskW_bit, maskW_bit, maskW_bit, orB]
  cases decide (b < 64) <;> simp
theorem maskW_and (I J : Nat → Bool) (i : Nat) : maskW I i &&& maskW J i = maskW (andB I J) i := by
  refine Nat.eq_of_testBit_eq fun b => ?_
  rw [Nat.testBit_and, maskW_bit, maskW_bit, maskW_bit, andB]
  cases decide (b < 64) <;> simp
theorem maskW_less (I J : Nat → Bool) (i : Nat) : maskW I i &&& (18446744073709551615 - maskW J i) = maskW (lessB I J) i := by
  refine Nat.eq_of_testBit_eq fun b => ?_
  have hl : maskW J i < 2 ^ 64 := wordN_lt _ _
  have e : 18446744073709551615 - maskW J i = 2 ^ 64 - (maskW J i + 1) := by have := maskW_lt J i; omega
  rw [Nat.testBit_and, e, Nat.testBit_two_pow_sub_succ hl, maskW_bit, maskW_bit, maskW_bit, lessB]
  cases decide (b < 64) <;> simp
theorem maskW_one (I : Nat → Bool) (v : Nat) : maskW I (v / 64) ||| 2 ^ (v % 64) = maskW (orB I (oneB v)) (v / 64) := by
  refine Nat.eq_of_testBit_eq fun b => ?_
  rw [Nat.testBit_or, maskW_bit, maskW_bit, Nat.testBit_two_pow, orB, oneB]
  by_cases hb : b < 64
  · have : (v % 64 = b) ↔ (64 * (v / 64) + b = v) := by omega
    simp [hb, this]
  · have : v % 64 ≠ b := by omega
    simp [hb, this]
theorem maskW_other (I : Nat → Bool) {v i : Nat} (h : i ≠ v / 64) : maskW (orB I (oneB v)) i = maskW I i := wordN_congr fun b hb => by
  have : 64 * i + b ≠ v := by omega
  simp [orB, oneB, this]
theorem maskW_has (I : Nat → Bool) (v : Nat) : maskW I (v / 64) / 2 ^ (v % 64) % 2 = if I v = true then 1 else 0 := by
  have h := maskW_bit I (v / 64) (v % 64)
  rw [Nat.testBit_eq_decide_div_mod_eq] at h
  have e : 64 * (v / 64) + v % 64 = v := by omega
  have hl : v % 64 < 64 := by omega
  rw [e] at h
  cases hI : I v with
  | true => rw [hI] at h; simp [hl] at h; rw [if_pos rfl]; exact h
  | false => rw [hI] at h; simp at h; simp; omega

/-- Two sets with the same masks are one below 256. -/
theorem maskW_eq {I J : Nat → Bool} : (∀ i, i < 4 → maskW I i = maskW J i) ↔ ∀ v, v < 256 → I v = J v := by
  constructor
  · intro h v hv
    have h1 := congrArg (fun x => x.testBit (v % 64)) (h (v / 64) (by omega))
    simp only [maskW_bit] at h1
    have e : 64 * (v / 64) + v % 64 = v := by omega
    have hl : v % 64 < 64 := by omega
    rw [e] at h1
    simpa [hl] using h1
  · intro h i hi
    exact wordN_congr fun b hb => h _ (by omega)

/-- What is left of the word i from its digit k on. -/
def restW (I : Nat → Bool) (i k : Nat) : Nat := wordN (fun b => I (64 * i + b) && decide (k ≤ b)) 64
theorem restW_zero (I : Nat → Bool) (i : Nat) : restW I i 0 = maskW I i := wordN_congr fun b _ => by simp
theorem restW_lt (I : Nat → Bool) (i k : Nat) : restW I i k < 18446744073709551616 := wordN_lt _ 64
theorem restW_bit (I : Nat → Bool) (i k b : Nat) : (restW I i k).testBit b = (decide (b < 64) && (I (64 * i + b) && decide (k ≤ b))) := wordN_bit _ _ _
/-- Nothing is left. -/
theorem restW_none {I : Nat → Bool} {i k : Nat} : restW I i k = 0 ↔ ∀ b, b < 64 → k ≤ b → I (64 * i + b) = false := by
  rw [restW, wordN_none]
  constructor
  · intro h b hb hk
    simpa [hk] using h b hb
  · intro h b hb
    by_cases hk : k ≤ b
    · simp [h b hb hk]
    · simp [hk]

/-- An odd number's digits times a power of two. -/
theorem odd_bits {x k m : Nat} (h : x = 2 ^ k * (2 * m + 1)) : x.testBit k = true ∧ ∀ b, b < k → x.testBit b = false := by
  subst h
  rw [Nat.mul_comm]
  constructor
  · rw [Nat.testBit_mul_two_pow]; simp
  · intro b hb
    rw [Nat.testBit_mul_two_pow]; simp; omega
theorem odd_drop {x k m : Nat} (h : x = 2 ^ k * (2 * m + 1)) (b : Nat) : (x &&& (x - 1)).testBit b = (x.testBit b && decide (k < b)) := by
  have hp : 0 < 2 ^ k := Nat.two_pow_pos k
  have e1 : x - 1 = 2 ^ k * (2 * m) + (2 ^ k - 1) := by
    rw [h, Nat.mul_add, Nat.mul_one]; omega
  have e2 : x = 2 ^ k * (2 * m + 1) + 0 := by rw [h]; rfl
  rw [Nat.testBit_and, e1, Nat.testBit_two_pow_mul_add _ (by omega)]
  by_cases hb : b < k
  · rw [(odd_bits h).2 b hb]; simp
  · rw [if_neg hb]
    by_cases e : b = k
    · subst e; simp
    · have h1 : b - k = (b - k - 1) + 1 := by omega
      have hx : x.testBit b = (2 * m + 1).testBit (b - k) := by
        rw [e2, Nat.testBit_two_pow_mul_add _ hp, if_neg hb]
      rw [hx, h1, Nat.testBit_succ, Nat.testBit_succ]
      have d1 : (2 * m + 1) / 2 = m := by omega
      have d2 : 2 * m / 2 = m := by omega
      rw [d1, d2]
      have : k < b := by omega
      simp [this]

/-- The least digit that is left. -/
theorem restW_next {I : Nat → Bool} {i k : Nat} (h : restW I i k ≠ 0) : ∃ c, Lib.ctz 64 (restW I i k) = c ∧ c < 64 ∧ k ≤ c ∧ I (64 * i + c) = true ∧ (∀ b, k ≤ b → b < c → I (64 * i + b) = false) ∧
    restW I i k &&& (restW I i k - 1) = restW I i (c + 1) := by
  obtain ⟨m, hm, hc⟩ := Lib.ctzFrom_spec 64 (restW I i k) (by omega) (restW_lt I i k)
  have e : Lib.ctz 64 (restW I i k) = Lib.ctzFrom 64 (restW I i k) := by unfold Lib.ctz; rw [if_neg h]
  refine ⟨_, e, hc, ?_⟩
  obtain ⟨c, hcc⟩ : ∃ c, c = Lib.ctzFrom 64 (restW I i k) := ⟨_, rfl⟩
  rw [← hcc] at hm hc ⊢
  have hb := odd_bits hm
  have h1 := hb.1
  rw [restW_bit] at h1
  simp at h1
  refine ⟨h1.2.2, h1.2.1, fun b hkb hbc => ?_, ?_⟩
  · have h2 := hb.2 b hbc
    rw [restW_bit] at h2
    have hb64 : b < 64 := by omega
    simpa [hb64, hkb] using h2
  · refine Nat.eq_of_testBit_eq fun b => ?_
    rw [odd_drop hm, restW_bit, restW_bit]
    by_cases h3 : c < b
    · have h4 : k ≤ b := by omega
      have h5 : c + 1 ≤ b := by omega
      simp [h3, h4, h5]
    · have h5 : ¬ c + 1 ≤ b := by omega
      simp [h3, h5]

/-- The members of a set below v are those below u, where there is none between. -/
theorem marked_skip {I : Nat → Bool} {u : Nat} : ∀ {v : Nat}, u ≤ v → (∀ x, u ≤ x → x < v → I x = false) → markedK I v = markedK I u
  | 0, h, _ => by have : u = 0 := by omega
                  rw [this]
  | v + 1, h, hn => by
    by_cases e : u = v + 1
    · rw [e]
    · rw [markedK, hn v (by omega) (by omega)]
      simp
      exact marked_skip (by omega) fun x h1 h2 => hn x h1 (by omega)

end
end Go.Proofs.YtphkgnpkcfbnkabDoor
