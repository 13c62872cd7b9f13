/-
  Contracts of chapter 7: the model's l7None, l7All, l7Region, l7Same, l7HasIn, l7Won, l7Holds.
-/
import Derived.Test.YtokcinhopajniaaGreatDoorWonIn
import Derived.Deep.RegionHeld3
namespace Go.Proofs.YtokcinhopajniaaGreatDoor
section
open Go.RowKit

theorem rep_take {k : Nat} : List.replicate (k + 1) (-1 : Int) = List.replicate k (-1) ++ [-1] := by
  rw [List.replicate_succ']

set_option maxHeartbeats 4000000 in
set_option maxRecDepth 100000 in
theorem l7None_is {w : World} (n : Nat) (hn : n ≤ 1048576) :
    Calls Tryz.prog 72 #[.int .i64 n] w (GivesInts w (List.replicate n (-1))) := by
  obtain ⟨i0, hi, hz0, hz1, hz2⟩ := info_parts info_int
  obtain ⟨w1, hw1⟩ : ∃ y, y = w.alloc (.cells #[] 2) := ⟨_, rfl⟩
  have HW1 := Lib.hid hw1
  have K1 : Hid (Below w.heap.size w w1) := by rw [hw1]; exact below1 _ _
  have O1 : Hid (w1.ownsRow w.heap.size 2 1 (.slice (some ⟨w.heap.size, 0, none⟩) 0 0) (List.replicate 0 (-1 : Int)).length ((List.replicate 0 (-1 : Int)).map (Value.int .i64))) := by rw [hw1]; exact World.ownsRow_made w #[] 0 (Nat.le_refl _) (by unfold maxLen; omega) rfl
  clear hw1
  go_enter Tryz.func72, Tryz.ntmps72
  go_wp2
  rw [← HW1.out]
  go_loopw [3, 4] (fun ov iv wr => ∃ (k : Nat) (uu : Value), uu = ov ∧ k ≤ n ∧ iv = .int .i64 k ∧ Hid (wr.ownsRow w.heap.size 2 1 ov (List.replicate k (-1 : Int)).length ((List.replicate k (-1 : Int)).map (Value.int .i64))) ∧ Hid (Below w.heap.size w wr)) (fun _ iv _ => n - (intOf iv).toNat)
  case atStart => exact ⟨0, _, rfl, Nat.zero_le _, rfl, O1, K1⟩
  case round =>
    clear O1 K1
    obtain ⟨k, uu, hu0, hk, rfl, HO, HK⟩ := hrel
    subst hu0
    have hksz := HK.out.size
    have hll : (List.replicate k (-1 : Int)).length = k := by simp
    by_cases hlt : k < n
    · have hi1 : (k : Int) < n := by omega
      have hk0 : (0 : Int) ≤ (k : Int) := by omega
      have HST := Lib.hid (rep_take (k := k))
      go_wp2_with (at_builtin; refine wpList_append_own_at _ rfl _ _ 27 rfl w.heap.size 2 i0 (.int .i64 0) 1 8 Tryz.underlying27 hi hz0 hz1 hz2 rfl (by decide) _ _ _ rfl (HO.out.alloc _) ⟨wr.heap.size, 0, none⟩ 1 1 [.int .i64 (-1)] rfl rfl ?c1 ?c2 ?c3 ?c4 ?c5 ?_)
      try (case c1 => exact cell_one_new _ _ _)
      try (case c2 => first | rfl | (intro u hu; simp at hu; subst hu; rfl))
      case c3 => unfold maxLen; omega
      case c4 => omega
      case c5 => first | (simp; omega) | omega
      intro v' w5 hown hgrow _ _
      have hg : Only (fun b => w.heap.size ≤ b) wr w5 := (Only.of_below (below1 wr _)).trans ((Only.of_grown hgrow).mono fun b hb => (HO.out.lt b hb).1)
      have Kn := Lib.hid (HK.out.trans (hg.below HK.out.size (fun _ h => h)))
      have HOn : Hid (w5.ownsRow w.heap.size 2 1 v' (List.replicate (k + 1) (-1 : Int)).length ((List.replicate (k + 1) (-1 : Int)).map (Value.int .i64))) := by
        have e1 : (List.replicate (k + 1) (-1 : Int)).length = k + 1 := by simp
        have e2 : (List.replicate (k + 1) (-1 : Int)).map (Value.int .i64) = List.replicate k (Value.int .i64 (-1)) ++ [Value.int .i64 (-1)] := by rw [HST.out]; simp
        unfold Hid
        rw [e1, e2]
        exact hown
      clear hown hgrow hg
      go_wp2
      go_roundw
      case rel => exact ⟨k + 1, _, rfl, by omega, by go_num, HOn, Kn⟩
      case measure => simp [intOf]; omega
    · have hi1 : ¬ (k : Int) < n := by omega
      have hkk : k = n := by omega
      rw [hkk] at HO
      have hfin := Lib.hid (OwnInts.mk' HO.out (by simp; omega) (fun j hj => by
        have hj' : j < n := by simpa using hj
        rw [none_nth hj']; unfold Fits; omega))
      clear hkk HO
      go_wp2
      go_ret
      exact ⟨_, rfl, hfin.out, HK.out⟩

set_option maxHeartbeats 4000000 in
set_option maxRecDepth 100000 in
theorem l7All_is {w : World} (n : Nat) (hn : n ≤ 1048576) :
    Calls Tryz.prog 148 #[.int .i64 n] w (GivesMarks w n (allI n)) := by
  have hmk := run_make_row' (P := Tryz.prog) 84 4 (.bool false) 1 Tryz.underlying84 info_bool rfl .i64 .i64 n (by omega) (by omega)
  have R0 : Hid ((w.alloc (.cells (madeCells #[.bool false] n) 4)).rowIs w.heap.size 4 n (marksV (outK (allI n) 0))) := outK_new
  have B0 := Lib.hid (below1 w (.cells (madeCells #[.bool false] n) 4))
  go_enter Tryz.func148, Tryz.ntmps148
  go_wp2
  go_loopw [4] (fun iv wr => ∃ k : Nat, k ≤ n ∧ iv = .int .i64 k ∧ Hid (wr.rowIs w.heap.size 4 n (marksV (outK (allI n) k))) ∧ Hid (Below w.heap.size w wr)) (fun iv _ => n - (intOf iv).toNat)
  case atStart => exact ⟨0, Nat.zero_le _, rfl, R0, B0⟩
  case round =>
    clear hmk R0 B0
    obtain ⟨k, hk, rfl, HR, HB⟩ := hrel
    by_cases hlt : k < n
    · have hi1 : (k : Int) < n := by omega
      have hk0 : (0 : Int) ≤ (k : Int) := by omega
      have hcs := HR.out.cell hlt
      have hcf := HR.out.frozen k
      have R1 : Hid ((wr.setCell ⟨w.heap.size, k, none⟩ (.bool true)).rowIs w.heap.size 4 n (marksV (outK (allI n) (k + 1)))) := outK_set HR.out (by simp [allI, hlt])
      have B1 := Lib.hid (HB.out.setCell (p := ⟨w.heap.size, k, none⟩) (Nat.le_refl _) (.bool true))
      go_wp2
      go_roundw
      case rel => exact ⟨k + 1, by omega, by go_num, R1, B1⟩
      case measure => simp [intOf]; omega
    · have hi1 : ¬ (k : Int) < n := by omega
      have hkk : k = n := by omega
      rw [hkk] at HR
      have HF := Lib.hid (outK_all HR.out)
      clear hkk HR
      go_wp2
      go_ret
      exact ⟨_, rfl, Nat.le_refl _, HF.out, HB.out⟩

/-- Whose vertices they are. -/
def regI (X : List Int) (who : Int) : Nat → Bool := fun v => nth X v == who

set_option maxHeartbeats 4000000 in
set_option maxRecDepth 100000 in
theorem l7Region_is {w : World} {aX : Option Addr} {X : List Int} {who : Int} (cX : Nat) (hX : IntsAt w aX X) (hn : X.length ≤ 1048576) :
    Calls Tryz.prog 113 #[.slice aX X.length cX, .int .i64 who] w (GivesMarks w X.length (regI X who)) := by
  have hmk := run_make_row' (P := Tryz.prog) 84 4 (.bool false) 1 Tryz.underlying84 info_bool rfl .i64 .i64 X.length (by omega) (by omega)
  have HX := Lib.hid hX
  have R0 : Hid ((w.alloc (.cells (madeCells #[.bool false] X.length) 4)).rowIs w.heap.size 4 X.length (marksV (outK (regI X who) 0))) := outK_new
  have B0 := Lib.hid (below1 w (.cells (madeCells #[.bool false] X.length) 4))
  clear hX
  go_enter Tryz.func113, Tryz.ntmps113
  go_wp2
  go_loopw [6] (fun iv wr => ∃ k : Nat, k ≤ X.length ∧ iv = .int .i64 k ∧ Hid (wr.rowIs w.heap.size 4 X.length (marksV (outK (regI X who) k))) ∧ Hid (Below w.heap.size w wr)) (fun iv _ => X.length - (intOf iv).toNat)
  case atStart => exact ⟨0, Nat.zero_le _, rfl, R0, B0⟩
  case round =>
    clear hmk R0 B0
    obtain ⟨k, hk, rfl, HR, HB⟩ := hrel
    by_cases hlt : k < X.length
    · have hi1 : (k : Int) < X.length := by omega
      have hk0 : (0 : Int) ≤ (k : Int) := by omega
      obtain ⟨xb, xo, hxa, hxc⟩ := (HX.out.below HB.out).cell (by omega)
      have x1 := hxc k hlt
      obtain ⟨q, hq⟩ : ∃ q, q = nth X k := ⟨_, rfl⟩
      rw [← hq] at x1
      have hcs := HR.out.cell hlt
      have hcf := HR.out.frozen k
      have R1 : Hid ((wr.setCell ⟨w.heap.size, k, none⟩ (.bool (q == who))).rowIs w.heap.size 4 X.length (marksV (outK (regI X who) (k + 1)))) := outK_set HR.out (by unfold regI; rw [hq])
      have B1 := Lib.hid (HB.out.setCell (p := ⟨w.heap.size, k, none⟩) (Nat.le_refl _) (.bool (q == who)))
      subst hxa
      clear hxc hq
      go_wp2
      go_roundw
      case rel => exact ⟨k + 1, by omega, by go_num, R1, B1⟩
      case measure => simp [intOf]; omega
    · have hi1 : ¬ (k : Int) < X.length := by omega
      have hkk : k = X.length := by omega
      rw [hkk] at HR
      have HF := Lib.hid (outK_all HR.out)
      clear hkk HR
      go_wp2
      go_ret
      exact ⟨_, rfl, Nat.le_refl _, HF.out, HB.out⟩

theorem same_of {X Y : List Int} (hl : X.length = Y.length) (h : ∀ j, j < X.length → nth X j = nth Y j) : X = Y := by
  apply List.ext_getElem hl
  intro i h1 h2
  have := h i h1
  rwa [nth_eq h1, nth_eq h2] at this

set_option maxHeartbeats 4000000 in
set_option maxRecDepth 100000 in
theorem l7Same_is {w : World} {aX aY : Option Addr} {X Y : List Int} {r : Bool} (cX cY : Nat) (hr : decide (X = Y) = r) (hX : IntsAt w aX X) (hY : IntsAt w aY Y) :
    Calls Tryz.prog 146 #[.slice aX X.length cX, .slice aY Y.length cY] w fun e w' => e = .returned (.bool r) ∧ Below w.heap.size w w' := by
  have HX := Lib.hid hX
  have HY := Lib.hid hY
  have hlX := hX.len
  have hlY := hY.len
  have HN : Hid (X ≠ Y → r = false) := fun h => by rw [← hr]; exact decide_eq_false h
  have HE : Hid (X = Y → r = true) := fun h => by rw [← hr]; exact decide_eq_true h
  clear hX hY hr
  by_cases hl : X.length = Y.length
  · have hl1 : ((X.length : Int) != (Y.length : Int)) = false := by simp; omega
    have hl2 : (X.length != Y.length) = false := by simp; omega
    have HL := Lib.hid hl
    clear hl
    go_enter Tryz.func146, Tryz.ntmps146
    go_wp2
    go_loopw [5] (fun iv wr => ∃ k : Nat, k ≤ X.length ∧ iv = .int .i64 k ∧ Hid (∀ j, j < k → nth X j = nth Y j) ∧ Hid (Below w.heap.size w wr)) (fun iv _ => X.length - (intOf iv).toNat)
    case atStart => exact ⟨0, Nat.zero_le _, rfl, fun j hj => absurd hj (Nat.not_lt_zero _), Below.refl _ _⟩
    case round =>
      obtain ⟨k, hk, rfl, HJ, HB⟩ := hrel
      by_cases hlt : k < X.length
      · have hi1 : (k : Int) < X.length := by omega
        have hk0 : (0 : Int) ≤ (k : Int) := by omega
        have hkY : k < Y.length := by have := HL.out; omega
        have hi2 : (k : Int) < Y.length := by omega
        obtain ⟨xb, xo, hxa, hxc⟩ := (HX.out.below HB.out).cell (by omega)
        obtain ⟨yb, yo, hya, hyc⟩ := (HY.out.below HB.out).cell (by omega)
        have x1 := hxc k hlt
        have y1 := hyc k hkY
        obtain ⟨x, hx⟩ : ∃ q, q = nth X k := ⟨_, rfl⟩
        obtain ⟨y, hy⟩ : ∃ q, q = nth Y k := ⟨_, rfl⟩
        rw [← hx] at x1
        rw [← hy] at y1
        have HXk := Lib.hid hx
        have HYk := Lib.hid hy
        subst hxa
        subst hya
        clear hxc hyc hx hy
        by_cases e : x = y
        · have he : (x != y) = false := by simpa using e
          have HJn : Hid (∀ j, j < k + 1 → nth X j = nth Y j) := fun j hj => by
            by_cases h : j = k
            · subst h; rw [← HXk.out, ← HYk.out]; exact e
            · exact HJ.out j (by omega)
          clear e
          go_wp2
          go_quiet (fail)
          go_wp2
          go_roundw
          case rel => exact ⟨k + 1, by omega, by go_num, HJn, below_drewN HB.out _⟩
          case measure => simp [intOf]; omega
        · have he : (x != y) = true := by simpa using e
          have HF : Hid (r = false) := HN.out fun h => e (by rw [HXk.out, HYk.out, h])
          clear e
          go_wp2
          go_quiet (fail)
          go_wp2
          go_ret
          exact ⟨ret_bool HF.out.symm, below_drewN HB.out _⟩
      · have hi1 : ¬ (k : Int) < X.length := by omega
        have HF : Hid (r = true) := HE.out (same_of HL.out fun j hj => HJ.out j (by omega))
        go_wp2
        go_ret
        exact ⟨ret_bool HF.out.symm, HB.out⟩
  · have hl1 : ((X.length : Int) != (Y.length : Int)) = true := by simp; omega
    have hl2 : (X.length != Y.length) = true := by simp; omega
    have HF : Hid (r = false) := HN.out fun h => hl (by rw [h])
    clear hl
    go_enter Tryz.func146, Tryz.ntmps146
    go_wp2
    go_ret
    exact ⟨ret_bool HF.out.symm, Below.refl _ _⟩

set_option maxHeartbeats 4000000 in
set_option maxRecDepth 100000 in
theorem l7HasIn_is {w : World} {a : Option Addr} {zs : List Int} {x : Int} {r : Bool} (hr : hasB zs x = r) (cap : Nat) (h : IntsAt w a zs) :
    Calls Tryz.prog 197 #[.slice a zs.length cap, .int .i64 x] w fun e w' => e = .returned (.bool r) ∧ w = w' := by
  have H := Lib.hid h
  have hl := h.len
  have HN : Hid (x ∉ zs → r = false) := fun h => by rw [← hr]; unfold hasB; exact decide_eq_false h
  have HE : Hid (x ∈ zs → r = true) := fun h => by rw [← hr]; unfold hasB; exact decide_eq_true h
  clear h hr
  go_enter Tryz.func197, Tryz.ntmps197
  go_wp2
  go_loopw [5] (fun iv wr => ∃ k : Nat, k ≤ zs.length ∧ iv = .int .i64 k ∧ Hid (∀ j, j < k → nth zs j ≠ x) ∧ w = wr) (fun iv _ => zs.length - (intOf iv).toNat)
  case atStart => exact ⟨0, Nat.zero_le _, rfl, fun j hj => absurd hj (Nat.not_lt_zero _), rfl⟩
  case round =>
    obtain ⟨k, hk, rfl, HJ, rfl⟩ := hrel
    by_cases hlt : k < zs.length
    · have hi1 : (k : Int) < zs.length := by omega
      have hk0 : (0 : Int) ≤ (k : Int) := by omega
      obtain ⟨b, off, ha, hc⟩ := H.out.cell (by omega)
      have z1 := hc k hlt
      obtain ⟨z, hz⟩ : ∃ q, q = nth zs k := ⟨_, rfl⟩
      rw [← hz] at z1
      have HZ := Lib.hid hz
      subst ha
      clear hc hz
      by_cases e : z = x
      · have he : (z == x) = true := by simpa using e
        have HF : Hid (r = true) := HE.out (by rw [← e, HZ.out]; exact nth_mem hlt)
        clear e
        go_wp2
        go_ret
        exact ⟨ret_bool HF.out.symm, rfl⟩
      · have he : (z == x) = false := beq_eq_false_iff_ne.2 e
        have HJn : Hid (∀ j, j < k + 1 → nth zs j ≠ x) := fun j hj => by
          by_cases h : j = k
          · subst h; rw [← HZ.out]; exact e
          · exact HJ.out j (by omega)
        clear e
        go_wp2
        go_roundw
        case rel => exact ⟨k + 1, by omega, by go_num, HJn, by simp⟩
        case measure => simp [intOf]; omega
    · have hi1 : ¬ (k : Int) < zs.length := by omega
      have HF : Hid (r = false) := HN.out fun h => by
        obtain ⟨j, hj, e⟩ := mem_nth.1 h
        exact HJ.out j (by omega) e
      go_wp2
      go_ret
      exact ⟨ret_bool HF.out.symm, rfl⟩

/-- Does who win all of I, by the picks? -/
noncomputable def holdsZ (zss : List (List Int)) (O P Pk : List Int) (I : Nat → Bool) (who : Int) : Bool := !anyK (fun v => I v && (winZ (zssE zss Pk) O (nth P) zss.length I v != decide (who = 0))) zss.length
theorem anyK_no {f : Nat → Bool} : ∀ {n : Nat}, anyK f n = false ↔ ∀ v, v < n → f v = false
  | 0 => by simp [anyK]
  | n + 1 => by
    rw [anyK, Bool.or_eq_false_iff, anyK_no]
    constructor
    · rintro ⟨h1, h2⟩ v hv
      by_cases e : v = n
      · subst e; exact h2
      · exact h1 v (by omega)
    · exact fun h => ⟨fun v hv => h v (by omega), h n (by omega)⟩

set_option maxHeartbeats 4000000 in
set_option maxRecDepth 100000 in
theorem l7Holds_is {ao ap an aq ak : Option Addr} {A : Nat → Option Addr} {C : Nat → Nat} {A' : Nat → Option Addr} {C' : Nat → Nat} {zss : List (List Int)} {O P Pk : List Int} (co cp cn cq ck : Nat)
    (hz : RowsP zss) (hOl : O.length = zss.length) (hPl : P.length = zss.length) (hpk : Pk.length = zss.length) (hz256 : zss.length ≤ 256) (hr16 : ∀ v, v < zss.length → (row zss v).length ≤ 16)
    {w : World} {I : Nat → Bool} {bI : Nat} {who : Int} {r : Bool} (hr : holdsZ zss O P Pk I who = r) (hO : IntsAt w ao O) (hP : IntsAt w ap P) (hn : RowsAt w an A C zss) (hq : RowsAt w aq A' C' (rowsOf zss.length fun u => predsK zss u zss.length)) (hk : IntsAt w ak Pk) (hI : w.rowIs bI 4 zss.length (marksV I)) :
    Calls Tryz.prog 150 #[.agg #[.slice ao O.length co, .slice ap P.length cp, .slice an zss.length cn, .slice aq zss.length cq, .slice ak Pk.length ck], .slice (some ⟨bI, 0, none⟩) zss.length zss.length, .int .i64 who] w fun e w' => e = .returned (.bool r) ∧ Below w.heap.size w w' := by
  obtain ⟨n, hnl⟩ : ∃ n, n = zss.length := ⟨_, rfl⟩
  obtain ⟨w1, hw1⟩ : ∃ y, y = w.alloc (.cells #[.slice ao O.length co, .slice ap P.length cp, .slice an zss.length cn, .slice aq zss.length cq, .slice ak Pk.length ck] 144) := ⟨_, rfl⟩
  have HW1 := Lib.hid hw1
  have B1 : Hid (Below w.heap.size w w1) := by rw [hw1]; exact below1 _ _
  have X1 : Box5 w1 w.heap.size 144 (.slice ao O.length co) (.slice ap P.length cp) (.slice an zss.length cn) (.slice aq zss.length cq) (.slice ak Pk.length ck) := by rw [hw1]; exact Box5.new _ _ _ _ _ _ _
  have x0 := X1.c0
  have x1 := X1.c1
  have x2 := X1.c2
  have x3 := X1.c3
  have x4 := X1.c4
  rw [hw1] at x0 x1 x2 x3 x4
  have HC := Lib.hid (l7Win_is co cp cn cq ck hz hOl hPl hpk hz256 hr16 zss.length (hO.below B1.out) (hP.below B1.out) (hn.below B1.out) (hq.below B1.out) (hk.below B1.out) (rowIs_below hI B1.out) (markedK_len _ _))
  obtain ⟨F, hF⟩ : ∃ F, winZ (zssE zss Pk) O (nth P) zss.length I = F := ⟨_, rfl⟩
  rw [hF] at HC
  unfold holdsZ at hr
  rw [hF] at hr
  obtain ⟨f, hf⟩ : ∃ f : Nat → Bool, f = fun v => I v && (F v != decide (who = 0)) := ⟨_, rfl⟩
  rw [← hf] at hr
  have HFF := Lib.hid hf
  have HY : Hid ((∀ v, v < n → f v = false) → r = true) := fun h => by rw [← hr, anyK_no.2 (by rw [← hnl]; exact h)]; rfl
  have HN : Hid (∀ v, v < n → f v = true → r = false) := fun v hv h => by
    rw [← hr]
    cases ha : anyK f zss.length with
    | true => rfl
    | false => rw [anyK_no.1 ha v (by rw [← hnl]; exact hv)] at h; cases h
  have HI := Lib.hid hI
  rw [← hnl] at HC HI hz256
  rw [← hnl] at x2 x3
  have HW1' := HW1
  rw [← hnl] at HW1'
  rw [← hnl]
  obtain ⟨nO, hnO⟩ : ∃ x, x = O.length := ⟨_, rfl⟩
  clear hw1 X1 hz hOl hPl hpk hr16 hr hO hP hn hq hk hI hF hf hnl
  go_enter Tryz.func150, Tryz.ntmps150
  go_wp2_with fail
  rw [← HW1'.out]
  refine HC.out.mono ?_
  rintro e w2 ⟨bF, rfl, hbF, hM, hb⟩
  have M2 := Lib.hid hM
  have K2 := Lib.hid (rowIs_below (rowIs_below HI.out B1.out) hb)
  have B2 := Lib.hid (B1.out.trans (hb.mono B1.out.size))
  clear hM hb hbF HC x0 x1 x2 x3 x4
  go_wp2
  go_loopw [8] (fun iv wr => ∃ k : Nat, k ≤ n ∧ iv = .int .i64 k ∧ Hid (∀ v, v < k → f v = false) ∧ Hid (Below w2.heap.size w2 wr)) (fun iv _ => n - (intOf iv).toNat)
  case atStart => exact ⟨0, Nat.zero_le _, rfl, fun j hj => absurd hj (Nat.not_lt_zero _), Below.refl _ _⟩
  case round =>
    obtain ⟨k, hk, rfl, HJ, HB⟩ := hrel
    have Bw := Lib.hid (B2.out.trans (HB.out.mono B2.out.size))
    by_cases hlt : k < n
    · have hi1 : (k : Int) < n := by omega
      have hk0 : (0 : Int) ≤ (k : Int) := by omega
      have i1 := (rowIs_below K2.out HB.out).cell hlt
      have f1 := (rowIs_below M2.out HB.out).cell hlt
      unfold marksV at i1 f1
      have hfk : f k = (I k && (F k != decide (who = 0))) := by rw [HFF.out]
      have HFK := Lib.hid hfk
      clear hfk
      cases hIk : I k with
      | false =>
        rw [hIk] at i1
        have HJn : Hid (∀ v, v < k + 1 → f v = false) := fun v hv => by
          by_cases e : v = k
          · subst e; rw [HFK.out, hIk]; rfl
          · exact HJ.out v (by omega)
        clear hIk
        go_wp2
        go_roundw
        case rel => exact ⟨k + 1, by omega, by go_num, HJn, HB⟩
        case measure => simp [intOf]; omega
      | true =>
        rw [hIk] at i1
        obtain ⟨bw, hbw⟩ : ∃ b, (who == 0) = b := ⟨_, rfl⟩
        have hdw : decide (who = 0) = bw := by rw [← hbw]; rfl
        obtain ⟨bf, hbf⟩ : ∃ b, F k = b := ⟨_, rfl⟩
        rw [hbf] at f1
        have hfx : f k = (bf != bw) := by rw [HFK.out, hIk, hbf, hdw]; rfl
        have HFX := Lib.hid hfx
        clear hIk hbf hfx hdw
        cases bf with
        | false =>
          cases bw with
          | false =>
            have HJn : Hid (∀ v, v < k + 1 → f v = false) := fun v hv => by
              by_cases e : v = k
              · subst e; exact HFX.out
              · exact HJ.out v (by omega)
            go_wp2
            go_roundw
            case rel => exact ⟨k + 1, by omega, by go_num, HJn, HB⟩
            case measure => simp [intOf]; omega
          | true =>
            have HR : Hid (r = false) := HN.out k hlt HFX.out
            go_wp2
            go_ret
            exact ⟨ret_bool HR.out.symm, Bw.out⟩
        | true =>
          cases bw with
          | false =>
            have HR : Hid (r = false) := HN.out k hlt HFX.out
            go_wp2
            go_ret
            exact ⟨ret_bool HR.out.symm, Bw.out⟩
          | true =>
            have HJn : Hid (∀ v, v < k + 1 → f v = false) := fun v hv => by
              by_cases e : v = k
              · subst e; exact HFX.out
              · exact HJ.out v (by omega)
            go_wp2
            go_roundw
            case rel => exact ⟨k + 1, by omega, by go_num, HJn, HB⟩
            case measure => simp [intOf]; omega
    · have hi1 : ¬ (k : Int) < n := by omega
      have HR : Hid (r = true) := HY.out fun v hv => HJ.out v (by omega)
      go_wp2
      go_ret
      exact ⟨ret_bool HR.out.symm, Bw.out⟩
end

section
open Go.RowKit

/-- The winners. -/
noncomputable def wonL (zss : List (List Int)) (O P : List Int) : List Int := fnL zss.length fun v => if wonZ zss O P v = true then 0 else 1
theorem wonL_len {zss : List (List Int)} {O P : List Int} : (wonL zss O P).length = zss.length := fnL_len _ _
theorem wonL_nth {zss : List (List Int)} {O P : List Int} {v : Nat} (h : v < zss.length) : nth (wonL zss O P) v = if wonZ zss O P v = true then 0 else 1 := fnL_nth h

theorem l1Flag_is (b : Bool) (w : World) : Calls Tryz.prog 149 #[.bool b] w fun e w' => e = .returned (.int .i64 (if b = true then 1 else 0)) ∧ w = w' := by
  cases b with
  | false =>
    go_enter Tryz.func149, Tryz.ntmps149
    go_wp2
    go_ret
    exact ⟨rfl, rfl⟩
  | true =>
    go_enter Tryz.func149, Tryz.ntmps149
    go_wp2
    go_ret
    exact ⟨rfl, rfl⟩

set_option maxHeartbeats 16000000 in
set_option maxRecDepth 100000 in
theorem l7Won_is {w : World} {v : Value} {O : List Int} {zss : List (List Int)} {P : List Int} (h : GameAt w v O zss P) (hp : parityB O zss P = true) :
    Calls Tryz.prog 111 #[v] w (GivesInts w (wonL zss O P)) := by
  obtain ⟨i0, hi, hz0, hz1, hz2⟩ := info_parts info_int
  obtain ⟨ao, an, ap, co, cn, cp, A, C, rfl, h1, h2, h3⟩ := h
  obtain ⟨hA, hPO, hPB⟩ := parityB_iff.1 hp
  obtain ⟨n, hn⟩ : ∃ n, n = zss.length := ⟨_, rfl⟩
  have hOl : O.length = n := by rw [hn]; exact hA.2.2.1.symm
  have hPl : P.length = n := by omega
  have hn256 : n ≤ 256 := by have := hA.2.1; omega
  have hz := rowsP_of hA
  have HO7 : Hid (∀ W, Below w.heap.size w W → Calls Tryz.prog 112 #[.agg #[.slice ao n co, .slice an n cn, .slice ap n cp]] W (GivesSolver W ao an ap co cn cp n zss)) := fun W hb => by
    have h := l7Of_is co cn cp (h1.below hb) (h2.below hb) (h3.below hb) hA (by omega)
    rw [hOl, hPl, ← hn] at h; exact h
  have HWin : Hid (∀ W q k bI V, Below w.heap.size w W → RowSet W w.heap.size q n V (fun u => predsK zss u n) → W.rowIs k 2 n (fun _ => .int .i64 (-1)) → W.rowIs bI 4 n (marksV (allI n)) →
      Calls Tryz.prog 147 #[.agg #[.slice ao n co, .slice ap n cp, .slice an n cn, .slice (some ⟨q, 0, none⟩) n n, .slice (some ⟨k, 0, none⟩) n n], .slice (some ⟨bI, 0, none⟩) n n] W (GivesMarks W n (wonZ zss O P))) := fun W q k bI V hb hq hk hM => by
    have hq' := prev_rows hq hn256
    rw [hn] at hk hM hq' hn256
    have h := l7Win_is (Pk := List.replicate zss.length (-1)) co cp cn n n hz (by omega) (by omega) (by simp) hn256 (fun v hv => (arena_rows hA hv).2.2) zss.length (h1.below hb) (h3.below hb) (h2.below hb) hq' (ints_none hk hn256) hM (markedK_len _ _)
    rw [zssE_none, List.length_replicate, hOl, hPl, ← hn] at h
    unfold wonZ
    rw [← hn]
    exact h
  have HAl : Hid (∀ W : World, Calls Tryz.prog 148 #[.int .i64 n] W (GivesMarks W n (allI n))) := fun W => l7All_is n (by omega)
  obtain ⟨F, hF⟩ : ∃ F, F = wonZ zss O P := ⟨_, rfl⟩
  obtain ⟨L, hL⟩ : ∃ L, L = wonL zss O P := ⟨_, rfl⟩
  have HLN : Hid (∀ k, fnL k (fun v => if F v = true then (0 : Int) else 1) = fnL k (fun v => if F v = true then (0 : Int) else 1)) := fun _ => rfl
  have HLL : Hid (L = fnL n fun v => if F v = true then 0 else 1) := by rw [hL, hF, hn]; rfl
  rw [← hF] at HWin
  rw [← hL, hOl, hPl, ← hn]
  clear hF hL h1 h2 h3 hA hPO hPB hp hz hOl hPl hn
  obtain ⟨w1, hw1⟩ : ∃ y, y = w.alloc (.cells #[.slice ao n co, .slice an n cn, .slice ap n cp] 32) := ⟨_, rfl⟩
  have HW1 := Lib.hid hw1
  have B1 : Hid (Below w.heap.size w w1) := by rw [hw1]; exact below1 _ _
  have T1 : Hid (Box3 w1 w.heap.size 32 (.slice ao n co) (.slice an n cn) (.slice ap n cp)) := by rw [hw1]; exact Box3.new _ _ _ _ _
  have Kd : Hid (Below w1.heap.size w1 w1.drew) := (Below.refl _ _).drew
  have HSv : Hid (∀ W, Below w1.heap.size w1 W → W.cell? ⟨w.heap.size, 0, none⟩ = some (.slice ao n co) ∧ W.cell? ⟨w.heap.size, 1, none⟩ = some (.slice an n cn) ∧ W.cell? ⟨w.heap.size, 2, none⟩ = some (.slice ap n cp)) := fun W hb => ⟨(T1.out.below hb).c0, (T1.out.below hb).c1, (T1.out.below hb).c2⟩
  have s0 := HSv.out _ Kd.out
  rw [hw1] at s0
  clear hw1
  go_enter Tryz.func111, Tryz.ntmps111
  go_wp2
  rw [← HW1.out] at s0 ⊢
  go_region_held3 (fun W => W.cell? ⟨w.heap.size, 0, none⟩ = some (.slice ao n co) ∧ W.cell? ⟨w.heap.size, 1, none⟩ = some (.slice an n cn) ∧ W.cell? ⟨w.heap.size, 2, none⟩ = some (.slice ap n cp))
    (first
      | exact HSv.out _ Kd.out
      | exact HSv.out _ Ka.out
      | exact HSv.out _ Kb.out
      | exact HSv.out _ Kc.out)
    (first
      | (go_at_call 147; refine (HWin.out _ q k bI V (B1.out.trans (Kb.out.mono B1.out.size)) Vb.out Pb.out Mb.out).mono ?_; rintro e wc ⟨bF, rfl, -, hM, hb⟩; have MF := Lib.hid hM; have Kc := Lib.hid (Kb.out.trans (hb.mono Kb.out.size)); clear hM hb)
      | (go_at_call 148; refine (HAl.out _).mono ?_; rintro e wb ⟨bI, rfl, -, hM, hb⟩; have Mb := Lib.hid hM; have Vb := Lib.hid (rowset_base (Va.out.below hb) (Nat.le_trans B1.out.size Kd.out.size)); have Pb := Lib.hid (rowIs_below Pa.out hb); have Kb := Lib.hid (Ka.out.trans (hb.mono Ka.out.size)); clear hM hb)
      | (go_at_call 112; refine (HO7.out _ (B1.out.trans (Kd.out.mono B1.out.size))).mono ?_; rintro e wa ⟨q, k, V, rfl, hV, hK, hb⟩; have Va := Lib.hid hV; have Pa := Lib.hid hK; have Ka := Lib.hid (Kd.out.trans (hb.mono Kd.out.size)); clear hV hK hb))
  obtain ⟨w2, hw2⟩ : ∃ y, y = wc.alloc (.cells #[] 2) := ⟨_, rfl⟩
  have HW2 := Lib.hid hw2
  have hb2 : Below wc.heap.size wc w2 := by rw [hw2]; exact below1 _ _
  have O2 : Hid (w2.ownsRow wc.heap.size 2 1 (.slice (some ⟨wc.heap.size, 0, none⟩) 0 0) (fnL 0 (fun v => if F v = true then (0 : Int) else 1)).length ((fnL 0 (fun v => if F v = true then (0 : Int) else 1)).map (Value.int .i64))) := by rw [hw2]; exact World.ownsRow_made wc #[] 0 (Nat.le_refl _) (by unfold maxLen; omega) rfl
  have M2 := Lib.hid (rowIs_below MF.out hb2)
  have Bc := Lib.hid (B1.out.trans (Kc.out.mono B1.out.size))
  have hs2 : wc.heap.size ≤ w2.heap.size := hb2.size
  have K2 : Hid (Below wc.heap.size wc w2) := hb2
  clear hw2 hb2 s0
  go_wp2
  rw [← HW2.out]
  go_loopw [4, 5] (fun ov iv wr => ∃ (k : Nat) (uu : Value), uu = ov ∧ k ≤ n ∧ iv = .int .i64 k ∧ Hid (wr.ownsRow wc.heap.size 2 1 ov (fnL k (fun v => if F v = true then (0 : Int) else 1)).length ((fnL k (fun v => if F v = true then (0 : Int) else 1)).map (Value.int .i64))) ∧ Hid (Below wc.heap.size wc wr)) (fun _ iv _ => n - (intOf iv).toNat)
  case atStart => exact ⟨0, _, rfl, Nat.zero_le _, rfl, O2, K2⟩
  case round =>
    clear O2 K2
    obtain ⟨k, uu, hu0, hk, rfl, HO, HK⟩ := hrel
    subst hu0
    have hksz := HK.out.size
    have hll : (fnL k (fun v => if F v = true then (0 : Int) else 1)).length = k := fnL_len _ _
    by_cases hlt : k < n
    · have hi1 : (k : Int) < n := by omega
      have hk0 : (0 : Int) ≤ (k : Int) := by omega
      have f1 := (rowIs_below MF.out HK.out).cell hlt
      unfold marksV at f1
      have hst : fnL (k + 1) (fun v => if F v = true then (0 : Int) else 1) = fnL k (fun v => if F v = true then (0 : Int) else 1) ++ [if F k = true then (0 : Int) else 1] := fnL_succ _ _
      obtain ⟨b, hb⟩ : ∃ b, F k = b := ⟨_, rfl⟩
      rw [hb] at f1 hst
      have HFl := Lib.hid (fun W => l1Flag_is b W)
      obtain ⟨g, hg⟩ : ∃ g, fnL k (fun v => if F v = true then (0 : Int) else 1) = g := ⟨_, rfl⟩
      rw [hg] at hst hll HO
      have HST := Lib.hid hst
      clear hst hb hg
      cases b with
      | false =>
        have HFl' : Hid (∀ W : World, Calls Tryz.prog 149 #[.bool false] W fun e w' => e = .returned (.int .i64 0) ∧ W = w') := fun W => by simpa using HFl.out W
        go_wp2_with fail
        refine (HFl'.out _).mono ?_
        rintro e w4 ⟨rfl, rfl⟩
        go_wp2_with (at_builtin; refine wpList_append_own_at _ rfl _ _ 27 rfl wc.heap.size 2 i0 (.int .i64 0) 1 8 Tryz.underlying27 hi hz0 hz1 hz2 rfl (by decide) _ _ _ rfl (HO.out.alloc _) ⟨wr.heap.size, 0, none⟩ 1 1 [.int .i64 1] rfl rfl ?c1 ?c2 ?c3 ?c4 ?c5 ?_)
        try (case c1 => exact cell_one_new _ _ _)
        try (case c2 => first | rfl | (intro u hu; simp at hu; subst hu; rfl))
        case c3 => unfold maxLen; omega
        case c4 => omega
        case c5 => first | (simp; omega) | omega
        intro v' w5 hown hgrow _ _
        have hg : Only (fun b => wc.heap.size ≤ b) wr w5 := (Only.of_below (below1 wr _)).trans ((Only.of_grown hgrow).mono fun b hb => (HO.out.lt b hb).1)
        have Kn := Lib.hid (HK.out.trans (hg.below HK.out.size (fun _ h => h)))
        have HOn : Hid (w5.ownsRow wc.heap.size 2 1 v' (fnL (k + 1) (fun v => if F v = true then (0 : Int) else 1)).length ((fnL (k + 1) (fun v => if F v = true then (0 : Int) else 1)).map (Value.int .i64))) := by
          rw [HST.out, List.map_append, List.length_append]; simpa [Hid, hll] using hown
        clear hown hgrow hg
        go_wp2
        go_roundw
        case rel => exact ⟨k + 1, _, rfl, by omega, by go_num, HOn, Kn⟩
        case measure => simp [intOf]; omega
      | true =>
        have HFl' : Hid (∀ W : World, Calls Tryz.prog 149 #[.bool true] W fun e w' => e = .returned (.int .i64 1) ∧ W = w') := fun W => by simpa using HFl.out W
        go_wp2_with fail
        refine (HFl'.out _).mono ?_
        rintro e w4 ⟨rfl, rfl⟩
        go_wp2_with (at_builtin; refine wpList_append_own_at _ rfl _ _ 27 rfl wc.heap.size 2 i0 (.int .i64 0) 1 8 Tryz.underlying27 hi hz0 hz1 hz2 rfl (by decide) _ _ _ rfl (HO.out.alloc _) ⟨wr.heap.size, 0, none⟩ 1 1 [.int .i64 0] rfl rfl ?c1 ?c2 ?c3 ?c4 ?c5 ?_)
        try (case c1 => exact cell_one_new _ _ _)
        try (case c2 => first | rfl | (intro u hu; simp at hu; subst hu; rfl))
        case c3 => unfold maxLen; omega
        case c4 => omega
        case c5 => first | (simp; omega) | omega
        intro v' w5 hown hgrow _ _
        have hg : Only (fun b => wc.heap.size ≤ b) wr w5 := (Only.of_below (below1 wr _)).trans ((Only.of_grown hgrow).mono fun b hb => (HO.out.lt b hb).1)
        have Kn := Lib.hid (HK.out.trans (hg.below HK.out.size (fun _ h => h)))
        have HOn : Hid (w5.ownsRow wc.heap.size 2 1 v' (fnL (k + 1) (fun v => if F v = true then (0 : Int) else 1)).length ((fnL (k + 1) (fun v => if F v = true then (0 : Int) else 1)).map (Value.int .i64))) := by
          rw [HST.out, List.map_append, List.length_append]; simpa [Hid, hll] using hown
        clear hown hgrow hg
        go_wp2
        go_roundw
        case rel => exact ⟨k + 1, _, rfl, by omega, by go_num, HOn, Kn⟩
        case measure => simp [intOf]; omega
    · have hi1 : ¬ (k : Int) < n := by omega
      have hkk : k = n := by omega
      rw [hkk, ← HLL.out] at HO
      have HLn : Hid (L.length ≤ 256 ∧ ∀ j, j < L.length → Fits (nth L j)) := by
        rw [HLL.out]
        refine ⟨by rw [fnL_len]; omega, fun j hj => ?_⟩
        rw [fnL_len] at hj
        rw [fnL_nth hj]
        split <;> (unfold Fits; omega)
      have hsw : w.heap.size ≤ wc.heap.size := Bc.out.size
      have hfin := Lib.hid ((OwnInts.mk' HO.out (by have := HLn.out.1; omega) HLn.out.2).base (B' := w.heap.size) hsw)
      have Bw := Lib.hid (Bc.out.trans (HK.out.mono Bc.out.size))
      clear hkk HO
      go_wp2
      go_ret
      exact ⟨_, rfl, hfin.out, Bw.out⟩
end

section
open Go.RowKit

/-- Picks of successors. -/
def PicksP (zss : List (List Int)) (Pk : List Int) : Prop := Pk.length = zss.length ∧ ∀ v, v < Pk.length → nth Pk v = -1 ∨ nth Pk v ∈ row zss v
noncomputable def picksB (zss : List (List Int)) (Pk : List Int) : Bool := @decide (PicksP zss Pk) (Classical.propDecidable _)
theorem picksB_iff {zss : List (List Int)} {Pk : List Int} : picksB zss Pk = true ↔ PicksP zss Pk := by unfold picksB; rw [@decide_eq_true_eq _ (Classical.propDecidable _)]
theorem picksB_no {zss : List (List Int)} {Pk : List Int} (h : ¬ PicksP zss Pk) : picksB zss Pk = false := by
  cases hb : picksB zss Pk with
  | false => rfl
  | true => exact absurd (picksB_iff.1 hb) h

set_option maxHeartbeats 8000000 in
set_option maxRecDepth 100000 in
theorem l7Picks_is {w : World} {v : Value} {O P Pk : List Int} {zss : List (List Int)} {aK : Option Addr} {r : Bool} (cK : Nat) (hr : picksB zss Pk = r) (h : GameAt w v O zss P) (hPl : P.length = zss.length) (hz : zss.length ≤ 256) (hK : IntsAt w aK Pk) :
    Calls Tryz.prog 175 #[v, .slice aK Pk.length cK] w fun e w' => e = .returned (.bool r) ∧ Below w.heap.size w w' := by
  obtain ⟨ao, an, ap, co, cn, cp, A, C, rfl, h1, h2, h3⟩ := h
  have hlP := h3.len
  have hlK := hK.len
  have HNi := Lib.hid h2
  have HKi := Lib.hid hK
  obtain ⟨w1, hw1⟩ : ∃ y, y = w.alloc (.cells #[.slice ao O.length co, .slice an zss.length cn, .slice ap P.length cp] 32) := ⟨_, rfl⟩
  have HW1 := Lib.hid hw1
  have B1 : Hid (Below w.heap.size w w1) := by rw [hw1]; exact below1 _ _
  have T1 : Hid (Box3 w1 w.heap.size 32 (.slice ao O.length co) (.slice an zss.length cn) (.slice ap P.length cp)) := by rw [hw1]; exact Box3.new _ _ _ _ _
  have HN : Hid (¬ PicksP zss Pk → r = false) := fun h => by rw [← hr]; exact picksB_no h
  have HY : Hid (PicksP zss Pk → r = true) := fun h => by rw [← hr]; exact picksB_iff.2 h
  have c2 := T1.out.c2
  rw [hw1] at c2
  have HPL := Lib.hid hPl
  clear hw1 h1 h2 h3 hK hr hPl
  by_cases hl : Pk.length = P.length
  · have hl1 : ((Pk.length : Int) != (P.length : Int)) = false := by simp; omega
    have hl2 : (Pk.length != P.length) = false := by simp; omega
    have HL := Lib.hid hl
    clear hl
    go_enter Tryz.func175, Tryz.ntmps175
    go_wp2
    rw [← HW1.out]
    clear c2 hl1 hl2
    go_loopw [5] (fun iv wr => ∃ k : Nat, k ≤ Pk.length ∧ iv = .int .i64 k ∧ Hid (∀ j, j < k → nth Pk j = -1 ∨ nth Pk j ∈ row zss j) ∧ Hid (Below w1.heap.size w1 wr)) (fun iv _ => Pk.length - (intOf iv).toNat)
    case atStart => exact ⟨0, Nat.zero_le _, rfl, fun j hj => absurd hj (Nat.not_lt_zero _), Below.refl _ _⟩
    case round =>
      obtain ⟨k, hk, rfl, HJ, HB⟩ := hrel
      have Bw := Lib.hid (B1.out.trans (HB.out.mono B1.out.size))
      by_cases hlt : k < Pk.length
      · have hi1 : (k : Int) < Pk.length := by omega
        have hk0 : (0 : Int) ≤ (k : Int) := by omega
        have hkZ : k < zss.length := by have := HL.out; have := HPL.out; omega
        have hi2 : (k : Int) < zss.length := by omega
        obtain ⟨pb, po, hpa, hpc⟩ := (HKi.out.below Bw.out).cell (by omega)
        obtain ⟨nb, no, hna, hnc⟩ := (HNi.out.below Bw.out).cell (by omega)
        have p1 := hpc k hlt
        have n1 := hnc k hkZ
        have HRw := Lib.hid ((HNi.out.below Bw.out).rows k hkZ)
        have t1 := (T1.out.below HB.out).c1
        obtain ⟨p, hp⟩ : ∃ q, q = nth Pk k := ⟨_, rfl⟩
        have HP := Lib.hid hp
        rw [← hp] at p1
        subst hpa
        subst hna
        clear hpc hnc hp
        by_cases e : p = -1
        · have he : (p != -1) = false := by simpa using e
          have HJn : Hid (∀ j, j < k + 1 → nth Pk j = -1 ∨ nth Pk j ∈ row zss j) := fun j hj => by
            by_cases h : j = k
            · subst h; exact .inl (by rw [← HP.out]; exact e)
            · exact HJ.out j (by omega)
          clear e
          go_wp2
          go_quiet (fail)
          go_wp2
          go_roundw
          case rel => exact ⟨k + 1, by omega, by go_num, HJn, below_drewN HB.out _⟩
          case measure => simp [intOf]; omega
        · have he : (p != -1) = true := by simpa using e
          cases hh : hasB (row zss k) p with
          | false =>
            have HF : Hid (r = false) := HN.out fun h => by
              have h1 := h.2 k hlt
              rw [← HP.out] at h1
              rcases h1 with h1 | h1
              · exact e h1
              · rw [hasB_iff.2 h1] at hh; cases hh
            have HHq : Hid (∀ m, Calls Tryz.prog 197 #[.slice (A k) (row zss k).length (C k), .int .i64 p] (wr.drewN m) fun e w' => e = .returned (.bool false) ∧ wr.drewN m = w') := fun m => l7HasIn_is hh (C k) (HRw.out.same ⟨m, rfl⟩)
            clear e hh
            go_wp2
            go_quiet ((go_at_call 197; exact quiet_eq (HHq.out _)))
            go_wp2
            go_ret
            exact ⟨ret_bool HF.out.symm, below_drewN Bw.out _⟩
          | true =>
            have HJn : Hid (∀ j, j < k + 1 → nth Pk j = -1 ∨ nth Pk j ∈ row zss j) := fun j hj => by
              by_cases h : j = k
              · subst h; exact .inr (by rw [← HP.out]; exact hasB_iff.1 hh)
              · exact HJ.out j (by omega)
            have HHq : Hid (∀ m, Calls Tryz.prog 197 #[.slice (A k) (row zss k).length (C k), .int .i64 p] (wr.drewN m) fun e w' => e = .returned (.bool true) ∧ wr.drewN m = w') := fun m => l7HasIn_is hh (C k) (HRw.out.same ⟨m, rfl⟩)
            clear e hh
            go_wp2
            go_quiet ((go_at_call 197; exact quiet_eq (HHq.out _)))
            go_wp2
            go_roundw
            case rel => exact ⟨k + 1, by omega, by go_num, HJn, below_drewN HB.out _⟩
            case measure => simp [intOf]; omega
      · have hi1 : ¬ (k : Int) < Pk.length := by omega
        have HF : Hid (r = true) := HY.out ⟨HL.out.trans HPL.out, fun v hv => HJ.out v (by omega)⟩
        go_wp2
        go_ret
        exact ⟨ret_bool HF.out.symm, Bw.out⟩
  · have hl1 : ((Pk.length : Int) != (P.length : Int)) = true := by simp; omega
    have hl2 : (Pk.length != P.length) = true := by simp; omega
    have HF : Hid (r = false) := HN.out fun h => hl (h.1.trans HPL.out.symm)
    clear hl
    go_enter Tryz.func175, Tryz.ntmps175
    go_wp2
    rw [← HW1.out]
    go_ret
    exact ⟨ret_bool HF.out.symm, B1.out⟩

theorem ints_nums {w : World} {k n : Nat} {Pk : List Int} (h : w.rowIs k 2 n (numsV (nth Pk))) (hl : Pk.length = n) (hn : n ≤ 256) (hf : ∀ j, j < n → Fits (nth Pk j)) : IntsAt w (some ⟨k, 0, none⟩) Pk := by
  refine ⟨by omega, fun j hj => hf j (by omega), fun _ => ⟨k, 0, rfl, fun j hj => ?_⟩⟩
  have h1 := World.rowIs.cell (i := j) h (by omega)
  rw [Nat.zero_add]
  exact h1

/-- The first successor in the part with which it holds. -/
def pickZ (hold : Int → Bool) (I : Nat → Bool) : List Int → Int
  | [] => -1
  | u :: us => if I u.toNat && hold u then u else pickZ hold I us
theorem drop_nth {zs : List Int} {i : Nat} (h : i < zs.length) : zs.drop i = nth zs i :: zs.drop (i + 1) := by
  rw [List.drop_eq_getElem_cons h, nth_eq h]

/-- What is read of the solver's game but for the picks. -/
structure RestL (w : World) (ao ap an aq : Option Addr) (A : Nat → Option Addr) (C : Nat → Nat) (A' : Nat → Option Addr) (C' : Nat → Nat) (O P : List Int) (zss : List (List Int)) (bI : Nat) (I : Nat → Bool) : Prop where
  own : IntsAt w ao O
  prio : IntsAt w ap P
  next : RowsAt w an A C zss
  prev : RowsAt w aq A' C' (rowsOf zss.length fun u => predsK zss u zss.length)
  part : w.rowIs bI 4 zss.length (marksV I)

set_option maxHeartbeats 16000000 in
set_option maxRecDepth 100000 in
theorem l7Pick_is {ao ap an aq : Option Addr} {A : Nat → Option Addr} {C : Nat → Nat} {A' : Nat → Option Addr} {C' : Nat → Nat} {zss : List (List Int)} {O P Pk : List Int} (co cp cn cq ck : Nat)
    (hz : RowsP zss) (hOl : O.length = zss.length) (hPl : P.length = zss.length) (hpk : Pk.length = zss.length) (hz256 : zss.length ≤ 256) (hr16 : ∀ v, v < zss.length → (row zss v).length ≤ 16) (hfit : ∀ j, j < zss.length → Fits (nth Pk j))
    {w : World} {I : Nat → Bool} {bI kb v : Nat} {r : Int} (hv : v < zss.length) (hr : pickZ (fun u => holdsZ zss O P (Pk.set v u) I (nth O v)) I (row zss v) = r)
    (hR : ∀ W, Only (fun b => b = kb) w W → RestL W ao ap an aq A C A' C' O P zss bI I) (hk : w.rowIs kb 2 zss.length (numsV (nth Pk))) :
    Calls Tryz.prog 114 #[.agg #[.slice ao O.length co, .slice ap P.length cp, .slice an zss.length cn, .slice aq zss.length cq, .slice (some ⟨kb, 0, none⟩) zss.length ck], .slice (some ⟨bI, 0, none⟩) zss.length zss.length, .int .i64 v] w fun e w' =>
      e = .returned (.int .i64 r) ∧ (∃ q, w'.rowIs kb 2 zss.length (numsV fun j => if j = v then q else nth Pk j)) ∧ Only (fun b => b = kb) w w' := by
  obtain ⟨n, hnl⟩ : ∃ n, n = zss.length := ⟨_, rfl⟩
  obtain ⟨w1, hw1⟩ : ∃ y, y = w.alloc (.cells #[.slice ao O.length co, .slice ap P.length cp, .slice an zss.length cn, .slice aq zss.length cq, .slice (some ⟨kb, 0, none⟩) zss.length ck] 144) := ⟨_, rfl⟩
  have HW1 := Lib.hid hw1
  have B1 : Hid (Below w.heap.size w w1) := by rw [hw1]; exact below1 _ _
  have hkb : kb < w.heap.size := hk.lt
  have X1 : Hid (Box5 w1 w.heap.size 144 (.slice ao O.length co) (.slice ap P.length cp) (.slice an zss.length cn) (.slice aq zss.length cq) (.slice (some ⟨kb, 0, none⟩) zss.length ck)) := by rw [hw1]; exact Box5.new _ _ _ _ _ _ _
  have HRW : Hid (∀ W, Only (fun b => b = kb) w1 W → RestL W ao ap an aq A C A' C' O P zss bI I) := fun W ho => hR W ((Only.of_below B1.out).trans ho)
  have K1 : Hid (w1.rowIs kb 2 zss.length (numsV fun j => if j = v then nth Pk v else nth Pk j)) := by
    refine World.rowIs.congr (rowIs_below hk B1.out) fun i _ => ?_
    unfold numsV
    by_cases e : i = v
    · subst e; simp
    · simp [e]
  have HHo : Hid (∀ (W : World) (u : Int), (∃ i, i < (row zss v).length ∧ u = nth (row zss v) i) → Only (fun b => b = kb) w1 W → W.rowIs kb 2 zss.length (numsV fun j => if j = v then u else nth Pk j) →
      Calls Tryz.prog 150 #[.agg #[.slice ao O.length co, .slice ap P.length cp, .slice an zss.length cn, .slice aq zss.length cq, .slice (some ⟨kb, 0, none⟩) zss.length ck], .slice (some ⟨bI, 0, none⟩) zss.length zss.length, .int .i64 (nth O v)] W fun e w' => e = .returned (.bool (holdsZ zss O P (Pk.set v u) I (nth O v))) ∧ Below W.heap.size W w') := fun W u hu ho hK => by
    have hG := HRW.out W ho
    have hn : ∀ j, nth (Pk.set v u) j = if j = v then u else nth Pk j := fun j => by
      unfold nth
      rw [List.getD_eq_getElem?_getD, List.getD_eq_getElem?_getD, List.getElem?_set]
      by_cases e : v = j
      · subst e; simp [hpk, hv]
      · simp [e, Ne.symm e]
    have hK' : W.rowIs kb 2 zss.length (numsV (nth (Pk.set v u))) := World.rowIs.congr hK fun i _ => by unfold numsV; rw [hn]
    have hI := ints_nums hK' (by simp [hpk]) hz256 (fun j hj => by
      rw [hn]
      by_cases e : j = v
      · rw [if_pos e]
        obtain ⟨i, hi, rfl⟩ := hu
        obtain ⟨y, hy, hyn⟩ := hz.inG v hv _ (nth_mem hi)
        rw [hy]; unfold Fits; omega
      · rw [if_neg e]; exact hfit j hj)
    have h := l7Holds_is co cp cn cq ck hz hOl hPl (Pk := Pk.set v u) (by simp [hpk]) hz256 hr16 rfl hG.own hG.prio hG.next hG.prev hI hG.part (who := nth O v)
    rw [List.length_set, hpk] at h
    exact h
  have HRn : Hid (∀ i, i < (row zss v).length → ∃ u : Nat, nth (row zss v) i = (u : Int) ∧ u < zss.length) := fun i hi => hz.inG v hv _ (nth_mem hi)
  have HL16 := Lib.hid (hr16 v hv)
  obtain ⟨hold, hho⟩ : ∃ h : Int → Bool, h = fun u => holdsZ zss O P (Pk.set v u) I (nth O v) := ⟨_, rfl⟩
  rw [← hho] at hr
  have HHo' : Hid (∀ (W : World) (u : Int), (∃ i, i < (row zss v).length ∧ u = nth (row zss v) i) → Only (fun b => b = kb) w1 W → W.rowIs kb 2 zss.length (numsV fun j => if j = v then u else nth Pk j) →
      Calls Tryz.prog 150 #[.agg #[.slice ao O.length co, .slice ap P.length cp, .slice an zss.length cn, .slice aq zss.length cq, .slice (some ⟨kb, 0, none⟩) zss.length ck], .slice (some ⟨bI, 0, none⟩) zss.length zss.length, .int .i64 (nth O v)] W fun e w' => e = .returned (.bool (hold u)) ∧ Below W.heap.size W w') := by rw [hho]; exact HHo.out
  have D0 : Hid (pickZ hold I ((row zss v).drop 0) = r) := hr
  have HKB := Lib.hid hkb
  have hv0 : (0 : Int) ≤ (v : Int) := by omega
  have hv1 : (v : Int) < zss.length := by omega
  have hv2 : (v : Int) < O.length := by omega
  have HVO : Hid (v < O.length) := by unfold Hid; omega
  have hsz1 : w.heap.size < w1.heap.size := X1.out.lt
  have HS1 := Lib.hid hsz1
  clear hw1 hR hk hr hho HHo hz hPl hpk hOl hr16 hfit hkb hsz1 hnl
  go_enter Tryz.func114, Tryz.ntmps114
  go_wp2
  rw [← HW1.out]
  go_loopw [7] (fun iv wr => ∃ (i : Nat) (q : Int), i ≤ (row zss v).length ∧ iv = .int .i64 i ∧ Hid (pickZ hold I ((row zss v).drop i) = r) ∧ Hid (wr.rowIs kb 2 zss.length (numsV fun j => if j = v then q else nth Pk j)) ∧ Hid (Only (fun b => b = kb) w1 wr)) (fun iv _ => (row zss v).length - (intOf iv).toNat)
  case atStart => exact ⟨0, _, Nat.zero_le _, rfl, D0, K1, Only.refl _ _⟩
  case round =>
    clear D0 K1
    obtain ⟨i, q, hi, rfl, HD, HK, HO⟩ := hrel
    have HG := Lib.hid (HRW.out wr HO.out)
    have Xw : Hid (Box5 wr w.heap.size 144 (.slice ao O.length co) (.slice ap P.length cp) (.slice an zss.length cn) (.slice aq zss.length cq) (.slice (some ⟨kb, 0, none⟩) zss.length ck)) := rowIs_only X1.out HO.out (by have := HKB.out; omega)
    obtain ⟨nb, no, hna, hnc⟩ := HG.out.next.cell (by omega)
    have n1 := hnc v hv
    have x2 := Xw.out.c2
    have h16 := HL16.out
    obtain ⟨rl, hrl⟩ : ∃ l, l = (row zss v).length := ⟨_, rfl⟩
    by_cases hlt : i < (row zss v).length
    · have hi1 : (i : Int) < (row zss v).length := by omega
      have hi0 : (0 : Int) ≤ (i : Int) := by omega
      obtain ⟨rb, ro, hra, hrc⟩ := (HG.out.next.rows v hv).cell (by omega)
      have r1 := hrc i hlt
      obtain ⟨u, hu, hun⟩ := HRn.out i hlt
      rw [hu] at r1
      rw [hra] at n1
      have hu0 : (0 : Int) ≤ (u : Int) := by omega
      have hu1 : (u : Int) < zss.length := by omega
      have i1 := HG.out.part.cell hun
      unfold marksV at i1
      have hdr := drop_nth hlt
      rw [hu] at hdr
      have HDR := Lib.hid hdr
      have HUI : Hid (∃ i, i < (row zss v).length ∧ (u : Int) = nth (row zss v) i) := ⟨i, hlt, hu.symm⟩
      subst hna
      clear hnc hrc hdr hu hra hrl
      cases hIu : I u with
      | false =>
        rw [hIu] at i1
        have HDn : Hid (pickZ hold I ((row zss v).drop (i + 1)) = r) := by
          have h := HD.out
          rw [HDR.out, pickZ, Int.toNat_natCast, hIu] at h
          exact h
        clear hIu
        go_wp2
        go_roundw
        case rel => exact ⟨i + 1, q, by omega, by go_num, HDn, HK, HO⟩
        case measure => simp [intOf]; omega
      | true =>
        rw [hIu] at i1
        have HIU := Lib.hid hIu
        have x0 := Xw.out.c0
        have x1 := Xw.out.c1
        have x3 := Xw.out.c3
        have x4 := Xw.out.c4
        have hkc := HK.out.cell hv
        have hkf := HK.out.frozen v
        obtain ⟨ws, hws⟩ : ∃ y, y = wr.setCell ⟨kb, v, none⟩ (.int .i64 u) := ⟨_, rfl⟩
        have HWS := Lib.hid hws
        have hos : Only (fun b => b = kb) wr ws := by rw [hws]; exact Only.setCell (S := fun b => b = kb) (Only.refl _ _) (p := ⟨kb, v, none⟩) rfl _
        have HKs : Hid (ws.rowIs kb 2 zss.length (numsV fun j => if j = v then (u : Int) else nth Pk j)) := by
          rw [hws]
          refine World.rowIs.congr (nums_set HK.out) fun j _ => ?_
          unfold numsV
          by_cases e : j = v
          · simp [e]
          · simp [e]
        have HOs := Lib.hid (HO.out.trans hos)
        have Xs : Hid (Box5 ws w.heap.size 144 (.slice ao O.length co) (.slice ap P.length cp) (.slice (some ⟨nb, no, none⟩) zss.length cn) (.slice aq zss.length cq) (.slice (some ⟨kb, 0, none⟩) zss.length ck)) := rowIs_only Xw.out hos (by have := HKB.out; omega)
        have HGs := Lib.hid (HRW.out ws HOs.out)
        obtain ⟨ob, oo, hoa, hoc⟩ := HGs.out.own.cell (by have := HVO.out; omega)
        have HOC := Lib.hid (hoc v HVO.out)
        have Kd : Hid (Below ws.heap.size ws ws.drew) := (Below.refl _ _).drew
        have HOsd := Lib.hid (HOs.out.trans (Only.of_below Kd.out))
        have HKsd := Lib.hid (rowIs_below HKs.out Kd.out)
        have HC := Lib.hid (HHo'.out ws.drew u HUI.out HOsd.out HKsd.out)
        obtain ⟨o, ho⟩ : ∃ o, o = nth O v := ⟨_, rfl⟩
        rw [← ho] at HOC HC
        have HSv : Hid (∀ W, Below ws.heap.size ws W → W.cell? ⟨w.heap.size, 0, none⟩ = some (.slice ao O.length co) ∧ W.cell? ⟨w.heap.size, 1, none⟩ = some (.slice ap P.length cp) ∧ W.cell? ⟨w.heap.size, 2, none⟩ = some (.slice (some ⟨nb, no, none⟩) zss.length cn) ∧ W.cell? ⟨w.heap.size, 3, none⟩ = some (.slice aq zss.length cq) ∧ W.cell? ⟨w.heap.size, 4, none⟩ = some (.slice (some ⟨kb, 0, none⟩) zss.length ck) ∧ W.cell? ⟨ob, oo + v, none⟩ = some (.int .i64 o)) := fun W hb =>
          ⟨(Xs.out.below hb).c0, (Xs.out.below hb).c1, (Xs.out.below hb).c2, (Xs.out.below hb).c3, (Xs.out.below hb).c4, Below.cell_some (B := 0) hb rfl HOC.out⟩
        have s0 := HSv.out _ Kd.out
        obtain ⟨bh, hbh⟩ : ∃ b, hold (u : Int) = b := ⟨_, rfl⟩
        rw [hbh] at HC
        have HBH := Lib.hid hbh
        subst hoa
        rw [hws] at s0
        clear hoc hws hos ho hbh hIu
        go_wp2
        rw [← HWS.out] at s0 ⊢
        go_region_held3 (fun W => W.cell? ⟨w.heap.size, 0, none⟩ = some (.slice (some ⟨ob, oo, none⟩) O.length co) ∧ W.cell? ⟨w.heap.size, 1, none⟩ = some (.slice ap P.length cp) ∧ W.cell? ⟨w.heap.size, 2, none⟩ = some (.slice (some ⟨nb, no, none⟩) zss.length cn) ∧ W.cell? ⟨w.heap.size, 3, none⟩ = some (.slice aq zss.length cq) ∧ W.cell? ⟨w.heap.size, 4, none⟩ = some (.slice (some ⟨kb, 0, none⟩) zss.length ck) ∧ W.cell? ⟨ob, oo + v, none⟩ = some (.int .i64 o))
          (first
            | exact HSv.out _ Kd.out
            | exact HSv.out _ Kh.out)
          (first
            | (go_at_call 150; refine HC.out.mono ?_; rintro e wh ⟨rfl, hb⟩; have Kh := Lib.hid (Kd.out.trans (hb.mono Kd.out.size)); clear hb))
        have HKh := Lib.hid (rowIs_below HKs.out Kh.out)
        have HOh := Lib.hid (HOs.out.trans (Only.of_below Kh.out))
        cases bh with
        | false =>
          have HDn : Hid (pickZ hold I ((row zss v).drop (i + 1)) = r) := by
            have h := HD.out
            rw [HDR.out, pickZ, HBH.out, Bool.and_false] at h
            exact h
          clear s0 n1 x2 r1 i1 x0 x1 x3 x4 hkc hkf
          go_wp2
          go_roundw
          case rel => exact ⟨i + 1, _, by omega, by go_num, HDn, HKh, HOh⟩
          case measure => simp [intOf]; omega
        | true =>
          have HRR : Hid (r = (u : Int)) := by
            have h := HD.out
            rw [HDR.out, pickZ, HBH.out, Bool.and_true, Int.toNat_natCast, HIU.out, if_pos rfl] at h
            exact h.symm
          clear s0 n1 x2 r1 i1 x0 x1 x3 x4 hkc hkf
          go_wp2
          go_ret
          exact ⟨by rw [HRR.out]; rfl, ⟨_, HKh.out⟩, (Only.of_below B1.out).trans HOh.out⟩
    · have hi1 : ¬ (i : Int) < (row zss v).length := by omega
      have HRR : Hid (r = -1) := by
        have h := HD.out
        rw [List.drop_eq_nil_of_le (by omega)] at h
        exact h.symm
      subst hna
      clear hnc hrl
      go_wp2
      go_ret
      exact ⟨by rw [HRR.out]; rfl, ⟨_, HK.out⟩, (Only.of_below B1.out).trans HO.out⟩
end

end Go.Proofs.YtokcinhopajniaaGreatDoor
