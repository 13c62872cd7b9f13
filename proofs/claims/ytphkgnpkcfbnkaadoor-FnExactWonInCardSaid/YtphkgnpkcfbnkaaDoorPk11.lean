/-
  Several texts in one: AnswerOkSpec, RecurSpec, PlanMath.
-/
import Derived.Deep.RegionHeld3
import Derived.Test.YtphkgnpkcfbnkaaDoorPk08
import Derived.Test.YtphkgnpkcfbnkaaDoorPk09
import Derived.Test.YtphkgnpkcfbnkaaDoorPk10
namespace Go.Proofs.YtphkgnpkcfbnkaaDoor
open Go.RowKit

end Go.Proofs.YtphkgnpkcfbnkaaDoor
namespace Go.Proofs.YtphkgnpkcfbnkaaDoor
section
open Go.RowKit

set_option maxHeartbeats 4000000 in
set_option maxRecDepth 100000 in
theorem l7All_is {w : World} (n : Nat) (hn : n ≤ 1048576) :
    Calls Tryd.prog 137 #[.int .i64 n] w (GivesMarks w n (allI n)) := by
  have hmk := run_make_row' (P := Tryd.prog) 130 4 (.bool false) 1 Tryd.underlying130 info_bool rfl .i64 .i64 n (by omega) (by omega)
  have R0 : Hid ((w.alloc (.cells (madeCells #[.bool false] n) 4)).rowIs w.heap.size 4 n (marksV (outK (allI n) 0))) := outK_new
  have B0 := Lib.hid (below1 w (.cells (madeCells #[.bool false] n) 4))
  go_enter Tryd.func137, Tryd.ntmps137
  go_wp2
  go_loopw [4] (fun iv wr => ∃ k : Nat, k ≤ n ∧ iv = .int .i64 k ∧ Hid (wr.rowIs w.heap.size 4 n (marksV (outK (allI n) k))) ∧ Hid (Below w.heap.size w wr)) (fun iv _ => n - (intOf iv).toNat)
  case atStart => exact ⟨0, Nat.zero_le _, rfl, R0, B0⟩
  case round =>
    clear hmk R0 B0
    obtain ⟨k, hk, rfl, HR, HB⟩ := hrel
    by_cases hlt : k < n
    · have hi1 : (k : Int) < n := by omega
      have hk0 : (0 : Int) ≤ (k : Int) := by omega
      have hcs := HR.out.cell hlt
      have hcf := HR.out.frozen k
      have R1 : Hid ((wr.setCell ⟨w.heap.size, k, none⟩ (.bool true)).rowIs w.heap.size 4 n (marksV (outK (allI n) (k + 1)))) := outK_set HR.out (by simp [allI, hlt])
      have B1 := Lib.hid (HB.out.setCell (p := ⟨w.heap.size, k, none⟩) (Nat.le_refl _) (.bool true))
      go_wp2
      go_roundw
      case rel => exact ⟨k + 1, by omega, by go_num, R1, B1⟩
      case measure => simp [intOf]; omega
    · have hi1 : ¬ (k : Int) < n := by omega
      have hkk : k = n := by omega
      rw [hkk] at HR
      have HF := Lib.hid (outK_all HR.out)
      clear hkk HR
      go_wp2
      go_ret
      exact ⟨_, rfl, Nat.le_refl _, HF.out, HB.out⟩

end

section
open Go.RowKit

/-- The winners. -/
noncomputable def wonL (zss : List (List Int)) (O P : List Int) : List Int := fnL zss.length fun v => if wonZ zss O P v = true then 0 else 1
theorem wonL_len {zss : List (List Int)} {O P : List Int} : (wonL zss O P).length = zss.length := fnL_len _ _
theorem wonL_nth {zss : List (List Int)} {O P : List Int} {v : Nat} (h : v < zss.length) : nth (wonL zss O P) v = if wonZ zss O P v = true then 0 else 1 := fnL_nth h

theorem l1Flag_is (b : Bool) (w : World) : Calls Tryd.prog 138 #[.bool b] w fun e w' => e = .returned (.int .i64 (if b = true then 1 else 0)) ∧ w = w' := by
  cases b with
  | false =>
    go_enter Tryd.func138, Tryd.ntmps138
    go_wp2
    go_ret
    exact ⟨rfl, rfl⟩
  | true =>
    go_enter Tryd.func138, Tryd.ntmps138
    go_wp2
    go_ret
    exact ⟨rfl, rfl⟩

set_option maxHeartbeats 16000000 in
set_option maxRecDepth 100000 in
theorem l7Won_is {w : World} {v : Value} {O : List Int} {zss : List (List Int)} {P : List Int} (h : GameAt w v O zss P) (hp : parityB O zss P = true) :
    Calls Tryd.prog 74 #[v] w (GivesInts w (wonL zss O P)) := by
  obtain ⟨i0, hi, hz0, hz1, hz2⟩ := info_parts info_int
  obtain ⟨ao, an, ap, co, cn, cp, A, C, rfl, h1, h2, h3⟩ := h
  obtain ⟨hA, hPO, hPB⟩ := parityB_iff.1 hp
  obtain ⟨n, hn⟩ : ∃ n, n = zss.length := ⟨_, rfl⟩
  have hOl : O.length = n := by rw [hn]; exact hA.2.2.1.symm
  have hPl : P.length = n := by omega
  have hn256 : n ≤ 256 := by have := hA.2.1; omega
  have hz := rowsP_of hA
  have HO7 : Hid (∀ W, Below w.heap.size w W → Calls Tryd.prog 113 #[.agg #[.slice ao n co, .slice an n cn, .slice ap n cp]] W (GivesSolver W ao an ap co cn cp n zss)) := fun W hb => by
    have h := l7Of_is co cn cp (h1.below hb) (h2.below hb) (h3.below hb) hA (by omega)
    rw [hOl, hPl, ← hn] at h; exact h
  have HWin : Hid (∀ W q k bI V, Below w.heap.size w W → RowSet W w.heap.size q n V (fun u => predsK zss u n) → W.rowIs k 2 n (fun _ => .int .i64 (-1)) → W.rowIs bI 4 n (marksV (allI n)) →
      Calls Tryd.prog 116 #[.agg #[.slice ao n co, .slice ap n cp, .slice an n cn, .slice (some ⟨q, 0, none⟩) n n, .slice (some ⟨k, 0, none⟩) n n], .slice (some ⟨bI, 0, none⟩) n n] W (GivesMarks W n (wonZ zss O P))) := fun W q k bI V hb hq hk hM => by
    have hq' := prev_rows hq hn256
    rw [hn] at hk hM hq' hn256
    have h := l7Win_is (Pk := List.replicate zss.length (-1)) co cp cn n n hz (by omega) (by omega) (by simp) hn256 (fun v hv => (arena_rows hA hv).2.2) zss.length (h1.below hb) (h3.below hb) (h2.below hb) hq' (ints_none hk hn256) hM (markedK_len _ _)
    rw [zssE_none, List.length_replicate, hOl, hPl, ← hn] at h
    unfold wonZ
    rw [← hn]
    exact h
  have HAl : Hid (∀ W : World, Calls Tryd.prog 137 #[.int .i64 n] W (GivesMarks W n (allI n))) := fun W => l7All_is n (by omega)
  obtain ⟨F, hF⟩ : ∃ F, F = wonZ zss O P := ⟨_, rfl⟩
  obtain ⟨L, hL⟩ : ∃ L, L = wonL zss O P := ⟨_, rfl⟩
  have HLN : Hid (∀ k, fnL k (fun v => if F v = true then (0 : Int) else 1) = fnL k (fun v => if F v = true then (0 : Int) else 1)) := fun _ => rfl
  have HLL : Hid (L = fnL n fun v => if F v = true then 0 else 1) := by rw [hL, hF, hn]; rfl
  rw [← hF] at HWin
  rw [← hL, hOl, hPl, ← hn]
  clear hF hL h1 h2 h3 hA hPO hPB hp hz hOl hPl hn
  obtain ⟨w1, hw1⟩ : ∃ y, y = w.alloc (.cells #[.slice ao n co, .slice an n cn, .slice ap n cp] 32) := ⟨_, rfl⟩
  have HW1 := Lib.hid hw1
  have B1 : Hid (Below w.heap.size w w1) := by rw [hw1]; exact below1 _ _
  have T1 : Hid (Box3 w1 w.heap.size 32 (.slice ao n co) (.slice an n cn) (.slice ap n cp)) := by rw [hw1]; exact Box3.new _ _ _ _ _
  have Kd : Hid (Below w1.heap.size w1 w1.drew) := (Below.refl _ _).drew
  have HSv : Hid (∀ W, Below w1.heap.size w1 W → W.cell? ⟨w.heap.size, 0, none⟩ = some (.slice ao n co) ∧ W.cell? ⟨w.heap.size, 1, none⟩ = some (.slice an n cn) ∧ W.cell? ⟨w.heap.size, 2, none⟩ = some (.slice ap n cp)) := fun W hb => ⟨(T1.out.below hb).c0, (T1.out.below hb).c1, (T1.out.below hb).c2⟩
  have s0 := HSv.out _ Kd.out
  rw [hw1] at s0
  clear hw1
  go_enter Tryd.func74, Tryd.ntmps74
  go_wp2
  rw [← HW1.out] at s0 ⊢
  go_region_held3 (fun W => W.cell? ⟨w.heap.size, 0, none⟩ = some (.slice ao n co) ∧ W.cell? ⟨w.heap.size, 1, none⟩ = some (.slice an n cn) ∧ W.cell? ⟨w.heap.size, 2, none⟩ = some (.slice ap n cp))
    (first
      | exact HSv.out _ Kd.out
      | exact HSv.out _ Ka.out
      | exact HSv.out _ Kb.out
      | exact HSv.out _ Kc.out)
    (first
      | (go_at_call 116; refine (HWin.out _ q k bI V (B1.out.trans (Kb.out.mono B1.out.size)) Vb.out Pb.out Mb.out).mono ?_; rintro e wc ⟨bF, rfl, -, hM, hb⟩; have MF := Lib.hid hM; have Kc := Lib.hid (Kb.out.trans (hb.mono Kb.out.size)); clear hM hb)
      | (go_at_call 137; refine (HAl.out _).mono ?_; rintro e wb ⟨bI, rfl, -, hM, hb⟩; have Mb := Lib.hid hM; have Vb := Lib.hid (rowset_base (Va.out.below hb) (Nat.le_trans B1.out.size Kd.out.size)); have Pb := Lib.hid (rowIs_below Pa.out hb); have Kb := Lib.hid (Ka.out.trans (hb.mono Ka.out.size)); clear hM hb)
      | (go_at_call 113; refine (HO7.out _ (B1.out.trans (Kd.out.mono B1.out.size))).mono ?_; rintro e wa ⟨q, k, V, rfl, hV, hK, hb⟩; have Va := Lib.hid hV; have Pa := Lib.hid hK; have Ka := Lib.hid (Kd.out.trans (hb.mono Kd.out.size)); clear hV hK hb))
  obtain ⟨w2, hw2⟩ : ∃ y, y = wc.alloc (.cells #[] 2) := ⟨_, rfl⟩
  have HW2 := Lib.hid hw2
  have hb2 : Below wc.heap.size wc w2 := by rw [hw2]; exact below1 _ _
  have O2 : Hid (w2.ownsRow wc.heap.size 2 1 (.slice (some ⟨wc.heap.size, 0, none⟩) 0 0) (fnL 0 (fun v => if F v = true then (0 : Int) else 1)).length ((fnL 0 (fun v => if F v = true then (0 : Int) else 1)).map (Value.int .i64))) := by rw [hw2]; exact World.ownsRow_made wc #[] 0 (Nat.le_refl _) (by unfold maxLen; omega) rfl
  have M2 := Lib.hid (rowIs_below MF.out hb2)
  have Bc := Lib.hid (B1.out.trans (Kc.out.mono B1.out.size))
  have hs2 : wc.heap.size ≤ w2.heap.size := hb2.size
  have K2 : Hid (Below wc.heap.size wc w2) := hb2
  clear hw2 hb2 s0
  go_wp2
  rw [← HW2.out]
  go_loopw [4, 5] (fun ov iv wr => ∃ (k : Nat) (uu : Value), uu = ov ∧ k ≤ n ∧ iv = .int .i64 k ∧ Hid (wr.ownsRow wc.heap.size 2 1 ov (fnL k (fun v => if F v = true then (0 : Int) else 1)).length ((fnL k (fun v => if F v = true then (0 : Int) else 1)).map (Value.int .i64))) ∧ Hid (Below wc.heap.size wc wr)) (fun _ iv _ => n - (intOf iv).toNat)
  case atStart => exact ⟨0, _, rfl, Nat.zero_le _, rfl, O2, K2⟩
  case round =>
    clear O2 K2
    obtain ⟨k, uu, hu0, hk, rfl, HO, HK⟩ := hrel
    subst hu0
    have hksz := HK.out.size
    have hll : (fnL k (fun v => if F v = true then (0 : Int) else 1)).length = k := fnL_len _ _
    by_cases hlt : k < n
    · have hi1 : (k : Int) < n := by omega
      have hk0 : (0 : Int) ≤ (k : Int) := by omega
      have f1 := (rowIs_below MF.out HK.out).cell hlt
      unfold marksV at f1
      have hst : fnL (k + 1) (fun v => if F v = true then (0 : Int) else 1) = fnL k (fun v => if F v = true then (0 : Int) else 1) ++ [if F k = true then (0 : Int) else 1] := fnL_succ _ _
      obtain ⟨b, hb⟩ : ∃ b, F k = b := ⟨_, rfl⟩
      rw [hb] at f1 hst
      have HFl := Lib.hid (fun W => l1Flag_is b W)
      obtain ⟨g, hg⟩ : ∃ g, fnL k (fun v => if F v = true then (0 : Int) else 1) = g := ⟨_, rfl⟩
      rw [hg] at hst hll HO
      have HST := Lib.hid hst
      clear hst hb hg
      cases b with
      | false =>
        have HFl' : Hid (∀ W : World, Calls Tryd.prog 138 #[.bool false] W fun e w' => e = .returned (.int .i64 0) ∧ W = w') := fun W => by simpa using HFl.out W
        go_wp2_with fail
        refine (HFl'.out _).mono ?_
        rintro e w4 ⟨rfl, rfl⟩
        go_wp2_with (at_builtin; refine wpList_append_own_at _ rfl _ _ 27 rfl wc.heap.size 2 i0 (.int .i64 0) 1 8 Tryd.underlying27 hi hz0 hz1 hz2 rfl (by decide) _ _ _ rfl (HO.out.alloc _) ⟨wr.heap.size, 0, none⟩ 1 1 [.int .i64 1] rfl rfl ?c1 ?c2 ?c3 ?c4 ?c5 ?_)
        try (case c1 => exact cell_one_new _ _ _)
        try (case c2 => first | rfl | (intro u hu; simp at hu; subst hu; rfl))
        case c3 => unfold maxLen; omega
        case c4 => omega
        case c5 => first | (simp; omega) | omega
        intro v' w5 hown hgrow _ _
        have hg : Only (fun b => wc.heap.size ≤ b) wr w5 := (Only.of_below (below1 wr _)).trans ((Only.of_grown hgrow).mono fun b hb => (HO.out.lt b hb).1)
        have Kn := Lib.hid (HK.out.trans (hg.below HK.out.size (fun _ h => h)))
        have HOn : Hid (w5.ownsRow wc.heap.size 2 1 v' (fnL (k + 1) (fun v => if F v = true then (0 : Int) else 1)).length ((fnL (k + 1) (fun v => if F v = true then (0 : Int) else 1)).map (Value.int .i64))) := by
          rw [HST.out, List.map_append, List.length_append]; simpa [Hid, hll] using hown
        clear hown hgrow hg
        go_wp2
        go_roundw
        case rel => exact ⟨k + 1, _, rfl, by omega, by go_num, HOn, Kn⟩
        case measure => simp [intOf]; omega
      | true =>
        have HFl' : Hid (∀ W : World, Calls Tryd.prog 138 #[.bool true] W fun e w' => e = .returned (.int .i64 1) ∧ W = w') := fun W => by simpa using HFl.out W
        go_wp2_with fail
        refine (HFl'.out _).mono ?_
        rintro e w4 ⟨rfl, rfl⟩
        go_wp2_with (at_builtin; refine wpList_append_own_at _ rfl _ _ 27 rfl wc.heap.size 2 i0 (.int .i64 0) 1 8 Tryd.underlying27 hi hz0 hz1 hz2 rfl (by decide) _ _ _ rfl (HO.out.alloc _) ⟨wr.heap.size, 0, none⟩ 1 1 [.int .i64 0] rfl rfl ?c1 ?c2 ?c3 ?c4 ?c5 ?_)
        try (case c1 => exact cell_one_new _ _ _)
        try (case c2 => first | rfl | (intro u hu; simp at hu; subst hu; rfl))
        case c3 => unfold maxLen; omega
        case c4 => omega
        case c5 => first | (simp; omega) | omega
        intro v' w5 hown hgrow _ _
        have hg : Only (fun b => wc.heap.size ≤ b) wr w5 := (Only.of_below (below1 wr _)).trans ((Only.of_grown hgrow).mono fun b hb => (HO.out.lt b hb).1)
        have Kn := Lib.hid (HK.out.trans (hg.below HK.out.size (fun _ h => h)))
        have HOn : Hid (w5.ownsRow wc.heap.size 2 1 v' (fnL (k + 1) (fun v => if F v = true then (0 : Int) else 1)).length ((fnL (k + 1) (fun v => if F v = true then (0 : Int) else 1)).map (Value.int .i64))) := by
          rw [HST.out, List.map_append, List.length_append]; simpa [Hid, hll] using hown
        clear hown hgrow hg
        go_wp2
        go_roundw
        case rel => exact ⟨k + 1, _, rfl, by omega, by go_num, HOn, Kn⟩
        case measure => simp [intOf]; omega
    · have hi1 : ¬ (k : Int) < n := by omega
      have hkk : k = n := by omega
      rw [hkk, ← HLL.out] at HO
      have HLn : Hid (L.length ≤ 256 ∧ ∀ j, j < L.length → Fits (nth L j)) := by
        rw [HLL.out]
        refine ⟨by rw [fnL_len]; omega, fun j hj => ?_⟩
        rw [fnL_len] at hj
        rw [fnL_nth hj]
        split <;> (unfold Fits; omega)
      have hsw : w.heap.size ≤ wc.heap.size := Bc.out.size
      have hfin := Lib.hid ((OwnInts.mk' HO.out (by have := HLn.out.1; omega) HLn.out.2).base (B' := w.heap.size) hsw)
      have Bw := Lib.hid (Bc.out.trans (HK.out.mono Bc.out.size))
      clear hkk HO
      go_wp2
      go_ret
      exact ⟨_, rfl, hfin.out, Bw.out⟩
end

section
open Go.RowKit

end

end Go.Proofs.YtphkgnpkcfbnkaaDoor
namespace Go.Proofs.YtphkgnpkcfbnkaaDoor
section
open Go.RowKit

/-- Two players cannot both hold a vertex of a part that both stay in. -/
theorem no_both_in {zss : List (List Int)} {O : List Int} {p : Nat → Int} (hin : InG zss) {I W W' : Nat → Bool} {who who' : Int} {s s' : Nat → Nat} (h : HoldsP zss O p I W who s) (h' : HoldsP zss O p I W' who' s')
    (ho : ∀ v, v < zss.length → (nth O v = who ↔ nth O v ≠ who')) (hne : who ≠ who') : ∀ v, v < zss.length → ¬ (W v = true ∧ W' v = true) := by
  rintro v0 hv0 ⟨hw0, hw0'⟩
  obtain ⟨f, hf⟩ : ∃ f : Nat → Nat, f = fun v => if nth O v = who then s v else s' v := ⟨_, rfl⟩
  have hstep : ∀ v, v < zss.length → W v = true → W' v = true → f v < zss.length ∧ W (f v) = true ∧ W' (f v) = true ∧ StepE zss O who W s v (f v) ∧ StepE zss O who' W' s' v (f v) := fun v hv hw hw' => by
    by_cases hov : nth O v = who
    · have e : f v = s v := by rw [hf]; exact if_pos hov
      have h1 := h.own v hv hw hov
      obtain ⟨y, hy, hyn⟩ := hin v hv _ h1.1
      have hsn : s v < zss.length := by omega
      have h2 := h'.opp v hv hw' ((ho v hv).1 hov) _ h1.1 (by rw [Int.toNat_natCast]; exact h.sub _ h1.2)
      rw [Int.toNat_natCast] at h2
      rw [e]
      exact ⟨hsn, h1.2, h2, ⟨hw, hv, h1.1, h1.2, fun _ => rfl⟩, ⟨hw', hv, h1.1, h2, fun hh => absurd hh ((ho v hv).1 hov)⟩⟩
    · have e : f v = s' v := by rw [hf]; exact if_neg hov
      have hov' : nth O v = who' := Classical.byContradiction fun hh => hov ((ho v hv).2 hh)
      have h1 := h'.own v hv hw' hov'
      obtain ⟨y, hy, hyn⟩ := hin v hv _ h1.1
      have hsn : s' v < zss.length := by omega
      have h2 := h.opp v hv hw hov _ h1.1 (by rw [Int.toNat_natCast]; exact h'.sub _ h1.2)
      rw [Int.toNat_natCast] at h2
      rw [e]
      exact ⟨hsn, h2, h1.2, ⟨hw, hv, h1.1, h2, fun hh => absurd hh hov⟩, ⟨hw', hv, h1.1, h1.2, fun _ => rfl⟩⟩
  obtain ⟨c0, hc0⟩ : ∃ c0 : Nat → Nat, c0 = fun i => Nat.rec v0 (fun _ x => f x) i := ⟨_, rfl⟩
  have hz : c0 0 = v0 := by subst hc0; rfl
  have hs : ∀ i, c0 (i + 1) = f (c0 i) := fun i => by subst hc0; rfl
  have hall : ∀ i, c0 i < zss.length ∧ W (c0 i) = true ∧ W' (c0 i) = true := fun i => by
    induction i with
    | zero => rw [hz]; exact ⟨hv0, hw0, hw0'⟩
    | succ i ih =>
      have h1 := hstep _ ih.1 ih.2.1 ih.2.2
      rw [hs i]; exact ⟨h1.1, h1.2.1, h1.2.2.1⟩
  obtain ⟨i, j, hij, he⟩ := play_loops fun i => (hall i).1
  have hper : ∀ k, c0 (j + k) = c0 (i + k) := fun k => by
    induction k with
    | zero => exact he.symm
    | succ k ih => rw [← Nat.add_assoc, ← Nat.add_assoc, hs, hs, ih]
  have hp1 : ∀ k, c0 (i + (k + (j - i))) = c0 (i + k) := fun k => by rw [← hper k]; congr 1; omega
  have hl : LoopP (StepE zss O who W s) (fun k => c0 (i + k)) (j - i) := ⟨by omega, hp1, fun k => by
    have h1 := hall (i + k)
    have h2 := (hstep _ h1.1 h1.2.1 h1.2.2).2.2.2.1
    rw [← hs] at h2; exact h2⟩
  have hl' : LoopP (StepE zss O who' W' s') (fun k => c0 (i + k)) (j - i) := ⟨by omega, hp1, fun k => by
    have h1 := hall (i + k)
    have h2 := (hstep _ h1.1 h1.2.1 h1.2.2).2.2.2.2
    rw [← hs] at h2; exact h2⟩
  obtain ⟨a, ha⟩ := hl.max p
  exact hne ((h.wins _ _ hl a ha).symm.trans (h'.wins _ _ hl' a ha))

end

section
open Go.RowKit

section
variable {zss : List (List Int)} {O P : List Int}

end
end

section
open Go.RowKit

theorem regK_up {X : List Int} {who : Int} : ∀ k, (regK X who k).Pairwise (· < ·)
  | 0 => by simp [regK]
  | k + 1 => by
    rw [regK, List.pairwise_append]
    refine ⟨regK_up k, by split <;> simp, fun a ha b hb => ?_⟩
    obtain ⟨v, rfl, hv, _⟩ := regK_mem.1 ha
    split at hb
    · have : b = (k : Int) := by simpa using hb
      omega
    · simp at hb

section
variable {zss : List (List Int)} {O P : List Int}

end
end

end Go.Proofs.YtphkgnpkcfbnkaaDoor
