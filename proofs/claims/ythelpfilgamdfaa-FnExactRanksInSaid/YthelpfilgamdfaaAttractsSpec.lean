/-
  Contracts: the model's RanksIn, Attract and PullIn.
-/
import Derived.Test.YthelpfilgamdfaaRanksSpec
namespace Go.Proofs.Ythelpfilgamdfaa
open Go.RowKit

noncomputable def ranksF (O : List Int) (zss : List (List Int)) (who : Int) (In G : List Int) : Nat → Int := rkK zss O who (openS In In.length) (openS G G.length) zss.length
noncomputable def bothB (O : List Int) (zss : List (List Int)) (who : Int) (In G : List Int) : Bool := okB O zss who In && okB O zss who G
noncomputable def ranksL (O : List Int) (zss : List (List Int)) (who : Int) (In G : List Int) : List Int := if bothB O zss who In G = true then fnL zss.length (ranksF O zss who In G) else []
noncomputable def attractL (O : List Int) (zss : List (List Int)) (who : Int) (In G : List Int) : List Int := if bothB O zss who In G = true then markedK (fun v => decide (0 ≤ ranksF O zss who In G v)) zss.length else []
/-- The first of the rank r - 1. -/
def pullF (rk : Nat → Int) (r : Int) : List Int → Int
  | [] => -1
  | u :: us => if rk u.toNat = r - 1 then u else pullF rk r us
noncomputable def pullV (O : List Int) (zss : List (List Int)) (who : Int) (In G : List Int) (v : Nat) : Int :=
  if nth O v = who ∧ 0 < ranksF O zss who In G v then pullF (ranksF O zss who In G) (ranksF O zss who In G v) (row zss v) else -1
noncomputable def pullL (O : List Int) (zss : List (List Int)) (who : Int) (In G : List Int) : List Int := if bothB O zss who In G = true then fnL zss.length (pullV O zss who In G) else []

theorem okB_yes {O : List Int} {zss : List (List Int)} {who : Int} {S : List Int} (h : okB O zss who S = true) : ArenaP O zss ∧ (who = 0 ∨ who = 1) ∧ setB O.length S = true := by
  unfold okB at h
  rw [Bool.and_eq_true, Bool.and_eq_true] at h
  refine ⟨arenaB_iff.1 h.1, ?_, h.2.2⟩
  have := h.2.1
  unfold inB at this
  have := of_decide_eq_true this
  omega
theorem bothB_yes {O : List Int} {zss : List (List Int)} {who : Int} {In G : List Int} (h : bothB O zss who In G = true) : ArenaP O zss ∧ (who = 0 ∨ who = 1) ∧ setB O.length In = true ∧ setB O.length G = true := by
  unfold bothB at h
  rw [Bool.and_eq_true] at h
  exact ⟨(okB_yes h.1).1, (okB_yes h.1).2.1, (okB_yes h.1).2.2, (okB_yes h.2).2.2⟩

theorem l3Ranks_own {w : World} {va : Value} {O : List Int} {zss : List (List Int)} {n0 : Int} {aI aG : Option Addr} {In G : List Int} (cI cG : Nat) (hok : bothB O zss n0 In G = true) (h : ArenaAt w va O zss) (hI : IntsAt w aI In) (hG : IntsAt w aG G) :
    Calls Try.prog 54 #[va, .int .i64 n0, .slice aI In.length cI, .slice aG G.length cG] w fun e w' => ∃ g cap, e = .returned (.slice (some ⟨g, 0, none⟩) zss.length cap) ∧ OwnF w' w.heap.size g cap zss.length (ranksF O zss n0 In G) ∧ Below w.heap.size w w' := by
  obtain ⟨hP, _, h1, h2⟩ := bothB_yes hok
  have hpos : 0 < zss.length := by have := hP.1; have := hP.2.2.1; omega
  refine (l3Ranks_is cI cG h hP hI hG h1 h2).mono ?_
  rintro e w' ⟨v, rfl, hv, hb⟩
  obtain ⟨a, c, hs, -, hbk⟩ := hv.shape
  obtain ⟨g, rfl, _⟩ := hbk (by rw [fnL_len]; exact hpos)
  rw [fnL_len] at hs
  subst hs
  exact ⟨g, c, rfl, hv, hb⟩

/-- An empty slice of one's own. -/
theorem own_empty {w0 w : World} (hb : Below w0.heap.size w0 w) : OwnInts (w.alloc (.cells #[] 2)) w0.heap.size (w.alloc (.cells #[] 2)).heap.size (.slice (some ⟨w.heap.size, 0, none⟩) 0 0) [] ∧ Below w0.heap.size w0 (w.alloc (.cells #[] 2)) :=
  ⟨OwnInts.mk' (World.ownsRow_made w #[] 0 hb.size (by unfold maxLen; omega) rfl) (by simp) (fun k hk => absurd hk (by simp)), hb.alloc hb.size _⟩

set_option maxHeartbeats 4000000 in
set_option maxRecDepth 100000 in
theorem specRanksIn_is {w : World} {va : Value} {O : List Int} {zss : List (List Int)} {n0 : Int} {aI aG : Option Addr} {In G r : List Int} (cI cG : Nat) (hr : ranksL O zss n0 In G = r) (h : ArenaAt w va O zss) (hI : IntsAt w aI In) (hG : IntsAt w aG G) :
    Calls Try.prog 27 #[va, .int .i64 n0, .slice aI In.length cI, .slice aG G.length cG] w (GivesInts w r) := by
  have HAt := Lib.hid h
  have HIi := Lib.hid hI
  have HGi := Lib.hid hG
  obtain ⟨ao, an, co, cn, A, C, rfl, h1, h2⟩ := h
  clear h1 h2 hI hG
  have BW := Lib.hid (below1 w (.cells #[.slice ao O.length co, .slice an zss.length cn] 30))
  have bW := Lib.hid (Box2.new w 30 (.slice ao O.length co) (.slice an zss.length cn))
  cases hA : okB O zss n0 In with
  | false =>
    have HE : Hid (r = []) := by rw [← hr]; simp [ranksL, bothB, hA, Hid]
    have HC := Lib.hid (l3Ok_is cI hA (HAt.out.below BW.out) (HIi.out.below BW.out))
    clear hA hr
    go_enter Try.func27, Try.ntmps27
    go_wp2_with (go_at_call 46; refine HC.out.mono ?_; rintro e w1 ⟨rfl, hb⟩; have hfin := Lib.hid (own_empty (BW.out.trans (hb.mono BW.out.size))); clear hb)
    go_ret
    exact ⟨_, rfl, by rw [HE.out]; exact hfin.out.1, hfin.out.2⟩
  | true =>
    have HC := Lib.hid (l3Ok_is cI hA (HAt.out.below BW.out) (HIi.out.below BW.out))
    cases hB : okB O zss n0 G with
    | false =>
      have HE : Hid (r = []) := by rw [← hr]; simp [ranksL, bothB, hB, Hid]
      have HB := Lib.hid hB
      clear hA hr hB
      go_enter Try.func27, Try.ntmps27
      go_wp2_with fail
      refine HC.out.mono ?_
      rintro e w1 ⟨rfl, hb⟩
      have B1 := Lib.hid (BW.out.trans (hb.mono BW.out.size))
      have c0 := (bW.out.below hb).cell0
      have c1 := (bW.out.below hb).cell1
      clear hb
      go_wp2_with fail
      refine (l3Ok_is cG HB.out (HAt.out.below B1.out) (HGi.out.below B1.out)).mono ?_
      rintro e w2 ⟨rfl, hb⟩
      have hfin := Lib.hid (own_empty (B1.out.trans (hb.mono B1.out.size)))
      clear hb c0 c1
      go_wp2
      go_ret
      exact ⟨_, rfl, by rw [HE.out]; exact hfin.out.1, hfin.out.2⟩
    | true =>
      have hb2 : bothB O zss n0 In G = true := by simp [bothB, hA, hB]
      have HOK := Lib.hid hb2
      have HE : Hid (fnL zss.length (ranksF O zss n0 In G) = r) := by rw [← hr]; unfold ranksL; rw [if_pos hb2]; rfl
      have HB := Lib.hid hB
      clear hA hr hB hb2
      go_enter Try.func27, Try.ntmps27
      go_wp2_with fail
      refine HC.out.mono ?_
      rintro e w1 ⟨rfl, hb⟩
      have B1 := Lib.hid (BW.out.trans (hb.mono BW.out.size))
      have b1 := Lib.hid (bW.out.below hb)
      have c0 := b1.out.cell0
      have c1 := b1.out.cell1
      clear hb
      go_wp2_with fail
      refine (l3Ok_is cG HB.out (HAt.out.below B1.out) (HGi.out.below B1.out)).mono ?_
      rintro e w2 ⟨rfl, hb⟩
      have B2 := Lib.hid (B1.out.trans (hb.mono B1.out.size))
      have c2 := (b1.out.below hb).cell0
      have c3 := (b1.out.below hb).cell1
      clear hb c0 c1
      go_wp2_with fail
      refine (l3Ranks_own cI cG HOK.out (HAt.out.below B2.out) (HIi.out.below B2.out) (HGi.out.below B2.out)).mono ?_
      rintro e w3 ⟨g, cap, rfl, ho, hb⟩
      have hfin : Hid (OwnInts w3 w.heap.size w3.heap.size (.slice (some ⟨g, 0, none⟩) zss.length cap) r ∧ Below w.heap.size w w3) := ⟨by rw [← HE.out]; exact OwnInts.base ho B2.out.size, B2.out.trans (hb.mono B2.out.size)⟩
      clear ho hb c2 c3
      go_wp2
      go_ret
      exact ⟨_, rfl, hfin.out⟩

set_option maxHeartbeats 4000000 in
set_option maxRecDepth 100000 in
theorem l3Attract_is {w : World} {va : Value} {O : List Int} {zss : List (List Int)} {n0 : Int} {aI aG : Option Addr} {In G : List Int} (cI cG : Nat) (hok : bothB O zss n0 In G = true) (h : ArenaAt w va O zss) (hI : IntsAt w aI In) (hG : IntsAt w aG G) :
    Calls Try.prog 47 #[va, .int .i64 n0, .slice aI In.length cI, .slice aG G.length cG] w (GivesInts w (markedK (fun v => decide (0 ≤ ranksF O zss n0 In G v)) zss.length)) := by
  obtain ⟨i0, hi, hz0, hz1, hz2⟩ := info_parts info_int
  have hz256 : zss.length ≤ 256 := by have := (bothB_yes hok).1.2.1; have := (bothB_yes hok).1.2.2.1; omega
  have HAt := Lib.hid h
  have HIi := Lib.hid hI
  have HGi := Lib.hid hG
  have HOK := Lib.hid hok
  obtain ⟨ao, an, co, cn, A, C, rfl, h1, h2⟩ := h
  clear h1 h2 hI hG hok
  have BW := Lib.hid (below1 w (.cells #[.slice ao O.length co, .slice an zss.length cn] 30))
  have HR := Lib.hid (l3Ranks_own cI cG HOK.out (HAt.out.below BW.out) (HIi.out.below BW.out) (HGi.out.below BW.out))
  obtain ⟨F, hF⟩ : ∃ F, F = ranksF O zss n0 In G := ⟨_, rfl⟩
  rw [← hF] at HR ⊢
  clear hF
  go_enter Try.func47, Try.ntmps47
  go_wp2_with fail
  refine HR.out.mono ?_
  rintro e w1 ⟨g, cap, rfl, ho, hb⟩
  have B1 := Lib.hid (BW.out.trans (hb.mono BW.out.size))
  have HF1 := Lib.hid ho
  have hgl := ho.lt.2
  have HGL := Lib.hid hgl
  clear ho hb hgl
  obtain ⟨w2, hw2⟩ : ∃ y, y = w1.alloc (.cells #[] 2) := ⟨_, rfl⟩
  have HW2 := Lib.hid hw2
  have O2 : Hid (w2.ownsRow w1.heap.size 2 1 (.slice (some ⟨w1.heap.size, 0, none⟩) 0 0) (markedK (fun v => decide (0 ≤ F v)) 0).length ((markedK (fun v => decide (0 ≤ F v)) 0).map (Value.int .i64))) := by rw [hw2]; exact World.ownsRow_made w1 #[] 0 (Nat.le_refl _) (by unfold maxLen; omega) rfl
  have hb2 : Below w1.heap.size w1 w2 := by rw [hw2]; exact below1 _ _
  have B2 := Lib.hid hb2
  clear hw2 hb2
  go_wp2
  rw [← HW2.out]
  go_loopw [10, 11] (fun v i wr => ∃ k : Nat, k ≤ zss.length ∧ i = .int .i64 k ∧ Hid (wr.ownsRow w1.heap.size 2 1 v (markedK (fun v => decide (0 ≤ F v)) k).length ((markedK (fun v => decide (0 ≤ F v)) k).map (Value.int .i64))) ∧ Hid (Below w1.heap.size w1 wr)) (fun _ i _ => zss.length - (intOf i).toNat)
  case atStart => exact ⟨0, Nat.zero_le _, rfl, O2, B2⟩
  case round =>
    clear O2 B2
    obtain ⟨k, hk, rfl, HO, HB⟩ := hrel
    by_cases hlt : k < zss.length
    · have hi1 : (k : Int) < zss.length := by omega
      have f1 := (HF1.out.only (S := fun _ => False) (Only.of_below HB.out) id).cell hlt
      have hml := markedK_len (fun v => decide (0 ≤ F v)) k
      obtain ⟨q, hq⟩ : ∃ q, q = F k := ⟨_, rfl⟩
      have HQ := Lib.hid hq
      rw [← hq] at f1
      clear hq
      by_cases hq0 : 0 ≤ q
      · have HS : Hid (markedK (fun v => decide (0 ≤ F v)) (k + 1) = markedK (fun v => decide (0 ≤ F v)) k ++ [(k : Int)]) := by simp [markedK, Hid]; rw [← HQ.out]; exact hq0
        go_wp2_with (at_builtin; refine wpList_append_own_at _ rfl _ _ 27 rfl w1.heap.size 2 i0 (.int .i64 0) 1 8 Try.underlying27 hi hz0 hz1 hz2 rfl (by decide) _ _ _ rfl (HO.out.alloc _) ⟨wr.heap.size, 0, none⟩ 1 1 [.int .i64 k] rfl rfl ?c1 ?c2 ?c3 ?c4 ?c5 ?_)
        case c1 => exact cell_one_new _ _ _
        case c2 => intro u hu; simp at hu; subst hu; rfl
        case c3 => unfold maxLen; omega
        case c4 => omega
        case c5 => have := HB.out.size; simp; omega
        intro v' w4 hown hgrow _ _
        have hbw := Below.size HB.out
        have HBn := Lib.hid ((HB.out.alloc hbw _).grown hgrow (by simp; omega) (fun g hg => (HO.out.lt g hg).1))
        have HOn : Hid (w4.ownsRow w1.heap.size 2 1 v' (markedK (fun v => decide (0 ≤ F v)) (k + 1)).length ((markedK (fun v => decide (0 ≤ F v)) (k + 1)).map (Value.int .i64))) := by rw [HS.out, List.map_append, List.length_append]; exact hown
        clear hown hgrow hbw
        go_wp2
        go_roundw
        case rel => exact ⟨k + 1, by omega, by go_num, HOn, HBn⟩
        case measure => simp [intOf]; omega
      · have HS : Hid (markedK (fun v => decide (0 ≤ F v)) (k + 1) = markedK (fun v => decide (0 ≤ F v)) k) := by simp [markedK, Hid]; rw [← HQ.out]; omega
        have HOn := HO
        rw [← HS.out] at HOn
        go_wp2
        go_roundw
        case rel => exact ⟨k + 1, by omega, by go_num, HOn, HB⟩
        case measure => simp [intOf]; omega
    · have hi1 : ¬ (k : Int) < zss.length := by omega
      have hkk : k = zss.length := by omega
      have h := HO.out
      rw [hkk] at h
      have hfin := Lib.hid (And.intro ((OwnInts.mk' h (by have := markedK_len (fun v => decide (0 ≤ F v)) zss.length; omega) (markedK_fits _ _ (by omega))).base B1.out.size) (B1.out.trans (HB.out.mono B1.out.size)))
      clear h
      clear hkk
      go_wp2
      go_ret
      exact ⟨_, rfl, hfin.out⟩

set_option maxHeartbeats 4000000 in
set_option maxRecDepth 100000 in
theorem specAttract_is {w : World} {va : Value} {O : List Int} {zss : List (List Int)} {n0 : Int} {aI aG : Option Addr} {In G r : List Int} (cI cG : Nat) (hr : attractL O zss n0 In G = r) (h : ArenaAt w va O zss) (hI : IntsAt w aI In) (hG : IntsAt w aG G) :
    Calls Try.prog 19 #[va, .int .i64 n0, .slice aI In.length cI, .slice aG G.length cG] w (GivesInts w r) := by
  have HAt := Lib.hid h
  have HIi := Lib.hid hI
  have HGi := Lib.hid hG
  obtain ⟨ao, an, co, cn, A, C, rfl, h1, h2⟩ := h
  clear h1 h2 hI hG
  have BW := Lib.hid (below1 w (.cells #[.slice ao O.length co, .slice an zss.length cn] 30))
  have bW := Lib.hid (Box2.new w 30 (.slice ao O.length co) (.slice an zss.length cn))
  cases hA : okB O zss n0 In with
  | false =>
    have HE : Hid (r = []) := by rw [← hr]; simp [attractL, bothB, hA, Hid]
    have HC := Lib.hid (l3Ok_is cI hA (HAt.out.below BW.out) (HIi.out.below BW.out))
    clear hA hr
    go_enter Try.func19, Try.ntmps19
    go_wp2_with (go_at_call 46; refine HC.out.mono ?_; rintro e w1 ⟨rfl, hb⟩; have hfin := Lib.hid (own_empty (BW.out.trans (hb.mono BW.out.size))); clear hb)
    go_ret
    exact ⟨_, rfl, by rw [HE.out]; exact hfin.out.1, hfin.out.2⟩
  | true =>
    have HC := Lib.hid (l3Ok_is cI hA (HAt.out.below BW.out) (HIi.out.below BW.out))
    cases hB : okB O zss n0 G with
    | false =>
      have HE : Hid (r = []) := by rw [← hr]; simp [attractL, bothB, hB, Hid]
      have HB := Lib.hid hB
      clear hA hr hB
      go_enter Try.func19, Try.ntmps19
      go_wp2_with fail
      refine HC.out.mono ?_
      rintro e w1 ⟨rfl, hb⟩
      have B1 := Lib.hid (BW.out.trans (hb.mono BW.out.size))
      have c0 := (bW.out.below hb).cell0
      have c1 := (bW.out.below hb).cell1
      clear hb
      go_wp2_with fail
      refine (l3Ok_is cG HB.out (HAt.out.below B1.out) (HGi.out.below B1.out)).mono ?_
      rintro e w2 ⟨rfl, hb⟩
      have hfin := Lib.hid (own_empty (B1.out.trans (hb.mono B1.out.size)))
      clear hb c0 c1
      go_wp2
      go_ret
      exact ⟨_, rfl, by rw [HE.out]; exact hfin.out.1, hfin.out.2⟩
    | true =>
      have hb2 : bothB O zss n0 In G = true := by simp [bothB, hA, hB]
      have HOK := Lib.hid hb2
      have HE : Hid (markedK (fun v => decide (0 ≤ ranksF O zss n0 In G v)) zss.length = r) := by rw [← hr]; unfold attractL; rw [if_pos hb2]; rfl
      have HB := Lib.hid hB
      clear hA hr hB hb2
      go_enter Try.func19, Try.ntmps19
      go_wp2_with fail
      refine HC.out.mono ?_
      rintro e w1 ⟨rfl, hb⟩
      have B1 := Lib.hid (BW.out.trans (hb.mono BW.out.size))
      have b1 := Lib.hid (bW.out.below hb)
      have c0 := b1.out.cell0
      have c1 := b1.out.cell1
      clear hb
      go_wp2_with fail
      refine (l3Ok_is cG HB.out (HAt.out.below B1.out) (HGi.out.below B1.out)).mono ?_
      rintro e w2 ⟨rfl, hb⟩
      have B2 := Lib.hid (B1.out.trans (hb.mono B1.out.size))
      have c2 := (b1.out.below hb).cell0
      have c3 := (b1.out.below hb).cell1
      clear hb c0 c1
      go_wp2_with fail
      refine (l3Attract_is cI cG HOK.out (HAt.out.below B2.out) (HIi.out.below B2.out) (HGi.out.below B2.out)).mono ?_
      rintro e w3 ⟨v3, rfl, ho, hb⟩
      have hfin : Hid (OwnInts w3 w.heap.size w3.heap.size v3 r ∧ Below w.heap.size w w3) := ⟨by rw [← HE.out]; exact OwnInts.base ho B2.out.size, B2.out.trans (hb.mono B2.out.size)⟩
      clear ho hb c2 c3
      go_wp2
      go_ret
      exact ⟨_, rfl, hfin.out⟩

end Go.Proofs.Ythelpfilgamdfaa
