/-
  Contract: the model's l1CopyArena.
-/
import Derived.Test.YtfhpjkfgcglofaaTurnedMem
namespace Go.Proofs.Ytfhpjkfgcglofaa
open Go.RowKit

theorem info_rows : (Try.prog.info? 24).map (fun i => (i.zero, i.size, i.bytes)) = some (some (.slice none 0 0), 1, 24) := by kernel_rfl

/-- A call hands back an arena of its own. -/
def GivesArena (w : World) (O : List Int) (zss : List (List Int)) (e : Ending) (w' : World) : Prop :=
  ∃ v, e = .returned v ∧ OwnArena w' w.heap.size w'.heap.size v O zss ∧ Below w.heap.size w w'

set_option maxHeartbeats 2000000 in
set_option maxRecDepth 100000 in
theorem l1CopyArena_is {w : World} {va : Value} {O : List Int} {zss : List (List Int)} (h : ArenaAt w va O zss) (hn : zss.length ≤ 1048576) :
    Calls Try.prog 73 #[va] w (GivesArena w O zss) := by
  obtain ⟨i0, hi, hz0, hz1, hz2⟩ := info_parts info_rows
  obtain ⟨ao, an, co, cn, A, C, rfl, h1, h2⟩ := h
  have HO := Lib.hid h1
  have HN := Lib.hid h2
  clear h1 h2
  go_enter Try.func73, Try.ntmps73
  go_wp2_with fail
  refine (l1Copy_is co ((HO.out.alloc _).alloc _)).mono ?_
  rintro e w1 ⟨vo, rfl, ho, hb⟩
  have B1 := Lib.hid ((below2 w _ _).trans (hb.mono (by simp; omega)))
  have b1 := Lib.hid (((Box2.new w 27 (.slice ao O.length co) (.slice an zss.length cn)).alloc _).below hb)
  have r1 := Lib.hid ((Box2.new_at (g := w.heap.size + 1) (by simp) 27 (.slice none 0 0) (.slice none 0 0)).below hb)
  have hvo : ∃ ag cg, vo = .slice ag O.length cg := by obtain ⟨a, c, hv, _⟩ := ho.shape; exact ⟨a, c, hv⟩
  obtain ⟨ag, cg, hvo⟩ := hvo
  subst hvo
  have hs1 : w.heap.size + 2 ≤ w1.heap.size := by have := hb.size; simp at this; omega
  have o1 : Hid (OwnInts w1 w.heap.size w1.heap.size (.slice ag O.length cg) O) := ho.base (by simp; omega)
  have HS1 := Lib.hid hs1
  clear ho hb hs1
  have S0 : Hid (Half2 w (w1.alloc (.cells #[.slice ag O.length cg, .slice none 0 0] 27)) w1.heap.size w.heap.size (.slice ag O.length cg) (.slice ao O.length co) (.slice an zss.length cn) O (zss.take 0)) :=
    ⟨B1.out.alloc B1.out.size _, b1.out.alloc _, _, _, Box2.new _ _ _ _, (o1.out.below (below1 _ _)).retop, OwnRows.nil _ _ _, fun i hi => absurd hi (by simp)⟩
  have R0 := Lib.hid (r1.out.alloc (.cells #[.slice ag O.length cg, .slice none 0 0] 27))
  have hlz := HN.out.len
  go_wp2
  go_loopw [4] (fun i wr => ∃ k : Nat, k ≤ zss.length ∧ i = .int .i64 k ∧ Hid (Half2 w wr w1.heap.size w.heap.size (.slice ag O.length cg) (.slice ao O.length co) (.slice an zss.length cn) O (zss.take k)) ∧ Hid (Box2 wr (w.heap.size + 1) 27 (.slice none 0 0) (.slice none 0 0))) (fun i _ => zss.length - (intOf i).toNat)
  case atStart => exact ⟨0, Nat.zero_le _, rfl, S0, R0⟩
  case round =>
    clear S0 R0
    obtain ⟨k, hk, rfl, HS, HR⟩ := hrel
    have hlen1 := HS1.out
    have hlen1' : w.heap.size ≤ w1.heap.size := by omega
    have bc1 := HS.out.box.cell1
    by_cases hlt : k < zss.length
    · obtain ⟨vn, V, hT, hvo, hvn, hap⟩ := HS.out.own
      have htk : (zss.take k).length = k := by simp; omega
      obtain ⟨a', c', hvs, _, _⟩ := hvn.shape
      rw [htk] at hvs
      subst hvs
      have HT := Lib.hid hT
      have HVO := Lib.hid hvo
      have HVN := Lib.hid hvn
      have HAP := Lib.hid hap
      have hown := hvn.own
      rw [htk] at hown
      have HOWN := Lib.hid hown
      have HTK := Lib.hid htk
      clear hT hvo hvn hap hown htk
      have N1 := Lib.hid (HN.out.below HS.out.below)
      obtain ⟨b, off, ha, hc⟩ := N1.out.cell (by omega)
      subst ha
      have hck := hc k hlt
      clear hc
      have hi1 : (k : Int) < zss.length := by omega
      have ht1 := HT.out.cell1
      have HD : Hid (Below wr.heap.size wr wr.drew) := (Below.refl _ _).drew
      have HRow := Lib.hid ((N1.out.rows k hlt).below HD.out)
      go_wp2
      go_region_law (first
        | (refine step_append_lies _ (by rfl) _ _ _ (by rfl) w.heap.size 24 i0 (.slice none 0 0) 1 24 Try.underlying25 hi hz0 hz1 hz2 rfl (by decide) (.slice a' k c') k ((List.range k).map V) (by rfl) (HOWN2.out.alloc _) ⟨w2.heap.size, 0, none⟩ 1 1 [.slice au (row zss k).length cu] (by rfl) (by rfl) (World.news_of_block (cs := #[.slice au (row zss k).length cu]) (t := 24) (fr := (0, 0)) (heap_alloc_new w2 _)) (by simp [Value.oneCell']) (by omega) (by unfold maxLen; omega) (by omega) (by have := HB2.out.size; simp; omega) (w2.heap.size + 1) (by simp) ?_; intro gg cap w3 hown3 hgrow hat hlt3; have hbx := (HT2.out.alloc (.cells #[.slice au (row zss k).length cu] 24)).grown (HOWN2.out.alloc _) (by decide) hgrow; have q3 := hbx.cell1; have p3 := hbx.frozen 1)
        | (go_simp; go_at_call 89; refine (l1Copy_is (C k) HRow.out).mono ?_; rintro e w2 ⟨u, rfl, hu, hb⟩; obtain ⟨au, cu, hus, _, _⟩ := hu.shape; subst hus; have HU := Lib.hid hu; have HB2 := Lib.hid (HS.out.below.trans ((HD.out.trans (hb.mono HD.out.size)).mono HS.out.below.size)); have HK2 := Lib.hid (HD.out.trans (hb.mono HD.out.size)); have t2 := (HT.out.below HK2.out).cell1; have t2a := ((HT.out.below HK2.out).alloc (.cells #[.slice au (row zss k).length cu] 24)).cell1; have HT2 := Lib.hid (HT.out.below HK2.out); have HOWN2 := Lib.hid (ownsRow_only HOWN.out (S := fun _ => False) (Only.of_below HK2.out) (fun _ _ h => h)); have hlt2 := HK2.out.size; have htl := HT.out.lt; clear hu hb))
      all_goals (
        have hstep := Half2.step (zs := row zss k) HS.out.below HS.out.box HT.out HVO.out HVN.out HAP.out hlen1' (by omega) (by rw [HTK.out]; omega) HK2.out HU.out (by rw [HTK.out]; exact hown3) hgrow
        rw [← take_snoc_rows hlt, HTK.out] at hstep
        have hR3 := (((HR.out.below HK2.out).alloc (.cells #[.slice au (row zss k).length cu] 24)).grown (HOWN2.out.alloc _) (by decide) hgrow).other (a := ⟨w1.heap.size, 1, none⟩) (by show w.heap.size + 1 ≠ w1.heap.size; omega) (.slice (some ⟨gg, 0, none⟩) (k + 1) cap)
        have HST := Lib.hid hstep
        have HR3 := Lib.hid hR3
        clear hstep hR3 hown3 hgrow hat hbx
        go_wp2
        go_roundw
        case rel => exact ⟨k + 1, by omega, by go_num, HST, HR3⟩
        case measure => simp [intOf]; omega)
    · have hkk : k = zss.length := by omega
      rw [hkk, List.take_length] at HS
      have HS' := HS
      obtain ⟨vn, V, hT, hvo, hvn, hap⟩ := HS.out.own
      obtain ⟨a', c', hvs, _, _⟩ := hvn.shape
      subst hvs
      clear hkk
      have t0 := hT.cell0
      have t1 := hT.cell1
      have d0 := HR.out.cell0
      have d1 := HR.out.cell1
      have g0 := HR.out.frozen 0
      have g1 := HR.out.frozen 1
      have HT := Lib.hid hT
      have HVO := Lib.hid hvo
      have HVN := Lib.hid hvn
      have HAP := Lib.hid hap
      clear hT hvo hvn hap
      go_wp2
      have hS1 : Only (fun b => b = w.heap.size + 1) wr ((wr.setCell ⟨w.heap.size + 1, 0, none⟩ (.slice ag O.length cg)).setCell ⟨w.heap.size + 1, 1, none⟩ (.slice a' zss.length c')) :=
        Only.setCell (S := fun b => b = w.heap.size + 1) (Only.setCell (S := fun b => b = w.heap.size + 1) (Only.refl _ _) (p := ⟨w.heap.size + 1, 0, none⟩) rfl _) (p := ⟨w.heap.size + 1, 1, none⟩) rfl _
      have hfin : GivesArena w O zss (.returned (.agg #[.slice ag O.length cg, .slice a' zss.length c'])) ((wr.setCell ⟨w.heap.size + 1, 0, none⟩ (.slice ag O.length cg)).setCell ⟨w.heap.size + 1, 1, none⟩ (.slice a' zss.length c')) :=
        ⟨_, rfl, ⟨_, _, V, rfl, (HVO.out.only hS1 (fun g hg e => HR.out.not_own HVO.out.own (by decide) (by rw [hg, e]))).retop, (HVN.out.only hS1 (fun g hg e => HR.out.not_own HVN.out.own (by decide) (by rw [hg, e])) (fun k hk g hg e => HR.out.not_own (HVN.out.rows k hk).own (by decide) (by rw [hg, e]))).retop, HAP.out⟩,
          (HS'.out.below.setCell (by show w.heap.size ≤ w.heap.size + 1; omega) _).setCell (by show w.heap.size ≤ w.heap.size + 1; omega) _⟩
      exact bodyPost_ret (v := .agg #[.slice ag O.length cg, .slice a' zss.length c']) (by simp [results, Try.results73, go_sem, d0, d1]) rfl hfin

end Go.Proofs.Ytfhpjkfgcglofaa
