/-
  Contracts of chapter 2: BothOf, on both sides (slices.Grow, slices.Concat, slices.Sort, slices.Compact at a set).
-/
import Derived.Test.YtbfefhbcbmieiaaUnion
import Derived.Test.YtbfefhbcbmieiaaSort
import Derived.Test.YtbfefhbcbmieiaaSortSetLays
import Derived.Test.YtbfefhbcbmieiaaCompactLays
import Derived.Lib.AppendZeros
import Derived.Lib.OwnBridge
namespace Go.Proofs.Ytbfefhbcbmieiaa
open Go.RowKit Go.Sort

theorem sortSet_own {w : World} {B : Nat} {v : Value} {zs : List Int} (h : w.ownsRow B 2 1 v zs.length (zs.map (Value.int .i64))) (hl : zs.length ≤ 1048576) :
    Calls Try.prog 101 #[v] w fun e w' => e = .returned (.tuple #[]) ∧ w'.ownsRow B 2 1 v zs.length ((zs.mergeSort fun x y => decide (x ≤ y)).map (Value.int .i64)) ∧ Only (fun b => v.ownBlock = some b) w w' := by
  rcases h.2 with ⟨hv, h0⟩ | ⟨g, cap, cur, hv, hg, hb, hc, hm, hcs, ht⟩
  · have hz : zs = [] := List.length_eq_zero_iff.1 h0
    subst hz
    subst hv
    refine (AnyM.slices_Sort_int_none sortSetLays none 0 w).mono ?_
    rintro e w' ⟨rfl, rfl⟩
    exact ⟨rfl, by simpa using h, Only.refl _ _⟩
  · subst hv
    have hlt : g < w.heap.size := (Array.getElem?_eq_some_iff.1 hb).1
    refine (AnyM.slices_Sort_int sortSetLays g 0 cap zs w (holds_of_blockI hb (by simpa using ht)) hlt (by omega)).mono ?_
    rintro e w' ⟨rfl, n, os, rfl⟩
    refine ⟨rfl, ownsRow_sortedI (List.length_mergeSort _) hg hb hc hm hcs, ?_⟩
    exact (Only.of_grown (grownBy_sortedI (w := w) (g := g) (n := n) (os := os) _)).mono fun b hb => by simpa [Value.ownBlock] using hb

theorem zero23 : ∀ w, (zeroValue 2).run Try.prog w = .ok (.int .i64 0) w := Try.zeroValue2

theorem compact_own {w : World} {B : Nat} {v : Value} {zs : List Int} (h : w.ownsRow B 2 1 v zs.length (zs.map (Value.int .i64))) (hl : zs.length ≤ 1048576) :
    Calls Try.prog 102 #[v] w fun e w' => ∃ u, e = .returned u ∧ w'.ownsRow B 2 1 u (compL zs).length ((compL zs).map (Value.int .i64)) ∧ Only (fun b => v.ownBlock = some b) w w' := by
  rcases h.2 with ⟨hv, h0⟩ | ⟨g, cap, cur, hv, hg, hb, hc, hm, hcs, ht⟩
  · have hz : zs = [] := List.length_eq_zero_iff.1 h0
    subst hz
    subst hv
    go_enter Try.func102, Try.ntmps102
    go_wp2
    go_ret
    exact ⟨_, rfl, World.ownsRow_nil _ _ _ _, Only.refl _ _⟩
  · subst hv
    have hcl := comp_len zs
    have hH : Holds (Value.int .i64) w g 0 zs.toArray := holds_of_blockI hb (by simpa using ht)
    refine (AnyE.slices_Compact compactLays (Value.int .i64) (fun _ => rfl) (EqlAt.intD _ _ .i64) (NeqAt.intD _ _ .i64) 0 zero23 g 0 cap zs.toArray w hH (by simp; omega) (by simpa using hc)).mono ?_
    rintro e w' ⟨rfl, q, rfl⟩
    have hsz : zs.toArray.size = zs.length := by simp
    rw [hsz]
    refine ⟨_, rfl, ?_, ?_⟩
    · have hk := Go.Lib.ownsRow_putRow (enc := Value.int .i64) (q := q) (k := (compL zs).length) (ys := compL zs ++ List.replicate (zs.length - (compL zs).length) 0) h (by simp; omega) hcl
      rw [List.take_left'  rfl] at hk
      exact hk
    · refine ⟨rfl, rfl, rfl, by simp [putRow, mapBlock, Sort.ahead], fun k hk hne => ?_⟩
      have : g ≠ k := fun e => hne (by simp [Value.ownBlock, e])
      simp [putRow, mapBlock, Sort.ahead, Array.getElem?_modify, this]

set_option maxHeartbeats 1000000 in
set_option maxRecDepth 100000 in
theorem Grow_is {w : World} (n : Nat) (hn : n ≤ 2097152) :
    Calls Try.prog 124 #[.slice none 0 0, .int .i64 n] w fun e w' => ∃ v, e = .returned v ∧ w'.ownsRow w.heap.size 2 1 v 0 [] ∧ Below w.heap.size w w' := by
  obtain ⟨i0, hi, hz0, hz1, hz2⟩ := info_parts info_int
  by_cases h0 : 0 < n
  · have hrun := Go.Lib.run_append_nil_zeros (P := Try.prog) w 77 3 77 2 i0 (.int .i64 0) .i64 .i64 Try.underlying77 Try.underlying3 hi hz0 n h0 (by omega) (by omega) (by rw [hz2]; omega)
    obtain ⟨cp, hcp⟩ : ∃ c, grownCap w n 0 2 = c := ⟨_, rfl⟩
    have hcm := grownCap_le_maxLen w n 0 2 (by unfold maxLen; omega)
    have hcg := grownCap_ge w n 0 2
    rw [hcp] at hrun hcm hcg
    obtain ⟨cs, hcs⟩ : ∃ c, Builtin.zeroCells (Value.int .i64 0).cells n ++ Builtin.zeroCells (Value.int .i64 0).cells (cp - n) = c := ⟨_, rfl⟩
    have hcz : cs.size = cp := by
      rw [← hcs]; simp [Builtin.zeroCells, Value.cells]; omega
    rw [hcs] at hrun
    have HRUN := Lib.hid hrun
    clear hrun hcs hcp
    have hi1 : (0 : Int) < n := by omega
    go_enter Try.func124, Try.ntmps124
    go_wp2_with (at_builtin; refine Go.Lib.wpList_append_run _ rfl _ _ 77 3 rfl _ _ rfl rfl _ _ HRUN.out ?_)
    go_ret
    refine ⟨_, rfl, ⟨by simp, .inr ⟨w.heap.size, cp, cs, rfl, Nat.le_refl _, ?_, Nat.zero_le _, hcm, by omega, by simp⟩⟩, ?_⟩
    · exact heap_alloc_new w.drew _
    · exact (Below.refl _ _).drew.alloc (Nat.le_refl _) _
  · have hn0 : n = 0 := by omega
    subst hn0
    go_enter Try.func124, Try.ntmps124
    go_wp2
    go_ret
    exact ⟨_, rfl, World.ownsRow_nil _ _ _ _, Below.refl _ _⟩

theorem rows_pair {w : World} {a a' : Option Addr} {S T : List Int} {cs ct : Nat} (t : TypeId) (h : IntsAt w a S) (h' : IntsAt w a' T) :
    RowsAt (w.alloc (.cells #[.slice a S.length cs, .slice a' T.length ct] t)) (some ⟨w.heap.size, 0, none⟩) (fun k => if k = 0 then a else a') (fun k => if k = 0 then cs else ct) [S, T] := by
  have hb := Box2.new w t (.slice a S.length cs) (.slice a' T.length ct)
  refine ⟨by simp, fun _ => ⟨_, 0, rfl, fun k hk => ?_⟩, fun k hk => ?_⟩
  · match k with
    | 0 => exact hb.cell0
    | 1 => exact hb.cell1
    | k + 2 => exact absurd hk (by simp)
  · match k with
    | 0 => exact h.alloc _
    | 1 => exact h'.alloc _
    | k + 2 => exact absurd hk (by simp)

theorem catK_fits {w : World} {a : Option Addr} {A : Nat → Option Addr} {C : Nat → Nat} {zss : List (List Int)} (h : RowsAt w a A C zss) : ∀ n, n ≤ zss.length → ∀ k, k < (catK zss n).length → Fits (nth (catK zss n) k)
  | 0, _, k, hk => absurd hk (by simp [catK])
  | n + 1, hn, k, hk => by
    have hm := nth_mem hk
    generalize nth (catK zss (n + 1)) k = y at hm
    rw [catK, List.mem_append] at hm
    rcases hm with hm | hm
    · obtain ⟨j, hj, e⟩ := mem_nth.1 hm
      rw [← e]; exact catK_fits h n (by omega) j hj
    · obtain ⟨j, hj, e⟩ := mem_nth.1 hm
      rw [← e]; exact (h.rows n (by omega)).fits j hj

set_option maxHeartbeats 2000000 in
set_option maxRecDepth 100000 in
theorem Concat_is {w : World} {a : Option Addr} {A : Nat → Option Addr} {C : Nat → Nat} {zss : List (List Int)} (cap : Nat) (h : RowsAt w a A C zss) (hl : zss.length ≤ 1048576) (hs : sumLen zss zss.length ≤ 1048576) :
    Calls Try.prog 100 #[.slice a zss.length cap] w (GivesInts w (catK zss zss.length)) := by
  obtain ⟨i0, hi, hz0, hz1, hz2⟩ := info_parts info_int
  have HR := Lib.hid h
  have HCF := Lib.hid (catK_fits h zss.length (Nat.le_refl _))
  have HG := Lib.hid (Grow_is (w := w) (sumLen zss zss.length) (by omega))
  clear h
  go_enter Try.func100, Try.ntmps100
  go_wp2
  go_loop [3, 11] (fun s i => ∃ k : Nat, k ≤ zss.length ∧ i = .int .i64 k ∧ s = .int .i64 (sumLen zss k)) (fun _ i => zss.length - (intOf i).toNat)
  case atStart => exact ⟨0, Nat.zero_le _, rfl, rfl⟩
  case round =>
    obtain ⟨k, hk, rfl, rfl⟩ := hrel
    by_cases hlt : k < zss.length
    · obtain ⟨b, off, ha, hc⟩ := HR.out.cell (by omega)
      subst ha
      have hck := hc k hlt
      clear hc
      have hsum : sumLen zss k + (row zss k).length ≤ 1048576 := by have := sumLen_mono zss (show k + 1 ≤ zss.length by omega); simp only [sumLen] at this; omega
      have HE : Hid (((sumLen zss (k + 1) : Nat) : Int) = (sumLen zss k : Int) + ((row zss k).length : Int)) := by simp [sumLen, Hid]
      go_wp2
      go_round
      case rel => exact ⟨k + 1, by omega, by go_num, by rw [HE.out]⟩
      case measure => simp [intOf]; omega
    · have hkk : k = zss.length := by omega
      subst hkk
      go_wp2_with fail
      refine HG.out.mono ?_
      rintro e w1 ⟨v, rfl, hv, hb⟩
      have HV := Lib.hid hv
      have HB := Lib.hid hb
      clear hv hb
      go_wp2
      go_loopw [6, 27] (fun u i wr => ∃ (k : Nat) (uu : Value), uu = u ∧ k ≤ zss.length ∧ i = .int .i64 k ∧ Hid (wr.ownsRow w.heap.size 2 1 u (catK zss k).length ((catK zss k).map (Value.int .i64))) ∧ Hid (Below w.heap.size w wr)) (fun _ i _ => zss.length - (intOf i).toNat)
      case atStart => exact ⟨0, _, rfl, Nat.zero_le _, rfl, HV, HB⟩
      case round =>
        clear HV HB HG
        obtain ⟨k, uu, hu0, hk, rfl, HU, HB⟩ := hrel
        subst hu0
        have hsz := HB.out.size
        by_cases hlt : k < zss.length
        · obtain ⟨b, off, ha, hc⟩ := (HR.out.below HB.out).cell (by omega)
          subst ha
          have hck := hc k hlt
          clear hc
          have hsum : sumLen zss k + (row zss k).length ≤ 1048576 := by have := sumLen_mono zss (show k + 1 ≤ zss.length by omega); simp only [sumLen] at this; omega
          have HRow := Lib.hid ((HR.out.below HB.out).rows k hlt)
          have HCL := Lib.hid (catK_len zss k)
          have e1 : (catK zss (k + 1)).length = (catK zss k).length + (row zss k).length := by simp [catK]
          have e2 : (catK zss (k + 1)).map (Value.int .i64) = (catK zss k).map (Value.int .i64) ++ (row zss k).map (Value.int .i64) := by simp [catK]
          have E1 := Lib.hid e1
          have E2 := Lib.hid e2
          clear e1 e2
          cases hA : A k with
          | none =>
            rw [hA] at hck HRow
            have hz : row zss k = [] := List.length_eq_zero_iff.1 (by
              rcases Nat.eq_zero_or_pos (row zss k).length with h | h
              · exact h
              · obtain ⟨b, off, ha, _⟩ := HRow.out.cell h; cases ha)
            have HU2 : Hid (wr.ownsRow w.heap.size 2 1 uu (catK zss (k + 1)).length ((catK zss (k + 1)).map (Value.int .i64))) := Lib.hid (by
              rw [E1.out, E2.out, hz]; simpa using HU.out)
            rw [hz] at hck
            clear hA hz E1 E2
            go_wp2_with (at_builtin; refine wpList_append_nil rfl _ _ 77 rfl w.heap.size 2 i0 1 Try.underlying77 hi _ _ _ rfl HU.out _ rfl ?_)
            go_roundw
            case rel => exact ⟨k + 1, _, rfl, by omega, by go_num, HU2, HB⟩
            case measure => simp [intOf]; omega
          | some ad =>
            rw [hA] at hck HRow
            clear hA
            go_wp2_with (at_builtin; refine wpList_append_own_at _ rfl _ _ 77 rfl w.heap.size 2 i0 (.int .i64 0) 1 8 Try.underlying77 hi hz0 hz1 hz2 rfl (by decide) _ _ _ rfl HU.out ad (row zss k).length (C k) ((row zss k).map (Value.int .i64)) rfl ?c0 ?c1 ?c2 ?c3 ?c4 ?c5 ?_)
            case c0 => simp
            case c1 => exact news_of HRow.out
            case c2 => exact one_of _
            case c3 => have := HCL.out; unfold maxLen; omega
            case c4 => have := HCL.out; omega
            case c5 => exact hsz
            · intro v' w1' hown' hgrow _ _
              have HBn := Lib.hid (HB.out.grown hgrow hsz (fun g hg => (HU.out.lt g hg).1))
              have HOn := Lib.hid hown'
              rw [← E1.out, ← E2.out] at HOn
              clear hown' hgrow
              go_wp2
              go_roundw
              case rel => exact ⟨k + 1, _, rfl, by omega, by go_num, HOn, HBn⟩
              case measure => simp [intOf]; omega
        · have hkk : k = zss.length := by omega
          rw [hkk] at HU
          have hcl := catK_len zss zss.length
          have hfin := Lib.hid (And.intro (OwnInts.mk' HU.out (by omega) HCF.out) HB.out)
          clear hkk HU hcl
          go_wp2
          go_ret
          exact ⟨_, rfl, hfin.out⟩

theorem unionL_len (S T : List Int) : (unionL S T).length ≤ S.length + T.length := unionK_len S T _ (Nat.le_refl _)
theorem unionL_fits {S T : List Int} (hS : ∀ k, k < S.length → Fits (nth S k)) (hT : ∀ k, k < T.length → Fits (nth T k)) : ∀ k, k < (unionL S T).length → Fits (nth (unionL S T) k) := fun k hk => by
  rcases unionL_mem.1 (nth_mem hk) with hm | hm
  · obtain ⟨j, hj, e⟩ := mem_nth.1 hm
    rw [← e]; exact hS j hj
  · obtain ⟨j, hj, e⟩ := mem_nth.1 hm
    rw [← e]; exact hT j hj

set_option maxHeartbeats 1000000 in
theorem with_is {w : World} {a a' : Option Addr} {S T : List Int} (cs ct : Nat) (hS : IntsAt w a S) (hT : IntsAt w a' T) (hr : Rises S) (hlS : S.length ≤ 256) (hlT : T.length ≤ 256) :
    Calls Try.prog 82 #[.slice a S.length cs, .slice a' T.length ct] w (GivesInts w (unionL S T)) := by
  have HC : Hid (Calls Try.prog 100 #[.slice (some ⟨w.heap.size, 0, none⟩) 2 2] (w.alloc (.cells #[.slice a S.length cs, .slice a' T.length ct] 77)) (GivesInts (w.alloc (.cells #[.slice a S.length cs, .slice a' T.length ct] 77)) (S ++ T))) := by
    have h := Concat_is (zss := [S, T]) 2 (rows_pair 77 (cs := cs) (ct := ct) hS hT) (by simp) (by simp [sumLen, row]; omega)
    have e : catK [S, T] [S, T].length = S ++ T := by simp [catK, row]
    rw [e] at h
    exact h
  have HF := Lib.hid (And.intro (unionL_fits hS.fits hT.fits) (unionL_len S T))
  have HO := Lib.hid hr
  have B1 := Lib.hid (below1 w (.cells #[.slice a S.length cs, .slice a' T.length ct] 77))
  have hlu : (S ++ T).length ≤ 512 := by simp; omega
  have HLU := Lib.hid hlu
  clear hS hT hr hlu
  go_enter Try.func82, Try.ntmps82
  go_wp2_with fail
  refine HC.out.mono ?_
  rintro e w1 ⟨v, rfl, hv, hb⟩
  have HV := Lib.hid (hv.base (B' := w.heap.size) (by simp))
  have HB := Lib.hid (B1.out.trans (hb.mono B1.out.size))
  clear hv hb HC
  go_wp2_with fail
  refine (sortSet_own HV.out.own (by have := HLU.out; omega)).mono ?_
  rintro e w2 ⟨rfl, hs, ho⟩
  have hlen : (S ++ T).length = ((S ++ T).mergeSort fun x y => decide (x ≤ y)).length := (List.length_mergeSort _).symm
  rw [hlen] at hs
  have H2 := Lib.hid hs
  have HB2 := Lib.hid (HB.out.trans (ho.below (B := w.heap.size) HB.out.size (fun b hb => (HV.out.own.lt b hb).1)))
  have HL2 : Hid (((S ++ T).mergeSort fun x y => decide (x ≤ y)).length ≤ 512) := by rw [← hlen]; exact HLU.out
  clear hs ho hlen
  go_wp2_with fail
  refine (compact_own H2.out (by have := HL2.out; omega)).mono ?_
  rintro e w3 ⟨u, rfl, hu, ho⟩
  rw [comp_sorted_union HO.out] at hu
  have HU := Lib.hid hu
  have HB3 := Lib.hid (HB2.out.trans (ho.below (B := w.heap.size) HB2.out.size (fun b hb => (H2.out.lt b hb).1)))
  clear hu ho
  go_wp2
  go_ret
  exact ⟨_, rfl, OwnInts.mk' HU.out (by have := HF.out.2; omega) HF.out.1, HB3.out⟩

set_option maxHeartbeats 1000000 in
theorem BothOf_is {w : World} {a a' : Option Addr} {S T r : List Int} (hr : bothL S T = r) (cs ct : Nat) (hS : IntsAt w a S) (hT : IntsAt w a' T) :
    Calls Try.prog 38 #[.slice a S.length cs, .slice a' T.length ct] w (GivesInts w r) := by
  cases hb : bothOk S T with
  | true =>
    have HC := Lib.hid (areSets_two hb cs ct hS hT)
    have hlT : T.length ≤ 256 := by have := setB_len (by decide) (both_sets hb).2; omega
    have HP := Lib.hid (with_is (w := w.alloc (.cells #[.slice a S.length cs, .slice a' T.length ct] 24)) cs ct (hS.alloc _) (hT.alloc _) (rises_of (both_sets hb).1) (both_len hb) hlT)
    have HR : Hid (r = unionL S T) := by rw [← hr]; unfold bothL; rw [hb]; rfl
    have B1 := Lib.hid (below1 w (.cells #[.slice a S.length cs, .slice a' T.length ct] 24))
    clear hr hS hT hb
    go_enter Try.func38, Try.ntmps38
    go_wp2_with (first
      | (go_at_call 79; refine HC.out.mono ?_; rintro e w' ⟨rfl, rfl⟩)
      | (go_at_call 82; refine HP.out.mono ?_; rintro e w2 ⟨u, rfl, hu, hbb⟩; have U := Lib.hid hu; have B2 := Lib.hid (B1.out.trans (hbb.mono B1.out.size)); clear hu hbb))
    go_ret
    exact ⟨_, rfl, by rw [HR.out]; exact U.out.base (by simp), B2.out⟩
  | false =>
    have HC := Lib.hid (areSets_two hb cs ct hS hT)
    have HR : Hid (r = []) := by rw [← hr]; unfold bothL; rw [hb]; rfl
    clear hr hS hT hb
    go_enter Try.func38, Try.ntmps38
    go_wp2_with (go_at_call 79; refine HC.out.mono ?_; rintro e w' ⟨rfl, rfl⟩)
    go_ret
    exact ⟨_, rfl, by rw [HR.out]; exact OwnInts.nil _ _ _, below1 _ _⟩

set_option maxHeartbeats 1000000 in
theorem specBothOf_is {w : World} {a a' : Option Addr} {S T r : List Int} (hr : bothL S T = r) (cs ct : Nat) (hS : IntsAt w a S) (hT : IntsAt w a' T) :
    Calls Try.prog 47 #[.slice a S.length cs, .slice a' T.length ct] w (GivesInts w r) := by
  have HS := Lib.hid hS
  have HT := Lib.hid hT
  have HC := Lib.hid (fun b (hb : bothOk S T = b) => l2Both_is hb cs ct hS hT)
  clear hS hT
  cases hb : bothOk S T with
  | false =>
    have HC' := Lib.hid (HC.out _ hb)
    have HR : Hid (r = []) := by rw [← hr]; unfold bothL; rw [hb]; rfl
    clear hr hb HC
    go_enter Try.func47, Try.ntmps47
    go_wp2_with (go_at_call 78; refine HC'.out.mono ?_; rintro e w' ⟨rfl, q, rfl⟩)
    go_ret
    refine ⟨_, rfl, ?_, (below_drewN (Below.refl w.heap.size w) q).alloc (Nat.le_refl _) _⟩
    rw [HR.out]
    exact OwnInts.mk' (World.ownsRow_made (w.drewN q) #[] 0 (Nat.le_refl _) (by unfold maxLen; omega) rfl) (by simp) (fun k hk => absurd hk (by simp))
  | true =>
    have HC' := Lib.hid (HC.out _ hb)
    have HR : Hid (r = unionL S T) := by rw [← hr]; unfold bothL; rw [hb]; rfl
    have hlS := both_len hb
    have hlT : T.length ≤ 256 := by have := setB_len (by decide) (both_sets hb).2; omega
    clear hr hb HC
    go_enter Try.func47, Try.ntmps47
    go_wp2_with fail
    refine HC'.out.mono ?_
    rintro e w' ⟨rfl, q, rfl⟩
    go_wp2_with fail
    refine (l1Copy_is cs (HS.out.same ⟨q, rfl⟩)).mono ?_
    rintro e w1 ⟨v, rfl, hv, hbb⟩
    have HV : Hid (OwnInts w1 w.heap.size w1.heap.size v S) := hv
    have HB : Hid (Below w.heap.size w w1) := (below_drewN (Below.refl w.heap.size w) q).trans (hbb.mono (Nat.le_refl _))
    clear hv hbb HC'
    go_wp2
    go_loopw [5, 6] (fun u i wr => ∃ k : Nat, k ≤ T.length ∧ i = .int .i64 k ∧ Hid (OwnInts wr w.heap.size wr.heap.size u (unionK S T k)) ∧ Hid (Below w.heap.size w wr)) (fun _ i _ => T.length - (intOf i).toNat)
    case atStart => exact ⟨0, Nat.zero_le _, rfl, by simpa [unionK] using HV, HB⟩
    case round =>
      clear HV HB
      obtain ⟨k, hk, rfl, HU, HB⟩ := hrel
      have hsz := HB.out.size
      by_cases hlt : k < T.length
      · obtain ⟨b, off, ha, hc⟩ := (HT.out.below HB.out).cell (by omega)
        subst ha
        have hck := hc k hlt
        clear hc
        have hul := unionK_len S T k (by omega)
        have HI := Lib.hid (l1Into_is HU.out hsz (by omega) (HT.out.fits k hlt))
        rw [← unionK_succ hlt] at HI
        clear hul
        go_wp2_with (go_at_call 86; refine HI.out.mono ?_; rintro e w2 ⟨u2, rfl, hu2, hb2⟩; have HU2 := Lib.hid hu2; have HB2 := Lib.hid (HB.out.trans (hb2.mono hsz)); clear hu2 hb2)
        go_roundw
        case rel => exact ⟨k + 1, by omega, by go_num, HU2, HB2⟩
        case measure => simp [intOf]; omega
      · have hkk : k = T.length := by omega
        rw [hkk] at HU
        clear hkk
        go_wp2
        go_ret
        exact ⟨_, rfl, by rw [HR.out]; exact HU.out, HB.out⟩

end Go.Proofs.Ytbfefhbcbmieiaa
