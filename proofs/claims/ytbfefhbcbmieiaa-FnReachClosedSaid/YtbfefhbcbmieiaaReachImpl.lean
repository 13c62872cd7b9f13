/-
  Contract: the program's ReachOf.
-/
import Derived.Test.YtbfefhbcbmieiaaCursor2
import Derived.Test.YtbfefhbcbmieiaaWalk
import Derived.Test.YtbfefhbcbmieiaaSort
import Derived.Test.YtbfefhbcbmieiaaReachSpec
namespace Go.Proofs.Ytbfefhbcbmieiaa
open Go.RowKit

theorem upL_mem {n : Nat} (x : Int) : x ∈ upL n ↔ ∃ i : Nat, x = (i : Int) ∧ i < n := by
  simp only [upL, List.mem_map, List.mem_range]
  constructor
  · rintro ⟨i, hi, rfl⟩; exact ⟨i, rfl, hi⟩
  · rintro ⟨i, rfl, hi⟩; exact ⟨i, hi, rfl⟩

theorem open_all {n i : Nat} (hi : i < n) : openS (upL n) n i = true := by
  have h : (upL n).take n = upL n := List.take_of_length_le (by rw [upL_len]; exact Nat.le_refl _)
  simp only [openS, h]
  exact decide_eq_true ((upL_mem _).2 ⟨i, rfl, hi⟩)

theorem newCursor_up {w : World} {an aS : Option Addr} {m n : Nat} (cn cS : Nat) (hS : IntsAt w aS (upL n)) (hn : m ≤ 1048576) (hmn : m = n) :
    Calls Try.prog 58 #[.slice an m cn, .slice aS n cS] w fun e w' => e = .returned (.pointer (some ⟨w.heap.size + 1, 0, none⟩)) ∧
      Cur w' (w.heap.size + 1) w.heap.size (w.heap.size + 2) m (.slice an m cn) (.slice none 0 0) (openS (upL n) n) [] ∧ Below w.heap.size w w' ∧ w'.heap.size = w.heap.size + 2 := by
  have h := newCursor_is (an := an) (n := m) cn cS hS hn (fun f hf => by rw [hmn]; exact (upL_mem f).1 hf)
  rw [upL_len] at h
  exact h

set_option maxHeartbeats 4000000 in
set_option maxRecDepth 100000 in
theorem ReachOf_is {w : World} {va : Value} {O : List Int} {zss : List (List Int)} {aF : Option Addr} {F zs : List Int} (cF : Nat) (hr : reachL O zss F = zs) (h : ArenaAt w va O zss) (hF : IntsAt w aF F) :
    Calls Try.prog 17 #[va, .slice aF F.length cF] w (GivesInts w zs) := by
  have HAt := Lib.hid h
  have HFi := Lib.hid hF
  have hlF := hF.len
  obtain ⟨ao, an, co, cn, A, C, rfl, h1, h2⟩ := h
  have hlO := h1.len
  have hlN := h2.len
  have HNi := Lib.hid h2
  clear h1 h2 hF
  obtain ⟨W, hW⟩ : ∃ W, W = w.alloc (.cells #[.slice ao O.length co, .slice an zss.length cn] 27) := ⟨_, rfl⟩
  have HW := Lib.hid hW
  have BW : Hid (Below w.heap.size w W) := by rw [hW]; exact below1 _ _
  have bW : Hid (Box2 W w.heap.size 27 (.slice ao O.length co) (.slice an zss.length cn)) := by rw [hW]; exact Box2.new w _ _ _
  clear hW
  cases hA : arenaB O zss with
  | false =>
    have HE : Hid (zs = []) := by rw [← hr]; unfold reachL; rw [if_neg (fun hh => by rw [arenaB_yes hh.1] at hA; cases hA)]; rfl
    have HC := Lib.hid (ArenaOk_at hA (HAt.out.below BW.out))
    clear hA hr
    go_enter Try.func17, Try.ntmps17
    go_wp2_with fail
    rw [← HW.out]
    refine HC.out.mono ?_
    rintro e w1 ⟨rfl, hb⟩
    have B1 := Lib.hid (BW.out.trans (hb.mono BW.out.size))
    clear hb
    go_wp2
    go_ret
    exact ⟨_, rfl, by rw [HE.out]; exact OwnInts.nil _ _ _, B1.out⟩
  | true =>
    have HP := Lib.hid (arenaB_iff.1 hA)
    have hO256 := HP.out.2.1
    have hz256 : zss.length ≤ 256 := by rw [HP.out.2.2.1]; exact hO256
    have HC := Lib.hid (ArenaOk_at hA (HAt.out.below BW.out))
    clear hA
    cases hB : setB O.length F with
    | false =>
      have HE : Hid (zs = []) := by rw [← hr]; unfold reachL; rw [if_neg (fun hh => by rw [hh.2] at hB; cases hB)]; rfl
      have HB := Lib.hid hB
      clear hr hB
      go_enter Try.func17, Try.ntmps17
      go_wp2_with fail
      rw [← HW.out]
      refine HC.out.mono ?_
      rintro e w1 ⟨rfl, hb⟩
      have B1 := Lib.hid (BW.out.trans (hb.mono BW.out.size))
      have b1 := Lib.hid (bW.out.below hb)
      clear hb
      have c0 := b1.out.cell0
      have c1 := b1.out.cell1
      go_wp2_with fail
      refine (size_is ao an O.length zss.length co cn w1 hlO).mono ?_
      rintro e w2 ⟨rfl, hw2⟩
      have B2 : Hid (Below w.heap.size w w2) := by rw [← hw2]; exact B1.out.alloc B1.out.size _
      clear hw2 c0 c1
      go_wp2_with fail
      refine (isSet_is HB.out cF w2 (HFi.out.below B2.out) (by unfold Fits; omega)).mono ?_
      rintro e w3 ⟨rfl, rfl⟩
      go_wp2
      go_ret
      exact ⟨_, rfl, by rw [HE.out]; exact OwnInts.nil _ _ _, B2.out⟩
    | true =>
      have HE : Hid (markedK (reachM zss F) zss.length = zs) := by rw [← hr]; unfold reachL; rw [if_pos ⟨HP.out, hB⟩]; rfl
      have HB := Lib.hid hB
      have hFl : F.length ≤ 256 := by
        have hq : (F.length : Int) ≤ (O.length : Int) := setB_len (Int.natCast_nonneg _) hB
        omega
      have HZL := Lib.hid HP.out.2.2.1
      have HIN := Lib.hid (arena_nats HP.out)
      have HFN : Hid (∀ f ∈ F, ∃ u : Nat, f = (u : Int) ∧ u < zss.length) := by rw [HP.out.2.2.1]; exact set_nats hB
      have HL : Hid (∀ u, u < zss.length → (row zss u).length ≤ 256) := fun u hu => by have := (HP.out.2.2.2 u (by rw [HP.out.2.2.1] at hu; exact hu)).2.2.1; omega
      clear hr hB
      go_enter Try.func17, Try.ntmps17
      go_wp2_with fail
      rw [← HW.out]
      refine HC.out.mono ?_
      rintro e w1 ⟨rfl, hb⟩
      have B1 := Lib.hid (BW.out.trans (hb.mono BW.out.size))
      have b1 := Lib.hid (bW.out.below hb)
      clear hb
      have c0 := b1.out.cell0
      have c1 := b1.out.cell1
      go_wp2_with fail
      refine (size_is ao an O.length zss.length co cn w1 hlO).mono ?_
      rintro e w2 ⟨rfl, hw2⟩
      have B2 : Hid (Below w.heap.size w w2) := by rw [← hw2]; exact B1.out.alloc B1.out.size _
      have b2 : Hid (Box2 w2 w.heap.size 27 (.slice ao O.length co) (.slice an zss.length cn)) := by rw [← hw2]; exact b1.out.alloc _
      clear hw2 c0 c1
      go_wp2_with fail
      refine (isSet_is HB.out cF w2 (HFi.out.below B2.out) (by unfold Fits; omega)).mono ?_
      rintro e w3 ⟨rfl, rfl⟩
      have B2d := Lib.hid B2.out.drew
      have b2d : Hid (Box2 w2.drew _ _ _ _) := b2.out.below (Below.refl _ _).drew
      have c0 := b2.out.cell0
      have c1 := b2.out.cell1
      go_wp2_with fail
      go_region_held3 (fun w' => w'.cell? ⟨w.heap.size, 0, none⟩ = some (.slice ao O.length co) ∧ w'.cell? ⟨w.heap.size, 1, none⟩ = some (.slice an zss.length cn))
        (first
          | go_keep
          | exact ⟨d0, d1⟩
          | exact ⟨e0, e1⟩
          | exact ⟨k0, k1⟩)
        (first
          | (go_at_call 57; refine (size_is ao an O.length zss.length co cn _ hlO).mono ?_; rintro e w3 ⟨rfl, hw3⟩; have hb3 : Below w2.drew.heap.size w2.drew w3 := hw3 ▸ below1 _ _; have d0 := (b2d.out.below hb3).cell0; have d1 := (b2d.out.below hb3).cell1; have B3 := Lib.hid (B2d.out.trans (hb3.mono B2d.out.size)); have b3 := Lib.hid (b2d.out.below hb3); clear hw3 hb3)
          | (go_at_call 59; refine (upTo_is O.length (by omega) _).mono ?_; rintro e w4 ⟨rfl, hup, hb⟩; have e0 := (b3.out.below hb).cell0; have e1 := (b3.out.below hb).cell1; have B4 := Lib.hid (B3.out.trans (hb.mono B3.out.size)); have b4 := Lib.hid (b3.out.below hb); have U4 := Lib.hid hup; clear hb hup)
          | (go_at_call 58; refine (newCursor_up cn O.length U4.out (by omega) HZL.out).mono ?_; rintro e w5 ⟨rfl, hcu, hb, hs⟩; have k0 := (b4.out.below hb).cell0; have k1 := (b4.out.below hb).cell1; have B5 := Lib.hid (B4.out.trans (hb.mono B4.out.size)); have C5 := Lib.hid hcu; have S5 := Lib.hid hs; clear hb hcu hs))
      have h4 := B4.out.size
      have s5 := S5.out
      have hop := opens_le (openS (upL O.length) O.length) zss.length
      have HSL := Lib.hid (walk_sorted HIN.out HFN.out (o := openS (upL O.length) O.length) (fun i hi => open_all (by rw [← HZL.out]; exact hi)) (f := zss.length + 1) (by omega))
      have HFO := Lib.hid (follow_is (cn := cn) HNi.out hz256 HL.out HIN.out (p := w4.heap.size + 1) (bo := w4.heap.size) (B := w4.heap.size + 2) (by omega) (by omega) (by omega) (by omega) (by omega) (zss.length + 1))
      clear d0 d1 e0 e1 k0 k1 c0 c1
      go_wp2
      go_loopw [27] (fun i wr => ∃ k : Nat, k ≤ F.length ∧ i = .int .i64 k ∧ Hid (∃ vl, Cur wr (w4.heap.size + 1) w4.heap.size (w4.heap.size + 2) zss.length (.slice an zss.length cn) vl (dfsL (dfs zss (zss.length + 1)) (openS (upL O.length) O.length) (F.take k)).1 (dfsL (dfs zss (zss.length + 1)) (openS (upL O.length) O.length) (F.take k)).2) ∧ Hid (Below w.heap.size w wr) ∧ Hid (w5.heap.size ≤ wr.heap.size)) (fun i _ => F.length - (intOf i).toNat)
      case atStart => exact ⟨0, Nat.zero_le _, rfl, ⟨_, by simpa [dfsL] using C5.out⟩, B5, Nat.le_refl _⟩
      case round =>
        obtain ⟨k, hk, rfl, HCC, HB', HZ⟩ := hrel
        have hz := HZ.out
        have hlen := dfsL_len (step := dfs zss (zss.length + 1)) (dfs_len HIN.out (zss.length + 1)) (F.take k) (fun x hx => HFN.out x (List.mem_of_mem_take hx)) (openS (upL O.length) O.length)
        by_cases hlt : k < F.length
        · obtain ⟨b3, off3, ha3, hc3⟩ := (HFi.out.below HB'.out).cell (by omega)
          subst ha3
          have hck3 := hc3 k hlt
          obtain ⟨x, hx, hxn⟩ := HFN.out _ (nth_mem hlt)
          have HX : Hid (F.take (k + 1) = F.take k ++ [(x : Int)]) := by
            rw [List.take_add_one, List.getElem?_eq_getElem hlt, ← hx, nth_eq hlt]; rfl
          rw [hx] at hck3
          clear hx hc3
          have hi4 : (k : Int) < F.length := by omega
          obtain ⟨vl', hcc⟩ := HCC.out
          have HI := Lib.hid (HFO.out wr vl' _ _ x hxn (by omega) (by omega) (by omega) HB'.out hcc)
          clear hcc hlen
          go_wp2_with fail
          refine HI.out.mono ?_
          rintro e w6 ⟨rfl, hc6, ho6⟩
          have HN6 : Hid (∃ vl, Cur w6 (w4.heap.size + 1) w4.heap.size (w4.heap.size + 2) zss.length (.slice an zss.length cn) vl (dfsL (dfs zss (zss.length + 1)) (openS (upL O.length) O.length) (F.take (k + 1))).1 (dfsL (dfs zss (zss.length + 1)) (openS (upL O.length) O.length) (F.take (k + 1))).2) := by
            rw [HX.out, dfsL_snoc]
            simpa [Hid] using hc6
          have hsw := HB'.out.size
          have HB6 := Lib.hid (HB'.out.trans (ho6.below (B := w.heap.size) hsw (fun b hb => by omega)))
          have HZ6 : Hid (w5.heap.size ≤ w6.heap.size) := Nat.le_trans hz ho6.size
          clear hc6 ho6 hsw
          go_wp2
          go_roundw
          case rel => exact ⟨k + 1, by omega, by go_num, HN6, HB6, HZ6⟩
          case measure => simp [intOf]; omega
        · have hkk : k = F.length := by omega
          obtain ⟨vl', hcc⟩ := HCC.out
          rw [hkk, List.take_length] at hcc hlen
          have hi4 : ¬ (k : Int) < F.length := by omega
          have hi5 : ¬ k < F.length := hlt
          obtain ⟨L, hL⟩ : ∃ L, L = (dfsL (dfs zss (zss.length + 1)) (openS (upL O.length) O.length) F).2 := ⟨_, rfl⟩
          have hLl : L.length ≤ 256 := by rw [hL]; omega
          have HLS : Hid ((L.mergeSort fun x y => decide (x ≤ y)) = zs) := by rw [hL]; exact HSL.out.trans HE.out
          rw [← hL] at hcc
          have HCf := Lib.hid hcc
          clear hcc hkk hlen hL
          go_wp2_with fail
          refine (take_is HCf.out (by omega) (by omega)).mono ?_
          rintro e w6 ⟨rfl, hc6, hl6, ho6⟩
          have hsw := HB'.out.size
          have HB6 := Lib.hid (HB'.out.trans (ho6.below (B := w.heap.size) hsw (fun b hb => by omega)))
          have L6 := Lib.hid hl6
          clear hc6 hl6 ho6
          go_wp2_with fail
          refine (sort_own L6.out (by omega)).mono ?_
          rintro e w7 ⟨rfl, hl7, ho7⟩
          have hs6 := HB6.out.size
          have HB7 := Lib.hid (HB6.out.trans (ho7.below (B := w.heap.size) hs6 (fun b hb => by have := (L6.out.lt b hb).1; omega)))
          rw [HLS.out] at hl7
          have hzl : zs.length = L.length := by rw [← HLS.out, List.length_mergeSort]
          have hf := markedK_fits (reachM zss F) zss.length (by omega)
          rw [HE.out] at hf
          rw [← hzl] at hl7
          have hfin : Hid (OwnInts w7 w.heap.size w7.heap.size vl' zs ∧ Below w.heap.size w w7) := ⟨OwnInts.mk' (ownsRow_base hl7 (by omega)) (by omega) hf, HB7.out⟩
          clear hl7 ho7 hf
          go_wp2
          go_ret
          exact ⟨_, rfl, hfin.out⟩

end Go.Proofs.Ytbfefhbcbmieiaa
