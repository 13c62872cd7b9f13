/-
  Contract: the model's ReachOf.
-/
import Derived.Test.YtkfmaajhemijlaaBeyond
import Derived.Test.YtkfmaajhemijlaaMarked
import Derived.Deep.RegionHeld3
namespace Go.Proofs.Ytkfmaajhemijlaa
open Go.RowKit

theorem set_nats {n : Nat} {zs : List Int} (h : setB n zs = true) : ∀ f ∈ zs, ∃ u : Nat, f = (u : Int) ∧ u < n := fun f hf => by
  obtain ⟨i, hi, he⟩ := mem_nth.1 hf
  obtain ⟨h0, h1, _⟩ := setB_bounds h hi
  exact ⟨f.toNat, by omega, by omega⟩

theorem arena_nats {O : List Int} {zss : List (List Int)} (h : ArenaP O zss) : ∀ u : Nat, u < zss.length → ∀ x ∈ row zss u, ∃ v : Nat, x = (v : Int) ∧ v < zss.length := fun u hu x hx => by
  have hl := h.2.2.1
  obtain ⟨v, h1, h2⟩ := set_nats (h.2.2.2 u (by omega)).2.2.2 x hx
  exact ⟨v, h1, by omega⟩

open Classical in
/-- What is marked when k of the starts are marked, too. -/
noncomputable def fromK (zss : List (List Int)) (F : List Int) (k : Nat) : Nat → Bool := fun v => decide ((v : Int) ∈ F.take k ∨ Rch zss (fun _ => true) F v)

theorem fromK_zero (zss : List (List Int)) (F : List Int) : fromK zss F 0 = beyM zss (fun _ => true) F := by
  funext v; unfold fromK beyM; congr 1; simp
theorem fromK_all (zss : List (List Int)) (F : List Int) : fromK zss F F.length = reachM zss F := by
  funext v; simp [fromK, reachM]
theorem fromK_succ {zss : List (List Int)} {F : List Int} {k u : Nat} (hk : k < F.length) (hu : nth F k = (u : Int)) : fromK zss F (k + 1) = mark1 (fromK zss F k) u true := by
  funext v
  have ht : F.take (k + 1) = F.take k ++ [(u : Int)] := by
    rw [List.take_add_one, List.getElem?_eq_getElem hk, ← hu, nth_eq hk]; rfl
  by_cases e : v = u
  · subst e; simp [mark1, fromK, ht]
  · have e' : (v : Int) ≠ (u : Int) := by omega
    simp [mark1, fromK, ht, e, e']

set_option maxHeartbeats 4000000 in
set_option maxRecDepth 100000 in
theorem specReachOf_is {w : World} {va : Value} {O : List Int} {zss : List (List Int)} {aF : Option Addr} {F zs : List Int} (cF : Nat) (hr : reachL O zss F = zs) (h : ArenaAt w va O zss) (hF : IntsAt w aF F) :
    Calls Try.prog 13 #[va, .slice aF F.length cF] w (GivesInts w zs) := by
  obtain ⟨j0, hj, hj0, hj1, hj2⟩ := info_parts info_int
  have HAt := Lib.hid h
  have HFi := Lib.hid hF
  have hlF := hF.len
  obtain ⟨ao, an, co, cn, A, C, rfl, h1, h2⟩ := h
  have hlO := h1.len
  have hlN := h2.len
  have HNi := Lib.hid h2
  clear h1 h2 hF
  obtain ⟨W, hW⟩ : ∃ W, W = w.alloc (.cells #[.slice ao O.length co, .slice an zss.length cn] 27) := ⟨_, rfl⟩
  have HW := Lib.hid hW
  have BW : Hid (Below w.heap.size w W) := by rw [hW]; exact below1 _ _
  have bW : Hid (Box2 W w.heap.size 27 (.slice ao O.length co) (.slice an zss.length cn)) := by rw [hW]; exact Box2.new w _ _ _
  clear hW
  cases hA : arenaB O zss with
  | false =>
    have HE : Hid (zs = []) := by rw [← hr]; unfold reachL; rw [if_neg (fun hh => by rw [arenaB_yes hh.1] at hA; cases hA)]; rfl
    have HC := Lib.hid (specArenaOk_at hA (HAt.out.below BW.out))
    clear hA hr
    go_enter Try.func13, Try.ntmps13
    go_wp2_with fail
    rw [← HW.out]
    refine HC.out.mono ?_
    rintro e w1 ⟨rfl, hb⟩
    have B1 := Lib.hid (BW.out.trans (hb.mono BW.out.size))
    have hfin : Hid (OwnInts (w1.alloc (.cells #[] 2)) w.heap.size (w1.alloc (.cells #[] 2)).heap.size (.slice (some ⟨w1.heap.size, 0, none⟩) 0 0) zs ∧ Below w.heap.size w (w1.alloc (.cells #[] 2))) := by
      rw [HE.out]
      exact ⟨OwnInts.mk' (World.ownsRow_made w1 #[] 0 B1.out.size (by unfold maxLen; omega) rfl) (by simp) (fun k hk => absurd hk (by simp)), B1.out.alloc B1.out.size _⟩
    clear hb
    go_wp2
    go_ret
    exact ⟨_, rfl, hfin.out⟩
  | true =>
    have HP := Lib.hid (arenaB_iff.1 hA)
    have hO256 := HP.out.2.1
    have hz256 : zss.length ≤ 256 := by rw [HP.out.2.2.1]; exact hO256
    have HC := Lib.hid (specArenaOk_at hA (HAt.out.below BW.out))
    clear hA
    cases hB : setB O.length F with
    | false =>
      have HE : Hid (zs = []) := by rw [← hr]; unfold reachL; rw [if_neg (fun hh => by rw [hh.2] at hB; cases hB)]; rfl
      have HB := Lib.hid hB
      clear hr hB
      go_enter Try.func13, Try.ntmps13
      go_wp2_with fail
      rw [← HW.out]
      refine HC.out.mono ?_
      rintro e w1 ⟨rfl, hb⟩
      have B1 := Lib.hid (BW.out.trans (hb.mono BW.out.size))
      clear hb
      go_wp2_with fail
      refine (l1Set_is HB.out cF w1 (HFi.out.below B1.out) (Int.natCast_nonneg _) (by omega)).mono ?_
      rintro e w2 ⟨rfl, hq⟩
      have B2 := Lib.hid (below_same B1.out hq)
      have hfin : Hid (OwnInts (w2.alloc (.cells #[] 2)) w.heap.size (w2.alloc (.cells #[] 2)).heap.size (.slice (some ⟨w2.heap.size, 0, none⟩) 0 0) zs ∧ Below w.heap.size w (w2.alloc (.cells #[] 2))) := by
        rw [HE.out]
        exact ⟨OwnInts.mk' (World.ownsRow_made w2 #[] 0 B2.out.size (by unfold maxLen; omega) rfl) (by simp) (fun k hk => absurd hk (by simp)), B2.out.alloc B2.out.size _⟩
      clear hq
      go_wp2
      go_ret
      exact ⟨_, rfl, hfin.out⟩
    | true =>
      have HE : Hid (markedK (reachM zss F) zss.length = zs) := by rw [← hr]; unfold reachL; rw [if_pos ⟨HP.out, hB⟩]; rfl
      have HB := Lib.hid hB
      have hFl : F.length ≤ 256 := by
        have hq : (F.length : Int) ≤ (O.length : Int) := setB_len (Int.natCast_nonneg _) hB
        omega
      have HIN := Lib.hid (arena_nats HP.out)
      have HFN : Hid (∀ f ∈ F, ∃ u : Nat, f = (u : Int) ∧ u < zss.length) := by rw [HP.out.2.2.1]; exact set_nats hB
      have HL : Hid (∀ u, u < zss.length → (row zss u).length ≤ 16) := fun u hu => (HP.out.2.2.2 u (by rw [HP.out.2.2.1] at hu; exact hu)).2.2.1
      clear hr hB
      go_enter Try.func13, Try.ntmps13
      go_wp2_with fail
      rw [← HW.out]
      refine HC.out.mono ?_
      rintro e w1 ⟨rfl, hb⟩
      have B1 := Lib.hid (BW.out.trans (hb.mono BW.out.size))
      have b1 := Lib.hid (bW.out.below hb)
      clear hb
      go_wp2_with fail
      refine (l1Set_is HB.out cF w1 (HFi.out.below B1.out) (Int.natCast_nonneg _) (by omega)).mono ?_
      rintro e w2 ⟨rfl, hq⟩
      have hd2 : Below w1.heap.size w1 w2 := below_same (Below.refl _ _) hq
      have B2 := Lib.hid (B1.out.trans (hd2.mono B1.out.size))
      have b2 := Lib.hid (b1.out.below hd2)
      clear hq hd2
      have B2d := Lib.hid B2.out.drew
      have b2d : Hid (Box2 w2.drew _ _ _ _) := b2.out.below (Below.refl _ _).drew
      have c1 := b2.out.cell1
      go_wp2_with fail
      go_region_held3 (fun w' => w'.cell? ⟨w.heap.size, 1, none⟩ = some (.slice an zss.length cn))
        (first
          | go_keep
          | exact d1
          | exact e1)
        (first
          | (go_at_call 51; refine (l1Everywhere_is zss.length (by omega) _).mono ?_; rintro e w3 ⟨rfl, hrow, hb⟩; have d1 := (b2d.out.below hb).cell1; have B3 := Lib.hid (B2d.out.trans (hb.mono B2d.out.size)); have R3 := Lib.hid hrow; clear hb hrow)
          | (go_at_call 50; refine (l1Beyond_is cn cF (HNi.out.below B3.out) R3.out (HFi.out.below B3.out) (by omega) hFl HL.out HFN.out HIN.out).mono ?_; rintro e w4 ⟨rfl, hrow, hb⟩; have e1 : w4.cell? ⟨w.heap.size, 1, none⟩ = some (.slice an zss.length cn) := Below.cell_some (B := 0) hb rfl d1; have B4 := Lib.hid (B3.out.trans (hb.mono B3.out.size)); have R4 := Lib.hid hrow; clear hb hrow))
      have h3 := B3.out.size
      have R5 : Hid (w4.rowIs w3.heap.size 4 zss.length (marksV (fromK zss F 0))) := by rw [fromK_zero]; exact R4.out
      clear d1 e1 c1 R4 R3
      go_wp2
      go_loopw [7] (fun i wr => ∃ k : Nat, k ≤ F.length ∧ i = .int .i64 k ∧ Hid (wr.rowIs w3.heap.size 4 zss.length (marksV (fromK zss F k))) ∧ Hid (Below w.heap.size w wr)) (fun i _ => F.length - (intOf i).toNat)
      case atStart => exact ⟨0, Nat.zero_le _, rfl, R5, B4⟩
      case round =>
        clear R5 B4
        obtain ⟨k, hk, rfl, HR, HB'⟩ := hrel
        by_cases hlt : k < F.length
        · obtain ⟨bs, offs, ha, hc⟩ := (HFi.out.below HB'.out).cell (by omega)
          subst ha
          have hck := hc k hlt
          obtain ⟨u, hu, hun⟩ := HFN.out _ (nth_mem hlt)
          rw [hu] at hck
          have HS := Lib.hid (fromK_succ (zss := zss) hlt hu)
          clear hc hu
          have hi1 : (k : Int) < F.length := by omega
          have hi2 : (u : Int) < zss.length := by omega
          have hcO := HR.out.cell hun
          have hfO := HR.out.frozen u
          go_wp2
          go_roundw
          case rel => exact ⟨k + 1, by omega, by go_num, by rw [HS.out]; exact marks_set HR.out, HB'.out.setCell h3 _⟩
          case measure => simp [intOf]; omega
        · have hkk : k = F.length := by omega
          rw [hkk, fromK_all] at HR
          clear hkk
          have hi1 : ¬ (k : Int) < F.length := by omega
          have hi5 : ¬ k < F.length := hlt
          go_wp2_with fail
          refine (l1Marked_is HE.out HR.out (by omega)).mono ?_
          rintro e w6 ⟨v, rfl, hg, hb⟩
          have hsw := HB'.out.size
          have hfin : Hid (OwnInts w6 w.heap.size w6.heap.size v zs ∧ Below w.heap.size w w6) := ⟨hg.base hsw, HB'.out.trans (hb.mono hsw)⟩
          clear hg hb
          go_wp2
          go_ret
          exact ⟨_, rfl, hfin.out⟩

end Go.Proofs.Ytkfmaajhemijlaa
