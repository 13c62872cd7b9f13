/-
  Contract: the program's LoopsOf up to its sort.
-/
import Derived.Test.YtaagbnogbhegdaaLoopsInv
import Derived.Test.YtaagbnogbhegdaaReachImpl
import Derived.Test.YtaagbnogbhegdaaLoopsSpec
import Derived.Test.YtaagbnogbhegdaaSortRows
namespace Go.Proofs.Ytaagbnogbhegdaa
open Go.RowKit Go.Shelf

attribute [local go_sem] Oper.semAt_some

theorem preds_at {w : World} {va : Value} {O : List Int} {zss : List (List Int)} (hP : ArenaP O zss) (h : ArenaAt w va O zss) :
    Calls Try.prog 73 #[va] w (GivesRows w zss.length fun u => predsK zss u zss.length) := by
  have h := preds_is hP h
  rw [← hP.2.2.1] at h
  exact h

set_option maxHeartbeats 4000000 in
set_option maxRecDepth 100000 in
theorem LoopsOf_is {w : World} {va : Value} {O : List Int} {zss R : List (List Int)} {aF : Option Addr} {F : List Int} (cF : Nat) (hr : loopsL O zss F = R) (h : ArenaAt w va O zss) (hF : IntsAt w aF F) :
    Calls Try.prog 16 #[va, .slice aF F.length cF] w (GivesLoops w R) := by
  obtain ⟨i0, hi, hz0, hz1, hz2⟩ := info_parts' info_rows
  have HAt := Lib.hid h
  have HFi := Lib.hid hF
  have hlF := hF.len
  obtain ⟨ao, an, co, cn, A, C, rfl, h1, h2⟩ := h
  have hlO := h1.len
  have hlN := h2.len
  have HNi := Lib.hid h2
  clear h1 h2 hF
  obtain ⟨W, hW⟩ : ∃ W, W = w.alloc (.cells #[.slice ao O.length co, .slice an zss.length cn] 27) := ⟨_, rfl⟩
  have HW := Lib.hid hW
  have BW : Hid (Below w.heap.size w W) := by rw [hW]; exact below1 _ _
  have bW : Hid (Box2 W w.heap.size 27 (.slice ao O.length co) (.slice an zss.length cn)) := by rw [hW]; exact Box2.new w _ _ _
  clear hW
  cases hA : arenaB O zss with
  | false =>
    have HE : Hid (R = []) := by rw [← hr]; unfold loopsL; rw [if_neg (fun hh => by rw [arenaB_yes hh.1] at hA; cases hA)]; rfl
    have HC := Lib.hid (ArenaOk_at hA (HAt.out.below BW.out))
    clear hA hr
    go_enter Try.func16, Try.ntmps16
    go_wp2_with fail
    rw [← HW.out]
    refine HC.out.mono ?_
    rintro e w1 ⟨rfl, hb⟩
    have B1 := Lib.hid (BW.out.trans (hb.mono BW.out.size))
    clear hb
    go_wp2
    go_ret
    exact ⟨_, _, rfl, by rw [HE.out]; exact OwnRows.nil _ _ _, B1.out⟩
  | true =>
    have HP := Lib.hid (arenaB_iff.1 hA)
    have hO256 := HP.out.2.1
    have hz256 : zss.length ≤ 256 := by rw [HP.out.2.2.1]; exact hO256
    have HC := Lib.hid (ArenaOk_at hA (HAt.out.below BW.out))
    clear hA
    cases hB : setB O.length F with
    | false =>
      have HE : Hid (R = []) := by rw [← hr]; unfold loopsL; rw [if_neg (fun hh => by rw [hh.2] at hB; cases hB)]; rfl
      have HB := Lib.hid hB
      clear hr hB
      go_enter Try.func16, Try.ntmps16
      go_wp2_with fail
      rw [← HW.out]
      refine HC.out.mono ?_
      rintro e w1 ⟨rfl, hb⟩
      have B1 := Lib.hid (BW.out.trans (hb.mono BW.out.size))
      have b1 := Lib.hid (bW.out.below hb)
      clear hb
      have c0 := b1.out.cell0
      have c1 := b1.out.cell1
      go_wp2_with fail
      refine (size_is ao an O.length zss.length co cn w1 hlO).mono ?_
      rintro e w2 ⟨rfl, hw2⟩
      have B2 : Hid (Below w.heap.size w w2) := by rw [← hw2]; exact B1.out.alloc B1.out.size _
      clear hw2 c0 c1
      go_wp2_with fail
      refine (isSet_is HB.out cF w2 (HFi.out.below B2.out) (by unfold Fits; omega)).mono ?_
      rintro e w3 ⟨rfl, rfl⟩
      go_wp2
      go_ret
      exact ⟨_, _, rfl, by rw [HE.out]; exact OwnRows.nil _ _ _, B2.out⟩
    | true =>
      have HE : Hid (loopsS zss F = R) := by rw [← hr]; unfold loopsL; rw [if_pos ⟨HP.out, hB⟩]; rfl
      have HB := Lib.hid hB
      have hFl : F.length ≤ 256 := by
        have hq : (F.length : Int) ≤ (O.length : Int) := setB_len (Int.natCast_nonneg _) hB
        omega
      have HZL := Lib.hid HP.out.2.2.1
      have HIN := Lib.hid (arena_nats HP.out)
      have HFN : Hid (∀ f ∈ F, ∃ u : Nat, f = (u : Int) ∧ u < zss.length) := by rw [HP.out.2.2.1]; exact set_nats hB
      have HL : Hid (∀ u, u < zss.length → (row zss u).length ≤ 256) := fun u hu => by have := (HP.out.2.2.2 u (by rw [HP.out.2.2.1] at hu; exact hu)).2.2.1; omega
      clear hr hB
      refine (callsIn_wide (n := 4)).1 ?_
      refine callsIn_of_wp_marks Try.func16 rfl trivial ?_ rfl
      simp only [Try.ntmps16, List.size_toArray, List.length_cons, List.length_nil, Nat.reduceAdd, Nat.reduceSub, Array.replicate_succ, Array.replicate_zero, List.push_toArray, List.append_toArray, List.nil_append, List.cons_append]
      refine wpIn_wide.2 ?_
      go_wp2_with fail
      rw [← HW.out]
      refine HC.out.mono ?_
      rintro e w1 ⟨rfl, hb⟩
      have B1 := Lib.hid (BW.out.trans (hb.mono BW.out.size))
      have b1 := Lib.hid (bW.out.below hb)
      clear hb
      have c0 := b1.out.cell0
      have c1 := b1.out.cell1
      go_wp2_with fail
      refine (size_is ao an O.length zss.length co cn w1 hlO).mono ?_
      rintro e w2 ⟨rfl, hw2⟩
      have B2 : Hid (Below w.heap.size w w2) := by rw [← hw2]; exact B1.out.alloc B1.out.size _
      have b2 : Hid (Box2 w2 w.heap.size 27 (.slice ao O.length co) (.slice an zss.length cn)) := by rw [← hw2]; exact b1.out.alloc _
      clear hw2 c0 c1
      go_wp2_with fail
      refine (isSet_is HB.out cF w2 (HFi.out.below B2.out) (by unfold Fits; omega)).mono ?_
      rintro e w3 ⟨rfl, rfl⟩
      have c0 := b2.out.cell0
      have c1 := b2.out.cell1
      go_wp2_with fail
      refine (newCursor_is (an := an) (n := zss.length) cn cF (HFi.out.below B2.out) (by omega) HFN.out).mono ?_
      rintro e w4 ⟨rfl, hcu, hb, hs⟩
      have B4 := Lib.hid hb
      have C4 := Lib.hid hcu
      have S4 := Lib.hid hs
      clear hb hcu hs c0 c1
      have h2 := B2.out.size
      have hop := opens_le (openS F F.length) zss.length
      have HFO := Lib.hid (follow_is (cn := cn) HNi.out hz256 HL.out HIN.out (p := w2.heap.size + 1) (bo := w2.heap.size) (B := w2.heap.size + 2) (by omega) (by omega) (by omega) (by omega) (by omega) (zss.length + 1))
      go_wp2
      go_loopw [29] (fun i wr => ∃ k : Nat, k ≤ F.length ∧ i = .int .i64 k ∧ Hid (∃ vl, Cur wr (w2.heap.size + 1) w2.heap.size (w2.heap.size + 2) zss.length (.slice an zss.length cn) vl (dfsL (dfs zss (zss.length + 1)) (openS F F.length) (F.take k)).1 (dfsL (dfs zss (zss.length + 1)) (openS F F.length) (F.take k)).2) ∧ Hid (Below w2.heap.size w2 wr) ∧ Hid (w2.heap.size + 2 ≤ wr.heap.size)) (fun i _ => F.length - (intOf i).toNat)
      case atStart => exact ⟨0, Nat.zero_le _, rfl, ⟨_, by simpa [dfsL] using C4.out⟩, B4, by rw [S4.out]; exact Nat.le_refl _⟩
      case round =>
        obtain ⟨k, hk, rfl, HCC, HB', HZ⟩ := hrel
        have hz := HZ.out
        have hlen := dfsL_len (step := dfs zss (zss.length + 1)) (dfs_len HIN.out (zss.length + 1)) (F.take k) (fun x hx => HFN.out x (List.mem_of_mem_take hx)) (openS F F.length)
        by_cases hlt : k < F.length
        · obtain ⟨b3, off3, ha3, hc3⟩ := (HFi.out.below (B2.out.trans (HB'.out.mono h2))).cell (by omega)
          subst ha3
          have hck3 := hc3 k hlt
          obtain ⟨x, hx, hxn⟩ := HFN.out _ (nth_mem hlt)
          have HX : Hid (F.take (k + 1) = F.take k ++ [(x : Int)]) := by
            rw [List.take_add_one, List.getElem?_eq_getElem hlt, ← hx, nth_eq hlt]; rfl
          rw [hx] at hck3
          clear hx hc3
          have hi4 : (k : Int) < F.length := by omega
          obtain ⟨vl', hcc⟩ := HCC.out
          have HI := Lib.hid (HFO.out wr vl' _ _ x hxn (by omega) (by omega) (by omega) (B2.out.trans (HB'.out.mono h2)) hcc)
          clear hcc hlen
          go_wp2_with fail
          refine HI.out.mono ?_
          rintro e w6 ⟨rfl, hc6, ho6⟩
          have HN6 : Hid (∃ vl, Cur w6 (w2.heap.size + 1) w2.heap.size (w2.heap.size + 2) zss.length (.slice an zss.length cn) vl (dfsL (dfs zss (zss.length + 1)) (openS F F.length) (F.take (k + 1))).1 (dfsL (dfs zss (zss.length + 1)) (openS F F.length) (F.take (k + 1))).2) := by
            rw [HX.out, dfsL_snoc]
            simpa [Hid] using hc6
          have hsw := HB'.out.size
          have HB6 := Lib.hid (HB'.out.trans (ho6.below (B := w2.heap.size) hsw (fun b hb => by omega)))
          have HZ6 : Hid (w2.heap.size + 2 ≤ w6.heap.size) := Nat.le_trans hz ho6.size
          clear hc6 ho6 hsw
          go_wp2
          go_roundw
          case rel => exact ⟨k + 1, by omega, by go_num, HN6, HB6, HZ6⟩
          case measure => simp [intOf]; omega
        · have hkk : k = F.length := by omega
          obtain ⟨vl', hcc⟩ := HCC.out
          rw [hkk, List.take_length] at hcc hlen
          have hi4 : ¬ (k : Int) < F.length := by omega
          have hi5 : ¬ k < F.length := hlt
          obtain ⟨L, hL⟩ : ∃ L, L = aheadL zss F (zss.length + 1) := ⟨_, rfl⟩
          have hLl : L.length ≤ 256 := by rw [hL]; unfold aheadL; omega
          rw [show (dfsL (dfs zss (zss.length + 1)) (openS F F.length) F).2 = L by rw [hL]; rfl] at hcc
          have HLn : Hid (∀ x ∈ L, ∃ u : Nat, x = (u : Int) ∧ u < zss.length) := by rw [hL]; exact aheadL_nats HIN.out HFN.out (by omega)
          have HLL := Lib.hid hL
          have HCf := Lib.hid hcc
          clear hcc hkk hlen hL
          have hs4 := HB'.out.size
          have bA := Lib.hid (b2.out.below HB'.out)
          have BR := Lib.hid (B2.out.trans (HB'.out.mono h2))
          obtain ⟨w6, hw6⟩ : ∃ w6, w6 = wr.alloc (.cells #[.slice none 0 0] 25) := ⟨_, rfl⟩
          have HW6 := Lib.hid hw6
          have B6 : Hid (Below wr.heap.size wr w6) := by rw [hw6]; exact below1 _ _
          have bL : Hid (Boxed w6 wr.heap.size 25 (.slice none 0 0)) := by rw [hw6]; exact Boxed.new _ _ _
          have s6 : w6.heap.size = wr.heap.size + 1 := by rw [hw6]; simp
          have HS6 := Lib.hid s6
          clear hw6 s6
          have bA6 := Lib.hid (bA.out.below B6.out)
          have c0 := (bA.out.alloc (.cells #[.slice none 0 0] 25)).cell0
          have c1 := (bA.out.alloc (.cells #[.slice none 0 0] 25)).cell1
          go_wp2_with fail
          rw [← HW6.out]
          have hs6 := HS6.out
          have BR6 := Lib.hid (BR.out.trans (B6.out.mono BR.out.size))
          refine (preds_at HP.out (HAt.out.below BR6.out)).mono ?_
          rintro e w7 ⟨g, V, rfl, hV, hb⟩
          obtain ⟨hrw, hgb, hrb⟩ := hV.rowsAt (by omega)
          have HRW := Lib.hid hrw
          have HGB := Lib.hid hgb
          have HRB := Lib.hid hrb
          have B7 := Lib.hid hb
          have BR7 := Lib.hid (BR6.out.trans (hb.mono BR6.out.size))
          clear hrw hgb hrb hV hb c0 c1
          go_wp2_with fail
          refine (newCursor_is (an := some ⟨g, 0, none⟩) (n := zss.length) zss.length cF (HFi.out.below BR7.out) (by omega) HFN.out).mono ?_
          rintro e w8 ⟨rfl, hcu, hb, hs⟩
          have B8 := Lib.hid hb
          have C8 := Lib.hid hcu
          have S8 := Lib.hid hs
          clear hb hcu hs
          go_wp2_with fail
          have hs7 := B7.out.size
          have hs8 := S8.out
          obtain ⟨w9, hw9⟩ : ∃ w9, w9 = w8.alloc (.cells #[.pointer (some ⟨w7.heap.size + 1, 0, none⟩)] 88) := ⟨_, rfl⟩
          have HW9 := Lib.hid hw9
          have B9 : Hid (Below w8.heap.size w8 w9) := by rw [hw9]; exact below1 _ _
          have bK : Hid (Boxed w9 w8.heap.size 88 (.pointer (some ⟨w7.heap.size + 1, 0, none⟩))) := by rw [hw9]; exact Boxed.new _ _ _
          have s9 : w9.heap.size = w8.heap.size + 1 := by rw [hw9]; simp
          have HS9 := Lib.hid s9
          clear hw9 s9
          rw [← HW9.out]
          have B79 : Hid (Below w7.heap.size w7 w9) := B8.out.trans (B9.out.mono (by omega))
          have B69 : Hid (Below w6.heap.size w6 w9) := B7.out.trans (B79.out.mono (by omega))
          have Br9 : Hid (Below wr.heap.size wr w9) := B6.out.trans (B69.out.mono (by omega))
          refine (take_is (HCf.out.below Br9.out) (by omega) (by omega)).mono ?_
          rintro e w10 ⟨rfl, -, hl10, ho10⟩
          have hfL : ∀ j, j < L.length → Fits (nth L j) := fun j hj => by
            obtain ⟨u, hu, hul⟩ := HLn.out _ (nth_mem hj)
            rw [hu]; unfold Fits; omega
          obtain ⟨aL, capL, hvL, hiL, hbL⟩ := (OwnInts.mk' hl10 (by omega) hfL).shape
          subst hvL
          have HIL := Lib.hid hiL
          have HBL := Lib.hid hbL
          have HO10 := Lib.hid ho10
          have hs10 := ho10.size
          clear hl10 hiL hbL ho10
          go_wp2_with fail
          refine (callsIn_wide.1 (backward_in Fence.wide 3 trivial rfl aL L.length capL w10)).mono ?_
          rintro e w11 ⟨rfl, hw11⟩
          have HW11 := Lib.hid hw11
          have B11 : Hid (Below w10.heap.size w10 w11) := by rw [hw11]; exact below1 _ _
          have bS : Hid (Boxed w11 w10.heap.size 24 (.slice aL L.length capL)) := by rw [hw11]; exact Boxed.new _ _ _
          have s11 : w11.heap.size = w10.heap.size + 1 := by rw [hw11]; simp
          have HS11 := Lib.hid s11
          clear hw11 s11
          go_wp2_with fail
          have hgL : ∀ b, 0 < L.length → aL = some ⟨b, 0, none⟩ → b < wr.heap.size ∧ w2.heap.size + 2 ≤ b := fun b h0 e => by
            obtain ⟨h1, h2⟩ := addr_block HCf.out.lft (b := b) (off := 0) (by simpa [addrOf] using e)
            exact ⟨h2, h1⟩
          have hTT : ∀ k, (k = w10.heap.size ∨ (0 < L.length ∧ aL = some ⟨k, 0, none⟩)) → k < w11.heap.size ∧ k ≠ wr.heap.size ∧ k ≠ w7.heap.size + 1 ∧ k ≠ w7.heap.size := fun k hk => by
            have := HS11.out
            have := HS9.out
            rcases hk with h | ⟨h0, h⟩
            · omega
            · have := hgL k h0 h; omega
          have HTT := Lib.hid hTT
          have bL5 : Hid (Boxed w11 wr.heap.size 25 (.slice none 0 0)) := boxed_below (boxed_only (boxed_below bL.out B69.out) HO10.out (by omega)) B11.out
          have bK5 : Hid (Boxed w11 (w7.heap.size + 2) 88 (.pointer (some ⟨w7.heap.size + 1, 0, none⟩))) := by
            have h := bK.out
            rw [hs8] at h
            exact boxed_below (boxed_only h HO10.out (by omega)) B11.out
          have bA5 : Hid (Box2 w11 w.heap.size 27 (.slice ao O.length co) (.slice an zss.length cn)) := (box2_only (bA.out.below Br9.out) HO10.out (by omega)).below B11.out
          have C5 : Hid (Cur w11 (w7.heap.size + 1) w7.heap.size w11.heap.size zss.length (.slice (some ⟨g, 0, none⟩) zss.length zss.length) (.slice none 0 0) (openS F F.length) []) :=
            (((C8.out.below B9.out).only HO10.out (by omega) (by omega)).below B11.out).rebase _
          have BR5 : Hid (Below w.heap.size w w11) := (BR.out.trans (Br9.out.mono BR.out.size)).trans (((HO10.out.below (B := w.heap.size) (by have := BR.out.size; have := Br9.out.size; omega) (fun b hb => by omega))).trans (B11.out.mono (by have := BR.out.size; have := Br9.out.size; omega)))
          have I0 : Hid (KI w11 wr.heap.size (w7.heap.size + 1) w7.heap.size zss.length (.slice (some ⟨g, 0, none⟩) zss.length zss.length) [] (openS F F.length) w11) := ⟨⟨_, _, bL5.out, OwnRows.nil _ _ _⟩, C5.out, Only.refl _ _⟩
          have HPR : Hid (∀ W, KI w11 wr.heap.size (w7.heap.size + 1) w7.heap.size zss.length (.slice (some ⟨g, 0, none⟩) zss.length zss.length) [] (openS F F.length) w11 → Only (fun b => b = wr.heap.size ∨ b = w7.heap.size + 1 ∨ b = w7.heap.size) w11 W → RowsAt (cutAt W w7.heap.size) (some ⟨g, 0, none⟩) (fun k => addrOf (V k)) (fun k => capOf (V k)) (predR zss zss.length)) := fun W _ hO => by
            have h10 := HO10.out
            have h11 := HS11.out
            refine HRW.out.move (P := fun b => w6.heap.size ≤ b ∧ b < w7.heap.size) (fun b hb => ?_) (fun b off e => ?_) (fun k hk b off e => ?_)
            · obtain ⟨hb1, hb2⟩ : w6.heap.size ≤ b ∧ b < w7.heap.size := hb
              have h9 := HS9.out
              rw [cutAt_block hb2, hO.block b (by omega) (by omega), B11.out.block b (by omega), h10.block b (by omega) (by omega), B79.out.block b hb2]
            · have e' : g = b := by simp at e; exact e.1
              rw [← e']; exact HGB.out
            · exact HRB.out k (by rw [rowsOf_len] at hk; exact hk) b off e
          obtain ⟨ps, hps, hpm⟩ := back_ex (n := zss.length) L.reverse (fun x hx => HLn.out x (List.mem_reverse.1 hx))
          rw [List.reverse_reverse] at hps
          have HPM := Lib.hid hpm
          have hst := backward_stops Fence.wide 3 trivial rfl (by omega) (fun k => k = w10.heap.size ∨ (0 < L.length ∧ aL = some ⟨k, 0, none⟩)) w10.heap.size zss.length capL aL L ps hps hLl w11 (.inl rfl) (by have := HS11.out; omega) bS.out.cell
            (fun hne => by
              have h0 : 0 < L.length := List.length_pos_iff.2 hne
              obtain ⟨gg, e1, e2, e3, _, _⟩ := HBL.out h0
              obtain ⟨b', off', e4, hc'⟩ := (HIL.out.below B11.out).cell h0
              have e5 := e1
              rw [e4] at e5
              obtain ⟨rfl, rfl⟩ : b' = gg ∧ off' = 0 := by simpa using e5
              exact ⟨b', 0, e4, .inr ⟨h0, e4⟩, by have := HS11.out; omega, hc'⟩)
          have HST := Lib.hid hst
          clear hst hpm hps hgL hTT
          refine (wpIn_wide (n := 4)).1 ?_
          refine wpIn_rangeFunc_ownG (n := 4) rfl (by omega) (gf := 119) (lb := #[.pointer (some ⟨w10.heap.size, 0, none⟩)]) rfl trivial (enters_of Try.func119 (by kernel_rfl) rfl) HST.out Stay.trans (stayK_b fun k hk => (HTT.out k hk).1) (Below.refl _ _) (fun _ => rfl)
            (fun pre W => KI w11 wr.heap.size (w7.heap.size + 1) w7.heap.size zss.length (.slice (some ⟨g, 0, none⟩) zss.length zss.length) (kosR zss (predR zss zss.length) (zss.length + 1) (openS F F.length) (valsOf pre)) (dfsL (dfs (predR zss zss.length) (zss.length + 1)) (openS F F.length) (valsOf pre)).1 W)
            (fun _ _ _ => False) (KI.own _ _) (fun _ _ _ _ _ hs _ _ => hs) I0.out
            ?act ?assign ?body ?done ?stop
          case assign =>
            intro l x W K hK
            dsimp only [encP]
            gi_wp2
            exact hK
          case body =>
            rintro l pre x W hI hlt
            have HI := Lib.hid hI
            obtain ⟨⟨uu, VV, hb8, hrw8⟩, hcur, hon⟩ := hI
            have HB8 := Lib.hid hb8
            have HR8 := Lib.hid hrw8
            have HCU := Lib.hid hcur
            have HON := Lib.hid hon
            have ck := (boxed_only bK5.out hon (by omega)).cell
            clear hb8 hrw8 hcur hon
            have hsW := HON.out.size
            have hs5 := HS11.out
            have hs59 := HS9.out
            obtain ⟨o, ho⟩ : ∃ o, o = (dfsL (dfs (predR zss zss.length) (zss.length + 1)) (openS F F.length) (valsOf pre)).1 := ⟨_, rfl⟩
            obtain ⟨v, hv⟩ : ∃ v : Nat, v = x.2.val := ⟨_, rfl⟩
            have hvn : v < zss.length := by rw [hv]; exact x.2.isLt
            have HO := Lib.hid ho
            have HV := Lib.hid hv
            rw [← ho] at HCU HI
            have hoo := opens_le o zss.length
            have hpl : (predR zss zss.length).length = zss.length := rowsOf_len _ _
            have HWP := Lib.hid (dfs_walk (zss := predR zss zss.length) predR_predP.nat (zss.length + 1) o v (by omega) (by rw [hpl]; omega))
            have HFW := Lib.hid (follow_at (cn := zss.length) hpl (HPR.out W I0.out HON.out) (by omega) (predR_short (by omega)) predR_predP.nat (p := w7.heap.size + 1) (bo := w7.heap.size) (B := W.heap.size) (by rw [cutAt_size (by omega)]; omega) (by rw [cutAt_size (by omega)]; omega) (by omega) (by omega) (by omega) (zss.length + 1) W (.slice none 0 0) o v hvn (by omega) (Nat.le_refl _) (cutAt_below (by omega)) (HCU.out.rebase _))
            clear ho hpl hoo
            gi_wp2_with fail
            refine ⟨trivial, ?_⟩
            rw [← hv]
            refine (CallsIn.inRound l (callsIn_wide.2 HFW.out)).mono ?_
            rintro e Wa ⟨rfl, ⟨vp, hca⟩, hoa⟩
            have HCA := Lib.hid hca
            have HOA := Lib.hid hoa
            have hsa := hoa.size
            have cka : Wa.cell? ⟨w7.heap.size + 2, 0, none⟩ = some (.pointer (some ⟨w7.heap.size + 1, 0, none⟩)) := (boxed_only (boxed_only bK5.out HON.out (by omega)) hoa (by omega)).cell
            clear hca hoa ck
            gi_wp2_with fail
            refine ⟨trivial, ?_⟩
            refine (CallsIn.inRound l (callsIn_wide.2 (take_is HCA.out (by omega) (by omega)))).mono ?_
            rintro e Wb ⟨rfl, hcb, hlb, hob⟩
            have hsb := hob.size
            obtain ⟨P, hP⟩ : ∃ P, P = (dfs (predR zss zss.length) (zss.length + 1) o v).2 := ⟨_, rfl⟩
            obtain ⟨o', ho'⟩ : ∃ o', o' = (dfs (predR zss zss.length) (zss.length + 1) o v).1 := ⟨_, rfl⟩
            have HNX : Hid ((dfsL (dfs (predR zss zss.length) (zss.length + 1)) (openS F F.length) (valsOf (pre ++ [x]))).1 = o') := by
              rw [ho', valsOf_snoc, dfsL_snoc, ← hv, ← HO.out, Int.toNat_natCast]; rfl
            have HRX : Hid (kosR zss (predR zss zss.length) (zss.length + 1) (openS F F.length) (valsOf (pre ++ [x])) = kosR zss (predR zss zss.length) (zss.length + 1) (openS F F.length) (valsOf pre) ++ (if kosC zss (v : Int) P then [P.mergeSort fun x y => decide (x ≤ y)] else [])) := by
              rw [hP, valsOf_snoc, kosR_snoc, ← hv, ← HO.out, Int.toNat_natCast]; rfl
            rw [← hP, ← ho'] at HCA
            rw [← ho'] at hcb
            rw [← hP] at hlb
            have hPn : ∀ y ∈ P, ∃ u : Nat, y = (u : Int) ∧ u < zss.length := by
              have h := HWP.out.nat
              rw [← hP, show (predR zss zss.length).length = zss.length from rowsOf_len _ _] at h
              exact h
            have HPN := Lib.hid hPn
            have hPl : P.length ≤ 256 := by
              have h := dfs_len (zss := predR zss zss.length) predR_predP.nat (zss.length + 1) o v (by have h : (predR zss zss.length).length = zss.length := rowsOf_len _ _; omega)
              have h2 := opens_le o (predR zss zss.length).length
              rw [← hP] at h
              rw [show (predR zss zss.length).length = zss.length from rowsOf_len _ _] at h h2
              omega
            obtain ⟨RR, hRR⟩ : ∃ RR, RR = kosR zss (predR zss zss.length) (zss.length + 1) (openS F F.length) (valsOf pre) := ⟨_, rfl⟩
            have hRl : RR.length ≤ 256 := by
              have h := kosR_len zss (predR zss zss.length) (zss.length + 1) (valsOf pre) (openS F F.length)
              rw [← hRR] at h
              simp only [valsOf, List.length_map] at h
              omega
            rw [← hRR] at HI HR8 HRX
            have HNO := Lib.hid (KI.no (T := fun k => k = w10.heap.size ∨ (0 < L.length ∧ aL = some ⟨k, 0, none⟩)) HI.out (by omega) (by omega) (by omega) (by omega) (by omega) HTT.out HCA.out HOA.out hcb hob)
            have BRb : Hid (Below w.heap.size w Wb) := BR5.out.trans ((HNO.out.1.only.below (B := w.heap.size) BR5.out.size (fun b hb => by have := BR.out.size; omega)))
            have HCB := Lib.hid hcb
            have HLB := Lib.hid hlb
            have HOB := Lib.hid hob
            have bAb := Lib.hid (box2_only bA5.out HNO.out.1.only (by have := BR.out.size; omega))
            clear hcb hlb hob hP ho' hRR hPn cka
            obtain ⟨bn, offn, han, hcn⟩ := (HNi.out.below BRb.out).cell (by omega)
            have hnv := hcn v hvn
            have HIv := Lib.hid ((HNi.out.below BRb.out).rows v hvn)
            subst han
            clear hcn
            have hfP : ∀ j, j < P.length → Fits (nth P j) := fun j hj => by
              obtain ⟨u, hu, hul⟩ := HPN.out _ (nth_mem hj)
              rw [hu]; unfold Fits; omega
            obtain ⟨aP, capP, hvP, -, -⟩ := (OwnInts.mk' HLB.out (by omega) hfP).shape
            subst hvP
            have HFP := Lib.hid hfP
            clear hfP
            have cA := bAb.out.cell1
            have hi6 : (v : Int) < zss.length := by omega
            by_cases h1 : 1 < P.length
            · have g1 : (1 : Int) < P.length := by omega
              have hcc : kosC zss (v : Int) P = true := by simp [kosC, h1]
              gi_wp2_with fail
              case h_1.isTrue => rename_i hh _; simp [undef] at hh
              case h_1.isFalse => rename_i hh _; simp [undef] at hh
              case h_2 =>
                refine ⟨trivial, ?_⟩
                gi_wp2_with fail
                refine ⟨trivial, ?_⟩
                refine (CallsIn.inRound l (callsIn_wide.2 (sort_own HLB.out (by omega)))).mono ?_
                rintro e Wc ⟨rfl, hlc, hoc⟩
                obtain ⟨ss, hss⟩ : ∃ ss, ss = P.mergeSort fun x y => decide (x ≤ y) := ⟨_, rfl⟩
                have hsl : ss.length = P.length := by rw [hss, List.length_mergeSort]
                have hfS : ∀ j, j < ss.length → Fits (nth ss j) := fun j hj => by
                  have hm : nth ss j ∈ P := by
                    have h := nth_mem hj
                    rw [hss] at h
                    rw [hss]; exact List.mem_mergeSort.1 h
                  obtain ⟨u, hu, hul⟩ := HPN.out _ hm
                  rw [hu]; unfold Fits; omega
                rw [← hss] at hlc HRX
                have HFS := Lib.hid hfS
                have HSL := Lib.hid hsl
                have HLC : Hid (Wc.ownsRow W.heap.size 2 1 (.slice aP P.length capP) ss.length (ss.map (Value.int .i64))) := by unfold Hid; rw [hsl]; exact hlc
                have HOC := Lib.hid hoc
                have hnewP : ∀ b, (Value.slice aP P.length capP).ownBlock = some b → W.heap.size ≤ b := fun b hb => (HLB.out.lt b hb).1
                have hkeep : ∀ b, b < W.heap.size → b ≠ w7.heap.size + 1 → b ≠ w7.heap.size → Wc.heap[b]? = W.heap[b]? := fun b hb n1 n2 => by
                  rw [hoc.block b (by omega) (fun e => by have := hnewP b e; omega), HOB.out.block b (by omega) n1, HOA.out.block b hb (by omega)]
                have hsc := hoc.size
                have hWc : Only (fun b => b = w7.heap.size + 1 ∨ b = w7.heap.size) W Wc := ⟨hoc.os.trans (HOB.out.os.trans HOA.out.os), hoc.tape.trans (HOB.out.tape.trans HOA.out.tape), hoc.output.trans (HOB.out.output.trans HOA.out.output), by omega, fun b hb hn => hkeep b hb (fun e => hn (.inl e)) (fun e => hn (.inr e))⟩
                have B8c := Lib.hid (boxed_only HB8.out hWc (by omega))
                have R8c := Lib.hid (HR8.out.only hWc (fun b hb => by have := (HR8.out.own.lt b hb).1; omega) (fun q hq b hb => by have := ((HR8.out.rows q hq).own.lt b hb).1; omega))
                have hub : ∀ b, uu.ownBlock = some b → w11.heap.size ≤ b := fun b hb => (HR8.out.own.lt b hb).1
                have HUB := Lib.hid hub
                have c8 := B8c.out.cell
                have c8f := B8c.out.frozen
                clear hss hsl hfS hlc hoc hnewP hkeep hWc hub cA hnv
                gi_wp2_with (gi_at_builtin; refine wpListIn_append_own _ rfl _ _ 25 rfl w11.heap.size 24 i0 (.slice none 0 0) 1 24 Try.underlying25 hi hz0 hz1 hz2 rfl (by decide) _ _ _ rfl (R8c.out.own.alloc _) ⟨Wc.heap.size, 0, none⟩ 1 1 [.slice aP P.length capP] rfl rfl ?c1 ?c2 ?c3 ?c4 ?c5 ?_)
                case c1 => exact cell_one_new _ _ _
                case c2 => simp [Value.oneCell']
                case c3 => unfold maxLen; omega
                case c4 => omega
                case c5 => simp; omega
                intro v' w1 hown hgrow _
                obtain ⟨g', cap', rfl⟩ := ownsRow_succ hown
                rw [← HS11.out] at hown
                have h81 : Boxed w1 wr.heap.size 25 uu := boxed_only (B8c.out.alloc _) (Only.of_grown hgrow) (fun e => by have := HUB.out _ e; omega)
                have c81 := h81.cell
                have c81f := h81.frozen
                have hy := Lib.hid (KI.yes (T := fun k => k = w10.heap.size ∨ (0 < L.length ∧ aL = some ⟨k, 0, none⟩)) HI.out (by omega) (by omega) (by omega) (by omega) (by omega) HTT.out HB8.out HR8.out HOA.out HCB.out HOB.out HLB.out HLC.out HOC.out HFS.out (by have := HSL.out; omega) (by omega) hown hgrow)
                clear hown hgrow h81 c8 c8f
                gi_wp2_with fail
                refine ⟨hy.out.2.1.from _, hy.out.2.2, ?_⟩
                show KI _ _ _ _ _ _ (kosR _ _ _ _ (valsOf (pre ++ [x]))) _ _
                rw [HRX.out, HNX.out, if_pos hcc]
                exact hy.out.1
            · have g1 : ¬ (1 : Int) < P.length := by omega
              by_cases h2 : P.length = 1
              · have g2 : ((P.length : Int) == 1) = true := by simp; omega
                obtain ⟨r, hr⟩ : ∃ r, hasB (row zss v) (v : Int) = r := ⟨_, rfl⟩
                have hkc : kosC zss (v : Int) P = r := by unfold kosC; rw [Int.toNat_natCast, hr, h2]; simp
                have HC37 := hr
                have hvx := hvn
                rw [HV.out] at HC37 hnv hi6 hvx
                have HCO := Lib.hid (leads_is HC37 hvx (HAt.out.below BRb.out))
                have cA0 := bAb.out.cell0
                clear h2 HC37 hr hvx
                gi_wp2_with fail
                refine ⟨trivial, ?_⟩
                refine (CallsIn.inRound l (callsIn_wide.2 HCO.out)).mono ?_
                rintro e Wd ⟨rfl, hbd⟩
                have hsd := hbd.size
                have hCd := HCB.out.below hbd
                have hLd := ownsRow_only HLB.out (S := fun _ => False) (Only.of_below hbd) (fun _ _ h => h)
                have hOd := HOB.out.trans (Only.of_below hbd)
                have hNd := Lib.hid (KI.no (T := fun k => k = w10.heap.size ∨ (0 < L.length ∧ aL = some ⟨k, 0, none⟩)) HI.out (by omega) (by omega) (by omega) (by omega) (by omega) HTT.out HCA.out HOA.out hCd hOd)
                clear HCB HLB HOB HNO HCO cA0 hbd
                have HCB := Lib.hid hCd
                have HLB := Lib.hid hLd
                have HOB := Lib.hid hOd
                have HNO := hNd
                clear hCd hLd hOd hNd
                cases r with
                | true =>
                  have hcc : kosC zss (v : Int) P = true := hkc
                  gi_wp2_with fail
                  refine ⟨trivial, ?_⟩
                  refine (CallsIn.inRound l (callsIn_wide.2 (sort_own HLB.out (by omega)))).mono ?_
                  rintro e Wc ⟨rfl, hlc, hoc⟩
                  obtain ⟨ss, hss⟩ : ∃ ss, ss = P.mergeSort fun x y => decide (x ≤ y) := ⟨_, rfl⟩
                  have hsl : ss.length = P.length := by rw [hss, List.length_mergeSort]
                  have hfS : ∀ j, j < ss.length → Fits (nth ss j) := fun j hj => by
                    have hm : nth ss j ∈ P := by
                      have h := nth_mem hj
                      rw [hss] at h
                      rw [hss]; exact List.mem_mergeSort.1 h
                    obtain ⟨u, hu, hul⟩ := HPN.out _ hm
                    rw [hu]; unfold Fits; omega
                  rw [← hss] at hlc HRX
                  have HFS := Lib.hid hfS
                  have HSL := Lib.hid hsl
                  have HLC : Hid (Wc.ownsRow W.heap.size 2 1 (.slice aP P.length capP) ss.length (ss.map (Value.int .i64))) := by unfold Hid; rw [hsl]; exact hlc
                  have HOC := Lib.hid hoc
                  have hnewP : ∀ b, (Value.slice aP P.length capP).ownBlock = some b → W.heap.size ≤ b := fun b hb => (HLB.out.lt b hb).1
                  have hkeep : ∀ b, b < W.heap.size → b ≠ w7.heap.size + 1 → b ≠ w7.heap.size → Wc.heap[b]? = W.heap[b]? := fun b hb n1 n2 => by
                    rw [hoc.block b (by omega) (fun e => by have := hnewP b e; omega), HOB.out.block b (by omega) n1, HOA.out.block b hb (by omega)]
                  have hsc := hoc.size
                  have hWc : Only (fun b => b = w7.heap.size + 1 ∨ b = w7.heap.size) W Wc := ⟨hoc.os.trans (HOB.out.os.trans HOA.out.os), hoc.tape.trans (HOB.out.tape.trans HOA.out.tape), hoc.output.trans (HOB.out.output.trans HOA.out.output), by omega, fun b hb hn => hkeep b hb (fun e => hn (.inl e)) (fun e => hn (.inr e))⟩
                  have B8c := Lib.hid (boxed_only HB8.out hWc (by omega))
                  have R8c := Lib.hid (HR8.out.only hWc (fun b hb => by have := (HR8.out.own.lt b hb).1; omega) (fun q hq b hb => by have := ((HR8.out.rows q hq).own.lt b hb).1; omega))
                  have hub : ∀ b, uu.ownBlock = some b → w11.heap.size ≤ b := fun b hb => (HR8.out.own.lt b hb).1
                  have HUB := Lib.hid hub
                  have c8 := B8c.out.cell
                  have c8f := B8c.out.frozen
                  clear hss hsl hfS hlc hoc hnewP hkeep hWc hub cA hnv
                  gi_wp2_with (gi_at_builtin; refine wpListIn_append_own _ rfl _ _ 25 rfl w11.heap.size 24 i0 (.slice none 0 0) 1 24 Try.underlying25 hi hz0 hz1 hz2 rfl (by decide) _ _ _ rfl (R8c.out.own.alloc _) ⟨Wc.heap.size, 0, none⟩ 1 1 [.slice aP P.length capP] rfl rfl ?c1 ?c2 ?c3 ?c4 ?c5 ?_)
                  case c1 => exact cell_one_new _ _ _
                  case c2 => simp [Value.oneCell']
                  case c3 => unfold maxLen; omega
                  case c4 => omega
                  case c5 => simp; omega
                  intro v' w1 hown hgrow _
                  obtain ⟨g', cap', rfl⟩ := ownsRow_succ hown
                  rw [← HS11.out] at hown
                  have h81 : Boxed w1 wr.heap.size 25 uu := boxed_only (B8c.out.alloc _) (Only.of_grown hgrow) (fun e => by have := HUB.out _ e; omega)
                  have c81 := h81.cell
                  have c81f := h81.frozen
                  have hy := Lib.hid (KI.yes (T := fun k => k = w10.heap.size ∨ (0 < L.length ∧ aL = some ⟨k, 0, none⟩)) HI.out (by omega) (by omega) (by omega) (by omega) (by omega) HTT.out HB8.out HR8.out HOA.out HCB.out HOB.out HLB.out HLC.out HOC.out HFS.out (by have := HSL.out; omega) (by omega) hown hgrow)
                  clear hown hgrow h81 c8 c8f
                  gi_wp2_with fail
                  refine ⟨hy.out.2.1.from _, hy.out.2.2, ?_⟩
                  show KI _ _ _ _ _ _ (kosR _ _ _ _ (valsOf (pre ++ [x]))) _ _
                  rw [HRX.out, HNX.out, if_pos hcc]
                  exact hy.out.1
                | false =>
                  have hcc : kosC zss (v : Int) P = false := hkc
                  gi_wp2
                  refine ⟨HNO.out.2.1.from _, HNO.out.2.2, ?_⟩
                  show KI _ _ _ _ _ _ (kosR _ _ _ _ (valsOf (pre ++ [x]))) _ Wd
                  rw [HRX.out, HNX.out, if_neg (by rw [hcc]; simp), List.append_nil]
                  exact HNO.out.1
              · have g2 : ((P.length : Int) == 1) = false := by simp; omega
                have hcc : kosC zss (v : Int) P = false := by simp [kosC]; omega
                gi_wp2_with fail
                refine ⟨trivial, ?_⟩
                gi_wp2
                refine ⟨HNO.out.2.1.from _, HNO.out.2.2, ?_⟩
                show KI _ _ _ _ _ _ (kosR _ _ _ _ (valsOf (pre ++ [x]))) _ Wb
                rw [HRX.out, HNX.out, if_neg (by rw [hcc]; simp), List.append_nil]
                exact HNO.out.1
          case done =>
            rintro D ys Wd hD rfl hI hK
            obtain ⟨⟨uu, VV, hb8, hrw8⟩, -, hon⟩ := hI
            rw [show valsOf ys = L.reverse from HPM.out] at hrw8
            have hvl := kosR_len zss (predR zss zss.length) (zss.length + 1) L.reverse (openS F F.length)
            rw [List.length_reverse] at hvl
            have HS := Lib.hid (sortRows_is (hrw8.base (B' := w11.heap.size) (Nat.le_refl _)) (kosR_ne zss (predR zss zss.length) (zss.length + 1) L.reverse (openS F F.length)) (by omega))
            have hub : ∀ b, uu.ownBlock = some b → w11.heap.size ≤ b := fun b hb => (hrw8.own.lt b hb).1
            have hcl : ∀ b, uu.ownBlock = some b → ∃ o : Obj, Wd.heap[b]? = some o ∧ o.isCells = true := fun b hb => ownsRow_cells hrw8.own hb
            have HUB := Lib.hid hub
            have HCL := Lib.hid hcl
            have HB8 := Lib.hid hb8
            have HON := Lib.hid hon
            have HK := Lib.hid hK
            have hsd := hon.size
            have hs11 := HS11.out
            have hs9 := HS9.out
            have c8 := hb8.cell
            clear hb8 hrw8 hon hub hcl hvl hK
            go_wp2_with fail
            refine HS.out.mono ?_
            rintro e We ⟨rfl, hO, V', R', hR', hp, hs⟩
            have hDk : We.heap[D]? = some (.deferred (some [])) := (hO.block D (Array.getElem?_eq_some_iff.1 HK.out).1 (fun e => by
              have := isCells_of (HCL.out D e) HK.out
              cases this)).trans HK.out
            have c8e := (boxed_only HB8.out hO (fun e => by have := HUB.out _ e; omega)).cell
            have hRR : R' = R := by
              rw [HLL.out] at hp
              rw [← HE.out]
              exact kos_all HIN.out (rises_pairwise.1 (rises_of HB.out)) (by rw [HZL.out]; exact HB.out) (by omega) hp (hs.imp fun h => by omega)
            subst hRR
            have HRe := Lib.hid hR'
            have HOe := Lib.hid hO
            have HDk := Lib.hid hDk
            clear hp hs hR' hO hDk c8
            go_wp2_with fail
            refine ⟨by simp, .inl ⟨_, _, rfl, run_takeDeferred HDk.out, ?_⟩⟩
            have hg := grownBy_putObj' We D (.deferred none)
            have hoD := Only.of_grown hg
            have hnD : ∀ b, (∃ o : Obj, We.heap[b]? = some o ∧ o.isCells = true) → ¬ some D = some b := fun b hc e => by
              cases e
              have := isCells_of hc HDk.out
              cases this
            have hbe : Below w.heap.size w We := (BR5.out.trans (HON.out.below (B := w.heap.size) BR5.out.size (fun b hb => by have := BR.out.size; omega))).trans (HOe.out.below (B := w.heap.size) (by have := BR5.out.size; omega) (fun b hb => by have := HUB.out b hb; have := BR5.out.size; omega))
            refine ⟨_, results_tmp rfl _ _ _, uu, V', rfl, ((HRe.out.base (B' := w.heap.size) BR5.out.size).only hoD (fun b hb => hnD b (ownsRow_cells HRe.out.own hb)) (fun k hk b hb => hnD b (ownsRow_cells (HRe.out.rows k hk).own hb))).retop, hbe.trans (hoD.below (B := w.heap.size) hbe.size (fun b hb => by cases hb; have := BR5.out.size; omega))⟩
          case stop =>
            rintro D c pre W _ _ h _
            exact h.elim

end Go.Proofs.Ytaagbnogbhegdaa
