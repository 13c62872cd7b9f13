/-
  Several texts in one: MeasIn, TabRow, TabVal, TabIn, TabImpl, OddsSpec, MeasSpec.
-/
import Derived.Great.BuildSlice
import Derived.Laws.CopyRow
import Derived.Laws.Append
import Derived.Deep.RegionHeld3
import Derived.Test.YtihaajcmephlmaaDoorPx00
import Derived.Test.YtihaajcmephlmaaDoorPx02
import Derived.Test.YtihaajcmephlmaaDoorPx01
import Derived.Test.YtihaajcmephlmaaDoorPx04
import Derived.Test.YtihaajcmephlmaaDoorPx05
namespace Go.Proofs.YtihaajcmephlmaaDoor
section
open Go.RowKit Go.Shelf

theorem info_mea : (Tryd.prog.info? 51).map (fun i => (i.zero, i.size, i.bytes)) = some (some (.agg #[.int .i64 0, .int .i64 0, .int .i64 0, .int .i64 0, .int .i64 0, .int .i64 0, .int .i64 0, .int .i64 0, .int .i64 0, .int .i64 0, .int .i64 0, .int .i64 0, .int .i64 0]), 13, 104) := by kernel_rfl
theorem scaA_one {a b c d : Value} (ha : a.oneCell' = true) (hb : b.oneCell' = true) (hc : c.oneCell' = true) (hd : d.oneCell' = true) (M : List Int) : (scaA a b c d M).all (·.oneCell') = true := by
  have h : ∀ n, (Value.int .i64 n).oneCell' = true := fun _ => rfl
  simp [scaA, ha, hb, hc, hd, h]
/-- The cells of measures, one behind another. -/
def meaL (ls : List (List Int)) : List Value := (ls.map fun m => (meaA m).toList).flatten
theorem meaL_snoc {ls : List (List Int)} {k : Nat} (h : k < ls.length) : meaL (ls.take (k + 1)) = meaL (ls.take k) ++ (meaA (row ls k)).toList := by
  unfold meaL
  rw [List.take_succ_eq_append_getElem h, List.map_append, List.flatten_append]
  congr 1
  have e : row ls k = ls[k] := by unfold row; simp [h]
  rw [e]
  simp
set_option linter.unusedSimpArgs false in
theorem wpList_move8 {P : Program} {ops : Array Oper} {rest : List Oper} {o : Oper} {a : Act} {w : World} {Q : Exit → Act → World → Prop} (hgd : o.guard = none) (x : Operand) (ho : o.op = .move x ∨ o.op = .assign x) (h : wpList P ops Q rest (a.put o.dst (a.eval x)) w) : wpList P ops Q (o :: rest) a w := by
  refine wpList_plain hgd fun K hK => ?_
  unfold Oper.wp execOp
  rcases ho with ho | ho <;> simp only [ho, Sem.run_pure, Sem.run_bind, Result.andThen_ok] <;> exact hK _ _ h
theorem fill_mea (m : List Int) : Instr.fill (fun i => some (i * 13, 13)) ((Array.range (1 * 13)).map ((Value.agg #[.int .i64 0, .int .i64 0, .int .i64 0, .int .i64 0, .int .i64 0, .int .i64 0, .int .i64 0, .int .i64 0, .int .i64 0, .int .i64 0, .int .i64 0, .int .i64 0, .int .i64 0]).cells[· % (Value.agg #[.int .i64 0, .int .i64 0, .int .i64 0, .int .i64 0, .int .i64 0, .int .i64 0, .int .i64 0, .int .i64 0, .int .i64 0, .int .i64 0, .int .i64 0, .int .i64 0, .int .i64 0]).cells.size]!)) [(0, .agg (meaA m))] = some (meaA m) := by kernel_rfl
theorem mea_news {w : World} {g : Nat} {T : TypeId} {m : List Int} (h : w.heap[g]? = some (.cells (meaA m) T (0, 0))) : ∀ j u, (meaA m).toList[j]? = some u → w.cell? ((⟨g, 0, none⟩ : Addr).add j) = some u := by
  intro j u hj
  rw [Addr.add_mid, Nat.zero_add, cell_of_row _ _ _ _ _ _ h, ← Array.getElem?_toList]
  exact hj
theorem mea_ones (m : List Int) : ∀ u ∈ (meaA m).toList, u.oneCell' = true := by
  intro u hu
  have h := meaA_one m
  rw [Array.all_eq_true'] at h
  exact h u (by simpa using hu)
theorem ret_sca3 {fn : Func} {p q r : Tmp} {tmps : Array Value} {W : World} {g : Nat} {a b c d va : Value} {M : List Int} {x : Bool} {R : Ending → World → Prop} (hr : fn.results = #[.cell p 53, .tmp q, .tmp r]) (hp : tmps.getD p undef = .pointer (some ⟨g, 0, none⟩)) (hq : tmps.getD q undef = va) (hx : tmps.getD r undef = .bool x)
    (hM : W.heap[g]? = some (.cells (scaA a b c d M) 53 (0, 0))) (hR : R (.returned (.tuple #[scaV a b c d M, va, .bool x])) W) : bodyPost Tryd.prog fn R .ret { tmps := tmps, defers := [] } W := by
  refine bodyPost_ret (v := .tuple #[scaV a b c d M, va, .bool x]) ?_ rfl hR
  have hp' : tmps[p]?.getD undef = .pointer (some ⟨g, 0, none⟩) := by simpa using hp
  have hq' : tmps[q]?.getD undef = va := by simpa using hq
  have hx' : tmps[r]?.getD undef = .bool x := by simpa using hx
  have hl := run_loadVar_row (P := Tryd.prog) W g 53 53 (scaA a b c d M) (0, 0) _ hM Tryd.underlying53 rfl (by kernel_rfl)
  simp [results, hr, hp', hq', hx', asAddr, hl, scaV]

/-- Are all of the lists measures of a small game? -/
noncomputable def goodsB (O : List Int) (zss : List (List Int)) (P : List Int) (ls : List (List Int)) : Bool := smallB O zss P && ls.all (goodB P)
theorem goodsB_no {O P : List Int} {zss ls : List (List Int)} {k : Nat} (hk : k < ls.length) (h : goodB P (row ls k) = false) : goodsB O zss P ls = false := by
  cases hg : goodsB O zss P ls with
  | false => rfl
  | true =>
    unfold goodsB at hg
    rw [Bool.and_eq_true, List.all_eq_true] at hg
    have e : row ls k = ls[k] := by unfold row; simp [hk]
    rw [e, hg.2 _ (List.getElem_mem hk)] at h
    cases h
theorem goodsB_yes {O P : List Int} {zss ls : List (List Int)} (hs : smallB O zss P = true) (h : ∀ k, k < ls.length → goodB P (row ls k) = true) : goodsB O zss P ls = true := by
  unfold goodsB
  rw [hs, Bool.true_and, List.all_eq_true]
  intro x hx
  obtain ⟨k, hk, rfl⟩ := List.mem_iff_getElem.1 hx
  have e : row ls k = ls[k] := by unfold row; simp [hk]
  rw [← e]; exact h k hk

set_option linter.unusedSimpArgs false in
set_option maxRecDepth 100000 in
set_option maxHeartbeats 16000000 in
theorem measuresIn_is {w : World} {v : Value} {O P : List Int} {zss ls : List (List Int)} {al : Option Addr} {LA : Nat → Option Addr} {LC : Nat → Nat} {r : Bool} (cl : Nat) (hr : goodsB O zss P ls = r) (hW : LostW w) (h : GameAt w v O zss P) (hls : RowsAt w al LA LC ls) (hll : ls.length ≤ 1048576) :
    Calls Tryd.prog 62 #[v, .slice al ls.length cl] w fun e w' => ∃ a b c d M va, e = .returned (.tuple #[scaV a b c d M, va, .bool r]) ∧ (r = true → ScaleAt w' (scaV a b c d M) O zss P ∧ w'.ownsRow w.heap.size 51 13 va ls.length (meaL ls)) ∧ (∃ x y z, va = .slice x y z) ∧ (a.oneCell' = true ∧ b.oneCell' = true ∧ c.oneCell' = true ∧ d.oneCell' = true) ∧ Below w.heap.size w w' := by
  obtain ⟨i0, hi, hz0, hz1, hz2⟩ := info_parts' info_mea
  have HGm := Lib.hid h
  obtain ⟨ao, an, ap, co, cn, cp, A, C, rfl, h1, h2, h3⟩ := h
  obtain ⟨w1, hw1⟩ : ∃ y, y = (w.alloc (.cells #[.slice ao O.length co, .slice an zss.length cn, .slice ap P.length cp] 33)).alloc (.cells #[.slice none 0 0, .slice none 0 0, .slice none 0 0, .slice none 0 0, .int .i64 0, .int .i64 0, .int .i64 0, .int .i64 0, .int .i64 0, .int .i64 0, .int .i64 0, .int .i64 0, .int .i64 0, .int .i64 0, .int .i64 0, .int .i64 0, .int .i64 0] 53) := ⟨_, rfl⟩
  have HW1 := Lib.hid hw1
  have B1 : Hid (Below w.heap.size w w1) := by rw [hw1]; exact below2 _ _ _
  have T1 : Hid (Box3 w1 w.heap.size 33 (.slice ao O.length co) (.slice an zss.length cn) (.slice ap P.length cp)) := by rw [hw1]; exact (Box3.new _ _ _ _ _).below (below1 _ _)
  have R1 : Hid (w1.heap[w.heap.size + 1]? = some (.cells (scaA (.slice none 0 0) (.slice none 0 0) (.slice none 0 0) (.slice none 0 0) []) 53 (0, 0))) := by rw [hw1]; exact heap_alloc2_new _ _ _
  have hs1 : Hid (w1.heap.size = w.heap.size + 2) := by rw [hw1]; simp [Hid]
  have HLs := Lib.hid hls
  have hln := hls.len
  have HL := Lib.hid hW
  have HR := Lib.hid hr
  have t0 := T1.out.c0
  have t1 := T1.out.c1
  have t2 := T1.out.c2
  clear hw1 h1 h2 h3 hls hW hr
  cases hs : smallB O zss P with
  | false =>
    have HC := Lib.hid (isSmall_is hs (HGm.out.below B1.out))
    have HF : Hid (r = false) := by rw [← HR.out]; unfold goodsB; rw [hs]; rfl
    clear hs
    go_enter Tryd.func62, Tryd.ntmps62
    go_wp2_with fail
    rw [← HW1.out]
    refine HC.out.mono ?_
    rintro e w2 ⟨rfl, hb⟩
    have B2 := Lib.hid (B1.out.trans (hb.mono B1.out.size))
    have R2 := Lib.hid ((hb.block _ (Array.getElem?_eq_some_iff.1 R1.out).1).trans R1.out)
    clear hb HC t0 t1 t2
    go_upto_region 2 with fail
    refine wp_region_lit ?_
    refine wpList_build rfl 53 _ rfl (by kernel_rfl) ?_
    simp only [Act.put, List.setIfInBounds_toArray, List.set_cons_zero, List.set_cons_succ]
    (refine wpList_store_row rfl 53 _ _ rfl (w.heap.size + 1) (scaA (.slice none 0 0) (.slice none 0 0) (.slice none 0 0) (.slice none 0 0) []) rfl (by first | rfl | kernel_rfl) 53 (scaA (.slice none 0 0) (.slice none 0 0) (.slice none 0 0) (.slice none 0 0) []) R2.out (by kernel_rfl) rfl (scaA_one rfl rfl rfl rfl _) ?_; simp only [Act.put, List.setIfInBounds_toArray, List.set_cons_zero, List.set_cons_succ])
    go_wp2_with fail
    have ho := only_row8 (S := fun x => x = w.heap.size + 1) (Only.refl _ w2) rfl (scaA (.slice none 0 0) (.slice none 0 0) (.slice none 0 0) (.slice none 0 0) [])
    rw [HF.out]
    exact ret_sca3 (g := w.heap.size + 1) rfl rfl rfl rfl (setRow_heap _ _ _ _ _ _ R2.out) ⟨_, _, _, _, _, _, rfl, (fun h => by cases h), ⟨_, _, _, rfl⟩, ⟨rfl, rfl, rfl, rfl⟩, B2.out.trans (ho.below B2.out.size (fun x hx => by rw [hx]; omega))⟩
  | true =>
    obtain ⟨hn, hp⟩ := smallB_iff.1 hs
    obtain ⟨hA, hPl, hPr⟩ := parityB_iff.1 hp
    have hn0 : 0 < P.length := by have := hA.1; omega
    have hl12 : (oddsL P).length ≤ 12 := Nat.le_trans (odds_len hPr) hn
    have HNS := Lib.hid (fun (W : World) (hb : Below w.heap.size w W) => newScale_is hPr hn0 hn (HGm.out.below hb))
    have HC := Lib.hid (isSmall_is hs (HGm.out.below B1.out))
    have HSm := Lib.hid hs
    clear hs hp hA hPl hPr
    go_enter Tryd.func62, Tryd.ntmps62
    go_wp2_with fail
    rw [← HW1.out]
    refine HC.out.mono ?_
    rintro e w2 ⟨rfl, hb⟩
    have B2 := Lib.hid (B1.out.trans (hb.mono B1.out.size))
    have R2 := Lib.hid ((hb.block _ (Array.getElem?_eq_some_iff.1 R1.out).1).trans R1.out)
    have T2 := Lib.hid (T1.out.below hb)
    have hsA := hb.size
    clear hb HC t0 t1 t2
    have t0 := T2.out.c0
    have t1 := T2.out.c1
    have t2 := T2.out.c2
    go_wp2_with fail
    refine (HNS.out w2 B2.out).mono ?_
    rintro e w3 ⟨aq, cq, rfl, hq3, hb⟩
    obtain ⟨sa, hsa⟩ : ∃ sa, sa = Value.slice ao O.length co := ⟨_, rfl⟩
    obtain ⟨sb, hsb⟩ : ∃ sb, sb = Value.slice an zss.length cn := ⟨_, rfl⟩
    obtain ⟨sc, hsc⟩ : ∃ sc, sc = Value.slice ap P.length cp := ⟨_, rfl⟩
    obtain ⟨sd, hsd⟩ : ∃ sd, sd = Value.slice aq (oddsL P).length cq := ⟨_, rfl⟩
    have HSA : Hid (∀ W, Below w.heap.size w W → OwnInts W w2.heap.size W.heap.size (.slice aq (oddsL P).length cq) (oddsL P) → ScaleAt W (scaV sa sb sc sd (mostL P)) O zss P) := fun W hb ho => ⟨ao, an, ap, aq, co, cn, cp, cq, by rw [hsa, hsb, hsc, hsd], HGm.out.below hb, own_ints8 ho⟩
    have HS3 := Lib.hid (HSA.out w3 (B2.out.trans (hb.mono B2.out.size)) hq3)
    have HQ3 := Lib.hid hq3
    have HO1 : Hid (sa.oneCell' = true ∧ sb.oneCell' = true ∧ sc.oneCell' = true ∧ sd.oneCell' = true) := by rw [hsa, hsb, hsc, hsd]; exact ⟨rfl, rfl, rfl, rfl⟩
    rw [← hsa, ← hsb, ← hsc, ← hsd]
    have B3 := Lib.hid (B2.out.trans (hb.mono B2.out.size))
    have R3 := Lib.hid ((hb.block _ (Array.getElem?_eq_some_iff.1 R2.out).1).trans R2.out)
    have hN3 : (w3.alloc (.cells #[.slice none 0 0, .slice none 0 0, .slice none 0 0, .slice none 0 0, .int .i64 0, .int .i64 0, .int .i64 0, .int .i64 0, .int .i64 0, .int .i64 0, .int .i64 0, .int .i64 0, .int .i64 0, .int .i64 0, .int .i64 0, .int .i64 0, .int .i64 0] 53)).heap[w3.heap.size]? = some (.cells (scaA (.slice none 0 0) (.slice none 0 0) (.slice none 0 0) (.slice none 0 0) []) 53 (0, 0)) := heap_alloc_new _ _
    have HN3 := Lib.hid hN3
    have hg33 : w.heap.size + 2 ≤ w3.heap.size := by have := hb.size; have := hs1.out; omega
    clear hb t0 t1 t2 hN3 hq3 hsa hsb hsc hsd
    go_wp2_with (refine wpList_store_row rfl 53 _ _ rfl w3.heap.size (scaA sa sb sc sd (mostL P)) rfl (by first | rfl | kernel_rfl) 53 (scaA (.slice none 0 0) (.slice none 0 0) (.slice none 0 0) (.slice none 0 0) []) HN3.out (by kernel_rfl) rfl (scaA_one HO1.out.1 HO1.out.2.1 HO1.out.2.2.1 HO1.out.2.2.2 _) ?_; simp only [Act.put, List.setIfInBounds_toArray, List.set_cons_zero, List.set_cons_succ])
    obtain ⟨w4, hw4⟩ : ∃ y, y = (w3.alloc (.cells #[.slice none 0 0, .slice none 0 0, .slice none 0 0, .slice none 0 0, .int .i64 0, .int .i64 0, .int .i64 0, .int .i64 0, .int .i64 0, .int .i64 0, .int .i64 0, .int .i64 0, .int .i64 0, .int .i64 0, .int .i64 0, .int .i64 0, .int .i64 0] 53)).setRow w3.heap.size (scaA sa sb sc sd (mostL P)) := ⟨_, rfl⟩
    rw [← hw4]
    have hb4 : Below w3.heap.size w3 w4 := by
      rw [hw4]
      exact (below1 w3 _).trans ((only_row8 (S := fun x => x = w3.heap.size) (Only.refl _ _) rfl _).below (below1 w3 _).size (fun x hx => by rw [hx]; exact Nat.le_refl _))
    have N4 : Hid (w4.heap[w3.heap.size]? = some (.cells (scaA sa sb sc sd (mostL P)) 53 (0, 0))) := by rw [hw4]; exact setRow_heap _ _ _ _ _ _ HN3.out
    have hs4 : w3.heap.size < w4.heap.size := by have := (Array.getElem?_eq_some_iff.1 N4.out).1; exact this
    have B4 := Lib.hid (B3.out.trans (hb4.mono B3.out.size))
    have S4 := Lib.hid (HS3.out.below hb4)
    have Q4 := Lib.hid (HQ3.out.below hb4)
    have R4 := Lib.hid ((hb4.block _ (Array.getElem?_eq_some_iff.1 R3.out).1).trans R3.out)
    have O4 : Hid (w4.ownsRow w4.heap.size 51 13 (.slice none 0 0) 0 (meaL (ls.take 0))) := World.ownsRow_nil _ _ _ _
    clear hw4 hb4 HN3
    go_loopw [8, 21] (fun va iv wr => ∃ k : Nat, k ≤ ls.length ∧ iv = .int .i64 k ∧ Hid (∀ j, j < k → goodB P (row ls j) = true) ∧ Hid (wr.ownsRow w4.heap.size 51 13 va k (meaL (ls.take k))) ∧ Hid (Below w4.heap.size w4 wr)) (fun _ iv _ => ls.length - (intOf iv).toNat)
    case atStart => exact ⟨0, Nat.zero_le _, rfl, fun j hj => absurd hj (Nat.not_lt_zero _), O4, Below.refl _ _⟩
    case round =>
      clear O4
      obtain ⟨k, hk, rfl, HJ, HO, HB⟩ := hrel
      have B5 := Lib.hid (B4.out.trans (HB.out.mono B4.out.size))
      have N5 := Lib.hid ((HB.out.block _ (Array.getElem?_eq_some_iff.1 N4.out).1).trans N4.out)
      have R5 := Lib.hid ((HB.out.block _ (Array.getElem?_eq_some_iff.1 R4.out).1).trans R4.out)
      have S5 := Lib.hid (S4.out.below HB.out)
      have Q5 := Lib.hid (Q4.out.below HB.out)
      by_cases hlt : k < ls.length
      · have hi1 : (k : Int) < ls.length := by omega
        have hk0 : (0 : Int) ≤ (k : Int) := by omega
        have HLr := Lib.hid (HLs.out.below B5.out)
        obtain ⟨lb, lo, hla, hlc⟩ := HLr.out.cell (by omega)
        have x1 := hlc k hlt
        have HRI := Lib.hid (HLr.out.rows k hlt)
        obtain ⟨mm, hmm⟩ : ∃ mm, mm = row ls k := ⟨_, rfl⟩
        have HMM := Lib.hid hmm
        rw [← hmm] at x1 HRI
        subst hla
        clear hlc hmm
        obtain ⟨g, hg⟩ : ∃ g, goodB P mm = g := ⟨_, rfl⟩
        have HMO : Hid (Calls Tryd.prog 76 #[scaV sa sb sc sd (mostL P), .slice (LA k) mm.length (LC k)] wr fun e w' => e = .returned (.tuple #[meaV (if g = true then mm else []), .bool g]) ∧ Below wr.heap.size wr w') := by
          rw [← hg]
          exact measureOf_is (LC k) (HL.out.below B5.out) S5.out HRI.out hl12
        cases g with
        | true =>
          have HG : Hid (∀ j, j < k + 1 → goodB P (row ls j) = true) := fun j hj => by
            by_cases e : j = k
            · rw [e, ← HMM.out]; exact hg
            · exact HJ.out j (by omega)
          rw [if_pos rfl] at HMO
          clear hg
          go_upto_region 11 with (first | (refine wpList_load_row rfl 53 _ rfl w3.heap.size rfl 53 (scaA sa sb sc sd (mostL P)) (0, 0) _ N5.out Tryd.underlying53 rfl (by kernel_rfl) ?_; simp only [Act.put, List.setIfInBounds_toArray, List.set_cons_zero, List.set_cons_succ]) | (go_at_call 76; refine HMO.out.mono ?_; rintro e w6 ⟨rfl, hb⟩; have K6 := Lib.hid hb; clear hb) | (refine wpList_store_row rfl 51 _ _ rfl w6.heap.size (meaA mm) rfl (by first | rfl | kernel_rfl) 51 (meaA []) (heap_alloc_new w6 _) (by kernel_rfl) rfl (meaA_one _) ?_; simp only [Act.put, List.setIfInBounds_toArray, List.set_cons_zero, List.set_cons_succ]))
          obtain ⟨w7, hw7⟩ : ∃ y, y = (w6.alloc (.cells #[.int .i64 0, .int .i64 0, .int .i64 0, .int .i64 0, .int .i64 0, .int .i64 0, .int .i64 0, .int .i64 0, .int .i64 0, .int .i64 0, .int .i64 0, .int .i64 0, .int .i64 0] 51)).setRow w6.heap.size (meaA mm) := ⟨_, rfl⟩
          rw [← hw7]
          have hb7 : Below w6.heap.size w6 w7 := by
            rw [hw7]
            exact (below1 w6 _).trans ((only_row8 (S := fun x => x = w6.heap.size) (Only.refl _ _) rfl _).below (below1 w6 _).size (fun x hx => by rw [hx]; exact Nat.le_refl _))
          have N7 : Hid (w7.heap[w6.heap.size]? = some (.cells (meaA mm) 51 (0, 0))) := by rw [hw7]; exact setRow_heap _ _ _ _ _ _ (heap_alloc_new _ _)
          have K7 := Lib.hid (K6.out.trans (hb7.mono K6.out.size))
          have hb8 : Below w7.heap.size w7 (w7.alloc (.cells (meaA mm) 51)) := below1 _ _
          have K8 := Lib.hid (K7.out.trans (hb8.mono K7.out.size))
          have N8 : Hid ((w7.alloc (.cells (meaA mm) 51)).heap[w7.heap.size]? = some (.cells (meaA mm) 51 (0, 0))) := heap_alloc_new _ _
          have O8 := Lib.hid (ownsRow_only HO.out (S := fun _ => False) (Only.of_below K8.out) (fun _ _ h => h))
          have hsB := HB.out.size
          have hsK := K8.out.size
          clear hw7 hb7 hb8
          refine wp_region_lit ?_
          refine wpList_move8 rfl _ (.inl rfl) ?_
          simp only [Act.put, List.setIfInBounds_toArray, List.set_cons_zero, List.set_cons_succ]
          (refine wpList_load_row rfl 51 _ rfl w6.heap.size rfl 51 (meaA mm) (0, 0) _ N7.out Tryd.underlying51 rfl (by kernel_rfl) ?_; simp only [Act.put, List.setIfInBounds_toArray, List.set_cons_zero, List.set_cons_succ])
          (refine wpList_buildSlice rfl 76 51 1 _ rfl (meaA mm) i0 _ Tryd.underlying76 hi hz0 (by rw [hz1]; decide) (by rw [hz1]; decide) (by rw [hz1]; exact (congrArg (Instr.fill _ _) (by kernel_rfl)).trans (fill_mea mm)) ?_; simp only [Act.put, List.setIfInBounds_toArray, List.set_cons_zero, List.set_cons_succ])
          (refine wpList_append_own_at _ rfl _ _ 76 rfl w4.heap.size 51 i0 _ 13 104 Tryd.underlying76 hi hz0 hz1 hz2 rfl (by decide) _ _ _ rfl O8.out ⟨w7.heap.size, 0, none⟩ 1 1 (meaA mm).toList rfl rfl ?c1 ?c2 ?c3 ?c4 ?c5 ?_)
          case c1 => exact mea_news N8.out
          case c2 => exact mea_ones mm
          case c3 => unfold maxLen; omega
          case c4 => omega
          case c5 => omega
          intro v' w9 hown hgrow _ _
          have hg9 : Only (fun b => w4.heap.size ≤ b) (w7.alloc (.cells (meaA mm) 51)) w9 := (Only.of_grown hgrow).mono fun b hb => (O8.out.lt b hb).1
          have Kn := Lib.hid (((HB.out.trans (K8.out.mono hsB))).trans (hg9.below (B := w4.heap.size) (Nat.le_trans hsB hsK) (fun _ h => h)))
          have HOn : Hid (w9.ownsRow w4.heap.size 51 13 v' (k + 1) (meaL (ls.take (k + 1)))) := by
            rw [meaL_snoc hlt, ← HMM.out]; exact hown
          clear hown hgrow hg9
          go_wp2
          go_roundw
          case rel => exact ⟨k + 1, by omega, by go_num, HG, HOn, Kn⟩
          case measure => simp [intOf]; omega
        | false =>
          have HF : Hid (r = false) := by rw [← HR.out]; exact goodsB_no hlt (by rw [← HMM.out]; exact hg)
          rw [if_neg (by decide)] at HMO
          clear hg
          go_upto_region 10 with (first | (refine wpList_load_row rfl 53 _ rfl w3.heap.size rfl 53 (scaA sa sb sc sd (mostL P)) (0, 0) _ N5.out Tryd.underlying53 rfl (by kernel_rfl) ?_; simp only [Act.put, List.setIfInBounds_toArray, List.set_cons_zero, List.set_cons_succ]) | (go_at_call 76; refine HMO.out.mono ?_; rintro e w6 ⟨rfl, hb⟩; have K6 := Lib.hid hb; clear hb) | (refine wpList_store_row rfl 51 _ _ rfl w6.heap.size (meaA []) rfl (by first | rfl | kernel_rfl) 51 (meaA []) (heap_alloc_new w6 _) (by kernel_rfl) rfl (meaA_one _) ?_; simp only [Act.put, List.setIfInBounds_toArray, List.set_cons_zero, List.set_cons_succ]))
          obtain ⟨w7, hw7⟩ : ∃ y, y = (w6.alloc (.cells #[.int .i64 0, .int .i64 0, .int .i64 0, .int .i64 0, .int .i64 0, .int .i64 0, .int .i64 0, .int .i64 0, .int .i64 0, .int .i64 0, .int .i64 0, .int .i64 0, .int .i64 0] 51)).setRow w6.heap.size (meaA []) := ⟨_, rfl⟩
          rw [← hw7]
          have hb7 : Below w6.heap.size w6 w7 := by
            rw [hw7]
            exact (below1 w6 _).trans ((only_row8 (S := fun x => x = w6.heap.size) (Only.refl _ _) rfl _).below (below1 w6 _).size (fun x hx => by rw [hx]; exact Nat.le_refl _))
          have K7 := K6.out.trans (hb7.mono K6.out.size)
          have R7 := Lib.hid ((K7.block _ (Array.getElem?_eq_some_iff.1 R5.out).1).trans R5.out)
          have B7 := Lib.hid (B5.out.trans (K7.mono B5.out.size))
          clear hw7 hb7 K7
          refine wp_region_lit ?_
          refine wpList_build rfl 53 _ rfl (by kernel_rfl) ?_
          simp only [Act.put, List.setIfInBounds_toArray, List.set_cons_zero, List.set_cons_succ]
          (refine wpList_store_row rfl 53 _ _ rfl (w.heap.size + 1) (scaA (.slice none 0 0) (.slice none 0 0) (.slice none 0 0) (.slice none 0 0) []) rfl (by first | rfl | kernel_rfl) 53 (scaA (.slice none 0 0) (.slice none 0 0) (.slice none 0 0) (.slice none 0 0) []) R7.out (by kernel_rfl) rfl (scaA_one rfl rfl rfl rfl _) ?_; simp only [Act.put, List.setIfInBounds_toArray, List.set_cons_zero, List.set_cons_succ])
          go_wp2_with fail
          have ho := only_row8 (S := fun x => x = w.heap.size + 1) (Only.refl _ w7) rfl (scaA (.slice none 0 0) (.slice none 0 0) (.slice none 0 0) (.slice none 0 0) [])
          exact ret_sca3 (g := w.heap.size + 1) rfl rfl rfl rfl (setRow_heap _ _ _ _ _ _ R7.out) ⟨.slice none 0 0, .slice none 0 0, .slice none 0 0, .slice none 0 0, [], .slice none 0 0, by rw [HF.out]; rfl, (fun h => by rw [HF.out] at h; cases h), ⟨_, _, _, rfl⟩, ⟨rfl, rfl, rfl, rfl⟩, B7.out.trans (ho.below B7.out.size (fun x hx => by rw [hx]; omega))⟩
      · have hi1 : ¬ (k : Int) < ls.length := by omega
        have hkl : k = ls.length := by omega
        have HT : Hid (r = true) := by rw [← HR.out]; exact goodsB_yes HSm.out (fun j hj => HJ.out j (by omega))
        have HOe : Hid (wr.ownsRow w4.heap.size 51 13 u8 ls.length (meaL ls)) := by
          have h := HO.out
          rw [hkl, List.take_length] at h
          exact h
        obtain ⟨vx, vy, vz, hva⟩ : ∃ x y z, u8 = .slice x y z := by
          rcases HOe.out.2 with ⟨h, _⟩ | ⟨_, _, _, h, _⟩
          · exact ⟨_, _, _, h⟩
          · exact ⟨_, _, _, h⟩
        subst hva
        clear HO hkl
        go_upto_region 13 with fail
        refine wp_region_lit ?_
        go_wp2_with (first | (refine wpList_load_row rfl 53 _ rfl w3.heap.size rfl 53 (scaA sa sb sc sd (mostL P)) (0, 0) _ N5.out Tryd.underlying53 rfl (by kernel_rfl) ?_; simp only [Act.put, List.setIfInBounds_toArray, List.set_cons_zero, List.set_cons_succ]) | (refine wpList_store_row rfl 53 _ _ rfl (w.heap.size + 1) (scaA sa sb sc sd (mostL P)) rfl (by first | rfl | kernel_rfl) 53 (scaA (.slice none 0 0) (.slice none 0 0) (.slice none 0 0) (.slice none 0 0) []) R5.out (by kernel_rfl) rfl (scaA_one HO1.out.1 HO1.out.2.1 HO1.out.2.2.1 HO1.out.2.2.2 _) ?_; simp only [Act.put, List.setIfInBounds_toArray, List.set_cons_zero, List.set_cons_succ]))
        have ho := only_row8 (S := fun x => x = w.heap.size + 1) (Only.refl _ wr) rfl (scaA sa sb sc sd (mostL P))
        have hs9 := HB.out.size
        have hbz := ho.below (B := w.heap.size) B5.out.size (fun x hx => by rw [hx]; omega)
        refine ret_sca3 (g := w.heap.size + 1) rfl rfl rfl rfl (setRow_heap _ _ _ _ _ _ R5.out) ⟨sa, sb, sc, sd, mostL P, .slice vx vy vz, by rw [HT.out]; rfl, (fun _ => ⟨HSA.out _ (B5.out.trans hbz) (Q5.out.only ho (fun g hg e => by have := (Q5.out.own.lt g hg).1; have := hs1.out; omega)).retop, ownsRow_base (ownsRow_only HOe.out ho (fun g hg e => by have := (HOe.out.lt g hg).1; omega)) (by omega)⟩), ⟨_, _, _, rfl⟩, HO1.out, B5.out.trans hbz⟩
end
end Go.Proofs.YtihaajcmephlmaaDoor
namespace Go.Proofs.YtihaajcmephlmaaDoor
section
open Go.RowKit Go.Shelf

/-- A table's cells. -/
def tabL (n : Int) (ms : List (List Int)) : List Value := .int .i64 n :: (meaL ms ++ List.replicate (156 - (meaL ms).length) (.int .i64 0))
def tabA (n : Int) (ms : List (List Int)) : Array Value := (tabL n ms).toArray
def tabV (n : Int) (ms : List (List Int)) : Value := .agg (tabA n ms)
theorem meaL_length (ms : List (List Int)) : (meaL ms).length = ms.length * 13 := by
  induction ms with
  | nil => rfl
  | cons a ms ih =>
    have e : meaL (a :: ms) = (meaA a).toList ++ meaL ms := rfl
    have h : (meaA a).toList.length = 13 := rfl
    rw [e, List.length_append, ih, h, List.length_cons]
    omega
theorem tabA_size {n : Int} {ms : List (List Int)} (h : ms.length ≤ 12) : (tabA n ms).size = 157 := by
  have := meaL_length ms
  simp [tabA, tabL]
  omega
theorem meaL_ones (ms : List (List Int)) : ∀ v ∈ meaL ms, v.oneCell' = true := by
  intro v hv
  unfold meaL at hv
  rw [List.mem_flatten] at hv
  obtain ⟨l, hl, hv⟩ := hv
  obtain ⟨m, _, rfl⟩ := List.mem_map.1 hl
  exact mea_ones m v hv
theorem tabA_one (n : Int) (ms : List (List Int)) : (tabA n ms).all (·.oneCell') = true := by
  rw [Array.all_eq_true']
  intro v hv
  unfold tabA tabL at hv
  rw [List.mem_toArray, List.mem_cons, List.mem_append] at hv
  rcases hv with rfl | hv | hv
  · rfl
  · exact meaL_ones ms v hv
  · rw [(List.mem_replicate.1 hv).2]; rfl
theorem tab_fill {n : Int} {ms : List (List Int)} : (tabA n []).toList.take 1 ++ meaL ms ++ (tabA n []).toList.drop (1 + (meaL ms).length) = tabL n ms := by
  have e : (tabA n []).toList = .int .i64 n :: List.replicate 156 (.int .i64 0) := rfl
  rw [e, Nat.add_comm 1, List.drop_succ_cons, List.drop_replicate]
  rfl

/-- copy of whole rows, of any size, into a row that is known whole. -/
theorem run_copy_rows8 {P : Program} (w : World) (dT sT ty elem : TypeId) (g o dLen dCap : Nat) (a : Addr) (sLen sCap n size : Nat) (cur : Array Value) (t : TypeId) (cs : List Value)
    (hu : P.underlying dT = some (.slice elem)) (hs : (P.info? elem).map (·.size) = some size)
    (hg : w.heap[g]? = some (.cells cur t (0, 0))) (hn : n = Nat.min sLen dLen) (hlen : cs.length = n * size)
    (hsrc : ∀ j v, cs[j]? = some v → w.cell? (a.add j) = some v) (hfit : o + cs.length ≤ cur.size) (h1 : ∀ v ∈ cs, v.oneCell' = true) :
    (Builtin.copy_ #[dT, sT] ty #[.slice (some ⟨g, o, none⟩) dLen dCap, .slice (some a) sLen sCap]).run P w =
      .ok (goInt n) (w.setRow g (cur.toList.take o ++ cs ++ cur.toList.drop (o + cs.length)).toArray) := by
  have hl := run_loadCells_list (P := P) w a cs hsrc
  have hst := run_storeCells_at P g o t cs 0 cur w hg (by simpa using hfit) h1
  cases hq : P.info? elem with
  | none => simp [hq] at hs
  | some i =>
    have hi : i.size = size := by simpa [hq] using hs
    simp [Builtin.copy_, run_underlying hu, Builtin.lenOf, Builtin.firstCells, sizeOf, typeInfo, hq, hi, ← hn, ← hlen, hl, hst]
/-- .. from a slice of one's own, for the walk: a table that held nothing holds the measures then. -/
theorem wpList_copy_tab {P : Program} {w : World} {ops : Array Oper} {rest : List Oper} {o : Oper} {a : Act} {Q : Exit → Act → World → Prop} (hgd : o.guard = none) (d s : Operand) (dT sT : TypeId)
    (ho : o.op = .call { callee := .builtin .copy, args := #[d, s], argTypes := #[dT, sT] }) (elem : TypeId) (hu : P.underlying dT = some (.slice elem)) (hsz : (P.info? elem).map (·.size) = some 13)
    (g : Nat) (n : Int) (t T : TypeId) (B : Nat) (va : Value) (ms : List (List Int)) (hms : ms.length ≤ 12) (hd : a.eval d = .slice (some ⟨g, 1, none⟩) 12 12) (hs : a.eval s = va)
    (hg : w.heap[g]? = some (.cells (tabA n []) t (0, 0))) (hva : w.ownsRow B T 13 va ms.length (meaL ms))
    (h : wpList P ops Q rest (a.put o.dst (goInt ms.length)) (w.setRow g (tabA n ms))) : wpList P ops Q (o :: rest) a w := by
  have hml := meaL_length ms
  have hz : (tabA n []).size = 157 := tabA_size (by simp)
  have hr : (Builtin.copy_ #[dT, sT] o.type #[.slice (some ⟨g, 1, none⟩) 12 12, va]).run P w = .ok (goInt ms.length) (w.setRow g (tabA n ms)) := by
    rcases hva.2 with ⟨rfl, h0⟩ | ⟨b, cap, cur, rfl, hb, hc, hn, hm, hcs, hct⟩
    · have e : ms = [] := List.eq_nil_of_length_eq_zero h0
      subst e
      rw [run_copy_nil (P := P) w dT sT o.type elem ⟨g, 1, none⟩ 12 12 hu (by cases hq : P.info? elem <;> simp [hq] at hsz ⊢), setRow_self w g _ t (0, 0) hg]
      rfl
    · have hmin : ms.length = Nat.min ms.length 12 := (Nat.min_eq_left hms).symm
      rw [run_copy_rows8 (P := P) w dT sT o.type elem g 1 12 12 ⟨b, 0, none⟩ ms.length cap ms.length 13 (tabA n []) t (meaL ms) hu hsz hg hmin hml (fun j v hj => by
        rw [Addr.add_mid, Nat.zero_add, cell_of_row _ _ _ _ _ _ hc, ← Array.getElem?_toList]
        rw [← hct, List.getElem?_take] at hj
        split at hj
        · exact hj
        · cases hj) (by rw [hz]; omega) (meaL_ones ms), tab_fill]
      rfl
  refine wpList_plain hgd fun K hK => ?_
  unfold Oper.wp execOp
  simp only [ho, resolve, invoke, builtin, Sem.run_bind, Sem.run_pure, Result.andThen_ok, List.map_toArray, List.map_cons, List.map_nil, hd, hs, hr]
  exact hK _ _ h
end
end Go.Proofs.YtihaajcmephlmaaDoor
namespace Go.Proofs.YtihaajcmephlmaaDoor
section
/-- Is a list of lists a table? -/
noncomputable def tableB (O : List Int) (zss : List (List Int)) (P : List Int) (ls : List (List Int)) : Bool := decide (ls.length = P.length) && (smallB O zss P && ls.all (goodB P))
theorem tableB_small {O P : List Int} {zss ls : List (List Int)} (h : smallB O zss P = false) : tableB O zss P ls = false := by
  unfold tableB
  rw [h, Bool.false_and, Bool.and_false]
theorem tableB_len {O P : List Int} {zss ls : List (List Int)} (h : ¬ ls.length = P.length) : tableB O zss P ls = false := by
  unfold tableB
  rw [decide_eq_false h, Bool.false_and]
theorem row_at8 {ls : List (List Int)} {k : Nat} (hk : k < ls.length) : row ls k = ls[k] := by unfold row; simp [hk]
theorem tableB_bad {O P : List Int} {zss ls : List (List Int)} {k : Nat} (hk : k < ls.length) (h : goodB P (row ls k) = false) : tableB O zss P ls = false := by
  cases hg : tableB O zss P ls with
  | false => rfl
  | true =>
    unfold tableB at hg
    rw [Bool.and_eq_true, Bool.and_eq_true, List.all_eq_true] at hg
    rw [row_at8 hk, hg.2.2 _ (List.getElem_mem hk)] at h
    cases h
theorem tableB_yes {O P : List Int} {zss ls : List (List Int)} (hs : smallB O zss P = true) (hl : ls.length = P.length) (h : ∀ k, k < ls.length → goodB P (row ls k) = true) : tableB O zss P ls = true := by
  unfold tableB
  rw [hs, decide_eq_true hl, Bool.true_and, Bool.true_and, List.all_eq_true]
  intro x hx
  obtain ⟨k, hk, rfl⟩ := List.mem_iff_getElem.1 hx
  rw [← row_at8 hk]; exact h k hk
end
end Go.Proofs.YtihaajcmephlmaaDoor
namespace Go.Proofs.YtihaajcmephlmaaDoor
section
open Go.RowKit Go.Shelf

theorem tabA_zero : (Tryd.zeroCells56 : Array Value) = tabA 0 [] := by kernel_rfl
theorem ret_tab3 {fn : Func} {p q r : Tmp} {tmps : Array Value} {W : World} {g g' : Nat} {a b c d : Value} {M : List Int} {n : Int} {ms : List (List Int)} {x : Bool} {R : Ending → World → Prop} (hr : fn.results = #[.cell p 53, .cell q 56, .tmp r]) (hp : tmps.getD p undef = .pointer (some ⟨g, 0, none⟩)) (hq : tmps.getD q undef = .pointer (some ⟨g', 0, none⟩)) (hx : tmps.getD r undef = .bool x)
    (hM : W.heap[g]? = some (.cells (scaA a b c d M) 53 (0, 0))) (hT : W.heap[g']? = some (.cells (tabA n ms) 56 (0, 0))) (hms : ms.length ≤ 12) (hR : R (.returned (.tuple #[scaV a b c d M, tabV n ms, .bool x])) W) : bodyPost Tryd.prog fn R .ret { tmps := tmps, defers := [] } W := by
  refine bodyPost_ret (v := .tuple #[scaV a b c d M, tabV n ms, .bool x]) ?_ rfl hR
  have hp' : tmps[p]?.getD undef = .pointer (some ⟨g, 0, none⟩) := by simpa using hp
  have hq' : tmps[q]?.getD undef = .pointer (some ⟨g', 0, none⟩) := by simpa using hq
  have hx' : tmps[r]?.getD undef = .bool x := by simpa using hx
  have hl := run_loadVar_row (P := Tryd.prog) W g 53 53 (scaA a b c d M) (0, 0) _ hM Tryd.underlying53 rfl (by kernel_rfl)
  have hl' := run_loadVar_row (P := Tryd.prog) W g' 56 56 (tabA n ms) (0, 0) _ hT Tryd.underlying56 rfl (by rw [tabA_size hms]; kernel_rfl)
  simp [results, hr, hp', hq', hx', asAddr, hl, hl', scaV, tabV]
theorem range_row8 {w : World} {g : Nat} {T : TypeId} {cs : Array Value} (h : w.heap[g]? = some (.cells cs T (0, 0))) : w.rangeAt g 0 cs.toList := by
  intro j u hj
  rw [Nat.zero_add, cell_of_row _ _ _ _ _ _ h, ← Array.getElem?_toList]
  exact hj
theorem tableB_goods {O P : List Int} {zss ls : List (List Int)} (h : ls.length = O.length) : tableB O zss P ls = goodsB O zss P ls := by
  cases hs : smallB O zss P with
  | false => rw [tableB_small hs]; unfold goodsB; rw [hs, Bool.false_and]
  | true =>
    have hP := (parityB_iff.1 (smallB_iff.1 hs).2).2.1
    unfold tableB goodsB
    rw [decide_eq_true (h.trans hP.symm), Bool.true_and]
theorem tableB_off {O P : List Int} {zss ls : List (List Int)} (h : ¬ ls.length = O.length) : tableB O zss P ls = false := by
  cases hs : smallB O zss P with
  | false => exact tableB_small hs
  | true =>
    have hP := (parityB_iff.1 (smallB_iff.1 hs).2).2.1
    exact tableB_len (fun e => h (e.trans hP))

set_option linter.unusedSimpArgs false in
set_option maxRecDepth 100000 in
set_option maxHeartbeats 16000000 in
theorem tableIn_is {w : World} {v : Value} {O P : List Int} {zss ls : List (List Int)} {al : Option Addr} {LA : Nat → Option Addr} {LC : Nat → Nat} {r : Bool} (cl : Nat) (hr : tableB O zss P ls = r) (hW : LostW w) (h : GameAt w v O zss P) (hls : RowsAt w al LA LC ls) (hll : ls.length ≤ 1048576) :
    Calls Tryd.prog 37 #[v, .slice al ls.length cl] w fun e w' => ∃ a b c d M n ms, e = .returned (.tuple #[scaV a b c d M, tabV n ms, .bool r]) ∧ (r = true → n = (O.length : Int) ∧ ms = ls) ∧ ms.length ≤ 12 ∧ (a.oneCell' = true ∧ b.oneCell' = true ∧ c.oneCell' = true ∧ d.oneCell' = true) ∧ Below w.heap.size w w' := by
  have HGm := Lib.hid h
  obtain ⟨ao, an, ap, co, cn, cp, A, C, rfl, h1, h2, h3⟩ := h
  have HA0 : Hid (ArenaAt w (.agg #[.slice ao O.length co, .slice an zss.length cn]) O zss) := ⟨ao, an, co, cn, A, C, rfl, h1, h2⟩
  obtain ⟨w0, hw0⟩ : ∃ y, y = (w.alloc (.cells #[.slice ao O.length co, .slice an zss.length cn, .slice ap P.length cp] 33)).alloc (.cells #[.slice none 0 0, .slice none 0 0, .slice none 0 0, .slice none 0 0, .int .i64 0, .int .i64 0, .int .i64 0, .int .i64 0, .int .i64 0, .int .i64 0, .int .i64 0, .int .i64 0, .int .i64 0, .int .i64 0, .int .i64 0, .int .i64 0, .int .i64 0] 53) := ⟨_, rfl⟩
  obtain ⟨w1, hw1⟩ : ∃ y, y = w0.alloc (.cells Tryd.zeroCells56 56) := ⟨_, rfl⟩
  have HW1 : Hid (w1 = ((w.alloc (.cells #[.slice ao O.length co, .slice an zss.length cn, .slice ap P.length cp] 33)).alloc (.cells #[.slice none 0 0, .slice none 0 0, .slice none 0 0, .slice none 0 0, .int .i64 0, .int .i64 0, .int .i64 0, .int .i64 0, .int .i64 0, .int .i64 0, .int .i64 0, .int .i64 0, .int .i64 0, .int .i64 0, .int .i64 0, .int .i64 0, .int .i64 0] 53)).alloc (.cells Tryd.zeroCells56 56)) := by rw [hw1, hw0]; exact rfl
  have hb0 : Below w.heap.size w w0 := by rw [hw0]; exact below2 _ _ _
  have hb1 : Below w0.heap.size w0 w1 := by rw [hw1]; exact below1 _ _
  have hs0 : w0.heap.size = w.heap.size + 2 := by rw [hw0]; simp
  have B1 := Lib.hid (hb0.trans (hb1.mono hb0.size))
  have hT0 : Box3 w0 w.heap.size 33 (.slice ao O.length co) (.slice an zss.length cn) (.slice ap P.length cp) := by rw [hw0]; exact (Box3.new _ _ _ _ _).below (below1 _ _)
  have T1 := Lib.hid (hT0.below hb1)
  have hR0 : w0.heap[w.heap.size + 1]? = some (.cells (scaA (.slice none 0 0) (.slice none 0 0) (.slice none 0 0) (.slice none 0 0) []) 53 (0, 0)) := by rw [hw0]; exact heap_alloc2_new _ _ _
  have R1 := Lib.hid ((hb1.block _ (Array.getElem?_eq_some_iff.1 hR0).1).trans hR0)
  have S1 : Hid (w1.heap[w.heap.size + 2]? = some (.cells (tabA 0 []) 56 (0, 0))) := by rw [hw1, ← hs0, ← tabA_zero]; exact heap_alloc_new _ _
  have hs1 : Hid (w1.heap.size = w.heap.size + 3) := by rw [hw1]; simp [Hid, hs0]
  have HLs := Lib.hid hls
  have hln := hls.len
  have hlO := h1.len
  have HL := Lib.hid hW
  have HR := Lib.hid hr
  have HZ := Lib.hid (arenaSize_is (HA0.out.below B1.out))
  have t0 := T1.out.c0
  have t1 := T1.out.c1
  have t2 := T1.out.c2
  clear hw0 hw1 hb0 hb1 hT0 hR0 h1 h2 h3 hls hW hr hs0
  by_cases hl : ls.length = O.length
  · have HQ := Lib.hid ((tableB_goods hl).symm.trans HR.out)
    have HMI : Hid (∀ W, Below w.heap.size w W → Calls Tryd.prog 62 #[.agg #[.slice ao O.length co, .slice an zss.length cn, .slice ap P.length cp], .slice al ls.length cl] W fun e w' => ∃ a b c d M va, e = .returned (.tuple #[scaV a b c d M, va, .bool r]) ∧ (r = true → ScaleAt w' (scaV a b c d M) O zss P ∧ w'.ownsRow W.heap.size 51 13 va ls.length (meaL ls)) ∧ (∃ x y z, va = .slice x y z) ∧ (a.oneCell' = true ∧ b.oneCell' = true ∧ c.oneCell' = true ∧ d.oneCell' = true) ∧ Below W.heap.size W w') :=
      fun W hb => measuresIn_is cl HQ.out (HL.out.below hb) (HGm.out.below hb) (HLs.out.below hb) hll
    have HL12' : Hid (r = true → ls.length ≤ 12) := fun hr => by
      have h1 := HQ.out
      rw [hr] at h1
      unfold goodsB at h1
      rw [Bool.and_eq_true] at h1
      have h2 := smallB_iff.1 h1.1
      have h3 := (parityB_iff.1 h2.2).2.1
      omega
    have hleq : ((ls.length : Int) != (O.length : Int)) = false := by simp [hl]
    have HLE := Lib.hid hl
    clear hl
    go_enter Tryd.func37, Tryd.ntmps37
    go_wp2_with fail
    rw [← HW1.out]
    refine HZ.out.mono ?_
    rintro e w2 ⟨rfl, hb⟩
    have B2 := Lib.hid (B1.out.trans (hb.mono B1.out.size))
    have R2 := Lib.hid ((hb.block _ (Array.getElem?_eq_some_iff.1 R1.out).1).trans R1.out)
    have S2 := Lib.hid ((hb.block _ (Array.getElem?_eq_some_iff.1 S1.out).1).trans S1.out)
    have T2 := Lib.hid (T1.out.below hb)
    clear hb HZ t0 t1 t2
    have t0 := T2.out.c0
    have t1 := T2.out.c1
    have t2 := T2.out.c2
    go_wp2_with fail
    refine (HMI.out w2 B2.out).mono ?_
    rintro e w3 ⟨a, b, c, d, M, va, rfl, hsc, ⟨x, y, z, rfl⟩, hone, hb⟩
    have HSC := Lib.hid hsc
    have HONE := Lib.hid hone
    have B3 := Lib.hid (B2.out.trans (hb.mono B2.out.size))
    have R3 := Lib.hid ((hb.block _ (Array.getElem?_eq_some_iff.1 R2.out).1).trans R2.out)
    have S3 := Lib.hid ((hb.block _ (Array.getElem?_eq_some_iff.1 S2.out).1).trans S2.out)
    have HN3 : Hid ((w3.alloc (.cells #[.slice none 0 0, .slice none 0 0, .slice none 0 0, .slice none 0 0, .int .i64 0, .int .i64 0, .int .i64 0, .int .i64 0, .int .i64 0, .int .i64 0, .int .i64 0, .int .i64 0, .int .i64 0, .int .i64 0, .int .i64 0, .int .i64 0, .int .i64 0] 53)).heap[w3.heap.size]? = some (.cells (scaA (.slice none 0 0) (.slice none 0 0) (.slice none 0 0) (.slice none 0 0) []) 53 (0, 0))) := heap_alloc_new _ _
    have hbs := hb.size
    have hb4 : Below w3.heap.size w3 ((w3.alloc (.cells #[.slice none 0 0, .slice none 0 0, .slice none 0 0, .slice none 0 0, .int .i64 0, .int .i64 0, .int .i64 0, .int .i64 0, .int .i64 0, .int .i64 0, .int .i64 0, .int .i64 0, .int .i64 0, .int .i64 0, .int .i64 0, .int .i64 0, .int .i64 0] 53)).setRow w3.heap.size (scaA a b c d M)) :=
      (below1 w3 _).trans ((only_row8 (S := fun x => x = w3.heap.size) (Only.refl _ _) rfl _).below (below1 w3 _).size (fun x hx => by rw [hx]; exact Nat.le_refl _))
    have B4 := Lib.hid (B3.out.trans (hb4.mono B3.out.size))
    have R4 := Lib.hid ((hb4.block _ (Array.getElem?_eq_some_iff.1 R3.out).1).trans R3.out)
    have S4 := Lib.hid ((hb4.block _ (Array.getElem?_eq_some_iff.1 S3.out).1).trans S3.out)
    have N4 : Hid (((w3.alloc (.cells #[.slice none 0 0, .slice none 0 0, .slice none 0 0, .slice none 0 0, .int .i64 0, .int .i64 0, .int .i64 0, .int .i64 0, .int .i64 0, .int .i64 0, .int .i64 0, .int .i64 0, .int .i64 0, .int .i64 0, .int .i64 0, .int .i64 0, .int .i64 0] 53)).setRow w3.heap.size (scaA a b c d M)).heap[w3.heap.size]? = some (.cells (scaA a b c d M) 53 (0, 0))) := setRow_heap _ _ _ _ _ _ HN3.out
    have HB4 := Lib.hid hb4
    clear hb hsc hone hb4 HMI t0 t1 t2
    cases r with
    | false =>
      go_upto_region 5 with (refine wpList_store_row rfl 53 _ _ rfl w3.heap.size (scaA a b c d M) rfl (by first | rfl | kernel_rfl) 53 (scaA (.slice none 0 0) (.slice none 0 0) (.slice none 0 0) (.slice none 0 0) []) HN3.out (by kernel_rfl) rfl (scaA_one HONE.out.1 HONE.out.2.1 HONE.out.2.2.1 HONE.out.2.2.2 _) ?_; simp only [Act.put, List.setIfInBounds_toArray, List.set_cons_zero, List.set_cons_succ])
      obtain ⟨w4, hw4⟩ : ∃ y, y = (w3.alloc (.cells #[.slice none 0 0, .slice none 0 0, .slice none 0 0, .slice none 0 0, .int .i64 0, .int .i64 0, .int .i64 0, .int .i64 0, .int .i64 0, .int .i64 0, .int .i64 0, .int .i64 0, .int .i64 0, .int .i64 0, .int .i64 0, .int .i64 0, .int .i64 0] 53)).setRow w3.heap.size (scaA a b c d M) := ⟨_, rfl⟩
      rw [← hw4] at B4 R4 S4 N4 HB4 ⊢
      clear hw4 HN3
      refine wp_region_lit ?_
      (refine wpList_build rfl 53 _ rfl (by kernel_rfl) ?_; simp only [Act.put, List.setIfInBounds_toArray, List.set_cons_zero, List.set_cons_succ])
      (refine wpList_build rfl 56 _ rfl (by kernel_rfl) ?_; simp only [Act.put, List.setIfInBounds_toArray, List.set_cons_zero, List.set_cons_succ])
      (refine wpList_store_row rfl 53 _ _ rfl (w.heap.size + 1) (scaA (.slice none 0 0) (.slice none 0 0) (.slice none 0 0) (.slice none 0 0) []) rfl (by first | rfl | kernel_rfl) 53 (scaA (.slice none 0 0) (.slice none 0 0) (.slice none 0 0) (.slice none 0 0) []) R4.out (by kernel_rfl) rfl (scaA_one rfl rfl rfl rfl _) ?_; simp only [Act.put, List.setIfInBounds_toArray, List.set_cons_zero, List.set_cons_succ])
      have S5 : Hid ((w4.setRow (w.heap.size + 1) (scaA (.slice none 0 0) (.slice none 0 0) (.slice none 0 0) (.slice none 0 0) [])).heap[w.heap.size + 2]? = some (.cells (tabA 0 []) 56 (0, 0))) := (setRow_other _ _ _ _ (show w.heap.size + 2 ≠ w.heap.size + 1 by omega)).trans S4.out
      (refine wpList_store_row rfl 56 _ _ rfl (w.heap.size + 2) (tabA 0 []) rfl (by kernel_rfl) 56 (tabA 0 []) S5.out (by first | kernel_rfl | (rw [tabA_size (by first | exact HL12.out | simp)]; kernel_rfl)) (by first | rfl | (rw [tabA_size (by first | exact HL12.out | simp), tabA_size (by simp)])) (tabA_one _ _) ?_; simp only [Act.put, List.setIfInBounds_toArray, List.set_cons_zero, List.set_cons_succ])
      go_wp2_with fail
      have ho := only_row8 (S := fun x => x = w.heap.size + 1 ∨ x = w.heap.size + 2) (Only.refl _ w4) (.inl rfl) (scaA (.slice none 0 0) (.slice none 0 0) (.slice none 0 0) (.slice none 0 0) [])
      have ho2 := only_row8 (g := w.heap.size + 2) ho (.inr rfl) (tabA 0 [])
      have hS4 := setRow_heap _ _ _ (tabA 0 []) _ _ S5.out
      refine ret_tab3 (g := w.heap.size + 1) (g' := w.heap.size + 2) rfl rfl rfl rfl ((setRow_other _ _ _ _ (show w.heap.size + 1 ≠ w.heap.size + 2 by omega)).trans (setRow_heap _ _ _ _ _ _ R4.out)) hS4 (by simp) ⟨_, _, _, _, _, _, _, rfl, (fun h => by cases h), by simp, ⟨rfl, rfl, rfl, rfl⟩, B4.out.trans (ho2.below B4.out.size (fun x hx => by rcases hx with rfl | rfl <;> omega))⟩
    | true =>
      obtain ⟨hSc, hOw⟩ := HSC.out rfl
      have HSc := Lib.hid hSc
      have HL12 : Hid (ls.length ≤ 12) := HL12'.out rfl
      have HO3 := Lib.hid (ownsRow_only hOw (S := fun _ => False) (Only.of_below HB4.out) (fun _ _ h => h))
      obtain ⟨bo, bn, bp, bq, eo, en, ep, eq, hv, hGa, hIa⟩ := hSc
      obtain ⟨ha, hb'⟩ : a = .slice bo O.length eo ∧ b = .slice bn zss.length en := by
        unfold scaV scaA at hv
        simp only [Value.agg.injEq, Array.mk.injEq, List.cons.injEq] at hv
        exact ⟨hv.1, hv.2.1⟩
      subst ha hb'
      obtain ⟨_, _, _, _, _, _, _, _, hv', g1, g2, _⟩ := hGa
      have HA3 : Hid (ArenaAt w3 (.agg #[.slice bo O.length eo, .slice bn zss.length en]) O zss) := by cases hv'; exact ⟨_, _, _, _, _, _, rfl, g1, g2⟩
      have HZ4 := Lib.hid (arenaSize_is (HA3.out.below HB4.out))
      have c0 : ((w3.alloc (.cells #[.slice none 0 0, .slice none 0 0, .slice none 0 0, .slice none 0 0, .int .i64 0, .int .i64 0, .int .i64 0, .int .i64 0, .int .i64 0, .int .i64 0, .int .i64 0, .int .i64 0, .int .i64 0, .int .i64 0, .int .i64 0, .int .i64 0, .int .i64 0] 53)).setRow w3.heap.size (scaA (.slice bo O.length eo) (.slice bn zss.length en) c d M)).cell? ⟨w3.heap.size, 0, none⟩ = some (.slice bo O.length eo) := by rw [cell_of_row _ _ _ _ _ _ N4.out]; rfl
      have c1 : ((w3.alloc (.cells #[.slice none 0 0, .slice none 0 0, .slice none 0 0, .slice none 0 0, .int .i64 0, .int .i64 0, .int .i64 0, .int .i64 0, .int .i64 0, .int .i64 0, .int .i64 0, .int .i64 0, .int .i64 0, .int .i64 0, .int .i64 0, .int .i64 0, .int .i64 0] 53)).setRow w3.heap.size (scaA (.slice bo O.length eo) (.slice bn zss.length en) c d M)).cell? ⟨w3.heap.size, 1, none⟩ = some (.slice bn zss.length en) := by rw [cell_of_row _ _ _ _ _ _ N4.out]; rfl
      clear hOw hv hv' g1 g2 hIa
      go_upto_region 6 with (refine wpList_store_row rfl 53 _ _ rfl w3.heap.size (scaA (.slice bo O.length eo) (.slice bn zss.length en) c d M) rfl (by first | rfl | kernel_rfl) 53 (scaA (.slice none 0 0) (.slice none 0 0) (.slice none 0 0) (.slice none 0 0) []) HN3.out (by kernel_rfl) rfl (scaA_one HONE.out.1 HONE.out.2.1 HONE.out.2.2.1 HONE.out.2.2.2 _) ?_; simp only [Act.put, List.setIfInBounds_toArray, List.set_cons_zero, List.set_cons_succ])
      obtain ⟨w4, hw4⟩ : ∃ y, y = (w3.alloc (.cells #[.slice none 0 0, .slice none 0 0, .slice none 0 0, .slice none 0 0, .int .i64 0, .int .i64 0, .int .i64 0, .int .i64 0, .int .i64 0, .int .i64 0, .int .i64 0, .int .i64 0, .int .i64 0, .int .i64 0, .int .i64 0, .int .i64 0, .int .i64 0] 53)).setRow w3.heap.size (scaA (.slice bo O.length eo) (.slice bn zss.length en) c d M) := ⟨_, rfl⟩
      rw [← hw4] at B4 R4 S4 N4 HB4 HO3 HZ4 c0 c1 ⊢
      clear hw4 HN3
      go_wp2_with fail
      refine HZ4.out.mono ?_
      rintro e w5 ⟨rfl, hb⟩
      have B5 := Lib.hid (B4.out.trans (hb.mono B4.out.size))
      have R5 := Lib.hid ((hb.block _ (Array.getElem?_eq_some_iff.1 R4.out).1).trans R4.out)
      have S5 := Lib.hid ((hb.block _ (Array.getElem?_eq_some_iff.1 S4.out).1).trans S4.out)
      have N5 := Lib.hid ((hb.block _ (Array.getElem?_eq_some_iff.1 N4.out).1).trans N4.out)
      have O5 := Lib.hid (ownsRow_only HO3.out (S := fun _ => False) (Only.of_below hb) (fun _ _ h => h))
      have HN5 : Hid ((w5.alloc (.cells Tryd.zeroCells56 56)).heap[w5.heap.size]? = some (.cells (tabA 0 []) 56 (0, 0))) := by rw [tabA_zero]; exact heap_alloc_new _ _
      clear hb HZ4 c0 c1
      go_upto_region 7 with (first | (refine wpList_build rfl 56 _ rfl (by kernel_rfl) ?_; simp only [Act.put, List.setIfInBounds_toArray, List.set_cons_zero, List.set_cons_succ]) | (refine wpList_store_row rfl 56 _ _ rfl w5.heap.size (tabA (O.length : Int) []) rfl (by kernel_rfl) 56 (tabA 0 []) HN5.out (by first | kernel_rfl | (rw [tabA_size (by first | exact HL12.out | simp)]; kernel_rfl)) (by first | rfl | (rw [tabA_size (by first | exact HL12.out | simp), tabA_size (by simp)])) (tabA_one _ _) ?_; simp only [Act.put, List.setIfInBounds_toArray, List.set_cons_zero, List.set_cons_succ]))
      obtain ⟨w6, hw6⟩ : ∃ y, y = (w5.alloc (.cells Tryd.zeroCells56 56)).setRow w5.heap.size (tabA (O.length : Int) []) := ⟨_, rfl⟩
      rw [← hw6]
      have hb6 : Below w5.heap.size w5 w6 := by
        rw [hw6]
        exact (below1 w5 _).trans ((only_row8 (S := fun x => x = w5.heap.size) (Only.refl _ _) rfl _).below (below1 w5 _).size (fun x hx => by rw [hx]; exact Nat.le_refl _))
      have N6 : Hid (w6.heap[w5.heap.size]? = some (.cells (tabA (O.length : Int) []) 56 (0, 0))) := by rw [hw6]; exact setRow_heap _ _ _ _ _ _ HN5.out
      have B6 := Lib.hid (B5.out.trans (hb6.mono B5.out.size))
      have R6 := Lib.hid ((hb6.block _ (Array.getElem?_eq_some_iff.1 R5.out).1).trans R5.out)
      have S6 := Lib.hid ((hb6.block _ (Array.getElem?_eq_some_iff.1 S5.out).1).trans S5.out)
      have M6 := Lib.hid ((hb6.block _ (Array.getElem?_eq_some_iff.1 N5.out).1).trans N5.out)
      have O6 := Lib.hid (ownsRow_only O5.out (S := fun _ => False) (Only.of_below hb6) (fun _ _ h => h))
      have hs5 := B5.out.size
      have hg3 := (Array.getElem?_eq_some_iff.1 S3.out).1
      have hlm := (Array.getElem?_eq_some_iff.1 N5.out).1
      have hls := (Array.getElem?_eq_some_iff.1 S5.out).1
      clear hw6 hb6 HN5
      go_upto_region 8 with (refine wpList_copy_tab rfl _ _ _ _ rfl 51 Tryd.underlying76 (by kernel_rfl) w5.heap.size (O.length : Int) _ 51 w2.heap.size _ ls HL12.out rfl rfl N6.out O6.out ?_; simp only [Act.put, List.setIfInBounds_toArray, List.set_cons_zero, List.set_cons_succ])
      obtain ⟨w7, hw7⟩ : ∃ y, y = w6.setRow w5.heap.size (tabA (O.length : Int) ls) := ⟨_, rfl⟩
      rw [← hw7]
      have N7 : Hid (w7.heap[w5.heap.size]? = some (.cells (tabA (O.length : Int) ls) 56 (0, 0))) := by rw [hw7]; exact setRow_heap _ _ _ _ _ _ N6.out
      have R7 : Hid (w7.heap[w.heap.size + 1]? = some (.cells (scaA (.slice none 0 0) (.slice none 0 0) (.slice none 0 0) (.slice none 0 0) []) 53 (0, 0))) := by rw [hw7]; exact (setRow_other _ _ _ _ (by omega)).trans R6.out
      have S7 : Hid (w7.heap[w.heap.size + 2]? = some (.cells (tabA 0 []) 56 (0, 0))) := by rw [hw7]; exact (setRow_other _ _ _ _ (by omega)).trans S6.out
      have M7 : Hid (w7.heap[w3.heap.size]? = some (.cells (scaA (.slice bo O.length eo) (.slice bn zss.length en) c d M) 53 (0, 0))) := by rw [hw7]; exact (setRow_other _ _ _ _ (by omega)).trans M6.out
      have ho7 := only_row8 (S := fun x => x = w5.heap.size) (Only.refl _ w6) rfl (tabA (O.length : Int) ls)
      have B7 := Lib.hid (B6.out.trans (ho7.below B6.out.size (fun x hx => by rw [hx]; omega)))
      rw [← hw7] at B7
      clear hw7 ho7
      have M8 : Hid (w7.drew.heap[w3.heap.size]? = some (.cells (scaA (.slice bo O.length eo) (.slice bn zss.length en) c d M) 53 (0, 0))) := M7.out
      have N8 : Hid (w7.drew.heap[w5.heap.size]? = some (.cells (tabA (O.length : Int) ls) 56 (0, 0))) := N7.out
      have R8 : Hid (w7.drew.heap[w.heap.size + 1]? = some (.cells (scaA (.slice none 0 0) (.slice none 0 0) (.slice none 0 0) (.slice none 0 0) []) 53 (0, 0))) := R7.out
      have S8 : Hid (w7.drew.heap[w.heap.size + 2]? = some (.cells (tabA 0 []) 56 (0, 0))) := S7.out
      have B8 : Hid (Below w.heap.size w w7.drew) := B7.out.drew
      obtain ⟨w8, hw8⟩ : ∃ y, y = w7.drew := ⟨_, rfl⟩
      have M9 : Hid ((w8.setRow (w.heap.size + 1) (scaA (.slice bo O.length eo) (.slice bn zss.length en) c d M)).heap[w3.heap.size]? = some (.cells (scaA (.slice bo O.length eo) (.slice bn zss.length en) c d M) 53 (0, 0))) := by rw [hw8]; exact (setRow_other _ _ _ _ (by omega)).trans M8.out
      have N9 : Hid ((w8.setRow (w.heap.size + 1) (scaA (.slice bo O.length eo) (.slice bn zss.length en) c d M)).heap[w5.heap.size]? = some (.cells (tabA (O.length : Int) ls) 56 (0, 0))) := by rw [hw8]; exact (setRow_other _ _ _ _ (by omega)).trans N8.out
      have S9 : Hid ((w8.setRow (w.heap.size + 1) (scaA (.slice bo O.length eo) (.slice bn zss.length en) c d M)).heap[w.heap.size + 2]? = some (.cells (tabA 0 []) 56 (0, 0))) := by rw [hw8]; exact (setRow_other _ _ _ _ (by omega)).trans S8.out
      have R9 : Hid ((w8.setRow (w.heap.size + 1) (scaA (.slice bo O.length eo) (.slice bn zss.length en) c d M)).heap[w.heap.size + 1]? = some (.cells (scaA (.slice bo O.length eo) (.slice bn zss.length en) c d M) 53 (0, 0))) := by rw [hw8]; exact setRow_heap _ _ _ _ _ _ R8.out
      have M10 : Hid (((w8.setRow (w.heap.size + 1) (scaA (.slice bo O.length eo) (.slice bn zss.length en) c d M)).setRow (w.heap.size + 2) (tabA (O.length : Int) ls)).heap[w3.heap.size]? = some (.cells (scaA (.slice bo O.length eo) (.slice bn zss.length en) c d M) 53 (0, 0))) := (setRow_other _ _ _ _ (by omega)).trans M9.out
      have N10 : Hid (((w8.setRow (w.heap.size + 1) (scaA (.slice bo O.length eo) (.slice bn zss.length en) c d M)).setRow (w.heap.size + 2) (tabA (O.length : Int) ls)).heap[w5.heap.size]? = some (.cells (tabA (O.length : Int) ls) 56 (0, 0))) := (setRow_other _ _ _ _ (by omega)).trans N9.out
      have S10 : Hid (((w8.setRow (w.heap.size + 1) (scaA (.slice bo O.length eo) (.slice bn zss.length en) c d M)).setRow (w.heap.size + 2) (tabA (O.length : Int) ls)).heap[w.heap.size + 2]? = some (.cells (tabA (O.length : Int) ls) 56 (0, 0))) := setRow_heap _ _ _ _ _ _ S9.out
      have R10 : Hid (((w8.setRow (w.heap.size + 1) (scaA (.slice bo O.length eo) (.slice bn zss.length en) c d M)).setRow (w.heap.size + 2) (tabA (O.length : Int) ls)).heap[w.heap.size + 1]? = some (.cells (scaA (.slice bo O.length eo) (.slice bn zss.length en) c d M) 53 (0, 0))) := (setRow_other _ _ _ _ (by omega)).trans R9.out
      refine wp_region_M (S := (fun W' => W'.rangeAt w3.heap.size 0 (scaA (.slice bo O.length eo) (.slice bn zss.length en) c d M).toList ∧ W'.rangeAt w5.heap.size 0 (tabA (O.length : Int) ls).toList)) (m := 5) (by kernel_rfl) ⟨range_row8 M8.out, range_row8 N8.out⟩ (fun hHeld => ?_)
      refine wpAnyM_take (i := 0) (v := .agg (scaA (.slice bo O.length eo) (.slice bn zss.length en) c d M).toList.toArray) rfl (by kernel_rfl) (by decide) (by kernel_rfl) (by kernel_rfl) (by kernel_rfl) (fun _ _ _ h => h) (yieldsIf_load_mid (by rfl) 53 _ rfl w3.heap.size 0 rfl (scaA (.slice bo O.length eo) (.slice bn zss.length en) c d M).toList _ (fun W h => h.1) Tryd.underlying53 rfl (by kernel_rfl)) (by assumption) ?_
      try simp only [Act.put, List.setIfInBounds_toArray, List.set_cons_zero, List.set_cons_succ]
      refine wpAnyM_take (i := 1) (v := .agg (tabA (O.length : Int) ls).toList.toArray) rfl (by kernel_rfl) (by decide) (by kernel_rfl) (by kernel_rfl) (by kernel_rfl) (fun _ _ _ h => h) (yieldsIf_load_mid (by rfl) 56 _ rfl w5.heap.size 0 rfl (tabA (O.length : Int) ls).toList _ (fun W h => h.2) Tryd.underlying56 rfl (by rw [Array.length_toList, tabA_size HL12.out]; kernel_rfl)) (by assumption) ?_
      try simp only [Act.put, List.setIfInBounds_toArray, List.set_cons_zero, List.set_cons_succ]
      rw [← hw8] at R8 B8 ⊢
      clear hHeld hw8
      refine wpAnyM_one (i := 2) (by kernel_rfl) rfl (fun K hK => ?_)
      rw [if_pos (by rfl)]
      refine wp_store_row 53 _ _ rfl (w.heap.size + 1) (scaA (.slice bo O.length eo) (.slice bn zss.length en) c d M) rfl rfl 53 (scaA (.slice none 0 0) (.slice none 0 0) (.slice none 0 0) (.slice none 0 0) []) R8.out (by kernel_rfl) rfl (scaA_one HONE.out.1 HONE.out.2.1 HONE.out.2.2.1 HONE.out.2.2.2 _) ?_
      refine hK.out _ _ (fun _ => ⟨range_row8 M9.out, range_row8 N9.out⟩) (fun hHeld => ?_)
      clear hK K hHeld
      try simp only [Act.put, List.setIfInBounds_toArray, List.set_cons_zero, List.set_cons_succ]
      refine wpAnyM_one (i := 3) (by kernel_rfl) rfl (fun K hK => ?_)
      rw [if_pos (by rfl)]
      refine wp_store_row 56 _ _ rfl (w.heap.size + 2) (tabA (O.length : Int) ls) rfl rfl 56 (tabA 0 []) S9.out (by rw [tabA_size HL12.out]; kernel_rfl) (by rw [tabA_size HL12.out]; rfl) (tabA_one _ _) ?_
      refine hK.out _ _ (fun _ => ⟨range_row8 M10.out, range_row8 N10.out⟩) (fun hHeld => ?_)
      have hHeld := hHeld (by decide)
      clear hK K
      try simp only [Act.put, List.setIfInBounds_toArray, List.set_cons_zero, List.set_cons_succ]
      refine wpAnyM_take (i := 4) (v := .bool true) rfl (by kernel_rfl) (by decide) (by kernel_rfl) (by kernel_rfl) (by kernel_rfl) (fun _ _ _ h => h) (Or.inl ⟨by rfl, ?hm4⟩) (by assumption) ?_
      case hm4 => (intro w hSw; (try dsimp only at hSw); go_simp; first | done | with_reducible rfl)
      try simp only [Act.put, List.setIfInBounds_toArray, List.set_cons_zero, List.set_cons_succ]
      refine wpAnyM_done (by kernel_rfl) ?_ _
      go_wp2_with fail
      have ho := only_row8 (S := fun x => x = w.heap.size + 1 ∨ x = w.heap.size + 2) (Only.refl _ w8) (.inl rfl) (scaA (.slice bo O.length eo) (.slice bn zss.length en) c d M)
      have ho2 := only_row8 (g := w.heap.size + 2) ho (.inr rfl) (tabA (O.length : Int) ls)
      refine ret_tab3 (g := w.heap.size + 1) (g' := w.heap.size + 2) rfl rfl rfl rfl R10.out S10.out HL12.out ⟨_, _, _, _, _, _, _, rfl, ⟨rfl, rfl⟩, HL12.out, HONE.out, B8.out.trans (ho2.below B8.out.size (fun x hx => by rcases hx with rfl | rfl <;> omega))⟩
  · have hlnz : ((ls.length : Int) != (O.length : Int)) = true := by simp; omega
    have HF : Hid (r = false) := by rw [← HR.out]; exact tableB_off hl
    clear hl
    go_enter Tryd.func37, Tryd.ntmps37
    go_wp2_with fail
    rw [← HW1.out]
    refine HZ.out.mono ?_
    rintro e w2 ⟨rfl, hb⟩
    have B2 := Lib.hid (B1.out.trans (hb.mono B1.out.size))
    have R2 := Lib.hid ((hb.block _ (Array.getElem?_eq_some_iff.1 R1.out).1).trans R1.out)
    have S2 := Lib.hid ((hb.block _ (Array.getElem?_eq_some_iff.1 S1.out).1).trans S1.out)
    clear hb HZ t0 t1 t2
    go_upto_region 2 with fail
    refine wp_region_lit ?_
    (refine wpList_build rfl 53 _ rfl (by kernel_rfl) ?_; simp only [Act.put, List.setIfInBounds_toArray, List.set_cons_zero, List.set_cons_succ])
    (refine wpList_build rfl 56 _ rfl (by kernel_rfl) ?_; simp only [Act.put, List.setIfInBounds_toArray, List.set_cons_zero, List.set_cons_succ])
    (refine wpList_store_row rfl 53 _ _ rfl (w.heap.size + 1) (scaA (.slice none 0 0) (.slice none 0 0) (.slice none 0 0) (.slice none 0 0) []) rfl (by first | rfl | kernel_rfl) 53 (scaA (.slice none 0 0) (.slice none 0 0) (.slice none 0 0) (.slice none 0 0) []) R2.out (by kernel_rfl) rfl (scaA_one rfl rfl rfl rfl _) ?_; simp only [Act.put, List.setIfInBounds_toArray, List.set_cons_zero, List.set_cons_succ])
    have S3 : Hid ((w2.setRow (w.heap.size + 1) (scaA (.slice none 0 0) (.slice none 0 0) (.slice none 0 0) (.slice none 0 0) [])).heap[w.heap.size + 2]? = some (.cells (tabA 0 []) 56 (0, 0))) := (setRow_other _ _ _ _ (show w.heap.size + 2 ≠ w.heap.size + 1 by omega)).trans S2.out
    (refine wpList_store_row rfl 56 _ _ rfl (w.heap.size + 2) (tabA 0 []) rfl (by kernel_rfl) 56 (tabA 0 []) S3.out (by first | kernel_rfl | (rw [tabA_size (by first | exact HL12.out | simp)]; kernel_rfl)) (by first | rfl | (rw [tabA_size (by first | exact HL12.out | simp), tabA_size (by simp)])) (tabA_one _ _) ?_; simp only [Act.put, List.setIfInBounds_toArray, List.set_cons_zero, List.set_cons_succ])
    go_wp2_with fail
    have ho := only_row8 (S := fun x => x = w.heap.size + 1 ∨ x = w.heap.size + 2) (Only.refl _ w2) (.inl rfl) (scaA (.slice none 0 0) (.slice none 0 0) (.slice none 0 0) (.slice none 0 0) [])
    have ho2 := only_row8 (g := w.heap.size + 2) ho (.inr rfl) (tabA 0 [])
    rw [HF.out]
    have hS4 := setRow_heap _ _ _ (tabA 0 []) _ _ S3.out
    refine ret_tab3 (g := w.heap.size + 1) (g' := w.heap.size + 2) rfl rfl rfl rfl ((setRow_other _ _ _ _ (show w.heap.size + 1 ≠ w.heap.size + 2 by omega)).trans (setRow_heap _ _ _ _ _ _ R2.out)) hS4 (by simp) ⟨_, _, _, _, _, _, _, rfl, (fun h => by cases h), by simp, ⟨rfl, rfl, rfl, rfl⟩, B2.out.trans (ho2.below B2.out.size (fun x hx => by rcases hx with rfl | rfl <;> omega))⟩
end
end Go.Proofs.YtihaajcmephlmaaDoor
namespace Go.Proofs.YtihaajcmephlmaaDoor
section
open Go.RowKit Go.Shelf

set_option linter.unusedSimpArgs false in
set_option maxRecDepth 100000 in
set_option maxHeartbeats 16000000 in
theorem TableOk_is {w : World} {v : Value} {O P : List Int} {zss ls : List (List Int)} {al : Option Addr} {LA : Nat → Option Addr} {LC : Nat → Nat} {r : Bool} (hW : LostW w) (cl : Nat) (hr : tableB O zss P ls = r) (h : GameAt w v O zss P) (hls : RowsAt w al LA LC ls) (hll : ls.length ≤ 1048576) :
    Calls Tryd.prog 13 #[v, .slice al ls.length cl] w fun e w' => e = .returned (.bool r) ∧ Below w.heap.size w w' := by
  have HGm := Lib.hid h
  obtain ⟨ao, an, ap, co, cn, cp, A, C, rfl, h1, h2, h3⟩ := h
  obtain ⟨w1, hw1⟩ : ∃ y, y = w.alloc (.cells #[.slice ao O.length co, .slice an zss.length cn, .slice ap P.length cp] 33) := ⟨_, rfl⟩
  have HW1 := Lib.hid hw1
  have B1 : Hid (Below w.heap.size w w1) := by rw [hw1]; exact below1 _ _
  have T1 : Hid (Box3 w1 w.heap.size 33 (.slice ao O.length co) (.slice an zss.length cn) (.slice ap P.length cp)) := by rw [hw1]; exact Box3.new _ _ _ _ _
  have HMI := Lib.hid (tableIn_is cl hr (hW.below B1.out) (HGm.out.below B1.out) (hls.below B1.out) hll)
  have t0 := T1.out.c0
  have t1 := T1.out.c1
  have t2 := T1.out.c2
  rw [hw1] at t0 t1 t2
  clear hw1 h1 h2 h3 hr hW hls
  go_enter Tryd.func13, Tryd.ntmps13
  go_wp2_with fail
  rw [← HW1.out]
  refine HMI.out.mono ?_
  rintro e w3 ⟨a, b, c, d, M, n, ms, rfl, _, hms, hone, hb⟩
  have HONE := Lib.hid hone
  have HMS := Lib.hid hms
  have B3 := Lib.hid (B1.out.trans (hb.mono B1.out.size))
  have HN : Hid (((w3.alloc (.cells #[.slice none 0 0, .slice none 0 0, .slice none 0 0, .slice none 0 0, .int .i64 0, .int .i64 0, .int .i64 0, .int .i64 0, .int .i64 0, .int .i64 0, .int .i64 0, .int .i64 0, .int .i64 0, .int .i64 0, .int .i64 0, .int .i64 0, .int .i64 0] 53)).alloc (.cells Tryd.zeroCells56 56)).heap[w3.heap.size]? = some (.cells (scaA (.slice none 0 0) (.slice none 0 0) (.slice none 0 0) (.slice none 0 0) []) 53 (0, 0))) := ((below1 _ _).block _ (by simp)).trans (heap_alloc_new _ _)
  have hsz : (w3.alloc (.cells #[.slice none 0 0, .slice none 0 0, .slice none 0 0, .slice none 0 0, .int .i64 0, .int .i64 0, .int .i64 0, .int .i64 0, .int .i64 0, .int .i64 0, .int .i64 0, .int .i64 0, .int .i64 0, .int .i64 0, .int .i64 0, .int .i64 0, .int .i64 0] 53)).heap.size = w3.heap.size + 1 := by simp
  have HT : Hid ((((w3.alloc (.cells #[.slice none 0 0, .slice none 0 0, .slice none 0 0, .slice none 0 0, .int .i64 0, .int .i64 0, .int .i64 0, .int .i64 0, .int .i64 0, .int .i64 0, .int .i64 0, .int .i64 0, .int .i64 0, .int .i64 0, .int .i64 0, .int .i64 0, .int .i64 0] 53)).alloc (.cells Tryd.zeroCells56 56)).setRow w3.heap.size (scaA a b c d M)).heap[w3.heap.size + 1]? = some (.cells (tabA 0 []) 56 (0, 0))) :=
    (setRow_other _ _ _ _ (by omega)).trans (by rw [← hsz, tabA_zero]; exact heap_alloc_new _ _)
  have hb4 : Below w3.heap.size w3 ((((w3.alloc (.cells #[.slice none 0 0, .slice none 0 0, .slice none 0 0, .slice none 0 0, .int .i64 0, .int .i64 0, .int .i64 0, .int .i64 0, .int .i64 0, .int .i64 0, .int .i64 0, .int .i64 0, .int .i64 0, .int .i64 0, .int .i64 0, .int .i64 0, .int .i64 0] 53)).alloc (.cells Tryd.zeroCells56 56)).setRow w3.heap.size (scaA a b c d M)).setRow (w3.heap.size + 1) (tabA n ms)) :=
    (below2 w3 _ _).trans ((only_row8 (S := fun x => x = w3.heap.size ∨ x = w3.heap.size + 1) (only_row8 (Only.refl _ _) (.inl rfl) _) (.inr rfl) _).below (below2 w3 _ _).size (fun x hx => by rcases hx with rfl | rfl <;> omega))
  have B4 := Lib.hid (B3.out.trans (hb4.mono B3.out.size))
  clear hone hms hb HMI t0 t1 t2 hb4 hsz
  go_wp2_with (first | (refine wpList_store_row rfl 53 _ _ rfl w3.heap.size (scaA a b c d M) rfl rfl 53 (scaA (.slice none 0 0) (.slice none 0 0) (.slice none 0 0) (.slice none 0 0) []) HN.out (by kernel_rfl) rfl (scaA_one HONE.out.1 HONE.out.2.1 HONE.out.2.2.1 HONE.out.2.2.2 _) ?_; simp only [Act.put, List.setIfInBounds_toArray, List.set_cons_zero, List.set_cons_succ]) | (refine wpList_store_row rfl 56 _ _ rfl (w3.heap.size + 1) (tabA n ms) rfl rfl 56 (tabA 0 []) HT.out (by rw [tabA_size HMS.out]; kernel_rfl) (by rw [tabA_size HMS.out]; rfl) (tabA_one _ _) ?_; simp only [Act.put, List.setIfInBounds_toArray, List.set_cons_zero, List.set_cons_succ]))
  go_ret
  exact ⟨rfl, B4.out⟩
end
end Go.Proofs.YtihaajcmephlmaaDoor
namespace Go.Proofs.YtihaajcmephlmaaDoor
section
open Go.RowKit Go.Shelf

set_option maxHeartbeats 2000000 in
theorem l8Small_is {w : World} {v : Value} {O : List Int} {zss : List (List Int)} {P : List Int} {r : Bool} (hr : smallB O zss P = r) (h : GameAt w v O zss P) :
    Calls Tryd.prog 32 #[v] w fun e w' => e = .returned (.bool r) ∧ Below w.heap.size w w' := by
  have HGm := Lib.hid h
  obtain ⟨ao, an, ap, co, cn, cp, A, C, rfl, h1, h2, h3⟩ := h
  obtain ⟨w1, hw1⟩ : ∃ y, y = w.alloc (.cells #[.slice ao O.length co, .slice an zss.length cn, .slice ap P.length cp] 33) := ⟨_, rfl⟩
  have HW1 := Lib.hid hw1
  have B1 : Hid (Below w.heap.size w w1) := by rw [hw1]; exact below1 _ _
  have T1 : Hid (Box3 w1 w.heap.size 33 (.slice ao O.length co) (.slice an zss.length cn) (.slice ap P.length cp)) := by rw [hw1]; exact Box3.new _ _ _ _ _
  clear hw1 h1 h2 h3
  have HC := Lib.hid (specParityOk_is rfl (HGm.out.below B1.out))
  have t0 := T1.out.c0
  have t1 := T1.out.c1
  have t2 := T1.out.c2
  by_cases hlt : P.length ≤ 12
  · have hlt1 : (P.length : Int) ≤ 12 := by omega
    have HE : Hid (r = parityB O zss P) := by rw [← hr]; unfold smallB; rw [decide_eq_true hlt]; rfl
    clear hr
    go_enter Tryd.func32, Tryd.ntmps32
    go_wp2_with fail
    rw [← HW1.out]
    go_wp2_with fail
    refine HC.out.mono ?_
    rintro e w2 ⟨rfl, hb⟩
    have B2 := Lib.hid (B1.out.trans (hb.mono B1.out.size))
    clear hb HC t0 t1 t2
    go_wp2
    go_ret
    exact ⟨ret_bool HE.out.symm, B2.out⟩
  · have hlt1 : ¬ (P.length : Int) ≤ 12 := by omega
    have HE : Hid (r = false) := by rw [← hr]; unfold smallB; rw [decide_eq_false hlt]; rfl
    clear hr HC
    go_enter Tryd.func32, Tryd.ntmps32
    go_wp2_with fail
    rw [← HW1.out]
    go_wp2
    go_ret
    exact ⟨ret_bool HE.out.symm, B1.out⟩

set_option maxHeartbeats 8000000 in
set_option maxRecDepth 100000 in
theorem l8Odds_is {w : World} {v : Value} {O : List Int} {zss : List (List Int)} {P : List Int} (h : GameAt w v O zss P) :
    Calls Tryd.prog 33 #[v] w (GivesInts w (oddsL P)) := by
  obtain ⟨i0, hi, hz0, hz1, hz2⟩ := info_parts info_int
  obtain ⟨ao, an, ap, co, cn, cp, A, C, rfl, h1, h2, h3⟩ := h
  have HP := Lib.hid h3
  obtain ⟨w1, hw1⟩ : ∃ y, y = w.alloc (.cells #[.slice ao O.length co, .slice an zss.length cn, .slice ap P.length cp] 33) := ⟨_, rfl⟩
  have HW1 := Lib.hid hw1
  have hs1 : w1.heap.size = w.heap.size + 1 := by rw [hw1]; simp
  have B1 : Hid (Below w.heap.size w w1) := by rw [hw1]; exact below1 _ _
  have T1 : Hid (Box3 w1 w.heap.size 33 (.slice ao O.length co) (.slice an zss.length cn) (.slice ap P.length cp)) := by rw [hw1]; exact Box3.new _ _ _ _ _
  obtain ⟨w2, hw2⟩ : ∃ y, y = w1.alloc (.cells #[] 2) := ⟨_, rfl⟩
  have HW2 := Lib.hid hw2
  have K2 : Hid (Below w1.heap.size w1 w2) := by rw [hw2]; exact below1 _ _
  have O2 : Hid (w2.ownsRow w1.heap.size 2 1 (.slice (some ⟨w1.heap.size, 0, none⟩) 0 0) (downL P 0).length ((downL P 0).map (Value.int .i64))) := by rw [hw2]; exact World.ownsRow_made w1 #[] 0 (Nat.le_refl _) (by unfold maxLen; omega) rfl
  have HS1 := Lib.hid hs1
  clear hw1 hw2 h1 h2 h3 hs1
  go_enter Tryd.func33, Tryd.ntmps33
  go_wp2
  rw [← HW1.out, ← HS1.out, ← HW2.out]
  go_loopw [3, 4] (fun ov iv wr => ∃ k : Nat, k ≤ 20 ∧ iv = .int .i64 (39 - 2 * (k : Int)) ∧ Hid (wr.ownsRow w1.heap.size 2 1 ov (downL P k).length ((downL P k).map (Value.int .i64))) ∧ Hid (Below w1.heap.size w1 wr)) (fun _ iv _ => (intOf iv + 1).toNat)
  case atStart => exact ⟨0, Nat.zero_le _, rfl, O2, K2⟩
  case round =>
    clear K2 O2
    obtain ⟨k, hk, rfl, HO, HK⟩ := hrel
    have hfl := downL_len P k
    have B := Lib.hid (B1.out.trans (HK.out.mono B1.out.size))
    by_cases hlt : k < 20
    · have hi1 : (0 : Int) < 39 - 2 * (k : Int) := by omega
      have t2 := (T1.out.below HK.out).c2
      cases hb : hasB P (39 - 2 * (k : Int)) with
      | false =>
        have HD : Hid (downL P (k + 1) = downL P k) := downL_no hb
        have HC := Lib.hid (l7HasIn_is hb cp (HP.out.below B.out))
        clear hb
        go_wp2_with fail
        refine HC.out.mono ?_
        rintro e w3 ⟨rfl, rfl⟩
        clear HC t2
        go_wp2
        go_roundw
        case rel => exact ⟨k + 1, by omega, by go_num, by rw [HD.out]; exact HO, HK⟩
        case measure => simp [intOf]; omega
      | true =>
        have HD : Hid (downL P (k + 1) = downL P k ++ [39 - 2 * (k : Int)]) := downL_yes hb
        have HC := Lib.hid (l7HasIn_is hb cp (HP.out.below B.out))
        clear hb
        go_wp2_with fail
        refine HC.out.mono ?_
        rintro e w3 ⟨rfl, rfl⟩
        clear HC t2
        go_wp2_with (at_builtin; refine wpList_append_own_at _ rfl _ _ 22 rfl w1.heap.size 2 i0 (.int .i64 0) 1 8 Tryd.underlying22 hi hz0 hz1 hz2 rfl (by decide) _ _ _ rfl (HO.out.alloc _) ⟨wr.heap.size, 0, none⟩ 1 1 [.int .i64 (39 - 2 * (k : Int))] rfl rfl ?c1 ?c2 ?c3 ?c4 ?c5 ?_)
        try (case c1 => exact cell_one_new _ _ _)
        case c2 => first | rfl | (intro u hu; simp at hu; subst hu; rfl)
        case c3 => unfold maxLen; omega
        case c4 => omega
        case c5 => have := HK.out.size; simp; omega
        intro v' w4 hown hgrow _ _
        have hg : Only (fun b => w1.heap.size ≤ b) wr w4 := (Only.of_below (below1 wr _)).trans ((Only.of_grown hgrow).mono fun b hb => (HO.out.lt b hb).1)
        have Kn := Lib.hid (HK.out.trans (hg.below HK.out.size (fun _ h => h)))
        have HOn : Hid (w4.ownsRow w1.heap.size 2 1 v' (downL P (k + 1)).length ((downL P (k + 1)).map (Value.int .i64))) := by
          rw [HD.out, List.map_append, List.length_append]; exact hown
        clear hown hgrow hg
        go_wp2
        go_roundw
        case rel => exact ⟨k + 1, by omega, by go_num, HOn, Kn⟩
        case measure => simp [intOf]; omega
    · have hi1 : ¬ (0 : Int) < 39 - 2 * (k : Int) := by omega
      have hk20 : k = 20 := by omega
      subst hk20
      go_wp2
      go_ret
      refine ⟨_, rfl, ?_, B.out⟩
      have hl20 : (oddsL P).length ≤ 20 := downL_len P 20
      exact OwnInts.mk' (zs := oddsL P) (ownsRow_base HO.out B1.out.size) (by omega) (fun j hj => by
        obtain ⟨_, _, h3, h4⟩ := odds_mem.1 (nth_mem (zs := oddsL P) hj)
        unfold Fits
        omega)

end
end Go.Proofs.YtihaajcmephlmaaDoor
namespace Go.Proofs.YtihaajcmephlmaaDoor
section
open Go.RowKit Go.Shelf

set_option maxHeartbeats 4000000 in
theorem l8Many_is {w : World} {v : Value} {O P : List Int} {zss : List (List Int)} {p : Int} (h : GameAt w v O zss P) :
    Calls Tryd.prog 61 #[v, .int .i64 p] w fun e w' => e = .returned (.int .i64 (manyL P p)) ∧ Below w.heap.size w w' := by
  obtain ⟨ao, an, ap, co, cn, cp, A, C, rfl, h1, h2, h3⟩ := h
  obtain ⟨w1, hw1⟩ : ∃ y, y = w.alloc (.cells #[.slice ao O.length co, .slice an zss.length cn, .slice ap P.length cp] 33) := ⟨_, rfl⟩
  have HW1 := Lib.hid hw1
  have B1 : Hid (Below w.heap.size w w1) := by rw [hw1]; exact below1 _ _
  have T1 : Hid (Box3 w1 w.heap.size 33 (.slice ao O.length co) (.slice an zss.length cn) (.slice ap P.length cp)) := by rw [hw1]; exact Box3.new _ _ _ _ _
  have HP := Lib.hid (h3.below B1.out)
  have hlP := h3.len
  have t2 := T1.out.c2
  clear hw1 h1 h2 h3
  go_enter Tryd.func61, Tryd.ntmps61
  go_wp2
  rw [← HW1.out]
  go_loopw [5, 6] (fun nv iv wr => ∃ k : Nat, k ≤ P.length ∧ nv = .int .i64 (manyK P p k) ∧ iv = .int .i64 k ∧ w1 = wr) (fun _ iv _ => P.length - (intOf iv).toNat)
  case atStart => exact ⟨0, Nat.zero_le _, rfl, rfl, rfl⟩
  case round =>
    obtain ⟨k, hk, rfl, rfl, rfl⟩ := hrel
    by_cases hlt : k < P.length
    · have hi1 : (k : Int) < P.length := by omega
      have hk0 : (0 : Int) ≤ (k : Int) := by omega
      obtain ⟨pb, po, hpa, hpc⟩ := HP.out.cell (by omega)
      have p1 := hpc k hlt
      have hb := manyK_le P p k
      have HS := Lib.hid (manyK_succ (p := p) hlt)
      obtain ⟨z, hz⟩ : ∃ z, z = nth P k := ⟨_, rfl⟩
      obtain ⟨c, hc⟩ : ∃ c, c = manyK P p k := ⟨_, rfl⟩
      have HZ := Lib.hid hz
      have HCc := Lib.hid hc
      rw [← hz] at p1
      rw [← hc] at hb ⊢
      subst hpa
      clear hpc hz hc
      by_cases hq : z = p
      · have hqe : (z == p) = true := by simpa using hq
        have HN : Hid (manyK P p (k + 1) = c + 1) := by rw [HS.out, ← HZ.out, if_pos hq, ← HCc.out]; rfl
        clear hq
        go_wp2
        go_roundw
        case rel => exact ⟨k + 1, by omega, by (rw [HN.out]; try go_num), by go_num, by first | rfl | trivial⟩
        case measure => simp [intOf]; omega
      · have hqe : (z == p) = false := by simpa using hq
        have HN : Hid (manyK P p (k + 1) = c) := by rw [HS.out, ← HZ.out, if_neg hq, ← HCc.out]; exact Int.add_zero _
        clear hq
        go_wp2
        go_roundw
        case rel => exact ⟨k + 1, by omega, by rw [HN.out], by go_num, by first | rfl | trivial⟩
        case measure => simp [intOf]; omega
    · have hi1 : ¬ (k : Int) < P.length := by omega
      have hkl : k = P.length := by omega
      subst hkl
      go_wp2
      go_ret
      exact ⟨rfl, B1.out⟩

set_option maxHeartbeats 8000000 in
set_option maxRecDepth 100000 in
theorem l8Good_is {w : World} {v : Value} {O P m : List Int} {zss : List (List Int)} {aq am : Option Addr} {r : Bool} (cq cm : Nat) (hr : goodB P m = r) (h : GameAt w v O zss P) (ho : IntsAt w aq (oddsL P)) (hm : IntsAt w am m) :
    Calls Tryd.prog 34 #[v, .slice aq (oddsL P).length cq, .slice am m.length cm] w fun e w' => e = .returned (.bool r) ∧ Below w.heap.size w w' := by
  have HGm := Lib.hid h
  obtain ⟨ao, an, ap, co, cn, cp, A, C, rfl, h1, h2, h3⟩ := h
  obtain ⟨w1, hw1⟩ : ∃ y, y = w.alloc (.cells #[.slice ao O.length co, .slice an zss.length cn, .slice ap P.length cp] 33) := ⟨_, rfl⟩
  have HW1 := Lib.hid hw1
  have B1 : Hid (Below w.heap.size w w1) := by rw [hw1]; exact below1 _ _
  have T1 : Hid (Box3 w1 w.heap.size 33 (.slice ao O.length co) (.slice an zss.length cn) (.slice ap P.length cp)) := by rw [hw1]; exact Box3.new _ _ _ _ _
  have HM := Lib.hid (hm.below B1.out)
  have HO := Lib.hid (ho.below B1.out)
  have hml := hm.len
  have hol := downL_len P 20
  obtain ⟨lq, hlq⟩ : ∃ lq, lq = (oddsL P).length := ⟨_, rfl⟩
  have HLQ := Lib.hid hlq
  have hol : lq ≤ 20 := by rw [hlq]; exact hol
  have HR := Lib.hid hr
  rw [← hlq]
  clear hw1 h1 h2 h3 hm ho hr hlq
  by_cases hA : m.length = 1
  · have hAe : ((m.length : Int) == 1) = true := by simp; omega
    obtain ⟨mb, mo, hma, hmc⟩ := HM.out.cell (by omega)
    have m0 := hmc 0 (by omega)
    rw [Nat.add_zero, HW1.out] at m0
    by_cases h1 : nth m 0 = 1
    · have h1e : (nth m 0 == 1) = true := by rw [h1]; rfl
      have HF : Hid (r = true) := by rw [← HR.out]; exact goodB_iff.2 (.inl (one_iff.2 ⟨hA, h1⟩))
      subst hma
      clear hmc h1
      go_enter Tryd.func34, Tryd.ntmps34
      go_wp2
      go_ret
      exact ⟨ret_bool HF.out.symm, by rw [← HW1.out]; exact B1.out⟩
    · have h1e : (nth m 0 == 1) = false := by simpa using h1
      have HNO : Hid (¬ m = [1]) := fun h => h1 (one_iff.1 h).2
      subst hma
      have HMC := Lib.hid hmc
      have hA0 : 0 < m.length := by omega
      clear h1 hmc hA
      by_cases hD : m.length = lq + 1
      · have hDi : ((m.length : Int) != (lq : Int) + 1) = false := by simp; omega
        have hD1 : m.length ≤ lq + 1 := by omega
        have hD2 : lq + 1 ≤ m.length := by omega
        clear hD
        by_cases h0 : nth m 0 = 0
        · have h0e : (nth m 0 != 0) = false := by rw [h0]; rfl
          have HK0 : Hid (∀ j, j < 0 + 1 → 0 ≤ nth m j ∧ nth m j ≤ nth (mostL P) j) := fun j hj => by
            have : j = 0 := by omega
            rw [this, h0]
            exact ⟨Int.le_refl _, Int.le_refl _⟩
          clear h0
          go_enter Tryd.func34, Tryd.ntmps34
          go_wp2
          rw [← HW1.out]
          go_loopw [7] (fun iv wr => ∃ i : Nat, i ≤ lq ∧ iv = .int .i64 i ∧ Hid (∀ j, j < i + 1 → 0 ≤ nth m j ∧ nth m j ≤ nth (mostL P) j) ∧ Hid (Below w1.heap.size w1 wr)) (fun iv _ => lq - (intOf iv).toNat)
          case atStart => exact ⟨0, Nat.zero_le _, rfl, HK0, Below.refl _ _⟩
          case round =>
            clear HK0 m0 h0e
            obtain ⟨i, hi, rfl, HJ, HB⟩ := hrel
            by_cases hlt : i < lq
            · have hi1 : (i : Int) < (lq : Int) := by omega
              have hi2 : (0 : Int) ≤ (i : Int) := by omega
              have hi3 : (i : Int) + 1 < (m.length : Int) := by omega
              have hi4 : (0 : Int) ≤ (i : Int) + 1 := by omega
              have hi5 : ((i : Int) + 1).toNat = i + 1 := by omega
              have hi6 : IntKind.i64.wrap ((i : Int) + 1) = (i : Int) + 1 := by rw [IntKind.wrap_i64]; omega
              have hlo : i < (oddsL P).length := by have := HLQ.out; omega
              obtain ⟨ob, oo, hoa, hoc⟩ := HO.out.cell (by omega)
              have HOC := Lib.hid (hoc i hlo)
              subst hoa
              clear hoc
              have HST : Hid (nth (mostL P) (i + 1) = manyL P (nth (oddsL P) i)) := mostK_at hlo
              obtain ⟨y, hy⟩ : ∃ y, y = nth (oddsL P) i := ⟨_, rfl⟩
              obtain ⟨x, hx⟩ : ∃ x, x = nth m (i + 1) := ⟨_, rfl⟩
              have HY := Lib.hid hy
              have HX := Lib.hid hx
              have HSv : Hid (∀ W, Below wr.heap.size wr W → W.cell? ⟨w.heap.size, 0, none⟩ = some (.slice ao O.length co) ∧ W.cell? ⟨w.heap.size, 1, none⟩ = some (.slice an zss.length cn) ∧ W.cell? ⟨w.heap.size, 2, none⟩ = some (.slice ap P.length cp) ∧ W.cell? ⟨mb, mo + (i + 1), none⟩ = some (.int .i64 x) ∧ W.cell? ⟨ob, oo + i, none⟩ = some (.int .i64 y)) := fun W hb => by
                have hb2 := HB.out.trans (hb.mono HB.out.size)
                have c1 := HMC.out (i + 1) (by omega)
                have c2 := HOC.out
                rw [HY.out, HX.out]
                exact ⟨(T1.out.below hb2).c0, (T1.out.below hb2).c1, (T1.out.below hb2).c2, (hb2.cell (World.block_lt_of_cell? _ _ c1)).trans c1, (hb2.cell (World.block_lt_of_cell? _ _ c2)).trans c2⟩
              have Kd : Hid (Below wr.heap.size wr wr.drew) := (Below.refl _ _).drew
              have hlo2 := hlo
              clear hlo hy hx
              have h0 := HSv.out _ Kd.out
              obtain ⟨q, hq⟩ : ∃ q, q = manyL P y := ⟨_, rfl⟩
              have HMN : Hid (Calls Tryd.prog 61 #[.agg #[.slice ao O.length co, .slice an zss.length cn, .slice ap P.length cp], .int .i64 y] wr.drew fun e w' => e = .returned (.int .i64 q) ∧ Below wr.drew.heap.size wr.drew w') := by
                rw [hq]
                exact l8Many_is (HGm.out.below (B1.out.trans ((HB.out.trans (Kd.out.mono HB.out.size)).mono B1.out.size)))
              have HQ := Lib.hid hq
              clear hq hlo2
              cases hin : inB x 0 q with
              | true =>
                have HJn : Hid (∀ j, j < i + 1 + 1 → 0 ≤ nth m j ∧ nth m j ≤ nth (mostL P) j) := fun j hj => by
                  by_cases e : j = i + 1
                  · subst e
                    rw [HST.out, ← HX.out, ← HY.out, ← HQ.out]
                    exact inB_iff.1 hin
                  · exact HJ.out j (by omega)
                go_wp2
                go_region_held3 (fun W => W.cell? ⟨w.heap.size, 0, none⟩ = some (.slice ao O.length co) ∧ W.cell? ⟨w.heap.size, 1, none⟩ = some (.slice an zss.length cn) ∧ W.cell? ⟨w.heap.size, 2, none⟩ = some (.slice ap P.length cp) ∧ W.cell? ⟨mb, mo + (i + 1), none⟩ = some (.int .i64 x) ∧ W.cell? ⟨ob, oo + i, none⟩ = some (.int .i64 y))
                  (first
                    | exact HSv.out _ Kd.out
                    | exact HSv.out _ Km.out
                    | go_keep)
                  (first
                    | (go_at_call 61; refine HMN.out.mono ?_; rintro e wm ⟨rfl, hb⟩; have Km := Lib.hid (Kd.out.trans (hb.mono Kd.out.size)); clear hb)
                    | (go_at_call 60; refine (l1In_is hin _).mono ?_; rintro e wn ⟨rfl, rfl⟩))
                all_goals (
                  go_wp2
                  go_roundw
                  case rel => exact ⟨i + 1, by omega, by go_num, HJn, HB.out.trans (Km.out.mono HB.out.size)⟩
                  case measure => simp [intOf]; omega)
              | false =>
                have HF : Hid (r = false) := by
                  rw [← HR.out]
                  cases hg : goodB P m with
                  | false => rfl
                  | true =>
                    rcases goodB_iff.1 hg with h1 | ⟨_, h2⟩
                    · exact absurd h1 HNO.out
                    · have := h2 (i + 1) (by omega)
                      rw [HST.out, ← HX.out, ← HY.out, ← HQ.out] at this
                      rw [inB_iff.2 this] at hin
                      cases hin
                go_wp2
                go_region_held3 (fun W => W.cell? ⟨w.heap.size, 0, none⟩ = some (.slice ao O.length co) ∧ W.cell? ⟨w.heap.size, 1, none⟩ = some (.slice an zss.length cn) ∧ W.cell? ⟨w.heap.size, 2, none⟩ = some (.slice ap P.length cp) ∧ W.cell? ⟨mb, mo + (i + 1), none⟩ = some (.int .i64 x) ∧ W.cell? ⟨ob, oo + i, none⟩ = some (.int .i64 y))
                  (first
                    | exact HSv.out _ Kd.out
                    | exact HSv.out _ Km.out
                    | go_keep)
                  (first
                    | (go_at_call 61; refine HMN.out.mono ?_; rintro e wm ⟨rfl, hb⟩; have Km := Lib.hid (Kd.out.trans (hb.mono Kd.out.size)); clear hb)
                    | (go_at_call 60; refine (l1In_is hin _).mono ?_; rintro e wn ⟨rfl, rfl⟩))
                all_goals (
                  go_wp2
                  go_ret
                  exact ⟨ret_bool HF.out.symm, B1.out.trans ((HB.out.trans (Km.out.mono HB.out.size)).mono B1.out.size)⟩)
            · have hi1 : ¬ (i : Int) < (lq : Int) := by omega
              have hie : i = lq := by omega
              subst hie
              have HF : Hid (r = true) := by
                rw [← HR.out]
                exact goodB_iff.2 (.inr ⟨by rw [← HLQ.out]; omega, fun j hj => HJ.out j (by omega)⟩)
              go_wp2
              go_ret
              exact ⟨ret_bool HF.out.symm, B1.out.trans (HB.out.mono B1.out.size)⟩
        · have h0e : (nth m 0 != 0) = true := by simpa using h0
          have HF : Hid (r = false) := by
            rw [← HR.out]
            cases hg : goodB P m with
            | false => rfl
            | true =>
              rcases goodB_iff.1 hg with h1 | ⟨_, h2⟩
              · exact absurd h1 HNO.out
              · have := h2 0 (by omega)
                have h3 : nth (mostL P) 0 = 0 := rfl
                rw [h3] at this
                omega
          clear h0
          go_enter Tryd.func34, Tryd.ntmps34
          go_wp2
          go_ret
          exact ⟨ret_bool HF.out.symm, by rw [← HW1.out]; exact B1.out⟩
      · have hDi : ((m.length : Int) != (lq : Int) + 1) = true := by simp; omega
        have HF : Hid (r = false) := by
          rw [← HR.out]
          cases hg : goodB P m with
          | false => rfl
          | true =>
            rcases goodB_iff.1 hg with h1 | ⟨h1, _⟩
            · exact absurd h1 HNO.out
            · rw [← HLQ.out] at h1
              omega
        go_enter Tryd.func34, Tryd.ntmps34
        go_wp2
        go_ret
        exact ⟨ret_bool HF.out.symm, by rw [← HW1.out]; exact B1.out⟩
  · have hAe : ((m.length : Int) == 1) = false := by simp; omega
    have HNO : Hid (¬ m = [1]) := fun h => hA (one_iff.1 h).1
    by_cases hD : m.length = lq + 1
    · have hDi : ((m.length : Int) != (lq : Int) + 1) = false := by simp; omega
      obtain ⟨mb, mo, hma, hmc⟩ := HM.out.cell (by omega)
      have m0 := hmc 0 (by omega)
      rw [Nat.add_zero, HW1.out] at m0
      have HMC := Lib.hid hmc
      subst hma
      clear hmc
      have hD1 : m.length ≤ lq + 1 := by omega
      have hD2 : lq + 1 ≤ m.length := by omega
      clear hD
      by_cases h0 : nth m 0 = 0
      · have h0e : (nth m 0 != 0) = false := by rw [h0]; rfl
        have HK0 : Hid (∀ j, j < 0 + 1 → 0 ≤ nth m j ∧ nth m j ≤ nth (mostL P) j) := fun j hj => by
          have : j = 0 := by omega
          rw [this, h0]
          exact ⟨Int.le_refl _, Int.le_refl _⟩
        clear h0
        go_enter Tryd.func34, Tryd.ntmps34
        go_wp2
        rw [← HW1.out]
        go_loopw [7] (fun iv wr => ∃ i : Nat, i ≤ lq ∧ iv = .int .i64 i ∧ Hid (∀ j, j < i + 1 → 0 ≤ nth m j ∧ nth m j ≤ nth (mostL P) j) ∧ Hid (Below w1.heap.size w1 wr)) (fun iv _ => lq - (intOf iv).toNat)
        case atStart => exact ⟨0, Nat.zero_le _, rfl, HK0, Below.refl _ _⟩
        case round =>
          clear HK0 m0 h0e
          obtain ⟨i, hi, rfl, HJ, HB⟩ := hrel
          by_cases hlt : i < lq
          · have hi1 : (i : Int) < (lq : Int) := by omega
            have hi2 : (0 : Int) ≤ (i : Int) := by omega
            have hi3 : (i : Int) + 1 < (m.length : Int) := by omega
            have hi4 : (0 : Int) ≤ (i : Int) + 1 := by omega
            have hi5 : ((i : Int) + 1).toNat = i + 1 := by omega
            have hi6 : IntKind.i64.wrap ((i : Int) + 1) = (i : Int) + 1 := by rw [IntKind.wrap_i64]; omega
            have hlo : i < (oddsL P).length := by have := HLQ.out; omega
            obtain ⟨ob, oo, hoa, hoc⟩ := HO.out.cell (by omega)
            have HOC := Lib.hid (hoc i hlo)
            subst hoa
            clear hoc
            have HST : Hid (nth (mostL P) (i + 1) = manyL P (nth (oddsL P) i)) := mostK_at hlo
            obtain ⟨y, hy⟩ : ∃ y, y = nth (oddsL P) i := ⟨_, rfl⟩
            obtain ⟨x, hx⟩ : ∃ x, x = nth m (i + 1) := ⟨_, rfl⟩
            have HY := Lib.hid hy
            have HX := Lib.hid hx
            have HSv : Hid (∀ W, Below wr.heap.size wr W → W.cell? ⟨w.heap.size, 0, none⟩ = some (.slice ao O.length co) ∧ W.cell? ⟨w.heap.size, 1, none⟩ = some (.slice an zss.length cn) ∧ W.cell? ⟨w.heap.size, 2, none⟩ = some (.slice ap P.length cp) ∧ W.cell? ⟨mb, mo + (i + 1), none⟩ = some (.int .i64 x) ∧ W.cell? ⟨ob, oo + i, none⟩ = some (.int .i64 y)) := fun W hb => by
              have hb2 := HB.out.trans (hb.mono HB.out.size)
              have c1 := HMC.out (i + 1) (by omega)
              have c2 := HOC.out
              rw [HY.out, HX.out]
              exact ⟨(T1.out.below hb2).c0, (T1.out.below hb2).c1, (T1.out.below hb2).c2, (hb2.cell (World.block_lt_of_cell? _ _ c1)).trans c1, (hb2.cell (World.block_lt_of_cell? _ _ c2)).trans c2⟩
            have Kd : Hid (Below wr.heap.size wr wr.drew) := (Below.refl _ _).drew
            have hlo2 := hlo
            clear hlo hy hx
            have h0 := HSv.out _ Kd.out
            obtain ⟨q, hq⟩ : ∃ q, q = manyL P y := ⟨_, rfl⟩
            have HMN : Hid (Calls Tryd.prog 61 #[.agg #[.slice ao O.length co, .slice an zss.length cn, .slice ap P.length cp], .int .i64 y] wr.drew fun e w' => e = .returned (.int .i64 q) ∧ Below wr.drew.heap.size wr.drew w') := by
              rw [hq]
              exact l8Many_is (HGm.out.below (B1.out.trans ((HB.out.trans (Kd.out.mono HB.out.size)).mono B1.out.size)))
            have HQ := Lib.hid hq
            clear hq hlo2
            cases hin : inB x 0 q with
            | true =>
              have HJn : Hid (∀ j, j < i + 1 + 1 → 0 ≤ nth m j ∧ nth m j ≤ nth (mostL P) j) := fun j hj => by
                by_cases e : j = i + 1
                · subst e
                  rw [HST.out, ← HX.out, ← HY.out, ← HQ.out]
                  exact inB_iff.1 hin
                · exact HJ.out j (by omega)
              go_wp2
              go_region_held3 (fun W => W.cell? ⟨w.heap.size, 0, none⟩ = some (.slice ao O.length co) ∧ W.cell? ⟨w.heap.size, 1, none⟩ = some (.slice an zss.length cn) ∧ W.cell? ⟨w.heap.size, 2, none⟩ = some (.slice ap P.length cp) ∧ W.cell? ⟨mb, mo + (i + 1), none⟩ = some (.int .i64 x) ∧ W.cell? ⟨ob, oo + i, none⟩ = some (.int .i64 y))
                (first
                  | exact HSv.out _ Kd.out
                  | exact HSv.out _ Km.out
                  | go_keep)
                (first
                  | (go_at_call 61; refine HMN.out.mono ?_; rintro e wm ⟨rfl, hb⟩; have Km := Lib.hid (Kd.out.trans (hb.mono Kd.out.size)); clear hb)
                  | (go_at_call 60; refine (l1In_is hin _).mono ?_; rintro e wn ⟨rfl, rfl⟩))
              all_goals (
                go_wp2
                go_roundw
                case rel => exact ⟨i + 1, by omega, by go_num, HJn, HB.out.trans (Km.out.mono HB.out.size)⟩
                case measure => simp [intOf]; omega)
            | false =>
              have HF : Hid (r = false) := by
                rw [← HR.out]
                cases hg : goodB P m with
                | false => rfl
                | true =>
                  rcases goodB_iff.1 hg with h1 | ⟨_, h2⟩
                  · exact absurd h1 HNO.out
                  · have := h2 (i + 1) (by omega)
                    rw [HST.out, ← HX.out, ← HY.out, ← HQ.out] at this
                    rw [inB_iff.2 this] at hin
                    cases hin
              go_wp2
              go_region_held3 (fun W => W.cell? ⟨w.heap.size, 0, none⟩ = some (.slice ao O.length co) ∧ W.cell? ⟨w.heap.size, 1, none⟩ = some (.slice an zss.length cn) ∧ W.cell? ⟨w.heap.size, 2, none⟩ = some (.slice ap P.length cp) ∧ W.cell? ⟨mb, mo + (i + 1), none⟩ = some (.int .i64 x) ∧ W.cell? ⟨ob, oo + i, none⟩ = some (.int .i64 y))
                (first
                  | exact HSv.out _ Kd.out
                  | exact HSv.out _ Km.out
                  | go_keep)
                (first
                  | (go_at_call 61; refine HMN.out.mono ?_; rintro e wm ⟨rfl, hb⟩; have Km := Lib.hid (Kd.out.trans (hb.mono Kd.out.size)); clear hb)
                  | (go_at_call 60; refine (l1In_is hin _).mono ?_; rintro e wn ⟨rfl, rfl⟩))
              all_goals (
                go_wp2
                go_ret
                exact ⟨ret_bool HF.out.symm, B1.out.trans ((HB.out.trans (Km.out.mono HB.out.size)).mono B1.out.size)⟩)
          · have hi1 : ¬ (i : Int) < (lq : Int) := by omega
            have hie : i = lq := by omega
            subst hie
            have HF : Hid (r = true) := by
              rw [← HR.out]
              exact goodB_iff.2 (.inr ⟨by rw [← HLQ.out]; omega, fun j hj => HJ.out j (by omega)⟩)
            go_wp2
            go_ret
            exact ⟨ret_bool HF.out.symm, B1.out.trans (HB.out.mono B1.out.size)⟩
      · have h0e : (nth m 0 != 0) = true := by simpa using h0
        have HF : Hid (r = false) := by
          rw [← HR.out]
          cases hg : goodB P m with
          | false => rfl
          | true =>
            rcases goodB_iff.1 hg with h1 | ⟨_, h2⟩
            · exact absurd h1 HNO.out
            · have := h2 0 (by omega)
              have h3 : nth (mostL P) 0 = 0 := rfl
              rw [h3] at this
              omega
        clear h0
        go_enter Tryd.func34, Tryd.ntmps34
        go_wp2
        go_ret
        exact ⟨ret_bool HF.out.symm, by rw [← HW1.out]; exact B1.out⟩
    · have hDi : ((m.length : Int) != (lq : Int) + 1) = true := by simp; omega
      have HF : Hid (r = false) := by
        rw [← HR.out]
        cases hg : goodB P m with
        | false => rfl
        | true =>
          rcases goodB_iff.1 hg with h1 | ⟨h1, _⟩
          · exact absurd h1 HNO.out
          · rw [← HLQ.out] at h1
            omega
      go_enter Tryd.func34, Tryd.ntmps34
      go_wp2
      go_ret
      exact ⟨ret_bool HF.out.symm, by rw [← HW1.out]; exact B1.out⟩

end
end Go.Proofs.YtihaajcmephlmaaDoor
