/-
  Contract of chapter 3: the program's Attract.
-/
import Derived.Test.YtaoagikipbcjpaaRanksImpl
import Derived.Test.YtaoagikipbcjpaaSort
namespace Go.Proofs.Ytaoagikipbcjpaa
open Go.RowKit Go.Shelf Go.Sort

attribute [local go_sem] Oper.semAt_some

/-- The vertices that have been handed on. -/
def preL (pre : List (Nat × Nat)) : List Int := pre.map fun x => (x.1 : Int)
theorem preL_snoc (pre : List (Nat × Nat)) (x : Nat × Nat) : preL (pre ++ [x]) = preL pre ++ [(x.1 : Int)] := by simp [preL]
theorem preL_len (pre : List (Nat × Nat)) : (preL pre).length = pre.length := by simp [preL]

/-- Sorted, they are the vertices that have a rank. -/
theorem attract_sorted {n : Nat} {R : Nat → Int} {xs : List (Nat × Nat)} (h : LogP n R (fun v => 0 ≤ R v) xs) : ((preL xs).mergeSort fun x y => decide (x ≤ y)) = markedK (fun v => decide (0 ≤ R v)) n := by
  have hnd : (preL xs).Nodup := by
    have h1 := h.once
    unfold preL
    rw [List.Nodup, List.pairwise_map] at h1 ⊢
    exact h1.imp fun hab e => hab (by omega)
  have hmem : ∀ x, x ∈ preL xs ↔ x ∈ markedK (fun v => decide (0 ≤ R v)) n := fun x => by
    rw [markedK_mem]
    unfold preL
    constructor
    · intro hx
      obtain ⟨y, hy, rfl⟩ := List.mem_map.1 hx
      have hr := h.rank y hy
      exact ⟨y.1, rfl, hr.1, decide_eq_true (by rw [hr.2]; omega)⟩
    · rintro ⟨v, rfl, hv, hr⟩
      have hm := (h.is v hv).2 (of_decide_eq_true hr)
      obtain ⟨y, hy, e⟩ := List.mem_map.1 hm
      exact List.mem_map.2 ⟨y, hy, by rw [e]⟩
  have hnm : (markedK (fun v => decide (0 ≤ R v)) n).Nodup := (markedK_rising _ _).imp fun hab => by omega
  have hp : ((preL xs).mergeSort fun x y => decide (x ≤ y)).Perm (markedK (fun v => decide (0 ≤ R v)) n) :=
    (List.mergeSort_perm _ _).trans ((List.perm_ext_iff_of_nodup hnd hnm).2 hmem)
  refine hp.eq_of_pairwise (le := fun x y => x ≤ y) (fun a b _ _ h1 h2 => by omega) ?_ ((markedK_rising _ _).imp fun hab => by omega)
  have := List.pairwise_mergeSort (le := fun x y : Int => decide (x ≤ y)) (fun a b c h1 h2 => by simp at *; omega) (fun a b => by simp; omega) (preL xs)
  exact this.imp fun hab => by simpa using hab

/-- The caller's blocks: the box of the list, and the list's own block. -/
def ListC (B : Nat) (A : World) (k : Nat) : Prop := k = B ∨ ∃ v, A.cell? ⟨B, 0, none⟩ = some v ∧ v.ownBlock = some k
/-- Between two rounds: the list reads as what has been handed on. -/
def ListI (B : Nat) (w5 : World) (n : Nat) (pre : List (Nat × Nat)) (A : World) : Prop :=
  (∃ v, Boxed A B 27 v ∧ A.ownsRow (w5.heap.size + 2) 2 1 v (preL pre).length ((preL pre).map (Value.int .i64))) ∧ Only (fun k => k = B ∨ w5.heap.size ≤ k) w5 A ∧ pre.length ≤ n

theorem ListI.keep {B n : Nat} {w5 : World} (hB : B < w5.heap.size) : ∀ s A A', ListI B w5 n s A → Only (fun k => w5.heap.size ≤ k ∧ ¬ ListC B A k) A A' → ListI B w5 n s A' ∧ ∀ k, ListC B A' k ↔ ListC B A k := by
  rintro s A A' ⟨⟨v, hv, hr⟩, ho, hl⟩ hO
  have hv' : Boxed A' B 27 v := box_only hv hO (fun h => by omega)
  refine ⟨⟨⟨v, hv', ownsRow_only hr hO (fun g hg h => h.2 (.inr ⟨v, hv.cell, hg⟩))⟩, ho.trans (hO.mono fun k hk => .inr hk.1), hl⟩, fun k => ?_⟩
  unfold ListC
  rw [hv.cell, hv'.cell]

theorem ListI.set {B n : Nat} {w5 : World} (hB : B < w5.heap.size) : ∀ s A k, ListI B w5 n s A → ListC B A k → k < A.heap.size ∧ ¬ (k < w5.heap.size ∧ k ≠ B) ∧ (k < w5.heap.size ∨ w5.heap.size + 2 ≤ k) := by
  rintro s A k ⟨⟨v, hv, hr⟩, ho, hl⟩ hc
  rcases hc with rfl | ⟨u, hu, hk⟩
  · exact ⟨hv.lt, fun h => h.2 rfl, .inl hB⟩
  · rw [hv.cell] at hu
    cases hu
    have := hr.lt k hk
    exact ⟨this.2, fun h => by omega, .inr this.1⟩

set_option maxHeartbeats 8000000 in
set_option maxRecDepth 100000 in
theorem Attract_is {w : World} {va : Value} {O : List Int} {zss : List (List Int)} {n0 : Int} {aI aG : Option Addr} {In G r : List Int} (cI cG : Nat) (hr : attractL O zss n0 In G = r) (h : ArenaAt w va O zss) (hI : IntsAt w aI In) (hG : IntsAt w aG G) :
    Calls Try.prog 10 #[va, .int .i64 n0, .slice aI In.length cI, .slice aG G.length cG] w (GivesInts w r) := by
  obtain ⟨i0, hi, hz0, hz1, hz2⟩ := info_parts info_int
  have HAt := Lib.hid h
  have HIi := Lib.hid hI
  have HGi := Lib.hid hG
  obtain ⟨ao, an, co, cn, A, C, rfl, h1, h2⟩ := h
  clear h1 h2 hI hG
  have BW := Lib.hid (below1 w (.cells #[.slice ao O.length co, .slice an zss.length cn] 30))
  have bW := Lib.hid (Box2.new w 30 (.slice ao O.length co) (.slice an zss.length cn))
  obtain ⟨b, hA⟩ : ∃ b, bothB O zss n0 In G = b := ⟨_, rfl⟩
  have hC := isAsked_two hA cI cG (HAt.out.below BW.out) (HIi.out.below BW.out) (HGi.out.below BW.out)
  rw [World.size_alloc] at hC
  have HC := Lib.hid hC
  have BS : Hid (w.heap.size ≤ w.heap.size + 1) := Nat.le_succ _
  clear hC
  cases b with
  | false =>
    have HE : Hid (r = []) := by rw [← hr]; simp [attractL, hA, Hid]
    clear hA hr
    go_enter Try.func10, Try.ntmps10
    go_wp2_with (go_at_call 20; refine HC.out.mono ?_; rintro e w1 ⟨rfl, hb⟩; have B1 := Lib.hid (BW.out.trans (hb.mono BS.out)); clear hb)
    go_ret
    exact ⟨_, rfl, by rw [HE.out]; exact OwnInts.nil _ _ _, B1.out⟩
  | true =>
    have HE : Hid (markedK (fun v => decide (0 ≤ ranksF O zss n0 In G v)) zss.length = r) := by rw [← hr]; unfold attractL; rw [if_pos hA]; rfl
    have HOK := Lib.hid hA
    have hP := (bothB_yes hA).1
    have hO0 : 0 < O.length := by have := hP.1; omega
    have hO256 : O.length ≤ 256 := hP.2.1
    have HZO := Lib.hid hP.2.2.1
    clear hA hr hP
    refine (callsIn_wide (n := 4)).1 ?_
    refine callsIn_of_wp_marks Try.func10 rfl trivial ?_ rfl
    simp only [Try.ntmps10, List.size_toArray, List.length_cons, List.length_nil, Nat.reduceAdd, Nat.reduceSub, Array.replicate_succ, Array.replicate_zero, List.push_toArray, List.append_toArray, List.nil_append, List.cons_append]
    refine wpIn_wide.2 ?_
    go_wp2_with fail
    refine HC.out.mono ?_
    rintro e w1 ⟨rfl, hb⟩
    have B1 := Lib.hid (BW.out.trans (hb.mono BS.out))
    have hb' : Below (w.alloc (.cells #[.slice ao O.length co, .slice an zss.length cn] 30)).heap.size (w.alloc (.cells #[.slice ao O.length co, .slice an zss.length cn] 30)) w1 := by rw [World.size_alloc]; exact hb
    have b1 := Lib.hid (bW.out.below hb')
    clear hb hb'
    obtain ⟨w4, hw4⟩ : ∃ y, y = w1.alloc (.cells #[.slice none 0 0] 27) := ⟨_, rfl⟩
    have HW4 := Lib.hid hw4
    have B4 : Hid (Below w.heap.size w w4) := by rw [hw4]; exact B1.out.alloc B1.out.size _
    have X4 : Hid (Boxed w4 w1.heap.size 27 (.slice none 0 0)) := by rw [hw4]; exact Boxed.new _ _ _
    have hs4 : w4.heap.size = w1.heap.size + 1 := by rw [hw4]; exact World.size_alloc _ _
    have S4 := Lib.hid hs4
    have b4 := b1.out.alloc (.cells #[.slice none 0 0] 27)
    have d0 := b4.cell0
    have d1 := b4.cell1
    clear hw4 b4 hs4
    go_wp2_with fail
    rw [← HW4.out]
    refine (attracted_is ao an aI aG O.length zss.length co cn In.length cI G.length cG n0 w4).mono ?_
    rintro e w5 ⟨rfl, hw5⟩
    have hs1 := B1.out.size
    have hs4 := S4.out
    have HR4 := reads_of HAt.out HIi.out HGi.out B4.out (K := w1.heap.size) hs1 (by omega) hw5
    have HSQ := Lib.hid (attracted_seq HOK.out HR4)
    have B45 : Hid (Below w4.heap.size w4 w5) := by rw [hw5]; exact (((below1 _ _).alloc (by simp) _).alloc (by simp; omega) _).alloc (by simp; omega) _
    have B5 := Lib.hid (B4.out.trans (B45.out.mono B4.out.size))
    have X5 : Hid (Boxed w5 w1.heap.size 27 (.slice none 0 0)) := box_below X4.out B45.out
    obtain ⟨R, hR⟩ : ∃ R, R = ranksF O zss n0 In G := ⟨_, rfl⟩
    have HRE : Hid (markedK (fun v => decide (0 ≤ R v)) zss.length = r) := by rw [hR]; exact HE.out
    have hx5 : w1.heap.size < w5.heap.size := by have h1 := B45.out.size; omega
    have hz256 : zss.length ≤ 256 := by rw [HZO.out]; exact hO256
    rw [← hR] at HSQ
    clear hR hw5 HR4 d0 d1 hs4
    go_wp2_with fail
    refine (wpIn_wide (n := 4)).1 ?_
    refine wpIn_rangeFunc_C (n := 4) rfl (by omega) (gf := 39) (lb := #[.pointer (some ⟨w4.heap.size + 2, 0, none⟩), .pointer (some ⟨w4.heap.size + 3, 0, none⟩), .pointer (some ⟨w4.heap.size, 0, none⟩), .pointer (some ⟨w4.heap.size + 1, 0, none⟩)]) rfl trivial (enters_of Try.func39 (by kernel_rfl) rfl) HSQ.out (fun _ => rfl) (fun k hk => hk.1)
      (ListC w1.heap.size) (ListI w1.heap.size w5 zss.length) (ListI.keep hx5) (ListI.set hx5) ?h0 ?act ?assign ?body ?done
    case h0 => exact ⟨⟨_, X5.out, World.ownsRow_nil _ _ _ _⟩, Only.refl _ _, Nat.zero_le _⟩
    case assign =>
      intro l x W K hK
      dsimp only [encR]
      gi_wp2
      exact hK
    case body =>
      rintro l pre x W hsz hLI ⟨h1, h2, h3, h4⟩
      have HLI := Lib.hid hLI
      obtain ⟨⟨v, hv, hrow⟩, ho, hl⟩ := hLI
      obtain ⟨u, hu⟩ : ∃ u, u = x.1 := ⟨_, rfl⟩
      have HU := Lib.hid hu
      have cB := hv.cell
      have cF := hv.frozen
      have cBa := (hv.alloc (.cells #[.int .i64 u] 2)).cell
      have hpl := preL_len pre
      have hpl2 : (preL pre).length ≤ 256 := by omega
      have HV := Lib.hid hv
      have HRow := Lib.hid hrow
      have HO := Lib.hid ho
      have hbl := hv.lt
      try dsimp only
      rw [← hu]
      clear hv hrow ho hu h2 h3 h4 hpl
      gi_wp2_with (gi_at_builtin; refine wpListIn_append_own_at _ rfl _ _ 27 rfl (w5.heap.size + 2) 2 i0 (.int .i64 0) 1 8 Try.underlying27 hi hz0 hz1 hz2 rfl (by decide) _ _ _ rfl (HRow.out.alloc _) ⟨W.heap.size, 0, none⟩ 1 1 [.int .i64 u] rfl rfl ?c1 ?c2 ?c3 ?c4 ?c5 ?_)
      case c1 => exact cell_one_new _ _ _
      case c2 => simp [Value.oneCell']
      case c3 => unfold maxLen; omega
      case c4 => omega
      case c5 => simp; omega
      intro v' w1' hown hgrow _ hwh
      obtain ⟨g', cap', rfl⟩ := ownsRow_succ hown
      have hbv : ∀ b, v.ownBlock = some b → w5.heap.size + 2 ≤ b := fun b hb => (HRow.out.lt b hb).1
      have hX1 : Boxed w1' w1.heap.size 27 v := (HV.out.alloc _).kept hgrow (fun e => by have := hbv _ e.symm; omega)
      have hc1 := hX1.cell
      have hf1 := hX1.frozen
      have hO1 : Only (fun k => v.ownBlock = some k) W w1' := (Only.of_below (below1 _ _)).trans (Only.of_grown hgrow)
      have hg' : w5.heap.size + 2 ≤ g' := (hown.lt g' rfl).1
      have hO2 : Only (fun k => k = w1.heap.size) w1' (w1'.setCell ⟨w1.heap.size, 0, none⟩ (.slice (some ⟨g', 0, none⟩) ((preL pre).length + 1) cap')) := Only.setCell (S := fun k => k = w1.heap.size) (Only.refl _ _) (p := ⟨w1.heap.size, 0, none⟩) rfl _
      have hX2 := hX1.set (.slice (some ⟨g', 0, none⟩) ((preL pre).length + 1) cap')
      have hr2 := ownsRow_only hown hO2 (fun b hb e => by simp [Value.ownBlock] at hb; omega)
      have hpe : preL (pre ++ [x]) = preL pre ++ [(u : Int)] := by rw [preL_snoc, HU.out]
      have HLN : Hid (ListI w1.heap.size w5 zss.length (pre ++ [x]) (w1'.setCell ⟨w1.heap.size, 0, none⟩ (.slice (some ⟨g', 0, none⟩) ((preL pre).length + 1) cap'))) := by
        refine ⟨⟨_, hX2, ?_⟩, HO.out.trans ((hO1.mono fun k hk => .inr (by have := hbv k hk; omega)).trans (hO2.mono fun k hk => .inl hk)), by rw [List.length_append, List.length_singleton]; omega⟩
        rw [hpe, List.length_append, List.map_append]
        exact hr2
      have HOW : Hid (Only (ListC w1.heap.size W) W (w1'.setCell ⟨w1.heap.size, 0, none⟩ (.slice (some ⟨g', 0, none⟩) ((preL pre).length + 1) cap'))) :=
        (hO1.mono fun k hk => .inr ⟨v, HV.out.cell, hk⟩).trans (hO2.mono fun k hk => .inl hk)
      have HCW : Hid (∀ k, ListC w1.heap.size (w1'.setCell ⟨w1.heap.size, 0, none⟩ (.slice (some ⟨g', 0, none⟩) ((preL pre).length + 1) cap')) k → ListC w1.heap.size W k ∨ W.heap.size ≤ k) := fun k hk => by
        rcases hk with hk | ⟨q, hq, hk⟩
        · exact .inl (.inl hk)
        · rw [hX2.cell] at hq
          cases hq
          rcases hwh with h | h
          · exact .inl (.inr ⟨v, HV.out.cell, by rw [← h]; exact hk⟩)
          · rw [h] at hk
            cases hk
            exact .inr (by simp)
      clear hbv hX1 hO1 hg' hO2 hX2 hr2 hpe hown hgrow hwh
      gi_wp2
      exact ⟨HOW.out, HCW.out, HLN.out⟩
    case done =>
      rintro xs W hS hLI hK
      obtain ⟨⟨v, hv, hrow⟩, ho, hl⟩ := hLI
      have hpl := preL_len xs
      have HSO := Lib.hid (sort_own hrow (by omega))
      have hbv : ∀ b, v.ownBlock = some b → w5.heap.size + 2 ≤ b := fun b hb => (hrow.lt b hb).1
      have HBV := Lib.hid hbv
      have HXS := Lib.hid hS
      have HV := Lib.hid hv
      have HO := Lib.hid ho
      have HK := Lib.hid hK
      have cB := hv.cell
      clear hv hrow ho hbv hS hK
      go_wp2_with fail
      refine HSO.out.mono ?_
      rintro e W2 ⟨rfl, hs, hoS⟩
      have cB2 := (box_only HV.out hoS (fun e => by have := HBV.out _ e; omega)).cell
      have HK2 : Hid (W2.heap[w5.heap.size]? = some (.deferred (some []))) := (hoS.block _ (Array.getElem?_eq_some_iff.1 HK.out).1 (fun e => by have := HBV.out _ e; omega)).trans HK.out
      have HS2 := Lib.hid hs
      have HO2 := Lib.hid hoS
      clear cB hs hoS
      go_wp2_with fail
      refine ⟨by simp, .inl ⟨_, _, rfl, run_takeDeferred HK2.out, ?_⟩⟩
      have hoD : Only (fun k => k = w5.heap.size) W2 (W2.putObj w5.heap.size (.deferred none)) := only_putObj W2 _ _ rfl
      have hall : Only (fun k => k = w1.heap.size ∨ w5.heap.size ≤ k) w5 (W2.putObj w5.heap.size (.deferred none)) := (HO.out.trans (HO2.out.mono fun k hk => .inr (by have := HBV.out k hk; omega))).trans (hoD.mono fun k hk => .inr (by omega))
      have hE : ((preL xs).mergeSort fun x y => decide (x ≤ y)) = r := (attract_sorted HXS.out).trans HRE.out
      have hs3 := ownsRow_only HS2.out hoD (fun b hb e => by have := HBV.out b hb; omega)
      have hlr : (preL xs).length = r.length := by rw [← hE, List.length_mergeSort]
      rw [hE, hlr] at hs3
      have hb5 := B5.out.size
      refine ⟨_, results_tmp rfl _ _ _, _, rfl, OwnInts.base (OwnInts.mk' hs3 (by omega) (fun k hk => ?_)) (by omega), B5.out.trans (hall.below (B := w.heap.size) B5.out.size (fun k hk => by omega))⟩
      have hm := nth_mem hk
      rw [← HRE.out] at hm
      obtain ⟨y, hy, hyn, _⟩ := (markedK_mem _ _ _).1 hm
      rw [HRE.out] at hy
      rw [hy]; unfold Fits; omega

end Go.Proofs.Ytaoagikipbcjpaa
