/-
  Several texts in one: Scale, LostW, MeasOf, AtImpl, MeasIn, MeasImpl, AtApi.
-/
import Derived.Deep.MidRow
import Derived.Great.BuildSlice
import Derived.Test.YtglbkbiphcgidaaDoorPr00
import Derived.Test.YtglbkbiphcgidaaDoorPr02
import Derived.Test.YtglbkbiphcgidaaDoorPr04
import Derived.Test.YtglbkbiphcgidaaDoorPr05
namespace Go.Proofs.YtglbkbiphcgidaaDoor
section
open Go.RowKit Go.Shelf
attribute [local go_sem] Oper.semAt_some

theorem wp_cut8 {P : Program} {c : Code} {Q : Exit → Act → World → Prop} {a : Act} {w : World} (R : Act → World → Prop) (h1 : Code.wp P c (Exit.then R fun _ _ _ => False) a w) (h2 : ∀ a' w', R a' w' → Q .normal a' w') : Code.wp P c Q a w :=
  wp_mono h1 fun e a' w' h => by
    cases e with
    | normal => exact h2 _ _ h
    | _ => exact h.elim

/-- The cells of a scale: four slices, thirteen numbers. -/
def scaF (a b c d : Value) (M : List Int) : Nat → Value
  | 0 => a
  | 1 => b
  | 2 => c
  | 3 => d
  | i + 4 => .int .i64 (nth M i)
/-- A measure's cells, its value. -/
def meaA (m : List Int) : Array Value := #[.int .i64 (nth m 0), .int .i64 (nth m 1), .int .i64 (nth m 2), .int .i64 (nth m 3), .int .i64 (nth m 4), .int .i64 (nth m 5), .int .i64 (nth m 6), .int .i64 (nth m 7), .int .i64 (nth m 8), .int .i64 (nth m 9), .int .i64 (nth m 10), .int .i64 (nth m 11), .int .i64 (nth m 12)]
def meaV (m : List Int) : Value := .agg (meaA m)
/-- A scale's value. -/
def scaA (a b c d : Value) (M : List Int) : Array Value := #[a, b, c, d, .int .i64 (nth M 0), .int .i64 (nth M 1), .int .i64 (nth M 2), .int .i64 (nth M 3), .int .i64 (nth M 4), .int .i64 (nth M 5), .int .i64 (nth M 6), .int .i64 (nth M 7), .int .i64 (nth M 8), .int .i64 (nth M 9), .int .i64 (nth M 10), .int .i64 (nth M 11), .int .i64 (nth M 12)]
def scaV (a b c d : Value) (M : List Int) : Value := .agg (scaA a b c d M)
/-- A scale: the game, its odds and the greatest numbers. -/
def ScaleAt (w : World) (s : Value) (O : List Int) (zss : List (List Int)) (P : List Int) : Prop :=
  ∃ ao an ap aq co cn cp cq, s = scaV (.slice ao O.length co) (.slice an zss.length cn) (.slice ap P.length cp) (.slice aq (oddsL P).length cq) (mostL P) ∧ GameAt w (.agg #[.slice ao O.length co, .slice an zss.length cn, .slice ap P.length cp]) O zss P ∧ IntsAt w aq (oddsL P)
theorem ScaleAt.below {w w' : World} {s : Value} {O P : List Int} {zss : List (List Int)} (h : ScaleAt w s O zss P) (hb : Below w.heap.size w w') : ScaleAt w' s O zss P := by
  obtain ⟨ao, an, ap, aq, co, cn, cp, cq, e, hg, hq⟩ := h
  exact ⟨ao, an, ap, aq, co, cn, cp, cq, e, hg.below hb, hq.below hb⟩
theorem sca_of {w : World} {g : Nat} {T : TypeId} {a b c d : Value} {M : List Int} (h : w.heap[g]? = some (.cells (scaA a b c d M) T (0, 0))) : w.rowIs g T 17 (scaF a b c d M) := by
  refine ⟨_, h, rfl, fun j hj => ?_⟩
  have h17 : j = 0 ∨ j = 1 ∨ j = 2 ∨ j = 3 ∨ j = 4 ∨ j = 5 ∨ j = 6 ∨ j = 7 ∨ j = 8 ∨ j = 9 ∨ j = 10 ∨ j = 11 ∨ j = 12 ∨ j = 13 ∨ j = 14 ∨ j = 15 ∨ j = 16 := by omega
  rcases h17 with rfl | rfl | rfl | rfl | rfl | rfl | rfl | rfl | rfl | rfl | rfl | rfl | rfl | rfl | rfl | rfl | rfl <;> rfl
theorem scaA_zero (a b c d : Value) (P : List Int) : scaA a b c d [] = scaA a b c d (mostK P 0) := by
  unfold scaA
  rw [mostK_start P 0, mostK_start P 1, mostK_start P 2, mostK_start P 3, mostK_start P 4, mostK_start P 5, mostK_start P 6, mostK_start P 7, mostK_start P 8, mostK_start P 9, mostK_start P 10, mostK_start P 11, mostK_start P 12]
  rfl
theorem sca_cells {w : World} {g : Nat} {T : TypeId} {a b c d : Value} {M : List Int} (h : w.rowIs g T 17 (scaF a b c d M)) : w.heap[g]? = some (.cells (scaA a b c d M) T (0, 0)) := by
  obtain ⟨cs, hb, hn, hc⟩ := h
  have e : cs = scaA a b c d M := Array.ext (by rw [hn]; rfl) (fun j h1 h2 => by
    have h3 := hc j (by omega)
    rw [Array.getElem?_eq_getElem h1] at h3
    injection h3 with h3
    rw [h3]
    have h17 : j = 0 ∨ j = 1 ∨ j = 2 ∨ j = 3 ∨ j = 4 ∨ j = 5 ∨ j = 6 ∨ j = 7 ∨ j = 8 ∨ j = 9 ∨ j = 10 ∨ j = 11 ∨ j = 12 ∨ j = 13 ∨ j = 14 ∨ j = 15 ∨ j = 16 := by omega
    clear h3
    rcases h17 with rfl | rfl | rfl | rfl | rfl | rfl | rfl | rfl | rfl | rfl | rfl | rfl | rfl | rfl | rfl | rfl | rfl <;> rfl)
  rw [hb, e]
theorem only_row8 {S : Nat → Prop} {a w : World} {g : Nat} (h : Only S a w) (hg : S g) (cs : Array Value) : Only S a (w.setRow g cs) :=
  h.trans ⟨rfl, rfl, rfl, by simp [World.setRow], fun k _ hk => by
    have hne : g ≠ k := fun e => hk (by rw [← e]; exact hg)
    simp [World.setRow, Array.getElem?_modify, hne]⟩
theorem ret_sca {fn : Func} {p : Tmp} {tmps : Array Value} {W : World} {g : Nat} {a b c d : Value} {M : List Int} {R : Ending → World → Prop} (hr : fn.results = #[.cell p 90]) (hp : tmps.getD p undef = .pointer (some ⟨g, 0, none⟩))
    (hM : W.rowIs g 90 17 (scaF a b c d M)) (hR : R (.returned (scaV a b c d M)) W) : bodyPost Tryd.prog fn R .ret { tmps := tmps, defers := [] } W :=
  bodyPost_ret (v := scaV a b c d M) (results_cell_row hr tmps _ g _ _ _ _ hp (sca_cells hM) Tryd.underlying90 rfl (by kernel_rfl)) rfl hR
theorem own_ints8 {w : World} {B D n c : Nat} {a : Option Addr} {zs : List Int} (h : OwnInts w B D (.slice a n c) zs) : IntsAt w a zs := by
  obtain ⟨a', c', e, hI, _⟩ := h.shape
  cases e
  exact hI
theorem scaF_congr {a b c d : Value} {M M' : List Int} (h : ∀ j, nth M j = nth M' j) : ∀ i, scaF a b c d M i = scaF a b c d M' i
  | 0 => rfl
  | 1 => rfl
  | 2 => rfl
  | 3 => rfl
  | j + 4 => congrArg (Value.int .i64) (h j)
theorem sca_bump {w : World} {g : Nat} {T : TypeId} {a b c d : Value} {M M' : List Int} {j : Nat} (h : w.rowIs g T 17 (scaF a b c d M)) (hM : ∀ i, nth M' i = if i = j then nth M i + 1 else nth M i) : (w.setCell ⟨g, j + 4, none⟩ (.int .i64 (nth M j + 1))).rowIs g T 17 (scaF a b c d M') := by
  refine (h.set (j + 4) _).congr fun i hi => ?_
  by_cases e : i = j + 4
  · subst e
    rw [if_pos rfl]
    show _ = Value.int .i64 (nth M' j)
    rw [hM, if_pos rfl]
  · rw [if_neg e]
    match i, e with
    | 0, _ => rfl
    | 1, _ => rfl
    | 2, _ => rfl
    | 3, _ => rfl
    | i + 4, e =>
      show Value.int .i64 (nth M i) = Value.int .i64 (nth M' i)
      rw [hM, if_neg (by omega)]
theorem idx_hit {zs : List Int} {x : Int} (h : hasB zs x = true) : ∃ j, j < zs.length ∧ nth zs j = x ∧ idx zs x = (j : Int) := by
  have hm := hasB_iff.1 h
  have hlt := List.idxOf_lt_length_iff.2 hm
  refine ⟨zs.idxOf x, hlt, ?_, ?_⟩
  · rw [nth_eq hlt]; exact List.getElem_idxOf hlt
  · unfold idx; rw [if_pos hm]
theorem idx_miss {zs : List Int} {x : Int} (h : hasB zs x = false) : idx zs x = -1 ∧ x ∉ zs := by
  have hm : x ∉ zs := fun hx => by rw [hasB_iff.2 hx] at h; cases h
  exact ⟨by unfold idx; rw [if_neg hm], hm⟩

set_option linter.unusedSimpArgs false in
set_option maxRecDepth 100000 in
set_option maxHeartbeats 16000000 in
theorem newScale_is {w : World} {ao an ap : Option Addr} {co cn cp : Nat} {O P : List Int} {zss : List (List Int)} (hP : ∀ x ∈ P, 0 ≤ x ∧ x ≤ 40) (hP0 : 0 < P.length) (hP1 : P.length ≤ 12) (h : GameAt w (.agg #[.slice ao O.length co, .slice an zss.length cn, .slice ap P.length cp]) O zss P) :
    Calls Tryd.prog 89 #[.agg #[.slice ao O.length co, .slice an zss.length cn, .slice ap P.length cp]] w fun e w' => ∃ aq cq, e = .returned (scaV (.slice ao O.length co) (.slice an zss.length cn) (.slice ap P.length cp) (.slice aq (oddsL P).length cq) (mostL P)) ∧ OwnInts w' w.heap.size w'.heap.size (.slice aq (oddsL P).length cq) (oddsL P) ∧ Below w.heap.size w w' := by
  have HGm := Lib.hid h
  have HOP := fun (W : World) (hb : Below w.heap.size w W) => oddPrios_is hP hP0 (by omega) (HGm.out.below hb)
  have h3 : IntsAt w ap P := by
    obtain ⟨_, _, _, _, _, _, _, _, e, _, _, h3⟩ := h
    cases e
    exact h3
  have HOP := Lib.hid HOP
  have HP := Lib.hid h3
  have HL : Hid ((oddsL P).length ≤ P.length) := odds_len hP
  clear h h3 hP
  go_enter Tryd.func89, Tryd.ntmps89
  go_wp2_with fail
  obtain ⟨w1, hw1⟩ : ∃ y, y = (w.alloc (.cells #[.slice ao O.length co, .slice an zss.length cn, .slice ap P.length cp] 35)).alloc (.cells #[.slice none 0 0, .slice none 0 0, .slice none 0 0, .slice none 0 0, .int .i64 0, .int .i64 0, .int .i64 0, .int .i64 0, .int .i64 0, .int .i64 0, .int .i64 0, .int .i64 0, .int .i64 0, .int .i64 0, .int .i64 0, .int .i64 0, .int .i64 0] 90) := ⟨_, rfl⟩
  rw [← hw1]
  have HB1 : Hid (Below w.heap.size w w1) := by rw [hw1]; exact below2 _ _ _
  have HT1 : Hid (Box3 w1 w.heap.size 35 (.slice ao O.length co) (.slice an zss.length cn) (.slice ap P.length cp)) := by rw [hw1]; exact (Box3.new _ _ _ _ _).below (below1 _ _)
  have HR1 : Hid (w1.heap[w.heap.size + 1]? = some (.cells (scaA (.slice none 0 0) (.slice none 0 0) (.slice none 0 0) (.slice none 0 0) []) 90 (0, 0))) := by
    rw [hw1]
    exact heap_alloc2_new _ _ _
  have hs1 : Hid (w1.heap.size = w.heap.size + 2) := by rw [hw1]; simp [Hid]
  clear hw1
  have HSw : Hid (∀ W', Below w1.heap.size w1 W' → W'.cell? ⟨w.heap.size, 0, none⟩ = some (.slice ao O.length co) ∧ W'.cell? ⟨w.heap.size, 1, none⟩ = some (.slice an zss.length cn) ∧ W'.cell? ⟨w.heap.size, 2, none⟩ = some (.slice ap P.length cp)) := fun W' hb => ⟨(HT1.out.below hb).c0, (HT1.out.below hb).c1, (HT1.out.below hb).c2⟩
  have Kd : Hid (Below w1.heap.size w1 w1.drew) := (Below.refl _ _).drew
  refine wp_cut8 (fun a' wx => ∃ (b : Nat) (aq : Option Addr) (cq : Nat) (u7 u8 u9 u10 : Value), (Hid (w1.heap.size ≤ b) ∧ Hid (Below w1.heap.size w1 wx) ∧ Hid (OwnInts wx w.heap.size wx.heap.size (.slice aq (oddsL P).length cq) (oddsL P)) ∧ Hid (∀ g, (Value.slice aq (oddsL P).length cq).ownBlock = some g → g ≠ b ∧ w1.heap.size ≤ g) ∧ Hid (wx.rowIs b 90 17 (scaF (.slice ao O.length co) (.slice an zss.length cn) (.slice ap P.length cp) (.slice aq (oddsL P).length cq) (mostK P 0)))) ∧ a' = { tmps := #[.agg #[.slice ao O.length co, .slice an zss.length cn, .slice ap P.length cp], .pointer (some ⟨w.heap.size, 0, none⟩), .pointer (some ⟨w.heap.size + 1, 0, none⟩), .pointer (some ⟨b, 0, none⟩), undef, undef, undef, u7, u8, u9, u10, undef, undef, undef, undef, undef, undef, undef, undef, undef, undef, undef, undef, undef, undef, undef, undef, undef, undef, undef, undef, undef, undef, undef], defers := [] }) ?reg1 ?rest1
  case reg1 =>
    refine wp_region_M (S := (fun W' => W'.cell? ⟨w.heap.size, 0, none⟩ = some (.slice ao O.length co) ∧ W'.cell? ⟨w.heap.size, 1, none⟩ = some (.slice an zss.length cn) ∧ W'.cell? ⟨w.heap.size, 2, none⟩ = some (.slice ap P.length cp))) (m := 5) (by kernel_rfl) (HSw.out _ Kd.out) (fun hHeld => ?_)
    refine wpAnyM_take (i := 0) (v := ?vm1) rfl (by kernel_rfl) (by decide) (by kernel_rfl) (by kernel_rfl) (by kernel_rfl) (fun _ _ _ h => h) (Or.inl ⟨by rfl, ?hm1⟩) (by assumption) ?_
    case hm1 => (intro w hSw; (try dsimp only at hSw); go_simp; first | done | with_reducible rfl)
    try simp only [Act.put, List.setIfInBounds_toArray, List.set_cons_zero, List.set_cons_succ]
    refine wpAnyM_take (i := 1) (v := ?vm2) rfl (by kernel_rfl) (by decide) (by kernel_rfl) (by kernel_rfl) (by kernel_rfl) (fun _ _ _ h => h) (Or.inl ⟨by rfl, ?hm2⟩) (by assumption) ?_
    case hm2 => (intro w hSw; (try dsimp only at hSw); go_simp; first | done | with_reducible rfl)
    try simp only [Act.put, List.setIfInBounds_toArray, List.set_cons_zero, List.set_cons_succ]
    refine wpAnyM_two (i := 2) (j := 4) (by kernel_rfl) rfl rfl (fun K hK => ?_) (fun K hK => ?_)
    · skip
      go_simp
      go_at_call 122
      refine (HOP.out w1.drew (HB1.out.trans (Kd.out.mono HB1.out.size))).mono ?_
      rintro e W2 ⟨q, rfl, hq, hb⟩
      obtain ⟨aq, cq, rfl, _, _⟩ := hq.shape
      have HQ := Lib.hid (hq.base (B' := w.heap.size) (Nat.le_trans HB1.out.size Kd.out.size))
      have HQB := Lib.hid (fun g hg => (hq.own.lt g hg).1)
      have Kx2 := Lib.hid (Kd.out.trans (hb.mono Kd.out.size))
      clear hb hq
      go_wp2_with fail
      refine hK.out _ _ (fun _ => HSw.out _ Kx2.out) (fun hHeld => ?_)
      have hHeld := hHeld (by decide)
      clear hK K
      try simp only [Act.put, List.setIfInBounds_toArray, List.set_cons_zero, List.set_cons_succ]
      refine wpAnyM_take (i := 3) (v := ?vm3) rfl (by kernel_rfl) (by decide) (by kernel_rfl) (by kernel_rfl) (by kernel_rfl) (fun _ _ _ h => h) (Or.inl ⟨by rfl, ?hm3⟩) (by assumption) ?_
      case hm3 => (intro w hSw; (try dsimp only at hSw); go_simp; first | done | with_reducible rfl)
      try simp only [Act.put, List.setIfInBounds_toArray, List.set_cons_zero, List.set_cons_succ]
      refine wpAnyM_one (i := 4) (by kernel_rfl) rfl (fun K hK => ?_)
      go_simp
      obtain ⟨W3, hW3⟩ : ∃ y, y = W2.alloc (.cells #[.slice none 0 0, .slice none 0 0, .slice none 0 0, .slice none 0 0, .int .i64 0, .int .i64 0, .int .i64 0, .int .i64 0, .int .i64 0, .int .i64 0, .int .i64 0, .int .i64 0, .int .i64 0, .int .i64 0, .int .i64 0, .int .i64 0, .int .i64 0] 90) := ⟨_, rfl⟩
      rw [← hW3]
      have hb : Below W2.heap.size W2 W3 := by rw [hW3]; exact below1 _ _
      have HN : Hid (W3.heap[W2.heap.size]? = some (.cells (scaA (.slice none 0 0) (.slice none 0 0) (.slice none 0 0) (.slice none 0 0) []) 90 (0, 0))) := by rw [hW3]; exact heap_alloc_new _ _
      have HNE : Hid (∀ g, (Value.slice aq (oddsL P).length cq).ownBlock = some g → g ≠ W2.heap.size ∧ w1.heap.size ≤ g) := fun g hg => by have := HQ.out.top g hg; have := HQB.out g hg; have := Kd.out.size; exact ⟨by omega, by omega⟩
      have HQ := Lib.hid (HQ.out.below hb)
      clear hW3
      have Kx3 := Lib.hid (Kx2.out.trans (hb.mono Kx2.out.size))
      have HBB : Hid (w1.heap.size ≤ W2.heap.size) := Kx2.out.size
      refine hK.out _ _ (fun _ => HSw.out _ Kx3.out) (fun hHeld => ?_)
      have hHeld := hHeld (by decide)
      clear hK K
      try simp only [Act.put, List.setIfInBounds_toArray, List.set_cons_zero, List.set_cons_succ]
      refine wpAnyM_one (i := 5) (by kernel_rfl) rfl (fun K hK => ?_)
      rw [if_pos (by kernel_rfl)]
      refine wp_store_row 90 _ _ rfl (W2.heap.size) (scaA (.slice ao O.length co) (.slice an zss.length cn) (.slice ap P.length cp) (.slice aq (oddsL P).length cq) []) rfl rfl 90 (scaA (.slice none 0 0) (.slice none 0 0) (.slice none 0 0) (.slice none 0 0) []) HN.out (by kernel_rfl) rfl (by simp [scaA, Value.oneCell']) ?_
      refine hK.out _ _ (fun h => absurd h (by decide)) (fun _ => ?_)
      clear hK K
      try simp only [Act.put, List.setIfInBounds_toArray, List.set_cons_zero, List.set_cons_succ]
      refine wpAnyM_done (by kernel_rfl) ?_ _
      have hsz := Kx3.out.size
      have ho := only_row8 (S := fun x => x = W2.heap.size) (Only.refl _ _) rfl (scaA (.slice ao O.length co) (.slice an zss.length cn) (.slice ap P.length cp) (.slice aq (oddsL P).length cq) []) (w := W3)
      refine ⟨W2.heap.size, aq, cq, _, _, _, _, ⟨HBB.out, Kx3.out.trans (ho.below Kx3.out.size (fun x hx => by rw [hx]; exact HBB.out)), (HQ.out.only ho (fun g hg => (HNE.out g hg).1)).retop, HNE, ?_⟩, rfl⟩
      refine sca_of ?_
      rw [← scaA_zero]
      exact setRow_heap _ _ _ _ _ _ HN.out
    · skip
      go_simp
      obtain ⟨W3, hW3⟩ : ∃ y, y = (w1.alloc (.cells #[.slice none 0 0, .slice none 0 0, .slice none 0 0, .slice none 0 0, .int .i64 0, .int .i64 0, .int .i64 0, .int .i64 0, .int .i64 0, .int .i64 0, .int .i64 0, .int .i64 0, .int .i64 0, .int .i64 0, .int .i64 0, .int .i64 0, .int .i64 0] 90)).drew := ⟨_, rfl⟩
      rw [← hW3]
      have HN0 : Hid (W3.heap[w1.heap.size]? = some (.cells (scaA (.slice none 0 0) (.slice none 0 0) (.slice none 0 0) (.slice none 0 0) []) 90 (0, 0))) := by rw [hW3]; exact heap_alloc_new _ _
      have Kx3 : Hid (Below w1.heap.size w1 W3) := by rw [hW3]; exact (below1 _ _).drew
      have hs3 : Hid (W3.heap.size = w1.heap.size + 1) := by rw [hW3]; show (w1.alloc _).heap.size = _; simp
      clear hW3
      refine hK.out _ _ (fun _ => HSw.out _ Kx3.out) (fun hHeld => ?_)
      have hHeld := hHeld (by decide)
      clear hK K
      try simp only [Act.put, List.setIfInBounds_toArray, List.set_cons_zero, List.set_cons_succ]
      refine wpAnyM_one (i := 2) (by kernel_rfl) rfl (fun K hK => ?_)
      go_simp
      go_at_call 122
      refine (HOP.out W3 (HB1.out.trans (Kx3.out.mono HB1.out.size))).mono ?_
      rintro e W4 ⟨q, rfl, hq, hb⟩
      obtain ⟨aq, cq, rfl, _, _⟩ := hq.shape
      have HQ := Lib.hid (hq.base (B' := w.heap.size) (Nat.le_trans HB1.out.size Kx3.out.size))
      have HQB := Lib.hid (fun g hg => (hq.own.lt g hg).1)
      have Kx4 := Lib.hid (Kx3.out.trans (hb.mono Kx3.out.size))
      have HN := Lib.hid ((hb.block _ (Array.getElem?_eq_some_iff.1 HN0.out).1).trans HN0.out)
      clear hb hq
      go_wp2_with fail
      refine hK.out _ _ (fun _ => HSw.out _ Kx4.out) (fun hHeld => ?_)
      have hHeld := hHeld (by decide)
      clear hK K
      try simp only [Act.put, List.setIfInBounds_toArray, List.set_cons_zero, List.set_cons_succ]
      refine wpAnyM_take (i := 3) (v := ?vm4) rfl (by kernel_rfl) (by decide) (by kernel_rfl) (by kernel_rfl) (by kernel_rfl) (fun _ _ _ h => h) (Or.inl ⟨by rfl, ?hm4⟩) (by assumption) ?_
      case hm4 => (intro w hSw; (try dsimp only at hSw); go_simp; first | done | with_reducible rfl)
      try simp only [Act.put, List.setIfInBounds_toArray, List.set_cons_zero, List.set_cons_succ]
      have HBB : Hid (w1.heap.size ≤ w1.heap.size) := Nat.le_refl _
      have HNE : Hid (∀ g, (Value.slice aq (oddsL P).length cq).ownBlock = some g → g ≠ w1.heap.size ∧ w1.heap.size ≤ g) := fun g hg => by have := HQB.out g hg; have := hs3.out; exact ⟨by omega, by omega⟩
      refine wpAnyM_one (i := 5) (by kernel_rfl) rfl (fun K hK => ?_)
      rw [if_pos (by kernel_rfl)]
      refine wp_store_row 90 _ _ rfl (w1.heap.size) (scaA (.slice ao O.length co) (.slice an zss.length cn) (.slice ap P.length cp) (.slice aq (oddsL P).length cq) []) rfl rfl 90 (scaA (.slice none 0 0) (.slice none 0 0) (.slice none 0 0) (.slice none 0 0) []) HN.out (by kernel_rfl) rfl (by simp [scaA, Value.oneCell']) ?_
      refine hK.out _ _ (fun h => absurd h (by decide)) (fun _ => ?_)
      clear hK K
      try simp only [Act.put, List.setIfInBounds_toArray, List.set_cons_zero, List.set_cons_succ]
      refine wpAnyM_done (by kernel_rfl) ?_ _
      have hsz := Kx4.out.size
      have ho := only_row8 (S := fun x => x = w1.heap.size) (Only.refl _ _) rfl (scaA (.slice ao O.length co) (.slice an zss.length cn) (.slice ap P.length cp) (.slice aq (oddsL P).length cq) []) (w := W4)
      refine ⟨w1.heap.size, aq, cq, _, _, _, _, ⟨HBB.out, Kx4.out.trans (ho.below Kx4.out.size (fun x hx => by rw [hx]; exact HBB.out)), (HQ.out.only ho (fun g hg => (HNE.out g hg).1)).retop, HNE, ?_⟩, rfl⟩
      refine sca_of ?_
      rw [← scaA_zero]
      exact setRow_heap _ _ _ _ _ _ HN.out
  case rest1 =>
    rintro a' wx ⟨b, aq, cq, u7, u8, u9, u10, ⟨Hbb, Bx, HQ, HNE, HR⟩, rfl⟩
    have hsb := Hbb.out
    have hb2 : w.heap.size ≠ b := by have := hs1.out; omega
    have HTx : Hid (∀ W, Only (fun x => x = b) wx W → Box3 W w.heap.size 35 (.slice ao O.length co) (.slice an zss.length cn) (.slice ap P.length cp)) := fun W ho => World.rowIs.of_block (HT1.out.below Bx.out) (ho.block _ (HT1.out.below Bx.out).lt hb2)
    have HBx := Lib.hid (HB1.out.trans (Bx.out.mono HB1.out.size))
    have t2 := (HTx.out wx (Only.refl _ _)).c2
    have hlP := HP.out.len
    clear HSw Kd HT1 hsb HOP
    go_wp2
    go_loopw [14] (fun iv wr => ∃ k : Nat, k ≤ P.length ∧ iv = .int .i64 k ∧ Hid (wr.rowIs b 90 17 (scaF (.slice ao O.length co) (.slice an zss.length cn) (.slice ap P.length cp) (.slice aq (oddsL P).length cq) (mostK P k))) ∧ Hid (Only (fun x => x = b) wx wr)) (fun iv _ => P.length - (intOf iv).toNat)
    case atStart => exact ⟨0, Nat.zero_le _, rfl, HR, Only.refl _ _⟩
    case round =>
      clear HR
      obtain ⟨k, hk, rfl, HR, HO⟩ := hrel
      have HOI := Lib.hid (HQ.out.only HO.out (fun g hg => (HNE.out g hg).1))
      by_cases hlt : k < P.length
      · have hi1 : (k : Int) < P.length := by omega
        have hk0 : (0 : Int) ≤ (k : Int) := by omega
        obtain ⟨pb, po, hpa, hpc⟩ := HP.out.cell (by omega)
        have p0 := hpc k hlt
        have hpl := World.block_lt_of_cell? _ _ p0
        have hsx := HBx.out.size
        have hpb : pb ≠ b := fun e => by have := HB1.out.size; have := Hbb.out; have h1 : pb < w.heap.size := hpl; omega
        have p1 : wr.cell? ⟨pb, po + k, none⟩ = some (.int .i64 (nth P k)) := (World.cell?_of_block (HO.out.block pb (Nat.lt_of_lt_of_le hpl hsx) hpb)).trans ((HBx.out.cell hpl).trans p0)
        have x3 : wr.cell? ⟨b, 3, none⟩ = some (.slice aq (oddsL P).length cq) := HR.out.cell (i := 3) (by omega)
        have HPA := Lib.hid hpa
        obtain ⟨z, hz⟩ : ∃ z, z = nth P k := ⟨_, rfl⟩
        have HZ := Lib.hid hz
        rw [← hz] at p1
        subst hpa
        clear hpc p0 hpl hsx hpb hz
        cases hh : hasB (oddsL P) z with
        | true =>
          obtain ⟨j, hj, hjz, hji⟩ := idx_hit hh
          have HCI := Lib.hid (Index_is hji cq wr (own_ints8 HOI.out))
          have HST := Lib.hid (mostK_hit hlt hj (by rw [hjz, HZ.out]))
          have hj12 : j < 12 := by have := HL.out; omega
          obtain ⟨c, hc⟩ : ∃ c, c = nth (mostK P k) (j + 1) := ⟨_, rfl⟩
          have hcb := mostK_le P k (j + 1)
          have HCc := Lib.hid hc
          rw [← hc] at hcb
          have q1 : wr.cell? ⟨b, 4 + (1 + j), none⟩ = some (.int .i64 c) := by
            have h := HR.out.cell (i := j + 1 + 4) (by omega)
            rw [show 4 + (1 + j) = j + 1 + 4 by omega, h, hc]
            rfl
          have q2 : wr.frozen? ⟨b, 4 + (1 + j), none⟩ = false := HR.out.frozen _
          have hj0 : (0 : Int) ≤ (j : Int) := by omega
          have hj2 : (0 : Int) ≤ 1 + (j : Int) := by omega
          have hj3 : 1 + (j : Int) < 13 := by omega
          have hj4 : (1 + (j : Int)).toNat = 1 + j := by omega
          have hj5 : IntKind.i64.wrap (1 + (j : Int)) = 1 + (j : Int) := by rw [IntKind.wrap_i64]; omega
          have hj6 : IntKind.i64.wrap (c + 1) = c + 1 := by rw [IntKind.wrap_i64]; omega
          clear hh hjz hji hj hc
          go_wp2_with fail
          refine HCI.out.mono ?_
          rintro e w3 ⟨rfl, rfl⟩
          go_wp2
          go_roundw
          case rel =>
            refine ⟨k + 1, by omega, by go_num, ?_, HO.out.setCell (p := ⟨b, 4 + (1 + j), none⟩) rfl _⟩
            have h := sca_bump HR.out HST.out
            rw [← HCc.out] at h
            rw [show 4 + (1 + j) = j + 1 + 4 by omega]
            exact h
          case measure => simp [intOf]; omega
        | false =>
          obtain ⟨hji, hjn⟩ := idx_miss hh
          have HCI := Lib.hid (Index_is hji cq wr (own_ints8 HOI.out))
          have HST := Lib.hid (mostK_miss hlt (by rw [← HZ.out]; exact hjn))
          clear hh hji hjn
          go_wp2_with fail
          refine HCI.out.mono ?_
          rintro e w3 ⟨rfl, rfl⟩
          go_wp2
          go_roundw
          case rel => exact ⟨k + 1, by omega, by go_num, World.rowIs.congr HR.out (fun i _ => scaF_congr (fun j => (HST.out j).symm) i), HO⟩
          case measure => simp [intOf]; omega
      · have hi1 : ¬ (k : Int) < P.length := by omega
        have hkl : k = P.length := by omega
        subst hkl
        have h1 := (Bx.out.block _ (Array.getElem?_eq_some_iff.1 HR1.out).1).trans HR1.out
        have HRy := Lib.hid ((HO.out.block _ (Array.getElem?_eq_some_iff.1 h1).1 (fun e => by have := Hbb.out; have := hs1.out; omega)).trans h1)
        have HRz := Lib.hid (sca_cells HR.out)
        have HOI := Lib.hid (HOI.out.base (B' := w.heap.size) (Nat.le_refl _))
        clear h1
        go_upto_region 9 with fail
        refine wp_region_lit ?_
        refine wpList_load_row rfl 90 _ rfl b rfl 90 (scaA (.slice ao O.length co) (.slice an zss.length cn) (.slice ap P.length cp) (.slice aq (oddsL P).length cq) (mostK P P.length)) (0, 0) _ HRz.out Tryd.underlying90 rfl (by kernel_rfl) ?_
        simp only [Act.put, List.setIfInBounds_toArray, List.set_cons_zero, List.set_cons_succ]
        refine wpList_store_row rfl 90 _ _ rfl (w.heap.size + 1) (scaA (.slice ao O.length co) (.slice an zss.length cn) (.slice ap P.length cp) (.slice aq (oddsL P).length cq) (mostK P P.length)) rfl rfl 90 (scaA (.slice none 0 0) (.slice none 0 0) (.slice none 0 0) (.slice none 0 0) []) HRy.out (by kernel_rfl) rfl (by simp [scaA, Value.oneCell']) ?_
        refine wpList_nil ?_
        try simp only [Act.put, List.setIfInBounds_toArray, List.set_cons_zero, List.set_cons_succ]
        go_wp2_with fail
        have ho := only_row8 (S := fun x => x = w.heap.size + 1) (Only.refl _ wr) rfl (scaA (.slice ao O.length co) (.slice an zss.length cn) (.slice ap P.length cp) (.slice aq (oddsL P).length cq) (mostK P P.length))
        have BZ : Below w.heap.size w (wr.setRow (w.heap.size + 1) (scaA (.slice ao O.length co) (.slice an zss.length cn) (.slice ap P.length cp) (.slice aq (oddsL P).length cq) (mostK P P.length))) :=
          (HBx.out.trans (HO.out.below (B := w.heap.size) HBx.out.size (fun x hx => by rw [hx]; have := Hbb.out; have := HB1.out.size; omega))).trans (ho.below (Nat.le_trans HBx.out.size HO.out.size) (fun x hx => by rw [hx]; omega))
        refine ret_sca (g := w.heap.size + 1) (M := mostL P) rfl rfl (sca_of (setRow_heap _ _ _ _ _ _ HRy.out)) ⟨aq, cq, rfl, (HOI.out.only ho (fun g hg e => by have := (HNE.out g hg).2; have := hs1.out; omega)).retop, BZ⟩
end
end Go.Proofs.YtglbkbiphcgidaaDoor
namespace Go.Proofs.YtglbkbiphcgidaaDoor
section
open Go.RowKit
/-- The measure lost stands in its variable. -/
def LostW (w : World) : Prop := ∀ j, j < 13 → w.cell? ⟨0, j, none⟩ = some (.int .i64 (nth [1] j))
theorem LostW.lt {w : World} (h : LostW w) : 0 < w.heap.size := World.block_lt_of_cell? _ _ (h 0 (by omega))
theorem LostW.below {w w' : World} (h : LostW w) (hb : Below w.heap.size w w') : LostW w' := fun j hj => (hb.cell (p := ⟨0, j, none⟩) h.lt).trans (h j hj)
end
end Go.Proofs.YtglbkbiphcgidaaDoor
namespace Go.Proofs.YtglbkbiphcgidaaDoor
section
open Go.RowKit Go.Shelf

/-- A measure's cells by place. -/
def meaF (m : List Int) : Nat → Value := fun i => .int .i64 (nth m i)
theorem mea_of {w : World} {g : Nat} {T : TypeId} {m : List Int} (h : w.heap[g]? = some (.cells (meaA m) T (0, 0))) : w.rowIs g T 13 (meaF m) := by
  refine ⟨_, h, rfl, fun j hj => ?_⟩
  have h13 : j = 0 ∨ j = 1 ∨ j = 2 ∨ j = 3 ∨ j = 4 ∨ j = 5 ∨ j = 6 ∨ j = 7 ∨ j = 8 ∨ j = 9 ∨ j = 10 ∨ j = 11 ∨ j = 12 := by omega
  rcases h13 with rfl | rfl | rfl | rfl | rfl | rfl | rfl | rfl | rfl | rfl | rfl | rfl | rfl <;> rfl
theorem mea_cells {w : World} {g : Nat} {T : TypeId} {m : List Int} (h : w.rowIs g T 13 (meaF m)) : w.heap[g]? = some (.cells (meaA m) T (0, 0)) := by
  obtain ⟨cs, hb, hn, hc⟩ := h
  have e : cs = meaA m := Array.ext (by rw [hn]; rfl) (fun j h1 h2 => by
    have h3 := hc j (by omega)
    rw [Array.getElem?_eq_getElem h1] at h3
    injection h3 with h3
    rw [h3]
    have h13 : j = 0 ∨ j = 1 ∨ j = 2 ∨ j = 3 ∨ j = 4 ∨ j = 5 ∨ j = 6 ∨ j = 7 ∨ j = 8 ∨ j = 9 ∨ j = 10 ∨ j = 11 ∨ j = 12 := by omega
    clear h3
    rcases h13 with rfl | rfl | rfl | rfl | rfl | rfl | rfl | rfl | rfl | rfl | rfl | rfl | rfl <;> rfl)
  rw [hb, e]
theorem meaA_one (m : List Int) : (meaA m).all (·.oneCell') = true := by simp [meaA, Value.oneCell']
theorem LostW.range {w : World} (h : LostW w) : w.rangeAt 0 0 (meaA [1]).toList := fun j v hv => by
  have hj : j < 13 := (List.getElem?_eq_some_iff.1 hv).1
  rw [Nat.zero_add, h j hj, ← hv]
  have h13 : j = 0 ∨ j = 1 ∨ j = 2 ∨ j = 3 ∨ j = 4 ∨ j = 5 ∨ j = 6 ∨ j = 7 ∨ j = 8 ∨ j = 9 ∨ j = 10 ∨ j = 11 ∨ j = 12 := by omega
  clear hv
  rcases h13 with rfl | rfl | rfl | rfl | rfl | rfl | rfl | rfl | rfl | rfl | rfl | rfl | rfl <;> rfl
theorem mea_step {w : World} {g : Nat} {T : TypeId} {m : List Int} {k : Nat} (hk : k < m.length) (h : w.rowIs g T 13 (meaF (m.take k))) : (w.setCell ⟨g, k, none⟩ (.int .i64 (nth m k))).rowIs g T 13 (meaF (m.take (k + 1))) := by
  refine (h.set k _).congr fun i hi => ?_
  unfold meaF
  by_cases e : i = k
  · subst e
    rw [if_pos rfl]
    congr 1
    unfold nth
    simp [hk]
  · rw [if_neg e]
    congr 1
    unfold nth
    simp only [List.getD_eq_getElem?_getD, List.getElem?_take]
    by_cases h1 : i < k
    · rw [if_pos h1, if_pos (by omega)]
    · rw [if_neg h1, if_neg (by omega)]
theorem ret_mea2 {fn : Func} {p q : Tmp} {tmps : Array Value} {W : World} {g : Nat} {m : List Int} {b : Bool} {R : Ending → World → Prop} (hr : fn.results = #[.cell p 88, .tmp q]) (hp : tmps.getD p undef = .pointer (some ⟨g, 0, none⟩)) (hq : tmps.getD q undef = .bool b)
    (hM : W.heap[g]? = some (.cells (meaA m) 88 (0, 0))) (hR : R (.returned (.tuple #[meaV m, .bool b])) W) : bodyPost Tryd.prog fn R .ret { tmps := tmps, defers := [] } W := by
  refine bodyPost_ret (v := .tuple #[meaV m, .bool b]) ?_ rfl hR
  have hp' : tmps[p]?.getD undef = .pointer (some ⟨g, 0, none⟩) := by simpa using hp
  have hq' : tmps[q]?.getD undef = .bool b := by simpa using hq
  have hl := run_loadVar_row (P := Tryd.prog) W g 88 88 (meaA m) (0, 0) _ hM Tryd.underlying88 rfl (by kernel_rfl)
  simp [results, hr, hp', hq', asAddr, hl, meaV]

set_option linter.unusedSimpArgs false in
set_option maxRecDepth 100000 in
set_option maxHeartbeats 8000000 in
theorem measureOf_is {w : World} {s : Value} {O P m : List Int} {zss : List (List Int)} {am : Option Addr} (cm : Nat) (hW : LostW w) (hs : ScaleAt w s O zss P) (hm : IntsAt w am m) (hl : (oddsL P).length ≤ 12) :
    Calls Tryd.prog 117 #[s, .slice am m.length cm] w fun e w' => e = .returned (.tuple #[meaV (if goodB P m = true then m else []), .bool (goodB P m)]) ∧ Below w.heap.size w w' := by
  obtain ⟨ao, an, ap, aq, co, cn, cp, cq, rfl, hg, hq⟩ := hs
  obtain ⟨r, hr⟩ : ∃ r, goodB P m = r := ⟨_, rfl⟩
  obtain ⟨w1, hw1⟩ : ∃ y, y = (w.alloc (.cells (scaA (.slice ao O.length co) (.slice an zss.length cn) (.slice ap P.length cp) (.slice aq (oddsL P).length cq) (mostL P)) 90)).alloc (.cells #[.int .i64 0, .int .i64 0, .int .i64 0, .int .i64 0, .int .i64 0, .int .i64 0, .int .i64 0, .int .i64 0, .int .i64 0, .int .i64 0, .int .i64 0, .int .i64 0, .int .i64 0] 88) := ⟨_, rfl⟩
  have HW1 := Lib.hid hw1
  have B1 : Hid (Below w.heap.size w w1) := by rw [hw1]; exact below2 _ _ _
  have S1 : Hid (w1.rowIs w.heap.size 90 17 (scaF (.slice ao O.length co) (.slice an zss.length cn) (.slice ap P.length cp) (.slice aq (oddsL P).length cq) (mostL P))) := by
    rw [hw1]; exact World.rowIs.alloc (sca_of (heap_alloc_new _ _)) _
  have R1 : Hid (w1.heap[w.heap.size + 1]? = some (.cells (meaA []) 88 (0, 0))) := by rw [hw1]; exact heap_alloc2_new _ _ _
  have hs1 : w1.heap.size = w.heap.size + 2 := by rw [hw1]; simp
  have HS1 := Lib.hid hs1
  obtain ⟨w2, hw2⟩ : ∃ y, y = w1.alloc (.cells #[.int .i64 1] 2) := ⟨_, rfl⟩
  have HW2 := Lib.hid hw2
  have hb2 : Below w1.heap.size w1 w2 := by rw [hw2]; exact below1 _ _
  have I2 : IntsAt w2 (some ⟨w1.heap.size, 0, none⟩) [1] := ⟨by simp, fun k hk => by
    have : k = 0 := by simpa using hk
    subst this
    unfold Fits nth; simp, fun _ => ⟨w1.heap.size, 0, rfl, fun k hk => by
    have : k = 0 := by simpa using hk
    subst this
    rw [hw2]
    exact cell_one_new _ _ _ 0 _ rfl⟩⟩
  have B2 := Lib.hid (B1.out.trans (hb2.mono B1.out.size))
  have K2 := Lib.hid hb2
  obtain ⟨r1, hr1⟩ : ∃ r1, decide (m = [1]) = r1 := ⟨_, rfl⟩
  have HC : Hid (Calls Tryd.prog 144 #[.slice am m.length cm, .slice (some ⟨w1.heap.size, 0, none⟩) 1 1] w2 fun e w' => e = .returned (.bool r1) ∧ ∃ q, w' = w2.drewN q) := Equal_is (ys := [1]) hr1 w2 cm 1 (hm.below B2.out) I2
  have HL := Lib.hid hW
  have HM := Lib.hid hm
  have hml := hm.len
  obtain ⟨lq, hlq⟩ : ∃ lq, lq = (oddsL P).length := ⟨_, rfl⟩
  have HLQ := Lib.hid hlq
  have hl12 : lq ≤ 12 := by omega
  have HR := Lib.hid hr
  rw [hr]
  obtain ⟨M, hM⟩ : ∃ M, (if r = true then m else []) = M := ⟨_, rfl⟩
  have HMM := Lib.hid hM
  rw [hM]
  unfold scaV
  rw [← hlq] at HW1 S1 ⊢
  clear hw1 hw2 hb2 I2 hW hm hs1 hg hq hlq hl hr hM
  cases r1 with
  | true =>
    have hm1 : m = [1] := of_decide_eq_true hr1
    have HV : Hid (meaV M = meaV [1] ∧ r = true) := by
      have : r = true := by rw [← HR.out]; exact goodB_iff.2 (.inl hm1)
      rw [← HMM.out, if_pos this, hm1]
      exact ⟨rfl, this⟩
    clear hr1 hm1
    rw [HV.out.1, HV.out.2]
    go_enter Tryd.func117, Tryd.ntmps117
    go_wp2_with fail
    rw [← HW1.out, ← HS1.out, ← HW2.out]
    refine HC.out.mono ?_
    rintro e w3 ⟨rfl, hdq⟩
    have hb3 : Below w2.heap.size w2 w3 := by obtain ⟨q, rfl⟩ := hdq; exact below_drewN (Below.refl _ _) q
    have B3 := Lib.hid (B2.out.trans (hb3.mono B2.out.size))
    have K3 := Lib.hid (K2.out.trans (hb3.mono K2.out.size))
    have R3 := Lib.hid ((K3.out.block _ (Array.getElem?_eq_some_iff.1 R1.out).1).trans R1.out)
    have S3 := Lib.hid (rowIs_below S1.out K3.out)
    clear hdq hb3 HC
    have L3 := Lib.hid (HL.out.below B3.out)
    go_upto_region 2 with fail
    refine wp_region_lit ?_
    refine wpList_load_mid rfl 88 _ rfl 0 0 rfl (meaA [1]).toList _ L3.out.range Tryd.underlying88 rfl (by kernel_rfl) ?_
    simp only [Act.put, List.setIfInBounds_toArray, List.set_cons_zero, List.set_cons_succ]
    refine wpList_store_row rfl 88 _ _ rfl (w.heap.size + 1) (meaA [1]) rfl rfl 88 (meaA []) R3.out (by kernel_rfl) rfl (meaA_one _) ?_
    simp only [Act.put, List.setIfInBounds_toArray, List.set_cons_zero, List.set_cons_succ]
    go_wp2_with fail
    have ho := only_row8 (S := fun x => x = w.heap.size + 1) (Only.refl _ w3) rfl (meaA [1])
    exact ret_mea2 (g := w.heap.size + 1) rfl rfl rfl (setRow_heap _ _ _ _ _ _ R3.out) ⟨rfl, B3.out.trans (ho.below B3.out.size (fun x hx => by rw [hx]; omega))⟩
  | false =>
    have HNO : Hid (¬ m = [1]) := of_decide_eq_false hr1
    clear hr1
    by_cases hD : m.length = lq + 1
    · have hDi : ((m.length : Int) != 1 + (lq : Int)) = false := by simp; omega
      have hD1 : m.length ≤ lq + 1 := by omega
      have hD2 : lq + 1 ≤ m.length := by omega
      clear hD
      go_enter Tryd.func117, Tryd.ntmps117
      go_wp2_with fail
      rw [← HW1.out, ← HS1.out, ← HW2.out]
      refine HC.out.mono ?_
      rintro e w3 ⟨rfl, hdq⟩
      have hb3 : Below w2.heap.size w2 w3 := by obtain ⟨q, rfl⟩ := hdq; exact below_drewN (Below.refl _ _) q
      have B3 := Lib.hid (B2.out.trans (hb3.mono B2.out.size))
      have K3 := Lib.hid (K2.out.trans (hb3.mono K2.out.size))
      have R3 := Lib.hid ((K3.out.block _ (Array.getElem?_eq_some_iff.1 R1.out).1).trans R1.out)
      have S3 := Lib.hid (rowIs_below S1.out K3.out)
      clear hdq hb3 HC
      obtain ⟨w4, hw4⟩ : ∃ y, y = w3.alloc (.cells #[.int .i64 0, .int .i64 0, .int .i64 0, .int .i64 0, .int .i64 0, .int .i64 0, .int .i64 0, .int .i64 0, .int .i64 0, .int .i64 0, .int .i64 0, .int .i64 0, .int .i64 0] 88) := ⟨_, rfl⟩
      have HW4 := Lib.hid hw4
      have hb4 : Below w3.heap.size w3 w4 := by rw [hw4]; exact below1 _ _
      have B4 := Lib.hid (B3.out.trans (hb4.mono B3.out.size))
      have K4 := Lib.hid (K3.out.trans (hb4.mono K3.out.size))
      have R4 := Lib.hid ((hb4.block _ (Array.getElem?_eq_some_iff.1 R3.out).1).trans R3.out)
      have S4 := Lib.hid (rowIs_below S3.out hb4)
      have N4 : Hid (w4.rowIs w3.heap.size 88 13 (meaF (m.take 0))) := by
        have h : w4.heap[w3.heap.size]? = some (.cells (meaA []) 88 (0, 0)) := by rw [hw4]; exact heap_alloc_new _ _
        exact mea_of h
      have hg3 : w.heap.size + 2 ≤ w3.heap.size := by have := K3.out.size; have := HS1.out; omega
      have c3 : (w3.alloc (.cells #[.int .i64 0, .int .i64 0, .int .i64 0, .int .i64 0, .int .i64 0, .int .i64 0, .int .i64 0, .int .i64 0, .int .i64 0, .int .i64 0, .int .i64 0, .int .i64 0, .int .i64 0] 88)).cell? ⟨w.heap.size, 3, none⟩ = some (.slice aq lq cq) := by rw [← HW4.out]; exact S4.out.cell (i := 3) (by omega)
      have c3' : w3.cell? ⟨w.heap.size, 3, none⟩ = some (.slice aq lq cq) := S3.out.cell (i := 3) (by omega)
      clear hw4 hb4 R3 S3
      go_wp2
      rw [← HW4.out]
      go_loopw [23] (fun iv wr => ∃ k : Nat, k ≤ m.length ∧ iv = .int .i64 k ∧ Hid (∀ j, j < k → 0 ≤ nth m j ∧ nth m j ≤ nth (mostL P) j) ∧ Hid (wr.rowIs w3.heap.size 88 13 (meaF (m.take k))) ∧ Hid (Only (fun x => x = w3.heap.size) w4 wr)) (fun iv _ => m.length - (intOf iv).toNat)
      case atStart => exact ⟨0, Nat.zero_le _, rfl, fun j hj => absurd hj (Nat.not_lt_zero _), N4, Only.refl _ _⟩
      case round =>
        clear N4 c3 c3'
        obtain ⟨k, hk, rfl, HJ, HN, HO⟩ := hrel
        have R5 := Lib.hid ((HO.out.block _ (Array.getElem?_eq_some_iff.1 R4.out).1 (fun e => by omega)).trans R4.out)
        have B5 := Lib.hid (B4.out.trans (HO.out.below (B := w.heap.size) B4.out.size (fun x hx => by rw [hx]; omega)))
        have S5 : Hid (wr.rowIs w.heap.size 90 17 (scaF (.slice ao O.length co) (.slice an zss.length cn) (.slice ap P.length cp) (.slice aq lq cq) (mostL P))) := S4.out.of_block (HO.out.block _ S4.out.lt (fun e => by omega))
        by_cases hlt : k < m.length
        · have hi1 : (k : Int) < m.length := by omega
          have hk0 : (0 : Int) ≤ (k : Int) := by omega
          have hk13 : (k : Int) < 13 := by omega
          obtain ⟨mb, mo, hma, hmc⟩ := HM.out.cell (by omega)
          have p0 := hmc k hlt
          have hpl := World.block_lt_of_cell? _ _ p0
          have p1 : wr.cell? ⟨mb, mo + k, none⟩ = some (.int .i64 (nth m k)) := (B5.out.cell hpl).trans p0
          have q1 : wr.cell? ⟨w.heap.size, 4 + k, none⟩ = some (.int .i64 (nth (mostL P) k)) := by
            have h := S5.out.cell (i := k + 4) (by omega)
            rw [show 4 + k = k + 4 by omega, h]
            rfl
          have z1 := HN.out.cell (i := k) (by omega)
          have z2 := HN.out.frozen k
          obtain ⟨x, hx⟩ : ∃ x, x = nth m k := ⟨_, rfl⟩
          obtain ⟨y, hy⟩ : ∃ y, y = nth (mostL P) k := ⟨_, rfl⟩
          have HX := Lib.hid hx
          have HY := Lib.hid hy
          rw [← hx] at p1
          rw [← hy] at q1
          subst hma
          clear hmc p0 hpl hx hy
          by_cases hx0 : x < 0
          · clear z1 z2
            have HF : Hid (r = false) := by
              rw [← HR.out]
              cases hg : goodB P m with
              | false => rfl
              | true =>
                rcases goodB_iff.1 hg with h1 | ⟨_, h2⟩
                · exact absurd h1 HNO.out
                · have h3 := h2 k hlt
                  rw [← HX.out, ← HY.out] at h3
                  omega
            have HV : Hid (meaV M = meaV [] ∧ r = false) := by
              rw [← HMM.out, HF.out]
              exact ⟨rfl, rfl⟩
            go_upto_region 10 with fail
            refine wp_region_lit ?_
            refine wpList_build rfl 88 _ rfl (by kernel_rfl) ?_
            simp only [Act.put, List.setIfInBounds_toArray, List.set_cons_zero, List.set_cons_succ]
            refine wpList_store_row rfl 88 _ _ rfl (w.heap.size + 1) (meaA []) rfl (by kernel_rfl) 88 (meaA []) R5.out (by kernel_rfl) rfl (meaA_one _) ?_
            simp only [Act.put, List.setIfInBounds_toArray, List.set_cons_zero, List.set_cons_succ]
            go_wp2_with fail
            have ho := only_row8 (S := fun x => x = w.heap.size + 1) (Only.refl _ wr) rfl (meaA [])
            exact ret_mea2 (g := w.heap.size + 1) rfl rfl rfl (setRow_heap _ _ _ _ _ _ R5.out) ⟨by rw [HV.out.1, HV.out.2], B5.out.trans (ho.below B5.out.size (fun x hx => by rw [hx]; omega))⟩
          · by_cases hxy : y < x
            · clear z1 z2
              have HF : Hid (r = false) := by
                rw [← HR.out]
                cases hg : goodB P m with
                | false => rfl
                | true =>
                  rcases goodB_iff.1 hg with h1 | ⟨_, h2⟩
                  · exact absurd h1 HNO.out
                  · have h3 := h2 k hlt
                    rw [← HX.out, ← HY.out] at h3
                    omega
              have HV : Hid (meaV M = meaV [] ∧ r = false) := by
                rw [← HMM.out, HF.out]
                exact ⟨rfl, rfl⟩
              go_upto_region 10 with fail
              refine wp_region_lit ?_
              refine wpList_build rfl 88 _ rfl (by kernel_rfl) ?_
              simp only [Act.put, List.setIfInBounds_toArray, List.set_cons_zero, List.set_cons_succ]
              refine wpList_store_row rfl 88 _ _ rfl (w.heap.size + 1) (meaA []) rfl (by kernel_rfl) 88 (meaA []) R5.out (by kernel_rfl) rfl (meaA_one _) ?_
              simp only [Act.put, List.setIfInBounds_toArray, List.set_cons_zero, List.set_cons_succ]
              go_wp2_with fail
              have ho := only_row8 (S := fun x => x = w.heap.size + 1) (Only.refl _ wr) rfl (meaA [])
              exact ret_mea2 (g := w.heap.size + 1) rfl rfl rfl (setRow_heap _ _ _ _ _ _ R5.out) ⟨by rw [HV.out.1, HV.out.2], B5.out.trans (ho.below B5.out.size (fun x hx => by rw [hx]; omega))⟩
            · have HJn : Hid (∀ j, j < k + 1 → 0 ≤ nth m j ∧ nth m j ≤ nth (mostL P) j) := fun j hj => by
                by_cases e : j = k
                · rw [e, ← HX.out, ← HY.out]; omega
                · exact HJ.out j (by omega)
              go_wp2
              go_roundw
              case rel =>
                refine ⟨k + 1, by omega, by go_num, HJn, ?_, HO.out.setCell (p := ⟨w3.heap.size, k, none⟩) rfl _⟩
                rw [HX.out]
                exact mea_step hlt HN.out
              case measure => simp [intOf]; omega
        · have hi1 : ¬ (k : Int) < m.length := by omega
          have hkl : k = m.length := by omega
          have HF : Hid (r = true) := by
            rw [← HR.out]
            exact goodB_iff.2 (.inr ⟨by rw [← HLQ.out]; omega, fun j hj => HJ.out j (by omega)⟩)
          have HV : Hid (meaV M = meaV m ∧ r = true) := by
            rw [← HMM.out, HF.out]
            exact ⟨rfl, rfl⟩
          have HNc : Hid (wr.heap[w3.heap.size]? = some (.cells (meaA m) 88 (0, 0))) := by
            have h := mea_cells HN.out
            rw [hkl, List.take_length] at h
            exact h
          clear hkl HN
          go_upto_region 13 with fail
          refine wp_region_lit ?_
          refine wpList_load_row rfl 88 _ rfl w3.heap.size rfl 88 (meaA m) (0, 0) _ HNc.out Tryd.underlying88 rfl (by kernel_rfl) ?_
          simp only [Act.put, List.setIfInBounds_toArray, List.set_cons_zero, List.set_cons_succ]
          refine wpList_store_row rfl 88 _ _ rfl (w.heap.size + 1) (meaA m) rfl rfl 88 (meaA []) R5.out (by kernel_rfl) rfl (meaA_one _) ?_
          simp only [Act.put, List.setIfInBounds_toArray, List.set_cons_zero, List.set_cons_succ]
          go_wp2_with fail
          have ho := only_row8 (S := fun x => x = w.heap.size + 1) (Only.refl _ wr) rfl (meaA m)
          exact ret_mea2 (g := w.heap.size + 1) rfl rfl rfl (setRow_heap _ _ _ _ _ _ R5.out) ⟨by rw [HV.out.1, HV.out.2], B5.out.trans (ho.below B5.out.size (fun x hx => by rw [hx]; omega))⟩
    · have hDi : ((m.length : Int) != 1 + (lq : Int)) = true := by simp; omega
      have HF : Hid (r = false) := by
        rw [← HR.out]
        cases hg : goodB P m with
        | false => rfl
        | true =>
          rcases goodB_iff.1 hg with h1 | ⟨h2, _⟩
          · exact absurd h1 HNO.out
          · rw [← HLQ.out] at h2; exact absurd h2 hD
      have HV : Hid (meaV M = meaV [] ∧ r = false) := by
        rw [← HMM.out, HF.out]
        exact ⟨rfl, rfl⟩
      rw [HV.out.1, HV.out.2]
      clear hD
      go_enter Tryd.func117, Tryd.ntmps117
      go_wp2_with fail
      rw [← HW1.out, ← HS1.out, ← HW2.out]
      refine HC.out.mono ?_
      rintro e w3 ⟨rfl, hdq⟩
      have hb3 : Below w2.heap.size w2 w3 := by obtain ⟨q, rfl⟩ := hdq; exact below_drewN (Below.refl _ _) q
      have B3 := Lib.hid (B2.out.trans (hb3.mono B2.out.size))
      have K3 := Lib.hid (K2.out.trans (hb3.mono K2.out.size))
      have R3 := Lib.hid ((K3.out.block _ (Array.getElem?_eq_some_iff.1 R1.out).1).trans R1.out)
      have S3 := Lib.hid (rowIs_below S1.out K3.out)
      clear hdq hb3 HC
      have c3 : (w3.alloc (.cells #[.int .i64 0, .int .i64 0, .int .i64 0, .int .i64 0, .int .i64 0, .int .i64 0, .int .i64 0, .int .i64 0, .int .i64 0, .int .i64 0, .int .i64 0, .int .i64 0, .int .i64 0] 88)).cell? ⟨w.heap.size, 3, none⟩ = some (.slice aq lq cq) := (World.rowIs.alloc S3.out _).cell (i := 3) (by omega)
      have c3' : w3.cell? ⟨w.heap.size, 3, none⟩ = some (.slice aq lq cq) := S3.out.cell (i := 3) (by omega)
      have hb4 : Below w3.heap.size w3 (w3.alloc (.cells #[.int .i64 0, .int .i64 0, .int .i64 0, .int .i64 0, .int .i64 0, .int .i64 0, .int .i64 0, .int .i64 0, .int .i64 0, .int .i64 0, .int .i64 0, .int .i64 0, .int .i64 0] 88)) := below1 _ _
      have N4 : Hid ((w3.alloc (.cells #[.int .i64 0, .int .i64 0, .int .i64 0, .int .i64 0, .int .i64 0, .int .i64 0, .int .i64 0, .int .i64 0, .int .i64 0, .int .i64 0, .int .i64 0, .int .i64 0, .int .i64 0] 88)).heap[w3.heap.size]? = some (.cells (meaA []) 88 (0, 0))) := heap_alloc_new _ _
      have R4 := Lib.hid ((hb4.block _ (Array.getElem?_eq_some_iff.1 R3.out).1).trans R3.out)
      have B4 := Lib.hid (B3.out.trans (hb4.mono B3.out.size))
      clear hb4
      go_upto_region 5 with fail
      refine wp_region_lit ?_
      refine wpList_load_row rfl 88 _ rfl w3.heap.size rfl 88 (meaA []) (0, 0) _ N4.out Tryd.underlying88 rfl (by kernel_rfl) ?_
      simp only [Act.put, List.setIfInBounds_toArray, List.set_cons_zero, List.set_cons_succ]
      refine wpList_store_row rfl 88 _ _ rfl (w.heap.size + 1) (meaA []) rfl rfl 88 (meaA []) R4.out (by kernel_rfl) rfl (meaA_one _) ?_
      simp only [Act.put, List.setIfInBounds_toArray, List.set_cons_zero, List.set_cons_succ]
      go_wp2_with fail
      have ho := only_row8 (S := fun x => x = w.heap.size + 1) (Only.refl _ (w3.alloc (.cells #[.int .i64 0, .int .i64 0, .int .i64 0, .int .i64 0, .int .i64 0, .int .i64 0, .int .i64 0, .int .i64 0, .int .i64 0, .int .i64 0, .int .i64 0, .int .i64 0, .int .i64 0] 88))) rfl (meaA [])
      exact ret_mea2 (g := w.heap.size + 1) rfl rfl rfl (setRow_heap _ _ _ _ _ _ R4.out) ⟨rfl, B4.out.trans (ho.below B4.out.size (fun x hx => by rw [hx]; omega))⟩
end
end Go.Proofs.YtglbkbiphcgidaaDoor
namespace Go.Proofs.YtglbkbiphcgidaaDoor
section
open Go.RowKit Go.Shelf

/-- The places counted over k of the odds. -/
def plK (P : List Int) (p : Int) (k : Nat) : Int := 1 + ((((oddsL P).take k).filter fun x => decide (p ≤ x)).length : Int)
theorem plK_yes {P : List Int} {p : Int} {k : Nat} (hk : k < (oddsL P).length) (h : p ≤ nth (oddsL P) k) : plK P p (k + 1) = plK P p k + 1 := by
  unfold plK
  rw [take_next hk, List.filter_append, List.length_append]
  simp [h]
  omega
theorem plK_no {P : List Int} {p : Int} {k : Nat} (hk : k < (oddsL P).length) (h : ¬ p ≤ nth (oddsL P) k) : plK P p (k + 1) = plK P p k := by
  unfold plK
  rw [take_next hk, List.filter_append, List.length_append]
  simp [h]
theorem plK_le (P : List Int) (p : Int) (k : Nat) : 1 ≤ plK P p k ∧ plK P p k ≤ k + 1 := by
  unfold plK
  have h1 := List.length_filter_le (fun x => decide (p ≤ x)) ((oddsL P).take k)
  have h2 : ((oddsL P).take k).length ≤ k := by simp; omega
  omega
theorem plK_all (P : List Int) (p : Int) : plK P p (oddsL P).length = (placesL P p : Int) := by
  unfold plK placesL
  rw [List.take_length]
  omega

set_option maxRecDepth 100000 in
set_option maxHeartbeats 4000000 in
theorem placesFrom_is {w : World} {s : Value} {O P : List Int} {zss : List (List Int)} {p : Int} (hs : ScaleAt w s O zss P) :
    Calls Tryd.prog 76 #[s, .int .i64 p] w fun e w' => e = .returned (.int .i64 (placesL P p)) ∧ Below w.heap.size w w' := by
  obtain ⟨ao, an, ap, aq, co, cn, cp, cq, rfl, hg, hq⟩ := hs
  obtain ⟨w1, hw1⟩ : ∃ y, y = w.alloc (.cells (scaA (.slice ao O.length co) (.slice an zss.length cn) (.slice ap P.length cp) (.slice aq (oddsL P).length cq) (mostL P)) 90) := ⟨_, rfl⟩
  have HW1 := Lib.hid hw1
  have B1 : Hid (Below w.heap.size w w1) := by rw [hw1]; exact below1 _ _
  have S1 : w1.rowIs w.heap.size 90 17 (scaF (.slice ao O.length co) (.slice an zss.length cn) (.slice ap P.length cp) (.slice aq (oddsL P).length cq) (mostL P)) := by
    rw [hw1]; exact sca_of (heap_alloc_new _ _)
  have c3 : w1.cell? ⟨w.heap.size, 3, none⟩ = some (.slice aq (oddsL P).length cq) := S1.cell (i := 3) (by omega)
  have c3' := c3
  rw [hw1] at c3'
  have HQ := Lib.hid (hq.below B1.out)
  have hql := hq.len
  have hol : (oddsL P).length ≤ 20 := downL_len P 20
  unfold scaV
  clear hw1 hg hq S1
  go_enter Tryd.func76, Tryd.ntmps76
  go_wp2
  rw [← HW1.out]
  go_loopw [5, 11] (fun nv iv wr => ∃ k : Nat, k ≤ (oddsL P).length ∧ nv = .int .i64 (plK P p k) ∧ iv = .int .i64 k ∧ w1 = wr) (fun _ iv _ => (oddsL P).length - (intOf iv).toNat)
  case atStart => exact ⟨0, Nat.zero_le _, rfl, rfl, rfl⟩
  case round =>
    obtain ⟨k, hk, rfl, rfl, rfl⟩ := hrel
    by_cases hlt : k < (oddsL P).length
    · have hi1 : (k : Int) < (oddsL P).length := by omega
      have hk0 : (0 : Int) ≤ (k : Int) := by omega
      obtain ⟨qb, qo, hqa, hqc⟩ := HQ.out.cell (by omega)
      have q1 := hqc k hlt
      have hb := plK_le P p k
      have HY := Lib.hid (plK_yes (p := p) hlt)
      have HN := Lib.hid (plK_no (p := p) hlt)
      obtain ⟨z, hz⟩ : ∃ z, z = nth (oddsL P) k := ⟨_, rfl⟩
      obtain ⟨c, hc⟩ : ∃ c, c = plK P p k := ⟨_, rfl⟩
      have HZ := Lib.hid hz
      have HCc := Lib.hid hc
      rw [← hz] at q1
      rw [← hc] at hb ⊢
      subst hqa
      clear hqc hz hc
      by_cases hq : p ≤ z
      · have HE : Hid (plK P p (k + 1) = c + 1) := by rw [HCc.out]; exact HY.out (by rw [← HZ.out]; exact hq)
        go_wp2
        go_roundw
        case rel => exact ⟨k + 1, by omega, by (rw [HE.out]; try go_num), by go_num, by first | rfl | trivial⟩
        case measure => simp [intOf]; omega
      · have HE : Hid (plK P p (k + 1) = c) := by rw [HCc.out]; exact HN.out (by rw [← HZ.out]; exact hq)
        go_wp2
        go_roundw
        case rel => exact ⟨k + 1, by omega, by rw [HE.out], by go_num, by first | rfl | trivial⟩
        case measure => simp [intOf]; omega
    · have hi1 : ¬ (k : Int) < (oddsL P).length := by omega
      have HE : Hid (plK P p k = (placesL P p : Int)) := by
        have : k = (oddsL P).length := by omega
        rw [this]; exact plK_all P p
      go_wp2
      go_ret
      exact ⟨by show Ending.returned (.int .i64 (plK P p k)) = _; rw [HE.out], B1.out⟩

theorem row_zeros {b : Nat} {T : TypeId} {n : Nat} : ∀ (c o : Nat) {w : World} {f : Nat → Value}, w.rowIs b T n f → ((w.setCells b o (List.replicate c (.int .i64 0))).rowIs b T n (fun i => if o ≤ i ∧ i < o + c then .int .i64 0 else f i) ∧ Only (fun x => x = b) w (w.setCells b o (List.replicate c (.int .i64 0))))
  | 0, o, w, f, h => ⟨World.rowIs.congr h fun i _ => by rw [if_neg (by omega)], Only.refl _ _⟩
  | c + 1, o, w, f, h => by
    obtain ⟨h1, h2⟩ := row_zeros c (o + 1) (h.set o (.int .i64 0))
    refine ⟨World.rowIs.congr h1 fun i hi => ?_, ((Only.refl (fun x => x = b) w).setCell (p := ⟨b, o, none⟩) rfl _).trans h2⟩
    by_cases e : i = o
    · subst e; rw [if_neg (by omega), if_pos rfl, if_pos (by omega)]
    · by_cases h3 : o + 1 ≤ i ∧ i < o + 1 + c
      · rw [if_pos h3, if_pos (by omega)]
      · rw [if_neg h3, if_neg e, if_neg (by omega)]
theorem zeros_list (n : Nat) : (Builtin.zeroCells #[Value.int .i64 0] n).toList = List.replicate n (.int .i64 0) := by
  refine List.ext_getElem (by simp [Builtin.zeroCells]) fun i h1 h2 => ?_
  simp [Builtin.zeroCells, Nat.mod_one]
theorem wpList_clear8 {ops : Array Oper} {rest : List Oper} {o : Oper} {a : Act} {w : World} {Q : Exit → Act → World → Prop} {b k n c : Nat} {m : List Int} {T : TypeId} (hgd : o.guard = none) (s : Operand) (ho : o.op = .call { callee := .builtin .clear, args := #[s], argTypes := #[22] })
    (hs : a.eval s = .slice (some ⟨b, k, none⟩) n c) (hr : w.rowIs b T 13 (meaF m)) (hn : k + n = 13)
    (h : ∀ w', w'.rowIs b T 13 (meaF (m.take k)) → Only (fun x => x = b) w w' → wpList Tryd.prog ops Q rest (a.put o.dst (.tuple #[])) w') : wpList Tryd.prog ops Q (o :: rest) a w := by
  obtain ⟨h1, h2⟩ := row_zeros n k hr
  have hrun : (Builtin.clear_ #[22] o.type #[.slice (some ⟨b, k, none⟩) n c]).run Tryd.prog w = .ok (.tuple #[]) (w.setCells b k (List.replicate n (.int .i64 0))) := by
    cases n with
    | zero => simp [Builtin.clear_, run_underlying Tryd.underlying22, World.setCells]
    | succ n =>
      have hst := run_storeCells_cells (P := Tryd.prog) b k (List.replicate (n + 1) (.int .i64 0)) 0 w (fun j hj => by rw [Nat.add_zero, hr.cell (by simp at hj; omega)]; rfl) (fun j hj => hr.frozen _) (fun v hv => by rw [List.eq_of_mem_replicate hv]; rfl)
      rw [Nat.add_zero] at hst
      have hz := zeros_list (n + 1)
      simp [Builtin.clear_, run_underlying Tryd.underlying22, Tryd.zeroValue2, Value.cells, hz, hst]
  refine wpList_plain hgd fun K hK => ?_
  unfold Oper.wp execOp
  simp only [ho, resolve, invoke, builtin, Sem.run_bind, Sem.run_pure, Result.andThen_ok, List.map_toArray, List.map_cons, List.map_nil, hs, hrun]
  refine hK _ _ (h _ (World.rowIs.congr h1 fun i hi => ?_) h2)
  unfold meaF
  rw [nth_take8]
  by_cases h3 : k ≤ i ∧ i < k + n
  · rw [if_pos h3, if_neg (by omega)]
  · rw [if_neg h3, if_pos (by omega)]


theorem rowIs_drewN8 {w : World} {b : Nat} {t : TypeId} {n : Nat} {f : Nat → Value} (h : w.rowIs b t n f) (q : Nat) : (w.drewN q).rowIs b t n f := rowIs_below h (below_drewN (Below.refl _ _) q)
theorem wpList_clear0 {ops : Array Oper} {rest : List Oper} {o : Oper} {a : Act} {w : World} {Q : Exit → Act → World → Prop} {x : Option Addr} {c : Nat} (hgd : o.guard = none) (s : Operand) (ho : o.op = .call { callee := .builtin .clear, args := #[s], argTypes := #[22] })
    (hs : a.eval s = .slice x 0 c) (h : wpList Tryd.prog ops Q rest (a.put o.dst (.tuple #[])) w) : wpList Tryd.prog ops Q (o :: rest) a w := by
  have hrun : (Builtin.clear_ #[22] o.type #[.slice x 0 c]).run Tryd.prog w = .ok (.tuple #[]) w := by
    cases x <;> simp [Builtin.clear_, run_underlying Tryd.underlying22]
  refine wpList_plain hgd fun K hK => ?_
  unfold Oper.wp execOp
  simp only [ho, resolve, invoke, builtin, Sem.run_bind, Sem.run_pure, Result.andThen_ok, List.map_toArray, List.map_cons, List.map_nil, hs, hrun]
  exact hK _ _ h
theorem ret_mea1 {fn : Func} {p : Tmp} {tmps : Array Value} {W : World} {g : Nat} {m : List Int} {R : Ending → World → Prop} (hr : fn.results = #[.cell p 88]) (hp : tmps.getD p undef = .pointer (some ⟨g, 0, none⟩))
    (hM : W.heap[g]? = some (.cells (meaA m) 88 (0, 0))) (hR : R (.returned (meaV m)) W) : bodyPost Tryd.prog fn R .ret { tmps := tmps, defers := [] } W :=
  bodyPost_ret (v := meaV m) (results_cell_row hr tmps _ g _ _ _ _ hp hM Tryd.underlying88 rfl (by kernel_rfl)) rfl hR

set_option linter.unusedSimpArgs false in
set_option maxRecDepth 100000 in
set_option maxHeartbeats 4000000 in
theorem head_is {w : World} {m : List Int} {k : Nat} (hk : k ≤ 13) :
    Calls Tryd.prog 77 #[meaV m, .int .i64 k] w fun e w' => e = .returned (meaV (m.take k)) ∧ Below w.heap.size w w' := by
  obtain ⟨w1, hw1⟩ : ∃ y, y = (w.alloc (.cells (meaA m) 88)).alloc (.cells #[.int .i64 0, .int .i64 0, .int .i64 0, .int .i64 0, .int .i64 0, .int .i64 0, .int .i64 0, .int .i64 0, .int .i64 0, .int .i64 0, .int .i64 0, .int .i64 0, .int .i64 0] 88) := ⟨_, rfl⟩
  have HW1 := Lib.hid hw1
  have B1 : Hid (Below w.heap.size w w1) := by rw [hw1]; exact below2 _ _ _
  have R1 : Hid (w1.rowIs w.heap.size 88 13 (meaF m)) := by rw [hw1]; exact World.rowIs.alloc (mea_of (heap_alloc_new _ _)) _
  have N1 : Hid (w1.heap[w.heap.size + 1]? = some (.cells (meaA []) 88 (0, 0))) := by rw [hw1]; exact heap_alloc2_new _ _ _
  unfold meaV
  clear hw1
  have hk0 : (0 : Int) ≤ (k : Int) := by omega
  have hk1 : (k : Int) ≤ 13 := by omega
  by_cases h13 : k = 13
  · have HT : Hid (w1.rowIs w.heap.size 88 13 (meaF (m.take k))) := World.rowIs.congr R1.out fun i hi => by
      unfold meaF
      rw [nth_take8, if_pos (by omega)]
    have HTc := Lib.hid (mea_cells HT.out)
    subst h13
    go_enter Tryd.func77, Tryd.ntmps77
    go_upto_region 1 with fail
    rw [← HW1.out]
    go_upto_region 2 with (refine wpList_clear0 rfl _ rfl rfl ?_)
    refine wp_region_lit ?_
    refine wpList_load_row rfl 88 _ rfl w.heap.size rfl 88 (meaA (m.take 13)) (0, 0) _ HTc.out Tryd.underlying88 rfl (by kernel_rfl) ?_
    simp only [Act.put, List.setIfInBounds_toArray, List.set_cons_zero, List.set_cons_succ]
    refine wpList_store_row rfl 88 _ _ rfl (w.heap.size + 1) (meaA (m.take 13)) rfl rfl 88 (meaA []) N1.out (by kernel_rfl) rfl (meaA_one _) ?_
    simp only [Act.put, List.setIfInBounds_toArray, List.set_cons_zero, List.set_cons_succ]
    go_wp2_with fail
    have ho := only_row8 (S := fun x => x = w.heap.size + 1) (Only.refl _ w1) rfl (meaA (m.take 13))
    exact ret_mea1 (g := w.heap.size + 1) rfl rfl (setRow_heap _ _ _ _ _ _ N1.out) ⟨rfl, B1.out.trans (ho.below B1.out.size (fun x hx => by rw [hx]; omega))⟩
  · have h13a : ¬ (13 : Nat) = k := fun e => h13 e.symm
    have hlt : (k : Int) < 13 := by omega
    go_enter Tryd.func77, Tryd.ntmps77
    go_upto_region 1 with fail
    rw [← HW1.out]
    go_upto_region 2 with (refine wpList_clear8 rfl _ rfl rfl R1.out (by omega) ?_; intro w2 hr2 ho2)
    have HTc := Lib.hid (mea_cells hr2)
    have HO2 := Lib.hid ho2
    have N2 := Lib.hid ((ho2.block _ (Array.getElem?_eq_some_iff.1 N1.out).1 (fun e => by omega)).trans N1.out)
    have B2 := Lib.hid (B1.out.trans (ho2.below B1.out.size (fun x hx => by rw [hx]; exact Nat.le_refl _)))
    clear hr2 ho2
    refine wp_region_lit ?_
    refine wpList_load_row rfl 88 _ rfl w.heap.size rfl 88 (meaA (m.take k)) (0, 0) _ HTc.out Tryd.underlying88 rfl (by kernel_rfl) ?_
    simp only [Act.put, List.setIfInBounds_toArray, List.set_cons_zero, List.set_cons_succ]
    refine wpList_store_row rfl 88 _ _ rfl (w.heap.size + 1) (meaA (m.take k)) rfl rfl 88 (meaA []) N2.out (by kernel_rfl) rfl (meaA_one _) ?_
    simp only [Act.put, List.setIfInBounds_toArray, List.set_cons_zero, List.set_cons_succ]
    go_wp2_with fail
    have ho := only_row8 (S := fun x => x = w.heap.size + 1) (Only.refl _ w2) rfl (meaA (m.take k))
    exact ret_mea1 (g := w.heap.size + 1) rfl rfl (setRow_heap _ _ _ _ _ _ N2.out) ⟨rfl, B2.out.trans (ho.below B2.out.size (fun x hx => by rw [hx]; omega))⟩

theorem isNaN8 (x : Int) (w : World) : Calls Tryd.prog 159 #[.int .i64 x] w fun e w' => e = .returned (.bool false) ∧ w = w' := by
  have h1 : (x != x) = false := by simp
  go_enter Tryd.func159, Tryd.ntmps159
  go_wp2
  go_ret
  exact ⟨rfl, rfl⟩
set_option maxHeartbeats 2000000 in
theorem cmp8_is {x y v : Int} (hv : (if x < y then -1 else if y < x then 1 else 0) = v) (w : World) : Calls Tryd.prog 145 #[.int .i64 x, .int .i64 y] w fun e w' => e = .returned (.int .i64 v) ∧ w = w' := by
  by_cases h1 : x < y
  · rw [if_pos h1] at hv
    subst hv
    go_enter Tryd.func145, Tryd.ntmps145
    go_wp2_with (go_at_call 159; refine (isNaN8 _ _).mono ?_; rintro e w' ⟨rfl, rfl⟩)
    go_ret
    exact ⟨rfl, rfl⟩
  · rw [if_neg h1] at hv
    by_cases h2 : y < x
    · rw [if_pos h2] at hv
      subst hv
      go_enter Tryd.func145, Tryd.ntmps145
      go_wp2_with (go_at_call 159; refine (isNaN8 _ _).mono ?_; rintro e w' ⟨rfl, rfl⟩)
      go_ret
      exact ⟨rfl, rfl⟩
    · rw [if_neg h2] at hv
      subst hv
      go_enter Tryd.func145, Tryd.ntmps145
      go_wp2_with (go_at_call 159; refine (isNaN8 _ _).mono ?_; rintro e w' ⟨rfl, rfl⟩)
      go_ret
      exact ⟨rfl, rfl⟩

set_option maxHeartbeats 4000000 in
theorem Compare13_is {w : World} {a b : List Int} {ga gb : Nat} {r : Int} (hr : cmpF a b 0 13 = r) (ha : ∀ j, j < 13 → w.cell? ⟨ga, j, none⟩ = some (.int .i64 (nth a j))) (hb : ∀ j, j < 13 → w.cell? ⟨gb, j, none⟩ = some (.int .i64 (nth b j))) :
    Calls Tryd.prog 118 #[.slice (some ⟨ga, 0, none⟩) 13 13, .slice (some ⟨gb, 0, none⟩) 13 13] w fun e w' => e = .returned (.int .i64 r) ∧ w = w' := by
  have HA := Lib.hid ha
  have HB := Lib.hid hb
  have HR := Lib.hid hr
  clear ha hb hr
  go_enter Tryd.func118, Tryd.ntmps118
  go_wp2
  go_loopw [11] (fun iv wr => ∃ k : Nat, k ≤ 13 ∧ iv = .int .i64 k ∧ Hid (∀ j, j < k → nth a j = nth b j) ∧ w = wr) (fun iv _ => 13 - (intOf iv).toNat)
  case atStart => exact ⟨0, Nat.zero_le _, rfl, fun j hj => absurd hj (Nat.not_lt_zero _), rfl⟩
  case round =>
    obtain ⟨k, hk, rfl, HJ, rfl⟩ := hrel
    by_cases hlt : k < 13
    · have hi1 : (k : Int) < 13 := by omega
      have hk0 : (0 : Int) ≤ (k : Int) := by omega
      have hge : ¬ (13 : Int) ≤ (k : Int) := by omega
      have x1 := HA.out k hlt
      have y1 := HB.out k hlt
      have HC := Lib.hid (cmpF_at hlt HJ.out)
      obtain ⟨x, hx⟩ : ∃ x, x = nth a k := ⟨_, rfl⟩
      obtain ⟨y, hy⟩ : ∃ y, y = nth b k := ⟨_, rfl⟩
      have HX := Lib.hid hx
      have HY := Lib.hid hy
      rw [← hx] at x1
      rw [← hy] at y1
      rw [← hx, ← hy] at HC
      clear hx hy
      by_cases h1 : x < y
      · have HE : Hid (-1 = r) := by rw [← HR.out, HC.out, if_pos h1]; rfl
        have HM := Lib.hid (cmp8_is (v := -1) (if_pos h1) w)
        clear h1
        go_wp2_with (go_at_call 145; refine HM.out.mono ?_; rintro e w' ⟨rfl, rfl⟩)
        go_ret
        exact ⟨by rw [← HE.out]; rfl, rfl⟩
      · by_cases h2 : y < x
        · have HE : Hid (1 = r) := by rw [← HR.out, HC.out, if_neg h1, if_pos h2]; rfl
          have HM := Lib.hid (cmp8_is (v := 1) (by rw [if_neg h1, if_pos h2]) w)
          clear h1 h2
          go_wp2_with (go_at_call 145; refine HM.out.mono ?_; rintro e w' ⟨rfl, rfl⟩)
          go_ret
          exact ⟨by rw [← HE.out]; rfl, rfl⟩
        · have HJn : Hid (∀ j, j < k + 1 → nth a j = nth b j) := fun j hj => by
            by_cases e : j = k
            · rw [e, ← HX.out, ← HY.out]; omega
            · exact HJ.out j (by omega)
          have HM := Lib.hid (cmp8_is (v := 0) (by rw [if_neg h1, if_neg h2]) w)
          clear h1 h2
          go_wp2_with (go_at_call 145; refine HM.out.mono ?_; rintro e w' ⟨rfl, rfl⟩)
          go_roundw
          case rel => exact ⟨k + 1, by omega, by go_num, HJn, by first | rfl | trivial⟩
          case measure => simp [intOf]; omega
    · have hi1 : ¬ (k : Int) < 13 := by omega
      have HE : Hid (0 = r) := by rw [← HR.out, cmpF_end (fun j hj => HJ.out j (by omega))]; rfl
      go_wp2
      go_ret
      exact ⟨by rw [← HE.out]; rfl, rfl⟩

set_option maxHeartbeats 4000000 in
theorem compare_is {w : World} {a b : List Int} {r : Int} (hr : cmpF a b 0 13 = r) :
    Calls Tryd.prog 78 #[meaV a, meaV b] w fun e w' => e = .returned (.int .i64 r) ∧ Below w.heap.size w w' := by
  obtain ⟨w1, hw1⟩ : ∃ y, y = (w.alloc (.cells (meaA a) 88)).alloc (.cells (meaA b) 88) := ⟨_, rfl⟩
  have HW1 := Lib.hid hw1
  have B1 : Hid (Below w.heap.size w w1) := by rw [hw1]; exact below2 _ _ _
  have RA : w1.rowIs w.heap.size 88 13 (meaF a) := by rw [hw1]; exact World.rowIs.alloc (mea_of (heap_alloc_new _ _)) _
  have RB : w1.rowIs (w.heap.size + 1) 88 13 (meaF b) := by rw [hw1]; exact mea_of (heap_alloc2_new _ _ _)
  have HC := Lib.hid (fun q => Compare13_is (w := w1.drewN q) (ga := w.heap.size) (gb := w.heap.size + 1) hr (fun j hj => (rowIs_drewN8 RA q).cell hj) (fun j hj => (rowIs_drewN8 RB q).cell hj))
  unfold meaV
  clear hw1 RA RB hr
  go_enter Tryd.func78, Tryd.ntmps78
  go_wp2
  rw [← HW1.out]
  go_quiet ((go_at_call 118; exact quiet_eq (HC.out _)))
  go_wp2
  go_ret
  exact ⟨rfl, below_drewN B1.out _⟩

end
end Go.Proofs.YtglbkbiphcgidaaDoor
namespace Go.Proofs.YtglbkbiphcgidaaDoor
section
open Go.RowKit Go.Shelf

theorem info_mea : (Tryd.prog.info? 88).map (fun i => (i.zero, i.size, i.bytes)) = some (some (.agg #[.int .i64 0, .int .i64 0, .int .i64 0, .int .i64 0, .int .i64 0, .int .i64 0, .int .i64 0, .int .i64 0, .int .i64 0, .int .i64 0, .int .i64 0, .int .i64 0, .int .i64 0]), 13, 104) := by kernel_rfl
theorem scaA_one {a b c d : Value} (ha : a.oneCell' = true) (hb : b.oneCell' = true) (hc : c.oneCell' = true) (hd : d.oneCell' = true) (M : List Int) : (scaA a b c d M).all (·.oneCell') = true := by
  have h : ∀ n, (Value.int .i64 n).oneCell' = true := fun _ => rfl
  simp [scaA, ha, hb, hc, hd, h]
/-- The cells of measures, one behind another. -/
def meaL (ls : List (List Int)) : List Value := (ls.map fun m => (meaA m).toList).flatten
theorem meaL_snoc {ls : List (List Int)} {k : Nat} (h : k < ls.length) : meaL (ls.take (k + 1)) = meaL (ls.take k) ++ (meaA (row ls k)).toList := by
  unfold meaL
  rw [List.take_succ_eq_append_getElem h, List.map_append, List.flatten_append]
  congr 1
  have e : row ls k = ls[k] := by unfold row; simp [h]
  rw [e]
  simp
set_option linter.unusedSimpArgs false in
theorem wpList_move8 {P : Program} {ops : Array Oper} {rest : List Oper} {o : Oper} {a : Act} {w : World} {Q : Exit → Act → World → Prop} (hgd : o.guard = none) (x : Operand) (ho : o.op = .move x ∨ o.op = .assign x) (h : wpList P ops Q rest (a.put o.dst (a.eval x)) w) : wpList P ops Q (o :: rest) a w := by
  refine wpList_plain hgd fun K hK => ?_
  unfold Oper.wp execOp
  rcases ho with ho | ho <;> simp only [ho, Sem.run_pure, Sem.run_bind, Result.andThen_ok] <;> exact hK _ _ h
theorem fill_mea (m : List Int) : Instr.fill (fun i => some (i * 13, 13)) ((Array.range (1 * 13)).map ((Value.agg #[.int .i64 0, .int .i64 0, .int .i64 0, .int .i64 0, .int .i64 0, .int .i64 0, .int .i64 0, .int .i64 0, .int .i64 0, .int .i64 0, .int .i64 0, .int .i64 0, .int .i64 0]).cells[· % (Value.agg #[.int .i64 0, .int .i64 0, .int .i64 0, .int .i64 0, .int .i64 0, .int .i64 0, .int .i64 0, .int .i64 0, .int .i64 0, .int .i64 0, .int .i64 0, .int .i64 0, .int .i64 0]).cells.size]!)) [(0, .agg (meaA m))] = some (meaA m) := by kernel_rfl
theorem mea_news {w : World} {g : Nat} {T : TypeId} {m : List Int} (h : w.heap[g]? = some (.cells (meaA m) T (0, 0))) : ∀ j u, (meaA m).toList[j]? = some u → w.cell? ((⟨g, 0, none⟩ : Addr).add j) = some u := by
  intro j u hj
  rw [Addr.add_mid, Nat.zero_add, cell_of_row _ _ _ _ _ _ h, ← Array.getElem?_toList]
  exact hj
theorem mea_ones (m : List Int) : ∀ u ∈ (meaA m).toList, u.oneCell' = true := by
  intro u hu
  have h := meaA_one m
  rw [Array.all_eq_true'] at h
  exact h u (by simpa using hu)
theorem ret_sca3 {fn : Func} {p q r : Tmp} {tmps : Array Value} {W : World} {g : Nat} {a b c d va : Value} {M : List Int} {x : Bool} {R : Ending → World → Prop} (hr : fn.results = #[.cell p 90, .tmp q, .tmp r]) (hp : tmps.getD p undef = .pointer (some ⟨g, 0, none⟩)) (hq : tmps.getD q undef = va) (hx : tmps.getD r undef = .bool x)
    (hM : W.heap[g]? = some (.cells (scaA a b c d M) 90 (0, 0))) (hR : R (.returned (.tuple #[scaV a b c d M, va, .bool x])) W) : bodyPost Tryd.prog fn R .ret { tmps := tmps, defers := [] } W := by
  refine bodyPost_ret (v := .tuple #[scaV a b c d M, va, .bool x]) ?_ rfl hR
  have hp' : tmps[p]?.getD undef = .pointer (some ⟨g, 0, none⟩) := by simpa using hp
  have hq' : tmps[q]?.getD undef = va := by simpa using hq
  have hx' : tmps[r]?.getD undef = .bool x := by simpa using hx
  have hl := run_loadVar_row (P := Tryd.prog) W g 90 90 (scaA a b c d M) (0, 0) _ hM Tryd.underlying90 rfl (by kernel_rfl)
  simp [results, hr, hp', hq', hx', asAddr, hl, scaV]

/-- Are all of the lists measures of a small game? -/
noncomputable def goodsB (O : List Int) (zss : List (List Int)) (P : List Int) (ls : List (List Int)) : Bool := smallB O zss P && ls.all (goodB P)
theorem goodsB_no {O P : List Int} {zss ls : List (List Int)} {k : Nat} (hk : k < ls.length) (h : goodB P (row ls k) = false) : goodsB O zss P ls = false := by
  cases hg : goodsB O zss P ls with
  | false => rfl
  | true =>
    unfold goodsB at hg
    rw [Bool.and_eq_true, List.all_eq_true] at hg
    have e : row ls k = ls[k] := by unfold row; simp [hk]
    rw [e, hg.2 _ (List.getElem_mem hk)] at h
    cases h
theorem goodsB_yes {O P : List Int} {zss ls : List (List Int)} (hs : smallB O zss P = true) (h : ∀ k, k < ls.length → goodB P (row ls k) = true) : goodsB O zss P ls = true := by
  unfold goodsB
  rw [hs, Bool.true_and, List.all_eq_true]
  intro x hx
  obtain ⟨k, hk, rfl⟩ := List.mem_iff_getElem.1 hx
  have e : row ls k = ls[k] := by unfold row; simp [hk]
  rw [← e]; exact h k hk

set_option linter.unusedSimpArgs false in
set_option maxRecDepth 100000 in
set_option maxHeartbeats 16000000 in
theorem measuresIn_is {w : World} {v : Value} {O P : List Int} {zss ls : List (List Int)} {al : Option Addr} {LA : Nat → Option Addr} {LC : Nat → Nat} {r : Bool} (cl : Nat) (hr : goodsB O zss P ls = r) (hW : LostW w) (h : GameAt w v O zss P) (hls : RowsAt w al LA LC ls) (hll : ls.length ≤ 1048576) :
    Calls Tryd.prog 74 #[v, .slice al ls.length cl] w fun e w' => ∃ a b c d M va, e = .returned (.tuple #[scaV a b c d M, va, .bool r]) ∧ (r = true → ScaleAt w' (scaV a b c d M) O zss P ∧ w'.ownsRow w.heap.size 88 13 va ls.length (meaL ls)) ∧ (∃ x y z, va = .slice x y z) ∧ (a.oneCell' = true ∧ b.oneCell' = true ∧ c.oneCell' = true ∧ d.oneCell' = true) ∧ Below w.heap.size w w' := by
  obtain ⟨i0, hi, hz0, hz1, hz2⟩ := info_parts' info_mea
  have HGm := Lib.hid h
  obtain ⟨ao, an, ap, co, cn, cp, A, C, rfl, h1, h2, h3⟩ := h
  obtain ⟨w1, hw1⟩ : ∃ y, y = (w.alloc (.cells #[.slice ao O.length co, .slice an zss.length cn, .slice ap P.length cp] 35)).alloc (.cells #[.slice none 0 0, .slice none 0 0, .slice none 0 0, .slice none 0 0, .int .i64 0, .int .i64 0, .int .i64 0, .int .i64 0, .int .i64 0, .int .i64 0, .int .i64 0, .int .i64 0, .int .i64 0, .int .i64 0, .int .i64 0, .int .i64 0, .int .i64 0] 90) := ⟨_, rfl⟩
  have HW1 := Lib.hid hw1
  have B1 : Hid (Below w.heap.size w w1) := by rw [hw1]; exact below2 _ _ _
  have T1 : Hid (Box3 w1 w.heap.size 35 (.slice ao O.length co) (.slice an zss.length cn) (.slice ap P.length cp)) := by rw [hw1]; exact (Box3.new _ _ _ _ _).below (below1 _ _)
  have R1 : Hid (w1.heap[w.heap.size + 1]? = some (.cells (scaA (.slice none 0 0) (.slice none 0 0) (.slice none 0 0) (.slice none 0 0) []) 90 (0, 0))) := by rw [hw1]; exact heap_alloc2_new _ _ _
  have hs1 : Hid (w1.heap.size = w.heap.size + 2) := by rw [hw1]; simp [Hid]
  have HLs := Lib.hid hls
  have hln := hls.len
  have HL := Lib.hid hW
  have HR := Lib.hid hr
  have t0 := T1.out.c0
  have t1 := T1.out.c1
  have t2 := T1.out.c2
  clear hw1 h1 h2 h3 hls hW hr
  cases hs : smallB O zss P with
  | false =>
    have HC := Lib.hid (isSmall_is hs (HGm.out.below B1.out))
    have HF : Hid (r = false) := by rw [← HR.out]; unfold goodsB; rw [hs]; rfl
    clear hs
    go_enter Tryd.func74, Tryd.ntmps74
    go_wp2_with fail
    rw [← HW1.out]
    refine HC.out.mono ?_
    rintro e w2 ⟨rfl, hb⟩
    have B2 := Lib.hid (B1.out.trans (hb.mono B1.out.size))
    have R2 := Lib.hid ((hb.block _ (Array.getElem?_eq_some_iff.1 R1.out).1).trans R1.out)
    clear hb HC t0 t1 t2
    go_upto_region 2 with fail
    refine wp_region_lit ?_
    refine wpList_build rfl 90 _ rfl (by kernel_rfl) ?_
    simp only [Act.put, List.setIfInBounds_toArray, List.set_cons_zero, List.set_cons_succ]
    (refine wpList_store_row rfl 90 _ _ rfl (w.heap.size + 1) (scaA (.slice none 0 0) (.slice none 0 0) (.slice none 0 0) (.slice none 0 0) []) rfl (by first | rfl | kernel_rfl) 90 (scaA (.slice none 0 0) (.slice none 0 0) (.slice none 0 0) (.slice none 0 0) []) R2.out (by kernel_rfl) rfl (scaA_one rfl rfl rfl rfl _) ?_; simp only [Act.put, List.setIfInBounds_toArray, List.set_cons_zero, List.set_cons_succ])
    go_wp2_with fail
    have ho := only_row8 (S := fun x => x = w.heap.size + 1) (Only.refl _ w2) rfl (scaA (.slice none 0 0) (.slice none 0 0) (.slice none 0 0) (.slice none 0 0) [])
    rw [HF.out]
    exact ret_sca3 (g := w.heap.size + 1) rfl rfl rfl rfl (setRow_heap _ _ _ _ _ _ R2.out) ⟨_, _, _, _, _, _, rfl, (fun h => by cases h), ⟨_, _, _, rfl⟩, ⟨rfl, rfl, rfl, rfl⟩, B2.out.trans (ho.below B2.out.size (fun x hx => by rw [hx]; omega))⟩
  | true =>
    obtain ⟨hn, hp⟩ := smallB_iff.1 hs
    obtain ⟨hA, hPl, hPr⟩ := parityB_iff.1 hp
    have hn0 : 0 < P.length := by have := hA.1; omega
    have hl12 : (oddsL P).length ≤ 12 := Nat.le_trans (odds_len hPr) hn
    have HNS := Lib.hid (fun (W : World) (hb : Below w.heap.size w W) => newScale_is hPr hn0 hn (HGm.out.below hb))
    have HC := Lib.hid (isSmall_is hs (HGm.out.below B1.out))
    have HSm := Lib.hid hs
    clear hs hp hA hPl hPr
    go_enter Tryd.func74, Tryd.ntmps74
    go_wp2_with fail
    rw [← HW1.out]
    refine HC.out.mono ?_
    rintro e w2 ⟨rfl, hb⟩
    have B2 := Lib.hid (B1.out.trans (hb.mono B1.out.size))
    have R2 := Lib.hid ((hb.block _ (Array.getElem?_eq_some_iff.1 R1.out).1).trans R1.out)
    have T2 := Lib.hid (T1.out.below hb)
    have hsA := hb.size
    clear hb HC t0 t1 t2
    have t0 := T2.out.c0
    have t1 := T2.out.c1
    have t2 := T2.out.c2
    go_wp2_with fail
    refine (HNS.out w2 B2.out).mono ?_
    rintro e w3 ⟨aq, cq, rfl, hq3, hb⟩
    obtain ⟨sa, hsa⟩ : ∃ sa, sa = Value.slice ao O.length co := ⟨_, rfl⟩
    obtain ⟨sb, hsb⟩ : ∃ sb, sb = Value.slice an zss.length cn := ⟨_, rfl⟩
    obtain ⟨sc, hsc⟩ : ∃ sc, sc = Value.slice ap P.length cp := ⟨_, rfl⟩
    obtain ⟨sd, hsd⟩ : ∃ sd, sd = Value.slice aq (oddsL P).length cq := ⟨_, rfl⟩
    have HSA : Hid (∀ W, Below w.heap.size w W → OwnInts W w2.heap.size W.heap.size (.slice aq (oddsL P).length cq) (oddsL P) → ScaleAt W (scaV sa sb sc sd (mostL P)) O zss P) := fun W hb ho => ⟨ao, an, ap, aq, co, cn, cp, cq, by rw [hsa, hsb, hsc, hsd], HGm.out.below hb, own_ints8 ho⟩
    have HS3 := Lib.hid (HSA.out w3 (B2.out.trans (hb.mono B2.out.size)) hq3)
    have HQ3 := Lib.hid hq3
    have HO1 : Hid (sa.oneCell' = true ∧ sb.oneCell' = true ∧ sc.oneCell' = true ∧ sd.oneCell' = true) := by rw [hsa, hsb, hsc, hsd]; exact ⟨rfl, rfl, rfl, rfl⟩
    rw [← hsa, ← hsb, ← hsc, ← hsd]
    have B3 := Lib.hid (B2.out.trans (hb.mono B2.out.size))
    have R3 := Lib.hid ((hb.block _ (Array.getElem?_eq_some_iff.1 R2.out).1).trans R2.out)
    have hN3 : (w3.alloc (.cells #[.slice none 0 0, .slice none 0 0, .slice none 0 0, .slice none 0 0, .int .i64 0, .int .i64 0, .int .i64 0, .int .i64 0, .int .i64 0, .int .i64 0, .int .i64 0, .int .i64 0, .int .i64 0, .int .i64 0, .int .i64 0, .int .i64 0, .int .i64 0] 90)).heap[w3.heap.size]? = some (.cells (scaA (.slice none 0 0) (.slice none 0 0) (.slice none 0 0) (.slice none 0 0) []) 90 (0, 0)) := heap_alloc_new _ _
    have HN3 := Lib.hid hN3
    have hg33 : w.heap.size + 2 ≤ w3.heap.size := by have := hb.size; have := hs1.out; omega
    clear hb t0 t1 t2 hN3 hq3 hsa hsb hsc hsd
    go_wp2_with (refine wpList_store_row rfl 90 _ _ rfl w3.heap.size (scaA sa sb sc sd (mostL P)) rfl (by first | rfl | kernel_rfl) 90 (scaA (.slice none 0 0) (.slice none 0 0) (.slice none 0 0) (.slice none 0 0) []) HN3.out (by kernel_rfl) rfl (scaA_one HO1.out.1 HO1.out.2.1 HO1.out.2.2.1 HO1.out.2.2.2 _) ?_; simp only [Act.put, List.setIfInBounds_toArray, List.set_cons_zero, List.set_cons_succ])
    obtain ⟨w4, hw4⟩ : ∃ y, y = (w3.alloc (.cells #[.slice none 0 0, .slice none 0 0, .slice none 0 0, .slice none 0 0, .int .i64 0, .int .i64 0, .int .i64 0, .int .i64 0, .int .i64 0, .int .i64 0, .int .i64 0, .int .i64 0, .int .i64 0, .int .i64 0, .int .i64 0, .int .i64 0, .int .i64 0] 90)).setRow w3.heap.size (scaA sa sb sc sd (mostL P)) := ⟨_, rfl⟩
    rw [← hw4]
    have hb4 : Below w3.heap.size w3 w4 := by
      rw [hw4]
      exact (below1 w3 _).trans ((only_row8 (S := fun x => x = w3.heap.size) (Only.refl _ _) rfl _).below (below1 w3 _).size (fun x hx => by rw [hx]; exact Nat.le_refl _))
    have N4 : Hid (w4.heap[w3.heap.size]? = some (.cells (scaA sa sb sc sd (mostL P)) 90 (0, 0))) := by rw [hw4]; exact setRow_heap _ _ _ _ _ _ HN3.out
    have hs4 : w3.heap.size < w4.heap.size := by have := (Array.getElem?_eq_some_iff.1 N4.out).1; exact this
    have B4 := Lib.hid (B3.out.trans (hb4.mono B3.out.size))
    have S4 := Lib.hid (HS3.out.below hb4)
    have Q4 := Lib.hid (HQ3.out.below hb4)
    have R4 := Lib.hid ((hb4.block _ (Array.getElem?_eq_some_iff.1 R3.out).1).trans R3.out)
    have O4 : Hid (w4.ownsRow w4.heap.size 88 13 (.slice none 0 0) 0 (meaL (ls.take 0))) := World.ownsRow_nil _ _ _ _
    clear hw4 hb4 HN3
    go_loopw [8, 21] (fun va iv wr => ∃ k : Nat, k ≤ ls.length ∧ iv = .int .i64 k ∧ Hid (∀ j, j < k → goodB P (row ls j) = true) ∧ Hid (wr.ownsRow w4.heap.size 88 13 va k (meaL (ls.take k))) ∧ Hid (Below w4.heap.size w4 wr)) (fun _ iv _ => ls.length - (intOf iv).toNat)
    case atStart => exact ⟨0, Nat.zero_le _, rfl, fun j hj => absurd hj (Nat.not_lt_zero _), O4, Below.refl _ _⟩
    case round =>
      clear O4
      obtain ⟨k, hk, rfl, HJ, HO, HB⟩ := hrel
      have B5 := Lib.hid (B4.out.trans (HB.out.mono B4.out.size))
      have N5 := Lib.hid ((HB.out.block _ (Array.getElem?_eq_some_iff.1 N4.out).1).trans N4.out)
      have R5 := Lib.hid ((HB.out.block _ (Array.getElem?_eq_some_iff.1 R4.out).1).trans R4.out)
      have S5 := Lib.hid (S4.out.below HB.out)
      have Q5 := Lib.hid (Q4.out.below HB.out)
      by_cases hlt : k < ls.length
      · have hi1 : (k : Int) < ls.length := by omega
        have hk0 : (0 : Int) ≤ (k : Int) := by omega
        have HLr := Lib.hid (HLs.out.below B5.out)
        obtain ⟨lb, lo, hla, hlc⟩ := HLr.out.cell (by omega)
        have x1 := hlc k hlt
        have HRI := Lib.hid (HLr.out.rows k hlt)
        obtain ⟨mm, hmm⟩ : ∃ mm, mm = row ls k := ⟨_, rfl⟩
        have HMM := Lib.hid hmm
        rw [← hmm] at x1 HRI
        subst hla
        clear hlc hmm
        obtain ⟨g, hg⟩ : ∃ g, goodB P mm = g := ⟨_, rfl⟩
        have HMO : Hid (Calls Tryd.prog 117 #[scaV sa sb sc sd (mostL P), .slice (LA k) mm.length (LC k)] wr fun e w' => e = .returned (.tuple #[meaV (if g = true then mm else []), .bool g]) ∧ Below wr.heap.size wr w') := by
          rw [← hg]
          exact measureOf_is (LC k) (HL.out.below B5.out) S5.out HRI.out hl12
        cases g with
        | true =>
          have HG : Hid (∀ j, j < k + 1 → goodB P (row ls j) = true) := fun j hj => by
            by_cases e : j = k
            · rw [e, ← HMM.out]; exact hg
            · exact HJ.out j (by omega)
          rw [if_pos rfl] at HMO
          clear hg
          go_upto_region 11 with (first | (refine wpList_load_row rfl 90 _ rfl w3.heap.size rfl 90 (scaA sa sb sc sd (mostL P)) (0, 0) _ N5.out Tryd.underlying90 rfl (by kernel_rfl) ?_; simp only [Act.put, List.setIfInBounds_toArray, List.set_cons_zero, List.set_cons_succ]) | (go_at_call 117; refine HMO.out.mono ?_; rintro e w6 ⟨rfl, hb⟩; have K6 := Lib.hid hb; clear hb) | (refine wpList_store_row rfl 88 _ _ rfl w6.heap.size (meaA mm) rfl (by first | rfl | kernel_rfl) 88 (meaA []) (heap_alloc_new w6 _) (by kernel_rfl) rfl (meaA_one _) ?_; simp only [Act.put, List.setIfInBounds_toArray, List.set_cons_zero, List.set_cons_succ]))
          obtain ⟨w7, hw7⟩ : ∃ y, y = (w6.alloc (.cells #[.int .i64 0, .int .i64 0, .int .i64 0, .int .i64 0, .int .i64 0, .int .i64 0, .int .i64 0, .int .i64 0, .int .i64 0, .int .i64 0, .int .i64 0, .int .i64 0, .int .i64 0] 88)).setRow w6.heap.size (meaA mm) := ⟨_, rfl⟩
          rw [← hw7]
          have hb7 : Below w6.heap.size w6 w7 := by
            rw [hw7]
            exact (below1 w6 _).trans ((only_row8 (S := fun x => x = w6.heap.size) (Only.refl _ _) rfl _).below (below1 w6 _).size (fun x hx => by rw [hx]; exact Nat.le_refl _))
          have N7 : Hid (w7.heap[w6.heap.size]? = some (.cells (meaA mm) 88 (0, 0))) := by rw [hw7]; exact setRow_heap _ _ _ _ _ _ (heap_alloc_new _ _)
          have K7 := Lib.hid (K6.out.trans (hb7.mono K6.out.size))
          have hb8 : Below w7.heap.size w7 (w7.alloc (.cells (meaA mm) 88)) := below1 _ _
          have K8 := Lib.hid (K7.out.trans (hb8.mono K7.out.size))
          have N8 : Hid ((w7.alloc (.cells (meaA mm) 88)).heap[w7.heap.size]? = some (.cells (meaA mm) 88 (0, 0))) := heap_alloc_new _ _
          have O8 := Lib.hid (ownsRow_only HO.out (S := fun _ => False) (Only.of_below K8.out) (fun _ _ h => h))
          have hsB := HB.out.size
          have hsK := K8.out.size
          clear hw7 hb7 hb8
          refine wp_region_lit ?_
          refine wpList_move8 rfl _ (.inl rfl) ?_
          simp only [Act.put, List.setIfInBounds_toArray, List.set_cons_zero, List.set_cons_succ]
          (refine wpList_load_row rfl 88 _ rfl w6.heap.size rfl 88 (meaA mm) (0, 0) _ N7.out Tryd.underlying88 rfl (by kernel_rfl) ?_; simp only [Act.put, List.setIfInBounds_toArray, List.set_cons_zero, List.set_cons_succ])
          (refine wpList_buildSlice rfl 91 88 1 _ rfl (meaA mm) i0 _ Tryd.underlying91 hi hz0 (by rw [hz1]; decide) (by rw [hz1]; decide) (by rw [hz1]; exact (congrArg (Instr.fill _ _) (by kernel_rfl)).trans (fill_mea mm)) ?_; simp only [Act.put, List.setIfInBounds_toArray, List.set_cons_zero, List.set_cons_succ])
          (refine wpList_append_own_at _ rfl _ _ 91 rfl w4.heap.size 88 i0 _ 13 104 Tryd.underlying91 hi hz0 hz1 hz2 rfl (by decide) _ _ _ rfl O8.out ⟨w7.heap.size, 0, none⟩ 1 1 (meaA mm).toList rfl rfl ?c1 ?c2 ?c3 ?c4 ?c5 ?_)
          case c1 => exact mea_news N8.out
          case c2 => exact mea_ones mm
          case c3 => unfold maxLen; omega
          case c4 => omega
          case c5 => omega
          intro v' w9 hown hgrow _ _
          have hg9 : Only (fun b => w4.heap.size ≤ b) (w7.alloc (.cells (meaA mm) 88)) w9 := (Only.of_grown hgrow).mono fun b hb => (O8.out.lt b hb).1
          have Kn := Lib.hid (((HB.out.trans (K8.out.mono hsB))).trans (hg9.below (B := w4.heap.size) (Nat.le_trans hsB hsK) (fun _ h => h)))
          have HOn : Hid (w9.ownsRow w4.heap.size 88 13 v' (k + 1) (meaL (ls.take (k + 1)))) := by
            rw [meaL_snoc hlt, ← HMM.out]; exact hown
          clear hown hgrow hg9
          go_wp2
          go_roundw
          case rel => exact ⟨k + 1, by omega, by go_num, HG, HOn, Kn⟩
          case measure => simp [intOf]; omega
        | false =>
          have HF : Hid (r = false) := by rw [← HR.out]; exact goodsB_no hlt (by rw [← HMM.out]; exact hg)
          rw [if_neg (by decide)] at HMO
          clear hg
          go_upto_region 10 with (first | (refine wpList_load_row rfl 90 _ rfl w3.heap.size rfl 90 (scaA sa sb sc sd (mostL P)) (0, 0) _ N5.out Tryd.underlying90 rfl (by kernel_rfl) ?_; simp only [Act.put, List.setIfInBounds_toArray, List.set_cons_zero, List.set_cons_succ]) | (go_at_call 117; refine HMO.out.mono ?_; rintro e w6 ⟨rfl, hb⟩; have K6 := Lib.hid hb; clear hb) | (refine wpList_store_row rfl 88 _ _ rfl w6.heap.size (meaA []) rfl (by first | rfl | kernel_rfl) 88 (meaA []) (heap_alloc_new w6 _) (by kernel_rfl) rfl (meaA_one _) ?_; simp only [Act.put, List.setIfInBounds_toArray, List.set_cons_zero, List.set_cons_succ]))
          obtain ⟨w7, hw7⟩ : ∃ y, y = (w6.alloc (.cells #[.int .i64 0, .int .i64 0, .int .i64 0, .int .i64 0, .int .i64 0, .int .i64 0, .int .i64 0, .int .i64 0, .int .i64 0, .int .i64 0, .int .i64 0, .int .i64 0, .int .i64 0] 88)).setRow w6.heap.size (meaA []) := ⟨_, rfl⟩
          rw [← hw7]
          have hb7 : Below w6.heap.size w6 w7 := by
            rw [hw7]
            exact (below1 w6 _).trans ((only_row8 (S := fun x => x = w6.heap.size) (Only.refl _ _) rfl _).below (below1 w6 _).size (fun x hx => by rw [hx]; exact Nat.le_refl _))
          have K7 := K6.out.trans (hb7.mono K6.out.size)
          have R7 := Lib.hid ((K7.block _ (Array.getElem?_eq_some_iff.1 R5.out).1).trans R5.out)
          have B7 := Lib.hid (B5.out.trans (K7.mono B5.out.size))
          clear hw7 hb7 K7
          refine wp_region_lit ?_
          refine wpList_build rfl 90 _ rfl (by kernel_rfl) ?_
          simp only [Act.put, List.setIfInBounds_toArray, List.set_cons_zero, List.set_cons_succ]
          (refine wpList_store_row rfl 90 _ _ rfl (w.heap.size + 1) (scaA (.slice none 0 0) (.slice none 0 0) (.slice none 0 0) (.slice none 0 0) []) rfl (by first | rfl | kernel_rfl) 90 (scaA (.slice none 0 0) (.slice none 0 0) (.slice none 0 0) (.slice none 0 0) []) R7.out (by kernel_rfl) rfl (scaA_one rfl rfl rfl rfl _) ?_; simp only [Act.put, List.setIfInBounds_toArray, List.set_cons_zero, List.set_cons_succ])
          go_wp2_with fail
          have ho := only_row8 (S := fun x => x = w.heap.size + 1) (Only.refl _ w7) rfl (scaA (.slice none 0 0) (.slice none 0 0) (.slice none 0 0) (.slice none 0 0) [])
          exact ret_sca3 (g := w.heap.size + 1) rfl rfl rfl rfl (setRow_heap _ _ _ _ _ _ R7.out) ⟨.slice none 0 0, .slice none 0 0, .slice none 0 0, .slice none 0 0, [], .slice none 0 0, by rw [HF.out]; rfl, (fun h => by rw [HF.out] at h; cases h), ⟨_, _, _, rfl⟩, ⟨rfl, rfl, rfl, rfl⟩, B7.out.trans (ho.below B7.out.size (fun x hx => by rw [hx]; omega))⟩
      · have hi1 : ¬ (k : Int) < ls.length := by omega
        have hkl : k = ls.length := by omega
        have HT : Hid (r = true) := by rw [← HR.out]; exact goodsB_yes HSm.out (fun j hj => HJ.out j (by omega))
        have HOe : Hid (wr.ownsRow w4.heap.size 88 13 u8 ls.length (meaL ls)) := by
          have h := HO.out
          rw [hkl, List.take_length] at h
          exact h
        obtain ⟨vx, vy, vz, hva⟩ : ∃ x y z, u8 = .slice x y z := by
          rcases HOe.out.2 with ⟨h, _⟩ | ⟨_, _, _, h, _⟩
          · exact ⟨_, _, _, h⟩
          · exact ⟨_, _, _, h⟩
        subst hva
        clear HO hkl
        go_upto_region 13 with fail
        refine wp_region_lit ?_
        go_wp2_with (first | (refine wpList_load_row rfl 90 _ rfl w3.heap.size rfl 90 (scaA sa sb sc sd (mostL P)) (0, 0) _ N5.out Tryd.underlying90 rfl (by kernel_rfl) ?_; simp only [Act.put, List.setIfInBounds_toArray, List.set_cons_zero, List.set_cons_succ]) | (refine wpList_store_row rfl 90 _ _ rfl (w.heap.size + 1) (scaA sa sb sc sd (mostL P)) rfl (by first | rfl | kernel_rfl) 90 (scaA (.slice none 0 0) (.slice none 0 0) (.slice none 0 0) (.slice none 0 0) []) R5.out (by kernel_rfl) rfl (scaA_one HO1.out.1 HO1.out.2.1 HO1.out.2.2.1 HO1.out.2.2.2 _) ?_; simp only [Act.put, List.setIfInBounds_toArray, List.set_cons_zero, List.set_cons_succ]))
        have ho := only_row8 (S := fun x => x = w.heap.size + 1) (Only.refl _ wr) rfl (scaA sa sb sc sd (mostL P))
        have hs9 := HB.out.size
        have hbz := ho.below (B := w.heap.size) B5.out.size (fun x hx => by rw [hx]; omega)
        refine ret_sca3 (g := w.heap.size + 1) rfl rfl rfl rfl (setRow_heap _ _ _ _ _ _ R5.out) ⟨sa, sb, sc, sd, mostL P, .slice vx vy vz, by rw [HT.out]; rfl, (fun _ => ⟨HSA.out _ (B5.out.trans hbz) (Q5.out.only ho (fun g hg e => by have := (Q5.out.own.lt g hg).1; have := hs1.out; omega)).retop, ownsRow_base (ownsRow_only HOe.out ho (fun g hg e => by have := (HOe.out.lt g hg).1; omega)) (by omega)⟩), ⟨_, _, _, rfl⟩, HO1.out, B5.out.trans hbz⟩
end
end Go.Proofs.YtglbkbiphcgidaaDoor
namespace Go.Proofs.YtglbkbiphcgidaaDoor
section
open Go.RowKit Go.Shelf

end
end Go.Proofs.YtglbkbiphcgidaaDoor
namespace Go.Proofs.YtglbkbiphcgidaaDoor
section
open Go.RowKit Go.Shelf
attribute [local go_sem] Oper.semAt_some

theorem rows_two8 {w : World} {aa ab : Option Addr} {ca cb : Nat} {a b : List Int} {T : TypeId} (ha : IntsAt w aa a) (hb : IntsAt w ab b) : RowsAt (w.alloc (.cells #[.slice aa a.length ca, .slice ab b.length cb] T)) (some ⟨w.heap.size, 0, none⟩) (fun k => if k = 0 then aa else ab) (fun k => if k = 0 then ca else cb) [a, b] := by
  refine ⟨by simp, fun _ => ⟨w.heap.size, 0, rfl, fun k hk => ?_⟩, fun k hk => ?_⟩
  · have : k = 0 ∨ k = 1 := by simp at hk; omega
    rcases this with rfl | rfl
    · exact cell_of_row _ _ _ _ _ _ (heap_alloc_new _ _)
    · exact cell_of_row _ _ _ _ _ _ (heap_alloc_new _ _)
  · have : k = 0 ∨ k = 1 := by simp at hk; omega
    rcases this with rfl | rfl
    · exact ha.alloc _
    · exact hb.alloc _
theorem mea_ranges {w : World} {B : Nat} {va : Value} {a b : List Int} (h : w.ownsRow B 88 13 va 2 (meaL [a, b])) : ∃ g cap, va = .slice (some ⟨g, 0, none⟩) 2 cap ∧ B ≤ g ∧ w.rangeAt g 0 (meaA a).toList ∧ w.rangeAt g 13 (meaA b).toList := by
  have e : meaL [a, b] = (meaA a).toList ++ (meaA b).toList := by unfold meaL; simp
  rcases h.2 with ⟨_, h0⟩ | ⟨g, cap, cur, hv, hB, _⟩
  · omega
  · subst hv
    have hc := h.cells (g := g) rfl
    refine ⟨g, cap, rfl, hB, fun j u hu => ?_, fun j u hu => ?_⟩
    · have hj : j < 13 := (List.getElem?_eq_some_iff.1 hu).1
      have h1 := hc j u (by rw [e, List.getElem?_append_left (by exact hj)]; exact hu)
      rw [Addr.add_mid] at h1
      exact h1
    · have h1 := hc (13 + j) u (by rw [e, List.getElem?_append_right (by show 13 ≤ 13 + j; omega)]; rw [show 13 + j - (meaA a).toList.length = j by show 13 + j - 13 = j; omega]; exact hu)
      rw [Addr.add_mid, Nat.zero_add] at h1
      exact h1

set_option linter.unusedSimpArgs false in
set_option maxRecDepth 100000 in
set_option maxHeartbeats 16000000 in
theorem AtLeastIn_is {w : World} {v : Value} {O P a b : List Int} {zss : List (List Int)} {aa ab : Option Addr} {p : Int} {r : Bool} (hW : LostW w) (ca cb : Nat) (hr : atB O zss P a b p = r) (h : GameAt w v O zss P) (ha : IntsAt w aa a) (hb : IntsAt w ab b) :
    Calls Tryd.prog 30 #[v, .slice aa a.length ca, .slice ab b.length cb, .int .i64 p] w fun e w' => e = .returned (.bool r) ∧ Below w.heap.size w w' := by
  have HGm := Lib.hid h
  obtain ⟨ao, an, ap, co, cn, cp, A, C, rfl, h1, h2, h3⟩ := h
  obtain ⟨w1, hw1⟩ : ∃ y, y = w.alloc (.cells #[.slice ao O.length co, .slice an zss.length cn, .slice ap P.length cp] 35) := ⟨_, rfl⟩
  have HW1 := Lib.hid hw1
  have B1 : Hid (Below w.heap.size w w1) := by rw [hw1]; exact below1 _ _
  have T1 : Hid (Box3 w1 w.heap.size 35 (.slice ao O.length co) (.slice an zss.length cn) (.slice ap P.length cp)) := by rw [hw1]; exact Box3.new _ _ _ _ _
  have hs1 : w1.heap.size = w.heap.size + 1 := by rw [hw1]; simp
  have HS1 := Lib.hid hs1
  obtain ⟨w2, hw2⟩ : ∃ y, y = w1.alloc (.cells #[.slice aa a.length ca, .slice ab b.length cb] 22) := ⟨_, rfl⟩
  have HW2 := Lib.hid hw2
  have hb2 : Below w1.heap.size w1 w2 := by rw [hw2]; exact below1 _ _
  have B2 := Lib.hid (B1.out.trans (hb2.mono B1.out.size))
  have HRo : RowsAt w2 (some ⟨w1.heap.size, 0, none⟩) (fun k => if k = 0 then aa else ab) (fun k => if k = 0 then ca else cb) [a, b] := by rw [hw2]; exact rows_two8 (ha.below B1.out) (hb.below B1.out)
  obtain ⟨g0, hg0⟩ : ∃ g0, goodsB O zss P [a, b] = g0 := ⟨_, rfl⟩
  have HMI : Hid (Calls Tryd.prog 74 #[.agg #[.slice ao O.length co, .slice an zss.length cn, .slice ap P.length cp], .slice (some ⟨w1.heap.size, 0, none⟩) 2 2] w2 fun e w' => ∃ a' b' c d M va, e = .returned (.tuple #[scaV a' b' c d M, va, .bool g0]) ∧ (g0 = true → ScaleAt w' (scaV a' b' c d M) O zss P ∧ w'.ownsRow w2.heap.size 88 13 va 2 (meaL [a, b])) ∧ (∃ x y z, va = .slice x y z) ∧ (a'.oneCell' = true ∧ b'.oneCell' = true ∧ c.oneCell' = true ∧ d.oneCell' = true) ∧ Below w2.heap.size w2 w') :=
    measuresIn_is (ls := [a, b]) 2 hg0 (hW.below B2.out) (HGm.out.below B2.out) HRo (by simp)
  have t0 := T1.out.c0
  have t1 := T1.out.c1
  have t2 := T1.out.c2
  rw [hw1] at t0 t1 t2
  have HR := Lib.hid hr
  have HG0 := Lib.hid hg0
  clear hw1 hw2 hb2 HRo hg0 h1 h2 h3 ha hb hr hW hs1
  go_enter Tryd.func30, Tryd.ntmps30
  go_wp2_with fail
  rw [← HW1.out, ← HS1.out, ← HW2.out]
  refine HMI.out.mono ?_
  rintro e w3 ⟨sa, sb, sc, sd, M, va, rfl, himp, ⟨x, y, z, hva⟩, hone, hb⟩
  have HONE := Lib.hid hone
  have HIMP := Lib.hid himp
  have B3 := Lib.hid (B2.out.trans (hb.mono B2.out.size))
  have hsA : w2.heap.size ≤ w3.heap.size := hb.size
  have HN : Hid ((w3.alloc (.cells #[.slice none 0 0, .slice none 0 0, .slice none 0 0, .slice none 0 0, .int .i64 0, .int .i64 0, .int .i64 0, .int .i64 0, .int .i64 0, .int .i64 0, .int .i64 0, .int .i64 0, .int .i64 0, .int .i64 0, .int .i64 0, .int .i64 0, .int .i64 0] 90)).heap[w3.heap.size]? = some (.cells (scaA (.slice none 0 0) (.slice none 0 0) (.slice none 0 0) (.slice none 0 0) []) 90 (0, 0))) := heap_alloc_new _ _
  have hsz := B3.out.size
  have HVA := Lib.hid hva
  subst hva
  clear hone hb HMI t0 t1 t2 himp
  go_upto_region 2 with (refine wpList_store_row rfl 90 _ _ rfl w3.heap.size (scaA sa sb sc sd M) rfl rfl 90 (scaA (.slice none 0 0) (.slice none 0 0) (.slice none 0 0) (.slice none 0 0) []) HN.out (by kernel_rfl) rfl (scaA_one HONE.out.1 HONE.out.2.1 HONE.out.2.2.1 HONE.out.2.2.2 _) ?_; simp only [Act.put, List.setIfInBounds_toArray, List.set_cons_zero, List.set_cons_succ])
  obtain ⟨w4, hw4⟩ : ∃ y, y = (w3.alloc (.cells #[.slice none 0 0, .slice none 0 0, .slice none 0 0, .slice none 0 0, .int .i64 0, .int .i64 0, .int .i64 0, .int .i64 0, .int .i64 0, .int .i64 0, .int .i64 0, .int .i64 0, .int .i64 0, .int .i64 0, .int .i64 0, .int .i64 0, .int .i64 0] 90)).setRow w3.heap.size (scaA sa sb sc sd M) := ⟨_, rfl⟩
  rw [← hw4]
  have hb4 : Below w3.heap.size w3 w4 := by
    rw [hw4]
    exact (below1 w3 _).trans ((only_row8 (S := fun x => x = w3.heap.size) (Only.refl _ _) rfl _).below (below1 w3 _).size (fun x hx => by rw [hx]; exact Nat.le_refl _))
  have N4 : Hid (w4.heap[w3.heap.size]? = some (.cells (scaA sa sb sc sd M) 90 (0, 0))) := by rw [hw4]; exact setRow_heap _ _ _ _ _ _ HN.out
  have B4 := Lib.hid (B3.out.trans (hb4.mono B3.out.size))
  have K4 := Lib.hid hb4
  clear hb4 hw4 HN
  cases g0 with
  | false =>
    have HF : Hid (r = false) := by
      rw [← HR.out]
      have h := HG0.out
      unfold goodsB at h
      unfold atB
      cases hs : smallB O zss P with
      | false => rfl
      | true =>
        rw [hs] at h
        simp only [List.all_cons, List.all_nil, Bool.and_true, Bool.true_and] at h
        rw [Bool.true_and, ← Bool.and_assoc, h]
        rfl
    go_wp2
    go_ret
    exact ⟨ret_bool HF.out.symm, B4.out⟩
  | true =>
    obtain ⟨hsc3, hown3⟩ := HIMP.out rfl
    obtain ⟨g, cap, hvg, hgB, hra, hrb⟩ := mea_ranges hown3
    cases hvg
    have HGD : Hid (smallB O zss P = true ∧ goodB P a = true ∧ goodB P b = true) := by
      have h := HG0.out
      unfold goodsB at h
      simp only [List.all_cons, List.all_nil, Bool.and_true, Bool.and_eq_true] at h
      exact ⟨h.1, h.2.1, h.2.2⟩
    have hl12 : (oddsL P).length ≤ 12 := by
      obtain ⟨hn, hp⟩ := smallB_iff.1 HGD.out.1
      exact Nat.le_trans (odds_len (parityB_iff.1 hp).2.2) hn
    obtain ⟨K0, hK0⟩ : ∃ K0, K0 = placesL P p := ⟨_, rfl⟩
    have hK13 : K0 ≤ 13 := by have := places_le P p; omega
    have HPF : Hid (Calls Tryd.prog 76 #[scaV sa sb sc sd M, .int .i64 p] w4 fun e w' => e = .returned (.int .i64 K0) ∧ Below w4.heap.size w4 w') := by rw [hK0]; exact placesFrom_is (hsc3.below K4.out)
    have HHd : Hid (∀ (m : List Int) (W : World), Calls Tryd.prog 77 #[meaV m, .int .i64 K0] W fun e w' => e = .returned (meaV (m.take K0)) ∧ Below W.heap.size W w') := fun m W => head_is hK13
    obtain ⟨q, hq⟩ : ∃ q, cmpF (a.take K0) (b.take K0) 0 13 = q := ⟨_, rfl⟩
    have HCm : Hid (∀ W : World, Calls Tryd.prog 78 #[meaV (a.take K0), meaV (b.take K0)] W fun e w' => e = .returned (.int .i64 q) ∧ Below W.heap.size W w') := fun W => compare_is hq
    have HFr : Hid (r = decide (0 ≤ q)) := by
      have hbr := at_bridge (p := p) hl12 HGD.out.2.1 HGD.out.2.2
      rw [← hK0, hq] at hbr
      rw [← HR.out]
      unfold atB
      rw [HGD.out.1, HGD.out.2.1, HGD.out.2.2, Bool.true_and, Bool.true_and, Bool.true_and]
      rw [Bool.eq_iff_iff, Bool.not_eq_true', decide_eq_true_eq]
      constructor
      · intro h
        have h2 : ¬ LessP (oddsL P) a b p := fun h3 => by rw [@decide_eq_true _ (Classical.propDecidable _) h3] at h; cases h
        rw [← hbr] at h2
        omega
      · intro h
        exact @decide_eq_false _ (Classical.propDecidable _) (fun h3 => by have := hbr.2 h3; omega)
    have HRa := Lib.hid hra
    have HRb := Lib.hid hrb
    clear hra hrb hsc3 hown3 hK0 hq
    go_upto_region 5 with (first | (refine wpList_load_row rfl 90 _ rfl w3.heap.size rfl 90 (scaA sa sb sc sd M) (0, 0) _ N4.out Tryd.underlying90 rfl (by kernel_rfl) ?_; simp only [Act.put, List.setIfInBounds_toArray, List.set_cons_zero, List.set_cons_succ]) | (go_at_call 76; refine HPF.out.mono ?_; rintro e w5 ⟨rfl, hb⟩; have K5 := Lib.hid (K4.out.trans (hb.mono K4.out.size)); have B5 := Lib.hid (B4.out.trans (hb.mono B4.out.size)); clear hb))
    have HSw : Hid (∀ W', Below w5.heap.size w5 W' → W'.rangeAt g 0 (meaA a).toList ∧ W'.rangeAt g 13 (meaA b).toList) := fun W' hb => by
      have hb2 := K5.out.trans (hb.mono K5.out.size)
      exact ⟨fun j u hu => (hb2.cell (World.block_lt_of_cell? _ _ (HRa.out j u hu))).trans (HRa.out j u hu), fun j u hu => (hb2.cell (World.block_lt_of_cell? _ _ (HRb.out j u hu))).trans (HRb.out j u hu)⟩
    have Kd : Hid (Below w5.heap.size w5 w5.drew) := (Below.refl _ _).drew
    refine wp_region_M (S := (fun W' => W'.rangeAt g 0 (meaA a).toList ∧ W'.rangeAt g 13 (meaA b).toList)) (m := 13) (by kernel_rfl) (HSw.out _ Kd.out) (fun hHeld => ?_)
    refine wpAnyM_take (i := 0) (v := ?vm1) rfl (by kernel_rfl) (by decide) (by kernel_rfl) (by kernel_rfl) (by kernel_rfl) (fun _ _ _ h => h) (Or.inl ⟨by rfl, ?hm1⟩) (by assumption) ?_
    case hm1 => (intro w hSw; (try dsimp only at hSw); go_simp; first | done | with_reducible rfl)
    try simp only [Act.put, List.setIfInBounds_toArray, List.set_cons_zero, List.set_cons_succ]
    refine wpAnyM_take (i := 1) (v := ?vm2) rfl (by kernel_rfl) (by decide) (by kernel_rfl) (by kernel_rfl) (by kernel_rfl) (fun _ _ _ h => h) (Or.inl ⟨by rfl, ?hm2⟩) (by assumption) ?_
    case hm2 => (intro w hSw; (try dsimp only at hSw); go_simp; first | done | with_reducible rfl)
    try simp only [Act.put, List.setIfInBounds_toArray, List.set_cons_zero, List.set_cons_succ]
    refine wpAnyM_take (i := 2) (v := .agg (meaA a).toList.toArray) rfl (by kernel_rfl) (by decide) (by kernel_rfl) (by kernel_rfl) (by kernel_rfl) (fun _ _ _ h => h) (yieldsIf_load_mid (by rfl) 88 _ rfl g 0 rfl (meaA a).toList _ (fun W h => h.1) Tryd.underlying88 rfl (by kernel_rfl)) (by assumption) ?_
    try simp only [Act.put, List.setIfInBounds_toArray, List.set_cons_zero, List.set_cons_succ]
    refine wpAnyM_take (i := 3) (v := ?vm3) rfl (by kernel_rfl) (by decide) (by kernel_rfl) (by kernel_rfl) (by kernel_rfl) (fun _ _ _ h => h) (Or.inl ⟨by rfl, ?hm3⟩) (by assumption) ?_
    case hm3 => (intro w hSw; (try dsimp only at hSw); go_simp; first | done | with_reducible rfl)
    try simp only [Act.put, List.setIfInBounds_toArray, List.set_cons_zero, List.set_cons_succ]
    refine wpAnyM_take (i := 5) (v := ?vm4) rfl (by kernel_rfl) (by decide) (by kernel_rfl) (by kernel_rfl) (by kernel_rfl) (fun _ _ _ h => h) (Or.inl ⟨by rfl, ?hm4⟩) (by assumption) ?_
    case hm4 => (intro w hSw; (try dsimp only at hSw); go_simp; first | done | with_reducible rfl)
    try simp only [Act.put, List.setIfInBounds_toArray, List.set_cons_zero, List.set_cons_succ]
    refine wpAnyM_take (i := 6) (v := ?vm5) rfl (by kernel_rfl) (by decide) (by kernel_rfl) (by kernel_rfl) (by kernel_rfl) (fun _ _ _ h => h) (Or.inl ⟨by rfl, ?hm5⟩) (by assumption) ?_
    case hm5 => (intro w hSw; (try dsimp only at hSw); go_simp; first | done | with_reducible rfl)
    try simp only [Act.put, List.setIfInBounds_toArray, List.set_cons_zero, List.set_cons_succ]
    refine wpAnyM_take (i := 7) (v := .agg (meaA b).toList.toArray) rfl (by kernel_rfl) (by decide) (by kernel_rfl) (by kernel_rfl) (by kernel_rfl) (fun _ _ _ h => h) (yieldsIf_load_mid (by rfl) 88 _ rfl g 13 rfl (meaA b).toList _ (fun W h => h.2) Tryd.underlying88 rfl (by kernel_rfl)) (by assumption) ?_
    try simp only [Act.put, List.setIfInBounds_toArray, List.set_cons_zero, List.set_cons_succ]
    refine wpAnyM_take (i := 8) (v := ?vm6) rfl (by kernel_rfl) (by decide) (by kernel_rfl) (by kernel_rfl) (by kernel_rfl) (fun _ _ _ h => h) (Or.inl ⟨by rfl, ?hm6⟩) (by assumption) ?_
    case hm6 => (intro w hSw; (try dsimp only at hSw); go_simp; first | done | with_reducible rfl)
    try simp only [Act.put, List.setIfInBounds_toArray, List.set_cons_zero, List.set_cons_succ]
    refine wpAnyM_one (i := 4) (by kernel_rfl) rfl (fun K hK => ?_)
    go_simp
    go_at_call 77
    refine (show Calls Tryd.prog 77 #[.agg (meaA a), .int .i64 (K0 : Int)] w5.drew _ from (HHd.out a w5.drew)).mono ?_
    rintro e W6 ⟨rfl, hb⟩
    have Kx6 := Lib.hid (Kd.out.trans (hb.mono Kd.out.size))
    clear hb
    go_wp2_with fail
    refine hK.out _ _ (fun _ => HSw.out _ Kx6.out) (fun hHeld => ?_)
    have hHeld := hHeld (by decide)
    clear hK K
    try simp only [Act.put, List.setIfInBounds_toArray, List.set_cons_zero, List.set_cons_succ]
    refine wpAnyM_one (i := 9) (by kernel_rfl) rfl (fun K hK => ?_)
    go_simp
    go_at_call 77
    refine (show Calls Tryd.prog 77 #[.agg (meaA b), .int .i64 (K0 : Int)] W6 _ from (HHd.out b W6)).mono ?_
    rintro e W7 ⟨rfl, hb⟩
    have Kx7 := Lib.hid (Kx6.out.trans (hb.mono Kx6.out.size))
    clear hb
    go_wp2_with fail
    refine hK.out _ _ (fun _ => HSw.out _ Kx7.out) (fun hHeld => ?_)
    have hHeld := hHeld (by decide)
    clear hK K
    try simp only [Act.put, List.setIfInBounds_toArray, List.set_cons_zero, List.set_cons_succ]
    refine wpAnyM_one (i := 10) (by kernel_rfl) rfl (fun K hK => ?_)
    go_simp
    go_at_call 78
    refine (HCm.out W7).mono ?_
    rintro e W8 ⟨rfl, hb⟩
    have Kx8 := Lib.hid (Kx7.out.trans (hb.mono Kx7.out.size))
    clear hb
    go_wp2_with fail
    refine hK.out _ _ (fun _ => HSw.out _ Kx8.out) (fun hHeld => ?_)
    have hHeld := hHeld (by decide)
    clear hK K
    try simp only [Act.put, List.setIfInBounds_toArray, List.set_cons_zero, List.set_cons_succ]
    refine wpAnyM_one (i := 11) (by kernel_rfl) rfl (fun K hK => ?_)
    go_simp
    refine hK.out _ _ (fun _ => HSw.out _ Kx8.out) (fun hHeld => ?_)
    have hHeld := hHeld (by decide)
    clear hK K
    try simp only [Act.put, List.setIfInBounds_toArray, List.set_cons_zero, List.set_cons_succ]
    refine wpAnyM_one (i := 12) (by kernel_rfl) rfl (fun K hK => ?_)
    go_simp
    refine hK.out _ _ (fun _ => HSw.out _ Kx8.out) (fun hHeld => ?_)
    have hHeld := hHeld (by decide)
    clear hK K
    try simp only [Act.put, List.setIfInBounds_toArray, List.set_cons_zero, List.set_cons_succ]
    refine wpAnyM_done (by kernel_rfl) ?_ _
    go_wp2
    go_ret
    exact ⟨by rw [HFr.out]; rfl, B5.out.trans (Kx8.out.mono B5.out.size)⟩
end
end Go.Proofs.YtglbkbiphcgidaaDoor
