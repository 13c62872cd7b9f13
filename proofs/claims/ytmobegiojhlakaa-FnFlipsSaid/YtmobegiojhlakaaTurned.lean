/-
  An arena that grows: a row is appended to the rows, a number to the numbers. No program text.
-/
import Derived.Test.YtmobegiojhlakaaCopies
import Derived.Test.YtmobegiojhlakaaPreds
import Derived.Deep.RegionLaw
import Derived.Deep.AppendLies
import Derived.Test.YtmobegiojhlakaaMark
namespace Go.Proofs.Ytmobegiojhlakaa
section
open Go.RowKit

theorem row_snoc {zss : List (List Int)} {zs : List Int} : row (zss ++ [zs]) zss.length = zs := by simp [row]
theorem row_snoc_old {zss : List (List Int)} {zs : List Int} {k : Nat} (h : k < zss.length) : row (zss ++ [zs]) k = row zss k := by simp [row, List.getElem?_append_left h]

/-- A row is appended: behind the outer append. -/
theorem OwnRows.push {w w1 : World} {B D D' : Nat} {v v' u : Value} {V : Nat → Value} {zss : List (List Int)} {zs : List Int} (h : OwnRows w B D v V zss) (hu : OwnInts w B D' u zs) (hap : ∀ i, i < zss.length → ∀ g, u.ownBlock = some g → (V i).ownBlock ≠ some g)
    (ho : w1.ownsRow B 27 1 v' (zss.length + 1) ((List.range zss.length).map V ++ [u])) (hg : Only (fun b => v.ownBlock = some b) w w1) (hl : zss.length + 1 ≤ 17592186044416) :
    OwnRows w1 B w1.heap.size v' (fun i => if i = zss.length then u else V i) (zss ++ [zs]) := by
  refine ⟨?_, fun g hg => (ho.lt g hg).2, by simpa using hl, fun k hk => ?_, fun i j hi hj hne g hg1 hg2 => ?_⟩
  · have e : (List.range (zss ++ [zs]).length).map (fun i => if i = zss.length then u else V i) = (List.range zss.length).map V ++ [u] := by
      simp only [List.length_append, List.length_cons, List.length_nil, List.range_succ, List.map_append, List.map_cons, List.map_nil, Nat.zero_add, if_true]
      congr 1
      exact List.map_congr_left fun i hi => by rw [if_neg (by have := List.mem_range.1 hi; omega)]
    rw [e]
    simpa using ho
  · by_cases e : k = zss.length
    · subst e
      simp only [if_true]
      rw [row_snoc]
      exact (hu.only hg (fun g h1 h2 => own_types h.own hu.own g h2 h1)).retop
    · have hk' : k < zss.length := by simp at hk; omega
      simp only [if_neg e]
      rw [row_snoc_old hk']
      exact ((h.rows k hk').only hg (fun g h1 h2 => own_types h.own (h.rows k hk').own g h2 h1)).retop
  · simp only [List.length_append, List.length_cons, List.length_nil] at hi hj
    by_cases e : i = zss.length
    · subst e
      simp only [if_true] at hg1
      simp only [if_neg (Ne.symm hne)] at hg2
      exact hap j (by omega) g hg1 hg2
    · simp only [if_neg e] at hg1
      by_cases e' : j = zss.length
      · subst e'
        simp only [if_true] at hg2
        exact hap i (by omega) g hg2 hg1
      · simp only [if_neg e'] at hg2
        exact h.apart i j (by omega) (by omega) hne g hg1 hg2

theorem OwnRows.nil (w : World) (B D : Nat) : OwnRows w B D (.slice none 0 0) (fun _ => .slice none 0 0) [] :=
  ⟨World.ownsRow_nil _ _ _ _, fun g hg => by simp [Value.ownBlock] at hg, by simp, fun k hk => absurd hk (by simp), fun i j hi => absurd hi (by simp)⟩
theorem OwnRows.retop {w : World} {B D : Nat} {v : Value} {V : Nat → Value} {zss : List (List Int)} (h : OwnRows w B D v V zss) : OwnRows w B w.heap.size v V zss :=
  ⟨h.own, fun g hg => (h.own.lt g hg).2, h.len, fun k hk => (h.rows k hk).retop, h.apart⟩
theorem OwnInts.base {w : World} {B B' D : Nat} {v : Value} {zs : List Int} (h : OwnInts w B D v zs) (hB : B' ≤ B) : OwnInts w B' D v zs := ⟨ownsRow_base h.own hB, h.top, h.len, h.fits⟩
theorem OwnRows.base {w : World} {B B' D : Nat} {v : Value} {V : Nat → Value} {zss : List (List Int)} (h : OwnRows w B D v V zss) (hB : B' ≤ B) : OwnRows w B' D v V zss :=
  ⟨ownsRow_base h.own hB, h.top, h.len, fun k hk => (h.rows k hk).base hB, h.apart⟩
theorem Only.of_grown {w w' : World} {r : Option Nat} (h : w.grownBy w' r) : Only (fun b => r = some b) w w' := ⟨h.os, h.tape, h.output, h.size, fun b hb hne => h.block b hb (fun e => hne e.symm)⟩

theorem take_snoc_rows {zss : List (List Int)} {k : Nat} (h : k < zss.length) : zss.take (k + 1) = zss.take k ++ [row zss k] := by
  rw [List.take_succ_eq_append_getElem h, row_eq h]

theorem Box2.not_own {w : World} {g : Nat} {t e : TypeId} {u v x : Value} {B size n : Nat} {xs : List Value} (h : Box2 w g t u v) (ho : w.ownsRow B e size x n xs) (hte : e ≠ t) : x.ownBlock ≠ some g := by
  intro hx
  rcases ho.2 with ⟨rfl, _⟩ | ⟨g1, _, _, rfl, _, h1, _⟩
  · simp [Value.ownBlock] at hx
  · simp [Value.ownBlock] at hx
    subst hx
    unfold Box2 at h
    rw [h] at h1
    simp at h1
    exact hte h1.2.symm

theorem Box2.only {w w' : World} {g : Nat} {t : TypeId} {u v : Value} {S : Nat → Prop} (h : Box2 w g t u v) (hk : Only S w w') (hs : ¬ S g) : Box2 w' g t u v := (hk.block g h.lt hs).trans h

/-- A struct's own box behind an append that wrote the row x. -/
theorem Box2.grown {w w' : World} {g : Nat} {t e : TypeId} {u v x : Value} {B size n : Nat} {xs : List Value} (h : Box2 w g t u v) (ho : w.ownsRow B e size x n xs) (hte : e ≠ t) (hg : w.grownBy w' x.ownBlock) : Box2 w' g t u v :=
  h.only (Only.of_grown hg) (h.not_own ho hte)

/-- What holds when k rows are copied: t: the copy's own struct, b: the argument's box. -/
structure Half2 (w wr : World) (t b : Nat) (vo sa sb : Value) (O : List Int) (zss : List (List Int)) : Prop where
  below : Below w.heap.size w wr
  box : Box2 wr b 30 sa sb
  own : ∃ vn V, Box2 wr t 30 vo vn ∧ OwnInts wr w.heap.size wr.heap.size vo O ∧ OwnRows wr w.heap.size wr.heap.size vn V zss ∧ ∀ i, i < zss.length → ∀ g, (V i).ownBlock = some g → vo.ownBlock ≠ some g

/-- A row u is appended to the rows: w2: behind the row's making, o: the one-element slice, w3: behind the append; then the new rows are stored into the struct. -/
theorem Half2.step {w wr w2 w3 : World} {t b gg cap : Nat} {o : Obj} {vo sa sb vn u : Value} {V : Nat → Value} {O zs : List Int} {zss : List (List Int)} (hbel : Below w.heap.size w wr) (hb : Box2 wr b 30 sa sb) (hT : Box2 wr t 30 vo vn)
    (hvo : OwnInts wr w.heap.size wr.heap.size vo O) (hvn : OwnRows wr w.heap.size wr.heap.size vn V zss) (hap : ∀ i, i < zss.length → ∀ g, (V i).ownBlock = some g → vo.ownBlock ≠ some g) (htw : w.heap.size ≤ t) (hbt : b ≠ t) (hl : zss.length ≤ 1048576)
    (h2 : Below wr.heap.size wr w2) (hu : OwnInts w2 wr.heap.size w2.heap.size u zs) (hown3 : w3.ownsRow w.heap.size 27 1 (.slice (some ⟨gg, 0, none⟩) (zss.length + 1) cap) (zss.length + 1) ((List.range zss.length).map V ++ [u])) (hgrow : (w2.alloc o).grownBy w3 vn.ownBlock) :
    Half2 w (w3.setCell ⟨t, 1, none⟩ (.slice (some ⟨gg, 0, none⟩) (zss.length + 1) cap)) t b vo sa sb O (zss ++ [zs]) := by
  have h2a : Below wr.heap.size wr (w2.alloc o) := h2.alloc h2.size o
  have hown : (w2.alloc o).ownsRow w.heap.size 27 1 vn zss.length ((List.range zss.length).map V) := ownsRow_only hvn.own (S := fun _ => False) (Only.of_below h2a) (fun _ _ h => h)
  have hT3 := (hT.below h2a).grown hown (by decide) hgrow
  have hb3 := (hb.below h2a).grown hown (by decide) hgrow
  have hvo3 : OwnInts w3 w.heap.size w3.heap.size vo O := ((hvo.below h2a).only (Only.of_grown hgrow) (fun g h1 h2 => own_types hown (hvo.below h2a).own g h2 h1)).retop
  have hu' : OwnInts (w2.alloc o) w.heap.size w2.heap.size u zs := (hu.below (below1 _ _)).base hbel.size
  have hlow : ∀ g, u.ownBlock = some g → wr.heap.size ≤ g := fun g hg => (hu.own.lt g hg).1
  have hrows := (hvn.below h2a).push (w1 := w3) hu' (fun i hi g h1 h3 => by have := (hvn.rows i hi).top g h3; have := hlow g h1; omega) hown3 (Only.of_grown hgrow) (by omega)
  have hS : Only (fun b => b = t) w3 (w3.setCell ⟨t, 1, none⟩ (.slice (some ⟨gg, 0, none⟩) (zss.length + 1) cap)) := Only.setCell (S := fun b => b = t) (Only.refl _ _) (p := ⟨t, 1, none⟩) rfl _
  refine ⟨?_, hb3.only hS hbt, _, _, hT3.set1 _, (hvo3.only hS (fun g hg e => hT3.not_own hvo3.own (by decide) (by rw [hg, e]))).retop, (hrows.only hS (fun g hg e => hT3.not_own hrows.own (by decide) (by rw [hg, e])) (fun k hk g hg e => hT3.not_own (hrows.rows k hk).own (by decide) (by rw [hg, e]))).retop, fun i hi g hg => ?_⟩
  · have h3 : Below w.heap.size w (w2.alloc o) := hbel.trans (h2a.mono hbel.size)
    exact (h3.trans ((Only.of_grown hgrow).below h3.size (fun g hg => (hown.lt g hg).1))).setCell htw _
  · by_cases e : i = zss.length
    · subst e
      simp only [if_true] at hg
      intro hh
      have := hvo.top g hh
      have := hlow g hg
      omega
    · simp only [if_neg e] at hg
      exact hap i (by simp at hi; omega) g hg
end

section
open Go.RowKit

theorem info_rows : (Try.prog.info? 27).map (fun i => (i.zero, i.size, i.bytes)) = some (some (.slice none 0 0), 1, 24) := by kernel_rfl

/-- A call hands back an arena of its own. -/
def GivesArena (w : World) (O : List Int) (zss : List (List Int)) (e : Ending) (w' : World) : Prop :=
  ∃ v, e = .returned v ∧ OwnArena w' w.heap.size w'.heap.size v O zss ∧ Below w.heap.size w w'

set_option maxHeartbeats 2000000 in
set_option maxRecDepth 100000 in
theorem l1CopyArena_is {w : World} {va : Value} {O : List Int} {zss : List (List Int)} (h : ArenaAt w va O zss) (hn : zss.length ≤ 1048576) :
    Calls Try.prog 79 #[va] w (GivesArena w O zss) := by
  obtain ⟨i0, hi, hz0, hz1, hz2⟩ := info_parts info_rows
  obtain ⟨ao, an, co, cn, A, C, rfl, h1, h2⟩ := h
  have HO := Lib.hid h1
  have HN := Lib.hid h2
  clear h1 h2
  go_enter Try.func79, Try.ntmps79
  go_wp2_with fail
  refine (l1Copy_is co ((HO.out.alloc _).alloc _)).mono ?_
  rintro e w1 ⟨vo, rfl, ho, hb⟩
  have B1 := Lib.hid ((below2 w _ _).trans (hb.mono (by simp; omega)))
  have b1 := Lib.hid (((Box2.new w 30 (.slice ao O.length co) (.slice an zss.length cn)).alloc _).below hb)
  have r1 := Lib.hid ((Box2.new_at (g := w.heap.size + 1) (by simp) 30 (.slice none 0 0) (.slice none 0 0)).below hb)
  have hvo : ∃ ag cg, vo = .slice ag O.length cg := by obtain ⟨a, c, hv, _⟩ := ho.shape; exact ⟨a, c, hv⟩
  obtain ⟨ag, cg, hvo⟩ := hvo
  subst hvo
  have hs1 : w.heap.size + 2 ≤ w1.heap.size := by have := hb.size; simp at this; omega
  have o1 : Hid (OwnInts w1 w.heap.size w1.heap.size (.slice ag O.length cg) O) := ho.base (by simp; omega)
  have HS1 := Lib.hid hs1
  clear ho hb hs1
  have S0 : Hid (Half2 w (w1.alloc (.cells #[.slice ag O.length cg, .slice none 0 0] 30)) w1.heap.size w.heap.size (.slice ag O.length cg) (.slice ao O.length co) (.slice an zss.length cn) O (zss.take 0)) :=
    ⟨B1.out.alloc B1.out.size _, b1.out.alloc _, _, _, Box2.new _ _ _ _, (o1.out.below (below1 _ _)).retop, OwnRows.nil _ _ _, fun i hi => absurd hi (by simp)⟩
  have R0 := Lib.hid (r1.out.alloc (.cells #[.slice ag O.length cg, .slice none 0 0] 30))
  have hlz := HN.out.len
  go_wp2
  go_loopw [4] (fun i wr => ∃ k : Nat, k ≤ zss.length ∧ i = .int .i64 k ∧ Hid (Half2 w wr w1.heap.size w.heap.size (.slice ag O.length cg) (.slice ao O.length co) (.slice an zss.length cn) O (zss.take k)) ∧ Hid (Box2 wr (w.heap.size + 1) 30 (.slice none 0 0) (.slice none 0 0))) (fun i _ => zss.length - (intOf i).toNat)
  case atStart => exact ⟨0, Nat.zero_le _, rfl, S0, R0⟩
  case round =>
    clear S0 R0
    obtain ⟨k, hk, rfl, HS, HR⟩ := hrel
    have hlen1 := HS1.out
    have hlen1' : w.heap.size ≤ w1.heap.size := by omega
    have bc1 := HS.out.box.cell1
    by_cases hlt : k < zss.length
    · obtain ⟨vn, V, hT, hvo, hvn, hap⟩ := HS.out.own
      have htk : (zss.take k).length = k := by simp; omega
      obtain ⟨a', c', hvs, _, _⟩ := hvn.shape
      rw [htk] at hvs
      subst hvs
      have HT := Lib.hid hT
      have HVO := Lib.hid hvo
      have HVN := Lib.hid hvn
      have HAP := Lib.hid hap
      have hown := hvn.own
      rw [htk] at hown
      have HOWN := Lib.hid hown
      have HTK := Lib.hid htk
      clear hT hvo hvn hap hown htk
      have N1 := Lib.hid (HN.out.below HS.out.below)
      obtain ⟨b, off, ha, hc⟩ := N1.out.cell (by omega)
      subst ha
      have hck := hc k hlt
      clear hc
      have hi1 : (k : Int) < zss.length := by omega
      have ht1 := HT.out.cell1
      have HD : Hid (Below wr.heap.size wr wr.drew) := (Below.refl _ _).drew
      have HRow := Lib.hid ((N1.out.rows k hlt).below HD.out)
      go_wp2
      go_region_law (first
        | (refine step_append_lies _ (by rfl) _ _ _ (by rfl) w.heap.size 27 i0 (.slice none 0 0) 1 24 Try.underlying28 hi hz0 hz1 hz2 rfl (by decide) (.slice a' k c') k ((List.range k).map V) (by rfl) (HOWN2.out.alloc _) ⟨w2.heap.size, 0, none⟩ 1 1 [.slice au (row zss k).length cu] (by rfl) (by rfl) (World.news_of_block (cs := #[.slice au (row zss k).length cu]) (t := 27) (fr := (0, 0)) (heap_alloc_new w2 _)) (by simp [Value.oneCell']) (by omega) (by unfold maxLen; omega) (by omega) (by have := HB2.out.size; simp; omega) (w2.heap.size + 1) (by simp) ?_; intro gg cap w3 hown3 hgrow hat hlt3; have hbx := (HT2.out.alloc (.cells #[.slice au (row zss k).length cu] 27)).grown (HOWN2.out.alloc _) (by decide) hgrow; have q3 := hbx.cell1; have p3 := hbx.frozen 1)
        | (go_simp; go_at_call 95; refine (l1Copy_is (C k) HRow.out).mono ?_; rintro e w2 ⟨u, rfl, hu, hb⟩; obtain ⟨au, cu, hus, _, _⟩ := hu.shape; subst hus; have HU := Lib.hid hu; have HB2 := Lib.hid (HS.out.below.trans ((HD.out.trans (hb.mono HD.out.size)).mono HS.out.below.size)); have HK2 := Lib.hid (HD.out.trans (hb.mono HD.out.size)); have t2 := (HT.out.below HK2.out).cell1; have t2a := ((HT.out.below HK2.out).alloc (.cells #[.slice au (row zss k).length cu] 27)).cell1; have HT2 := Lib.hid (HT.out.below HK2.out); have HOWN2 := Lib.hid (ownsRow_only HOWN.out (S := fun _ => False) (Only.of_below HK2.out) (fun _ _ h => h)); have hlt2 := HK2.out.size; have htl := HT.out.lt; clear hu hb))
      all_goals (
        have hstep := Half2.step (zs := row zss k) HS.out.below HS.out.box HT.out HVO.out HVN.out HAP.out hlen1' (by omega) (by rw [HTK.out]; omega) HK2.out HU.out (by rw [HTK.out]; exact hown3) hgrow
        rw [← take_snoc_rows hlt, HTK.out] at hstep
        have hR3 := (((HR.out.below HK2.out).alloc (.cells #[.slice au (row zss k).length cu] 27)).grown (HOWN2.out.alloc _) (by decide) hgrow).other (a := ⟨w1.heap.size, 1, none⟩) (by show w.heap.size + 1 ≠ w1.heap.size; omega) (.slice (some ⟨gg, 0, none⟩) (k + 1) cap)
        have HST := Lib.hid hstep
        have HR3 := Lib.hid hR3
        clear hstep hR3 hown3 hgrow hat hbx
        go_wp2
        go_roundw
        case rel => exact ⟨k + 1, by omega, by go_num, HST, HR3⟩
        case measure => simp [intOf]; omega)
    · have hkk : k = zss.length := by omega
      rw [hkk, List.take_length] at HS
      have HS' := HS
      obtain ⟨vn, V, hT, hvo, hvn, hap⟩ := HS.out.own
      obtain ⟨a', c', hvs, _, _⟩ := hvn.shape
      subst hvs
      clear hkk
      have t0 := hT.cell0
      have t1 := hT.cell1
      have d0 := HR.out.cell0
      have d1 := HR.out.cell1
      have g0 := HR.out.frozen 0
      have g1 := HR.out.frozen 1
      have HT := Lib.hid hT
      have HVO := Lib.hid hvo
      have HVN := Lib.hid hvn
      have HAP := Lib.hid hap
      clear hT hvo hvn hap
      go_wp2
      have hS1 : Only (fun b => b = w.heap.size + 1) wr ((wr.setCell ⟨w.heap.size + 1, 0, none⟩ (.slice ag O.length cg)).setCell ⟨w.heap.size + 1, 1, none⟩ (.slice a' zss.length c')) :=
        Only.setCell (S := fun b => b = w.heap.size + 1) (Only.setCell (S := fun b => b = w.heap.size + 1) (Only.refl _ _) (p := ⟨w.heap.size + 1, 0, none⟩) rfl _) (p := ⟨w.heap.size + 1, 1, none⟩) rfl _
      have hfin : GivesArena w O zss (.returned (.agg #[.slice ag O.length cg, .slice a' zss.length c'])) ((wr.setCell ⟨w.heap.size + 1, 0, none⟩ (.slice ag O.length cg)).setCell ⟨w.heap.size + 1, 1, none⟩ (.slice a' zss.length c')) :=
        ⟨_, rfl, ⟨_, _, V, rfl, (HVO.out.only hS1 (fun g hg e => HR.out.not_own HVO.out.own (by decide) (by rw [hg, e]))).retop, (HVN.out.only hS1 (fun g hg e => HR.out.not_own HVN.out.own (by decide) (by rw [hg, e])) (fun k hk g hg e => HR.out.not_own (HVN.out.rows k hk).own (by decide) (by rw [hg, e]))).retop, HAP.out⟩,
          (HS'.out.below.setCell (by show w.heap.size ≤ w.heap.size + 1; omega) _).setCell (by show w.heap.size ≤ w.heap.size + 1; omega) _⟩
      exact bodyPost_ret (v := .agg #[.slice ag O.length cg, .slice a' zss.length c']) (by simp [results, Try.results79, go_sem, d0, d1]) rfl hfin
end

section
open Go.RowKit

theorem Box2.set0_only {w : World} {t : Nat} (x : Value) : Only (fun b => b = t) w (w.setCell ⟨t, 0, none⟩ x) := Only.setCell (S := fun b => b = t) (Only.refl _ _) (p := ⟨t, 0, none⟩) rfl _
theorem Box2.set1_only {w : World} {t : Nat} (x : Value) : Only (fun b => b = t) w (w.setCell ⟨t, 1, none⟩ x) := Only.setCell (S := fun b => b = t) (Only.refl _ _) (p := ⟨t, 1, none⟩) rfl _

/-- A number x is appended to the owners; then the new owners are stored into the struct. -/
theorem Half2.owner {w wr w1 : World} {t b gg cap : Nat} {ob : Obj} {vo sa sb vn : Value} {V : Nat → Value} {O : List Int} {x : Int} {zss : List (List Int)} (hbel : Below w.heap.size w wr) (hb : Box2 wr b 30 sa sb) (hT : Box2 wr t 30 vo vn)
    (hvo : OwnInts wr w.heap.size wr.heap.size vo O) (hvn : OwnRows wr w.heap.size wr.heap.size vn V zss) (hap : ∀ i, i < zss.length → ∀ g, (V i).ownBlock = some g → vo.ownBlock ≠ some g) (htw : w.heap.size ≤ t) (hbt : b ≠ t) (hl : O.length ≤ 1048576) (hx : Fits x)
    (hown1 : w1.ownsRow w.heap.size 2 1 (.slice (some ⟨gg, 0, none⟩) (O.length + 1) cap) (O.length + 1) (O.map (Value.int .i64) ++ [.int .i64 x])) (hgrow : (wr.alloc ob).grownBy w1 vo.ownBlock) (hat : vo.ownBlock = some gg ∨ gg = wr.heap.size + 1) :
    Half2 w (w1.setCell ⟨t, 0, none⟩ (.slice (some ⟨gg, 0, none⟩) (O.length + 1) cap)) t b (.slice (some ⟨gg, 0, none⟩) (O.length + 1) cap) sa sb (O ++ [x]) zss := by
  have h2a : Below wr.heap.size wr (wr.alloc ob) := below1 _ _
  have hown := (hvo.below h2a).own
  have hT1 := (hT.below h2a).grown hown (by decide) hgrow
  have hb1 := (hb.below h2a).grown hown (by decide) hgrow
  have hI : OwnInts w1 w.heap.size w1.heap.size (.slice (some ⟨gg, 0, none⟩) (O.length + 1) cap) (O ++ [x]) := by
    refine OwnInts.mk' (by simpa using hown1) (by simp; omega) fun k hk => ?_
    by_cases e : k < O.length
    · rw [show nth (O ++ [x]) k = nth O k from by simp [nth, List.getElem?_append_left e]]
      exact hvo.fits k e
    · have : k = O.length := by simp at hk; omega
      subst this
      rw [show nth (O ++ [x]) O.length = x from by simp [nth]]
      exact hx
  have hR := (hvn.below h2a).only (Only.of_grown hgrow) (fun g h1 h2 => own_types (hvn.below h2a).own hown g h1 h2) (fun k hk g h1 h2 => hap k hk g h1 h2)
  have hS := Box2.set0_only (w := w1) (t := t) (.slice (some ⟨gg, 0, none⟩) (O.length + 1) cap)
  refine ⟨?_, hb1.only hS hbt, _, V, hT1.set0 _, (hI.only hS (fun g hg e => hT1.not_own hI.own (by decide) (by rw [hg, e]))).retop, (hR.only hS (fun g hg e => hT1.not_own hR.own (by decide) (by rw [hg, e])) (fun k hk g hg e => hT1.not_own (hR.rows k hk).own (by decide) (by rw [hg, e]))).retop, fun i hi g hg hh => ?_⟩
  · have h3 : Below w.heap.size w (wr.alloc ob) := hbel.alloc hbel.size ob
    exact (h3.trans ((Only.of_grown hgrow).below h3.size (fun g hg => (hown.lt g hg).1))).setCell htw _
  · simp [Value.ownBlock] at hh
    subst hh
    rcases hat with h | h
    · exact hap i hi _ hg h
    · have := (hvn.rows i hi).top _ hg
      omega

def turnO (O : List Int) : List Int := O.map fun x => 1 - x
theorem turnO_len (O : List Int) : (turnO O).length = O.length := by simp [turnO]
theorem turnO_nth {O : List Int} {k : Nat} (h : k < O.length) : nth (turnO O) k = 1 - nth O k := by simp [turnO, nth, h]

open Classical in
noncomputable def turnedO (O : List Int) (zss : List (List Int)) : List Int := if ArenaP O zss then turnO O else []
open Classical in
noncomputable def turnedN (O : List Int) (zss : List (List Int)) : List (List Int) := if ArenaP O zss then zss else []

theorem ownArena_zero (w : World) (B D : Nat) : OwnArena w B D (.agg #[.slice none 0 0, .slice none 0 0]) [] [] := ⟨_, _, _, rfl, OwnInts.nil _ _ _, OwnRows.nil _ _ _, fun k hk => absurd hk (by simp)⟩

/-- k owners are exchanged in place. -/
structure Turn (w wr : World) (t r k : Nat) (vo vn : Value) (V : Nat → Value) (O : List Int) (zss : List (List Int)) : Prop where
  below : Below w.heap.size w wr
  box : Box2 wr t 30 vo vn
  res : Box2 wr r 30 (.slice none 0 0) (.slice none 0 0)
  own : ∃ P, P.length = O.length ∧ OwnInts wr w.heap.size wr.heap.size vo P ∧ ∀ i, i < O.length → nth P i = if i < k then 1 - nth O i else nth O i
  rows : OwnRows wr w.heap.size wr.heap.size vn V zss

theorem Turn.step {w wr : World} {t r k g n c : Nat} {vn : Value} {V : Nat → Value} {O : List Int} {zss : List (List Int)} (h : Turn w wr t r k (.slice (some ⟨g, 0, none⟩) n c) vn V O zss) (hn : n = O.length) (hk : k < O.length) (hf : Fits (1 - nth O k)) (hg : w.heap.size ≤ g) 
    (hap : ∀ i, i < zss.length → ∀ b, (V i).ownBlock = some b → b ≠ g) :
    Turn w (wr.setCell ⟨g, k, none⟩ (.int .i64 (1 - nth O k))) t r (k + 1) (.slice (some ⟨g, 0, none⟩) n c) vn V O zss := by
  obtain ⟨P, hl, ho, hm⟩ := h.own
  have hS : Only (fun b => b = g) wr (wr.setCell ⟨g, k, none⟩ (.int .i64 (1 - nth O k))) := Only.setCell (S := fun b => b = g) (Only.refl _ _) (p := ⟨g, k, none⟩) rfl _
  have htg : t ≠ g := fun e => h.box.not_own ho.own (by decide) (by simp [Value.ownBlock, e])
  have hrg : r ≠ g := fun e => h.res.not_own ho.own (by decide) (by simp [Value.ownBlock, e])
  refine ⟨h.below.setCell hg _, h.box.only hS htg, h.res.only hS hrg, ⟨P.set k (1 - nth O k), by simpa using hl, (ho.store (by omega) (by omega) hf).retop, fun i hi => ?_⟩, (h.rows.only hS (fun b hb e => own_types h.rows.own ho.own b hb (by simp [Value.ownBlock, e])) (fun i hi b hb e => hap i hi b hb e)).retop⟩
  rw [nth_set (by omega)]
  by_cases e : i = k
  · subst e; simp
  · rw [if_neg e, hm i hi]
    by_cases h' : i < k
    · rw [if_pos h', if_pos (by omega)]
    · rw [if_neg h', if_neg (by omega)]

theorem Turn.drew {w wr : World} {t r k : Nat} {vo vn : Value} {V : Nat → Value} {O : List Int} {zss : List (List Int)} (h : Turn w wr t r k vo vn V O zss) : Turn w wr.drew t r k vo vn V O zss := by
  have hb : Below wr.heap.size wr wr.drew := (Below.refl _ _).drew
  obtain ⟨P, hl, ho, hm⟩ := h.own
  exact ⟨h.below.drew, h.box.below hb, h.res.below hb, ⟨P, hl, (ho.below hb).retop, hm⟩, (h.rows.below hb).retop⟩

set_option maxHeartbeats 2000000 in
set_option maxRecDepth 100000 in
theorem specTurned_is {w : World} {va : Value} {O P : List Int} {zss yss : List (List Int)} (hr : turnedO O zss = P ∧ turnedN O zss = yss) (h : ArenaAt w va O zss) (hn : zss.length ≤ 1048576) :
    Calls Try.prog 30 #[va] w (GivesArena w P yss) := by
  have HAt := Lib.hid h
  obtain ⟨ao, an, co, cn, A, C, rfl, h1, h2⟩ := h
  clear h1 h2
  obtain ⟨W, hW⟩ : ∃ W, W = (w.alloc (.cells #[.slice ao O.length co, .slice an zss.length cn] 30)).alloc (.cells #[.slice none 0 0, .slice none 0 0] 30) := ⟨_, rfl⟩
  have HW := Lib.hid hW
  have BW : Hid (Below w.heap.size w W) := by rw [hW]; exact below2 _ _ _
  have bW : Hid (Box2 W w.heap.size 30 (.slice ao O.length co) (.slice an zss.length cn)) := by rw [hW]; exact (Box2.new w _ _ _).alloc _
  have rW : Hid (Box2 W (w.heap.size + 1) 30 (.slice none 0 0) (.slice none 0 0)) := by rw [hW]; exact Box2.new_at (by simp) _ _ _
  clear hW
  cases hA : arenaB O zss with
  | false =>
    have HE : Hid (P = [] ∧ yss = []) := by
      rw [← hr.1, ← hr.2]; unfold turnedO turnedN
      rw [if_neg (fun hh => by rw [arenaB_yes hh] at hA; cases hA), if_neg (fun hh => by rw [arenaB_yes hh] at hA; cases hA)]; exact ⟨rfl, rfl⟩
    have HC := Lib.hid (specArenaOk_at hA (HAt.out.below BW.out))
    clear hA hr
    go_enter Try.func30, Try.ntmps30
    go_wp2_with fail
    rw [← HW.out]
    refine HC.out.mono ?_
    rintro e w1 ⟨rfl, hb⟩
    have B1 := Lib.hid (BW.out.trans (hb.mono BW.out.size))
    have r1 := rW.out.below hb
    have d0 := r1.cell0
    have d1 := r1.cell1
    have g0 := r1.frozen 0
    have g1 := r1.frozen 1
    have R1 := Lib.hid r1
    clear hb r1
    go_wp2
    exact bodyPost_ret (v := .agg #[.slice none 0 0, .slice none 0 0]) (by simp [results, Try.results30, go_sem, d0, d1]) rfl
      ⟨_, rfl, by rw [HE.out.1, HE.out.2]; exact ownArena_zero _ _ _, (B1.out.setCell (by show w.heap.size ≤ w.heap.size + 1; omega) _).setCell (by show w.heap.size ≤ w.heap.size + 1; omega) _⟩
  | true =>
    have hP := arenaB_iff.1 hA
    have HP := Lib.hid hP
    have hO256 := hP.2.1
    have HE : Hid (P = turnO O ∧ yss = zss) := by
      rw [← hr.1, ← hr.2]; unfold turnedO turnedN
      rw [if_pos hP, if_pos hP]; exact ⟨rfl, rfl⟩
    have HC := Lib.hid (specArenaOk_at hA (HAt.out.below BW.out))
    clear hA hr hP
    go_enter Try.func30, Try.ntmps30
    go_wp2_with fail
    rw [← HW.out]
    refine HC.out.mono ?_
    rintro e w1 ⟨rfl, hb⟩
    have B1 := Lib.hid (BW.out.trans (hb.mono BW.out.size))
    have b1 := Lib.hid (bW.out.below hb)
    have r1 := Lib.hid (rW.out.below hb)
    clear hb
    have c0 := b1.out.cell0
    have c1 := b1.out.cell1
    go_wp2_with fail
    refine (l1CopyArena_is (HAt.out.below B1.out) hn).mono ?_
    rintro e w2 ⟨va, rfl, hoa, hb⟩
    obtain ⟨vo, vn, V, rfl, ho, hr, hap⟩ := hoa
    obtain ⟨a1, k1, hs1, _, hg1⟩ := ho.shape
    obtain ⟨a2, k2, hs2, _, _⟩ := hr.shape
    subst hs1
    subst hs2
    have B2 := Lib.hid (B1.out.trans (hb.mono B1.out.size))
    have r2 := Lib.hid (r1.out.below hb)
    have HG := Lib.hid hg1
    have HAP := Lib.hid hap
    have S0 : Hid (Turn w (w2.alloc (.cells #[.slice a1 O.length k1, .slice a2 zss.length k2] 30)) w2.heap.size (w.heap.size + 1) 0 (.slice a1 O.length k1) (.slice a2 zss.length k2) V O zss) :=
      ⟨B2.out.alloc B2.out.size _, Box2.new _ _ _ _, r2.out.alloc _, ⟨O, rfl, ((ho.base B1.out.size).below (below1 _ _)).retop, fun i _ => by rw [if_neg (Nat.not_lt_zero _)]⟩, ((hr.base B1.out.size).below (below1 _ _)).retop⟩
    have hs02 : w.heap.size + 2 ≤ w2.heap.size := by
      have := r2.out.lt; omega
    clear hb ho hr hg1 hap c0 c1
    go_wp2
    go_loopw [4] (fun i wr => ∃ k : Nat, k ≤ O.length ∧ i = .int .i64 k ∧ Hid (Turn w wr w2.heap.size (w.heap.size + 1) k (.slice a1 O.length k1) (.slice a2 zss.length k2) V O zss)) (fun i _ => O.length - (intOf i).toNat)
    case atStart => exact ⟨0, Nat.zero_le _, rfl, S0⟩
    case round =>
      clear S0
      obtain ⟨k, hk, rfl, HS⟩ := hrel
      have t0 := HS.out.box.cell0
      have t1 := HS.out.box.cell1
      by_cases hlt : k < O.length
      · obtain ⟨g, ha, hgB, hgD, hgo, hfr⟩ := HG.out (by omega)
        subst ha
        have hck : wr.cell? ⟨g, k, none⟩ = some (.int .i64 (nth O k)) := by
          obtain ⟨P', hl, ho, hm⟩ := HS.out.own
          have ho' := ho.own
          rw [hl] at ho'
          rw [ho'.cellAt k (by omega)]
          have := hm k hlt
          rw [if_neg (Nat.lt_irrefl _)] at this
          rw [← this]
          simp [hl, hlt, nth]
        have hfk : wr.frozen? ⟨g, k, none⟩ = false := by
          obtain ⟨P', hl, ho, hm⟩ := HS.out.own
          have ho' := ho.own
          rw [hl] at ho'
          exact ho'.frozenAt k
        have h01 := (HP.out.2.2.2 k hlt).1
        have hN : Hid (Turn w (wr.setCell ⟨g, k, none⟩ (.int .i64 (1 - nth O k))) w2.heap.size (w.heap.size + 1) (k + 1) (.slice (some ⟨g, 0, none⟩) O.length k1) (.slice a2 zss.length k2) V O zss) :=
          HS.out.step rfl hlt (by unfold Fits; omega) (by have := B1.out.size; omega) (fun i hi b hb e => HAP.out i hi b hb (by rw [e]; exact hgo))
        have hwr : IntKind.i64.wrap (1 - nth O k) = 1 - nth O k := IntWalk.i64_in _ (by omega)
        have hi1 : (k : Int) < O.length := by omega
        clear hgo hfr h01
        go_wp2
        go_region
        all_goals (
          go_wp2
          go_roundw
          case rel => exact ⟨k + 1, by omega, by go_num, hN.out.drew⟩
          case measure => simp [intOf]; omega)
      · have hkk : k = O.length := by omega
        have hO : Hid (OwnInts wr w.heap.size wr.heap.size (.slice a1 O.length k1) (turnO O)) := by
          obtain ⟨P', hl, ho, hm⟩ := HS.out.own
          have : P' = turnO O := list_ext (by rw [hl, turnO_len]) fun i hi => by
            rw [hm i (by omega), if_pos (by omega), turnO_nth (by omega)]
          rw [← this]; exact ho
        have d0 := HS.out.res.cell0
        have d1 := HS.out.res.cell1
        have g0 := HS.out.res.frozen 0
        have g1 := HS.out.res.frozen 1
        clear hkk
        go_wp2
        have hS1 : Only (fun b => b = w.heap.size + 1) wr ((wr.setCell ⟨w.heap.size + 1, 0, none⟩ (.slice a1 O.length k1)).setCell ⟨w.heap.size + 1, 1, none⟩ (.slice a2 zss.length k2)) :=
          (Box2.set0_only _).trans (Box2.set1_only _)
        have hfin : GivesArena w P yss (.returned (.agg #[.slice a1 O.length k1, .slice a2 zss.length k2])) ((wr.setCell ⟨w.heap.size + 1, 0, none⟩ (.slice a1 O.length k1)).setCell ⟨w.heap.size + 1, 1, none⟩ (.slice a2 zss.length k2)) := by
          rw [HE.out.1, HE.out.2]
          exact ⟨_, rfl, ⟨_, _, V, rfl, (hO.out.only hS1 (fun g hg e => HS.out.res.not_own hO.out.own (by decide) (by rw [hg, e]))).retop, (HS.out.rows.only hS1 (fun g hg e => HS.out.res.not_own HS.out.rows.own (by decide) (by rw [hg, e])) (fun k hk g hg e => HS.out.res.not_own (HS.out.rows.rows k hk).own (by decide) (by rw [hg, e]))).retop, HAP.out⟩,
            (HS.out.below.setCell (by show w.heap.size ≤ w.heap.size + 1; omega) _).setCell (by show w.heap.size ≤ w.heap.size + 1; omega) _⟩
        exact bodyPost_ret (v := .agg #[.slice a1 O.length k1, .slice a2 zss.length k2]) (by simp [results, Try.results30, go_sem, d0, d1]) rfl hfin

theorem turnO_take {O : List Int} {k : Nat} (h : k < O.length) : turnO (O.take (k + 1)) = turnO (O.take k) ++ [1 - nth O k] := by
  rw [List.take_succ_eq_append_getElem h, nth_eq h]; simp only [turnO, List.map_append, List.map_cons, List.map_nil]

set_option maxHeartbeats 2000000 in
set_option maxRecDepth 100000 in
theorem clone_is {w : World} {va : Value} {O : List Int} {zss : List (List Int)} (h : ArenaAt w va O zss) (hn : zss.length ≤ 1048576) :
    Calls Try.prog 58 #[va] w (GivesArena w O zss) := by
  obtain ⟨i0, hi, hz0, hz1, hz2⟩ := info_parts info_rows
  obtain ⟨ao, an, co, cn, A, C, rfl, h1, h2⟩ := h
  have HO := Lib.hid h1
  have HN := Lib.hid h2
  clear h1 h2
  go_enter Try.func58, Try.ntmps58
  go_wp2_with fail
  refine (Clone_is co ((HO.out.alloc _).alloc _)).mono ?_
  rintro e w1 ⟨vo, rfl, ho, hb⟩
  have B1 := Lib.hid ((below2 w _ _).trans (hb.mono (by simp; omega)))
  have b1 := Lib.hid (((Box2.new w 30 (.slice ao O.length co) (.slice an zss.length cn)).alloc _).below hb)
  have r1 := Lib.hid ((Box2.new_at (g := w.heap.size + 1) (by simp) 30 (.slice none 0 0) (.slice none 0 0)).below hb)
  have hvo : ∃ ag cg, vo = .slice ag O.length cg := by obtain ⟨a, c, hv, _⟩ := ho.shape; exact ⟨a, c, hv⟩
  obtain ⟨ag, cg, hvo⟩ := hvo
  subst hvo
  have hs1 : w.heap.size + 2 ≤ w1.heap.size := by have := hb.size; simp at this; omega
  have o1 : Hid (OwnInts w1 w.heap.size w1.heap.size (.slice ag O.length cg) O) := ho.base (by simp; omega)
  have HS1 := Lib.hid hs1
  clear ho hb hs1
  have S0 : Hid (Half2 w (w1.alloc (.cells #[.slice ag O.length cg, .slice none 0 0] 30)) w1.heap.size w.heap.size (.slice ag O.length cg) (.slice ao O.length co) (.slice an zss.length cn) O (zss.take 0)) :=
    ⟨B1.out.alloc B1.out.size _, b1.out.alloc _, _, _, Box2.new _ _ _ _, (o1.out.below (below1 _ _)).retop, OwnRows.nil _ _ _, fun i hi => absurd hi (by simp)⟩
  have R0 := Lib.hid (r1.out.alloc (.cells #[.slice ag O.length cg, .slice none 0 0] 30))
  have hlz := HN.out.len
  have c1a := (b1.out.alloc (.cells #[.slice ag O.length cg, .slice none 0 0] 30)).cell1
  go_wp2
  clear c1a
  go_loopw [13] (fun i wr => ∃ k : Nat, k ≤ zss.length ∧ i = .int .i64 k ∧ Hid (Half2 w wr w1.heap.size w.heap.size (.slice ag O.length cg) (.slice ao O.length co) (.slice an zss.length cn) O (zss.take k)) ∧ Hid (Box2 wr (w.heap.size + 1) 30 (.slice none 0 0) (.slice none 0 0))) (fun i _ => zss.length - (intOf i).toNat)
  case atStart => exact ⟨0, Nat.zero_le _, rfl, S0, R0⟩
  case round =>
    clear S0 R0
    obtain ⟨k, hk, rfl, HS, HR⟩ := hrel
    have hlen1 := HS1.out
    have hlen1' : w.heap.size ≤ w1.heap.size := by omega
    have bc1 := HS.out.box.cell1
    by_cases hlt : k < zss.length
    · obtain ⟨vn, V, hT, hvo, hvn, hap⟩ := HS.out.own
      have htk : (zss.take k).length = k := by simp; omega
      obtain ⟨a', c', hvs, _, _⟩ := hvn.shape
      rw [htk] at hvs
      subst hvs
      have HT := Lib.hid hT
      have HVO := Lib.hid hvo
      have HVN := Lib.hid hvn
      have HAP := Lib.hid hap
      have hown := hvn.own
      rw [htk] at hown
      have HOWN := Lib.hid hown
      have HTK := Lib.hid htk
      clear hT hvo hvn hap hown htk
      have N1 := Lib.hid (HN.out.below HS.out.below)
      obtain ⟨b, off, ha, hc⟩ := N1.out.cell (by omega)
      subst ha
      have hck := hc k hlt
      clear hc
      have hi1 : (k : Int) < zss.length := by omega
      have ht1 := HT.out.cell1
      have HD : Hid (Below wr.heap.size wr wr.drew) := (Below.refl _ _).drew
      have HRow := Lib.hid ((N1.out.rows k hlt).below HD.out)
      go_wp2
      go_region_law (first
        | (refine step_append_lies _ (by rfl) _ _ _ (by rfl) w.heap.size 27 i0 (.slice none 0 0) 1 24 Try.underlying28 hi hz0 hz1 hz2 rfl (by decide) (.slice a' k c') k ((List.range k).map V) (by rfl) (HOWN2.out.alloc _) ⟨w2.heap.size, 0, none⟩ 1 1 [.slice au (row zss k).length cu] (by rfl) (by rfl) (World.news_of_block (cs := #[.slice au (row zss k).length cu]) (t := 27) (fr := (0, 0)) (heap_alloc_new w2 _)) (by simp [Value.oneCell']) (by omega) (by unfold maxLen; omega) (by omega) (by have := HB2.out.size; simp; omega) (w2.heap.size + 1) (by simp) ?_; intro gg cap w3 hown3 hgrow hat hlt3; have hbx := (HT2.out.alloc (.cells #[.slice au (row zss k).length cu] 27)).grown (HOWN2.out.alloc _) (by decide) hgrow; have q3 := hbx.cell1; have p3 := hbx.frozen 1)
        | (go_simp; go_at_call 101; refine (Clone_is (C k) HRow.out).mono ?_; rintro e w2 ⟨u, rfl, hu, hb⟩; obtain ⟨au, cu, hus, _, _⟩ := hu.shape; subst hus; have HU := Lib.hid hu; have HB2 := Lib.hid (HS.out.below.trans ((HD.out.trans (hb.mono HD.out.size)).mono HS.out.below.size)); have HK2 := Lib.hid (HD.out.trans (hb.mono HD.out.size)); have t2 := (HT.out.below HK2.out).cell1; have t2a := ((HT.out.below HK2.out).alloc (.cells #[.slice au (row zss k).length cu] 27)).cell1; have HT2 := Lib.hid (HT.out.below HK2.out); have HOWN2 := Lib.hid (ownsRow_only HOWN.out (S := fun _ => False) (Only.of_below HK2.out) (fun _ _ h => h)); have hlt2 := HK2.out.size; have htl := HT.out.lt; clear hu hb))
      all_goals (
        have hstep := Half2.step (zs := row zss k) HS.out.below HS.out.box HT.out HVO.out HVN.out HAP.out hlen1' (by omega) (by rw [HTK.out]; omega) HK2.out HU.out (by rw [HTK.out]; exact hown3) hgrow
        rw [← take_snoc_rows hlt, HTK.out] at hstep
        have hR3 := (((HR.out.below HK2.out).alloc (.cells #[.slice au (row zss k).length cu] 27)).grown (HOWN2.out.alloc _) (by decide) hgrow).other (a := ⟨w1.heap.size, 1, none⟩) (by show w.heap.size + 1 ≠ w1.heap.size; omega) (.slice (some ⟨gg, 0, none⟩) (k + 1) cap)
        have HST := Lib.hid hstep
        have HR3 := Lib.hid hR3
        clear hstep hR3 hown3 hgrow hat hbx
        go_wp2
        go_roundw
        case rel => exact ⟨k + 1, by omega, by go_num, HST, HR3⟩
        case measure => simp [intOf]; omega)
    · have hkk : k = zss.length := by omega
      rw [hkk, List.take_length] at HS
      have HS' := HS
      obtain ⟨vn, V, hT, hvo, hvn, hap⟩ := HS.out.own
      obtain ⟨a', c', hvs, _, _⟩ := hvn.shape
      subst hvs
      clear hkk
      have t0 := hT.cell0
      have t1 := hT.cell1
      have d0 := HR.out.cell0
      have d1 := HR.out.cell1
      have g0 := HR.out.frozen 0
      have g1 := HR.out.frozen 1
      have HT := Lib.hid hT
      have HVO := Lib.hid hvo
      have HVN := Lib.hid hvn
      have HAP := Lib.hid hap
      clear hT hvo hvn hap
      go_wp2
      have hS1 : Only (fun b => b = w.heap.size + 1) wr ((wr.setCell ⟨w.heap.size + 1, 0, none⟩ (.slice ag O.length cg)).setCell ⟨w.heap.size + 1, 1, none⟩ (.slice a' zss.length c')) :=
        Only.setCell (S := fun b => b = w.heap.size + 1) (Only.setCell (S := fun b => b = w.heap.size + 1) (Only.refl _ _) (p := ⟨w.heap.size + 1, 0, none⟩) rfl _) (p := ⟨w.heap.size + 1, 1, none⟩) rfl _
      have hfin : GivesArena w O zss (.returned (.agg #[.slice ag O.length cg, .slice a' zss.length c'])) ((wr.setCell ⟨w.heap.size + 1, 0, none⟩ (.slice ag O.length cg)).setCell ⟨w.heap.size + 1, 1, none⟩ (.slice a' zss.length c')) :=
        ⟨_, rfl, ⟨_, _, V, rfl, (HVO.out.only hS1 (fun g hg e => HR.out.not_own HVO.out.own (by decide) (by rw [hg, e]))).retop, (HVN.out.only hS1 (fun g hg e => HR.out.not_own HVN.out.own (by decide) (by rw [hg, e])) (fun k hk g hg e => HR.out.not_own (HVN.out.rows k hk).own (by decide) (by rw [hg, e]))).retop, HAP.out⟩,
          (HS'.out.below.setCell (by show w.heap.size ≤ w.heap.size + 1; omega) _).setCell (by show w.heap.size ≤ w.heap.size + 1; omega) _⟩
      exact bodyPost_ret (v := .agg #[.slice ag O.length cg, .slice a' zss.length c']) (by simp [results, Try.results58, go_sem, d0, d1]) rfl hfin

set_option maxHeartbeats 2000000 in
set_option maxRecDepth 100000 in
theorem Turned_is {w : World} {va : Value} {O P : List Int} {zss yss : List (List Int)} (hr : turnedO O zss = P ∧ turnedN O zss = yss) (h : ArenaAt w va O zss) :
    Calls Try.prog 20 #[va] w (GivesArena w P yss) := by
  have HAt := Lib.hid h
  obtain ⟨ao, an, co, cn, A, C, rfl, h1, h2⟩ := h
  have HOi := Lib.hid h1
  clear h1 h2
  obtain ⟨W, hW⟩ : ∃ W, W = (w.alloc (.cells #[.slice ao O.length co, .slice an zss.length cn] 30)).alloc (.cells #[.slice none 0 0, .slice none 0 0] 30) := ⟨_, rfl⟩
  have HW := Lib.hid hW
  have BW : Hid (Below w.heap.size w W) := by rw [hW]; exact below2 _ _ _
  have bW : Hid (Box2 W w.heap.size 30 (.slice ao O.length co) (.slice an zss.length cn)) := by rw [hW]; exact (Box2.new w _ _ _).alloc _
  have rW : Hid (Box2 W (w.heap.size + 1) 30 (.slice none 0 0) (.slice none 0 0)) := by rw [hW]; exact Box2.new_at (by simp) _ _ _
  clear hW
  cases hA : arenaB O zss with
  | false =>
    have HE : Hid (P = [] ∧ yss = []) := by
      rw [← hr.1, ← hr.2]; unfold turnedO turnedN
      rw [if_neg (fun hh => by rw [arenaB_yes hh] at hA; cases hA), if_neg (fun hh => by rw [arenaB_yes hh] at hA; cases hA)]; exact ⟨rfl, rfl⟩
    have HC := Lib.hid (ArenaOk_at hA (HAt.out.below BW.out))
    clear hA hr
    go_enter Try.func20, Try.ntmps20
    go_wp2_with fail
    rw [← HW.out]
    refine HC.out.mono ?_
    rintro e w1 ⟨rfl, hb⟩
    have B1 := Lib.hid (BW.out.trans (hb.mono BW.out.size))
    have r1 := rW.out.below hb
    have d0 := r1.cell0
    have d1 := r1.cell1
    have g0 := r1.frozen 0
    have g1 := r1.frozen 1
    have R1 := Lib.hid r1
    clear hb r1
    go_wp2
    exact bodyPost_ret (v := .agg #[.slice none 0 0, .slice none 0 0]) (by simp [results, Try.results20, go_sem, d0, d1]) rfl
      ⟨_, rfl, by rw [HE.out.1, HE.out.2]; exact ownArena_zero _ _ _, (B1.out.setCell (by show w.heap.size ≤ w.heap.size + 1; omega) _).setCell (by show w.heap.size ≤ w.heap.size + 1; omega) _⟩
  | true =>
    have hP := arenaB_iff.1 hA
    have HP := Lib.hid hP
    have hO256 := hP.2.1
    have HE : Hid (P = turnO O ∧ yss = zss) := by
      rw [← hr.1, ← hr.2]; unfold turnedO turnedN
      rw [if_pos hP, if_pos hP]; exact ⟨rfl, rfl⟩
    have HC := Lib.hid (ArenaOk_at hA (HAt.out.below BW.out))
    clear hA hr hP
    go_enter Try.func20, Try.ntmps20
    go_wp2_with fail
    rw [← HW.out]
    refine HC.out.mono ?_
    rintro e w1 ⟨rfl, hb⟩
    have B1 := Lib.hid (BW.out.trans (hb.mono BW.out.size))
    have b1 := Lib.hid (bW.out.below hb)
    have r1 := Lib.hid (rW.out.below hb)
    clear hb
    have c0 := b1.out.cell0
    have c1 := b1.out.cell1
    go_wp2_with fail
    refine (clone_is (HAt.out.below B1.out) (by have := HP.out.2.2.1; omega)).mono ?_
    rintro e w2 ⟨va, rfl, hoa, hb⟩
    obtain ⟨vo, vn, V, rfl, ho, hr, hap⟩ := hoa
    obtain ⟨a1, k1, hs1, _, hg1⟩ := ho.shape
    obtain ⟨a2, k2, hs2, _, _⟩ := hr.shape
    subst hs1
    subst hs2
    have B2 := Lib.hid (B1.out.trans (hb.mono B1.out.size))
    have r2 := Lib.hid (r1.out.below hb)
    have b2 := Lib.hid (b1.out.below hb)
    have HG := Lib.hid hg1
    have HAP := Lib.hid hap
    have S0 : Hid (Turn w (w2.alloc (.cells #[.slice a1 O.length k1, .slice a2 zss.length k2] 30)) w2.heap.size (w.heap.size + 1) 0 (.slice a1 O.length k1) (.slice a2 zss.length k2) V O zss) :=
      ⟨B2.out.alloc B2.out.size _, Box2.new _ _ _ _, r2.out.alloc _, ⟨O, rfl, ((ho.base B1.out.size).below (below1 _ _)).retop, fun i _ => by rw [if_neg (Nat.not_lt_zero _)]⟩, ((hr.base B1.out.size).below (below1 _ _)).retop⟩
    have hs02 : w.heap.size + 2 ≤ w2.heap.size := by
      have := r2.out.lt; omega
    clear hb ho hr hg1 hap c0 c1
    have c0 := b2.out.cell0
    have c0a := (b2.out.alloc (.cells #[.slice a1 O.length k1, .slice a2 zss.length k2] 30)).cell0
    go_wp2
    clear c0a c0
    go_loopw [15] (fun i wr => ∃ k : Nat, k ≤ O.length ∧ i = .int .i64 k ∧ Hid (Turn w wr w2.heap.size (w.heap.size + 1) k (.slice a1 O.length k1) (.slice a2 zss.length k2) V O zss)) (fun i _ => O.length - (intOf i).toNat)
    case atStart => exact ⟨0, Nat.zero_le _, rfl, S0⟩
    case round =>
      clear S0
      obtain ⟨k, hk, rfl, HS⟩ := hrel
      have t0 := HS.out.box.cell0
      have t1 := HS.out.box.cell1
      by_cases hlt : k < O.length
      · obtain ⟨g, ha, hgB, hgD, hgo, hfr⟩ := HG.out (by omega)
        subst ha
        have hck : wr.cell? ⟨g, k, none⟩ = some (.int .i64 (nth O k)) := by
          obtain ⟨P', hl, ho, hm⟩ := HS.out.own
          have ho' := ho.own
          rw [hl] at ho'
          rw [ho'.cellAt k (by omega)]
          have := hm k hlt
          rw [if_neg (Nat.lt_irrefl _)] at this
          rw [← this]
          simp [hl, hlt, nth]
        obtain ⟨ob, oo, hoa, hoc⟩ := (HOi.out.below HS.out.below).cell (by omega)
        have o1 := hoc k hlt
        subst hoa
        clear hoc
        have hfk : wr.frozen? ⟨g, k, none⟩ = false := by
          obtain ⟨P', hl, ho, hm⟩ := HS.out.own
          have ho' := ho.own
          rw [hl] at ho'
          exact ho'.frozenAt k
        have h01 := (HP.out.2.2.2 k hlt).1
        have hN : Hid (Turn w (wr.setCell ⟨g, k, none⟩ (.int .i64 (1 - nth O k))) w2.heap.size (w.heap.size + 1) (k + 1) (.slice (some ⟨g, 0, none⟩) O.length k1) (.slice a2 zss.length k2) V O zss) :=
          HS.out.step rfl hlt (by unfold Fits; omega) (by have := B1.out.size; omega) (fun i hi b hb e => HAP.out i hi b hb (by rw [e]; exact hgo))
        have hwr : IntKind.i64.wrap (1 - nth O k) = 1 - nth O k := IntWalk.i64_in _ (by omega)
        have hi1 : (k : Int) < O.length := by omega
        clear hgo hfr h01
        go_wp2
        go_roundw
        case rel => exact ⟨k + 1, by omega, by go_num, hN.out⟩
        case measure => simp [intOf]; omega
      · have hkk : k = O.length := by omega
        have hO : Hid (OwnInts wr w.heap.size wr.heap.size (.slice a1 O.length k1) (turnO O)) := by
          obtain ⟨P', hl, ho, hm⟩ := HS.out.own
          have : P' = turnO O := list_ext (by rw [hl, turnO_len]) fun i hi => by
            rw [hm i (by omega), if_pos (by omega), turnO_nth (by omega)]
          rw [← this]; exact ho
        have d0 := HS.out.res.cell0
        have d1 := HS.out.res.cell1
        have g0 := HS.out.res.frozen 0
        have g1 := HS.out.res.frozen 1
        clear hkk
        go_wp2
        have hS1 : Only (fun b => b = w.heap.size + 1) wr ((wr.setCell ⟨w.heap.size + 1, 0, none⟩ (.slice a1 O.length k1)).setCell ⟨w.heap.size + 1, 1, none⟩ (.slice a2 zss.length k2)) :=
          (Box2.set0_only _).trans (Box2.set1_only _)
        have hfin : GivesArena w P yss (.returned (.agg #[.slice a1 O.length k1, .slice a2 zss.length k2])) ((wr.setCell ⟨w.heap.size + 1, 0, none⟩ (.slice a1 O.length k1)).setCell ⟨w.heap.size + 1, 1, none⟩ (.slice a2 zss.length k2)) := by
          rw [HE.out.1, HE.out.2]
          exact ⟨_, rfl, ⟨_, _, V, rfl, (hO.out.only hS1 (fun g hg e => HS.out.res.not_own hO.out.own (by decide) (by rw [hg, e]))).retop, (HS.out.rows.only hS1 (fun g hg e => HS.out.res.not_own HS.out.rows.own (by decide) (by rw [hg, e])) (fun k hk g hg e => HS.out.res.not_own (HS.out.rows.rows k hk).own (by decide) (by rw [hg, e]))).retop, HAP.out⟩,
            (HS.out.below.setCell (by show w.heap.size ≤ w.heap.size + 1; omega) _).setCell (by show w.heap.size ≤ w.heap.size + 1; omega) _⟩
        exact bodyPost_ret (v := .agg #[.slice a1 O.length k1, .slice a2 zss.length k2]) (by simp [results, Try.results20, go_sem, d0, d1]) rfl hfin

theorem turned_size {O : List Int} {zss : List (List Int)} (h : sizeArena O zss ≤ 1048576) : sizeArena (turnedO O zss) (turnedN O zss) ≤ 1048576 := by
  unfold turnedO turnedN
  split
  · unfold sizeArena at *; rw [turnO_len]; exact h
  · simp [sizeArena, sumLen]
end

end Go.Proofs.Ytmobegiojhlakaa
