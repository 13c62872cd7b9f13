/-
  Contracts: Turned and its model.
-/
import Derived.Test.YtfhpjkfgcglofaaCopyArena
import Derived.Test.YtfhpjkfgcglofaaMark
namespace Go.Proofs.Ytfhpjkfgcglofaa
open Go.RowKit

theorem Box2.set0_only {w : World} {t : Nat} (x : Value) : Only (fun b => b = t) w (w.setCell ⟨t, 0, none⟩ x) := Only.setCell (S := fun b => b = t) (Only.refl _ _) (p := ⟨t, 0, none⟩) rfl _
theorem Box2.set1_only {w : World} {t : Nat} (x : Value) : Only (fun b => b = t) w (w.setCell ⟨t, 1, none⟩ x) := Only.setCell (S := fun b => b = t) (Only.refl _ _) (p := ⟨t, 1, none⟩) rfl _

/-- A number x is appended to the owners; then the new owners are stored into the struct. -/
theorem Half2.owner {w wr w1 : World} {t b gg cap : Nat} {ob : Obj} {vo sa sb vn : Value} {V : Nat → Value} {O : List Int} {x : Int} {zss : List (List Int)} (hbel : Below w.heap.size w wr) (hb : Box2 wr b 27 sa sb) (hT : Box2 wr t 27 vo vn)
    (hvo : OwnInts wr w.heap.size wr.heap.size vo O) (hvn : OwnRows wr w.heap.size wr.heap.size vn V zss) (hap : ∀ i, i < zss.length → ∀ g, (V i).ownBlock = some g → vo.ownBlock ≠ some g) (htw : w.heap.size ≤ t) (hbt : b ≠ t) (hl : O.length ≤ 1048576) (hx : Fits x)
    (hown1 : w1.ownsRow w.heap.size 2 1 (.slice (some ⟨gg, 0, none⟩) (O.length + 1) cap) (O.length + 1) (O.map (Value.int .i64) ++ [.int .i64 x])) (hgrow : (wr.alloc ob).grownBy w1 vo.ownBlock) (hat : vo.ownBlock = some gg ∨ gg = wr.heap.size + 1) :
    Half2 w (w1.setCell ⟨t, 0, none⟩ (.slice (some ⟨gg, 0, none⟩) (O.length + 1) cap)) t b (.slice (some ⟨gg, 0, none⟩) (O.length + 1) cap) sa sb (O ++ [x]) zss := by
  have h2a : Below wr.heap.size wr (wr.alloc ob) := below1 _ _
  have hown := (hvo.below h2a).own
  have hT1 := (hT.below h2a).grown hown (by decide) hgrow
  have hb1 := (hb.below h2a).grown hown (by decide) hgrow
  have hI : OwnInts w1 w.heap.size w1.heap.size (.slice (some ⟨gg, 0, none⟩) (O.length + 1) cap) (O ++ [x]) := by
    refine OwnInts.mk' (by simpa using hown1) (by simp; omega) fun k hk => ?_
    by_cases e : k < O.length
    · rw [show nth (O ++ [x]) k = nth O k from by simp [nth, List.getElem?_append_left e]]
      exact hvo.fits k e
    · have : k = O.length := by simp at hk; omega
      subst this
      rw [show nth (O ++ [x]) O.length = x from by simp [nth]]
      exact hx
  have hR := (hvn.below h2a).only (Only.of_grown hgrow) (fun g h1 h2 => own_types (hvn.below h2a).own hown g h1 h2) (fun k hk g h1 h2 => hap k hk g h1 h2)
  have hS := Box2.set0_only (w := w1) (t := t) (.slice (some ⟨gg, 0, none⟩) (O.length + 1) cap)
  refine ⟨?_, hb1.only hS hbt, _, V, hT1.set0 _, (hI.only hS (fun g hg e => hT1.not_own hI.own (by decide) (by rw [hg, e]))).retop, (hR.only hS (fun g hg e => hT1.not_own hR.own (by decide) (by rw [hg, e])) (fun k hk g hg e => hT1.not_own (hR.rows k hk).own (by decide) (by rw [hg, e]))).retop, fun i hi g hg hh => ?_⟩
  · have h3 : Below w.heap.size w (wr.alloc ob) := hbel.alloc hbel.size ob
    exact (h3.trans ((Only.of_grown hgrow).below h3.size (fun g hg => (hown.lt g hg).1))).setCell htw _
  · simp [Value.ownBlock] at hh
    subst hh
    rcases hat with h | h
    · exact hap i hi _ hg h
    · have := (hvn.rows i hi).top _ hg
      omega

def turnO (O : List Int) : List Int := O.map fun x => 1 - x
theorem turnO_len (O : List Int) : (turnO O).length = O.length := by simp [turnO]
theorem turnO_nth {O : List Int} {k : Nat} (h : k < O.length) : nth (turnO O) k = 1 - nth O k := by simp [turnO, nth, h]

open Classical in
noncomputable def turnedO (O : List Int) (zss : List (List Int)) : List Int := if ArenaP O zss then turnO O else []
open Classical in
noncomputable def turnedN (O : List Int) (zss : List (List Int)) : List (List Int) := if ArenaP O zss then zss else []

theorem ownArena_zero (w : World) (B D : Nat) : OwnArena w B D (.agg #[.slice none 0 0, .slice none 0 0]) [] [] := ⟨_, _, _, rfl, OwnInts.nil _ _ _, OwnRows.nil _ _ _, fun k hk => absurd hk (by simp)⟩

/-- k owners are exchanged in place. -/
structure Turn (w wr : World) (t r k : Nat) (vo vn : Value) (V : Nat → Value) (O : List Int) (zss : List (List Int)) : Prop where
  below : Below w.heap.size w wr
  box : Box2 wr t 27 vo vn
  res : Box2 wr r 27 (.slice none 0 0) (.slice none 0 0)
  own : ∃ P, P.length = O.length ∧ OwnInts wr w.heap.size wr.heap.size vo P ∧ ∀ i, i < O.length → nth P i = if i < k then 1 - nth O i else nth O i
  rows : OwnRows wr w.heap.size wr.heap.size vn V zss

theorem Turn.step {w wr : World} {t r k g n c : Nat} {vn : Value} {V : Nat → Value} {O : List Int} {zss : List (List Int)} (h : Turn w wr t r k (.slice (some ⟨g, 0, none⟩) n c) vn V O zss) (hn : n = O.length) (hk : k < O.length) (hf : Fits (1 - nth O k)) (hg : w.heap.size ≤ g) 
    (hap : ∀ i, i < zss.length → ∀ b, (V i).ownBlock = some b → b ≠ g) :
    Turn w (wr.setCell ⟨g, k, none⟩ (.int .i64 (1 - nth O k))) t r (k + 1) (.slice (some ⟨g, 0, none⟩) n c) vn V O zss := by
  obtain ⟨P, hl, ho, hm⟩ := h.own
  have hS : Only (fun b => b = g) wr (wr.setCell ⟨g, k, none⟩ (.int .i64 (1 - nth O k))) := Only.setCell (S := fun b => b = g) (Only.refl _ _) (p := ⟨g, k, none⟩) rfl _
  have htg : t ≠ g := fun e => h.box.not_own ho.own (by decide) (by simp [Value.ownBlock, e])
  have hrg : r ≠ g := fun e => h.res.not_own ho.own (by decide) (by simp [Value.ownBlock, e])
  refine ⟨h.below.setCell hg _, h.box.only hS htg, h.res.only hS hrg, ⟨P.set k (1 - nth O k), by simpa using hl, (ho.store (by omega) (by omega) hf).retop, fun i hi => ?_⟩, (h.rows.only hS (fun b hb e => own_types h.rows.own ho.own b hb (by simp [Value.ownBlock, e])) (fun i hi b hb e => hap i hi b hb e)).retop⟩
  rw [nth_set (by omega)]
  by_cases e : i = k
  · subst e; simp
  · rw [if_neg e, hm i hi]
    by_cases h' : i < k
    · rw [if_pos h', if_pos (by omega)]
    · rw [if_neg h', if_neg (by omega)]

theorem Turn.drew {w wr : World} {t r k : Nat} {vo vn : Value} {V : Nat → Value} {O : List Int} {zss : List (List Int)} (h : Turn w wr t r k vo vn V O zss) : Turn w wr.drew t r k vo vn V O zss := by
  have hb : Below wr.heap.size wr wr.drew := (Below.refl _ _).drew
  obtain ⟨P, hl, ho, hm⟩ := h.own
  exact ⟨h.below.drew, h.box.below hb, h.res.below hb, ⟨P, hl, (ho.below hb).retop, hm⟩, (h.rows.below hb).retop⟩

set_option maxHeartbeats 2000000 in
set_option maxRecDepth 100000 in
theorem specTurned_is {w : World} {va : Value} {O P : List Int} {zss yss : List (List Int)} (hr : turnedO O zss = P ∧ turnedN O zss = yss) (h : ArenaAt w va O zss) (hn : zss.length ≤ 1048576) :
    Calls Try.prog 33 #[va] w (GivesArena w P yss) := by
  have HAt := Lib.hid h
  obtain ⟨ao, an, co, cn, A, C, rfl, h1, h2⟩ := h
  clear h1 h2
  obtain ⟨W, hW⟩ : ∃ W, W = (w.alloc (.cells #[.slice ao O.length co, .slice an zss.length cn] 27)).alloc (.cells #[.slice none 0 0, .slice none 0 0] 27) := ⟨_, rfl⟩
  have HW := Lib.hid hW
  have BW : Hid (Below w.heap.size w W) := by rw [hW]; exact below2 _ _ _
  have bW : Hid (Box2 W w.heap.size 27 (.slice ao O.length co) (.slice an zss.length cn)) := by rw [hW]; exact (Box2.new w _ _ _).alloc _
  have rW : Hid (Box2 W (w.heap.size + 1) 27 (.slice none 0 0) (.slice none 0 0)) := by rw [hW]; exact Box2.new_at (by simp) _ _ _
  clear hW
  cases hA : arenaB O zss with
  | false =>
    have HE : Hid (P = [] ∧ yss = []) := by
      rw [← hr.1, ← hr.2]; unfold turnedO turnedN
      rw [if_neg (fun hh => by rw [arenaB_yes hh] at hA; cases hA), if_neg (fun hh => by rw [arenaB_yes hh] at hA; cases hA)]; exact ⟨rfl, rfl⟩
    have HC := Lib.hid (specArenaOk_at hA (HAt.out.below BW.out))
    clear hA hr
    go_enter Try.func33, Try.ntmps33
    go_wp2_with fail
    rw [← HW.out]
    refine HC.out.mono ?_
    rintro e w1 ⟨rfl, hb⟩
    have B1 := Lib.hid (BW.out.trans (hb.mono BW.out.size))
    have r1 := rW.out.below hb
    have d0 := r1.cell0
    have d1 := r1.cell1
    have g0 := r1.frozen 0
    have g1 := r1.frozen 1
    have R1 := Lib.hid r1
    clear hb r1
    go_wp2
    exact bodyPost_ret (v := .agg #[.slice none 0 0, .slice none 0 0]) (by simp [results, Try.results33, go_sem, d0, d1]) rfl
      ⟨_, rfl, by rw [HE.out.1, HE.out.2]; exact ownArena_zero _ _ _, (B1.out.setCell (by show w.heap.size ≤ w.heap.size + 1; omega) _).setCell (by show w.heap.size ≤ w.heap.size + 1; omega) _⟩
  | true =>
    have hP := arenaB_iff.1 hA
    have HP := Lib.hid hP
    have hO256 := hP.2.1
    have HE : Hid (P = turnO O ∧ yss = zss) := by
      rw [← hr.1, ← hr.2]; unfold turnedO turnedN
      rw [if_pos hP, if_pos hP]; exact ⟨rfl, rfl⟩
    have HC := Lib.hid (specArenaOk_at hA (HAt.out.below BW.out))
    clear hA hr hP
    go_enter Try.func33, Try.ntmps33
    go_wp2_with fail
    rw [← HW.out]
    refine HC.out.mono ?_
    rintro e w1 ⟨rfl, hb⟩
    have B1 := Lib.hid (BW.out.trans (hb.mono BW.out.size))
    have b1 := Lib.hid (bW.out.below hb)
    have r1 := Lib.hid (rW.out.below hb)
    clear hb
    have c0 := b1.out.cell0
    have c1 := b1.out.cell1
    go_wp2_with fail
    refine (l1CopyArena_is (HAt.out.below B1.out) hn).mono ?_
    rintro e w2 ⟨va, rfl, hoa, hb⟩
    obtain ⟨vo, vn, V, rfl, ho, hr, hap⟩ := hoa
    obtain ⟨a1, k1, hs1, _, hg1⟩ := ho.shape
    obtain ⟨a2, k2, hs2, _, _⟩ := hr.shape
    subst hs1
    subst hs2
    have B2 := Lib.hid (B1.out.trans (hb.mono B1.out.size))
    have r2 := Lib.hid (r1.out.below hb)
    have HG := Lib.hid hg1
    have HAP := Lib.hid hap
    have S0 : Hid (Turn w (w2.alloc (.cells #[.slice a1 O.length k1, .slice a2 zss.length k2] 27)) w2.heap.size (w.heap.size + 1) 0 (.slice a1 O.length k1) (.slice a2 zss.length k2) V O zss) :=
      ⟨B2.out.alloc B2.out.size _, Box2.new _ _ _ _, r2.out.alloc _, ⟨O, rfl, ((ho.base B1.out.size).below (below1 _ _)).retop, fun i _ => by rw [if_neg (Nat.not_lt_zero _)]⟩, ((hr.base B1.out.size).below (below1 _ _)).retop⟩
    have hs02 : w.heap.size + 2 ≤ w2.heap.size := by
      have := r2.out.lt; omega
    clear hb ho hr hg1 hap c0 c1
    go_wp2
    go_loopw [4] (fun i wr => ∃ k : Nat, k ≤ O.length ∧ i = .int .i64 k ∧ Hid (Turn w wr w2.heap.size (w.heap.size + 1) k (.slice a1 O.length k1) (.slice a2 zss.length k2) V O zss)) (fun i _ => O.length - (intOf i).toNat)
    case atStart => exact ⟨0, Nat.zero_le _, rfl, S0⟩
    case round =>
      clear S0
      obtain ⟨k, hk, rfl, HS⟩ := hrel
      have t0 := HS.out.box.cell0
      have t1 := HS.out.box.cell1
      by_cases hlt : k < O.length
      · obtain ⟨g, ha, hgB, hgD, hgo, hfr⟩ := HG.out (by omega)
        subst ha
        have hck : wr.cell? ⟨g, k, none⟩ = some (.int .i64 (nth O k)) := by
          obtain ⟨P', hl, ho, hm⟩ := HS.out.own
          have ho' := ho.own
          rw [hl] at ho'
          rw [ho'.cellAt k (by omega)]
          have := hm k hlt
          rw [if_neg (Nat.lt_irrefl _)] at this
          rw [← this]
          simp [hl, hlt, nth]
        have hfk : wr.frozen? ⟨g, k, none⟩ = false := by
          obtain ⟨P', hl, ho, hm⟩ := HS.out.own
          have ho' := ho.own
          rw [hl] at ho'
          exact ho'.frozenAt k
        have h01 := (HP.out.2.2.2 k hlt).1
        have hN : Hid (Turn w (wr.setCell ⟨g, k, none⟩ (.int .i64 (1 - nth O k))) w2.heap.size (w.heap.size + 1) (k + 1) (.slice (some ⟨g, 0, none⟩) O.length k1) (.slice a2 zss.length k2) V O zss) :=
          HS.out.step rfl hlt (by unfold Fits; omega) (by have := B1.out.size; omega) (fun i hi b hb e => HAP.out i hi b hb (by rw [e]; exact hgo))
        have hwr : IntKind.i64.wrap (1 - nth O k) = 1 - nth O k := IntWalk.i64_in _ (by omega)
        have hi1 : (k : Int) < O.length := by omega
        clear hgo hfr h01
        go_wp2
        go_region
        all_goals (
          go_wp2
          go_roundw
          case rel => exact ⟨k + 1, by omega, by go_num, hN.out.drew⟩
          case measure => simp [intOf]; omega)
      · have hkk : k = O.length := by omega
        have hO : Hid (OwnInts wr w.heap.size wr.heap.size (.slice a1 O.length k1) (turnO O)) := by
          obtain ⟨P', hl, ho, hm⟩ := HS.out.own
          have : P' = turnO O := list_ext (by rw [hl, turnO_len]) fun i hi => by
            rw [hm i (by omega), if_pos (by omega), turnO_nth (by omega)]
          rw [← this]; exact ho
        have d0 := HS.out.res.cell0
        have d1 := HS.out.res.cell1
        have g0 := HS.out.res.frozen 0
        have g1 := HS.out.res.frozen 1
        clear hkk
        go_wp2
        have hS1 : Only (fun b => b = w.heap.size + 1) wr ((wr.setCell ⟨w.heap.size + 1, 0, none⟩ (.slice a1 O.length k1)).setCell ⟨w.heap.size + 1, 1, none⟩ (.slice a2 zss.length k2)) :=
          (Box2.set0_only _).trans (Box2.set1_only _)
        have hfin : GivesArena w P yss (.returned (.agg #[.slice a1 O.length k1, .slice a2 zss.length k2])) ((wr.setCell ⟨w.heap.size + 1, 0, none⟩ (.slice a1 O.length k1)).setCell ⟨w.heap.size + 1, 1, none⟩ (.slice a2 zss.length k2)) := by
          rw [HE.out.1, HE.out.2]
          exact ⟨_, rfl, ⟨_, _, V, rfl, (hO.out.only hS1 (fun g hg e => HS.out.res.not_own hO.out.own (by decide) (by rw [hg, e]))).retop, (HS.out.rows.only hS1 (fun g hg e => HS.out.res.not_own HS.out.rows.own (by decide) (by rw [hg, e])) (fun k hk g hg e => HS.out.res.not_own (HS.out.rows.rows k hk).own (by decide) (by rw [hg, e]))).retop, HAP.out⟩,
            (HS.out.below.setCell (by show w.heap.size ≤ w.heap.size + 1; omega) _).setCell (by show w.heap.size ≤ w.heap.size + 1; omega) _⟩
        exact bodyPost_ret (v := .agg #[.slice a1 O.length k1, .slice a2 zss.length k2]) (by simp [results, Try.results33, go_sem, d0, d1]) rfl hfin

theorem turnO_take {O : List Int} {k : Nat} (h : k < O.length) : turnO (O.take (k + 1)) = turnO (O.take k) ++ [1 - nth O k] := by
  rw [List.take_succ_eq_append_getElem h, nth_eq h]; simp only [turnO, List.map_append, List.map_cons, List.map_nil]

set_option maxHeartbeats 4000000 in
set_option maxRecDepth 100000 in
theorem Turned_is {w : World} {va : Value} {O P : List Int} {zss yss : List (List Int)} (hr : turnedO O zss = P ∧ turnedN O zss = yss) (h : ArenaAt w va O zss) :
    Calls Try.prog 34 #[va] w (GivesArena w P yss) := by
  obtain ⟨j0, hj, hj0, hj1, hj2⟩ := info_parts info_int
  obtain ⟨i0, hi, hz0, hz1, hz2⟩ := info_parts info_rows
  have HAt := Lib.hid h
  obtain ⟨ao, an, co, cn, A, C, rfl, h1, h2⟩ := h
  have HOi := Lib.hid h1
  have HNi := Lib.hid h2
  clear h1 h2
  obtain ⟨W, hW⟩ : ∃ W, W = (w.alloc (.cells #[.slice ao O.length co, .slice an zss.length cn] 27)).alloc (.cells #[.slice none 0 0, .slice none 0 0] 27) := ⟨_, rfl⟩
  have HW := Lib.hid hW
  have BW : Hid (Below w.heap.size w W) := by rw [hW]; exact below2 _ _ _
  have bW : Hid (Box2 W w.heap.size 27 (.slice ao O.length co) (.slice an zss.length cn)) := by rw [hW]; exact (Box2.new w _ _ _).alloc _
  have rW : Hid (Box2 W (w.heap.size + 1) 27 (.slice none 0 0) (.slice none 0 0)) := by rw [hW]; exact Box2.new_at (by simp) _ _ _
  clear hW
  cases hA : arenaB O zss with
  | false =>
    have HE : Hid (P = [] ∧ yss = []) := by
      rw [← hr.1, ← hr.2]; unfold turnedO turnedN
      rw [if_neg (fun hh => by rw [arenaB_yes hh] at hA; cases hA), if_neg (fun hh => by rw [arenaB_yes hh] at hA; cases hA)]; exact ⟨rfl, rfl⟩
    have HC := Lib.hid (ArenaOk_at hA (HAt.out.below BW.out))
    clear hA hr
    go_enter Try.func34, Try.ntmps34
    go_wp2_with fail
    rw [← HW.out]
    refine HC.out.mono ?_
    rintro e w1 ⟨rfl, hb⟩
    have B1 := Lib.hid (BW.out.trans (hb.mono BW.out.size))
    have r1 := rW.out.below hb
    have d0 := r1.cell0
    have d1 := r1.cell1
    have g0 := r1.frozen 0
    have g1 := r1.frozen 1
    clear hb r1
    go_wp2
    exact bodyPost_ret (v := .agg #[.slice none 0 0, .slice none 0 0]) (by simp [results, Try.results34, go_sem, d0, d1]) rfl
      ⟨_, rfl, by rw [HE.out.1, HE.out.2]; exact ownArena_zero _ _ _, (B1.out.setCell (by show w.heap.size ≤ w.heap.size + 1; omega) _).setCell (by show w.heap.size ≤ w.heap.size + 1; omega) _⟩
  | true =>
    have hP := arenaB_iff.1 hA
    have HP := Lib.hid hP
    have hO256 := hP.2.1
    have hOz : zss.length ≤ O.length := by rw [hP.2.2.1]; exact Nat.le_refl _
    have hOz' : O.length ≤ zss.length := by rw [hP.2.2.1]; exact Nat.le_refl _
    have HE : Hid (P = turnO O ∧ yss = zss) := by
      rw [← hr.1, ← hr.2]; unfold turnedO turnedN
      rw [if_pos hP, if_pos hP]; exact ⟨rfl, rfl⟩
    have HC := Lib.hid (ArenaOk_at hA (HAt.out.below BW.out))
    clear hA hr hP
    go_enter Try.func34, Try.ntmps34
    go_wp2_with fail
    rw [← HW.out]
    refine HC.out.mono ?_
    rintro e w1 ⟨rfl, hb⟩
    have B1 := Lib.hid (BW.out.trans (hb.mono BW.out.size))
    have b1 := Lib.hid (bW.out.below hb)
    have r1 := Lib.hid (rW.out.below hb)
    clear hb
    have hs1 : w.heap.size + 2 ≤ w1.heap.size := by have := r1.out.lt; omega
    have S0 : Hid (∃ vo, Half2 w (w1.alloc (.cells #[.slice none 0 0, .slice none 0 0] 27)) w1.heap.size w.heap.size vo (.slice ao O.length co) (.slice an zss.length cn) (turnO (O.take 0)) (zss.take 0)) :=
      ⟨_, B1.out.alloc B1.out.size _, b1.out.alloc _, _, _, Box2.new _ _ _ _, OwnInts.nil _ _ _, OwnRows.nil _ _ _, fun i hi => absurd hi (by simp)⟩
    have R0 := Lib.hid (r1.out.alloc (.cells #[.slice none 0 0, .slice none 0 0] 27))
    have c0 := b1.out.cell0
    have c1 := b1.out.cell1
    have c0a := (b1.out.alloc (.cells #[.slice none 0 0, .slice none 0 0] 27)).cell0
    have c1a := (b1.out.alloc (.cells #[.slice none 0 0, .slice none 0 0] 27)).cell1
    go_wp2
    clear c0a c1a
    go_loopw [13] (fun i wr => ∃ k : Nat, k ≤ O.length ∧ i = .int .i64 k ∧ Hid (∃ vo, Half2 w wr w1.heap.size w.heap.size vo (.slice ao O.length co) (.slice an zss.length cn) (turnO (O.take k)) (zss.take k)) ∧ Hid (Box2 wr (w.heap.size + 1) 27 (.slice none 0 0) (.slice none 0 0))) (fun i _ => O.length - (intOf i).toNat)
    case atStart => exact ⟨0, Nat.zero_le _, rfl, S0, R0⟩
    case round =>
      clear S0 R0 c0 c1
      obtain ⟨k, hk, rfl, HS, HR⟩ := hrel
      by_cases hlt : k < O.length
      · have hltz : k < zss.length := by omega
        obtain ⟨vo, hh⟩ := HS.out
        have HH := Lib.hid hh
        obtain ⟨vn, V, hT, hvo, hvn, hap⟩ := hh.own
        have htk : (turnO (O.take k)).length = k := by rw [turnO_len]; simp; omega
        have htz : (zss.take k).length = k := by simp; omega
        obtain ⟨a', c', hvs, _, _⟩ := hvn.shape
        rw [htz] at hvs
        subst hvs
        obtain ⟨a1, c1', hvs, _, _⟩ := hvo.shape
        rw [htk] at hvs
        subst hvs
        have HT := Lib.hid hT
        have HVO := Lib.hid hvo
        have HVN := Lib.hid hvn
        have HAP := Lib.hid hap
        have hown := hvo.own
        rw [htk] at hown
        have HOWN := Lib.hid hown
        have HTK := Lib.hid htk
        have HTZ := Lib.hid htz
        have hB := Lib.hid hh.below
        clear hh hT hvo hvn hap hown htk htz
        have I1 := Lib.hid (HOi.out.below hB.out)
        obtain ⟨b, off, ha, hc⟩ := I1.out.cell (by omega)
        subst ha
        have hck := hc k hlt
        clear hc
        have h01 := (HP.out.2.2.2 k hlt).1
        have hf : Fits (1 - nth O k) := by unfold Fits; omega
        have hwr : 0 ≤ nth O k ∧ nth O k ≤ 1 := by omega
        obtain ⟨hw0, hw1⟩ := hwr
        have HF := Lib.hid hf
        have ht0 := HT.out.cell0
        have hf0 := HT.out.frozen 0
        have hbb := hB.out.size
        clear h01 hf
        go_wp2_with (at_builtin; refine wpList_append_lies _ rfl _ _ 24 rfl w.heap.size 2 j0 (.int .i64 0) 1 8 Try.underlying24 hj hj0 hj1 hj2 rfl (by decide) _ _ _ rfl (HOWN.out.alloc _) ⟨wr.heap.size, 0, none⟩ 1 1 [.int .i64 (1 - nth O k)] rfl rfl ?c1 ?c2 (by omega) ?c3 ?c4 ?c5 (wr.heap.size + 1) ?c6 ?_)
        case c1 => exact cell_one_new _ _ _
        case c2 => intro u hu; simp at hu; subst hu; rfl
        case c3 => unfold maxLen; omega
        case c4 => omega
        case c5 => simp; omega
        case c6 => simp
        · intro gg cap w3 hown3 hgrow hat hlt3
          have hstep := Half2.owner (ob := .cells #[.int .i64 (1 - nth O k)] 2) hB.out HH.out.box HT.out HVO.out HVN.out HAP.out (by have := hB.out.size; omega) (by omega) (by rw [HTK.out]; omega) HF.out (by rw [HTK.out]; exact hown3) hgrow hat
          have hT3 := (HT.out.alloc (.cells #[.int .i64 (1 - nth O k)] 2)).grown (HOWN.out.alloc _) (by decide) hgrow
          have hR3 := ((HR.out.alloc (.cells #[.int .i64 (1 - nth O k)] 2)).grown (HOWN.out.alloc _) (by decide) hgrow).other (a := ⟨w1.heap.size, 0, none⟩) (by show w.heap.size + 1 ≠ w1.heap.size; omega) (.slice (some ⟨gg, 0, none⟩) (k + 1) cap)
          rw [← turnO_take hlt, HTK.out] at hstep
          have q0 := hT3.cell0
          have q1 := hT3.frozen 0
          obtain ⟨W5, hW5⟩ : ∃ W5, W5 = w3.setCell ⟨w1.heap.size, 0, none⟩ (.slice (some ⟨gg, 0, none⟩) (k + 1) cap) := ⟨_, rfl⟩
          rw [← hW5] at hstep hR3
          have HW5 := Lib.hid hW5
          have HS5 := Lib.hid hstep
          have HR5 := Lib.hid hR3
          clear hown3 hgrow hat hstep hR3 hT3 hW5 ht0 hf0 hck
          go_wp2_with fail
          rw [← HW5.out]
          clear q0 q1
          have htk1 : (zss.take k).length = k := HTZ.out
          have hbel5 := HS5.out.below
          have N1 := Lib.hid (HNi.out.below HS5.out.below)
          obtain ⟨b2, off2, ha2, hc2⟩ := N1.out.cell (by omega)
          subst ha2
          have hck2 := hc2 k hltz
          clear hc2
          have hi1 : (k : Int) < zss.length := by omega
          obtain ⟨vn5, V5, hT5, hvo5, hvn5, hap5⟩ := HS5.out.own
          obtain ⟨a5, c5, hvs, _, _⟩ := hvn5.shape
          rw [htk1] at hvs
          subst hvs
          have hown5 := hvn5.own
          rw [htk1] at hown5
          have HT5 := Lib.hid hT5
          have HVO5 := Lib.hid hvo5
          have HVN5 := Lib.hid hvn5
          have HAP5 := Lib.hid hap5
          have HOWN5 := Lib.hid hown5
          have bc1 := HS5.out.box.cell1
          have ht1 := HT5.out.cell1
          have HD : Hid (Below W5.heap.size W5 W5.drew) := (Below.refl _ _).drew
          have HRow := Lib.hid ((N1.out.rows k hltz).below HD.out)
          clear hT5 hvo5 hvn5 hap5 hown5 hbel5 htk1
          go_region_law (first
            | (refine step_append_lies _ (by rfl) _ _ _ (by rfl) w.heap.size 24 i0 (.slice none 0 0) 1 24 Try.underlying25 hi hz0 hz1 hz2 rfl (by decide) (.slice a5 k c5) k ((List.range k).map V5) (by rfl) (HOWN2.out.alloc _) ⟨w2.heap.size, 0, none⟩ 1 1 [.slice au (row zss k).length cu] (by rfl) (by rfl) (World.news_of_block (cs := #[.slice au (row zss k).length cu]) (t := 24) (fr := (0, 0)) (heap_alloc_new w2 _)) (by simp [Value.oneCell']) (by omega) (by unfold maxLen; omega) (by omega) (by have := HB2.out.size; simp; omega) (w2.heap.size + 1) (by simp) ?_; intro g6 cap6 w6 hown6 hgrow6 hat6 hlt6; have hbx := (HT2.out.alloc (.cells #[.slice au (row zss k).length cu] 24)).grown (HOWN2.out.alloc _) (by decide) hgrow6; have q3 := hbx.cell1; have p3 := hbx.frozen 1)
            | (go_simp; go_at_call 74; refine (Clone_is (C k) HRow.out).mono ?_; rintro e w2 ⟨u, rfl, hu, hb⟩; obtain ⟨au, cu, hus, _, _⟩ := hu.shape; subst hus; have HU := Lib.hid hu; have HB2 := Lib.hid (HS5.out.below.trans ((HD.out.trans (hb.mono HD.out.size)).mono HS5.out.below.size)); have HK2 := Lib.hid (HD.out.trans (hb.mono HD.out.size)); have t2 := (HT5.out.below HK2.out).cell1; have t2a := ((HT5.out.below HK2.out).alloc (.cells #[.slice au (row zss k).length cu] 24)).cell1; have HT2 := Lib.hid (HT5.out.below HK2.out); have HOWN2 := Lib.hid (ownsRow_only HOWN5.out (S := fun _ => False) (Only.of_below HK2.out) (fun _ _ h => h)); have hlt2 := HK2.out.size; have htl := HT5.out.lt; clear hu hb))
          all_goals (
            have hstep := Half2.step (zs := row zss k) HS5.out.below HS5.out.box HT5.out HVO5.out HVN5.out HAP5.out (by omega) (by omega) (by rw [HTZ.out]; omega) HK2.out HU.out (by rw [HTZ.out]; exact hown6) hgrow6
            rw [← take_snoc_rows hltz, HTZ.out] at hstep
            have hR3 := (((HR5.out.below HK2.out).alloc (.cells #[.slice au (row zss k).length cu] 24)).grown (HOWN2.out.alloc _) (by decide) hgrow6).other (a := ⟨w1.heap.size, 1, none⟩) (by show w.heap.size + 1 ≠ w1.heap.size; omega) (.slice (some ⟨g6, 0, none⟩) (k + 1) cap6)
            have HST : Hid (∃ vo, Half2 w (w6.setCell ⟨w1.heap.size, 1, none⟩ (.slice (some ⟨g6, 0, none⟩) (k + 1) cap6)) w1.heap.size w.heap.size vo (.slice (some ⟨b, off, none⟩) O.length co) (.slice (some ⟨b2, off2, none⟩) zss.length cn) (turnO (O.take (k + 1))) (zss.take (k + 1))) := ⟨_, hstep⟩
            have HR3 := Lib.hid hR3
            clear hstep hR3 hown6 hgrow6 hat6 hbx
            go_wp2
            go_roundw
            case rel => exact ⟨k + 1, by omega, by go_num, HST, HR3⟩
            case measure => simp [intOf]; omega)
      · have hkk : k = O.length := by omega
        obtain ⟨vo, hh⟩ := HS.out
        rw [hkk, List.take_length, List.take_of_length_le (by omega)] at hh
        have HH := Lib.hid hh
        obtain ⟨vn, V, hT, hvo, hvn, hap⟩ := hh.own
        obtain ⟨a', c', hvs, _, _⟩ := hvn.shape
        subst hvs
        obtain ⟨a1, c1', hvs, _, _⟩ := hvo.shape
        rw [turnO_len] at hvs
        subst hvs
        have t0 := hT.cell0
        have t1 := hT.cell1
        have d0 := HR.out.cell0
        have d1 := HR.out.cell1
        have g0 := HR.out.frozen 0
        have g1 := HR.out.frozen 1
        have HVO := Lib.hid hvo
        have HVN := Lib.hid hvn
        have HAP := Lib.hid hap
        clear hkk hh hT hvo hvn hap
        go_wp2
        have hS1 : Only (fun b => b = w.heap.size + 1) wr ((wr.setCell ⟨w.heap.size + 1, 0, none⟩ (.slice a1 O.length c1')).setCell ⟨w.heap.size + 1, 1, none⟩ (.slice a' zss.length c')) :=
          (Box2.set0_only _).trans (Box2.set1_only _)
        have hfin : GivesArena w P yss (.returned (.agg #[.slice a1 O.length c1', .slice a' zss.length c'])) ((wr.setCell ⟨w.heap.size + 1, 0, none⟩ (.slice a1 O.length c1')).setCell ⟨w.heap.size + 1, 1, none⟩ (.slice a' zss.length c')) := by
          rw [HE.out.1, HE.out.2]
          exact ⟨_, rfl, ⟨_, _, V, rfl, (HVO.out.only hS1 (fun g hg e => HR.out.not_own HVO.out.own (by decide) (by rw [hg, e]))).retop, (HVN.out.only hS1 (fun g hg e => HR.out.not_own HVN.out.own (by decide) (by rw [hg, e])) (fun k hk g hg e => HR.out.not_own (HVN.out.rows k hk).own (by decide) (by rw [hg, e]))).retop, HAP.out⟩,
            (HH.out.below.setCell (by show w.heap.size ≤ w.heap.size + 1; omega) _).setCell (by show w.heap.size ≤ w.heap.size + 1; omega) _⟩
        exact bodyPost_ret (v := .agg #[.slice a1 O.length c1', .slice a' zss.length c']) (by simp [results, Try.results34, go_sem, d0, d1]) rfl hfin

theorem turned_size {O : List Int} {zss : List (List Int)} (h : sizeArena O zss ≤ 1048576) : sizeArena (turnedO O zss) (turnedN O zss) ≤ 1048576 := by
  unfold turnedO turnedN
  split
  · unfold sizeArena at *; rw [turnO_len]; exact h
  · simp [sizeArena, sumLen]

end Go.Proofs.Ytfhpjkfgcglofaa
