/-
  Contract: the draws' game of any kind (l4DrawAny).
-/
import Derived.Test.YtokcinhopajniaaGreatDoorDrawGame
import Derived.Test.YtokcinhopajniaaGreatDoorDrawAny
import Derived.Deep.Cut
namespace Go.Proofs.YtokcinhopajniaaGreatDoor
open Go.RowKit

variable {w : World} {B p : Nat} {ab : Option Addr} {cb : Nat} {bs : List Int} {i : Nat} {h : Int}

theorem OwnGame.shape6 {w : World} {B D : Nat} {v : Value} {O P : List Int} {zss : List (List Int)} (h : OwnGame w B D v O zss P) : ∃ a0 c0 a1 c1 a2 c2 V, v = .agg #[.slice a0 O.length c0, .slice a1 zss.length c1, .slice a2 P.length c2] ∧ OwnInts w B D (.slice a0 O.length c0) O ∧ OwnRows w B D (.slice a1 zss.length c1) V zss ∧ OwnInts w B D (.slice a2 P.length c2) P ∧
    (∀ k, k < zss.length → ∀ g, (V k).ownBlock = some g → (Value.slice a0 O.length c0).ownBlock ≠ some g) ∧ (∀ k, k < zss.length → ∀ g, (V k).ownBlock = some g → (Value.slice a2 P.length c2).ownBlock ≠ some g) ∧ ∀ g, (Value.slice a0 O.length c0).ownBlock = some g → (Value.slice a2 P.length c2).ownBlock ≠ some g := by
  obtain ⟨vo, vn, vp, V, rfl, x1, x2, x3, x4, x5, x6⟩ := h
  obtain ⟨a1, e1, hvs, _, _⟩ := x1.shape
  subst hvs
  obtain ⟨a2, e2, hvs, _, _⟩ := x2.shape
  subst hvs
  obtain ⟨a3, e3, hvs, _, _⟩ := x3.shape
  subst hvs
  exact ⟨_, _, _, _, _, _, V, rfl, x1, x2, x3, x4, x5, x6⟩

/-- A number of a game's priorities is written. -/
theorem OwnGame.setPrio {w : World} {B D og c2 j : Nat} {vo vn : Value} {O P : List Int} {zss : List (List Int)} {x : Int} (h : OwnGame w B D (.agg #[vo, vn, .slice (some ⟨og, 0, none⟩) P.length c2]) O zss P) (hj : j < P.length) (hx : Fits x) :
    OwnGame (w.setCell ⟨og, j, none⟩ (.int .i64 x)) B D (.agg #[vo, vn, .slice (some ⟨og, 0, none⟩) P.length c2]) O zss (P.set j x) := by
  obtain ⟨vo', vn', vp', V, hv, x1, x2, x3, x4, x5, x6⟩ := h
  cases hv
  have hS : Only (fun b => b = og) w (w.setCell ⟨og, j, none⟩ (.int .i64 x)) := (Only.refl (fun b => b = og) w).setCell (p := ⟨og, j, none⟩) rfl _
  have e : (Value.slice (some (⟨og, 0, none⟩ : Addr)) P.length c2).ownBlock = some og := rfl
  exact ⟨_, _, _, V, rfl, x1.only hS (fun g hg hb => x6 g hg (by rw [hb, e])), x2.only hS (fun g hg hb => own_types x2.own x3.own g hg (by rw [hb, e])) (fun k hk g hg hb => x5 k hk g hg (by rw [hb, e])), by
    have := x3.store rfl hj hx
    rw [show P.length = (P.set j x).length by simp] at this ⊢
    exact this, x4, x5, x6⟩

/-- An arena and a slice of numbers of one's own, the numbers made first; what lies between them is nobody's. -/
theorem OwnGame.of_parts2 {w : World} {B D D1 M : Nat} {vo vn vp : Value} {O P : List Int} {zss : List (List Int)} (h : OwnArena w M D (.agg #[vo, vn]) O zss) (hp : OwnInts w B D1 vp P) (hBM : B ≤ M) (hDM : D1 ≤ M) (hMD : M ≤ D) :
    ∃ vo' vn' V, vo' = vo ∧ vn' = vn ∧ OwnInts w M D vo O ∧ OwnRows w M D vn V zss ∧ (∀ k, k < zss.length → ∀ g, (V k).ownBlock = some g → vo.ownBlock ≠ some g) ∧ OwnInts w B D1 vp P ∧ B ≤ M ∧ D1 ≤ M ∧ M ≤ D := by
  obtain ⟨vo', vn', V, hv, h1, h2, h4⟩ := h
  cases hv
  exact ⟨_, _, V, rfl, rfl, h1, h2, h4, hp, hBM, hDM, hMD⟩
theorem game_only {w w' : World} {B D D1 M t : Nat} {vo vn vp : Value} {O P : List Int} {zss : List (List Int)} (h : ∃ vo' vn' V, vo' = vo ∧ vn' = vn ∧ OwnInts w M D vo O ∧ OwnRows w M D vn V zss ∧ (∀ k, k < zss.length → ∀ g, (V k).ownBlock = some g → vo.ownBlock ≠ some g) ∧ OwnInts w B D1 vp P ∧ B ≤ M ∧ D1 ≤ M ∧ M ≤ D) (ho : Only (fun b => b = t) w w') (h1 : D1 ≤ t) (h2 : t < M) :
    OwnGame w' B D (.agg #[vo, vn, vp]) O zss P := by
  obtain ⟨vo', vn', V, rfl, rfl, x1, x2, x3, x4, hBM, hDM, hMD⟩ := h
  refine ⟨_, _, _, V, rfl, (x1.only ho (fun g hg e => by have := (x1.own.lt g hg).1; omega)).base hBM, (x2.only ho (fun g hg e => by have := (x2.own.lt g hg).1; omega) (fun k hk g hg e => by have := ((x2.rows k hk).own.lt g hg).1; omega)).base hBM, ?_, x3, fun k hk g hg hh => ?_, fun g hg hh => ?_⟩
  · have h := x4.only ho (fun g hg e => by have := x4.top g hg; omega)
    exact ⟨h.own, fun g hg => by have := h.top g hg; omega, h.len, h.fits⟩
  · have := ((x2.rows k hk).own.lt g hg).1
    have := x4.top g hh
    omega
  · have := (x1.own.lt g hg).1
    have := x4.top g hh
    omega

theorem prio_cell {w : World} {B D og c2 j : Nat} {vo vn : Value} {O P : List Int} {zss : List (List Int)} (h : OwnGame w B D (.agg #[vo, vn, .slice (some ⟨og, 0, none⟩) P.length c2]) O zss P) (hj : j < P.length) : w.cell? ⟨og, j, none⟩ = some (.int .i64 (nth P j)) := by
  obtain ⟨_, _, _, V, hv, x1, x2, x3, _⟩ := h
  cases hv
  obtain ⟨a', c', hv', hi', _⟩ := x3.shape
  cases hv'
  obtain ⟨b, off, hb, hc⟩ := hi'.cell (by omega)
  cases hb
  have := hc j hj
  rwa [Nat.zero_add] at this
theorem prio_frozen {w : World} {B D og c2 j : Nat} {vo vn : Value} {O P : List Int} {zss : List (List Int)} (h : OwnGame w B D (.agg #[vo, vn, .slice (some ⟨og, 0, none⟩) P.length c2]) O zss P) (hj : j < P.length) : w.frozen? ⟨og, j, none⟩ = false := by
  obtain ⟨_, _, _, V, hv, x1, x2, x3, _⟩ := h
  cases hv
  obtain ⟨a', c', hv', _, hf⟩ := x3.shape
  cases hv'
  obtain ⟨g, hg, _, _, _, hfz⟩ := hf (by omega)
  cases hg
  exact hfz j
/-- A game of one's own in a box that came behind it grows. -/
theorem OwnGame.half {w : World} {n D t : Nat} {vo vn vp : Value} {O P : List Int} {zss : List (List Int)} (h : OwnGame w n D (.agg #[vo, vn, vp]) O zss P) (hU : Box3 w t 32 vo vn vp) (hn : n ≤ t) : ∃ V, Half5 n w t vo vn vp V O zss P := by
  obtain ⟨_, _, _, V, hv, x1, x2, x3, x4, x5, x6⟩ := h
  cases hv
  exact ⟨V, hn, hU, x1.retop, x2.retop, x3.retop, x4, x5, x6⟩

set_option maxHeartbeats 16000000 in
set_option maxRecDepth 100000 in
theorem l4DrawAny_is (d : Dr w B p ab cb bs i h) :
    Calls Tryz.prog 75 #[.pointer (some ⟨p, 0, none⟩)] w (RollsGame w B p ab cb bs 300) := by
  obtain ⟨j0, hj, hj0, hj1, hj2⟩ := info_parts info_int
  have hp := d.lt
  have hlow := d.low
  obtain ⟨w0, hw0⟩ : ∃ y, y = w.alloc (.cells #[.slice none 0 0, .slice none 0 0, .slice none 0 0] 32) := ⟨_, rfl⟩
  have HW0 := Lib.hid hw0
  have hs0 : w0.heap.size = w.heap.size + 1 := by rw [hw0]; simp
  have HS0 := Lib.hid hs0
  have D0 : Hid (Dwn w w0 B p ab cb bs) := by rw [hw0]; exact (Dwn.start d).below (below1 _ _)
  have d0 : Hid (Dr w0 B p ab cb bs i h) := by rw [hw0]; exact d.below (below1 _ _)
  have R0 : Hid (Box3 w0 w.heap.size 32 (.slice none 0 0) (.slice none 0 0) (.slice none 0 0)) := by rw [hw0]; exact Box3.new _ _ _ _ _
  clear hw0 d hs0
  go_enter Tryz.func75, Tryz.ntmps75
  go_wp2_with fail
  rw [← HW0.out]
  refine (l4Draw_is d0.out).mono ?_
  rintro e w1 ⟨v, O, zss, P, rfl, hG, hO, hZ, hP, hP1, hD⟩
  obtain ⟨a0, k0, a1, k1, a2, k2, V, rfl, x1, x2, x3, -⟩ := hG.shape6
  obtain ⟨a2', c2', hv2, -, hg2⟩ := x3.shape
  cases hv2
  obtain ⟨og, hog, hog1, hog2, -, -⟩ := hg2 (by omega)
  subst hog
  have hn1 : w0.heap.size ≤ w1.heap.size := hD.only.size
  have D1 : Hid (Dwn w w1 B p ab cb bs) := ⟨hD.cur, D0.out.only.trans (hD.only), hp, hlow⟩
  have R1 := Lib.hid (R0.out.of_only hD.only (by omega))
  have G1 := Lib.hid hG
  obtain ⟨w2, hw2⟩ : ∃ y, y = w1.alloc (.cells #[.slice a0 O.length k0, .slice a1 zss.length k1, .slice (some ⟨og, 0, none⟩) P.length k2] 32) := ⟨_, rfl⟩
  have HW2 := Lib.hid hw2
  have hb2 : Below w1.heap.size w1 w2 := by rw [hw2]; exact below1 _ _
  have D2 := Lib.hid (D1.out.below hb2)
  have R2 := Lib.hid (R1.out.below hb2)
  have G2 := Lib.hid (G1.out.below hb2)
  have U2 : Hid (Box3 w2 w1.heap.size 32 (.slice a0 O.length k0) (.slice a1 zss.length k1) (.slice (some ⟨og, 0, none⟩) P.length k2)) := by rw [hw2]; exact Box3.new _ _ _ _ _
  have hs2 : w1.heap.size < w2.heap.size := U2.out.lt
  have hp0 : p < w0.heap.size := by have := HS0.out; omega
  clear hw2 hb2 hg2 x1 x2 x3 hG hD D1 R1 D0 d0 R0 G1
  go_wp2_with fail
  rw [← HW2.out]
  obtain ⟨i1, h1, hd1⟩ := D2.out.cur
  refine (l1Once_is (n := 8) hd1 (by omega) (by omega)).mono ?_
  rintro e w3 ⟨r, i2, h2, rfl, hd, ho⟩
  have D3 := Lib.hid (D2.out.call hd ho)
  have R3 := Lib.hid (R2.out.of_only ho (by omega))
  have U3 := Lib.hid (U2.out.of_only ho (by omega))
  have G3 := Lib.hid (G2.out.only ho (fun g hg _ e => by omega))
  have hs3 : w2.heap.size ≤ w3.heap.size := ho.size
  clear hd ho hd1 D2 R2 U2 G2
  cases r with
  | false =>
    have s0 := U3.out.c0
    have s1 := U3.out.c1
    have s2 := U3.out.c2
    have r0 := R3.out.c0
    have r1 := R3.out.c1
    have r2 := R3.out.c2
    have g0 := World.rowIs.frozen R3.out 0
    have g1 := World.rowIs.frozen R3.out 1
    have g2 := World.rowIs.frozen R3.out 2
    have hst := game_stored2 (n := w0.heap.size) (m := w.heap.size) R3.out G3.out (by have := HS0.out; omega) (Nat.le_refl _) (by have := HS0.out; omega)
    have HST := Lib.hid hst
    have DST := Lib.hid (D3.out.new (hst.2.2.mono fun b hb => by omega))
    have u0 := hst.2.1.c0
    have u1 := hst.2.1.c1
    have u2 := hst.2.1.c2
    clear hst
    go_wp2
    exact bodyPost_ret (v := .agg #[.slice a0 O.length k0, .slice a1 zss.length k1, .slice (some ⟨og, 0, none⟩) P.length k2]) (by simp [results, Tryz.results75, go_sem, u0, u1, u2]) rfl
      ⟨_, _, _, _, rfl, HST.out.1, by omega, by omega, by omega, by omega, DST.out⟩
  | true =>
    go_wp2_with fail
    obtain ⟨i1, h1, hd1⟩ := D3.out.cur
    refine (l1Below_is (hi := 2) hd1 (by omega) (by omega) (by omega)).mono ?_
    rintro e w4 ⟨x, i2, h2, rfl, hx0, hx1, hd, ho⟩
    have D4 := Lib.hid (D3.out.call hd ho)
    have R4 := Lib.hid (R3.out.of_only ho (by omega))
    have U4 := Lib.hid (U3.out.of_only ho (by omega))
    have G4 := Lib.hid (G3.out.only ho (fun g hg _ e => by omega))
    have hs4 : w3.heap.size ≤ w4.heap.size := ho.size
    clear hd ho hd1 D3 R3 U3 G3
    have hx3 : x = 0 ∨ x = 1 ∨ x = 2 := by omega
    clear hx0 hx1
    rcases hx3 with rfl | rfl | rfl
    · -- the first priority is any number
      have t2 := U4.out.c2
      obtain ⟨i5, h5, hd5⟩ := D4.out.cur
      have HDD := Lib.hid (hd5.below (Below.refl _ w4).drew)
      clear hd5
      have hP0 : (0 : Int) < P.length := by omega
      have hP00 : 0 < P.length := by omega
      have hP000 : ¬ P.length = 0 := by omega
      have hP0000 : ¬ P = [] := fun e => by rw [e] at hP00; simp at hP00
      go_wp2
      go_region_held3 (fun w' => w'.cell? ⟨w1.heap.size, 2, none⟩ = some (.slice (some ⟨og, 0, none⟩) P.length k2))
        (first
          | go_keep
          | exact e2
          | exact e3)
        (first
          | (go_at_call 120; refine (l1Num_is (most := 40) HDD.out (by omega) (by omega)).mono ?_; rintro e w5 ⟨y, i6, h6, rfl, hy, hd, ho⟩; have HO5 : Hid (Only (fun b => b = p) w4 w5) := (Only.of_below (Below.refl _ _).drew).trans ho; have D5 := Lib.hid (D4.out.call hd HO5.out); have R5 := Lib.hid (R4.out.of_only HO5.out (by omega)); have U5 := Lib.hid (U4.out.of_only HO5.out (by omega)); have G5 := Lib.hid (G4.out.only HO5.out (fun g hg _ e => by omega)); have HY := Lib.hid hy; have hs5 : w4.heap.size ≤ w5.heap.size := HO5.out.size; have e2 := U5.out.c2; have cz := prio_cell G5.out (j := 0) (by omega); have fz := prio_frozen G5.out (j := 0) (by omega); have e3 : (w5.setCell ⟨og, 0, none⟩ (.int .i64 y)).cell? ⟨w1.heap.size, 2, none⟩ = some (.slice (some ⟨og, 0, none⟩) P.length k2) := Box3.c2 (U5.out.of_only ((Only.refl (fun b => b = og) w5).setCell (p := ⟨og, 0, none⟩) rfl _) (by omega)); clear hd ho hy))
      have G6 := Lib.hid (G5.out.setPrio (j := 0) (by omega) HY.out)
      have ho6 : Only (fun b => b = og) w5 (w5.setCell ⟨og, 0, none⟩ (.int .i64 y)) := (Only.refl (fun b => b = og) w5).setCell (p := ⟨og, 0, none⟩) rfl _
      have D6 := Lib.hid (D5.out.new (ho6.mono fun b hb => by have := HS0.out; omega))
      have R6 := Lib.hid (R5.out.of_only ho6 (by have := HS0.out; omega))
      have U6 := Lib.hid (U5.out.of_only ho6 (by omega))
      clear ho6 e2 e3 t2 cz fz G5 D5 R5 U5
      obtain ⟨w6, hw6⟩ : ∃ y', y' = w5.setCell ⟨og, 0, none⟩ (.int .i64 y) := ⟨_, rfl⟩
      rw [← hw6] at G6 D6 R6 U6 ⊢
      clear hw6
      have hl6 : (P.set 0 y).length = P.length := by simp
      rw [← hl6] at U6
      have hP6 : (P.set 0 y).length ≤ 300 := by omega
      have hP61 : 1 ≤ (P.set 0 y).length := by omega
      have G6 := Lib.hid (show OwnGame w6 w0.heap.size w1.heap.size (.agg #[.slice a0 O.length k0, .slice a1 zss.length k1, .slice (some ⟨og, 0, none⟩) (P.set 0 y).length k2]) O zss (P.set 0 y) by rw [hl6]; exact G6.out)
      obtain ⟨Q, hQ⟩ : ∃ Q, Q = P.set 0 y := ⟨_, rfl⟩
      rw [← hQ] at U6 hP6 hP61 G6
      clear hl6 hQ
      have s0 := U6.out.c0
      have s1 := U6.out.c1
      have s2 := U6.out.c2
      have r0 := R6.out.c0
      have r1 := R6.out.c1
      have r2 := R6.out.c2
      have g0 := World.rowIs.frozen R6.out 0
      have g1 := World.rowIs.frozen R6.out 1
      have g2 := World.rowIs.frozen R6.out 2
      have hst := game_stored2 (n := w0.heap.size) (m := w.heap.size) R6.out G6.out (by have := HS0.out; omega) (Nat.le_refl _) (by have := HS0.out; omega)
      have HST := Lib.hid hst
      have DST := Lib.hid (D6.out.new (hst.2.2.mono fun b hb => by omega))
      have u0 := hst.2.1.c0
      have u1 := hst.2.1.c1
      have u2 := hst.2.1.c2
      clear hst
      go_wp2
      exact bodyPost_ret (v := .agg #[.slice a0 O.length k0, .slice a1 zss.length k1, .slice (some ⟨og, 0, none⟩) Q.length k2]) (by simp [results, Tryz.results75, go_sem, u0, u1, u2]) rfl
        ⟨_, _, _, _, rfl, HST.out.1, by omega, by omega, by omega, by omega, DST.out⟩
    · -- one priority too many
      have t2 := U4.out.c2
      have HF : Hid (∃ V, Half5 w0.heap.size w4 w1.heap.size (.slice a0 O.length k0) (.slice a1 zss.length k1) (.slice (some ⟨og, 0, none⟩) P.length k2) V O zss P) := G4.out.half U4.out (by omega)
      obtain ⟨V4, HFa⟩ := HF.out
      have HF4 := Lib.hid HFa
      have hs14 : w1.heap.size ≤ w4.heap.size := by omega
      clear HFa HF
      have t2f := World.rowIs.frozen U4.out 2
      have q0 := HF4.out.prio.own
      have HOWN := Lib.hid q0
      clear q0
      go_upto_region 10 with (at_builtin; refine wpList_append_lies _ rfl _ _ 27 rfl w0.heap.size 2 j0 (.int .i64 0) 1 8 Tryz.underlying27 hj hj0 hj1 hj2 rfl (by decide) _ _ _ rfl (HOWN.out.alloc _) ⟨w4.heap.size, 0, none⟩ 1 1 [.int .i64 1] rfl rfl (cell_one_new _ _ _) (by intro u hu; simp at hu; subst hu; rfl) (Nat.le_refl _) (by unfold maxLen; omega) (by omega) (by simp; omega) (w4.heap.size + 1) (by simp) ?_; intro g8 cap8 w8 hown8 hgrow8 hat8 hlt8; have hbx8 := game_grown (rowIs_below U4.out (below1 w4 (.cells #[.int .i64 1] 2))) (HOWN.out.alloc _) (by decide) hgrow8; have q8 : w8.cell? ⟨w1.heap.size, 2, none⟩ = some (.slice (some ⟨og, 0, none⟩) P.length k2) := hbx8.cell (i := 2) (by omega); have p8 := hbx8.frozen 2)
      have hp9 := (HF4.out.keep (below1 w4 (.cells #[.int .i64 1] 2))).prior (cap := cap8) (gg := g8) (x := 1) (by omega) (by unfold Fits; omega) hown8 hgrow8 (hat8.imp_right fun h => by simp; omega)
      have G9 := Lib.hid hp9.1.game
      have U9 : Hid (Box3 _ w1.heap.size 32 (.slice a0 O.length k0) (.slice a1 zss.length k1) (.slice (some ⟨g8, 0, none⟩) (P.length + 1) cap8)) := hp9.1.str
      have D9 := Lib.hid ((D4.out.below (below1 w4 (.cells #[.int .i64 1] 2))).new (hp9.2.mono fun b hb => by have := HS0.out; omega))
      have R9 := Lib.hid ((R4.out.below (below1 w4 (.cells #[.int .i64 1] 2))).of_only hp9.2 (by have := HS0.out; omega))
      clear hp9 hown8 hgrow8 hat8 hlt8 hbx8 q8 p8 t2 t2f HOWN
      obtain ⟨w9, hw9⟩ : ∃ y', y' = w8.setCell ⟨w1.heap.size, 2, none⟩ (.slice (some ⟨g8, 0, none⟩) (P.length + 1) cap8) := ⟨_, rfl⟩
      rw [← hw9] at G9 D9 R9 U9 ⊢
      clear hw9
      have s0 := U9.out.c0
      have s1 := U9.out.c1
      have s2 := U9.out.c2
      have r0 := R9.out.c0
      have r1 := R9.out.c1
      have r2 := R9.out.c2
      have g0 := World.rowIs.frozen R9.out 0
      have g1 := World.rowIs.frozen R9.out 1
      have g2 := World.rowIs.frozen R9.out 2
      have hst := game_stored2 (n := w0.heap.size) (m := w.heap.size) R9.out G9.out (by have := HS0.out; omega) (Nat.le_refl _) (by have := HS0.out; omega)
      have HST := Lib.hid hst
      have DST := Lib.hid (D9.out.new (hst.2.2.mono fun b hb => by omega))
      have u0 := hst.2.1.c0
      have u1 := hst.2.1.c1
      have u2 := hst.2.1.c2
      clear hst
      go_wp2
      exact bodyPost_ret (v := .agg #[.slice a0 O.length k0, .slice a1 zss.length k1, .slice (some ⟨g8, 0, none⟩) (P.length + 1) cap8]) (by simp [results, Tryz.results75, go_sem, u0, u1, u2]) rfl
        ⟨_, _, _, _, rfl, HST.out.1, by omega, by omega, by simp; omega, by simp, DST.out⟩
    · -- any arena
      have t0 := U4.out.c0
      obtain ⟨i5, h5, hd5⟩ := D4.out.cur
      go_wp2_with fail
      refine (l1DrawAny_is hd5).mono ?_
      rintro e w5 ⟨v, Z, yss, rfl, hA, hZ3, hY3, hDa⟩
      obtain ⟨vo, vn, V5, rfl, y1, y2, y3⟩ := hA
      obtain ⟨b0, l0, hvs, _, _⟩ := y1.shape
      subst hvs
      obtain ⟨b1, l1, hvs, _, _⟩ := y2.shape
      subst hvs
      have hs5 : w4.heap.size ≤ w5.heap.size := hDa.only.size
      have D5 : Hid (Dwn w w5 B p ab cb bs) := ⟨hDa.cur, D4.out.only.trans (by exact ⟨hDa.only.os, hDa.only.tape, hDa.only.output, hDa.only.size, fun k hk hne => hDa.only.block k hk hne⟩), hp, hlow⟩
      have R5 := Lib.hid (R4.out.of_only hDa.only (by omega))
      have U5 := Lib.hid (U4.out.of_only hDa.only (by omega))
      have G5 := Lib.hid (G4.out.only hDa.only (fun g hg _ e => by omega))
      have GA := Lib.hid (OwnGame.of_parts2 (M := w4.heap.size) ⟨_, _, V5, rfl, y1, y2, y3⟩ G5.out.arena.2 (by omega) (by omega) hs5)
      clear y1 y2 y3 hDa hd5 t0 D4 R4 U4 G4 G5
      have t0 := U5.out.c0
      have t1 := U5.out.c1
      have f0 := World.rowIs.frozen U5.out 0
      have f1 := World.rowIs.frozen U5.out 1
      go_upto_region 10 with fail
      have ho9 : Only (fun b => b = w1.heap.size) w5 ((w5.setCell ⟨w1.heap.size, 0, none⟩ (.slice b0 Z.length l0)).setCell ⟨w1.heap.size, 1, none⟩ (.slice b1 yss.length l1)) := ((Only.refl (fun b => b = w1.heap.size) w5).setCell (p := ⟨w1.heap.size, 0, none⟩) rfl _).setCell (p := ⟨w1.heap.size, 1, none⟩) rfl _
      have U9 : Hid (Box3 ((w5.setCell ⟨w1.heap.size, 0, none⟩ (.slice b0 Z.length l0)).setCell ⟨w1.heap.size, 1, none⟩ (.slice b1 yss.length l1)) w1.heap.size 32 (.slice b0 Z.length l0) (.slice b1 yss.length l1) (.slice (some ⟨og, 0, none⟩) P.length k2)) :=
        World.rowIs.congr ((World.rowIs.set U5.out 0 (.slice b0 Z.length l0)).set 1 (.slice b1 yss.length l1)) fun i hi => by
          have h3 : i = 0 ∨ i = 1 ∨ i = 2 := by omega
          rcases h3 with rfl | rfl | rfl <;> simp [tri]
      have G9 := Lib.hid (game_only GA.out ho9 (by omega) (by omega))
      have D9 := Lib.hid (D5.out.new (ho9.mono fun b hb => by have := HS0.out; omega))
      have R9 := Lib.hid (R5.out.of_only ho9 (by have := HS0.out; omega))
      clear ho9 t0 t1 f0 f1
      obtain ⟨w9, hw9⟩ : ∃ y', y' = (w5.setCell ⟨w1.heap.size, 0, none⟩ (.slice b0 Z.length l0)).setCell ⟨w1.heap.size, 1, none⟩ (.slice b1 yss.length l1) := ⟨_, rfl⟩
      rw [← hw9] at G9 D9 R9 U9 ⊢
      clear hw9
      have s0 := U9.out.c0
      have s1 := U9.out.c1
      have s2 := U9.out.c2
      have r0 := R9.out.c0
      have r1 := R9.out.c1
      have r2 := R9.out.c2
      have g0 := World.rowIs.frozen R9.out 0
      have g1 := World.rowIs.frozen R9.out 1
      have g2 := World.rowIs.frozen R9.out 2
      have hst := game_stored2 (n := w0.heap.size) (m := w.heap.size) R9.out G9.out (by have := HS0.out; omega) (Nat.le_refl _) (by have := HS0.out; omega)
      have HST := Lib.hid hst
      have DST := Lib.hid (D9.out.new (hst.2.2.mono fun b hb => by omega))
      have u0 := hst.2.1.c0
      have u1 := hst.2.1.c1
      have u2 := hst.2.1.c2
      clear hst
      go_wp2
      exact bodyPost_ret (v := .agg #[.slice b0 Z.length l0, .slice b1 yss.length l1, .slice (some ⟨og, 0, none⟩) P.length k2]) (by simp [results, Tryz.results75, go_sem, u0, u1, u2]) rfl
        ⟨_, _, _, _, rfl, HST.out.1, by omega, by omega, by omega, by omega, DST.out⟩

end Go.Proofs.YtokcinhopajniaaGreatDoor
