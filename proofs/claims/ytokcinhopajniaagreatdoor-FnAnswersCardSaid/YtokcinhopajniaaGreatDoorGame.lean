/-
  What FnRanks asks of ranks. No program text.
-/
import Derived.Test.YtokcinhopajniaaGreatDoorTrap1
import Derived.Test.YtokcinhopajniaaGreatDoorDraw1
import Derived.Test.YtokcinhopajniaaGreatDoorDiceSet
import Derived.Test.YtokcinhopajniaaGreatDoorParity
import Derived.Test.YtokcinhopajniaaGreatDoorParity1
import Derived.Deep.RegionHeld3
import Derived.Deep.AppendLies
namespace Go.Proofs.YtokcinhopajniaaGreatDoor
section
open Go.RowKit

variable {zss : List (List Int)} {O : List Int} {who : Int} {I G : Nat → Bool}

theorem setFrom_rank {n : Int} : ∀ (zs : List Int) (l : Int), zs.Pairwise (· < ·) → (∀ x ∈ zs, l < x ∧ x < n) → setFrom n l zs = true
  | [], _, _, _ => rfl
  | z :: r, l, hp, hb => by
    obtain ⟨h1, h2⟩ := List.pairwise_cons.1 hp
    have hz := hb z (by simp)
    rw [setFrom, decide_eq_true hz]
    exact setFrom_rank r z h2 fun x hx => ⟨h1 x hx, (hb x (by simp [hx])).2⟩

end

section
open Go.RowKit

theorem UpTo.set {n : Int} {zs : List Int} (h : UpTo n zs) : setB n zs = true := setFrom_rank zs (-1) h.1 fun x hx => by have := h.2 x hx; omega
theorem UpTo.set256 {n : Int} {zs : List Int} (h : UpTo n zs) (hn : n ≤ 256) : setB 256 zs = true := setFrom_rank zs (-1) h.1 fun x hx => by have := h.2 x hx; omega
theorem UpTo.both {n : Int} {S T : List Int} (hS : UpTo n S) (hT : UpTo n T) (hn : n ≤ 256) : bothL S T = unionL S T := by
  unfold bothL bothOk; rw [hS.set256 hn, hT.set256 hn]; rfl
theorem UpTo.union {n : Int} {S T : List Int} (hS : UpTo n S) (hT : UpTo n T) : UpTo n (unionL S T) :=
  ⟨unionK_rising hS.1 _ (Nat.le_refl _), fun x hx => (unionL_mem.1 hx).elim (hS.2 x) (hT.2 x)⟩
theorem UpTo.one {n x : Int} (h0 : 0 ≤ x) (h1 : x < n) : UpTo n [x] := ⟨by simp, fun y hy => by simp at hy; omega⟩

/-- A random game: its arena is valid, of at most most vertices, with a priority from 0 to 4 each. -/
def ThrowsGame (w : World) (B p : Nat) (ab : Option Addr) (cb : Nat) (bs : List Int) (most : Int) (e : Ending) (w' : World) : Prop :=
  ∃ vo vn vp O zss P, e = .returned (.agg #[vo, vn, vp]) ∧ OwnArena w' w.heap.size w'.heap.size (.agg #[vo, vn]) O zss ∧ OwnInts w' w.heap.size w'.heap.size vp P ∧ ArenaP O zss ∧ (O.length : Int) ≤ most ∧ P.length = O.length ∧ (∀ x ∈ P, 0 ≤ x ∧ x ≤ 4) ∧ Din w w' B p ab cb bs

variable {w : World} {B p : Nat} {ab : Option Addr} {cb : Nat} {bs : List Int} {i : Nat} {h : Int}

set_option maxHeartbeats 8000000 in
set_option maxRecDepth 100000 in
theorem w5Game_is {most : Int} (d : Di w B p ab cb bs i h) (h1 : 1 ≤ most) (h256 : most ≤ 256) :
    Calls Tryz.prog 36 #[.pointer (some ⟨p, 0, none⟩), .int .i64 most] w (ThrowsGame w B p ab cb bs most) := by
  obtain ⟨i0, hi, hz0, hz1, hz2⟩ := info_parts info_rows
  obtain ⟨j0, hj, hj0, hj1, hj2⟩ := info_parts info_int
  have hp := d.lt
  have D0 := Lib.hid ((Din.start d).below (below1 w (.cells #[.slice none 0 0, .slice none 0 0, .slice none 0 0] 32)))
  have R0 := Lib.hid (tri_new w 32 (.slice none 0 0) (.slice none 0 0) (.slice none 0 0))
  clear d
  go_enter Tryz.func36, Tryz.ntmps36
  go_wp2_with fail
  obtain ⟨i1, h2, hd1⟩ := D0.out.cur
  refine (below_is (hi := most - 1) hd1 (by omega) rfl (by omega)).mono ?_
  rintro e w1 ⟨x, i2, h3, rfl, hx0, hx1, hd, ho⟩
  have D1 := Lib.hid (D0.out.call hd ho)
  have R1 := Lib.hid (rowIs_only R0.out ho (by omega))
  have hs1 : w.heap.size + 1 ≤ w1.heap.size := by have := ho.size; simpa using this
  clear hd ho hd1 D0 R0
  obtain ⟨y, rfl⟩ := Int.eq_ofNat_of_zero_le hx0
  have hy7 : (y : Int) + 1 ≤ most := by omega
  have hy8 : y + 1 ≤ 256 := by omega
  clear hx0 hx1
  have T2 := Lib.hid (tri_new w1 32 (.slice none 0 0) (.slice none 0 0) (.slice none 0 0))
  have D2 := Lib.hid (D1.out.below (below1 w1 (.cells #[.slice none 0 0, .slice none 0 0, .slice none 0 0] 32)))
  have R2 := Lib.hid (rowIs_below R1.out (below1 w1 (.cells #[.slice none 0 0, .slice none 0 0, .slice none 0 0] 32)))
  have f0 := T2.out.frozen 0
  have f1 := T2.out.frozen 1
  have f2 := T2.out.frozen 2
  clear D1 R1
  go_wp2
  obtain ⟨w2, hw2⟩ : ∃ y, y = w1.alloc (.cells #[.slice none 0 0, .slice none 0 0, .slice none 0 0] 32) := ⟨_, rfl⟩
  rw [← hw2]
  have H3 : Hid (Half5 w.heap.size w2 w1.heap.size (.slice none 0 0) (.slice none 0 0) (.slice none 0 0) (fun _ => .slice none 0 0) [] [] []) := by
    rw [hw2]; exact ⟨by omega, T2.out, OwnInts.nil _ _ _, OwnRows.nil _ _ _, OwnInts.nil _ _ _, fun i hi => absurd hi (by simp), fun i hi => absurd hi (by simp), fun g hg => by simp [Value.ownBlock] at hg⟩
  have D3 : Hid (Din w w2 B p ab cb bs) := by rw [hw2]; exact D2.out
  have R3 : Hid (w2.rowIs w.heap.size 32 3 (tri (.slice none 0 0) (.slice none 0 0) (.slice none 0 0))) := by rw [hw2]; exact R2.out
  clear hw2 T2 D2 R2 f0 f1 f2
  go_loopw [7] (fun v wr => ∃ (k : Nat) (vo vn vp : Value) (V : Nat → Value) (O : List Int) (zss : List (List Int)) (P : List Int), k ≤ y + 1 ∧ v = .int .i64 k ∧ O.length = k ∧ zss.length = k ∧ P.length = k ∧ Hid (∀ x ∈ O, x = 0 ∨ x = 1) ∧ Hid (∀ j, j < zss.length → UpTo ((y + 1 : Nat) : Int) (row zss j) ∧ 1 ≤ (row zss j).length ∧ (row zss j).length ≤ 3) ∧ Hid (∀ x ∈ P, 0 ≤ x ∧ x ≤ 4) ∧ Hid (Half5 w.heap.size wr w1.heap.size vo vn vp V O zss P) ∧ Hid (Din w wr B p ab cb bs) ∧ Hid (wr.rowIs w.heap.size 32 3 (tri (.slice none 0 0) (.slice none 0 0) (.slice none 0 0)))) (fun v _ => y + 1 - (intOf v).toNat)
  case atStart => exact ⟨0, _, _, _, _, [], [], [], Nat.zero_le _, rfl, rfl, rfl, rfl, fun x hx => (by cases hx), fun j hj => absurd hj (by simp), fun x hx => (by cases hx), H3, D3, R3⟩
  case round =>
    clear H3 D3 R3
    obtain ⟨k, vo, vn, vp, V, O, zss, P, hk, rfl, hOk, hzk, hPk, HOB, HL, HPB, HS, HD, HR⟩ := hrel
    obtain ⟨wq, hwq⟩ : ∃ x, x = wr := ⟨_, rfl⟩
    subst hwq
    have hwr : w.heap.size < wq.heap.size := HR.out.lt
    by_cases hlt : k < y + 1
    · have hi1 : (k : Int) < 1 + (y : Int) := by omega
      have U0 : Hid (OwnInts (wq.alloc (.cells #[] 2)) wq.heap.size (wq.alloc (.cells #[] 2)).heap.size (.slice (some ⟨wq.heap.size, 0, none⟩) 0 0) []) := OwnInts.mk' (World.ownsRow_made wq #[] 0 (Nat.le_refl _) (by unfold maxLen; omega) rfl) (by simp) (fun k hk => absurd hk (by simp))
      have D0 := Lib.hid (HD.out.below (below1 wq (.cells #[] 2)))
      have O0 : Hid (Only (fun b => b = p) wq (wq.alloc (.cells #[] 2))) := Only.of_below (below1 _ _)
      go_wp2_with fail
      obtain ⟨i1, h2, hd1⟩ := D0.out.cur
      refine (below_is (hi := 2) hd1 (by omega) (by omega) (by omega)).mono ?_
      rintro e w3 ⟨x, i2, h3, rfl, hx0, hx1, hd, ho⟩
      have D1 := Lib.hid (D0.out.call hd ho)
      have O1 := Lib.hid (O0.out.trans ho)
      have U1 := Lib.hid (U0.out.only ho (fun g hg e => by have := (U0.out.own.lt g hg).1; omega)).retop
      clear hd ho hd1 D0 O0 U0
      obtain ⟨c, rfl⟩ := Int.eq_ofNat_of_zero_le hx0
      have hc2 : c ≤ 2 := by omega
      clear hx0 hx1
      go_wp2
      go_loopw [8, 9] (fun u kv wv => ∃ (j : Nat) (uu : Value) (zs : List Int), uu = u ∧ j ≤ 3 ∧ kv = .int .i64 j ∧ zs.length + j ≤ 3 ∧ (j = 0 → 1 ≤ zs.length) ∧ Hid (UpTo ((y + 1 : Nat) : Int) zs) ∧ Hid (OwnInts wv wq.heap.size wv.heap.size uu zs) ∧ Hid (Din w wv B p ab cb bs) ∧ Hid (Only (fun b => b = p) wq wv)) (fun _ kv _ => (intOf kv).toNat)
      case atStart => exact ⟨c + 1, _, [], rfl, by omega, by go_num, by simp; omega, fun h => absurd h (by omega), ⟨by simp, fun x hx => (by cases hx)⟩, U1, D1, O1⟩
      case round =>
        clear U1 D1 O1
        obtain ⟨j, uu, zs, hu0, hj3, rfl, hzj, hz1j, HUP, HU, HDw, HO⟩ := hrel
        subst hu0
        have hszv := HO.out.size
        by_cases hjp : 0 < j
        · have hi2 : (0 : Int) < j := by omega
          obtain ⟨ua, uc, hus, _, _⟩ := HU.out.shape
          subst hus
          go_wp2_with fail
          obtain ⟨i1, h2, hd1⟩ := HDw.out.cur
          refine (below_is (hi := (y : Int)) hd1 (by omega) (by omega) (by omega)).mono ?_
          rintro e w4 ⟨z, i2, h3, rfl, hy0, hy1, hd, ho⟩
          have D1 := Lib.hid (HDw.out.call hd ho)
          have O1 := Lib.hid (HO.out.trans ho)
          have U1 := Lib.hid (HU.out.only ho (fun g hg e => by have := (HU.out.own.lt g hg).1; omega)).retop
          have hs4 := O1.out.size
          clear hd ho hd1
          have hone : UpTo ((y + 1 : Nat) : Int) [z] := UpTo.one hy0 (by omega)
          have hbo := HUP.out.both hone (by omega)
          have HUN := Lib.hid (HUP.out.union hone)
          have hul := unionL_len zs [z]
          have hul1 : 1 ≤ (unionL zs [z]).length := by
            have hm : z ∈ unionL zs [z] := unionL_mem.2 (.inr (by simp))
            exact List.length_pos_of_mem hm
          have HBz := Lib.hid (below1 w4 (.cells #[.int .i64 z] 2))
          have hat : IntsAt (w4.alloc (.cells #[.int .i64 z] 2)) (some ⟨w4.heap.size, 0, none⟩) [z] := ⟨by simp, fun j hj => by
            have : j = 0 := by simp at hj; omega
            subst this
            show Fits z
            unfold Fits; omega, fun _ => ⟨_, 0, rfl, fun j hj => by
            have : j = 0 := by simp at hj; omega
            subst this
            exact cell_one_new w4 (.int .i64 z) 2 0 _ rfl⟩⟩
          have hatu : IntsAt (w4.alloc (.cells #[.int .i64 z] 2)) ua zs := by
            obtain ⟨a', c', hv', hi', _⟩ := (U1.out.below HBz.out).shape
            cases hv'
            exact hi'
          have HI := Lib.hid (specBothOf_is hbo uc 1 hatu hat)
          clear hat hatu hbo hone
          go_wp2_with fail
          refine HI.out.mono ?_
          rintro e w5 ⟨u5, rfl, hu5, hb5⟩
          have hb6 := HBz.out.trans (hb5.mono (by simp))
          have U2 := Lib.hid ((hu5.base (B' := wq.heap.size) (by simp; omega)))
          have D2 := Lib.hid (D1.out.below hb6)
          have O2 := Lib.hid (O1.out.trans (Only.of_below hb6))
          clear hu5 hb5 hb6 U1 D1 O1 HI HBz
          have hj1 : ((j : Nat) : Int) - 1 = ((j - 1 : Nat) : Int) := by omega
          go_wp2
          go_roundw
          case rel => exact ⟨j - 1, _, unionL zs [z], rfl, by omega, by rw [← hj1], by simp at hul; omega, fun _ => hul1, HUN, U2, D2, O2⟩
          case measure => simp [intOf]; omega
        · have hj0' : j = 0 := by omega
          subst hj0'
          have hzs1 := hz1j rfl
          clear hz1j
          have HH := Lib.hid (HS.out.only HO.out (fun b hb => by omega))
          have RR := Lib.hid (rowIs_only HR.out HO.out (by omega))
          obtain ⟨a1, c1, hvs, _, _⟩ := HH.out.ints.shape
          subst hvs
          obtain ⟨ua, uc, hus, _, _⟩ := HU.out.shape
          subst hus
          have HOWN : Hid (wr.ownsRow w.heap.size 2 1 (.slice a1 k c1) k (O.map (Value.int .i64))) := by rw [← hOk]; exact HH.out.ints.own
          have HCELL : Hid (∀ W', Half5 w.heap.size W' w1.heap.size (.slice a1 O.length c1) vn vp V O zss P → W'.cell? ⟨w1.heap.size, 0, none⟩ = some (.slice a1 k c1)) := fun W' h => by
            have h0 : W'.cell? ⟨w1.heap.size, 0, none⟩ = some (.slice a1 O.length c1) := h.str.cell (i := 0) (by omega)
            rw [hOk] at h0
            exact h0
          have t0 := HCELL.out _ HH.out
          have htl := HH.out.str.lt
          have HUT : Hid (∀ g, (Value.slice ua zs.length uc).ownBlock = some g → g < wr.heap.size) := HU.out.top
          have HUB : Hid (∀ g, (Value.slice ua zs.length uc).ownBlock = some g → wq.heap.size ≤ g) := fun g hg => (HU.out.own.lt g hg).1
          have HVT : Hid (∀ g, (Value.slice a1 O.length c1).ownBlock = some g → g < wq.heap.size) := HS.out.ints.top
          have HPT : Hid (∀ g, vp.ownBlock = some g → g < wq.heap.size) := HS.out.prio.top
          have HRT : Hid (∀ i, i < zss.length → ∀ g, (V i).ownBlock = some g → g < wq.heap.size) := fun i hi => (HS.out.rows.rows i hi).top
          obtain ⟨i1, h2, hd1⟩ := HDw.out.cur
          have HDD := Lib.hid (hd1.below (Below.refl _ wr).drew)
          have hi2 : ¬ (0 : Int) < ((0 : Nat) : Int) := by omega
          clear hd1
          go_wp2
          go_region_law (first
            | (refine step_append_lies _ (by rfl) _ _ _ (by rfl) w.heap.size 2 j0 (.int .i64 0) 1 8 Tryz.underlying27 hj hj0 hj1 hj2 rfl (by decide) (.slice a1 k c1) k (O.map (Value.int .i64)) (by rfl) (HOWN2.out.alloc _) ⟨w2.heap.size, 0, none⟩ 1 1 [.int .i64 x] (by rfl) (by rfl) (World.news_of_block (cs := #[.int .i64 x]) (t := 2) (fr := (0, 0)) (heap_alloc_new w2 _)) (by simp [Value.oneCell']) (by omega) (by unfold maxLen; omega) (by omega) (by simp; omega) (w2.heap.size + 1) (by simp) ?_; intro gg cap w3 hown3 hgrow hat hlt3; have hbx := game_grown (rowIs_below HH2.out.str (below1 w2 (.cells #[.int .i64 x] 2))) (HOWN2.out.alloc _) (by decide) hgrow; have q3 : w3.cell? ⟨w1.heap.size, 0, none⟩ = some (.slice a1 O.length c1) := hbx.cell (i := 0) (by omega); have p3 := hbx.frozen 0)
            | (go_simp; go_at_call 38; refine (below_is (hi := 1) HDD.out (by omega) (by omega) (by omega)).mono ?_; rintro e w2 ⟨x, i2, h3, rfl, hx0, hx1, hd, ho⟩; have HO2 : Hid (Only (fun b => b = p) wr w2) := (Only.of_below (Below.refl _ _).drew).trans ho; have HD2 := Lib.hid (HDw.out.call hd HO2.out); have HH2 := Lib.hid (HH.out.only HO2.out (fun b hb => by omega)); have HOWN2 := Lib.hid (ownsRow_only HOWN.out HO2.out (fun g hg e => by have := (HOWN.out.lt g hg).1; omega)); have t2 := HCELL.out _ HH2.out; have t2a := HCELL.out _ (HH2.out.keep (below1 w2 (.cells #[.int .i64 x] 2))); have hlt2 : wr.heap.size ≤ w2.heap.size := HO2.out.size; clear hd ho))
          all_goals (
            have hg1 : (w2.alloc (.cells #[.int .i64 x] 2)).grownBy w3 (Value.slice a1 O.length c1).ownBlock := by rw [hOk]; exact hgrow
            have hat1 : (Value.slice a1 O.length c1).ownBlock = some gg ∨ (w2.alloc (.cells #[.int .i64 x] 2)).heap.size ≤ gg := by rw [hOk]; exact hat.imp_right fun h => by simp; omega
            have hp4 := (HH2.out.keep (below1 w2 (.cells #[.int .i64 x] 2))).owner (cap := cap) (gg := gg) (x := x) (by omega) (by unfold Fits; omega) (by rw [hOk]; exact hown3) hg1 hat1
            rw [hOk] at hp4
            have hD4 := (HD2.out.below (below1 w2 (.cells #[.int .i64 x] 2))).new hp4.2
            have hu3 := ((HU.out.only HO2.out (fun g hg e => by have := (HU.out.own.lt g hg).1; omega)).below (below1 w2 (.cells #[.int .i64 x] 2))).only (Only.of_grown hg1) (fun g h1 h2 => by have := HVT.out g h2; have := HUB.out g h1; omega)
            have hu4 := hu3.only (Box2.set0_only (t := w1.heap.size) (.slice (some ⟨gg, 0, none⟩) (k + 1) cap)) (fun g h1 e => game_row hbx hu3.own (by decide) (by rw [h1, e]))
            have hr4 := game_grown (rowIs_below (rowIs_only (rowIs_only HR.out HO.out (by omega)) HO2.out (by omega)) (below1 w2 (.cells #[.int .i64 x] 2))) (HOWN2.out.alloc _) (by decide) hgrow
            have hr5 := rowIs_only hr4 (Box2.set0_only (t := w1.heap.size) (.slice (some ⟨gg, 0, none⟩) (k + 1) cap)) (by omega)
            have hvu : ∀ g, (Value.slice ua zs.length uc).ownBlock = some g → (Value.slice (some (⟨gg, 0, none⟩ : Addr)) (k + 1) cap).ownBlock ≠ some g := fun g h1 h2 => by
              have h3 := HUB.out g h1
              have h4 := HUT.out g h1
              simp [Value.ownBlock] at h2
              subst h2
              rcases hat1 with h | h
              · have := HVT.out _ h; omega
              · simp at h; omega
            have hpu : ∀ g, (Value.slice ua zs.length uc).ownBlock = some g → vp.ownBlock ≠ some g := fun g h1 h2 => by
              have h3 := HUB.out g h1
              have h4 := HPT.out g h2
              omega
            have hapu : ∀ i, i < zss.length → ∀ g, (Value.slice ua zs.length uc).ownBlock = some g → (V i).ownBlock ≠ some g := fun i hi g h1 h2 => by
              have h3 := HUB.out g h1
              have h4 := HRT.out i hi g h2
              omega
            obtain ⟨W4, hW4⟩ : ∃ W4, W4 = w3.setCell ⟨w1.heap.size, 0, none⟩ (.slice (some ⟨gg, 0, none⟩) (k + 1) cap) := ⟨_, rfl⟩
            rw [← hW4] at hp4 hD4 hu4 hr5 ⊢
            have H4 := Lib.hid hp4.1
            have D4 := Lib.hid hD4
            have U4 := Lib.hid hu4
            have R4 := Lib.hid hr5
            have HVU := Lib.hid hvu
            have HPU := Lib.hid hpu
            have HAPU := Lib.hid hapu
            have hx01 : x = 0 ∨ x = 1 := by omega
            have HOB4 : Hid (∀ z ∈ O ++ [x], z = 0 ∨ z = 1) := fun z hz => by
              rcases List.mem_append.1 hz with hz | hz
              · exact HOB.out z hz
              · have : z = x := by simpa using hz
                rw [this]; exact hx01
            have hbase : w.heap.size ≤ wq.heap.size := by omega
            have hs4 : w.heap.size < W4.heap.size := hr5.lt
            have HOWN4 : Hid (W4.ownsRow w.heap.size 27 1 vn k ((List.range k).map V)) := by rw [← hzk]; exact hp4.1.rows.own
            clear hW4 hp4 hD4 hu4 hu3 hr4 hr5 hvu hpu hapu hg1 hat1 hown3 hgrow hat hbx q3 p3 t2 t2a t0 hx01
            have hvn : ∃ a2 c2, vn = .slice a2 k c2 := by obtain ⟨a, c, hv, _⟩ := H4.out.rows.shape; rw [hzk] at hv; exact ⟨a, c, hv⟩
            obtain ⟨a2, c2, hvn⟩ := hvn
            subst hvn
            have t41 : W4.cell? ⟨w1.heap.size, 1, none⟩ = some (.slice a2 k c2) := H4.out.str.cell (i := 1) (by omega)
            have t4f := H4.out.str.frozen 1
            have hone : ∀ u ∈ [Value.slice ua zs.length uc], u.oneCell' = true := by intro u hu; simp at hu; subst hu; rfl
            have HONE := Lib.hid hone
            clear hone
            go_wp2_with (at_builtin; refine wpList_append_lies _ rfl _ _ 28 rfl w.heap.size 27 i0 (.slice none 0 0) 1 24 Tryz.underlying28 hi hz0 hz1 hz2 rfl (by decide) _ _ _ rfl (HOWN4.out.alloc _) ⟨W4.heap.size, 0, none⟩ 1 1 [.slice ua zs.length uc] rfl rfl (cell_one_new _ _ _) HONE.out (Nat.le_refl _) (by unfold maxLen; omega) (by omega) (by simp; omega) (W4.heap.size + 1) (by simp) ?_; intro g8 cap8 w8 hown8 hgrow8 hat8 hlt8; have hbx8 := game_grown (rowIs_below H4.out.str (below1 W4 (.cells #[.slice ua zs.length uc] 27))) (HOWN4.out.alloc _) (by decide) hgrow8; have q8 : w8.cell? ⟨w1.heap.size, 1, none⟩ = some (.slice a2 k c2) := hbx8.cell (i := 1) (by omega); have p8 := hbx8.frozen 1)
            have h9 := (H4.out.keep (below1 W4 (.cells #[.slice ua zs.length uc] 27))).push (zs := zs) (cap := cap8) (gg := g8) (by omega) (U4.out.below (below1 _ _)) hbase HAPU.out HVU.out HPU.out (by rw [hzk]; exact hown8) hgrow8
            have d9 := (D4.out.below (below1 W4 (.cells #[.slice ua zs.length uc] 27))).new h9.2
            have r9 := rowIs_only (game_grown (rowIs_below R4.out (below1 W4 (.cells #[.slice ua zs.length uc] 27))) (HOWN4.out.alloc _) (by decide) hgrow8) (Box2.set1_only (t := w1.heap.size) (.slice (some ⟨g8, 0, none⟩) (k + 1) cap8)) (by omega)
            rw [hzk] at h9 d9
            have HL9 : Hid (∀ j, j < (zss ++ [zs]).length → UpTo ((y + 1 : Nat) : Int) (row (zss ++ [zs]) j) ∧ 1 ≤ (row (zss ++ [zs]) j).length ∧ (row (zss ++ [zs]) j).length ≤ 3) := fun j hj => by
              by_cases e : j < zss.length
              · rw [row_snoc_old e]; exact HL.out j e
              · have : j = zss.length := by simp at hj; omega
                subst this
                rw [row_snoc]; exact ⟨HUP.out, hzs1, by omega⟩
            have H9 := Lib.hid h9.1
            have D9 := Lib.hid d9
            have R9 := Lib.hid r9
            clear h9 d9 r9 hown8 hgrow8 hat8 hbx8
            obtain ⟨W9, hW9⟩ : ∃ W9, W9 = w8.setCell ⟨w1.heap.size, 1, none⟩ (.slice (some ⟨g8, 0, none⟩) (k + 1) cap8) := ⟨_, rfl⟩
            rw [← hW9] at H9 D9 R9
            have HW9 := Lib.hid hW9
            clear hW9
            go_wp2
            rw [← HW9.out]
            clear HW9 q8 p8 t41 t4f
            obtain ⟨a3, c3, hvp, _, _⟩ := H9.out.prio.shape
            subst hvp
            have HOWN9 : Hid (W9.ownsRow w.heap.size 2 1 (.slice a3 k c3) k (P.map (Value.int .i64))) := by rw [← hPk]; exact H9.out.prio.own
            have HCEL9 : Hid (∀ W' vo' vn' V' O' z', Half5 w.heap.size W' w1.heap.size vo' vn' (.slice a3 P.length c3) V' O' z' P → W'.cell? ⟨w1.heap.size, 2, none⟩ = some (.slice a3 k c3)) := fun W' vo' vn' V' O' z' h => by
              have h0 : W'.cell? ⟨w1.heap.size, 2, none⟩ = some (.slice a3 P.length c3) := h.str.cell (i := 2) (by omega)
              rw [hPk] at h0
              exact h0
            have t9 := HCEL9.out _ _ _ _ _ _ H9.out
            have htl9 := H9.out.str.lt
            have hs9 : w.heap.size < W9.heap.size := R9.out.lt
            obtain ⟨i5, h5, hd5⟩ := D9.out.cur
            have HDD9 := Lib.hid (hd5.below (Below.refl _ W9).drew)
            clear hd5
            go_region_law (first
              | (refine step_append_lies _ (by rfl) _ _ _ (by rfl) w.heap.size 2 j0 (.int .i64 0) 1 8 Tryz.underlying27 hj hj0 hj1 hj2 rfl (by decide) (.slice a3 k c3) k (P.map (Value.int .i64)) (by rfl) (HOWN12.out.alloc _) ⟨w12.heap.size, 0, none⟩ 1 1 [.int .i64 z] (by rfl) (by rfl) (World.news_of_block (cs := #[.int .i64 z]) (t := 2) (fr := (0, 0)) (heap_alloc_new w12 _)) (by simp [Value.oneCell']) (by omega) (by unfold maxLen; omega) (by omega) (by simp; omega) (w12.heap.size + 1) (by simp) ?_; intro g13 cap13 w13 hown13 hgrow13 hat13 hlt13; have hbx13 := game_grown (rowIs_below HH12.out.str (below1 w12 (.cells #[.int .i64 z] 2))) (HOWN12.out.alloc _) (by decide) hgrow13; have q13 : w13.cell? ⟨w1.heap.size, 2, none⟩ = some (.slice a3 P.length c3) := hbx13.cell (i := 2) (by omega); have p13 := hbx13.frozen 2)
              | (go_simp; go_at_call 38; refine (below_is (hi := 4) HDD9.out (by omega) (by omega) (by omega)).mono ?_; rintro e w12 ⟨z, i6, h6, rfl, hz0', hz1', hd, ho⟩; have HO12 : Hid (Only (fun b => b = p) W9 w12) := (Only.of_below (Below.refl _ _).drew).trans ho; have HD12 := Lib.hid (D9.out.call hd HO12.out); have HH12 := Lib.hid (H9.out.only HO12.out (fun b hb => by omega)); have HR12 := Lib.hid (rowIs_only R9.out HO12.out (by omega)); have HOWN12 := Lib.hid (ownsRow_only HOWN9.out HO12.out (fun g hg e => by have := (HOWN9.out.lt g hg).1; omega)); have t12 := HCEL9.out _ _ _ _ _ _ HH12.out; have t12a := HCEL9.out _ _ _ _ _ _ (HH12.out.keep (below1 w12 (.cells #[.int .i64 z] 2))); have hlt12 : W9.heap.size ≤ w12.heap.size := HO12.out.size; clear hd ho))
            all_goals (
              have hg13 : (w12.alloc (.cells #[.int .i64 z] 2)).grownBy w13 (Value.slice a3 P.length c3).ownBlock := by rw [hPk]; exact hgrow13
              have hat14 : (Value.slice a3 P.length c3).ownBlock = some g13 ∨ (w12.alloc (.cells #[.int .i64 z] 2)).heap.size ≤ g13 := by rw [hPk]; exact hat13.imp_right fun h => by simp; omega
              have hp14 := (HH12.out.keep (below1 w12 (.cells #[.int .i64 z] 2))).prior (cap := cap13) (gg := g13) (x := z) (by omega) (by unfold Fits; omega) (by rw [hPk]; exact hown13) hg13 hat14
              rw [hPk] at hp14
              have H14 := Lib.hid hp14.1
              have D14 := Lib.hid ((HD12.out.below (below1 w12 (.cells #[.int .i64 z] 2))).new hp14.2)
              have R14 := Lib.hid (rowIs_only (game_grown (rowIs_below HR12.out (below1 w12 (.cells #[.int .i64 z] 2))) (HOWN12.out.alloc _) (by decide) hgrow13) ((Only.refl (fun b => b = w1.heap.size) w13).setCell (p := ⟨w1.heap.size, 2, none⟩) rfl (.slice (some ⟨g13, 0, none⟩) (k + 1) cap13)) (by omega))
              have HPB14 : Hid (∀ q ∈ P ++ [z], 0 ≤ q ∧ q ≤ 4) := fun q hq => by
                rcases List.mem_append.1 hq with hq | hq
                · exact HPB.out q hq
                · have : q = z := by simpa using hq
                  rw [this]; exact ⟨hz0', hz1'⟩
              clear hp14 hg13 hat14 hown13 hgrow13 hat13 hbx13 q13 p13 t12 t12a t9
              go_wp2
              go_roundw
              case rel => exact ⟨k + 1, _, _, _, _, O ++ [x], zss ++ [zs], P ++ [z], by omega, by go_num, by simp; omega, by simp; omega, by simp; omega, HOB4, HL9, HPB14, H14, D14, R14⟩
              case measure => simp [intOf]; omega))
    · have hkk : k = y + 1 := by omega
      have hi1 : ¬ (k : Int) < 1 + (y : Int) := by omega
      have t0 : wq.cell? ⟨w1.heap.size, 0, none⟩ = some vo := HS.out.str.cell (i := 0) (by omega)
      have t1 : wq.cell? ⟨w1.heap.size, 1, none⟩ = some vn := HS.out.str.cell (i := 1) (by omega)
      have t2 : wq.cell? ⟨w1.heap.size, 2, none⟩ = some vp := HS.out.str.cell (i := 2) (by omega)
      have d0 : wq.cell? ⟨w.heap.size, 0, none⟩ = some (.slice none 0 0) := HR.out.cell (i := 0) (by omega)
      have d1 : wq.cell? ⟨w.heap.size, 1, none⟩ = some (.slice none 0 0) := HR.out.cell (i := 1) (by omega)
      have d2 : wq.cell? ⟨w.heap.size, 2, none⟩ = some (.slice none 0 0) := HR.out.cell (i := 2) (by omega)
      have g0 := HR.out.frozen 0
      have g1 := HR.out.frozen 1
      have g2 := HR.out.frozen 2
      have hvo : ∃ a1 c1, vo = .slice a1 (y + 1) c1 := by obtain ⟨a, c, hv, _⟩ := HS.out.ints.shape; rw [hOk, hkk] at hv; exact ⟨a, c, hv⟩
      obtain ⟨a1, c1, hvo⟩ := hvo
      subst hvo
      have hvn : ∃ a2 c2, vn = .slice a2 (y + 1) c2 := by obtain ⟨a, c, hv, _⟩ := HS.out.rows.shape; rw [hzk, hkk] at hv; exact ⟨a, c, hv⟩
      obtain ⟨a2, c2, hvn⟩ := hvn
      subst hvn
      have hvp : ∃ a3 c3, vp = .slice a3 (y + 1) c3 := by obtain ⟨a, c, hv, _⟩ := HS.out.prio.shape; rw [hPk, hkk] at hv; exact ⟨a, c, hv⟩
      obtain ⟨a3, c3, hvp⟩ := hvp
      subst hvp
      go_wp2
      have hS : Only (fun b => b = w.heap.size) wq (((wq.setCell ⟨w.heap.size, 0, none⟩ (.slice a1 (y + 1) c1)).setCell ⟨w.heap.size, 1, none⟩ (.slice a2 (y + 1) c2)).setCell ⟨w.heap.size, 2, none⟩ (.slice a3 (y + 1) c3)) :=
        (((Only.refl (fun b => b = w.heap.size) wq).setCell (p := ⟨w.heap.size, 0, none⟩) rfl _).setCell (p := ⟨w.heap.size, 1, none⟩) rfl _).setCell (p := ⟨w.heap.size, 2, none⟩) rfl _
      have hAP : ArenaP O zss := ⟨by omega, by omega, by omega, fun v hv => by
        obtain ⟨hu, hl1, hl3⟩ := HL.out v (by omega)
        refine ⟨HOB.out _ (nth_mem hv), hl1, by omega, ?_⟩
        have hz := hu.set
        rw [show O.length = y + 1 by omega]
        exact hz⟩
      have hfin : ThrowsGame w B p ab cb bs most (.returned (.agg #[.slice a1 (y + 1) c1, .slice a2 (y + 1) c2, .slice a3 (y + 1) c3])) (((wq.setCell ⟨w.heap.size, 0, none⟩ (.slice a1 (y + 1) c1)).setCell ⟨w.heap.size, 1, none⟩ (.slice a2 (y + 1) c2)).setCell ⟨w.heap.size, 2, none⟩ (.slice a3 (y + 1) c3)) :=
        ⟨_, _, _, O, zss, P, rfl, ⟨_, _, V, rfl, (HS.out.ints.only hS (fun g hg e => game_row HR.out HS.out.ints.own (by decide) (by rw [hg, e]))).retop, (HS.out.rows.only hS (fun g hg e => game_row HR.out HS.out.rows.own (by decide) (by rw [hg, e])) (fun k hk g hg e => game_row HR.out (HS.out.rows.rows k hk).own (by decide) (by rw [hg, e]))).retop, HS.out.apart⟩,
          (HS.out.prio.only hS (fun g hg e => game_row HR.out HS.out.prio.own (by decide) (by rw [hg, e]))).retop, hAP, by omega, by omega, HPB.out, HD.out.new (hS.mono fun b hb => by omega)⟩
      have hF := (((HR.out.set 0 (.slice a1 (y + 1) c1)).set 1 (.slice a2 (y + 1) c2)).set 2 (.slice a3 (y + 1) c3))
      obtain ⟨WF, hWF⟩ : ∃ WF, WF = ((wq.setCell ⟨w.heap.size, 0, none⟩ (.slice a1 (y + 1) c1)).setCell ⟨w.heap.size, 1, none⟩ (.slice a2 (y + 1) c2)).setCell ⟨w.heap.size, 2, none⟩ (.slice a3 (y + 1) c3) := ⟨_, rfl⟩
      rw [← hWF] at hfin hF ⊢
      have e0 : WF.cell? ⟨w.heap.size, 0, none⟩ = some (.slice a1 (y + 1) c1) := hF.cell (i := 0) (by omega)
      have e1 : WF.cell? ⟨w.heap.size, 1, none⟩ = some (.slice a2 (y + 1) c2) := hF.cell (i := 1) (by omega)
      have e2 : WF.cell? ⟨w.heap.size, 2, none⟩ = some (.slice a3 (y + 1) c3) := hF.cell (i := 2) (by omega)
      clear hF hWF
      exact bodyPost_ret (v := .agg #[.slice a1 (y + 1) c1, .slice a2 (y + 1) c2, .slice a3 (y + 1) c3]) (by simp [results, Tryz.results36, go_sem, e0, e1, e2]) rfl hfin
end

end Go.Proofs.YtokcinhopajniaaGreatDoor
