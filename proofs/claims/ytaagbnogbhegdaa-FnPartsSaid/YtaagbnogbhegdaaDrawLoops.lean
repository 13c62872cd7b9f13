/-
  Contract: the draw for LoopsOf.
-/
import Derived.Test.YtaagbnogbhegdaaDrawReach
import Derived.Test.YtaagbnogbhegdaaDraw1
namespace Go.Proofs.Ytaagbnogbhegdaa
open Go.RowKit

set_option maxHeartbeats 8000000 in
set_option maxRecDepth 100000 in
theorem DrawLoopsOf_is {w : World} {ab : Option Addr} {cb : Nat} {bs : List Int} (hby : BytesAt w ab bs) (hl : bs.length ≤ 4096) :
    Calls Try.prog 15 #[.slice ab bs.length cb] w (GivesDraw w) := by
  have HN := Lib.hid (l1New_is (cb := cb) (hby.below (below1 w (.cells #[.slice none 0 0, .slice none 0 0] 27))) hl)
  have R0 := Lib.hid (Box2.new w 27 (.slice none 0 0) (.slice none 0 0))
  have B0 := Lib.hid (below1 w (.cells #[.slice none 0 0, .slice none 0 0] 27))
  clear hby
  go_enter Try.func15, Try.ntmps15
  go_wp2_with fail
  refine HN.out.mono ?_
  rintro e w1 ⟨h, rfl, hd, hb⟩
  have hs0 : (w.alloc (.cells #[.slice none 0 0, .slice none 0 0] 27)).heap.size = w.heap.size + 1 := by simp
  have B1 := Lib.hid (B0.out.trans (hb.mono B0.out.size))
  have R1 := Lib.hid (R0.out.below hb)
  rw [hs0] at hd hb ⊢
  have D1 := Lib.hid hd
  have hp1 := hd.lt
  clear hd hb hs0 HN R0 B0
  go_wp2_with fail
  refine (l1DrawAny_is D1.out).mono ?_
  rintro e w2 ⟨v, O, zss, rfl, hA, hO, hZ, hD⟩
  have AR := Lib.hid hA
  obtain ⟨vo, vn, V, rfl, hvo, hvn, -⟩ := hA
  obtain ⟨oa, oc, hov, -, -⟩ := hvo.shape
  subst hov
  obtain ⟨na, nc, hnv, -, -⟩ := hvn.shape
  subst hnv
  have D2 := Lib.hid hD
  have R2 := Lib.hid (R1.out.only hD.only (by omega))
  have B2 := Lib.hid (B1.out.trans (hD.only.below (B := w.heap.size) (by omega) (fun b hb => by omega)))
  have hs2 : w1.heap.size ≤ w2.heap.size := hD.only.size
  clear hvo hvn hD D1 R1 B1
  go_wp2_with fail
  obtain ⟨w3, hw3⟩ : ∃ y, y = w2.alloc (.cells #[.slice oa O.length oc, .slice na zss.length nc] 27) := ⟨_, rfl⟩
  rw [← hw3]
  have hb3 : Below w2.heap.size w2 w3 := by rw [hw3]; exact below1 _ _
  have T3 : Hid (Box2 w3 w2.heap.size 27 (.slice oa O.length oc) (.slice na zss.length nc)) := by rw [hw3]; exact Box2.new _ _ _ _
  have A3 := Lib.hid (AR.out.below hb3)
  have D3 := Lib.hid (D2.out.below hb3)
  have R3 := Lib.hid (R2.out.below hb3)
  have B3 := Lib.hid (B2.out.trans (hb3.mono B2.out.size))
  have hs3 : w2.heap.size + 1 ≤ w3.heap.size := by have := T3.out.lt; omega
  clear hw3 hb3 AR D2 R2 B2
  obtain ⟨i3, g3, hd3⟩ := D3.out.cur
  refine (l1Once_is hd3 (by omega) (by omega)).mono ?_
  rintro e w4 ⟨r, i4, g4, rfl, hd, ho⟩
  have T4 := Lib.hid (T3.out.only ho (by omega))
  have A4 := Lib.hid (A3.out.only ho (fun g h1 h2 e => by omega))
  have D4 := Lib.hid (D3.out.call hd ho)
  have R4 := Lib.hid (R3.out.only ho (by omega))
  have B4 := Lib.hid (B3.out.trans (ho.below (B := w.heap.size) (by omega) (fun b hb => by omega)))
  have hs4 : w3.heap.size ≤ w4.heap.size := ho.size
  clear hd3 hd ho T3 A3 D3 R3 B3
  have t0 := T4.out.cell0
  have t1 := T4.out.cell1
  have d0 := R4.out.cell0
  have d1 := R4.out.cell1
  have g0 := R4.out.frozen 0
  have g1 := R4.out.frozen 1
  obtain ⟨i4', g4', hd4⟩ := D4.out.cur
  have HDD := Lib.hid (hd4.below (Below.refl _ w4).drew)
  clear hd4
  cases r with
  | true =>
    go_wp2
    go_region_law (go_simp; go_at_call 66; refine (specAllOf_is (n := (O.length : Int)) rfl).mono ?_; rintro e w5 ⟨u, rfl, hu, hb⟩; have HO5 : Hid (Below w4.heap.size w4 w5) := (Below.refl _ w4).drew.trans hb; have T5 := Lib.hid (T4.out.below HO5.out); have R5 := Lib.hid (R4.out.below HO5.out); have hs5 : w4.heap.size ≤ w5.heap.size := HO5.out.size; have q0 := T5.out.cell0; have q1 := T5.out.cell1; have p0 := R5.out.cell0; have p1 := R5.out.cell1; have o0 := R5.out.frozen 0; have o1 := R5.out.frozen 1; have U5 : Hid (OwnInts w5 w4.heap.size w5.heap.size u (allL (O.length : Int))) := hu; clear hu hb)
    all_goals (
      have A5 := Lib.hid (A4.out.below HO5.out)
      have B5 := Lib.hid (B4.out.trans (HO5.out.mono (by omega)))
      have hlF := allL_len (O.length : Int)
      clear q0 q1 o0 o1 t0 t1 d0 d1 g0 g1
      go_wp2
      have hS := Box2.two_only w5 w.heap.size (.slice oa O.length oc) (.slice na zss.length nc)
      have hfin : GivesDraw w (.returned (.tuple #[.agg #[.slice oa O.length oc, .slice na zss.length nc], u])) ((w5.setCell ⟨w.heap.size, 0, none⟩ (.slice oa O.length oc)).setCell ⟨w.heap.size, 1, none⟩ (.slice na zss.length nc)) :=
        ⟨_, _, O, zss, _, rfl, (A5.out.only hS (fun g h1 h2 e => by omega)).at, (U5.out.only hS (fun g hg e => by have := (U5.out.own.lt g hg).1; omega)).v, by omega, hO, (B5.out.trans (hS.below (B := w.heap.size) B5.out.size (fun b hb => by omega)))⟩
      exact bodyPost_ret (v := .tuple #[.agg #[.slice oa O.length oc, .slice na zss.length nc], u]) (by simp [results, Try.results15, go_sem, p0, p1]) rfl hfin)
  | false =>
    go_wp2
    go_region_law (go_simp; go_at_call 67; refine (l1DrawSet_is HDD.out (by omega) (by omega)).mono ?_; rintro e w5 ⟨u, Fs, i5, g5, rfl, hu, hlu, hd, ho⟩; have HO5 : Hid (Only (fun b => b = w.heap.size + 1) w4 w5) := (Only.of_below (Below.refl _ _).drew).trans ho; have T5 := Lib.hid (T4.out.only HO5.out (by omega)); have R5 := Lib.hid (R4.out.only HO5.out (by omega)); have hs5 : w4.heap.size ≤ w5.heap.size := HO5.out.size; have q0 := T5.out.cell0; have q1 := T5.out.cell1; have p0 := R5.out.cell0; have p1 := R5.out.cell1; have o0 := R5.out.frozen 0; have o1 := R5.out.frozen 1; have U5 : Hid (OwnInts w5 w4.heap.size w5.heap.size u Fs) := hu; have hlF := hlu; clear hd ho hu hlu)
    all_goals (
      have A5 := Lib.hid (A4.out.only HO5.out (fun g h1 h2 e => by omega))
      have B5 := Lib.hid (B4.out.trans (HO5.out.below (B := w.heap.size) (by omega) (fun b hb => by omega)))
      clear q0 q1 o0 o1 t0 t1 d0 d1 g0 g1
      go_wp2
      have hS := Box2.two_only w5 w.heap.size (.slice oa O.length oc) (.slice na zss.length nc)
      have hfin : GivesDraw w (.returned (.tuple #[.agg #[.slice oa O.length oc, .slice na zss.length nc], u])) ((w5.setCell ⟨w.heap.size, 0, none⟩ (.slice oa O.length oc)).setCell ⟨w.heap.size, 1, none⟩ (.slice na zss.length nc)) :=
        ⟨_, _, O, zss, Fs, rfl, (A5.out.only hS (fun g h1 h2 e => by omega)).at, (U5.out.only hS (fun g hg e => by have := (U5.out.own.lt g hg).1; omega)).v, by omega, hO, (B5.out.trans (hS.below (B := w.heap.size) B5.out.size (fun b hb => by omega)))⟩
      exact bodyPost_ret (v := .tuple #[.agg #[.slice oa O.length oc, .slice na zss.length nc], u]) (by simp [results, Try.results15, go_sem, p0, p1]) rfl hfin)

end Go.Proofs.Ytaagbnogbhegdaa
