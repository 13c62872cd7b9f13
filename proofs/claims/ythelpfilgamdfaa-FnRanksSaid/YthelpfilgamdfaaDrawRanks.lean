/-
  Contract: the draw for RanksIn.
-/
import Derived.Test.YthelpfilgamdfaaDrawThree
namespace Go.Proofs.Ythelpfilgamdfaa
open Go.RowKit

/-- An arena, a number and two slices of numbers, whatever they hold. -/
def GivesThree (w : World) (e : Ending) (w' : World) : Prop :=
  ∃ v n0 u1 u2 O zss F G, e = .returned (.tuple #[v, .int .i64 n0, u1, u2]) ∧ ArenaAt w' v O zss ∧ IntsV w' u1 F ∧ IntsV w' u2 G ∧ F.length ≤ 1048576 ∧ G.length ≤ 1048576 ∧ O.length ≤ 300 ∧ -1 ≤ n0 ∧ n0 ≤ 2 ∧ Below w.heap.size w w'

set_option maxHeartbeats 8000000 in
set_option maxRecDepth 100000 in
theorem DrawRanksIn_is {w : World} {ab : Option Addr} {cb : Nat} {bs : List Int} (hby : BytesAt w ab bs) (hl : bs.length ≤ 4096) :
    Calls Try.prog 25 #[.slice ab bs.length cb] w (GivesThree w) := by
  have HN := Lib.hid (l1New_is (cb := cb) (hby.below (below1 w (.cells #[.slice none 0 0, .slice none 0 0] 30))) hl)
  have R0 := Lib.hid (Box2.new w 30 (.slice none 0 0) (.slice none 0 0))
  have B0 := Lib.hid (below1 w (.cells #[.slice none 0 0, .slice none 0 0] 30))
  clear hby
  go_enter Try.func25, Try.ntmps25
  go_wp2_with fail
  refine HN.out.mono ?_
  rintro e w1 ⟨h, rfl, hd, hb⟩
  have hs0 : (w.alloc (.cells #[.slice none 0 0, .slice none 0 0] 30)).heap.size = w.heap.size + 1 := by simp
  have B1 := Lib.hid (B0.out.trans (hb.mono B0.out.size))
  have R1 := Lib.hid (R0.out.below hb)
  rw [hs0] at hd hb ⊢
  have D1 := Lib.hid hd
  have hp1 := hd.lt
  clear hd hb hs0 HN R0 B0
  go_wp2_with fail
  refine (l3Draw_is D1.out).mono ?_
  rintro e w2 ⟨v, n0, u1, u2, O, zss, F, G, rfl, hA, hO, hU, hlU, hV, hlV, hn0, hn1, hD⟩
  have AR := Lib.hid hA
  obtain ⟨vo, vn, V, rfl, hvo, hvn, -⟩ := hA
  obtain ⟨oa, oc, hov, -, -⟩ := hvo.shape
  subst hov
  obtain ⟨na, nc, hnv, -, -⟩ := hvn.shape
  subst hnv
  have UU := Lib.hid hU
  have VV := Lib.hid hV
  have R2 := Lib.hid (R1.out.only hD.only (by omega))
  have B2 := Lib.hid (B1.out.trans (hD.only.below (B := w.heap.size) (by omega) (fun b hb => by omega)))
  have hs2 : w1.heap.size ≤ w2.heap.size := hD.only.size
  clear hvo hvn hD D1 R1 B1 hU hV
  have r0 := R2.out.cell0
  have r1 := R2.out.cell1
  have f0 := R2.out.frozen 0
  have f1 := R2.out.frozen 1
  have hS := Lib.hid (Box2.two_only w2 w.heap.size (.slice oa O.length oc) (.slice na zss.length nc))
  have hfin : Hid (GivesThree w (.returned (.tuple #[.agg #[.slice oa O.length oc, .slice na zss.length nc], .int .i64 n0, u1, u2])) ((w2.setCell ⟨w.heap.size, 0, none⟩ (.slice oa O.length oc)).setCell ⟨w.heap.size, 1, none⟩ (.slice na zss.length nc))) :=
    ⟨_, _, _, _, O, zss, F, G, rfl, (AR.out.only hS.out (fun g h1 h2 e => by omega)).at, (OwnInts.only UU.out hS.out (fun g hg e => by have := (UU.out.own.lt g hg).1; omega)).v, (OwnInts.only VV.out hS.out (fun g hg e => by have := (VV.out.own.lt g hg).1; omega)).v, by omega, by omega, hO, hn0, hn1, B2.out.trans (hS.out.below (B := w.heap.size) B2.out.size (fun b hb => by omega))⟩
  clear hS
  go_wp2
  exact bodyPost_ret (v := .tuple #[.agg #[.slice oa O.length oc, .slice na zss.length nc], .int .i64 n0, u1, u2]) (by simp [results, Try.results25, go_sem, r0, r1]) rfl hfin.out

end Go.Proofs.Ythelpfilgamdfaa
