/-
  Contracts: valued, and how two valued worths compare.
-/
import Derived.Test.YtihaajcmephlmaaPo09
import Derived.Test.YtihaajcmephlmaaHeavyImpl
import Derived.Test.YtihaajcmephlmaaKitWorth
import Derived.Test.YtihaajcmephlmaaValMath
namespace Go.Proofs.Ytihaajcmephlmaa
section
open Go.RowKit Go.Shelf

/-- A value reads as the appraiser of a game. -/
def AppAt (W : World) (s : Value) (O : List Int) (zss : List (List Int)) (P : List Int) : Prop :=
  ∃ ao an ap gs co cn cp cg, s = .agg #[.slice ao O.length co, .slice an zss.length cn, .slice ap P.length cp, .slice gs P.length cg] ∧ IntsAt W gs (gainL P)
theorem AppAt.below {W W' : World} {s : Value} {O P : List Int} {zss : List (List Int)} (h : AppAt W s O zss P) (hb : Below W.heap.size W W') : AppAt W' s O zss P := by
  obtain ⟨a, b, c, d, e, f, g, i, hs, hi⟩ := h
  exact ⟨a, b, c, d, e, f, g, i, hs, hi.below hb⟩
/-- Four cells, six cells. -/
def lf (l : List Value) : Nat → Value := fun i => l.getD i undef
theorem lf_new (w : World) (l : List Value) (T : TypeId) : (w.alloc (.cells l.toArray T)).rowIs w.heap.size T l.length (lf l) := by
  refine ⟨_, heap_alloc_new w _, by simp, fun j hj => ?_⟩
  simp [lf, hj]
theorem lf_at {w : World} {g : Nat} (hg : g = w.heap.size) (l : List Value) (T : TypeId) : (w.alloc (.cells l.toArray T)).rowIs g T l.length (lf l) := by subst hg; exact lf_new _ _ _
theorem lf_cells {w : World} {g : Nat} {l : List Value} {T : TypeId} (h : w.rowIs g T l.length (lf l)) : w.heap[g]? = some (.cells l.toArray T (0, 0)) := by
  obtain ⟨arr, h1, h2, h3⟩ := h
  have e : arr = l.toArray := by
    refine Array.ext (by simp [h2]) fun i hi hj => ?_
    have hi' : i < l.length := by simpa using hj
    have := h3 i hi'
    rw [Array.getElem?_eq_getElem hi] at this
    simpa [lf, hi'] using this
  rw [h1, e]

set_option linter.unusedSimpArgs false in
set_option maxRecDepth 100000 in
set_option maxHeartbeats 8000000 in
theorem valued_is {w : World} {s u : Value} {O P V : List Int} {zss : List (List Int)} {h : Nat} {y : Int} (h12 : P.length ≤ 12) (hh : h < P.length) (hVl : V.length ≤ 12) (hV : ∀ i, i < V.length → 0 ≤ nth V i ∧ nth V i < P.length) (hy : 0 ≤ y ∧ y ≤ 12) (ha : AppAt w s O zss P) (hw : WorthAt w u h V y) :
    Calls Try.prog 39 #[s, u] w fun e w' => ∃ a c, e = .returned (.agg #[.int .i64 h, .slice a V.length c, .int .i64 y, .int .i64 (gainI P h), .int .i64 (sumV P V), .int .i64 (wayV P h y)]) ∧ Below w.heap.size w w' := by
  obtain ⟨ao, an, ap, gs, co, cn, cp, cg, rfl, hg⟩ := ha
  obtain ⟨av, cv, rfl, hv⟩ := hw
  have HGs := Lib.hid hg
  have HVv := Lib.hid hv
  have HVb := Lib.hid hV
  have hvl := hv.len
  obtain ⟨w1, hw1⟩ : ∃ q, q = ((w.alloc (.cells #[.slice ao O.length co, .slice an zss.length cn, .slice ap P.length cp, .slice gs P.length cg] 69)).alloc (.cells #[.int .i64 h, .slice av V.length cv, .int .i64 y] 35)).alloc (.cells #[.int .i64 0, .slice none 0 0, .int .i64 0, .int .i64 0, .int .i64 0, .int .i64 0] 73) := ⟨_, rfl⟩
  have HW1 := Lib.hid hw1
  have B1 : Hid (Below w.heap.size w w1) := by rw [hw1]; exact (below2 _ _ _).alloc (by simp; omega) _
  have A1 : Hid (w1.rowIs w.heap.size 69 4 (lf [.slice ao O.length co, .slice an zss.length cn, .slice ap P.length cp, .slice gs P.length cg])) := by rw [hw1]; exact World.rowIs.alloc (World.rowIs.alloc (lf_at rfl [.slice ao O.length co, .slice an zss.length cn, .slice ap P.length cp, .slice gs P.length cg] _) _) _
  have X1 : Hid (w1.rowIs (w.heap.size + 1) 35 3 (lf [.int .i64 h, .slice av V.length cv, .int .i64 y])) := by rw [hw1]; exact World.rowIs.alloc (lf_at (by simp) [.int .i64 h, .slice av V.length cv, .int .i64 y] _) _
  have R1 : Hid (w1.rowIs (w.heap.size + 1 + 1) 73 6 (lf [.int .i64 0, .slice none 0 0, .int .i64 0, .int .i64 0, .int .i64 0, .int .i64 0])) := by rw [hw1]; exact lf_at (by simp) [.int .i64 0, .slice none 0 0, .int .i64 0, .int .i64 0, .int .i64 0, .int .i64 0] _
  have hs1 : Hid (w1.heap.size = w.heap.size + 1 + 1 + 1) := by rw [hw1]; simp [Hid]
  obtain ⟨gb, go, hga, hgc⟩ := (hg.below B1.out).cell (by rw [gainL_len]; omega)
  have p1 := hgc h (by rw [gainL_len]; exact hh)
  rw [gainL_nth hh] at p1
  obtain ⟨p, hp⟩ : ∃ p, p = gainI P h := ⟨_, rfl⟩
  have HP := Lib.hid hp
  rw [← hp] at p1
  subst hga
  have a3 : w1.cell? ⟨w.heap.size, 3, none⟩ = some (.slice (some ⟨gb, go, none⟩) P.length cg) := A1.out.cell (i := 3) (by omega)
  have x0 : w1.cell? ⟨w.heap.size + 1, 0, none⟩ = some (.int .i64 h) := X1.out.cell (i := 0) (by omega)
  have x1 : w1.cell? ⟨w.heap.size + 1, 1, none⟩ = some (.slice av V.length cv) := X1.out.cell (i := 1) (by omega)
  have x2 : w1.cell? ⟨w.heap.size + 1, 2, none⟩ = some (.int .i64 y) := X1.out.cell (i := 2) (by omega)
  have HSw : Hid (∀ W', Below w1.heap.size w1 W' → (fun W' => W'.cell? ⟨w.heap.size, 3, none⟩ = some (.slice (some ⟨gb, go, none⟩) P.length cg) ∧ W'.cell? ⟨gb, go + h, none⟩ = some (.int .i64 p) ∧ W'.cell? ⟨w.heap.size + 1, 0, none⟩ = some (.int .i64 h) ∧ W'.cell? ⟨w.heap.size + 1, 1, none⟩ = some (.slice av V.length cv) ∧ W'.cell? ⟨w.heap.size + 1, 2, none⟩ = some (.int .i64 y)) W') := fun W' hB =>
    ⟨Below.cell_some (B := 0) hB rfl a3, Below.cell_some (B := 0) hB rfl p1, Below.cell_some (B := 0) hB rfl x0, Below.cell_some (B := 0) hB rfl x1, Below.cell_some (B := 0) hB rfl x2⟩
  have Kd : Hid (Below w1.heap.size w1 w1.drew) := (Below.refl _ _).drew
  have hh0 : (0 : Int) ≤ (h : Int) := by omega
  have hh1 : (h : Int) < P.length := by omega
  clear hw1 hg hv hV hgc p1 hp a3 x0 x1 x2
  go_enter Try.func39, Try.ntmps39
  go_upto_region 1 with fail
  rw [← HW1.out]
  refine wp_region_M (S := (fun W' => W'.cell? ⟨w.heap.size, 3, none⟩ = some (.slice (some ⟨gb, go, none⟩) P.length cg) ∧ W'.cell? ⟨gb, go + h, none⟩ = some (.int .i64 p) ∧ W'.cell? ⟨w.heap.size + 1, 0, none⟩ = some (.int .i64 h) ∧ W'.cell? ⟨w.heap.size + 1, 1, none⟩ = some (.slice av V.length cv) ∧ W'.cell? ⟨w.heap.size + 1, 2, none⟩ = some (.int .i64 y))) (m := 13) (by kernel_rfl) (HSw.out _ Kd.out) (fun hHeld => ?_)
  refine wpAnyM_take (i := 0) (v := ?vm13) rfl (by kernel_rfl) (by decide) (by kernel_rfl) (by kernel_rfl) (by kernel_rfl) (fun _ _ _ h => h) (Or.inl ⟨by rfl, ?hm13⟩) (by assumption) ?_
  case hm13 => (intro w hSw; (try dsimp only at hSw); go_simp; first | done | with_reducible rfl)
  try simp only [Act.put, List.getElem_toArray, List.getElem_cons_succ, List.getElem_cons_zero, List.setIfInBounds_toArray, List.set_cons_zero, List.set_cons_succ]
  refine wpAnyM_take (i := 1) (v := ?vm14) rfl (by kernel_rfl) (by decide) (by kernel_rfl) (by kernel_rfl) (by kernel_rfl) (fun _ _ _ h => h) (Or.inl ⟨by rfl, ?hm14⟩) (by assumption) ?_
  case hm14 => (intro w hSw; (try dsimp only at hSw); go_simp; first | done | with_reducible rfl)
  try simp only [Act.put, List.getElem_toArray, List.getElem_cons_succ, List.getElem_cons_zero, List.setIfInBounds_toArray, List.set_cons_zero, List.set_cons_succ]
  refine wpAnyM_take (i := 2) (v := ?vm15) rfl (by kernel_rfl) (by decide) (by kernel_rfl) (by kernel_rfl) (by kernel_rfl) (fun _ _ _ h => h) (Or.inl ⟨by rfl, ?hm15⟩) (by assumption) ?_
  case hm15 => (intro w hSw; (try dsimp only at hSw); go_simp; first | done | with_reducible rfl)
  try simp only [Act.put, List.getElem_toArray, List.getElem_cons_succ, List.getElem_cons_zero, List.setIfInBounds_toArray, List.set_cons_zero, List.set_cons_succ]
  refine wpAnyM_take (i := 3) (v := ?vm16) rfl (by kernel_rfl) (by decide) (by kernel_rfl) (by kernel_rfl) (by kernel_rfl) (fun _ _ _ h => h) (Or.inl ⟨by rfl, ?hm16⟩) (by assumption) ?_
  case hm16 => (intro w hSw; (try dsimp only at hSw); go_simp; first | done | with_reducible rfl)
  try simp only [Act.put, List.getElem_toArray, List.getElem_cons_succ, List.getElem_cons_zero, List.setIfInBounds_toArray, List.set_cons_zero, List.set_cons_succ]
  refine wpAnyM_take (i := 4) (v := ?vm17) rfl (by kernel_rfl) (by decide) (by kernel_rfl) (by kernel_rfl) (by kernel_rfl) (fun _ _ _ h => h) (Or.inl ⟨by rfl, ?hm17⟩) (by assumption) ?_
  case hm17 => (intro w hSw; (try dsimp only at hSw); go_simp; first | done | with_reducible rfl)
  try simp only [Act.put, List.getElem_toArray, List.getElem_cons_succ, List.getElem_cons_zero, List.setIfInBounds_toArray, List.set_cons_zero, List.set_cons_succ]
  refine wpAnyM_take (i := 5) (v := ?vm18) rfl (by kernel_rfl) (by decide) (by kernel_rfl) (by kernel_rfl) (by kernel_rfl) (fun _ _ _ h => h) (Or.inl ⟨by rfl, ?hm18⟩) (by assumption) ?_
  case hm18 => (intro w hSw; (try dsimp only at hSw); go_simp; first | done | with_reducible rfl)
  try simp only [Act.put, List.getElem_toArray, List.getElem_cons_succ, List.getElem_cons_zero, List.setIfInBounds_toArray, List.set_cons_zero, List.set_cons_succ]
  refine wpAnyM_take (i := 6) (v := ?vm19) rfl (by kernel_rfl) (by decide) (by kernel_rfl) (by kernel_rfl) (by kernel_rfl) (fun _ _ _ h => h) (Or.inl ⟨by rfl, ?hm19⟩) (by assumption) ?_
  case hm19 => (intro w hSw; (try dsimp only at hSw); go_simp; first | done | with_reducible rfl)
  try simp only [Act.put, List.getElem_toArray, List.getElem_cons_succ, List.getElem_cons_zero, List.setIfInBounds_toArray, List.set_cons_zero, List.set_cons_succ]
  refine wpAnyM_take (i := 7) (v := ?vm20) rfl (by kernel_rfl) (by decide) (by kernel_rfl) (by kernel_rfl) (by kernel_rfl) (fun _ _ _ h => h) (Or.inl ⟨by rfl, ?hm20⟩) (by assumption) ?_
  case hm20 => (intro w hSw; (try dsimp only at hSw); go_simp; first | done | with_reducible rfl)
  try simp only [Act.put, List.getElem_toArray, List.getElem_cons_succ, List.getElem_cons_zero, List.setIfInBounds_toArray, List.set_cons_zero, List.set_cons_succ]
  refine wpAnyM_take (i := 8) (v := ?vm21) rfl (by kernel_rfl) (by decide) (by kernel_rfl) (by kernel_rfl) (by kernel_rfl) (fun _ _ _ h => h) (Or.inl ⟨by rfl, ?hm21⟩) (by assumption) ?_
  case hm21 => (intro w hSw; (try dsimp only at hSw); go_simp; first | done | with_reducible rfl)
  try simp only [Act.put, List.getElem_toArray, List.getElem_cons_succ, List.getElem_cons_zero, List.setIfInBounds_toArray, List.set_cons_zero, List.set_cons_succ]
  refine wpAnyM_take (i := 9) (v := ?vm22) rfl (by kernel_rfl) (by decide) (by kernel_rfl) (by kernel_rfl) (by kernel_rfl) (fun _ _ _ h => h) (Or.inl ⟨by rfl, ?hm22⟩) (by assumption) ?_
  case hm22 => (intro w hSw; (try dsimp only at hSw); go_simp; first | done | with_reducible rfl)
  try simp only [Act.put, List.getElem_toArray, List.getElem_cons_succ, List.getElem_cons_zero, List.setIfInBounds_toArray, List.set_cons_zero, List.set_cons_succ]
  refine wpAnyM_take (i := 10) (v := ?vm23) rfl (by kernel_rfl) (by decide) (by kernel_rfl) (by kernel_rfl) (by kernel_rfl) (fun _ _ _ h => h) (Or.inl ⟨by rfl, ?hm23⟩) (by assumption) ?_
  case hm23 => (intro w hSw; (try dsimp only at hSw); go_simp; first | done | with_reducible rfl)
  try simp only [Act.put, List.getElem_toArray, List.getElem_cons_succ, List.getElem_cons_zero, List.setIfInBounds_toArray, List.set_cons_zero, List.set_cons_succ]
  refine wpAnyM_one (i := 11) (by kernel_rfl) rfl (fun K hK => ?_)
  go_simp
  refine hK.out _ _ (fun _ => HSw.out _ (Kd.out.trans ((below1 _ _).mono Kd.out.size))) (fun hHeld => ?_)
  have hHeld := hHeld (by decide)
  clear hK K
  try simp only [Act.put, List.getElem_toArray, List.getElem_cons_succ, List.getElem_cons_zero, List.setIfInBounds_toArray, List.set_cons_zero, List.set_cons_succ]
  refine wpAnyM_one (i := 12) (by kernel_rfl) rfl (fun K hK => ?_)
  go_simp
  refine hK.out _ _ (fun _ => HSw.out _ (Kd.out.trans ((below1 _ _).mono Kd.out.size))) (fun hHeld => ?_)
  have hHeld := hHeld (by decide)
  clear hK K
  try simp only [Act.put, List.getElem_toArray, List.getElem_cons_succ, List.getElem_cons_zero, List.setIfInBounds_toArray, List.set_cons_zero, List.set_cons_succ]
  refine wpAnyM_done (by kernel_rfl) ?_ _
  obtain ⟨w2, hw2⟩ : ∃ q, q = (w1.alloc (.cells #[.int .i64 h, .slice av V.length cv, .int .i64 y, .int .i64 p, .int .i64 0, .int .i64 y] 73)).drew := ⟨_, rfl⟩
  have K2 : Hid (Below w1.heap.size w1 w2) := by rw [hw2]; exact Kd.out.trans ((below1 _ _).mono Kd.out.size)
  have G2 : Hid (w2.rowIs w1.heap.size 73 6 (lf [.int .i64 h, .slice av V.length cv, .int .i64 y, .int .i64 p, .int .i64 (sumK P V 0), .int .i64 y])) := by
    rw [hw2]
    exact (show (w1.alloc (.cells #[.int .i64 h, .slice av V.length cv, .int .i64 y, .int .i64 p, .int .i64 0, .int .i64 y] 73)).rowIs w1.heap.size 73 6 (lf [.int .i64 h, .slice av V.length cv, .int .i64 y, .int .i64 p, .int .i64 0, .int .i64 y]) from lf_new _ [.int .i64 h, .slice av V.length cv, .int .i64 y, .int .i64 p, .int .i64 0, .int .i64 y] _)
  rw [← hw2]
  clear hw2
  obtain ⟨b5, hb5⟩ : ∃ b, b = w1.heap.size := ⟨_, rfl⟩
  have HB5 := Lib.hid hb5
  rw [← hb5] at G2 ⊢
  clear hb5
  have x1 := (HSw.out _ K2.out).2.2.2.1
  go_wp2
  clear x1
  go_loopw [22] (fun iv wr => ∃ k : Nat, k ≤ V.length ∧ iv = .int .i64 k ∧ Hid (wr.rowIs b5 73 6 (lf [.int .i64 h, .slice av V.length cv, .int .i64 y, .int .i64 p, .int .i64 (sumK P V k), .int .i64 y])) ∧ Hid (Below w1.heap.size w1 wr)) (fun iv _ => V.length - (intOf iv).toNat)
  case atStart => exact ⟨0, Nat.zero_le _, rfl, G2.out, K2.out⟩
  case round =>
    clear G2
    obtain ⟨k, hk, rfl, HRo, HB⟩ := hrel
    have a3 := (HSw.out _ HB.out).1
    by_cases hlt : k < V.length
    · have hi1 : (k : Int) < V.length := by omega
      have hk0 : (0 : Int) ≤ (k : Int) := by omega
      obtain ⟨vb, vo, hva, hvc⟩ := (HVv.out.below (B1.out.trans (HB.out.mono B1.out.size))).cell (by omega)
      have v1 := hvc k hlt
      subst hva
      have hb := HVb.out k hlt
      obtain ⟨x, hx⟩ : ∃ x : Nat, nth V k = (x : Int) := ⟨(nth V k).toNat, by omega⟩
      have HXk : Hid ((nth V k).toNat = x) := by rw [hx]; exact Int.toNat_natCast _
      rw [hx] at v1 hb
      have hx0 : (0 : Int) ≤ (x : Int) := by omega
      have hx1 : (x : Int) < P.length := hb.2
      have hxP : x < P.length := by omega
      obtain ⟨gb', go', hga', hgc'⟩ := (HGs.out.below (B1.out.trans (HB.out.mono B1.out.size))).cell (by rw [gainL_len]; omega)
      simp only [Option.some.injEq, Addr.mk.injEq] at hga'
      obtain ⟨rfl, rfl, -⟩ := hga'
      have q1 := hgc' x (by rw [gainL_len]; exact hxP)
      rw [gainL_nth hxP] at q1
      have hsm := sumK_small h12 HVb.out hk
      have hgm := gain_small h12 hxP
      have HSU : Hid (sumK P V (k + 1) = sumK P V k + gainI P x) := by rw [Hid, sumK_succ hlt, HXk.out]
      obtain ⟨q, hq⟩ : ∃ q, q = gainI P x := ⟨_, rfl⟩
      obtain ⟨z, hz⟩ : ∃ z, z = sumK P V k := ⟨_, rfl⟩
      rw [← hq] at q1 hgm HSU
      rw [← hz] at hsm HSU HRo
      have hwr : IntKind.i64.wrap (z + q) = z + q := by rw [IntKind.wrap_i64]; omega
      have c4 : wr.cell? ⟨b5, 4, none⟩ = some (.int .i64 z) := HRo.out.cell (i := 4) (by omega)
      have f4 : wr.frozen? ⟨b5, 4, none⟩ = false := HRo.out.frozen 4
      have HRn : Hid ((wr.setCell ⟨b5, 4, none⟩ (.int .i64 (z + q))).rowIs b5 73 6 (lf [.int .i64 h, .slice (some ⟨vb, vo, none⟩) V.length cv, .int .i64 y, .int .i64 p, .int .i64 (sumK P V (k + 1)), .int .i64 y])) := by
        refine World.rowIs.congr (HRo.out.set 4 (.int .i64 (z + q))) fun i hi => ?_
        have h6 : i = 0 ∨ i = 1 ∨ i = 2 ∨ i = 3 ∨ i = 4 ∨ i = 5 := by omega
        rcases h6 with rfl | rfl | rfl | rfl | rfl | rfl
        · rfl
        · rfl
        · rfl
        · rfl
        · show (Value.int .i64 (z + q)) = .int .i64 (sumK P V (k + 1)); rw [HSU.out]
        · rfl
      have HBn : Hid (Below w1.heap.size w1 (wr.setCell ⟨b5, 4, none⟩ (.int .i64 (z + q)))) := HB.out.setCell (by rw [HB5.out]; exact Nat.le_refl _) _
      clear hvc hgc' hb hx hq hz hsm hgm
      go_wp2
      go_region_law (fail)
      all_goals (
        go_wp2
        go_roundw
        case rel => exact ⟨k + 1, by omega, by go_num, rowIs_below HRn.out (Below.refl _ _).drew, HBn.out.trans ((Below.refl _ _).drew.mono HBn.out.size)⟩
        case measure => simp [intOf]; omega)
    · have hi1 : ¬ (k : Int) < V.length := by omega
      have HRe : Hid (wr.rowIs b5 73 6 (lf [.int .i64 h, .slice av V.length cv, .int .i64 y, .int .i64 p, .int .i64 (sumV P V), .int .i64 y])) := by
        have hkk : k = V.length := by omega
        have h1 := HRo.out
        rw [hkk, sumK_all] at h1
        exact h1
      obtain ⟨z, hz⟩ : ∃ z, z = sumV P V := ⟨_, rfl⟩
      rw [← hz] at HRe
      have HZ := Lib.hid hz
      obtain ⟨-, p1, x0, -, x2⟩ := HSw.out _ HB.out
      have HR1 : Hid (wr.rowIs (w.heap.size + 1 + 1) 73 6 (lf [.int .i64 0, .slice none 0 0, .int .i64 0, .int .i64 0, .int .i64 0, .int .i64 0])) := rowIs_below R1.out HB.out
      have HNE : Hid (b5 ≠ w.heap.size + 1 + 1) := by rw [Hid, HB5.out, hs1.out]; omega
      have HBw := Lib.hid (B1.out.trans (HB.out.mono B1.out.size))
      clear hz HRo
      by_cases hp0 : 0 < p
      · have HWy : Hid (wayV P h y = -y) := by unfold wayV; rw [← HP.out, if_pos hp0]; exact rfl
        have hny : IntKind.i64.wrap (-y) = -y := by rw [IntKind.wrap_i64]; omega
        have HRf : Hid ((wr.setCell ⟨b5, 5, none⟩ (.int .i64 (-y))).rowIs b5 73 6 (lf [.int .i64 h, .slice av V.length cv, .int .i64 y, .int .i64 p, .int .i64 z, .int .i64 (-y)])) := by
          refine World.rowIs.congr (HRe.out.set 5 (.int .i64 (-y))) fun i hi => ?_
          have h6 : i = 0 ∨ i = 1 ∨ i = 2 ∨ i = 3 ∨ i = 4 ∨ i = 5 := by omega
          rcases h6 with rfl | rfl | rfl | rfl | rfl | rfl <;> rfl
        have HR2 : Hid ((wr.setCell ⟨b5, 5, none⟩ (.int .i64 (-y))).rowIs (w.heap.size + 1 + 1) 73 6 (lf [.int .i64 0, .slice none 0 0, .int .i64 0, .int .i64 0, .int .i64 0, .int .i64 0])) := HR1.out.setOther (by show w.heap.size + 1 + 1 ≠ b5; exact HNE.out.symm) _
        have HBx : Hid (Below w.heap.size w (wr.setCell ⟨b5, 5, none⟩ (.int .i64 (-y)))) := HBw.out.setCell (by show w.heap.size ≤ b5; have := HB5.out; have := hs1.out; omega) _
        have f5 : wr.frozen? ⟨b5, 5, none⟩ = false := HRe.out.frozen 5
        have c5 : wr.cell? ⟨b5, 5, none⟩ = some (.int .i64 y) := HRe.out.cell (i := 5) (by omega)
        obtain ⟨wy, hwy⟩ : ∃ q, q = wr.setCell ⟨b5, 5, none⟩ (.int .i64 (-y)) := ⟨_, rfl⟩
        have HWYE := Lib.hid hwy
        rw [← hwy] at HRf HR2 HBx
        clear hwy
        go_upto_region 9 with fail
        rw [← HWYE.out]
        have HC5 : Hid (wy.heap[b5]? = some (.cells #[.int .i64 h, .slice av V.length cv, .int .i64 y, .int .i64 p, .int .i64 z, .int .i64 (-y)] 73 (0, 0))) := lf_cells (l := [.int .i64 h, .slice av V.length cv, .int .i64 y, .int .i64 p, .int .i64 z, .int .i64 (-y)]) HRf.out
        have HC4 : Hid (wy.heap[w.heap.size + 1 + 1]? = some (.cells #[.int .i64 0, .slice none 0 0, .int .i64 0, .int .i64 0, .int .i64 0, .int .i64 0] 73 (0, 0))) := lf_cells (l := [.int .i64 0, .slice none 0 0, .int .i64 0, .int .i64 0, .int .i64 0, .int .i64 0]) HR2.out
        refine wp_region_lit ?_
        refine wpList_load_row rfl 73 _ rfl b5 rfl 73 #[.int .i64 h, .slice av V.length cv, .int .i64 y, .int .i64 p, .int .i64 z, .int .i64 (-y)] (0, 0) _ HC5.out Try.underlying73 rfl (by kernel_rfl) ?_
        simp only [Act.put, List.setIfInBounds_toArray, List.set_cons_zero, List.set_cons_succ]
        refine wpList_store_row rfl 73 _ _ rfl (w.heap.size + 1 + 1) #[.int .i64 h, .slice av V.length cv, .int .i64 y, .int .i64 p, .int .i64 z, .int .i64 (-y)] rfl rfl 73 #[.int .i64 0, .slice none 0 0, .int .i64 0, .int .i64 0, .int .i64 0, .int .i64 0] HC4.out (by kernel_rfl) rfl (by simp [Value.oneCell']) ?_
        simp only [Act.put, List.setIfInBounds_toArray, List.set_cons_zero, List.set_cons_succ]
        go_wp2_with fail
        have ho := only_row8 (S := fun x => x = w.heap.size + 1 + 1) (Only.refl _ wy) rfl #[.int .i64 h, .slice av V.length cv, .int .i64 y, .int .i64 p, .int .i64 z, .int .i64 (-y)]
        refine bodyPost_ret (v := .agg #[.int .i64 h, .slice av V.length cv, .int .i64 y, .int .i64 p, .int .i64 z, .int .i64 (-y)]) (results_cell_row rfl _ _ (w.heap.size + 1 + 1) _ _ _ _ rfl (setRow_heap _ _ _ _ _ _ HC4.out) Try.underlying73 rfl (by kernel_rfl)) rfl ⟨⟨av, cv, ?_⟩, HBx.out.trans (ho.below (B := w.heap.size) HBx.out.size (fun x hx => by rw [hx]; omega))⟩
        rw [HWy.out, ← HZ.out, ← HP.out]
      · have hpd : decide (0 < p) = false := decide_eq_false hp0
        have HWy : Hid (wayV P h y = y) := by unfold wayV; rw [← HP.out, if_neg hp0]; exact rfl
        go_upto_region 9 with fail
        have HC5 : Hid (wr.heap[b5]? = some (.cells #[.int .i64 h, .slice av V.length cv, .int .i64 y, .int .i64 p, .int .i64 z, .int .i64 (y)] 73 (0, 0))) := lf_cells (l := [.int .i64 h, .slice av V.length cv, .int .i64 y, .int .i64 p, .int .i64 z, .int .i64 (y)]) HRe.out
        have HC4 : Hid (wr.heap[w.heap.size + 1 + 1]? = some (.cells #[.int .i64 0, .slice none 0 0, .int .i64 0, .int .i64 0, .int .i64 0, .int .i64 0] 73 (0, 0))) := lf_cells (l := [.int .i64 0, .slice none 0 0, .int .i64 0, .int .i64 0, .int .i64 0, .int .i64 0]) HR1.out
        refine wp_region_lit ?_
        refine wpList_load_row rfl 73 _ rfl b5 rfl 73 #[.int .i64 h, .slice av V.length cv, .int .i64 y, .int .i64 p, .int .i64 z, .int .i64 (y)] (0, 0) _ HC5.out Try.underlying73 rfl (by kernel_rfl) ?_
        simp only [Act.put, List.setIfInBounds_toArray, List.set_cons_zero, List.set_cons_succ]
        refine wpList_store_row rfl 73 _ _ rfl (w.heap.size + 1 + 1) #[.int .i64 h, .slice av V.length cv, .int .i64 y, .int .i64 p, .int .i64 z, .int .i64 (y)] rfl rfl 73 #[.int .i64 0, .slice none 0 0, .int .i64 0, .int .i64 0, .int .i64 0, .int .i64 0] HC4.out (by kernel_rfl) rfl (by simp [Value.oneCell']) ?_
        simp only [Act.put, List.setIfInBounds_toArray, List.set_cons_zero, List.set_cons_succ]
        go_wp2_with fail
        have ho := only_row8 (S := fun x => x = w.heap.size + 1 + 1) (Only.refl _ wr) rfl #[.int .i64 h, .slice av V.length cv, .int .i64 y, .int .i64 p, .int .i64 z, .int .i64 (y)]
        refine bodyPost_ret (v := .agg #[.int .i64 h, .slice av V.length cv, .int .i64 y, .int .i64 p, .int .i64 z, .int .i64 (y)]) (results_cell_row rfl _ _ (w.heap.size + 1 + 1) _ _ _ _ rfl (setRow_heap _ _ _ _ _ _ HC4.out) Try.underlying73 rfl (by kernel_rfl)) rfl ⟨⟨av, cv, ?_⟩, HBw.out.trans (ho.below (B := w.heap.size) HBw.out.size (fun x hx => by rw [hx]; omega))⟩
        rw [HWy.out, ← HZ.out, ← HP.out]
end
end Go.Proofs.Ytihaajcmephlmaa
