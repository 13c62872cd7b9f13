/-
  Contract: the model's Flipped.
-/
import Derived.Test.YtmobegiojhlakaaSpec4
import Derived.Test.YtmobegiojhlakaaParity
import Derived.Test.YtmobegiojhlakaaTurned
import Derived.Deep.RegionHeld3
import Derived.Test.YtmobegiojhlakaaInsideSpec
namespace Go.Proofs.Ytmobegiojhlakaa
section
open Go.RowKit

/-- Has the game a dual one? -/
noncomputable def flipB (O : List Int) (zss : List (List Int)) (P : List Int) : Bool := parityB O zss P && decide ((40 : Int) ∉ P)
/-- Every priority one more. -/
def moreP (P : List Int) : List Int := P.map fun x => x + 1
noncomputable def flipO (O : List Int) (zss : List (List Int)) (P : List Int) : List Int := if flipB O zss P = true then turnO O else []
noncomputable def flipN (O : List Int) (zss : List (List Int)) (P : List Int) : List (List Int) := if flipB O zss P = true then zss else []
noncomputable def flipP (O : List Int) (zss : List (List Int)) (P : List Int) : List Int := if flipB O zss P = true then moreP P else []

theorem moreP_take {P : List Int} {k : Nat} (h : k < P.length) : moreP (P.take (k + 1)) = moreP (P.take k) ++ [nth P k + 1] := by
  unfold moreP
  rw [List.take_add_one, List.getElem?_eq_getElem h, List.map_append, nth_eq h]
  rfl
theorem moreP_len (P : List Int) : (moreP P).length = P.length := by simp [moreP]

theorem flip_no {O fO P fP : List Int} {zss fN : List (List Int)} {r : Bool} (hr : flipO O zss P = fO ∧ flipN O zss P = fN ∧ flipP O zss P = fP ∧ flipB O zss P = r) (h : flipB O zss P = false) : fO = [] ∧ fN = [] ∧ fP = [] ∧ r = false := by
  obtain ⟨rfl, rfl, rfl, rfl⟩ := hr
  unfold flipO flipN flipP
  rw [h]; simp
theorem flip_yes {O fO P fP : List Int} {zss fN : List (List Int)} {r : Bool} (hr : flipO O zss P = fO ∧ flipN O zss P = fN ∧ flipP O zss P = fP ∧ flipB O zss P = r) (h : flipB O zss P = true) : fO = turnO O ∧ fN = zss ∧ fP = moreP P ∧ r = true := by
  obtain ⟨rfl, rfl, rfl, rfl⟩ := hr
  unfold flipO flipN flipP
  rw [h]; simp

theorem l4All_is {w : World} {v : Value} {O : List Int} {zss : List (List Int)} {P : List Int} (h : GameAt w v O zss P) (hl : P.length ≤ 256) :
    Calls Try.prog 76 #[v] w (GivesInts w (upL P.length)) := by
  obtain ⟨ao, an, ap, co, cn, cp, A, C, rfl, h1, h2, h3⟩ := h
  have hlP := h3.len
  obtain ⟨w1, hw1⟩ : ∃ y, y = w.alloc (.cells #[.slice ao O.length co, .slice an zss.length cn, .slice ap P.length cp] 32) := ⟨_, rfl⟩
  have HW1 := Lib.hid hw1
  have B1 : Hid (Below w.heap.size w w1) := by rw [hw1]; exact below1 _ _
  have HC := Lib.hid (specAllOf_is (w := w1) (n := (P.length : Int)) (allL_yes hl))
  clear hw1 h1 h2 h3
  go_enter Try.func76, Try.ntmps76
  go_wp2_with fail
  try rw [← HW1.out]
  refine HC.out.mono ?_
  rintro e w2 ⟨x, rfl, hx, hb⟩
  have B2 := Lib.hid (B1.out.trans (hb.mono B1.out.size))
  have X2 := Lib.hid (hx.base (B' := w.heap.size) B1.out.size)
  clear hx hb
  go_wp2
  go_ret
  exact ⟨_, rfl, X2.out, B2.out⟩

theorem Box3.new2 {w : World} {g : Nat} (hg : g = w.heap.size) (T : TypeId) (a b c : Value) : Box3 (w.alloc (.cells #[a, b, c] T)) g T a b c := by subst hg; exact Box3.new _ _ _ _ _

/-- The result's box takes a game: of what was made before it. -/
theorem game_stored {w wr : World} {t n D : Nat} {x y z a0 a1 a2 : Value} {O P : List Int} {zss : List (List Int)} (hR : Box3 wr t 32 x y z) (h : OwnGame wr n D (.agg #[a0, a1, a2]) O zss P) (hn : w.heap.size ≤ n) (ht : w.heap.size ≤ t) (htn : t < n) (hb : Below w.heap.size w wr) :
    OwnGame (((wr.setCell ⟨t, 0, none⟩ a0).setCell ⟨t, 1, none⟩ a1).setCell ⟨t, 2, none⟩ a2) w.heap.size (((wr.setCell ⟨t, 0, none⟩ a0).setCell ⟨t, 1, none⟩ a1).setCell ⟨t, 2, none⟩ a2).heap.size (.agg #[a0, a1, a2]) O zss P ∧
      Below w.heap.size w (((wr.setCell ⟨t, 0, none⟩ a0).setCell ⟨t, 1, none⟩ a1).setCell ⟨t, 2, none⟩ a2) ∧ Box3 (((wr.setCell ⟨t, 0, none⟩ a0).setCell ⟨t, 1, none⟩ a1).setCell ⟨t, 2, none⟩ a2) t 32 a0 a1 a2 := by
  have hS : Only (fun b => b = t) wr (((wr.setCell ⟨t, 0, none⟩ a0).setCell ⟨t, 1, none⟩ a1).setCell ⟨t, 2, none⟩ a2) :=
    (((Only.refl (fun b => b = t) wr).setCell (p := ⟨t, 0, none⟩) rfl _).setCell (p := ⟨t, 1, none⟩) rfl _).setCell (p := ⟨t, 2, none⟩) rfl _
  refine ⟨((h.only hS (fun g hg _ e => by omega)).base hn).retop, hb.trans (hS.below (B := w.heap.size) hb.size (fun b hb => by omega)), ?_⟩
  exact World.rowIs.congr (((World.rowIs.set hR 0 a0).set 1 a1).set 2 a2) fun i hi => by
    have h3 : i = 0 ∨ i = 1 ∨ i = 2 := by omega
    rcases h3 with rfl | rfl | rfl <;> simp [tri]

set_option maxHeartbeats 8000000 in
set_option maxRecDepth 100000 in
theorem specFlipped_is {w : World} {v : Value} {O fO P fP : List Int} {zss fN : List (List Int)} {r : Bool} (hr : flipO O zss P = fO ∧ flipN O zss P = fN ∧ flipP O zss P = fP ∧ flipB O zss P = r) (h : GameAt w v O zss P) :
    Calls Try.prog 50 #[v] w (GivesGameB w fO fN fP r) := by
  obtain ⟨j0, hj, hj0, hj1, hj2⟩ := info_parts info_int
  have HGm := Lib.hid h
  obtain ⟨ao, an, ap, co, cn, cp, A, C, rfl, h1, h2, h3⟩ := h
  obtain ⟨w1, hw1⟩ : ∃ y, y = (w.alloc (.cells #[.slice ao O.length co, .slice an zss.length cn, .slice ap P.length cp] 32)).alloc (.cells #[.slice none 0 0, .slice none 0 0, .slice none 0 0] 32) := ⟨_, rfl⟩
  have HW1 := Lib.hid hw1
  have B1 : Hid (Below w.heap.size w w1) := by rw [hw1]; exact below2 _ _ _
  have hs1 : w1.heap.size = w.heap.size + 1 + 1 := by rw [hw1]; simp
  have HS1 := Lib.hid hs1
  have T1 : Hid (Box3 w1 w.heap.size 32 (.slice ao O.length co) (.slice an zss.length cn) (.slice ap P.length cp)) := by rw [hw1]; exact (Box3.new w _ _ _ _).below (below1 _ _)
  have R1 : Hid (Box3 w1 (w.heap.size + 1) 32 (.slice none 0 0) (.slice none 0 0) (.slice none 0 0)) := by rw [hw1]; exact Box3.new2 (by simp) _ _ _ _
  have HAt : Hid (ArenaAt w (.agg #[.slice ao O.length co, .slice an zss.length cn]) O zss) := ⟨_, _, _, _, _, _, rfl, h1, h2⟩
  have HPi := Lib.hid h3
  clear hw1 h1 h2 h3 hs1
  have hd1 : Below w1.heap.size w1 w1.drew := (Below.refl _ _).drew
  have B1d := Lib.hid (B1.out.trans (hd1.mono B1.out.size))
  have T1d := Lib.hid (T1.out.below hd1)
  have R1d := Lib.hid (R1.out.below hd1)
  clear hd1
  cases hp : parityB O zss P with
  | false =>
    have HE := Lib.hid (flip_no hr (by unfold flipB; rw [hp]; rfl))
    have HC := Lib.hid (specParityOk_is hp (HGm.out.below B1d.out))
    clear hr hp
    have c0 := T1.out.c0
    have c1 := T1.out.c1
    have c2 := T1.out.c2
    go_enter Try.func50, Try.ntmps50
    go_wp2_with fail
    rw [← HW1.out]
    go_region_law (first
      | (go_simp; go_at_call 21; refine HC.out.mono ?_; rintro e w2 ⟨rfl, hb⟩; have B2 := Lib.hid (B1d.out.trans (hb.mono B1d.out.size)); have T2 := Lib.hid (T1d.out.below hb); have R2 := Lib.hid (R1d.out.below hb); have d0 := R2.out.c0; have d1 := R2.out.c1; have d2 := R2.out.c2; have g0 := World.rowIs.frozen R2.out 0; have g1 := World.rowIs.frozen R2.out 1; have g2 := World.rowIs.frozen R2.out 2; clear hb))
    all_goals go_wp2
    all_goals (exact bodyPost_ret (v := .tuple #[.agg #[.slice none 0 0, .slice none 0 0, .slice none 0 0], .bool false]) (by simp [results, Try.results50, go_sem, d0, d1, d2]) rfl ⟨_, by rw [HE.out.2.2.2], by rw [HE.out.1, HE.out.2.1, HE.out.2.2.1]; exact OwnGame.zero _ _ _, zero_stored3 B2.out (by omega)⟩)
  | true =>
    have hPy := parityB_iff.1 hp
    have hlP : P.length ≤ 256 := by have := hPy.1.2.1; have := hPy.2.1; omega
    have hz256 : zss.length ≤ 256 := by have := hPy.1.2.1; have := hPy.1.2.2.1; omega
    have htop := top_all (P := P) hPy.2.2
    have HPB := Lib.hid hPy.2.2
    have HAP := Lib.hid hPy.1
    have HLO := Lib.hid hPy.2.1
    obtain ⟨m, hm⟩ : ∃ m, m = topK P (upL P.length) P.length := ⟨_, rfl⟩
    rw [← hm] at htop
    have HC := Lib.hid (specParityOk_is hp (HGm.out.below B1d.out))
    have HM := Lib.hid hm
    have c0 := T1.out.c0
    have c1 := T1.out.c1
    have c2 := T1.out.c2
    have hlP2 : (upL P.length).length = P.length := upL_len _
    have HIN : Hid (∀ x ∈ upL P.length, ∃ u : Nat, x = (u : Int) ∧ u < P.length) := fun x hx => by
      obtain ⟨j, hj, e⟩ := mem_nth.1 hx
      rw [upL_len] at hj
      rw [upL_nth hj] at e
      exact ⟨j, e.symm, hj⟩
    have HLP2 := Lib.hid hlP2
    clear hlP2 hm hPy
    by_cases h40 : (40 : Int) ∈ P
    · have HE := Lib.hid (flip_no hr (by unfold flipB; rw [hp]; simp [h40]))
      have hm40 : (m == 40) = true := by rw [htop.2 h40]; rfl
      clear hr hp htop h40
      go_enter Try.func50, Try.ntmps50
      go_wp2_with fail
      rw [← HW1.out]
      go_region_held3 (fun w' => w'.cell? ⟨w.heap.size, 0, none⟩ = some (.slice ao O.length co) ∧ w'.cell? ⟨w.heap.size, 1, none⟩ = some (.slice an zss.length cn) ∧ w'.cell? ⟨w.heap.size, 2, none⟩ = some (.slice ap P.length cp))
        (first
          | go_keep
          | exact ⟨e0, e1, e2⟩
          | exact ⟨f0, f1, f2⟩
          | exact ⟨h0, h1, h2⟩)
        (first
          | (go_at_call 21; refine HC.out.mono ?_; rintro e w2 ⟨rfl, hb⟩; have B2 := Lib.hid (B1d.out.trans (hb.mono B1d.out.size)); have T2 := Lib.hid (T1d.out.below hb); have R2 := Lib.hid (R1d.out.below hb); have K2 : Hid (w1.heap.size ≤ w2.heap.size) := hb.size; have e0 := T2.out.c0; have e1 := T2.out.c1; have e2 := T2.out.c2; clear hb)
          | (go_at_call 76; refine (l4All_is (HGm.out.below B2.out) hlP).mono ?_; rintro e w3 ⟨x, rfl, hx, hb⟩; obtain ⟨xa, xc, hxs, hxi, _⟩ := hx.shape; subst hxs; have X3 := Lib.hid hxi; have B3 := Lib.hid (B2.out.trans (hb.mono B2.out.size)); have T3 := Lib.hid (T2.out.below hb); have R3 := Lib.hid (R2.out.below hb); have K3 : Hid (w1.heap.size ≤ w3.heap.size) := Nat.le_trans K2.out hb.size; have f0 := T3.out.c0; have f1 := T3.out.c1; have f2 := T3.out.c2; clear hx hxi hb)
          | (go_at_call 88; refine (l4Top_is xc (HGm.out.below B3.out) X3.out HIN.out).mono ?_; rintro e w4 ⟨rfl, hb⟩; rw [HLP2.out, ← HM.out]; have B4 := Lib.hid (B3.out.trans (hb.mono B3.out.size)); have T4 := Lib.hid (T3.out.below hb); have R4 := Lib.hid (R3.out.below hb); have K4 : Hid (w1.heap.size ≤ w4.heap.size) := Nat.le_trans K3.out hb.size; have h0 := T4.out.c0; have h1 := T4.out.c1; have h2 := T4.out.c2; clear hb))
      clear c0 c1 c2 e0 e1 e2 f0 f1 f2 h0 h1 h2
      have d0 := R4.out.c0
      have d1 := R4.out.c1
      have d2 := R4.out.c2
      have g0 := World.rowIs.frozen R4.out 0
      have g1 := World.rowIs.frozen R4.out 1
      have g2 := World.rowIs.frozen R4.out 2
      go_wp2
      exact bodyPost_ret (v := .tuple #[.agg #[.slice none 0 0, .slice none 0 0, .slice none 0 0], .bool false]) (by simp [results, Try.results50, go_sem, d0, d1, d2]) rfl
        ⟨_, by rw [HE.out.2.2.2], by rw [HE.out.1, HE.out.2.1, HE.out.2.2.1]; exact OwnGame.zero _ _ _, zero_stored3 B4.out (by omega)⟩
    · have HE := Lib.hid (flip_yes hr (by unfold flipB; rw [hp]; simp [h40]))
      have hm40 : (m == 40) = false := beq_eq_false_iff_ne.2 (fun e => h40 (htop.1 e))
      have H40 : Hid (∀ x ∈ P, 0 ≤ x ∧ x < 40) := fun x hx => by
        have h := HPB.out x hx
        have hne : x ≠ 40 := fun e => h40 (e ▸ hx)
        omega
      clear hr hp htop h40
      go_enter Try.func50, Try.ntmps50
      go_wp2_with fail
      rw [← HW1.out]
      go_region_held3 (fun w' => w'.cell? ⟨w.heap.size, 0, none⟩ = some (.slice ao O.length co) ∧ w'.cell? ⟨w.heap.size, 1, none⟩ = some (.slice an zss.length cn) ∧ w'.cell? ⟨w.heap.size, 2, none⟩ = some (.slice ap P.length cp))
        (first
          | go_keep
          | exact ⟨e0, e1, e2⟩
          | exact ⟨f0, f1, f2⟩
          | exact ⟨h0, h1, h2⟩)
        (first
          | (go_at_call 21; refine HC.out.mono ?_; rintro e w2 ⟨rfl, hb⟩; have B2 := Lib.hid (B1d.out.trans (hb.mono B1d.out.size)); have T2 := Lib.hid (T1d.out.below hb); have R2 := Lib.hid (R1d.out.below hb); have K2 : Hid (w1.heap.size ≤ w2.heap.size) := hb.size; have e0 := T2.out.c0; have e1 := T2.out.c1; have e2 := T2.out.c2; clear hb)
          | (go_at_call 76; refine (l4All_is (HGm.out.below B2.out) hlP).mono ?_; rintro e w3 ⟨x, rfl, hx, hb⟩; obtain ⟨xa, xc, hxs, hxi, _⟩ := hx.shape; subst hxs; have X3 := Lib.hid hxi; have B3 := Lib.hid (B2.out.trans (hb.mono B2.out.size)); have T3 := Lib.hid (T2.out.below hb); have R3 := Lib.hid (R2.out.below hb); have K3 : Hid (w1.heap.size ≤ w3.heap.size) := Nat.le_trans K2.out hb.size; have f0 := T3.out.c0; have f1 := T3.out.c1; have f2 := T3.out.c2; clear hx hxi hb)
          | (go_at_call 88; refine (l4Top_is xc (HGm.out.below B3.out) X3.out HIN.out).mono ?_; rintro e w4 ⟨rfl, hb⟩; rw [HLP2.out, ← HM.out]; have B4 := Lib.hid (B3.out.trans (hb.mono B3.out.size)); have T4 := Lib.hid (T3.out.below hb); have R4 := Lib.hid (R3.out.below hb); have K4 : Hid (w1.heap.size ≤ w4.heap.size) := Nat.le_trans K3.out hb.size; have h0 := T4.out.c0; have h1 := T4.out.c1; have h2 := T4.out.c2; clear hb))
      clear c0 c1 c2 e0 e1 e2 f0 f1 f2 h0 h1 h2
      have c0 := T4.out.c0
      have c1 := T4.out.c1
      have c2 := T4.out.c2
      go_wp2_with fail
      refine (specTurned_is ⟨by unfold turnedO; rw [if_pos HAP.out], by unfold turnedN; rw [if_pos HAP.out]⟩ (HAt.out.below B4.out) (by omega)).mono ?_
      rintro e w5 ⟨x, rfl, hx, hb⟩
      have hs4 := B4.out.size
      have hs14 : w1.heap.size ≤ w4.heap.size := K4.out
      obtain ⟨vo, vn, V, rfl, x1, x2, x3⟩ := hx
      obtain ⟨a1, e1, hvs, _, _⟩ := x1.shape
      rw [turnO_len] at hvs
      subst hvs
      obtain ⟨a2, e2, hvs, _, _⟩ := x2.shape
      subst hvs
      have X1 := Lib.hid x1
      have X2 := Lib.hid x2
      have X3 := Lib.hid x3
      have B5 := Lib.hid (B4.out.trans (hb.mono B4.out.size))
      have K5 := Lib.hid hb
      have T5 := Lib.hid (T4.out.below hb)
      have R5 := Lib.hid (R4.out.below hb)
      clear hb x1 x2 x3 c0 c1 c2
      have hn5 : w4.heap.size ≤ w5.heap.size := K5.out.size
      have HF : Hid (Half5 w4.heap.size (w5.alloc (.cells #[.slice a1 O.length e1, .slice a2 zss.length e2, .slice none 0 0] 32)) w5.heap.size (.slice a1 O.length e1) (.slice a2 zss.length e2) (.slice none 0 0) V (turnO O) zss (moreP (P.take 0))) :=
        ⟨hn5, tri3_new _ _ _ _ _, (X1.out.below (below1 _ _)).retop, (X2.out.below (below1 _ _)).retop, OwnInts.nil _ _ _, X3.out, fun _ _ _ _ hh => by simp [Value.ownBlock] at hh, fun _ _ hh => by simp [Value.ownBlock] at hh⟩
      have KF : Hid (Below w4.heap.size w4 (w5.alloc (.cells #[.slice a1 O.length e1, .slice a2 zss.length e2, .slice none 0 0] 32))) := K5.out.trans ((below1 _ _).mono hn5)
      clear X1 X2 X3 K5 B5 T5 R5
      go_wp2
      go_loopw [5] (fun v wr => ∃ (k : Nat) (vp : Value), k ≤ P.length ∧ v = .int .i64 k ∧ Hid (Half5 w4.heap.size wr w5.heap.size (.slice a1 O.length e1) (.slice a2 zss.length e2) vp V (turnO O) zss (moreP (P.take k))) ∧ Hid (Below w4.heap.size w4 wr)) (fun v _ => P.length - (intOf v).toNat)
      case atStart => exact ⟨0, _, Nat.zero_le _, rfl, HF, KF⟩
      case round =>
        clear HF KF
        obtain ⟨k, vp, hk, rfl, HF, KF⟩ := hrel
        have Tr := Lib.hid (T4.out.below KF.out)
        have t0 := Tr.out.c0
        have t1 := Tr.out.c1
        have t2 := Tr.out.c2
        have hmk : (moreP (P.take k)).length = k := by rw [moreP_len, List.length_take]; omega
        by_cases hlt : k < P.length
        · have hi1 : (k : Int) < P.length := by omega
          have hk0 : (0 : Int) ≤ (k : Int) := by omega
          obtain ⟨pb, po, hpa, hpc⟩ := (HPi.out.below (B4.out.trans (KF.out.mono B4.out.size))).cell (by omega)
          have p1 := hpc k hlt
          subst hpa
          obtain ⟨q, hq⟩ : ∃ q, q = nth P k := ⟨_, rfl⟩
          have hq1 := H40.out _ (nth_mem hlt)
          have HMT := Lib.hid (moreP_take hlt)
          rw [← hq] at p1 hq1 HMT
          obtain ⟨hq2, hq3⟩ := hq1
          have hw1q : IntKind.i64.wrap (q + 1) = q + 1 := IntWalk.i64_in _ (by omega)
          obtain ⟨a3, c3, hvs, _, _⟩ := HF.out.prio.shape
          rw [hmk] at hvs
          subst hvs
          have HOWN : Hid (wr.ownsRow w4.heap.size 2 1 (.slice a3 k c3) k ((moreP (P.take k)).map (Value.int .i64))) := by rw [← hmk]; have := HF.out.prio.own; rw [hmk] at this ⊢; exact this
          have HFd := Lib.hid (HF.out.keep (Below.refl _ wr).drew)
          have KFd := Lib.hid (KF.out.trans ((Below.refl wr.heap.size wr).drew.mono KF.out.size))
          have HOWNd := Lib.hid (show wr.drew.ownsRow w4.heap.size 2 1 (.slice a3 k c3) k ((moreP (P.take k)).map (Value.int .i64)) from HOWN.out)
          have s2 : wr.cell? ⟨w5.heap.size, 2, none⟩ = some (.slice a3 k c3) := HF.out.str.cell (i := 2) (by omega)
          have hsr : w4.heap.size ≤ wr.heap.size := KF.out.size
          have HFb := Lib.hid (HFd.out.keep (below1 wr.drew (.cells #[.int .i64 (q + 1)] 2)))
          have s3 : (wr.alloc (.cells #[.int .i64 (q + 1)] 2)).cell? ⟨w5.heap.size, 2, none⟩ = some (.slice a3 k c3) := by
            have h := (HF.out.keep (below1 wr (.cells #[.int .i64 (q + 1)] 2))).str.cell (i := 2) (by omega)
            exact h
          clear hpc hq
          go_wp2
          go_region_law (first
            | (refine step_append_lies _ (by rfl) _ _ _ (by rfl) w4.heap.size 2 j0 (.int .i64 0) 1 8 Try.underlying27 hj hj0 hj1 hj2 rfl (by decide) (.slice a3 k c3) k ((moreP (P.take k)).map (Value.int .i64)) (by rfl) (HOWNd.out.alloc _) ⟨wr.drew.heap.size, 0, none⟩ 1 1 [.int .i64 (q + 1)] (by rfl) (by rfl) (World.news_of_block (cs := #[.int .i64 (q + 1)]) (t := 2) (fr := (0, 0)) (heap_alloc_new wr.drew _)) (by simp [Value.oneCell']) (by omega) (by unfold maxLen; omega) (by omega) (by simp; omega) (wr.drew.heap.size + 1) (by simp) ?_; intro gg cap w8 hown8 hgrow hat hlt8; have hbx := game_grown HFb.out.str (HOWNd.out.alloc _) (by decide) hgrow; have q8 : w8.cell? ⟨w5.heap.size, 2, none⟩ = some (.slice a3 k c3) := hbx.cell (i := 2) (by omega); have p8 := hbx.frozen 2))
          all_goals (
            have hp9 := HFb.out.prior (cap := cap) (gg := gg) (x := q + 1) (by rw [hmk]; omega) (by unfold Fits; omega) (by rw [hmk]; exact hown8) (by exact hgrow) (hat.imp_right fun h => by have hdz : wr.drew.heap.size = wr.heap.size := rfl; simp; omega)
            rw [hmk, ← HMT.out] at hp9
            have H9 := Lib.hid hp9.1
            have K9 := Lib.hid ((KFd.out.trans ((below1 wr.drew (.cells #[.int .i64 (q + 1)] 2)).mono KFd.out.size)).trans (hp9.2.below (B := w4.heap.size) (by rw [World.size_alloc]; exact Nat.le_succ_of_le hsr) (fun b hb => hb)))
            clear hp9 hown8 hgrow hat hbx q8 p8 s2 s3
            go_wp2
            go_roundw
            case rel => exact ⟨k + 1, _, by omega, by go_num, H9, K9⟩
            case measure => simp [intOf]; omega)
        · have hi1 : ¬ (k : Int) < P.length := by omega
          have hkk : k = P.length := by omega
          rw [hkk, List.take_length] at HF
          obtain ⟨a3, c3, hvs, _, _⟩ := HF.out.prio.shape
          rw [moreP_len] at hvs
          subst hvs
          have Rr := Lib.hid (R4.out.below KF.out)
          have Br := Lib.hid (B4.out.trans (KF.out.mono B4.out.size))
          have s0 : wr.cell? ⟨w5.heap.size, 0, none⟩ = some (.slice a1 O.length e1) := HF.out.str.cell (i := 0) (by omega)
          have s1 : wr.cell? ⟨w5.heap.size, 1, none⟩ = some (.slice a2 zss.length e2) := HF.out.str.cell (i := 1) (by omega)
          have s2 : wr.cell? ⟨w5.heap.size, 2, none⟩ = some (.slice a3 P.length c3) := HF.out.str.cell (i := 2) (by omega)
          have r0 := Rr.out.c0
          have r1 := Rr.out.c1
          have r2 := Rr.out.c2
          have g0 := World.rowIs.frozen Rr.out 0
          have g1 := World.rowIs.frozen Rr.out 1
          have g2 := World.rowIs.frozen Rr.out 2
          have hst := game_stored (w := w) (wr := wr) (t := w.heap.size + 1) (n := w4.heap.size) Rr.out HF.out.game (by omega) (by omega) (by have := HS1.out; omega) Br.out
          have HST := Lib.hid hst
          have u0 := hst.2.2.c0
          have u1 := hst.2.2.c1
          have u2 := hst.2.2.c2
          clear hst
          go_wp2
          exact bodyPost_ret (v := .tuple #[.agg #[.slice a1 O.length e1, .slice a2 zss.length e2, .slice a3 P.length c3], .bool true]) (by simp [results, Try.results50, go_sem, u0, u1, u2]) rfl
            ⟨_, by rw [HE.out.2.2.2], by rw [HE.out.1, HE.out.2.1, HE.out.2.2.1]; exact HST.out.1, HST.out.2.1⟩
end

section
open Go.RowKit

/-- Has the game a part of its own on S? -/
noncomputable def subB (O : List Int) (zss : List (List Int)) (P S : List Int) : Bool := parityB O zss P && insideB O zss S
/-- The priorities of S. -/
def pickP (P S : List Int) : List Int := S.map fun x => nth P x.toNat
noncomputable def subO (O : List Int) (zss : List (List Int)) (P S : List Int) : List Int := if subB O zss P S = true then insideO O zss S else []
noncomputable def subN (O : List Int) (zss : List (List Int)) (P S : List Int) : List (List Int) := if subB O zss P S = true then insideN O zss S else []
noncomputable def subP (O : List Int) (zss : List (List Int)) (P S : List Int) : List Int := if subB O zss P S = true then pickP P S else []

theorem pickP_take {P S : List Int} {k : Nat} (h : k < S.length) : pickP P (S.take (k + 1)) = pickP P (S.take k) ++ [nth P (nth S k).toNat] := by
  unfold pickP
  rw [List.take_add_one, List.getElem?_eq_getElem h, List.map_append, nth_eq h]
  rfl
theorem pickP_len (P S : List Int) : (pickP P S).length = S.length := by simp [pickP]
theorem sub_no {O rO P rP S : List Int} {zss rN : List (List Int)} {r : Bool} (hr : subO O zss P S = rO ∧ subN O zss P S = rN ∧ subP O zss P S = rP ∧ subB O zss P S = r) (h : subB O zss P S = false) : rO = [] ∧ rN = [] ∧ rP = [] ∧ r = false := by
  obtain ⟨rfl, rfl, rfl, rfl⟩ := hr
  unfold subO subN subP
  rw [h]; simp
theorem sub_yes {O rO P rP S : List Int} {zss rN : List (List Int)} {r : Bool} (hr : subO O zss P S = rO ∧ subN O zss P S = rN ∧ subP O zss P S = rP ∧ subB O zss P S = r) (h : subB O zss P S = true) : rO = insideO O zss S ∧ rN = insideN O zss S ∧ rP = pickP P S ∧ r = true := by
  obtain ⟨rfl, rfl, rfl, rfl⟩ := hr
  unfold subO subN subP
  rw [h]; simp
theorem OwnArena.shape3 {w : World} {B D : Nat} {v : Value} {O : List Int} {zss : List (List Int)} (h : OwnArena w B D v O zss) : ∃ a0 c0 a1 c1 V, v = .agg #[.slice a0 O.length c0, .slice a1 zss.length c1] ∧ OwnInts w B D (.slice a0 O.length c0) O ∧ OwnRows w B D (.slice a1 zss.length c1) V zss ∧ ∀ k, k < zss.length → ∀ g, (V k).ownBlock = some g → (Value.slice a0 O.length c0).ownBlock ≠ some g := by
  obtain ⟨vo, vn, V, rfl, x1, x2, x3⟩ := h
  obtain ⟨a1, e1, hvs, _, _⟩ := x1.shape
  subst hvs
  obtain ⟨a2, e2, hvs, _, _⟩ := x2.shape
  subst hvs
  exact ⟨_, _, _, _, V, rfl, x1, x2, x3⟩

set_option maxHeartbeats 8000000 in
set_option maxRecDepth 100000 in
theorem specSubgameOf_is {w : World} {v : Value} {O rO P rP S : List Int} {zss rN : List (List Int)} {aS : Option Addr} {r : Bool} (cS : Nat) (hr : subO O zss P S = rO ∧ subN O zss P S = rN ∧ subP O zss P S = rP ∧ subB O zss P S = r) (h : GameAt w v O zss P) (hS : IntsAt w aS S) :
    Calls Try.prog 52 #[v, .slice aS S.length cS] w (GivesGameB w rO rN rP r) := by
  obtain ⟨j0, hj, hj0, hj1, hj2⟩ := info_parts info_int
  have HGm := Lib.hid h
  have HSi := Lib.hid hS
  have hlS := hS.len
  obtain ⟨ao, an, ap, co, cn, cp, A, C, rfl, h1, h2, h3⟩ := h
  obtain ⟨w1, hw1⟩ : ∃ y, y = (w.alloc (.cells #[.slice ao O.length co, .slice an zss.length cn, .slice ap P.length cp] 32)).alloc (.cells #[.slice none 0 0, .slice none 0 0, .slice none 0 0] 32) := ⟨_, rfl⟩
  have HW1 := Lib.hid hw1
  have B1 : Hid (Below w.heap.size w w1) := by rw [hw1]; exact below2 _ _ _
  have hs1 : w1.heap.size = w.heap.size + 1 + 1 := by rw [hw1]; simp
  have HS1 := Lib.hid hs1
  have T1 : Hid (Box3 w1 w.heap.size 32 (.slice ao O.length co) (.slice an zss.length cn) (.slice ap P.length cp)) := by rw [hw1]; exact (Box3.new w _ _ _ _).below (below1 _ _)
  have R1 : Hid (Box3 w1 (w.heap.size + 1) 32 (.slice none 0 0) (.slice none 0 0) (.slice none 0 0)) := by rw [hw1]; exact Box3.new2 (by simp) _ _ _ _
  have HAt : Hid (ArenaAt w (.agg #[.slice ao O.length co, .slice an zss.length cn]) O zss) := ⟨_, _, _, _, _, _, rfl, h1, h2⟩
  have HPi := Lib.hid h3
  clear hw1 h1 h2 h3 hs1 hS
  obtain ⟨iO, hiO⟩ : ∃ x, insideO O zss S = x := ⟨_, rfl⟩
  obtain ⟨iN, hiN⟩ : ∃ x, insideN O zss S = x := ⟨_, rfl⟩
  have HIO := Lib.hid hiO
  have HIN := Lib.hid hiN
  cases hi : insideB O zss S with
  | false =>
    have HE := Lib.hid (sub_no hr (by unfold subB; rw [hi]; simp))
    have HI := Lib.hid (specInsideOf_is cS ⟨hiO, hiN, hi⟩ (HAt.out.below B1.out) (HSi.out.below B1.out))
    clear hr hi hiO hiN
    go_enter Try.func52, Try.ntmps52
    go_wp2_with fail
    rw [← HW1.out]
    refine HI.out.mono ?_
    rintro e w2 ⟨x, rfl, hx, hb⟩
    obtain ⟨a1, e1, a2, e2, V, rfl, x1, x2, x3⟩ := hx.shape3
    have B2 := Lib.hid (B1.out.trans (hb.mono B1.out.size))
    have hb3 := hb.trans ((below1 w2 (.cells #[.slice a1 iO.length e1, .slice a2 iN.length e2] 30)).mono hb.size)
    have B3 := Lib.hid (B1.out.trans (hb3.mono B1.out.size))
    have R3 := Lib.hid (R1.out.below hb3)
    have d0 := R3.out.c0
    have d1 := R3.out.c1
    have d2 := R3.out.c2
    have g0 := World.rowIs.frozen R3.out 0
    have g1 := World.rowIs.frozen R3.out 1
    have g2 := World.rowIs.frozen R3.out 2
    clear hx hb x1 x2 x3 hb3
    go_wp2
    exact bodyPost_ret (v := .tuple #[.agg #[.slice none 0 0, .slice none 0 0, .slice none 0 0], .bool false]) (by simp [results, Try.results52, go_sem, d0, d1, d2]) rfl
      ⟨_, by rw [HE.out.2.2.2], by rw [HE.out.1, HE.out.2.1, HE.out.2.2.1]; exact OwnGame.zero _ _ _, zero_stored3 B3.out (by omega)⟩
  | true =>
    have HI := Lib.hid (specInsideOf_is cS ⟨hiO, hiN, hi⟩ (HAt.out.below B1.out) (HSi.out.below B1.out))
    cases hp : parityB O zss P with
    | false =>
      have HE := Lib.hid (sub_no hr (by unfold subB; rw [hp]; rfl))
      have HPb := Lib.hid hp
      clear hr hi hiO hiN hp
      go_enter Try.func52, Try.ntmps52
      go_wp2_with fail
      rw [← HW1.out]
      refine HI.out.mono ?_
      rintro e w2 ⟨x, rfl, hx, hb⟩
      obtain ⟨a1, e1, a2, e2, V, rfl, x1, x2, x3⟩ := hx.shape3
      obtain ⟨w3, hw3⟩ : ∃ y, y = w2.alloc (.cells #[.slice a1 iO.length e1, .slice a2 iN.length e2] 30) := ⟨_, rfl⟩
      have HW3 := Lib.hid hw3
      have hb3 : Below w1.heap.size w1 w3 := by rw [hw3]; exact hb.trans ((below1 w2 _).mono hb.size)
      have B3 := Lib.hid (B1.out.trans (hb3.mono B1.out.size))
      have R3 := Lib.hid (R1.out.below hb3)
      have T3 := Lib.hid (T1.out.below hb3)
      have c0 := T3.out.c0
      have c1 := T3.out.c1
      have c2 := T3.out.c2
      rw [hw3] at c0 c1 c2
      clear hx hb x1 x2 x3 hb3 hw3
      go_wp2_with fail
      rw [← HW3.out]
      refine (specParityOk_is HPb.out (HGm.out.below B3.out)).mono ?_
      rintro e w4 ⟨rfl, hb⟩
      have B4 := Lib.hid (B3.out.trans (hb.mono B3.out.size))
      have R4 := Lib.hid (R3.out.below hb)
      clear hb c0 c1 c2
      have d0 := R4.out.c0
      have d1 := R4.out.c1
      have d2 := R4.out.c2
      have g0 := World.rowIs.frozen R4.out 0
      have g1 := World.rowIs.frozen R4.out 1
      have g2 := World.rowIs.frozen R4.out 2
      go_wp2
      exact bodyPost_ret (v := .tuple #[.agg #[.slice none 0 0, .slice none 0 0, .slice none 0 0], .bool false]) (by simp [results, Try.results52, go_sem, d0, d1, d2]) rfl
        ⟨_, by rw [HE.out.2.2.2], by rw [HE.out.1, HE.out.2.1, HE.out.2.2.1]; exact OwnGame.zero _ _ _, zero_stored3 B4.out (by omega)⟩
    | true =>
      have hPy := parityB_iff.1 hp
      have hiP : InsideP O zss S := by simpa [insideB] using hi
      have hlP : P.length ≤ 256 := by have := hPy.1.2.1; have := hPy.2.1; omega
      have HSB : Hid (∀ x ∈ S, ∃ u : Nat, x = (u : Int) ∧ u < P.length) := fun x hx => by
        obtain ⟨i, hi', rfl⟩ := mem_nth.1 hx
        obtain ⟨h0, h1, _⟩ := setB_bounds hiP.2.1 hi'
        have := hPy.2.1
        exact ⟨(nth S i).toNat, by omega, by omega⟩
      have hlS2 : S.length ≤ 256 := by
        have h := setB_len (Int.natCast_nonneg _) hiP.2.1
        have := hPy.1.2.1
        omega
      have HE := Lib.hid (sub_yes hr (by unfold subB; rw [hp, hi]; rfl))
      have HPb := Lib.hid hp
      clear hr hi hiO hiN hp hPy hiP
      go_enter Try.func52, Try.ntmps52
      go_wp2_with fail
      rw [← HW1.out]
      refine HI.out.mono ?_
      rintro e w2 ⟨x, rfl, hx, hb⟩
      obtain ⟨a1, e1, a2, e2, V, rfl, x1, x2, x3⟩ := hx.shape3
      have X1 := Lib.hid x1
      have X2 := Lib.hid x2
      have X3 := Lib.hid x3
      have K2 := Lib.hid hb
      have hn2 : w1.heap.size ≤ w2.heap.size := hb.size
      obtain ⟨w3, hw3⟩ : ∃ y, y = w2.alloc (.cells #[.slice a1 iO.length e1, .slice a2 iN.length e2] 30) := ⟨_, rfl⟩
      have HW3 := Lib.hid hw3
      have hb23 : Below w2.heap.size w2 w3 := by rw [hw3]; exact below1 w2 _
      have hb3 : Below w1.heap.size w1 w3 := hb.trans (hb23.mono hb.size)
      have A3 : Hid (Box2 w3 w2.heap.size 30 (.slice a1 iO.length e1) (.slice a2 iN.length e2)) := by rw [hw3]; exact Box2.new _ _ _ _
      have K3 := Lib.hid hb3
      have L3 := Lib.hid hb23
      have B3 := Lib.hid (B1.out.trans (hb3.mono B1.out.size))
      have T3 := Lib.hid (T1.out.below hb3)
      have c0 := T3.out.c0
      have c1 := T3.out.c1
      have c2 := T3.out.c2
      rw [hw3] at c0 c1 c2
      clear hx hb x1 x2 x3 hb3 hw3 hb23
      go_wp2_with fail
      rw [← HW3.out]
      refine (specParityOk_is HPb.out (HGm.out.below B3.out)).mono ?_
      rintro e w4 ⟨rfl, hb⟩
      have K4 := Lib.hid (K3.out.trans (hb.mono K3.out.size))
      have L4 := Lib.hid (L3.out.trans (hb.mono L3.out.size))
      have A4 := Lib.hid (A3.out.below hb)
      have hn4 : w1.heap.size ≤ w4.heap.size := K4.out.size
      clear hb c0 c1 c2
      have q0 := A4.out.cell0
      have q1 := A4.out.cell1
      have HF : Hid (Half5 w1.heap.size (w4.alloc (.cells #[.slice a1 iO.length e1, .slice a2 iN.length e2, .slice none 0 0] 32)) w4.heap.size (.slice a1 iO.length e1) (.slice a2 iN.length e2) (.slice none 0 0) V iO iN (pickP P (S.take 0))) :=
        ⟨hn4, tri3_new _ _ _ _ _, ((X1.out.below L4.out).below (below1 _ _)).retop, ((X2.out.below L4.out).below (below1 _ _)).retop, OwnInts.nil _ _ _, X3.out, fun _ _ _ _ hh => by simp [Value.ownBlock] at hh, fun _ _ hh => by simp [Value.ownBlock] at hh⟩
      have KF : Hid (Below w1.heap.size w1 (w4.alloc (.cells #[.slice a1 iO.length e1, .slice a2 iN.length e2, .slice none 0 0] 32))) := K4.out.trans ((below1 _ _).mono hn4)
      clear X1 X2 X3 K2 K3 L3 B3 T3 A3 L4 K4
      go_wp2
      clear q0 q1 A4
      go_loopw [9] (fun v wr => ∃ (k : Nat) (vp : Value), k ≤ S.length ∧ v = .int .i64 k ∧ Hid (Half5 w1.heap.size wr w4.heap.size (.slice a1 iO.length e1) (.slice a2 iN.length e2) vp V iO iN (pickP P (S.take k))) ∧ Hid (Below w1.heap.size w1 wr)) (fun v _ => S.length - (intOf v).toNat)
      case atStart => exact ⟨0, _, Nat.zero_le _, rfl, HF, KF⟩
      case round =>
        clear HF KF
        obtain ⟨k, vp, hk, rfl, HF, KF⟩ := hrel
        have Tr := Lib.hid (T1.out.below KF.out)
        have t2 := Tr.out.c2
        have hmk : (pickP P (S.take k)).length = k := by rw [pickP_len, List.length_take]; omega
        by_cases hlt : k < S.length
        · have hi1 : (k : Int) < S.length := by omega
          have hk0 : (0 : Int) ≤ (k : Int) := by omega
          have Br := Lib.hid (B1.out.trans (KF.out.mono B1.out.size))
          obtain ⟨sb, so, hsa, hsc⟩ := (HSi.out.below Br.out).cell (by omega)
          have i1 := hsc k hlt
          obtain ⟨u, hu, hup⟩ := HSB.out _ (nth_mem hlt)
          obtain ⟨pb, po, hpa, hpc⟩ := (HPi.out.below Br.out).cell (by omega)
          have p1 := hpc u hup
          rw [hu] at i1
          have hu0 : (0 : Int) ≤ (u : Int) := by omega
          have hup1 : (u : Int) < P.length := by omega
          subst hsa
          subst hpa
          obtain ⟨q, hq⟩ : ∃ q, q = nth P u := ⟨_, rfl⟩
          have hmt := pickP_take (P := P) hlt
          rw [hu, Int.toNat_natCast, ← hq] at hmt
          have HMT := Lib.hid hmt
          have HFQ : Hid (Fits q) := by rw [hq]; exact HPi.out.fits u hup
          rw [← hq] at p1
          obtain ⟨a3, c3, hvs, _, _⟩ := HF.out.prio.shape
          rw [hmk] at hvs
          subst hvs
          have HOWN : Hid (wr.ownsRow w1.heap.size 2 1 (.slice a3 k c3) k ((pickP P (S.take k)).map (Value.int .i64))) := by have := HF.out.prio.own; rw [hmk] at this; exact this
          have HFd := Lib.hid (HF.out.keep (Below.refl _ wr).drew)
          have KFd := Lib.hid (KF.out.trans ((Below.refl wr.heap.size wr).drew.mono KF.out.size))
          have HOWNd := Lib.hid (show wr.drew.ownsRow w1.heap.size 2 1 (.slice a3 k c3) k ((pickP P (S.take k)).map (Value.int .i64)) from HOWN.out)
          have s2 : wr.cell? ⟨w4.heap.size, 2, none⟩ = some (.slice a3 k c3) := HF.out.str.cell (i := 2) (by omega)
          have hsr : w1.heap.size ≤ wr.heap.size := KF.out.size
          have HFb := Lib.hid (HFd.out.keep (below1 wr.drew (.cells #[.int .i64 q] 2)))
          have s3 : (wr.alloc (.cells #[.int .i64 q] 2)).cell? ⟨w4.heap.size, 2, none⟩ = some (.slice a3 k c3) := by
            have h := (HF.out.keep (below1 wr (.cells #[.int .i64 q] 2))).str.cell (i := 2) (by omega)
            exact h
          clear hpc hq hsc hmt hu
          go_wp2
          go_region_law (first
            | (refine step_append_lies _ (by rfl) _ _ _ (by rfl) w1.heap.size 2 j0 (.int .i64 0) 1 8 Try.underlying27 hj hj0 hj1 hj2 rfl (by decide) (.slice a3 k c3) k ((pickP P (S.take k)).map (Value.int .i64)) (by rfl) (HOWNd.out.alloc _) ⟨wr.drew.heap.size, 0, none⟩ 1 1 [.int .i64 q] (by rfl) (by rfl) (World.news_of_block (cs := #[.int .i64 q]) (t := 2) (fr := (0, 0)) (heap_alloc_new wr.drew _)) (by simp [Value.oneCell']) (by omega) (by unfold maxLen; omega) (by omega) (by simp; omega) (wr.drew.heap.size + 1) (by simp) ?_; intro gg cap w8 hown8 hgrow hat hlt8; have hbx := game_grown HFb.out.str (HOWNd.out.alloc _) (by decide) hgrow; have q8 : w8.cell? ⟨w4.heap.size, 2, none⟩ = some (.slice a3 k c3) := hbx.cell (i := 2) (by omega); have p8 := hbx.frozen 2))
          all_goals (
            have hp9 := HFb.out.prior (cap := cap) (gg := gg) (x := q) (by rw [hmk]; omega) HFQ.out (by rw [hmk]; exact hown8) (by exact hgrow) (hat.imp_right fun h => by have hdz : wr.drew.heap.size = wr.heap.size := rfl; simp; omega)
            rw [hmk, ← HMT.out] at hp9
            have H9 := Lib.hid hp9.1
            have K9 := Lib.hid ((KFd.out.trans ((below1 wr.drew (.cells #[.int .i64 q] 2)).mono KFd.out.size)).trans (hp9.2.below (B := w1.heap.size) (by rw [World.size_alloc]; exact Nat.le_succ_of_le hsr) (fun b hb => hb)))
            clear hp9 hown8 hgrow hat hbx q8 p8 s2 s3
            go_wp2
            go_roundw
            case rel => exact ⟨k + 1, _, by omega, by go_num, H9, K9⟩
            case measure => simp [intOf]; omega)
        · have hi1 : ¬ (k : Int) < S.length := by omega
          have hkk : k = S.length := by omega
          rw [hkk, List.take_length] at HF
          obtain ⟨a3, c3, hvs, _, _⟩ := HF.out.prio.shape
          rw [pickP_len] at hvs
          subst hvs
          have Rr := Lib.hid (R1.out.below KF.out)
          have Br := Lib.hid (B1.out.trans (KF.out.mono B1.out.size))
          have s0 : wr.cell? ⟨w4.heap.size, 0, none⟩ = some (.slice a1 iO.length e1) := HF.out.str.cell (i := 0) (by omega)
          have s1 : wr.cell? ⟨w4.heap.size, 1, none⟩ = some (.slice a2 iN.length e2) := HF.out.str.cell (i := 1) (by omega)
          have s2 : wr.cell? ⟨w4.heap.size, 2, none⟩ = some (.slice a3 S.length c3) := HF.out.str.cell (i := 2) (by omega)
          have r0 := Rr.out.c0
          have r1 := Rr.out.c1
          have r2 := Rr.out.c2
          have g0 := World.rowIs.frozen Rr.out 0
          have g1 := World.rowIs.frozen Rr.out 1
          have g2 := World.rowIs.frozen Rr.out 2
          have hst := game_stored (w := w) (wr := wr) (t := w.heap.size + 1) (n := w1.heap.size) Rr.out HF.out.game (by have := HS1.out; omega) (by omega) (by have := HS1.out; omega) Br.out
          have HST := Lib.hid hst
          have u0 := hst.2.2.c0
          have u1 := hst.2.2.c1
          have u2 := hst.2.2.c2
          clear hst
          go_wp2
          exact bodyPost_ret (v := .tuple #[.agg #[.slice a1 iO.length e1, .slice a2 iN.length e2, .slice a3 S.length c3], .bool true]) (by simp [results, Try.results52, go_sem, u0, u1, u2]) rfl
            ⟨_, by rw [HE.out.2.2.2], by rw [HE.out.1, HE.out.2.1, HE.out.2.2.1, HIO.out, HIN.out]; exact HST.out.1, HST.out.2.1⟩
end

end Go.Proofs.Ytmobegiojhlakaa
