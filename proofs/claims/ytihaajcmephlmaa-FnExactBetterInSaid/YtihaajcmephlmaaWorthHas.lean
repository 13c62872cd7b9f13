/-
  Contracts: the closure of WorthOk, slices.ContainsFunc over it, WorthOk.
-/
import Derived.Shelf.Abstract
import Derived.Test.YtihaajcmephlmaaPo08
import Derived.Test.YtihaajcmephlmaaHeavyImpl
import Derived.Test.YtihaajcmephlmaaKitWorth
namespace Go.Proofs.Ytihaajcmephlmaa
section
open Go.RowKit Go.Shelf

/-- What the closure reads: a game and a worth. -/
structure WorthR (W : World) (bg bw : Nat) (v : Value) (O P : List Int) (zss : List (List Int)) (i : Nat) (V : List Int) (z : Int) : Prop where
  game : GameAt W v O zss P
  box : ∃ ao an ap co cn cp, v = .agg #[.slice ao O.length co, .slice an zss.length cn, .slice ap P.length cp] ∧ Box3 W bg 32 (.slice ao O.length co) (.slice an zss.length cn) (.slice ap P.length cp)
  worth : ∃ a c, Box3 W bw 35 (.int .i64 i) (.slice a V.length c) (.int .i64 z)
theorem WorthR.below {W W' : World} {bg bw : Nat} {v : Value} {O P : List Int} {zss : List (List Int)} {i : Nat} {V : List Int} {z : Int} (h : WorthR W bg bw v O P zss i V z) (hb : Below W.heap.size W W') : WorthR W' bg bw v O P zss i V z := by
  refine ⟨h.game.below hb, ?_, ?_⟩
  · obtain ⟨a, b, c, d, e, f, hv, hx⟩ := h.box
    exact ⟨a, b, c, d, e, f, hv, hx.below hb⟩
  · obtain ⟨a, c, hx⟩ := h.worth
    exact ⟨a, c, hx.below hb⟩

set_option linter.unusedSimpArgs false in
set_option maxRecDepth 100000 in
set_option maxHeartbeats 8000000 in
theorem worth1_is {W : World} {bg bw : Nat} {v : Value} {O P V : List Int} {zss : List (List Int)} {i x : Nat} {z : Int} {b : Bool} (hb : heavyB P x i = b) (h : WorthR W bg bw v O P zss i V z) (hi : i < P.length) (hx : x < P.length) :
    Calls Try.prog 63 #[.int .i64 x, .pointer (some ⟨bg, 0, none⟩), .pointer (some ⟨bw, 0, none⟩)] W fun e w' => e = .returned (.bool (!b)) ∧ Below W.heap.size W w' := by
  obtain ⟨ao, an, ap, co, cn, cp, rfl, hB⟩ := h.box
  obtain ⟨av, cv, hW⟩ := h.worth
  have HC := Lib.hid (weigh_is hx hi rfl h.game)
  have HG := Lib.hid (weigh_pos (P := P) (x := x) (y := i))
  obtain ⟨q, hq⟩ : ∃ q, q = weighI P x i := ⟨_, rfl⟩
  rw [← hq] at HC HG
  have HB := Lib.hid hb
  have t0 := hB.c0
  have t1 := hB.c1
  have t2 := hB.c2
  have s0 := hW.c0
  clear hq h hB hW hb
  go_enter Try.func63, Try.ntmps63
  go_wp2_with fail
  refine HC.out.mono ?_
  rintro e w2 ⟨rfl, hb⟩
  have B2 := Lib.hid hb
  clear hb t0 t1 t2 s0
  have HE : Hid (decide (q ≤ 0) = !b) := by
    rw [← HB.out, Hid, Bool.eq_iff_iff, decide_eq_true_eq, Bool.not_eq_true', ← Bool.not_eq_true, ← HG.out]
    omega
  go_wp2
  go_ret
  exact ⟨ret_bool HE.out, B2.out⟩

set_option linter.unusedSimpArgs false in
set_option maxRecDepth 100000 in
set_option maxHeartbeats 8000000 in
theorem worthIndex_is {w : World} {bg bw : Nat} {v : Value} {O P V : List Int} {zss : List (List Int)} {i : Nat} {z : Int} {aX : Option Addr} (cX : Nat) (h : WorthR w bg bw v O P zss i V z) (hi : i < P.length) (hX : IntsAt w aX V) (hnat : ∀ j, j < V.length → 0 ≤ nth V j ∧ nth V j < P.length) :
    Calls Try.prog 95 #[.slice aX V.length cX, .func (.func 63) #[] #[.pointer (some ⟨bg, 0, none⟩), .pointer (some ⟨bw, 0, none⟩)]] w fun e w' => ∃ k : Int, e = .returned (.int .i64 k) ∧ (0 ≤ k ↔ overB P V i V.length = false) ∧ Below w.heap.size w w' := by
  have HP := Lib.hid h
  have HX := Lib.hid hX
  have hXl := hX.len
  have HN := Lib.hid hnat
  have eg : ∀ args w, (callFunc 63 args).run Try.prog w = .ok (.enter 63 args) w := enters_of Try.func63 (by kernel_rfl) rfl
  clear h hX hnat
  go_enter Try.func95, Try.ntmps95
  go_wp2
  go_loopw [8] (fun iv wr => ∃ k : Nat, k ≤ V.length ∧ iv = .int .i64 k ∧ Hid (∀ j, j < k → heavyB P (nth V j).toNat i = true) ∧ Hid (Below w.heap.size w wr)) (fun iv _ => V.length - (intOf iv).toNat)
  case atStart => exact ⟨0, Nat.zero_le _, rfl, fun j hj => absurd hj (Nat.not_lt_zero _), Below.refl _ _⟩
  case round =>
    obtain ⟨k, hk, rfl, HK, HB⟩ := hrel
    by_cases hlt : k < V.length
    · have hi1 : (k : Int) < V.length := by omega
      have hk0 : (0 : Int) ≤ k := by omega
      obtain ⟨b, off, ha, hc⟩ := (HX.out.below HB.out).cell (by omega)
      have q1 := hc k hlt
      have hn := HN.out k hlt
      obtain ⟨x, hx⟩ : ∃ x : Nat, nth V k = (x : Int) := ⟨(nth V k).toNat, by omega⟩
      have hxP : x < P.length := by omega
      have HXk : Hid ((nth V k).toNat = x) := by rw [hx]; exact Int.toNat_natCast _
      rw [hx] at q1
      subst ha
      clear hc hx hn
      obtain ⟨b, hb⟩ : ∃ b, heavyB P x i = b := ⟨_, rfl⟩
      have HC := Lib.hid (worth1_is hb (HP.out.below HB.out) hi hxP)
      have HBv := Lib.hid hb
      cases b with
      | false =>
        have HE : Hid (overB P V i V.length = false) := overB_bad hlt (by rw [HXk.out, Int.toNat_natCast]; exact HBv.out)
        clear hb
        go_wp2_with (go_at_fn 63; refine HC.out.mono ?_; rintro e w1 ⟨rfl, hb⟩; have B1 := Lib.hid (HB.out.trans (hb.mono HB.out.size)); clear hb)
        go_ret
        exact ⟨k, rfl, ⟨fun _ => HE.out, fun _ => by omega⟩, B1.out⟩
      | true =>
        have HK' : Hid (∀ j, j < k + 1 → heavyB P (nth V j).toNat i = true) := fun j hj => by
          by_cases e : j = k
          · subst e; rw [HXk.out]; exact HBv.out
          · exact HK.out j (by omega)
        clear hb
        go_wp2_with (go_at_fn 63; refine HC.out.mono ?_; rintro e w1 ⟨rfl, hb⟩; have B1 := Lib.hid (HB.out.trans (hb.mono HB.out.size)); clear hb)
        go_roundw
        case rel => exact ⟨k + 1, by omega, by go_num, HK', B1⟩
        case measure => simp [intOf]; omega
    · have hi1 : ¬ (k : Int) < V.length := by omega
      have HE : Hid (overB P V i V.length = true) := overB_iff.2 (fun j hj => by rw [Int.toNat_natCast]; exact HK.out j (by omega))
      go_wp2
      go_ret
      exact ⟨-1, rfl, ⟨fun h => by omega, fun h => by rw [HE.out] at h; exact Bool.noConfusion h⟩, HB.out⟩

set_option linter.unusedSimpArgs false in
set_option maxRecDepth 100000 in
set_option maxHeartbeats 8000000 in
theorem worthContains_is {w : World} {bg bw : Nat} {v : Value} {O P V : List Int} {zss : List (List Int)} {i : Nat} {z : Int} {aX : Option Addr} (cX : Nat) (h : WorthR w bg bw v O P zss i V z) (hi : i < P.length) (hX : IntsAt w aX V) (hnat : ∀ j, j < V.length → 0 ≤ nth V j ∧ nth V j < P.length) :
    Calls Try.prog 62 #[.slice aX V.length cX, .func (.func 63) #[] #[.pointer (some ⟨bg, 0, none⟩), .pointer (some ⟨bw, 0, none⟩)]] w fun e w' => e = .returned (.bool (!overB P V i V.length)) ∧ Below w.heap.size w w' := by
  have HC := Lib.hid (worthIndex_is cX h hi hX hnat)
  obtain ⟨b, hb⟩ : ∃ b, b = overB P V i V.length := ⟨_, rfl⟩
  rw [← hb] at HC ⊢
  clear h hX hnat hb
  go_enter Try.func62, Try.ntmps62
  go_wp2_with fail
  refine HC.out.mono ?_
  rintro e w2 ⟨k, rfl, hk, hb⟩
  have B2 := Lib.hid hb
  have HE : Hid (decide (0 ≤ k) = !b) := by
    rw [Hid, Bool.eq_iff_iff, decide_eq_true_eq, hk]
    cases b <;> simp
  clear hb hk
  go_wp2
  go_ret
  exact ⟨ret_bool HE.out, B2.out⟩

end
end Go.Proofs.Ytihaajcmephlmaa
