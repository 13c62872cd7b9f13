/-
  Contracts: the model's ParityOk.
-/
import Derived.Deep.RegionHeld3
import Derived.Lib.SlicesCompact
import Derived.Test.YtihaajcmephlmaaPo00
import Derived.Test.YtihaajcmephlmaaPo01
namespace Go.Proofs.Ytihaajcmephlmaa
section
section
open Go.RowKit

set_option maxHeartbeats 4000000 in
set_option maxRecDepth 100000 in
theorem specParityOk_is {w : World} {v : Value} {O : List Int} {zss : List (List Int)} {P : List Int} {r : Bool} (hr : parityB O zss P = r) (h : GameAt w v O zss P) :
    Calls Try.prog 75 #[v] w fun e w' => e = .returned (.bool r) ∧ Below w.heap.size w w' := by
  obtain ⟨ao, an, ap, co, cn, cp, A, C, rfl, h1, h2, h3⟩ := h
  have hlO := h1.len
  have hlP := h3.len
  have HP := Lib.hid h3
  have BW := Lib.hid (below1 w (.cells #[.slice ao O.length co, .slice an zss.length cn, .slice ap P.length cp] 32))
  have bW := Lib.hid (Box3.new w 32 (.slice ao O.length co) (.slice an zss.length cn) (.slice ap P.length cp))
  have HA : Hid (ArenaAt (w.alloc (.cells #[.slice ao O.length co, .slice an zss.length cn, .slice ap P.length cp] 32)) (.agg #[.slice ao O.length co, .slice an zss.length cn]) O zss) := ⟨_, _, _, _, _, _, rfl, h1.below BW.out, h2.below BW.out⟩
  clear h1 h2 h3
  cases hA : arenaB O zss with
  | false =>
    have HE : Hid (r = false) := by rw [← hr]; simp [parityB, hA, Hid]
    have HC := Lib.hid (specArenaOk_at hA HA.out)
    clear hA hr
    go_enter Try.func75, Try.ntmps75
    go_wp2_with fail
    refine HC.out.mono ?_
    rintro e w1 ⟨rfl, hb⟩
    have B1 := Lib.hid (BW.out.trans (hb.mono BW.out.size))
    clear hb
    go_wp2
    go_ret
    exact ⟨by rw [HE.out]; rfl, B1.out⟩
  | true =>
    have HC := Lib.hid (specArenaOk_at hA HA.out)
    by_cases hl : P.length = O.length
    · have HL := Lib.hid hl
      have HR : Hid (priosB P = r) := by rw [← hr]; simp [parityB, hA, hl, Hid]
      clear hA hr hl
      go_enter Try.func75, Try.ntmps75
      go_wp2_with fail
      refine HC.out.mono ?_
      rintro e w1 ⟨rfl, hb⟩
      have B1 := Lib.hid (BW.out.trans (hb.mono BW.out.size))
      have T1 := Lib.hid (bW.out.below hb)
      clear hb HC BW HA bW
      have t0 := T1.out.c0
      have t2 := T1.out.c2
      have hne : ((P.length : Int) != (O.length : Int)) = false := by have := HL.out; simp; omega
      have K1 := Lib.hid (Below.refl w1.heap.size w1)
      go_wp2
      go_loopw [3] (fun iv wr => ∃ k : Nat, k ≤ P.length ∧ iv = .int .i64 k ∧ Hid (∀ j, j < k → 0 ≤ nth P j ∧ nth P j ≤ 40) ∧ Hid (Below w1.heap.size w1 wr)) (fun iv _ => P.length - (intOf iv).toNat)
      case atStart => exact ⟨0, Nat.zero_le _, rfl, fun j hj => absurd hj (Nat.not_lt_zero _), K1⟩
      case round =>
        clear K1 t0 t2 hne
        obtain ⟨k, hk, rfl, HB, HK⟩ := hrel
        have t2 := (T1.out.below HK.out).c2
        by_cases hlt : k < P.length
        · have hi1 : (k : Int) < P.length := by omega
          have hk0 : (0 : Int) ≤ (k : Int) := by omega
          obtain ⟨b, off, ha, hc⟩ := (HP.out.below (B1.out.trans (HK.out.mono B1.out.size))).cell (by omega)
          have c := hc k hlt
          subst ha
          clear hc
          cases hx : inB (nth P k) 0 40 with
          | false =>
            have HE : Hid (r = false) := by
              rw [← HR.out]
              exact priosB_no hlt (by
                intro h
                rw [inB_yes h.1 h.2] at hx
                cases hx)
            have HI := Lib.hid (fun W => l1In_is hx W)
            clear hx
            go_wp2_with fail
            refine (HI.out _).mono ?_
            rintro e w2 ⟨rfl, rfl⟩
            go_wp2
            go_ret
            exact ⟨by rw [HE.out]; rfl, B1.out.trans (HK.out.mono B1.out.size)⟩
          | true =>
            have hx2 : 0 ≤ nth P k ∧ nth P k ≤ 40 := by
              unfold inB at hx
              exact of_decide_eq_true hx
            have HBn : Hid (∀ j, j < k + 1 → 0 ≤ nth P j ∧ nth P j ≤ 40) := fun j hj => by
              by_cases e : j = k
              · rw [e]; exact hx2
              · exact HB.out j (by omega)
            have HI := Lib.hid (fun W => l1In_is hx W)
            clear hx hx2
            go_wp2_with fail
            refine (HI.out _).mono ?_
            rintro e w2 ⟨rfl, rfl⟩
            go_wp2
            go_roundw
            case rel => exact ⟨k + 1, by omega, by go_num, HBn, HK⟩
            case measure => simp [intOf]; omega
        · have hi1 : ¬ (k : Int) < P.length := by omega
          have hkk : k = P.length := by omega
          rw [hkk] at HB
          have HE : Hid (r = true) := by rw [← HR.out]; exact priosB_yes HB.out
          have hfin := Lib.hid (B1.out.trans (HK.out.mono B1.out.size))
          clear hkk HB
          go_wp2
          go_ret
          exact ⟨by rw [HE.out]; rfl, hfin.out⟩
    · have HE : Hid (r = false) := by rw [← hr]; simp [parityB, hl, Hid]
      have hne : ((P.length : Int) != (O.length : Int)) = true := by simp; omega
      clear hA hr
      go_enter Try.func75, Try.ntmps75
      go_wp2_with fail
      refine HC.out.mono ?_
      rintro e w1 ⟨rfl, hb⟩
      have B1 := Lib.hid (BW.out.trans (hb.mono BW.out.size))
      have T1 := Lib.hid (bW.out.below hb)
      clear hb
      have t0 := T1.out.c0
      have t2 := T1.out.c2
      go_wp2
      go_ret
      exact ⟨by rw [HE.out]; rfl, B1.out⟩
end

section
open Go.RowKit

/-- The greatest priority of the first k of In. -/
def topK (P In : List Int) : Nat → Int
  | 0 => -1
  | k + 1 => if topK P In k < nth P (nth In k).toNat then nth P (nth In k).toNat else topK P In k

end

section
open Go.RowKit

/-- Is the game valid, and In a set of its vertices? -/
noncomputable def gameB (O : List Int) (zss : List (List Int)) (P In : List Int) : Bool := parityB O zss P && setB P.length In
theorem gameB_yes {O : List Int} {zss : List (List Int)} {P In : List Int} (h : gameB O zss P In = true) : ArenaP O zss ∧ P.length = O.length ∧ (∀ x ∈ P, 0 ≤ x ∧ x ≤ 40) ∧ setB P.length In = true ∧ ∀ x ∈ In, ∃ u : Nat, x = (u : Int) ∧ u < P.length := by
  unfold gameB at h
  rw [Bool.and_eq_true] at h
  obtain ⟨h1, h2, h3⟩ := parityB_iff.1 h.1
  refine ⟨h1, h2, h3, h.2, fun f hf => ?_⟩
  obtain ⟨i, hi, rfl⟩ := mem_nth.1 hf
  obtain ⟨h0, h1, _⟩ := setB_bounds h.2 hi
  exact ⟨(nth In i).toNat, by omega, by omega⟩

/-- The elements of In with the priority q. -/
def withL (P In : List Int) (q : Int) : List Int := In.filter fun x => decide (nth P x.toNat = q)
theorem with_step (f : Int → Bool) {S : List Int} {k : Nat} (h : k < S.length) : (S.take (k + 1)).filter f = (S.take k).filter f ++ (if f (nth S k) = true then [nth S k] else []) := by
  rw [List.take_add_one, List.getElem?_eq_getElem h, List.filter_append, nth_eq h]
  simp [List.filter_cons]

open Classical in
/-- What WithPrio gives. -/
noncomputable def withV (O : List Int) (zss : List (List Int)) (P In : List Int) (q : Int) : List Int := if gameB O zss P In = true then withL P In q else []

end

section
open Go.RowKit

open Classical in
/-- What TopIn gives. -/
noncomputable def topV (O : List Int) (zss : List (List Int)) (P In : List Int) : Int := if gameB O zss P In = true then topK P In In.length else -1

theorem topK_ge {P In : List Int} : ∀ {k j : Nat}, j < k → nth P (nth In j).toNat ≤ topK P In k
  | 0, _, h => absurd h (Nat.not_lt_zero _)
  | k + 1, j, h => by
    rw [topK]
    by_cases e : j = k
    · subst e; split <;> omega
    · have := topK_ge (P := P) (In := In) (k := k) (j := j) (by omega)
      split <;> omega
theorem topK_at {P In : List Int} : ∀ k, topK P In k = -1 ∨ ∃ j, j < k ∧ nth P (nth In j).toNat = topK P In k
  | 0 => .inl rfl
  | k + 1 => by
    rw [topK]
    split
    · exact .inr ⟨k, by omega, rfl⟩
    · rcases topK_at (P := P) (In := In) k with h | ⟨j, hj, h⟩
      · exact .inl h
      · exact .inr ⟨j, by omega, h⟩
/-- The greatest priority of all is 40 just when one is. -/
theorem top_all {P : List Int} (h : ∀ x ∈ P, 0 ≤ x ∧ x ≤ 40) : topK P (upL P.length) P.length = 40 ↔ (40 : Int) ∈ P := by
  constructor
  · intro e
    rcases topK_at (P := P) (In := upL P.length) P.length with h1 | ⟨j, hj, h1⟩
    · omega
    · rw [upL_nth hj, Int.toNat_natCast] at h1
      rw [← e, ← h1]; exact nth_mem hj
  · intro hm
    obtain ⟨j, hj, e⟩ := mem_nth.1 hm
    have h1 := topK_ge (P := P) (In := upL P.length) hj
    rw [upL_nth hj, Int.toNat_natCast, e] at h1
    rcases topK_at (P := P) (In := upL P.length) P.length with h2 | ⟨i, hi, h2⟩
    · omega
    · rw [upL_nth hi, Int.toNat_natCast] at h2
      have := (h _ (nth_mem hi)).2
      omega

end

section
open Go.RowKit

/-- The priorities of the first k of In, rising. -/
def priosK (P In : List Int) : Nat → List Int
  | 0 => []
  | k + 1 => intoL (priosK P In k) (nth P (nth In k).toNat)
theorem priosK_len (P In : List Int) : ∀ k, (priosK P In k).length ≤ k
  | 0 => by simp [priosK]
  | k + 1 => by
    have h1 := priosK_len P In k
    have h2 := intoL_len (priosK P In k) (nth P (nth In k).toNat)
    rw [priosK]; omega

open Classical in
/-- What PriosIn gives. -/
noncomputable def priosV (O : List Int) (zss : List (List Int)) (P In : List Int) : List Int := if gameB O zss P In = true then priosK P In In.length else []

end
end

section
open Go.RowKit

theorem hasB_idx {S : List Int} {x : Int} (h : hasB S x = false) : idx S x = -1 := by
  unfold idx
  rw [if_neg (fun hm => by rw [hasB_iff.2 hm] at h; cases h)]

end

section
section
open Go.RowKit

/-- Has the game a dual one? -/
noncomputable def flipB (O : List Int) (zss : List (List Int)) (P : List Int) : Bool := parityB O zss P && decide ((40 : Int) ∉ P)
/-- Every priority one more. -/
def moreP (P : List Int) : List Int := P.map fun x => x + 1
noncomputable def flipO (O : List Int) (zss : List (List Int)) (P : List Int) : List Int := if flipB O zss P = true then turnO O else []
noncomputable def flipN (O : List Int) (zss : List (List Int)) (P : List Int) : List (List Int) := if flipB O zss P = true then zss else []
noncomputable def flipP (O : List Int) (zss : List (List Int)) (P : List Int) : List Int := if flipB O zss P = true then moreP P else []

theorem moreP_take {P : List Int} {k : Nat} (h : k < P.length) : moreP (P.take (k + 1)) = moreP (P.take k) ++ [nth P k + 1] := by
  unfold moreP
  rw [List.take_add_one, List.getElem?_eq_getElem h, List.map_append, nth_eq h]
  rfl
theorem moreP_len (P : List Int) : (moreP P).length = P.length := by simp [moreP]

theorem flip_no {O fO P fP : List Int} {zss fN : List (List Int)} {r : Bool} (hr : flipO O zss P = fO ∧ flipN O zss P = fN ∧ flipP O zss P = fP ∧ flipB O zss P = r) (h : flipB O zss P = false) : fO = [] ∧ fN = [] ∧ fP = [] ∧ r = false := by
  obtain ⟨rfl, rfl, rfl, rfl⟩ := hr
  unfold flipO flipN flipP
  rw [h]; simp
theorem flip_yes {O fO P fP : List Int} {zss fN : List (List Int)} {r : Bool} (hr : flipO O zss P = fO ∧ flipN O zss P = fN ∧ flipP O zss P = fP ∧ flipB O zss P = r) (h : flipB O zss P = true) : fO = turnO O ∧ fN = zss ∧ fP = moreP P ∧ r = true := by
  obtain ⟨rfl, rfl, rfl, rfl⟩ := hr
  unfold flipO flipN flipP
  rw [h]; simp

theorem Box3.new2 {w : World} {g : Nat} (hg : g = w.heap.size) (T : TypeId) (a b c : Value) : Box3 (w.alloc (.cells #[a, b, c] T)) g T a b c := by subst hg; exact Box3.new _ _ _ _ _

/-- The result's box takes a game: of what was made before it. -/
theorem game_stored {w wr : World} {t n D : Nat} {x y z a0 a1 a2 : Value} {O P : List Int} {zss : List (List Int)} (hR : Box3 wr t 32 x y z) (h : OwnGame wr n D (.agg #[a0, a1, a2]) O zss P) (hn : w.heap.size ≤ n) (ht : w.heap.size ≤ t) (htn : t < n) (hb : Below w.heap.size w wr) :
    OwnGame (((wr.setCell ⟨t, 0, none⟩ a0).setCell ⟨t, 1, none⟩ a1).setCell ⟨t, 2, none⟩ a2) w.heap.size (((wr.setCell ⟨t, 0, none⟩ a0).setCell ⟨t, 1, none⟩ a1).setCell ⟨t, 2, none⟩ a2).heap.size (.agg #[a0, a1, a2]) O zss P ∧
      Below w.heap.size w (((wr.setCell ⟨t, 0, none⟩ a0).setCell ⟨t, 1, none⟩ a1).setCell ⟨t, 2, none⟩ a2) ∧ Box3 (((wr.setCell ⟨t, 0, none⟩ a0).setCell ⟨t, 1, none⟩ a1).setCell ⟨t, 2, none⟩ a2) t 32 a0 a1 a2 := by
  have hS : Only (fun b => b = t) wr (((wr.setCell ⟨t, 0, none⟩ a0).setCell ⟨t, 1, none⟩ a1).setCell ⟨t, 2, none⟩ a2) :=
    (((Only.refl (fun b => b = t) wr).setCell (p := ⟨t, 0, none⟩) rfl _).setCell (p := ⟨t, 1, none⟩) rfl _).setCell (p := ⟨t, 2, none⟩) rfl _
  refine ⟨((h.only hS (fun g hg _ e => by omega)).base hn).retop, hb.trans (hS.below (B := w.heap.size) hb.size (fun b hb => by omega)), ?_⟩
  exact World.rowIs.congr (((World.rowIs.set hR 0 a0).set 1 a1).set 2 a2) fun i hi => by
    have h3 : i = 0 ∨ i = 1 ∨ i = 2 := by omega
    rcases h3 with rfl | rfl | rfl <;> simp [tri]

end

section
open Go.RowKit

/-- Has the game a part of its own on S? -/
noncomputable def subB (O : List Int) (zss : List (List Int)) (P S : List Int) : Bool := parityB O zss P && insideB O zss S
/-- The priorities of S. -/
def pickP (P S : List Int) : List Int := S.map fun x => nth P x.toNat
noncomputable def subO (O : List Int) (zss : List (List Int)) (P S : List Int) : List Int := if subB O zss P S = true then insideO O zss S else []
noncomputable def subN (O : List Int) (zss : List (List Int)) (P S : List Int) : List (List Int) := if subB O zss P S = true then insideN O zss S else []
noncomputable def subP (O : List Int) (zss : List (List Int)) (P S : List Int) : List Int := if subB O zss P S = true then pickP P S else []

theorem pickP_take {P S : List Int} {k : Nat} (h : k < S.length) : pickP P (S.take (k + 1)) = pickP P (S.take k) ++ [nth P (nth S k).toNat] := by
  unfold pickP
  rw [List.take_add_one, List.getElem?_eq_getElem h, List.map_append, nth_eq h]
  rfl
theorem pickP_len (P S : List Int) : (pickP P S).length = S.length := by simp [pickP]
theorem sub_no {O rO P rP S : List Int} {zss rN : List (List Int)} {r : Bool} (hr : subO O zss P S = rO ∧ subN O zss P S = rN ∧ subP O zss P S = rP ∧ subB O zss P S = r) (h : subB O zss P S = false) : rO = [] ∧ rN = [] ∧ rP = [] ∧ r = false := by
  obtain ⟨rfl, rfl, rfl, rfl⟩ := hr
  unfold subO subN subP
  rw [h]; simp
theorem sub_yes {O rO P rP S : List Int} {zss rN : List (List Int)} {r : Bool} (hr : subO O zss P S = rO ∧ subN O zss P S = rN ∧ subP O zss P S = rP ∧ subB O zss P S = r) (h : subB O zss P S = true) : rO = insideO O zss S ∧ rN = insideN O zss S ∧ rP = pickP P S ∧ r = true := by
  obtain ⟨rfl, rfl, rfl, rfl⟩ := hr
  unfold subO subN subP
  rw [h]; simp
theorem OwnArena.shape3 {w : World} {B D : Nat} {v : Value} {O : List Int} {zss : List (List Int)} (h : OwnArena w B D v O zss) : ∃ a0 c0 a1 c1 V, v = .agg #[.slice a0 O.length c0, .slice a1 zss.length c1] ∧ OwnInts w B D (.slice a0 O.length c0) O ∧ OwnRows w B D (.slice a1 zss.length c1) V zss ∧ ∀ k, k < zss.length → ∀ g, (V k).ownBlock = some g → (Value.slice a0 O.length c0).ownBlock ≠ some g := by
  obtain ⟨vo, vn, V, rfl, x1, x2, x3⟩ := h
  obtain ⟨a1, e1, hvs, _, _⟩ := x1.shape
  subst hvs
  obtain ⟨a2, e2, hvs, _, _⟩ := x2.shape
  subst hvs
  exact ⟨_, _, _, _, V, rfl, x1, x2, x3⟩

end
end

section
section
open Go.RowKit

theorem intoL_nil (x : Int) : intoL [] x = [x] := by simp [intoL, lowK]
theorem intoL_lt {z x : Int} {r : List Int} (h : z < x) : intoL (z :: r) x = z :: intoL r x := by
  have hk : lowK (z :: r) x = lowK r x + 1 := by simp [lowK, h]
  unfold intoL
  rw [hk]
  have hn : nth (z :: r) (lowK r x + 1) = nth r (lowK r x) := by simp [nth]
  rw [hn]
  by_cases hc : lowK r x < r.length ∧ nth r (lowK r x) = x
  · rw [if_pos hc, if_pos ⟨by simp; exact hc.1, hc.2⟩]
  · rw [if_neg hc, if_neg (fun h2 => hc ⟨by simpa using h2.1, h2.2⟩)]
    simp
theorem intoL_ge {z x : Int} {r : List Int} (h : ¬ z < x) : intoL (z :: r) x = if z = x then z :: r else x :: z :: r := by
  have hk : lowK (z :: r) x = 0 := by simp [lowK, h]
  unfold intoL
  rw [hk]
  by_cases e : z = x
  · simp [e, nth]
  · rw [if_neg (fun h2 => e (by simpa [nth] using h2.2)), if_neg e]; simp

theorem intoL_rising : ∀ (zs : List Int) (x : Int), zs.Pairwise (· < ·) → (intoL zs x).Pairwise (· < ·)
  | [], x, _ => by rw [intoL_nil]; simp
  | z :: r, x, h => by
    obtain ⟨h1, h2⟩ := List.pairwise_cons.1 h
    by_cases hl : z < x
    · rw [intoL_lt hl]
      refine List.pairwise_cons.2 ⟨fun y hy => ?_, intoL_rising r x h2⟩
      rcases intoL_mem.1 hy with hy | rfl
      · exact h1 y hy
      · exact hl
    · rw [intoL_ge hl]
      split
      · exact h
      · refine List.pairwise_cons.2 ⟨fun y hy => ?_, h⟩
        rcases List.mem_cons.1 hy with rfl | hy
        · omega
        · have := h1 y hy; omega

/-- S with the first k elements of T. -/
def unionK (S T : List Int) (k : Nat) : List Int := (T.take k).foldl intoL S
def unionL (S T : List Int) : List Int := unionK S T T.length

theorem unionK_succ {S T : List Int} {k : Nat} (h : k < T.length) : unionK S T (k + 1) = intoL (unionK S T k) (nth T k) := by
  unfold unionK
  rw [List.take_add_one, List.getElem?_eq_getElem h, List.foldl_append, nth_eq h]
  rfl
theorem unionK_len (S T : List Int) : ∀ k, k ≤ T.length → (unionK S T k).length ≤ S.length + k
  | 0, _ => by simp [unionK]
  | k + 1, h => by
    rw [unionK_succ (by omega)]
    have h1 := intoL_len (unionK S T k) (nth T k)
    have h2 := unionK_len S T k (by omega)
    omega
theorem unionK_rising {S T : List Int} (hS : S.Pairwise (· < ·)) : ∀ k, k ≤ T.length → (unionK S T k).Pairwise (· < ·)
  | 0, _ => by simpa [unionK] using hS
  | k + 1, h => by rw [unionK_succ (by omega)]; exact intoL_rising _ _ (unionK_rising hS k (by omega))
theorem unionK_mem {S T : List Int} {x : Int} : ∀ k, k ≤ T.length → (x ∈ unionK S T k ↔ x ∈ S ∨ x ∈ T.take k)
  | 0, _ => by simp [unionK]
  | k + 1, h => by
    rw [unionK_succ (by omega), intoL_mem, unionK_mem k (by omega), List.take_add_one, List.getElem?_eq_getElem (by omega), nth_eq (by omega)]
    simp only [List.mem_append, Option.toList, List.mem_singleton]
    exact or_assoc
theorem unionL_mem {S T : List Int} {x : Int} : x ∈ unionL S T ↔ x ∈ S ∨ x ∈ T := by
  unfold unionL; rw [unionK_mem _ (Nat.le_refl _), List.take_length]

theorem rises_pairwise {zs : List Int} : Rises zs ↔ zs.Pairwise (· < ·) := by
  rw [List.pairwise_iff_getElem]
  constructor
  · intro h i j hi hj hij
    have := h i j hij hj
    rwa [nth_eq hi, nth_eq hj] at this
  · intro h j k hjk hk
    have := h j k (by omega) hk hjk
    rwa [nth_eq (by omega), nth_eq hk]

/-- Two rising lists with the same elements are one. -/
theorem rising_ext {zs ys : List Int} (hz : zs.Pairwise (· < ·)) (hy : ys.Pairwise (· < ·)) (h : ∀ x, x ∈ zs ↔ x ∈ ys) : zs = ys := by
  have nz : zs.Nodup := hz.imp fun hab => by omega
  have ny : ys.Nodup := hy.imp fun hab => by omega
  exact ((List.perm_ext_iff_of_nodup nz ny).2 h).eq_of_pairwise (le := fun x y => x < y) (fun a b _ _ h1 h2 => by omega) hz hy

theorem arr_nth (zs : List Int) (m : Nat) : zs.toArray[m]! = nth zs m := by
  by_cases h : m < zs.length
  · rw [getElem!_pos _ _ (by simpa using h), nth_eq h]; simp
  · simp [nth, h]

/-- Of a sorted list each element once. -/
def compL (zs : List Int) : List Int := Go.Lib.compactUpTo zs.toArray zs.length

theorem comp_spec {zs : List Int} (hs : ∀ i j, i ≤ j → j < zs.length → nth zs i ≤ nth zs j) : ∀ m, m ≤ zs.length →
    (Go.Lib.compactUpTo zs.toArray m).Pairwise (· < ·) ∧ ∀ x, x ∈ Go.Lib.compactUpTo zs.toArray m ↔ ∃ j, j < m ∧ nth zs j = x
  | 0, _ => ⟨by simp [Go.Lib.compactUpTo], by simp [Go.Lib.compactUpTo]⟩
  | m + 1, h => by
    obtain ⟨ih1, ih2⟩ := comp_spec hs m (by omega)
    rw [Go.Lib.compactUpTo_succ]
    by_cases hk : m = 0 ∨ nth zs m ≠ nth zs (m - 1)
    · have hkp : Go.Lib.keeps zs.toArray m = true := by unfold Go.Lib.keeps; rw [arr_nth, arr_nth]; simpa using hk
      rw [if_pos hkp, arr_nth]
      refine ⟨List.pairwise_append.2 ⟨ih1, by simp, fun a ha b hb => ?_⟩, fun x => ?_⟩
      · simp at hb; subst hb
        obtain ⟨j, hj, rfl⟩ := (ih2 a).1 ha
        have h1 := hs j (m - 1) (by omega) (by omega)
        have h2 := hs (m - 1) m (by omega) (by omega)
        rcases hk with hk | hk
        · omega
        · omega
      · rw [List.mem_append, ih2]
        constructor
        · rintro (⟨j, hj, e⟩ | hx)
          · exact ⟨j, by omega, e⟩
          · simp at hx; exact ⟨m, by omega, hx.symm⟩
        · rintro ⟨j, hj, e⟩
          by_cases hjm : j = m
          · subst hjm; exact .inr (by simp [e])
          · exact .inl ⟨j, by omega, e⟩
    · have hm0 : m ≠ 0 := fun e => hk (.inl e)
      have hme : nth zs m = nth zs (m - 1) := by
        rcases Int.lt_trichotomy (nth zs m) (nth zs (m - 1)) with h | h | h
        · exact absurd (.inr (by omega)) hk
        · exact h
        · exact absurd (.inr (by omega)) hk
      have hkn : Go.Lib.keeps zs.toArray m = false := by unfold Go.Lib.keeps; rw [arr_nth, arr_nth]; simp [hm0, hme]
      rw [hkn]
      refine ⟨by simpa using ih1, fun x => ?_⟩
      simp only [Bool.false_eq_true, if_false, List.append_nil]
      rw [ih2]
      constructor
      · rintro ⟨j, hj, e⟩; exact ⟨j, by omega, e⟩
      · rintro ⟨j, hj, e⟩
        by_cases hjm : j = m
        · subst hjm; exact ⟨j - 1, by omega, by rw [← hme]; exact e⟩
        · exact ⟨j, by omega, e⟩

theorem comp_sorted_union {S T : List Int} (hS : Rises S) : compL ((S ++ T).mergeSort fun x y => decide (x ≤ y)) = unionL S T := by
  obtain ⟨m, hm⟩ : ∃ m, (S ++ T).mergeSort (fun x y => decide (x ≤ y)) = m := ⟨_, rfl⟩
  rw [hm]
  have hp := List.pairwise_mergeSort (le := fun x y : Int => decide (x ≤ y)) (fun a b c h1 h2 => by simp at *; omega) (fun a b => by simp; omega) (S ++ T)
  rw [hm] at hp
  have hs : ∀ i j, i ≤ j → j < m.length → nth m i ≤ nth m j := fun i j hij hj => by
    by_cases e : i = j
    · subst e; omega
    · have := List.pairwise_iff_getElem.1 hp i j (by omega) hj (by omega)
      rw [nth_eq (by omega), nth_eq hj]; simpa using this
  obtain ⟨h1, h2⟩ := comp_spec hs m.length (Nat.le_refl _)
  refine rising_ext h1 (unionK_rising (rises_pairwise.1 hS) _ (Nat.le_refl _)) fun x => ?_
  unfold compL
  rw [h2 x, ← mem_nth, ← hm, List.mem_mergeSort, List.mem_append]
  exact unionL_mem.symm

/-- What BothOf says. -/
def bothL (S T : List Int) : List Int := if bothOk S T then unionL S T else []

theorem comp_len (zs : List Int) : (compL zs).length ≤ zs.length := by
  unfold compL Go.Lib.compactUpTo
  rw [List.length_map]
  have := List.length_filter_le (Go.Lib.keeps zs.toArray) (List.range zs.length)
  simpa using this

/-- The first k rows, one behind the other. -/
def catK (zss : List (List Int)) : Nat → List Int
  | 0 => []
  | k + 1 => catK zss k ++ row zss k
theorem catK_len (zss : List (List Int)) (k : Nat) : (catK zss k).length = sumLen zss k := by
  induction k with
  | zero => rfl
  | succ k ih => simp [catK, sumLen, ih]
end

section
open Go.RowKit

theorem unionL_len (S T : List Int) : (unionL S T).length ≤ S.length + T.length := unionK_len S T _ (Nat.le_refl _)
theorem unionL_fits {S T : List Int} (hS : ∀ k, k < S.length → Fits (nth S k)) (hT : ∀ k, k < T.length → Fits (nth T k)) : ∀ k, k < (unionL S T).length → Fits (nth (unionL S T) k) := fun k hk => by
  rcases unionL_mem.1 (nth_mem hk) with hm | hm
  · obtain ⟨j, hj, e⟩ := mem_nth.1 hm
    rw [← e]; exact hS j hj
  · obtain ⟨j, hj, e⟩ := mem_nth.1 hm
    rw [← e]; exact hT j hj

set_option maxHeartbeats 1000000 in
theorem specBothOf_is {w : World} {a a' : Option Addr} {S T r : List Int} (hr : bothL S T = r) (cs ct : Nat) (hS : IntsAt w a S) (hT : IntsAt w a' T) :
    Calls Try.prog 37 #[.slice a S.length cs, .slice a' T.length ct] w (GivesInts w r) := by
  have HS := Lib.hid hS
  have HT := Lib.hid hT
  have HC := Lib.hid (fun b (hb : bothOk S T = b) => l2Both_is hb cs ct hS hT)
  clear hS hT
  cases hb : bothOk S T with
  | false =>
    have HC' := Lib.hid (HC.out _ hb)
    have HR : Hid (r = []) := by rw [← hr]; unfold bothL; rw [hb]; rfl
    clear hr hb HC
    go_enter Try.func37, Try.ntmps37
    go_wp2_with (go_at_call 67; refine HC'.out.mono ?_; rintro e w' ⟨rfl, q, rfl⟩)
    go_ret
    refine ⟨_, rfl, ?_, (below_drewN (Below.refl w.heap.size w) q).alloc (Nat.le_refl _) _⟩
    rw [HR.out]
    exact OwnInts.mk' (World.ownsRow_made (w.drewN q) #[] 0 (Nat.le_refl _) (by unfold maxLen; omega) rfl) (by simp) (fun k hk => absurd hk (by simp))
  | true =>
    have HC' := Lib.hid (HC.out _ hb)
    have HR : Hid (r = unionL S T) := by rw [← hr]; unfold bothL; rw [hb]; rfl
    have hlS := both_len hb
    have hlT : T.length ≤ 256 := by have := setB_len (by decide) (both_sets hb).2; omega
    clear hr hb HC
    go_enter Try.func37, Try.ntmps37
    go_wp2_with fail
    refine HC'.out.mono ?_
    rintro e w' ⟨rfl, q, rfl⟩
    go_wp2_with fail
    refine (l1Copy_is cs (HS.out.same ⟨q, rfl⟩)).mono ?_
    rintro e w1 ⟨v, rfl, hv, hbb⟩
    have HV : Hid (OwnInts w1 w.heap.size w1.heap.size v S) := hv
    have HB : Hid (Below w.heap.size w w1) := (below_drewN (Below.refl w.heap.size w) q).trans (hbb.mono (Nat.le_refl _))
    clear hv hbb HC'
    go_wp2
    go_loopw [5, 6] (fun u i wr => ∃ k : Nat, k ≤ T.length ∧ i = .int .i64 k ∧ Hid (OwnInts wr w.heap.size wr.heap.size u (unionK S T k)) ∧ Hid (Below w.heap.size w wr)) (fun _ i _ => T.length - (intOf i).toNat)
    case atStart => exact ⟨0, Nat.zero_le _, rfl, by simpa [unionK] using HV, HB⟩
    case round =>
      clear HV HB
      obtain ⟨k, hk, rfl, HU, HB⟩ := hrel
      have hsz := HB.out.size
      by_cases hlt : k < T.length
      · obtain ⟨b, off, ha, hc⟩ := (HT.out.below HB.out).cell (by omega)
        subst ha
        have hck := hc k hlt
        clear hc
        have hul := unionK_len S T k (by omega)
        have HI := Lib.hid (l1Into_is HU.out hsz (by omega) (HT.out.fits k hlt))
        rw [← unionK_succ hlt] at HI
        clear hul
        go_wp2_with (go_at_call 69; refine HI.out.mono ?_; rintro e w2 ⟨u2, rfl, hu2, hb2⟩; have HU2 := Lib.hid hu2; have HB2 := Lib.hid (HB.out.trans (hb2.mono hsz)); clear hu2 hb2)
        go_roundw
        case rel => exact ⟨k + 1, by omega, by go_num, HU2, HB2⟩
        case measure => simp [intOf]; omega
      · have hkk : k = T.length := by omega
        rw [hkk] at HU
        clear hkk
        go_wp2
        go_ret
        exact ⟨_, rfl, by rw [HR.out]; exact HU.out, HB.out⟩
end
end

section
section
open Go.RowKit

/-- The next compressed priority. -/
def pStep (now p : Int) : Int := if p % 2 = now % 2 then now else now + 1
/-- What the first k of the rising priorities become: the last of them. -/
def nowK (ps : List Int) : Nat → Int
  | 0 => nth ps 0 % 2
  | k + 1 => pStep (nowK ps k) (nth ps k)
/-- What vertex v has when k of the priorities have been passed. -/
def outF (P ps : List Int) : Nat → Nat → Int
  | 0, v => nth P v
  | k + 1, v => if nth P v = nth ps k then nowK ps (k + 1) else outF P ps k v
def outL (P ps : List Int) (k : Nat) : List Int := (List.range P.length).map (outF P ps k)
/-- In the middle of a pass. -/
def mixF (P ps : List Int) (k j v : Nat) : Int := if v < j then outF P ps (k + 1) v else outF P ps k v
def mixL (P ps : List Int) (k j : Nat) : List Int := (List.range P.length).map (mixF P ps k j)

section
variable {P ps : List Int} {k j : Nat}
theorem outL_len : (outL P ps k).length = P.length := by simp [outL]
theorem mixL_len : (mixL P ps k j).length = P.length := by simp [mixL]
theorem outL_nth {v : Nat} (hv : v < P.length) : nth (outL P ps k) v = outF P ps k v := by simp [outL, nth, hv]
theorem mixL_nth {v : Nat} (hv : v < P.length) : nth (mixL P ps k j) v = mixF P ps k j v := by simp [mixL, nth, hv]
theorem outL_zero : outL P ps 0 = P := list_ext outL_len fun v hv => by rw [outL_len] at hv; rw [outL_nth hv]; rfl
theorem mixL_zero : mixL P ps k 0 = outL P ps k := list_ext (by rw [mixL_len, outL_len]) fun v hv => by
  rw [mixL_len] at hv; rw [mixL_nth hv, outL_nth hv]; unfold mixF; rw [if_neg (by omega)]
theorem mixL_all : mixL P ps k P.length = outL P ps (k + 1) := list_ext (by rw [mixL_len, outL_len]) fun v hv => by
  rw [mixL_len] at hv; rw [mixL_nth hv, outL_nth hv]; unfold mixF; rw [if_pos hv]
theorem mixL_hit (hj : j < P.length) (h : nth P j = nth ps k) : (mixL P ps k j).set j (nowK ps (k + 1)) = mixL P ps k (j + 1) := list_ext (by simp [mixL_len]) fun v hv => by
  simp only [List.length_set, mixL_len] at hv
  rw [nth_set (by rw [mixL_len]; exact hj), mixL_nth hv, mixL_nth hv]
  unfold mixF
  by_cases e : v = j
  · subst e
    rw [if_pos rfl, if_pos (by omega), outF, if_pos h]
  · rw [if_neg e]
    by_cases hl : v < j
    · rw [if_pos hl, if_pos (by omega)]
    · rw [if_neg hl, if_neg (by omega)]
theorem mixL_pass (hj : j < P.length) (h : nth P j ≠ nth ps k) : mixL P ps k j = mixL P ps k (j + 1) := list_ext (by rw [mixL_len, mixL_len]) fun v hv => by
  rw [mixL_len] at hv
  rw [mixL_nth hv, mixL_nth hv]
  unfold mixF
  by_cases e : v = j
  · subst e
    rw [if_neg (by omega), if_pos (by omega), outF, if_neg h]
  · by_cases hl : v < j
    · rw [if_pos hl, if_pos (by omega)]
    · rw [if_neg hl, if_neg (by omega)]

theorem nowK_bound (h : ∀ i, i < ps.length → 0 ≤ nth ps i) (hp : 0 < ps.length) : ∀ k, 0 ≤ nowK ps k ∧ nowK ps k ≤ 1 + k
  | 0 => by have := h 0 hp; rw [nowK]; omega
  | k + 1 => by
    have ih := nowK_bound h hp k
    rw [nowK, pStep]
    split <;> omega
end

/-- The compressed priorities of a game. -/
def pressL (P : List Int) : List Int := outL P (priosK P (upL P.length) P.length) (priosK P (upL P.length) P.length).length
noncomputable def pressO (O : List Int) (zss : List (List Int)) (P : List Int) : List Int := if parityB O zss P = true then O else []
noncomputable def pressN (O : List Int) (zss : List (List Int)) (P : List Int) : List (List Int) := if parityB O zss P = true then zss else []
noncomputable def pressV (O : List Int) (zss : List (List Int)) (P : List Int) : List Int := if parityB O zss P = true then pressL P else []

/-- The priorities that occur, as a rising list. -/
def allP (P : List Int) : List Int := priosK P (upL P.length) P.length
theorem allP_mem {P : List Int} {x : Int} : x ∈ allP P ↔ x ∈ P := by
  have h : ∀ k, k ≤ P.length → (x ∈ priosK P (upL P.length) k ↔ ∃ j, j < k ∧ nth P j = x) := fun k => by
    induction k with
    | zero => intro _; simp [priosK]
    | succ k ih =>
      intro hk
      rw [priosK, intoL_mem, ih (by omega), upL_nth (by omega), Int.toNat_natCast]
      constructor
      · rintro (⟨j, hj, e⟩ | e)
        · exact ⟨j, by omega, e⟩
        · exact ⟨k, by omega, e.symm⟩
      · rintro ⟨j, hj, e⟩
        by_cases h : j = k
        · subst h; exact .inr e.symm
        · exact .inl ⟨j, by omega, e⟩
  rw [allP, h _ (Nat.le_refl _)]
  exact ⟨fun ⟨j, hj, e⟩ => e ▸ nth_mem hj, fun h => by obtain ⟨j, hj, e⟩ := mem_nth.1 h; exact ⟨j, hj, e⟩⟩

theorem allP_rising (P : List Int) : (allP P).Pairwise (· < ·) := by
  have h : ∀ k, (priosK P (upL P.length) k).Pairwise (· < ·) := fun k => by
    induction k with
    | zero => simp [priosK]
    | succ k ih => rw [priosK]; exact intoL_rising _ _ ih
  exact h _
theorem pairwise_nth {zs : List Int} (h : zs.Pairwise (· < ·)) {i j : Nat} (hij : i < j) (hj : j < zs.length) : nth zs i < nth zs j := by
  rw [nth_eq hj, nth_eq (show i < zs.length by omega)]
  exact List.pairwise_iff_getElem.1 h i j (by omega) hj hij
theorem rising_inj {zs : List Int} (h : zs.Pairwise (· < ·)) {i j : Nat} (hi : i < zs.length) (hj : j < zs.length) (e : nth zs i = nth zs j) : i = j := by
  rcases Nat.lt_trichotomy i j with h1 | h1 | h1
  · have := pairwise_nth h h1 hj; omega
  · exact h1
  · have := pairwise_nth h h1 hi; omega
/-- What priority number k becomes. -/
def numF (ps : List Int) (k : Nat) : Int := nowK ps (k + 1)

section
variable {P ps : List Int}

/-- A vertex whose priority is number i has what that number becomes, once it has been passed. -/
theorem outF_at (hr : ps.Pairwise (· < ·)) {i : Nat} {v : Nat} (hi : i < ps.length) (h : nth P v = nth ps i) : ∀ k, k ≤ ps.length → outF P ps k v = if i < k then numF ps i else nth P v
  | 0, _ => by rw [outF, if_neg (by omega)]
  | k + 1, hk => by
    rw [outF]
    by_cases e : i = k
    · subst e; rw [if_pos h, if_pos (by omega)]; rfl
    · have hne : nth P v ≠ nth ps k := fun hh => e (rising_inj hr hi (by omega) (by rw [← h, hh]))
      rw [if_neg hne, outF_at hr hi h k (by omega)]
      by_cases hl : i < k
      · rw [if_pos hl, if_pos (by omega)]
      · rw [if_neg hl, if_neg (by omega)]

theorem num_step {k : Nat} : numF ps (k + 1) = pStep (numF ps k) (nth ps (k + 1)) := rfl
theorem num_zero : numF ps 0 = nth ps 0 % 2 := by
  show pStep (nth ps 0 % 2) (nth ps 0) = _
  unfold pStep; rw [if_pos (by omega)]
theorem num_mono {k : Nat} : numF ps k ≤ numF ps (k + 1) ∧ numF ps (k + 1) ≤ numF ps k + 1 := by
  rw [num_step, pStep]; split <;> omega
theorem num_le {i j : Nat} (h : i ≤ j) : numF ps i ≤ numF ps j := by
  induction j with
  | zero => have : i = 0 := by omega
            subst this; exact Int.le_refl _
  | succ j ih =>
    by_cases e : i = j + 1
    · subst e; exact Int.le_refl _
    · have := ih (by omega); have := (num_mono (ps := ps) (k := j)).1; omega
theorem num_even (_h0 : ∀ i, i < ps.length → 0 ≤ nth ps i) : ∀ {k : Nat}, k < ps.length → numF ps k % 2 = nth ps k % 2
  | 0, _ => by rw [num_zero]; omega
  | k + 1, hk => by
    rw [num_step, pStep]
    split <;> omega
theorem num_under (hr : ps.Pairwise (· < ·)) (h0 : ∀ i, i < ps.length → 0 ≤ nth ps i) : ∀ {k : Nat}, k < ps.length → 0 ≤ numF ps k ∧ numF ps k ≤ nth ps k
  | 0, hk => by have := h0 0 hk; rw [num_zero]; omega
  | k + 1, hk => by
    have ih := num_under hr h0 (k := k) (by omega)
    have := pairwise_nth hr (show k < k + 1 by omega) hk
    have := num_mono (ps := ps) (k := k)
    omega
/-- Numbers that follow one another stay. -/
theorem num_same (h0 : 0 ≤ nth ps 0) (h1 : nth ps 0 ≤ 1) (h : ∀ k, k + 1 < ps.length → nth ps (k + 1) = nth ps k + 1) : ∀ {k : Nat}, k < ps.length → numF ps k = nth ps k
  | 0, _ => by rw [num_zero]; omega
  | k + 1, hk => by
    rw [num_step, num_same h0 h1 h (k := k) (by omega), h k hk, pStep, if_neg (by omega)]
end

section
variable {P : List Int}

theorem allP_at {v : Nat} (hv : v < P.length) : ∃ i, i < (allP P).length ∧ nth P v = nth (allP P) i := by
  obtain ⟨i, hi, e⟩ := mem_nth.1 (allP_mem.2 (nth_mem hv))
  exact ⟨i, hi, e.symm⟩
theorem allP_pos (h : ∀ x ∈ P, 0 ≤ x ∧ x ≤ 40) : ∀ i, i < (allP P).length → 0 ≤ nth (allP P) i := fun _ hi => (h _ (allP_mem.1 (nth_mem hi))).1
theorem pressL_len : (pressL P).length = P.length := outL_len
theorem pressL_at {v i : Nat} (hv : v < P.length) (hi : i < (allP P).length) (h : nth P v = nth (allP P) i) : nth (pressL P) v = numF (allP P) i := by
  show nth (outL P (allP P) (allP P).length) v = _
  rw [outL_nth hv, outF_at (allP_rising P) hi h _ (Nat.le_refl _), if_pos hi]

/-- Compressing keeps parity and order, and makes nothing greater. -/
theorem press_keeps (h : ∀ x ∈ P, 0 ≤ x ∧ x ≤ 40) {v : Nat} (hv : v < P.length) : nth (pressL P) v % 2 = nth P v % 2 ∧ 0 ≤ nth (pressL P) v ∧ nth (pressL P) v ≤ nth P v := by
  obtain ⟨i, hi, e⟩ := allP_at hv
  rw [pressL_at hv hi e, e]
  have h1 := num_even (allP_pos h) hi
  have h2 := num_under (allP_rising P) (allP_pos h) hi
  exact ⟨h1, h2.1, h2.2⟩
theorem press_order {u v : Nat} (hu : u < P.length) (hv : v < P.length) (h : nth P u ≤ nth P v) : nth (pressL P) u ≤ nth (pressL P) v := by
  obtain ⟨i, hi, e⟩ := allP_at hu
  obtain ⟨j, hj, e'⟩ := allP_at hv
  rw [pressL_at hu hi e, pressL_at hv hj e']
  refine num_le ?_
  rcases Nat.lt_or_ge j i with hl | hl
  · have := pairwise_nth (allP_rising P) hl hi; omega
  · exact hl
theorem press_bound (h : ∀ x ∈ P, 0 ≤ x ∧ x ≤ 40) : ∀ x ∈ pressL P, 0 ≤ x ∧ x ≤ 40 := fun x hx => by
  obtain ⟨v, hv, rfl⟩ := mem_nth.1 hx
  rw [pressL_len] at hv
  have h1 := press_keeps h hv
  have h2 := h _ (nth_mem hv)
  omega

/-- The numbers from the first on, each one more. -/
def fromL (a : Int) (n : Nat) : List Int := (List.range n).map fun (i : Nat) => a + (i : Int)
theorem fromL_len {a : Int} {n : Nat} : (fromL a n).length = n := by simp [fromL]
theorem fromL_nth {a : Int} {n i : Nat} (h : i < n) : nth (fromL a n) i = a + i := by simp [fromL, nth, h]
theorem fromL_rising {a : Int} {n : Nat} : (fromL a n).Pairwise (· < ·) := by
  rw [List.pairwise_iff_getElem]
  intro i j hi hj hij
  rw [fromL_len] at hi hj
  rw [← nth_eq (by rw [fromL_len]; exact hi), ← nth_eq (by rw [fromL_len]; exact hj), fromL_nth hi, fromL_nth hj]
  omega
theorem fromL_mem {a x : Int} {n : Nat} : x ∈ fromL a n ↔ a ≤ x ∧ x < a + n := by
  constructor
  · intro h
    obtain ⟨i, hi, e⟩ := mem_nth.1 h
    rw [fromL_len] at hi
    rw [fromL_nth hi] at e
    omega
  · intro h
    have hi : (x - a).toNat < n := by omega
    have := nth_mem (zs := fromL a n) (k := (x - a).toNat) (by rw [fromL_len]; exact hi)
    rw [fromL_nth hi, show a + ((x - a).toNat : Int) = x by omega] at this
    exact this

/-- All between what the first and the last become occur. -/
theorem num_onto {ps : List Int} {x : Int} : ∀ {n : Nat}, numF ps 0 ≤ x → x ≤ numF ps n → ∃ k, k ≤ n ∧ numF ps k = x
  | 0, h0, h1 => ⟨0, Nat.le_refl _, by omega⟩
  | n + 1, h0, h1 => by
    by_cases h : x ≤ numF ps n
    · obtain ⟨k, hk, e⟩ := num_onto h0 h
      exact ⟨k, by omega, e⟩
    · have := num_mono (ps := ps) (k := n)
      exact ⟨n + 1, Nat.le_refl _, by omega⟩

/-- Compressing once more changes nothing. -/
theorem press_twice (h : ∀ x ∈ P, 0 ≤ x ∧ x ≤ 40) : pressL (pressL P) = pressL P := by
  by_cases hP : P.length = 0
  · have : P = [] := List.length_eq_zero_iff.1 hP
    subst this; rfl
  have hps : 0 < (allP P).length := by
    obtain ⟨i, hi, _⟩ := allP_at (P := P) (v := 0) (by omega)
    omega
  obtain ⟨n, hn⟩ : ∃ n, (allP P).length = n + 1 := ⟨(allP P).length - 1, by omega⟩
  obtain ⟨a, ha⟩ : ∃ a, a = numF (allP P) 0 := ⟨_, rfl⟩
  have ha01 : 0 ≤ a ∧ a ≤ 1 := by rw [ha, num_zero]; omega
  have e : allP (pressL P) = fromL a (numF (allP P) n - a + 1).toNat := by
    refine rising_ext (allP_rising _) fromL_rising fun x => ?_
    have hle := num_le (ps := allP P) (show 0 ≤ n by omega)
    rw [← ha] at hle
    rw [allP_mem, fromL_mem]
    constructor
    · intro hx
      obtain ⟨v, hv, rfl⟩ := mem_nth.1 hx
      rw [pressL_len] at hv
      obtain ⟨i, hi, e⟩ := allP_at hv
      rw [pressL_at hv hi e]
      have h1 := num_le (ps := allP P) (show 0 ≤ i by omega)
      have h2 := num_le (ps := allP P) (show i ≤ n by omega)
      omega
    · intro hx
      obtain ⟨k, hk, e⟩ := num_onto (ps := allP P) (x := x) (n := n) (by omega) (by omega)
      obtain ⟨v, hv, e'⟩ := mem_nth.1 (allP_mem.1 (nth_mem (zs := allP P) (k := k) (by omega)))
      rw [← e, ← pressL_at hv (by omega) e']
      exact nth_mem (by rw [pressL_len]; exact hv)
  refine list_ext (by rw [pressL_len]) fun v hv => ?_
  rw [pressL_len] at hv
  obtain ⟨i, hi, e'⟩ := allP_at hv
  rw [pressL_at hv hi e', e', e]
  rw [e, fromL_len] at hi
  refine num_same ?_ ?_ (fun k hk => ?_) (by rw [fromL_len]; exact hi)
  · rw [fromL_nth (by omega)]; omega
  · rw [fromL_nth (by omega)]; omega
  · rw [fromL_len] at hk
    rw [fromL_nth hk, fromL_nth (by omega)]; omega
end
end

section
open Go.RowKit

theorem OwnGame.shape3 {w : World} {B D : Nat} {v : Value} {O P : List Int} {zss : List (List Int)} (h : OwnGame w B D v O zss P) : ∃ a0 c0 a1 c1 a2 c2 V, v = .agg #[.slice a0 O.length c0, .slice a1 zss.length c1, .slice a2 P.length c2] ∧ OwnInts w B D (.slice a0 O.length c0) O ∧ OwnRows w B D (.slice a1 zss.length c1) V zss ∧ OwnInts w B D (.slice a2 P.length c2) P ∧
    (∀ k, k < zss.length → ∀ g, (V k).ownBlock = some g → (Value.slice a0 O.length c0).ownBlock ≠ some g) ∧ (∀ k, k < zss.length → ∀ g, (V k).ownBlock = some g → (Value.slice a2 P.length c2).ownBlock ≠ some g) ∧ ∀ g, (Value.slice a0 O.length c0).ownBlock = some g → (Value.slice a2 P.length c2).ownBlock ≠ some g := by
  obtain ⟨vo, vn, vp, V, rfl, x1, x2, x3, x4, x5, x6⟩ := h
  obtain ⟨a1, e1, hvs, _, _⟩ := x1.shape
  subst hvs
  obtain ⟨a2, e2, hvs, _, _⟩ := x2.shape
  subst hvs
  obtain ⟨a3, e3, hvs, _, _⟩ := x3.shape
  subst hvs
  exact ⟨_, _, _, _, _, _, V, rfl, x1, x2, x3, x4, x5, x6⟩

theorem OwnArena.shape2g {w : World} {B D : Nat} {v : Value} {O : List Int} {zss : List (List Int)} (h : OwnArena w B D v O zss) : ∃ a0 c0 a1 c1, v = .agg #[.slice a0 O.length c0, .slice a1 zss.length c1] := by
  obtain ⟨ao, an, co, cn, A, C, hv, _, _⟩ := h.at
  exact ⟨ao, co, an, cn, hv⟩

theorem ps_own {w : World} {B D : Nat} {v : Value} {P ps : List Int} (h : ps = allP P) (hl : (upL P.length).length = P.length) (hx : OwnInts w B D v (priosK P (upL P.length) (upL P.length).length)) : OwnInts w B D v ps := by
  rw [hl] at hx; subst h; exact hx
theorem press_no {O gO P gP : List Int} {zss gN : List (List Int)} (hr : pressO O zss P = gO ∧ pressN O zss P = gN ∧ pressV O zss P = gP) (h : parityB O zss P = false) : gO = [] ∧ gN = [] ∧ gP = [] := by
  obtain ⟨rfl, rfl, rfl⟩ := hr
  unfold pressO pressN pressV
  rw [h]; simp
theorem press_yes {O gO P gP : List Int} {zss gN : List (List Int)} (hr : pressO O zss P = gO ∧ pressN O zss P = gN ∧ pressV O zss P = gP) (h : parityB O zss P = true) : gO = O ∧ gN = zss ∧ gP = pressL P := by
  obtain ⟨rfl, rfl, rfl⟩ := hr
  unfold pressO pressN pressV
  rw [h]; simp

end
end

end Go.Proofs.Ytihaajcmephlmaa
