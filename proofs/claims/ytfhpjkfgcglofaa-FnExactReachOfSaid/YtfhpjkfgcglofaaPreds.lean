/-
  Contracts: PredsOf and its model.
-/
import Derived.Test.YtfhpjkfgcglofaaOwn
import Derived.Test.YtfhpjkfgcglofaaCopy
import Derived.Test.YtfhpjkfgcglofaaEdge
import Derived.Maps.AppendAt
namespace Go.Proofs.Ytfhpjkfgcglofaa
open Go.RowKit

theorem OwnInts.mk' {w : World} {B : Nat} {v : Value} {zs : List Int} (h : w.ownsRow B 2 1 v zs.length (zs.map (Value.int .i64))) (hl : zs.length ≤ 17592186044416) (hf : ∀ k, k < zs.length → Fits (nth zs k)) : OwnInts w B w.heap.size v zs :=
  ⟨h, fun g hg => (h.lt g hg).2, hl, hf⟩
theorem ownsRow_base {w : World} {B B' : Nat} {e : TypeId} {size : Nat} {v : Value} {n : Nat} {xs : List Value} (h : w.ownsRow B e size v n xs) (hB : B' ≤ B) : w.ownsRow B' e size v n xs := by
  refine ⟨h.1, ?_⟩
  rcases h.2 with hn | ⟨g, cap, cur, hv, hb, r⟩
  · exact .inl hn
  · exact .inr ⟨g, cap, cur, hv, by omega, r⟩
theorem OwnInts.nil (w : World) (B D : Nat) : OwnInts w B D (.slice none 0 0) [] :=
  ⟨World.ownsRow_nil _ _ _ _, fun g hg => by simp [Value.ownBlock] at hg, by simp, fun k hk => absurd hk (by simp)⟩

/-- A call hands back a slice of its own that reads as zs, and nothing that was there has turned. -/
def GivesInts (w : World) (zs : List Int) (e : Ending) (w' : World) : Prop :=
  ∃ v, e = .returned v ∧ OwnInts w' w.heap.size w'.heap.size v zs ∧ Below w.heap.size w w'

/-- The predecessors of u among the first k vertices. -/
def predsK (zss : List (List Int)) (u : Int) : Nat → List Int
  | 0 => []
  | k + 1 => predsK zss u k ++ if hasB (row zss k) u then [(k : Int)] else []

theorem predsK_len (zss : List (List Int)) (u : Int) (k : Nat) : (predsK zss u k).length ≤ k := by
  induction k with
  | zero => simp [predsK]
  | succ k ih => simp only [predsK]; split <;> simp <;> omega

theorem predsK_mem (zss : List (List Int)) (u : Int) (k : Nat) : ∀ x ∈ predsK zss u k, 0 ≤ x ∧ x < k := by
  induction k with
  | zero => simp [predsK]
  | succ k ih =>
    intro x hx
    simp only [predsK, List.mem_append] at hx
    rcases hx with hx | hx
    · have := ih x hx; omega
    · split at hx
      · simp at hx; omega
      · simp at hx

theorem nth_mem {zs : List Int} {k : Nat} (h : k < zs.length) : nth zs k ∈ zs := by rw [nth_eq h]; exact List.getElem_mem _

theorem predsK_fits (zss : List (List Int)) (u : Int) (k : Nat) (hk : k ≤ 17592186044416) : ∀ j, j < (predsK zss u k).length → Fits (nth (predsK zss u k) j) := fun j hj => by
  have := predsK_mem zss u k _ (nth_mem hj)
  unfold Fits; omega

open Classical in
/-- The value of PredsOf. -/
noncomputable def predsL (O : List Int) (zss : List (List Int)) (u : Int) : List Int := if ArenaP O zss ∧ thereB O.length u = true then predsK zss u zss.length else []

set_option maxHeartbeats 2000000 in
theorem specPredsOf_is {w : World} {va : Value} {O : List Int} {zss : List (List Int)} {u : Int} {zs : List Int} (hr : predsL O zss u = zs) (h : ArenaAt w va O zss) :
    Calls Try.prog 27 #[va, .int .i64 u] w (GivesInts w zs) := by
  obtain ⟨i0, hi, hz0, hz1, hz2⟩ := info_parts info_int
  have HAt := Lib.hid h
  obtain ⟨ao, an, co, cn, A, C, rfl, h1, h2⟩ := h
  have hlN := h2.len
  have HN := Lib.hid h2
  clear h1 h2
  obtain ⟨W, hW⟩ : ∃ W, W = (w.alloc (.cells #[.slice ao O.length co, .slice an zss.length cn] 27)).alloc (.cells #[] 2) := ⟨_, rfl⟩
  have BW : Hid (Below w.heap.size w W) := by rw [hW]; exact below2 _ _ _
  have bW : Hid (Box2 W w.heap.size 27 (.slice ao O.length co) (.slice an zss.length cn)) := by rw [hW]; exact (Box2.new w _ _ _).alloc _
  have oW : Hid (W.ownsRow (w.heap.size + 1) 2 1 (.slice (some ⟨w.heap.size + 1, 0, none⟩) 0 0) 0 []) := by
    rw [hW]
    have := World.ownsRow_made (w.alloc (.cells #[.slice ao O.length co, .slice an zss.length cn] 27)) (base := w.heap.size + 1) (e := 2) (size := 1) #[] 0 (by simp) (by unfold maxLen; omega) rfl
    simpa [Hid] using this
  have HWx := Lib.hid hW
  cases hA : arenaB O zss with
  | false =>
    have HE : Hid (zs = []) := by rw [← hr]; unfold predsL; rw [if_neg (fun hh => by rw [arenaB_yes hh.1] at hA; cases hA)]; rfl
    have HC := Lib.hid (specArenaOk_at hA (HAt.out.below BW.out))
    clear hA hr
    go_enter Try.func27, Try.ntmps27
    go_wp2_with fail
    rw [← HWx.out]
    refine HC.out.mono ?_
    rintro e w1 ⟨rfl, hb⟩
    have hfin : Hid (OwnInts w1 w.heap.size w1.heap.size (.slice (some ⟨w.heap.size + 1, 0, none⟩) 0 0) zs ∧ Below w.heap.size w w1) := by
      rw [HE.out]
      exact ⟨OwnInts.mk' (ownsRow_base (ownsRow_only oW.out (S := fun _ => False) (Only.of_below hb) (fun _ _ h => h)) (by omega)) (by simp) (fun k hk => absurd hk (by simp)), BW.out.trans (hb.mono BW.out.size)⟩
    clear hb
    go_wp2
    go_ret
    exact ⟨_, rfl, hfin.out⟩
  | true =>
    have HP := Lib.hid (arenaB_iff.1 hA)
    have HC := Lib.hid (specArenaOk_at hA (HAt.out.below BW.out))
    cases hT : thereB O.length u with
    | false =>
      have HE : Hid (zs = []) := by rw [← hr]; unfold predsL; rw [if_neg (fun hh => by rw [hT] at hh; cases hh.2)]; rfl
      have HT := Lib.hid hT
      clear hA hr hT
      go_enter Try.func27, Try.ntmps27
      go_wp2_with fail
      rw [← HWx.out]
      refine HC.out.mono ?_
      rintro e w1 ⟨rfl, hb⟩
      have B1 := Lib.hid (BW.out.trans (hb.mono BW.out.size))
      have b1 := Lib.hid (bW.out.below hb)
      have o1 := Lib.hid (ownsRow_only oW.out (S := fun _ => False) (Only.of_below hb) (fun _ _ h => h))
      clear hb
      have c0 := b1.out.cell0
      have c1 := b1.out.cell1
      go_wp2_with fail
      refine (l1There_is HT.out (HAt.out.below B1.out)).mono ?_
      rintro e w2 ⟨rfl, hb⟩
      have hfin : Hid (OwnInts w2 w.heap.size w2.heap.size (.slice (some ⟨w.heap.size + 1, 0, none⟩) 0 0) zs ∧ Below w.heap.size w w2) := by
        rw [HE.out]
        exact ⟨OwnInts.mk' (ownsRow_base (ownsRow_only o1.out (S := fun _ => False) (Only.of_below hb) (fun _ _ h => h)) (by omega)) (by simp) (fun k hk => absurd hk (by simp)), B1.out.trans (hb.mono B1.out.size)⟩
      clear hb
      go_wp2
      go_ret
      exact ⟨_, rfl, hfin.out⟩
    | true =>
      have HE : Hid (predsK zss u zss.length = zs) := by rw [← hr]; unfold predsL; rw [if_pos ⟨HP.out, hT⟩]; rfl
      have HT := Lib.hid hT
      clear hA hr hT
      go_enter Try.func27, Try.ntmps27
      go_wp2_with fail
      rw [← HWx.out]
      refine HC.out.mono ?_
      rintro e w1 ⟨rfl, hb⟩
      have B1 := Lib.hid (BW.out.trans (hb.mono BW.out.size))
      have b1 := Lib.hid (bW.out.below hb)
      have o1 := Lib.hid (ownsRow_only oW.out (S := fun _ => False) (Only.of_below hb) (fun _ _ h => h))
      clear hb
      have c0 := b1.out.cell0
      have c1 := b1.out.cell1
      go_wp2_with fail
      refine (l1There_is HT.out (HAt.out.below B1.out)).mono ?_
      rintro e w2 ⟨rfl, hb⟩
      have B2 := Lib.hid (B1.out.trans (hb.mono B1.out.size))
      have b2 := Lib.hid (b1.out.below hb)
      have o2 := Lib.hid (ownsRow_only o1.out (S := fun _ => False) (Only.of_below hb) (fun _ _ h => h))
      clear hb c0 c1
      clear hW
      go_wp2
      go_loopw [5, 6] (fun v i wr => ∃ k : Nat, k ≤ zss.length ∧ i = .int .i64 k ∧ Hid (wr.ownsRow (w.heap.size + 1) 2 1 v (predsK zss u k).length ((predsK zss u k).map (Value.int .i64))) ∧ Hid (Below w.heap.size w wr) ∧ Hid (Box2 wr w.heap.size 27 (.slice ao O.length co) (.slice an zss.length cn)))
        (fun _ i _ => zss.length - (intOf i).toNat)
      case atStart => exact ⟨0, Nat.zero_le _, rfl, o2, B2, b2⟩
      case round =>
        obtain ⟨k, hk, rfl, HO, HB, hb⟩ := hrel
        have c0 := hb.out.cell0
        have c1 := hb.out.cell1
        by_cases hlt : k < zss.length
        · have N1 := Lib.hid (HN.out.below HB.out)
          obtain ⟨b, off, ha, hc⟩ := N1.out.cell (by omega)
          subst ha
          have hck := hc k hlt
          clear hc
          have hpl := predsK_len zss u k
          cases hH : hasB (row zss k) u with
          | false =>
            have HH := Lib.hid (l1Has_is hH (C k) wr (N1.out.rows k hlt))
            have hS : predsK zss u (k + 1) = predsK zss u k := by simp [predsK, hH]
            have HS := HO
            rw [← hS] at HS
            clear hH hS
            go_wp2_with (go_at_call 61; refine HH.out.mono ?_; rintro e w' ⟨rfl, rfl⟩)
            go_roundw
            case rel => exact ⟨k + 1, by omega, by go_num, HS, HB, hb⟩
            case measure => simp [intOf]; omega
          | true =>
            have HH := Lib.hid (l1Has_is hH (C k) wr (N1.out.rows k hlt))
            have HS : Hid (predsK zss u (k + 1) = predsK zss u k ++ [(k : Int)]) := by simp [predsK, hH, Hid]
            clear hH
            go_wp2_with (first
              | (go_at_call 61; refine HH.out.mono ?_; rintro e w' ⟨rfl, rfl⟩)
              | (at_builtin; refine wpList_append_own_at _ rfl _ _ 24 rfl (w.heap.size + 1) 2 i0 (.int .i64 0) 1 8 Try.underlying24 hi hz0 hz1 hz2 rfl (by decide) _ _ _ rfl (HO.out.alloc _) ⟨wr.heap.size, 0, none⟩ 1 1 [.int .i64 k] rfl rfl ?c1 ?c2 ?c3 ?c4 ?c5 ?_))
            case c1 => exact cell_one_new _ _ _
            case c2 => intro u hu; simp at hu; subst hu; rfl
            case c3 => unfold maxLen; omega
            case c4 => omega
            case c5 => have := HB.out.size; have := hb.out.lt; simp; omega
            · intro v' w1' hown' hgrow _ _
              have hsz : wr.heap.size ≤ w1'.heap.size := by have := hgrow.size; simp at this; omega
              have hbl := hb.out.lt
              have HBn := Lib.hid ((HB.out.alloc HB.out.size _).grown hgrow (by have := HB.out.size; simp; omega) (fun g hg => by have := (HO.out.lt g hg).1; omega))
              have hbn : Hid (Box2 w1' w.heap.size 27 (.slice ao O.length co) (.slice (some ⟨b, off, none⟩) zss.length cn)) := (hgrow.block w.heap.size (by simp; omega) (fun e => by have := (HO.out.lt _ e.symm).1; omega)).trans (hb.out.alloc _)
              have e1 : (predsK zss u (k + 1)).length = (predsK zss u k).length + 1 := by rw [HS.out]; simp
              have e2 : (predsK zss u (k + 1)).map (Value.int .i64) = (predsK zss u k).map (Value.int .i64) ++ [.int .i64 k] := by rw [HS.out]; simp
              have HOn := Lib.hid hown'
              rw [← e1, ← e2] at HOn
              clear hown' hgrow e1 e2 hsz hbl c0 c1
              go_wp2
              go_roundw
              case rel => exact ⟨k + 1, by omega, by go_num, HOn, HBn, hbn⟩
              case measure => simp [intOf]; omega
        · have hkk : k = zss.length := by omega
          rw [hkk, HE.out] at HO
          have HL : Hid (zs.length ≤ 17592186044416 ∧ ∀ j, j < zs.length → Fits (nth zs j)) := by
            rw [← HE.out]
            exact ⟨by have := predsK_len zss u zss.length; omega, predsK_fits _ _ _ hlN⟩
          have hfin := Lib.hid (OwnInts.mk' (ownsRow_base HO.out (B' := w.heap.size) (by omega)) HL.out.1 HL.out.2)
          clear hkk HO
          go_wp2
          go_ret
          exact ⟨_, rfl, hfin.out, HB.out⟩

end Go.Proofs.Ytfhpjkfgcglofaa
