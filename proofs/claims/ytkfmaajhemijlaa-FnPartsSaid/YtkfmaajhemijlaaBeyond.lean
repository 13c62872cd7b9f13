/-
  Contract: the model's l1Beyond.
-/
import Derived.Test.YtkfmaajhemijlaaBools
import Derived.WalkSmall
namespace Go.Proofs.Ytkfmaajhemijlaa
open Go.RowKit

theorem rowIs_only {S : Nat → Prop} {w w' : World} {g n : Nat} {t : TypeId} {f : Nat → Value} (h : w.rowIs g t n f) (hk : Only S w w') (hs : ¬ S g) : w'.rowIs g t n f := h.of_block (hk.block g h.lt hs)

theorem own_top {w : World} {B n : Nat} {e : TypeId} {v : Value} {xs : List Value} (h : w.ownsRow B e 1 v n xs) (hn : 0 < n) : ∃ g cap, v = .slice (some ⟨g, 0, none⟩) n cap ∧ n ≤ cap ∧ cap ≤ maxLen ∧ B ≤ g := by
  rcases h.2 with ⟨_, h0⟩ | ⟨g, cap, cur, hv, hg, _, hc, hm, _⟩
  · omega
  · exact ⟨g, cap, hv, hc, hm, hg⟩

open Classical in
/-- How many cells of a block of marks are not set. -/
noncomputable def cntW (w : World) (b n : Nat) : Nat := cnt (fun k => decide (w.cell? ⟨b, k, none⟩ = some (.bool true))) n

theorem cntW_of {w : World} {b n : Nat} {t : TypeId} {xs : Nat → Bool} (h : w.rowIs b t n (marksV xs)) : cntW w b n = cnt xs n := by
  refine cnt_congr fun i hi => ?_
  have hc := h.cell hi
  rw [hc]
  by_cases hb : xs i = true
  · simp [marksV, hb]
  · have hb' : xs i = false := by simpa using hb
    simp [marksV, hb']

theorem own_shape {w : World} {B n : Nat} {e : TypeId} {v : Value} {xs : List Value} (h : w.ownsRow B e 1 v n xs) : ∃ a c, v = .slice a n c := by
  rcases h.2 with ⟨hv, h0⟩ | ⟨g, cap, cur, hv, _⟩
  · exact ⟨_, _, by rw [hv, h0]⟩
  · exact ⟨_, _, hv⟩

def lenOf : Value → Nat
  | .slice _ n _ => n
  | _ => 0

theorem lenOf_own {w : World} {B n : Nat} {e : TypeId} {v : Value} {xs : List Value} (h : w.ownsRow B e 1 v n xs) : lenOf v = n := by
  rcases h.2 with ⟨hv, h0⟩ | ⟨g, cap, cur, hv, _⟩
  · rw [hv, h0]; rfl
  · rw [hv]; rfl

open Classical in
/-- What l1Beyond marks. -/
noncomputable def beyM (zss : List (List Int)) (I : Nat → Bool) (F : List Int) : Nat → Bool := fun v => decide (Rch zss I F v)

set_option maxHeartbeats 4000000 in
set_option maxRecDepth 100000 in
theorem l1Beyond_is {w : World} {an aF : Option Addr} {A : Nat → Option Addr} {C : Nat → Nat} {zss : List (List Int)} {F : List Int} {I : Nat → Bool} {bI : Nat} (cn cF : Nat)
    (hN : RowsAt w an A C zss) (hI : w.rowIs bI 4 zss.length (marksV I)) (hF : IntsAt w aF F) (hn : zss.length ≤ 256) (hFl : F.length ≤ 256) (hl : ∀ u, u < zss.length → (row zss u).length ≤ 16)
    (hFn : ∀ f ∈ F, ∃ u : Nat, f = (u : Int) ∧ u < zss.length) (hin : ∀ u : Nat, u < zss.length → ∀ x ∈ row zss u, ∃ v : Nat, x = (v : Int) ∧ v < zss.length) :
    Calls Try.prog 50 #[.slice an zss.length cn, .slice (some ⟨bI, 0, none⟩) zss.length zss.length, .slice aF F.length cF] w fun e w' => e = .returned (.slice (some ⟨w.heap.size, 0, none⟩) zss.length zss.length) ∧
      w'.rowIs w.heap.size 4 zss.length (marksV (beyM zss I F)) ∧ Below w.heap.size w w' := by
  obtain ⟨j0, hj, hj0, hj1, hj2⟩ := info_parts info_int
  have hmk := run_make_row' (P := Try.prog) 70 4 (.bool false) 1 Try.underlying70 info_bool rfl .i64 .i64 zss.length (by omega) (by omega)
  have HNi := Lib.hid hN
  have HII := Lib.hid hI
  have hIl := hI.lt
  obtain ⟨w1, hw1⟩ : ∃ w1, w1 = w.alloc (.cells (madeCells #[.bool false] zss.length) 4) := ⟨_, rfl⟩
  have B1 : Hid (Below w.heap.size w w1) := by rw [hw1]; exact below1 _ _
  have R1 : Hid (w1.rowIs w.heap.size 4 zss.length (marksV fun _ => false)) := by rw [hw1]; exact (World.rowIs_made _ _ _ _).congr (fun i _ => by simp [marksV])
  have hs1 : w1.heap.size = w.heap.size + 1 := by rw [hw1]; simp
  have HC := Lib.hid (l1Copy_is cF (hF.below B1.out))
  have HL := Lib.hid hl
  have HIN := Lib.hid hin
  have HFN := Lib.hid hFn
  have H0 := Lib.hid (Bey0.start (zss := zss) (I := I) (n := zss.length) hFn)
  have HW1 := Lib.hid hw1
  clear hN hI hF hl hin hFn hw1
  go_enter Try.func50, Try.ntmps50
  go_wp2_with fail
  rw [← HW1.out]
  refine HC.out.mono ?_
  rintro e w2 ⟨u2, rfl, hg, hb⟩
  have B2 := Lib.hid (B1.out.trans (hb.mono B1.out.size))
  have R2 := Lib.hid (rowIs_only R1.out (S := fun _ => False) (Only.of_below hb) (fun h => h))
  have U2 : Hid (w2.ownsRow (w.heap.size + 1) 2 1 u2 F.length (F.map (Value.int .i64))) := by rw [← hs1]; exact hg.own
  clear hg hb hmk hs1
  go_wp2
  go_loopw [8] (fun u wr => ∃ uu ts xs, uu = u ∧ Hid (Bey0 zss I F zss.length xs ts) ∧ Hid (wr.ownsRow (w.heap.size + 1) 2 1 uu ts.length (ts.map (Value.int .i64))) ∧ Hid (wr.rowIs w.heap.size 4 zss.length (marksV xs)) ∧ Hid (Below w.heap.size w wr)) (fun u wr => 2 * cntW wr w.heap.size zss.length + lenOf u)
  case atStart => exact ⟨_, F, _, rfl, H0, U2, R2, B2⟩
  case round =>
    clear H0 U2 R2 B2 B1 R1
    obtain ⟨uu, ts, xs, hue, HBY, HU, HR, HB⟩ := hrel
    subst hue
    rcases List.eq_nil_or_concat ts with rfl | ⟨ts', t, rfl⟩
    · have hall := HBY.out.all (fun u hu v hv => by obtain ⟨v', h1, h2⟩ := HIN.out u hu _ hv; omega) HFN.out
      have hfin : Hid (wr.rowIs w.heap.size 4 zss.length (marksV (beyM zss I F))) := HR.out.congr fun i hi => by
        have := hall i hi
        by_cases hb : Rch zss I F i
        · simp [marksV, beyM, hb, this.2 hb]
        · have hb' : xs i = false := by cases hx : xs i; rfl; exact absurd (this.1 hx) hb
          simp [marksV, beyM, hb, hb']
      obtain ⟨ua, uc, hus⟩ := own_shape HU.out
      subst hus
      clear hall HU
      go_wp2
      go_ret
      exact ⟨rfl, hfin.out, HB.out⟩
    · simp only [List.concat_eq_append] at HBY HU ⊢
      obtain ⟨p, hp, _⟩ := HBY.out.tin t (by simp)
      subst hp
      obtain ⟨hpn, hb⟩ := HBY.out.take
      have HBE := Lib.hid hb
      clear hb
      have hM : Hid (2 * cntW wr w.heap.size zss.length + lenOf uu = 2 * cnt xs zss.length + (ts'.length + 1)) := by rw [cntW_of HR.out, lenOf_own HU.out]; simp [Hid]
      obtain ⟨M, hMM⟩ : ∃ M, M = 2 * cntW wr w.heap.size zss.length + lenOf uu := ⟨_, rfl⟩
      have hM1 : 2 * cnt xs zss.length + ts'.length + 1 ≤ M := by rw [hMM, hM.out]; omega
      have HMM := Lib.hid hMM
      clear hM hMM HBY
      have hU : wr.ownsRow (w.heap.size + 1) 2 1 uu (ts'.length + 1) (ts'.map (Value.int .i64) ++ [.int .i64 p]) := by have := HU.out; simpa using this
      obtain ⟨g, cap, hus, hc1, hc2, hgb⟩ := own_top hU (by omega)
      subst hus
      have hlast := hU.cellAt ts'.length (by omega)
      have hlast' : wr.cell? ⟨g, ts'.length, none⟩ = some (.int .i64 p) := by rw [hlast]; simp
      have HP := Lib.hid (ownsRow_pop (by simp) hU)
      clear HU hU hlast
      have hbn := HBE.out.bnd
      have hcl := cnt_le xs zss.length
      obtain ⟨bN, offN, ha, hc⟩ := (HNi.out.below HB.out).cell (by omega)
      subst ha
      clear hc
      go_wp2
      obtain ⟨wo, hwo⟩ : ∃ wo, wo = wr := ⟨_, rfl⟩
      go_loopw [8, 10] (fun u j wi => ∃ uu q ts xs, uu = u ∧ q ≤ (row zss p).length ∧ j = .int .i64 q ∧ Hid (Bey zss I F zss.length xs ts p q) ∧ Hid (wi.ownsRow (w.heap.size + 1) 2 1 uu ts.length (ts.map (Value.int .i64))) ∧ Hid (wi.rowIs w.heap.size 4 zss.length (marksV xs)) ∧ Hid (Below w.heap.size w wi) ∧ 2 * cnt xs zss.length + ts.length + 1 ≤ M) (fun _ j _ => (row zss p).length - (intOf j).toNat)
      case atStart => exact ⟨_, 0, ts', xs, rfl, Nat.zero_le _, rfl, HBE, HP, HR, HB, hM1⟩
      case round =>
        clear HBE HP hM1 hlast' hbn hcl HR HB
        subst hwo
        obtain ⟨uu, q, ts, xs, hue, hq, rfl, HBE, HU, HR, HB, hM1⟩ := hrel
        subst hue
        have N1 := Lib.hid (HNi.out.below HB.out)
        obtain ⟨bn, offn, ha, hc⟩ := N1.out.cell (by omega)
        obtain ⟨rfl, rfl⟩ : bN = bn ∧ offN = offn := by simpa using ha
        have hcn := hc p hpn
        clear hc ha
        have hl16 := HL.out p hpn
        have hi2 : (p : Int) < zss.length := by omega
        by_cases hltq : q < (row zss p).length
        · obtain ⟨b3, off3, ha3, hc3⟩ := (N1.out.rows p hpn).cell (by omega)
          have hck3 := hc3 q hltq
          rw [ha3] at hcn
          obtain ⟨x, hx, hxn⟩ := HIN.out p hpn _ (nth_mem hltq)
          rw [hx] at hck3
          have HX := Lib.hid hx
          clear hx hc3
          have hi4 : (q : Int) < (row zss p).length := by omega
          have hi5 : (x : Int) < zss.length := by omega
          have hcI := (rowIs_below HII.out HB.out).cell hxn
          have hcO := HR.out.cell hxn
          have hfO := HR.out.frozen x
          have hbn := HBE.out.bnd
          have hcl := cnt_le xs zss.length
          cases hIx : I x with
          | false =>
            have HS := Lib.hid (HBE.out.skip HX.out (.inl hIx))
            rw [marksV, hIx] at hcI
            clear hIx
            go_wp2
            go_roundw
            case rel => exact ⟨_, q + 1, ts, xs, rfl, by omega, by go_num, HS, HU, HR, HB, hM1⟩
            case measure => simp [intOf]; omega
          | true =>
            cases hxx : xs x with
            | true =>
              have HS := Lib.hid (HBE.out.skip HX.out (.inr hxx))
              rw [marksV, hIx] at hcI
              rw [marksV, hxx] at hcO
              clear hIx hxx
              go_wp2
              go_roundw
              case rel => exact ⟨_, q + 1, ts, xs, rfl, by omega, by go_num, HS, HU, HR, HB, hM1⟩
              case measure => simp [intOf]; omega
            | false =>
              have HS := Lib.hid (HBE.out.push hpn hltq HX.out hxn hIx hxx)
              have hcm := cnt_mark hxn hxx
              rw [marksV, hIx] at hcI
              rw [marksV, hxx] at hcO
              clear hIx hxx
              have O1 : Only (fun b => b = w.heap.size) wr (wr.setCell ⟨w.heap.size, x, none⟩ (.bool true)) := (Only.refl (fun b => b = w.heap.size) wr).setCell (p := ⟨w.heap.size, x, none⟩) rfl _
              have HU1 := Lib.hid (ownsRow_only HU.out O1 (fun g hg e => by have := (HU.out.lt g hg).1; omega))
              have HR1 := Lib.hid (marks_set (v := x) (c := true) HR.out)
              have HB1 := Lib.hid (HB.out.setCell (p := ⟨w.heap.size, x, none⟩) (Nat.le_refl _) (.bool true))
              have hsz := HB1.out.size
              have hlen : (wr.setCell ⟨w.heap.size, x, none⟩ (.bool true)).heap.size = wr.heap.size := by simp [World.setCell]
              clear O1
              go_wp2_with (at_builtin; refine wpList_append_own_at _ rfl _ _ 24 rfl (w.heap.size + 1) 2 j0 (.int .i64 0) 1 8 Try.underlying24 hj hj0 hj1 hj2 rfl (by decide) _ _ _ rfl (HU1.out.alloc _) ⟨wr.heap.size, 0, none⟩ 1 1 [.int .i64 x] rfl rfl ?c1 ?c2 ?c3 ?c4 ?c5 ?_)
              case c1 => have h1 := cell_one_new (wr.setCell ⟨w.heap.size, x, none⟩ (.bool true)) (.int .i64 x) 2; rw [hlen] at h1; exact h1
              case c2 => intro u hu; simp at hu; subst hu; rfl
              case c3 => unfold maxLen; omega
              case c4 => omega
              case c5 => simp; omega
              · intro v' w7 hown' hgrow _ _
                have HBn := Lib.hid ((HB1.out.alloc HB1.out.size _).grown hgrow (by simp; omega) (fun g hg => by have := (HU1.out.lt g hg).1; omega))
                have HRn := Lib.hid (rowIs_only (rowIs_below HR1.out (below1 _ _)) (Only.of_grown hgrow) (fun e => by have := (HU1.out.lt _ e).1; omega))
                have e1 : (ts ++ [(x : Int)]).length = ts.length + 1 := by simp
                have e2 : (ts ++ [(x : Int)]).map (Value.int .i64) = ts.map (Value.int .i64) ++ [.int .i64 x] := by simp
                have HOn := Lib.hid hown'
                rw [← e1, ← e2] at HOn
                clear hown' hgrow e1 e2
                go_wp2
                go_roundw
                case rel => exact ⟨_, q + 1, _, _, rfl, by omega, by go_num, HS, HOn, HRn, HBn, by simp; omega⟩
                case measure => simp [intOf]; omega
        · have HD := Lib.hid (HBE.out.done (by omega))
          have hi4 : ¬ (q : Int) < (row zss p).length := by omega
          have hi5 : ¬ q < (row zss p).length := hltq
          go_wp2
          go_roundw
          case rel => exact ⟨_, ts, xs, rfl, HD, HU, HR, HB⟩
          case measure => rw [← HMM.out, cntW_of HR.out, lenOf_own HU.out]; omega

end Go.Proofs.Ytkfmaajhemijlaa
