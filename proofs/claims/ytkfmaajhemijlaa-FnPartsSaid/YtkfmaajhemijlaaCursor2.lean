/-
  Contracts: newCursor, take, upTo.
-/
import Derived.Test.YtkfmaajhemijlaaCursor
namespace Go.Proofs.Ytkfmaajhemijlaa
open Go.RowKit

/-- 0, ..., n-1. -/
def upL (n : Nat) : List Int := (List.range n).map (fun (i : Nat) => Int.ofNat i)
theorem upL_len (n : Nat) : (upL n).length = n := by simp [upL]
theorem upL_nth {n i : Nat} (h : i < n) : nth (upL n) i = i := by simp [nth, upL, h]

def upPart (k : Nat) : Nat → Value := fun i => if i < k then .int .i64 i else .int .i64 0

theorem up_step {w : World} {g n k : Nat} {t : TypeId} (h : w.rowIs g t n (upPart k)) : (w.setCell ⟨g, k, none⟩ (.int .i64 k)).rowIs g t n (upPart (k + 1)) := by
  refine (h.set k _).congr fun i _ => ?_
  simp only [upPart]
  by_cases e : i = k
  · subst e; simp
  · by_cases hlt : i < k
    · rw [if_neg e, if_pos hlt, if_pos (by omega)]
    · rw [if_neg e, if_neg hlt, if_neg (by omega)]

/-- What is open at first: the elements of a list. -/
def openS (S : List Int) (k : Nat) : Nat → Bool := fun v => decide ((v : Int) ∈ S.take k)

theorem openS_succ {S : List Int} {k u : Nat} (hk : k < S.length) (hu : nth S k = (u : Int)) : openS S (k + 1) = mark1 (openS S k) u true := by
  funext v
  have ht : S.take (k + 1) = S.take k ++ [(u : Int)] := by
    rw [List.take_add_one, List.getElem?_eq_getElem hk, ← hu, nth_eq hk]; rfl
  by_cases e : v = u
  · subst e; simp [mark1, openS, ht]
  · have e' : (v : Int) ≠ (u : Int) := by omega
    simp [mark1, openS, ht, e, e']

set_option maxHeartbeats 2000000 in
theorem newCursor_is {w : World} {an aS : Option Addr} {n : Nat} {S : List Int} (cn cS : Nat) (hS : IntsAt w aS S) (hn : n ≤ 1048576) (hSn : ∀ f ∈ S, ∃ u : Nat, f = (u : Int) ∧ u < n) :
    Calls Try.prog 32 #[.slice an n cn, .slice aS S.length cS] w fun e w' => e = .returned (.pointer (some ⟨w.heap.size + 1, 0, none⟩)) ∧
      Cur w' (w.heap.size + 1) w.heap.size (w.heap.size + 2) n (.slice an n cn) (.slice none 0 0) (openS S S.length) [] ∧ Below w.heap.size w w' ∧ w'.heap.size = w.heap.size + 2 := by
  have hmk := run_make_row' (P := Try.prog) 70 4 (.bool false) 1 Try.underlying70 info_bool rfl .i64 .i64 n (by omega) (by omega)
  have HSi := Lib.hid hS
  have hlS := hS.len
  have HSN := Lib.hid hSn
  clear hS hSn
  obtain ⟨W, hW⟩ : ∃ W, W = (w.alloc (.cells (madeCells #[.bool false] n) 4)).alloc (.cells #[.slice an n cn, .slice (some ⟨w.heap.size, 0, none⟩) n n, .slice none 0 0] 80) := ⟨_, rfl⟩
  have HW := Lib.hid hW
  have S1 : Hid (W.rowIs (w.heap.size + 1) 80 3 (tri (.slice an n cn) (.slice (some ⟨w.heap.size, 0, none⟩) n n) (.slice none 0 0))) := by
    rw [hW]
    have := World.rowIs_alloc (w.alloc (.cells (madeCells #[.bool false] n) 4)) #[.slice an n cn, .slice (some ⟨w.heap.size, 0, none⟩) n n, .slice none 0 0] 80 (tri (.slice an n cn) (.slice (some ⟨w.heap.size, 0, none⟩) n n) (.slice none 0 0)) (fun i hi => by
      have h : i = 0 ∨ i = 1 ∨ i = 2 := by simp at hi; omega
      rcases h with rfl | rfl | rfl <;> simp [tri])
    simpa [Hid] using this
  have R1 : Hid (W.rowIs w.heap.size 4 n (marksV (openS S 0))) := by
    rw [hW]
    exact (rowIs_below (World.rowIs_made _ _ _ _) (below1 _ _)).congr (fun i _ => by simp [marksV, openS])
  have BW : Hid (Below w.heap.size w W) := by rw [hW]; exact below2 _ _ _
  have hsz : W.heap.size = w.heap.size + 2 := by rw [hW]; simp
  have HSZ := Lib.hid hsz
  clear hW hsz
  go_enter Try.func32, Try.ntmps32
  go_wp2
  rw [← HW.out]
  go_loopw [16] (fun i wr => ∃ k : Nat, k ≤ S.length ∧ i = .int .i64 k ∧ Hid (wr.rowIs (w.heap.size + 1) 80 3 (tri (.slice an n cn) (.slice (some ⟨w.heap.size, 0, none⟩) n n) (.slice none 0 0))) ∧ Hid (wr.rowIs w.heap.size 4 n (marksV (openS S k))) ∧ Hid (Below w.heap.size w wr) ∧ Hid (wr.heap.size = w.heap.size + 2)) (fun i _ => S.length - (intOf i).toNat)
  case atStart => exact ⟨0, Nat.zero_le _, rfl, S1, R1, BW, HSZ⟩
  case round =>
    clear hmk S1 R1 BW
    obtain ⟨k, hk, rfl, HST, HR, HB, HZ⟩ := hrel
    by_cases hlt : k < S.length
    · obtain ⟨b, off, ha, hc⟩ := (HSi.out.below HB.out).cell (by omega)
      subst ha
      have hck := hc k hlt
      obtain ⟨u, hu, hun⟩ := HSN.out _ (nth_mem hlt)
      rw [hu] at hck
      have HO := Lib.hid (openS_succ hlt hu)
      clear hc hu
      have p1 := HST.out.cell (i := 1) (by omega)
      simp only [tri] at p1
      have hcs := HR.out.cell hun
      have hcf := HR.out.frozen u
      have hi1 : (k : Int) < S.length := by omega
      have hi2 : (u : Int) < n := by omega
      have O1 : Only (fun b => b = w.heap.size) wr (wr.setCell ⟨w.heap.size, u, none⟩ (.bool true)) := (Only.refl (fun b => b = w.heap.size) wr).setCell (p := ⟨w.heap.size, u, none⟩) rfl _
      have HST1 := Lib.hid (rowIs_only HST.out O1 (by omega))
      clear O1
      go_wp2
      go_roundw
      case rel => exact ⟨k + 1, by omega, by go_num, HST1, by rw [HO.out]; exact marks_set HR.out, HB.out.setCell (Nat.le_refl _) _, by simp only [Hid, World.setCell]; have := HZ.out; simpa using this⟩
      case measure => simp [intOf]; omega
    · have hkk : k = S.length := by omega
      rw [hkk] at HR
      clear hkk
      have hi1 : ¬ (k : Int) < S.length := by omega
      have hi2 : ¬ k < S.length := hlt
      go_wp2
      go_ret
      exact ⟨rfl, ⟨HST.out, HR.out, World.ownsRow_nil _ _ _ _⟩, HB.out, HZ.out⟩

theorem take_is {w : World} {p bo B n : Nat} {sn vl : Value} {o : Nat → Bool} {left : List Int} (h : Cur w p bo B n sn vl o left) (hpB : p < B) (hne : p ≠ bo) :
    Calls Try.prog 36 #[.pointer (some ⟨p, 0, none⟩)] w fun e w' => e = .returned vl ∧ Cur w' p bo B n sn (.slice none 0 0) o [] ∧ w'.ownsRow B 2 1 vl left.length (left.map (Value.int .i64)) ∧ Only (fun b => b = p) w w' := by
  have HC := Lib.hid h
  have p2 := h.c2
  have pf := h.str.frozen 2
  clear h
  have O1 : Hid (Only (fun b => b = p) w (w.setCell ⟨p, 2, none⟩ (.slice none 0 0))) := (Only.refl (fun b => b = p) w).setCell (p := ⟨p, 2, none⟩) rfl _
  have C1 : Hid (Cur (w.setCell ⟨p, 2, none⟩ (.slice none 0 0)) p bo B n sn (.slice none 0 0) o []) := ⟨(HC.out.str.set 2 _).congr tri_set, rowIs_only HC.out.opn O1.out (fun e => hne e.symm), World.ownsRow_nil _ _ _ _⟩
  have L1 := Lib.hid (ownsRow_only HC.out.lft O1.out (fun g hg e => by have := (HC.out.lft.lt g hg).1; omega))
  go_enter Try.func36, Try.ntmps36
  go_wp2
  go_ret
  exact ⟨rfl, C1.out, L1.out, O1.out⟩

end Go.Proofs.Ytkfmaajhemijlaa
