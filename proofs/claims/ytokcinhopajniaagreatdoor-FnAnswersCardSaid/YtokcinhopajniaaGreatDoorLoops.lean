/-
  Contracts: the model's l1Marks, l1Loops.
-/
import Derived.Test.YtokcinhopajniaaGreatDoorWalks1
import Derived.Test.YtokcinhopajniaaGreatDoorBase1
import Derived.Test.YtokcinhopajniaaGreatDoorDraw1
namespace Go.Proofs.YtokcinhopajniaaGreatDoor
open Go.RowKit

theorem info_bools : (Tryz.prog.info? 84).map (fun i => (i.zero, i.size, i.bytes)) = some (some (.slice none 0 0), 1, 24) := by kernel_rfl

/-- The vertices that reach v and that v reaches. -/
def partF (f : Nat → Nat → Bool) (S : List Int) (v : Nat) : List Int := S.filter fun x => f v x.toNat && f x.toNat v

/-- The model's parts, and what is done, behind k elements. -/
def loopsK (f : Nat → Nat → Bool) (S : List Int) : Nat → List (List Int) × (Nat → Bool)
  | 0 => ([], fun _ => false)
  | k + 1 => if (loopsK f S k).2 (nth S k).toNat || !f (nth S k).toNat (nth S k).toNat then loopsK f S k
    else ((loopsK f S k).1 ++ [partF f S (nth S k).toNat], fun u => (loopsK f S k).2 u || hasB (partF f S (nth S k).toNat) u)

/-- From v to u by at least one step, in S. -/
noncomputable def farF (zss : List (List Int)) (S : List Int) (v u : Nat) : Bool := beyM zss (openS S S.length) [(v : Int)] u

/-- What l1Loops gives. -/
noncomputable def loopsS (zss : List (List Int)) (S : List Int) : List (List Int) := (loopsK (farF zss S) S S.length).1

theorem rowIs_not_own {w : World} {b n B size m : Nat} {t e : TypeId} {f : Nat → Value} {v : Value} {xs : List Value} (h : w.rowIs b t n f) (ho : w.ownsRow B e size v m xs) (hte : e ≠ t) : v.ownBlock ≠ some b := by
  intro hb
  obtain ⟨c, hc, _⟩ := h
  rcases ho.2 with ⟨rfl, _⟩ | ⟨g, _, _, rfl, _, h1, _⟩
  · simp [Value.ownBlock] at hb
  · simp [Value.ownBlock] at hb
    subst hb
    rw [hc] at h1
    simp at h1
    exact hte h1.2.symm

set_option maxHeartbeats 1000000 in
theorem l1Marks_is {w : World} {aS : Option Addr} {S : List Int} (cS n : Nat) (hS : IntsAt w aS S) (hn : n ≤ 1048576) (hSn : ∀ x ∈ S, ∃ u : Nat, x = (u : Int) ∧ u < n) :
    Calls Tryz.prog 94 #[.slice aS S.length cS, .int .i64 n] w fun e w' => e = .returned (.slice (some ⟨w.heap.size, 0, none⟩) n n) ∧
      w'.rowIs w.heap.size 4 n (marksV (openS S S.length)) ∧ Below w.heap.size w w' := by
  have hmk := run_make_row' (P := Tryz.prog) 84 4 (.bool false) 1 Tryz.underlying84 info_bool rfl .i64 .i64 n (by omega) (by omega)
  have HS := Lib.hid hS
  have hlS := hS.len
  have HN := Lib.hid hSn
  have R0 : Hid ((w.alloc (.cells (madeCells #[.bool false] n) 4)).rowIs w.heap.size 4 n (marksV (openS S 0))) := (World.rowIs_made w _ _ _).congr (fun i _ => by simp [marksV, openS])
  have B0 := Lib.hid (below1 w (.cells (madeCells #[.bool false] n) 4))
  clear hS hSn
  go_enter Tryz.func94, Tryz.ntmps94
  go_wp2
  go_loopw [6] (fun iv wr => ∃ k : Nat, k ≤ S.length ∧ iv = .int .i64 k ∧ Hid (wr.rowIs w.heap.size 4 n (marksV (openS S k))) ∧ Hid (Below w.heap.size w wr)) (fun iv _ => S.length - (intOf iv).toNat)
  case atStart => exact ⟨0, Nat.zero_le _, rfl, R0, B0⟩
  case round =>
    clear hmk R0 B0
    obtain ⟨k, hk, rfl, HR, HB⟩ := hrel
    by_cases hlt : k < S.length
    · obtain ⟨b, off, ha, hc⟩ := (HS.out.below HB.out).cell (by omega)
      subst ha
      obtain ⟨u, hu, hun⟩ := HN.out _ (nth_mem hlt)
      have hck := hc k hlt
      rw [hu] at hck
      have hun' : (u : Int) < n := by omega
      have hcs := HR.out.cell hun
      have hcf := HR.out.frozen u
      have R1 : Hid ((wr.setCell ⟨w.heap.size, u, none⟩ (.bool true)).rowIs w.heap.size 4 n (marksV (openS S (k + 1)))) := by rw [openS_succ hlt hu]; exact marks_set HR.out
      have B1 := Lib.hid (HB.out.setCell (p := ⟨w.heap.size, u, none⟩) (Nat.le_refl _) (.bool true))
      clear hc hu
      go_wp2
      go_roundw
      case rel => exact ⟨k + 1, by omega, by go_num, R1, B1⟩
      case measure => simp [intOf]; omega
    · have hkk : k = S.length := by omega
      rw [hkk] at HR
      clear hkk
      go_wp2
      go_ret
      exact ⟨rfl, HR.out, HB.out⟩

theorem loopsK_len (f : Nat → Nat → Bool) (S : List Int) : ∀ k, (loopsK f S k).1.length ≤ k
  | 0 => by simp [loopsK]
  | k + 1 => by
    have ih := loopsK_len f S k
    rw [loopsK]
    split
    · omega
    · simp; omega

/-- Rows of slices of one's own, whatever they hold. -/
def GivesLoops (w : World) (zss : List (List Int)) (e : Ending) (w' : World) : Prop :=
  ∃ v V, e = .returned v ∧ OwnRows w' w.heap.size w'.heap.size v V zss ∧ Below w.heap.size w w'

/-- Row j of far, where it is wanted. -/
def FarAt (wr : World) (n N k : Nat) (I : Nat → Bool) (f : Nat → Nat → Bool) (V : Nat → Value) : Prop :=
  ∀ j, j < k → I j = true → ∃ b, V j = .slice (some ⟨b, 0, none⟩) N N ∧ n ≤ b ∧ wr.rowIs b 4 N (marksV (f j))

theorem FarAt.only {wr w' : World} {n N k : Nat} {I : Nat → Bool} {f : Nat → Nat → Bool} {V : Nat → Value} {S : Nat → Prop} (h : FarAt wr n N k I f V) (hk : Only S wr w') (hs : ∀ b c, wr.rowIs b 4 N c → ¬ S b) : FarAt w' n N k I f V := fun j hj hI => by
  obtain ⟨b, h1, h2, h3⟩ := h j hj hI
  exact ⟨b, h1, h2, rowIs_only h3 hk (hs b _ h3)⟩

theorem range_snoc (V : Nat → Value) (k : Nat) (x : Value) : (List.range k).map V ++ [x] = (List.range (k + 1)).map (fun j => if j = k then x else V j) := by
  rw [List.range_succ, List.map_append]
  congr 1
  · exact List.map_congr_left fun j hj => by rw [if_neg (by have := List.mem_range.1 hj; omega)]
  · simp

theorem far_step {w wr w2 w7 : World} {uu v' x : Value} {k N : Nat} {V : Nat → Value} {I : Nat → Bool} {f : Nat → Nat → Bool} {o : Obj} (ho : wr.ownsRow w.heap.size 84 1 uu k ((List.range k).map V)) (hk : Below wr.heap.size wr w2)
    (hown : w7.ownsRow w.heap.size 84 1 v' (k + 1) ((List.range k).map V ++ [x])) (hgrow : (w2.alloc o).grownBy w7 uu.ownBlock) (hx : I k = true → ∃ b, x = .slice (some ⟨b, 0, none⟩) N N ∧ w.heap.size ≤ b ∧ w2.rowIs b 4 N (marksV (f k)))
    (hf : FarAt wr w.heap.size N k I f V) (hm : wr.rowIs w.heap.size 4 N (marksV I)) (hb : Below w.heap.size w wr) :
    ∃ V', w7.ownsRow w.heap.size 84 1 v' (k + 1) ((List.range (k + 1)).map V') ∧ FarAt w7 w.heap.size N (k + 1) I f V' ∧ w7.rowIs w.heap.size 4 N (marksV I) ∧ Below w.heap.size w w7 := by
  have hka : Below wr.heap.size wr (w2.alloc o) := hk.alloc hk.size o
  have hoa : (w2.alloc o).ownsRow w.heap.size 84 1 uu k ((List.range k).map V) := ownsRow_only ho (S := fun _ => False) (Only.of_below hka) (fun _ _ h => h)
  have keep : ∀ b c, (w2.alloc o).rowIs b 4 N c → w7.rowIs b 4 N c := fun b c h => rowIs_only h (Only.of_grown hgrow) (rowIs_not_own h hoa (by decide))
  refine ⟨fun j => if j = k then x else V j, by rw [← range_snoc]; exact hown, fun j hj hI => ?_, keep _ _ (rowIs_below hm hka), ((hb.trans (hka.mono hb.size)).grown hgrow (Nat.le_trans hb.size hka.size) (fun g hg => (hoa.lt g hg).1))⟩
  by_cases e : j = k
  · subst e
    obtain ⟨b, h1, h2, h3⟩ := hx hI
    exact ⟨b, by simp [h1], h2, keep _ _ (rowIs_below h3 (below1 _ _))⟩
  · obtain ⟨b, h1, h2, h3⟩ := hf j (by omega) hI
    exact ⟨b, by simp [e, h1], h2, keep _ _ (rowIs_below h3 hka)⟩

theorem info_parts' {t : TypeId} {z : Value} {s b : Nat} (h : (Tryz.prog.info? t).map (fun i => (i.zero, i.size, i.bytes)) = some (some z, s, b)) : ∃ i, Tryz.prog.info? t = some i ∧ i.zero = some z ∧ i.size = s ∧ i.bytes = b := by
  obtain ⟨i, hi, hz⟩ := Option.map_eq_some_iff.1 h
  simp only [Prod.mk.injEq] at hz
  exact ⟨i, hi, hz.1, hz.2.1, hz.2.2⟩

end Go.Proofs.YtokcinhopajniaaGreatDoor
