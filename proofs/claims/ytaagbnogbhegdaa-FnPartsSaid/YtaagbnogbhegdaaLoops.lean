/-
  Contracts: the model's l1Marks, l1Loops.
-/
import Derived.Test.YtaagbnogbhegdaaWalks1
import Derived.Test.YtaagbnogbhegdaaBase1
import Derived.Test.YtaagbnogbhegdaaDraw1
namespace Go.Proofs.Ytaagbnogbhegdaa
open Go.RowKit

theorem info_bools : (Try.prog.info? 106).map (fun i => (i.zero, i.size, i.bytes)) = some (some (.slice none 0 0), 1, 24) := by kernel_rfl

/-- The vertices that reach v and that v reaches. -/
def partF (f : Nat → Nat → Bool) (S : List Int) (v : Nat) : List Int := S.filter fun x => f v x.toNat && f x.toNat v

/-- The model's parts, and what is done, behind k elements. -/
def loopsK (f : Nat → Nat → Bool) (S : List Int) : Nat → List (List Int) × (Nat → Bool)
  | 0 => ([], fun _ => false)
  | k + 1 => if (loopsK f S k).2 (nth S k).toNat || !f (nth S k).toNat (nth S k).toNat then loopsK f S k
    else ((loopsK f S k).1 ++ [partF f S (nth S k).toNat], fun u => (loopsK f S k).2 u || hasB (partF f S (nth S k).toNat) u)

/-- From v to u by at least one step, in S. -/
noncomputable def farF (zss : List (List Int)) (S : List Int) (v u : Nat) : Bool := beyM zss (openS S S.length) [(v : Int)] u

/-- What l1Loops gives. -/
noncomputable def loopsS (zss : List (List Int)) (S : List Int) : List (List Int) := (loopsK (farF zss S) S S.length).1

theorem rowIs_not_own {w : World} {b n B size m : Nat} {t e : TypeId} {f : Nat → Value} {v : Value} {xs : List Value} (h : w.rowIs b t n f) (ho : w.ownsRow B e size v m xs) (hte : e ≠ t) : v.ownBlock ≠ some b := by
  intro hb
  obtain ⟨c, hc, _⟩ := h
  rcases ho.2 with ⟨rfl, _⟩ | ⟨g, _, _, rfl, _, h1, _⟩
  · simp [Value.ownBlock] at hb
  · simp [Value.ownBlock] at hb
    subst hb
    rw [hc] at h1
    simp at h1
    exact hte h1.2.symm

set_option maxHeartbeats 1000000 in
theorem l1Marks_is {w : World} {aS : Option Addr} {S : List Int} (cS n : Nat) (hS : IntsAt w aS S) (hn : n ≤ 1048576) (hSn : ∀ x ∈ S, ∃ u : Nat, x = (u : Int) ∧ u < n) :
    Calls Try.prog 126 #[.slice aS S.length cS, .int .i64 n] w fun e w' => e = .returned (.slice (some ⟨w.heap.size, 0, none⟩) n n) ∧
      w'.rowIs w.heap.size 4 n (marksV (openS S S.length)) ∧ Below w.heap.size w w' := by
  have hmk := run_make_row' (P := Try.prog) 106 4 (.bool false) 1 Try.underlying106 info_bool rfl .i64 .i64 n (by omega) (by omega)
  have HS := Lib.hid hS
  have hlS := hS.len
  have HN := Lib.hid hSn
  have R0 : Hid ((w.alloc (.cells (madeCells #[.bool false] n) 4)).rowIs w.heap.size 4 n (marksV (openS S 0))) := (World.rowIs_made w _ _ _).congr (fun i _ => by simp [marksV, openS])
  have B0 := Lib.hid (below1 w (.cells (madeCells #[.bool false] n) 4))
  clear hS hSn
  go_enter Try.func126, Try.ntmps126
  go_wp2
  go_loopw [6] (fun iv wr => ∃ k : Nat, k ≤ S.length ∧ iv = .int .i64 k ∧ Hid (wr.rowIs w.heap.size 4 n (marksV (openS S k))) ∧ Hid (Below w.heap.size w wr)) (fun iv _ => S.length - (intOf iv).toNat)
  case atStart => exact ⟨0, Nat.zero_le _, rfl, R0, B0⟩
  case round =>
    clear hmk R0 B0
    obtain ⟨k, hk, rfl, HR, HB⟩ := hrel
    by_cases hlt : k < S.length
    · obtain ⟨b, off, ha, hc⟩ := (HS.out.below HB.out).cell (by omega)
      subst ha
      obtain ⟨u, hu, hun⟩ := HN.out _ (nth_mem hlt)
      have hck := hc k hlt
      rw [hu] at hck
      have hun' : (u : Int) < n := by omega
      have hcs := HR.out.cell hun
      have hcf := HR.out.frozen u
      have R1 : Hid ((wr.setCell ⟨w.heap.size, u, none⟩ (.bool true)).rowIs w.heap.size 4 n (marksV (openS S (k + 1)))) := by rw [openS_succ hlt hu]; exact marks_set HR.out
      have B1 := Lib.hid (HB.out.setCell (p := ⟨w.heap.size, u, none⟩) (Nat.le_refl _) (.bool true))
      clear hc hu
      go_wp2
      go_roundw
      case rel => exact ⟨k + 1, by omega, by go_num, R1, B1⟩
      case measure => simp [intOf]; omega
    · have hkk : k = S.length := by omega
      rw [hkk] at HR
      clear hkk
      go_wp2
      go_ret
      exact ⟨rfl, HR.out, HB.out⟩

theorem loopsK_len (f : Nat → Nat → Bool) (S : List Int) : ∀ k, (loopsK f S k).1.length ≤ k
  | 0 => by simp [loopsK]
  | k + 1 => by
    have ih := loopsK_len f S k
    rw [loopsK]
    split
    · omega
    · simp; omega

/-- Rows of slices of one's own, whatever they hold. -/
def GivesLoops (w : World) (zss : List (List Int)) (e : Ending) (w' : World) : Prop :=
  ∃ v V, e = .returned v ∧ OwnRows w' w.heap.size w'.heap.size v V zss ∧ Below w.heap.size w w'

/-- Row j of far, where it is wanted. -/
def FarAt (wr : World) (n N k : Nat) (I : Nat → Bool) (f : Nat → Nat → Bool) (V : Nat → Value) : Prop :=
  ∀ j, j < k → I j = true → ∃ b, V j = .slice (some ⟨b, 0, none⟩) N N ∧ n ≤ b ∧ wr.rowIs b 4 N (marksV (f j))

theorem FarAt.only {wr w' : World} {n N k : Nat} {I : Nat → Bool} {f : Nat → Nat → Bool} {V : Nat → Value} {S : Nat → Prop} (h : FarAt wr n N k I f V) (hk : Only S wr w') (hs : ∀ b c, wr.rowIs b 4 N c → ¬ S b) : FarAt w' n N k I f V := fun j hj hI => by
  obtain ⟨b, h1, h2, h3⟩ := h j hj hI
  exact ⟨b, h1, h2, rowIs_only h3 hk (hs b _ h3)⟩

theorem range_snoc (V : Nat → Value) (k : Nat) (x : Value) : (List.range k).map V ++ [x] = (List.range (k + 1)).map (fun j => if j = k then x else V j) := by
  rw [List.range_succ, List.map_append]
  congr 1
  · exact List.map_congr_left fun j hj => by rw [if_neg (by have := List.mem_range.1 hj; omega)]
  · simp

theorem far_step {w wr w2 w7 : World} {uu v' x : Value} {k N : Nat} {V : Nat → Value} {I : Nat → Bool} {f : Nat → Nat → Bool} {o : Obj} (ho : wr.ownsRow w.heap.size 106 1 uu k ((List.range k).map V)) (hk : Below wr.heap.size wr w2)
    (hown : w7.ownsRow w.heap.size 106 1 v' (k + 1) ((List.range k).map V ++ [x])) (hgrow : (w2.alloc o).grownBy w7 uu.ownBlock) (hx : I k = true → ∃ b, x = .slice (some ⟨b, 0, none⟩) N N ∧ w.heap.size ≤ b ∧ w2.rowIs b 4 N (marksV (f k)))
    (hf : FarAt wr w.heap.size N k I f V) (hm : wr.rowIs w.heap.size 4 N (marksV I)) (hb : Below w.heap.size w wr) :
    ∃ V', w7.ownsRow w.heap.size 106 1 v' (k + 1) ((List.range (k + 1)).map V') ∧ FarAt w7 w.heap.size N (k + 1) I f V' ∧ w7.rowIs w.heap.size 4 N (marksV I) ∧ Below w.heap.size w w7 := by
  have hka : Below wr.heap.size wr (w2.alloc o) := hk.alloc hk.size o
  have hoa : (w2.alloc o).ownsRow w.heap.size 106 1 uu k ((List.range k).map V) := ownsRow_only ho (S := fun _ => False) (Only.of_below hka) (fun _ _ h => h)
  have keep : ∀ b c, (w2.alloc o).rowIs b 4 N c → w7.rowIs b 4 N c := fun b c h => rowIs_only h (Only.of_grown hgrow) (rowIs_not_own h hoa (by decide))
  refine ⟨fun j => if j = k then x else V j, by rw [← range_snoc]; exact hown, fun j hj hI => ?_, keep _ _ (rowIs_below hm hka), ((hb.trans (hka.mono hb.size)).grown hgrow (Nat.le_trans hb.size hka.size) (fun g hg => (hoa.lt g hg).1))⟩
  by_cases e : j = k
  · subst e
    obtain ⟨b, h1, h2, h3⟩ := hx hI
    exact ⟨b, by simp [h1], h2, keep _ _ (rowIs_below h3 (below1 _ _))⟩
  · obtain ⟨b, h1, h2, h3⟩ := hf j (by omega) hI
    exact ⟨b, by simp [e, h1], h2, keep _ _ (rowIs_below h3 hka)⟩

theorem info_parts' {t : TypeId} {z : Value} {s b : Nat} (h : (Try.prog.info? t).map (fun i => (i.zero, i.size, i.bytes)) = some (some z, s, b)) : ∃ i, Try.prog.info? t = some i ∧ i.zero = some z ∧ i.size = s ∧ i.bytes = b := by
  obtain ⟨i, hi, hz⟩ := Option.map_eq_some_iff.1 h
  simp only [Prod.mk.injEq] at hz
  exact ⟨i, hi, hz.1, hz.2.1, hz.2.2⟩

set_option maxHeartbeats 8000000 in
set_option maxRecDepth 100000 in
theorem l1Loops_is {w : World} {an aS : Option Addr} {A : Nat → Option Addr} {C : Nat → Nat} {zss : List (List Int)} {S : List Int} (cn cS : Nat)
    (hN : RowsAt w an A C zss) (hS : IntsAt w aS S) (hn : zss.length ≤ 256) (hSl : S.length ≤ 256) (hl : ∀ u, u < zss.length → (row zss u).length ≤ 16)
    (hSn : ∀ x ∈ S, ∃ u : Nat, x = (u : Int) ∧ u < zss.length) (hin : ∀ u : Nat, u < zss.length → ∀ x ∈ row zss u, ∃ v : Nat, x = (v : Int) ∧ v < zss.length) :
    Calls Try.prog 83 #[.slice an zss.length cn, .slice aS S.length cS] w (GivesLoops w (loopsS zss S)) := by
  obtain ⟨j0, hj, hj0, hj1, hj2⟩ := info_parts info_int
  obtain ⟨i0, hi, hz0, hz1, hz2⟩ := info_parts info_rows
  obtain ⟨q0, hq, hq0, hq1, hq2⟩ := info_parts' info_bools
  have HNi := Lib.hid hN
  have HSi := Lib.hid hS
  have HL := Lib.hid hl
  have HSN := Lib.hid hSn
  have HIN := Lib.hid hin
  have HMk := Lib.hid (l1Marks_is cS zss.length hS (by omega) hSn)
  obtain ⟨I, hI⟩ : ∃ I, openS S S.length = I := ⟨_, rfl⟩
  obtain ⟨f, hf⟩ : ∃ f, farF zss S = f := ⟨_, rfl⟩
  have HF : Hid (∀ v : Nat, beyM zss I [(v : Int)] = f v) := fun v => by rw [← hf, ← hI]; rfl
  have HE : Hid (loopsS zss S = (loopsK f S S.length).1) := by rw [← hf]; rfl
  have HIT : Hid (∀ x ∈ S, ∀ u : Nat, x = (u : Int) → I u = true) := fun x hx u hu => by rw [← hI]; simp [openS, ← hu, hx]
  rw [hI] at HMk
  clear hN hS hl hSn hin hI hf
  go_enter Try.func83, Try.ntmps83
  go_wp2_with fail
  refine HMk.out.mono ?_
  rintro e w1 ⟨rfl, hm, hb⟩
  have M1 := Lib.hid (rowIs_below hm (below1 w1 (.cells #[] 106)))
  have B1 := Lib.hid (hb.trans ((below1 w1 (.cells #[] 106)).mono hb.size))
  have hs1 : w.heap.size < w1.heap.size := hm.lt
  have F1 : Hid ((w1.alloc (.cells #[] 106)).ownsRow w.heap.size 106 1 (.slice (some ⟨w1.heap.size, 0, none⟩) 0 0) 0 ((List.range 0).map fun _ => Value.slice none 0 0)) := World.ownsRow_made w1 #[] 0 (by omega) (by unfold maxLen; omega) rfl
  clear hm hb HMk
  go_wp2
  go_loopw [6, 7] (fun u iv wr => ∃ (k : Nat) (uu : Value) (V : Nat → Value), uu = u ∧ k ≤ zss.length ∧ iv = .int .i64 k ∧ Hid (wr.ownsRow w.heap.size 106 1 uu k ((List.range k).map V)) ∧ Hid (FarAt wr w.heap.size zss.length k I f V) ∧ Hid (wr.rowIs w.heap.size 4 zss.length (marksV I)) ∧ Hid (Below w.heap.size w wr)) (fun _ iv _ => zss.length - (intOf iv).toNat)
  case atStart => exact ⟨0, _, fun _ => .slice none 0 0, rfl, Nat.zero_le _, rfl, F1, fun j hj => absurd hj (Nat.not_lt_zero _), M1, B1⟩
  case round =>
    clear F1 M1 B1
    obtain ⟨k, uu, V, hu0, hk, rfl, HO, HFar, HM, HB⟩ := hrel
    subst hu0
    have hsz : w.heap.size < wr.heap.size := HM.out.lt
    by_cases hlt : k < zss.length
    · have hi1 : (k : Int) < zss.length := by omega
      have hcs := HM.out.cell hlt
      cases hIk : I k with
      | true =>
        rw [marksV, hIk] at hcs
        have HBey := Lib.hid (l1Beyond_is (w := wr.alloc (.cells #[.int .i64 k] 2)) (F := [(k : Int)]) (aF := some ⟨wr.heap.size, 0, none⟩) (I := I) (bI := w.heap.size) cn 1 ((HNi.out.below HB.out).alloc _) (rowIs_below HM.out (below1 _ _)) (ints_new wr 2 [(k : Int)] (by simp) (by intro z hz; simp at hz; subst hz; unfold Fits; omega)) hn (by simp) HL.out (fun x hx => ⟨k, by simpa using hx, hlt⟩) HIN.out)
        rw [HF.out k] at HBey
        have hsa : (wr.alloc (.cells #[.int .i64 k] 2)).heap.size = wr.heap.size + 1 := by simp
        rw [hsa] at HBey
        go_wp2_with fail
        refine HBey.out.mono ?_
        rintro e w2 ⟨rfl, hr, hb⟩
        have R2 := Lib.hid hr
        have K2 : Hid (Below wr.heap.size wr w2) := (below1 wr (.cells #[.int .i64 k] 2)).trans (hb.mono (by omega))
        have hsz2 : w.heap.size < w2.heap.size := by have := K2.out.size; omega
        have HO2 : Hid (w2.ownsRow w.heap.size 106 1 uu k ((List.range k).map V)) := ownsRow_only HO.out (S := fun _ => False) (Only.of_below K2.out) (fun _ _ h => h)
        have hone : ∀ u ∈ [Value.slice (some (⟨wr.heap.size + 1, 0, none⟩ : Addr)) zss.length zss.length], u.oneCell' = true := by intro u hu; simp at hu; subst hu; rfl
        have HONE := Lib.hid hone
        clear hr hb hsa HBey hone hcs
        go_wp2_with (at_builtin; refine wpList_append_own_at _ rfl _ _ 141 rfl w.heap.size 106 q0 (.slice none 0 0) 1 24 Try.underlying141 hq hq0 hq1 hq2 rfl (by decide) _ _ _ rfl (HO2.out.alloc _) ⟨w2.heap.size, 0, none⟩ 1 1 [.slice (some ⟨wr.heap.size + 1, 0, none⟩) zss.length zss.length] rfl rfl ?c1 ?c2 ?c3 ?c4 ?c5 ?_)
        case c1 => exact cell_one_new _ _ _
        case c2 => exact HONE.out
        case c3 => unfold maxLen; omega
        case c4 => omega
        case c5 => simp; omega
        · intro v' w7 hown' hgrow _ _
          have hst := far_step HO.out K2.out hown' hgrow (fun _ => ⟨_, rfl, by omega, R2.out⟩) HFar.out HM.out HB.out
          obtain ⟨V', h1, h2, h3, h4⟩ := hst
          have G1 := Lib.hid h1
          have G2 := Lib.hid h2
          have G3 := Lib.hid h3
          have G4 := Lib.hid h4
          clear h1 h2 h3 h4 hown' hgrow
          go_wp2
          go_roundw
          case rel => exact ⟨k + 1, _, V', rfl, by omega, by go_num, G1, G2, G3, G4⟩
          case measure => simp [intOf]; omega
      | false =>
        rw [marksV, hIk] at hcs
        have K2 := Lib.hid (below1 wr (.cells #[] 4))
        have HO2 : Hid ((wr.alloc (.cells #[] 4)).ownsRow w.heap.size 106 1 uu k ((List.range k).map V)) := HO.out.alloc _
        have hone : ∀ u ∈ [Value.slice (some (⟨wr.heap.size, 0, none⟩ : Addr)) 0 0], u.oneCell' = true := by intro u hu; simp at hu; subst hu; rfl
        have HONE := Lib.hid hone
        have HIK := Lib.hid hIk
        have CN : Hid (∀ j u, [Value.slice (some ⟨wr.heap.size, 0, none⟩) 0 0][j]? = some u → ((wr.alloc (.cells #[] 4)).alloc (.cells #[.slice (some ⟨wr.heap.size, 0, none⟩) 0 0] 106)).cell? ((⟨wr.heap.size + 1, 0, none⟩ : Addr).add j) = some u) := by
          have h1 := cell_one_new (wr.alloc (.cells #[] 4)) (.slice (some ⟨wr.heap.size, 0, none⟩) 0 0) 106
          have hl : (wr.alloc (.cells #[] 4)).heap.size = wr.heap.size + 1 := by simp
          rw [hl] at h1; exact h1
        clear hone hIk
        go_wp2_with (at_builtin; refine wpList_append_own_at _ rfl _ _ 141 rfl w.heap.size 106 q0 (.slice none 0 0) 1 24 Try.underlying141 hq hq0 hq1 hq2 rfl (by decide) _ _ _ rfl (HO2.out.alloc _) ⟨wr.heap.size + 1, 0, none⟩ 1 1 [.slice (some ⟨wr.heap.size, 0, none⟩) 0 0] rfl rfl ?c1 ?c2 ?c3 ?c4 ?c5 ?_)
        case c1 => exact CN.out
        case c2 => exact HONE.out
        case c3 => unfold maxLen; omega
        case c4 => omega
        case c5 => simp; omega
        · intro v' w7 hown' hgrow _ _
          have hst := far_step HO.out K2.out hown' hgrow (fun h => by rw [HIK.out] at h; cases h) HFar.out HM.out HB.out
          obtain ⟨V', h1, h2, h3, h4⟩ := hst
          have G1 := Lib.hid h1
          have G2 := Lib.hid h2
          have G3 := Lib.hid h3
          have G4 := Lib.hid h4
          clear h1 h2 h3 h4 hown' hgrow hcs
          go_wp2
          go_roundw
          case rel => exact ⟨k + 1, _, V', rfl, by omega, by go_num, G1, G2, G3, G4⟩
          case measure => simp [intOf]; omega
    · have hkk : k = zss.length := by omega
      rw [hkk] at HO HFar
      have hi1 : ¬ (k : Int) < zss.length := by omega
      clear hkk
      obtain ⟨fa, fc, hfa⟩ := own_shape HO.out
      subst hfa
      obtain ⟨we, hwe⟩ : ∃ x, x = wr := ⟨_, rfl⟩
      subst hwe
      have FC : Hid (∀ W', Below we.heap.size we W' → ∀ j, j < zss.length → I j = true → ∃ g b, fa = some ⟨g, 0, none⟩ ∧ W'.cell? ⟨g, j, none⟩ = some (.slice (some ⟨b, 0, none⟩) zss.length zss.length) ∧ ∀ i, i < zss.length → W'.cell? ⟨b, i, none⟩ = some (.bool (f j i))) := fun W' hb j hj hIj => by
        obtain ⟨g, cap, hgv, _⟩ := own_top HO.out (by omega)
        injection hgv with hg1 hg2 hg3
        obtain ⟨b, h1, h2, h3⟩ := HFar.out j hj hIj
        refine ⟨g, b, hg1, ?_, fun i hi => ?_⟩
        · subst hg1
          refine Below.cell_some (B := 0) hb rfl ?_
          rw [HO.out.cellAt j (by omega)]
          simp [hj, h1]
        · exact (rowIs_below h3 hb).cell hi
      obtain ⟨cs, hcs⟩ : ∃ c, madeCells #[.bool false] zss.length = c := ⟨_, rfl⟩
      have hmk : ∀ wx, (Instr.makeSlice 106 (.int .i64 zss.length) (.int .i64 zss.length)).run Try.prog wx = .ok (.slice (some ⟨wx.heap.size, 0, none⟩) zss.length zss.length) (wx.alloc (.cells cs 4)) := fun wx => by
        rw [← hcs]; exact run_make_row' (P := Try.prog) 106 4 (.bool false) 1 Try.underlying106 info_bool rfl .i64 .i64 zss.length (by omega) (by omega) wx
      have hsa : (we.alloc (.cells #[] 24)).heap.size = we.heap.size + 1 := by simp
      have RD : Hid (((we.alloc (.cells #[] 24)).alloc (.cells cs 4)).rowIs (we.heap.size + 1) 4 zss.length (marksV (loopsK f S 0).2)) := by
        have h := (World.rowIs_made (we.alloc (.cells #[] 24)) (.bool false) zss.length 4).congr (g := marksV (loopsK f S 0).2) (fun i _ => by simp [marksV, loopsK])
        rw [hcs, hsa] at h; exact h
      have OO : Hid (OwnRows ((we.alloc (.cells #[] 24)).alloc (.cells cs 4)) we.heap.size ((we.alloc (.cells #[] 24)).alloc (.cells cs 4)).heap.size (.slice (some ⟨we.heap.size, 0, none⟩) 0 0) (fun _ => .slice none 0 0) (loopsK f S 0).1) :=
        ⟨(World.ownsRow_made we #[] 0 (Nat.le_refl _) (by unfold maxLen; omega) rfl).alloc _, fun g hg => by simp [Value.ownBlock] at hg; simp; omega, by simp [loopsK], fun j hj => absurd hj (by simp [loopsK]), fun i j hi => absurd hi (by simp [loopsK])⟩
      have KE := Lib.hid (below2 we (.cells #[] 24) (.cells cs 4))
      have BE := Lib.hid HB.out
      clear hcs hsa HFar HM HB HO
      go_wp2
      go_loopw [8, 10] (fun ov iv wr => ∃ (k : Nat) (oo : Value) (Vo : Nat → Value), oo = ov ∧ k ≤ S.length ∧ iv = .int .i64 k ∧ Hid (OwnRows wr we.heap.size wr.heap.size oo Vo (loopsK f S k).1) ∧ Hid (wr.rowIs (we.heap.size + 1) 4 zss.length (marksV (loopsK f S k).2)) ∧ Hid (Below we.heap.size we wr)) (fun _ iv _ => S.length - (intOf iv).toNat)
      case atStart => exact ⟨0, _, fun _ => .slice none 0 0, rfl, Nat.zero_le _, rfl, OO, RD, KE⟩
      case round =>
        clear OO RD KE hmk
        obtain ⟨k, oo, Vo, ho0, hk, rfl, HOO, HD, HK⟩ := hrel
        subst ho0
        obtain ⟨wq, hwq⟩ : ∃ x, x = wr := ⟨_, rfl⟩
        subst hwq
        have hsq : we.heap.size + 1 < wq.heap.size := HD.out.lt
        by_cases hlt : k < S.length
        · have hi2 : (k : Int) < S.length := by omega
          obtain ⟨sb, soff, hsa, hsc⟩ := (HSi.out.below (BE.out.trans (HK.out.mono BE.out.size))).cell (by omega)
          subst hsa
          obtain ⟨v, hv, hvn⟩ := HSN.out _ (nth_mem hlt)
          have hck := hsc k hlt
          rw [hv] at hck
          clear hsc
          have hIv := HIT.out _ (nth_mem hlt) v hv
          have hvt : (nth S k).toNat = v := by rw [hv]; simp
          obtain ⟨g, b, hfa, hg1, hg2⟩ := FC.out wq HK.out v hvn hIv
          subst hfa
          have hbv := hg2 v hvn
          have hvn' : (v : Int) < zss.length := by omega
          have hcd := HD.out.cell hvn
          have HG2 := Lib.hid hg2
          clear hg2
          cases hd : (loopsK f S k).2 v with
          | true =>
            rw [marksV, hd] at hcd
            have e : loopsK f S (k + 1) = loopsK f S k := by rw [loopsK, hvt, hd]; simp
            have HOO2 : Hid (OwnRows wq we.heap.size wq.heap.size oo Vo (loopsK f S (k + 1)).1) := by rw [e]; exact HOO.out
            have HD2 : Hid (wq.rowIs (we.heap.size + 1) 4 zss.length (marksV (loopsK f S (k + 1)).2)) := by rw [e]; exact HD.out
            clear e hd hv hvt
            go_wp2
            go_roundw
            case rel => exact ⟨k + 1, _, Vo, rfl, by omega, by go_num, HOO2, HD2, HK⟩
            case measure => simp [intOf]; omega
          | false =>
            rw [marksV, hd] at hcd
            cases hff : f v v with
            | false =>
              rw [hff] at hbv
              have e : loopsK f S (k + 1) = loopsK f S k := by rw [loopsK, hvt, hd, hff]; simp
              have HOO2 : Hid (OwnRows wq we.heap.size wq.heap.size oo Vo (loopsK f S (k + 1)).1) := by rw [e]; exact HOO.out
              have HD2 : Hid (wq.rowIs (we.heap.size + 1) 4 zss.length (marksV (loopsK f S (k + 1)).2)) := by rw [e]; exact HD.out
              clear e hd hff hv hvt
              go_wp2
              go_roundw
              case rel => exact ⟨k + 1, _, Vo, rfl, by omega, by go_num, HOO2, HD2, HK⟩
              case measure => simp [intOf]; omega
            | true =>
              rw [hff] at hbv
              obtain ⟨d0, hd0⟩ : ∃ d, (loopsK f S k).2 = d := ⟨_, rfl⟩
              obtain ⟨pp, hpp⟩ : ∃ q : Int → Bool, (fun x => f v x.toNat && f x.toNat v) = q := ⟨_, rfl⟩
              have E1 : Hid ((loopsK f S (k + 1)).1 = (loopsK f S k).1 ++ [S.filter pp]) := by
                have h1 : loopsK f S (k + 1) = ((loopsK f S k).1 ++ [partF f S v], fun u => (loopsK f S k).2 u || hasB (partF f S v) u) := by rw [loopsK, hvt, hd, hff]; simp
                rw [h1, ← hpp]; rfl
              have E2 : Hid ((loopsK f S (k + 1)).2 = fun u : Nat => d0 u || hasB (S.filter pp) u) := by
                have h1 : loopsK f S (k + 1) = ((loopsK f S k).1 ++ [partF f S v], fun u => (loopsK f S k).2 u || hasB (partF f S v) u) := by rw [loopsK, hvt, hd, hff]; simp
                rw [h1, ← hpp, ← hd0]; rfl
              have HPP : Hid (∀ u : Nat, pp (u : Int) = (f v u && f u v)) := fun u => by rw [← hpp]; simp
              have P0 : Hid (OwnInts (wq.alloc (.cells #[] 2)) wq.heap.size (wq.alloc (.cells #[] 2)).heap.size (.slice (some ⟨wq.heap.size, 0, none⟩) 0 0) (partK pp S 0)) := OwnInts.mk' (zs := partK pp S 0) (World.ownsRow_made wq #[] 0 (Nat.le_refl _) (by unfold maxLen; omega) rfl) (by simp [partK]) (fun k hk => absurd hk (by simp [partK]))
              have Q0 : Hid ((wq.alloc (.cells #[] 2)).rowIs (we.heap.size + 1) 4 zss.length (marksV fun u => d0 u || hasB (partK pp S 0) u)) := by
                have h := rowIs_below HD.out (below1 wq (.cells #[] 2))
                rw [hd0] at h
                exact h.congr fun i _ => by simp [marksV, partK, hasB]
              have O0 : Hid (Only (fun b => b = we.heap.size + 1) wq (wq.alloc (.cells #[] 2))) := Only.of_below (below1 _ _)
              clear hd hff hv hvt hd0 hpp
              go_wp2
              go_loopw [12, 13] (fun uv jv wr => ∃ (j : Nat) (pv : Value), pv = uv ∧ j ≤ S.length ∧ jv = .int .i64 j ∧ Hid (OwnInts wr wq.heap.size wr.heap.size pv (partK pp S j)) ∧ Hid (wr.rowIs (we.heap.size + 1) 4 zss.length (marksV fun u => d0 u || hasB (partK pp S j) u)) ∧ Hid (Only (fun b => b = we.heap.size + 1) wq wr)) (fun _ jv _ => S.length - (intOf jv).toNat)
              case atStart => exact ⟨0, _, rfl, Nat.zero_le _, rfl, P0, Q0, O0⟩
              case round =>
                clear P0 Q0 O0
                obtain ⟨j, pv, hp0, hjS, rfl, HP, HQ, HO⟩ := hrel
                subst hp0
                have hszi : wq.heap.size ≤ wr.heap.size := HO.out.size
                have HKi : Hid (Below we.heap.size we wr) := HK.out.trans (HO.out.below (B := we.heap.size) HK.out.size (fun b hb => by omega))
                by_cases hjl : j < S.length
                · have hj3 : (j : Int) < S.length := by omega
                  obtain ⟨sb', soff', hsa', hsc'⟩ := (HSi.out.below (BE.out.trans (HKi.out.mono BE.out.size))).cell (by omega)
                  cases hsa'
                  obtain ⟨u, hu, hun⟩ := HSN.out _ (nth_mem hjl)
                  have hcu := hsc' j hjl
                  rw [hu] at hcu
                  have hIu := HIT.out _ (nth_mem hjl) u hu
                  have hun' : (u : Int) < zss.length := by omega
                  obtain ⟨g1, b1, hg1, hc1, hc2⟩ := FC.out wr HKi.out v hvn hIv
                  cases hg1
                  obtain ⟨g2, b2, hg2, hc3, hc4⟩ := FC.out wr HKi.out u hun hIu
                  cases hg2
                  have hvu := hc2 u hun
                  have huv := hc4 v hvn
                  have hpe : pp (nth S j) = (f v u && f u v) := by rw [hu]; exact HPP.out u
                  clear hsc' hc2 hc4 hcd hbv hg1 hck
                  cases h1 : f v u with
                  | false =>
                    rw [h1] at hvu
                    have e : partK pp S (j + 1) = partK pp S j := by simp [partK, hpe, h1]
                    have HP2 : Hid (OwnInts wr wq.heap.size wr.heap.size pv (partK pp S (j + 1))) := by rw [e]; exact HP.out
                    have HQ2 : Hid (wr.rowIs (we.heap.size + 1) 4 zss.length (marksV fun u => d0 u || hasB (partK pp S (j + 1)) u)) := by rw [e]; exact HQ.out
                    clear e hpe h1 hu
                    go_wp2
                    go_roundw
                    case rel => exact ⟨j + 1, _, rfl, by omega, by go_num, HP2, HQ2, HO⟩
                    case measure => simp [intOf]; omega
                  | true =>
                    rw [h1] at hvu
                    cases h2 : f u v with
                    | false =>
                      rw [h2] at huv
                      have e : partK pp S (j + 1) = partK pp S j := by simp [partK, hpe, h1, h2]
                      have HP2 : Hid (OwnInts wr wq.heap.size wr.heap.size pv (partK pp S (j + 1))) := by rw [e]; exact HP.out
                      have HQ2 : Hid (wr.rowIs (we.heap.size + 1) 4 zss.length (marksV fun u => d0 u || hasB (partK pp S (j + 1)) u)) := by rw [e]; exact HQ.out
                      clear e hpe h1 h2 hu
                      go_wp2
                      go_roundw
                      case rel => exact ⟨j + 1, _, rfl, by omega, by go_num, HP2, HQ2, HO⟩
                      case measure => simp [intOf]; omega
                    | true =>
                      rw [h2] at huv
                      have hpu : pp (u : Int) = true := by rw [HPP.out u, h1, h2]; rfl
                      have HE3 : Hid (partK pp S (j + 1) = partK pp S j ++ [(u : Int)]) := Lib.hid (by simp only [partK]; rw [hu]; simp [hpu])
                      have HPL := Lib.hid (partK_len pp S j)
                      clear hpe h1 h2 hu hpu
                      go_wp2_with (at_builtin; refine wpList_append_own_at _ rfl _ _ 24 rfl wq.heap.size 2 j0 (.int .i64 0) 1 8 Try.underlying24 hj hj0 hj1 hj2 rfl (by decide) _ _ _ rfl (HP.out.own.alloc _) ⟨wr.heap.size, 0, none⟩ 1 1 [.int .i64 u] rfl rfl ?e1 ?e2 ?e3 ?e4 ?e5 ?_)
                      case e1 => exact cell_one_new _ _ _
                      case e2 => intro x hx; simp at hx; subst hx; rfl
                      case e3 => have := HPL.out; unfold maxLen; omega
                      case e4 => have := HPL.out; omega
                      case e5 => simp; omega
                      · intro v' w7 hown' hgrow _ _
                        have hsn := HP.out.snoc (x := u) (by unfold Fits; omega) (by have := HPL.out; omega) hown'
                        rw [← HE3.out] at hsn
                        have hq7 := rowIs_only (rowIs_below HQ.out (below1 wr (.cells #[.int .i64 u] 2))) (Only.of_grown hgrow) (fun e => by have := (HP.out.own.lt _ e).1; omega)
                        have hcd7 := hq7.cell hun
                        have hcf7 := hq7.frozen u
                        have ho7 : Only (fun b => b = we.heap.size + 1) wq w7 := (HO.out.trans (Only.of_below (below1 wr (.cells #[.int .i64 u] 2)))).new (Only.of_grown hgrow) (fun x hx => .inr (HP.out.own.lt x hx).1)
                        have HO8 : Hid (Only (fun b => b = we.heap.size + 1) wq (w7.setCell ⟨we.heap.size + 1, u, none⟩ (.bool true))) := ho7.setCell (p := ⟨we.heap.size + 1, u, none⟩) rfl _
                        have HQ8 : Hid ((w7.setCell ⟨we.heap.size + 1, u, none⟩ (.bool true)).rowIs (we.heap.size + 1) 4 zss.length (marksV fun x => d0 x || hasB (partK pp S (j + 1)) x)) := (marks_set hq7).congr fun i hi => by
                          simp only [marksV, mark1, HE3.out]
                          congr 1
                          rw [Bool.eq_iff_iff]
                          by_cases e : i = u
                          · subst e; simp [hasB]
                          · have e' : ¬ (i : Int) = (u : Int) := by omega
                            simp [e, e', hasB]
                        have HP8 : Hid (OwnInts (w7.setCell ⟨we.heap.size + 1, u, none⟩ (.bool true)) wq.heap.size (w7.setCell ⟨we.heap.size + 1, u, none⟩ (.bool true)).heap.size v' (partK pp S (j + 1))) :=
                          (hsn.only (Only.setCell (S := fun b => b = we.heap.size + 1) (Only.refl _ _) (p := ⟨we.heap.size + 1, u, none⟩) rfl _) (fun g hg e => by have := (hsn.own.lt g hg).1; omega)).retop
                        clear hown' hgrow hsn hq7 ho7
                        go_wp2
                        go_roundw
                        case rel => exact ⟨j + 1, _, rfl, by omega, by go_num, HP8, HQ8, HO8⟩
                        case measure => simp [intOf]; omega
                · have hj3 : ¬ (j : Int) < S.length := by omega
                  have hjj : j = S.length := by omega
                  rw [hjj, partK_all] at HP HQ
                  obtain ⟨pa, pc, hps, -, -⟩ := HP.out.shape
                  subst hps
                  have HOO2 := Lib.hid (HOO.out.only HO.out (fun g hg e => rowIs_not_own HD.out HOO.out.own (by decide) (by rw [hg, e])) (fun q hq g hg e => rowIs_not_own HD.out (HOO.out.rows q hq).own (by decide) (by rw [hg, e])))
                  have hlo := HOO2.out.len
                  have hlk : (loopsK f S k).1.length ≤ k := loopsK_len f S k
                  have hone : ∀ u ∈ [Value.slice pa (S.filter pp).length pc], u.oneCell' = true := by intro u hu; simp at hu; subst hu; rfl
                  have HONE := Lib.hid hone
                  have HLK := Lib.hid hlk
                  clear hjj hone hlk hcd hbv hck hg1
                  go_wp2_with (at_builtin; refine wpList_append_own_at _ rfl _ _ 25 rfl we.heap.size 24 i0 (.slice none 0 0) 1 24 Try.underlying25 hi hz0 hz1 hz2 rfl (by decide) _ _ _ rfl (HOO2.out.own.alloc _) ⟨wr.heap.size, 0, none⟩ 1 1 [.slice pa (S.filter pp).length pc] rfl rfl ?r1 ?r2 ?r3 ?r4 ?r5 ?_)
                  case r2 => rfl
                  case r3 => have := HLK.out; unfold maxLen; omega
                  case r4 => have := HLK.out; omega
                  case r5 => omega
                  · intro v' w7 hown' hgrow _ _
                    have hpu := (HOO2.out.below (below1 wr (.cells #[.slice pa (S.filter pp).length pc] 24))).push (zs := S.filter pp) ((HP.out.below (below1 wr (.cells #[.slice pa (S.filter pp).length pc] 24))).base (by omega)) (fun q hq g h1 h2 => by have h3 := (HP.out.own.lt g h1).1; have h4 := (HOO.out.rows q hq).top g h2; omega) hown' (Only.of_grown hgrow) (by have := HLK.out; omega)
                    rw [← E1.out] at hpu
                    have HU7 := Lib.hid hpu
                    have hoa := HOO2.out.own.alloc (.cells #[.slice pa (S.filter pp).length pc] 24)
                    have hqa := rowIs_below HQ.out (below1 wr (.cells #[.slice pa (S.filter pp).length pc] 24))
                    have hq7 := rowIs_only hqa (Only.of_grown hgrow) (rowIs_not_own hqa hoa (by decide))
                    have HQ7 : Hid (w7.rowIs (we.heap.size + 1) 4 zss.length (marksV (loopsK f S (k + 1)).2)) := by rw [E2.out]; exact hq7
                    have HK7 := Lib.hid ((HKi.out.alloc HKi.out.size (.cells #[.slice pa (S.filter pp).length pc] 24)).grown hgrow (by simp; omega) (fun g hg => (hoa.lt g hg).1))
                    clear hown' hgrow hpu hoa hqa hq7
                    go_wp2
                    go_roundw
                    case rel => exact ⟨k + 1, _, _, rfl, by omega, by go_num, HU7, HQ7, HK7⟩
                    case measure => simp [intOf]; omega
        · have hi2 : ¬ (k : Int) < S.length := by omega
          have hks : k = S.length := by omega
          rw [hks] at HOO
          have HFIN := Lib.hid (And.intro (HOO.out.base (B' := w.heap.size) BE.out.size) (BE.out.trans (HK.out.mono BE.out.size)))
          clear hks
          go_wp2
          go_ret
          exact ⟨_, _, rfl, by rw [HE.out]; exact HFIN.out.1, HFIN.out.2⟩

end Go.Proofs.Ytaagbnogbhegdaa
