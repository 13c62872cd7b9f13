/-
  Contracts: the cursor (newCursor, follow, take) and upTo.
-/
import Derived.Test.YtkfmaajhemijlaaBeyond
namespace Go.Proofs.Ytkfmaajhemijlaa
open Go.RowKit

/-- One call after another; what each leaves behind is appended. -/
def dfsL (step : (Nat → Bool) → Nat → (Nat → Bool) × List Int) : (Nat → Bool) → List Int → (Nat → Bool) × List Int
  | o, [] => (o, [])
  | o, u :: us => ((dfsL step (step o u.toNat).1 us).1, (step o u.toNat).2 ++ (dfsL step (step o u.toNat).1 us).2)

/-- What the walk from v leaves open, and what it leaves behind, in its order. -/
def dfs (zss : List (List Int)) : Nat → (Nat → Bool) → Nat → (Nat → Bool) × List Int
  | 0, o, _ => (o, [])
  | f + 1, o, v => if o v = true then ((dfsL (dfs zss f) (mark1 o v false) (row zss v)).1, (dfsL (dfs zss f) (mark1 o v false) (row zss v)).2 ++ [(v : Int)]) else (o, [])

theorem dfsL_snoc (step : (Nat → Bool) → Nat → (Nat → Bool) × List Int) (us : List Int) (u : Int) : ∀ o, dfsL step o (us ++ [u]) = ((step (dfsL step o us).1 u.toNat).1, (dfsL step o us).2 ++ (step (dfsL step o us).1 u.toNat).2) := by
  induction us with
  | nil => intro o; simp [dfsL]
  | cons x xs ih => intro o; simp [dfsL, ih, List.append_assoc]

/-- How many of the first n are open. -/
def opens (o : Nat → Bool) : Nat → Nat
  | 0 => 0
  | k + 1 => opens o k + if o k = true then 1 else 0

theorem opens_le (o : Nat → Bool) (n : Nat) : opens o n ≤ n := by
  induction n with
  | zero => simp [opens]
  | succ k ih => simp only [opens]; split <;> omega

theorem opens_mono {o o' : Nat → Bool} {n : Nat} (h : ∀ i, i < n → o' i = true → o i = true) : opens o' n ≤ opens o n := by
  induction n with
  | zero => simp [opens]
  | succ k ih =>
    have h1 := ih (fun i hi => h i (by omega))
    simp only [opens]
    by_cases e : o' k = true
    · rw [if_pos e, if_pos (h k (by omega) e)]; omega
    · rw [if_neg e]; omega

theorem opens_shut {o : Nat → Bool} {n v : Nat} (hv : v < n) (ho : o v = true) : opens (mark1 o v false) n + 1 = opens o n := by
  induction n with
  | zero => omega
  | succ k ih =>
    simp only [opens]
    by_cases e : v = k
    · subst e
      have h1 : opens (mark1 o v false) v = opens o v := by
        apply Nat.le_antisymm
        · exact opens_mono fun i hi h => by simpa [mark1, show i ≠ v from by omega] using h
        · exact opens_mono fun i hi h => by simpa [mark1, show i ≠ v from by omega] using h
      rw [h1, mark1_self, ho]; simp
    · have h1 := ih (by omega)
      have h2 : mark1 o v false k = o k := by simp [mark1, show k ≠ v from fun h => e h.symm]
      rw [h2]; omega

/-- A step that opens nothing. -/
def Shuts (step : (Nat → Bool) → Nat → (Nat → Bool) × List Int) : Prop := ∀ o v i, (step o v).1 i = true → o i = true

theorem dfsL_shuts {step : (Nat → Bool) → Nat → (Nat → Bool) × List Int} (h : Shuts step) (us : List Int) : ∀ o i, (dfsL step o us).1 i = true → o i = true := by
  induction us with
  | nil => intro o i hi; exact hi
  | cons u us ih => intro o i hi; exact h o _ i (ih _ i hi)

theorem dfs_shuts (zss : List (List Int)) : ∀ f, Shuts (dfs zss f) := by
  intro f
  induction f with
  | zero => intro o v i h; exact h
  | succ f ih =>
    intro o v i h
    simp only [dfs] at h
    split at h
    · have := dfsL_shuts ih _ _ _ h
      simp only [mark1] at this
      split at this
      · simp at this
      · exact this
    · exact h

def tri (a b c : Value) : Nat → Value := fun i => if i = 0 then a else if i = 1 then b else c

theorem tri_set {a b c d : Value} : ∀ i, i < 3 → (if i = 2 then d else tri a b c i) = tri a b d i := fun i hi => by
  have h : i = 0 ∨ i = 1 ∨ i = 2 := by omega
  rcases h with rfl | rfl | rfl <;> simp [tri]

/-- The cursor in block p: its marks in block bo, what it has left behind in vl. -/
structure Cur (w : World) (p bo B n : Nat) (sn vl : Value) (o : Nat → Bool) (left : List Int) : Prop where
  str : w.rowIs p 80 3 (tri sn (.slice (some ⟨bo, 0, none⟩) n n) vl)
  opn : w.rowIs bo 4 n (marksV o)
  lft : w.ownsRow B 2 1 vl left.length (left.map (Value.int .i64))

theorem dfsL_len {step : (Nat → Bool) → Nat → (Nat → Bool) × List Int} {n : Nat} (h : ∀ o v, v < n → (step o v).2.length + opens (step o v).1 n ≤ opens o n) (us : List Int) (hus : ∀ x ∈ us, ∃ v : Nat, x = (v : Int) ∧ v < n) : ∀ o, (dfsL step o us).2.length + opens (dfsL step o us).1 n ≤ opens o n := by
  induction us with
  | nil => intro o; simp [dfsL]
  | cons u us ih =>
    intro o
    obtain ⟨v, h1, h2⟩ := hus u (by simp)
    subst h1
    have h3 := h o v h2
    have h4 := ih (fun x hx => hus x (by simp [hx])) (step o v).1
    simp only [dfsL, Int.toNat_natCast, List.length_append]
    omega

theorem dfs_len {zss : List (List Int)} (hin : ∀ u : Nat, u < zss.length → ∀ x ∈ row zss u, ∃ v : Nat, x = (v : Int) ∧ v < zss.length) : ∀ f o v, v < zss.length → (dfs zss f o v).2.length + opens (dfs zss f o v).1 zss.length ≤ opens o zss.length := by
  intro f
  induction f with
  | zero => intro o v _; simp [dfs]
  | succ f ih =>
    intro o v hv
    simp only [dfs]
    split
    · next ho =>
      have h1 := opens_shut hv ho
      have h2 := dfsL_len (step := dfs zss f) ih (row zss v) (hin v hv) (mark1 o v false)
      simp only [List.length_append, List.length_singleton]
      omega
    · simp

theorem Cur.c0 {w : World} {p bo B n : Nat} {sn vl : Value} {o : Nat → Bool} {left : List Int} (h : Cur w p bo B n sn vl o left) : w.cell? ⟨p, 0, none⟩ = some sn := h.str.cell (i := 0) (by omega)
theorem Cur.c1 {w : World} {p bo B n : Nat} {sn vl : Value} {o : Nat → Bool} {left : List Int} (h : Cur w p bo B n sn vl o left) : w.cell? ⟨p, 1, none⟩ = some (.slice (some ⟨bo, 0, none⟩) n n) := h.str.cell (i := 1) (by omega)
theorem Cur.c2 {w : World} {p bo B n : Nat} {sn vl : Value} {o : Nat → Bool} {left : List Int} (h : Cur w p bo B n sn vl o left) : w.cell? ⟨p, 2, none⟩ = some vl := h.str.cell (i := 2) (by omega)

theorem Cur.below {w w' : World} {p bo B n : Nat} {sn vl : Value} {o : Nat → Bool} {left : List Int} (h : Cur w p bo B n sn vl o left) (hb : Below w.heap.size w w') : Cur w' p bo B n sn vl o left :=
  ⟨rowIs_below h.str hb, rowIs_below h.opn hb, ownsRow_only h.lft (S := fun _ => False) (Only.of_below hb) (fun _ _ h => h)⟩

set_option maxHeartbeats 4000000 in
set_option maxRecDepth 100000 in
theorem follow_is {w0 : World} {an : Option Addr} {A : Nat → Option Addr} {C : Nat → Nat} {cn : Nat} {zss : List (List Int)} {p bo B : Nat} (hN : RowsAt w0 an A C zss) (hn : zss.length ≤ 256) (hl : ∀ u, u < zss.length → (row zss u).length ≤ 256)
    (hin : ∀ u : Nat, u < zss.length → ∀ x ∈ row zss u, ∃ v : Nat, x = (v : Int) ∧ v < zss.length) (hp : w0.heap.size ≤ p) (hbo : w0.heap.size ≤ bo) (hpB : p < B) (hboB : bo < B) (hne : p ≠ bo) :
    ∀ f, ∀ (w : World) (vl : Value) (o : Nat → Bool) (left : List Int) (v : Nat), v < zss.length → opens o zss.length < f → left.length + opens o zss.length ≤ 256 → B ≤ w.heap.size → Below w0.heap.size w0 w → Cur w p bo B zss.length (.slice an zss.length cn) vl o left →
      Calls Try.prog 33 #[.pointer (some ⟨p, 0, none⟩), .int .i64 v] w fun e w' => e = .returned (.tuple #[]) ∧
        (∃ vl', Cur w' p bo B zss.length (.slice an zss.length cn) vl' (dfs zss f o v).1 (left ++ (dfs zss f o v).2)) ∧ Only (fun b => b = p ∨ b = bo ∨ B ≤ b) w w' := by
  intro f
  induction f with
  | zero => intro w vl o left v _ h; omega
  | succ f ih =>
    intro w vl o left v hv hf hll hBw hb0 hc
    obtain ⟨j0, hj, hj0, hj1, hj2⟩ := info_parts info_int
    have HNi := Lib.hid hN
    have HIN := Lib.hid hin
    have HL := Lib.hid hl
    have HC := Lib.hid hc
    have HB0 := Lib.hid hb0
    have IH := Lib.hid ih
    clear ih hN hin hc hb0 hl
    have p1 := HC.out.c1
    have hov := HC.out.opn.cell hv
    have hi1 : (v : Int) < zss.length := by omega
    cases ho : o v with
    | false =>
      have HE : Hid ((dfs zss (f + 1) o v).1 = o ∧ left ++ (dfs zss (f + 1) o v).2 = left) := by simp [dfs, ho, Hid]
      rw [marksV, ho] at hov
      clear ho
      go_enter Try.func33, Try.ntmps33
      go_wp2
      exact bodyPost_ret (v := .tuple #[]) (by simp [results, Try.results33, go_sem]) rfl ⟨rfl, ⟨vl, by rw [HE.out.1, HE.out.2]; exact HC.out⟩, Only.refl _ _⟩
    | true =>
      have HSH := Lib.hid (opens_shut hv ho)
      have HE : Hid ((dfs zss (f + 1) o v).1 = (dfsL (dfs zss f) (mark1 o v false) (row zss v)).1 ∧ left ++ (dfs zss (f + 1) o v).2 = (left ++ (dfsL (dfs zss f) (mark1 o v false) (row zss v)).2) ++ [(v : Int)]) := by simp [dfs, ho, Hid]
      rw [marksV, ho] at hov
      have hfo := HC.out.opn.frozen v
      obtain ⟨bn, offn, ha, hcs⟩ := (HNi.out.below HB0.out).cell (by omega)
      subst ha
      have O1 : Hid (Only (fun b => b = p ∨ b = bo ∨ B ≤ b) w (w.setCell ⟨bo, v, none⟩ (.bool false))) := (Only.refl (fun b => b = p ∨ b = bo ∨ B ≤ b) w).setCell (p := ⟨bo, v, none⟩) (.inr (.inl rfl)) _
      have O1' : Only (fun b => b = bo) w (w.setCell ⟨bo, v, none⟩ (.bool false)) := (Only.refl (fun b => b = bo) w).setCell (p := ⟨bo, v, none⟩) rfl _
      have C1 : Hid (Cur (w.setCell ⟨bo, v, none⟩ (.bool false)) p bo B zss.length (.slice (some ⟨bn, offn, none⟩) zss.length cn) vl (mark1 o v false) left) :=
        ⟨rowIs_only HC.out.str O1' hne, marks_set HC.out.opn, ownsRow_only HC.out.lft O1' (fun g hg e => by have := (HC.out.lft.lt g hg).1; omega)⟩
      have p0 := C1.out.c0
      have hvn := (HNi.out.below (HB0.out.setCell (p := ⟨bo, v, none⟩) hbo (.bool false))).cell (by omega)
      obtain ⟨bn', offn', ha, hcs'⟩ := hvn
      obtain ⟨rfl, rfl⟩ : bn = bn' ∧ offn = offn' := by simpa using ha
      have hvn := hcs' v hv
      clear ho O1' hcs hcs' ha
      go_enter Try.func33, Try.ntmps33
      obtain ⟨w1, hw1⟩ : ∃ w1, w1 = w.setCell ⟨bo, v, none⟩ (.bool false) := ⟨_, rfl⟩
      have HW1 := Lib.hid hw1
      have O1w : Hid (Only (fun b => b = p ∨ b = bo ∨ B ≤ b) w w1) := by rw [hw1]; exact O1.out
      have C1w : Hid (Cur w1 p bo B zss.length (.slice (some ⟨bn, offn, none⟩) zss.length cn) vl (mark1 o v false) left) := by rw [hw1]; exact C1.out
      have hs1 : w.heap.size ≤ w1.heap.size := O1w.out.size
      clear hw1 O1 C1
      have hl16 := HL.out v hv
      have hop := HSH.out
      go_wp2
      rw [← HW1.out]
      go_loopw [28] (fun i wr => ∃ k : Nat, k ≤ (row zss v).length ∧ i = .int .i64 k ∧ Hid (∃ vl, Cur wr p bo B zss.length (.slice (some ⟨bn, offn, none⟩) zss.length cn) vl (dfsL (dfs zss f) (mark1 o v false) ((row zss v).take k)).1 (left ++ (dfsL (dfs zss f) (mark1 o v false) ((row zss v).take k)).2)) ∧ Hid (Only (fun b => b = p ∨ b = bo ∨ B ≤ b) w wr)) (fun i _ => (row zss v).length - (intOf i).toNat)
      case atStart => exact ⟨0, Nat.zero_le _, rfl, ⟨vl, by simpa [dfsL] using C1w.out⟩, O1w.out⟩
      case round =>
        clear C1w O1w p0 p1 hvn hov hfo
        obtain ⟨k, hk, rfl, HCC, HO⟩ := hrel
        have hsr := HO.out.size
        have HBr := Lib.hid (HB0.out.trans (HO.out.below (B := w0.heap.size) HB0.out.size (fun b hb => by omega)))
        have hlen := dfsL_len (step := dfs zss f) (dfs_len HIN.out f) ((row zss v).take k) (fun x hx => HIN.out v hv x (List.mem_of_mem_take hx)) (mark1 o v false)
        by_cases hlt : k < (row zss v).length
        · obtain ⟨b3, off3, ha3, hc3⟩ := ((HNi.out.below HBr.out).rows v hv).cell (by omega)
          have hck3 := hc3 k hlt
          obtain ⟨x, hx, hxn⟩ := HIN.out v hv _ (nth_mem hlt)
          have HX : Hid ((row zss v).take (k + 1) = (row zss v).take k ++ [(x : Int)]) := by
            rw [List.take_add_one, List.getElem?_eq_getElem hlt, ← hx, nth_eq hlt]; rfl
          rw [hx] at hck3
          clear hx hc3
          rw [ha3]
          have hi4 : (k : Int) < (row zss v).length := by omega
          obtain ⟨vl', hcc⟩ := HCC.out
          have HI := Lib.hid (IH.out wr vl' _ _ x hxn (by omega) (by simp only [List.length_append]; omega) (by omega) HBr.out hcc)
          clear hcc
          go_wp2_with fail
          refine HI.out.mono ?_
          rintro e w2 ⟨rfl, hc2, ho2⟩
          have HN2 : Hid (∃ vl, Cur w2 p bo B zss.length (.slice (some ⟨bn, offn, none⟩) zss.length cn) vl (dfsL (dfs zss f) (mark1 o v false) ((row zss v).take (k + 1))).1 (left ++ (dfsL (dfs zss f) (mark1 o v false) ((row zss v).take (k + 1))).2)) := by
            rw [HX.out, dfsL_snoc]
            simpa [List.append_assoc, Hid] using hc2
          have HO2 := Lib.hid (HO.out.trans ho2)
          clear hc2 ho2
          go_wp2
          go_roundw
          case rel => exact ⟨k + 1, by omega, by go_num, HN2, HO2⟩
          case measure => simp [intOf]; omega
        · have hkk : k = (row zss v).length := by omega
          obtain ⟨vl', hcc⟩ := HCC.out
          rw [hkk, List.take_length] at hcc hlen
          rw [← HE.out.1] at hcc
          have HCf := Lib.hid hcc
          have hi4 : ¬ (k : Int) < (row zss v).length := by omega
          have hi5 : ¬ k < (row zss v).length := hlt
          have q2 := hcc.c2
          have qf := hcc.str.frozen 2
          obtain ⟨L, hL⟩ : ∃ L, L = left ++ (dfsL (dfs zss f) (mark1 o v false) (row zss v)).2 := ⟨_, rfl⟩
          have hLl : L.length ≤ 256 := by rw [hL]; simp only [List.length_append]; omega
          have HLE : Hid (left ++ (dfs zss (f + 1) o v).2 = L ++ [(v : Int)]) := by rw [hL]; exact HE.out.2
          rw [← hL] at HCf
          have hfr := HCf.out.lft
          clear hcc hkk hL
          go_wp2_with (at_builtin; refine wpList_append_own_at _ rfl _ _ 24 rfl B 2 j0 (.int .i64 0) 1 8 Try.underlying24 hj hj0 hj1 hj2 rfl (by decide) _ _ _ rfl (hfr.alloc _) ⟨wr.heap.size, 0, none⟩ 1 1 [.int .i64 v] rfl rfl ?c1 ?c2 ?c3 ?c4 ?c5 ?_)
          case c2 => rfl
          case c3 => unfold maxLen; omega
          case c4 => omega
          case c5 => first | omega | (simp; omega)
          · intro v' w7 hown' hgrow _ _
            have e1 : (L ++ [(v : Int)]).length = L.length + 1 := by simp
            have e2 : (L ++ [(v : Int)]).map (Value.int .i64) = L.map (Value.int .i64) ++ [.int .i64 v] := by simp
            have hO7 : Only (fun b => b = p ∨ b = bo ∨ B ≤ b) (wr.alloc (.cells #[.int .i64 v] 2)) w7 := (Only.of_grown hgrow).mono fun b hb => .inr (.inr (HCf.out.lft.lt b hb).1)
            have hs7 := rowIs_only (rowIs_below HCf.out.str (below1 wr (.cells #[.int .i64 v] 2))) (Only.of_grown hgrow) (fun e => by have := (HCf.out.lft.lt _ e).1; omega)
            have ho7 := rowIs_only (rowIs_below HCf.out.opn (below1 wr (.cells #[.int .i64 v] 2))) (Only.of_grown hgrow) (fun e => by have := (HCf.out.lft.lt _ e).1; omega)
            obtain ⟨g7, cap7, hv7, _, _, hg7⟩ := own_top hown' (by omega)
            subst hv7
            have hown2 : w7.ownsRow B 2 1 (.slice (some ⟨g7, 0, none⟩) (L.length + 1) cap7) (L ++ [(v : Int)]).length ((L ++ [(v : Int)]).map (Value.int .i64)) := by rw [e1, e2]; exact hown'
            have O8 : Only (fun b => b = p) w7 (w7.setCell ⟨p, 2, none⟩ (.slice (some ⟨g7, 0, none⟩) (L.length + 1) cap7)) := (Only.refl (fun b => b = p) w7).setCell (p := ⟨p, 2, none⟩) rfl _
            have C8 : Hid (Cur (w7.setCell ⟨p, 2, none⟩ (.slice (some ⟨g7, 0, none⟩) (L.length + 1) cap7)) p bo B zss.length (.slice (some ⟨bn, offn, none⟩) zss.length cn) (.slice (some ⟨g7, 0, none⟩) (L.length + 1) cap7) (dfs zss (f + 1) o v).1 (L ++ [(v : Int)])) :=
              ⟨(hs7.set 2 _).congr tri_set, rowIs_only ho7 O8 (fun e => hne e.symm), ownsRow_only hown2 O8 (fun g hg e => by have := (hown2.lt g hg).1; omega)⟩
            have HO8 : Hid (Only (fun b => b = p ∨ b = bo ∨ B ≤ b) w (w7.setCell ⟨p, 2, none⟩ (.slice (some ⟨g7, 0, none⟩) (L.length + 1) cap7))) :=
              ((HO.out.trans (Only.of_below (below1 wr (.cells #[.int .i64 v] 2)))).trans hO7).trans (O8.mono fun b hb => .inl hb)
            have q8 := hs7.frozen 2
            have q9 := hs7.cell (i := 2) (by omega)
            simp only [tri] at q9
            clear hown' hown2 hgrow e1 e2 hO7 hs7 ho7 O8
            go_wp2
            exact bodyPost_end (v := .tuple #[]) (by simp [results, Try.results33, go_sem]) rfl ⟨rfl, ⟨_, by rw [HLE.out]; exact C8.out⟩, HO8.out⟩

end Go.Proofs.Ytkfmaajhemijlaa
