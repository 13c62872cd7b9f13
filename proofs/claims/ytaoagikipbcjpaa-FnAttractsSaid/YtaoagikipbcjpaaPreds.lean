/-
  Contracts: PredsOf and its model.
-/
import Derived.Test.YtaoagikipbcjpaaOwn
import Derived.Test.YtaoagikipbcjpaaCopy
import Derived.Test.YtaoagikipbcjpaaEdge
import Derived.Maps.AppendAt
namespace Go.Proofs.Ytaoagikipbcjpaa
section
open Go.RowKit

theorem OwnInts.mk' {w : World} {B : Nat} {v : Value} {zs : List Int} (h : w.ownsRow B 2 1 v zs.length (zs.map (Value.int .i64))) (hl : zs.length ≤ 17592186044416) (hf : ∀ k, k < zs.length → Fits (nth zs k)) : OwnInts w B w.heap.size v zs :=
  ⟨h, fun g hg => (h.lt g hg).2, hl, hf⟩
theorem ownsRow_base {w : World} {B B' : Nat} {e : TypeId} {size : Nat} {v : Value} {n : Nat} {xs : List Value} (h : w.ownsRow B e size v n xs) (hB : B' ≤ B) : w.ownsRow B' e size v n xs := by
  refine ⟨h.1, ?_⟩
  rcases h.2 with hn | ⟨g, cap, cur, hv, hb, r⟩
  · exact .inl hn
  · exact .inr ⟨g, cap, cur, hv, by omega, r⟩
theorem OwnInts.nil (w : World) (B D : Nat) : OwnInts w B D (.slice none 0 0) [] :=
  ⟨World.ownsRow_nil _ _ _ _, fun g hg => by simp [Value.ownBlock] at hg, by simp, fun k hk => absurd hk (by simp)⟩

/-- A call hands back a slice of its own that reads as zs, and nothing that was there has turned. -/
def GivesInts (w : World) (zs : List Int) (e : Ending) (w' : World) : Prop :=
  ∃ v, e = .returned v ∧ OwnInts w' w.heap.size w'.heap.size v zs ∧ Below w.heap.size w w'

/-- The predecessors of u among the first k vertices. -/
def predsK (zss : List (List Int)) (u : Int) : Nat → List Int
  | 0 => []
  | k + 1 => predsK zss u k ++ if hasB (row zss k) u then [(k : Int)] else []

theorem predsK_len (zss : List (List Int)) (u : Int) (k : Nat) : (predsK zss u k).length ≤ k := by
  induction k with
  | zero => simp [predsK]
  | succ k ih => simp only [predsK]; split <;> simp <;> omega

theorem predsK_mem (zss : List (List Int)) (u : Int) (k : Nat) : ∀ x ∈ predsK zss u k, 0 ≤ x ∧ x < k := by
  induction k with
  | zero => simp [predsK]
  | succ k ih =>
    intro x hx
    simp only [predsK, List.mem_append] at hx
    rcases hx with hx | hx
    · have := ih x hx; omega
    · split at hx
      · simp at hx; omega
      · simp at hx

theorem nth_mem {zs : List Int} {k : Nat} (h : k < zs.length) : nth zs k ∈ zs := by rw [nth_eq h]; exact List.getElem_mem _

theorem predsK_fits (zss : List (List Int)) (u : Int) (k : Nat) (hk : k ≤ 17592186044416) : ∀ j, j < (predsK zss u k).length → Fits (nth (predsK zss u k) j) := fun j hj => by
  have := predsK_mem zss u k _ (nth_mem hj)
  unfold Fits; omega

open Classical in
/-- The value of PredsOf. -/
noncomputable def predsL (O : List Int) (zss : List (List Int)) (u : Int) : List Int := if ArenaP O zss ∧ thereB O.length u = true then predsK zss u zss.length else []

end

section
open Go.RowKit

/-- n rows, row u is R u. -/
def rowsOf (n : Nat) (R : Nat → List Int) : List (List Int) := (List.range n).map R
theorem rowsOf_len (n : Nat) (R : Nat → List Int) : (rowsOf n R).length = n := by simp [rowsOf]
theorem rowsOf_row {n u : Nat} {R : Nat → List Int} (h : u < n) : row (rowsOf n R) u = R u := by simp [row, rowsOf, h]
theorem rowsOf_congr {n : Nat} {R R' : Nat → List Int} (h : ∀ u, u < n → R u = R' u) : rowsOf n R = rowsOf n R' := by
  unfold rowsOf; exact List.map_congr_left fun u hu => h u (List.mem_range.1 hu)

/-- n rows in memory: the outer slice lies at the head of block g. -/
structure RowSet (w : World) (B g n : Nat) (V : Nat → Value) (R : Nat → List Int) : Prop where
  own : w.ownsRow B 27 1 (.slice (some ⟨g, 0, none⟩) n n) n ((List.range n).map V)
  rows : ∀ k, k < n → OwnInts w B w.heap.size (V k) (R k)
  apart : ∀ i j, i < n → j < n → i ≠ j → ∀ b, (V i).ownBlock = some b → (V j).ownBlock ≠ some b

theorem OwnInts.retop {w : World} {B D : Nat} {v : Value} {zs : List Int} (h : OwnInts w B D v zs) : OwnInts w B w.heap.size v zs := ⟨h.own, fun g hg => (h.own.lt g hg).2, h.len, h.fits⟩

theorem RowSet.put {w w1 : World} {B g n u : Nat} {V : Nat → Value} {R : Nat → List Int} (h : RowSet w B g n V R) (hu : u < n) {v' : Value} {zs' : List Int} (h1 : OwnInts w1 B w1.heap.size v' zs') (hg : Only (fun b => (V u).ownBlock = some b) w w1)
    (hw : v'.ownBlock = (V u).ownBlock ∨ ∃ X, v'.ownBlock = some X ∧ w.heap.size ≤ X) : RowSet (w1.setCell ⟨g, u, none⟩ v') B g n (fun i => if i = u then v' else V i) (fun i => if i = u then zs' else R i) := by
  have ho := ownsRow_only h.own hg (own_types h.own (h.rows u hu).own)
  obtain ⟨hs, hgr⟩ := ho.stored u v'
  have hS : Only (fun b => b = g) w1 (w1.setCell ⟨g, u, none⟩ v') := Only.setCell (S := fun b => b = g) (Only.refl _ _) (p := ⟨g, u, none⟩) rfl v'
  refine ⟨?_, fun k hk => ?_, fun i j hi hj hne b hb hb' => ?_⟩
  · have e : ((List.range n).map V).set u v' = (List.range n).map (fun i => if i = u then v' else V i) := by
      apply List.ext_getElem?
      intro i
      by_cases hi : i < n
      · by_cases e : i = u
        · subst e; simp [hi]
        · simp [hi, e, Ne.symm e]
      · simp [hi]
    rw [← e]; exact hs
  · by_cases e : k = u
    · subst e
      simp only [if_true]
      exact (h1.only hS (fun b hb e => own_types ho h1.own b (by simp [Value.ownBlock, e]) hb)).retop
    · simp only [if_neg e]
      have hr := (h.rows k hk).only hg (h.apart k u hk hu e)
      exact (hr.only hS (fun b hb e => own_types ho hr.own b (by simp [Value.ownBlock, e]) hb)).retop
  · have hlt : ∀ k, k < n → ∀ b, (V k).ownBlock = some b → b < w.heap.size := fun k hk b hb => ((h.rows k hk).own.lt b hb).2
    by_cases e : i = u
    · subst e
      simp only [if_true] at hb
      simp only [if_neg (Ne.symm hne)] at hb'
      rcases hw with hw | ⟨X, hX, hge⟩
      · rw [hw] at hb; exact h.apart i j hi hj hne b hb hb'
      · rw [hX] at hb; have := hlt j hj b hb'; simp at hb; omega
    · simp only [if_neg e] at hb
      by_cases e' : j = u
      · subst e'
        simp only [if_true] at hb'
        rcases hw with hw | ⟨X, hX, hge⟩
        · rw [hw] at hb'; exact h.apart i j hi hj hne b hb hb'
        · rw [hX] at hb'; have := hlt i hi b hb; simp at hb'; omega
      · simp only [if_neg e'] at hb'
        exact h.apart i j hi hj hne b hb hb'

theorem RowSet.congr {w : World} {B g n : Nat} {V : Nat → Value} {R R' : Nat → List Int} (h : RowSet w B g n V R) (e : ∀ u, u < n → R u = R' u) : RowSet w B g n V R' :=
  ⟨h.own, fun k hk => by rw [← e k hk]; exact h.rows k hk, h.apart⟩
theorem RowSet.below {w w' : World} {B g n : Nat} {V : Nat → Value} {R : Nat → List Int} (h : RowSet w B g n V R) (hb : Below w.heap.size w w') : RowSet w' B g n V R :=
  ⟨ownsRow_only h.own (S := fun _ => False) (Only.of_below hb) (fun _ _ h => h), fun k hk => ((h.rows k hk).below hb).retop, h.apart⟩
theorem RowSet.start (w : World) {B g : Nat} (hg : g = w.heap.size) (hB : B ≤ w.heap.size) (n : Nat) (hn : n ≤ maxLen) : RowSet (w.alloc (.cells (madeCells #[.slice none 0 0] n) 27)) B g n (fun _ => .slice none 0 0) (fun _ => []) := by
  subst hg
  exact ⟨ownsRow_of_rowIs (World.rowIs_made w (.slice none 0 0) n 27) hB hn, fun k _ => OwnInts.nil _ _ _, fun i j _ _ _ b hb => by simp [Value.ownBlock] at hb⟩
theorem RowSet.shape {w : World} {B g n u : Nat} {V : Nat → Value} {R : Nat → List Int} (h : RowSet w B g n V R) (hu : u < n) : V u = .slice (addrOf (V u)) (R u).length (capOf (V u)) ∧ w.cell? ⟨g, u, none⟩ = some (.slice (addrOf (V u)) (R u).length (capOf (V u))) ∧ w.frozen? ⟨g, u, none⟩ = false := by
  obtain ⟨a, cap, hv, _, _⟩ := (h.rows u hu).shape
  have e : V u = .slice (addrOf (V u)) (R u).length (capOf (V u)) := by rw [hv]; rfl
  refine ⟨e, ?_, h.own.frozenAt u⟩
  rw [h.own.cellAt u (by omega), ← e]
  simp [hu]

/-- A valid row's numbers rise and are vertices. -/
theorem setFrom_bounds (n : Int) : ∀ (zs : List Int) (l : Int), setFrom n l zs = true → ∀ k, k < zs.length → l < nth zs k ∧ nth zs k < n ∧ ∀ j, j < k → nth zs j < nth zs k
  | [], _, _, k, hk => absurd hk (by simp)
  | z :: r, l, h, k, hk => by
    simp only [setFrom, Bool.and_eq_true, decide_eq_true_eq] at h
    have ih := setFrom_bounds n r z h.2
    cases k with
    | zero => exact ⟨by simpa [nth] using h.1.1, by simpa [nth] using h.1.2, fun j hj => absurd hj (Nat.not_lt_zero _)⟩
    | succ k =>
      have hk' : k < r.length := by simpa using hk
      have := ih k hk'
      have e : nth (z :: r) (k + 1) = nth r k := by simp [nth]
      rw [e]
      refine ⟨by omega, this.2.1, fun j hj => ?_⟩
      cases j with
      | zero => have : nth (z :: r) 0 = z := by simp [nth]
                omega
      | succ j => have e' : nth (z :: r) (j + 1) = nth r j := by simp [nth]
                  rw [e']; exact this.2.2 j (by omega)

theorem setB_bounds {n : Int} {zs : List Int} (h : setB n zs = true) {k : Nat} (hk : k < zs.length) : 0 ≤ nth zs k ∧ nth zs k < n ∧ ∀ j, j < k → nth zs j < nth zs k := by
  have := setFrom_bounds n zs (-1) h k hk
  exact ⟨by omega, this.2.1, this.2.2⟩

/-- Row u when v vertices and i successors of v are through. -/
def partP (zss : List (List Int)) (v i u : Nat) : List Int := predsK zss u v ++ if ∃ j, j < i ∧ nth (row zss v) j = (u : Int) then [(v : Int)] else []

theorem partP_zero (zss : List (List Int)) (v u : Nat) : partP zss v 0 u = predsK zss u v := by simp [partP]
theorem partP_full (zss : List (List Int)) (v u : Nat) : partP zss v (row zss v).length u = predsK zss u (v + 1) := by
  simp only [partP, predsK]
  congr 1
  by_cases h : hasB (row zss v) u = true
  · rw [if_pos h, if_pos (mem_nth.1 (hasB_iff.1 h))]
  · rw [if_neg h, if_neg (fun hh => h (hasB_iff.2 (mem_nth.2 hh)))]
theorem partP_hit {zss : List (List Int)} {v i u : Nat} (hi : nth (row zss v) i = (u : Int)) (hj : ∀ j, j < i → nth (row zss v) j < nth (row zss v) i) : partP zss v (i + 1) u = partP zss v i u ++ [(v : Int)] ∧ partP zss v i u = predsK zss u v := by
  have h1 : ¬ ∃ j, j < i ∧ nth (row zss v) j = (u : Int) := fun ⟨j, h, e⟩ => by have := hj j h; omega
  have h2 : ∃ j, j < i + 1 ∧ nth (row zss v) j = (u : Int) := ⟨i, by omega, hi⟩
  simp only [partP]
  rw [if_neg h1, if_pos h2]
  simp
theorem partP_miss {zss : List (List Int)} {v i u u' : Nat} (hi : nth (row zss v) i = (u : Int)) (hne : u' ≠ u) : partP zss v (i + 1) u' = partP zss v i u' := by
  simp only [partP]
  congr 1
  by_cases h : ∃ j, j < i ∧ nth (row zss v) j = (u' : Int)
  · obtain ⟨j, h1, h2⟩ := h
    rw [if_pos ⟨j, by omega, h2⟩, if_pos ⟨j, h1, h2⟩]
  · rw [if_neg (c := ∃ j, j < i ∧ nth (row zss v) j = (u' : Int)) h, if_neg]
    rintro ⟨j, h1, h2⟩
    by_cases e : j = i
    · subst e; omega
    · exact h ⟨j, by omega, h2⟩

/-- What preds leaves. -/
def GivesRows (w : World) (n : Nat) (R : Nat → List Int) (e : Ending) (w' : World) : Prop :=
  ∃ g V, e = .returned (.slice (some ⟨g, 0, none⟩) n n) ∧ RowSet w' w.heap.size g n V R ∧ Below w.heap.size w w'

set_option maxHeartbeats 400000 in
theorem size_is (ao an : Option Addr) (n m co cn : Nat) (w : World) (_hn : n ≤ 17592186044416) :
    Calls Try.prog 38 #[.agg #[.slice ao n co, .slice an m cn]] w fun e w' => e = .returned (.int .i64 n) ∧ w.alloc (.cells #[.slice ao n co, .slice an m cn] 30) = w' := by
  go_enter Try.func38, Try.ntmps38
  go_wp2
  go_ret
  exact ⟨rfl, rfl⟩

set_option maxHeartbeats 4000000 in
set_option maxRecDepth 100000 in
theorem preds_is {w : World} {va : Value} {O : List Int} {zss : List (List Int)} (hP : ArenaP O zss) (h : ArenaAt w va O zss) :
    Calls Try.prog 42 #[va] w (GivesRows w O.length fun u => predsK zss u zss.length) := by
  obtain ⟨i0, hi, hz0, hz1, hz2⟩ := info_parts info_int
  obtain ⟨ao, an, co, cn, A, C, rfl, h1, h2⟩ := h
  have hl256 := hP.2.1
  have hlz : zss.length ≤ O.length := by rw [hP.2.2.1]; exact Nat.le_refl _
  have HP := Lib.hid hP
  have HN := Lib.hid h2
  clear h1 h2 hP
  have hmk := run_make_row' (P := Try.prog) 28 27 (.slice none 0 0) 24 Try.underlying28 info_ints rfl .i64 .i64 O.length (by omega) (by omega)
  have HS : Hid (∃ V, RowSet (((w.alloc (.cells #[.slice ao O.length co, .slice an zss.length cn] 30)).alloc (.cells #[.slice ao O.length co, .slice an zss.length cn] 30)).alloc (.cells (madeCells #[.slice none 0 0] O.length) 27)) w.heap.size (w.heap.size + 1 + 1) O.length V (fun u => predsK zss u 0)) :=
    ⟨_, (RowSet.start _ (by simp) (by simp; omega) _ (by unfold maxLen; omega)).congr fun u _ => by simp [predsK]⟩
  have HB : Hid (Below w.heap.size w (((w.alloc (.cells #[.slice ao O.length co, .slice an zss.length cn] 30)).alloc (.cells #[.slice ao O.length co, .slice an zss.length cn] 30)).alloc (.cells (madeCells #[.slice none 0 0] O.length) 27))) := (below2 _ _ _).alloc (by simp; omega) _
  have HZ := Lib.hid (size_is ao an O.length zss.length co cn (w.alloc (.cells #[.slice ao O.length co, .slice an zss.length cn] 30)) (by omega))
  go_enter Try.func42, Try.ntmps42
  go_wp2_with (go_at_call 38; refine HZ.out.mono ?_; rintro e w' ⟨rfl, rfl⟩)
  go_loopw [14] (fun i wr => ∃ v : Nat, v ≤ zss.length ∧ i = .int .i64 v ∧ Hid (∃ V, RowSet wr w.heap.size (w.heap.size + 1 + 1) O.length V (fun u => predsK zss u v)) ∧ Hid (Below w.heap.size w wr)) (fun i _ => zss.length - (intOf i).toNat)
  case atStart => exact ⟨0, Nat.zero_le _, rfl, HS, HB⟩
  case round =>
    clear HS HB hmk HZ
    obtain ⟨v, hv, rfl, HS, HB⟩ := hrel
    by_cases hlt : v < zss.length
    · have N1 := Lib.hid (HN.out.below HB.out)
      obtain ⟨b, off, ha, hc⟩ := N1.out.cell (by omega)
      subst ha
      have hck := hc v hlt
      clear hc
      have HQ := Lib.hid (HP.out.2.2.2 v (by omega))
      have hl16 := HQ.out.2.2.1
      have HS' : Hid (∃ V, RowSet wr w.heap.size (w.heap.size + 1 + 1) O.length V (partP zss v 0)) := by
        obtain ⟨V, hV⟩ := HS.out
        exact ⟨V, hV.congr fun u _ => (partP_zero zss v u).symm⟩
      clear HS
      go_wp2
      obtain ⟨wo, hwo⟩ : ∃ wo, wo = wr := ⟨_, rfl⟩
      go_loopw [21] (fun i wi => ∃ k : Nat, k ≤ (row zss v).length ∧ i = .int .i64 k ∧ Hid (∃ V, RowSet wi w.heap.size (w.heap.size + 1 + 1) O.length V (partP zss v k)) ∧ Hid (Below w.heap.size w wi)) (fun i _ => (row zss v).length - (intOf i).toNat)
      case atStart => exact ⟨0, Nat.zero_le _, rfl, HS', HB⟩
      case round =>
        clear HS'
        obtain ⟨k, hk, rfl, HS, HB'⟩ := hrel
        by_cases hltk : k < (row zss v).length
        · have N2 := Lib.hid (HN.out.below HB'.out)
          obtain ⟨b2, off2, ha2, hc2⟩ := (N2.out.rows v hlt).cell (by omega)
          have hck2 := hc2 k hltk
          have HA2 := Lib.hid ha2
          clear hc2
          obtain ⟨h0, h1, hup⟩ := setB_bounds HQ.out.2.2.2 hltk
          obtain ⟨u, hu⟩ : ∃ u : Nat, nth (row zss v) k = u := ⟨(nth (row zss v) k).toNat, by omega⟩
          have hun : u < O.length := by omega
          have HU := Lib.hid hu
          have HUP := Lib.hid hup
          rw [hu] at hck2
          clear h0 h1 hup hu
          obtain ⟨V, hV⟩ := HS.out
          obtain ⟨s1, s2, s3⟩ := hV.shape hun
          have HV := Lib.hid hV
          have HV1 := Lib.hid s1
          have hown := (hV.rows u hun).own
          have hpl : (partP zss v k u).length ≤ v := by
            rw [(partP_hit HU.out HUP.out).2]; exact predsK_len _ _ _
          rw [s1] at hown
          have HO := Lib.hid hown
          clear hV s1 hown
          have hszB : w.heap.size ≤ wr.heap.size := HB'.out.size
          rw [HA2.out]
          have hltw := hszB
          go_wp2_with (at_builtin; refine wpList_append_own_at _ rfl _ _ 27 rfl w.heap.size 2 i0 (.int .i64 0) 1 8 Try.underlying27 hi hz0 hz1 hz2 rfl (by decide) _ _ _ rfl (HO.out.alloc _) ⟨wr.heap.size, 0, none⟩ 1 1 [.int .i64 v] rfl rfl ?c1 ?c2 ?c3 ?c4 ?c5 ?_)
          case c1 => exact cell_one_new _ _ _
          case c2 => intro u hu; simp at hu; subst hu; rfl
          case c3 => unfold maxLen; omega
          case c4 => omega
          case c5 => simp; omega
          · intro v' w1' hown' hgrow _ hwhere
            rw [← HV1.out] at hgrow hwhere
            have hOnly : Only (fun b => (V u).ownBlock = some b) wr w1' := (Only.of_below (below1 wr _)).trans ⟨hgrow.os, hgrow.tape, hgrow.output, hgrow.size, fun b hb hne => hgrow.block b hb (fun e => hne e.symm)⟩
            have hbel : Below w.heap.size w w1' := HB'.out.trans (hOnly.below hszB (fun b hb => ((HV.out.rows u hun).own.lt b hb).1))
            have e1 : (partP zss v (k + 1) u).length = (partP zss v k u).length + 1 := by rw [(partP_hit HU.out HUP.out).1]; simp
            have e2 : (partP zss v (k + 1) u).map (Value.int .i64) = (partP zss v k u).map (Value.int .i64) ++ [.int .i64 v] := by rw [(partP_hit HU.out HUP.out).1]; simp
            rw [← e1, ← e2] at hown'
            have hmem : ∀ x ∈ partP zss v (k + 1) u, 0 ≤ x ∧ x ≤ (v : Int) := fun x hx => by
              rw [(partP_hit HU.out HUP.out).1, (partP_hit HU.out HUP.out).2] at hx
              rcases List.mem_append.1 hx with hx | hx
              · have := predsK_mem _ _ _ x hx; omega
              · simp at hx; omega
            have hI : OwnInts w1' w.heap.size w1'.heap.size v' (partP zss v (k + 1) u) := OwnInts.mk' hown' (by omega) (fun j hj => by have := hmem _ (nth_mem hj); unfold Fits; omega)
            have hput := (HV.out.put hun hI hOnly (by
              rcases hwhere with hh | hh
              · exact Or.inl hh
              · exact Or.inr ⟨_, hh, by simp⟩)).congr (R' := partP zss v (k + 1)) (fun u' _ => by
                by_cases e : u' = u
                · subst e; simp
                · simp only [if_neg e]; exact (partP_miss HU.out e).symm)
            have ho1 := ownsRow_only HV.out.own hOnly (own_types HV.out.own (HV.out.rows u hun).own)
            have cc : w1'.cell? ⟨w.heap.size + 1 + 1, u, none⟩ = some (V u) := by rw [ho1.cellAt u (by omega)]; simp [hun]
            have cf : w1'.frozen? ⟨w.heap.size + 1 + 1, u, none⟩ = false := ho1.frozenAt u
            obtain ⟨av, cv, hv', _, _⟩ := hI.shape
            have HP' : Hid (∃ V, RowSet (w1'.setCell ⟨w.heap.size + 1 + 1, u, none⟩ v') w.heap.size (w.heap.size + 1 + 1) O.length V (partP zss v (k + 1))) := ⟨_, hput⟩
            have HB2 : Hid (Below w.heap.size w (w1'.setCell ⟨w.heap.size + 1 + 1, u, none⟩ v')) := hbel.setCell (by show w.heap.size ≤ w.heap.size + 1 + 1; omega) _
            rw [HV1.out] at cc
            subst hv'
            clear hown' hgrow hwhere hOnly hbel e1 e2 hmem hI hput ho1
            go_wp2
            go_roundw
            case rel => exact ⟨k + 1, by omega, by go_num, HP', HB2⟩
            case measure => simp [intOf]; omega
        · have hkk : k = (row zss v).length := by omega
          have HN' : Hid (∃ V, RowSet wr w.heap.size (w.heap.size + 1 + 1) O.length V (fun u => predsK zss u (v + 1))) := by
            obtain ⟨V, hV⟩ := HS.out
            rw [hkk] at hV
            exact ⟨V, hV.congr fun u _ => partP_full zss v u⟩
          clear hkk
          go_wp2
          go_roundw
          case rel => exact ⟨v + 1, by omega, by go_num, HN', HB'⟩
          case measure => simp [intOf]; omega
    · have hvv : v = zss.length := by omega
      have HE : Hid (∃ V, RowSet wr w.heap.size (w.heap.size + 1 + 1) O.length V (fun u => predsK zss u zss.length)) := by rw [← hvv]; exact HS.out
      clear hvv
      go_wp2
      go_ret
      obtain ⟨V, hV⟩ := HE.out
      exact ⟨_, V, rfl, hV, HB.out⟩

end

end Go.Proofs.Ytaoagikipbcjpaa
