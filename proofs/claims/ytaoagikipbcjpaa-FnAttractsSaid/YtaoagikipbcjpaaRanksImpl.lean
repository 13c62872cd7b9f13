/-
  Contract of chapter 3: the program's RanksIn.
-/
import Derived.Test.YtaoagikipbcjpaaAttractSeq
import Derived.Test.YtaoagikipbcjpaaRepeat
namespace Go.Proofs.Ytaoagikipbcjpaa
open Go.RowKit Go.Shelf

attribute [local go_sem] Oper.semAt_some

/-- The ranks that have been handed on. -/
def preF (R : Nat → Int) (pre : List (Nat × Nat)) (u : Nat) : Int := if u ∈ pre.map Prod.fst then R u else -1
theorem preF_snoc {R : Nat → Int} {pre : List (Nat × Nat)} {x : Nat × Nat} (hx : R x.1 = (x.2 : Int)) (i : Nat) : preF R (pre ++ [x]) i = if i = x.1 then (x.2 : Int) else preF R pre i := by
  unfold preF
  rw [List.map_append, List.map_cons, List.map_nil]
  by_cases e : i = x.1
  · subst e; simp [hx]
  · simp only [List.mem_append, List.mem_singleton, e, or_false, if_false]
theorem preF_full {n : Nat} {R : Nat → Int} {xs : List (Nat × Nat)} (h : LogP n R (fun v => 0 ≤ R v) xs) (hb : ∀ u, -1 ≤ R u) : ∀ i, i < n → preF R xs i = R i := fun i hi => by
  unfold preF
  by_cases hm : i ∈ xs.map Prod.fst
  · rw [if_pos hm]
  · rw [if_neg hm]
    have := hb i
    by_cases h0 : 0 ≤ R i
    · exact absurd ((h.is i hi).2 h0) hm
    · omega

theorem only_cell {S : Nat → Prop} {w w' : World} {p : Addr} {v : Value} (h : Only S w w') (hp : ¬ S p.block) (hc : w.cell? p = some v) : w'.cell? p = some v :=
  (World.cell?_of_block (h.block _ (World.block_lt_of_cell? w p hc) hp)).trans hc

/-- The iterator's four boxes, and all that they lead to, in every world that differs at K alone. -/
theorem reads_of {w w4 : World} {K : Nat} {ao an aI aG : Option Addr} {co cn cI cG : Nat} {O : List Int} {zss : List (List Int)} {n0 : Int} {In G : List Int}
    (hA : ArenaAt w (.agg #[.slice ao O.length co, .slice an zss.length cn]) O zss) (hI : IntsAt w aI In) (hG : IntsAt w aG G) (hb : Below w.heap.size w w4) (hK : w.heap.size ≤ K) (hK4 : K < w4.heap.size) {wL : World}
    (hL : wL = (((w4.alloc (.cells #[.slice ao O.length co, .slice an zss.length cn] 30)).alloc (.cells #[.int .i64 n0] 2)).alloc (.cells #[.slice aI In.length cI] 27)).alloc (.cells #[.slice aG G.length cG] 27)) :
    ∀ A, Only (fun k => k = K ∨ wL.heap.size ≤ k) wL A → ReadsR A (w4.heap.size + 2) (w4.heap.size + 3) w4.heap.size (w4.heap.size + 1) ao an aI aG co cn cI cG O zss n0 In G := by
  intro A hA'
  have hs : wL.heap.size = w4.heap.size + 4 := by rw [hL]; simp
  have h4 : Below w4.heap.size w4 wL := by rw [hL]; exact (((below1 _ _).alloc (by simp) _).alloc (by simp; omega) _).alloc (by simp; omega) _
  have hbs := hb.size
  have hwL : Below w.heap.size w wL := hb.trans (h4.mono hbs)
  have hwA : Below w.heap.size w A := hwL.trans (hA'.below (B := w.heap.size) (by omega) (fun k hk => by omega))
  have hb0 : Box2 wL w4.heap.size 30 (.slice ao O.length co) (.slice an zss.length cn) := by rw [hL]; exact (((Box2.new _ _ _ _).alloc _).alloc _).alloc _
  have c1 : wL.cell? ⟨w4.heap.size + 1, 0, none⟩ = some (.int .i64 n0) := by
    have h := Boxed.new (w4.alloc (.cells #[.slice ao O.length co, .slice an zss.length cn] 30)) 2 (.int .i64 n0)
    rw [World.size_alloc] at h
    rw [hL]
    exact ((h.alloc _).alloc _).cell
  have c2 : wL.cell? ⟨w4.heap.size + 2, 0, none⟩ = some (.slice aI In.length cI) := by
    have h := Boxed.new ((w4.alloc (.cells #[.slice ao O.length co, .slice an zss.length cn] 30)).alloc (.cells #[.int .i64 n0] 2)) 27 (.slice aI In.length cI)
    simp only [World.size_alloc] at h
    rw [hL]
    exact (h.alloc _).cell
  have c3 : wL.cell? ⟨w4.heap.size + 3, 0, none⟩ = some (.slice aG G.length cG) := by
    have h := Boxed.new (((w4.alloc (.cells #[.slice ao O.length co, .slice an zss.length cn] 30)).alloc (.cells #[.int .i64 n0] 2)).alloc (.cells #[.slice aI In.length cI] 27)) 27 (.slice aG G.length cG)
    simp only [World.size_alloc] at h
    rw [hL]
    exact h.cell
  exact ⟨hA.below hwA, hI.below hwA, hG.below hwA, box2_keep hb0 hA' (by omega), only_cell hA' (p := ⟨w4.heap.size + 1, 0, none⟩) (by show ¬ (w4.heap.size + 1 = K ∨ wL.heap.size ≤ w4.heap.size + 1); omega) c1, only_cell hA' (p := ⟨w4.heap.size + 2, 0, none⟩) (by show ¬ (w4.heap.size + 2 = K ∨ wL.heap.size ≤ w4.heap.size + 2); omega) c2, only_cell hA' (p := ⟨w4.heap.size + 3, 0, none⟩) (by show ¬ (w4.heap.size + 3 = K ∨ wL.heap.size ≤ w4.heap.size + 3); omega) c3⟩

set_option maxHeartbeats 8000000 in
set_option maxRecDepth 100000 in
theorem RanksIn_is {w : World} {va : Value} {O : List Int} {zss : List (List Int)} {n0 : Int} {aI aG : Option Addr} {In G r : List Int} (cI cG : Nat) (hr : ranksL O zss n0 In G = r) (h : ArenaAt w va O zss) (hI : IntsAt w aI In) (hG : IntsAt w aG G) :
    Calls Try.prog 23 #[va, .int .i64 n0, .slice aI In.length cI, .slice aG G.length cG] w (GivesInts w r) := by
  have HAt := Lib.hid h
  have HIi := Lib.hid hI
  have HGi := Lib.hid hG
  obtain ⟨ao, an, co, cn, A, C, rfl, h1, h2⟩ := h
  clear h1 h2 hI hG
  have BW := Lib.hid (below1 w (.cells #[.slice ao O.length co, .slice an zss.length cn] 30))
  have bW := Lib.hid (Box2.new w 30 (.slice ao O.length co) (.slice an zss.length cn))
  obtain ⟨b, hA⟩ : ∃ b, bothB O zss n0 In G = b := ⟨_, rfl⟩
  have hC := isAsked_two hA cI cG (HAt.out.below BW.out) (HIi.out.below BW.out) (HGi.out.below BW.out)
  rw [World.size_alloc] at hC
  have HC := Lib.hid hC
  have BS : Hid (w.heap.size ≤ w.heap.size + 1) := Nat.le_succ _
  clear hC
  cases b with
  | false =>
    have HE : Hid (r = []) := by rw [← hr]; simp [ranksL, hA, Hid]
    clear hA hr
    go_enter Try.func23, Try.ntmps23
    go_wp2_with (go_at_call 20; refine HC.out.mono ?_; rintro e w1 ⟨rfl, hb⟩; have B1 := Lib.hid (BW.out.trans (hb.mono BS.out)); clear hb)
    go_ret
    exact ⟨_, rfl, by rw [HE.out]; exact OwnInts.nil _ _ _, B1.out⟩
  | true =>
    have HE : Hid (fnL zss.length (ranksF O zss n0 In G) = r) := by rw [← hr]; unfold ranksL; rw [if_pos hA]; rfl
    have HOK := Lib.hid hA
    have hP := (bothB_yes hA).1
    have hO0 : 0 < O.length := by have := hP.1; omega
    have hO256 : O.length ≤ 256 := hP.2.1
    have HZO := Lib.hid hP.2.2.1
    clear hA hr hP
    refine (callsIn_wide (n := 4)).1 ?_
    refine callsIn_of_wp_marks Try.func23 rfl trivial ?_ rfl
    simp only [Try.ntmps23, List.size_toArray, List.length_cons, List.length_nil, Nat.reduceAdd, Nat.reduceSub, Array.replicate_succ, Array.replicate_zero, List.push_toArray, List.append_toArray, List.nil_append, List.cons_append]
    refine wpIn_wide.2 ?_
    go_wp2_with fail
    refine HC.out.mono ?_
    rintro e w1 ⟨rfl, hb⟩
    have B1 := Lib.hid (BW.out.trans (hb.mono BS.out))
    have hb' : Below (w.alloc (.cells #[.slice ao O.length co, .slice an zss.length cn] 30)).heap.size (w.alloc (.cells #[.slice ao O.length co, .slice an zss.length cn] 30)) w1 := by rw [World.size_alloc]; exact hb
    have b1 := Lib.hid (bW.out.below hb')
    clear hb hb'
    obtain ⟨w2, hw2⟩ : ∃ y, y = w1.alloc (.cells #[.int .i64 (-1)] 2) := ⟨_, rfl⟩
    have HW2 := Lib.hid hw2
    have B2 : Hid (Below w.heap.size w w2) := by rw [hw2]; exact B1.out.alloc B1.out.size _
    have b2 : Hid (Box2 w2 w.heap.size 30 (.slice ao O.length co) (.slice an zss.length cn)) := by rw [hw2]; exact b1.out.alloc _
    have hc2 : w2.cell? ⟨w1.heap.size, 0, none⟩ = some (.int .i64 (-1)) := by rw [hw2]; exact (Boxed.new w1 2 (.int .i64 (-1))).cell
    have HRP := Lib.hid (Repeat_is (cap := 1) hO0 hO256 (by unfold Fits; omega) hc2)
    have c0 := (b1.out.alloc (.cells #[.int .i64 (-1)] 2)).cell0
    have c1 := (b1.out.alloc (.cells #[.int .i64 (-1)] 2)).cell1
    clear hc2 hw2
    go_wp2_with fail
    rw [← HW2.out]
    refine HRP.out.mono ?_
    rintro e w3 ⟨g, rfl, hf, hb⟩
    have F3 := Lib.hid hf
    have B3 := Lib.hid (B2.out.trans (hb.mono B2.out.size))
    have b3 := Lib.hid (b2.out.below hb)
    obtain ⟨w4, hw4⟩ : ∃ y, y = w3.alloc (.cells #[.slice (some ⟨g, 0, none⟩) O.length O.length] 27) := ⟨_, rfl⟩
    have HW4 := Lib.hid hw4
    have F4 : Hid (OwnF w4 w2.heap.size g O.length O.length (fun _ => -1)) := by rw [hw4]; exact OwnF.only hf (S := fun _ => False) (Only.of_below (below1 _ _)) (fun h => h)
    have B4 : Hid (Below w.heap.size w w4) := by rw [hw4]; exact B3.out.alloc B3.out.size _
    have X4 : Hid (Boxed w4 w3.heap.size 27 (.slice (some ⟨g, 0, none⟩) O.length O.length)) := by rw [hw4]; exact Boxed.new _ _ _
    have S4 : Hid (w4.heap.size = w3.heap.size + 1) := by rw [hw4]; exact World.size_alloc _ _
    have b4 := b3.out.alloc (.cells #[.slice (some ⟨g, 0, none⟩) O.length O.length] 27)
    have d0 := b4.cell0
    have d1 := b4.cell1
    clear hf hb c0 c1 hw4 b4
    go_wp2_with fail
    rw [← HW4.out]
    refine (attracted_is ao an aI aG O.length zss.length co cn In.length cI G.length cG n0 w4).mono ?_
    rintro e w5 ⟨rfl, hw5⟩
    have hg4 := F4.out.lt
    have hs2 := B2.out.size
    have HR4 := reads_of HAt.out HIi.out HGi.out B4.out (K := g) (by omega) hg4.2 hw5
    have HSQ := Lib.hid (attracted_seq HOK.out HR4)
    have B45 : Hid (Below w4.heap.size w4 w5) := by rw [hw5]; exact (((below1 _ _).alloc (by simp) _).alloc (by simp; omega) _).alloc (by simp; omega) _
    have B5 := Lib.hid (B4.out.trans (B45.out.mono B4.out.size))
    have X5 : Hid (Boxed w5 w3.heap.size 27 (.slice (some ⟨g, 0, none⟩) O.length O.length)) := box_below X4.out B45.out
    obtain ⟨R, hR⟩ : ∃ R, R = ranksF O zss n0 In G := ⟨_, rfl⟩
    have F5 : Hid (OwnF w5 w.heap.size g O.length O.length (preF R [])) := OwnF.congr (f := fun _ => -1) (OwnInts.base (OwnF.only F4.out (S := fun _ => False) (Only.of_below B45.out) (fun h => h)) hs2) fun i _ => by simp [preF]
    have HRE : Hid (fnL zss.length R = r) := by rw [hR]; exact HE.out
    have HRB : Hid (∀ u, -1 ≤ R u) := fun u => by rw [hR]; exact (rkK_bound _ _).1
    have hg3 : g ≠ w3.heap.size := by have := F3.out.lt.2; omega
    have hx5 : w3.heap.size < w5.heap.size := by have h1 := B45.out.size; have h2 := S4.out; omega
    have hg5 : g < w5.heap.size ∧ w.heap.size ≤ g := by have h1 := B45.out.size; omega
    rw [← hR] at HSQ
    clear hR hw5 HR4 hg4 d0 d1
    go_wp2_with fail
    refine (wpIn_wide (n := 4)).1 ?_
    refine wpIn_rangeFunc_C (n := 4) rfl (by omega) (gf := 39) (lb := #[.pointer (some ⟨w4.heap.size + 2, 0, none⟩), .pointer (some ⟨w4.heap.size + 3, 0, none⟩), .pointer (some ⟨w4.heap.size, 0, none⟩), .pointer (some ⟨w4.heap.size + 1, 0, none⟩)]) rfl trivial (enters_of Try.func39 (by kernel_rfl) rfl) HSQ.out (fun _ => rfl) (fun k hk => hk.1)
      (fun _ k => k = g) (fun pre W => OwnF W w.heap.size g O.length O.length (preF R pre) ∧ Only (fun k => k = g ∨ w5.heap.size ≤ k) w5 W) ?hI ?hC ?h0 ?act ?assign ?body ?done
    case hI =>
      rintro s A A' ⟨hf, ho⟩ hO
      exact ⟨⟨OwnF.only hf hO (fun hh => hh.2 rfl), ho.trans (hO.mono fun k hk => .inr hk.1)⟩, fun _ => Iff.rfl⟩
    case hC =>
      rintro s A k ⟨hf, ho⟩ rfl
      exact ⟨hf.lt.2, fun h => h.2 rfl, .inl hg5.1⟩
    case h0 => exact ⟨F5.out, Only.refl _ _⟩
    case assign =>
      intro l x W K hK
      dsimp only [encR]
      gi_wp2
      exact hK
    case body =>
      rintro l pre x W hsz ⟨hf, ho⟩ ⟨h1, h2, h3, h4⟩
      have cB := (box_only X5.out ho (by omega)).cell
      obtain ⟨v, hv⟩ : ∃ v, v = x.1 := ⟨_, rfl⟩
      obtain ⟨k, hk⟩ : ∃ k, k = x.2 := ⟨_, rfl⟩
      rw [HZO.out] at h2
      have hvO : v < O.length := by rw [hv]; exact h2
      have fc := hf.cell hvO
      have ff := hf.frozen v
      have hvI : (v : Int) < O.length := by omega
      have hv0 : (0 : Int) ≤ v := by omega
      have hk4 : k ≤ 256 := by rw [hk]; have := HZO.out; omega
      have HF := Lib.hid hf
      have HO := Lib.hid ho
      have HN : Hid (OwnF (W.setCell ⟨g, v, none⟩ (.int .i64 k)) w.heap.size g O.length O.length (preF R (pre ++ [x]))) :=
        (hf.put (u := v) (x := k) (by unfold Fits; omega)).congr fun i _ => by rw [preF_snoc h3, hv, hk]
      clear hf ho h1 h3 h4 h2
      try dsimp only
      rw [← hv, ← hk]
      clear hv hk
      gi_wp2
      have hO1 : Only (fun i => i = g) W (W.setCell ⟨g, v, none⟩ (.int .i64 k)) := Only.setCell (S := fun i => i = g) (Only.refl _ _) (p := ⟨g, v, none⟩) rfl _
      exact ⟨hO1, fun i hi => .inl hi, HN.out, HO.out.trans (hO1.mono fun i hi => .inl hi)⟩
    case done =>
      rintro xs W hS ⟨hf, ho⟩ hK
      have cB := (box_only X5.out ho (by omega)).cell
      have HF : Hid (OwnF W w.heap.size g O.length O.length R) := hf.congr fun i hi => preF_full hS HRB.out i (by rw [HZO.out]; exact hi)
      have HO := Lib.hid ho
      have HK := Lib.hid hK
      clear hf ho hS hK
      go_wp2_with fail
      refine ⟨by simp, .inl ⟨_, _, rfl, run_takeDeferred HK.out, ?_⟩⟩
      have hoD : Only (fun k => k = w5.heap.size) W (W.putObj w5.heap.size (.deferred none)) := only_putObj W _ _ rfl
      have hFD : OwnF _ w.heap.size g O.length O.length R := OwnF.only HF.out hoD (by omega)
      have hall : Only (fun k => k = g ∨ w5.heap.size ≤ k) w5 (W.putObj w5.heap.size (.deferred none)) := HO.out.trans (hoD.mono fun k hk => .inr (by omega))
      refine ⟨_, results_tmp rfl _ _ _, _, rfl, ?_, B5.out.trans (hall.below (B := w.heap.size) B5.out.size (fun k hk => by have := B5.out.size; omega))⟩
      rw [← HRE.out, HZO.out]
      exact hFD

end Go.Proofs.Ytaoagikipbcjpaa
