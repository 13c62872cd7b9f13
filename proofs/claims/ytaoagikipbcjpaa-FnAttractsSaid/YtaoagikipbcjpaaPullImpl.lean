/-
  Contract of chapter 3: the program's PullIn.
-/
import Derived.Test.YtaoagikipbcjpaaRanksImpl
import Derived.Test.YtaoagikipbcjpaaRanksMath
namespace Go.Proofs.Ytaoagikipbcjpaa
open Go.RowKit

theorem pullF_first {F : Nat → Int} {r : Int} : ∀ {xs : List Int} {k : Nat}, k < xs.length → (∀ j, j < k → F (nth xs j).toNat ≠ r - 1) → F (nth xs k).toNat = r - 1 → pullF F r xs = nth xs k
  | [], k, hk, _, _ => absurd hk (by simp)
  | x :: xs, 0, _, _, h => by
    have h' : F x.toNat = r - 1 := h
    rw [pullF, if_pos h']; rfl
  | x :: xs, k + 1, hk, hj, h => by
    have h0 : F x.toNat ≠ r - 1 := hj 0 (by omega)
    rw [pullF, if_neg h0]
    exact pullF_first (k := k) (by simpa using hk) (fun j hjk => hj (j + 1) (by omega)) h

/-- What the closure reads: the ranks and one rank. -/
structure PullR (W : World) (b9 b12 g n cap : Nat) (F : Nat → Int) (r : Int) : Prop where
  box : W.cell? ⟨b9, 0, none⟩ = some (.slice (some ⟨g, 0, none⟩) n cap)
  rank : W.cell? ⟨b12, 0, none⟩ = some (.int .i64 r)
  cells : ∀ u, u < n → W.cell? ⟨g, u, none⟩ = some (.int .i64 (F u))
theorem PullR.below {W W' : World} {b9 b12 g n cap : Nat} {F : Nat → Int} {r : Int} (h : PullR W b9 b12 g n cap F r) (hb : Below W.heap.size W W') : PullR W' b9 b12 g n cap F r :=
  ⟨Below.cell_some (B := 0) hb rfl h.box, Below.cell_some (B := 0) hb rfl h.rank, fun u hu => Below.cell_some (B := 0) hb rfl (h.cells u hu)⟩

set_option maxHeartbeats 2000000 in
theorem closure_is {W : World} {b9 b12 g n cap u : Nat} {F : Nat → Int} {r : Int} {b : Bool} (hb : decide (F u = r - 1) = b) (h : PullR W b9 b12 g n cap F r) (hu : u < n) (_hn : n ≤ 1048576) (hr : -1 ≤ r ∧ r ≤ 1048576) :
    Calls Try.prog 26 #[.int .i64 u, .pointer (some ⟨b9, 0, none⟩), .pointer (some ⟨b12, 0, none⟩)] W fun e w' => e = .returned (.bool b) ∧ Below W.heap.size W w' := by
  have c1 := h.box
  have c2 := h.rank
  have c3 := h.cells u hu
  obtain ⟨q, hq⟩ : ∃ q, q = F u := ⟨_, rfl⟩
  rw [← hq] at hb c3
  have hwr : IntKind.i64.wrap (r - 1) = r - 1 := by rw [IntKind.wrap_i64]; omega
  have HB : Hid ((q == r - 1) = b) := by rw [← hb]; unfold Hid; rw [Bool.eq_iff_iff]; simp
  have hu0 : (0 : Int) ≤ u := by omega
  have hun : (u : Int) < n := by omega
  have hr1 := hr.1
  have hr2 := hr.2
  clear hq hb h hr
  go_enter Try.func26, Try.ntmps26
  go_wp2
  go_quiet (fail)
  go_wp2
  go_ret
  exact ⟨ret_bool HB.out, below_drewN (Below.refl _ _) _⟩

set_option maxHeartbeats 4000000 in
theorem indexFunc_is {w : World} {b9 b12 g n cap : Nat} {F : Nat → Int} {r : Int} {aX : Option Addr} {xs : List Int} (cX : Nat) (h : PullR w b9 b12 g n cap F r) (hX : IntsAt w aX xs) (hnat : ∀ x ∈ xs, ∃ v : Nat, x = (v : Int) ∧ v < n) (hl : xs.length ≤ 1048576) (hn : n ≤ 1048576) (hr : -1 ≤ r ∧ r ≤ 1048576) (hex : ∃ x ∈ xs, F x.toNat = r - 1) :
    Calls Try.prog 25 #[.slice aX xs.length cX, .func (.func 26) #[] #[.pointer (some ⟨b9, 0, none⟩), .pointer (some ⟨b12, 0, none⟩)]] w fun e w' => ∃ k : Nat, k < xs.length ∧ e = .returned (.int .i64 k) ∧ nth xs k = pullF F r xs ∧ Below w.heap.size w w' := by
  have HP := Lib.hid h
  have HX := Lib.hid hX
  have HN := Lib.hid hnat
  have HEX := Lib.hid hex
  have eg : ∀ args w, (callFunc 26 args).run Try.prog w = .ok (.enter 26 args) w := enters_of Try.func26 (by kernel_rfl) rfl
  clear h hX hnat hex
  go_enter Try.func25, Try.ntmps25
  go_wp2
  go_loopw [8] (fun i wr => ∃ k : Nat, k ≤ xs.length ∧ i = .int .i64 k ∧ Hid (∀ j, j < k → F (nth xs j).toNat ≠ r - 1) ∧ Hid (Below w.heap.size w wr)) (fun i _ => xs.length - (intOf i).toNat)
  case atStart => exact ⟨0, Nat.zero_le _, rfl, fun j hj => absurd hj (Nat.not_lt_zero _), Below.refl _ _⟩
  case round =>
    obtain ⟨k, hk, rfl, HK, HB⟩ := hrel
    by_cases hlt : k < xs.length
    · have hi1 : (k : Int) < xs.length := by omega
      have hk0 : (0 : Int) ≤ k := by omega
      obtain ⟨b, off, ha, hc⟩ := (HX.out.below HB.out).cell (by omega)
      have q1 := hc k hlt
      obtain ⟨u, hu, hun⟩ := HN.out _ (nth_mem hlt)
      have HU := Lib.hid hu
      rw [hu] at q1
      subst ha
      clear hc hu
      obtain ⟨b, hb⟩ : ∃ b, decide (F u = r - 1) = b := ⟨_, rfl⟩
      have HC := Lib.hid (closure_is hb (HP.out.below HB.out) hun hn hr)
      cases b with
      | true =>
        have HE : Hid (nth xs k = pullF F r xs) := (pullF_first hlt HK.out (by rw [HU.out, Int.toNat_natCast]; exact of_decide_eq_true hb)).symm
        clear hb
        go_wp2_with (go_at_fn 26; refine HC.out.mono ?_; rintro e w1 ⟨rfl, hb⟩; have B1 := Lib.hid (HB.out.trans (hb.mono HB.out.size)); clear hb)
        go_ret
        exact ⟨k, hlt, rfl, HE.out, B1.out⟩
      | false =>
        have HK' : Hid (∀ j, j < k + 1 → F (nth xs j).toNat ≠ r - 1) := fun j hj => by
          by_cases e : j = k
          · subst e; rw [HU.out, Int.toNat_natCast]; exact of_decide_eq_false hb
          · exact HK.out j (by omega)
        clear hb
        go_wp2_with (go_at_fn 26; refine HC.out.mono ?_; rintro e w1 ⟨rfl, hb⟩; have B1 := Lib.hid (HB.out.trans (hb.mono HB.out.size)); clear hb)
        go_roundw
        case rel => exact ⟨k + 1, by omega, by go_num, HK', B1⟩
        case measure => simp [intOf]; omega
    · exfalso
      obtain ⟨x, hx, hF⟩ := HEX.out
      obtain ⟨j, hj, rfl⟩ := mem_nth.1 hx
      exact HK.out j (by omega) hF

/-- The plan while the first v ranks have been read. -/
noncomputable def planF (O : List Int) (zss : List (List Int)) (who : Int) (In G : List Int) (v u : Nat) : Int := if u < v then pullV O zss who In G u else -1
theorem planF_same {O : List Int} {zss : List (List Int)} {who : Int} {In G : List Int} {v : Nat} (h : pullV O zss who In G v = -1) (i : Nat) : planF O zss who In G v i = planF O zss who In G (v + 1) i := by
  unfold planF
  by_cases e : i = v
  · subst e; rw [if_neg (by omega), if_pos (by omega), h]
  · by_cases hl : i < v
    · rw [if_pos hl, if_pos (by omega)]
    · rw [if_neg hl, if_neg (by omega)]
theorem planF_put {O : List Int} {zss : List (List Int)} {who : Int} {In G : List Int} {v : Nat} (i : Nat) : (if i = v then pullV O zss who In G v else planF O zss who In G v i) = planF O zss who In G (v + 1) i := by
  unfold planF
  by_cases e : i = v
  · subst e; rw [if_pos rfl, if_pos (by omega)]
  · rw [if_neg e]
    by_cases hl : i < v
    · rw [if_pos hl, if_pos (by omega)]
    · rw [if_neg hl, if_neg (by omega)]

set_option maxHeartbeats 8000000 in
set_option maxRecDepth 100000 in
theorem PullIn_is {w : World} {va : Value} {O : List Int} {zss : List (List Int)} {n0 : Int} {aI aG : Option Addr} {In G r : List Int} (cI cG : Nat) (hr : pullL O zss n0 In G = r) (h : ArenaAt w va O zss) (hI : IntsAt w aI In) (hG : IntsAt w aG G) :
    Calls Try.prog 11 #[va, .int .i64 n0, .slice aI In.length cI, .slice aG G.length cG] w (GivesInts w r) := by
  have HAt := Lib.hid h
  have HIi := Lib.hid hI
  have HGi := Lib.hid hG
  obtain ⟨ao, an, co, cn, A, C, rfl, h1, h2⟩ := h
  have HOi := Lib.hid h1
  have HNi := Lib.hid h2
  clear h1 h2 hI hG
  have BW := Lib.hid (below1 w (.cells #[.slice ao O.length co, .slice an zss.length cn] 30))
  have bW := Lib.hid (Box2.new w 30 (.slice ao O.length co) (.slice an zss.length cn))
  obtain ⟨b, hA⟩ : ∃ b, bothB O zss n0 In G = b := ⟨_, rfl⟩
  have hC := isAsked_two hA cI cG (HAt.out.below BW.out) (HIi.out.below BW.out) (HGi.out.below BW.out)
  rw [World.size_alloc] at hC
  have HC := Lib.hid hC
  have BS : Hid (w.heap.size ≤ w.heap.size + 1) := Nat.le_succ _
  clear hC
  cases b with
  | false =>
    have HE : Hid (r = []) := by rw [← hr]; simp [pullL, hA, Hid]
    clear hA hr
    go_enter Try.func11, Try.ntmps11
    go_wp2_with (go_at_call 20; refine HC.out.mono ?_; rintro e w1 ⟨rfl, hb⟩; have B1 := Lib.hid (BW.out.trans (hb.mono BS.out)); clear hb)
    go_ret
    exact ⟨_, rfl, by rw [HE.out]; exact OwnInts.nil _ _ _, B1.out⟩
  | true =>
    have HE : Hid (fnL zss.length (pullV O zss n0 In G) = r) := by rw [← hr]; unfold pullL; rw [if_pos hA]; rfl
    have HRL : Hid (ranksL O zss n0 In G = fnL zss.length (ranksF O zss n0 In G)) := by unfold Hid ranksL; rw [if_pos hA]
    have hP := (bothB_yes hA).1
    have hO0 : 0 < O.length := by have := hP.1; omega
    have hO256 : O.length ≤ 256 := hP.2.1
    have HZO := Lib.hid hP.2.2.1
    have HIN := Lib.hid (arena_nats hP)
    have HR16 : Hid (∀ u : Nat, u < zss.length → (row zss u).length ≤ 16) := fun u hu => (hP.2.2.2 u (by have := hP.2.2.1; omega)).2.2.1
    have hz0 : 0 < zss.length := by have := hP.2.2.1; omega
    clear hA hr hP
    go_enter Try.func11, Try.ntmps11
    go_wp2_with fail
    refine HC.out.mono ?_
    rintro e w1 ⟨rfl, hb⟩
    have B1 := Lib.hid (BW.out.trans (hb.mono BS.out))
    have hb' : Below (w.alloc (.cells #[.slice ao O.length co, .slice an zss.length cn] 30)).heap.size (w.alloc (.cells #[.slice ao O.length co, .slice an zss.length cn] 30)) w1 := by rw [World.size_alloc]; exact hb
    have b1 := Lib.hid (bW.out.below hb')
    have c0 := b1.out.cell0
    have c1 := b1.out.cell1
    clear hb hb'
    go_wp2_with fail
    refine (RanksIn_is cI cG HRL.out (HAt.out.below B1.out) (HIi.out.below B1.out) (HGi.out.below B1.out)).mono ?_
    rintro e w2 ⟨vr, rfl, hvr, hb⟩
    obtain ⟨F, hF⟩ : ∃ F, F = ranksF O zss n0 In G := ⟨_, rfl⟩
    have HF := Lib.hid hF
    rw [← hF] at hvr
    obtain ⟨a, c, hsv, -, hbk⟩ := hvr.shape
    obtain ⟨g, rfl, -⟩ := hbk (by rw [fnL_len]; exact hz0)
    rw [fnL_len] at hsv
    subst hsv
    have HR2 : Hid (OwnF w2 w1.heap.size g c zss.length F) := hvr
    have B2 := Lib.hid (B1.out.trans (hb.mono B1.out.size))
    have b2 := Lib.hid (b1.out.below hb)
    have hrs := B1.out.size
    clear hvr hb c0 c1 hF hbk
    obtain ⟨w4, hw4⟩ : ∃ y, y = (w2.alloc (.cells #[.slice (some ⟨g, 0, none⟩) zss.length c] 27)).alloc (.cells #[.int .i64 (-1)] 2) := ⟨_, rfl⟩
    have HW4 := Lib.hid hw4
    have B24 : Hid (Below w2.heap.size w2 w4) := by rw [hw4]; exact below2 _ _ _
    have B4 := Lib.hid (B2.out.trans (B24.out.mono B2.out.size))
    have b4 : Hid (Box2 w4 w.heap.size 30 (.slice ao O.length co) (.slice an zss.length cn)) := b2.out.below B24.out
    have k4 : w4.cell? ⟨w2.heap.size, 0, none⟩ = some (.slice (some ⟨g, 0, none⟩) zss.length c) := by rw [hw4]; exact ((Boxed.new w2 27 (.slice (some ⟨g, 0, none⟩) zss.length c)).alloc _).cell
    have hs4 : w4.heap.size = w2.heap.size + 1 + 1 := by rw [hw4]; simp
    have S4 := Lib.hid hs4
    have K4 := Lib.hid k4
    have hm4 : w4.cell? ⟨w2.heap.size + 1, 0, none⟩ = some (.int .i64 (-1)) := by
      have h := Boxed.new (w2.alloc (.cells #[.slice (some ⟨g, 0, none⟩) zss.length c] 27)) 2 (.int .i64 (-1))
      rw [World.size_alloc] at h
      rw [hw4]; exact h.cell
    have HRP := Lib.hid (Repeat_is (cap := 1) hO0 hO256 (by unfold Fits; omega) hm4)
    have e0 := b4.out.cell0
    have e1 := b4.out.cell1
    rw [hw4] at e0 e1
    clear hw4 k4 hs4 hm4
    go_wp2_with fail
    rw [← HW4.out]
    refine HRP.out.mono ?_
    rintro e w5 ⟨gp, rfl, hf, hb⟩
    have P5 : Hid (OwnF w5 w4.heap.size gp O.length O.length (planF O zss n0 In G 0)) := OwnF.congr hf fun i _ => by simp [planF]
    have B45 := Lib.hid hb
    have B25 : Hid (Below w2.heap.size w2 w5) := B24.out.trans (hb.mono B24.out.size)
    have B5 := Lib.hid (B4.out.trans (hb.mono B4.out.size))
    have b5 := Lib.hid (b4.out.below hb)
    have X5 : Hid (w5.cell? ⟨w2.heap.size, 0, none⟩ = some (.slice (some ⟨g, 0, none⟩) zss.length c)) := Below.cell_some (B := 0) hb rfl K4.out
    have R5 : Hid (∀ u, u < zss.length → w5.cell? ⟨g, u, none⟩ = some (.int .i64 (F u))) := fun u hu => Below.cell_some (B := 0) B25.out rfl (HR2.out.cell hu)
    have FB : Hid (∀ u, -1 ≤ F u ∧ F u ≤ zss.length) := fun u => by rw [HF.out]; exact rkK_bound _ _
    have hlt5 := P5.out.lt
    have hgl := HR2.out.lt
    have hsz := S4.out
    have hs25 := B25.out.size
    have hs2 := B2.out.size
    have HLT : Hid (w.heap.size < w5.heap.size ∧ w.heap.size ≠ gp ∧ w2.heap.size < w5.heap.size ∧ w2.heap.size ≠ gp ∧ g < w5.heap.size ∧ g ≠ gp ∧ gp < w5.heap.size ∧ w.heap.size ≤ gp ∧ w.heap.size ≤ w5.heap.size) := by
      have := B1.out.size
      have := b1.out.lt
      have := b2.out.lt
      unfold Hid
      refine ⟨by omega, by omega, by omega, by omega, by omega, by omega, by omega, by omega, by omega⟩
    have g0 := b5.out.cell0
    have g1 := b5.out.cell1
    have x5 := X5.out
    clear hf hb e0 e1 hlt5 hgl hsz hs25 hs2 hrs
    go_wp2
    go_loopw [33] (fun i wr => ∃ v : Nat, v ≤ zss.length ∧ i = .int .i64 v ∧ Hid (OwnF wr w4.heap.size gp O.length O.length (planF O zss n0 In G v)) ∧ Hid (Only (fun b => b = gp ∨ w5.heap.size ≤ b) w5 wr)) (fun i _ => zss.length - (intOf i).toNat)
    case atStart => exact ⟨0, Nat.zero_le _, rfl, P5, Only.refl _ _⟩
    case round =>
      clear P5 g0 g1 x5
      obtain ⟨v, hv, rfl, HP, HO⟩ := hrel
      obtain ⟨l1, l2, l3, l4, l5, l6, l7, l8, l9⟩ := HLT.out
      have hB5s := B5.out.size
      have HBw : Hid (Below w.heap.size w wr) := B5.out.trans (HO.out.below (B := w.heap.size) hB5s (fun b hb => by omega))
      by_cases hlt : v < zss.length
      · have hi1 : (v : Int) < zss.length := by omega
        have hv0 : (0 : Int) ≤ v := by omega
        have hvO : v < O.length := by rw [← HZO.out]; exact hlt
        have hvOI : (v : Int) < O.length := by omega
        obtain ⟨q, hq⟩ : ∃ q, q = F v := ⟨_, rfl⟩
        have hqb := FB.out v
        rw [← hq] at hqb
        have hq1 : -1 ≤ q := hqb.1
        have hq2 : q ≤ 256 := by have := hqb.2; have := HZO.out; omega
        have HQ := Lib.hid hq
        obtain ⟨wa, hwa⟩ : ∃ y, y = wr.alloc (.cells #[.int .i64 q] 2) := ⟨_, rfl⟩
        have HWA := Lib.hid hwa
        have Ba : Hid (Below wr.heap.size wr wa) := by rw [hwa]; exact below1 _ _
        have HBa := Lib.hid (HBw.out.trans (Ba.out.mono HBw.out.size))
        have HOa : Hid (Only (fun b => b = gp ∨ w5.heap.size ≤ b) w5 wa) := HO.out.trans (Only.of_below Ba.out)
        have HPa : Hid (OwnF wa w4.heap.size gp O.length O.length (planF O zss n0 In G v)) := OwnF.only HP.out (S := fun _ => False) (Only.of_below Ba.out) (fun h => h)
        have r0 : wr.cell? ⟨g, v, none⟩ = some (.int .i64 q) := by rw [hq]; exact only_cell HO.out (p := ⟨g, v, none⟩) (by show ¬ (g = gp ∨ w5.heap.size ≤ g); omega) (R5.out v hlt)
        have ba := Lib.hid (box2_keep b5.out HOa.out (by omega))
        have k12 : wa.cell? ⟨wr.heap.size, 0, none⟩ = some (.int .i64 q) := by rw [hwa]; exact (Boxed.new wr 2 (.int .i64 q)).cell
        have hPR : PullR wa w2.heap.size wr.heap.size g zss.length c F q := ⟨only_cell HOa.out (p := ⟨w2.heap.size, 0, none⟩) (by show ¬ (w2.heap.size = gp ∨ w5.heap.size ≤ w2.heap.size); omega) X5.out, k12, fun u hu => only_cell HOa.out (p := ⟨g, u, none⟩) (by show ¬ (g = gp ∨ w5.heap.size ≤ g); omega) (R5.out u hu)⟩
        have HPR := Lib.hid hPR
        obtain ⟨ob, oo, hoa, hoc⟩ := (HOi.out.below HBa.out).cell (by omega)
        have o1 := hoc v hvO
        subst hoa
        have t0 := ba.out.cell0
        have t1 := ba.out.cell1
        rw [hwa] at o1 t0 t1 k12
        clear hoc hq hqb hPR hwa l1 l2 l3 l4 l5 l6 l7 l8 l9 hB5s
        by_cases how : nth O v = n0
        · have hoe : (nth O v != n0) = false := by simpa using how
          by_cases hq0 : q < 1
          · have HPn : Hid (OwnF wa w4.heap.size gp O.length O.length (planF O zss n0 In G (v + 1))) := OwnF.congr HPa.out fun i _ => planF_same (by
              unfold pullV
              rw [if_neg]
              rintro ⟨-, h2⟩
              rw [← HF.out, ← HQ.out] at h2
              omega) i
            clear how
            go_wp2
            rw [← HWA.out]
            go_roundw
            case rel => exact ⟨v + 1, by omega, by go_num, HPn, HOa⟩
            case measure => simp [intOf]; omega
          · have hex : ∃ x ∈ row zss v, F x.toNat = q - 1 := by
              obtain ⟨j, hj⟩ : ∃ j : Nat, q = (j : Int) + 1 := ⟨(q - 1).toNat, by omega⟩
              have h := HQ.out
              rw [hj, HF.out] at h
              obtain ⟨u, hu, -, hr⟩ := rkK_own (n := zss.length) (v := v) (j := j) h.symm (by unfold ownB; simpa using how)
              refine ⟨u, hu, ?_⟩
              rw [HF.out, hj]
              show rkK zss O n0 (openS In In.length) (openS G G.length) zss.length u.toNat = _
              rw [hr]; omega
            have hpv : pullV O zss n0 In G v = pullF F q (row zss v) := by
              unfold pullV
              rw [if_pos ⟨how, by rw [← HF.out, ← HQ.out]; omega⟩, ← HF.out, ← HQ.out]
            have HPV := Lib.hid hpv
            have h16 := HR16.out v hlt
            have hz256 : zss.length ≤ 256 := by rw [HZO.out]; exact hO256
            obtain ⟨nb, no, hna, hnc⟩ := (HNi.out.below HBa.out).cell (by omega)
            have n1 := hnc v hlt
            subst hna
            have HIX := Lib.hid (indexFunc_is (C v) HPR.out ((HNi.out.below HBa.out).rows v hlt) (HIN.out v hlt) (by omega) (by omega) ⟨by omega, by omega⟩ hex)
            rw [HWA.out] at n1
            clear hnc hex hpv how
            go_wp2_with fail
            rw [← HWA.out]
            refine HIX.out.mono ?_
            rintro e wb ⟨k, hkl, rfl, hky, hb⟩
            have HKY := Lib.hid hky
            have HBb := Lib.hid (HBa.out.trans (hb.mono HBa.out.size))
            have HOb : Hid (Only (fun b => b = gp ∨ w5.heap.size ≤ b) w5 wb) := HOa.out.trans (Only.of_below hb)
            have HPb : Hid (OwnF wb w4.heap.size gp O.length O.length (planF O zss n0 In G v)) := OwnF.only HPa.out (S := fun _ => False) (Only.of_below hb) (fun h => h)
            have bb := Lib.hid (ba.out.below hb)
            have s1 := bb.out.cell1
            obtain ⟨nb', no', hna', hnc'⟩ := (HNi.out.below HBb.out).cell (by omega)
            simp only [Option.some.injEq, Addr.mk.injEq] at hna'
            obtain ⟨rfl, rfl, -⟩ := hna'
            have n2 := hnc' v hlt
            obtain ⟨rb, ro, hra, hrc⟩ := ((HNi.out.below HBb.out).rows v hlt).cell (by omega)
            have q3 := hrc k hkl
            obtain ⟨y, hy, hyn⟩ := HIN.out v hlt _ (nth_mem hkl)
            have HY : Hid (pullF F q (row zss v) = (y : Int)) := by rw [← HKY.out]; exact hy
            rw [hy] at q3
            rw [hra] at n2 ⊢
            have fc := HPb.out.cell hvO
            have ff := HPb.out.frozen v
            have hkI : (k : Int) < (row zss v).length := by omega
            have hk0 : (0 : Int) ≤ k := by omega
            have HFn : Hid (OwnF (wb.setCell ⟨gp, v, none⟩ (.int .i64 y)) w4.heap.size gp O.length O.length (planF O zss n0 In G (v + 1))) :=
              OwnF.congr (HPb.out.put (u := v) (x := y) (by unfold Fits; omega)) fun i _ => by rw [← planF_put, HPV.out, HY.out]
            have HOn : Hid (Only (fun b => b = gp ∨ w5.heap.size ≤ b) w5 (wb.setCell ⟨gp, v, none⟩ (.int .i64 y))) := HOb.out.setCell (p := ⟨gp, v, none⟩) (.inl rfl) _
            clear hb hky hnc' hrc hy hra o1 t0 t1 k12 n1 r0
            go_wp2
            go_roundw
            case rel => exact ⟨v + 1, by omega, by go_num, HFn, HOn⟩
            case measure => simp [intOf]; omega
        · have hoe : (nth O v != n0) = true := by simpa using how
          have HPn : Hid (OwnF wa w4.heap.size gp O.length O.length (planF O zss n0 In G (v + 1))) := OwnF.congr HPa.out fun i _ => planF_same (by
            unfold pullV
            rw [if_neg (fun h => how h.1)]) i
          clear how
          go_wp2
          rw [← HWA.out]
          go_roundw
          case rel => exact ⟨v + 1, by omega, by go_num, HPn, HOa⟩
          case measure => simp [intOf]; omega
      · have hvv : v = zss.length := by omega
        have hi1 : ¬ (v : Int) < zss.length := by omega
        have hfin : Hid (OwnInts wr w.heap.size wr.heap.size (.slice (some ⟨gp, 0, none⟩) O.length O.length) r) := by
          have h : OwnF wr w4.heap.size gp O.length O.length (pullV O zss n0 In G) := OwnF.congr HP.out fun i hi => by unfold planF; rw [if_pos (by rw [hvv, HZO.out]; exact hi)]
          have h2 := OwnInts.base h B4.out.size
          rw [← HE.out, HZO.out]
          exact h2
        clear hvv
        go_wp2
        go_ret
        exact ⟨_, rfl, hfin.out, HBw.out⟩

end Go.Proofs.Ytaoagikipbcjpaa
