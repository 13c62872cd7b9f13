/-
  Contract: the model's PullIn.
-/
import Derived.Test.YthelpfilgamdfaaAttractsSpec
namespace Go.Proofs.Ythelpfilgamdfaa
open Go.RowKit

theorem Only.later' {S T : Nat → Prop} {a b c : World} (h : Only S a b) (k : Only T b c) (hT : ∀ i, T i → S i ∨ a.heap.size ≤ i) : Only S a c :=
  ⟨k.os.trans h.os, k.tape.trans h.tape, k.output.trans h.output, Nat.le_trans h.size k.size, fun i hi hs => (k.block i (Nat.lt_of_lt_of_le hi h.size) (fun ht => by rcases hT i ht with h1 | h1 <;> first | exact hs h1 | omega)).trans (h.block i hi hs)⟩

/-- The search for the smallest one, behind i successors. -/
def PullS (F : Nat → Int) (q0 : Int) (xs : List Int) (tgt : Int) (own : Bool) (i : Nat) (to : Int) : Prop :=
  (to < 0 → to = -1 ∧ pullF F q0 (xs.drop i) = tgt) ∧ (0 ≤ to → to = tgt ∧ own = true ∧ 0 < q0)

set_option maxHeartbeats 8000000 in
set_option maxRecDepth 100000 in
theorem specPullIn_is {w : World} {va : Value} {O : List Int} {zss : List (List Int)} {n0 : Int} {aI aG : Option Addr} {In G r : List Int} (cI cG : Nat) (hr : pullL O zss n0 In G = r) (h : ArenaAt w va O zss) (hI : IntsAt w aI In) (hG : IntsAt w aG G) :
    Calls Try.prog 36 #[va, .int .i64 n0, .slice aI In.length cI, .slice aG G.length cG] w (GivesInts w r) := by
  obtain ⟨i0, hi, hz0, hz1, hz2⟩ := info_parts info_int
  have HAt := Lib.hid h
  have HIi := Lib.hid hI
  have HGi := Lib.hid hG
  obtain ⟨ao, an, co, cn, A, C, rfl, h1, h2⟩ := h
  have HOi := Lib.hid h1
  have HNi := Lib.hid h2
  have hlO := h1.len
  have hlN := h2.len
  clear h1 h2 hI hG
  obtain ⟨w0, hw0⟩ : ∃ y, y = w.alloc (.cells #[.slice ao O.length co, .slice an zss.length cn] 30) := ⟨_, rfl⟩
  have HW0 := Lib.hid hw0
  have BW0 : Hid (Below w.heap.size w w0) := by rw [hw0]; exact below1 _ _
  have bW0 : Hid (Box2 w0 w.heap.size 30 (.slice ao O.length co) (.slice an zss.length cn)) := by rw [hw0]; exact Box2.new _ _ _ _
  have hs0 : w0.heap.size = w.heap.size + 1 := by rw [hw0]; simp
  have HS0 := Lib.hid hs0
  clear hw0 hs0
  have c0 := (bW0.out.alloc (.cells #[] 2)).cell0
  have c1 := (bW0.out.alloc (.cells #[] 2)).cell1
  have hem := own_empty (w := w0) BW0.out
  obtain ⟨w2, hw2⟩ : ∃ y, y = w0.alloc (.cells #[] 2) := ⟨_, rfl⟩
  have HW2 := Lib.hid hw2
  rw [← hw2] at hem c0 c1
  have BW := Lib.hid hem.2
  have EM := Lib.hid hem.1
  have bW : Hid (Box2 w2 w.heap.size 30 (.slice ao O.length co) (.slice an zss.length cn)) := by rw [hw2]; exact bW0.out.alloc _
  have hs2 : w2.heap.size = w0.heap.size + 1 := by rw [hw2]; simp
  have HS2 := Lib.hid hs2
  have O2 : Hid (w2.ownsRow w0.heap.size 2 1 (.slice (some ⟨w0.heap.size, 0, none⟩) 0 0) 0 ((fnL 0 (pullV O zss n0 In G)).map (Value.int .i64))) := by rw [hw2]; exact World.ownsRow_made w0 #[] 0 (Nat.le_refl _) (by unfold maxLen; omega) rfl
  rw [HS0.out] at EM O2
  clear hw2 hs2 hem
  cases hA : okB O zss n0 In with
  | false =>
    have HE : Hid (r = []) := by rw [← hr]; simp [pullL, bothB, hA, Hid]
    have HC := Lib.hid (l3Ok_is cI hA (HAt.out.below BW.out) (HIi.out.below BW.out))
    clear hA hr
    go_enter Try.func36, Try.ntmps36
    go_wp2_with fail
    rw [← HW0.out, ← HW2.out]
    refine HC.out.mono ?_
    rintro e w3 ⟨rfl, hb⟩
    have hfin := Lib.hid (And.intro (EM.out.below hb).retop (BW.out.trans (hb.mono BW.out.size)))
    clear hb c0 c1
    go_wp2
    go_ret
    exact ⟨_, rfl, by rw [HE.out]; exact hfin.out.1, hfin.out.2⟩
  | true =>
    have HC := Lib.hid (l3Ok_is cI hA (HAt.out.below BW.out) (HIi.out.below BW.out))
    cases hB : okB O zss n0 G with
    | false =>
      have HE : Hid (r = []) := by rw [← hr]; simp [pullL, bothB, hB, Hid]
      have HB := Lib.hid hB
      clear hA hr hB
      go_enter Try.func36, Try.ntmps36
      go_wp2_with fail
      rw [← HW0.out, ← HW2.out]
      refine HC.out.mono ?_
      rintro e w3 ⟨rfl, hb⟩
      have B1 := Lib.hid (BW.out.trans (hb.mono BW.out.size))
      have E1 := Lib.hid (EM.out.below hb)
      have d0 := (bW.out.below hb).cell0
      have d1 := (bW.out.below hb).cell1
      clear hb c0 c1
      go_wp2_with fail
      refine (l3Ok_is cG HB.out (HAt.out.below B1.out) (HGi.out.below B1.out)).mono ?_
      rintro e w4 ⟨rfl, hb⟩
      have hfin := Lib.hid (And.intro (E1.out.below hb).retop (B1.out.trans (hb.mono B1.out.size)))
      clear hb d0 d1
      go_wp2
      go_ret
      exact ⟨_, rfl, by rw [HE.out]; exact hfin.out.1, hfin.out.2⟩
    | true =>
      have hb2 : bothB O zss n0 In G = true := by simp [bothB, hA, hB]
      have HOK := Lib.hid hb2
      obtain ⟨hP, -, -, -⟩ := bothB_yes hb2
      have hz256 : zss.length ≤ 256 := by have := hP.2.1; have := hP.2.2.1; omega
      have hzO := hP.2.2.1
      have HIN := Lib.hid (arena_nats hP)
      have HZO := Lib.hid hzO
      have HE : Hid (fnL zss.length (pullV O zss n0 In G) = r) := by rw [← hr]; unfold pullL; rw [if_pos hb2]; rfl
      have HB := Lib.hid hB
      have HPB : Hid (∀ i, i < zss.length → Fits (pullV O zss n0 In G i)) := fun i hi => by
        unfold pullV
        split
        · have key : ∀ us : List Int, (∀ x ∈ us, ∃ v : Nat, x = (v : Int) ∧ v < zss.length) → Fits (pullF (ranksF O zss n0 In G) (ranksF O zss n0 In G i) us) := fun us => by
            induction us with
            | nil => intro _; unfold pullF Fits; omega
            | cons u us ih =>
              intro hus
              rw [pullF]
              split
              · obtain ⟨v, rfl, hv⟩ := hus u (by simp)
                unfold Fits; omega
              · exact ih fun x hx => hus x (by simp [hx])
          exact key _ (HIN.out i hi)
        · unfold Fits; omega
      clear hA hr hB hb2 hP hzO
      go_enter Try.func36, Try.ntmps36
      go_wp2_with fail
      rw [← HW0.out, ← HW2.out]
      refine HC.out.mono ?_
      rintro e w3 ⟨rfl, hb⟩
      have B1 := Lib.hid (BW.out.trans (hb.mono BW.out.size))
      have b1 := Lib.hid (bW.out.below hb)
      have P1 := Lib.hid hb
      have d0 := b1.out.cell0
      have d1 := b1.out.cell1
      clear hb c0 c1
      go_wp2_with fail
      refine (l3Ok_is cG HB.out (HAt.out.below B1.out) (HGi.out.below B1.out)).mono ?_
      rintro e w5 ⟨rfl, hb⟩
      have B2 := Lib.hid (B1.out.trans (hb.mono B1.out.size))
      have b2 := Lib.hid (b1.out.below hb)
      have P2 := Lib.hid (P1.out.trans (hb.mono P1.out.size))
      have c0 := b2.out.cell0
      have c1 := b2.out.cell1
      clear hb d0 d1
      go_wp2_with fail
      refine (l3Ranks_own cI cG HOK.out (HAt.out.below B2.out) (HIi.out.below B2.out) (HGi.out.below B2.out)).mono ?_
      rintro e w4 ⟨g, cap, rfl, ho, hb⟩
      have hs02 := HS0.out
      have hs12 := HS2.out
      have B4 := Lib.hid (B2.out.trans (hb.mono B2.out.size))
      have b4 := Lib.hid (b2.out.below hb)
      have P4 := Lib.hid (P2.out.trans (hb.mono P2.out.size))
      have hp2 := P2.out.size
      have hp4 := P4.out.size
      have HS4 : Hid ((w.heap.size + 1) < w4.heap.size) := by simp only [Hid]; omega
      have HF4 := Lib.hid ho
      have hgl := ho.lt
      have HGL : Hid ((w.heap.size + 1) < g ∧ g < w4.heap.size) := ⟨by omega, by omega⟩
      have HSW : Hid (w.heap.size < (w.heap.size + 1)) := by simp only [Hid]; omega
      have O4 := Lib.hid (ownsRow_only O2.out (S := fun _ => False) (Only.of_below P4.out) (fun _ _ h => h))
      have V4 : Hid (∀ b, (Value.slice (some ⟨(w.heap.size + 1), 0, none⟩) 0 0).ownBlock = some b → b = (w.heap.size + 1) ∨ w4.heap.size ≤ b) := fun b hb => by simp [Value.ownBlock] at hb; omega
      have K4 : Hid (Only (fun b => b = (w.heap.size + 1)) w4 w4) := Only.refl _ _
      clear ho hb c0 c1 hs02 hs12 hp2 hp4 hgl O2 HS2 HS0
      go_wp2
      go_loopw [9, 11] (fun v iv wr => ∃ (k : Nat) (uu : Value), k ≤ zss.length ∧ iv = .int .i64 k ∧ uu = v ∧ Hid (wr.ownsRow (w.heap.size + 1) 2 1 uu k ((fnL k (pullV O zss n0 In G)).map (Value.int .i64))) ∧ Hid (∀ b, uu.ownBlock = some b → b = (w.heap.size + 1) ∨ w4.heap.size ≤ b) ∧ Hid (Only (fun b => b = (w.heap.size + 1)) w4 wr)) (fun _ iv _ => zss.length - (intOf iv).toNat)
      case atStart => exact ⟨0, _, Nat.zero_le _, rfl, rfl, O4, V4, K4⟩
      case round =>
        clear O4 V4 K4
        obtain ⟨k, uu, hk, rfl, rfl, HO, HV, HB⟩ := hrel
        by_cases hlt : k < zss.length
        · have hi1 : (k : Int) < zss.length := by omega
          obtain ⟨F, hF⟩ : ∃ F, F = ranksF O zss n0 In G := ⟨_, rfl⟩
          have HFE := Lib.hid hF
          have HF5 := HF4
          rw [← hF] at HF5
          obtain ⟨q0, hq0⟩ : ∃ q, q = F k := ⟨_, rfl⟩
          have HQ0 := Lib.hid hq0
          have hqb : -1 ≤ q0 ∧ q0 ≤ 256 := by
            have := rkK_bound (zss := zss) (O := O) (who := n0) (I := openS In In.length) (G := openS G G.length) zss.length k
            rw [hq0, hF]; unfold ranksF; omega
          obtain ⟨hqb1, hqb2⟩ := hqb
          obtain ⟨xs, hxs⟩ : ∃ xs, xs = row zss k := ⟨_, rfl⟩
          have HXS := Lib.hid hxs
          have hnat := HIN.out k hlt
          rw [← hxs] at hnat
          have HNA := Lib.hid hnat
          obtain ⟨own, hown⟩ : ∃ own, own = decide (nth O k = n0) := ⟨_, rfl⟩
          have HOWN := Lib.hid hown
          obtain ⟨tgt, htgt⟩ : ∃ tgt, tgt = pullF F q0 xs := ⟨_, rfl⟩
          have HTG := Lib.hid htgt
          have HPV : Hid (pullV O zss n0 In G k = if own = true ∧ 0 < q0 then tgt else -1) := by
            simp only [Hid, pullV]
            rw [htgt, hq0, hxs, hF, hown]
            simp only [decide_eq_true_eq]
          obtain ⟨ob, oo, hoa, -⟩ := HOi.out.cell (by have := HZO.out; omega)
          obtain ⟨nb, no, hna, -⟩ := HNi.out.cell (by omega)
          have HOC : Hid (∀ W', Below w.heap.size w W' → W'.cell? ⟨ob, oo + k, none⟩ = some (.int .i64 (nth O k))) := fun W' hb' => by
            obtain ⟨b', o', ha', hc'⟩ := (HOi.out.below hb').cell (by have := HZO.out; omega)
            rw [hoa] at ha'
            simp only [Option.some.injEq, Addr.mk.injEq] at ha'
            obtain ⟨rfl, rfl, _⟩ := ha'
            exact hc' k (by have := HZO.out; omega)
          have HNC : Hid (∀ W', Below w.heap.size w W' → W'.cell? ⟨nb, no + k, none⟩ = some (.slice (A k) xs.length (C k))) := fun W' hb' => by
            obtain ⟨b', o', ha', hc'⟩ := (HNi.out.below hb').cell (by omega)
            rw [hna] at ha'
            simp only [Option.some.injEq, Addr.mk.injEq] at ha'
            obtain ⟨rfl, rfl, _⟩ := ha'
            rw [hxs]; exact hc' k hlt
          have HRW : Hid (∀ W', Below w.heap.size w W' → IntsAt W' (A k) xs) := fun W' hb' => by rw [hxs]; exact (HNi.out.below hb').rows k hlt
          have hxl : xs.length ≤ 17592186044416 := by rw [hxs]; exact (HNi.out.rows k hlt).len
          have hkO : (k : Int) < O.length := by have := HZO.out; omega
          have hk0 : (0 : Int) ≤ (k : Int) := by omega
          subst hoa
          subst hna
          clear hF hq0 hxs hnat hown htgt
          have S0 : Hid (PullS F q0 xs tgt own 0 (-1)) := ⟨fun _ => ⟨rfl, by rw [List.drop_zero]; exact HTG.out.symm⟩, fun h => by omega⟩
          go_wp2
          go_loopw [12, 13] (fun tv iv wr => ∃ (i : Nat) (to : Int), i ≤ xs.length ∧ iv = .int .i64 i ∧ tv = .int .i64 to ∧ -1 ≤ to ∧ to ≤ 1048576 ∧ Hid (PullS F q0 xs tgt own i to) ∧ Hid (wr.ownsRow (w.heap.size + 1) 2 1 uu k ((fnL k (pullV O zss n0 In G)).map (Value.int .i64))) ∧ Hid (Only (fun b => b = (w.heap.size + 1)) w4 wr)) (fun _ iv _ => xs.length - (intOf iv).toNat)
          case atStart => exact ⟨0, -1, Nat.zero_le _, rfl, rfl, by omega, by omega, S0, HO, HB⟩
          case round =>
            clear S0 HO HB
            obtain ⟨i, to, hi', rfl, rfl, hto0, hto1, HST, HO, HB⟩ := hrel
            have hsw := HSW.out
            have hgg := HGL.out
            have HBw : Hid (Below w.heap.size w wr) := B4.out.trans (HB.out.below (B := w.heap.size) B4.out.size (fun b hb => by omega))
            have HT : Hid (Box2 wr _ _ _ _) := box2_keep b4.out HB.out (by omega)
            have HFr : Hid (OwnF wr w5.heap.size g cap zss.length F) := HF5.out.only HB.out (by omega)
            have t0 := HT.out.cell0
            have t1 := HT.out.cell1
            have o1 := HOC.out _ HBw.out
            have n1 := HNC.out _ HBw.out
            have f1 := HFr.out.cell hlt
            rw [← HQ0.out] at f1
            clear hsw hgg
            by_cases hil : i < xs.length
            · have hi2 : (i : Int) < xs.length := by omega
              have hii : (0 : Int) ≤ (i : Int) := by omega
              by_cases ht : to < 0
              · obtain ⟨hto, hpf⟩ := HST.out.1 ht
                have HTOE := Lib.hid hto
                clear hto
                cases own with
                | true =>
                  have hoe : (nth O k == n0) = true := by have h := of_decide_eq_true HOWN.out.symm; simpa using h
                  by_cases hq : 0 < q0
                  · obtain ⟨sb, so, hsa, hsc⟩ := (HRW.out _ HBw.out).cell (by omega)
                    have s1 := hsc i hil
                    obtain ⟨u, hu, hul⟩ := HNA.out _ (nth_mem hil)
                    have HU := Lib.hid hu
                    rw [hu] at s1
                    rw [hsa] at n1
                    have hD : xs.drop i = (u : Int) :: xs.drop (i + 1) := by rw [← hu]; exact drop_cons hil
                    have f2 := HFr.out.cell hul
                    obtain ⟨q, hqq⟩ : ∃ q, q = F u := ⟨_, rfl⟩
                    rw [← hqq] at f2
                    rw [hD, pullF, Int.toNat_natCast, ← hqq] at hpf
                    have HPF := Lib.hid hpf
                    have hu0 : (0 : Int) ≤ (u : Int) := by omega
                    have huz : (u : Int) < zss.length := by omega
                    clear hsc hu hD hqq hpf hsa
                    go_wp2
                    go_quiet (fail)
                    obtain ⟨w6, hw6⟩ : ∃ y, y = wr.drewN nq := ⟨_, rfl⟩
                    rw [← hw6]
                    have hdn : Below wr.heap.size wr w6 := by rw [hw6]; exact below_drewN (Below.refl _ _) nq
                    have HB6 := Lib.hid (HB.out.trans (Only.of_below hdn))
                    have HO6 := Lib.hid (ownsRow_only HO.out (S := fun _ => False) (Only.of_below hdn) (fun _ _ h => h))
                    have HBw6 := Lib.hid (HBw.out.trans (hdn.mono HBw.out.size))
                    have T6 := Lib.hid (HT.out.below hdn)
                    clear hw6 hdn f1 f2 s1 n1 o1 t0 t1
                    by_cases hqe : q = q0 - 1
                    · have hbe : (q == q0 - 1) = true := by simpa using hqe
                      have HPF2 := HPF.out
                      rw [if_pos hqe] at HPF2
                      have S1 : Hid (PullS F q0 xs tgt true (i + 1) u) := ⟨fun h => by omega, fun _ => ⟨HPF2, rfl, hq⟩⟩
                      have t1 := T6.out.cell1
                      obtain ⟨sb2, so2, hsa, hsc⟩ := (HRW.out _ HBw6.out).cell (by omega)
                      have n1 := HNC.out _ HBw6.out
                      rw [hsa] at n1
                      have s1 := hsc i hil
                      rw [HU.out] at s1
                      clear hqe HPF2 hsa hsc
                      go_wp2
                      go_roundw
                      case rel => exact ⟨i + 1, u, by omega, by go_num, rfl, by omega, by omega, S1, HO6, HB6⟩
                      case measure => simp [intOf]; omega
                    · have hbe : (q == q0 - 1) = false := beq_eq_false_iff_ne.2 hqe
                      have HPF2 := HPF.out
                      rw [if_neg hqe] at HPF2
                      have S1 : Hid (PullS F q0 xs tgt true (i + 1) to) := ⟨fun _ => ⟨HTOE.out, HPF2⟩, fun h => by omega⟩
                      clear hqe HPF2
                      go_wp2
                      go_roundw
                      case rel => exact ⟨i + 1, to, by omega, by go_num, rfl, hto0, hto1, S1, HO6, HB6⟩
                      case measure => simp [intOf]; omega
                  · have hqd : decide (0 < q0) = false := decide_eq_false hq
                    have HTO : Hid (to = pullV O zss n0 In G k) := by rw [HPV.out, if_neg (fun h => hq h.2)]; exact HTOE.out
                    clear hpf HTOE
                    clear HST
                    go_wp2_with (at_builtin; refine wpList_append_own_at _ rfl _ _ 27 rfl (w.heap.size + 1) 2 i0 (.int .i64 0) 1 8 Try.underlying27 hi hz0 hz1 hz2 rfl (by decide) _ _ _ rfl (HO.out.alloc _) ⟨wr.heap.size, 0, none⟩ 1 1 [.int .i64 to] rfl rfl ?c1 ?c2 ?c3 ?c4 ?c5 ?_)
                    try (case c1 => exact cell_one_new _ _ _)
                    case c2 => first | rfl | (intro u hu; simp at hu; subst hu; rfl)
                    case c3 => unfold maxLen; omega
                    case c4 => omega
                    case c5 => have := HB.out.size; have := HS4.out; simp; omega
                    intro v' w6 hown hgrow _ hwh
                    have hbw := HB.out.size
                    have HVn : Hid (∀ b, v'.ownBlock = some b → b = (w.heap.size + 1) ∨ w4.heap.size ≤ b) := fun b hb => by
                      rcases hwh with h | h
                      · exact HV.out b (by rw [← h]; exact hb)
                      · rw [h] at hb; simp at hb; omega
                    have HBn : Hid (Only (fun b => b = (w.heap.size + 1)) w4 w6) := HB.out.later' (T := fun b => b = (w.heap.size + 1) ∨ w4.heap.size ≤ b) (((Only.of_below (below1 wr _)).trans ((Only.of_grown hgrow).mono fun b hb => HV.out b hb))) (fun b hb => hb)
                    have HOn : Hid (w6.ownsRow (w.heap.size + 1) 2 1 v' (k + 1) ((fnL (k + 1) (pullV O zss n0 In G)).map (Value.int .i64))) := by rw [fnL_succ, List.map_append, ← HTO.out]; exact hown
                    clear hown hgrow hwh hbw
                    go_wp2
                    go_roundw
                    case rel => exact ⟨k + 1, v', by omega, by go_num, rfl, HOn, HVn, HBn⟩
                    case measure => simp [intOf]; omega
                | false =>
                  have hoe : (nth O k == n0) = false := by have h := of_decide_eq_false HOWN.out.symm; simpa using h
                  have hoe2 : decide (nth O k = n0) = false := HOWN.out.symm
                  have htd : decide (to < 0) = true := decide_eq_true ht
                  have HTO : Hid (to = pullV O zss n0 In G k) := by rw [HPV.out, if_neg (fun h => by simp at h)]; exact HTOE.out
                  clear hpf HTOE
                  clear HST
                  go_wp2_with (at_builtin; refine wpList_append_own_at _ rfl _ _ 27 rfl (w.heap.size + 1) 2 i0 (.int .i64 0) 1 8 Try.underlying27 hi hz0 hz1 hz2 rfl (by decide) _ _ _ rfl (HO.out.alloc _) ⟨wr.heap.size, 0, none⟩ 1 1 [.int .i64 to] rfl rfl ?c1 ?c2 ?c3 ?c4 ?c5 ?_)
                  try (case c1 => exact cell_one_new _ _ _)
                  case c2 => first | rfl | (intro u hu; simp at hu; subst hu; rfl)
                  case c3 => unfold maxLen; omega
                  case c4 => omega
                  case c5 => have := HB.out.size; have := HS4.out; simp; omega
                  intro v' w6 hown hgrow _ hwh
                  have hbw := HB.out.size
                  have HVn : Hid (∀ b, v'.ownBlock = some b → b = (w.heap.size + 1) ∨ w4.heap.size ≤ b) := fun b hb => by
                    rcases hwh with h | h
                    · exact HV.out b (by rw [← h]; exact hb)
                    · rw [h] at hb; simp at hb; omega
                  have HBn : Hid (Only (fun b => b = (w.heap.size + 1)) w4 w6) := HB.out.later' (T := fun b => b = (w.heap.size + 1) ∨ w4.heap.size ≤ b) (((Only.of_below (below1 wr _)).trans ((Only.of_grown hgrow).mono fun b hb => HV.out b hb))) (fun b hb => hb)
                  have HOn : Hid (w6.ownsRow (w.heap.size + 1) 2 1 v' (k + 1) ((fnL (k + 1) (pullV O zss n0 In G)).map (Value.int .i64))) := by rw [fnL_succ, List.map_append, ← HTO.out]; exact hown
                  clear hown hgrow hwh hbw
                  go_wp2
                  go_roundw
                  case rel => exact ⟨k + 1, v', by omega, by go_num, rfl, HOn, HVn, HBn⟩
                  case measure => simp [intOf]; omega
              · have htd : decide (to < 0) = false := decide_eq_false ht
                have HTO : Hid (to = pullV O zss n0 In G k) := by
                  obtain ⟨e1, e2, e3⟩ := HST.out.2 (by omega)
                  rw [HPV.out, if_pos ⟨e2, e3⟩]; exact e1
                clear HST
                go_wp2_with (at_builtin; refine wpList_append_own_at _ rfl _ _ 27 rfl (w.heap.size + 1) 2 i0 (.int .i64 0) 1 8 Try.underlying27 hi hz0 hz1 hz2 rfl (by decide) _ _ _ rfl (HO.out.alloc _) ⟨wr.heap.size, 0, none⟩ 1 1 [.int .i64 to] rfl rfl ?c1 ?c2 ?c3 ?c4 ?c5 ?_)
                try (case c1 => exact cell_one_new _ _ _)
                case c2 => first | rfl | (intro u hu; simp at hu; subst hu; rfl)
                case c3 => unfold maxLen; omega
                case c4 => omega
                case c5 => have := HB.out.size; have := HS4.out; simp; omega
                intro v' w6 hown hgrow _ hwh
                have hbw := HB.out.size
                have HVn : Hid (∀ b, v'.ownBlock = some b → b = (w.heap.size + 1) ∨ w4.heap.size ≤ b) := fun b hb => by
                  rcases hwh with h | h
                  · exact HV.out b (by rw [← h]; exact hb)
                  · rw [h] at hb; simp at hb; omega
                have HBn : Hid (Only (fun b => b = (w.heap.size + 1)) w4 w6) := HB.out.later' (T := fun b => b = (w.heap.size + 1) ∨ w4.heap.size ≤ b) (((Only.of_below (below1 wr _)).trans ((Only.of_grown hgrow).mono fun b hb => HV.out b hb))) (fun b hb => hb)
                have HOn : Hid (w6.ownsRow (w.heap.size + 1) 2 1 v' (k + 1) ((fnL (k + 1) (pullV O zss n0 In G)).map (Value.int .i64))) := by rw [fnL_succ, List.map_append, ← HTO.out]; exact hown
                clear hown hgrow hwh hbw
                go_wp2
                go_roundw
                case rel => exact ⟨k + 1, v', by omega, by go_num, rfl, HOn, HVn, HBn⟩
                case measure => simp [intOf]; omega
            · have hi2 : ¬ (i : Int) < xs.length := by omega
              have hid : decide ((i : Int) < (xs.length : Int)) = false := decide_eq_false hi2
              have HTO : Hid (to = pullV O zss n0 In G k) := by
                have hie : i = xs.length := by omega
                by_cases ht : to < 0
                · obtain ⟨e1, e2⟩ := HST.out.1 ht
                  rw [hie, List.drop_length, pullF] at e2
                  rw [HPV.out, e1, e2]; split <;> rfl
                · obtain ⟨e1, e2, e3⟩ := HST.out.2 (by omega)
                  rw [HPV.out, if_pos ⟨e2, e3⟩]; exact e1
              clear HST
              go_wp2_with (at_builtin; refine wpList_append_own_at _ rfl _ _ 27 rfl (w.heap.size + 1) 2 i0 (.int .i64 0) 1 8 Try.underlying27 hi hz0 hz1 hz2 rfl (by decide) _ _ _ rfl (HO.out.alloc _) ⟨wr.heap.size, 0, none⟩ 1 1 [.int .i64 to] rfl rfl ?c1 ?c2 ?c3 ?c4 ?c5 ?_)
              try (case c1 => exact cell_one_new _ _ _)
              case c2 => first | rfl | (intro u hu; simp at hu; subst hu; rfl)
              case c3 => unfold maxLen; omega
              case c4 => omega
              case c5 => have := HB.out.size; have := HS4.out; simp; omega
              intro v' w6 hown hgrow _ hwh
              have hbw := HB.out.size
              have HVn : Hid (∀ b, v'.ownBlock = some b → b = (w.heap.size + 1) ∨ w4.heap.size ≤ b) := fun b hb => by
                rcases hwh with h | h
                · exact HV.out b (by rw [← h]; exact hb)
                · rw [h] at hb; simp at hb; omega
              have HBn : Hid (Only (fun b => b = (w.heap.size + 1)) w4 w6) := HB.out.later' (T := fun b => b = (w.heap.size + 1) ∨ w4.heap.size ≤ b) (((Only.of_below (below1 wr _)).trans ((Only.of_grown hgrow).mono fun b hb => HV.out b hb))) (fun b hb => hb)
              have HOn : Hid (w6.ownsRow (w.heap.size + 1) 2 1 v' (k + 1) ((fnL (k + 1) (pullV O zss n0 In G)).map (Value.int .i64))) := by rw [fnL_succ, List.map_append, ← HTO.out]; exact hown
              clear hown hgrow hwh hbw
              go_wp2
              go_roundw
              case rel => exact ⟨k + 1, v', by omega, by go_num, rfl, HOn, HVn, HBn⟩
              case measure => simp [intOf]; omega
        · have hi1 : ¬ (k : Int) < zss.length := by omega
          have hkk : k = zss.length := by omega
          have h := HO.out
          rw [hkk] at h
          have hsw := HSW.out
          have hsz := HB.out.size
          have hs4 := HS4.out
          have hfin := Lib.hid (And.intro ((OwnInts.mk' (zs := fnL zss.length (pullV O zss n0 In G)) (by rw [fnL_len]; exact h) (by rw [fnL_len]; omega) (fun j hj => by rw [fnL_len] at hj; rw [fnL_nth hj]; exact HPB.out j hj)).base (B' := w.heap.size) (by omega)) (B4.out.trans (HB.out.below (B := w.heap.size) (by omega) (fun b hb => by omega))))
          rw [HE.out] at hfin
          clear h hkk hsw hsz hs4
          go_wp2
          go_ret
          exact ⟨_, rfl, hfin.out⟩

end Go.Proofs.Ythelpfilgamdfaa
