/-
  Contracts: the model's EscapesIn and TrapIn.
-/
import Derived.Test.YthelpfilgamdfaaAttractsSpec
namespace Go.Proofs.Ythelpfilgamdfaa
open Go.RowKit

/-- Does a vertex stay, by its successors? -/
def staysF (own : Bool) (I : Nat → Bool) : Bool → List Int → Bool
  | s, [] => s
  | s, u :: us => if I u.toNat = false ∧ own = true then false else staysF own I (s || I u.toNat) us

def escB (O : List Int) (zss : List (List Int)) (who : Int) (S : List Int) : Int → Bool := fun x => !staysF (ownB O who x.toNat) (openS S S.length) false (row zss x.toNat)
noncomputable def escapesL (O : List Int) (zss : List (List Int)) (who : Int) (S : List Int) : List Int := if okB O zss who S = true then S.filter (escB O zss who S) else []
noncomputable def trapB (O : List Int) (zss : List (List Int)) (who : Int) (S : List Int) : Bool := okB O zss who S && decide ((escapesL O zss who S).length = 0)

set_option maxHeartbeats 4000000 in
set_option maxRecDepth 100000 in
theorem l3Stays_is {w : World} {va : Value} {O : List Int} {zss : List (List Int)} {n0 : Int} {bI N v : Nat} {I : Nat → Bool} {r : Bool}
    (hr : staysF (ownB O n0 v) I false (row zss v) = r) (h : ArenaAt w va O zss) (hO : O.length = N) (hz : zss.length = N) (hI : w.rowIs bI 4 N (marksV I))
    (hin : ∀ u : Nat, u < N → ∀ x ∈ row zss u, ∃ v : Nat, x = (v : Int) ∧ v < N) (hv : v < N) :
    Calls Try.prog 61 #[va, .int .i64 n0, .slice (some ⟨bI, 0, none⟩) N N, .int .i64 v] w fun e w' => e = .returned (.bool r) ∧ Below w.heap.size w w' := by
  obtain ⟨ao, an, co, cn, A, C, rfl, h1, h2⟩ := h
  have hlO := h1.len
  have hlN := h2.len
  obtain ⟨ob, oo, hoa, hoc⟩ := h1.cell (by omega)
  obtain ⟨nb, no, hna, hnc⟩ := h2.cell (by omega)
  subst hoa
  subst hna
  have o0 := hoc v (by omega)
  have n0' := hnc v (by omega)
  have hrows := h2.rows v (by omega)
  have hrl : (row zss v).length ≤ 17592186044416 := hrows.len
  have hnat := hin v hv
  obtain ⟨xs, hxs⟩ : ∃ xs, xs = row zss v := ⟨_, rfl⟩
  obtain ⟨own, hown⟩ : ∃ own, own = ownB O n0 v := ⟨_, rfl⟩
  have HOWN : Hid (own = decide (nth O v = n0)) := by rw [hown]; rfl
  rw [← hown, ← hxs] at hr
  rw [← hxs] at hrows hrl hnat n0'
  have HX := Lib.hid hr
  have HN := Lib.hid hnat
  have HRW := Lib.hid hrows
  have HMI := Lib.hid hI
  have B1 := Lib.hid (below1 w (.cells #[.slice (some ⟨ob, oo, none⟩) O.length co, .slice (some ⟨nb, no, none⟩) zss.length cn] 30))
  obtain ⟨w1, hw1⟩ : ∃ y, y = w.alloc (.cells #[.slice (some ⟨ob, oo, none⟩) O.length co, .slice (some ⟨nb, no, none⟩) zss.length cn] 30) := ⟨_, rfl⟩
  have HW1 := Lib.hid hw1
  have T1 : Hid (Box2 w1 w.heap.size 30 (.slice (some ⟨ob, oo, none⟩) O.length co) (.slice (some ⟨nb, no, none⟩) zss.length cn)) := by rw [hw1]; exact Box2.new _ _ _ _
  rw [← hw1] at B1
  have t0 := T1.out.cell0
  have t1 := T1.out.cell1
  have o1 := (B1.out.cell (World.block_lt_of_cell? _ _ o0)).trans o0
  have n1 := (B1.out.cell (World.block_lt_of_cell? _ _ n0')).trans n0'
  have HMI1 := Lib.hid (rowIs_below HMI.out B1.out)
  have HRW1 := Lib.hid (HRW.out.below B1.out)
  have hvO : (v : Int) < O.length := by omega
  have hvz : (v : Int) < zss.length := by omega
  have hv0 : (0 : Int) ≤ (v : Int) := by omega
  clear hO hz hr hnat hrows hI hoc hnc o0 n0' h1 h2 hw1 hown hxs HMI HRW
  go_enter Try.func61, Try.ntmps61
  go_wp2
  rw [← HW1.out]
  go_loopw [9, 10] (fun sv iv wr => ∃ (k : Nat) (s : Bool), k ≤ xs.length ∧ iv = .int .i64 k ∧ sv = .bool s ∧ Hid (staysF own I s (xs.drop k) = r) ∧ w1 = wr) (fun _ iv _ => xs.length - (intOf iv).toNat)
  case atStart => exact ⟨0, false, Nat.zero_le _, rfl, rfl, by rw [List.drop_zero]; exact HX, rfl⟩
  case round =>
    obtain ⟨k, s, hk, rfl, rfl, HK, rfl⟩ := hrel
    by_cases hlt : k < xs.length
    · have hi1 : (k : Int) < xs.length := by omega
      have hk0 : (0 : Int) ≤ (k : Int) := by omega
      obtain ⟨sb, so, hsa, hsc⟩ := HRW1.out.cell (by omega)
      have s1 := hsc k hlt
      obtain ⟨u, hu, hul⟩ := HN.out _ (nth_mem hlt)
      rw [hu] at s1
      have HD : Hid (xs.drop k = (u : Int) :: xs.drop (k + 1)) := by rw [← hu]; exact drop_cons hlt
      rw [hsa] at n1
      have i1 := HMI1.out.cell hul
      have hu0 : (0 : Int) ≤ (u : Int) := by omega
      have huN : (u : Int) < N := by omega
      have HK2 := HK.out
      rw [HD.out, staysF, Int.toNat_natCast] at HK2
      clear hsc hu hsa
      cases hIu : I u with
      | false =>
        rw [marksV, hIu] at i1
        rw [hIu] at HK2
        clear hIu
        cases own with
        | true =>
          rw [if_pos ⟨rfl, rfl⟩] at HK2
          have HE := Lib.hid HK2
          have hoe : (nth O v == n0) = true := by have h := of_decide_eq_true HOWN.out.symm; simpa using h
          clear HK2
          go_wp2
          go_ret
          exact ⟨by rw [← HE.out]; rfl, B1.out⟩
        | false =>
          rw [if_neg (by simp), Bool.or_false] at HK2
          have HK3 := Lib.hid HK2
          have hoe : (nth O v == n0) = false := by have h := of_decide_eq_false HOWN.out.symm; simpa using h
          clear HK2
          cases s with
          | true =>
            go_wp2
            go_roundw
            case rel => exact ⟨k + 1, true, by omega, by go_num, rfl, HK3, by first | rfl | trivial⟩
            case measure => simp [intOf]; omega
          | false =>
            go_wp2
            go_roundw
            case rel => exact ⟨k + 1, false, by omega, by go_num, rfl, HK3, by first | rfl | trivial⟩
            case measure => simp [intOf]; omega
      | true =>
        rw [marksV, hIu] at i1
        rw [hIu, if_neg (by simp), Bool.or_true] at HK2
        have HK3 := Lib.hid HK2
        clear HK2 hIu
        cases s with
        | true =>
          go_wp2
          go_roundw
          case rel => exact ⟨k + 1, true, by omega, by go_num, rfl, HK3, by first | rfl | trivial⟩
          case measure => simp [intOf]; omega
        | false =>
          go_wp2
          go_roundw
          case rel => exact ⟨k + 1, true, by omega, by go_num, rfl, HK3, by first | rfl | trivial⟩
          case measure => simp [intOf]; omega
    · have hi1 : ¬ (k : Int) < xs.length := by omega
      have hkk : k = xs.length := by omega
      have HK2 := HK.out
      rw [hkk, List.drop_length, staysF] at HK2
      have HE := Lib.hid HK2
      clear hkk HK2
      go_wp2
      go_ret
      exact ⟨by rw [← HE.out]; rfl, B1.out⟩

theorem filter_step (p : Int → Bool) {S : List Int} {k : Nat} (h : k < S.length) : (S.take (k + 1)).filter p = (S.take k).filter p ++ (if p (nth S k) = true then [nth S k] else []) := by
  rw [List.take_add_one, List.getElem?_eq_getElem h, List.filter_append, nth_eq h]
  congr 1
  simp [List.filter_cons]
theorem Only.later3 {S T : Nat → Prop} {a b c : World} (h : Only S a b) (k : Only T b c) (hT : ∀ i, T i → S i ∨ a.heap.size ≤ i) : Only S a c :=
  ⟨k.os.trans h.os, k.tape.trans h.tape, k.output.trans h.output, Nat.le_trans h.size k.size, fun i hi hs => (k.block i (Nat.lt_of_lt_of_le hi h.size) (fun ht => by rcases hT i ht with h1 | h1 <;> first | exact hs h1 | omega)).trans (h.block i hi hs)⟩

set_option maxHeartbeats 8000000 in
set_option maxRecDepth 100000 in
theorem specEscapesIn_is {w : World} {va : Value} {O : List Int} {zss : List (List Int)} {n0 : Int} {aS : Option Addr} {S r : List Int} (cS : Nat) (hr : escapesL O zss n0 S = r) (h : ArenaAt w va O zss) (hS : IntsAt w aS S) :
    Calls Try.prog 38 #[va, .int .i64 n0, .slice aS S.length cS] w (GivesInts w r) := by
  obtain ⟨i0, hi, hz0, hz1, hz2⟩ := info_parts info_int
  have HAt := Lib.hid h
  have HSi := Lib.hid hS
  have hlS := hS.len
  obtain ⟨ao, an, co, cn, A, C, rfl, h1, h2⟩ := h
  have hlO := h1.len
  clear h1 h2 hS
  obtain ⟨w0, hw0⟩ : ∃ y, y = w.alloc (.cells #[.slice ao O.length co, .slice an zss.length cn] 30) := ⟨_, rfl⟩
  have HW0 := Lib.hid hw0
  have BW0 : Hid (Below w.heap.size w w0) := by rw [hw0]; exact below1 _ _
  have bW0 : Hid (Box2 w0 w.heap.size 30 (.slice ao O.length co) (.slice an zss.length cn)) := by rw [hw0]; exact Box2.new _ _ _ _
  have hs0 : w0.heap.size = w.heap.size + 1 := by rw [hw0]; simp
  have HS0 := Lib.hid hs0
  clear hw0 hs0
  have c0 := (bW0.out.alloc (.cells #[] 2)).cell0
  have c1 := (bW0.out.alloc (.cells #[] 2)).cell1
  have hem := own_empty (w := w0) BW0.out
  obtain ⟨w2, hw2⟩ : ∃ y, y = w0.alloc (.cells #[] 2) := ⟨_, rfl⟩
  have HW2 := Lib.hid hw2
  rw [← hw2] at hem c0 c1
  have BW := Lib.hid hem.2
  have EM := Lib.hid hem.1
  have bW : Hid (Box2 w2 w.heap.size 30 (.slice ao O.length co) (.slice an zss.length cn)) := by rw [hw2]; exact bW0.out.alloc _
  have hs2 : w2.heap.size = w0.heap.size + 1 := by rw [hw2]; simp
  have HS2 := Lib.hid hs2
  have O2 : Hid (w2.ownsRow w0.heap.size 2 1 (.slice (some ⟨w0.heap.size, 0, none⟩) 0 0) 0 ([].map (Value.int .i64))) := by rw [hw2]; exact World.ownsRow_made w0 #[] 0 (Nat.le_refl _) (by unfold maxLen; omega) rfl
  rw [HS0.out] at EM O2
  clear hw2 hs2 hem
  cases hA : okB O zss n0 S with
  | false =>
    have HE : Hid (r = []) := by rw [← hr]; simp [escapesL, hA, Hid]
    have HC := Lib.hid (l3Ok_is cS hA (HAt.out.below BW.out) (HSi.out.below BW.out))
    clear hA hr
    go_enter Try.func38, Try.ntmps38
    go_wp2_with fail
    rw [← HW0.out, ← HW2.out]
    refine HC.out.mono ?_
    rintro e w3 ⟨rfl, hb⟩
    have hfin := Lib.hid (And.intro (EM.out.below hb).retop (BW.out.trans (hb.mono BW.out.size)))
    clear hb c0 c1
    go_wp2
    go_ret
    exact ⟨_, rfl, by rw [HE.out]; exact hfin.out.1, hfin.out.2⟩
  | true =>
    have HC := Lib.hid (l3Ok_is cS hA (HAt.out.below BW.out) (HSi.out.below BW.out))
    obtain ⟨hP, -, hSB⟩ := okB_yes hA
    have hzO := hP.2.2.1
    have hO256 := hP.2.1
    have hSl : S.length ≤ 256 := by have := setB_len (Int.natCast_nonneg _) hSB; omega
    have HIN : Hid (∀ u : Nat, u < O.length → ∀ x ∈ row zss u, ∃ v : Nat, x = (v : Int) ∧ v < O.length) := by rw [← hzO]; exact arena_nats hP
    have HSN := Lib.hid (set_nats hSB)
    have HZO := Lib.hid hzO
    have HE : Hid (S.filter (escB O zss n0 S) = r) := by rw [← hr]; unfold escapesL; rw [if_pos hA]; rfl
    clear hA hr hP hSB hzO
    go_enter Try.func38, Try.ntmps38
    go_wp2_with fail
    rw [← HW0.out, ← HW2.out]
    refine HC.out.mono ?_
    rintro e w3 ⟨rfl, hb⟩
    have B3 := Lib.hid (BW.out.trans (hb.mono BW.out.size))
    have b3 := Lib.hid (bW.out.below hb)
    have O3 := Lib.hid (ownsRow_only O2.out (S := fun _ => False) (Only.of_below hb) (fun _ _ h => h))
    have hp3 := hb.size
    have HP3 := Lib.hid hp3
    have d0 := b3.out.cell0
    clear hb c0 c1 O2 hp3
    go_wp2_with fail
    refine (l1Marks_is cS O.length (HSi.out.below B3.out) (by omega) HSN.out).mono ?_
    rintro e w4 ⟨rfl, hm, hb⟩
    have B4 := Lib.hid (B3.out.trans (hb.mono B3.out.size))
    have b4 := Lib.hid (b3.out.below hb)
    have O4 : Hid (w4.ownsRow (w.heap.size + 1) 2 1 (.slice (some ⟨w.heap.size + 1, 0, none⟩) 0 0) ((S.take 0).filter (escB O zss n0 S)).length (((S.take 0).filter (escB O zss n0 S)).map (Value.int .i64))) := ownsRow_only O3.out (S := fun _ => False) (Only.of_below hb) (fun _ _ h => h)
    have M4 := Lib.hid hm
    have HML : Hid (w.heap.size + 1 < w3.heap.size ∧ w3.heap.size < w4.heap.size) := ⟨by have := HP3.out; have := HS2.out; have := HS0.out; omega, hm.lt⟩
    have V4 : Hid (∀ b, (Value.slice (some ⟨w.heap.size + 1, 0, none⟩) 0 0).ownBlock = some b → b = w.heap.size + 1 ∨ w4.heap.size ≤ b) := fun b hb => by simp [Value.ownBlock] at hb; omega
    have K4 : Hid (Only (fun b => b = w.heap.size + 1) w4 w4) := Only.refl _ _
    clear hm hb d0 O3
    go_wp2
    go_loopw [7, 9] (fun v iv wr => ∃ (k : Nat) (uu : Value), k ≤ S.length ∧ iv = .int .i64 k ∧ uu = v ∧ Hid (wr.ownsRow (w.heap.size + 1) 2 1 uu ((S.take k).filter (escB O zss n0 S)).length (((S.take k).filter (escB O zss n0 S)).map (Value.int .i64))) ∧ Hid (∀ b, uu.ownBlock = some b → b = w.heap.size + 1 ∨ w4.heap.size ≤ b) ∧ Hid (Only (fun b => b = w.heap.size + 1) w4 wr)) (fun _ iv _ => S.length - (intOf iv).toNat)
    case atStart => exact ⟨0, _, Nat.zero_le _, rfl, rfl, O4, V4, K4⟩
    case round =>
      clear O4 V4 K4
      obtain ⟨k, uu, hk, rfl, rfl, HO, HV, HB⟩ := hrel
      have hml := HML.out
      have HBw : Hid (Below w.heap.size w wr) := B4.out.trans (HB.out.below (B := w.heap.size) B4.out.size (fun b hb => by omega))
      by_cases hlt : k < S.length
      · have hi1 : (k : Int) < S.length := by omega
        have hk0 : (0 : Int) ≤ (k : Int) := by omega
        have hfl : ((S.take k).filter (escB O zss n0 S)).length ≤ k := Nat.le_trans (List.length_filter_le _ _) (by rw [List.length_take]; omega)
        have HT : Hid (Box2 wr w.heap.size 30 (.slice ao O.length co) (.slice an zss.length cn)) := box2_keep b4.out HB.out (by omega)
        have HM : Hid (wr.rowIs w3.heap.size 4 O.length (marksV (openS S S.length))) := rowIs_only M4.out HB.out (by omega)
        obtain ⟨sb, so, hsa, hsc⟩ := (HSi.out.below HBw.out).cell (by omega)
        have s1 := hsc k hlt
        obtain ⟨u, hu, hul⟩ := HSN.out _ (nth_mem hlt)
        have HSB : Hid (∀ W', Below w.heap.size w W' → W'.cell? ⟨sb, so + k, none⟩ = some (.int .i64 u)) := fun W' hb' => by
          obtain ⟨b', o', ha', hc'⟩ := (HSi.out.below hb').cell (by omega)
          rw [hsa] at ha'
          simp only [Option.some.injEq, Addr.mk.injEq] at ha'
          obtain ⟨rfl, rfl, _⟩ := ha'
          rw [hc' k hlt, hu]
        rw [hu] at s1
        have HFS := Lib.hid (filter_step (escB O zss n0 S) hlt)
        rw [hu] at HFS
        subst hsa
        have t0 := HT.out.cell0
        have t1 := HT.out.cell1
        have hdr : Below wr.heap.size wr wr.drew := (Below.refl _ _).drew
        have HBd := Lib.hid (HBw.out.trans (hdr.mono HBw.out.size))
        have HTd : Hid (Box2 wr.drew _ _ _ _) := HT.out.below hdr
        have HMd : Hid (wr.drew.rowIs _ _ _ _) := rowIs_below HM.out hdr
        have HOd : Hid (wr.drew.ownsRow _ _ _ _ _ _) := ownsRow_only HO.out (S := fun _ => False) (Only.of_below hdr) (fun _ _ h => h)
        have HKd : Hid (Only _ w4 wr.drew) := HB.out.trans (Only.of_below hdr)
        obtain ⟨b, hb⟩ : ∃ b, staysF (ownB O n0 u) (openS S S.length) false (row zss u) = b := ⟨_, rfl⟩
        have HST := Lib.hid (l3Stays_is (n0 := n0) (v := u) hb (HAt.out.below HBd.out) rfl HZO.out HMd.out HIN.out hul)
        have HEB : Hid (escB O zss n0 S (u : Int) = !b) := by simp only [escB, Int.toNat_natCast, hb, Hid]
        rw [HEB.out] at HFS
        clear hsc hu hdr hb hml
        go_wp2_with fail
        go_region_held3 (fun w' => w'.cell? ⟨sb, so + k, none⟩ = some (.int .i64 u) ∧ w'.cell? ⟨w.heap.size, 0, none⟩ = some (.slice ao O.length co) ∧ w'.cell? ⟨w.heap.size, 1, none⟩ = some (.slice an zss.length cn))
          (first
            | go_keep
            | exact ⟨d1, d2, d3⟩)
          (first
            | (go_at_call 61; refine HST.out.mono ?_; rintro e w5 ⟨rfl, hb⟩; have HB5 := Lib.hid (HBd.out.trans (hb.mono HBd.out.size)); have HO5 := Lib.hid (ownsRow_only HOd.out (S := fun _ => False) (Only.of_below hb) (fun _ _ h => h)); have HK5 := Lib.hid (HKd.out.trans (Only.of_below hb)); have d1 := HSB.out _ HB5.out; have d2 := (HTd.out.below hb).cell0; have d3 := (HTd.out.below hb).cell1; clear hb))
        clear s1 t0 t1 d2 d3
        cases b with
        | true =>
          have HON := HO5
          rw [show (S.take k).filter (escB O zss n0 S) = (S.take (k + 1)).filter (escB O zss n0 S) by rw [HFS.out]; simp] at HON
          go_wp2
          go_roundw
          case rel => exact ⟨k + 1, uu, by omega, by go_num, rfl, HON, HV, HK5⟩
          case measure => simp [intOf]; omega
        | false =>
          have HS1 : Hid ((S.take (k + 1)).filter (escB O zss n0 S) = (S.take k).filter (escB O zss n0 S) ++ [(u : Int)]) := by rw [HFS.out]; simp [Hid]
          have hs45 := HK5.out.size
          have hml := HML.out
          go_wp2_with (at_builtin; refine wpList_append_own_at _ rfl _ _ 27 rfl (w.heap.size + 1) 2 i0 (.int .i64 0) 1 8 Try.underlying27 hi hz0 hz1 hz2 rfl (by decide) _ _ _ rfl (HO5.out.alloc _) ⟨w5.heap.size, 0, none⟩ 1 1 [.int .i64 u] rfl rfl ?c1 ?c2 ?c3 ?c4 ?c5 ?_)
          try (case c1 => exact cell_one_new _ _ _)
          case c2 => first | rfl | (intro u hu; simp at hu; subst hu; rfl)
          case c3 => unfold maxLen; omega
          case c4 => omega
          case c5 => simp; omega
          intro v' w6 hown hgrow _ hwh
          have HVn : Hid (∀ b, v'.ownBlock = some b → b = w.heap.size + 1 ∨ w4.heap.size ≤ b) := fun b hb => by
            rcases hwh with h | h
            · exact HV.out b (by rw [← h]; exact hb)
            · rw [h] at hb; simp at hb; omega
          have HBn : Hid (Only (fun b => b = w.heap.size + 1) w4 w6) := HK5.out.later3 (T := fun b => b = w.heap.size + 1 ∨ w4.heap.size ≤ b) (((Only.of_below (below1 w5 _)).trans ((Only.of_grown hgrow).mono fun b hb => HV.out b hb))) (fun b hb => hb)
          have HOn : Hid (w6.ownsRow (w.heap.size + 1) 2 1 v' ((S.take (k + 1)).filter (escB O zss n0 S)).length (((S.take (k + 1)).filter (escB O zss n0 S)).map (Value.int .i64))) := by rw [HS1.out, List.map_append, List.length_append]; exact hown
          clear hown hgrow hwh hs45 hml
          go_wp2
          go_roundw
          case rel => exact ⟨k + 1, v', by omega, by go_num, rfl, HOn, HVn, HBn⟩
          case measure => simp [intOf]; omega
      · have hi1 : ¬ (k : Int) < S.length := by omega
        have hkk : k = S.length := by omega
        have h := HO.out
        rw [hkk, List.take_length, HE.out] at h
        have hrl : r.length ≤ S.length := by rw [← HE.out]; exact List.length_filter_le _ _
        have hfin := Lib.hid (And.intro ((OwnInts.mk' h (by omega) (fun j hj => by
          have hm := nth_mem hj
          rw [← HE.out] at hm
          obtain ⟨y, hy, hyn⟩ := HSN.out _ (List.mem_filter.1 hm).1
          rw [HE.out] at hy
          rw [hy]; unfold Fits; omega)).base (B' := w.heap.size) (by omega)) HBw.out)
        clear h hkk hml hrl
        go_wp2
        go_ret
        exact ⟨_, rfl, hfin.out⟩

set_option maxHeartbeats 4000000 in
set_option maxRecDepth 100000 in
theorem specTrapIn_is {w : World} {va : Value} {O : List Int} {zss : List (List Int)} {n0 : Int} {aS : Option Addr} {S : List Int} {r : Bool} (cS : Nat) (hr : trapB O zss n0 S = r) (h : ArenaAt w va O zss) (hS : IntsAt w aS S) :
    Calls Try.prog 37 #[va, .int .i64 n0, .slice aS S.length cS] w fun e w' => e = .returned (.bool r) ∧ Below w.heap.size w w' := by
  have HAt := Lib.hid h
  have HSi := Lib.hid hS
  obtain ⟨ao, an, co, cn, A, C, rfl, h1, h2⟩ := h
  clear h1 h2 hS
  have BW := Lib.hid (below1 w (.cells #[.slice ao O.length co, .slice an zss.length cn] 30))
  have bW := Lib.hid (Box2.new w 30 (.slice ao O.length co) (.slice an zss.length cn))
  cases hA : okB O zss n0 S with
  | false =>
    have HE : Hid (r = false) := by rw [← hr]; simp [trapB, hA, Hid]
    have HC := Lib.hid (l3Ok_is cS hA (HAt.out.below BW.out) (HSi.out.below BW.out))
    clear hA hr
    go_enter Try.func37, Try.ntmps37
    go_wp2_with fail
    refine HC.out.mono ?_
    rintro e w1 ⟨rfl, hb⟩
    have B1 := Lib.hid (BW.out.trans (hb.mono BW.out.size))
    clear hb
    go_wp2
    go_ret
    exact ⟨by rw [HE.out]; rfl, B1.out⟩
  | true =>
    have HC := Lib.hid (l3Ok_is cS hA (HAt.out.below BW.out) (HSi.out.below BW.out))
    obtain ⟨z, hz⟩ : ∃ z, escapesL O zss n0 S = z := ⟨_, rfl⟩
    have HZ := Lib.hid hz
    have HE : Hid (decide (z.length = 0) = r) := by rw [← hr, ← hz]; simp [trapB, hA, Hid]
    clear hA hr hz
    go_enter Try.func37, Try.ntmps37
    go_wp2_with fail
    refine HC.out.mono ?_
    rintro e w1 ⟨rfl, hb⟩
    have B1 := Lib.hid (BW.out.trans (hb.mono BW.out.size))
    have c0 := (bW.out.below hb).cell0
    have c1 := (bW.out.below hb).cell1
    clear hb
    go_wp2_with fail
    refine (specEscapesIn_is cS HZ.out (HAt.out.below B1.out) (HSi.out.below B1.out)).mono ?_
    rintro e w2 ⟨v, rfl, hv, hb⟩
    obtain ⟨za, zc, hzs, -, -⟩ := hv.shape
    subst hzs
    have B2 := Lib.hid (B1.out.trans (hb.mono B1.out.size))
    have hbe : ((z.length : Int) == 0) = r := by
      rw [← HE.out, Bool.eq_iff_iff]; simp
    clear hv hb c0 c1
    go_wp2
    go_ret
    exact ⟨by rw [← hbe]; rfl, B2.out⟩

end Go.Proofs.Ythelpfilgamdfaa
