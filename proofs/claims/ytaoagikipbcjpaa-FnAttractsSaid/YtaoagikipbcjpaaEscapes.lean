/-
  Contracts of chapter 3: the program's isAsked and escapes.
-/
import Derived.Test.YtaoagikipbcjpaaTrapSpec
import Derived.Test.YtaoagikipbcjpaaSets
import Derived.Maps.AppendAt
namespace Go.Proofs.Ytaoagikipbcjpaa
section
open Go.RowKit

theorem isPlayer_is {x : Int} {r : Bool} (hr : inB x 0 1 = r) (w : World) :
    Calls Try.prog 36 #[.int .i64 x] w fun e w' => e = .returned (.bool r) ∧ w = w' := by
  by_cases h0 : x = 0
  · subst h0
    have HR : Hid (true = r) := by rw [← hr]; rfl
    clear hr
    go_enter Try.func36, Try.ntmps36
    go_wp2
    go_ret
    exact ⟨ret_bool HR.out, rfl⟩
  · by_cases h1 : x = 1
    · subst h1
      have HR : Hid (true = r) := by rw [← hr]; rfl
      clear hr
      go_enter Try.func36, Try.ntmps36
      go_wp2
      go_ret
      exact ⟨ret_bool HR.out, rfl⟩
    · have HR : Hid (false = r) := by rw [← hr]; unfold Hid inB; simp; omega
      clear hr
      go_enter Try.func36, Try.ntmps36
      go_wp2
      go_ret
      exact ⟨ret_bool (by rw [← HR.out]; simp [h0, h1]), rfl⟩

noncomputable def askB (O : List Int) (zss : List (List Int)) (who : Int) (Ss : List (List Int)) : Bool := arenaB O zss && inB who 0 1 && Ss.all (setB O.length)

set_option maxHeartbeats 4000000 in
theorem isAsked_is {w : World} {va : Value} {O : List Int} {zss : List (List Int)} {n0 : Int} {a : Option Addr} {A : Nat → Option Addr} {C : Nat → Nat} {Ss : List (List Int)} {r : Bool} (hr : askB O zss n0 Ss = r) (cap : Nat) (h : ArenaAt w va O zss) (hR : RowsAt w a A C Ss) :
    Calls Try.prog 20 #[va, .int .i64 n0, .slice a Ss.length cap] w fun e w' => e = .returned (.bool r) ∧ Below w.heap.size w w' := by
  have hlen := hR.len
  have HAt := Lib.hid h
  have HRw := Lib.hid hR
  obtain ⟨ao, an, co, cn, AA, CC, rfl, h1, h2⟩ := h
  have hlO := h1.len
  clear h1 h2 hR
  have BW := Lib.hid (below1 w (.cells #[.slice ao O.length co, .slice an zss.length cn] 30))
  have bW := Lib.hid (Box2.new w 30 (.slice ao O.length co) (.slice an zss.length cn))
  cases hA : arenaB O zss with
  | false =>
    have HE : Hid (r = false) := by rw [← hr]; simp [askB, hA, Hid]
    have HC := Lib.hid (ArenaOk_at hA (HAt.out.below BW.out))
    clear hA hr
    go_enter Try.func20, Try.ntmps20
    go_wp2_with fail
    refine HC.out.mono ?_
    rintro e w1 ⟨rfl, hb⟩
    have B1 := Lib.hid (BW.out.trans (hb.mono BW.out.size))
    clear hb
    go_wp2
    go_ret
    exact ⟨ret_bool HE.out.symm, B1.out⟩
  | true =>
    have HC := Lib.hid (ArenaOk_at hA (HAt.out.below BW.out))
    cases hP : inB n0 0 1 with
    | false =>
      have HE : Hid (r = false) := by rw [← hr]; simp [askB, hP, Hid]
      have HP := Lib.hid hP
      clear hA hr hP
      go_enter Try.func20, Try.ntmps20
      go_wp2_with fail
      refine HC.out.mono ?_
      rintro e w1 ⟨rfl, hb⟩
      have B1 := Lib.hid (BW.out.trans (hb.mono BW.out.size))
      clear hb
      go_wp2_with fail
      refine (isPlayer_is HP.out w1).mono ?_
      rintro e w2 ⟨rfl, rfl⟩
      go_wp2
      go_ret
      exact ⟨ret_bool HE.out.symm, B1.out⟩
    | true =>
      have HR : Hid (Ss.all (setB O.length) = r) := by rw [← hr]; simp [askB, hA, hP, Hid]
      have HP := Lib.hid hP
      clear hA hr hP
      go_enter Try.func20, Try.ntmps20
      go_wp2_with fail
      refine HC.out.mono ?_
      rintro e w1 ⟨rfl, hb⟩
      have B1 := Lib.hid (BW.out.trans (hb.mono BW.out.size))
      have b1 := Lib.hid (bW.out.below hb)
      clear hb
      go_wp2_with fail
      refine (isPlayer_is HP.out w1).mono ?_
      rintro e w2 ⟨rfl, rfl⟩
      go_wp2
      go_loopw [19] (fun i wr => ∃ k : Nat, k ≤ Ss.length ∧ i = .int .i64 k ∧ Hid (∀ j, j < k → setB O.length (row Ss j) = true) ∧ Hid (Below w.heap.size w wr) ∧ Hid (Box2 wr w.heap.size 30 (.slice ao O.length co) (.slice an zss.length cn))) (fun i _ => Ss.length - (intOf i).toNat)
      case atStart => exact ⟨0, Nat.zero_le _, rfl, fun j hj => absurd hj (Nat.not_lt_zero _), B1, b1⟩
      case round =>
        obtain ⟨k, hk, rfl, HK, HB, hb⟩ := hrel
        by_cases hlt : k < Ss.length
        · have R1 := Lib.hid (HRw.out.below HB.out)
          obtain ⟨b, off, ha, hc⟩ := R1.out.cell (by omega)
          subst ha
          have hck := hc k hlt
          clear hc
          have c0 := hb.out.cell0
          have c1 := hb.out.cell1
          obtain ⟨w3, hw3⟩ : ∃ y, y = wr.alloc (.cells #[.slice ao O.length co, .slice an zss.length cn] 30) := ⟨_, rfl⟩
          have HZ := Lib.hid (size_is ao an O.length zss.length co cn wr (by omega))
          have B3 : Hid (Below w.heap.size w w3) := by rw [hw3]; exact HB.out.trans ((below1 _ _).mono HB.out.size)
          have b3 : Hid (Box2 w3 w.heap.size 30 (.slice ao O.length co) (.slice an zss.length cn)) := by rw [hw3]; exact hb.out.alloc _
          have R3 : Hid (IntsAt w3 (A k) (row Ss k)) := by rw [hw3]; exact (R1.out.rows k hlt).alloc _
          rw [← hw3] at HZ
          clear hw3
          cases hs : setB O.length (row Ss k) with
          | true =>
            have HI := Lib.hid (isSet_is hs (C k) _ R3.out (by unfold Fits; omega))
            have HK' : Hid (∀ j, j < k + 1 → setB O.length (row Ss j) = true) := fun j hj => by
              by_cases e : j = k
              · subst e; exact hs
              · exact HK.out j (by omega)
            clear hs
            go_wp2_with (first
              | (go_at_call 38; refine HZ.out.mono ?_; rintro e w' ⟨rfl, rfl⟩)
              | (go_at_call 37; refine HI.out.mono ?_; rintro e w' ⟨rfl, rfl⟩))
            go_roundw
            case rel => exact ⟨k + 1, by omega, by go_num, HK', B3, b3⟩
            case measure => simp [intOf]; omega
          | false =>
            have HI := Lib.hid (isSet_is hs (C k) _ R3.out (by unfold Fits; omega))
            have HE : Hid (r = false) := by
              rw [← HR.out]
              cases hall : Ss.all (setB O.length) with
              | false => rfl
              | true => rw [all_rows.1 hall k hlt] at hs; cases hs
            clear hs
            go_wp2_with (first
              | (go_at_call 38; refine HZ.out.mono ?_; rintro e w' ⟨rfl, rfl⟩)
              | (go_at_call 37; refine HI.out.mono ?_; rintro e w' ⟨rfl, rfl⟩))
            go_ret
            exact ⟨ret_bool HE.out.symm, B3.out⟩
        · have HE : Hid (r = true) := by
            rw [← HR.out]; exact all_rows.2 fun j hj => HK.out j (by omega)
          go_wp2
          go_ret
          exact ⟨ret_bool HE.out.symm, HB.out⟩
end

section
open Go.RowKit

theorem staysF_eq {own : Bool} {I : Nat → Bool} : ∀ (us : List Int) (s : Bool), staysF own I s us = (!(own && us.any fun u => !I u.toNat) && (s || us.any fun u => I u.toNat))
  | [], s => by simp [staysF]
  | u :: us, s => by
    rw [staysF]
    cases hI : I u.toNat with
    | false =>
      cases own with
      | true => simp [hI]
      | false => rw [if_neg (by simp), staysF_eq us]; simp [hI]
    | true => rw [if_neg (by simp), staysF_eq us]; simp [hI]

theorem inT_open {S : List Int} {x : Int} (hx : 0 ≤ x) : inT S x = openS S S.length x.toNat := by
  unfold inT hasB openS; rw [List.take_length, Int.toNat_of_nonneg hx]

/-- A vertex escapes, by what its successors part into. -/
theorem escB_eq {O : List Int} {zss : List (List Int)} {who : Int} {S : List Int} {u : Nat} (hpos : ∀ x ∈ row zss u, 0 ≤ x) :
    escB O zss who S (u : Int) = ((ownB O who u && decide (0 < ((row zss u).filter (outT S)).length)) || decide (((row zss u).filter (inT S)).length = 0)) := by
  have e1 : (row zss u).any (fun x => !openS S S.length x.toNat) = decide (0 < ((row zss u).filter (outT S)).length) := by
    rw [Bool.eq_iff_iff, List.any_eq_true, decide_eq_true_iff, List.length_pos_iff_exists_mem]
    constructor
    · rintro ⟨x, hx, h⟩
      exact ⟨x, List.mem_filter.2 ⟨hx, by rw [← inT_open (hpos x hx)] at h; exact h⟩⟩
    · rintro ⟨x, h⟩
      obtain ⟨hx, h⟩ := List.mem_filter.1 h
      exact ⟨x, hx, by rw [← inT_open (hpos x hx)]; exact h⟩
  have e2 : (row zss u).any (fun x => openS S S.length x.toNat) = decide (0 < ((row zss u).filter (inT S)).length) := by
    rw [Bool.eq_iff_iff, List.any_eq_true, decide_eq_true_iff, List.length_pos_iff_exists_mem]
    constructor
    · rintro ⟨x, hx, h⟩
      exact ⟨x, List.mem_filter.2 ⟨hx, by rw [← inT_open (hpos x hx)] at h; exact h⟩⟩
    · rintro ⟨x, h⟩
      obtain ⟨hx, h⟩ := List.mem_filter.1 h
      exact ⟨x, hx, by rw [← inT_open (hpos x hx)]; exact h⟩
  unfold escB
  rw [Int.toNat_natCast, staysF_eq, e1, e2]
  by_cases h : ((row zss u).filter (inT S)).length = 0
  · simp [h]
  · have h' : 0 < ((row zss u).filter (inT S)).length := by omega
    simp [h, h']

set_option maxHeartbeats 8000000 in
set_option maxRecDepth 100000 in
theorem escapes_is {w : World} {va : Value} {O : List Int} {zss : List (List Int)} {n0 : Int} {aS : Option Addr} {S : List Int} (cS : Nat) (hok : okB O zss n0 S = true) (h : ArenaAt w va O zss) (hS : IntsAt w aS S) :
    Calls Try.prog 32 #[va, .int .i64 n0, .slice aS S.length cS] w (GivesInts w (S.filter (escB O zss n0 S))) := by
  obtain ⟨i0, hi, hz0, hz1, hz2⟩ := info_parts info_int
  obtain ⟨hP, -, hSB⟩ := okB_yes hok
  have hzO := hP.2.2.1
  have hO256 := hP.2.1
  have hSl : S.length ≤ 256 := by have := setB_len (Int.natCast_nonneg _) hSB; omega
  have HIN := Lib.hid (arena_nats hP)
  have HSN := Lib.hid (set_nats hSB)
  have HSR := Lib.hid (rises_of hSB)
  have HR16 : Hid (∀ u : Nat, u < zss.length → (row zss u).length ≤ 16) := fun u hu => (hP.2.2.2 u (by omega)).2.2.1
  have HAt := Lib.hid h
  have HSi := Lib.hid hS
  obtain ⟨ao, an, co, cn, A, C, rfl, h1, h2⟩ := h
  have HOi := Lib.hid h1
  have HNi := Lib.hid h2
  have BW := Lib.hid (below1 w (.cells #[.slice ao O.length co, .slice an zss.length cn] 30))
  have bW := Lib.hid (Box2.new w 30 (.slice ao O.length co) (.slice an zss.length cn))
  have HZO := Lib.hid hzO
  clear h1 h2 hS hP hSB hok hzO
  go_enter Try.func32, Try.ntmps32
  go_wp2
  go_loopw [7, 14] (fun v i wr => ∃ (k : Nat) (uu : Value), k ≤ S.length ∧ i = .int .i64 k ∧ uu = v ∧ Hid (wr.ownsRow (w.heap.size + 1) 2 1 uu ((S.take k).filter (escB O zss n0 S)).length (((S.take k).filter (escB O zss n0 S)).map (Value.int .i64))) ∧ Hid (Below w.heap.size w wr) ∧ Hid (Box2 wr w.heap.size 30 (.slice ao O.length co) (.slice an zss.length cn))) (fun _ i _ => S.length - (intOf i).toNat)
  case atStart => exact ⟨0, _, Nat.zero_le _, rfl, rfl, World.ownsRow_nil _ _ _ _, BW, bW⟩
  case round =>
    clear BW bW
    obtain ⟨k, uu, hk, rfl, rfl, HO, HB, HT⟩ := hrel
    by_cases hlt : k < S.length
    · have hi1 : (k : Int) < S.length := by omega
      have hk0 : (0 : Int) ≤ (k : Int) := by omega
      have hfl : ((S.take k).filter (escB O zss n0 S)).length ≤ k := Nat.le_trans (List.length_filter_le _ _) (by rw [List.length_take]; omega)
      obtain ⟨sb, so, hsa, hsc⟩ := (HSi.out.below HB.out).cell (by omega)
      have s1 := hsc k hlt
      obtain ⟨u, hu, hul⟩ := HSN.out _ (nth_mem hlt)
      rw [hu] at s1
      subst hsa
      have HFS := Lib.hid (filter_step (escB O zss n0 S) hlt)
      rw [hu] at HFS
      clear hsc hu
      have huz : u < zss.length := by rw [HZO.out]; exact hul
      have huO : (u : Int) < O.length := by omega
      have huZ : (u : Int) < zss.length := by omega
      have hu0 : (0 : Int) ≤ (u : Int) := by omega
      have h16 := HR16.out u huz
      obtain ⟨nb, no, hna, hnc⟩ := (HNi.out.below HB.out).cell (by omega)
      have n1 := hnc u huz
      subst hna
      clear hnc
      obtain ⟨ob, oo, hoa, -⟩ := HOi.out.cell (by omega)
      have HOC : Hid (∀ W', Below w.heap.size w W' → W'.cell? ⟨ob, oo + u, none⟩ = some (.int .i64 (nth O u))) := fun W' hb' => by
        obtain ⟨b', o', ha', hc'⟩ := (HOi.out.below hb').cell (by omega)
        rw [hoa] at ha'
        simp only [Option.some.injEq, Addr.mk.injEq] at ha'
        obtain ⟨rfl, rfl, _⟩ := ha'
        exact hc' u hul
      subst hoa
      have t0 := HT.out.cell0
      have t1 := HT.out.cell1
      have HSP := Lib.hid (split_is (C u) cS ((HNi.out.below HB.out).rows u huz) (HSi.out.below HB.out) HSR.out (by omega))
      have HEB := Lib.hid (escB_eq (O := O) (who := n0) (S := S) (u := u) (fun x hx => by obtain ⟨y, rfl, _⟩ := HIN.out u huz x hx; omega))
      obtain ⟨li, hli⟩ : ∃ li, li = ((row zss u).filter (inT S)).length := ⟨_, rfl⟩
      obtain ⟨lo, hlo⟩ : ∃ lo, lo = ((row zss u).filter (outT S)).length := ⟨_, rfl⟩
      rw [← hli, ← hlo] at HEB
      by_cases how : nth O u = n0
      · have hoe : (nth O u == n0) = true := by simpa using how
        have how' : ownB O n0 u = true := by unfold ownB; simpa using how
        rw [how'] at HEB
        clear how how'
        by_cases hlo0 : 0 < lo
        · have HEB' : Hid (escB O zss n0 S (u : Int) = true) := by rw [HEB.out]; simp [hlo0, Hid]
          clear HEB
          rename Hid (escB O zss n0 S (u : Int) = true) => HEB
          have hlo1 : (0 : Int) < lo := by omega
          rw [hlo] at hlo1 hlo0
          clear hli hlo
          have HS1 : Hid ((S.take (k + 1)).filter (escB O zss n0 S) = (S.take k).filter (escB O zss n0 S) ++ [(u : Int)]) := by rw [HFS.out, HEB.out]; simp [Hid]
          go_wp2_with (first
            | (go_at_call 40; refine HSP.out.mono ?_; rintro e w5 ⟨uI, uO, rfl, hI, hO, hb⟩; obtain ⟨aI, cI, rfl, -⟩ := hI.shape; obtain ⟨aO, cO, rfl, -⟩ := hO.shape; have HB5 := Lib.hid (HB.out.trans (hb.mono HB.out.size)); have T5 := Lib.hid (HT.out.below hb); have HO5 := Lib.hid (ownsRow_only HO.out (S := fun _ => False) (Only.of_below hb) (fun _ _ h => h)); have OI := Lib.hid hI; have OO := Lib.hid hO; have hc0 := (HT.out.below hb).cell0; have hc1 := (HT.out.below hb).cell1; have hoc := HOC.out w5 (HB.out.trans (hb.mono HB.out.size)); clear hI hO hb)
            | (at_builtin; refine wpList_append_own_at _ rfl _ _ 27 rfl (w.heap.size + 1) 2 i0 (.int .i64 0) 1 8 Try.underlying27 hi hz0 hz1 hz2 rfl (by decide) _ _ _ rfl (HO5.out.alloc _) ⟨w5.heap.size, 0, none⟩ 1 1 [.int .i64 (u : Int)] rfl rfl ?c1 ?c2 ?c3 ?c4 ?c5 ?_))
          case c1 => exact cell_one_new _ _ _
          case c2 => intro u hu; simp at hu; subst hu; rfl
          case c3 => unfold maxLen; omega
          case c4 => omega
          case c5 => have := HB5.out.size; have := T5.out.lt; simp; omega
          · intro v' w6 hown hgrow _ _
            have hT5 := T5.out.lt
            have HBn : Hid (Below w.heap.size w w6) := (HB5.out.alloc HB5.out.size _).grown hgrow (by have := HB5.out.size; simp; omega) (fun g hg => by have := (HO5.out.lt g hg).1; omega)
            have HTn : Hid (Box2 w6 w.heap.size 30 _ _) := (hgrow.block w.heap.size (by simp; omega) (fun e => by have := (HO5.out.lt _ e.symm).1; omega)).trans (T5.out.alloc _)
            have HOn : Hid (w6.ownsRow (w.heap.size + 1) 2 1 v' ((S.take (k + 1)).filter (escB O zss n0 S)).length (((S.take (k + 1)).filter (escB O zss n0 S)).map (Value.int .i64))) := by rw [HS1.out, List.map_append, List.length_append]; exact hown
            clear hown hgrow hT5 hc0 hc1 hoc
            go_wp2
            go_roundw
            case rel => exact ⟨k + 1, v', by omega, by go_num, rfl, HOn, HBn, HTn⟩
            case measure => simp [intOf]; omega
        · by_cases hli0 : li = 0
          · have HEB' : Hid (escB O zss n0 S (u : Int) = true) := by rw [HEB.out]; simp [hli0, Hid]
            clear HEB
            rename Hid (escB O zss n0 S (u : Int) = true) => HEB
            have hlo1 : lo = 0 := by omega
            rw [hlo] at hlo1
            rw [hli] at hli0
            clear hli hlo hlo0
            have HS1 : Hid ((S.take (k + 1)).filter (escB O zss n0 S) = (S.take k).filter (escB O zss n0 S) ++ [(u : Int)]) := by rw [HFS.out, HEB.out]; simp [Hid]
            go_wp2_with (first
              | (go_at_call 40; refine HSP.out.mono ?_; rintro e w5 ⟨uI, uO, rfl, hI, hO, hb⟩; obtain ⟨aI, cI, rfl, -⟩ := hI.shape; obtain ⟨aO, cO, rfl, -⟩ := hO.shape; have HB5 := Lib.hid (HB.out.trans (hb.mono HB.out.size)); have T5 := Lib.hid (HT.out.below hb); have HO5 := Lib.hid (ownsRow_only HO.out (S := fun _ => False) (Only.of_below hb) (fun _ _ h => h)); have OI := Lib.hid hI; have OO := Lib.hid hO; have hc0 := (HT.out.below hb).cell0; have hc1 := (HT.out.below hb).cell1; have hoc := HOC.out w5 (HB.out.trans (hb.mono HB.out.size)); clear hI hO hb)
              | (at_builtin; refine wpList_append_own_at _ rfl _ _ 27 rfl (w.heap.size + 1) 2 i0 (.int .i64 0) 1 8 Try.underlying27 hi hz0 hz1 hz2 rfl (by decide) _ _ _ rfl (HO5.out.alloc _) ⟨w5.heap.size, 0, none⟩ 1 1 [.int .i64 (u : Int)] rfl rfl ?c1 ?c2 ?c3 ?c4 ?c5 ?_))
            case c1 => exact cell_one_new _ _ _
            case c2 => intro u hu; simp at hu; subst hu; rfl
            case c3 => unfold maxLen; omega
            case c4 => omega
            case c5 => have := HB5.out.size; have := T5.out.lt; simp; omega
            · intro v' w6 hown hgrow _ _
              have hT5 := T5.out.lt
              have HBn : Hid (Below w.heap.size w w6) := (HB5.out.alloc HB5.out.size _).grown hgrow (by have := HB5.out.size; simp; omega) (fun g hg => by have := (HO5.out.lt g hg).1; omega)
              have HTn : Hid (Box2 w6 w.heap.size 30 _ _) := (hgrow.block w.heap.size (by simp; omega) (fun e => by have := (HO5.out.lt _ e.symm).1; omega)).trans (T5.out.alloc _)
              have HOn : Hid (w6.ownsRow (w.heap.size + 1) 2 1 v' ((S.take (k + 1)).filter (escB O zss n0 S)).length (((S.take (k + 1)).filter (escB O zss n0 S)).map (Value.int .i64))) := by rw [HS1.out, List.map_append, List.length_append]; exact hown
              clear hown hgrow hT5 hc0 hc1 hoc
              go_wp2
              go_roundw
              case rel => exact ⟨k + 1, v', by omega, by go_num, rfl, HOn, HBn, HTn⟩
              case measure => simp [intOf]; omega
          · have HEB' : Hid (escB O zss n0 S (u : Int) = false) := by rw [HEB.out]; simp [hli0, hlo0, Hid]
            clear HEB
            rename Hid (escB O zss n0 S (u : Int) = false) => HEB
            have hlo1 : lo = 0 := by omega
            have hli1 : (((((row zss u).filter (inT S)).length : Nat) : Int) == 0) = false := beq_eq_false_iff_ne.2 (by omega)
            rw [hlo] at hlo1
            clear hli hlo hlo0 hli0
            have HON := HO
            rw [show (S.take k).filter (escB O zss n0 S) = (S.take (k + 1)).filter (escB O zss n0 S) by rw [HFS.out, HEB.out]; simp] at HON
            go_wp2_with (go_at_call 40; refine HSP.out.mono ?_; rintro e w5 ⟨uI, uO, rfl, hI, hO, hb⟩; obtain ⟨aI, cI, rfl, -⟩ := hI.shape; obtain ⟨aO, cO, rfl, -⟩ := hO.shape; have HB5 := Lib.hid (HB.out.trans (hb.mono HB.out.size)); have T5 := Lib.hid (HT.out.below hb); have HO5 := Lib.hid (ownsRow_only HON.out (S := fun _ => False) (Only.of_below hb) (fun _ _ h => h)); have OI := Lib.hid hI; have OO := Lib.hid hO; have hc0 := (HT.out.below hb).cell0; have hc1 := (HT.out.below hb).cell1; have hoc := HOC.out w5 (HB.out.trans (hb.mono HB.out.size)); clear hI hO hb)
            go_roundw
            case rel => exact ⟨k + 1, uu, by omega, by go_num, rfl, HO5, HB5, T5⟩
            case measure => simp [intOf]; omega
      · have hoe : (nth O u == n0) = false := by simpa using how
        have how' : ownB O n0 u = false := by unfold ownB; simpa using how
        rw [how'] at HEB
        clear how how'
        by_cases hli0 : li = 0
        · have HEB' : Hid (escB O zss n0 S (u : Int) = true) := by rw [HEB.out]; simp [hli0, Hid]
          clear HEB
          rename Hid (escB O zss n0 S (u : Int) = true) => HEB
          rw [hli] at hli0
          clear hli hlo
          have HS1 : Hid ((S.take (k + 1)).filter (escB O zss n0 S) = (S.take k).filter (escB O zss n0 S) ++ [(u : Int)]) := by rw [HFS.out, HEB.out]; simp [Hid]
          go_wp2_with (first
            | (go_at_call 40; refine HSP.out.mono ?_; rintro e w5 ⟨uI, uO, rfl, hI, hO, hb⟩; obtain ⟨aI, cI, rfl, -⟩ := hI.shape; obtain ⟨aO, cO, rfl, -⟩ := hO.shape; have HB5 := Lib.hid (HB.out.trans (hb.mono HB.out.size)); have T5 := Lib.hid (HT.out.below hb); have HO5 := Lib.hid (ownsRow_only HO.out (S := fun _ => False) (Only.of_below hb) (fun _ _ h => h)); have OI := Lib.hid hI; have OO := Lib.hid hO; have hc0 := (HT.out.below hb).cell0; have hc1 := (HT.out.below hb).cell1; have hoc := HOC.out w5 (HB.out.trans (hb.mono HB.out.size)); clear hI hO hb)
            | (at_builtin; refine wpList_append_own_at _ rfl _ _ 27 rfl (w.heap.size + 1) 2 i0 (.int .i64 0) 1 8 Try.underlying27 hi hz0 hz1 hz2 rfl (by decide) _ _ _ rfl (HO5.out.alloc _) ⟨w5.heap.size, 0, none⟩ 1 1 [.int .i64 (u : Int)] rfl rfl ?c1 ?c2 ?c3 ?c4 ?c5 ?_))
          case c1 => exact cell_one_new _ _ _
          case c2 => intro u hu; simp at hu; subst hu; rfl
          case c3 => unfold maxLen; omega
          case c4 => omega
          case c5 => have := HB5.out.size; have := T5.out.lt; simp; omega
          · intro v' w6 hown hgrow _ _
            have hT5 := T5.out.lt
            have HBn : Hid (Below w.heap.size w w6) := (HB5.out.alloc HB5.out.size _).grown hgrow (by have := HB5.out.size; simp; omega) (fun g hg => by have := (HO5.out.lt g hg).1; omega)
            have HTn : Hid (Box2 w6 w.heap.size 30 _ _) := (hgrow.block w.heap.size (by simp; omega) (fun e => by have := (HO5.out.lt _ e.symm).1; omega)).trans (T5.out.alloc _)
            have HOn : Hid (w6.ownsRow (w.heap.size + 1) 2 1 v' ((S.take (k + 1)).filter (escB O zss n0 S)).length (((S.take (k + 1)).filter (escB O zss n0 S)).map (Value.int .i64))) := by rw [HS1.out, List.map_append, List.length_append]; exact hown
            clear hown hgrow hT5 hc0 hc1 hoc
            go_wp2
            go_roundw
            case rel => exact ⟨k + 1, v', by omega, by go_num, rfl, HOn, HBn, HTn⟩
            case measure => simp [intOf]; omega
        · have HEB' : Hid (escB O zss n0 S (u : Int) = false) := by rw [HEB.out]; simp [hli0, Hid]
          clear HEB
          rename Hid (escB O zss n0 S (u : Int) = false) => HEB
          have hli1 : (((((row zss u).filter (inT S)).length : Nat) : Int) == 0) = false := beq_eq_false_iff_ne.2 (by omega)
          clear hli hlo hli0
          have HON := HO
          rw [show (S.take k).filter (escB O zss n0 S) = (S.take (k + 1)).filter (escB O zss n0 S) by rw [HFS.out, HEB.out]; simp] at HON
          go_wp2_with (go_at_call 40; refine HSP.out.mono ?_; rintro e w5 ⟨uI, uO, rfl, hI, hO, hb⟩; obtain ⟨aI, cI, rfl, -⟩ := hI.shape; obtain ⟨aO, cO, rfl, -⟩ := hO.shape; have HB5 := Lib.hid (HB.out.trans (hb.mono HB.out.size)); have T5 := Lib.hid (HT.out.below hb); have HO5 := Lib.hid (ownsRow_only HON.out (S := fun _ => False) (Only.of_below hb) (fun _ _ h => h)); have OI := Lib.hid hI; have OO := Lib.hid hO; have hc0 := (HT.out.below hb).cell0; have hc1 := (HT.out.below hb).cell1; have hoc := HOC.out w5 (HB.out.trans (hb.mono HB.out.size)); clear hI hO hb)
          go_roundw
          case rel => exact ⟨k + 1, uu, by omega, by go_num, rfl, HO5, HB5, T5⟩
          case measure => simp [intOf]; omega
    · have hkk : k = S.length := by omega
      have h := HO.out
      rw [hkk, List.take_length] at h
      have hrl : (S.filter (escB O zss n0 S)).length ≤ S.length := List.length_filter_le _ _
      have hfin := Lib.hid (And.intro ((OwnInts.mk' h (by omega) (filter_fits _ HSi.out.fits)).base (B' := w.heap.size) (by omega)) HB.out)
      clear h hkk hrl
      go_wp2
      go_ret
      exact ⟨_, rfl, hfin.out⟩

theorem askB_one {O : List Int} {zss : List (List Int)} {who : Int} {S : List Int} : askB O zss who [S] = okB O zss who S := by simp [askB, okB, Bool.and_assoc]
theorem askB_two {O : List Int} {zss : List (List Int)} {who : Int} {S T : List Int} : askB O zss who [S, T] = bothB O zss who S T := by
  unfold askB bothB okB
  cases arenaB O zss <;> cases inB who 0 1 <;> simp

theorem isAsked_one {w : World} {va : Value} {O : List Int} {zss : List (List Int)} {n0 : Int} {aS : Option Addr} {S : List Int} {r : Bool} (hr : okB O zss n0 S = r) (cS : Nat) (h : ArenaAt w va O zss) (hS : IntsAt w aS S) :
    Calls Try.prog 20 #[va, .int .i64 n0, .slice (some ⟨w.heap.size, 0, none⟩) 1 1] (w.alloc (.cells #[.slice aS S.length cS] 27)) fun e w' => e = .returned (.bool r) ∧ Below w.heap.size w w' :=
  (isAsked_is (Ss := [S]) (by rw [askB_one]; exact hr) 1 (h.alloc _) (rows_one hS)).mono fun _ _ ⟨he, hb⟩ => ⟨he, (below1 w _).trans (hb.mono (by simp))⟩
theorem isAsked_two {w : World} {va : Value} {O : List Int} {zss : List (List Int)} {n0 : Int} {aS aT : Option Addr} {S T : List Int} {r : Bool} (hr : bothB O zss n0 S T = r) (cS cT : Nat) (h : ArenaAt w va O zss) (hS : IntsAt w aS S) (hT : IntsAt w aT T) :
    Calls Try.prog 20 #[va, .int .i64 n0, .slice (some ⟨w.heap.size, 0, none⟩) 2 2] (w.alloc (.cells #[.slice aS S.length cS, .slice aT T.length cT] 27)) fun e w' => e = .returned (.bool r) ∧ Below w.heap.size w w' :=
  (isAsked_is (Ss := [S, T]) (by rw [askB_two]; exact hr) 2 (h.alloc _) (rows_two hS hT)).mono fun _ _ ⟨he, hb⟩ => ⟨he, (below1 w _).trans (hb.mono (by simp))⟩

set_option maxHeartbeats 4000000 in
theorem EscapesIn_is {w : World} {va : Value} {O : List Int} {zss : List (List Int)} {n0 : Int} {aS : Option Addr} {S r : List Int} (cS : Nat) (hr : escapesL O zss n0 S = r) (h : ArenaAt w va O zss) (hS : IntsAt w aS S) :
    Calls Try.prog 18 #[va, .int .i64 n0, .slice aS S.length cS] w (GivesInts w r) := by
  have HAt := Lib.hid h
  have HSi := Lib.hid hS
  obtain ⟨ao, an, co, cn, A, C, rfl, h1, h2⟩ := h
  clear h1 h2 hS
  have BW := Lib.hid (below1 w (.cells #[.slice ao O.length co, .slice an zss.length cn] 30))
  have bW := Lib.hid (Box2.new w 30 (.slice ao O.length co) (.slice an zss.length cn))
  cases hA : okB O zss n0 S with
  | false =>
    have HE : Hid (r = []) := by rw [← hr]; simp [escapesL, hA, Hid]
    have hC := isAsked_one hA cS (HAt.out.below BW.out) (HSi.out.below BW.out)
    rw [World.size_alloc] at hC
    have HC := Lib.hid hC
    have hBW := World.size_alloc w (.cells #[.slice ao O.length co, .slice an zss.length cn] 30)
    have BS : Hid (w.heap.size ≤ w.heap.size + 1) := Nat.le_succ _
    clear hC hBW
    clear hA hr
    go_enter Try.func18, Try.ntmps18
    go_wp2_with (go_at_call 20; refine HC.out.mono ?_; rintro e w1 ⟨rfl, hb⟩; have B1 := Lib.hid (BW.out.trans (hb.mono BS.out)); clear hb)
    go_ret
    exact ⟨_, rfl, by rw [HE.out]; exact OwnInts.nil _ _ _, B1.out⟩
  | true =>
    have HE : Hid (S.filter (escB O zss n0 S) = r) := by rw [← hr]; unfold escapesL; rw [if_pos hA]; rfl
    have hC := isAsked_one hA cS (HAt.out.below BW.out) (HSi.out.below BW.out)
    rw [World.size_alloc] at hC
    have HC := Lib.hid hC
    have hBW := World.size_alloc w (.cells #[.slice ao O.length co, .slice an zss.length cn] 30)
    have BS : Hid (w.heap.size ≤ w.heap.size + 1) := Nat.le_succ _
    clear hC hBW
    have HA := Lib.hid hA
    clear hA hr
    go_enter Try.func18, Try.ntmps18
    go_wp2_with (first
      | (go_at_call 20; refine HC.out.mono ?_; rintro e w1 ⟨rfl, hb⟩; have B1 := Lib.hid (BW.out.trans (hb.mono BS.out)); have d0 := (bW.out.below (by rw [World.size_alloc]; exact hb)).cell0; have d1 := (bW.out.below (by rw [World.size_alloc]; exact hb)).cell1; clear hb)
      | (go_at_call 32; refine (escapes_is cS HA.out (HAt.out.below B1.out) (HSi.out.below B1.out)).mono ?_; rintro e w2 ⟨v, rfl, hv, hb⟩; have hfin := Lib.hid (And.intro (hv.base (B' := w.heap.size) B1.out.size) (B1.out.trans (hb.mono B1.out.size))); clear hv hb))
    go_ret
    exact ⟨_, rfl, by rw [← HE.out]; exact hfin.out.1, hfin.out.2⟩

set_option maxHeartbeats 4000000 in
theorem TrapIn_is {w : World} {va : Value} {O : List Int} {zss : List (List Int)} {n0 : Int} {aS : Option Addr} {S : List Int} {r : Bool} (cS : Nat) (hr : trapB O zss n0 S = r) (h : ArenaAt w va O zss) (hS : IntsAt w aS S) :
    Calls Try.prog 17 #[va, .int .i64 n0, .slice aS S.length cS] w fun e w' => e = .returned (.bool r) ∧ Below w.heap.size w w' := by
  have HAt := Lib.hid h
  have HSi := Lib.hid hS
  obtain ⟨ao, an, co, cn, A, C, rfl, h1, h2⟩ := h
  clear h1 h2 hS
  have BW := Lib.hid (below1 w (.cells #[.slice ao O.length co, .slice an zss.length cn] 30))
  have bW := Lib.hid (Box2.new w 30 (.slice ao O.length co) (.slice an zss.length cn))
  cases hA : okB O zss n0 S with
  | false =>
    have HE : Hid (r = false) := by rw [← hr]; simp [trapB, hA, Hid]
    have hC := isAsked_one hA cS (HAt.out.below BW.out) (HSi.out.below BW.out)
    rw [World.size_alloc] at hC
    have HC := Lib.hid hC
    have hBW := World.size_alloc w (.cells #[.slice ao O.length co, .slice an zss.length cn] 30)
    have BS : Hid (w.heap.size ≤ w.heap.size + 1) := Nat.le_succ _
    clear hC hBW
    clear hA hr
    go_enter Try.func17, Try.ntmps17
    go_wp2_with (go_at_call 20; refine HC.out.mono ?_; rintro e w1 ⟨rfl, hb⟩; have B1 := Lib.hid (BW.out.trans (hb.mono BS.out)); clear hb)
    go_ret
    exact ⟨ret_bool HE.out.symm, B1.out⟩
  | true =>
    have HE : Hid (decide ((S.filter (escB O zss n0 S)).length = 0) = r) := by rw [← hr]; simp [trapB, escapesL, hA, Hid]
    have hC := isAsked_one hA cS (HAt.out.below BW.out) (HSi.out.below BW.out)
    rw [World.size_alloc] at hC
    have HC := Lib.hid hC
    have hBW := World.size_alloc w (.cells #[.slice ao O.length co, .slice an zss.length cn] 30)
    have BS : Hid (w.heap.size ≤ w.heap.size + 1) := Nat.le_succ _
    clear hC hBW
    have HA := Lib.hid hA
    clear hA hr
    go_enter Try.func17, Try.ntmps17
    go_wp2_with (first
      | (go_at_call 20; refine HC.out.mono ?_; rintro e w1 ⟨rfl, hb⟩; have B1 := Lib.hid (BW.out.trans (hb.mono BS.out)); have d0 := (bW.out.below (by rw [World.size_alloc]; exact hb)).cell0; have d1 := (bW.out.below (by rw [World.size_alloc]; exact hb)).cell1; clear hb)
      | (go_at_call 32; refine (escapes_is cS HA.out (HAt.out.below B1.out) (HSi.out.below B1.out)).mono ?_; rintro e w2 ⟨v, rfl, hv, hb⟩; obtain ⟨a, c, rfl, -⟩ := hv.shape; have hfin := Lib.hid (B1.out.trans (hb.mono B1.out.size)); clear hv hb))
    go_ret
    refine ⟨ret_bool ?_, hfin.out⟩
    rw [← HE.out]
    generalize (S.filter (escB O zss n0 S)).length = m
    rw [Bool.eq_iff_iff]
    simp
end

end Go.Proofs.Ytaoagikipbcjpaa
