/-
  Contract of the model: WorthOk.
-/
import Derived.Test.YtihaajcmephlmaaPo01
import Derived.Test.YtihaajcmephlmaaHeavySpec
import Derived.Test.YtihaajcmephlmaaPo08
import Derived.Test.YtihaajcmephlmaaKitWorth
namespace Go.Proofs.Ytihaajcmephlmaa
section
open Go.RowKit Go.Shelf
theorem setOk_small {n : Nat} {V : List Int} (h : n ≤ 12) : setOk (n : Int) V = setB n V := setOk_yes ⟨by omega, by omega⟩

set_option linter.unusedSimpArgs false in
set_option maxRecDepth 100000 in
set_option maxHeartbeats 8000000 in
theorem specWorthOk_is {w : World} {v u : Value} {O P V : List Int} {zss : List (List Int)} {y z : Int} {r : Bool} (hr : worthB O zss P y V z = r) (h : GameAt w v O zss P) (hw : WorthAt w u y V z) :
    Calls Try.prog 31 #[v, u] w fun e w' => e = .returned (.bool r) ∧ Below w.heap.size w w' := by
  have HGm := Lib.hid h
  obtain ⟨ao, an, ap, co, cn, cp, A, C, rfl, h1, h2, h3⟩ := h
  obtain ⟨av, cv, rfl, hv⟩ := hw
  have HAt : Hid (ArenaAt w (.agg #[.slice ao O.length co, .slice an zss.length cn]) O zss) := ⟨ao, an, co, cn, A, C, rfl, h1, h2⟩
  have HV := Lib.hid hv
  have hvl := hv.len
  have hpl := h3.len
  have hol := h1.len
  obtain ⟨w1, hw1⟩ : ∃ q, q = (w.alloc (.cells #[.slice ao O.length co, .slice an zss.length cn, .slice ap P.length cp] 32)).alloc (.cells #[.int .i64 y, .slice av V.length cv, .int .i64 z] 35) := ⟨_, rfl⟩
  have HW1 := Lib.hid hw1
  have B1 : Hid (Below w.heap.size w w1) := by rw [hw1]; exact below2 _ _ _
  have T1 : Hid (Box3 w1 w.heap.size 32 (.slice ao O.length co) (.slice an zss.length cn) (.slice ap P.length cp)) := by rw [hw1]; exact (Box3.new _ _ _ _ _).alloc _
  have S1 : Hid (Box3 w1 (w.heap.size + 1) 35 (.int .i64 y) (.slice av V.length cv) (.int .i64 z)) := by rw [hw1]; exact Box3.new_at (by simp) _ _ _ _
  have t0 := T1.out.c0
  have t1 := T1.out.c1
  have t2 := T1.out.c2
  have s0 := S1.out.c0
  have s1 := S1.out.c1
  have s2 := S1.out.c2
  have HSM := Lib.hid (l8Small_is rfl (HGm.out.below B1.out))
  clear h1 h2 hv
  cases hs : smallB O zss P with
  | false =>
    have HE : Hid (r = false) := by rw [← hr]; exact worth_bad (fun hh => by rw [hs] at hh; exact Bool.noConfusion hh.1)
    clear hr hw1
    go_enter Try.func31, Try.ntmps31
    go_wp2_with fail
    rw [← HW1.out]
    go_wp2_with fail
    rw [hs] at HSM
    refine HSM.out.mono ?_
    rintro e w2 ⟨rfl, hb⟩
    have B2 := Lib.hid (B1.out.trans (hb.mono B1.out.size))
    have T2 := Lib.hid (T1.out.below hb)
    have S2 := Lib.hid (S1.out.below hb)
    clear hb
    clear t0 t1 t2 s0 s1 s2
    have t0 := T2.out.c0
    have t1 := T2.out.c1
    have t2 := T2.out.c2
    have s0 := S2.out.c0
    have s1 := S2.out.c1
    have s2 := S2.out.c2
    go_wp2
    go_ret
    exact ⟨ret_bool HE.out.symm, B2.out⟩
  | true =>
    obtain ⟨hlO, hl12⟩ := small_len hs
    have HLO := Lib.hid hlO
    have HP3 := Lib.hid h3
    clear hlO h3
    cases hx : thereB O.length y with
    | false =>
      have HX : Hid (thereB P.length y = false) := by rw [Hid, HLO.out]; exact hx
      have HE : Hid (r = false) := by rw [← hr]; exact worth_bad (fun hh => by rw [hx] at hh; exact Bool.noConfusion hh.2.1)
      clear hr hw1
      go_enter Try.func31, Try.ntmps31
      go_wp2_with fail
      rw [← HW1.out]
      go_wp2_with fail
      rw [hs] at HSM
      refine HSM.out.mono ?_
      rintro e w2 ⟨rfl, hb⟩
      have B2 := Lib.hid (B1.out.trans (hb.mono B1.out.size))
      have T2 := Lib.hid (T1.out.below hb)
      have S2 := Lib.hid (S1.out.below hb)
      clear hb
      clear t0 t1 t2 s0 s1 s2
      have t0 := T2.out.c0
      have t1 := T2.out.c1
      have t2 := T2.out.c2
      have s0 := S2.out.c0
      have s1 := S2.out.c1
      have s2 := S2.out.c2
      go_wp2_with fail
      refine (l10Vertex_is HX.out (HGm.out.below B2.out)).mono ?_
      rintro e w3 ⟨rfl, hb⟩
      have B3 := Lib.hid (B2.out.trans (hb.mono B2.out.size))
      have T3 := Lib.hid (T2.out.below hb)
      have S3 := Lib.hid (S2.out.below hb)
      clear hb
      clear t0 t1 t2 s0 s1 s2
      have t0 := T3.out.c0
      have t1 := T3.out.c1
      have t2 := T3.out.c2
      have s0 := S3.out.c0
      have s1 := S3.out.c1
      have s2 := S3.out.c2
      go_wp2
      go_ret
      exact ⟨ret_bool HE.out.symm, B3.out⟩
    | true =>
      have HX : Hid (thereB P.length y = true) := by rw [Hid, HLO.out]; exact hx
      cases hso : setB O.length V with
      | false =>
        have HSO : Hid (setOk (P.length : Int) V = false) := by rw [Hid, setOk_small hl12, HLO.out]; exact hso
        have HE : Hid (r = false) := by rw [← hr]; exact worth_bad (fun hh => by rw [hso] at hh; exact Bool.noConfusion hh.2.2.1)
        clear hr hw1
        go_enter Try.func31, Try.ntmps31
        go_wp2_with fail
        rw [← HW1.out]
        go_wp2_with fail
        rw [hs] at HSM
        refine HSM.out.mono ?_
        rintro e w2 ⟨rfl, hb⟩
        have B2 := Lib.hid (B1.out.trans (hb.mono B1.out.size))
        have T2 := Lib.hid (T1.out.below hb)
        have S2 := Lib.hid (S1.out.below hb)
        clear hb
        clear t0 t1 t2 s0 s1 s2
        have t0 := T2.out.c0
        have t1 := T2.out.c1
        have t2 := T2.out.c2
        have s0 := S2.out.c0
        have s1 := S2.out.c1
        have s2 := S2.out.c2
        go_wp2_with fail
        refine (l10Vertex_is HX.out (HGm.out.below B2.out)).mono ?_
        rintro e w3 ⟨rfl, hb⟩
        have B3 := Lib.hid (B2.out.trans (hb.mono B2.out.size))
        have T3 := Lib.hid (T2.out.below hb)
        have S3 := Lib.hid (S2.out.below hb)
        clear hb
        clear t0 t1 t2 s0 s1 s2
        have t0 := T3.out.c0
        have t1 := T3.out.c1
        have t2 := T3.out.c2
        have s0 := S3.out.c0
        have s1 := S3.out.c1
        have s2 := S3.out.c2
        go_wp2_with fail
        refine (specSetOk_is HSO.out cv (HV.out.below B3.out)).mono ?_
        rintro e w4 ⟨rfl, q, hq⟩
        have hb : Below w3.heap.size w3 w4 := by rw [hq]; exact below_drewN (Below.refl _ _) _
        clear hq
        have B4 := Lib.hid (B3.out.trans (hb.mono B3.out.size))
        have T4 := Lib.hid (T3.out.below hb)
        have S4 := Lib.hid (S3.out.below hb)
        clear hb
        clear t0 t1 t2 s0 s1 s2
        have t0 := T4.out.c0
        have t1 := T4.out.c1
        have t2 := T4.out.c2
        have s0 := S4.out.c0
        have s1 := S4.out.c1
        have s2 := S4.out.c2
        go_wp2
        go_ret
        exact ⟨ret_bool HE.out.symm, B4.out⟩
      | true =>
        have HSO : Hid (setOk (P.length : Int) V = true) := by rw [Hid, setOk_small hl12, HLO.out]; exact hso
        by_cases hin : 0 ≤ z ∧ z ≤ 12
        · have HIN : Hid (inB z 0 12 = true) := inB_yes hin.1 hin.2
          have HR : Hid (overB P V y V.length = r) := by
            rw [← hr]
            unfold worthB
            rw [hs, hx, hso, decide_eq_true hin]
            exact rfl
          obtain ⟨hx0, hx1⟩ := thereB_iff.1 hx
          obtain ⟨i, rfl⟩ : ∃ i : Nat, y = (i : Int) := ⟨y.toNat, by omega⟩
          have hi : i < P.length := by have := HLO.out; omega
          have HBO := Lib.hid (fun j (hj : j < V.length) => setB_bounds hso hj)
          have HSv := Lib.hid hs
          clear hr hw1 hx0 hx1 hin
          go_enter Try.func31, Try.ntmps31
          go_wp2_with fail
          rw [← HW1.out]
          go_wp2_with fail
          rw [hs] at HSM
          refine HSM.out.mono ?_
          rintro e w2 ⟨rfl, hb⟩
          have B2 := Lib.hid (B1.out.trans (hb.mono B1.out.size))
          have T2 := Lib.hid (T1.out.below hb)
          have S2 := Lib.hid (S1.out.below hb)
          clear hb
          clear t0 t1 t2 s0 s1 s2
          have t0 := T2.out.c0
          have t1 := T2.out.c1
          have t2 := T2.out.c2
          have s0 := S2.out.c0
          have s1 := S2.out.c1
          have s2 := S2.out.c2
          go_wp2_with fail
          refine (l10Vertex_is HX.out (HGm.out.below B2.out)).mono ?_
          rintro e w3 ⟨rfl, hb⟩
          have B3 := Lib.hid (B2.out.trans (hb.mono B2.out.size))
          have T3 := Lib.hid (T2.out.below hb)
          have S3 := Lib.hid (S2.out.below hb)
          clear hb
          clear t0 t1 t2 s0 s1 s2
          have t0 := T3.out.c0
          have t1 := T3.out.c1
          have t2 := T3.out.c2
          have s0 := S3.out.c0
          have s1 := S3.out.c1
          have s2 := S3.out.c2
          go_wp2_with fail
          refine (specSetOk_is HSO.out cv (HV.out.below B3.out)).mono ?_
          rintro e w4 ⟨rfl, q, hq⟩
          have hb : Below w3.heap.size w3 w4 := by rw [hq]; exact below_drewN (Below.refl _ _) _
          clear hq
          have B4 := Lib.hid (B3.out.trans (hb.mono B3.out.size))
          have T4 := Lib.hid (T3.out.below hb)
          have S4 := Lib.hid (S3.out.below hb)
          clear hb
          clear t0 t1 t2 s0 s1 s2
          have t0 := T4.out.c0
          have t1 := T4.out.c1
          have t2 := T4.out.c2
          have s0 := S4.out.c0
          have s1 := S4.out.c1
          have s2 := S4.out.c2
          go_wp2_with fail
          refine (l1In_is HIN.out _).mono ?_
          rintro e w5 ⟨rfl, hq⟩
          have hb : Below w4.heap.size w4 w5 := by rw [← hq]; exact Below.refl _ _
          clear hq
          have B5 := Lib.hid (B4.out.trans (hb.mono B4.out.size))
          have T5 := Lib.hid (T4.out.below hb)
          have S5 := Lib.hid (S4.out.below hb)
          clear hb
          clear t0 t1 t2 s0 s1 s2
          have t0 := T5.out.c0
          have t1 := T5.out.c1
          have t2 := T5.out.c2
          have s0 := S5.out.c0
          have s1 := S5.out.c1
          have s2 := S5.out.c2
          go_wp2
          go_loopw [5] (fun iv wr => ∃ k : Nat, k ≤ V.length ∧ iv = .int .i64 k ∧ Hid (∀ j, j < k → heavyB P (nth V j).toNat i = true) ∧ Hid (Below w5.heap.size w5 wr)) (fun iv _ => V.length - (intOf iv).toNat)
          case atStart => exact ⟨0, Nat.zero_le _, rfl, fun j hj => absurd hj (Nat.not_lt_zero _), Below.refl _ _⟩
          case round =>
            clear t0 t1 t2 s0 s1 s2
            obtain ⟨k, hk, rfl, HJ, HB⟩ := hrel
            have T6 := Lib.hid (T5.out.below HB.out)
            have S6 := Lib.hid (S5.out.below HB.out)
            have B6 := Lib.hid (B5.out.trans (HB.out.mono B5.out.size))
            have t0 := T6.out.c0
            have t1 := T6.out.c1
            have t2 := T6.out.c2
            have s0 := S6.out.c0
            have s1 := S6.out.c1
            have s2 := S6.out.c2
            by_cases hlt : k < V.length
            · have hi1 : (k : Int) < V.length := by omega
              have hk0 : (0 : Int) ≤ (k : Int) := by omega
              obtain ⟨vb, vo, hva, hvc⟩ := (HV.out.below B6.out).cell (by omega)
              have v1 := hvc k hlt
              subst hva
              obtain ⟨hb0, hb1, _⟩ := HBO.out k hlt
              obtain ⟨x, hx⟩ : ∃ x : Nat, nth V k = (x : Int) := ⟨(nth V k).toNat, by omega⟩
              rw [hx] at v1
              have hxP : x < P.length := by have := HLO.out; omega
              have HXk : Hid ((nth V k).toNat = x) := by rw [hx]; exact Int.toNat_natCast _
              obtain ⟨b, hb⟩ : ∃ b, heavyB P x i = b := ⟨_, rfl⟩
              have HC := Lib.hid (fun W (hB : Below w.heap.size w W) => l10Heavier_is hxP hi hb (HGm.out.below hB))
              have Kd : Hid (Below wr.heap.size wr wr.drew) := (Below.refl _ _).drew
              have HSw : Hid (∀ W', Below wr.heap.size wr W' → W'.cell? ⟨w.heap.size, 0, none⟩ = some (.slice ao O.length co) ∧ W'.cell? ⟨w.heap.size, 1, none⟩ = some (.slice an zss.length cn) ∧ W'.cell? ⟨w.heap.size, 2, none⟩ = some (.slice ap P.length cp) ∧ W'.cell? ⟨w.heap.size + 1, 0, none⟩ = some (.int .i64 i) ∧ W'.cell? ⟨w.heap.size + 1, 1, none⟩ = some (.slice (some ⟨vb, vo, none⟩) V.length cv) ∧ W'.cell? ⟨vb, vo + k, none⟩ = some (.int .i64 x)) := fun W' hB =>
                ⟨Below.cell_some (B := 0) hB rfl t0, Below.cell_some (B := 0) hB rfl t1, Below.cell_some (B := 0) hB rfl t2, Below.cell_some (B := 0) hB rfl s0, Below.cell_some (B := 0) hB rfl s1, Below.cell_some (B := 0) hB rfl v1⟩
              have HBv := Lib.hid hb
              have HXx := Lib.hid hx
              clear hvc hb hx t0 t1 t2 s0 s2 v1 hb0 hb1
              go_wp2_with fail
              clear s1
              refine wp_region_M (S := (fun W' => W'.cell? ⟨w.heap.size, 0, none⟩ = some (.slice ao O.length co) ∧ W'.cell? ⟨w.heap.size, 1, none⟩ = some (.slice an zss.length cn) ∧ W'.cell? ⟨w.heap.size, 2, none⟩ = some (.slice ap P.length cp) ∧ W'.cell? ⟨w.heap.size + 1, 0, none⟩ = some (.int .i64 i) ∧ W'.cell? ⟨w.heap.size + 1, 1, none⟩ = some (.slice (some ⟨vb, vo, none⟩) V.length cv) ∧ W'.cell? ⟨vb, vo + k, none⟩ = some (.int .i64 x))) (m := 10) (by kernel_rfl) (HSw.out _ Kd.out) (fun hHeld => ?_)
              refine wpAnyM_take (i := 0) (v := ?vm13) rfl (by kernel_rfl) (by decide) (by kernel_rfl) (by kernel_rfl) (by kernel_rfl) (fun _ _ _ h => h) (Or.inl ⟨by rfl, ?hm13⟩) (by assumption) ?_
              case hm13 => (intro w hSw; (try dsimp only at hSw); go_simp; first | done | with_reducible rfl)
              try simp only [Act.put, List.getElem_toArray, List.getElem_cons_succ, List.getElem_cons_zero, List.setIfInBounds_toArray, List.set_cons_zero, List.set_cons_succ]
              refine wpAnyM_take (i := 1) (v := ?vm14) rfl (by kernel_rfl) (by decide) (by kernel_rfl) (by kernel_rfl) (by kernel_rfl) (fun _ _ _ h => h) (Or.inl ⟨by rfl, ?hm14⟩) (by assumption) ?_
              case hm14 => (intro w hSw; (try dsimp only at hSw); go_simp; first | done | with_reducible rfl)
              try simp only [Act.put, List.getElem_toArray, List.getElem_cons_succ, List.getElem_cons_zero, List.setIfInBounds_toArray, List.set_cons_zero, List.set_cons_succ]
              refine wpAnyM_take (i := 2) (v := ?vm15) rfl (by kernel_rfl) (by decide) (by kernel_rfl) (by kernel_rfl) (by kernel_rfl) (fun _ _ _ h => h) (Or.inl ⟨by rfl, ?hm15⟩) (by assumption) ?_
              case hm15 => (intro w hSw; (try dsimp only at hSw); go_simp; first | done | with_reducible rfl)
              try simp only [Act.put, List.getElem_toArray, List.getElem_cons_succ, List.getElem_cons_zero, List.setIfInBounds_toArray, List.set_cons_zero, List.set_cons_succ]
              refine wpAnyM_take (i := 3) (v := ?vm16) rfl (by kernel_rfl) (by decide) (by kernel_rfl) (by kernel_rfl) (by kernel_rfl) (fun _ _ _ h => h) (Or.inl ⟨by rfl, ?hm16⟩) (by assumption) ?_
              case hm16 => (intro w hSw; (try dsimp only at hSw); go_simp; first | done | with_reducible rfl)
              try simp only [Act.put, List.getElem_toArray, List.getElem_cons_succ, List.getElem_cons_zero, List.setIfInBounds_toArray, List.set_cons_zero, List.set_cons_succ]
              refine wpAnyM_take (i := 4) (v := ?vm17) rfl (by kernel_rfl) (by decide) (by kernel_rfl) (by kernel_rfl) (by kernel_rfl) (fun _ _ _ h => h) (Or.inl ⟨by rfl, ?hm17⟩) (by assumption) ?_
              case hm17 => (intro w hSw; (try dsimp only at hSw); go_simp; first | done | with_reducible rfl)
              try simp only [Act.put, List.getElem_toArray, List.getElem_cons_succ, List.getElem_cons_zero, List.setIfInBounds_toArray, List.set_cons_zero, List.set_cons_succ]
              refine wpAnyM_take (i := 5) (v := ?vm18) rfl (by kernel_rfl) (by decide) (by kernel_rfl) (by kernel_rfl) (by kernel_rfl) (fun _ _ _ h => h) (Or.inl ⟨by rfl, ?hm18⟩) (by assumption) ?_
              case hm18 => (intro w hSw; (try dsimp only at hSw); go_simp; first | done | with_reducible rfl)
              try simp only [Act.put, List.getElem_toArray, List.getElem_cons_succ, List.getElem_cons_zero, List.setIfInBounds_toArray, List.set_cons_zero, List.set_cons_succ]
              refine wpAnyM_take (i := 6) (v := ?vm19) rfl (by kernel_rfl) (by decide) (by kernel_rfl) (by kernel_rfl) (by kernel_rfl) (fun _ _ _ h => h) (Or.inl ⟨by rfl, ?hm19⟩) (by assumption) ?_
              case hm19 => (intro w hSw; (try dsimp only at hSw); go_simp; first | done | with_reducible rfl)
              try simp only [Act.put, List.getElem_toArray, List.getElem_cons_succ, List.getElem_cons_zero, List.setIfInBounds_toArray, List.set_cons_zero, List.set_cons_succ]
              refine wpAnyM_take (i := 7) (v := ?vm20) rfl (by kernel_rfl) (by decide) (by kernel_rfl) (by kernel_rfl) (by kernel_rfl) (fun _ _ _ h => h) (Or.inl ⟨by rfl, ?hm20⟩) (by assumption) ?_
              case hm20 => (intro w hSw; (try dsimp only at hSw); go_simp; first | done | with_reducible rfl)
              try simp only [Act.put, List.getElem_toArray, List.getElem_cons_succ, List.getElem_cons_zero, List.setIfInBounds_toArray, List.set_cons_zero, List.set_cons_succ]
              refine wpAnyM_one (i := 8) (by kernel_rfl) rfl (fun K hK => ?_)
              go_simp
              go_at_call 46
              refine (HC.out _ (B6.out.trans (Kd.out.mono B6.out.size))).mono ?_
              rintro e wx ⟨rfl, hb⟩
              have Kx := Lib.hid (Kd.out.trans (hb.mono Kd.out.size))
              clear hb
              go_wp2_with fail
              refine hK.out _ _ (fun _ => HSw.out _ Kx.out) (fun hHeld => ?_)
              have hHeld := hHeld (by decide)
              clear hK K
              try simp only [Act.put, List.getElem_toArray, List.getElem_cons_succ, List.getElem_cons_zero, List.setIfInBounds_toArray, List.set_cons_zero, List.set_cons_succ]
              refine wpAnyM_take (i := 9) (v := ?vm21) rfl (by kernel_rfl) (by decide) (by kernel_rfl) (by kernel_rfl) (by kernel_rfl) (fun _ _ _ h => h) (Or.inl ⟨by rfl, ?hm21⟩) (by assumption) ?_
              case hm21 => (intro w hSw; (try dsimp only at hSw); go_simp; first | done | with_reducible rfl)
              try simp only [Act.put, List.getElem_toArray, List.getElem_cons_succ, List.getElem_cons_zero, List.setIfInBounds_toArray, List.set_cons_zero, List.set_cons_succ]
              refine wpAnyM_done (by kernel_rfl) ?_ _
              cases b with
              | true =>
                have HJn : Hid (∀ j, j < k + 1 → heavyB P (nth V j).toNat i = true) := fun j hj => by
                  by_cases e : j = k
                  · rw [e, HXk.out]; exact HBv.out
                  · exact HJ.out j (by omega)
                go_wp2
                go_roundw
                case rel => exact ⟨k + 1, by omega, by go_num, HJn, HB.out.trans (Kx.out.mono HB.out.size)⟩
                case measure => simp [intOf]; omega
              | false =>
                have HE : Hid (r = false) := by rw [← HR.out]; exact overB_bad hlt (by rw [HXk.out, Int.toNat_natCast]; exact HBv.out)
                go_wp2
                go_ret
                exact ⟨ret_bool HE.out.symm, B6.out.trans (Kx.out.mono B6.out.size)⟩
            · have hi1 : ¬ (k : Int) < V.length := by omega
              have HE : Hid (r = true) := by rw [← HR.out]; exact overB_iff.2 (fun j hj => by rw [Int.toNat_natCast]; exact HJ.out j (by omega))
              go_wp2
              go_ret
              exact ⟨ret_bool HE.out.symm, B6.out⟩
        · have HIN : Hid (inB z 0 12 = false) := inB_no (by omega)
          have HE : Hid (r = false) := by rw [← hr]; exact worth_bad (fun hh => hin hh.2.2.2.1)
          clear hr hw1 hin
          go_enter Try.func31, Try.ntmps31
          go_wp2_with fail
          rw [← HW1.out]
          go_wp2_with fail
          rw [hs] at HSM
          refine HSM.out.mono ?_
          rintro e w2 ⟨rfl, hb⟩
          have B2 := Lib.hid (B1.out.trans (hb.mono B1.out.size))
          have T2 := Lib.hid (T1.out.below hb)
          have S2 := Lib.hid (S1.out.below hb)
          clear hb
          clear t0 t1 t2 s0 s1 s2
          have t0 := T2.out.c0
          have t1 := T2.out.c1
          have t2 := T2.out.c2
          have s0 := S2.out.c0
          have s1 := S2.out.c1
          have s2 := S2.out.c2
          go_wp2_with fail
          refine (l10Vertex_is HX.out (HGm.out.below B2.out)).mono ?_
          rintro e w3 ⟨rfl, hb⟩
          have B3 := Lib.hid (B2.out.trans (hb.mono B2.out.size))
          have T3 := Lib.hid (T2.out.below hb)
          have S3 := Lib.hid (S2.out.below hb)
          clear hb
          clear t0 t1 t2 s0 s1 s2
          have t0 := T3.out.c0
          have t1 := T3.out.c1
          have t2 := T3.out.c2
          have s0 := S3.out.c0
          have s1 := S3.out.c1
          have s2 := S3.out.c2
          go_wp2_with fail
          refine (specSetOk_is HSO.out cv (HV.out.below B3.out)).mono ?_
          rintro e w4 ⟨rfl, q, hq⟩
          have hb : Below w3.heap.size w3 w4 := by rw [hq]; exact below_drewN (Below.refl _ _) _
          clear hq
          have B4 := Lib.hid (B3.out.trans (hb.mono B3.out.size))
          have T4 := Lib.hid (T3.out.below hb)
          have S4 := Lib.hid (S3.out.below hb)
          clear hb
          clear t0 t1 t2 s0 s1 s2
          have t0 := T4.out.c0
          have t1 := T4.out.c1
          have t2 := T4.out.c2
          have s0 := S4.out.c0
          have s1 := S4.out.c1
          have s2 := S4.out.c2
          go_wp2_with fail
          refine (l1In_is HIN.out _).mono ?_
          rintro e w5 ⟨rfl, hq⟩
          have hb : Below w4.heap.size w4 w5 := by rw [← hq]; exact Below.refl _ _
          clear hq
          have B5 := Lib.hid (B4.out.trans (hb.mono B4.out.size))
          have T5 := Lib.hid (T4.out.below hb)
          have S5 := Lib.hid (S4.out.below hb)
          clear hb
          clear t0 t1 t2 s0 s1 s2
          have t0 := T5.out.c0
          have t1 := T5.out.c1
          have t2 := T5.out.c2
          have s0 := S5.out.c0
          have s1 := S5.out.c1
          have s2 := S5.out.c2
          go_wp2
          go_ret
          exact ⟨ret_bool HE.out.symm, B5.out⟩
end
end Go.Proofs.Ytihaajcmephlmaa
