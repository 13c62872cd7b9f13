/-
  Contract: newAppraiser.
-/
import Derived.Test.YtihaajcmephlmaaSortW
import Derived.Test.YtihaajcmephlmaaCmpV
namespace Go.Proofs.Ytihaajcmephlmaa
section
open Go.RowKit Go.Shelf

theorem lf_of {w : World} {g : Nat} {l : List Value} {T : TypeId} (h : w.heap[g]? = some (.cells l.toArray T (0, 0))) : w.rowIs g T l.length (lf l) := by
  refine ⟨_, h, by simp, fun j hj => ?_⟩
  simp [lf, hj]
theorem gain_step {P : List Int} {F : Nat → Nat} {k x i : Nat} (h : SortP P.length F) (hu : UpP P F P.length) (hk : k < P.length) (hx : x = F k) (hi : i < P.length) : (if i = x then gainI P x else if rankL P i < k then gainI P i else 0) = if rankL P i < k + 1 then gainI P i else 0 := by
  have hr : rankL P x = k := by rw [hx]; exact sorted_rank h hu k hk
  have hxP : x < P.length := by rw [hx]; exact h.rng k hk
  by_cases e : i = x
  · subst e
    rw [if_pos rfl, if_pos (by omega)]
  · rw [if_neg e]
    have hn : rankL P i ≠ k := fun h2 => e (rank_inj hi hxP (by rw [h2, hr]))
    by_cases h3 : rankL P i < k
    · rw [if_pos h3, if_pos (by omega)]
    · rw [if_neg h3, if_neg (by omega)]
/-- The call gives an appraiser. -/
def GivesApp (w : World) (O : List Int) (zss : List (List Int)) (P : List Int) (e : Ending) (w' : World) : Prop := ∃ s, e = .returned s ∧ AppAt w' s O zss P ∧ Below w.heap.size w w'
set_option linter.unusedSimpArgs false in
set_option maxRecDepth 100000 in
set_option maxHeartbeats 8000000 in
theorem newAppraiser_is {w : World} {v : Value} {O P : List Int} {zss : List (List Int)} (hlO : P.length = O.length) (hP0 : 0 < P.length) (h12 : P.length ≤ 12) (hP : ∀ x ∈ P, 0 ≤ x ∧ x ≤ 40) (h : GameAt w v O zss P) :
    Calls Try.prog 38 #[v] w (GivesApp w O zss P) := by
  have HGm := Lib.hid h
  obtain ⟨ao, an, ap, co, cn, cp, A, C, rfl, h1, h2, h3⟩ := h
  have HP := Lib.hid h3
  have hol := h1.len
  have HLO := Lib.hid hlO
  have HPr := Lib.hid hP
  have hmk := run_make_row' (P := Try.prog) 27 2 (.int .i64 0) 8 Try.underlying27 info_int rfl .i64 .i64 O.length (by omega) (by omega)
  obtain ⟨w1, hw1⟩ : ∃ q, q = (w.alloc (.cells #[.slice ao O.length co, .slice an zss.length cn, .slice ap P.length cp] 32)).alloc (.cells #[.slice none 0 0, .slice none 0 0, .slice none 0 0, .slice none 0 0] 69) := ⟨_, rfl⟩
  have HW1 := Lib.hid hw1
  have B1 : Hid (Below w.heap.size w w1) := by rw [hw1]; exact below2 _ _ _
  have T1 : Hid (Box3 w1 w.heap.size 32 (.slice ao O.length co) (.slice an zss.length cn) (.slice ap P.length cp)) := by rw [hw1]; exact (Box3.new _ _ _ _ _).alloc _
  have R1 : Hid (w1.rowIs (w.heap.size + 1) 69 4 (lf [.slice none 0 0, .slice none 0 0, .slice none 0 0, .slice none 0 0])) := by rw [hw1]; exact lf_at (by simp) [.slice none 0 0, .slice none 0 0, .slice none 0 0, .slice none 0 0] _
  have hs1 : Hid (w1.heap.size = w.heap.size + 1 + 1) := by rw [hw1]; simp [Hid]
  have HSZ := Lib.hid (fun W => size_is ao an O.length zss.length co cn W hol)
  have t0 := T1.out.c0
  have t1 := T1.out.c1
  have t2 := T1.out.c2
  clear hw1 h1 h2 h3 hlO hP
  go_enter Try.func38, Try.ntmps38
  go_upto_region 1 with fail
  rw [← HW1.out]
  refine wp_cut8 (fun a' wx => ∃ (b gs : Nat) (u6 u7 u8 u9 u10 u11 : Value), (Hid (w1.heap.size ≤ b ∧ w1.heap.size ≤ gs ∧ b ≠ gs) ∧ Hid (Below w1.heap.size w1 wx) ∧ Hid (wx.rowIs b 69 4 (lf [.slice ao O.length co, .slice an zss.length cn, .slice ap P.length cp, .slice (some ⟨gs, 0, none⟩) O.length O.length])) ∧ Hid (wx.rowIs gs 2 O.length (fun _ => .int .i64 0))) ∧ a' = { tmps := #[.agg #[.slice ao O.length co, .slice an zss.length cn, .slice ap P.length cp], .pointer (some ⟨w.heap.size, 0, none⟩), .pointer (some ⟨w.heap.size + 1, 0, none⟩), .pointer (some ⟨b, 0, none⟩), undef, undef, u6, u7, u8, u9, u10, u11, undef, undef, undef, undef, undef, undef, undef, undef, undef, undef, undef, undef, undef, undef, undef, undef, undef, undef, undef, undef, undef, undef, undef, undef, undef, undef, undef, undef, undef, undef, undef, undef, undef, undef, undef, undef, undef, undef, undef], defers := [] }) ?reg1 ?rest1
  case reg1 =>
    have Kd : Hid (Below w1.heap.size w1 w1.drew) := (Below.refl _ _).drew
    have HSw : Hid (∀ W', Below w1.heap.size w1 W' → (fun W' => W'.cell? ⟨w.heap.size, 0, none⟩ = some (.slice ao O.length co) ∧ W'.cell? ⟨w.heap.size, 1, none⟩ = some (.slice an zss.length cn) ∧ W'.cell? ⟨w.heap.size, 2, none⟩ = some (.slice ap P.length cp)) W') := fun W' hb => ⟨(T1.out.below hb).c0, (T1.out.below hb).c1, (T1.out.below hb).c2⟩
    clear t0 t1 t2
    refine wp_region_M (S := (fun W' => W'.cell? ⟨w.heap.size, 0, none⟩ = some (.slice ao O.length co) ∧ W'.cell? ⟨w.heap.size, 1, none⟩ = some (.slice an zss.length cn) ∧ W'.cell? ⟨w.heap.size, 2, none⟩ = some (.slice ap P.length cp))) (m := 8) (by kernel_rfl) (HSw.out _ Kd.out) (fun hHeld => ?_)
    obtain ⟨wd, hwd⟩ : ∃ q, q = w1.drew := ⟨_, rfl⟩
    have K0 : Hid (Below w1.heap.size w1 wd) := by rw [hwd]; exact Kd.out
    rw [← hwd] at hHeld ⊢
    clear hwd Kd
    refine wpAnyM_take (i := 0) (v := ?vm13) rfl (by kernel_rfl) (by decide) (by kernel_rfl) (by kernel_rfl) (by kernel_rfl) (fun _ _ _ h => h) (Or.inl ⟨by rfl, ?hm13⟩) (by assumption) ?_
    case hm13 => (intro w hSw; (try dsimp only at hSw); go_simp; first | done | with_reducible rfl)
    try simp only [Act.put, List.getElem_toArray, List.getElem_cons_succ, List.getElem_cons_zero, List.setIfInBounds_toArray, List.set_cons_zero, List.set_cons_succ]
    refine wpAnyM_take (i := 1) (v := ?vm14) rfl (by kernel_rfl) (by decide) (by kernel_rfl) (by kernel_rfl) (by kernel_rfl) (fun _ _ _ h => h) (Or.inl ⟨by rfl, ?hm14⟩) (by assumption) ?_
    case hm14 => (intro w hSw; (try dsimp only at hSw); go_simp; first | done | with_reducible rfl)
    try simp only [Act.put, List.getElem_toArray, List.getElem_cons_succ, List.getElem_cons_zero, List.setIfInBounds_toArray, List.set_cons_zero, List.set_cons_succ]
    refine wpAnyM_take (i := 2) (v := ?vm15) rfl (by kernel_rfl) (by decide) (by kernel_rfl) (by kernel_rfl) (by kernel_rfl) (fun _ _ _ h => h) (Or.inl ⟨by rfl, ?hm15⟩) (by assumption) ?_
    case hm15 => (intro w hSw; (try dsimp only at hSw); go_simp; first | done | with_reducible rfl)
    try simp only [Act.put, List.getElem_toArray, List.getElem_cons_succ, List.getElem_cons_zero, List.setIfInBounds_toArray, List.set_cons_zero, List.set_cons_succ]
    refine wpAnyM_two (i := 3) (j := 6) (by kernel_rfl) rfl rfl (fun K hK => ?_) (fun K hK => ?_)
    · skip
      go_simp
      go_at_call 61
      refine (HSZ.out _).mono ?_
      rintro e W2 ⟨rfl, hq⟩
      have hb : Below wd.heap.size wd W2 := by rw [← hq]; exact below1 _ _
      have K2 := Lib.hid (K0.out.trans (hb.mono K0.out.size))
      clear hq
      go_wp2_with fail
      refine hK.out _ _ (fun _ => HSw.out _ K2.out) (fun hHeld => ?_)
      have hHeld := hHeld (by decide)
      clear hK K
      try simp only [Act.put, List.getElem_toArray, List.getElem_cons_succ, List.getElem_cons_zero, List.setIfInBounds_toArray, List.set_cons_zero, List.set_cons_succ]
      refine wpAnyM_two (i := 4) (j := 6) (by kernel_rfl) rfl rfl (fun K hK => ?_) (fun K hK => ?_)
      · skip
        go_simp
        obtain ⟨W3, hW3⟩ : ∃ q, q = W2.alloc (.cells (madeCells #[.int .i64 0] O.length) 2) := ⟨_, rfl⟩
        rw [← hW3]
        have hb : Below W2.heap.size W2 W3 := by rw [hW3]; exact below1 _ _
        have K3 := Lib.hid (K2.out.trans (hb.mono K2.out.size))
        have HMR : Hid (W3.rowIs W2.heap.size 2 O.length (fun _ => .int .i64 0)) := by rw [hW3]; exact (World.rowIs_made _ _ _ _).congr (fun i _ => by simp)
        have hsz3 : Hid (W3.heap.size = W2.heap.size + 1) := by rw [hW3]; simp [Hid]
        clear hW3
        refine hK.out _ _ (fun _ => HSw.out _ K3.out) (fun hHeld => ?_)
        have hHeld := hHeld (by decide)
        clear hK K
        try simp only [Act.put, List.getElem_toArray, List.getElem_cons_succ, List.getElem_cons_zero, List.setIfInBounds_toArray, List.set_cons_zero, List.set_cons_succ]
        refine wpAnyM_take (i := 5) (v := ?vm16) rfl (by kernel_rfl) (by decide) (by kernel_rfl) (by kernel_rfl) (by kernel_rfl) (fun _ _ _ h => h) (Or.inl ⟨by rfl, ?hm16⟩) (by assumption) ?_
        case hm16 => (intro w hSw; (try dsimp only at hSw); go_simp; first | done | with_reducible rfl)
        try simp only [Act.put, List.getElem_toArray, List.getElem_cons_succ, List.getElem_cons_zero, List.setIfInBounds_toArray, List.set_cons_zero, List.set_cons_succ]
        refine wpAnyM_one (i := 6) (by kernel_rfl) rfl (fun K hK => ?_)
        go_simp
        obtain ⟨W4, hW4⟩ : ∃ q, q = W3.alloc (.cells #[.slice none 0 0, .slice none 0 0, .slice none 0 0, .slice none 0 0] 69) := ⟨_, rfl⟩
        rw [← hW4]
        have hb : Below W3.heap.size W3 W4 := by rw [hW4]; exact below1 _ _
        have K4 := Lib.hid (K3.out.trans (hb.mono K3.out.size))
        have HNA : Hid (W4.heap[W3.heap.size]? = some (.cells #[.slice none 0 0, .slice none 0 0, .slice none 0 0, .slice none 0 0] 69 (0, 0))) := by rw [hW4]; exact heap_alloc_new _ _
        have hsz4 : Hid (W4.heap.size = W3.heap.size + 1) := by rw [hW4]; simp [Hid]
        clear hW4
        have HMR := Lib.hid (rowIs_below HMR.out hb)
        refine hK.out _ _ (fun _ => HSw.out _ K4.out) (fun hHeld => ?_)
        have hHeld := hHeld (by decide)
        clear hK K
        try simp only [Act.put, List.getElem_toArray, List.getElem_cons_succ, List.getElem_cons_zero, List.setIfInBounds_toArray, List.set_cons_zero, List.set_cons_succ]
        refine wpAnyM_one (i := 7) (by kernel_rfl) rfl (fun K hK => ?_)
        rw [if_pos (by kernel_rfl)]
        refine wp_store_row 69 _ _ rfl (W3.heap.size) #[.slice ao O.length co, .slice an zss.length cn, .slice ap P.length cp, .slice (some ⟨W2.heap.size, 0, none⟩) O.length O.length] rfl rfl 69 #[.slice none 0 0, .slice none 0 0, .slice none 0 0, .slice none 0 0] HNA.out (by kernel_rfl) rfl (by simp [Value.oneCell']) ?_
        have hss := K4.out.size
        have hq1 := hsz3.out
        have hq2 := hsz4.out
        have hq3 := K2.out.size
        have ho := only_row8 (S := fun x => x = W3.heap.size) (Only.refl _ _) rfl #[.slice ao O.length co, .slice an zss.length cn, .slice ap P.length cp, .slice (some ⟨W2.heap.size, 0, none⟩) O.length O.length] (w := W4)
        have hbo := K4.out.trans (ho.below (B := w1.heap.size) K4.out.size (fun x hx => by rw [hx]; omega))
        refine hK.out _ _ (fun _ => HSw.out _ hbo) (fun hHeld => ?_)
        clear hK K
        try simp only [Act.put, List.getElem_toArray, List.getElem_cons_succ, List.getElem_cons_zero, List.setIfInBounds_toArray, List.set_cons_zero, List.set_cons_succ]
        refine wpAnyM_done (by kernel_rfl) ?_ _
        refine ⟨W3.heap.size, W2.heap.size, _, _, _, _, _, _, ⟨⟨by omega, by omega, by omega⟩, hbo, ?_, ?_⟩, rfl⟩
        · exact lf_of (l := [.slice ao O.length co, .slice an zss.length cn, .slice ap P.length cp, .slice (some ⟨W2.heap.size, 0, none⟩) O.length O.length]) (setRow_heap _ _ _ _ _ _ HNA.out)
        · exact World.rowIs.of_block HMR.out (ho.block _ HMR.out.lt (by omega))
      · skip
        go_simp
        obtain ⟨W3, hW3⟩ : ∃ q, q = W2.alloc (.cells #[.slice none 0 0, .slice none 0 0, .slice none 0 0, .slice none 0 0] 69) := ⟨_, rfl⟩
        rw [← hW3]
        have hb : Below W2.heap.size W2 W3 := by rw [hW3]; exact below1 _ _
        have K3 := Lib.hid (K2.out.trans (hb.mono K2.out.size))
        have HNA : Hid (W3.heap[W2.heap.size]? = some (.cells #[.slice none 0 0, .slice none 0 0, .slice none 0 0, .slice none 0 0] 69 (0, 0))) := by rw [hW3]; exact heap_alloc_new _ _
        have hsz3 : Hid (W3.heap.size = W2.heap.size + 1) := by rw [hW3]; simp [Hid]
        clear hW3
        refine hK.out _ _ (fun _ => HSw.out _ K3.out) (fun hHeld => ?_)
        have hHeld := hHeld (by decide)
        clear hK K
        try simp only [Act.put, List.getElem_toArray, List.getElem_cons_succ, List.getElem_cons_zero, List.setIfInBounds_toArray, List.set_cons_zero, List.set_cons_succ]
        refine wpAnyM_one (i := 4) (by kernel_rfl) rfl (fun K hK => ?_)
        go_simp
        obtain ⟨W4, hW4⟩ : ∃ q, q = W3.alloc (.cells (madeCells #[.int .i64 0] O.length) 2) := ⟨_, rfl⟩
        rw [← hW4]
        have hb : Below W3.heap.size W3 W4 := by rw [hW4]; exact below1 _ _
        have K4 := Lib.hid (K3.out.trans (hb.mono K3.out.size))
        have HMR : Hid (W4.rowIs W3.heap.size 2 O.length (fun _ => .int .i64 0)) := by rw [hW4]; exact (World.rowIs_made _ _ _ _).congr (fun i _ => by simp)
        have hsz4 : Hid (W4.heap.size = W3.heap.size + 1) := by rw [hW4]; simp [Hid]
        clear hW4
        have HNA := Lib.hid ((hb.block _ (Array.getElem?_eq_some_iff.1 HNA.out).1).trans HNA.out)
        refine hK.out _ _ (fun _ => HSw.out _ K4.out) (fun hHeld => ?_)
        have hHeld := hHeld (by decide)
        clear hK K
        try simp only [Act.put, List.getElem_toArray, List.getElem_cons_succ, List.getElem_cons_zero, List.setIfInBounds_toArray, List.set_cons_zero, List.set_cons_succ]
        refine wpAnyM_take (i := 5) (v := ?vm17) rfl (by kernel_rfl) (by decide) (by kernel_rfl) (by kernel_rfl) (by kernel_rfl) (fun _ _ _ h => h) (Or.inl ⟨by rfl, ?hm17⟩) (by assumption) ?_
        case hm17 => (intro w hSw; (try dsimp only at hSw); go_simp; first | done | with_reducible rfl)
        try simp only [Act.put, List.getElem_toArray, List.getElem_cons_succ, List.getElem_cons_zero, List.setIfInBounds_toArray, List.set_cons_zero, List.set_cons_succ]
        refine wpAnyM_one (i := 7) (by kernel_rfl) rfl (fun K hK => ?_)
        rw [if_pos (by kernel_rfl)]
        refine wp_store_row 69 _ _ rfl (W2.heap.size) #[.slice ao O.length co, .slice an zss.length cn, .slice ap P.length cp, .slice (some ⟨W3.heap.size, 0, none⟩) O.length O.length] rfl rfl 69 #[.slice none 0 0, .slice none 0 0, .slice none 0 0, .slice none 0 0] HNA.out (by kernel_rfl) rfl (by simp [Value.oneCell']) ?_
        have hss := K4.out.size
        have hq1 := hsz3.out
        have hq2 := hsz4.out
        have hq3 := K2.out.size
        have ho := only_row8 (S := fun x => x = W2.heap.size) (Only.refl _ _) rfl #[.slice ao O.length co, .slice an zss.length cn, .slice ap P.length cp, .slice (some ⟨W3.heap.size, 0, none⟩) O.length O.length] (w := W4)
        have hbo := K4.out.trans (ho.below (B := w1.heap.size) K4.out.size (fun x hx => by rw [hx]; omega))
        refine hK.out _ _ (fun _ => HSw.out _ hbo) (fun hHeld => ?_)
        clear hK K
        try simp only [Act.put, List.getElem_toArray, List.getElem_cons_succ, List.getElem_cons_zero, List.setIfInBounds_toArray, List.set_cons_zero, List.set_cons_succ]
        refine wpAnyM_done (by kernel_rfl) ?_ _
        refine ⟨W2.heap.size, W3.heap.size, _, _, _, _, _, _, ⟨⟨by omega, by omega, by omega⟩, hbo, ?_, ?_⟩, rfl⟩
        · exact lf_of (l := [.slice ao O.length co, .slice an zss.length cn, .slice ap P.length cp, .slice (some ⟨W3.heap.size, 0, none⟩) O.length O.length]) (setRow_heap _ _ _ _ _ _ HNA.out)
        · exact World.rowIs.of_block HMR.out (ho.block _ HMR.out.lt (by omega))
    · skip
      go_simp
      obtain ⟨W2, hW2⟩ : ∃ q, q = wd.alloc (.cells #[.slice none 0 0, .slice none 0 0, .slice none 0 0, .slice none 0 0] 69) := ⟨_, rfl⟩
      rw [← hW2]
      have hb : Below wd.heap.size wd W2 := by rw [hW2]; exact below1 _ _
      have K2 := Lib.hid (K0.out.trans (hb.mono K0.out.size))
      have HNA : Hid (W2.heap[wd.heap.size]? = some (.cells #[.slice none 0 0, .slice none 0 0, .slice none 0 0, .slice none 0 0] 69 (0, 0))) := by rw [hW2]; exact heap_alloc_new _ _
      have hsz2 : Hid (W2.heap.size = wd.heap.size + 1) := by rw [hW2]; simp [Hid]
      clear hW2
      refine hK.out _ _ (fun _ => HSw.out _ K2.out) (fun hHeld => ?_)
      have hHeld := hHeld (by decide)
      clear hK K
      try simp only [Act.put, List.getElem_toArray, List.getElem_cons_succ, List.getElem_cons_zero, List.setIfInBounds_toArray, List.set_cons_zero, List.set_cons_succ]
      refine wpAnyM_one (i := 3) (by kernel_rfl) rfl (fun K hK => ?_)
      go_simp
      go_at_call 61
      refine (HSZ.out _).mono ?_
      rintro e W3 ⟨rfl, hq⟩
      have hb : Below W2.heap.size W2 W3 := by rw [← hq]; exact below1 _ _
      have K3 := Lib.hid (K2.out.trans (hb.mono K2.out.size))
      clear hq
      go_wp2_with fail
      have HNA := Lib.hid ((hb.block _ (Array.getElem?_eq_some_iff.1 HNA.out).1).trans HNA.out)
      have hq5 := Lib.hid hb.size
      refine hK.out _ _ (fun _ => HSw.out _ K3.out) (fun hHeld => ?_)
      have hHeld := hHeld (by decide)
      clear hK K
      try simp only [Act.put, List.getElem_toArray, List.getElem_cons_succ, List.getElem_cons_zero, List.setIfInBounds_toArray, List.set_cons_zero, List.set_cons_succ]
      refine wpAnyM_one (i := 4) (by kernel_rfl) rfl (fun K hK => ?_)
      go_simp
      obtain ⟨W4, hW4⟩ : ∃ q, q = W3.alloc (.cells (madeCells #[.int .i64 0] O.length) 2) := ⟨_, rfl⟩
      rw [← hW4]
      have hb : Below W3.heap.size W3 W4 := by rw [hW4]; exact below1 _ _
      have K4 := Lib.hid (K3.out.trans (hb.mono K3.out.size))
      have HMR : Hid (W4.rowIs W3.heap.size 2 O.length (fun _ => .int .i64 0)) := by rw [hW4]; exact (World.rowIs_made _ _ _ _).congr (fun i _ => by simp)
      have hsz4 : Hid (W4.heap.size = W3.heap.size + 1) := by rw [hW4]; simp [Hid]
      clear hW4
      have HNA := Lib.hid ((hb.block _ (Array.getElem?_eq_some_iff.1 HNA.out).1).trans HNA.out)
      refine hK.out _ _ (fun _ => HSw.out _ K4.out) (fun hHeld => ?_)
      have hHeld := hHeld (by decide)
      clear hK K
      try simp only [Act.put, List.getElem_toArray, List.getElem_cons_succ, List.getElem_cons_zero, List.setIfInBounds_toArray, List.set_cons_zero, List.set_cons_succ]
      refine wpAnyM_take (i := 5) (v := ?vm18) rfl (by kernel_rfl) (by decide) (by kernel_rfl) (by kernel_rfl) (by kernel_rfl) (fun _ _ _ h => h) (Or.inl ⟨by rfl, ?hm18⟩) (by assumption) ?_
      case hm18 => (intro w hSw; (try dsimp only at hSw); go_simp; first | done | with_reducible rfl)
      try simp only [Act.put, List.getElem_toArray, List.getElem_cons_succ, List.getElem_cons_zero, List.setIfInBounds_toArray, List.set_cons_zero, List.set_cons_succ]
      refine wpAnyM_one (i := 7) (by kernel_rfl) rfl (fun K hK => ?_)
      rw [if_pos (by kernel_rfl)]
      refine wp_store_row 69 _ _ rfl (wd.heap.size) #[.slice ao O.length co, .slice an zss.length cn, .slice ap P.length cp, .slice (some ⟨W3.heap.size, 0, none⟩) O.length O.length] rfl rfl 69 #[.slice none 0 0, .slice none 0 0, .slice none 0 0, .slice none 0 0] HNA.out (by kernel_rfl) rfl (by simp [Value.oneCell']) ?_
      have hss := K4.out.size
      have hq1 := hsz2.out
      have hq2 := hsz4.out
      have hq3 := K0.out.size
      have hq4 := hq5.out
      have ho := only_row8 (S := fun x => x = wd.heap.size) (Only.refl _ _) rfl #[.slice ao O.length co, .slice an zss.length cn, .slice ap P.length cp, .slice (some ⟨W3.heap.size, 0, none⟩) O.length O.length] (w := W4)
      have hbo := K4.out.trans (ho.below (B := w1.heap.size) K4.out.size (fun x hx => by rw [hx]; omega))
      refine hK.out _ _ (fun _ => HSw.out _ hbo) (fun hHeld => ?_)
      clear hK K
      try simp only [Act.put, List.getElem_toArray, List.getElem_cons_succ, List.getElem_cons_zero, List.setIfInBounds_toArray, List.set_cons_zero, List.set_cons_succ]
      refine wpAnyM_done (by kernel_rfl) ?_ _
      refine ⟨wd.heap.size, W3.heap.size, _, _, _, _, _, _, ⟨⟨by omega, by omega, by omega⟩, hbo, ?_, ?_⟩, rfl⟩
      · exact lf_of (l := [.slice ao O.length co, .slice an zss.length cn, .slice ap P.length cp, .slice (some ⟨W3.heap.size, 0, none⟩) O.length O.length]) (setRow_heap _ _ _ _ _ _ HNA.out)
      · exact World.rowIs.of_block HMR.out (ho.block _ HMR.out.lt (by omega))
  case rest1 =>
    rintro a' wx ⟨b, gs, u6, u7, u8, u9, u10, u11, ⟨Hbg, Bx, HA, HG⟩, rfl⟩
    obtain ⟨hb1, hg1, hbg⟩ := Hbg.out
    have HNE : Hid (b ≠ gs ∧ w1.heap.size ≤ b ∧ w1.heap.size ≤ gs) := ⟨hbg, hb1, hg1⟩
    have HT := Lib.hid (T1.out.below Bx.out)
    have HBw := Lib.hid (B1.out.trans (Bx.out.mono B1.out.size))
    have hlt : w.heap.size < wx.heap.size := World.rowIs.lt HT.out
    have HgB : Hid (gs < wx.heap.size) := HG.out.lt
    have HbB : Hid (b < wx.heap.size) := HA.out.lt
    have t0 := HT.out.c0
    have t1 := HT.out.c1
    have t2 := HT.out.c2
    clear hb1 hg1 hbg Hbg hmk hlt T1
    have hn12 : O.length ≤ 12 := by have := HLO.out; omega
    have hn0 : 0 < O.length := by have := HLO.out; omega
    have Kd : Hid (Below wx.heap.size wx wx.drew) := (Below.refl _ _).drew
    have HSw : Hid (∀ W', Below wx.heap.size wx W' → (fun W' => W'.cell? ⟨w.heap.size, 0, none⟩ = some (.slice ao O.length co) ∧ W'.cell? ⟨w.heap.size, 1, none⟩ = some (.slice an zss.length cn) ∧ W'.cell? ⟨w.heap.size, 2, none⟩ = some (.slice ap P.length cp)) W') := fun W' hb => ⟨Below.cell_some (B := 0) hb rfl t0, Below.cell_some (B := 0) hb rfl t1, Below.cell_some (B := 0) hb rfl t2⟩
    clear t0 t1 t2
    go_upto_region 2 with fail
    refine wp_region_M (S := (fun W' => W'.cell? ⟨w.heap.size, 0, none⟩ = some (.slice ao O.length co) ∧ W'.cell? ⟨w.heap.size, 1, none⟩ = some (.slice an zss.length cn) ∧ W'.cell? ⟨w.heap.size, 2, none⟩ = some (.slice ap P.length cp))) (m := 10) (by kernel_rfl) (HSw.out _ Kd.out) (fun hHeld => ?_)
    obtain ⟨wd, hwd⟩ : ∃ q, q = wx.drew := ⟨_, rfl⟩
    have K0 : Hid (Below wx.heap.size wx wd) := by rw [hwd]; exact Kd.out
    rw [← hwd] at hHeld ⊢
    clear hwd Kd
    refine wpAnyM_take (i := 0) (v := ?vm19) rfl (by kernel_rfl) (by decide) (by kernel_rfl) (by kernel_rfl) (by kernel_rfl) (fun _ _ _ h => h) (Or.inl ⟨by rfl, ?hm19⟩) (by assumption) ?_
    case hm19 => (intro w hSw; (try dsimp only at hSw); go_simp; first | done | with_reducible rfl)
    try simp only [Act.put, List.getElem_toArray, List.getElem_cons_succ, List.getElem_cons_zero, List.setIfInBounds_toArray, List.set_cons_zero, List.set_cons_succ]
    refine wpAnyM_take (i := 1) (v := ?vm20) rfl (by kernel_rfl) (by decide) (by kernel_rfl) (by kernel_rfl) (by kernel_rfl) (fun _ _ _ h => h) (Or.inl ⟨by rfl, ?hm20⟩) (by assumption) ?_
    case hm20 => (intro w hSw; (try dsimp only at hSw); go_simp; first | done | with_reducible rfl)
    try simp only [Act.put, List.getElem_toArray, List.getElem_cons_succ, List.getElem_cons_zero, List.setIfInBounds_toArray, List.set_cons_zero, List.set_cons_succ]
    refine wpAnyM_take (i := 5) (v := ?vm21) rfl (by kernel_rfl) (by decide) (by kernel_rfl) (by kernel_rfl) (by kernel_rfl) (fun _ _ _ h => h) (Or.inl ⟨by rfl, ?hm21⟩) (by assumption) ?_
    case hm21 => (intro w hSw; (try dsimp only at hSw); go_simp; first | done | with_reducible rfl)
    try simp only [Act.put, List.getElem_toArray, List.getElem_cons_succ, List.getElem_cons_zero, List.setIfInBounds_toArray, List.set_cons_zero, List.set_cons_succ]
    refine wpAnyM_take (i := 6) (v := ?vm22) rfl (by kernel_rfl) (by decide) (by kernel_rfl) (by kernel_rfl) (by kernel_rfl) (fun _ _ _ h => h) (Or.inl ⟨by rfl, ?hm22⟩) (by assumption) ?_
    case hm22 => (intro w hSw; (try dsimp only at hSw); go_simp; first | done | with_reducible rfl)
    try simp only [Act.put, List.getElem_toArray, List.getElem_cons_succ, List.getElem_cons_zero, List.setIfInBounds_toArray, List.set_cons_zero, List.set_cons_succ]
    refine wpAnyM_take (i := 9) (v := ?vm23) rfl (by kernel_rfl) (by decide) (by kernel_rfl) (by kernel_rfl) (by kernel_rfl) (fun _ _ _ h => h) (Or.inl ⟨by rfl, ?hm23⟩) (by assumption) ?_
    case hm23 => (intro w hSw; (try dsimp only at hSw); go_simp; first | done | with_reducible rfl)
    try simp only [Act.put, List.getElem_toArray, List.getElem_cons_succ, List.getElem_cons_zero, List.setIfInBounds_toArray, List.set_cons_zero, List.set_cons_succ]
    refine wpAnyM_one (i := 2) (by kernel_rfl) rfl (fun K hK => ?_)
    go_simp
    go_at_call 61
    refine (HSZ.out _).mono ?_
    rintro e W2 ⟨rfl, hq⟩
    have hb : Below wd.heap.size wd W2 := by rw [← hq]; exact below1 _ _
    have K2 := Lib.hid (K0.out.trans (hb.mono K0.out.size))
    clear hq hb
    go_wp2_with fail
    refine hK.out _ _ (fun _ => HSw.out _ K2.out) (fun hHeld => ?_)
    have hHeld := hHeld (by decide)
    clear hK K
    try simp only [Act.put, List.getElem_toArray, List.getElem_cons_succ, List.getElem_cons_zero, List.setIfInBounds_toArray, List.set_cons_zero, List.set_cons_succ]
    refine wpAnyM_one (i := 3) (by kernel_rfl) rfl (fun K hK => ?_)
    go_simp
    go_at_call 72
    refine (upTo_is O.length (by omega) _).mono ?_
    rintro e W3 ⟨rfl, hI, hb⟩
    have K3 := Lib.hid (K2.out.trans (hb.mono K2.out.size))
    have HIU := Lib.hid hI
    have hsz3 := Lib.hid hb.size
    clear hI hb
    go_wp2_with fail
    refine hK.out _ _ (fun _ => HSw.out _ K3.out) (fun hHeld => ?_)
    have hHeld := hHeld (by decide)
    clear hK K
    try simp only [Act.put, List.getElem_toArray, List.getElem_cons_succ, List.getElem_cons_zero, List.setIfInBounds_toArray, List.set_cons_zero, List.set_cons_succ]
    refine wpAnyM_one (i := 4) (by kernel_rfl) rfl (fun K hK => ?_)
    go_simp
    go_at_call 71
    refine (Values_is _ _ _ _).mono ?_
    rintro e W4 ⟨rfl, hq⟩
    have hb : Below W3.heap.size W3 W4 := by rw [hq]; exact below1 _ _
    have HC4 : Hid (W4.cell? ⟨W3.heap.size, 0, none⟩ = some (.slice (some ⟨W2.heap.size, 0, none⟩) O.length O.length)) := by rw [hq, Hid, World.cell?, heap_alloc_new]; rfl
    have HS4 : Hid (W3.heap.size < W4.heap.size) := by rw [hq]; simp [Hid]
    have HIU4 := Lib.hid (HIU.out.below hb)
    have K4 := Lib.hid (K3.out.trans (hb.mono K3.out.size))
    clear hq hb HIU
    go_wp2_with fail
    refine hK.out _ _ (fun _ => HSw.out _ K4.out) (fun hHeld => ?_)
    have hHeld := hHeld (by decide)
    clear hK K
    try simp only [Act.put, List.getElem_toArray, List.getElem_cons_succ, List.getElem_cons_zero, List.setIfInBounds_toArray, List.set_cons_zero, List.set_cons_succ]
    refine wpAnyM_one (i := 7) (by kernel_rfl) rfl (fun K hK => ?_)
    go_simp
    go_at_call 70
    refine (sortedFunc_is hn0 HLO.out.symm hn12 (HBw.out.trans (K4.out.mono HBw.out.size)) HS4.out HC4.out HIU4.out HGm.out).mono ?_
    rintro e W5 ⟨g, cap, F, rfl, hI, hU, hb⟩
    have HI := Lib.hid hI
    have HU := Lib.hid hU
    have K5 := Lib.hid (K4.out.trans (hb.mono K4.out.size))
    clear hI hU hb HC4 HS4 HIU4
    go_wp2_with fail
    refine hK.out _ _ (fun _ => HSw.out _ K5.out) (fun hHeld => ?_)
    have hHeld := hHeld (by decide)
    clear hK K
    try simp only [Act.put, List.getElem_toArray, List.getElem_cons_succ, List.getElem_cons_zero, List.setIfInBounds_toArray, List.set_cons_zero, List.set_cons_succ]
    refine wpAnyM_take (i := 8) (v := ?vm24) rfl (by kernel_rfl) (by decide) (by kernel_rfl) (by kernel_rfl) (by kernel_rfl) (fun _ _ _ h => h) (Or.inl ⟨by rfl, ?hm24⟩) (by assumption) ?_
    case hm24 => (intro w hSw; (try dsimp only at hSw); go_simp; first | done | with_reducible rfl)
    try simp only [Act.put, List.getElem_toArray, List.getElem_cons_succ, List.getElem_cons_zero, List.setIfInBounds_toArray, List.set_cons_zero, List.set_cons_succ]
    refine wpAnyM_done (by kernel_rfl) ?_ _
    have hgW := HI.out.own.lt.1
    have HNG : Hid (g ≠ gs ∧ g ≠ b) := by have := K2.out.size; have := K3.out.size; have := K4.out.size; have := HgB.out; have := HbB.out; exact ⟨by omega, by omega⟩
    clear hgW
    have HG5 := Lib.hid (rowIs_below HG.out K5.out)
    have HA5 := Lib.hid (rowIs_below HA.out K5.out)
    have HP5 := Lib.hid (HP.out.below (HBw.out.trans (K5.out.mono HBw.out.size)))
    have HT5 := Lib.hid (HT.out.below K5.out)
    have HRR5 := Lib.hid (rowIs_below (rowIs_below R1.out Bx.out) K5.out)
    have HBw5 := Lib.hid (HBw.out.trans (K5.out.mono HBw.out.size))
    have HNW : Hid (w.heap.size ≠ gs) := by have := HNE.out.2.2; have := hs1.out; rw [Hid]; omega
    have HNW2 : Hid (w.heap.size + 1 ≠ gs) := by have := HNE.out.2.2; have := hs1.out; rw [Hid]; omega
    go_wp2
    go_loopw [21] (fun iv wr => ∃ k : Nat, k ≤ O.length ∧ iv = .int .i64 k ∧ Hid (wr.rowIs gs 2 O.length (fun i => .int .i64 (if rankL P i < k then gainI P i else 0))) ∧ Hid (Only (fun x => x = gs) W5 wr)) (fun iv _ => O.length - (intOf iv).toNat)
    case atStart => exact ⟨0, Nat.zero_le _, rfl, World.rowIs.congr HG5.out (fun i _ => by rw [if_neg (Nat.not_lt_zero _)]), Only.refl _ _⟩
    case round =>
      clear HG5
      obtain ⟨k, hk, rfl, HR, HO⟩ := hrel
      by_cases hlt : k < O.length
      · have hi1 : (k : Int) < O.length := by omega
        have hk0 : (0 : Int) ≤ (k : Int) := by omega
        have hFk := HI.out.sort.rng k hlt
        have c1 : wr.cell? ⟨g, k, none⟩ = some (.int .i64 (F k)) := (HI.out.own.only HO.out (fun e => HNG.out.1 e)).cell hlt
        obtain ⟨x, hx⟩ : ∃ x, x = F k := ⟨_, rfl⟩
        have HX := Lib.hid hx
        rw [← hx] at c1 hFk
        have hx0 : (0 : Int) ≤ (x : Int) := by omega
        have hx1 : (x : Int) < O.length := by omega
        have a3 : wr.cell? ⟨b, 3, none⟩ = some (.slice (some ⟨gs, 0, none⟩) O.length O.length) := (World.rowIs.of_block HA5.out (HO.out.block _ HA5.out.lt (fun e => HNE.out.1 e))).cell (i := 3) (by omega)
        have gx := HR.out.cell (i := x) (by omega)
        have fx := HR.out.frozen x
        obtain ⟨z, hz⟩ : ∃ z, z = (2 : Int) ^ k := ⟨_, rfl⟩
        have hz1 : 0 < z ∧ z < 4096 := by
          rw [hz]
          have h1 := pow_pos2 k
          have h2 := pow_lt2 (show k < 12 by omega)
          have h3 : (2 : Int) ^ 12 = 4096 := by decide
          omega
        have hwz : IntKind.i64.wrap (2 ^ k) = z := by rw [← hz, IntKind.wrap_i64]; omega
        have hnz : IntKind.i64.wrap (-z) = -z := by rw [IntKind.wrap_i64]; omega
        have HZ := Lib.hid hz
        have HR6 : Hid ((wr.setCell ⟨gs, x, none⟩ (.int .i64 z)).drew.rowIs gs 2 O.length (fun i => if i = x then .int .i64 z else .int .i64 (if rankL P i < k then gainI P i else 0))) := rowIs_below (HR.out.set x (.int .i64 z)) (Below.refl _ _).drew
        have HO6 : Hid (Only (fun x => x = gs) W5 (wr.setCell ⟨gs, x, none⟩ (.int .i64 z)).drew) := (HO.out.setCell (p := ⟨gs, x, none⟩) rfl _).trans (Only.of_below (Below.refl _ _).drew)
        clear hz hx
        go_wp2
        go_region_law (fail)
        all_goals (
          obtain ⟨W6, hW6⟩ : ∃ q, q = (wr.setCell ⟨gs, x, none⟩ (.int .i64 z)).drew := ⟨_, rfl⟩
          rw [← hW6] at HR6 HO6 ⊢
          clear hW6 gx fx a3 c1
          have a3 : W6.cell? ⟨b, 3, none⟩ = some (.slice (some ⟨gs, 0, none⟩) O.length O.length) := (World.rowIs.of_block HA5.out (HO6.out.block _ HA5.out.lt (fun e => HNE.out.1 e))).cell (i := 3) (by omega)
          have t2 : W6.cell? ⟨w.heap.size, 2, none⟩ = some (.slice ap P.length cp) := Box3.c2 (World.rowIs.of_block HT5.out (HO6.out.block _ HT5.out.lt (fun e => HNW.out e)))
          have hBp : Below w.heap.size w W6 := HBw5.out.trans (HO6.out.below (B := w.heap.size) HBw5.out.size (fun y hy => by have := HNE.out.2.2; have := B1.out.size; omega))
          obtain ⟨pb, po, hpa, hpc⟩ := (HP.out.below hBp).cell (by omega)
          have hxP : x < P.length := by have := HLO.out; omega
          have p1 := hpc x hxP
          have hx2 : (x : Int) < P.length := by omega
          subst hpa
          have hpr := HPr.out _ (nth_mem hxP)
          have HGX : Hid (gainI P x = if nth P x % 2 = 1 then -z else z) := by
            unfold gainI
            rw [HX.out, sorted_rank (P := P) (F := F) (by rw [HLO.out]; exact HI.out.sort) (by rw [HLO.out]; exact HU.out) k (by rw [HLO.out]; exact hlt), HZ.out]
            exact rfl
          have HST : Hid (∀ i, i < P.length → (if i = x then gainI P x else if rankL P i < k then gainI P i else 0) = if rankL P i < k + 1 then gainI P i else 0) := fun i hi => gain_step (by rw [HLO.out]; exact HI.out.sort) (by rw [HLO.out]; exact HU.out) (by rw [HLO.out]; exact hlt) HX.out hi
          obtain ⟨p, hp⟩ : ∃ p, p = nth P x := ⟨_, rfl⟩
          rw [← hp] at p1 hpr HGX
          have hp0 := hpr.1
          have hpm : p.tmod 2 = p % 2 := Int.tmod_eq_emod_of_nonneg hp0
          clear hpc hBp hp hpr
          by_cases hod : p % 2 = 1
          · have HG7 : Hid (gainI P x = -z) := by rw [HGX.out, if_pos hod]; exact rfl
            have gx : W6.cell? ⟨gs, x, none⟩ = some (.int .i64 z) := by have h := HR6.out.cell (i := x) (by omega); rw [if_pos rfl] at h; exact h
            have fx := HR6.out.frozen x
            have HR7 : Hid ((W6.setCell ⟨gs, x, none⟩ (.int .i64 (-z))).drew.rowIs gs 2 O.length (fun i => .int .i64 (if rankL P i < k + 1 then gainI P i else 0))) := by
              refine World.rowIs.congr (rowIs_below (HR6.out.set x (.int .i64 (-z))) (Below.refl _ _).drew) fun i hi => ?_
              rw [← HST.out i (by rw [HLO.out]; exact hi), HG7.out]
              by_cases e : i = x
              · rw [if_pos e, if_pos e]
              · rw [if_neg e, if_neg e, if_neg e]
            have HO7 : Hid (Only (fun x => x = gs) W5 (W6.setCell ⟨gs, x, none⟩ (.int .i64 (-z))).drew) := (HO6.out.setCell (p := ⟨gs, x, none⟩) rfl _).trans (Only.of_below (Below.refl _ _).drew)
            go_wp2
            go_region_law (fail)
            all_goals (
              go_wp2
              go_roundw
              case rel => exact ⟨k + 1, by omega, by go_num, HR7.out, HO7.out⟩
              case measure => simp [intOf]; omega)
          · have HG7 : Hid (gainI P x = z) := by rw [HGX.out, if_neg hod]; exact rfl
            have HR7 : Hid (W6.rowIs gs 2 O.length (fun i => .int .i64 (if rankL P i < k + 1 then gainI P i else 0))) := by
              refine World.rowIs.congr HR6.out fun i hi => ?_
              rw [← HST.out i (by rw [HLO.out]; exact hi), HG7.out]
              by_cases e : i = x
              · rw [if_pos e, if_pos e]
              · rw [if_neg e, if_neg e]
            go_wp2
            go_roundw
            case rel => exact ⟨k + 1, by omega, by go_num, HR7.out, HO6.out⟩
            case measure => simp [intOf]; omega)
      · have hi1 : ¬ (k : Int) < O.length := by omega
        have HGI : Hid (IntsAt wr (some ⟨gs, 0, none⟩) (gainL P)) := by
          refine ⟨by rw [gainL_len]; omega, fun i hi => ?_, fun _ => ⟨gs, 0, rfl, fun i hi => ?_⟩⟩
          · rw [gainL_len] at hi
            rw [gainL_nth hi]
            have := gain_small h12 hi
            unfold Fits
            omega
          · rw [gainL_len] at hi
            have h := HR.out.cell (i := i) (by rw [← HLO.out]; exact hi)
            have hr := rank_in hi
            rw [if_pos (by have := HLO.out; omega)] at h
            rw [Nat.zero_add, gainL_nth hi]
            exact h
        have HgW : Hid (gs < wr.heap.size) := HR.out.lt
        have HRA := Lib.hid (World.rowIs.of_block HA5.out (HO.out.block _ HA5.out.lt (fun e => HNE.out.1 e)))
        have HRR := Lib.hid (World.rowIs.of_block HRR5.out (HO.out.block _ HRR5.out.lt (fun e => HNW2.out e)))
        have HBr : Hid (Below w.heap.size w wr) := HBw5.out.trans (HO.out.below (B := w.heap.size) HBw5.out.size (fun y hy => by have := HNE.out.2.2; have := B1.out.size; omega))
        have HC5 : Hid (wr.heap[b]? = some (.cells #[.slice ao O.length co, .slice an zss.length cn, .slice ap P.length cp, .slice (some ⟨gs, 0, none⟩) O.length O.length] 69 (0, 0))) := lf_cells (l := [.slice ao O.length co, .slice an zss.length cn, .slice ap P.length cp, .slice (some ⟨gs, 0, none⟩) O.length O.length]) HRA.out
        have HC4 : Hid (wr.heap[w.heap.size + 1]? = some (.cells #[.slice none 0 0, .slice none 0 0, .slice none 0 0, .slice none 0 0] 69 (0, 0))) := lf_cells (l := [.slice none 0 0, .slice none 0 0, .slice none 0 0, .slice none 0 0]) HRR.out
        go_upto_region 9 with fail
        refine wp_region_lit ?_
        refine wpList_load_row rfl 69 _ rfl b rfl 69 #[.slice ao O.length co, .slice an zss.length cn, .slice ap P.length cp, .slice (some ⟨gs, 0, none⟩) O.length O.length] (0, 0) _ HC5.out Try.underlying69 rfl (by kernel_rfl) ?_
        simp only [Act.put, List.setIfInBounds_toArray, List.set_cons_zero, List.set_cons_succ]
        refine wpList_store_row rfl 69 _ _ rfl (w.heap.size + 1) #[.slice ao O.length co, .slice an zss.length cn, .slice ap P.length cp, .slice (some ⟨gs, 0, none⟩) O.length O.length] rfl rfl 69 #[.slice none 0 0, .slice none 0 0, .slice none 0 0, .slice none 0 0] HC4.out (by kernel_rfl) rfl (by simp [Value.oneCell']) ?_
        simp only [Act.put, List.setIfInBounds_toArray, List.set_cons_zero, List.set_cons_succ]
        go_wp2_with fail
        have ho := only_row8 (S := fun x => x = w.heap.size + 1) (Only.refl _ wr) rfl #[.slice ao O.length co, .slice an zss.length cn, .slice ap P.length cp, .slice (some ⟨gs, 0, none⟩) O.length O.length]
        have hfin : Below w.heap.size w (wr.setRow (w.heap.size + 1) #[.slice ao O.length co, .slice an zss.length cn, .slice ap P.length cp, .slice (some ⟨gs, 0, none⟩) O.length O.length]) := HBr.out.trans (ho.below (B := w.heap.size) HBr.out.size (fun x hx => by rw [hx]; omega))
        refine bodyPost_ret (v := .agg #[.slice ao O.length co, .slice an zss.length cn, .slice ap P.length cp, .slice (some ⟨gs, 0, none⟩) O.length O.length]) (results_cell_row rfl _ _ (w.heap.size + 1) _ _ _ _ rfl (setRow_heap _ _ _ _ _ _ HC4.out) Try.underlying69 rfl (by kernel_rfl)) rfl ⟨_, rfl, ⟨ao, an, ap, some ⟨gs, 0, none⟩, co, cn, cp, O.length, by rw [HLO.out], ?_⟩, hfin⟩
        exact ⟨HGI.out.len, HGI.out.fits, fun h0 => by
          obtain ⟨c, off, e, hc⟩ := HGI.out.cell h0
          refine ⟨c, off, e, fun i hi => ?_⟩
          simp only [Option.some.injEq, Addr.mk.injEq] at e
          obtain ⟨rfl, rfl, -⟩ := e
          rw [World.cell?_of_block (ho.block _ HgW.out (fun e => HNW2.out e.symm))]
          exact hc i hi⟩
end
end Go.Proofs.Ytihaajcmephlmaa
