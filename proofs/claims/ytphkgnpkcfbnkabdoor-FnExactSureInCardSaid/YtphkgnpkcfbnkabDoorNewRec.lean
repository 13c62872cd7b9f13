/-
  Contract: newRecursion.
-/
import Derived.Test.YtphkgnpkcfbnkabDoorNewMath
namespace Go.Proofs.YtphkgnpkcfbnkabDoor
section
open Go.RowKit Go.Shelf
attribute [local go_sem] Oper.semAt_some

set_option linter.unusedSimpArgs false in
set_option maxRecDepth 100000 in
set_option maxHeartbeats 16000000 in
theorem newRecursion_is {w : World} {v : Value} {O P : List Int} {zss : List (List Int)} (Q : (Nat → Bool) → Value → Prop) (hT : TabW w) (h : GameAt w v O zss P) (hp : parityB O zss P = true) :
    Calls Tryd.prog 63 #[v] w fun e w' => ∃ b nb pb kb, e = .returned (.pointer (some ⟨b, 0, none⟩)) ∧ RecAt w' b O.length nb pb kb (ownK O O.length) (ownK P O.length) (succK zss O.length) (predK zss O.length) ∧ FreeAt w' nb ∧ FreeAt w' pb ∧ MemoAt w' kb Q ∧ (w.heap.size ≤ b ∧ w.heap.size ≤ nb ∧ w.heap.size ≤ pb ∧ w.heap.size ≤ kb) ∧ Below w.heap.size w w' := by
  obtain ⟨hA, hPl, hPr⟩ := parityB_iff.1 hp
  have hzl := hA.2.2.1
  obtain ⟨ao, an, ap, co, cn, cp, A, C, rfl, h1, h2, h3⟩ := h
  have HI1 := Lib.hid h1
  have HI2 := Lib.hid h2
  have HI3 := Lib.hid h3
  have HR := Lib.hid (rowsP_of hA)
  obtain ⟨n, hn⟩ : ∃ n, n = O.length := ⟨_, rfl⟩
  have hn1 : 0 < n := by have := hA.1; omega
  have hn2 : n ≤ 256 := by have := hA.2.1; omega
  have hn6 : n ≤ 17592186044416 := by omega
  have HV : Hid (∀ k, k < n → VertexP O zss k) := fun k hk => hA.2.2.2 k (by omega)
  have HPr : Hid (∀ k, k < n → 0 ≤ nth P k ∧ nth P k ≤ 40) := fun k hk => hPr _ (nth_mem (by omega))
  rw [← hn] at hPl hzl
  have HL : Hid (O.length = n ∧ zss.length = n ∧ P.length = n) := ⟨hn.symm, hzl, hPl⟩
  rw [← hn, hzl, hPl]
  have HT := Lib.hid hT
  clear hA hPr h1 h2 h3 hn hzl hPl hp hT
  go_enter Tryd.func63, Tryd.ntmps63
  go_wp2_with fail
  obtain ⟨w1, hw1⟩ : ∃ y, y = w.alloc (.cells #[.slice ao n co, .slice an n cn, .slice ap n cp] 32) := ⟨_, rfl⟩
  rw [← hw1]
  have HB1 : Hid (Below w.heap.size w w1) := by rw [hw1]; exact below1 _ _
  have HF1 : Hid (Flat3 w1 w.heap.size 32 (.slice ao n co) (.slice an n cn) (.slice ap n cp)) := by rw [hw1]; exact Flat3.new _ _ _ _ _
  have hs1 : w1.heap.size = w.heap.size + 1 := by rw [hw1]; simp
  clear hw1
  have HSw : Hid (∀ W', Below w1.heap.size w1 W' → W'.cell? ⟨w.heap.size, 0, none⟩ = some (.slice ao n co) ∧ W'.cell? ⟨w.heap.size, 1, none⟩ = some (.slice an n cn)) := fun W' hb => ⟨(HF1.out.below hb).c0, (HF1.out.below hb).c1⟩
  have Kd : Hid (Below w1.heap.size w1 w1.drew) := (Below.refl _ _).drew
  refine wp_cut (fun a' wx => ∃ (b nb pb kb : Nat) (u7 u8 u9 u10 u11 u12 u13 u14 u15 u16 u17 : Value), ((w1.heap.size ≤ b ∧ w1.heap.size ≤ nb ∧ w1.heap.size ≤ pb ∧ w1.heap.size ≤ kb) ∧ (b ≠ nb ∧ b ≠ pb ∧ b ≠ kb ∧ nb ≠ pb ∧ nb ≠ kb ∧ pb ≠ kb) ∧ Hid (Below w1.heap.size w1 wx) ∧ Hid (wx.heap[b]? = some (.cells (recA nb pb n kb) 130)) ∧ Hid (wx.heap[nb]? = some (madeM n)) ∧ Hid (wx.heap[pb]? = some (madeM n)) ∧ Hid (wx.heap[kb]? = some (.map #[] 0))) ∧ a' = { tmps := #[.agg #[.slice ao n co, .slice an n cn, .slice ap n cp], .pointer (some ⟨w.heap.size, 0, none⟩), .pointer none, .pointer (some ⟨b, 0, none⟩), undef, undef, undef, u7, u8, u9, u10, u11, u12, u13, u14, u15, u16, u17, undef, undef, undef, undef, undef, undef, undef, undef, undef, undef, undef, undef, undef, undef, undef, undef, undef, undef, undef, undef, undef, undef, undef, undef, undef, undef, undef, undef, undef, undef, undef, undef, undef, undef, undef, undef, undef, undef, undef, undef, undef, undef, undef, undef, undef, undef, undef, undef, undef, undef, undef, undef, undef, undef, undef, undef, undef, undef, undef], defers := [] }) ?reg1 ?rest1
  case reg1 =>
    have hmk := fun W => run_make_masks W n hn2
    have hmm := run_make_map
    refine wp_region_M (S := (fun W' => W'.cell? ⟨w.heap.size, 0, none⟩ = some (.slice ao n co) ∧ W'.cell? ⟨w.heap.size, 1, none⟩ = some (.slice an n cn))) (m := 11) (by kernel_rfl) (HSw.out _ Kd.out) (fun hHeld => ?_)
    refine wpAnyM_take (i := 0) (v := ?vm1) rfl (by kernel_rfl) (by decide) (by kernel_rfl) (by kernel_rfl) (by kernel_rfl) (fun _ _ _ h => h) (Or.inl ⟨by rfl, ?hm1⟩) (by assumption) ?_
    case hm1 => (intro w hSw; (try dsimp only at hSw); go_simp; first | done | with_reducible rfl)
    try simp only [Act.put, List.setIfInBounds_toArray, List.set_cons_zero, List.set_cons_succ]
    refine wpAnyM_take (i := 1) (v := ?vm2) rfl (by kernel_rfl) (by decide) (by kernel_rfl) (by kernel_rfl) (by kernel_rfl) (fun _ _ _ h => h) (Or.inl ⟨by rfl, ?hm2⟩) (by assumption) ?_
    case hm2 => (intro w hSw; (try dsimp only at hSw); go_simp; first | done | with_reducible rfl)
    try simp only [Act.put, List.setIfInBounds_toArray, List.set_cons_zero, List.set_cons_succ]
    refine wpAnyM_take (i := 4) (v := ?vm3) rfl (by kernel_rfl) (by decide) (by kernel_rfl) (by kernel_rfl) (by kernel_rfl) (fun _ _ _ h => h) (Or.inl ⟨by rfl, ?hm3⟩) (by assumption) ?_
    case hm3 => (intro w hSw; (try dsimp only at hSw); go_simp; first | done | with_reducible rfl)
    try simp only [Act.put, List.setIfInBounds_toArray, List.set_cons_zero, List.set_cons_succ]
    refine wpAnyM_take (i := 5) (v := ?vm4) rfl (by kernel_rfl) (by decide) (by kernel_rfl) (by kernel_rfl) (by kernel_rfl) (fun _ _ _ h => h) (Or.inl ⟨by rfl, ?hm4⟩) (by assumption) ?_
    case hm4 => (intro w hSw; (try dsimp only at hSw); go_simp; first | done | with_reducible rfl)
    try simp only [Act.put, List.setIfInBounds_toArray, List.set_cons_zero, List.set_cons_succ]
    have sd : w1.drew.heap.size = w1.heap.size := rfl
    refine wpAnyM_two (i := 2) (j := 8) (by kernel_rfl) rfl rfl (fun K hK => ?_) (fun K hK => ?_)
    · skip
      go_simp
      go_at_call 64
      refine (size_is ao an n n co cn w1.drew hn6).mono ?_
      rintro e W1 ⟨rfl, hW1⟩
      have hb1 : Below (w1.drew).heap.size (w1.drew) W1 := by rw [← hW1]; exact below1 _ _
      have s1 : Hid (W1.heap.size = (w1.drew).heap.size + 1) := by rw [← hW1]; simp [Hid]
      clear hW1
      have Kx1 : Hid (Below w1.heap.size w1 W1) := Lib.hid (Kd.out.trans (hb1.mono Kd.out.size))
      clear hb1
      go_wp2_with fail
      refine hK.out _ _ (fun _ => HSw.out _ Kx1.out) (fun hHeld => ?_)
      have hHeld := hHeld (by decide)
      clear hK K
      try simp only [Act.put, List.setIfInBounds_toArray, List.set_cons_zero, List.set_cons_succ]
      refine wpAnyM_three (i := 3) (j := 6) (l := 8) (by kernel_rfl) rfl rfl rfl (fun K hK => ?_) (fun K hK => ?_) (fun K hK => ?_)
      · skip
        go_simp
        obtain ⟨W2, hW2⟩ : ∃ y, y = (W1).alloc (madeM n) := ⟨_, rfl⟩
        try dsimp only [madeM] at hW2
        rw [← hW2]
        have hb2 : Below (W1).heap.size (W1) W2 := by rw [hW2]; exact below1 _ _
        have s2 : Hid (W2.heap.size = (W1).heap.size + 1) := by rw [hW2]; simp [Hid]
        have g2 : Hid (W2.heap[(W1).heap.size]? = some (madeM n)) := by rw [hW2]; exact heap_alloc_new _ _
        clear hW2
        have Kx2 : Hid (Below w1.heap.size w1 W2) := Lib.hid (Kx1.out.trans (hb2.mono Kx1.out.size))
        clear hb2
        refine hK.out _ _ (fun _ => HSw.out _ Kx2.out) (fun hHeld => ?_)
        have hHeld := hHeld (by decide)
        clear hK K
        try simp only [Act.put, List.setIfInBounds_toArray, List.set_cons_zero, List.set_cons_succ]
        refine wpAnyM_two (i := 6) (j := 8) (by kernel_rfl) rfl rfl (fun K hK => ?_) (fun K hK => ?_)
        · skip
          go_simp
          go_at_call 64
          refine (size_is ao an n n co cn W2 hn6).mono ?_
          rintro e W3 ⟨rfl, hW3⟩
          have hb3 : Below (W2).heap.size (W2) W3 := by rw [← hW3]; exact below1 _ _
          have s3 : Hid (W3.heap.size = (W2).heap.size + 1) := by rw [← hW3]; simp [Hid]
          clear hW3
          have Kx3 : Hid (Below w1.heap.size w1 W3) := Lib.hid (Kx2.out.trans (hb3.mono Kx2.out.size))
          have g3x3 : Hid (W3.heap[(W1).heap.size]? = some (madeM n)) := Lib.hid ((hb3.block _ (Array.getElem?_eq_some_iff.1 g2.out).1).trans g2.out)
          clear hb3
          go_wp2_with fail
          refine hK.out _ _ (fun _ => HSw.out _ Kx3.out) (fun hHeld => ?_)
          have hHeld := hHeld (by decide)
          clear hK K
          try simp only [Act.put, List.setIfInBounds_toArray, List.set_cons_zero, List.set_cons_succ]
          refine wpAnyM_two (i := 7) (j := 8) (by kernel_rfl) rfl rfl (fun K hK => ?_) (fun K hK => ?_)
          · skip
            go_simp
            obtain ⟨W4, hW4⟩ : ∃ y, y = (W3).alloc (madeM n) := ⟨_, rfl⟩
            try dsimp only [madeM] at hW4
            rw [← hW4]
            have hb4 : Below (W3).heap.size (W3) W4 := by rw [hW4]; exact below1 _ _
            have s4 : Hid (W4.heap.size = (W3).heap.size + 1) := by rw [hW4]; simp [Hid]
            have g4 : Hid (W4.heap[(W3).heap.size]? = some (madeM n)) := by rw [hW4]; exact heap_alloc_new _ _
            clear hW4
            have Kx4 : Hid (Below w1.heap.size w1 W4) := Lib.hid (Kx3.out.trans (hb4.mono Kx3.out.size))
            have g4x3 : Hid (W4.heap[(W1).heap.size]? = some (madeM n)) := Lib.hid ((hb4.block _ (Array.getElem?_eq_some_iff.1 g3x3.out).1).trans g3x3.out)
            clear hb4
            refine hK.out _ _ (fun _ => HSw.out _ Kx4.out) (fun hHeld => ?_)
            have hHeld := hHeld (by decide)
            clear hK K
            try simp only [Act.put, List.setIfInBounds_toArray, List.set_cons_zero, List.set_cons_succ]
            refine wpAnyM_one (i := 8) (by kernel_rfl) rfl (fun K hK => ?_)
            go_simp
            obtain ⟨W5, hW5⟩ : ∃ y, y = (W4).alloc (.map #[] 0) := ⟨_, rfl⟩
            try dsimp only [madeM] at hW5
            rw [← hW5]
            have hb5 : Below (W4).heap.size (W4) W5 := by rw [hW5]; exact below1 _ _
            have s5 : Hid (W5.heap.size = (W4).heap.size + 1) := by rw [hW5]; simp [Hid]
            have g5 : Hid (W5.heap[(W4).heap.size]? = some (.map #[] 0)) := by rw [hW5]; exact heap_alloc_new _ _
            clear hW5
            have Kx5 : Hid (Below w1.heap.size w1 W5) := Lib.hid (Kx4.out.trans (hb5.mono Kx4.out.size))
            have g5x3 : Hid (W5.heap[(W1).heap.size]? = some (madeM n)) := Lib.hid ((hb5.block _ (Array.getElem?_eq_some_iff.1 g4x3.out).1).trans g4x3.out)
            have g5x7 : Hid (W5.heap[(W3).heap.size]? = some (madeM n)) := Lib.hid ((hb5.block _ (Array.getElem?_eq_some_iff.1 g4.out).1).trans g4.out)
            clear hb5
            refine hK.out _ _ (fun _ => HSw.out _ Kx5.out) (fun hHeld => ?_)
            have hHeld := hHeld (by decide)
            clear hK K
            try simp only [Act.put, List.setIfInBounds_toArray, List.set_cons_zero, List.set_cons_succ]
            refine wpAnyM_take (i := 9) (v := ?vm5) rfl (by kernel_rfl) (by decide) (by kernel_rfl) (by kernel_rfl) (by kernel_rfl) (fun _ _ _ h => h) (Or.inl ⟨by rfl, ?hm5⟩) (by assumption) ?_
            case hm5 => (intro w hSw; (try dsimp only at hSw); go_simp; first | done | with_reducible rfl)
            try simp only [Act.put, List.setIfInBounds_toArray, List.set_cons_zero, List.set_cons_succ]
            refine wpAnyM_one (i := 10) (by kernel_rfl) rfl (fun K hK => ?_)
            go_simp
            obtain ⟨wy, hwy⟩ : ∃ y, y = (W5).alloc (.cells (recB (W1).heap.size (W3).heap.size n (W4).heap.size) 130) := ⟨_, rfl⟩
            rw [← hwy]
            have hby : Below (W5).heap.size (W5) wy := by rw [hwy]; exact below1 _ _
            have gy : Hid (wy.heap[(W5).heap.size]? = some (.cells (recA (W1).heap.size (W3).heap.size n (W4).heap.size) 130)) := by rw [hwy, ← recB_eq]; exact heap_alloc_new _ _
            clear hwy
            have Ky : Hid (Below w1.heap.size w1 wy) := Lib.hid (Kx5.out.trans (hby.mono Kx5.out.size))
            have gy3 : Hid (wy.heap[(W1).heap.size]? = some (madeM n)) := Lib.hid ((hby.block _ (Array.getElem?_eq_some_iff.1 g5x3.out).1).trans g5x3.out)
            have gy7 : Hid (wy.heap[(W3).heap.size]? = some (madeM n)) := Lib.hid ((hby.block _ (Array.getElem?_eq_some_iff.1 g5x7.out).1).trans g5x7.out)
            have gy8 : Hid (wy.heap[(W4).heap.size]? = some (.map #[] 0)) := Lib.hid ((hby.block _ (Array.getElem?_eq_some_iff.1 g5.out).1).trans g5.out)
            refine hK.out _ _ (fun _ => HSw.out _ Ky.out) (fun hHeld => ?_)
            have hHeld := hHeld (by decide)
            clear hK K
            try simp only [Act.put, List.setIfInBounds_toArray, List.set_cons_zero, List.set_cons_succ]
            refine wpAnyM_one (i := 11) (by kernel_rfl) rfl (fun K hK => ?_)
            go_simp
            refine hK.out _ _ (fun h => absurd h (by decide)) (fun _ => ?_)
            clear hK K
            try simp only [Act.put, List.setIfInBounds_toArray, List.set_cons_zero, List.set_cons_succ]
            refine wpAnyM_done (by kernel_rfl) ?_ _
            have ks := Kx5.out.size
            have e1 := s1.out
            have e2 := s2.out
            have e3 := s3.out
            have e4 := s4.out
            have e5 := s5.out
            have l3 := (Array.getElem?_eq_some_iff.1 g5x3.out).1
            have l7 := (Array.getElem?_eq_some_iff.1 g5x7.out).1
            have l8 := (Array.getElem?_eq_some_iff.1 g5.out).1
            exact ⟨(W5).heap.size, (W1).heap.size, (W3).heap.size, (W4).heap.size, _, _, _, _, _, _, _, _, _, _, _, ⟨⟨by omega, by omega, by omega, by omega⟩, ⟨by omega, by omega, by omega, by omega, by omega, by omega⟩, Ky, gy, gy3, gy7, gy8⟩, rfl⟩
          · skip
            go_simp
            obtain ⟨W7, hW7⟩ : ∃ y, y = (W3).alloc (.map #[] 0) := ⟨_, rfl⟩
            try dsimp only [madeM] at hW7
            rw [← hW7]
            have hb7 : Below (W3).heap.size (W3) W7 := by rw [hW7]; exact below1 _ _
            have s7 : Hid (W7.heap.size = (W3).heap.size + 1) := by rw [hW7]; simp [Hid]
            have g7 : Hid (W7.heap[(W3).heap.size]? = some (.map #[] 0)) := by rw [hW7]; exact heap_alloc_new _ _
            clear hW7
            have Kx7 : Hid (Below w1.heap.size w1 W7) := Lib.hid (Kx3.out.trans (hb7.mono Kx3.out.size))
            have g7x3 : Hid (W7.heap[(W1).heap.size]? = some (madeM n)) := Lib.hid ((hb7.block _ (Array.getElem?_eq_some_iff.1 g3x3.out).1).trans g3x3.out)
            clear hb7
            refine hK.out _ _ (fun _ => HSw.out _ Kx7.out) (fun hHeld => ?_)
            have hHeld := hHeld (by decide)
            clear hK K
            try simp only [Act.put, List.setIfInBounds_toArray, List.set_cons_zero, List.set_cons_succ]
            refine wpAnyM_one (i := 7) (by kernel_rfl) rfl (fun K hK => ?_)
            go_simp
            obtain ⟨W8, hW8⟩ : ∃ y, y = (W7).alloc (madeM n) := ⟨_, rfl⟩
            try dsimp only [madeM] at hW8
            rw [← hW8]
            have hb8 : Below (W7).heap.size (W7) W8 := by rw [hW8]; exact below1 _ _
            have s8 : Hid (W8.heap.size = (W7).heap.size + 1) := by rw [hW8]; simp [Hid]
            have g8 : Hid (W8.heap[(W7).heap.size]? = some (madeM n)) := by rw [hW8]; exact heap_alloc_new _ _
            clear hW8
            have Kx8 : Hid (Below w1.heap.size w1 W8) := Lib.hid (Kx7.out.trans (hb8.mono Kx7.out.size))
            have g8x3 : Hid (W8.heap[(W1).heap.size]? = some (madeM n)) := Lib.hid ((hb8.block _ (Array.getElem?_eq_some_iff.1 g7x3.out).1).trans g7x3.out)
            have g8x8 : Hid (W8.heap[(W3).heap.size]? = some (.map #[] 0)) := Lib.hid ((hb8.block _ (Array.getElem?_eq_some_iff.1 g7.out).1).trans g7.out)
            clear hb8
            refine hK.out _ _ (fun _ => HSw.out _ Kx8.out) (fun hHeld => ?_)
            have hHeld := hHeld (by decide)
            clear hK K
            try simp only [Act.put, List.setIfInBounds_toArray, List.set_cons_zero, List.set_cons_succ]
            refine wpAnyM_take (i := 9) (v := ?vm6) rfl (by kernel_rfl) (by decide) (by kernel_rfl) (by kernel_rfl) (by kernel_rfl) (fun _ _ _ h => h) (Or.inl ⟨by rfl, ?hm6⟩) (by assumption) ?_
            case hm6 => (intro w hSw; (try dsimp only at hSw); go_simp; first | done | with_reducible rfl)
            try simp only [Act.put, List.setIfInBounds_toArray, List.set_cons_zero, List.set_cons_succ]
            refine wpAnyM_one (i := 10) (by kernel_rfl) rfl (fun K hK => ?_)
            go_simp
            obtain ⟨wy, hwy⟩ : ∃ y, y = (W8).alloc (.cells (recB (W1).heap.size (W7).heap.size n (W3).heap.size) 130) := ⟨_, rfl⟩
            rw [← hwy]
            have hby : Below (W8).heap.size (W8) wy := by rw [hwy]; exact below1 _ _
            have gy : Hid (wy.heap[(W8).heap.size]? = some (.cells (recA (W1).heap.size (W7).heap.size n (W3).heap.size) 130)) := by rw [hwy, ← recB_eq]; exact heap_alloc_new _ _
            clear hwy
            have Ky : Hid (Below w1.heap.size w1 wy) := Lib.hid (Kx8.out.trans (hby.mono Kx8.out.size))
            have gy3 : Hid (wy.heap[(W1).heap.size]? = some (madeM n)) := Lib.hid ((hby.block _ (Array.getElem?_eq_some_iff.1 g8x3.out).1).trans g8x3.out)
            have gy8 : Hid (wy.heap[(W3).heap.size]? = some (.map #[] 0)) := Lib.hid ((hby.block _ (Array.getElem?_eq_some_iff.1 g8x8.out).1).trans g8x8.out)
            have gy7 : Hid (wy.heap[(W7).heap.size]? = some (madeM n)) := Lib.hid ((hby.block _ (Array.getElem?_eq_some_iff.1 g8.out).1).trans g8.out)
            refine hK.out _ _ (fun _ => HSw.out _ Ky.out) (fun hHeld => ?_)
            have hHeld := hHeld (by decide)
            clear hK K
            try simp only [Act.put, List.setIfInBounds_toArray, List.set_cons_zero, List.set_cons_succ]
            refine wpAnyM_one (i := 11) (by kernel_rfl) rfl (fun K hK => ?_)
            go_simp
            refine hK.out _ _ (fun h => absurd h (by decide)) (fun _ => ?_)
            clear hK K
            try simp only [Act.put, List.setIfInBounds_toArray, List.set_cons_zero, List.set_cons_succ]
            refine wpAnyM_done (by kernel_rfl) ?_ _
            have ks := Kx8.out.size
            have e1 := s1.out
            have e2 := s2.out
            have e3 := s3.out
            have e7 := s7.out
            have e8 := s8.out
            have l3 := (Array.getElem?_eq_some_iff.1 g8x3.out).1
            have l8 := (Array.getElem?_eq_some_iff.1 g8x8.out).1
            have l7 := (Array.getElem?_eq_some_iff.1 g8.out).1
            exact ⟨(W8).heap.size, (W1).heap.size, (W7).heap.size, (W3).heap.size, _, _, _, _, _, _, _, _, _, _, _, ⟨⟨by omega, by omega, by omega, by omega⟩, ⟨by omega, by omega, by omega, by omega, by omega, by omega⟩, Ky, gy, gy3, gy7, gy8⟩, rfl⟩
        · skip
          go_simp
          obtain ⟨W10, hW10⟩ : ∃ y, y = (W2).alloc (.map #[] 0) := ⟨_, rfl⟩
          try dsimp only [madeM] at hW10
          rw [← hW10]
          have hb10 : Below (W2).heap.size (W2) W10 := by rw [hW10]; exact below1 _ _
          have s10 : Hid (W10.heap.size = (W2).heap.size + 1) := by rw [hW10]; simp [Hid]
          have g10 : Hid (W10.heap[(W2).heap.size]? = some (.map #[] 0)) := by rw [hW10]; exact heap_alloc_new _ _
          clear hW10
          have Kx10 : Hid (Below w1.heap.size w1 W10) := Lib.hid (Kx2.out.trans (hb10.mono Kx2.out.size))
          have g10x3 : Hid (W10.heap[(W1).heap.size]? = some (madeM n)) := Lib.hid ((hb10.block _ (Array.getElem?_eq_some_iff.1 g2.out).1).trans g2.out)
          clear hb10
          refine hK.out _ _ (fun _ => HSw.out _ Kx10.out) (fun hHeld => ?_)
          have hHeld := hHeld (by decide)
          clear hK K
          try simp only [Act.put, List.setIfInBounds_toArray, List.set_cons_zero, List.set_cons_succ]
          refine wpAnyM_one (i := 6) (by kernel_rfl) rfl (fun K hK => ?_)
          go_simp
          go_at_call 64
          refine (size_is ao an n n co cn W10 hn6).mono ?_
          rintro e W11 ⟨rfl, hW11⟩
          have hb11 : Below (W10).heap.size (W10) W11 := by rw [← hW11]; exact below1 _ _
          have s11 : Hid (W11.heap.size = (W10).heap.size + 1) := by rw [← hW11]; simp [Hid]
          clear hW11
          have Kx11 : Hid (Below w1.heap.size w1 W11) := Lib.hid (Kx10.out.trans (hb11.mono Kx10.out.size))
          have g11x3 : Hid (W11.heap[(W1).heap.size]? = some (madeM n)) := Lib.hid ((hb11.block _ (Array.getElem?_eq_some_iff.1 g10x3.out).1).trans g10x3.out)
          have g11x8 : Hid (W11.heap[(W2).heap.size]? = some (.map #[] 0)) := Lib.hid ((hb11.block _ (Array.getElem?_eq_some_iff.1 g10.out).1).trans g10.out)
          clear hb11
          go_wp2_with fail
          refine hK.out _ _ (fun _ => HSw.out _ Kx11.out) (fun hHeld => ?_)
          have hHeld := hHeld (by decide)
          clear hK K
          try simp only [Act.put, List.setIfInBounds_toArray, List.set_cons_zero, List.set_cons_succ]
          refine wpAnyM_one (i := 7) (by kernel_rfl) rfl (fun K hK => ?_)
          go_simp
          obtain ⟨W12, hW12⟩ : ∃ y, y = (W11).alloc (madeM n) := ⟨_, rfl⟩
          try dsimp only [madeM] at hW12
          rw [← hW12]
          have hb12 : Below (W11).heap.size (W11) W12 := by rw [hW12]; exact below1 _ _
          have s12 : Hid (W12.heap.size = (W11).heap.size + 1) := by rw [hW12]; simp [Hid]
          have g12 : Hid (W12.heap[(W11).heap.size]? = some (madeM n)) := by rw [hW12]; exact heap_alloc_new _ _
          clear hW12
          have Kx12 : Hid (Below w1.heap.size w1 W12) := Lib.hid (Kx11.out.trans (hb12.mono Kx11.out.size))
          have g12x3 : Hid (W12.heap[(W1).heap.size]? = some (madeM n)) := Lib.hid ((hb12.block _ (Array.getElem?_eq_some_iff.1 g11x3.out).1).trans g11x3.out)
          have g12x8 : Hid (W12.heap[(W2).heap.size]? = some (.map #[] 0)) := Lib.hid ((hb12.block _ (Array.getElem?_eq_some_iff.1 g11x8.out).1).trans g11x8.out)
          clear hb12
          refine hK.out _ _ (fun _ => HSw.out _ Kx12.out) (fun hHeld => ?_)
          have hHeld := hHeld (by decide)
          clear hK K
          try simp only [Act.put, List.setIfInBounds_toArray, List.set_cons_zero, List.set_cons_succ]
          refine wpAnyM_take (i := 9) (v := ?vm7) rfl (by kernel_rfl) (by decide) (by kernel_rfl) (by kernel_rfl) (by kernel_rfl) (fun _ _ _ h => h) (Or.inl ⟨by rfl, ?hm7⟩) (by assumption) ?_
          case hm7 => (intro w hSw; (try dsimp only at hSw); go_simp; first | done | with_reducible rfl)
          try simp only [Act.put, List.setIfInBounds_toArray, List.set_cons_zero, List.set_cons_succ]
          refine wpAnyM_one (i := 10) (by kernel_rfl) rfl (fun K hK => ?_)
          go_simp
          obtain ⟨wy, hwy⟩ : ∃ y, y = (W12).alloc (.cells (recB (W1).heap.size (W11).heap.size n (W2).heap.size) 130) := ⟨_, rfl⟩
          rw [← hwy]
          have hby : Below (W12).heap.size (W12) wy := by rw [hwy]; exact below1 _ _
          have gy : Hid (wy.heap[(W12).heap.size]? = some (.cells (recA (W1).heap.size (W11).heap.size n (W2).heap.size) 130)) := by rw [hwy, ← recB_eq]; exact heap_alloc_new _ _
          clear hwy
          have Ky : Hid (Below w1.heap.size w1 wy) := Lib.hid (Kx12.out.trans (hby.mono Kx12.out.size))
          have gy3 : Hid (wy.heap[(W1).heap.size]? = some (madeM n)) := Lib.hid ((hby.block _ (Array.getElem?_eq_some_iff.1 g12x3.out).1).trans g12x3.out)
          have gy8 : Hid (wy.heap[(W2).heap.size]? = some (.map #[] 0)) := Lib.hid ((hby.block _ (Array.getElem?_eq_some_iff.1 g12x8.out).1).trans g12x8.out)
          have gy7 : Hid (wy.heap[(W11).heap.size]? = some (madeM n)) := Lib.hid ((hby.block _ (Array.getElem?_eq_some_iff.1 g12.out).1).trans g12.out)
          refine hK.out _ _ (fun _ => HSw.out _ Ky.out) (fun hHeld => ?_)
          have hHeld := hHeld (by decide)
          clear hK K
          try simp only [Act.put, List.setIfInBounds_toArray, List.set_cons_zero, List.set_cons_succ]
          refine wpAnyM_one (i := 11) (by kernel_rfl) rfl (fun K hK => ?_)
          go_simp
          refine hK.out _ _ (fun h => absurd h (by decide)) (fun _ => ?_)
          clear hK K
          try simp only [Act.put, List.setIfInBounds_toArray, List.set_cons_zero, List.set_cons_succ]
          refine wpAnyM_done (by kernel_rfl) ?_ _
          have ks := Kx12.out.size
          have e1 := s1.out
          have e2 := s2.out
          have e10 := s10.out
          have e11 := s11.out
          have e12 := s12.out
          have l3 := (Array.getElem?_eq_some_iff.1 g12x3.out).1
          have l8 := (Array.getElem?_eq_some_iff.1 g12x8.out).1
          have l7 := (Array.getElem?_eq_some_iff.1 g12.out).1
          exact ⟨(W12).heap.size, (W1).heap.size, (W11).heap.size, (W2).heap.size, _, _, _, _, _, _, _, _, _, _, _, ⟨⟨by omega, by omega, by omega, by omega⟩, ⟨by omega, by omega, by omega, by omega, by omega, by omega⟩, Ky, gy, gy3, gy7, gy8⟩, rfl⟩
      · skip
        go_simp
        go_at_call 64
        refine (size_is ao an n n co cn W1 hn6).mono ?_
        rintro e W14 ⟨rfl, hW14⟩
        have hb14 : Below (W1).heap.size (W1) W14 := by rw [← hW14]; exact below1 _ _
        have s14 : Hid (W14.heap.size = (W1).heap.size + 1) := by rw [← hW14]; simp [Hid]
        clear hW14
        have Kx14 : Hid (Below w1.heap.size w1 W14) := Lib.hid (Kx1.out.trans (hb14.mono Kx1.out.size))
        clear hb14
        go_wp2_with fail
        refine hK.out _ _ (fun _ => HSw.out _ Kx14.out) (fun hHeld => ?_)
        have hHeld := hHeld (by decide)
        clear hK K
        try simp only [Act.put, List.setIfInBounds_toArray, List.set_cons_zero, List.set_cons_succ]
        refine wpAnyM_three (i := 3) (j := 7) (l := 8) (by kernel_rfl) rfl rfl rfl (fun K hK => ?_) (fun K hK => ?_) (fun K hK => ?_)
        · skip
          go_simp
          obtain ⟨W15, hW15⟩ : ∃ y, y = (W14).alloc (madeM n) := ⟨_, rfl⟩
          try dsimp only [madeM] at hW15
          rw [← hW15]
          have hb15 : Below (W14).heap.size (W14) W15 := by rw [hW15]; exact below1 _ _
          have s15 : Hid (W15.heap.size = (W14).heap.size + 1) := by rw [hW15]; simp [Hid]
          have g15 : Hid (W15.heap[(W14).heap.size]? = some (madeM n)) := by rw [hW15]; exact heap_alloc_new _ _
          clear hW15
          have Kx15 : Hid (Below w1.heap.size w1 W15) := Lib.hid (Kx14.out.trans (hb15.mono Kx14.out.size))
          clear hb15
          refine hK.out _ _ (fun _ => HSw.out _ Kx15.out) (fun hHeld => ?_)
          have hHeld := hHeld (by decide)
          clear hK K
          try simp only [Act.put, List.setIfInBounds_toArray, List.set_cons_zero, List.set_cons_succ]
          refine wpAnyM_two (i := 7) (j := 8) (by kernel_rfl) rfl rfl (fun K hK => ?_) (fun K hK => ?_)
          · skip
            go_simp
            obtain ⟨W16, hW16⟩ : ∃ y, y = (W15).alloc (madeM n) := ⟨_, rfl⟩
            try dsimp only [madeM] at hW16
            rw [← hW16]
            have hb16 : Below (W15).heap.size (W15) W16 := by rw [hW16]; exact below1 _ _
            have s16 : Hid (W16.heap.size = (W15).heap.size + 1) := by rw [hW16]; simp [Hid]
            have g16 : Hid (W16.heap[(W15).heap.size]? = some (madeM n)) := by rw [hW16]; exact heap_alloc_new _ _
            clear hW16
            have Kx16 : Hid (Below w1.heap.size w1 W16) := Lib.hid (Kx15.out.trans (hb16.mono Kx15.out.size))
            have g16x3 : Hid (W16.heap[(W14).heap.size]? = some (madeM n)) := Lib.hid ((hb16.block _ (Array.getElem?_eq_some_iff.1 g15.out).1).trans g15.out)
            clear hb16
            refine hK.out _ _ (fun _ => HSw.out _ Kx16.out) (fun hHeld => ?_)
            have hHeld := hHeld (by decide)
            clear hK K
            try simp only [Act.put, List.setIfInBounds_toArray, List.set_cons_zero, List.set_cons_succ]
            refine wpAnyM_one (i := 8) (by kernel_rfl) rfl (fun K hK => ?_)
            go_simp
            obtain ⟨W17, hW17⟩ : ∃ y, y = (W16).alloc (.map #[] 0) := ⟨_, rfl⟩
            try dsimp only [madeM] at hW17
            rw [← hW17]
            have hb17 : Below (W16).heap.size (W16) W17 := by rw [hW17]; exact below1 _ _
            have s17 : Hid (W17.heap.size = (W16).heap.size + 1) := by rw [hW17]; simp [Hid]
            have g17 : Hid (W17.heap[(W16).heap.size]? = some (.map #[] 0)) := by rw [hW17]; exact heap_alloc_new _ _
            clear hW17
            have Kx17 : Hid (Below w1.heap.size w1 W17) := Lib.hid (Kx16.out.trans (hb17.mono Kx16.out.size))
            have g17x3 : Hid (W17.heap[(W14).heap.size]? = some (madeM n)) := Lib.hid ((hb17.block _ (Array.getElem?_eq_some_iff.1 g16x3.out).1).trans g16x3.out)
            have g17x7 : Hid (W17.heap[(W15).heap.size]? = some (madeM n)) := Lib.hid ((hb17.block _ (Array.getElem?_eq_some_iff.1 g16.out).1).trans g16.out)
            clear hb17
            refine hK.out _ _ (fun _ => HSw.out _ Kx17.out) (fun hHeld => ?_)
            have hHeld := hHeld (by decide)
            clear hK K
            try simp only [Act.put, List.setIfInBounds_toArray, List.set_cons_zero, List.set_cons_succ]
            refine wpAnyM_take (i := 9) (v := ?vm8) rfl (by kernel_rfl) (by decide) (by kernel_rfl) (by kernel_rfl) (by kernel_rfl) (fun _ _ _ h => h) (Or.inl ⟨by rfl, ?hm8⟩) (by assumption) ?_
            case hm8 => (intro w hSw; (try dsimp only at hSw); go_simp; first | done | with_reducible rfl)
            try simp only [Act.put, List.setIfInBounds_toArray, List.set_cons_zero, List.set_cons_succ]
            refine wpAnyM_one (i := 10) (by kernel_rfl) rfl (fun K hK => ?_)
            go_simp
            obtain ⟨wy, hwy⟩ : ∃ y, y = (W17).alloc (.cells (recB (W14).heap.size (W15).heap.size n (W16).heap.size) 130) := ⟨_, rfl⟩
            rw [← hwy]
            have hby : Below (W17).heap.size (W17) wy := by rw [hwy]; exact below1 _ _
            have gy : Hid (wy.heap[(W17).heap.size]? = some (.cells (recA (W14).heap.size (W15).heap.size n (W16).heap.size) 130)) := by rw [hwy, ← recB_eq]; exact heap_alloc_new _ _
            clear hwy
            have Ky : Hid (Below w1.heap.size w1 wy) := Lib.hid (Kx17.out.trans (hby.mono Kx17.out.size))
            have gy3 : Hid (wy.heap[(W14).heap.size]? = some (madeM n)) := Lib.hid ((hby.block _ (Array.getElem?_eq_some_iff.1 g17x3.out).1).trans g17x3.out)
            have gy7 : Hid (wy.heap[(W15).heap.size]? = some (madeM n)) := Lib.hid ((hby.block _ (Array.getElem?_eq_some_iff.1 g17x7.out).1).trans g17x7.out)
            have gy8 : Hid (wy.heap[(W16).heap.size]? = some (.map #[] 0)) := Lib.hid ((hby.block _ (Array.getElem?_eq_some_iff.1 g17.out).1).trans g17.out)
            refine hK.out _ _ (fun _ => HSw.out _ Ky.out) (fun hHeld => ?_)
            have hHeld := hHeld (by decide)
            clear hK K
            try simp only [Act.put, List.setIfInBounds_toArray, List.set_cons_zero, List.set_cons_succ]
            refine wpAnyM_one (i := 11) (by kernel_rfl) rfl (fun K hK => ?_)
            go_simp
            refine hK.out _ _ (fun h => absurd h (by decide)) (fun _ => ?_)
            clear hK K
            try simp only [Act.put, List.setIfInBounds_toArray, List.set_cons_zero, List.set_cons_succ]
            refine wpAnyM_done (by kernel_rfl) ?_ _
            have ks := Kx17.out.size
            have e1 := s1.out
            have e14 := s14.out
            have e15 := s15.out
            have e16 := s16.out
            have e17 := s17.out
            have l3 := (Array.getElem?_eq_some_iff.1 g17x3.out).1
            have l7 := (Array.getElem?_eq_some_iff.1 g17x7.out).1
            have l8 := (Array.getElem?_eq_some_iff.1 g17.out).1
            exact ⟨(W17).heap.size, (W14).heap.size, (W15).heap.size, (W16).heap.size, _, _, _, _, _, _, _, _, _, _, _, ⟨⟨by omega, by omega, by omega, by omega⟩, ⟨by omega, by omega, by omega, by omega, by omega, by omega⟩, Ky, gy, gy3, gy7, gy8⟩, rfl⟩
          · skip
            go_simp
            obtain ⟨W19, hW19⟩ : ∃ y, y = (W15).alloc (.map #[] 0) := ⟨_, rfl⟩
            try dsimp only [madeM] at hW19
            rw [← hW19]
            have hb19 : Below (W15).heap.size (W15) W19 := by rw [hW19]; exact below1 _ _
            have s19 : Hid (W19.heap.size = (W15).heap.size + 1) := by rw [hW19]; simp [Hid]
            have g19 : Hid (W19.heap[(W15).heap.size]? = some (.map #[] 0)) := by rw [hW19]; exact heap_alloc_new _ _
            clear hW19
            have Kx19 : Hid (Below w1.heap.size w1 W19) := Lib.hid (Kx15.out.trans (hb19.mono Kx15.out.size))
            have g19x3 : Hid (W19.heap[(W14).heap.size]? = some (madeM n)) := Lib.hid ((hb19.block _ (Array.getElem?_eq_some_iff.1 g15.out).1).trans g15.out)
            clear hb19
            refine hK.out _ _ (fun _ => HSw.out _ Kx19.out) (fun hHeld => ?_)
            have hHeld := hHeld (by decide)
            clear hK K
            try simp only [Act.put, List.setIfInBounds_toArray, List.set_cons_zero, List.set_cons_succ]
            refine wpAnyM_one (i := 7) (by kernel_rfl) rfl (fun K hK => ?_)
            go_simp
            obtain ⟨W20, hW20⟩ : ∃ y, y = (W19).alloc (madeM n) := ⟨_, rfl⟩
            try dsimp only [madeM] at hW20
            rw [← hW20]
            have hb20 : Below (W19).heap.size (W19) W20 := by rw [hW20]; exact below1 _ _
            have s20 : Hid (W20.heap.size = (W19).heap.size + 1) := by rw [hW20]; simp [Hid]
            have g20 : Hid (W20.heap[(W19).heap.size]? = some (madeM n)) := by rw [hW20]; exact heap_alloc_new _ _
            clear hW20
            have Kx20 : Hid (Below w1.heap.size w1 W20) := Lib.hid (Kx19.out.trans (hb20.mono Kx19.out.size))
            have g20x3 : Hid (W20.heap[(W14).heap.size]? = some (madeM n)) := Lib.hid ((hb20.block _ (Array.getElem?_eq_some_iff.1 g19x3.out).1).trans g19x3.out)
            have g20x8 : Hid (W20.heap[(W15).heap.size]? = some (.map #[] 0)) := Lib.hid ((hb20.block _ (Array.getElem?_eq_some_iff.1 g19.out).1).trans g19.out)
            clear hb20
            refine hK.out _ _ (fun _ => HSw.out _ Kx20.out) (fun hHeld => ?_)
            have hHeld := hHeld (by decide)
            clear hK K
            try simp only [Act.put, List.setIfInBounds_toArray, List.set_cons_zero, List.set_cons_succ]
            refine wpAnyM_take (i := 9) (v := ?vm9) rfl (by kernel_rfl) (by decide) (by kernel_rfl) (by kernel_rfl) (by kernel_rfl) (fun _ _ _ h => h) (Or.inl ⟨by rfl, ?hm9⟩) (by assumption) ?_
            case hm9 => (intro w hSw; (try dsimp only at hSw); go_simp; first | done | with_reducible rfl)
            try simp only [Act.put, List.setIfInBounds_toArray, List.set_cons_zero, List.set_cons_succ]
            refine wpAnyM_one (i := 10) (by kernel_rfl) rfl (fun K hK => ?_)
            go_simp
            obtain ⟨wy, hwy⟩ : ∃ y, y = (W20).alloc (.cells (recB (W14).heap.size (W19).heap.size n (W15).heap.size) 130) := ⟨_, rfl⟩
            rw [← hwy]
            have hby : Below (W20).heap.size (W20) wy := by rw [hwy]; exact below1 _ _
            have gy : Hid (wy.heap[(W20).heap.size]? = some (.cells (recA (W14).heap.size (W19).heap.size n (W15).heap.size) 130)) := by rw [hwy, ← recB_eq]; exact heap_alloc_new _ _
            clear hwy
            have Ky : Hid (Below w1.heap.size w1 wy) := Lib.hid (Kx20.out.trans (hby.mono Kx20.out.size))
            have gy3 : Hid (wy.heap[(W14).heap.size]? = some (madeM n)) := Lib.hid ((hby.block _ (Array.getElem?_eq_some_iff.1 g20x3.out).1).trans g20x3.out)
            have gy8 : Hid (wy.heap[(W15).heap.size]? = some (.map #[] 0)) := Lib.hid ((hby.block _ (Array.getElem?_eq_some_iff.1 g20x8.out).1).trans g20x8.out)
            have gy7 : Hid (wy.heap[(W19).heap.size]? = some (madeM n)) := Lib.hid ((hby.block _ (Array.getElem?_eq_some_iff.1 g20.out).1).trans g20.out)
            refine hK.out _ _ (fun _ => HSw.out _ Ky.out) (fun hHeld => ?_)
            have hHeld := hHeld (by decide)
            clear hK K
            try simp only [Act.put, List.setIfInBounds_toArray, List.set_cons_zero, List.set_cons_succ]
            refine wpAnyM_one (i := 11) (by kernel_rfl) rfl (fun K hK => ?_)
            go_simp
            refine hK.out _ _ (fun h => absurd h (by decide)) (fun _ => ?_)
            clear hK K
            try simp only [Act.put, List.setIfInBounds_toArray, List.set_cons_zero, List.set_cons_succ]
            refine wpAnyM_done (by kernel_rfl) ?_ _
            have ks := Kx20.out.size
            have e1 := s1.out
            have e14 := s14.out
            have e15 := s15.out
            have e19 := s19.out
            have e20 := s20.out
            have l3 := (Array.getElem?_eq_some_iff.1 g20x3.out).1
            have l8 := (Array.getElem?_eq_some_iff.1 g20x8.out).1
            have l7 := (Array.getElem?_eq_some_iff.1 g20.out).1
            exact ⟨(W20).heap.size, (W14).heap.size, (W19).heap.size, (W15).heap.size, _, _, _, _, _, _, _, _, _, _, _, ⟨⟨by omega, by omega, by omega, by omega⟩, ⟨by omega, by omega, by omega, by omega, by omega, by omega⟩, Ky, gy, gy3, gy7, gy8⟩, rfl⟩
        · skip
          go_simp
          obtain ⟨W22, hW22⟩ : ∃ y, y = (W14).alloc (madeM n) := ⟨_, rfl⟩
          try dsimp only [madeM] at hW22
          rw [← hW22]
          have hb22 : Below (W14).heap.size (W14) W22 := by rw [hW22]; exact below1 _ _
          have s22 : Hid (W22.heap.size = (W14).heap.size + 1) := by rw [hW22]; simp [Hid]
          have g22 : Hid (W22.heap[(W14).heap.size]? = some (madeM n)) := by rw [hW22]; exact heap_alloc_new _ _
          clear hW22
          have Kx22 : Hid (Below w1.heap.size w1 W22) := Lib.hid (Kx14.out.trans (hb22.mono Kx14.out.size))
          clear hb22
          refine hK.out _ _ (fun _ => HSw.out _ Kx22.out) (fun hHeld => ?_)
          have hHeld := hHeld (by decide)
          clear hK K
          try simp only [Act.put, List.setIfInBounds_toArray, List.set_cons_zero, List.set_cons_succ]
          refine wpAnyM_two (i := 3) (j := 8) (by kernel_rfl) rfl rfl (fun K hK => ?_) (fun K hK => ?_)
          · skip
            go_simp
            obtain ⟨W23, hW23⟩ : ∃ y, y = (W22).alloc (madeM n) := ⟨_, rfl⟩
            try dsimp only [madeM] at hW23
            rw [← hW23]
            have hb23 : Below (W22).heap.size (W22) W23 := by rw [hW23]; exact below1 _ _
            have s23 : Hid (W23.heap.size = (W22).heap.size + 1) := by rw [hW23]; simp [Hid]
            have g23 : Hid (W23.heap[(W22).heap.size]? = some (madeM n)) := by rw [hW23]; exact heap_alloc_new _ _
            clear hW23
            have Kx23 : Hid (Below w1.heap.size w1 W23) := Lib.hid (Kx22.out.trans (hb23.mono Kx22.out.size))
            have g23x7 : Hid (W23.heap[(W14).heap.size]? = some (madeM n)) := Lib.hid ((hb23.block _ (Array.getElem?_eq_some_iff.1 g22.out).1).trans g22.out)
            clear hb23
            refine hK.out _ _ (fun _ => HSw.out _ Kx23.out) (fun hHeld => ?_)
            have hHeld := hHeld (by decide)
            clear hK K
            try simp only [Act.put, List.setIfInBounds_toArray, List.set_cons_zero, List.set_cons_succ]
            refine wpAnyM_one (i := 8) (by kernel_rfl) rfl (fun K hK => ?_)
            go_simp
            obtain ⟨W24, hW24⟩ : ∃ y, y = (W23).alloc (.map #[] 0) := ⟨_, rfl⟩
            try dsimp only [madeM] at hW24
            rw [← hW24]
            have hb24 : Below (W23).heap.size (W23) W24 := by rw [hW24]; exact below1 _ _
            have s24 : Hid (W24.heap.size = (W23).heap.size + 1) := by rw [hW24]; simp [Hid]
            have g24 : Hid (W24.heap[(W23).heap.size]? = some (.map #[] 0)) := by rw [hW24]; exact heap_alloc_new _ _
            clear hW24
            have Kx24 : Hid (Below w1.heap.size w1 W24) := Lib.hid (Kx23.out.trans (hb24.mono Kx23.out.size))
            have g24x7 : Hid (W24.heap[(W14).heap.size]? = some (madeM n)) := Lib.hid ((hb24.block _ (Array.getElem?_eq_some_iff.1 g23x7.out).1).trans g23x7.out)
            have g24x3 : Hid (W24.heap[(W22).heap.size]? = some (madeM n)) := Lib.hid ((hb24.block _ (Array.getElem?_eq_some_iff.1 g23.out).1).trans g23.out)
            clear hb24
            refine hK.out _ _ (fun _ => HSw.out _ Kx24.out) (fun hHeld => ?_)
            have hHeld := hHeld (by decide)
            clear hK K
            try simp only [Act.put, List.setIfInBounds_toArray, List.set_cons_zero, List.set_cons_succ]
            refine wpAnyM_take (i := 9) (v := ?vm10) rfl (by kernel_rfl) (by decide) (by kernel_rfl) (by kernel_rfl) (by kernel_rfl) (fun _ _ _ h => h) (Or.inl ⟨by rfl, ?hm10⟩) (by assumption) ?_
            case hm10 => (intro w hSw; (try dsimp only at hSw); go_simp; first | done | with_reducible rfl)
            try simp only [Act.put, List.setIfInBounds_toArray, List.set_cons_zero, List.set_cons_succ]
            refine wpAnyM_one (i := 10) (by kernel_rfl) rfl (fun K hK => ?_)
            go_simp
            obtain ⟨wy, hwy⟩ : ∃ y, y = (W24).alloc (.cells (recB (W22).heap.size (W14).heap.size n (W23).heap.size) 130) := ⟨_, rfl⟩
            rw [← hwy]
            have hby : Below (W24).heap.size (W24) wy := by rw [hwy]; exact below1 _ _
            have gy : Hid (wy.heap[(W24).heap.size]? = some (.cells (recA (W22).heap.size (W14).heap.size n (W23).heap.size) 130)) := by rw [hwy, ← recB_eq]; exact heap_alloc_new _ _
            clear hwy
            have Ky : Hid (Below w1.heap.size w1 wy) := Lib.hid (Kx24.out.trans (hby.mono Kx24.out.size))
            have gy7 : Hid (wy.heap[(W14).heap.size]? = some (madeM n)) := Lib.hid ((hby.block _ (Array.getElem?_eq_some_iff.1 g24x7.out).1).trans g24x7.out)
            have gy3 : Hid (wy.heap[(W22).heap.size]? = some (madeM n)) := Lib.hid ((hby.block _ (Array.getElem?_eq_some_iff.1 g24x3.out).1).trans g24x3.out)
            have gy8 : Hid (wy.heap[(W23).heap.size]? = some (.map #[] 0)) := Lib.hid ((hby.block _ (Array.getElem?_eq_some_iff.1 g24.out).1).trans g24.out)
            refine hK.out _ _ (fun _ => HSw.out _ Ky.out) (fun hHeld => ?_)
            have hHeld := hHeld (by decide)
            clear hK K
            try simp only [Act.put, List.setIfInBounds_toArray, List.set_cons_zero, List.set_cons_succ]
            refine wpAnyM_one (i := 11) (by kernel_rfl) rfl (fun K hK => ?_)
            go_simp
            refine hK.out _ _ (fun h => absurd h (by decide)) (fun _ => ?_)
            clear hK K
            try simp only [Act.put, List.setIfInBounds_toArray, List.set_cons_zero, List.set_cons_succ]
            refine wpAnyM_done (by kernel_rfl) ?_ _
            have ks := Kx24.out.size
            have e1 := s1.out
            have e14 := s14.out
            have e22 := s22.out
            have e23 := s23.out
            have e24 := s24.out
            have l7 := (Array.getElem?_eq_some_iff.1 g24x7.out).1
            have l3 := (Array.getElem?_eq_some_iff.1 g24x3.out).1
            have l8 := (Array.getElem?_eq_some_iff.1 g24.out).1
            exact ⟨(W24).heap.size, (W22).heap.size, (W14).heap.size, (W23).heap.size, _, _, _, _, _, _, _, _, _, _, _, ⟨⟨by omega, by omega, by omega, by omega⟩, ⟨by omega, by omega, by omega, by omega, by omega, by omega⟩, Ky, gy, gy3, gy7, gy8⟩, rfl⟩
          · skip
            go_simp
            obtain ⟨W26, hW26⟩ : ∃ y, y = (W22).alloc (.map #[] 0) := ⟨_, rfl⟩
            try dsimp only [madeM] at hW26
            rw [← hW26]
            have hb26 : Below (W22).heap.size (W22) W26 := by rw [hW26]; exact below1 _ _
            have s26 : Hid (W26.heap.size = (W22).heap.size + 1) := by rw [hW26]; simp [Hid]
            have g26 : Hid (W26.heap[(W22).heap.size]? = some (.map #[] 0)) := by rw [hW26]; exact heap_alloc_new _ _
            clear hW26
            have Kx26 : Hid (Below w1.heap.size w1 W26) := Lib.hid (Kx22.out.trans (hb26.mono Kx22.out.size))
            have g26x7 : Hid (W26.heap[(W14).heap.size]? = some (madeM n)) := Lib.hid ((hb26.block _ (Array.getElem?_eq_some_iff.1 g22.out).1).trans g22.out)
            clear hb26
            refine hK.out _ _ (fun _ => HSw.out _ Kx26.out) (fun hHeld => ?_)
            have hHeld := hHeld (by decide)
            clear hK K
            try simp only [Act.put, List.setIfInBounds_toArray, List.set_cons_zero, List.set_cons_succ]
            refine wpAnyM_one (i := 3) (by kernel_rfl) rfl (fun K hK => ?_)
            go_simp
            obtain ⟨W27, hW27⟩ : ∃ y, y = (W26).alloc (madeM n) := ⟨_, rfl⟩
            try dsimp only [madeM] at hW27
            rw [← hW27]
            have hb27 : Below (W26).heap.size (W26) W27 := by rw [hW27]; exact below1 _ _
            have s27 : Hid (W27.heap.size = (W26).heap.size + 1) := by rw [hW27]; simp [Hid]
            have g27 : Hid (W27.heap[(W26).heap.size]? = some (madeM n)) := by rw [hW27]; exact heap_alloc_new _ _
            clear hW27
            have Kx27 : Hid (Below w1.heap.size w1 W27) := Lib.hid (Kx26.out.trans (hb27.mono Kx26.out.size))
            have g27x7 : Hid (W27.heap[(W14).heap.size]? = some (madeM n)) := Lib.hid ((hb27.block _ (Array.getElem?_eq_some_iff.1 g26x7.out).1).trans g26x7.out)
            have g27x8 : Hid (W27.heap[(W22).heap.size]? = some (.map #[] 0)) := Lib.hid ((hb27.block _ (Array.getElem?_eq_some_iff.1 g26.out).1).trans g26.out)
            clear hb27
            refine hK.out _ _ (fun _ => HSw.out _ Kx27.out) (fun hHeld => ?_)
            have hHeld := hHeld (by decide)
            clear hK K
            try simp only [Act.put, List.setIfInBounds_toArray, List.set_cons_zero, List.set_cons_succ]
            refine wpAnyM_take (i := 9) (v := ?vm11) rfl (by kernel_rfl) (by decide) (by kernel_rfl) (by kernel_rfl) (by kernel_rfl) (fun _ _ _ h => h) (Or.inl ⟨by rfl, ?hm11⟩) (by assumption) ?_
            case hm11 => (intro w hSw; (try dsimp only at hSw); go_simp; first | done | with_reducible rfl)
            try simp only [Act.put, List.setIfInBounds_toArray, List.set_cons_zero, List.set_cons_succ]
            refine wpAnyM_one (i := 10) (by kernel_rfl) rfl (fun K hK => ?_)
            go_simp
            obtain ⟨wy, hwy⟩ : ∃ y, y = (W27).alloc (.cells (recB (W26).heap.size (W14).heap.size n (W22).heap.size) 130) := ⟨_, rfl⟩
            rw [← hwy]
            have hby : Below (W27).heap.size (W27) wy := by rw [hwy]; exact below1 _ _
            have gy : Hid (wy.heap[(W27).heap.size]? = some (.cells (recA (W26).heap.size (W14).heap.size n (W22).heap.size) 130)) := by rw [hwy, ← recB_eq]; exact heap_alloc_new _ _
            clear hwy
            have Ky : Hid (Below w1.heap.size w1 wy) := Lib.hid (Kx27.out.trans (hby.mono Kx27.out.size))
            have gy7 : Hid (wy.heap[(W14).heap.size]? = some (madeM n)) := Lib.hid ((hby.block _ (Array.getElem?_eq_some_iff.1 g27x7.out).1).trans g27x7.out)
            have gy8 : Hid (wy.heap[(W22).heap.size]? = some (.map #[] 0)) := Lib.hid ((hby.block _ (Array.getElem?_eq_some_iff.1 g27x8.out).1).trans g27x8.out)
            have gy3 : Hid (wy.heap[(W26).heap.size]? = some (madeM n)) := Lib.hid ((hby.block _ (Array.getElem?_eq_some_iff.1 g27.out).1).trans g27.out)
            refine hK.out _ _ (fun _ => HSw.out _ Ky.out) (fun hHeld => ?_)
            have hHeld := hHeld (by decide)
            clear hK K
            try simp only [Act.put, List.setIfInBounds_toArray, List.set_cons_zero, List.set_cons_succ]
            refine wpAnyM_one (i := 11) (by kernel_rfl) rfl (fun K hK => ?_)
            go_simp
            refine hK.out _ _ (fun h => absurd h (by decide)) (fun _ => ?_)
            clear hK K
            try simp only [Act.put, List.setIfInBounds_toArray, List.set_cons_zero, List.set_cons_succ]
            refine wpAnyM_done (by kernel_rfl) ?_ _
            have ks := Kx27.out.size
            have e1 := s1.out
            have e14 := s14.out
            have e22 := s22.out
            have e26 := s26.out
            have e27 := s27.out
            have l7 := (Array.getElem?_eq_some_iff.1 g27x7.out).1
            have l8 := (Array.getElem?_eq_some_iff.1 g27x8.out).1
            have l3 := (Array.getElem?_eq_some_iff.1 g27.out).1
            exact ⟨(W27).heap.size, (W26).heap.size, (W14).heap.size, (W22).heap.size, _, _, _, _, _, _, _, _, _, _, _, ⟨⟨by omega, by omega, by omega, by omega⟩, ⟨by omega, by omega, by omega, by omega, by omega, by omega⟩, Ky, gy, gy3, gy7, gy8⟩, rfl⟩
        · skip
          go_simp
          obtain ⟨W29, hW29⟩ : ∃ y, y = (W14).alloc (.map #[] 0) := ⟨_, rfl⟩
          try dsimp only [madeM] at hW29
          rw [← hW29]
          have hb29 : Below (W14).heap.size (W14) W29 := by rw [hW29]; exact below1 _ _
          have s29 : Hid (W29.heap.size = (W14).heap.size + 1) := by rw [hW29]; simp [Hid]
          have g29 : Hid (W29.heap[(W14).heap.size]? = some (.map #[] 0)) := by rw [hW29]; exact heap_alloc_new _ _
          clear hW29
          have Kx29 : Hid (Below w1.heap.size w1 W29) := Lib.hid (Kx14.out.trans (hb29.mono Kx14.out.size))
          clear hb29
          refine hK.out _ _ (fun _ => HSw.out _ Kx29.out) (fun hHeld => ?_)
          have hHeld := hHeld (by decide)
          clear hK K
          try simp only [Act.put, List.setIfInBounds_toArray, List.set_cons_zero, List.set_cons_succ]
          refine wpAnyM_two (i := 3) (j := 7) (by kernel_rfl) rfl rfl (fun K hK => ?_) (fun K hK => ?_)
          · skip
            go_simp
            obtain ⟨W30, hW30⟩ : ∃ y, y = (W29).alloc (madeM n) := ⟨_, rfl⟩
            try dsimp only [madeM] at hW30
            rw [← hW30]
            have hb30 : Below (W29).heap.size (W29) W30 := by rw [hW30]; exact below1 _ _
            have s30 : Hid (W30.heap.size = (W29).heap.size + 1) := by rw [hW30]; simp [Hid]
            have g30 : Hid (W30.heap[(W29).heap.size]? = some (madeM n)) := by rw [hW30]; exact heap_alloc_new _ _
            clear hW30
            have Kx30 : Hid (Below w1.heap.size w1 W30) := Lib.hid (Kx29.out.trans (hb30.mono Kx29.out.size))
            have g30x8 : Hid (W30.heap[(W14).heap.size]? = some (.map #[] 0)) := Lib.hid ((hb30.block _ (Array.getElem?_eq_some_iff.1 g29.out).1).trans g29.out)
            clear hb30
            refine hK.out _ _ (fun _ => HSw.out _ Kx30.out) (fun hHeld => ?_)
            have hHeld := hHeld (by decide)
            clear hK K
            try simp only [Act.put, List.setIfInBounds_toArray, List.set_cons_zero, List.set_cons_succ]
            refine wpAnyM_one (i := 7) (by kernel_rfl) rfl (fun K hK => ?_)
            go_simp
            obtain ⟨W31, hW31⟩ : ∃ y, y = (W30).alloc (madeM n) := ⟨_, rfl⟩
            try dsimp only [madeM] at hW31
            rw [← hW31]
            have hb31 : Below (W30).heap.size (W30) W31 := by rw [hW31]; exact below1 _ _
            have s31 : Hid (W31.heap.size = (W30).heap.size + 1) := by rw [hW31]; simp [Hid]
            have g31 : Hid (W31.heap[(W30).heap.size]? = some (madeM n)) := by rw [hW31]; exact heap_alloc_new _ _
            clear hW31
            have Kx31 : Hid (Below w1.heap.size w1 W31) := Lib.hid (Kx30.out.trans (hb31.mono Kx30.out.size))
            have g31x8 : Hid (W31.heap[(W14).heap.size]? = some (.map #[] 0)) := Lib.hid ((hb31.block _ (Array.getElem?_eq_some_iff.1 g30x8.out).1).trans g30x8.out)
            have g31x3 : Hid (W31.heap[(W29).heap.size]? = some (madeM n)) := Lib.hid ((hb31.block _ (Array.getElem?_eq_some_iff.1 g30.out).1).trans g30.out)
            clear hb31
            refine hK.out _ _ (fun _ => HSw.out _ Kx31.out) (fun hHeld => ?_)
            have hHeld := hHeld (by decide)
            clear hK K
            try simp only [Act.put, List.setIfInBounds_toArray, List.set_cons_zero, List.set_cons_succ]
            refine wpAnyM_take (i := 9) (v := ?vm12) rfl (by kernel_rfl) (by decide) (by kernel_rfl) (by kernel_rfl) (by kernel_rfl) (fun _ _ _ h => h) (Or.inl ⟨by rfl, ?hm12⟩) (by assumption) ?_
            case hm12 => (intro w hSw; (try dsimp only at hSw); go_simp; first | done | with_reducible rfl)
            try simp only [Act.put, List.setIfInBounds_toArray, List.set_cons_zero, List.set_cons_succ]
            refine wpAnyM_one (i := 10) (by kernel_rfl) rfl (fun K hK => ?_)
            go_simp
            obtain ⟨wy, hwy⟩ : ∃ y, y = (W31).alloc (.cells (recB (W29).heap.size (W30).heap.size n (W14).heap.size) 130) := ⟨_, rfl⟩
            rw [← hwy]
            have hby : Below (W31).heap.size (W31) wy := by rw [hwy]; exact below1 _ _
            have gy : Hid (wy.heap[(W31).heap.size]? = some (.cells (recA (W29).heap.size (W30).heap.size n (W14).heap.size) 130)) := by rw [hwy, ← recB_eq]; exact heap_alloc_new _ _
            clear hwy
            have Ky : Hid (Below w1.heap.size w1 wy) := Lib.hid (Kx31.out.trans (hby.mono Kx31.out.size))
            have gy8 : Hid (wy.heap[(W14).heap.size]? = some (.map #[] 0)) := Lib.hid ((hby.block _ (Array.getElem?_eq_some_iff.1 g31x8.out).1).trans g31x8.out)
            have gy3 : Hid (wy.heap[(W29).heap.size]? = some (madeM n)) := Lib.hid ((hby.block _ (Array.getElem?_eq_some_iff.1 g31x3.out).1).trans g31x3.out)
            have gy7 : Hid (wy.heap[(W30).heap.size]? = some (madeM n)) := Lib.hid ((hby.block _ (Array.getElem?_eq_some_iff.1 g31.out).1).trans g31.out)
            refine hK.out _ _ (fun _ => HSw.out _ Ky.out) (fun hHeld => ?_)
            have hHeld := hHeld (by decide)
            clear hK K
            try simp only [Act.put, List.setIfInBounds_toArray, List.set_cons_zero, List.set_cons_succ]
            refine wpAnyM_one (i := 11) (by kernel_rfl) rfl (fun K hK => ?_)
            go_simp
            refine hK.out _ _ (fun h => absurd h (by decide)) (fun _ => ?_)
            clear hK K
            try simp only [Act.put, List.setIfInBounds_toArray, List.set_cons_zero, List.set_cons_succ]
            refine wpAnyM_done (by kernel_rfl) ?_ _
            have ks := Kx31.out.size
            have e1 := s1.out
            have e14 := s14.out
            have e29 := s29.out
            have e30 := s30.out
            have e31 := s31.out
            have l8 := (Array.getElem?_eq_some_iff.1 g31x8.out).1
            have l3 := (Array.getElem?_eq_some_iff.1 g31x3.out).1
            have l7 := (Array.getElem?_eq_some_iff.1 g31.out).1
            exact ⟨(W31).heap.size, (W29).heap.size, (W30).heap.size, (W14).heap.size, _, _, _, _, _, _, _, _, _, _, _, ⟨⟨by omega, by omega, by omega, by omega⟩, ⟨by omega, by omega, by omega, by omega, by omega, by omega⟩, Ky, gy, gy3, gy7, gy8⟩, rfl⟩
          · skip
            go_simp
            obtain ⟨W33, hW33⟩ : ∃ y, y = (W29).alloc (madeM n) := ⟨_, rfl⟩
            try dsimp only [madeM] at hW33
            rw [← hW33]
            have hb33 : Below (W29).heap.size (W29) W33 := by rw [hW33]; exact below1 _ _
            have s33 : Hid (W33.heap.size = (W29).heap.size + 1) := by rw [hW33]; simp [Hid]
            have g33 : Hid (W33.heap[(W29).heap.size]? = some (madeM n)) := by rw [hW33]; exact heap_alloc_new _ _
            clear hW33
            have Kx33 : Hid (Below w1.heap.size w1 W33) := Lib.hid (Kx29.out.trans (hb33.mono Kx29.out.size))
            have g33x8 : Hid (W33.heap[(W14).heap.size]? = some (.map #[] 0)) := Lib.hid ((hb33.block _ (Array.getElem?_eq_some_iff.1 g29.out).1).trans g29.out)
            clear hb33
            refine hK.out _ _ (fun _ => HSw.out _ Kx33.out) (fun hHeld => ?_)
            have hHeld := hHeld (by decide)
            clear hK K
            try simp only [Act.put, List.setIfInBounds_toArray, List.set_cons_zero, List.set_cons_succ]
            refine wpAnyM_one (i := 3) (by kernel_rfl) rfl (fun K hK => ?_)
            go_simp
            obtain ⟨W34, hW34⟩ : ∃ y, y = (W33).alloc (madeM n) := ⟨_, rfl⟩
            try dsimp only [madeM] at hW34
            rw [← hW34]
            have hb34 : Below (W33).heap.size (W33) W34 := by rw [hW34]; exact below1 _ _
            have s34 : Hid (W34.heap.size = (W33).heap.size + 1) := by rw [hW34]; simp [Hid]
            have g34 : Hid (W34.heap[(W33).heap.size]? = some (madeM n)) := by rw [hW34]; exact heap_alloc_new _ _
            clear hW34
            have Kx34 : Hid (Below w1.heap.size w1 W34) := Lib.hid (Kx33.out.trans (hb34.mono Kx33.out.size))
            have g34x8 : Hid (W34.heap[(W14).heap.size]? = some (.map #[] 0)) := Lib.hid ((hb34.block _ (Array.getElem?_eq_some_iff.1 g33x8.out).1).trans g33x8.out)
            have g34x7 : Hid (W34.heap[(W29).heap.size]? = some (madeM n)) := Lib.hid ((hb34.block _ (Array.getElem?_eq_some_iff.1 g33.out).1).trans g33.out)
            clear hb34
            refine hK.out _ _ (fun _ => HSw.out _ Kx34.out) (fun hHeld => ?_)
            have hHeld := hHeld (by decide)
            clear hK K
            try simp only [Act.put, List.setIfInBounds_toArray, List.set_cons_zero, List.set_cons_succ]
            refine wpAnyM_take (i := 9) (v := ?vm13) rfl (by kernel_rfl) (by decide) (by kernel_rfl) (by kernel_rfl) (by kernel_rfl) (fun _ _ _ h => h) (Or.inl ⟨by rfl, ?hm13⟩) (by assumption) ?_
            case hm13 => (intro w hSw; (try dsimp only at hSw); go_simp; first | done | with_reducible rfl)
            try simp only [Act.put, List.setIfInBounds_toArray, List.set_cons_zero, List.set_cons_succ]
            refine wpAnyM_one (i := 10) (by kernel_rfl) rfl (fun K hK => ?_)
            go_simp
            obtain ⟨wy, hwy⟩ : ∃ y, y = (W34).alloc (.cells (recB (W33).heap.size (W29).heap.size n (W14).heap.size) 130) := ⟨_, rfl⟩
            rw [← hwy]
            have hby : Below (W34).heap.size (W34) wy := by rw [hwy]; exact below1 _ _
            have gy : Hid (wy.heap[(W34).heap.size]? = some (.cells (recA (W33).heap.size (W29).heap.size n (W14).heap.size) 130)) := by rw [hwy, ← recB_eq]; exact heap_alloc_new _ _
            clear hwy
            have Ky : Hid (Below w1.heap.size w1 wy) := Lib.hid (Kx34.out.trans (hby.mono Kx34.out.size))
            have gy8 : Hid (wy.heap[(W14).heap.size]? = some (.map #[] 0)) := Lib.hid ((hby.block _ (Array.getElem?_eq_some_iff.1 g34x8.out).1).trans g34x8.out)
            have gy7 : Hid (wy.heap[(W29).heap.size]? = some (madeM n)) := Lib.hid ((hby.block _ (Array.getElem?_eq_some_iff.1 g34x7.out).1).trans g34x7.out)
            have gy3 : Hid (wy.heap[(W33).heap.size]? = some (madeM n)) := Lib.hid ((hby.block _ (Array.getElem?_eq_some_iff.1 g34.out).1).trans g34.out)
            refine hK.out _ _ (fun _ => HSw.out _ Ky.out) (fun hHeld => ?_)
            have hHeld := hHeld (by decide)
            clear hK K
            try simp only [Act.put, List.setIfInBounds_toArray, List.set_cons_zero, List.set_cons_succ]
            refine wpAnyM_one (i := 11) (by kernel_rfl) rfl (fun K hK => ?_)
            go_simp
            refine hK.out _ _ (fun h => absurd h (by decide)) (fun _ => ?_)
            clear hK K
            try simp only [Act.put, List.setIfInBounds_toArray, List.set_cons_zero, List.set_cons_succ]
            refine wpAnyM_done (by kernel_rfl) ?_ _
            have ks := Kx34.out.size
            have e1 := s1.out
            have e14 := s14.out
            have e29 := s29.out
            have e33 := s33.out
            have e34 := s34.out
            have l8 := (Array.getElem?_eq_some_iff.1 g34x8.out).1
            have l7 := (Array.getElem?_eq_some_iff.1 g34x7.out).1
            have l3 := (Array.getElem?_eq_some_iff.1 g34.out).1
            exact ⟨(W34).heap.size, (W33).heap.size, (W29).heap.size, (W14).heap.size, _, _, _, _, _, _, _, _, _, _, _, ⟨⟨by omega, by omega, by omega, by omega⟩, ⟨by omega, by omega, by omega, by omega, by omega, by omega⟩, Ky, gy, gy3, gy7, gy8⟩, rfl⟩
      · skip
        go_simp
        obtain ⟨W36, hW36⟩ : ∃ y, y = (W1).alloc (.map #[] 0) := ⟨_, rfl⟩
        try dsimp only [madeM] at hW36
        rw [← hW36]
        have hb36 : Below (W1).heap.size (W1) W36 := by rw [hW36]; exact below1 _ _
        have s36 : Hid (W36.heap.size = (W1).heap.size + 1) := by rw [hW36]; simp [Hid]
        have g36 : Hid (W36.heap[(W1).heap.size]? = some (.map #[] 0)) := by rw [hW36]; exact heap_alloc_new _ _
        clear hW36
        have Kx36 : Hid (Below w1.heap.size w1 W36) := Lib.hid (Kx1.out.trans (hb36.mono Kx1.out.size))
        clear hb36
        refine hK.out _ _ (fun _ => HSw.out _ Kx36.out) (fun hHeld => ?_)
        have hHeld := hHeld (by decide)
        clear hK K
        try simp only [Act.put, List.setIfInBounds_toArray, List.set_cons_zero, List.set_cons_succ]
        refine wpAnyM_two (i := 3) (j := 6) (by kernel_rfl) rfl rfl (fun K hK => ?_) (fun K hK => ?_)
        · skip
          go_simp
          obtain ⟨W37, hW37⟩ : ∃ y, y = (W36).alloc (madeM n) := ⟨_, rfl⟩
          try dsimp only [madeM] at hW37
          rw [← hW37]
          have hb37 : Below (W36).heap.size (W36) W37 := by rw [hW37]; exact below1 _ _
          have s37 : Hid (W37.heap.size = (W36).heap.size + 1) := by rw [hW37]; simp [Hid]
          have g37 : Hid (W37.heap[(W36).heap.size]? = some (madeM n)) := by rw [hW37]; exact heap_alloc_new _ _
          clear hW37
          have Kx37 : Hid (Below w1.heap.size w1 W37) := Lib.hid (Kx36.out.trans (hb37.mono Kx36.out.size))
          have g37x8 : Hid (W37.heap[(W1).heap.size]? = some (.map #[] 0)) := Lib.hid ((hb37.block _ (Array.getElem?_eq_some_iff.1 g36.out).1).trans g36.out)
          clear hb37
          refine hK.out _ _ (fun _ => HSw.out _ Kx37.out) (fun hHeld => ?_)
          have hHeld := hHeld (by decide)
          clear hK K
          try simp only [Act.put, List.setIfInBounds_toArray, List.set_cons_zero, List.set_cons_succ]
          refine wpAnyM_one (i := 6) (by kernel_rfl) rfl (fun K hK => ?_)
          go_simp
          go_at_call 64
          refine (size_is ao an n n co cn W37 hn6).mono ?_
          rintro e W38 ⟨rfl, hW38⟩
          have hb38 : Below (W37).heap.size (W37) W38 := by rw [← hW38]; exact below1 _ _
          have s38 : Hid (W38.heap.size = (W37).heap.size + 1) := by rw [← hW38]; simp [Hid]
          clear hW38
          have Kx38 : Hid (Below w1.heap.size w1 W38) := Lib.hid (Kx37.out.trans (hb38.mono Kx37.out.size))
          have g38x8 : Hid (W38.heap[(W1).heap.size]? = some (.map #[] 0)) := Lib.hid ((hb38.block _ (Array.getElem?_eq_some_iff.1 g37x8.out).1).trans g37x8.out)
          have g38x3 : Hid (W38.heap[(W36).heap.size]? = some (madeM n)) := Lib.hid ((hb38.block _ (Array.getElem?_eq_some_iff.1 g37.out).1).trans g37.out)
          clear hb38
          go_wp2_with fail
          refine hK.out _ _ (fun _ => HSw.out _ Kx38.out) (fun hHeld => ?_)
          have hHeld := hHeld (by decide)
          clear hK K
          try simp only [Act.put, List.setIfInBounds_toArray, List.set_cons_zero, List.set_cons_succ]
          refine wpAnyM_one (i := 7) (by kernel_rfl) rfl (fun K hK => ?_)
          go_simp
          obtain ⟨W39, hW39⟩ : ∃ y, y = (W38).alloc (madeM n) := ⟨_, rfl⟩
          try dsimp only [madeM] at hW39
          rw [← hW39]
          have hb39 : Below (W38).heap.size (W38) W39 := by rw [hW39]; exact below1 _ _
          have s39 : Hid (W39.heap.size = (W38).heap.size + 1) := by rw [hW39]; simp [Hid]
          have g39 : Hid (W39.heap[(W38).heap.size]? = some (madeM n)) := by rw [hW39]; exact heap_alloc_new _ _
          clear hW39
          have Kx39 : Hid (Below w1.heap.size w1 W39) := Lib.hid (Kx38.out.trans (hb39.mono Kx38.out.size))
          have g39x8 : Hid (W39.heap[(W1).heap.size]? = some (.map #[] 0)) := Lib.hid ((hb39.block _ (Array.getElem?_eq_some_iff.1 g38x8.out).1).trans g38x8.out)
          have g39x3 : Hid (W39.heap[(W36).heap.size]? = some (madeM n)) := Lib.hid ((hb39.block _ (Array.getElem?_eq_some_iff.1 g38x3.out).1).trans g38x3.out)
          clear hb39
          refine hK.out _ _ (fun _ => HSw.out _ Kx39.out) (fun hHeld => ?_)
          have hHeld := hHeld (by decide)
          clear hK K
          try simp only [Act.put, List.setIfInBounds_toArray, List.set_cons_zero, List.set_cons_succ]
          refine wpAnyM_take (i := 9) (v := ?vm14) rfl (by kernel_rfl) (by decide) (by kernel_rfl) (by kernel_rfl) (by kernel_rfl) (fun _ _ _ h => h) (Or.inl ⟨by rfl, ?hm14⟩) (by assumption) ?_
          case hm14 => (intro w hSw; (try dsimp only at hSw); go_simp; first | done | with_reducible rfl)
          try simp only [Act.put, List.setIfInBounds_toArray, List.set_cons_zero, List.set_cons_succ]
          refine wpAnyM_one (i := 10) (by kernel_rfl) rfl (fun K hK => ?_)
          go_simp
          obtain ⟨wy, hwy⟩ : ∃ y, y = (W39).alloc (.cells (recB (W36).heap.size (W38).heap.size n (W1).heap.size) 130) := ⟨_, rfl⟩
          rw [← hwy]
          have hby : Below (W39).heap.size (W39) wy := by rw [hwy]; exact below1 _ _
          have gy : Hid (wy.heap[(W39).heap.size]? = some (.cells (recA (W36).heap.size (W38).heap.size n (W1).heap.size) 130)) := by rw [hwy, ← recB_eq]; exact heap_alloc_new _ _
          clear hwy
          have Ky : Hid (Below w1.heap.size w1 wy) := Lib.hid (Kx39.out.trans (hby.mono Kx39.out.size))
          have gy8 : Hid (wy.heap[(W1).heap.size]? = some (.map #[] 0)) := Lib.hid ((hby.block _ (Array.getElem?_eq_some_iff.1 g39x8.out).1).trans g39x8.out)
          have gy3 : Hid (wy.heap[(W36).heap.size]? = some (madeM n)) := Lib.hid ((hby.block _ (Array.getElem?_eq_some_iff.1 g39x3.out).1).trans g39x3.out)
          have gy7 : Hid (wy.heap[(W38).heap.size]? = some (madeM n)) := Lib.hid ((hby.block _ (Array.getElem?_eq_some_iff.1 g39.out).1).trans g39.out)
          refine hK.out _ _ (fun _ => HSw.out _ Ky.out) (fun hHeld => ?_)
          have hHeld := hHeld (by decide)
          clear hK K
          try simp only [Act.put, List.setIfInBounds_toArray, List.set_cons_zero, List.set_cons_succ]
          refine wpAnyM_one (i := 11) (by kernel_rfl) rfl (fun K hK => ?_)
          go_simp
          refine hK.out _ _ (fun h => absurd h (by decide)) (fun _ => ?_)
          clear hK K
          try simp only [Act.put, List.setIfInBounds_toArray, List.set_cons_zero, List.set_cons_succ]
          refine wpAnyM_done (by kernel_rfl) ?_ _
          have ks := Kx39.out.size
          have e1 := s1.out
          have e36 := s36.out
          have e37 := s37.out
          have e38 := s38.out
          have e39 := s39.out
          have l8 := (Array.getElem?_eq_some_iff.1 g39x8.out).1
          have l3 := (Array.getElem?_eq_some_iff.1 g39x3.out).1
          have l7 := (Array.getElem?_eq_some_iff.1 g39.out).1
          exact ⟨(W39).heap.size, (W36).heap.size, (W38).heap.size, (W1).heap.size, _, _, _, _, _, _, _, _, _, _, _, ⟨⟨by omega, by omega, by omega, by omega⟩, ⟨by omega, by omega, by omega, by omega, by omega, by omega⟩, Ky, gy, gy3, gy7, gy8⟩, rfl⟩
        · skip
          go_simp
          go_at_call 64
          refine (size_is ao an n n co cn W36 hn6).mono ?_
          rintro e W41 ⟨rfl, hW41⟩
          have hb41 : Below (W36).heap.size (W36) W41 := by rw [← hW41]; exact below1 _ _
          have s41 : Hid (W41.heap.size = (W36).heap.size + 1) := by rw [← hW41]; simp [Hid]
          clear hW41
          have Kx41 : Hid (Below w1.heap.size w1 W41) := Lib.hid (Kx36.out.trans (hb41.mono Kx36.out.size))
          have g41x8 : Hid (W41.heap[(W1).heap.size]? = some (.map #[] 0)) := Lib.hid ((hb41.block _ (Array.getElem?_eq_some_iff.1 g36.out).1).trans g36.out)
          clear hb41
          go_wp2_with fail
          refine hK.out _ _ (fun _ => HSw.out _ Kx41.out) (fun hHeld => ?_)
          have hHeld := hHeld (by decide)
          clear hK K
          try simp only [Act.put, List.setIfInBounds_toArray, List.set_cons_zero, List.set_cons_succ]
          refine wpAnyM_two (i := 3) (j := 7) (by kernel_rfl) rfl rfl (fun K hK => ?_) (fun K hK => ?_)
          · skip
            go_simp
            obtain ⟨W42, hW42⟩ : ∃ y, y = (W41).alloc (madeM n) := ⟨_, rfl⟩
            try dsimp only [madeM] at hW42
            rw [← hW42]
            have hb42 : Below (W41).heap.size (W41) W42 := by rw [hW42]; exact below1 _ _
            have s42 : Hid (W42.heap.size = (W41).heap.size + 1) := by rw [hW42]; simp [Hid]
            have g42 : Hid (W42.heap[(W41).heap.size]? = some (madeM n)) := by rw [hW42]; exact heap_alloc_new _ _
            clear hW42
            have Kx42 : Hid (Below w1.heap.size w1 W42) := Lib.hid (Kx41.out.trans (hb42.mono Kx41.out.size))
            have g42x8 : Hid (W42.heap[(W1).heap.size]? = some (.map #[] 0)) := Lib.hid ((hb42.block _ (Array.getElem?_eq_some_iff.1 g41x8.out).1).trans g41x8.out)
            clear hb42
            refine hK.out _ _ (fun _ => HSw.out _ Kx42.out) (fun hHeld => ?_)
            have hHeld := hHeld (by decide)
            clear hK K
            try simp only [Act.put, List.setIfInBounds_toArray, List.set_cons_zero, List.set_cons_succ]
            refine wpAnyM_one (i := 7) (by kernel_rfl) rfl (fun K hK => ?_)
            go_simp
            obtain ⟨W43, hW43⟩ : ∃ y, y = (W42).alloc (madeM n) := ⟨_, rfl⟩
            try dsimp only [madeM] at hW43
            rw [← hW43]
            have hb43 : Below (W42).heap.size (W42) W43 := by rw [hW43]; exact below1 _ _
            have s43 : Hid (W43.heap.size = (W42).heap.size + 1) := by rw [hW43]; simp [Hid]
            have g43 : Hid (W43.heap[(W42).heap.size]? = some (madeM n)) := by rw [hW43]; exact heap_alloc_new _ _
            clear hW43
            have Kx43 : Hid (Below w1.heap.size w1 W43) := Lib.hid (Kx42.out.trans (hb43.mono Kx42.out.size))
            have g43x8 : Hid (W43.heap[(W1).heap.size]? = some (.map #[] 0)) := Lib.hid ((hb43.block _ (Array.getElem?_eq_some_iff.1 g42x8.out).1).trans g42x8.out)
            have g43x3 : Hid (W43.heap[(W41).heap.size]? = some (madeM n)) := Lib.hid ((hb43.block _ (Array.getElem?_eq_some_iff.1 g42.out).1).trans g42.out)
            clear hb43
            refine hK.out _ _ (fun _ => HSw.out _ Kx43.out) (fun hHeld => ?_)
            have hHeld := hHeld (by decide)
            clear hK K
            try simp only [Act.put, List.setIfInBounds_toArray, List.set_cons_zero, List.set_cons_succ]
            refine wpAnyM_take (i := 9) (v := ?vm15) rfl (by kernel_rfl) (by decide) (by kernel_rfl) (by kernel_rfl) (by kernel_rfl) (fun _ _ _ h => h) (Or.inl ⟨by rfl, ?hm15⟩) (by assumption) ?_
            case hm15 => (intro w hSw; (try dsimp only at hSw); go_simp; first | done | with_reducible rfl)
            try simp only [Act.put, List.setIfInBounds_toArray, List.set_cons_zero, List.set_cons_succ]
            refine wpAnyM_one (i := 10) (by kernel_rfl) rfl (fun K hK => ?_)
            go_simp
            obtain ⟨wy, hwy⟩ : ∃ y, y = (W43).alloc (.cells (recB (W41).heap.size (W42).heap.size n (W1).heap.size) 130) := ⟨_, rfl⟩
            rw [← hwy]
            have hby : Below (W43).heap.size (W43) wy := by rw [hwy]; exact below1 _ _
            have gy : Hid (wy.heap[(W43).heap.size]? = some (.cells (recA (W41).heap.size (W42).heap.size n (W1).heap.size) 130)) := by rw [hwy, ← recB_eq]; exact heap_alloc_new _ _
            clear hwy
            have Ky : Hid (Below w1.heap.size w1 wy) := Lib.hid (Kx43.out.trans (hby.mono Kx43.out.size))
            have gy8 : Hid (wy.heap[(W1).heap.size]? = some (.map #[] 0)) := Lib.hid ((hby.block _ (Array.getElem?_eq_some_iff.1 g43x8.out).1).trans g43x8.out)
            have gy3 : Hid (wy.heap[(W41).heap.size]? = some (madeM n)) := Lib.hid ((hby.block _ (Array.getElem?_eq_some_iff.1 g43x3.out).1).trans g43x3.out)
            have gy7 : Hid (wy.heap[(W42).heap.size]? = some (madeM n)) := Lib.hid ((hby.block _ (Array.getElem?_eq_some_iff.1 g43.out).1).trans g43.out)
            refine hK.out _ _ (fun _ => HSw.out _ Ky.out) (fun hHeld => ?_)
            have hHeld := hHeld (by decide)
            clear hK K
            try simp only [Act.put, List.setIfInBounds_toArray, List.set_cons_zero, List.set_cons_succ]
            refine wpAnyM_one (i := 11) (by kernel_rfl) rfl (fun K hK => ?_)
            go_simp
            refine hK.out _ _ (fun h => absurd h (by decide)) (fun _ => ?_)
            clear hK K
            try simp only [Act.put, List.setIfInBounds_toArray, List.set_cons_zero, List.set_cons_succ]
            refine wpAnyM_done (by kernel_rfl) ?_ _
            have ks := Kx43.out.size
            have e1 := s1.out
            have e36 := s36.out
            have e41 := s41.out
            have e42 := s42.out
            have e43 := s43.out
            have l8 := (Array.getElem?_eq_some_iff.1 g43x8.out).1
            have l3 := (Array.getElem?_eq_some_iff.1 g43x3.out).1
            have l7 := (Array.getElem?_eq_some_iff.1 g43.out).1
            exact ⟨(W43).heap.size, (W41).heap.size, (W42).heap.size, (W1).heap.size, _, _, _, _, _, _, _, _, _, _, _, ⟨⟨by omega, by omega, by omega, by omega⟩, ⟨by omega, by omega, by omega, by omega, by omega, by omega⟩, Ky, gy, gy3, gy7, gy8⟩, rfl⟩
          · skip
            go_simp
            obtain ⟨W45, hW45⟩ : ∃ y, y = (W41).alloc (madeM n) := ⟨_, rfl⟩
            try dsimp only [madeM] at hW45
            rw [← hW45]
            have hb45 : Below (W41).heap.size (W41) W45 := by rw [hW45]; exact below1 _ _
            have s45 : Hid (W45.heap.size = (W41).heap.size + 1) := by rw [hW45]; simp [Hid]
            have g45 : Hid (W45.heap[(W41).heap.size]? = some (madeM n)) := by rw [hW45]; exact heap_alloc_new _ _
            clear hW45
            have Kx45 : Hid (Below w1.heap.size w1 W45) := Lib.hid (Kx41.out.trans (hb45.mono Kx41.out.size))
            have g45x8 : Hid (W45.heap[(W1).heap.size]? = some (.map #[] 0)) := Lib.hid ((hb45.block _ (Array.getElem?_eq_some_iff.1 g41x8.out).1).trans g41x8.out)
            clear hb45
            refine hK.out _ _ (fun _ => HSw.out _ Kx45.out) (fun hHeld => ?_)
            have hHeld := hHeld (by decide)
            clear hK K
            try simp only [Act.put, List.setIfInBounds_toArray, List.set_cons_zero, List.set_cons_succ]
            refine wpAnyM_one (i := 3) (by kernel_rfl) rfl (fun K hK => ?_)
            go_simp
            obtain ⟨W46, hW46⟩ : ∃ y, y = (W45).alloc (madeM n) := ⟨_, rfl⟩
            try dsimp only [madeM] at hW46
            rw [← hW46]
            have hb46 : Below (W45).heap.size (W45) W46 := by rw [hW46]; exact below1 _ _
            have s46 : Hid (W46.heap.size = (W45).heap.size + 1) := by rw [hW46]; simp [Hid]
            have g46 : Hid (W46.heap[(W45).heap.size]? = some (madeM n)) := by rw [hW46]; exact heap_alloc_new _ _
            clear hW46
            have Kx46 : Hid (Below w1.heap.size w1 W46) := Lib.hid (Kx45.out.trans (hb46.mono Kx45.out.size))
            have g46x8 : Hid (W46.heap[(W1).heap.size]? = some (.map #[] 0)) := Lib.hid ((hb46.block _ (Array.getElem?_eq_some_iff.1 g45x8.out).1).trans g45x8.out)
            have g46x7 : Hid (W46.heap[(W41).heap.size]? = some (madeM n)) := Lib.hid ((hb46.block _ (Array.getElem?_eq_some_iff.1 g45.out).1).trans g45.out)
            clear hb46
            refine hK.out _ _ (fun _ => HSw.out _ Kx46.out) (fun hHeld => ?_)
            have hHeld := hHeld (by decide)
            clear hK K
            try simp only [Act.put, List.setIfInBounds_toArray, List.set_cons_zero, List.set_cons_succ]
            refine wpAnyM_take (i := 9) (v := ?vm16) rfl (by kernel_rfl) (by decide) (by kernel_rfl) (by kernel_rfl) (by kernel_rfl) (fun _ _ _ h => h) (Or.inl ⟨by rfl, ?hm16⟩) (by assumption) ?_
            case hm16 => (intro w hSw; (try dsimp only at hSw); go_simp; first | done | with_reducible rfl)
            try simp only [Act.put, List.setIfInBounds_toArray, List.set_cons_zero, List.set_cons_succ]
            refine wpAnyM_one (i := 10) (by kernel_rfl) rfl (fun K hK => ?_)
            go_simp
            obtain ⟨wy, hwy⟩ : ∃ y, y = (W46).alloc (.cells (recB (W45).heap.size (W41).heap.size n (W1).heap.size) 130) := ⟨_, rfl⟩
            rw [← hwy]
            have hby : Below (W46).heap.size (W46) wy := by rw [hwy]; exact below1 _ _
            have gy : Hid (wy.heap[(W46).heap.size]? = some (.cells (recA (W45).heap.size (W41).heap.size n (W1).heap.size) 130)) := by rw [hwy, ← recB_eq]; exact heap_alloc_new _ _
            clear hwy
            have Ky : Hid (Below w1.heap.size w1 wy) := Lib.hid (Kx46.out.trans (hby.mono Kx46.out.size))
            have gy8 : Hid (wy.heap[(W1).heap.size]? = some (.map #[] 0)) := Lib.hid ((hby.block _ (Array.getElem?_eq_some_iff.1 g46x8.out).1).trans g46x8.out)
            have gy7 : Hid (wy.heap[(W41).heap.size]? = some (madeM n)) := Lib.hid ((hby.block _ (Array.getElem?_eq_some_iff.1 g46x7.out).1).trans g46x7.out)
            have gy3 : Hid (wy.heap[(W45).heap.size]? = some (madeM n)) := Lib.hid ((hby.block _ (Array.getElem?_eq_some_iff.1 g46.out).1).trans g46.out)
            refine hK.out _ _ (fun _ => HSw.out _ Ky.out) (fun hHeld => ?_)
            have hHeld := hHeld (by decide)
            clear hK K
            try simp only [Act.put, List.setIfInBounds_toArray, List.set_cons_zero, List.set_cons_succ]
            refine wpAnyM_one (i := 11) (by kernel_rfl) rfl (fun K hK => ?_)
            go_simp
            refine hK.out _ _ (fun h => absurd h (by decide)) (fun _ => ?_)
            clear hK K
            try simp only [Act.put, List.setIfInBounds_toArray, List.set_cons_zero, List.set_cons_succ]
            refine wpAnyM_done (by kernel_rfl) ?_ _
            have ks := Kx46.out.size
            have e1 := s1.out
            have e36 := s36.out
            have e41 := s41.out
            have e45 := s45.out
            have e46 := s46.out
            have l8 := (Array.getElem?_eq_some_iff.1 g46x8.out).1
            have l7 := (Array.getElem?_eq_some_iff.1 g46x7.out).1
            have l3 := (Array.getElem?_eq_some_iff.1 g46.out).1
            exact ⟨(W46).heap.size, (W45).heap.size, (W41).heap.size, (W1).heap.size, _, _, _, _, _, _, _, _, _, _, _, ⟨⟨by omega, by omega, by omega, by omega⟩, ⟨by omega, by omega, by omega, by omega, by omega, by omega⟩, Ky, gy, gy3, gy7, gy8⟩, rfl⟩
    · skip
      go_simp
      obtain ⟨W48, hW48⟩ : ∃ y, y = (w1.alloc (.map #[] 0)).drew := ⟨_, rfl⟩
      try dsimp only [madeM] at hW48
      rw [← hW48]
      have hb48 : Below (w1.drew).heap.size (w1.drew) W48 := by rw [hW48]; exact below_drewD (below1 w1 (.map #[] 0))
      have s48 : Hid (W48.heap.size = (w1.drew).heap.size + 1) := by rw [hW48]; simp [Hid]
      have g48 : Hid (W48.heap[w.heap.size + 1]? = some (.map #[] 0)) := by
        rw [hW48]
        have h := heap_alloc_new w1 (.map #[] 0)
        rw [hs1] at h
        exact h
      clear hW48
      have Kx48 : Hid (Below w1.heap.size w1 W48) := Lib.hid (Kd.out.trans (hb48.mono Kd.out.size))
      clear hb48
      refine hK.out _ _ (fun _ => HSw.out _ Kx48.out) (fun hHeld => ?_)
      have hHeld := hHeld (by decide)
      clear hK K
      try simp only [Act.put, List.setIfInBounds_toArray, List.set_cons_zero, List.set_cons_succ]
      refine wpAnyM_one (i := 2) (by kernel_rfl) rfl (fun K hK => ?_)
      go_simp
      go_at_call 64
      refine (size_is ao an n n co cn W48 hn6).mono ?_
      rintro e W49 ⟨rfl, hW49⟩
      have hb49 : Below (W48).heap.size (W48) W49 := by rw [← hW49]; exact below1 _ _
      have s49 : Hid (W49.heap.size = (W48).heap.size + 1) := by rw [← hW49]; simp [Hid]
      clear hW49
      have Kx49 : Hid (Below w1.heap.size w1 W49) := Lib.hid (Kx48.out.trans (hb49.mono Kx48.out.size))
      have g49x8 : Hid (W49.heap[(w.heap.size + 1)]? = some (.map #[] 0)) := Lib.hid ((hb49.block _ (Array.getElem?_eq_some_iff.1 g48.out).1).trans g48.out)
      clear hb49
      go_wp2_with fail
      refine hK.out _ _ (fun _ => HSw.out _ Kx49.out) (fun hHeld => ?_)
      have hHeld := hHeld (by decide)
      clear hK K
      try simp only [Act.put, List.setIfInBounds_toArray, List.set_cons_zero, List.set_cons_succ]
      refine wpAnyM_two (i := 3) (j := 6) (by kernel_rfl) rfl rfl (fun K hK => ?_) (fun K hK => ?_)
      · skip
        go_simp
        obtain ⟨W50, hW50⟩ : ∃ y, y = (W49).alloc (madeM n) := ⟨_, rfl⟩
        try dsimp only [madeM] at hW50
        rw [← hW50]
        have hb50 : Below (W49).heap.size (W49) W50 := by rw [hW50]; exact below1 _ _
        have s50 : Hid (W50.heap.size = (W49).heap.size + 1) := by rw [hW50]; simp [Hid]
        have g50 : Hid (W50.heap[(W49).heap.size]? = some (madeM n)) := by rw [hW50]; exact heap_alloc_new _ _
        clear hW50
        have Kx50 : Hid (Below w1.heap.size w1 W50) := Lib.hid (Kx49.out.trans (hb50.mono Kx49.out.size))
        have g50x8 : Hid (W50.heap[(w.heap.size + 1)]? = some (.map #[] 0)) := Lib.hid ((hb50.block _ (Array.getElem?_eq_some_iff.1 g49x8.out).1).trans g49x8.out)
        clear hb50
        refine hK.out _ _ (fun _ => HSw.out _ Kx50.out) (fun hHeld => ?_)
        have hHeld := hHeld (by decide)
        clear hK K
        try simp only [Act.put, List.setIfInBounds_toArray, List.set_cons_zero, List.set_cons_succ]
        refine wpAnyM_one (i := 6) (by kernel_rfl) rfl (fun K hK => ?_)
        go_simp
        go_at_call 64
        refine (size_is ao an n n co cn W50 hn6).mono ?_
        rintro e W51 ⟨rfl, hW51⟩
        have hb51 : Below (W50).heap.size (W50) W51 := by rw [← hW51]; exact below1 _ _
        have s51 : Hid (W51.heap.size = (W50).heap.size + 1) := by rw [← hW51]; simp [Hid]
        clear hW51
        have Kx51 : Hid (Below w1.heap.size w1 W51) := Lib.hid (Kx50.out.trans (hb51.mono Kx50.out.size))
        have g51x8 : Hid (W51.heap[(w.heap.size + 1)]? = some (.map #[] 0)) := Lib.hid ((hb51.block _ (Array.getElem?_eq_some_iff.1 g50x8.out).1).trans g50x8.out)
        have g51x3 : Hid (W51.heap[(W49).heap.size]? = some (madeM n)) := Lib.hid ((hb51.block _ (Array.getElem?_eq_some_iff.1 g50.out).1).trans g50.out)
        clear hb51
        go_wp2_with fail
        refine hK.out _ _ (fun _ => HSw.out _ Kx51.out) (fun hHeld => ?_)
        have hHeld := hHeld (by decide)
        clear hK K
        try simp only [Act.put, List.setIfInBounds_toArray, List.set_cons_zero, List.set_cons_succ]
        refine wpAnyM_one (i := 7) (by kernel_rfl) rfl (fun K hK => ?_)
        go_simp
        obtain ⟨W52, hW52⟩ : ∃ y, y = (W51).alloc (madeM n) := ⟨_, rfl⟩
        try dsimp only [madeM] at hW52
        rw [← hW52]
        have hb52 : Below (W51).heap.size (W51) W52 := by rw [hW52]; exact below1 _ _
        have s52 : Hid (W52.heap.size = (W51).heap.size + 1) := by rw [hW52]; simp [Hid]
        have g52 : Hid (W52.heap[(W51).heap.size]? = some (madeM n)) := by rw [hW52]; exact heap_alloc_new _ _
        clear hW52
        have Kx52 : Hid (Below w1.heap.size w1 W52) := Lib.hid (Kx51.out.trans (hb52.mono Kx51.out.size))
        have g52x8 : Hid (W52.heap[(w.heap.size + 1)]? = some (.map #[] 0)) := Lib.hid ((hb52.block _ (Array.getElem?_eq_some_iff.1 g51x8.out).1).trans g51x8.out)
        have g52x3 : Hid (W52.heap[(W49).heap.size]? = some (madeM n)) := Lib.hid ((hb52.block _ (Array.getElem?_eq_some_iff.1 g51x3.out).1).trans g51x3.out)
        clear hb52
        refine hK.out _ _ (fun _ => HSw.out _ Kx52.out) (fun hHeld => ?_)
        have hHeld := hHeld (by decide)
        clear hK K
        try simp only [Act.put, List.setIfInBounds_toArray, List.set_cons_zero, List.set_cons_succ]
        refine wpAnyM_take (i := 9) (v := ?vm17) rfl (by kernel_rfl) (by decide) (by kernel_rfl) (by kernel_rfl) (by kernel_rfl) (fun _ _ _ h => h) (Or.inl ⟨by rfl, ?hm17⟩) (by assumption) ?_
        case hm17 => (intro w hSw; (try dsimp only at hSw); go_simp; first | done | with_reducible rfl)
        try simp only [Act.put, List.setIfInBounds_toArray, List.set_cons_zero, List.set_cons_succ]
        refine wpAnyM_one (i := 10) (by kernel_rfl) rfl (fun K hK => ?_)
        go_simp
        obtain ⟨wy, hwy⟩ : ∃ y, y = (W52).alloc (.cells (recB (W49).heap.size (W51).heap.size n (w.heap.size + 1)) 130) := ⟨_, rfl⟩
        rw [← hwy]
        have hby : Below (W52).heap.size (W52) wy := by rw [hwy]; exact below1 _ _
        have gy : Hid (wy.heap[(W52).heap.size]? = some (.cells (recA (W49).heap.size (W51).heap.size n (w.heap.size + 1)) 130)) := by rw [hwy, ← recB_eq]; exact heap_alloc_new _ _
        clear hwy
        have Ky : Hid (Below w1.heap.size w1 wy) := Lib.hid (Kx52.out.trans (hby.mono Kx52.out.size))
        have gy8 : Hid (wy.heap[(w.heap.size + 1)]? = some (.map #[] 0)) := Lib.hid ((hby.block _ (Array.getElem?_eq_some_iff.1 g52x8.out).1).trans g52x8.out)
        have gy3 : Hid (wy.heap[(W49).heap.size]? = some (madeM n)) := Lib.hid ((hby.block _ (Array.getElem?_eq_some_iff.1 g52x3.out).1).trans g52x3.out)
        have gy7 : Hid (wy.heap[(W51).heap.size]? = some (madeM n)) := Lib.hid ((hby.block _ (Array.getElem?_eq_some_iff.1 g52.out).1).trans g52.out)
        refine hK.out _ _ (fun _ => HSw.out _ Ky.out) (fun hHeld => ?_)
        have hHeld := hHeld (by decide)
        clear hK K
        try simp only [Act.put, List.setIfInBounds_toArray, List.set_cons_zero, List.set_cons_succ]
        refine wpAnyM_one (i := 11) (by kernel_rfl) rfl (fun K hK => ?_)
        go_simp
        refine hK.out _ _ (fun h => absurd h (by decide)) (fun _ => ?_)
        clear hK K
        try simp only [Act.put, List.setIfInBounds_toArray, List.set_cons_zero, List.set_cons_succ]
        refine wpAnyM_done (by kernel_rfl) ?_ _
        have ks := Kx52.out.size
        have e48 := s48.out
        have e49 := s49.out
        have e50 := s50.out
        have e51 := s51.out
        have e52 := s52.out
        have l8 := (Array.getElem?_eq_some_iff.1 g52x8.out).1
        have l3 := (Array.getElem?_eq_some_iff.1 g52x3.out).1
        have l7 := (Array.getElem?_eq_some_iff.1 g52.out).1
        exact ⟨(W52).heap.size, (W49).heap.size, (W51).heap.size, (w.heap.size + 1), _, _, _, _, _, _, _, _, _, _, _, ⟨⟨by omega, by omega, by omega, by omega⟩, ⟨by omega, by omega, by omega, by omega, by omega, by omega⟩, Ky, gy, gy3, gy7, gy8⟩, rfl⟩
      · skip
        go_simp
        go_at_call 64
        refine (size_is ao an n n co cn W49 hn6).mono ?_
        rintro e W54 ⟨rfl, hW54⟩
        have hb54 : Below (W49).heap.size (W49) W54 := by rw [← hW54]; exact below1 _ _
        have s54 : Hid (W54.heap.size = (W49).heap.size + 1) := by rw [← hW54]; simp [Hid]
        clear hW54
        have Kx54 : Hid (Below w1.heap.size w1 W54) := Lib.hid (Kx49.out.trans (hb54.mono Kx49.out.size))
        have g54x8 : Hid (W54.heap[(w.heap.size + 1)]? = some (.map #[] 0)) := Lib.hid ((hb54.block _ (Array.getElem?_eq_some_iff.1 g49x8.out).1).trans g49x8.out)
        clear hb54
        go_wp2_with fail
        refine hK.out _ _ (fun _ => HSw.out _ Kx54.out) (fun hHeld => ?_)
        have hHeld := hHeld (by decide)
        clear hK K
        try simp only [Act.put, List.setIfInBounds_toArray, List.set_cons_zero, List.set_cons_succ]
        refine wpAnyM_two (i := 3) (j := 7) (by kernel_rfl) rfl rfl (fun K hK => ?_) (fun K hK => ?_)
        · skip
          go_simp
          obtain ⟨W55, hW55⟩ : ∃ y, y = (W54).alloc (madeM n) := ⟨_, rfl⟩
          try dsimp only [madeM] at hW55
          rw [← hW55]
          have hb55 : Below (W54).heap.size (W54) W55 := by rw [hW55]; exact below1 _ _
          have s55 : Hid (W55.heap.size = (W54).heap.size + 1) := by rw [hW55]; simp [Hid]
          have g55 : Hid (W55.heap[(W54).heap.size]? = some (madeM n)) := by rw [hW55]; exact heap_alloc_new _ _
          clear hW55
          have Kx55 : Hid (Below w1.heap.size w1 W55) := Lib.hid (Kx54.out.trans (hb55.mono Kx54.out.size))
          have g55x8 : Hid (W55.heap[(w.heap.size + 1)]? = some (.map #[] 0)) := Lib.hid ((hb55.block _ (Array.getElem?_eq_some_iff.1 g54x8.out).1).trans g54x8.out)
          clear hb55
          refine hK.out _ _ (fun _ => HSw.out _ Kx55.out) (fun hHeld => ?_)
          have hHeld := hHeld (by decide)
          clear hK K
          try simp only [Act.put, List.setIfInBounds_toArray, List.set_cons_zero, List.set_cons_succ]
          refine wpAnyM_one (i := 7) (by kernel_rfl) rfl (fun K hK => ?_)
          go_simp
          obtain ⟨W56, hW56⟩ : ∃ y, y = (W55).alloc (madeM n) := ⟨_, rfl⟩
          try dsimp only [madeM] at hW56
          rw [← hW56]
          have hb56 : Below (W55).heap.size (W55) W56 := by rw [hW56]; exact below1 _ _
          have s56 : Hid (W56.heap.size = (W55).heap.size + 1) := by rw [hW56]; simp [Hid]
          have g56 : Hid (W56.heap[(W55).heap.size]? = some (madeM n)) := by rw [hW56]; exact heap_alloc_new _ _
          clear hW56
          have Kx56 : Hid (Below w1.heap.size w1 W56) := Lib.hid (Kx55.out.trans (hb56.mono Kx55.out.size))
          have g56x8 : Hid (W56.heap[(w.heap.size + 1)]? = some (.map #[] 0)) := Lib.hid ((hb56.block _ (Array.getElem?_eq_some_iff.1 g55x8.out).1).trans g55x8.out)
          have g56x3 : Hid (W56.heap[(W54).heap.size]? = some (madeM n)) := Lib.hid ((hb56.block _ (Array.getElem?_eq_some_iff.1 g55.out).1).trans g55.out)
          clear hb56
          refine hK.out _ _ (fun _ => HSw.out _ Kx56.out) (fun hHeld => ?_)
          have hHeld := hHeld (by decide)
          clear hK K
          try simp only [Act.put, List.setIfInBounds_toArray, List.set_cons_zero, List.set_cons_succ]
          refine wpAnyM_take (i := 9) (v := ?vm18) rfl (by kernel_rfl) (by decide) (by kernel_rfl) (by kernel_rfl) (by kernel_rfl) (fun _ _ _ h => h) (Or.inl ⟨by rfl, ?hm18⟩) (by assumption) ?_
          case hm18 => (intro w hSw; (try dsimp only at hSw); go_simp; first | done | with_reducible rfl)
          try simp only [Act.put, List.setIfInBounds_toArray, List.set_cons_zero, List.set_cons_succ]
          refine wpAnyM_one (i := 10) (by kernel_rfl) rfl (fun K hK => ?_)
          go_simp
          obtain ⟨wy, hwy⟩ : ∃ y, y = (W56).alloc (.cells (recB (W54).heap.size (W55).heap.size n (w.heap.size + 1)) 130) := ⟨_, rfl⟩
          rw [← hwy]
          have hby : Below (W56).heap.size (W56) wy := by rw [hwy]; exact below1 _ _
          have gy : Hid (wy.heap[(W56).heap.size]? = some (.cells (recA (W54).heap.size (W55).heap.size n (w.heap.size + 1)) 130)) := by rw [hwy, ← recB_eq]; exact heap_alloc_new _ _
          clear hwy
          have Ky : Hid (Below w1.heap.size w1 wy) := Lib.hid (Kx56.out.trans (hby.mono Kx56.out.size))
          have gy8 : Hid (wy.heap[(w.heap.size + 1)]? = some (.map #[] 0)) := Lib.hid ((hby.block _ (Array.getElem?_eq_some_iff.1 g56x8.out).1).trans g56x8.out)
          have gy3 : Hid (wy.heap[(W54).heap.size]? = some (madeM n)) := Lib.hid ((hby.block _ (Array.getElem?_eq_some_iff.1 g56x3.out).1).trans g56x3.out)
          have gy7 : Hid (wy.heap[(W55).heap.size]? = some (madeM n)) := Lib.hid ((hby.block _ (Array.getElem?_eq_some_iff.1 g56.out).1).trans g56.out)
          refine hK.out _ _ (fun _ => HSw.out _ Ky.out) (fun hHeld => ?_)
          have hHeld := hHeld (by decide)
          clear hK K
          try simp only [Act.put, List.setIfInBounds_toArray, List.set_cons_zero, List.set_cons_succ]
          refine wpAnyM_one (i := 11) (by kernel_rfl) rfl (fun K hK => ?_)
          go_simp
          refine hK.out _ _ (fun h => absurd h (by decide)) (fun _ => ?_)
          clear hK K
          try simp only [Act.put, List.setIfInBounds_toArray, List.set_cons_zero, List.set_cons_succ]
          refine wpAnyM_done (by kernel_rfl) ?_ _
          have ks := Kx56.out.size
          have e48 := s48.out
          have e49 := s49.out
          have e54 := s54.out
          have e55 := s55.out
          have e56 := s56.out
          have l8 := (Array.getElem?_eq_some_iff.1 g56x8.out).1
          have l3 := (Array.getElem?_eq_some_iff.1 g56x3.out).1
          have l7 := (Array.getElem?_eq_some_iff.1 g56.out).1
          exact ⟨(W56).heap.size, (W54).heap.size, (W55).heap.size, (w.heap.size + 1), _, _, _, _, _, _, _, _, _, _, _, ⟨⟨by omega, by omega, by omega, by omega⟩, ⟨by omega, by omega, by omega, by omega, by omega, by omega⟩, Ky, gy, gy3, gy7, gy8⟩, rfl⟩
        · skip
          go_simp
          obtain ⟨W58, hW58⟩ : ∃ y, y = (W54).alloc (madeM n) := ⟨_, rfl⟩
          try dsimp only [madeM] at hW58
          rw [← hW58]
          have hb58 : Below (W54).heap.size (W54) W58 := by rw [hW58]; exact below1 _ _
          have s58 : Hid (W58.heap.size = (W54).heap.size + 1) := by rw [hW58]; simp [Hid]
          have g58 : Hid (W58.heap[(W54).heap.size]? = some (madeM n)) := by rw [hW58]; exact heap_alloc_new _ _
          clear hW58
          have Kx58 : Hid (Below w1.heap.size w1 W58) := Lib.hid (Kx54.out.trans (hb58.mono Kx54.out.size))
          have g58x8 : Hid (W58.heap[(w.heap.size + 1)]? = some (.map #[] 0)) := Lib.hid ((hb58.block _ (Array.getElem?_eq_some_iff.1 g54x8.out).1).trans g54x8.out)
          clear hb58
          refine hK.out _ _ (fun _ => HSw.out _ Kx58.out) (fun hHeld => ?_)
          have hHeld := hHeld (by decide)
          clear hK K
          try simp only [Act.put, List.setIfInBounds_toArray, List.set_cons_zero, List.set_cons_succ]
          refine wpAnyM_one (i := 3) (by kernel_rfl) rfl (fun K hK => ?_)
          go_simp
          obtain ⟨W59, hW59⟩ : ∃ y, y = (W58).alloc (madeM n) := ⟨_, rfl⟩
          try dsimp only [madeM] at hW59
          rw [← hW59]
          have hb59 : Below (W58).heap.size (W58) W59 := by rw [hW59]; exact below1 _ _
          have s59 : Hid (W59.heap.size = (W58).heap.size + 1) := by rw [hW59]; simp [Hid]
          have g59 : Hid (W59.heap[(W58).heap.size]? = some (madeM n)) := by rw [hW59]; exact heap_alloc_new _ _
          clear hW59
          have Kx59 : Hid (Below w1.heap.size w1 W59) := Lib.hid (Kx58.out.trans (hb59.mono Kx58.out.size))
          have g59x8 : Hid (W59.heap[(w.heap.size + 1)]? = some (.map #[] 0)) := Lib.hid ((hb59.block _ (Array.getElem?_eq_some_iff.1 g58x8.out).1).trans g58x8.out)
          have g59x7 : Hid (W59.heap[(W54).heap.size]? = some (madeM n)) := Lib.hid ((hb59.block _ (Array.getElem?_eq_some_iff.1 g58.out).1).trans g58.out)
          clear hb59
          refine hK.out _ _ (fun _ => HSw.out _ Kx59.out) (fun hHeld => ?_)
          have hHeld := hHeld (by decide)
          clear hK K
          try simp only [Act.put, List.setIfInBounds_toArray, List.set_cons_zero, List.set_cons_succ]
          refine wpAnyM_take (i := 9) (v := ?vm19) rfl (by kernel_rfl) (by decide) (by kernel_rfl) (by kernel_rfl) (by kernel_rfl) (fun _ _ _ h => h) (Or.inl ⟨by rfl, ?hm19⟩) (by assumption) ?_
          case hm19 => (intro w hSw; (try dsimp only at hSw); go_simp; first | done | with_reducible rfl)
          try simp only [Act.put, List.setIfInBounds_toArray, List.set_cons_zero, List.set_cons_succ]
          refine wpAnyM_one (i := 10) (by kernel_rfl) rfl (fun K hK => ?_)
          go_simp
          obtain ⟨wy, hwy⟩ : ∃ y, y = (W59).alloc (.cells (recB (W58).heap.size (W54).heap.size n (w.heap.size + 1)) 130) := ⟨_, rfl⟩
          rw [← hwy]
          have hby : Below (W59).heap.size (W59) wy := by rw [hwy]; exact below1 _ _
          have gy : Hid (wy.heap[(W59).heap.size]? = some (.cells (recA (W58).heap.size (W54).heap.size n (w.heap.size + 1)) 130)) := by rw [hwy, ← recB_eq]; exact heap_alloc_new _ _
          clear hwy
          have Ky : Hid (Below w1.heap.size w1 wy) := Lib.hid (Kx59.out.trans (hby.mono Kx59.out.size))
          have gy8 : Hid (wy.heap[(w.heap.size + 1)]? = some (.map #[] 0)) := Lib.hid ((hby.block _ (Array.getElem?_eq_some_iff.1 g59x8.out).1).trans g59x8.out)
          have gy7 : Hid (wy.heap[(W54).heap.size]? = some (madeM n)) := Lib.hid ((hby.block _ (Array.getElem?_eq_some_iff.1 g59x7.out).1).trans g59x7.out)
          have gy3 : Hid (wy.heap[(W58).heap.size]? = some (madeM n)) := Lib.hid ((hby.block _ (Array.getElem?_eq_some_iff.1 g59.out).1).trans g59.out)
          refine hK.out _ _ (fun _ => HSw.out _ Ky.out) (fun hHeld => ?_)
          have hHeld := hHeld (by decide)
          clear hK K
          try simp only [Act.put, List.setIfInBounds_toArray, List.set_cons_zero, List.set_cons_succ]
          refine wpAnyM_one (i := 11) (by kernel_rfl) rfl (fun K hK => ?_)
          go_simp
          refine hK.out _ _ (fun h => absurd h (by decide)) (fun _ => ?_)
          clear hK K
          try simp only [Act.put, List.setIfInBounds_toArray, List.set_cons_zero, List.set_cons_succ]
          refine wpAnyM_done (by kernel_rfl) ?_ _
          have ks := Kx59.out.size
          have e48 := s48.out
          have e49 := s49.out
          have e54 := s54.out
          have e58 := s58.out
          have e59 := s59.out
          have l8 := (Array.getElem?_eq_some_iff.1 g59x8.out).1
          have l7 := (Array.getElem?_eq_some_iff.1 g59x7.out).1
          have l3 := (Array.getElem?_eq_some_iff.1 g59.out).1
          exact ⟨(W59).heap.size, (W58).heap.size, (W54).heap.size, (w.heap.size + 1), _, _, _, _, _, _, _, _, _, _, _, ⟨⟨by omega, by omega, by omega, by omega⟩, ⟨by omega, by omega, by omega, by omega, by omega, by omega⟩, Ky, gy, gy3, gy7, gy8⟩, rfl⟩
  case rest1 =>
    rintro a' wx ⟨b, nb, pb, kb, u7, u8, u9, u10, u11, u12, u13, u14, u15, u16, u17, ⟨⟨hb1, hb2, hb3, hb4⟩, hap, Bx, G0, G3, G7, G8⟩, rfl⟩
    have hl0 := (Array.getElem?_eq_some_iff.1 G0.out).1
    have hl3 := (Array.getElem?_eq_some_iff.1 G3.out).1
    have hl7 := (Array.getElem?_eq_some_iff.1 G7.out).1
    have hl8 := (Array.getElem?_eq_some_iff.1 G8.out).1
    have HR0 : Hid (RecAt wx b n nb pb kb (ownK O 0) (ownK P 0) (succK zss 0) (predK zss 0)) := by rw [ownK_zero, ownK_zero, succK_zero, predK_zero]; exact rec_new G0.out G3.out G7.out G8.out hn1 hn2 hap
    have HM0 : Hid (MemoAt wx kb Q) := MemoAt.new Q G8.out
    have HE0 : Hid (FreeAt wx b ∧ FreeAt wx nb ∧ FreeAt wx pb) := ⟨⟨hl0, fun k => by simp [World.frozen?, G0.out]⟩, made_free G3.out, made_free G7.out⟩
    have HFx := Lib.hid (HF1.out.below Bx.out)
    have hsx := Bx.out.size
    have HBx := Lib.hid (HB1.out.trans (Bx.out.mono HB1.out.size))
    have t2 := HFx.out.c2
    clear HSw Kd G0 G3 G7 G8 Bx HF1 HB1
    go_wp2
    clear t2
    go_loopw [21] (fun iv wr => ∃ k : Nat, k ≤ n ∧ iv = .int .i64 k ∧ Hid (RecAt wr b n nb pb kb (ownK O k) (ownK P k) (succK zss k) (predK zss k)) ∧ Hid (MemoAt wr kb Q) ∧ Hid (FreeAt wr b ∧ FreeAt wr nb ∧ FreeAt wr pb) ∧ Hid (Only (fun x => x = b ∨ x = nb ∨ x = pb ∨ x = kb ∨ wx.heap.size ≤ x) wx wr)) (fun iv _ => n - (intOf iv).toNat)
    case atStart => exact ⟨0, Nat.zero_le _, rfl, HR0, HM0, HE0, Only.refl _ _⟩
    case round =>
      obtain ⟨k, hk, rfl, HRk, HMk, HEk, HOk⟩ := hrel
      have HBk : Hid (Below w.heap.size w wr) := HBx.out.trans (HOk.out.below (B := w.heap.size) (by have := HBx.out.size; omega) (fun x hx => by omega))
      have HFk := Lib.hid (HFx.out.only HOk.out (by omega))
      have hsk := HOk.out.size
      by_cases hlt : k < n
      · have hi1 : (k : Int) < n := by omega
        have hk0 : (0 : Int) ≤ (k : Int) := by omega
        obtain ⟨HLo, HLz, HLp⟩ := HL.out
        obtain ⟨pb0, po, hpa, hpc⟩ := (HI3.out.below HBk.out).cell (by omega)
        obtain ⟨ob, oo, hoa, hoc⟩ := HI1.out.cell (by omega)
        obtain ⟨eb, eo, hea, hec⟩ := HI2.out.cell (by omega)
        have p1 := hpc k (by omega)
        have HOC := Lib.hid (hoc k (by omega))
        have HEC := Lib.hid (hec k (by omega))
        have HRW := Lib.hid (HI2.out.rows k (by omega))
        obtain ⟨i, hi, hi2⟩ : ∃ i : Nat, nth O k = (i : Int) ∧ i < 2 := by
          rcases (HV.out k hlt).1 with h | h
          · exact ⟨0, h, by omega⟩
          · exact ⟨1, h, by omega⟩
        obtain ⟨q, hq, hq2⟩ : ∃ q : Nat, nth P k = (q : Int) ∧ q < 41 := by
          have := HPr.out k hlt
          exact ⟨(nth P k).toNat, by omega, by omega⟩
        rw [hq] at p1
        rw [hi] at HOC
        have HI := Lib.hid hi
        have HQ := Lib.hid hq
        subst hpa hoa hea
        have i0 : (0 : Int) ≤ (i : Int) := by omega
        have i1 : (i : Int) < 2 := by omega
        have q0 : (0 : Int) ≤ (q : Int) := by omega
        have q1 : (q : Int) < 41 := by omega
        have hob := World.block_lt_of_cell? _ _ HOC.out
        have heb := World.block_lt_of_cell? _ _ HEC.out
        clear hpc hoc hec hi hq
        go_wp2_with fail
        obtain ⟨wa, hwa⟩ : ∃ y, y = wr.alloc (.cells #[.int .i64 (k : Int)] 2) := ⟨_, rfl⟩
        rw [← hwa]
        have Ba : Hid (Below wr.heap.size wr wa) := by rw [hwa]; exact below1 _ _
        have ca : wa.cell? ⟨wr.heap.size, 0, none⟩ = some (.int .i64 (k : Int)) := by rw [hwa]; exact (boxed_at _ _ _ rfl).cell
        clear hwa p1
        refine (maskOf_one ca (by omega)).mono ?_
        rintro e wb ⟨rfl, hbb⟩
        have Bb := Lib.hid (Ba.out.trans (hbb.mono Ba.out.size))
        clear hbb ca Ba
        go_upto_region 6 with fail
        obtain ⟨wc, hwc⟩ : ∃ y, y = wb.alloc (maskO (oneB k)) := ⟨_, rfl⟩
        rw [← hwc]
        have Bc : Hid (Below wr.heap.size wr wc) := by rw [hwc]; exact Bb.out.trans ((below1 _ _).mono Bb.out.size)
        have bO : Hid (MaskAt wc wb.heap.size (oneB k)) := by rw [hwc]; exact MaskAt.new _ _
        have hsb := Bb.out.size
        have hsc : wc.heap.size = wb.heap.size + 1 := by rw [hwc]; simp
        clear hwc Bb
        obtain ⟨gw, hgw⟩ : ∃ g, g = wb.heap.size := ⟨_, rfl⟩
        rw [← hgw] at bO ⊢
        have hg1 : wr.heap.size ≤ gw := by omega
        have hg2 : gw < wc.heap.size := by omega
        have hg3 : wr.heap.size ≤ wc.heap.size := by omega
        clear hgw hsc hsb
        have hltk := HRk.out.lt
        have Rc := Lib.hid (HRk.out.below Bc.out)
        have Fb := Lib.hid (HEk.out.1.below Bc.out)
        have Fn := Lib.hid (HEk.out.2.1.below Bc.out)
        have Fp := Lib.hid (HEk.out.2.2.below Bc.out)
        have Mc := Lib.hid (HMk.out.below Bc.out)
        have Fl := Lib.hid (HFk.out.below Bc.out)
        have BWc := Lib.hid (HBk.out.trans (Bc.out.mono HBk.out.size))
        have HOc : Hid (wc.cell? ⟨ob, oo + k, none⟩ = some (.int .i64 (i : Int))) := (BWc.out.cell (p := ⟨ob, oo + k, none⟩) hob).trans HOC.out
        have HS6 : Hid (∀ W', Only (fun x => x = b ∨ wc.heap.size ≤ x) wc W' → W'.cell? ⟨w.heap.size, 0, none⟩ = some (.slice (some ⟨ob, oo, none⟩) n co) ∧ W'.cell? ⟨ob, oo + k, none⟩ = some (.int .i64 (i : Int)) ∧ W'.cell? ⟨gw, 0, none⟩ = some (.int .u64 (maskW (oneB k) 0)) ∧ W'.cell? ⟨gw, 1, none⟩ = some (.int .u64 (maskW (oneB k) 1)) ∧ W'.cell? ⟨gw, 2, none⟩ = some (.int .u64 (maskW (oneB k) 2)) ∧ W'.cell? ⟨gw, 3, none⟩ = some (.int .u64 (maskW (oneB k) 3))) := fun W' hb => by
          have m := bO.out.only hb (by omega)
          exact ⟨(Fl.out.only hb (by omega)).c0, (World.cell?_of_block (hb.block ob (World.block_lt_of_cell? _ _ HOc.out) (by omega))).trans HOc.out, m.c0, m.c1, m.c2, m.c3⟩
        refine wp_region_M (S := (fun W' => W'.cell? ⟨w.heap.size, 0, none⟩ = some (.slice (some ⟨ob, oo, none⟩) n co) ∧ W'.cell? ⟨ob, oo + k, none⟩ = some (.int .i64 (i : Int)) ∧ W'.cell? ⟨gw, 0, none⟩ = some (.int .u64 (maskW (oneB k) 0)) ∧ W'.cell? ⟨gw, 1, none⟩ = some (.int .u64 (maskW (oneB k) 1)) ∧ W'.cell? ⟨gw, 2, none⟩ = some (.int .u64 (maskW (oneB k) 2)) ∧ W'.cell? ⟨gw, 3, none⟩ = some (.int .u64 (maskW (oneB k) 3)))) (m := 24) (by kernel_rfl) (HS6.out _ ((Only.of_below (Below.refl _ _).drew).mono fun x hx => .inr hx)) (fun hHeld => ?_)
        obtain ⟨wz, hwz⟩ : ∃ y, y = wc.drew := ⟨_, rfl⟩
        rw [← hwz] at hHeld ⊢
        have Kz : Hid (Below wc.heap.size wc wz) := by rw [hwz]; exact (Below.refl _ _).drew
        clear hwz
        refine wpAnyM_take (i := 0) (v := ?vm20) rfl (by kernel_rfl) (by decide) (by kernel_rfl) (by kernel_rfl) (by kernel_rfl) (fun _ _ _ h => h) (Or.inl ⟨by rfl, ?hm20⟩) (by assumption) ?_
        case hm20 => (intro w hSw; (try dsimp only at hSw); go_simp; first | done | with_reducible rfl)
        try simp only [Act.put, List.setIfInBounds_toArray, List.set_cons_zero, List.set_cons_succ]
        refine wpAnyM_take (i := 1) (v := ?vm21) rfl (by kernel_rfl) (by decide) (by kernel_rfl) (by kernel_rfl) (by kernel_rfl) (fun _ _ _ h => h) (Or.inl ⟨by rfl, ?hm21⟩) (by assumption) ?_
        case hm21 => (intro w hSw; (try dsimp only at hSw); go_simp; first | done | with_reducible rfl)
        try simp only [Act.put, List.setIfInBounds_toArray, List.set_cons_zero, List.set_cons_succ]
        refine wpAnyM_take (i := 2) (v := ?vm22) rfl (by kernel_rfl) (by decide) (by kernel_rfl) (by kernel_rfl) (by kernel_rfl) (fun _ _ _ h => h) (Or.inl ⟨by rfl, ?hm22⟩) (by assumption) ?_
        case hm22 => (intro w hSw; (try dsimp only at hSw); go_simp; first | done | with_reducible rfl)
        try simp only [Act.put, List.setIfInBounds_toArray, List.set_cons_zero, List.set_cons_succ]
        refine wpAnyM_take (i := 3) (v := ?vm23) rfl (by kernel_rfl) (by decide) (by kernel_rfl) (by kernel_rfl) (by kernel_rfl) (fun _ _ _ h => h) (Or.inl ⟨by rfl, ?hm23⟩) (by assumption) ?_
        case hm23 => (intro w hSw; (try dsimp only at hSw); go_simp; first | done | with_reducible rfl)
        try simp only [Act.put, List.setIfInBounds_toArray, List.set_cons_zero, List.set_cons_succ]
        refine wpAnyM_take (i := 4) (v := ?vm24) rfl (by kernel_rfl) (by decide) (by kernel_rfl) (by kernel_rfl) (by kernel_rfl) (fun _ _ _ h => h) (Or.inl ⟨by rfl, ?hm24⟩) (by assumption) ?_
        case hm24 => (intro w hSw; (try dsimp only at hSw); go_simp; first | done | with_reducible rfl)
        try simp only [Act.put, List.setIfInBounds_toArray, List.set_cons_zero, List.set_cons_succ]
        refine wpAnyM_take (i := 5) (v := ?vm25) rfl (by kernel_rfl) (by decide) (by kernel_rfl) (by kernel_rfl) (by kernel_rfl) (fun _ _ _ h => h) (Or.inl ⟨by rfl, ?hm25⟩) (by assumption) ?_
        case hm25 => (intro w hSw; (try dsimp only at hSw); go_simp; first | done | with_reducible rfl)
        try simp only [Act.put, List.setIfInBounds_toArray, List.set_cons_zero, List.set_cons_succ]
        refine wpAnyM_take (i := 6) (v := ?vm26) rfl (by kernel_rfl) (by decide) (by kernel_rfl) (by kernel_rfl) (by kernel_rfl) (fun _ _ _ h => h) (Or.inl ⟨by rfl, ?hm26⟩) (by assumption) ?_
        case hm26 => (intro w hSw; (try dsimp only at hSw); go_simp; first | done | with_reducible rfl)
        try simp only [Act.put, List.setIfInBounds_toArray, List.set_cons_zero, List.set_cons_succ]
        refine wpAnyM_take (i := 7) (v := ?vm27) rfl (by kernel_rfl) (by decide) (by kernel_rfl) (by kernel_rfl) (by kernel_rfl) (fun _ _ _ h => h) (Or.inl ⟨by rfl, ?hm27⟩) (by assumption) ?_
        case hm27 => (intro w hSw; (try dsimp only at hSw); go_simp; first | done | with_reducible rfl)
        try simp only [Act.put, List.setIfInBounds_toArray, List.set_cons_zero, List.set_cons_succ]
        refine wpAnyM_take (i := 8) (v := ?vm28) rfl (by kernel_rfl) (by decide) (by kernel_rfl) (by kernel_rfl) (by kernel_rfl) (fun _ _ _ h => h) (Or.inl ⟨by rfl, ?hm28⟩) (by assumption) ?_
        case hm28 => (intro w hSw; (try dsimp only at hSw); go_simp; first | done | with_reducible rfl)
        try simp only [Act.put, List.setIfInBounds_toArray, List.set_cons_zero, List.set_cons_succ]
        refine wpAnyM_take (i := 9) (v := ?vm29) rfl (by kernel_rfl) (by decide) (by kernel_rfl) (by kernel_rfl) (by kernel_rfl) (fun _ _ _ h => h) (Or.inl ⟨by rfl, ?hm29⟩) (by assumption) ?_
        case hm29 => (intro w hSw; (try dsimp only at hSw); go_simp; first | done | with_reducible rfl)
        try simp only [Act.put, List.setIfInBounds_toArray, List.set_cons_zero, List.set_cons_succ]
        refine wpAnyM_take (i := 10) (v := ?vm30) rfl (by kernel_rfl) (by decide) (by kernel_rfl) (by kernel_rfl) (by kernel_rfl) (fun _ _ _ h => h) (Or.inl ⟨by rfl, ?hm30⟩) (by assumption) ?_
        case hm30 => (intro w hSw; (try dsimp only at hSw); go_simp; first | done | with_reducible rfl)
        try simp only [Act.put, List.setIfInBounds_toArray, List.set_cons_zero, List.set_cons_succ]
        refine wpAnyM_take (i := 11) (v := ?vm31) rfl (by kernel_rfl) (by decide) (by kernel_rfl) (by kernel_rfl) (by kernel_rfl) (fun _ _ _ h => h) (Or.inl ⟨by rfl, ?hm31⟩) (by assumption) ?_
        case hm31 => (intro w hSw; (try dsimp only at hSw); go_simp; first | done | with_reducible rfl)
        try simp only [Act.put, List.setIfInBounds_toArray, List.set_cons_zero, List.set_cons_succ]
        refine wpAnyM_take (i := 12) (v := ?vm32) rfl (by kernel_rfl) (by decide) (by kernel_rfl) (by kernel_rfl) (by kernel_rfl) (fun _ _ _ h => h) (Or.inl ⟨by rfl, ?hm32⟩) (by assumption) ?_
        case hm32 => (intro w hSw; (try dsimp only at hSw); go_simp; first | done | with_reducible rfl)
        try simp only [Act.put, List.setIfInBounds_toArray, List.set_cons_zero, List.set_cons_succ]
        refine wpAnyM_take (i := 13) (v := ?vm33) rfl (by kernel_rfl) (by decide) (by kernel_rfl) (by kernel_rfl) (by kernel_rfl) (fun _ _ _ h => h) (Or.inl ⟨by rfl, ?hm33⟩) (by assumption) ?_
        case hm33 => (intro w hSw; (try dsimp only at hSw); go_simp; first | done | with_reducible rfl)
        try simp only [Act.put, List.setIfInBounds_toArray, List.set_cons_zero, List.set_cons_succ]
        refine wpAnyM_take (i := 14) (v := ?vm34) rfl (by kernel_rfl) (by decide) (by kernel_rfl) (by kernel_rfl) (by kernel_rfl) (fun _ _ _ h => h) (Or.inl ⟨by rfl, ?hm34⟩) (by assumption) ?_
        case hm34 => (intro w hSw; (try dsimp only at hSw); go_simp; first | done | with_reducible rfl)
        try simp only [Act.put, List.setIfInBounds_toArray, List.set_cons_zero, List.set_cons_succ]
        refine wpAnyM_take (i := 15) (v := ?vm35) rfl (by kernel_rfl) (by decide) (by kernel_rfl) (by kernel_rfl) (by kernel_rfl) (fun _ _ _ h => h) (Or.inl ⟨by rfl, ?hm35⟩) (by assumption) ?_
        case hm35 => (intro w hSw; (try dsimp only at hSw); go_simp; first | done | with_reducible rfl)
        try simp only [Act.put, List.setIfInBounds_toArray, List.set_cons_zero, List.set_cons_succ]
        refine wpAnyM_take (i := 16) (v := ?vm36) rfl (by kernel_rfl) (by decide) (by kernel_rfl) (by kernel_rfl) (by kernel_rfl) (fun _ _ _ h => h) (Or.inl ⟨by rfl, ?hm36⟩) (by assumption) ?_
        case hm36 => (intro w hSw; (try dsimp only at hSw); go_simp; first | done | with_reducible rfl)
        try simp only [Act.put, List.setIfInBounds_toArray, List.set_cons_zero, List.set_cons_succ]
        refine wpAnyM_take (i := 18) (v := ?vm37) rfl (by kernel_rfl) (by decide) (by kernel_rfl) (by kernel_rfl) (by kernel_rfl) (fun _ _ _ h => h) (Or.inl ⟨by rfl, ?hm37⟩) (by assumption) ?_
        case hm37 => (intro w hSw; (try dsimp only at hSw); go_simp; first | done | with_reducible rfl)
        try simp only [Act.put, List.setIfInBounds_toArray, List.set_cons_zero, List.set_cons_succ]
        refine wpAnyM_take (i := 20) (v := ?vm38) rfl (by kernel_rfl) (by decide) (by kernel_rfl) (by kernel_rfl) (by kernel_rfl) (fun _ _ _ h => h) (Or.inl ⟨by rfl, ?hm38⟩) (by assumption) ?_
        case hm38 => (intro w hSw; (try dsimp only at hSw); go_simp; first | done | with_reducible rfl)
        try simp only [Act.put, List.setIfInBounds_toArray, List.set_cons_zero, List.set_cons_succ]
        refine wpAnyM_take (i := 21) (v := ?vm39) rfl (by kernel_rfl) (by decide) (by kernel_rfl) (by kernel_rfl) (by kernel_rfl) (fun _ _ _ h => h) (Or.inl ⟨by rfl, ?hm39⟩) (by assumption) ?_
        case hm39 => (intro w hSw; (try dsimp only at hSw); go_simp; first | done | with_reducible rfl)
        try simp only [Act.put, List.setIfInBounds_toArray, List.set_cons_zero, List.set_cons_succ]
        have R := Rc.out.below Kz.out
        have y1 := R.own i hi2 1 (by omega)
        have y2 := R.own i hi2 2 (by omega)
        have y3 := R.own i hi2 3 (by omega)
        have y0 := R.own i hi2 0 (by omega)
        rw [Nat.add_zero] at y0
        clear R
        refine wpAnyM_one (i := 17) (by kernel_rfl) rfl (fun K hK => ?_)
        go_simp
        refine hK.out _ _ (fun _ => HS6.out _ ((Only.of_below Kz.out).mono fun x hx => .inr hx)) (fun hHeld => ?_)
        have hHeld := hHeld (by decide)
        clear hK K
        try simp only [Act.put, List.setIfInBounds_toArray, List.set_cons_zero, List.set_cons_succ]
        clear y0 y1 y2 y3
        refine wpAnyM_one (i := 19) (by kernel_rfl) rfl (fun K hK => ?_)
        go_simp
        go_at_call 107
        refine (mask_with _ _).mono ?_
        rintro e Wa ⟨rfl, hb⟩
        have Ka := Lib.hid (Kz.out.trans (hb.mono Kz.out.size))
        clear hb
        go_wp2_with fail
        refine hK.out _ _ (fun _ => HS6.out _ ((Only.of_below Ka.out).mono fun x hx => .inr hx)) (fun hHeld => ?_)
        have hHeld := hHeld (by decide)
        clear hK K
        try simp only [Act.put, List.setIfInBounds_toArray, List.set_cons_zero, List.set_cons_succ]
        refine wpAnyM_take (i := 22) (v := ?vm40) rfl (by kernel_rfl) (by decide) (by kernel_rfl) (by kernel_rfl) (by kernel_rfl) (fun _ _ _ h => h) (Or.inl ⟨by rfl, ?hm40⟩) (by assumption) ?_
        case hm40 => (intro w hSw; (try dsimp only at hSw); go_simp; first | done | with_reducible rfl)
        try simp only [Act.put, List.setIfInBounds_toArray, List.set_cons_zero, List.set_cons_succ]
        have R := Rc.out.below Ka.out
        have y1 := R.own i hi2 1 (by omega)
        have y2 := R.own i hi2 2 (by omega)
        have y3 := R.own i hi2 3 (by omega)
        have y0 := R.own i hi2 0 (by omega)
        rw [Nat.add_zero] at y0
        have FA := Fb.out.below Ka.out
        have f0 := FA.2 (i * 4)
        have f1 := FA.2 (i * 4 + 1)
        have f2 := FA.2 (i * 4 + 2)
        have f3 := FA.2 (i * 4 + 3)
        have mq := Lib.hid (R.putOwn hi2 (orB (ownK O k i) (oneB k)))
        have fq := Lib.hid FA
        clear R FA hHeld
        refine wpAnyM_one (i := 23) (by kernel_rfl) rfl (fun K hK => ?_)
        go_simp
        refine hK.out _ _ (fun _ => HS6.out _ ((((Only.of_below Ka.out).mono fun x hx => .inr hx : Only (fun x => x = b ∨ wc.heap.size ≤ x) wc Wa)).trans (only_put4 (S := fun x => x = b ∨ wc.heap.size ≤ x) (Only.refl _ Wa) (.inl rfl) (.int .u64 (maskW (orB (ownK O k i) (oneB k)) 0)) (.int .u64 (maskW (orB (ownK O k i) (oneB k)) 1)) (.int .u64 (maskW (orB (ownK O k i) (oneB k)) 2)) (.int .u64 (maskW (orB (ownK O k i) (oneB k)) 3)) (i * 4)))) (fun hHeld => ?_)
        have hHeld := hHeld (by decide)
        clear hK K
        try simp only [Act.put, List.setIfInBounds_toArray, List.set_cons_zero, List.set_cons_succ]
        clear hHeld
        refine wpAnyM_done (by kernel_rfl) ?_ _
        obtain ⟨wd, hwd⟩ : ∃ y, y = ((((Wa.setCell ⟨b, i * 4, none⟩ (.int .u64 (maskW (orB (ownK O k i) (oneB k)) 0))).setCell ⟨b, i * 4 + 1, none⟩ (.int .u64 (maskW (orB (ownK O k i) (oneB k)) 1))).setCell ⟨b, i * 4 + 2, none⟩ (.int .u64 (maskW (orB (ownK O k i) (oneB k)) 2))).setCell ⟨b, i * 4 + 3, none⟩ (.int .u64 (maskW (orB (ownK O k i) (oneB k)) 3))) := ⟨_, rfl⟩
        rw [← hwd]
        have Rd : Hid (RecAt wd b n nb pb kb (ownK O (k + 1)) (ownK P k) (succK zss k) (predK zss k)) := by rw [hwd, ← ownK_put HI.out]; exact mq.out
        have hod : Only (fun x => x = b) Wa wd := by rw [hwd]; exact only_put4 (S := fun x => x = b) (Only.refl _ Wa) rfl _ _ _ _ _
        have Fbd : Hid (FreeAt wd b) := by rw [hwd]; exact (((fq.out.set _ _).set _ _).set _ _).set _ _
        have hka := Ka.out.size
        have Od : Hid (Only (fun x => x = b ∨ wc.heap.size ≤ x) wc wd) := ((Only.of_below Ka.out).mono fun x hx => .inr hx).trans (hod.mono fun x hx => .inl hx)
        clear hwd hod y0 y1 y2 y3 f0 f1 f2 f3 mq fq HS6 Kz Ka
        have hsd := Od.out.size
        have Fnd := Lib.hid (Fn.out.only Od.out (by omega))
        have Fpd := Lib.hid (Fp.out.only Od.out (by omega))
        have Md := Lib.hid (Mc.out.only Od.out (by omega))
        have bOd := Lib.hid (bO.out.only Od.out (by omega))
        have Fld := Lib.hid (Fl.out.only Od.out (by omega))
        have HS7 : Hid (∀ W', Only (fun x => x = b ∨ wd.heap.size ≤ x) wd W' → W'.cell? ⟨gw, 0, none⟩ = some (.int .u64 (maskW (oneB k) 0)) ∧ W'.cell? ⟨gw, 1, none⟩ = some (.int .u64 (maskW (oneB k) 1)) ∧ W'.cell? ⟨gw, 2, none⟩ = some (.int .u64 (maskW (oneB k) 2)) ∧ W'.cell? ⟨gw, 3, none⟩ = some (.int .u64 (maskW (oneB k) 3))) := fun W' hb => by
          have m := bOd.out.only hb (by omega)
          exact ⟨m.c0, m.c1, m.c2, m.c3⟩
        go_wp2_with fail
        refine wp_region_M (S := (fun W' => W'.cell? ⟨gw, 0, none⟩ = some (.int .u64 (maskW (oneB k) 0)) ∧ W'.cell? ⟨gw, 1, none⟩ = some (.int .u64 (maskW (oneB k) 1)) ∧ W'.cell? ⟨gw, 2, none⟩ = some (.int .u64 (maskW (oneB k) 2)) ∧ W'.cell? ⟨gw, 3, none⟩ = some (.int .u64 (maskW (oneB k) 3)))) (m := 14) (by kernel_rfl) (HS7.out _ ((Only.of_below (Below.refl _ _).drew).mono fun x hx => .inr hx)) (fun hHeld => ?_)
        obtain ⟨wz, hwz⟩ : ∃ y, y = wd.drew := ⟨_, rfl⟩
        rw [← hwz] at hHeld ⊢
        have Kz : Hid (Below wd.heap.size wd wz) := by rw [hwz]; exact (Below.refl _ _).drew
        clear hwz
        refine wpAnyM_take (i := 0) (v := ?vm41) rfl (by kernel_rfl) (by decide) (by kernel_rfl) (by kernel_rfl) (by kernel_rfl) (fun _ _ _ h => h) (Or.inl ⟨by rfl, ?hm41⟩) (by assumption) ?_
        case hm41 => (intro w hSw; (try dsimp only at hSw); go_simp; first | done | with_reducible rfl)
        try simp only [Act.put, List.setIfInBounds_toArray, List.set_cons_zero, List.set_cons_succ]
        refine wpAnyM_take (i := 1) (v := ?vm42) rfl (by kernel_rfl) (by decide) (by kernel_rfl) (by kernel_rfl) (by kernel_rfl) (fun _ _ _ h => h) (Or.inl ⟨by rfl, ?hm42⟩) (by assumption) ?_
        case hm42 => (intro w hSw; (try dsimp only at hSw); go_simp; first | done | with_reducible rfl)
        try simp only [Act.put, List.setIfInBounds_toArray, List.set_cons_zero, List.set_cons_succ]
        refine wpAnyM_take (i := 2) (v := ?vm43) rfl (by kernel_rfl) (by decide) (by kernel_rfl) (by kernel_rfl) (by kernel_rfl) (fun _ _ _ h => h) (Or.inl ⟨by rfl, ?hm43⟩) (by assumption) ?_
        case hm43 => (intro w hSw; (try dsimp only at hSw); go_simp; first | done | with_reducible rfl)
        try simp only [Act.put, List.setIfInBounds_toArray, List.set_cons_zero, List.set_cons_succ]
        refine wpAnyM_take (i := 3) (v := ?vm44) rfl (by kernel_rfl) (by decide) (by kernel_rfl) (by kernel_rfl) (by kernel_rfl) (fun _ _ _ h => h) (Or.inl ⟨by rfl, ?hm44⟩) (by assumption) ?_
        case hm44 => (intro w hSw; (try dsimp only at hSw); go_simp; first | done | with_reducible rfl)
        try simp only [Act.put, List.setIfInBounds_toArray, List.set_cons_zero, List.set_cons_succ]
        refine wpAnyM_take (i := 4) (v := ?vm45) rfl (by kernel_rfl) (by decide) (by kernel_rfl) (by kernel_rfl) (by kernel_rfl) (fun _ _ _ h => h) (Or.inl ⟨by rfl, ?hm45⟩) (by assumption) ?_
        case hm45 => (intro w hSw; (try dsimp only at hSw); go_simp; first | done | with_reducible rfl)
        try simp only [Act.put, List.setIfInBounds_toArray, List.set_cons_zero, List.set_cons_succ]
        refine wpAnyM_take (i := 5) (v := ?vm46) rfl (by kernel_rfl) (by decide) (by kernel_rfl) (by kernel_rfl) (by kernel_rfl) (fun _ _ _ h => h) (Or.inl ⟨by rfl, ?hm46⟩) (by assumption) ?_
        case hm46 => (intro w hSw; (try dsimp only at hSw); go_simp; first | done | with_reducible rfl)
        try simp only [Act.put, List.setIfInBounds_toArray, List.set_cons_zero, List.set_cons_succ]
        refine wpAnyM_take (i := 6) (v := ?vm47) rfl (by kernel_rfl) (by decide) (by kernel_rfl) (by kernel_rfl) (by kernel_rfl) (fun _ _ _ h => h) (Or.inl ⟨by rfl, ?hm47⟩) (by assumption) ?_
        case hm47 => (intro w hSw; (try dsimp only at hSw); go_simp; first | done | with_reducible rfl)
        try simp only [Act.put, List.setIfInBounds_toArray, List.set_cons_zero, List.set_cons_succ]
        refine wpAnyM_take (i := 8) (v := ?vm48) rfl (by kernel_rfl) (by decide) (by kernel_rfl) (by kernel_rfl) (by kernel_rfl) (fun _ _ _ h => h) (Or.inl ⟨by rfl, ?hm48⟩) (by assumption) ?_
        case hm48 => (intro w hSw; (try dsimp only at hSw); go_simp; first | done | with_reducible rfl)
        try simp only [Act.put, List.setIfInBounds_toArray, List.set_cons_zero, List.set_cons_succ]
        refine wpAnyM_take (i := 10) (v := ?vm49) rfl (by kernel_rfl) (by decide) (by kernel_rfl) (by kernel_rfl) (by kernel_rfl) (fun _ _ _ h => h) (Or.inl ⟨by rfl, ?hm49⟩) (by assumption) ?_
        case hm49 => (intro w hSw; (try dsimp only at hSw); go_simp; first | done | with_reducible rfl)
        try simp only [Act.put, List.setIfInBounds_toArray, List.set_cons_zero, List.set_cons_succ]
        refine wpAnyM_take (i := 11) (v := ?vm50) rfl (by kernel_rfl) (by decide) (by kernel_rfl) (by kernel_rfl) (by kernel_rfl) (fun _ _ _ h => h) (Or.inl ⟨by rfl, ?hm50⟩) (by assumption) ?_
        case hm50 => (intro w hSw; (try dsimp only at hSw); go_simp; first | done | with_reducible rfl)
        try simp only [Act.put, List.setIfInBounds_toArray, List.set_cons_zero, List.set_cons_succ]
        have R := Rd.out.below Kz.out
        have y1 := R.lev q hq2 1 (by omega)
        have y2 := R.lev q hq2 2 (by omega)
        have y3 := R.lev q hq2 3 (by omega)
        have y0 := R.lev q hq2 0 (by omega)
        rw [Nat.add_zero] at y0
        clear R
        refine wpAnyM_one (i := 7) (by kernel_rfl) rfl (fun K hK => ?_)
        go_simp
        refine hK.out _ _ (fun _ => HS7.out _ ((Only.of_below Kz.out).mono fun x hx => .inr hx)) (fun hHeld => ?_)
        have hHeld := hHeld (by decide)
        clear hK K
        try simp only [Act.put, List.setIfInBounds_toArray, List.set_cons_zero, List.set_cons_succ]
        clear y0 y1 y2 y3
        refine wpAnyM_one (i := 9) (by kernel_rfl) rfl (fun K hK => ?_)
        go_simp
        go_at_call 107
        refine (mask_with _ _).mono ?_
        rintro e Wb ⟨rfl, hb⟩
        have Kb := Lib.hid (Kz.out.trans (hb.mono Kz.out.size))
        clear hb
        go_wp2_with fail
        refine hK.out _ _ (fun _ => HS7.out _ ((Only.of_below Kb.out).mono fun x hx => .inr hx)) (fun hHeld => ?_)
        have hHeld := hHeld (by decide)
        clear hK K
        try simp only [Act.put, List.setIfInBounds_toArray, List.set_cons_zero, List.set_cons_succ]
        refine wpAnyM_take (i := 12) (v := ?vm51) rfl (by kernel_rfl) (by decide) (by kernel_rfl) (by kernel_rfl) (by kernel_rfl) (fun _ _ _ h => h) (Or.inl ⟨by rfl, ?hm51⟩) (by assumption) ?_
        case hm51 => (intro w hSw; (try dsimp only at hSw); go_simp; first | done | with_reducible rfl)
        try simp only [Act.put, List.setIfInBounds_toArray, List.set_cons_zero, List.set_cons_succ]
        have R := Rd.out.below Kb.out
        have y1 := R.lev q hq2 1 (by omega)
        have y2 := R.lev q hq2 2 (by omega)
        have y3 := R.lev q hq2 3 (by omega)
        have y0 := R.lev q hq2 0 (by omega)
        rw [Nat.add_zero] at y0
        have FA := Fbd.out.below Kb.out
        have f0 := FA.2 (8 + q * 4)
        have f1 := FA.2 (8 + q * 4 + 1)
        have f2 := FA.2 (8 + q * 4 + 2)
        have f3 := FA.2 (8 + q * 4 + 3)
        have mq := Lib.hid (R.putLev hq2 (orB (ownK P k q) (oneB k)))
        have fq := Lib.hid FA
        clear R FA hHeld
        refine wpAnyM_one (i := 13) (by kernel_rfl) rfl (fun K hK => ?_)
        go_simp
        refine hK.out _ _ (fun _ => HS7.out _ ((((Only.of_below Kb.out).mono fun x hx => .inr hx : Only (fun x => x = b ∨ wd.heap.size ≤ x) wd Wb)).trans (only_put4 (S := fun x => x = b ∨ wd.heap.size ≤ x) (Only.refl _ Wb) (.inl rfl) (.int .u64 (maskW (orB (ownK P k q) (oneB k)) 0)) (.int .u64 (maskW (orB (ownK P k q) (oneB k)) 1)) (.int .u64 (maskW (orB (ownK P k q) (oneB k)) 2)) (.int .u64 (maskW (orB (ownK P k q) (oneB k)) 3)) (8 + q * 4)))) (fun hHeld => ?_)
        have hHeld := hHeld (by decide)
        clear hK K
        try simp only [Act.put, List.setIfInBounds_toArray, List.set_cons_zero, List.set_cons_succ]
        clear hHeld
        refine wpAnyM_done (by kernel_rfl) ?_ _
        obtain ⟨we, hwe⟩ : ∃ y, y = ((((Wb.setCell ⟨b, 8 + q * 4, none⟩ (.int .u64 (maskW (orB (ownK P k q) (oneB k)) 0))).setCell ⟨b, 8 + q * 4 + 1, none⟩ (.int .u64 (maskW (orB (ownK P k q) (oneB k)) 1))).setCell ⟨b, 8 + q * 4 + 2, none⟩ (.int .u64 (maskW (orB (ownK P k q) (oneB k)) 2))).setCell ⟨b, 8 + q * 4 + 3, none⟩ (.int .u64 (maskW (orB (ownK P k q) (oneB k)) 3))) := ⟨_, rfl⟩
        rw [← hwe]
        have Re : Hid (RecAt we b n nb pb kb (ownK O (k + 1)) (ownK P (k + 1)) (succK zss k) (predK zss k)) := by rw [hwe, ← ownK_put HQ.out]; exact mq.out
        have hoe : Only (fun x => x = b) Wb we := by rw [hwe]; exact only_put4 (S := fun x => x = b) (Only.refl _ Wb) rfl _ _ _ _ _
        have Fbe : Hid (FreeAt we b) := by rw [hwe]; exact (((fq.out.set _ _).set _ _).set _ _).set _ _
        have hkb := Kb.out.size
        have Oe : Hid (Only (fun x => x = b ∨ wd.heap.size ≤ x) wd we) := ((Only.of_below Kb.out).mono fun x hx => .inr hx).trans (hoe.mono fun x hx => .inl hx)
        clear hwe hoe y0 y1 y2 y3 f0 f1 f2 f3 mq fq HS7 Kz Kb
        have hse := Oe.out.size
        have Fne := Lib.hid (Fnd.out.only Oe.out (by omega))
        have Fpe := Lib.hid (Fpd.out.only Oe.out (by omega))
        have Me := Lib.hid (Md.out.only Oe.out (by omega))
        have Fle := Lib.hid (Fld.out.only Oe.out (by omega))
        have Owe : Hid (Only (fun x => x = b ∨ x = nb ∨ x = pb ∨ x = kb ∨ wx.heap.size ≤ x) wx we) := ((HOk.out.trans ((Only.of_below Bc.out).mono fun x hx => by omega)).trans (Od.out.mono fun x hx => by omega)).trans (Oe.out.mono fun x hx => by omega)
        have Bwe : Hid (Below w.heap.size w we) := HBx.out.trans (Owe.out.below (B := w.heap.size) (by have := HBx.out.size; omega) (fun x hx => by omega))
        have e1 := Fle.out.c1
        have e2 := (Bwe.out.cell (p := ⟨eb, eo + k, none⟩) heb).trans HEC.out
        have hr16 := (HV.out k hlt).2.2.1
        have hk1 : (k : Int) < (n : Int) := by omega
        clear Rc Fb Fn Fp Mc Fl HOc bO Rd Fbd Fnd Fpd Md bOd Fld Od Oe Bc BWc
        go_wp2_with fail
        refine (maskOf_is (C k) (HRW.out.below Bwe.out) (fun x hx => by
          obtain ⟨u, hu, hun⟩ := HR.out.inG k (by omega) x hx
          exact ⟨u, hu, by omega⟩) (by omega)).mono ?_
        rintro e wf ⟨rfl, hbf⟩
        have Bf := Lib.hid hbf
        clear hbf e1 e2
        have hsf := Bf.out.size
        have hT := HT.out.below (Bwe.out.trans (Bf.out.mono Bwe.out.size))
        have hT0 := HT.out.lt
        have HTf := Lib.hid hT
        have hltE := Re.out.lt
        clear hT
        go_wp2_with fail
        refine (lead_is (Q' := Q) HTf.out (Re.out.below Bf.out) (Me.out.below Bf.out) (Fpe.out.below Bf.out) (Fne.out.below Bf.out) (by omega) hlt (fun x hx => by rw [succK_at] at hx; cases hx) (fun x hx => by
          obtain ⟨u, hu, hun⟩ := HR.out.inG k (by omega) _ (ofL_iff.1 hx)
          have := Int.natCast_inj.1 hu
          omega)).mono ?_
        rintro e wg ⟨Pd', ⟨uu, rfl⟩, hR', hP', hM', hFn', hFp', ho'⟩
        have Rg : Hid (RecAt wg b n nb pb kb (ownK O (k + 1)) (ownK P (k + 1)) (succK zss (k + 1)) (predK zss (k + 1))) := by
          have h := hR'.preds_congr (Pd' := predK zss (k + 1)) fun u hu => predK_put (hP' u hu)
          rw [succK_put] at h
          exact h
        have Mg := Lib.hid hM'
        have Fg : Hid (FreeAt wg b ∧ FreeAt wg nb ∧ FreeAt wg pb) := ⟨(Fbe.out.below Bf.out).only ho' (by omega), hFn', hFp'⟩
        have Og : Hid (Only (fun x => x = b ∨ x = nb ∨ x = pb ∨ x = kb ∨ wx.heap.size ≤ x) wx wg) := (Owe.out.trans ((Only.of_below Bf.out).mono fun x hx => by omega)).trans (ho'.mono fun x hx => by omega)
        clear hR' hP' hM' hFn' hFp' ho'
        go_wp2
        go_roundw
        case rel => exact ⟨k + 1, by omega, by go_num, Rg, Mg, Fg, Og⟩
        case measure => simp [intOf]; omega
      · obtain rfl : k = n := by omega
        have hi1 : ¬ (k : Int) < k := by omega
        go_wp2
        go_ret
        exact ⟨b, rfl, nb, pb, kb, HRk.out, HEk.out.2.1, HEk.out.2.2, HMk.out, ⟨by omega, by omega, by omega, by omega⟩, HBk.out⟩
end
end Go.Proofs.YtphkgnpkcfbnkabDoor
