import Derived.Test.YtglbkbiphcgidaaDoorPm18
namespace Go.Proofs.YtglbkbiphcgidaaDoor
section
open Go.RowKit Go.Shelf
attribute [local go_sem] Oper.semAt_some
set_option linter.unusedSimpArgs false in
set_option maxRecDepth 100000 in
set_option maxHeartbeats 16000000 in
theorem abY {w : World} {v : Value} {O P : List Int} {ah : List (List Int)} (Q : (Nat → Bool) → Value → Prop) (hT : dS w) (h : gX w v O ah P) (hp : fZ O ah P = true) :
 Calls Tryd.prog 62 #[v] w fun e w' => ∃ b nb pb kb, e = .returned (.pointer (some ⟨b, 0, none⟩)) ∧ dX w' b O.length nb pb kb (dB O O.length) (dB P O.length) (lu ah O.length) (lC ah O.length) ∧ eY w' nb ∧ eY w' pb ∧ dH w' kb Q ∧ (w.heap.size ≤ b ∧ w.heap.size ≤ nb ∧ w.heap.size ≤ pb ∧ w.heap.size ≤ kb) ∧ Below w.heap.size w w' := by
 obtain ⟨hA, hPl, PI⟩ := iY.1 hp
 have hzl := hA.2.2.1
 obtain ⟨ao, an, ap, co, cn, cp, A, C, rfl, h1, h2, h3⟩ := h
 have HI1 := Lib.hid h1
 have HI2 := Lib.hid h2
 have HI3 := Lib.hid h3
 have HR := Lib.hid (jL hA)
 obtain ⟨n, hn⟩ : ∃ n, n = O.length := ⟨_, rfl⟩
 have hn1 : 0 < n := by have := hA.1; omega
 have hn2 : n ≤ 256 := by have := hA.2.1; omega
 have uO : n ≤ 17592186044416 := by omega
 have HV : Hid (∀ k, k < n → zF O ah k) := fun k hk => hA.2.2.2 k (by omega)
 have HPr : Hid (∀ k, k < n → 0 ≤ nth P k ∧ nth P k ≤ 40) := fun k hk => PI _ (jo (by omega))
 rw [← hn] at hPl hzl
 have HL : Hid (O.length = n ∧ ah.length = n ∧ P.length = n) := ⟨hn.symm, hzl, hPl⟩
 rw [← hn, hzl, hPl]
 have HT := Lib.hid hT
 clear hA PI h1 h2 h3 hn hzl hPl hp hT
 go_enter Tryd.func62, Tryd.ntmps62
 go_wp2_with fail
 obtain ⟨w1, hw1⟩ : ∃ y, y = w.alloc (.cells #[.slice ao n co, .slice an n cn, .slice ap n cp] 35) := ⟨_, rfl⟩
 rw [← hw1]
 have HB1 : Hid (Below w.heap.size w w1) := by rw [hw1]; exact aA _ _
 have BR : Hid (jD w1 w.heap.size 35 (.slice ao n co) (.slice an n cn) (.slice ap n cp)) := by rw [hw1]; exact jD.new _ _ _ _ _
 have hs1 : w1.heap.size = w.heap.size + 1 := by rw [hw1]; simp
 clear hw1
 have aC : Hid (∀ W', Below w1.heap.size w1 W' → W'.cell? ⟨w.heap.size, 0, none⟩ = some (.slice ao n co) ∧ W'.cell? ⟨w.heap.size, 1, none⟩ = some (.slice an n cn)) := fun W' hb => ⟨(BR.out.below hb).c0, (BR.out.below hb).c1⟩
 have Kd : Hid (Below w1.heap.size w1 w1.drew) := (Below.refl _ _).drew
 refine wp_cut (fun a' wx => ∃ (b nb pb kb : Nat) (u7 u8 u9 u10 u11 u12 u13 u14 u15 u16 iT : Value), ((w1.heap.size ≤ b ∧ w1.heap.size ≤ nb ∧ w1.heap.size ≤ pb ∧ w1.heap.size ≤ kb) ∧ (b ≠ nb ∧ b ≠ pb ∧ b ≠ kb ∧ nb ≠ pb ∧ nb ≠ kb ∧ pb ≠ kb) ∧ Hid (Below w1.heap.size w1 wx) ∧ Hid (wx.heap[b]? = some (.cells (je nb pb n kb) 129)) ∧ Hid (wx.heap[nb]? = some (aJ n)) ∧ Hid (wx.heap[pb]? = some (aJ n)) ∧ Hid (wx.heap[kb]? = some (.map #[] 0))) ∧ a' = { tmps := #[.agg #[.slice ao n co, .slice an n cn, .slice ap n cp], .pointer (some ⟨w.heap.size, 0, none⟩), .pointer none, .pointer (some ⟨b, 0, none⟩), undef, undef, undef, u7, u8, u9, u10, u11, u12, u13, u14, u15, u16, iT, undef, undef, undef, undef, undef, undef, undef, undef, undef, undef, undef, undef, undef, undef, undef, undef, undef, undef, undef, undef, undef, undef, undef, undef, undef, undef, undef, undef, undef, undef, undef, undef, undef, undef, undef, undef, undef, undef, undef, undef, undef, undef, undef, undef, undef, undef, undef, undef, undef, undef, undef, undef, undef, undef, undef, undef, undef, undef, undef], defers := [] }) ?DW ?DX
 case DW =>
  have hmk := fun W => aia W n hn2
  have hmm := ah9
  refine jB (S := (fun W' => W'.cell? ⟨w.heap.size, 0, none⟩ = some (.slice ao n co) ∧ W'.cell? ⟨w.heap.size, 1, none⟩ = some (.slice an n cn))) (m := 11) (by kernel_rfl) (aC.out _ Kd.out) (fun hHd => ?_)
  refine aB (i := 0) (v := ?rW) rfl (by kernel_rfl) (by decide) (by kernel_rfl) (by kernel_rfl) (by kernel_rfl) (fun _ _ _ h => h) (Or.inl ⟨by rfl, ?hm1⟩) (by assumption) ?_
  case hm1 => (intro w hSw; (try dsimp only at hSw); go_simp; first | done | with_reducible rfl)
  try simp only [Act.put, g1, g2, g3]
  refine aB (i := 1) (v := ?rZ) rfl (by kernel_rfl) (by decide) (by kernel_rfl) (by kernel_rfl) (by kernel_rfl) (fun _ _ _ h => h) (Or.inl ⟨by rfl, ?hm2⟩) (by assumption) ?_
  case hm2 => (intro w hSw; (try dsimp only at hSw); go_simp; first | done | with_reducible rfl)
  try simp only [Act.put, g1, g2, g3]
  refine aB (i := 4) (v := ?su) rfl (by kernel_rfl) (by decide) (by kernel_rfl) (by kernel_rfl) (by kernel_rfl) (fun _ _ _ h => h) (Or.inl ⟨by rfl, ?iR⟩) (by assumption) ?_
  case iR => (intro w hSw; (try dsimp only at hSw); go_simp; first | done | with_reducible rfl)
  try simp only [Act.put, g1, g2, g3]
  refine aB (i := 5) (v := ?uF) rfl (by kernel_rfl) (by decide) (by kernel_rfl) (by kernel_rfl) (by kernel_rfl) (fun _ _ _ h => h) (Or.inl ⟨by rfl, ?hm4⟩) (by assumption) ?_
  case hm4 => (intro w hSw; (try dsimp only at hSw); go_simp; first | done | with_reducible rfl)
  try simp only [Act.put, g1, g2, g3]
  have sd : w1.drew.heap.size = w1.heap.size := rfl
  refine jA (i := 2) (j := 8) (by kernel_rfl) rfl rfl (fun K hK => ?_) (fun K hK => ?_)
  · skip
    go_simp
    go_at_call 63
    refine (rG ao an n n co cn w1.drew uO).mono ?_
    rintro e W1 ⟨rfl, hW1⟩
    have hb1 : Below (w1.drew).heap.size (w1.drew) W1 := by rw [← hW1]; exact aA _ _
    have s1 : Hid (W1.heap.size = (w1.drew).heap.size + 1) := by rw [← hW1]; simp [Hid]
    clear hW1
    have iU : Hid (Below w1.heap.size w1 W1) := Lib.hid (Kd.out.trans (hb1.mono Kd.out.size))
    clear hb1
    go_wp2_with fail
    refine hK.out _ _ (fun _ => aC.out _ iU.out) (fun hHd => ?_)
    have hHd := hHd (by decide)
    clear hK K
    try simp only [Act.put, g1, g2, g3]
    refine abN (i := 3) (j := 6) (l := 8) (by kernel_rfl) rfl rfl rfl (fun K hK => ?_) (fun K hK => ?_) (fun K hK => ?_)
    · skip
      go_simp
      obtain ⟨W2, hW2⟩ : ∃ y, y = (W1).alloc (aJ n) := ⟨_, rfl⟩
      try dsimp only [aJ] at hW2
      rw [← hW2]
      have hb2 : Below (W1).heap.size (W1) W2 := by rw [hW2]; exact aA _ _
      have s2 : Hid (W2.heap.size = (W1).heap.size + 1) := by rw [hW2]; simp [Hid]
      have g2 : Hid (W2.heap[(W1).heap.size]? = some (aJ n)) := by rw [hW2]; exact heap_alloc_new _ _
      clear hW2
      have iq : Hid (Below w1.heap.size w1 W2) := Lib.hid (iU.out.trans (hb2.mono iU.out.size))
      clear hb2
      refine hK.out _ _ (fun _ => aC.out _ iq.out) (fun hHd => ?_)
      have hHd := hHd (by decide)
      clear hK K
      try simp only [Act.put, g1, g2, g3]
      refine jA (i := 6) (j := 8) (by kernel_rfl) rfl rfl (fun K hK => ?_) (fun K hK => ?_)
      · skip
        go_simp
        go_at_call 63
        refine (rG ao an n n co cn W2 uO).mono ?_
        rintro e W3 ⟨rfl, hW3⟩
        have hb3 : Below (W2).heap.size (W2) W3 := by rw [← hW3]; exact aA _ _
        have s3 : Hid (W3.heap.size = (W2).heap.size + 1) := by rw [← hW3]; simp [Hid]
        clear hW3
        have lW : Hid (Below w1.heap.size w1 W3) := Lib.hid (iq.out.trans (hb3.mono iq.out.size))
        have PK : Hid (W3.heap[(W1).heap.size]? = some (aJ n)) := Lib.hid ((hb3.block _ (Array.getElem?_eq_some_iff.1 g2.out).1).trans g2.out)
        clear hb3
        go_wp2_with fail
        refine hK.out _ _ (fun _ => aC.out _ lW.out) (fun hHd => ?_)
        have hHd := hHd (by decide)
        clear hK K
        try simp only [Act.put, g1, g2, g3]
        refine jA (i := 7) (j := 8) (by kernel_rfl) rfl rfl (fun K hK => ?_) (fun K hK => ?_)
        · skip
          go_simp
          obtain ⟨W4, fG⟩ : ∃ y, y = (W3).alloc (aJ n) := ⟨_, rfl⟩
          try dsimp only [aJ] at fG
          rw [← fG]
          have hb4 : Below (W3).heap.size (W3) W4 := by rw [fG]; exact aA _ _
          have s4 : Hid (W4.heap.size = (W3).heap.size + 1) := by rw [fG]; simp [Hid]
          have g4 : Hid (W4.heap[(W3).heap.size]? = some (aJ n)) := by rw [fG]; exact heap_alloc_new _ _
          clear fG
          have pX : Hid (Below w1.heap.size w1 W4) := Lib.hid (lW.out.trans (hb4.mono lW.out.size))
          have abZ : Hid (W4.heap[(W1).heap.size]? = some (aJ n)) := Lib.hid ((hb4.block _ (Array.getElem?_eq_some_iff.1 PK.out).1).trans PK.out)
          clear hb4
          refine hK.out _ _ (fun _ => aC.out _ pX.out) (fun hHd => ?_)
          have hHd := hHd (by decide)
          clear hK K
          try simp only [Act.put, g1, g2, g3]
          refine aG (i := 8) (by kernel_rfl) rfl (fun K hK => ?_)
          go_simp
          obtain ⟨W5, uP⟩ : ∃ y, y = (W4).alloc (.map #[] 0) := ⟨_, rfl⟩
          try dsimp only [aJ] at uP
          rw [← uP]
          have hb5 : Below (W4).heap.size (W4) W5 := by rw [uP]; exact aA _ _
          have s5 : Hid (W5.heap.size = (W4).heap.size + 1) := by rw [uP]; simp [Hid]
          have g5 : Hid (W5.heap[(W4).heap.size]? = some (.map #[] 0)) := by rw [uP]; exact heap_alloc_new _ _
          clear uP
          have jR : Hid (Below w1.heap.size w1 W5) := Lib.hid (pX.out.trans (hb5.mono pX.out.size))
          have VX : Hid (W5.heap[(W1).heap.size]? = some (aJ n)) := Lib.hid ((hb5.block _ (Array.getElem?_eq_some_iff.1 abZ.out).1).trans abZ.out)
          have VY : Hid (W5.heap[(W3).heap.size]? = some (aJ n)) := Lib.hid ((hb5.block _ (Array.getElem?_eq_some_iff.1 g4.out).1).trans g4.out)
          clear hb5
          refine hK.out _ _ (fun _ => aC.out _ jR.out) (fun hHd => ?_)
          have hHd := hHd (by decide)
          clear hK K
          try simp only [Act.put, g1, g2, g3]
          refine aB (i := 9) (v := ?wW) rfl (by kernel_rfl) (by decide) (by kernel_rfl) (by kernel_rfl) (by kernel_rfl) (fun _ _ _ h => h) (Or.inl ⟨by rfl, ?jQ⟩) (by assumption) ?_
          case jQ => (intro w hSw; (try dsimp only at hSw); go_simp; first | done | with_reducible rfl)
          try simp only [Act.put, g1, g2, g3]
          refine aG (i := 10) (by kernel_rfl) rfl (fun K hK => ?_)
          go_simp
          obtain ⟨wy, hwy⟩ : ∃ y, y = (W5).alloc (.cells (nU (W1).heap.size (W3).heap.size n (W4).heap.size) 129) := ⟨_, rfl⟩
          rw [← hwy]
          have hby : Below (W5).heap.size (W5) wy := by rw [hwy]; exact aA _ _
          have gy : Hid (wy.heap[(W5).heap.size]? = some (.cells (je (W1).heap.size (W3).heap.size n (W4).heap.size) 129)) := by rw [hwy, ← oM]; exact heap_alloc_new _ _
          clear hwy
          have Ky : Hid (Below w1.heap.size w1 wy) := Lib.hid (jR.out.trans (hby.mono jR.out.size))
          have iy : Hid (wy.heap[(W1).heap.size]? = some (aJ n)) := Lib.hid ((hby.block _ (Array.getElem?_eq_some_iff.1 VX.out).1).trans VX.out)
          have iC : Hid (wy.heap[(W3).heap.size]? = some (aJ n)) := Lib.hid ((hby.block _ (Array.getElem?_eq_some_iff.1 VY.out).1).trans VY.out)
          have iD : Hid (wy.heap[(W4).heap.size]? = some (.map #[] 0)) := Lib.hid ((hby.block _ (Array.getElem?_eq_some_iff.1 g5.out).1).trans g5.out)
          refine hK.out _ _ (fun _ => aC.out _ Ky.out) (fun hHd => ?_)
          have hHd := hHd (by decide)
          clear hK K
          try simp only [Act.put, g1, g2, g3]
          refine aG (i := 11) (by kernel_rfl) rfl (fun K hK => ?_)
          go_simp
          refine hK.out _ _ (fun h => absurd h (by decide)) (fun _ => ?_)
          clear hK K
          try simp only [Act.put, g1, g2, g3]
          refine dA (by kernel_rfl) ?_ _
          have ks := jR.out.size
          have e1 := s1.out
          have e2 := s2.out
          have e3 := s3.out
          have e4 := s4.out
          have e5 := s5.out
          have l3 := (Array.getElem?_eq_some_iff.1 VX.out).1
          have l7 := (Array.getElem?_eq_some_iff.1 VY.out).1
          have l8 := (Array.getElem?_eq_some_iff.1 g5.out).1
          exact ⟨(W5).heap.size, (W1).heap.size, (W3).heap.size, (W4).heap.size, _, _, _, _, _, _, _, _, _, _, _, ⟨⟨by omega, by omega, by omega, by omega⟩, ⟨by omega, by omega, by omega, by omega, by omega, by omega⟩, Ky, gy, iy, iC, iD⟩, rfl⟩
        · skip
          go_simp
          obtain ⟨W7, uQ⟩ : ∃ y, y = (W3).alloc (.map #[] 0) := ⟨_, rfl⟩
          try dsimp only [aJ] at uQ
          rw [← uQ]
          have hb7 : Below (W3).heap.size (W3) W7 := by rw [uQ]; exact aA _ _
          have s7 : Hid (W7.heap.size = (W3).heap.size + 1) := by rw [uQ]; simp [Hid]
          have g7 : Hid (W7.heap[(W3).heap.size]? = some (.map #[] 0)) := by rw [uQ]; exact heap_alloc_new _ _
          clear uQ
          have pY : Hid (Below w1.heap.size w1 W7) := Lib.hid (lW.out.trans (hb7.mono lW.out.size))
          have ab1 : Hid (W7.heap[(W1).heap.size]? = some (aJ n)) := Lib.hid ((hb7.block _ (Array.getElem?_eq_some_iff.1 PK.out).1).trans PK.out)
          clear hb7
          refine hK.out _ _ (fun _ => aC.out _ pY.out) (fun hHd => ?_)
          have hHd := hHd (by decide)
          clear hK K
          try simp only [Act.put, g1, g2, g3]
          refine aG (i := 7) (by kernel_rfl) rfl (fun K hK => ?_)
          go_simp
          obtain ⟨W8, Hl⟩ : ∃ y, y = (W7).alloc (aJ n) := ⟨_, rfl⟩
          try dsimp only [aJ] at Hl
          rw [← Hl]
          have hb8 : Below (W7).heap.size (W7) W8 := by rw [Hl]; exact aA _ _
          have s8 : Hid (W8.heap.size = (W7).heap.size + 1) := by rw [Hl]; simp [Hid]
          have g8 : Hid (W8.heap[(W7).heap.size]? = some (aJ n)) := by rw [Hl]; exact heap_alloc_new _ _
          clear Hl
          have jS : Hid (Below w1.heap.size w1 W8) := Lib.hid (pY.out.trans (hb8.mono pY.out.size))
          have VZ : Hid (W8.heap[(W1).heap.size]? = some (aJ n)) := Lib.hid ((hb8.block _ (Array.getElem?_eq_some_iff.1 ab1.out).1).trans ab1.out)
          have V3 : Hid (W8.heap[(W3).heap.size]? = some (.map #[] 0)) := Lib.hid ((hb8.block _ (Array.getElem?_eq_some_iff.1 g7.out).1).trans g7.out)
          clear hb8
          refine hK.out _ _ (fun _ => aC.out _ jS.out) (fun hHd => ?_)
          have hHd := hHd (by decide)
          clear hK K
          try simp only [Act.put, g1, g2, g3]
          refine aB (i := 9) (v := ?yF) rfl (by kernel_rfl) (by decide) (by kernel_rfl) (by kernel_rfl) (by kernel_rfl) (fun _ _ _ h => h) (Or.inl ⟨by rfl, ?kV⟩) (by assumption) ?_
          case kV => (intro w hSw; (try dsimp only at hSw); go_simp; first | done | with_reducible rfl)
          try simp only [Act.put, g1, g2, g3]
          refine aG (i := 10) (by kernel_rfl) rfl (fun K hK => ?_)
          go_simp
          obtain ⟨wy, hwy⟩ : ∃ y, y = (W8).alloc (.cells (nU (W1).heap.size (W7).heap.size n (W3).heap.size) 129) := ⟨_, rfl⟩
          rw [← hwy]
          have hby : Below (W8).heap.size (W8) wy := by rw [hwy]; exact aA _ _
          have gy : Hid (wy.heap[(W8).heap.size]? = some (.cells (je (W1).heap.size (W7).heap.size n (W3).heap.size) 129)) := by rw [hwy, ← oM]; exact heap_alloc_new _ _
          clear hwy
          have Ky : Hid (Below w1.heap.size w1 wy) := Lib.hid (jS.out.trans (hby.mono jS.out.size))
          have iy : Hid (wy.heap[(W1).heap.size]? = some (aJ n)) := Lib.hid ((hby.block _ (Array.getElem?_eq_some_iff.1 VZ.out).1).trans VZ.out)
          have iD : Hid (wy.heap[(W3).heap.size]? = some (.map #[] 0)) := Lib.hid ((hby.block _ (Array.getElem?_eq_some_iff.1 V3.out).1).trans V3.out)
          have iC : Hid (wy.heap[(W7).heap.size]? = some (aJ n)) := Lib.hid ((hby.block _ (Array.getElem?_eq_some_iff.1 g8.out).1).trans g8.out)
          refine hK.out _ _ (fun _ => aC.out _ Ky.out) (fun hHd => ?_)
          have hHd := hHd (by decide)
          clear hK K
          try simp only [Act.put, g1, g2, g3]
          refine aG (i := 11) (by kernel_rfl) rfl (fun K hK => ?_)
          go_simp
          refine hK.out _ _ (fun h => absurd h (by decide)) (fun _ => ?_)
          clear hK K
          try simp only [Act.put, g1, g2, g3]
          refine dA (by kernel_rfl) ?_ _
          have ks := jS.out.size
          have e1 := s1.out
          have e2 := s2.out
          have e3 := s3.out
          have e7 := s7.out
          have e8 := s8.out
          have l3 := (Array.getElem?_eq_some_iff.1 VZ.out).1
          have l8 := (Array.getElem?_eq_some_iff.1 V3.out).1
          have l7 := (Array.getElem?_eq_some_iff.1 g8.out).1
          exact ⟨(W8).heap.size, (W1).heap.size, (W7).heap.size, (W3).heap.size, _, _, _, _, _, _, _, _, _, _, _, ⟨⟨by omega, by omega, by omega, by omega⟩, ⟨by omega, by omega, by omega, by omega, by omega, by omega⟩, Ky, gy, iy, iC, iD⟩, rfl⟩
      · skip
        go_simp
        obtain ⟨kF, uS⟩ : ∃ y, y = (W2).alloc (.map #[] 0) := ⟨_, rfl⟩
        try dsimp only [aJ] at uS
        rw [← uS]
        have Eh : Below (W2).heap.size (W2) kF := by rw [uS]; exact aA _ _
        have s10 : Hid (kF.heap.size = (W2).heap.size + 1) := by rw [uS]; simp [Hid]
        have g10 : Hid (kF.heap[(W2).heap.size]? = some (.map #[] 0)) := by rw [uS]; exact heap_alloc_new _ _
        clear uS
        have lX : Hid (Below w1.heap.size w1 kF) := Lib.hid (iq.out.trans (Eh.mono iq.out.size))
        have ab2 : Hid (kF.heap[(W1).heap.size]? = some (aJ n)) := Lib.hid ((Eh.block _ (Array.getElem?_eq_some_iff.1 g2.out).1).trans g2.out)
        clear Eh
        refine hK.out _ _ (fun _ => aC.out _ lX.out) (fun hHd => ?_)
        have hHd := hHd (by decide)
        clear hK K
        try simp only [Act.put, g1, g2, g3]
        refine aG (i := 6) (by kernel_rfl) rfl (fun K hK => ?_)
        go_simp
        go_at_call 63
        refine (rG ao an n n co cn kF uO).mono ?_
        rintro e lD ⟨rfl, BU⟩
        have y7 : Below (kF).heap.size (kF) lD := by rw [← BU]; exact aA _ _
        have s11 : Hid (lD.heap.size = (kF).heap.size + 1) := by rw [← BU]; simp [Hid]
        clear BU
        have qh : Hid (Below w1.heap.size w1 lD) := Lib.hid (lX.out.trans (y7.mono lX.out.size))
        have ab3 : Hid (lD.heap[(W1).heap.size]? = some (aJ n)) := Lib.hid ((y7.block _ (Array.getElem?_eq_some_iff.1 ab2.out).1).trans ab2.out)
        have ab4 : Hid (lD.heap[(W2).heap.size]? = some (.map #[] 0)) := Lib.hid ((y7.block _ (Array.getElem?_eq_some_iff.1 g10.out).1).trans g10.out)
        clear y7
        go_wp2_with fail
        refine hK.out _ _ (fun _ => aC.out _ qh.out) (fun hHd => ?_)
        have hHd := hHd (by decide)
        clear hK K
        try simp only [Act.put, g1, g2, g3]
        refine aG (i := 7) (by kernel_rfl) rfl (fun K hK => ?_)
        go_simp
        obtain ⟨nX, Ho⟩ : ∃ y, y = (lD).alloc (aJ n) := ⟨_, rfl⟩
        try dsimp only [aJ] at Ho
        rw [← Ho]
        have xC : Below (lD).heap.size (lD) nX := by rw [Ho]; exact aA _ _
        have s12 : Hid (nX.heap.size = (lD).heap.size + 1) := by rw [Ho]; simp [Hid]
        have g12 : Hid (nX.heap[(lD).heap.size]? = some (aJ n)) := by rw [Ho]; exact heap_alloc_new _ _
        clear Ho
        have jT : Hid (Below w1.heap.size w1 nX) := Lib.hid (qh.out.trans (xC.mono qh.out.size))
        have V4 : Hid (nX.heap[(W1).heap.size]? = some (aJ n)) := Lib.hid ((xC.block _ (Array.getElem?_eq_some_iff.1 ab3.out).1).trans ab3.out)
        have V6 : Hid (nX.heap[(W2).heap.size]? = some (.map #[] 0)) := Lib.hid ((xC.block _ (Array.getElem?_eq_some_iff.1 ab4.out).1).trans ab4.out)
        clear xC
        refine hK.out _ _ (fun _ => aC.out _ jT.out) (fun hHd => ?_)
        have hHd := hHd (by decide)
        clear hK K
        try simp only [Act.put, g1, g2, g3]
        refine aB (i := 9) (v := ?AX) rfl (by kernel_rfl) (by decide) (by kernel_rfl) (by kernel_rfl) (by kernel_rfl) (fun _ _ _ h => h) (Or.inl ⟨by rfl, ?mV⟩) (by assumption) ?_
        case mV => (intro w hSw; (try dsimp only at hSw); go_simp; first | done | with_reducible rfl)
        try simp only [Act.put, g1, g2, g3]
        refine aG (i := 10) (by kernel_rfl) rfl (fun K hK => ?_)
        go_simp
        obtain ⟨wy, hwy⟩ : ∃ y, y = (nX).alloc (.cells (nU (W1).heap.size (lD).heap.size n (W2).heap.size) 129) := ⟨_, rfl⟩
        rw [← hwy]
        have hby : Below (nX).heap.size (nX) wy := by rw [hwy]; exact aA _ _
        have gy : Hid (wy.heap[(nX).heap.size]? = some (.cells (je (W1).heap.size (lD).heap.size n (W2).heap.size) 129)) := by rw [hwy, ← oM]; exact heap_alloc_new _ _
        clear hwy
        have Ky : Hid (Below w1.heap.size w1 wy) := Lib.hid (jT.out.trans (hby.mono jT.out.size))
        have iy : Hid (wy.heap[(W1).heap.size]? = some (aJ n)) := Lib.hid ((hby.block _ (Array.getElem?_eq_some_iff.1 V4.out).1).trans V4.out)
        have iD : Hid (wy.heap[(W2).heap.size]? = some (.map #[] 0)) := Lib.hid ((hby.block _ (Array.getElem?_eq_some_iff.1 V6.out).1).trans V6.out)
        have iC : Hid (wy.heap[(lD).heap.size]? = some (aJ n)) := Lib.hid ((hby.block _ (Array.getElem?_eq_some_iff.1 g12.out).1).trans g12.out)
        refine hK.out _ _ (fun _ => aC.out _ Ky.out) (fun hHd => ?_)
        have hHd := hHd (by decide)
        clear hK K
        try simp only [Act.put, g1, g2, g3]
        refine aG (i := 11) (by kernel_rfl) rfl (fun K hK => ?_)
        go_simp
        refine hK.out _ _ (fun h => absurd h (by decide)) (fun _ => ?_)
        clear hK K
        try simp only [Act.put, g1, g2, g3]
        refine dA (by kernel_rfl) ?_ _
        have ks := jT.out.size
        have e1 := s1.out
        have e2 := s2.out
        have e10 := s10.out
        have e11 := s11.out
        have e12 := s12.out
        have l3 := (Array.getElem?_eq_some_iff.1 V4.out).1
        have l8 := (Array.getElem?_eq_some_iff.1 V6.out).1
        have l7 := (Array.getElem?_eq_some_iff.1 g12.out).1
        exact ⟨(nX).heap.size, (W1).heap.size, (lD).heap.size, (W2).heap.size, _, _, _, _, _, _, _, _, _, _, _, ⟨⟨by omega, by omega, by omega, by omega⟩, ⟨by omega, by omega, by omega, by omega, by omega, by omega⟩, Ky, gy, iy, iC, iD⟩, rfl⟩
    · skip
      go_simp
      go_at_call 63
      refine (rG ao an n n co cn W1 uO).mono ?_
      rintro e dI ⟨rfl, V7⟩
      have ab5 : Below (W1).heap.size (W1) dI := by rw [← V7]; exact aA _ _
      have s14 : Hid (dI.heap.size = (W1).heap.size + 1) := by rw [← V7]; simp [Hid]
      clear V7
      have sJ : Hid (Below w1.heap.size w1 dI) := Lib.hid (iU.out.trans (ab5.mono iU.out.size))
      clear ab5
      go_wp2_with fail
      refine hK.out _ _ (fun _ => aC.out _ sJ.out) (fun hHd => ?_)
      have hHd := hHd (by decide)
      clear hK K
      try simp only [Act.put, g1, g2, g3]
      refine abN (i := 3) (j := 7) (l := 8) (by kernel_rfl) rfl rfl rfl (fun K hK => ?_) (fun K hK => ?_) (fun K hK => ?_)
      · skip
        go_simp
        obtain ⟨jf, Hq⟩ : ∃ y, y = (dI).alloc (aJ n) := ⟨_, rfl⟩
        try dsimp only [aJ] at Hq
        rw [← Hq]
        have ab6 : Below (dI).heap.size (dI) jf := by rw [Hq]; exact aA _ _
        have s15 : Hid (jf.heap.size = (dI).heap.size + 1) := by rw [Hq]; simp [Hid]
        have g15 : Hid (jf.heap[(dI).heap.size]? = some (aJ n)) := by rw [Hq]; exact heap_alloc_new _ _
        clear Hq
        have qY : Hid (Below w1.heap.size w1 jf) := Lib.hid (sJ.out.trans (ab6.mono sJ.out.size))
        clear ab6
        refine hK.out _ _ (fun _ => aC.out _ qY.out) (fun hHd => ?_)
        have hHd := hHd (by decide)
        clear hK K
        try simp only [Act.put, g1, g2, g3]
        refine jA (i := 7) (j := 8) (by kernel_rfl) rfl rfl (fun K hK => ?_) (fun K hK => ?_)
        · skip
          go_simp
          obtain ⟨ql, Hr⟩ : ∃ y, y = (jf).alloc (aJ n) := ⟨_, rfl⟩
          try dsimp only [aJ] at Hr
          rw [← Hr]
          have hb16 : Below (jf).heap.size (jf) ql := by rw [Hr]; exact aA _ _
          have s16 : Hid (ql.heap.size = (jf).heap.size + 1) := by rw [Hr]; simp [Hid]
          have g16 : Hid (ql.heap[(jf).heap.size]? = some (aJ n)) := by rw [Hr]; exact heap_alloc_new _ _
          clear Hr
          have D5 : Hid (Below w1.heap.size w1 ql) := Lib.hid (qY.out.trans (hb16.mono qY.out.size))
          have ab7 : Hid (ql.heap[(dI).heap.size]? = some (aJ n)) := Lib.hid ((hb16.block _ (Array.getElem?_eq_some_iff.1 g15.out).1).trans g15.out)
          clear hb16
          refine hK.out _ _ (fun _ => aC.out _ D5.out) (fun hHd => ?_)
          have hHd := hHd (by decide)
          clear hK K
          try simp only [Act.put, g1, g2, g3]
          refine aG (i := 8) (by kernel_rfl) rfl (fun K hK => ?_)
          go_simp
          obtain ⟨uT, Ht⟩ : ∃ y, y = (ql).alloc (.map #[] 0) := ⟨_, rfl⟩
          try dsimp only [aJ] at Ht
          rw [← Ht]
          have PL : Below (ql).heap.size (ql) uT := by rw [Ht]; exact aA _ _
          have s17 : Hid (uT.heap.size = (ql).heap.size + 1) := by rw [Ht]; simp [Hid]
          have g17 : Hid (uT.heap[(ql).heap.size]? = some (.map #[] 0)) := by rw [Ht]; exact heap_alloc_new _ _
          clear Ht
          have BN : Hid (Below w1.heap.size w1 uT) := Lib.hid (D5.out.trans (PL.mono D5.out.size))
          have V8 : Hid (uT.heap[(dI).heap.size]? = some (aJ n)) := Lib.hid ((PL.block _ (Array.getElem?_eq_some_iff.1 ab7.out).1).trans ab7.out)
          have V9 : Hid (uT.heap[(jf).heap.size]? = some (aJ n)) := Lib.hid ((PL.block _ (Array.getElem?_eq_some_iff.1 g16.out).1).trans g16.out)
          clear PL
          refine hK.out _ _ (fun _ => aC.out _ BN.out) (fun hHd => ?_)
          have hHd := hHd (by decide)
          clear hK K
          try simp only [Act.put, g1, g2, g3]
          refine aB (i := 9) (v := ?AZ) rfl (by kernel_rfl) (by decide) (by kernel_rfl) (by kernel_rfl) (by kernel_rfl) (fun _ _ _ h => h) (Or.inl ⟨by rfl, ?mW⟩) (by assumption) ?_
          case mW => (intro w hSw; (try dsimp only at hSw); go_simp; first | done | with_reducible rfl)
          try simp only [Act.put, g1, g2, g3]
          refine aG (i := 10) (by kernel_rfl) rfl (fun K hK => ?_)
          go_simp
          obtain ⟨wy, hwy⟩ : ∃ y, y = (uT).alloc (.cells (nU (dI).heap.size (jf).heap.size n (ql).heap.size) 129) := ⟨_, rfl⟩
          rw [← hwy]
          have hby : Below (uT).heap.size (uT) wy := by rw [hwy]; exact aA _ _
          have gy : Hid (wy.heap[(uT).heap.size]? = some (.cells (je (dI).heap.size (jf).heap.size n (ql).heap.size) 129)) := by rw [hwy, ← oM]; exact heap_alloc_new _ _
          clear hwy
          have Ky : Hid (Below w1.heap.size w1 wy) := Lib.hid (BN.out.trans (hby.mono BN.out.size))
          have iy : Hid (wy.heap[(dI).heap.size]? = some (aJ n)) := Lib.hid ((hby.block _ (Array.getElem?_eq_some_iff.1 V8.out).1).trans V8.out)
          have iC : Hid (wy.heap[(jf).heap.size]? = some (aJ n)) := Lib.hid ((hby.block _ (Array.getElem?_eq_some_iff.1 V9.out).1).trans V9.out)
          have iD : Hid (wy.heap[(ql).heap.size]? = some (.map #[] 0)) := Lib.hid ((hby.block _ (Array.getElem?_eq_some_iff.1 g17.out).1).trans g17.out)
          refine hK.out _ _ (fun _ => aC.out _ Ky.out) (fun hHd => ?_)
          have hHd := hHd (by decide)
          clear hK K
          try simp only [Act.put, g1, g2, g3]
          refine aG (i := 11) (by kernel_rfl) rfl (fun K hK => ?_)
          go_simp
          refine hK.out _ _ (fun h => absurd h (by decide)) (fun _ => ?_)
          clear hK K
          try simp only [Act.put, g1, g2, g3]
          refine dA (by kernel_rfl) ?_ _
          have ks := BN.out.size
          have e1 := s1.out
          have e14 := s14.out
          have e15 := s15.out
          have e16 := s16.out
          have e17 := s17.out
          have l3 := (Array.getElem?_eq_some_iff.1 V8.out).1
          have l7 := (Array.getElem?_eq_some_iff.1 V9.out).1
          have l8 := (Array.getElem?_eq_some_iff.1 g17.out).1
          exact ⟨(uT).heap.size, (dI).heap.size, (jf).heap.size, (ql).heap.size, _, _, _, _, _, _, _, _, _, _, _, ⟨⟨by omega, by omega, by omega, by omega⟩, ⟨by omega, by omega, by omega, by omega, by omega, by omega⟩, Ky, gy, iy, iC, iD⟩, rfl⟩
        · skip
          go_simp
          obtain ⟨qm, Hu⟩ : ∃ y, y = (jf).alloc (.map #[] 0) := ⟨_, rfl⟩
          try dsimp only [aJ] at Hu
          rw [← Hu]
          have Wl : Below (jf).heap.size (jf) qm := by rw [Hu]; exact aA _ _
          have s19 : Hid (qm.heap.size = (jf).heap.size + 1) := by rw [Hu]; simp [Hid]
          have g19 : Hid (qm.heap[(jf).heap.size]? = some (.map #[] 0)) := by rw [Hu]; exact heap_alloc_new _ _
          clear Hu
          have D6 : Hid (Below w1.heap.size w1 qm) := Lib.hid (qY.out.trans (Wl.mono qY.out.size))
          have ab8 : Hid (qm.heap[(dI).heap.size]? = some (aJ n)) := Lib.hid ((Wl.block _ (Array.getElem?_eq_some_iff.1 g15.out).1).trans g15.out)
          clear Wl
          refine hK.out _ _ (fun _ => aC.out _ D6.out) (fun hHd => ?_)
          have hHd := hHd (by decide)
          clear hK K
          try simp only [Act.put, g1, g2, g3]
          refine aG (i := 7) (by kernel_rfl) rfl (fun K hK => ?_)
          go_simp
          obtain ⟨uU, Hw⟩ : ∃ y, y = (qm).alloc (aJ n) := ⟨_, rfl⟩
          try dsimp only [aJ] at Hw
          rw [← Hw]
          have PN : Below (qm).heap.size (qm) uU := by rw [Hw]; exact aA _ _
          have s20 : Hid (uU.heap.size = (qm).heap.size + 1) := by rw [Hw]; simp [Hid]
          have g20 : Hid (uU.heap[(qm).heap.size]? = some (aJ n)) := by rw [Hw]; exact heap_alloc_new _ _
          clear Hw
          have D7 : Hid (Below w1.heap.size w1 uU) := Lib.hid (D6.out.trans (PN.mono D6.out.size))
          have Wn : Hid (uU.heap[(dI).heap.size]? = some (aJ n)) := Lib.hid ((PN.block _ (Array.getElem?_eq_some_iff.1 ab8.out).1).trans ab8.out)
          have Wp : Hid (uU.heap[(jf).heap.size]? = some (.map #[] 0)) := Lib.hid ((PN.block _ (Array.getElem?_eq_some_iff.1 g19.out).1).trans g19.out)
          clear PN
          refine hK.out _ _ (fun _ => aC.out _ D7.out) (fun hHd => ?_)
          have hHd := hHd (by decide)
          clear hK K
          try simp only [Act.put, g1, g2, g3]
          refine aB (i := 9) (v := ?Bg) rfl (by kernel_rfl) (by decide) (by kernel_rfl) (by kernel_rfl) (by kernel_rfl) (fun _ _ _ h => h) (Or.inl ⟨by rfl, ?mX⟩) (by assumption) ?_
          case mX => (intro w hSw; (try dsimp only at hSw); go_simp; first | done | with_reducible rfl)
          try simp only [Act.put, g1, g2, g3]
          refine aG (i := 10) (by kernel_rfl) rfl (fun K hK => ?_)
          go_simp
          obtain ⟨wy, hwy⟩ : ∃ y, y = (uU).alloc (.cells (nU (dI).heap.size (qm).heap.size n (jf).heap.size) 129) := ⟨_, rfl⟩
          rw [← hwy]
          have hby : Below (uU).heap.size (uU) wy := by rw [hwy]; exact aA _ _
          have gy : Hid (wy.heap[(uU).heap.size]? = some (.cells (je (dI).heap.size (qm).heap.size n (jf).heap.size) 129)) := by rw [hwy, ← oM]; exact heap_alloc_new _ _
          clear hwy
          have Ky : Hid (Below w1.heap.size w1 wy) := Lib.hid (D7.out.trans (hby.mono D7.out.size))
          have iy : Hid (wy.heap[(dI).heap.size]? = some (aJ n)) := Lib.hid ((hby.block _ (Array.getElem?_eq_some_iff.1 Wn.out).1).trans Wn.out)
          have iD : Hid (wy.heap[(jf).heap.size]? = some (.map #[] 0)) := Lib.hid ((hby.block _ (Array.getElem?_eq_some_iff.1 Wp.out).1).trans Wp.out)
          have iC : Hid (wy.heap[(qm).heap.size]? = some (aJ n)) := Lib.hid ((hby.block _ (Array.getElem?_eq_some_iff.1 g20.out).1).trans g20.out)
          refine hK.out _ _ (fun _ => aC.out _ Ky.out) (fun hHd => ?_)
          have hHd := hHd (by decide)
          clear hK K
          try simp only [Act.put, g1, g2, g3]
          refine aG (i := 11) (by kernel_rfl) rfl (fun K hK => ?_)
          go_simp
          refine hK.out _ _ (fun h => absurd h (by decide)) (fun _ => ?_)
          clear hK K
          try simp only [Act.put, g1, g2, g3]
          refine dA (by kernel_rfl) ?_ _
          have ks := D7.out.size
          have e1 := s1.out
          have e14 := s14.out
          have e15 := s15.out
          have e19 := s19.out
          have e20 := s20.out
          have l3 := (Array.getElem?_eq_some_iff.1 Wn.out).1
          have l8 := (Array.getElem?_eq_some_iff.1 Wp.out).1
          have l7 := (Array.getElem?_eq_some_iff.1 g20.out).1
          exact ⟨(uU).heap.size, (dI).heap.size, (qm).heap.size, (jf).heap.size, _, _, _, _, _, _, _, _, _, _, _, ⟨⟨by omega, by omega, by omega, by omega⟩, ⟨by omega, by omega, by omega, by omega, by omega, by omega⟩, Ky, gy, iy, iC, iD⟩, rfl⟩
      · skip
        go_simp
        obtain ⟨jg, Hy⟩ : ∃ y, y = (dI).alloc (aJ n) := ⟨_, rfl⟩
        try dsimp only [aJ] at Hy
        rw [← Hy]
        have ab9 : Below (dI).heap.size (dI) jg := by rw [Hy]; exact aA _ _
        have s22 : Hid (jg.heap.size = (dI).heap.size + 1) := by rw [Hy]; simp [Hid]
        have g22 : Hid (jg.heap[(dI).heap.size]? = some (aJ n)) := by rw [Hy]; exact heap_alloc_new _ _
        clear Hy
        have yU : Hid (Below w1.heap.size w1 jg) := Lib.hid (sJ.out.trans (ab9.mono sJ.out.size))
        clear ab9
        refine hK.out _ _ (fun _ => aC.out _ yU.out) (fun hHd => ?_)
        have hHd := hHd (by decide)
        clear hK K
        try simp only [Act.put, g1, g2, g3]
        refine jA (i := 3) (j := 8) (by kernel_rfl) rfl rfl (fun K hK => ?_) (fun K hK => ?_)
        · skip
          go_simp
          obtain ⟨qo, Hz⟩ : ∃ y, y = (jg).alloc (aJ n) := ⟨_, rfl⟩
          try dsimp only [aJ] at Hz
          rw [← Hz]
          have Wq : Below (jg).heap.size (jg) qo := by rw [Hz]; exact aA _ _
          have s23 : Hid (qo.heap.size = (jg).heap.size + 1) := by rw [Hz]; simp [Hid]
          have g23 : Hid (qo.heap[(jg).heap.size]? = some (aJ n)) := by rw [Hz]; exact heap_alloc_new _ _
          clear Hz
          have BO : Hid (Below w1.heap.size w1 qo) := Lib.hid (yU.out.trans (Wq.mono yU.out.size))
          have acd : Hid (qo.heap[(dI).heap.size]? = some (aJ n)) := Lib.hid ((Wq.block _ (Array.getElem?_eq_some_iff.1 g22.out).1).trans g22.out)
          clear Wq
          refine hK.out _ _ (fun _ => aC.out _ BO.out) (fun hHd => ?_)
          have hHd := hHd (by decide)
          clear hK K
          try simp only [Act.put, g1, g2, g3]
          refine aG (i := 8) (by kernel_rfl) rfl (fun K hK => ?_)
          go_simp
          obtain ⟨uV, Ia⟩ : ∃ y, y = (qo).alloc (.map #[] 0) := ⟨_, rfl⟩
          try dsimp only [aJ] at Ia
          rw [← Ia]
          have PO : Below (qo).heap.size (qo) uV := by rw [Ia]; exact aA _ _
          have s24 : Hid (uV.heap.size = (qo).heap.size + 1) := by rw [Ia]; simp [Hid]
          have g24 : Hid (uV.heap[(qo).heap.size]? = some (.map #[] 0)) := by rw [Ia]; exact heap_alloc_new _ _
          clear Ia
          have D8 : Hid (Below w1.heap.size w1 uV) := Lib.hid (BO.out.trans (PO.mono BO.out.size))
          have Ws : Hid (uV.heap[(dI).heap.size]? = some (aJ n)) := Lib.hid ((PO.block _ (Array.getElem?_eq_some_iff.1 acd.out).1).trans acd.out)
          have Wu : Hid (uV.heap[(jg).heap.size]? = some (aJ n)) := Lib.hid ((PO.block _ (Array.getElem?_eq_some_iff.1 g23.out).1).trans g23.out)
          clear PO
          refine hK.out _ _ (fun _ => aC.out _ D8.out) (fun hHd => ?_)
          have hHd := hHd (by decide)
          clear hK K
          try simp only [Act.put, g1, g2, g3]
          refine aB (i := 9) (v := ?Bj) rfl (by kernel_rfl) (by decide) (by kernel_rfl) (by kernel_rfl) (by kernel_rfl) (fun _ _ _ h => h) (Or.inl ⟨by rfl, ?mY⟩) (by assumption) ?_
          case mY => (intro w hSw; (try dsimp only at hSw); go_simp; first | done | with_reducible rfl)
          try simp only [Act.put, g1, g2, g3]
          refine aG (i := 10) (by kernel_rfl) rfl (fun K hK => ?_)
          go_simp
          obtain ⟨wy, hwy⟩ : ∃ y, y = (uV).alloc (.cells (nU (jg).heap.size (dI).heap.size n (qo).heap.size) 129) := ⟨_, rfl⟩
          rw [← hwy]
          have hby : Below (uV).heap.size (uV) wy := by rw [hwy]; exact aA _ _
          have gy : Hid (wy.heap[(uV).heap.size]? = some (.cells (je (jg).heap.size (dI).heap.size n (qo).heap.size) 129)) := by rw [hwy, ← oM]; exact heap_alloc_new _ _
          clear hwy
          have Ky : Hid (Below w1.heap.size w1 wy) := Lib.hid (D8.out.trans (hby.mono D8.out.size))
          have iC : Hid (wy.heap[(dI).heap.size]? = some (aJ n)) := Lib.hid ((hby.block _ (Array.getElem?_eq_some_iff.1 Ws.out).1).trans Ws.out)
          have iy : Hid (wy.heap[(jg).heap.size]? = some (aJ n)) := Lib.hid ((hby.block _ (Array.getElem?_eq_some_iff.1 Wu.out).1).trans Wu.out)
          have iD : Hid (wy.heap[(qo).heap.size]? = some (.map #[] 0)) := Lib.hid ((hby.block _ (Array.getElem?_eq_some_iff.1 g24.out).1).trans g24.out)
          refine hK.out _ _ (fun _ => aC.out _ Ky.out) (fun hHd => ?_)
          have hHd := hHd (by decide)
          clear hK K
          try simp only [Act.put, g1, g2, g3]
          refine aG (i := 11) (by kernel_rfl) rfl (fun K hK => ?_)
          go_simp
          refine hK.out _ _ (fun h => absurd h (by decide)) (fun _ => ?_)
          clear hK K
          try simp only [Act.put, g1, g2, g3]
          refine dA (by kernel_rfl) ?_ _
          have ks := D8.out.size
          have e1 := s1.out
          have e14 := s14.out
          have e22 := s22.out
          have e23 := s23.out
          have e24 := s24.out
          have l7 := (Array.getElem?_eq_some_iff.1 Ws.out).1
          have l3 := (Array.getElem?_eq_some_iff.1 Wu.out).1
          have l8 := (Array.getElem?_eq_some_iff.1 g24.out).1
          exact ⟨(uV).heap.size, (jg).heap.size, (dI).heap.size, (qo).heap.size, _, _, _, _, _, _, _, _, _, _, _, ⟨⟨by omega, by omega, by omega, by omega⟩, ⟨by omega, by omega, by omega, by omega, by omega, by omega⟩, Ky, gy, iy, iC, iD⟩, rfl⟩
        · skip
          go_simp
          obtain ⟨qp, Ib⟩ : ∃ y, y = (jg).alloc (.map #[] 0) := ⟨_, rfl⟩
          try dsimp only [aJ] at Ib
          rw [← Ib]
          have Wv : Below (jg).heap.size (jg) qp := by rw [Ib]; exact aA _ _
          have s26 : Hid (qp.heap.size = (jg).heap.size + 1) := by rw [Ib]; simp [Hid]
          have g26 : Hid (qp.heap[(jg).heap.size]? = some (.map #[] 0)) := by rw [Ib]; exact heap_alloc_new _ _
          clear Ib
          have D9 : Hid (Below w1.heap.size w1 qp) := Lib.hid (yU.out.trans (Wv.mono yU.out.size))
          have ace : Hid (qp.heap[(dI).heap.size]? = some (aJ n)) := Lib.hid ((Wv.block _ (Array.getElem?_eq_some_iff.1 g22.out).1).trans g22.out)
          clear Wv
          refine hK.out _ _ (fun _ => aC.out _ D9.out) (fun hHd => ?_)
          have hHd := hHd (by decide)
          clear hK K
          try simp only [Act.put, g1, g2, g3]
          refine aG (i := 3) (by kernel_rfl) rfl (fun K hK => ?_)
          go_simp
          obtain ⟨uX, Ic⟩ : ∃ y, y = (qp).alloc (aJ n) := ⟨_, rfl⟩
          try dsimp only [aJ] at Ic
          rw [← Ic]
          have PS : Below (qp).heap.size (qp) uX := by rw [Ic]; exact aA _ _
          have s27 : Hid (uX.heap.size = (qp).heap.size + 1) := by rw [Ic]; simp [Hid]
          have Wx : Hid (uX.heap[(qp).heap.size]? = some (aJ n)) := by rw [Ic]; exact heap_alloc_new _ _
          clear Ic
          have PU : Hid (Below w1.heap.size w1 uX) := Lib.hid (D9.out.trans (PS.mono D9.out.size))
          have Wy : Hid (uX.heap[(dI).heap.size]? = some (aJ n)) := Lib.hid ((PS.block _ (Array.getElem?_eq_some_iff.1 ace.out).1).trans ace.out)
          have WA : Hid (uX.heap[(jg).heap.size]? = some (.map #[] 0)) := Lib.hid ((PS.block _ (Array.getElem?_eq_some_iff.1 g26.out).1).trans g26.out)
          clear PS
          refine hK.out _ _ (fun _ => aC.out _ PU.out) (fun hHd => ?_)
          have hHd := hHd (by decide)
          clear hK K
          try simp only [Act.put, g1, g2, g3]
          refine aB (i := 9) (v := ?Bo) rfl (by kernel_rfl) (by decide) (by kernel_rfl) (by kernel_rfl) (by kernel_rfl) (fun _ _ _ h => h) (Or.inl ⟨by rfl, ?mZ⟩) (by assumption) ?_
          case mZ => (intro w hSw; (try dsimp only at hSw); go_simp; first | done | with_reducible rfl)
          try simp only [Act.put, g1, g2, g3]
          refine aG (i := 10) (by kernel_rfl) rfl (fun K hK => ?_)
          go_simp
          obtain ⟨wy, hwy⟩ : ∃ y, y = (uX).alloc (.cells (nU (qp).heap.size (dI).heap.size n (jg).heap.size) 129) := ⟨_, rfl⟩
          rw [← hwy]
          have hby : Below (uX).heap.size (uX) wy := by rw [hwy]; exact aA _ _
          have gy : Hid (wy.heap[(uX).heap.size]? = some (.cells (je (qp).heap.size (dI).heap.size n (jg).heap.size) 129)) := by rw [hwy, ← oM]; exact heap_alloc_new _ _
          clear hwy
          have Ky : Hid (Below w1.heap.size w1 wy) := Lib.hid (PU.out.trans (hby.mono PU.out.size))
          have iC : Hid (wy.heap[(dI).heap.size]? = some (aJ n)) := Lib.hid ((hby.block _ (Array.getElem?_eq_some_iff.1 Wy.out).1).trans Wy.out)
          have iD : Hid (wy.heap[(jg).heap.size]? = some (.map #[] 0)) := Lib.hid ((hby.block _ (Array.getElem?_eq_some_iff.1 WA.out).1).trans WA.out)
          have iy : Hid (wy.heap[(qp).heap.size]? = some (aJ n)) := Lib.hid ((hby.block _ (Array.getElem?_eq_some_iff.1 Wx.out).1).trans Wx.out)
          refine hK.out _ _ (fun _ => aC.out _ Ky.out) (fun hHd => ?_)
          have hHd := hHd (by decide)
          clear hK K
          try simp only [Act.put, g1, g2, g3]
          refine aG (i := 11) (by kernel_rfl) rfl (fun K hK => ?_)
          go_simp
          refine hK.out _ _ (fun h => absurd h (by decide)) (fun _ => ?_)
          clear hK K
          try simp only [Act.put, g1, g2, g3]
          refine dA (by kernel_rfl) ?_ _
          have ks := PU.out.size
          have e1 := s1.out
          have e14 := s14.out
          have e22 := s22.out
          have e26 := s26.out
          have e27 := s27.out
          have l7 := (Array.getElem?_eq_some_iff.1 Wy.out).1
          have l8 := (Array.getElem?_eq_some_iff.1 WA.out).1
          have l3 := (Array.getElem?_eq_some_iff.1 Wx.out).1
          exact ⟨(uX).heap.size, (qp).heap.size, (dI).heap.size, (jg).heap.size, _, _, _, _, _, _, _, _, _, _, _, ⟨⟨by omega, by omega, by omega, by omega⟩, ⟨by omega, by omega, by omega, by omega, by omega, by omega⟩, Ky, gy, iy, iC, iD⟩, rfl⟩
      · skip
        go_simp
        obtain ⟨jh, Ie⟩ : ∃ y, y = (dI).alloc (.map #[] 0) := ⟨_, rfl⟩
        try dsimp only [aJ] at Ie
        rw [← Ie]
        have acf : Below (dI).heap.size (dI) jh := by rw [Ie]; exact aA _ _
        have s29 : Hid (jh.heap.size = (dI).heap.size + 1) := by rw [Ie]; simp [Hid]
        have PV : Hid (jh.heap[(dI).heap.size]? = some (.map #[] 0)) := by rw [Ie]; exact heap_alloc_new _ _
        clear Ie
        have Kt : Hid (Below w1.heap.size w1 jh) := Lib.hid (sJ.out.trans (acf.mono sJ.out.size))
        clear acf
        refine hK.out _ _ (fun _ => aC.out _ Kt.out) (fun hHd => ?_)
        have hHd := hHd (by decide)
        clear hK K
        try simp only [Act.put, g1, g2, g3]
        refine jA (i := 3) (j := 7) (by kernel_rfl) rfl rfl (fun K hK => ?_) (fun K hK => ?_)
        · skip
          go_simp
          obtain ⟨qw, Ig⟩ : ∃ y, y = (jh).alloc (aJ n) := ⟨_, rfl⟩
          try dsimp only [aJ] at Ig
          rw [← Ig]
          have WB : Below (jh).heap.size (jh) qw := by rw [Ig]; exact aA _ _
          have s30 : Hid (qw.heap.size = (jh).heap.size + 1) := by rw [Ig]; simp [Hid]
          have g30 : Hid (qw.heap[(jh).heap.size]? = some (aJ n)) := by rw [Ig]; exact heap_alloc_new _ _
          clear Ig
          have WC : Hid (Below w1.heap.size w1 qw) := Lib.hid (Kt.out.trans (WB.mono Kt.out.size))
          have acg : Hid (qw.heap[(dI).heap.size]? = some (.map #[] 0)) := Lib.hid ((WB.block _ (Array.getElem?_eq_some_iff.1 PV.out).1).trans PV.out)
          clear WB
          refine hK.out _ _ (fun _ => aC.out _ WC.out) (fun hHd => ?_)
          have hHd := hHd (by decide)
          clear hK K
          try simp only [Act.put, g1, g2, g3]
          refine aG (i := 7) (by kernel_rfl) rfl (fun K hK => ?_)
          go_simp
          obtain ⟨uY, Ih⟩ : ∃ y, y = (qw).alloc (aJ n) := ⟨_, rfl⟩
          try dsimp only [aJ] at Ih
          rw [← Ih]
          have PW : Below (qw).heap.size (qw) uY := by rw [Ih]; exact aA _ _
          have s31 : Hid (uY.heap.size = (qw).heap.size + 1) := by rw [Ih]; simp [Hid]
          have WE : Hid (uY.heap[(qw).heap.size]? = some (aJ n)) := by rw [Ih]; exact heap_alloc_new _ _
          clear Ih
          have PX : Hid (Below w1.heap.size w1 uY) := Lib.hid (WC.out.trans (PW.mono WC.out.size))
          have WG : Hid (uY.heap[(dI).heap.size]? = some (.map #[] 0)) := Lib.hid ((PW.block _ (Array.getElem?_eq_some_iff.1 acg.out).1).trans acg.out)
          have WH : Hid (uY.heap[(jh).heap.size]? = some (aJ n)) := Lib.hid ((PW.block _ (Array.getElem?_eq_some_iff.1 g30.out).1).trans g30.out)
          clear PW
          refine hK.out _ _ (fun _ => aC.out _ PX.out) (fun hHd => ?_)
          have hHd := hHd (by decide)
          clear hK K
          try simp only [Act.put, g1, g2, g3]
          refine aB (i := 9) (v := ?Bq) rfl (by kernel_rfl) (by decide) (by kernel_rfl) (by kernel_rfl) (by kernel_rfl) (fun _ _ _ h => h) (Or.inl ⟨by rfl, ?ng⟩) (by assumption) ?_
          case ng => (intro w hSw; (try dsimp only at hSw); go_simp; first | done | with_reducible rfl)
          try simp only [Act.put, g1, g2, g3]
          refine aG (i := 10) (by kernel_rfl) rfl (fun K hK => ?_)
          go_simp
          obtain ⟨wy, hwy⟩ : ∃ y, y = (uY).alloc (.cells (nU (jh).heap.size (qw).heap.size n (dI).heap.size) 129) := ⟨_, rfl⟩
          rw [← hwy]
          have hby : Below (uY).heap.size (uY) wy := by rw [hwy]; exact aA _ _
          have gy : Hid (wy.heap[(uY).heap.size]? = some (.cells (je (jh).heap.size (qw).heap.size n (dI).heap.size) 129)) := by rw [hwy, ← oM]; exact heap_alloc_new _ _
          clear hwy
          have Ky : Hid (Below w1.heap.size w1 wy) := Lib.hid (PX.out.trans (hby.mono PX.out.size))
          have iD : Hid (wy.heap[(dI).heap.size]? = some (.map #[] 0)) := Lib.hid ((hby.block _ (Array.getElem?_eq_some_iff.1 WG.out).1).trans WG.out)
          have iy : Hid (wy.heap[(jh).heap.size]? = some (aJ n)) := Lib.hid ((hby.block _ (Array.getElem?_eq_some_iff.1 WH.out).1).trans WH.out)
          have iC : Hid (wy.heap[(qw).heap.size]? = some (aJ n)) := Lib.hid ((hby.block _ (Array.getElem?_eq_some_iff.1 WE.out).1).trans WE.out)
          refine hK.out _ _ (fun _ => aC.out _ Ky.out) (fun hHd => ?_)
          have hHd := hHd (by decide)
          clear hK K
          try simp only [Act.put, g1, g2, g3]
          refine aG (i := 11) (by kernel_rfl) rfl (fun K hK => ?_)
          go_simp
          refine hK.out _ _ (fun h => absurd h (by decide)) (fun _ => ?_)
          clear hK K
          try simp only [Act.put, g1, g2, g3]
          refine dA (by kernel_rfl) ?_ _
          have ks := PX.out.size
          have e1 := s1.out
          have e14 := s14.out
          have e29 := s29.out
          have e30 := s30.out
          have e31 := s31.out
          have l8 := (Array.getElem?_eq_some_iff.1 WG.out).1
          have l3 := (Array.getElem?_eq_some_iff.1 WH.out).1
          have l7 := (Array.getElem?_eq_some_iff.1 WE.out).1
          exact ⟨(uY).heap.size, (jh).heap.size, (qw).heap.size, (dI).heap.size, _, _, _, _, _, _, _, _, _, _, _, ⟨⟨by omega, by omega, by omega, by omega⟩, ⟨by omega, by omega, by omega, by omega, by omega, by omega⟩, Ky, gy, iy, iC, iD⟩, rfl⟩
        · skip
          go_simp
          obtain ⟨qx, Ii⟩ : ∃ y, y = (jh).alloc (aJ n) := ⟨_, rfl⟩
          try dsimp only [aJ] at Ii
          rw [← Ii]
          have WI : Below (jh).heap.size (jh) qx := by rw [Ii]; exact aA _ _
          have s33 : Hid (qx.heap.size = (jh).heap.size + 1) := by rw [Ii]; simp [Hid]
          have g33 : Hid (qx.heap[(jh).heap.size]? = some (aJ n)) := by rw [Ii]; exact heap_alloc_new _ _
          clear Ii
          have WJ : Hid (Below w1.heap.size w1 qx) := Lib.hid (Kt.out.trans (WI.mono Kt.out.size))
          have ach : Hid (qx.heap[(dI).heap.size]? = some (.map #[] 0)) := Lib.hid ((WI.block _ (Array.getElem?_eq_some_iff.1 PV.out).1).trans PV.out)
          clear WI
          refine hK.out _ _ (fun _ => aC.out _ WJ.out) (fun hHd => ?_)
          have hHd := hHd (by decide)
          clear hK K
          try simp only [Act.put, g1, g2, g3]
          refine aG (i := 3) (by kernel_rfl) rfl (fun K hK => ?_)
          go_simp
          obtain ⟨uZ, Ij⟩ : ∃ y, y = (qx).alloc (aJ n) := ⟨_, rfl⟩
          try dsimp only [aJ] at Ij
          rw [← Ij]
          have xE : Below (qx).heap.size (qx) uZ := by rw [Ij]; exact aA _ _
          have s34 : Hid (uZ.heap.size = (qx).heap.size + 1) := by rw [Ij]; simp [Hid]
          have WL : Hid (uZ.heap[(qx).heap.size]? = some (aJ n)) := by rw [Ij]; exact heap_alloc_new _ _
          clear Ij
          have PY : Hid (Below w1.heap.size w1 uZ) := Lib.hid (WJ.out.trans (xE.mono WJ.out.size))
          have WM : Hid (uZ.heap[(dI).heap.size]? = some (.map #[] 0)) := Lib.hid ((xE.block _ (Array.getElem?_eq_some_iff.1 ach.out).1).trans ach.out)
          have WO : Hid (uZ.heap[(jh).heap.size]? = some (aJ n)) := Lib.hid ((xE.block _ (Array.getElem?_eq_some_iff.1 g33.out).1).trans g33.out)
          clear xE
          refine hK.out _ _ (fun _ => aC.out _ PY.out) (fun hHd => ?_)
          have hHd := hHd (by decide)
          clear hK K
          try simp only [Act.put, g1, g2, g3]
          refine aB (i := 9) (v := ?BA) rfl (by kernel_rfl) (by decide) (by kernel_rfl) (by kernel_rfl) (by kernel_rfl) (fun _ _ _ h => h) (Or.inl ⟨by rfl, ?ni⟩) (by assumption) ?_
          case ni => (intro w hSw; (try dsimp only at hSw); go_simp; first | done | with_reducible rfl)
          try simp only [Act.put, g1, g2, g3]
          refine aG (i := 10) (by kernel_rfl) rfl (fun K hK => ?_)
          go_simp
          obtain ⟨wy, hwy⟩ : ∃ y, y = (uZ).alloc (.cells (nU (qx).heap.size (jh).heap.size n (dI).heap.size) 129) := ⟨_, rfl⟩
          rw [← hwy]
          have hby : Below (uZ).heap.size (uZ) wy := by rw [hwy]; exact aA _ _
          have gy : Hid (wy.heap[(uZ).heap.size]? = some (.cells (je (qx).heap.size (jh).heap.size n (dI).heap.size) 129)) := by rw [hwy, ← oM]; exact heap_alloc_new _ _
          clear hwy
          have Ky : Hid (Below w1.heap.size w1 wy) := Lib.hid (PY.out.trans (hby.mono PY.out.size))
          have iD : Hid (wy.heap[(dI).heap.size]? = some (.map #[] 0)) := Lib.hid ((hby.block _ (Array.getElem?_eq_some_iff.1 WM.out).1).trans WM.out)
          have iC : Hid (wy.heap[(jh).heap.size]? = some (aJ n)) := Lib.hid ((hby.block _ (Array.getElem?_eq_some_iff.1 WO.out).1).trans WO.out)
          have iy : Hid (wy.heap[(qx).heap.size]? = some (aJ n)) := Lib.hid ((hby.block _ (Array.getElem?_eq_some_iff.1 WL.out).1).trans WL.out)
          refine hK.out _ _ (fun _ => aC.out _ Ky.out) (fun hHd => ?_)
          have hHd := hHd (by decide)
          clear hK K
          try simp only [Act.put, g1, g2, g3]
          refine aG (i := 11) (by kernel_rfl) rfl (fun K hK => ?_)
          go_simp
          refine hK.out _ _ (fun h => absurd h (by decide)) (fun _ => ?_)
          clear hK K
          try simp only [Act.put, g1, g2, g3]
          refine dA (by kernel_rfl) ?_ _
          have ks := PY.out.size
          have e1 := s1.out
          have e14 := s14.out
          have e29 := s29.out
          have e33 := s33.out
          have e34 := s34.out
          have l8 := (Array.getElem?_eq_some_iff.1 WM.out).1
          have l7 := (Array.getElem?_eq_some_iff.1 WO.out).1
          have l3 := (Array.getElem?_eq_some_iff.1 WL.out).1
          exact ⟨(uZ).heap.size, (qx).heap.size, (jh).heap.size, (dI).heap.size, _, _, _, _, _, _, _, _, _, _, _, ⟨⟨by omega, by omega, by omega, by omega⟩, ⟨by omega, by omega, by omega, by omega, by omega, by omega⟩, Ky, gy, iy, iC, iD⟩, rfl⟩
    · skip
      go_simp
      obtain ⟨lF, Ik⟩ : ∃ y, y = (W1).alloc (.map #[] 0) := ⟨_, rfl⟩
      try dsimp only [aJ] at Ik
      rw [← Ik]
      have aci : Below (W1).heap.size (W1) lF := by rw [Ik]; exact aA _ _
      have s36 : Hid (lF.heap.size = (W1).heap.size + 1) := by rw [Ik]; simp [Hid]
      have PZ : Hid (lF.heap[(W1).heap.size]? = some (.map #[] 0)) := by rw [Ik]; exact heap_alloc_new _ _
      clear Ik
      have Ku : Hid (Below w1.heap.size w1 lF) := Lib.hid (iU.out.trans (aci.mono iU.out.size))
      clear aci
      refine hK.out _ _ (fun _ => aC.out _ Ku.out) (fun hHd => ?_)
      have hHd := hHd (by decide)
      clear hK K
      try simp only [Act.put, g1, g2, g3]
      refine jA (i := 3) (j := 6) (by kernel_rfl) rfl rfl (fun K hK => ?_) (fun K hK => ?_)
      · skip
        go_simp
        obtain ⟨y8, Il⟩ : ∃ y, y = (lF).alloc (aJ n) := ⟨_, rfl⟩
        try dsimp only [aJ] at Il
        rw [← Il]
        have WQ : Below (lF).heap.size (lF) y8 := by rw [Il]; exact aA _ _
        have s37 : Hid (y8.heap.size = (lF).heap.size + 1) := by rw [Il]; simp [Hid]
        have g37 : Hid (y8.heap[(lF).heap.size]? = some (aJ n)) := by rw [Il]; exact heap_alloc_new _ _
        clear Il
        have WR : Hid (Below w1.heap.size w1 y8) := Lib.hid (Ku.out.trans (WQ.mono Ku.out.size))
        have acj : Hid (y8.heap[(W1).heap.size]? = some (.map #[] 0)) := Lib.hid ((WQ.block _ (Array.getElem?_eq_some_iff.1 PZ.out).1).trans PZ.out)
        clear WQ
        refine hK.out _ _ (fun _ => aC.out _ WR.out) (fun hHd => ?_)
        have hHd := hHd (by decide)
        clear hK K
        try simp only [Act.put, g1, g2, g3]
        refine aG (i := 6) (by kernel_rfl) rfl (fun K hK => ?_)
        go_simp
        go_at_call 63
        refine (rG ao an n n co cn y8 uO).mono ?_
        rintro e qy ⟨rfl, WS⟩
        have P5 : Below (y8).heap.size (y8) qy := by rw [← WS]; exact aA _ _
        have s38 : Hid (qy.heap.size = (y8).heap.size + 1) := by rw [← WS]; simp [Hid]
        clear WS
        have WT : Hid (Below w1.heap.size w1 qy) := Lib.hid (WR.out.trans (P5.mono WR.out.size))
        have ack : Hid (qy.heap[(W1).heap.size]? = some (.map #[] 0)) := Lib.hid ((P5.block _ (Array.getElem?_eq_some_iff.1 acj.out).1).trans acj.out)
        have acn : Hid (qy.heap[(lF).heap.size]? = some (aJ n)) := Lib.hid ((P5.block _ (Array.getElem?_eq_some_iff.1 g37.out).1).trans g37.out)
        clear P5
        go_wp2_with fail
        refine hK.out _ _ (fun _ => aC.out _ WT.out) (fun hHd => ?_)
        have hHd := hHd (by decide)
        clear hK K
        try simp only [Act.put, g1, g2, g3]
        refine aG (i := 7) (by kernel_rfl) rfl (fun K hK => ?_)
        go_simp
        obtain ⟨vg, Io⟩ : ∃ y, y = (qy).alloc (aJ n) := ⟨_, rfl⟩
        try dsimp only [aJ] at Io
        rw [← Io]
        have P6 : Below (qy).heap.size (qy) vg := by rw [Io]; exact aA _ _
        have s39 : Hid (vg.heap.size = (qy).heap.size + 1) := by rw [Io]; simp [Hid]
        have WU : Hid (vg.heap[(qy).heap.size]? = some (aJ n)) := by rw [Io]; exact heap_alloc_new _ _
        clear Io
        have P7 : Hid (Below w1.heap.size w1 vg) := Lib.hid (WT.out.trans (P6.mono WT.out.size))
        have WV : Hid (vg.heap[(W1).heap.size]? = some (.map #[] 0)) := Lib.hid ((P6.block _ (Array.getElem?_eq_some_iff.1 ack.out).1).trans ack.out)
        have WW : Hid (vg.heap[(lF).heap.size]? = some (aJ n)) := Lib.hid ((P6.block _ (Array.getElem?_eq_some_iff.1 acn.out).1).trans acn.out)
        clear P6
        refine hK.out _ _ (fun _ => aC.out _ P7.out) (fun hHd => ?_)
        have hHd := hHd (by decide)
        clear hK K
        try simp only [Act.put, g1, g2, g3]
        refine aB (i := 9) (v := ?BD) rfl (by kernel_rfl) (by decide) (by kernel_rfl) (by kernel_rfl) (by kernel_rfl) (fun _ _ _ h => h) (Or.inl ⟨by rfl, ?ny⟩) (by assumption) ?_
        case ny => (intro w hSw; (try dsimp only at hSw); go_simp; first | done | with_reducible rfl)
        try simp only [Act.put, g1, g2, g3]
        refine aG (i := 10) (by kernel_rfl) rfl (fun K hK => ?_)
        go_simp
        obtain ⟨wy, hwy⟩ : ∃ y, y = (vg).alloc (.cells (nU (lF).heap.size (qy).heap.size n (W1).heap.size) 129) := ⟨_, rfl⟩
        rw [← hwy]
        have hby : Below (vg).heap.size (vg) wy := by rw [hwy]; exact aA _ _
        have gy : Hid (wy.heap[(vg).heap.size]? = some (.cells (je (lF).heap.size (qy).heap.size n (W1).heap.size) 129)) := by rw [hwy, ← oM]; exact heap_alloc_new _ _
        clear hwy
        have Ky : Hid (Below w1.heap.size w1 wy) := Lib.hid (P7.out.trans (hby.mono P7.out.size))
        have iD : Hid (wy.heap[(W1).heap.size]? = some (.map #[] 0)) := Lib.hid ((hby.block _ (Array.getElem?_eq_some_iff.1 WV.out).1).trans WV.out)
        have iy : Hid (wy.heap[(lF).heap.size]? = some (aJ n)) := Lib.hid ((hby.block _ (Array.getElem?_eq_some_iff.1 WW.out).1).trans WW.out)
        have iC : Hid (wy.heap[(qy).heap.size]? = some (aJ n)) := Lib.hid ((hby.block _ (Array.getElem?_eq_some_iff.1 WU.out).1).trans WU.out)
        refine hK.out _ _ (fun _ => aC.out _ Ky.out) (fun hHd => ?_)
        have hHd := hHd (by decide)
        clear hK K
        try simp only [Act.put, g1, g2, g3]
        refine aG (i := 11) (by kernel_rfl) rfl (fun K hK => ?_)
        go_simp
        refine hK.out _ _ (fun h => absurd h (by decide)) (fun _ => ?_)
        clear hK K
        try simp only [Act.put, g1, g2, g3]
        refine dA (by kernel_rfl) ?_ _
        have ks := P7.out.size
        have e1 := s1.out
        have e36 := s36.out
        have e37 := s37.out
        have e38 := s38.out
        have e39 := s39.out
        have l8 := (Array.getElem?_eq_some_iff.1 WV.out).1
        have l3 := (Array.getElem?_eq_some_iff.1 WW.out).1
        have l7 := (Array.getElem?_eq_some_iff.1 WU.out).1
        exact ⟨(vg).heap.size, (lF).heap.size, (qy).heap.size, (W1).heap.size, _, _, _, _, _, _, _, _, _, _, _, ⟨⟨by omega, by omega, by omega, by omega⟩, ⟨by omega, by omega, by omega, by omega, by omega, by omega⟩, Ky, gy, iy, iC, iD⟩, rfl⟩
      · skip
        go_simp
        go_at_call 63
        refine (rG ao an n n co cn lF uO).mono ?_
        rintro e ji ⟨rfl, WX⟩
        have WY : Below (lF).heap.size (lF) ji := by rw [← WX]; exact aA _ _
        have s41 : Hid (ji.heap.size = (lF).heap.size + 1) := by rw [← WX]; simp [Hid]
        clear WX
        have Kv : Hid (Below w1.heap.size w1 ji) := Lib.hid (Ku.out.trans (WY.mono Ku.out.size))
        have P8 : Hid (ji.heap[(W1).heap.size]? = some (.map #[] 0)) := Lib.hid ((WY.block _ (Array.getElem?_eq_some_iff.1 PZ.out).1).trans PZ.out)
        clear WY
        go_wp2_with fail
        refine hK.out _ _ (fun _ => aC.out _ Kv.out) (fun hHd => ?_)
        have hHd := hHd (by decide)
        clear hK K
        try simp only [Act.put, g1, g2, g3]
        refine jA (i := 3) (j := 7) (by kernel_rfl) rfl rfl (fun K hK => ?_) (fun K hK => ?_)
        · skip
          go_simp
          obtain ⟨qA, Ip⟩ : ∃ y, y = (ji).alloc (aJ n) := ⟨_, rfl⟩
          try dsimp only [aJ] at Ip
          rw [← Ip]
          have WZ : Below (ji).heap.size (ji) qA := by rw [Ip]; exact aA _ _
          have s42 : Hid (qA.heap.size = (ji).heap.size + 1) := by rw [Ip]; simp [Hid]
          have g42 : Hid (qA.heap[(ji).heap.size]? = some (aJ n)) := by rw [Ip]; exact heap_alloc_new _ _
          clear Ip
          have Xc : Hid (Below w1.heap.size w1 qA) := Lib.hid (Kv.out.trans (WZ.mono Kv.out.size))
          have aco : Hid (qA.heap[(W1).heap.size]? = some (.map #[] 0)) := Lib.hid ((WZ.block _ (Array.getElem?_eq_some_iff.1 P8.out).1).trans P8.out)
          clear WZ
          refine hK.out _ _ (fun _ => aC.out _ Xc.out) (fun hHd => ?_)
          have hHd := hHd (by decide)
          clear hK K
          try simp only [Act.put, g1, g2, g3]
          refine aG (i := 7) (by kernel_rfl) rfl (fun K hK => ?_)
          go_simp
          obtain ⟨vk, Iq⟩ : ∃ y, y = (qA).alloc (aJ n) := ⟨_, rfl⟩
          try dsimp only [aJ] at Iq
          rw [← Iq]
          have P9 : Below (qA).heap.size (qA) vk := by rw [Iq]; exact aA _ _
          have s43 : Hid (vk.heap.size = (qA).heap.size + 1) := by rw [Iq]; simp [Hid]
          have Xd : Hid (vk.heap[(qA).heap.size]? = some (aJ n)) := by rw [Iq]; exact heap_alloc_new _ _
          clear Iq
          have Qa : Hid (Below w1.heap.size w1 vk) := Lib.hid (Xc.out.trans (P9.mono Xc.out.size))
          have Xe : Hid (vk.heap[(W1).heap.size]? = some (.map #[] 0)) := Lib.hid ((P9.block _ (Array.getElem?_eq_some_iff.1 aco.out).1).trans aco.out)
          have Xf : Hid (vk.heap[(ji).heap.size]? = some (aJ n)) := Lib.hid ((P9.block _ (Array.getElem?_eq_some_iff.1 g42.out).1).trans g42.out)
          clear P9
          refine hK.out _ _ (fun _ => aC.out _ Qa.out) (fun hHd => ?_)
          have hHd := hHd (by decide)
          clear hK K
          try simp only [Act.put, g1, g2, g3]
          refine aB (i := 9) (v := ?BH) rfl (by kernel_rfl) (by decide) (by kernel_rfl) (by kernel_rfl) (by kernel_rfl) (fun _ _ _ h => h) (Or.inl ⟨by rfl, ?nC⟩) (by assumption) ?_
          case nC => (intro w hSw; (try dsimp only at hSw); go_simp; first | done | with_reducible rfl)
          try simp only [Act.put, g1, g2, g3]
          refine aG (i := 10) (by kernel_rfl) rfl (fun K hK => ?_)
          go_simp
          obtain ⟨wy, hwy⟩ : ∃ y, y = (vk).alloc (.cells (nU (ji).heap.size (qA).heap.size n (W1).heap.size) 129) := ⟨_, rfl⟩
          rw [← hwy]
          have hby : Below (vk).heap.size (vk) wy := by rw [hwy]; exact aA _ _
          have gy : Hid (wy.heap[(vk).heap.size]? = some (.cells (je (ji).heap.size (qA).heap.size n (W1).heap.size) 129)) := by rw [hwy, ← oM]; exact heap_alloc_new _ _
          clear hwy
          have Ky : Hid (Below w1.heap.size w1 wy) := Lib.hid (Qa.out.trans (hby.mono Qa.out.size))
          have iD : Hid (wy.heap[(W1).heap.size]? = some (.map #[] 0)) := Lib.hid ((hby.block _ (Array.getElem?_eq_some_iff.1 Xe.out).1).trans Xe.out)
          have iy : Hid (wy.heap[(ji).heap.size]? = some (aJ n)) := Lib.hid ((hby.block _ (Array.getElem?_eq_some_iff.1 Xf.out).1).trans Xf.out)
          have iC : Hid (wy.heap[(qA).heap.size]? = some (aJ n)) := Lib.hid ((hby.block _ (Array.getElem?_eq_some_iff.1 Xd.out).1).trans Xd.out)
          refine hK.out _ _ (fun _ => aC.out _ Ky.out) (fun hHd => ?_)
          have hHd := hHd (by decide)
          clear hK K
          try simp only [Act.put, g1, g2, g3]
          refine aG (i := 11) (by kernel_rfl) rfl (fun K hK => ?_)
          go_simp
          refine hK.out _ _ (fun h => absurd h (by decide)) (fun _ => ?_)
          clear hK K
          try simp only [Act.put, g1, g2, g3]
          refine dA (by kernel_rfl) ?_ _
          have ks := Qa.out.size
          have e1 := s1.out
          have e36 := s36.out
          have e41 := s41.out
          have e42 := s42.out
          have e43 := s43.out
          have l8 := (Array.getElem?_eq_some_iff.1 Xe.out).1
          have l3 := (Array.getElem?_eq_some_iff.1 Xf.out).1
          have l7 := (Array.getElem?_eq_some_iff.1 Xd.out).1
          exact ⟨(vk).heap.size, (ji).heap.size, (qA).heap.size, (W1).heap.size, _, _, _, _, _, _, _, _, _, _, _, ⟨⟨by omega, by omega, by omega, by omega⟩, ⟨by omega, by omega, by omega, by omega, by omega, by omega⟩, Ky, gy, iy, iC, iD⟩, rfl⟩
        · skip
          go_simp
          obtain ⟨qB, Ir⟩ : ∃ y, y = (ji).alloc (aJ n) := ⟨_, rfl⟩
          try dsimp only [aJ] at Ir
          rw [← Ir]
          have Xg : Below (ji).heap.size (ji) qB := by rw [Ir]; exact aA _ _
          have s45 : Hid (qB.heap.size = (ji).heap.size + 1) := by rw [Ir]; simp [Hid]
          have g45 : Hid (qB.heap[(ji).heap.size]? = some (aJ n)) := by rw [Ir]; exact heap_alloc_new _ _
          clear Ir
          have Xh : Hid (Below w1.heap.size w1 qB) := Lib.hid (Kv.out.trans (Xg.mono Kv.out.size))
          have acp : Hid (qB.heap[(W1).heap.size]? = some (.map #[] 0)) := Lib.hid ((Xg.block _ (Array.getElem?_eq_some_iff.1 P8.out).1).trans P8.out)
          clear Xg
          refine hK.out _ _ (fun _ => aC.out _ Xh.out) (fun hHd => ?_)
          have hHd := hHd (by decide)
          clear hK K
          try simp only [Act.put, g1, g2, g3]
          refine aG (i := 3) (by kernel_rfl) rfl (fun K hK => ?_)
          go_simp
          obtain ⟨vC, Iu⟩ : ∃ y, y = (qB).alloc (aJ n) := ⟨_, rfl⟩
          try dsimp only [aJ] at Iu
          rw [← Iu]
          have Qb : Below (qB).heap.size (qB) vC := by rw [Iu]; exact aA _ _
          have s46 : Hid (vC.heap.size = (qB).heap.size + 1) := by rw [Iu]; simp [Hid]
          have Xi : Hid (vC.heap[(qB).heap.size]? = some (aJ n)) := by rw [Iu]; exact heap_alloc_new _ _
          clear Iu
          have Qc : Hid (Below w1.heap.size w1 vC) := Lib.hid (Xh.out.trans (Qb.mono Xh.out.size))
          have Xj : Hid (vC.heap[(W1).heap.size]? = some (.map #[] 0)) := Lib.hid ((Qb.block _ (Array.getElem?_eq_some_iff.1 acp.out).1).trans acp.out)
          have Xl : Hid (vC.heap[(ji).heap.size]? = some (aJ n)) := Lib.hid ((Qb.block _ (Array.getElem?_eq_some_iff.1 g45.out).1).trans g45.out)
          clear Qb
          refine hK.out _ _ (fun _ => aC.out _ Qc.out) (fun hHd => ?_)
          have hHd := hHd (by decide)
          clear hK K
          try simp only [Act.put, g1, g2, g3]
          refine aB (i := 9) (v := ?DL) rfl (by kernel_rfl) (by decide) (by kernel_rfl) (by kernel_rfl) (by kernel_rfl) (fun _ _ _ h => h) (Or.inl ⟨by rfl, ?nN⟩) (by assumption) ?_
          case nN => (intro w hSw; (try dsimp only at hSw); go_simp; first | done | with_reducible rfl)
          try simp only [Act.put, g1, g2, g3]
          refine aG (i := 10) (by kernel_rfl) rfl (fun K hK => ?_)
          go_simp
          obtain ⟨wy, hwy⟩ : ∃ y, y = (vC).alloc (.cells (nU (qB).heap.size (ji).heap.size n (W1).heap.size) 129) := ⟨_, rfl⟩
          rw [← hwy]
          have hby : Below (vC).heap.size (vC) wy := by rw [hwy]; exact aA _ _
          have gy : Hid (wy.heap[(vC).heap.size]? = some (.cells (je (qB).heap.size (ji).heap.size n (W1).heap.size) 129)) := by rw [hwy, ← oM]; exact heap_alloc_new _ _
          clear hwy
          have Ky : Hid (Below w1.heap.size w1 wy) := Lib.hid (Qc.out.trans (hby.mono Qc.out.size))
          have iD : Hid (wy.heap[(W1).heap.size]? = some (.map #[] 0)) := Lib.hid ((hby.block _ (Array.getElem?_eq_some_iff.1 Xj.out).1).trans Xj.out)
          have iC : Hid (wy.heap[(ji).heap.size]? = some (aJ n)) := Lib.hid ((hby.block _ (Array.getElem?_eq_some_iff.1 Xl.out).1).trans Xl.out)
          have iy : Hid (wy.heap[(qB).heap.size]? = some (aJ n)) := Lib.hid ((hby.block _ (Array.getElem?_eq_some_iff.1 Xi.out).1).trans Xi.out)
          refine hK.out _ _ (fun _ => aC.out _ Ky.out) (fun hHd => ?_)
          have hHd := hHd (by decide)
          clear hK K
          try simp only [Act.put, g1, g2, g3]
          refine aG (i := 11) (by kernel_rfl) rfl (fun K hK => ?_)
          go_simp
          refine hK.out _ _ (fun h => absurd h (by decide)) (fun _ => ?_)
          clear hK K
          try simp only [Act.put, g1, g2, g3]
          refine dA (by kernel_rfl) ?_ _
          have ks := Qc.out.size
          have e1 := s1.out
          have e36 := s36.out
          have e41 := s41.out
          have e45 := s45.out
          have e46 := s46.out
          have l8 := (Array.getElem?_eq_some_iff.1 Xj.out).1
          have l7 := (Array.getElem?_eq_some_iff.1 Xl.out).1
          have l3 := (Array.getElem?_eq_some_iff.1 Xi.out).1
          exact ⟨(vC).heap.size, (qB).heap.size, (ji).heap.size, (W1).heap.size, _, _, _, _, _, _, _, _, _, _, _, ⟨⟨by omega, by omega, by omega, by omega⟩, ⟨by omega, by omega, by omega, by omega, by omega, by omega⟩, Ky, gy, iy, iC, iD⟩, rfl⟩
  · skip
    go_simp
    obtain ⟨BZ, Iw⟩ : ∃ y, y = (w1.alloc (.map #[] 0)).drew := ⟨_, rfl⟩
    try dsimp only [aJ] at Iw
    rw [← Iw]
    have hb48 : Below (w1.drew).heap.size (w1.drew) BZ := by rw [Iw]; exact VT (aA w1 (.map #[] 0))
    have Xo : Hid (BZ.heap.size = (w1.drew).heap.size + 1) := by rw [Iw]; simp [Hid]
    have g48 : Hid (BZ.heap[w.heap.size + 1]? = some (.map #[] 0)) := by
     rw [Iw]
     have h := heap_alloc_new w1 (.map #[] 0)
     rw [hs1] at h
     exact h
    clear Iw
    have Xp : Hid (Below w1.heap.size w1 BZ) := Lib.hid (Kd.out.trans (hb48.mono Kd.out.size))
    clear hb48
    refine hK.out _ _ (fun _ => aC.out _ Xp.out) (fun hHd => ?_)
    have hHd := hHd (by decide)
    clear hK K
    try simp only [Act.put, g1, g2, g3]
    refine aG (i := 2) (by kernel_rfl) rfl (fun K hK => ?_)
    go_simp
    go_at_call 63
    refine (rG ao an n n co cn BZ uO).mono ?_
    rintro e lG ⟨rfl, Xq⟩
    have Xr : Below (BZ).heap.size (BZ) lG := by rw [← Xq]; exact aA _ _
    have s49 : Hid (lG.heap.size = (BZ).heap.size + 1) := by rw [← Xq]; simp [Hid]
    clear Xq
    have Kw : Hid (Below w1.heap.size w1 lG) := Lib.hid (Xp.out.trans (Xr.mono Xp.out.size))
    have Qd : Hid (lG.heap[(w.heap.size + 1)]? = some (.map #[] 0)) := Lib.hid ((Xr.block _ (Array.getElem?_eq_some_iff.1 g48.out).1).trans g48.out)
    clear Xr
    go_wp2_with fail
    refine hK.out _ _ (fun _ => aC.out _ Kw.out) (fun hHd => ?_)
    have hHd := hHd (by decide)
    clear hK K
    try simp only [Act.put, g1, g2, g3]
    refine jA (i := 3) (j := 6) (by kernel_rfl) rfl rfl (fun K hK => ?_) (fun K hK => ?_)
    · skip
      go_simp
      obtain ⟨y9, Iy⟩ : ∃ y, y = (lG).alloc (aJ n) := ⟨_, rfl⟩
      try dsimp only [aJ] at Iy
      rw [← Iy]
      have Xt : Below (lG).heap.size (lG) y9 := by rw [Iy]; exact aA _ _
      have s50 : Hid (y9.heap.size = (lG).heap.size + 1) := by rw [Iy]; simp [Hid]
      have g50 : Hid (y9.heap[(lG).heap.size]? = some (aJ n)) := by rw [Iy]; exact heap_alloc_new _ _
      clear Iy
      have Xu : Hid (Below w1.heap.size w1 y9) := Lib.hid (Kw.out.trans (Xt.mono Kw.out.size))
      have acr : Hid (y9.heap[(w.heap.size + 1)]? = some (.map #[] 0)) := Lib.hid ((Xt.block _ (Array.getElem?_eq_some_iff.1 Qd.out).1).trans Qd.out)
      clear Xt
      refine hK.out _ _ (fun _ => aC.out _ Xu.out) (fun hHd => ?_)
      have hHd := hHd (by decide)
      clear hK K
      try simp only [Act.put, g1, g2, g3]
      refine aG (i := 6) (by kernel_rfl) rfl (fun K hK => ?_)
      go_simp
      go_at_call 63
      refine (rG ao an n n co cn y9 uO).mono ?_
      rintro e qC ⟨rfl, Xv⟩
      have Qe : Below (y9).heap.size (y9) qC := by rw [← Xv]; exact aA _ _
      have s51 : Hid (qC.heap.size = (y9).heap.size + 1) := by rw [← Xv]; simp [Hid]
      clear Xv
      have Xx : Hid (Below w1.heap.size w1 qC) := Lib.hid (Xu.out.trans (Qe.mono Xu.out.size))
      have acs : Hid (qC.heap[(w.heap.size + 1)]? = some (.map #[] 0)) := Lib.hid ((Qe.block _ (Array.getElem?_eq_some_iff.1 acr.out).1).trans acr.out)
      have acu : Hid (qC.heap[(lG).heap.size]? = some (aJ n)) := Lib.hid ((Qe.block _ (Array.getElem?_eq_some_iff.1 g50.out).1).trans g50.out)
      clear Qe
      go_wp2_with fail
      refine hK.out _ _ (fun _ => aC.out _ Xx.out) (fun hHd => ?_)
      have hHd := hHd (by decide)
      clear hK K
      try simp only [Act.put, g1, g2, g3]
      refine aG (i := 7) (by kernel_rfl) rfl (fun K hK => ?_)
      go_simp
      obtain ⟨vF, Iz⟩ : ∃ y, y = (qC).alloc (aJ n) := ⟨_, rfl⟩
      try dsimp only [aJ] at Iz
      rw [← Iz]
      have Qg : Below (qC).heap.size (qC) vF := by rw [Iz]; exact aA _ _
      have s52 : Hid (vF.heap.size = (qC).heap.size + 1) := by rw [Iz]; simp [Hid]
      have Xy : Hid (vF.heap[(qC).heap.size]? = some (aJ n)) := by rw [Iz]; exact heap_alloc_new _ _
      clear Iz
      have Qh : Hid (Below w1.heap.size w1 vF) := Lib.hid (Xx.out.trans (Qg.mono Xx.out.size))
      have Xz : Hid (vF.heap[(w.heap.size + 1)]? = some (.map #[] 0)) := Lib.hid ((Qg.block _ (Array.getElem?_eq_some_iff.1 acs.out).1).trans acs.out)
      have XA : Hid (vF.heap[(lG).heap.size]? = some (aJ n)) := Lib.hid ((Qg.block _ (Array.getElem?_eq_some_iff.1 acu.out).1).trans acu.out)
      clear Qg
      refine hK.out _ _ (fun _ => aC.out _ Qh.out) (fun hHd => ?_)
      have hHd := hHd (by decide)
      clear hK K
      try simp only [Act.put, g1, g2, g3]
      refine aB (i := 9) (v := ?GR) rfl (by kernel_rfl) (by decide) (by kernel_rfl) (by kernel_rfl) (by kernel_rfl) (fun _ _ _ h => h) (Or.inl ⟨by rfl, ?qX⟩) (by assumption) ?_
      case qX => (intro w hSw; (try dsimp only at hSw); go_simp; first | done | with_reducible rfl)
      try simp only [Act.put, g1, g2, g3]
      refine aG (i := 10) (by kernel_rfl) rfl (fun K hK => ?_)
      go_simp
      obtain ⟨wy, hwy⟩ : ∃ y, y = (vF).alloc (.cells (nU (lG).heap.size (qC).heap.size n (w.heap.size + 1)) 129) := ⟨_, rfl⟩
      rw [← hwy]
      have hby : Below (vF).heap.size (vF) wy := by rw [hwy]; exact aA _ _
      have gy : Hid (wy.heap[(vF).heap.size]? = some (.cells (je (lG).heap.size (qC).heap.size n (w.heap.size + 1)) 129)) := by rw [hwy, ← oM]; exact heap_alloc_new _ _
      clear hwy
      have Ky : Hid (Below w1.heap.size w1 wy) := Lib.hid (Qh.out.trans (hby.mono Qh.out.size))
      have iD : Hid (wy.heap[(w.heap.size + 1)]? = some (.map #[] 0)) := Lib.hid ((hby.block _ (Array.getElem?_eq_some_iff.1 Xz.out).1).trans Xz.out)
      have iy : Hid (wy.heap[(lG).heap.size]? = some (aJ n)) := Lib.hid ((hby.block _ (Array.getElem?_eq_some_iff.1 XA.out).1).trans XA.out)
      have iC : Hid (wy.heap[(qC).heap.size]? = some (aJ n)) := Lib.hid ((hby.block _ (Array.getElem?_eq_some_iff.1 Xy.out).1).trans Xy.out)
      refine hK.out _ _ (fun _ => aC.out _ Ky.out) (fun hHd => ?_)
      have hHd := hHd (by decide)
      clear hK K
      try simp only [Act.put, g1, g2, g3]
      refine aG (i := 11) (by kernel_rfl) rfl (fun K hK => ?_)
      go_simp
      refine hK.out _ _ (fun h => absurd h (by decide)) (fun _ => ?_)
      clear hK K
      try simp only [Act.put, g1, g2, g3]
      refine dA (by kernel_rfl) ?_ _
      have ks := Qh.out.size
      have e48 := Xo.out
      have e49 := s49.out
      have e50 := s50.out
      have e51 := s51.out
      have e52 := s52.out
      have l8 := (Array.getElem?_eq_some_iff.1 Xz.out).1
      have l3 := (Array.getElem?_eq_some_iff.1 XA.out).1
      have l7 := (Array.getElem?_eq_some_iff.1 Xy.out).1
      exact ⟨(vF).heap.size, (lG).heap.size, (qC).heap.size, (w.heap.size + 1), _, _, _, _, _, _, _, _, _, _, _, ⟨⟨by omega, by omega, by omega, by omega⟩, ⟨by omega, by omega, by omega, by omega, by omega, by omega⟩, Ky, gy, iy, iC, iD⟩, rfl⟩
    · skip
      go_simp
      go_at_call 63
      refine (rG ao an n n co cn lG uO).mono ?_
      rintro e jk ⟨rfl, XC⟩
      have XD : Below (lG).heap.size (lG) jk := by rw [← XC]; exact aA _ _
      have s54 : Hid (jk.heap.size = (lG).heap.size + 1) := by rw [← XC]; simp [Hid]
      clear XC
      have KA : Hid (Below w1.heap.size w1 jk) := Lib.hid (Kw.out.trans (XD.mono Kw.out.size))
      have Qi : Hid (jk.heap[(w.heap.size + 1)]? = some (.map #[] 0)) := Lib.hid ((XD.block _ (Array.getElem?_eq_some_iff.1 Qd.out).1).trans Qd.out)
      clear XD
      go_wp2_with fail
      refine hK.out _ _ (fun _ => aC.out _ KA.out) (fun hHd => ?_)
      have hHd := hHd (by decide)
      clear hK K
      try simp only [Act.put, g1, g2, g3]
      refine jA (i := 3) (j := 7) (by kernel_rfl) rfl rfl (fun K hK => ?_) (fun K hK => ?_)
      · skip
        go_simp
        obtain ⟨qE, IB⟩ : ∃ y, y = (jk).alloc (aJ n) := ⟨_, rfl⟩
        try dsimp only [aJ] at IB
        rw [← IB]
        have XE : Below (jk).heap.size (jk) qE := by rw [IB]; exact aA _ _
        have s55 : Hid (qE.heap.size = (jk).heap.size + 1) := by rw [IB]; simp [Hid]
        have g55 : Hid (qE.heap[(jk).heap.size]? = some (aJ n)) := by rw [IB]; exact heap_alloc_new _ _
        clear IB
        have XF : Hid (Below w1.heap.size w1 qE) := Lib.hid (KA.out.trans (XE.mono KA.out.size))
        have acv : Hid (qE.heap[(w.heap.size + 1)]? = some (.map #[] 0)) := Lib.hid ((XE.block _ (Array.getElem?_eq_some_iff.1 Qi.out).1).trans Qi.out)
        clear XE
        refine hK.out _ _ (fun _ => aC.out _ XF.out) (fun hHd => ?_)
        have hHd := hHd (by decide)
        clear hK K
        try simp only [Act.put, g1, g2, g3]
        refine aG (i := 7) (by kernel_rfl) rfl (fun K hK => ?_)
        go_simp
        obtain ⟨vG, IC⟩ : ∃ y, y = (qE).alloc (aJ n) := ⟨_, rfl⟩
        try dsimp only [aJ] at IC
        rw [← IC]
        have Qj : Below (qE).heap.size (qE) vG := by rw [IC]; exact aA _ _
        have s56 : Hid (vG.heap.size = (qE).heap.size + 1) := by rw [IC]; simp [Hid]
        have XG : Hid (vG.heap[(qE).heap.size]? = some (aJ n)) := by rw [IC]; exact heap_alloc_new _ _
        clear IC
        have Qk : Hid (Below w1.heap.size w1 vG) := Lib.hid (XF.out.trans (Qj.mono XF.out.size))
        have XH : Hid (vG.heap[(w.heap.size + 1)]? = some (.map #[] 0)) := Lib.hid ((Qj.block _ (Array.getElem?_eq_some_iff.1 acv.out).1).trans acv.out)
        have XI : Hid (vG.heap[(jk).heap.size]? = some (aJ n)) := Lib.hid ((Qj.block _ (Array.getElem?_eq_some_iff.1 g55.out).1).trans g55.out)
        clear Qj
        refine hK.out _ _ (fun _ => aC.out _ Qk.out) (fun hHd => ?_)
        have hHd := hHd (by decide)
        clear hK K
        try simp only [Act.put, g1, g2, g3]
        refine aB (i := 9) (v := ?JD) rfl (by kernel_rfl) (by decide) (by kernel_rfl) (by kernel_rfl) (by kernel_rfl) (fun _ _ _ h => h) (Or.inl ⟨by rfl, ?hm18⟩) (by assumption) ?_
        case hm18 => (intro w hSw; (try dsimp only at hSw); go_simp; first | done | with_reducible rfl)
        try simp only [Act.put, g1, g2, g3]
        refine aG (i := 10) (by kernel_rfl) rfl (fun K hK => ?_)
        go_simp
        obtain ⟨wy, hwy⟩ : ∃ y, y = (vG).alloc (.cells (nU (jk).heap.size (qE).heap.size n (w.heap.size + 1)) 129) := ⟨_, rfl⟩
        rw [← hwy]
        have hby : Below (vG).heap.size (vG) wy := by rw [hwy]; exact aA _ _
        have gy : Hid (wy.heap[(vG).heap.size]? = some (.cells (je (jk).heap.size (qE).heap.size n (w.heap.size + 1)) 129)) := by rw [hwy, ← oM]; exact heap_alloc_new _ _
        clear hwy
        have Ky : Hid (Below w1.heap.size w1 wy) := Lib.hid (Qk.out.trans (hby.mono Qk.out.size))
        have iD : Hid (wy.heap[(w.heap.size + 1)]? = some (.map #[] 0)) := Lib.hid ((hby.block _ (Array.getElem?_eq_some_iff.1 XH.out).1).trans XH.out)
        have iy : Hid (wy.heap[(jk).heap.size]? = some (aJ n)) := Lib.hid ((hby.block _ (Array.getElem?_eq_some_iff.1 XI.out).1).trans XI.out)
        have iC : Hid (wy.heap[(qE).heap.size]? = some (aJ n)) := Lib.hid ((hby.block _ (Array.getElem?_eq_some_iff.1 XG.out).1).trans XG.out)
        refine hK.out _ _ (fun _ => aC.out _ Ky.out) (fun hHd => ?_)
        have hHd := hHd (by decide)
        clear hK K
        try simp only [Act.put, g1, g2, g3]
        refine aG (i := 11) (by kernel_rfl) rfl (fun K hK => ?_)
        go_simp
        refine hK.out _ _ (fun h => absurd h (by decide)) (fun _ => ?_)
        clear hK K
        try simp only [Act.put, g1, g2, g3]
        refine dA (by kernel_rfl) ?_ _
        have ks := Qk.out.size
        have e48 := Xo.out
        have e49 := s49.out
        have e54 := s54.out
        have e55 := s55.out
        have e56 := s56.out
        have l8 := (Array.getElem?_eq_some_iff.1 XH.out).1
        have l3 := (Array.getElem?_eq_some_iff.1 XI.out).1
        have l7 := (Array.getElem?_eq_some_iff.1 XG.out).1
        exact ⟨(vG).heap.size, (jk).heap.size, (qE).heap.size, (w.heap.size + 1), _, _, _, _, _, _, _, _, _, _, _, ⟨⟨by omega, by omega, by omega, by omega⟩, ⟨by omega, by omega, by omega, by omega, by omega, by omega⟩, Ky, gy, iy, iC, iD⟩, rfl⟩
      · skip
        go_simp
        obtain ⟨qF, IE⟩ : ∃ y, y = (jk).alloc (aJ n) := ⟨_, rfl⟩
        try dsimp only [aJ] at IE
        rw [← IE]
        have XJ : Below (jk).heap.size (jk) qF := by rw [IE]; exact aA _ _
        have s58 : Hid (qF.heap.size = (jk).heap.size + 1) := by rw [IE]; simp [Hid]
        have g58 : Hid (qF.heap[(jk).heap.size]? = some (aJ n)) := by rw [IE]; exact heap_alloc_new _ _
        clear IE
        have XK : Hid (Below w1.heap.size w1 qF) := Lib.hid (KA.out.trans (XJ.mono KA.out.size))
        have acw : Hid (qF.heap[(w.heap.size + 1)]? = some (.map #[] 0)) := Lib.hid ((XJ.block _ (Array.getElem?_eq_some_iff.1 Qi.out).1).trans Qi.out)
        clear XJ
        refine hK.out _ _ (fun _ => aC.out _ XK.out) (fun hHd => ?_)
        have hHd := hHd (by decide)
        clear hK K
        try simp only [Act.put, g1, g2, g3]
        refine aG (i := 3) (by kernel_rfl) rfl (fun K hK => ?_)
        go_simp
        obtain ⟨vH, IG⟩ : ∃ y, y = (qF).alloc (aJ n) := ⟨_, rfl⟩
        try dsimp only [aJ] at IG
        rw [← IG]
        have Ql : Below (qF).heap.size (qF) vH := by rw [IG]; exact aA _ _
        have s59 : Hid (vH.heap.size = (qF).heap.size + 1) := by rw [IG]; simp [Hid]
        have XL : Hid (vH.heap[(qF).heap.size]? = some (aJ n)) := by rw [IG]; exact heap_alloc_new _ _
        clear IG
        have Qm : Hid (Below w1.heap.size w1 vH) := Lib.hid (XK.out.trans (Ql.mono XK.out.size))
        have XM : Hid (vH.heap[(w.heap.size + 1)]? = some (.map #[] 0)) := Lib.hid ((Ql.block _ (Array.getElem?_eq_some_iff.1 acw.out).1).trans acw.out)
        have XN : Hid (vH.heap[(jk).heap.size]? = some (aJ n)) := Lib.hid ((Ql.block _ (Array.getElem?_eq_some_iff.1 g58.out).1).trans g58.out)
        clear Ql
        refine hK.out _ _ (fun _ => aC.out _ Qm.out) (fun hHd => ?_)
        have hHd := hHd (by decide)
        clear hK K
        try simp only [Act.put, g1, g2, g3]
        refine aB (i := 9) (v := ?JE) rfl (by kernel_rfl) (by decide) (by kernel_rfl) (by kernel_rfl) (by kernel_rfl) (fun _ _ _ h => h) (Or.inl ⟨by rfl, ?uK⟩) (by assumption) ?_
        case uK => (intro w hSw; (try dsimp only at hSw); go_simp; first | done | with_reducible rfl)
        try simp only [Act.put, g1, g2, g3]
        refine aG (i := 10) (by kernel_rfl) rfl (fun K hK => ?_)
        go_simp
        obtain ⟨wy, hwy⟩ : ∃ y, y = (vH).alloc (.cells (nU (qF).heap.size (jk).heap.size n (w.heap.size + 1)) 129) := ⟨_, rfl⟩
        rw [← hwy]
        have hby : Below (vH).heap.size (vH) wy := by rw [hwy]; exact aA _ _
        have gy : Hid (wy.heap[(vH).heap.size]? = some (.cells (je (qF).heap.size (jk).heap.size n (w.heap.size + 1)) 129)) := by rw [hwy, ← oM]; exact heap_alloc_new _ _
        clear hwy
        have Ky : Hid (Below w1.heap.size w1 wy) := Lib.hid (Qm.out.trans (hby.mono Qm.out.size))
        have iD : Hid (wy.heap[(w.heap.size + 1)]? = some (.map #[] 0)) := Lib.hid ((hby.block _ (Array.getElem?_eq_some_iff.1 XM.out).1).trans XM.out)
        have iC : Hid (wy.heap[(jk).heap.size]? = some (aJ n)) := Lib.hid ((hby.block _ (Array.getElem?_eq_some_iff.1 XN.out).1).trans XN.out)
        have iy : Hid (wy.heap[(qF).heap.size]? = some (aJ n)) := Lib.hid ((hby.block _ (Array.getElem?_eq_some_iff.1 XL.out).1).trans XL.out)
        refine hK.out _ _ (fun _ => aC.out _ Ky.out) (fun hHd => ?_)
        have hHd := hHd (by decide)
        clear hK K
        try simp only [Act.put, g1, g2, g3]
        refine aG (i := 11) (by kernel_rfl) rfl (fun K hK => ?_)
        go_simp
        refine hK.out _ _ (fun h => absurd h (by decide)) (fun _ => ?_)
        clear hK K
        try simp only [Act.put, g1, g2, g3]
        refine dA (by kernel_rfl) ?_ _
        have ks := Qm.out.size
        have e48 := Xo.out
        have e49 := s49.out
        have e54 := s54.out
        have e58 := s58.out
        have e59 := s59.out
        have l8 := (Array.getElem?_eq_some_iff.1 XM.out).1
        have l7 := (Array.getElem?_eq_some_iff.1 XN.out).1
        have l3 := (Array.getElem?_eq_some_iff.1 XL.out).1
        exact ⟨(vH).heap.size, (qF).heap.size, (jk).heap.size, (w.heap.size + 1), _, _, _, _, _, _, _, _, _, _, _, ⟨⟨by omega, by omega, by omega, by omega⟩, ⟨by omega, by omega, by omega, by omega, by omega, by omega⟩, Ky, gy, iy, iC, iD⟩, rfl⟩
 case DX =>
  rintro a' wx ⟨b, nb, pb, kb, u7, u8, u9, u10, u11, u12, u13, u14, u15, u16, iT, ⟨⟨hb1, hb2, hb3, hb4⟩, hap, Bx, G0, G3, G7, G8⟩, rfl⟩
  have hl0 := (Array.getElem?_eq_some_iff.1 G0.out).1
  have hl3 := (Array.getElem?_eq_some_iff.1 G3.out).1
  have hl7 := (Array.getElem?_eq_some_iff.1 G7.out).1
  have hl8 := (Array.getElem?_eq_some_iff.1 G8.out).1
  have HR0 : Hid (dX wx b n nb pb kb (dB O 0) (dB P 0) (lu ah 0) (lC ah 0)) := by rw [abG, abG, ah3, ah4]; exact ah8 G0.out G3.out G7.out G8.out hn1 hn2 hap
  have HM0 : Hid (dH wx kb Q) := dH.new Q G8.out
  have Cb : Hid (eY wx b ∧ eY wx nb ∧ eY wx pb) := ⟨⟨hl0, fun k => by simp [World.frozen?, G0.out]⟩, abL G3.out, abL G7.out⟩
  have HFx := Lib.hid (BR.out.below Bx.out)
  have hsx := Bx.out.size
  have Qn := Lib.hid (HB1.out.trans (Bx.out.mono HB1.out.size))
  have t2 := HFx.out.c2
  clear aC Kd G0 G3 G7 G8 Bx BR HB1
  go_wp2
  clear t2
  go_loopw [21] (fun iv wr => ∃ k : Nat, k ≤ n ∧ iv = .int .i64 k ∧ Hid (dX wr b n nb pb kb (dB O k) (dB P k) (lu ah k) (lC ah k)) ∧ Hid (dH wr kb Q) ∧ Hid (eY wr b ∧ eY wr nb ∧ eY wr pb) ∧ Hid (Only (fun x => x = b ∨ x = nb ∨ x = pb ∨ x = kb ∨ wx.heap.size ≤ x) wx wr)) (fun iv _ => n - (intOf iv).toNat)
  case atStart => exact ⟨0, Nat.zero_le _, rfl, HR0, HM0, Cb, Only.refl _ _⟩
  case round =>
   obtain ⟨k, hk, rfl, HRk, HMk, KC, Qo⟩ := hrel
   have Qp : Hid (Below w.heap.size w wr) := Qn.out.trans (Qo.out.below (B := w.heap.size) (by have := Qn.out.size; omega) (fun x hx => by omega))
   have HFk := Lib.hid (HFx.out.only Qo.out (by omega))
   have hsk := Qo.out.size
   by_cases hlt : k < n
   · have hi1 : (k : Int) < n := by omega
     have hk0 : (0 : Int) ≤ (k : Int) := by omega
     obtain ⟨HLo, HLz, HLp⟩ := HL.out
     obtain ⟨pb0, po, hpa, hpc⟩ := (HI3.out.below Qp.out).cell (by omega)
     obtain ⟨ob, oo, hoa, hoc⟩ := HI1.out.cell (by omega)
     obtain ⟨eb, eo, hea, hec⟩ := HI2.out.cell (by omega)
     have p1 := hpc k (by omega)
     have tY := Lib.hid (hoc k (by omega))
     have HEC := Lib.hid (hec k (by omega))
     have HRW := Lib.hid (HI2.out.rows k (by omega))
     obtain ⟨i, hi, hi2⟩ : ∃ i : Nat, nth O k = (i : Int) ∧ i < 2 := by
      rcases (HV.out k hlt).1 with h | h
      · exact ⟨0, h, by omega⟩
      · exact ⟨1, h, by omega⟩
     obtain ⟨q, hq, hq2⟩ : ∃ q : Nat, nth P k = (q : Int) ∧ q < 41 := by
      have := HPr.out k hlt
      exact ⟨(nth P k).toNat, by omega, by omega⟩
     rw [hq] at p1
     rw [hi] at tY
     have HI := Lib.hid hi
     have HQ := Lib.hid hq
     subst hpa hoa hea
     have i0 : (0 : Int) ≤ (i : Int) := by omega
     have i1 : (i : Int) < 2 := by omega
     have q0 : (0 : Int) ≤ (q : Int) := by omega
     have q1 : (q : Int) < 41 := by omega
     have hob := World.block_lt_of_cell? _ _ tY.out
     have heb := World.block_lt_of_cell? _ _ HEC.out
     clear hpc hoc hec hi hq
     go_wp2_with fail
     obtain ⟨wa, Qq⟩ : ∃ y, y = wr.alloc (.cells #[.int .i64 (k : Int)] 2) := ⟨_, rfl⟩
     rw [← Qq]
     have Ba : Hid (Below wr.heap.size wr wa) := by rw [Qq]; exact aA _ _
     have ca : wa.cell? ⟨wr.heap.size, 0, none⟩ = some (.int .i64 (k : Int)) := by rw [Qq]; exact (uD _ _ _ rfl).cell
     clear Qq p1
     refine (Jw ca (by omega)).mono ?_
     rintro e wb ⟨rfl, hbb⟩
     have Bb := Lib.hid (Ba.out.trans (hbb.mono Ba.out.size))
     clear hbb ca Ba
     go_upto_region 6 with fail
     obtain ⟨wc, hwc⟩ : ∃ y, y = wb.alloc (xA (aS k)) := ⟨_, rfl⟩
     rw [← hwc]
     have Bc : Hid (Below wr.heap.size wr wc) := by rw [hwc]; exact Bb.out.trans ((aA _ _).mono Bb.out.size)
     have bO : Hid (aH wc wb.heap.size (aS k)) := by rw [hwc]; exact aH.new _ _
     have hsb := Bb.out.size
     have hsc : wc.heap.size = wb.heap.size + 1 := by rw [hwc]; simp
     clear hwc Bb
     obtain ⟨gw, hgw⟩ : ∃ g, g = wb.heap.size := ⟨_, rfl⟩
     rw [← hgw] at bO ⊢
     have hg1 : wr.heap.size ≤ gw := by omega
     have hg2 : gw < wc.heap.size := by omega
     have hg3 : wr.heap.size ≤ wc.heap.size := by omega
     clear hgw hsc hsb
     have hltk := HRk.out.lt
     have Rc := Lib.hid (HRk.out.below Bc.out)
     have Fb := Lib.hid (KC.out.1.below Bc.out)
     have Fn := Lib.hid (KC.out.2.1.below Bc.out)
     have Fp := Lib.hid (KC.out.2.2.below Bc.out)
     have Mc := Lib.hid (HMk.out.below Bc.out)
     have Fl := Lib.hid (HFk.out.below Bc.out)
     have BWc := Lib.hid (Qp.out.trans (Bc.out.mono Qp.out.size))
     have XO : Hid (wc.cell? ⟨ob, oo + k, none⟩ = some (.int .i64 (i : Int))) := (BWc.out.cell (p := ⟨ob, oo + k, none⟩) hob).trans tY.out
     have Ef : Hid (∀ W', Only (fun x => x = b ∨ wc.heap.size ≤ x) wc W' → W'.cell? ⟨w.heap.size, 0, none⟩ = some (.slice (some ⟨ob, oo, none⟩) n co) ∧ W'.cell? ⟨ob, oo + k, none⟩ = some (.int .i64 (i : Int)) ∧ W'.cell? ⟨gw, 0, none⟩ = some (.int .u64 (aj (aS k) 0)) ∧ W'.cell? ⟨gw, 1, none⟩ = some (.int .u64 (aj (aS k) 1)) ∧ W'.cell? ⟨gw, 2, none⟩ = some (.int .u64 (aj (aS k) 2)) ∧ W'.cell? ⟨gw, 3, none⟩ = some (.int .u64 (aj (aS k) 3))) := fun W' hb => by
      have m := bO.out.only hb (by omega)
      exact ⟨(Fl.out.only hb (by omega)).c0, (World.cell?_of_block (hb.block ob (World.block_lt_of_cell? _ _ XO.out) (by omega))).trans XO.out, m.c0, m.c1, m.c2, m.c3⟩
     refine jB (S := (fun W' => W'.cell? ⟨w.heap.size, 0, none⟩ = some (.slice (some ⟨ob, oo, none⟩) n co) ∧ W'.cell? ⟨ob, oo + k, none⟩ = some (.int .i64 (i : Int)) ∧ W'.cell? ⟨gw, 0, none⟩ = some (.int .u64 (aj (aS k) 0)) ∧ W'.cell? ⟨gw, 1, none⟩ = some (.int .u64 (aj (aS k) 1)) ∧ W'.cell? ⟨gw, 2, none⟩ = some (.int .u64 (aj (aS k) 2)) ∧ W'.cell? ⟨gw, 3, none⟩ = some (.int .u64 (aj (aS k) 3)))) (m := 24) (by kernel_rfl) (Ef.out _ ((Only.of_below (Below.refl _ _).drew).mono fun x hx => .inr hx)) (fun hHd => ?_)
     obtain ⟨wz, hwz⟩ : ∃ y, y = wc.drew := ⟨_, rfl⟩
     rw [← hwz] at hHd ⊢
     have Kz : Hid (Below wc.heap.size wc wz) := by rw [hwz]; exact (Below.refl _ _).drew
     clear hwz
     refine aB (i := 0) (v := ?JF) rfl (by kernel_rfl) (by decide) (by kernel_rfl) (by kernel_rfl) (by kernel_rfl) (fun _ _ _ h => h) (Or.inl ⟨by rfl, ?uM⟩) (by assumption) ?_
     case uM => (intro w hSw; (try dsimp only at hSw); go_simp; first | done | with_reducible rfl)
     try simp only [Act.put, g1, g2, g3]
     refine aB (i := 1) (v := ?Oj) rfl (by kernel_rfl) (by decide) (by kernel_rfl) (by kernel_rfl) (by kernel_rfl) (fun _ _ _ h => h) (Or.inl ⟨by rfl, ?yH⟩) (by assumption) ?_
     case yH => (intro w hSw; (try dsimp only at hSw); go_simp; first | done | with_reducible rfl)
     try simp only [Act.put, g1, g2, g3]
     refine aB (i := 2) (v := ?Ol) rfl (by kernel_rfl) (by decide) (by kernel_rfl) (by kernel_rfl) (by kernel_rfl) (fun _ _ _ h => h) (Or.inl ⟨by rfl, ?yI⟩) (by assumption) ?_
     case yI => (intro w hSw; (try dsimp only at hSw); go_simp; first | done | with_reducible rfl)
     try simp only [Act.put, g1, g2, g3]
     refine aB (i := 3) (v := ?Om) rfl (by kernel_rfl) (by decide) (by kernel_rfl) (by kernel_rfl) (by kernel_rfl) (fun _ _ _ h => h) (Or.inl ⟨by rfl, ?yJ⟩) (by assumption) ?_
     case yJ => (intro w hSw; (try dsimp only at hSw); go_simp; first | done | with_reducible rfl)
     try simp only [Act.put, g1, g2, g3]
     refine aB (i := 4) (v := ?Oo) rfl (by kernel_rfl) (by decide) (by kernel_rfl) (by kernel_rfl) (by kernel_rfl) (fun _ _ _ h => h) (Or.inl ⟨by rfl, ?yK⟩) (by assumption) ?_
     case yK => (intro w hSw; (try dsimp only at hSw); go_simp; first | done | with_reducible rfl)
     try simp only [Act.put, g1, g2, g3]
     refine aB (i := 5) (v := ?Oq) rfl (by kernel_rfl) (by decide) (by kernel_rfl) (by kernel_rfl) (by kernel_rfl) (fun _ _ _ h => h) (Or.inl ⟨by rfl, ?yL⟩) (by assumption) ?_
     case yL => (intro w hSw; (try dsimp only at hSw); go_simp; first | done | with_reducible rfl)
     try simp only [Act.put, g1, g2, g3]
     refine aB (i := 6) (v := ?Ou) rfl (by kernel_rfl) (by decide) (by kernel_rfl) (by kernel_rfl) (by kernel_rfl) (fun _ _ _ h => h) (Or.inl ⟨by rfl, ?yM⟩) (by assumption) ?_
     case yM => (intro w hSw; (try dsimp only at hSw); go_simp; first | done | with_reducible rfl)
     try simp only [Act.put, g1, g2, g3]
     refine aB (i := 7) (v := ?Ov) rfl (by kernel_rfl) (by decide) (by kernel_rfl) (by kernel_rfl) (by kernel_rfl) (fun _ _ _ h => h) (Or.inl ⟨by rfl, ?yN⟩) (by assumption) ?_
     case yN => (intro w hSw; (try dsimp only at hSw); go_simp; first | done | with_reducible rfl)
     try simp only [Act.put, g1, g2, g3]
     refine aB (i := 8) (v := ?OA) rfl (by kernel_rfl) (by decide) (by kernel_rfl) (by kernel_rfl) (by kernel_rfl) (fun _ _ _ h => h) (Or.inl ⟨by rfl, ?yO⟩) (by assumption) ?_
     case yO => (intro w hSw; (try dsimp only at hSw); go_simp; first | done | with_reducible rfl)
     try simp only [Act.put, g1, g2, g3]
     refine aB (i := 9) (v := ?OD) rfl (by kernel_rfl) (by decide) (by kernel_rfl) (by kernel_rfl) (by kernel_rfl) (fun _ _ _ h => h) (Or.inl ⟨by rfl, ?yP⟩) (by assumption) ?_
     case yP => (intro w hSw; (try dsimp only at hSw); go_simp; first | done | with_reducible rfl)
     try simp only [Act.put, g1, g2, g3]
     refine aB (i := 10) (v := ?UU) rfl (by kernel_rfl) (by decide) (by kernel_rfl) (by kernel_rfl) (by kernel_rfl) (fun _ _ _ h => h) (Or.inl ⟨by rfl, ?DN⟩) (by assumption) ?_
     case DN => (intro w hSw; (try dsimp only at hSw); go_simp; first | done | with_reducible rfl)
     try simp only [Act.put, g1, g2, g3]
     refine aB (i := 11) (v := ?UW) rfl (by kernel_rfl) (by decide) (by kernel_rfl) (by kernel_rfl) (by kernel_rfl) (fun _ _ _ h => h) (Or.inl ⟨by rfl, ?DR⟩) (by assumption) ?_
     case DR => (intro w hSw; (try dsimp only at hSw); go_simp; first | done | with_reducible rfl)
     try simp only [Act.put, g1, g2, g3]
     refine aB (i := 12) (v := ?UY) rfl (by kernel_rfl) (by decide) (by kernel_rfl) (by kernel_rfl) (by kernel_rfl) (fun _ _ _ h => h) (Or.inl ⟨by rfl, ?DT⟩) (by assumption) ?_
     case DT => (intro w hSw; (try dsimp only at hSw); go_simp; first | done | with_reducible rfl)
     try simp only [Act.put, g1, g2, g3]
     refine aB (i := 13) (v := ?UZ) rfl (by kernel_rfl) (by decide) (by kernel_rfl) (by kernel_rfl) (by kernel_rfl) (fun _ _ _ h => h) (Or.inl ⟨by rfl, ?DU⟩) (by assumption) ?_
     case DU => (intro w hSw; (try dsimp only at hSw); go_simp; first | done | with_reducible rfl)
     try simp only [Act.put, g1, g2, g3]
     refine aB (i := 14) (v := ?U0) rfl (by kernel_rfl) (by decide) (by kernel_rfl) (by kernel_rfl) (by kernel_rfl) (fun _ _ _ h => h) (Or.inl ⟨by rfl, ?DV⟩) (by assumption) ?_
     case DV => (intro w hSw; (try dsimp only at hSw); go_simp; first | done | with_reducible rfl)
     try simp only [Act.put, g1, g2, g3]
     refine aB (i := 15) (v := ?ah2) rfl (by kernel_rfl) (by decide) (by kernel_rfl) (by kernel_rfl) (by kernel_rfl) (fun _ _ _ h => h) (Or.inl ⟨by rfl, ?VP⟩) (by assumption) ?_
     case VP => (intro w hSw; (try dsimp only at hSw); go_simp; first | done | with_reducible rfl)
     try simp only [Act.put, g1, g2, g3]
     refine aB (i := 16) (v := ?akr) rfl (by kernel_rfl) (by decide) (by kernel_rfl) (by kernel_rfl) (by kernel_rfl) (fun _ _ _ h => h) (Or.inl ⟨by rfl, ?air⟩) (by assumption) ?_
     case air => (intro w hSw; (try dsimp only at hSw); go_simp; first | done | with_reducible rfl)
     try simp only [Act.put, g1, g2, g3]
     refine aB (i := 18) (v := ?aks) rfl (by kernel_rfl) (by decide) (by kernel_rfl) (by kernel_rfl) (by kernel_rfl) (fun _ _ _ h => h) (Or.inl ⟨by rfl, ?ais⟩) (by assumption) ?_
     case ais => (intro w hSw; (try dsimp only at hSw); go_simp; first | done | with_reducible rfl)
     try simp only [Act.put, g1, g2, g3]
     refine aB (i := 20) (v := ?akt) rfl (by kernel_rfl) (by decide) (by kernel_rfl) (by kernel_rfl) (by kernel_rfl) (fun _ _ _ h => h) (Or.inl ⟨by rfl, ?ait⟩) (by assumption) ?_
     case ait => (intro w hSw; (try dsimp only at hSw); go_simp; first | done | with_reducible rfl)
     try simp only [Act.put, g1, g2, g3]
     refine aB (i := 21) (v := ?aku) rfl (by kernel_rfl) (by decide) (by kernel_rfl) (by kernel_rfl) (by kernel_rfl) (fun _ _ _ h => h) (Or.inl ⟨by rfl, ?aiu⟩) (by assumption) ?_
     case aiu => (intro w hSw; (try dsimp only at hSw); go_simp; first | done | with_reducible rfl)
     try simp only [Act.put, g1, g2, g3]
     have R := Rc.out.below Kz.out
     have y1 := R.own i hi2 1 (by omega)
     have y2 := R.own i hi2 2 (by omega)
     have y3 := R.own i hi2 3 (by omega)
     have y0 := R.own i hi2 0 (by omega)
     rw [Nat.add_zero] at y0
     clear R
     refine aG (i := 17) (by kernel_rfl) rfl (fun K hK => ?_)
     go_simp
     refine hK.out _ _ (fun _ => Ef.out _ ((Only.of_below Kz.out).mono fun x hx => .inr hx)) (fun hHd => ?_)
     have hHd := hHd (by decide)
     clear hK K
     try simp only [Act.put, g1, g2, g3]
     clear y0 y1 y2 y3
     refine aG (i := 19) (by kernel_rfl) rfl (fun K hK => ?_)
     go_simp
     go_at_call 109
     refine (yu _ _).mono ?_
     rintro e Wa ⟨rfl, hb⟩
     have Ka := Lib.hid (Kz.out.trans (hb.mono Kz.out.size))
     clear hb
     go_wp2_with fail
     refine hK.out _ _ (fun _ => Ef.out _ ((Only.of_below Ka.out).mono fun x hx => .inr hx)) (fun hHd => ?_)
     have hHd := hHd (by decide)
     clear hK K
     try simp only [Act.put, g1, g2, g3]
     refine aB (i := 22) (v := ?akv) rfl (by kernel_rfl) (by decide) (by kernel_rfl) (by kernel_rfl) (by kernel_rfl) (fun _ _ _ h => h) (Or.inl ⟨by rfl, ?aiv⟩) (by assumption) ?_
     case aiv => (intro w hSw; (try dsimp only at hSw); go_simp; first | done | with_reducible rfl)
     try simp only [Act.put, g1, g2, g3]
     have R := Rc.out.below Ka.out
     have y1 := R.own i hi2 1 (by omega)
     have y2 := R.own i hi2 2 (by omega)
     have y3 := R.own i hi2 3 (by omega)
     have y0 := R.own i hi2 0 (by omega)
     rw [Nat.add_zero] at y0
     have FA := Fb.out.below Ka.out
     have f0 := FA.2 (i * 4)
     have f1 := FA.2 (i * 4 + 1)
     have f2 := FA.2 (i * 4 + 2)
     have f3 := FA.2 (i * 4 + 3)
     have mq := Lib.hid (R.aib hi2 (aO (dB O k i) (aS k)))
     have fq := Lib.hid FA
     clear R FA hHd
     refine aG (i := 23) (by kernel_rfl) rfl (fun K hK => ?_)
     go_simp
     refine hK.out _ _ (fun _ => Ef.out _ ((((Only.of_below Ka.out).mono fun x hx => .inr hx : Only (fun x => x = b ∨ wc.heap.size ≤ x) wc Wa)).trans (dw (S := fun x => x = b ∨ wc.heap.size ≤ x) (Only.refl _ Wa) (.inl rfl) (.int .u64 (aj (aO (dB O k i) (aS k)) 0)) (.int .u64 (aj (aO (dB O k i) (aS k)) 1)) (.int .u64 (aj (aO (dB O k i) (aS k)) 2)) (.int .u64 (aj (aO (dB O k i) (aS k)) 3)) (i * 4)))) (fun hHd => ?_)
     have hHd := hHd (by decide)
     clear hK K
     try simp only [Act.put, g1, g2, g3]
     clear hHd
     refine dA (by kernel_rfl) ?_ _
     obtain ⟨wd, hwd⟩ : ∃ y, y = ((((Wa.setCell ⟨b, i * 4, none⟩ (.int .u64 (aj (aO (dB O k i) (aS k)) 0))).setCell ⟨b, i * 4 + 1, none⟩ (.int .u64 (aj (aO (dB O k i) (aS k)) 1))).setCell ⟨b, i * 4 + 2, none⟩ (.int .u64 (aj (aO (dB O k i) (aS k)) 2))).setCell ⟨b, i * 4 + 3, none⟩ (.int .u64 (aj (aO (dB O k i) (aS k)) 3))) := ⟨_, rfl⟩
     rw [← hwd]
     have Rd : Hid (dX wd b n nb pb kb (dB O (k + 1)) (dB P k) (lu ah k) (lC ah k)) := by rw [hwd, ← abH HI.out]; exact mq.out
     have hod : Only (fun x => x = b) Wa wd := by rw [hwd]; exact dw (S := fun x => x = b) (Only.refl _ Wa) rfl _ _ _ _ _
     have Fbd : Hid (eY wd b) := by rw [hwd]; exact (((fq.out.set _ _).set _ _).set _ _).set _ _
     have hka := Ka.out.size
     have Od : Hid (Only (fun x => x = b ∨ wc.heap.size ≤ x) wc wd) := ((Only.of_below Ka.out).mono fun x hx => .inr hx).trans (hod.mono fun x hx => .inl hx)
     clear hwd hod y0 y1 y2 y3 f0 f1 f2 f3 mq fq Ef Kz Ka
     have hsd := Od.out.size
     have Fnd := Lib.hid (Fn.out.only Od.out (by omega))
     have Fpd := Lib.hid (Fp.out.only Od.out (by omega))
     have Md := Lib.hid (Mc.out.only Od.out (by omega))
     have bOd := Lib.hid (bO.out.only Od.out (by omega))
     have Fld := Lib.hid (Fl.out.only Od.out (by omega))
     have tC : Hid (∀ W', Only (fun x => x = b ∨ wd.heap.size ≤ x) wd W' → W'.cell? ⟨gw, 0, none⟩ = some (.int .u64 (aj (aS k) 0)) ∧ W'.cell? ⟨gw, 1, none⟩ = some (.int .u64 (aj (aS k) 1)) ∧ W'.cell? ⟨gw, 2, none⟩ = some (.int .u64 (aj (aS k) 2)) ∧ W'.cell? ⟨gw, 3, none⟩ = some (.int .u64 (aj (aS k) 3))) := fun W' hb => by
      have m := bOd.out.only hb (by omega)
      exact ⟨m.c0, m.c1, m.c2, m.c3⟩
     go_wp2_with fail
     refine jB (S := (fun W' => W'.cell? ⟨gw, 0, none⟩ = some (.int .u64 (aj (aS k) 0)) ∧ W'.cell? ⟨gw, 1, none⟩ = some (.int .u64 (aj (aS k) 1)) ∧ W'.cell? ⟨gw, 2, none⟩ = some (.int .u64 (aj (aS k) 2)) ∧ W'.cell? ⟨gw, 3, none⟩ = some (.int .u64 (aj (aS k) 3)))) (m := 14) (by kernel_rfl) (tC.out _ ((Only.of_below (Below.refl _ _).drew).mono fun x hx => .inr hx)) (fun hHd => ?_)
     obtain ⟨wz, hwz⟩ : ∃ y, y = wd.drew := ⟨_, rfl⟩
     rw [← hwz] at hHd ⊢
     have Kz : Hid (Below wd.heap.size wd wz) := by rw [hwz]; exact (Below.refl _ _).drew
     clear hwz
     refine aB (i := 0) (v := ?akw) rfl (by kernel_rfl) (by decide) (by kernel_rfl) (by kernel_rfl) (by kernel_rfl) (fun _ _ _ h => h) (Or.inl ⟨by rfl, ?aiw⟩) (by assumption) ?_
     case aiw => (intro w hSw; (try dsimp only at hSw); go_simp; first | done | with_reducible rfl)
     try simp only [Act.put, g1, g2, g3]
     refine aB (i := 1) (v := ?akx) rfl (by kernel_rfl) (by decide) (by kernel_rfl) (by kernel_rfl) (by kernel_rfl) (fun _ _ _ h => h) (Or.inl ⟨by rfl, ?aix⟩) (by assumption) ?_
     case aix => (intro w hSw; (try dsimp only at hSw); go_simp; first | done | with_reducible rfl)
     try simp only [Act.put, g1, g2, g3]
     refine aB (i := 2) (v := ?aky) rfl (by kernel_rfl) (by decide) (by kernel_rfl) (by kernel_rfl) (by kernel_rfl) (fun _ _ _ h => h) (Or.inl ⟨by rfl, ?aiy⟩) (by assumption) ?_
     case aiy => (intro w hSw; (try dsimp only at hSw); go_simp; first | done | with_reducible rfl)
     try simp only [Act.put, g1, g2, g3]
     refine aB (i := 3) (v := ?akz) rfl (by kernel_rfl) (by decide) (by kernel_rfl) (by kernel_rfl) (by kernel_rfl) (fun _ _ _ h => h) (Or.inl ⟨by rfl, ?aiz⟩) (by assumption) ?_
     case aiz => (intro w hSw; (try dsimp only at hSw); go_simp; first | done | with_reducible rfl)
     try simp only [Act.put, g1, g2, g3]
     refine aB (i := 4) (v := ?akA) rfl (by kernel_rfl) (by decide) (by kernel_rfl) (by kernel_rfl) (by kernel_rfl) (fun _ _ _ h => h) (Or.inl ⟨by rfl, ?aiA⟩) (by assumption) ?_
     case aiA => (intro w hSw; (try dsimp only at hSw); go_simp; first | done | with_reducible rfl)
     try simp only [Act.put, g1, g2, g3]
     refine aB (i := 5) (v := ?akB) rfl (by kernel_rfl) (by decide) (by kernel_rfl) (by kernel_rfl) (by kernel_rfl) (fun _ _ _ h => h) (Or.inl ⟨by rfl, ?aiB⟩) (by assumption) ?_
     case aiB => (intro w hSw; (try dsimp only at hSw); go_simp; first | done | with_reducible rfl)
     try simp only [Act.put, g1, g2, g3]
     refine aB (i := 6) (v := ?akC) rfl (by kernel_rfl) (by decide) (by kernel_rfl) (by kernel_rfl) (by kernel_rfl) (fun _ _ _ h => h) (Or.inl ⟨by rfl, ?aiC⟩) (by assumption) ?_
     case aiC => (intro w hSw; (try dsimp only at hSw); go_simp; first | done | with_reducible rfl)
     try simp only [Act.put, g1, g2, g3]
     refine aB (i := 8) (v := ?akD) rfl (by kernel_rfl) (by decide) (by kernel_rfl) (by kernel_rfl) (by kernel_rfl) (fun _ _ _ h => h) (Or.inl ⟨by rfl, ?aiD⟩) (by assumption) ?_
     case aiD => (intro w hSw; (try dsimp only at hSw); go_simp; first | done | with_reducible rfl)
     try simp only [Act.put, g1, g2, g3]
     refine aB (i := 10) (v := ?akE) rfl (by kernel_rfl) (by decide) (by kernel_rfl) (by kernel_rfl) (by kernel_rfl) (fun _ _ _ h => h) (Or.inl ⟨by rfl, ?aiE⟩) (by assumption) ?_
     case aiE => (intro w hSw; (try dsimp only at hSw); go_simp; first | done | with_reducible rfl)
     try simp only [Act.put, g1, g2, g3]
     refine aB (i := 11) (v := ?akF) rfl (by kernel_rfl) (by decide) (by kernel_rfl) (by kernel_rfl) (by kernel_rfl) (fun _ _ _ h => h) (Or.inl ⟨by rfl, ?aiF⟩) (by assumption) ?_
     case aiF => (intro w hSw; (try dsimp only at hSw); go_simp; first | done | with_reducible rfl)
     try simp only [Act.put, g1, g2, g3]
     have R := Rd.out.below Kz.out
     have y1 := R.pJ q hq2 1 (by omega)
     have y2 := R.pJ q hq2 2 (by omega)
     have y3 := R.pJ q hq2 3 (by omega)
     have y0 := R.pJ q hq2 0 (by omega)
     rw [Nat.add_zero] at y0
     clear R
     refine aG (i := 7) (by kernel_rfl) rfl (fun K hK => ?_)
     go_simp
     refine hK.out _ _ (fun _ => tC.out _ ((Only.of_below Kz.out).mono fun x hx => .inr hx)) (fun hHd => ?_)
     have hHd := hHd (by decide)
     clear hK K
     try simp only [Act.put, g1, g2, g3]
     clear y0 y1 y2 y3
     refine aG (i := 9) (by kernel_rfl) rfl (fun K hK => ?_)
     go_simp
     go_at_call 109
     refine (yu _ _).mono ?_
     rintro e Wb ⟨rfl, hb⟩
     have Kb := Lib.hid (Kz.out.trans (hb.mono Kz.out.size))
     clear hb
     go_wp2_with fail
     refine hK.out _ _ (fun _ => tC.out _ ((Only.of_below Kb.out).mono fun x hx => .inr hx)) (fun hHd => ?_)
     have hHd := hHd (by decide)
     clear hK K
     try simp only [Act.put, g1, g2, g3]
     refine aB (i := 12) (v := ?akG) rfl (by kernel_rfl) (by decide) (by kernel_rfl) (by kernel_rfl) (by kernel_rfl) (fun _ _ _ h => h) (Or.inl ⟨by rfl, ?aiG⟩) (by assumption) ?_
     case aiG => (intro w hSw; (try dsimp only at hSw); go_simp; first | done | with_reducible rfl)
     try simp only [Act.put, g1, g2, g3]
     have R := Rd.out.below Kb.out
     have y1 := R.pJ q hq2 1 (by omega)
     have y2 := R.pJ q hq2 2 (by omega)
     have y3 := R.pJ q hq2 3 (by omega)
     have y0 := R.pJ q hq2 0 (by omega)
     rw [Nat.add_zero] at y0
     have FA := Fbd.out.below Kb.out
     have f0 := FA.2 (8 + q * 4)
     have f1 := FA.2 (8 + q * 4 + 1)
     have f2 := FA.2 (8 + q * 4 + 2)
     have f3 := FA.2 (8 + q * 4 + 3)
     have mq := Lib.hid (R.aic hq2 (aO (dB P k q) (aS k)))
     have fq := Lib.hid FA
     clear R FA hHd
     refine aG (i := 13) (by kernel_rfl) rfl (fun K hK => ?_)
     go_simp
     refine hK.out _ _ (fun _ => tC.out _ ((((Only.of_below Kb.out).mono fun x hx => .inr hx : Only (fun x => x = b ∨ wd.heap.size ≤ x) wd Wb)).trans (dw (S := fun x => x = b ∨ wd.heap.size ≤ x) (Only.refl _ Wb) (.inl rfl) (.int .u64 (aj (aO (dB P k q) (aS k)) 0)) (.int .u64 (aj (aO (dB P k q) (aS k)) 1)) (.int .u64 (aj (aO (dB P k q) (aS k)) 2)) (.int .u64 (aj (aO (dB P k q) (aS k)) 3)) (8 + q * 4)))) (fun hHd => ?_)
     have hHd := hHd (by decide)
     clear hK K
     try simp only [Act.put, g1, g2, g3]
     clear hHd
     refine dA (by kernel_rfl) ?_ _
     obtain ⟨we, hwe⟩ : ∃ y, y = ((((Wb.setCell ⟨b, 8 + q * 4, none⟩ (.int .u64 (aj (aO (dB P k q) (aS k)) 0))).setCell ⟨b, 8 + q * 4 + 1, none⟩ (.int .u64 (aj (aO (dB P k q) (aS k)) 1))).setCell ⟨b, 8 + q * 4 + 2, none⟩ (.int .u64 (aj (aO (dB P k q) (aS k)) 2))).setCell ⟨b, 8 + q * 4 + 3, none⟩ (.int .u64 (aj (aO (dB P k q) (aS k)) 3))) := ⟨_, rfl⟩
     rw [← hwe]
     have Re : Hid (dX we b n nb pb kb (dB O (k + 1)) (dB P (k + 1)) (lu ah k) (lC ah k)) := by rw [hwe, ← abH HQ.out]; exact mq.out
     have hoe : Only (fun x => x = b) Wb we := by rw [hwe]; exact dw (S := fun x => x = b) (Only.refl _ Wb) rfl _ _ _ _ _
     have Fbe : Hid (eY we b) := by rw [hwe]; exact (((fq.out.set _ _).set _ _).set _ _).set _ _
     have hkb := Kb.out.size
     have Oe : Hid (Only (fun x => x = b ∨ wd.heap.size ≤ x) wd we) := ((Only.of_below Kb.out).mono fun x hx => .inr hx).trans (hoe.mono fun x hx => .inl hx)
     clear hwe hoe y0 y1 y2 y3 f0 f1 f2 f3 mq fq tC Kz Kb
     have hse := Oe.out.size
     have Fne := Lib.hid (Fnd.out.only Oe.out (by omega))
     have Fpe := Lib.hid (Fpd.out.only Oe.out (by omega))
     have Me := Lib.hid (Md.out.only Oe.out (by omega))
     have Fle := Lib.hid (Fld.out.only Oe.out (by omega))
     have Owe : Hid (Only (fun x => x = b ∨ x = nb ∨ x = pb ∨ x = kb ∨ wx.heap.size ≤ x) wx we) := ((Qo.out.trans ((Only.of_below Bc.out).mono fun x hx => by omega)).trans (Od.out.mono fun x hx => by omega)).trans (Oe.out.mono fun x hx => by omega)
     have Qr : Hid (Below w.heap.size w we) := Qn.out.trans (Owe.out.below (B := w.heap.size) (by have := Qn.out.size; omega) (fun x hx => by omega))
     have e1 := Fle.out.c1
     have e2 := (Qr.out.cell (p := ⟨eb, eo + k, none⟩) heb).trans HEC.out
     have jZ := (HV.out k hlt).2.2.1
     have hk1 : (k : Int) < (n : Int) := by omega
     clear Rc Fb Fn Fp Mc Fl XO bO Rd Fbd Fnd Fpd Md bOd Fld Od Oe Bc BWc
     go_wp2_with fail
     refine (Uh (C k) (HRW.out.below Qr.out) (fun x hx => by
      obtain ⟨u, hu, hun⟩ := HR.out.eu k (by omega) x hx
      exact ⟨u, hu, by omega⟩) (by omega)).mono ?_
     rintro e wf ⟨rfl, hbf⟩
     have Bf := Lib.hid hbf
     clear hbf e1 e2
     have hsf := Bf.out.size
     have hT := HT.out.below (Qr.out.trans (Bf.out.mono Qr.out.size))
     have hT0 := HT.out.lt
     have HTf := Lib.hid hT
     have akH := Re.out.lt
     clear hT
     go_wp2_with fail
     refine (abC (Q' := Q) HTf.out (Re.out.below Bf.out) (Me.out.below Bf.out) (Fpe.out.below Bf.out) (Fne.out.below Bf.out) (by omega) hlt (fun x hx => by rw [abI] at hx; cases hx) (fun x hx => by
      obtain ⟨u, hu, hun⟩ := HR.out.eu k (by omega) _ (wR.1 hx)
      have := Int.natCast_inj.1 hu
      omega)).mono ?_
     rintro e wg ⟨ru, ⟨uu, rfl⟩, hR', hP', hM', acy, acz, ho'⟩
     have Rg : Hid (dX wg b n nb pb kb (dB O (k + 1)) (dB P (k + 1)) (lu ah (k + 1)) (lC ah (k + 1))) := by
      have h := hR'.ah7 (ru := lC ah (k + 1)) fun u hu => ah6 (hP' u hu)
      rw [ah5] at h
      exact h
     have Mg := Lib.hid hM'
     have Fg : Hid (eY wg b ∧ eY wg nb ∧ eY wg pb) := ⟨(Fbe.out.below Bf.out).only ho' (by omega), acy, acz⟩
     have Og : Hid (Only (fun x => x = b ∨ x = nb ∨ x = pb ∨ x = kb ∨ wx.heap.size ≤ x) wx wg) := (Owe.out.trans ((Only.of_below Bf.out).mono fun x hx => by omega)).trans (ho'.mono fun x hx => by omega)
     clear hR' hP' hM' acy acz ho'
     go_wp2
     go_roundw
     case rel => exact ⟨k + 1, by omega, by go_num, Rg, Mg, Fg, Og⟩
     case measure => simp [intOf]; omega
   · obtain rfl : k = n := by omega
     have hi1 : ¬ (k : Int) < k := by omega
     go_wp2
     go_ret
     exact ⟨b, rfl, nb, pb, kb, HRk.out, KC.out.2.1, KC.out.2.2, HMk.out, ⟨by omega, by omega, by omega, by omega⟩, Qp.out⟩
end
end Go.Proofs.YtglbkbiphcgidaaDoor
