import Derived.WideKeyRuns
import Derived.MapKept
import Derived.Test.YtglbkbiphcgidaaDoorPm10
import Derived.Test.YtglbkbiphcgidaaDoorPm11
namespace Go.Proofs.YtglbkbiphcgidaaDoor
section
open Go.RowKit Go.Shelf
attribute [local go_sem] Oper.semAt_some
def OI (g5 g6 : Nat) (I : Nat → Bool) {J : Nat → Bool} (pre : List (eH J)) (W : World) : Prop :=
 ∃ (l : Int) (L : Nat → Bool), Boxed W g5 2 (.int .i64 l) ∧ aH W g6 L ∧ (pre = [] → ∀ v, L v = I v) ∧ (pre ≠ [] → ∃ v : Nat, l = (v : Int) ∧ I v = true) ∧ ∀ v, L v = true → I v = true
theorem OI.only {S : Nat → Prop} {g5 g6 : Nat} {I J : Nat → Bool} {pre : List (eH J)} {W W' : World} (h : OI g5 g6 I pre W) (ho : Only S W W') (h5 : ¬ S g5) (h6 : ¬ S g6) : OI g5 g6 I pre W' := by
 obtain ⟨l, L, a, b, c⟩ := h
 exact ⟨l, L, gK a ho h5, b.only ho h6, c⟩
set_option linter.unusedSimpArgs false in
set_option maxRecDepth 100000 in
set_option maxHeartbeats 8000000 in
theorem aha {w : World} {b n nb pb kb : Nat} {Ow Lv E Pd : Nat → Nat → Bool} {ah : List (List Int)} {O : List Int} {I : Nat → Bool} (hT : dS w) (hR : dX w b n nb pb kb Ow Lv E Pd) (hG : jC ah O n Ow E Pd) (hI : ∀ v, I v = true → v < n) (hne : lQ I = false) :
 Calls Tryd.prog 129 #[.pointer (some ⟨b, 0, none⟩), aW I] w fun e w' => ∃ R, e = .returned (aW R) ∧ yB ah I R ∧ (∃ v, R v = true) ∧ Below w.heap.size w w' := by
 have HG := Lib.hid hG
 have HI := Lib.hid hI
 have HNE := Lib.hid hne
 have eU : Hid (∀ W', Only (fun k => w.heap.size ≤ k) w W' → dS W' ∧ dX W' b n nb pb kb Ow Lv E Pd) := fun W' ho =>
  ⟨hT.only ho (by have := hT.lt; omega), hR.only ho (by have := hR.lt; omega) (by have := hR.lt; omega) (by have := hR.lt; omega)⟩
 have hn := hR.small
 clear hT hR hG hI hne
 refine (callsIn_wide (n := 4)).1 ?_
 refine callsIn_of_wp_marks Tryd.func129 rfl trivial ?_ rfl
 simp only [Tryd.ntmps129, List.size_toArray, List.length_cons, List.length_nil, Nat.reduceAdd, Nat.reduceSub, Array.replicate_succ, Array.replicate_zero, List.push_toArray, List.append_toArray, List.nil_append, List.cons_append]
 refine wpIn_wide.2 ?_
 go_wp2_with fail
 obtain ⟨w1, hw1⟩ : ∃ y, y = ((w.alloc (.cells #[.pointer (some ⟨b, 0, none⟩)] 76)).alloc (.cells #[.int .u64 (aj I 0), .int .u64 (aj I 1), .int .u64 (aj I 2), .int .u64 (aj I 3)] 69)).alloc (.cells #[.int .u64 0, .int .u64 0, .int .u64 0, .int .u64 0] 69) := ⟨_, rfl⟩
 rw [← hw1]
 have HB : Hid (Below w.heap.size w w1) := by
  rw [hw1]
  exact (((Below.refl _ _).alloc (Nat.le_refl _) _).alloc (by simp) _).alloc (by simp; omega) _
 have bP : Hid (Boxed w1 w.heap.size 76 (.pointer (some ⟨b, 0, none⟩))) := by
  rw [hw1]; exact dh (dh (Boxed.new w 76 _) (aA _ _)) (aA _ _)
 have bI : Hid (aH w1 (w.heap.size + 1) I) := by
  rw [hw1]; exact (dP I _ (by simp)).below (aA _ _)
 have bR : Hid (aH w1 (w.heap.size + 1 + 1) (fun _ => false)) := by
  rw [hw1, jP]; exact dP _ _ (by simp)
 have cO : Hid (w1.heap.size = w.heap.size + 3) := by rw [hw1]; simp [Hid]
 clear hw1
 have aC : Hid (∀ W', Below w1.heap.size w1 W' → W'.cell? ⟨w.heap.size + 1, 0, none⟩ = some (.int .u64 (aj I 0)) ∧ W'.cell? ⟨w.heap.size + 1, 1, none⟩ = some (.int .u64 (aj I 1)) ∧ W'.cell? ⟨w.heap.size + 1, 2, none⟩ = some (.int .u64 (aj I 2)) ∧ W'.cell? ⟨w.heap.size + 1, 3, none⟩ = some (.int .u64 (aj I 3))) := fun W' hb => by
  have m1 := bI.out.below hb
  exact ⟨m1.c0, m1.c1, m1.c2, m1.c3⟩
 have Kd : Hid (Below w1.heap.size w1 w1.drew) := (Below.refl _ _).drew
 go_wp2_with fail
 refine wp_cut (fun a' wx => ∃ g5 g6, (w1.heap.size ≤ g5 ∧ w1.heap.size ≤ g6 ∧ g5 ≠ g6 ∧ Hid (Below w1.heap.size w1 wx) ∧ Hid (Boxed wx g5 2 (.int .i64 (-1))) ∧ Hid (aH wx g6 I)) ∧ a' = { tmps := #[.pointer (some ⟨b, 0, none⟩), aW I, .pointer (some ⟨w.heap.size, 0, none⟩), .pointer (some ⟨w.heap.size + 1, 0, none⟩), .pointer (some ⟨w.heap.size + 1 + 1, 0, none⟩), .pointer (some ⟨g5, 0, none⟩), .pointer (some ⟨g6, 0, none⟩), undef, .agg #[.int .u64 (aj I 0), .int .u64 (aj I 1), .int .u64 (aj I 2), .int .u64 (aj I 3)], undef, undef, undef, undef, undef, undef, undef, undef, undef, undef, undef, undef, undef, undef, undef, undef, undef, undef, undef, undef, undef, undef, undef], defers := [] }) ?DW ?DX
 case DW =>
  refine jB (S := (fun W' => W'.cell? ⟨w.heap.size + 1, 0, none⟩ = some (.int .u64 (aj I 0)) ∧ W'.cell? ⟨w.heap.size + 1, 1, none⟩ = some (.int .u64 (aj I 1)) ∧ W'.cell? ⟨w.heap.size + 1, 2, none⟩ = some (.int .u64 (aj I 2)) ∧ W'.cell? ⟨w.heap.size + 1, 3, none⟩ = some (.int .u64 (aj I 3)))) (m := 5) (by kernel_rfl) (aC.out _ Kd.out) (fun hHd => ?_)
  refine aB (i := 0) (v := ?rW) rfl (by kernel_rfl) (by decide) (by kernel_rfl) (by kernel_rfl) (by kernel_rfl) (fun _ _ _ h => h) (Or.inl ⟨by rfl, ?hm1⟩) (by assumption) ?_
  case hm1 => (intro w hSw; (try dsimp only at hSw); go_simp; first | done | with_reducible rfl)
  try simp only [Act.put, g1, g2, g3]
  refine jA (i := 1) (j := 2) (by kernel_rfl) rfl rfl (fun K hK => ?_) (fun K hK => ?_)
  · skip
    go_simp
    refine hK.out _ _ (fun _ => aC.out _ (aA w1 _).drew) (fun hHd => ?_)
    have hHd := hHd (by decide)
    clear hK K
    try simp only [Act.put, g1, g2, g3]
    refine aG (i := 2) (by kernel_rfl) rfl (fun K hK => ?_)
    go_simp
    refine hK.out _ _ (fun _ => aC.out _ (below2 w1 _ _).drew) (fun hHd => ?_)
    have hHd := hHd (by decide)
    clear hK K
    try simp only [Act.put, g1, g2, g3]
    obtain ⟨wz, hwz⟩ : ∃ y, y = ((w1.alloc (.cells #[.int .i64 0] 2)).alloc (.cells #[.int .u64 0, .int .u64 0, .int .u64 0, .int .u64 0] 69)).drew := ⟨_, rfl⟩
    rw [← hwz]
    have Kz : Hid (Below w1.heap.size w1 wz) := by rw [hwz]; exact (below2 w1 _ _).drew
    have B5 : Hid (Boxed wz (w1.heap.size) 2 (.int .i64 0)) := by rw [hwz]; exact dh (uD (w := w1) _ _ _ rfl) (aA _ _).drew
    have B6 : Hid (aH wz (w1.heap.size + 1) (fun _ => false)) := by rw [hwz, jP]; exact dP (w := w1.alloc _) _ _ (by simp)
    clear hwz hHd
    have y0 := B5.out.cell
    have y1 := B5.out.frozen
    have z0 := B6.out.c0
    have fz0 := B6.out.frozen 0
    have z1 := B6.out.c1
    have gz := B6.out.frozen 1
    have z2 := B6.out.c2
    have gB := B6.out.frozen 2
    have z3 := B6.out.c3
    have fz3 := B6.out.frozen 3
    have h5 : w1.heap.size ≤ w1.heap.size := by omega
    have h6 : w1.heap.size ≤ w1.heap.size + 1 := by omega
    have BI : (w1.heap.size) ≠ w1.heap.size + 1 := by omega
    have K3 : Hid (Below w1.heap.size w1 (wz.setCell ⟨w1.heap.size, 0, none⟩ (.int .i64 (-1)))) := ((Only.of_below (S := fun k => w1.heap.size ≤ k) Kz.out).setCell h5 _).below (Nat.le_refl _) (fun k h => h)
    have JG := Lib.hid (B5.out.set (.int .i64 (-1)))
    have jU : Hid (aH (wz.setCell ⟨w1.heap.size, 0, none⟩ (.int .i64 (-1))) (w1.heap.size + 1) (fun _ => false)) := B6.out.only ((Only.refl (fun k => k = w1.heap.size) wz).setCell rfl _) (by omega)
    refine aG (i := 3) (by kernel_rfl) rfl (fun K hK => ?_)
    go_simp
    refine hK.out _ _ (fun _ => aC.out _ K3.out) (fun hHd => ?_)
    have hHd := hHd (by decide)
    clear hK K
    try simp only [Act.put, g1, g2, g3]
    clear hHd y0 y1 z0 fz0 z1 gz z2 gB z3 fz3
    obtain ⟨wy, hwy⟩ : ∃ y, y = wz.setCell ⟨w1.heap.size, 0, none⟩ (.int .i64 (-1)) := ⟨_, rfl⟩
    rw [← hwy] at K3 JG jU ⊢
    clear hwy
    have z0 := jU.out.c0
    have fz0 := jU.out.frozen 0
    have z1 := jU.out.c1
    have gz := jU.out.frozen 1
    have z2 := jU.out.c2
    have gB := jU.out.frozen 2
    have z3 := jU.out.c3
    have fz3 := jU.out.frozen 3
    have K4 := Lib.hid ((dw (S := fun k => w1.heap.size ≤ k) (Only.of_below K3.out) (g := w1.heap.size + 1) h6 (.int .u64 (aj I 0)) (.int .u64 (aj I 1)) (.int .u64 (aj I 2)) (.int .u64 (aj I 3)) 0).below (Nat.le_refl _) (fun k h => h))
    have U8 := Lib.hid (gK JG.out (dw (S := fun k => k = w1.heap.size + 1) (Only.refl _ wy) (g := w1.heap.size + 1) rfl (.int .u64 (aj I 0)) (.int .u64 (aj I 1)) (.int .u64 (aj I 2)) (.int .u64 (aj I 3)) 0) BI)
    have Vd := Lib.hid (jU.out.gV I)
    refine aG (i := 4) (by kernel_rfl) rfl (fun K hK => ?_)
    go_simp
    refine hK.out _ _ (fun _ => aC.out _ K4.out) (fun hHd => ?_)
    have hHd := hHd (by decide)
    clear hK K
    try simp only [Act.put, g1, g2, g3]
    refine dA (by kernel_rfl) ?_ _
    exact ⟨_, _, ⟨h5, h6, BI, K4.out, U8.out, Vd.out⟩, rfl⟩
  · skip
    go_simp
    refine hK.out _ _ (fun _ => aC.out _ (aA w1 _).drew) (fun hHd => ?_)
    have hHd := hHd (by decide)
    clear hK K
    try simp only [Act.put, g1, g2, g3]
    refine aG (i := 1) (by kernel_rfl) rfl (fun K hK => ?_)
    go_simp
    refine hK.out _ _ (fun _ => aC.out _ (below2 w1 _ _).drew) (fun hHd => ?_)
    have hHd := hHd (by decide)
    clear hK K
    try simp only [Act.put, g1, g2, g3]
    obtain ⟨wz, hwz⟩ : ∃ y, y = ((w1.alloc (.cells #[.int .u64 0, .int .u64 0, .int .u64 0, .int .u64 0] 69)).alloc (.cells #[.int .i64 0] 2)).drew := ⟨_, rfl⟩
    rw [← hwz]
    have Kz : Hid (Below w1.heap.size w1 wz) := by rw [hwz]; exact (below2 w1 _ _).drew
    have B6 : Hid (aH wz (w1.heap.size) (fun _ => false)) := by rw [hwz, jP]; exact (dP (w := w1) _ _ rfl).below (aA _ _).drew
    have B5 : Hid (Boxed wz (w1.heap.size + 1) 2 (.int .i64 0)) := by rw [hwz]; exact uD (w := w1.alloc _) _ _ _ (by simp)
    clear hwz hHd
    have y0 := B5.out.cell
    have y1 := B5.out.frozen
    have z0 := B6.out.c0
    have fz0 := B6.out.frozen 0
    have z1 := B6.out.c1
    have gz := B6.out.frozen 1
    have z2 := B6.out.c2
    have gB := B6.out.frozen 2
    have z3 := B6.out.c3
    have fz3 := B6.out.frozen 3
    have h5 : w1.heap.size ≤ w1.heap.size + 1 := by omega
    have h6 : w1.heap.size ≤ w1.heap.size := by omega
    have BI : (w1.heap.size + 1) ≠ w1.heap.size := by omega
    have K3 : Hid (Below w1.heap.size w1 (wz.setCell ⟨w1.heap.size + 1, 0, none⟩ (.int .i64 (-1)))) := ((Only.of_below (S := fun k => w1.heap.size ≤ k) Kz.out).setCell h5 _).below (Nat.le_refl _) (fun k h => h)
    have JG := Lib.hid (B5.out.set (.int .i64 (-1)))
    have jU : Hid (aH (wz.setCell ⟨w1.heap.size + 1, 0, none⟩ (.int .i64 (-1))) (w1.heap.size) (fun _ => false)) := B6.out.only ((Only.refl (fun k => k = w1.heap.size + 1) wz).setCell rfl _) (by omega)
    refine aG (i := 3) (by kernel_rfl) rfl (fun K hK => ?_)
    go_simp
    refine hK.out _ _ (fun _ => aC.out _ K3.out) (fun hHd => ?_)
    have hHd := hHd (by decide)
    clear hK K
    try simp only [Act.put, g1, g2, g3]
    clear hHd y0 y1 z0 fz0 z1 gz z2 gB z3 fz3
    obtain ⟨wy, hwy⟩ : ∃ y, y = wz.setCell ⟨w1.heap.size + 1, 0, none⟩ (.int .i64 (-1)) := ⟨_, rfl⟩
    rw [← hwy] at K3 JG jU ⊢
    clear hwy
    have z0 := jU.out.c0
    have fz0 := jU.out.frozen 0
    have z1 := jU.out.c1
    have gz := jU.out.frozen 1
    have z2 := jU.out.c2
    have gB := jU.out.frozen 2
    have z3 := jU.out.c3
    have fz3 := jU.out.frozen 3
    have K4 := Lib.hid ((dw (S := fun k => w1.heap.size ≤ k) (Only.of_below K3.out) (g := w1.heap.size) h6 (.int .u64 (aj I 0)) (.int .u64 (aj I 1)) (.int .u64 (aj I 2)) (.int .u64 (aj I 3)) 0).below (Nat.le_refl _) (fun k h => h))
    have U8 := Lib.hid (gK JG.out (dw (S := fun k => k = w1.heap.size) (Only.refl _ wy) (g := w1.heap.size) rfl (.int .u64 (aj I 0)) (.int .u64 (aj I 1)) (.int .u64 (aj I 2)) (.int .u64 (aj I 3)) 0) BI)
    have Vd := Lib.hid (jU.out.gV I)
    refine aG (i := 4) (by kernel_rfl) rfl (fun K hK => ?_)
    go_simp
    refine hK.out _ _ (fun _ => aC.out _ K4.out) (fun hHd => ?_)
    have hHd := hHd (by decide)
    clear hK K
    try simp only [Act.put, g1, g2, g3]
    refine dA (by kernel_rfl) ?_ _
    exact ⟨_, _, ⟨h5, h6, BI, K4.out, U8.out, Vd.out⟩, rfl⟩
 case DX =>
  rintro a' wx ⟨g5, g6, ⟨h5, h6, BI, Bx, H5, H6⟩, rfl⟩
  clear aC Kd
  have yQ := Lib.hid (dh bP.out Bx.out)
  have xu := Lib.hid (bI.out.below Bx.out)
  have bR1 := Lib.hid (bR.out.below Bx.out)
  have yG : Hid (w1.heap.size ≤ wx.heap.size) := Bx.out.size
  have c0 := xu.out.c0
  have c1 := xu.out.c1
  have c2 := xu.out.c2
  have c3 := xu.out.c3
  clear bP bI bR
  go_wp2_with fail
  refine (Gn _ I).mono ?_
  rintro e w2 ⟨rfl, hw2⟩
  have B2 : Hid (Below wx.heap.size wx w2) := by rw [hw2]; exact aA _ _
  have bJ : Hid (aH w2 wx.heap.size I) := by rw [hw2]; exact aH.new _ _
  have HS2 : Hid (w2.heap.size = wx.heap.size + 1) := by rw [hw2]; simp [Hid]
  clear hw2 c0 c1 c2 c3
  have AV := Lib.hid (dh yQ.out B2.out)
  have UG := Lib.hid (xu.out.below B2.out)
  have bR2 := Lib.hid (bR1.out.below B2.out)
  have Bw : Hid (Below w.heap.size w w2) := (HB.out.trans (Bx.out.mono HB.out.size)).trans (B2.out.mono (Nat.le_trans HB.out.size Bx.out.size))
  have T2 := Lib.hid (eU.out _ (Only.of_below Bw.out |>.mono fun k hk => hk)).1
  have T0 := Lib.hid (eU.out _ (Only.refl _ _)).1.lt
  have Ve := Lib.hid (dh H5.out B2.out)
  have Vf := Lib.hid (H6.out.below B2.out)
  clear yQ xu bR1 H5 H6
  go_wp2_with fail
  refine Gx (Bs := wx.heap.size) (I := I) rfl T2.out bJ.out rfl (fun k => k = g5 ∨ k = g6)
   (fun k hk => by
    have h1 := Ve.out.lt
    have h2 := Vf.out.lt
    have h3 := T0.out
    have h4 := cO.out
    omega)
   (fun pre W => OI g5 g6 I pre W) (fun _ _ _ => False)
   (fun pre A A' h ho => h.only ho (by have h1 := Ve.out.lt; omega) (by have h1 := Vf.out.lt; omega)) (fun _ _ _ _ h _ => h)
   ⟨_, _, Ve.out, Vf.out, fun _ _ => rfl, fun h => absurd rfl h, fun _ h => h⟩ ?act ?assign ?body ?done ?stop
  case assign =>
   intro l x W K hK
   dsimp only [encI]
   gi_wp2
   exact hK
  case body =>
   intro l pre x W hR hO
   obtain ⟨v, hv⟩ : ∃ v : Nat, v = x.1 := ⟨_, rfl⟩
   have iE : I v = true := by rw [hv]; exact x.2.2
   have hvn : v < n := HI.out _ iE
   rw [← hv]
   clear hv
   obtain ⟨la, L, q1, q2, q3, q4, q5⟩ := hR
   have hs2 := HS2.out
   have hsx := yG.out
   have hs1 := cO.out
   have hsW := hO.size
   have Q1 := Lib.hid q1
   have Q2 := Lib.hid q2
   have Q3 := Lib.hid q3
   have Q4 := Lib.hid q4
   have Q5 := Lib.hid q5
   have oJ := Lib.hid (gK AV.out hO (by omega))
   have OW : Hid (Only (fun k => w.heap.size ≤ k) w W) := (Only.of_below Bw.out |>.mono fun k hk => hk).trans (hO.mono fun k hk => by omega)
   have OJ := Lib.hid iE
   have d0 := q2.c0
   have d1 := q2.c1
   have d2 := q2.c2
   have d3 := q2.c3
   have HO := Lib.hid hO
   clear q1 q2 q3 q4 q5 hO iE hs2 hsx hs1 hsW
   cases sG : L v with
   | false =>
     have HL := Lib.hid sG
     clear sG
     gi_wp2
     refine ⟨trivial, ?_⟩
     refine (CallsIn.inRound l (callsIn_wide.2 (Du L v HL.out (by omega)))).mono ?_
     rintro e W1 ⟨rfl, hb⟩
     have K1 := Lib.hid hb
     clear hb
     gi_wp2
     refine ⟨Only.of_below K1.out, la, L, dh Q1.out K1.out, Q2.out.below K1.out, fun h => absurd h (by simp), fun _ => ?_, Q5.out⟩
     refine Q4.out fun hp => ?_
     have h1 := Q3.out hp v
     rw [HL.out, OJ.out] at h1
     cases h1
   | true =>
     have HL := Lib.hid sG
     clear sG
     gi_wp2
     refine ⟨trivial, ?_⟩
     refine (CallsIn.inRound l (callsIn_wide.2 (Du L v HL.out (by omega)))).mono ?_
     rintro e W1 ⟨rfl, hb⟩
     have K1 := Lib.hid hb
     have Q11 := Lib.hid (dh Q1.out hb)
     have Q21 := Lib.hid (Q2.out.below hb)
     have ahb := Lib.hid (dh oJ.out hb)
     have Vg : Hid (Only (fun k => w.heap.size ≤ k) w W1) := OW.out.trans (Only.of_below hb)
     have DY : Hid (g5 < W1.heap.size ∧ w.heap.size < g5 ∧ g5 ≠ g6 ∧ w.heap.size < g6) := ⟨Q11.out.lt, by have := cO.out; omega, BI, by have := cO.out; omega⟩
     have aC : Hid (∀ W', Only (fun k => k = g5) W1 W' → W'.cell? ⟨w.heap.size, 0, none⟩ = some (.pointer (some ⟨b, 0, none⟩)) ∧ W'.cell? ⟨b, 173, none⟩ = some (.slice (some ⟨pb, 0, none⟩) n n) ∧ W'.cell? ⟨g6, 0, none⟩ = some (.int .u64 (aj L 0)) ∧ W'.cell? ⟨g6, 1, none⟩ = some (.int .u64 (aj L 1)) ∧ W'.cell? ⟨g6, 2, none⟩ = some (.int .u64 (aj L 2)) ∧ W'.cell? ⟨g6, 3, none⟩ = some (.int .u64 (aj L 3))) := fun W' ho => by
      have hse := DY.out
      have m1 := Q21.out.only ho (by omega)
      have m4 := gK ahb.out ho (by omega)
      have m5 := (eU.out _ (Vg.out.trans (ho.mono fun k hk => by omega))).2.AQ
      exact ⟨m4.cell, m5, m1.c0, m1.c1, m1.c2, m1.c3⟩
     have Kd : Hid (Below W1.heap.size W1 W1.drew) := (Below.refl _ _).drew
     clear hb d0 d1 d2 d3
     gi_wp2
     refine uy (S := (fun W' => W'.cell? ⟨w.heap.size, 0, none⟩ = some (.pointer (some ⟨b, 0, none⟩)) ∧ W'.cell? ⟨b, 173, none⟩ = some (.slice (some ⟨pb, 0, none⟩) n n) ∧ W'.cell? ⟨g6, 0, none⟩ = some (.int .u64 (aj L 0)) ∧ W'.cell? ⟨g6, 1, none⟩ = some (.int .u64 (aj L 1)) ∧ W'.cell? ⟨g6, 2, none⟩ = some (.int .u64 (aj L 2)) ∧ W'.cell? ⟨g6, 3, none⟩ = some (.int .u64 (aj L 3)))) (m := 11) (by kernel_rfl) (by kernel_rfl) (aC.out _ (Only.of_below Kd.out)) (fun hHd => ?_)
     refine aB (i := 0) (v := ?rZ) rfl (by kernel_rfl) (by decide) (by kernel_rfl) (by kernel_rfl) (by kernel_rfl) (fun _ _ _ h => h) (Or.inl ⟨by rfl, ?hm2⟩) (by assumption) ?_
     case hm2 => (intro w hSw; (try dsimp only at hSw); go_simp; first | done | with_reducible rfl)
     try simp only [Act.put, g1, g2, g3]
     refine aB (i := 1) (v := ?su) rfl (by kernel_rfl) (by decide) (by kernel_rfl) (by kernel_rfl) (by kernel_rfl) (fun _ _ _ h => h) (Or.inl ⟨by rfl, ?iR⟩) (by assumption) ?_
     case iR => (intro w hSw; (try dsimp only at hSw); go_simp; first | done | with_reducible rfl)
     try simp only [Act.put, g1, g2, g3]
     refine aB (i := 2) (v := ?uF) rfl (by kernel_rfl) (by decide) (by kernel_rfl) (by kernel_rfl) (by kernel_rfl) (fun _ _ _ h => h) (Or.inl ⟨by rfl, ?hm4⟩) (by assumption) ?_
     case hm4 => (intro w hSw; (try dsimp only at hSw); go_simp; first | done | with_reducible rfl)
     try simp only [Act.put, g1, g2, g3]
     refine aB (i := 3) (v := ?wW) rfl (by kernel_rfl) (by decide) (by kernel_rfl) (by kernel_rfl) (by kernel_rfl) (fun _ _ _ h => h) (Or.inl ⟨by rfl, ?jQ⟩) (by assumption) ?_
     case jQ => (intro w hSw; (try dsimp only at hSw); go_simp; first | done | with_reducible rfl)
     try simp only [Act.put, g1, g2, g3]
     refine aB (i := 4) (v := ?yF) rfl (by kernel_rfl) (by decide) (by kernel_rfl) (by kernel_rfl) (by kernel_rfl) (fun _ _ _ h => h) (Or.inl ⟨by rfl, ?kV⟩) (by assumption) ?_
     case kV => (intro w hSw; (try dsimp only at hSw); go_simp; first | done | with_reducible rfl)
     try simp only [Act.put, g1, g2, g3]
     refine aB (i := 5) (v := ?AX) rfl (by kernel_rfl) (by decide) (by kernel_rfl) (by kernel_rfl) (by kernel_rfl) (fun _ _ _ h => h) (Or.inl ⟨by rfl, ?mV⟩) (by assumption) ?_
     case mV => (intro w hSw; (try dsimp only at hSw); go_simp; first | done | with_reducible rfl)
     try simp only [Act.put, g1, g2, g3]
     refine aB (i := 6) (v := ?AZ) rfl (by kernel_rfl) (by decide) (by kernel_rfl) (by kernel_rfl) (by kernel_rfl) (fun _ _ _ h => h) (Or.inl ⟨by rfl, ?mW⟩) (by assumption) ?_
     case mW => (intro w hSw; (try dsimp only at hSw); go_simp; first | done | with_reducible rfl)
     try simp only [Act.put, g1, g2, g3]
     refine aB (i := 7) (v := ?Bg) rfl (by kernel_rfl) (by decide) (by kernel_rfl) (by kernel_rfl) (by kernel_rfl) (fun _ _ _ h => h) (Or.inl ⟨by rfl, ?mX⟩) (by assumption) ?_
     case mX => (intro w hSw; (try dsimp only at hSw); go_simp; first | done | with_reducible rfl)
     try simp only [Act.put, g1, g2, g3]
     refine aG (i := 8) (by kernel_rfl) rfl (fun K hK => ?_)
     go_simp
     go_at_call 154
     refine (aa5 (eU.out _ (Vg.out.trans (Only.of_below Kd.out))).1 (eU.out _ (Vg.out.trans (Only.of_below Kd.out))).2.back (fun u hu => HI.out u (Q5.out u hu)) hvn hn).mono ?_
     rintro e wc ⟨R, rfl, -, hb⟩
     have Kc := Lib.hid (Kd.out.trans (hb.mono Kd.out.size))
     clear hb
     go_wp2_with fail
     refine hK.out _ _ (fun _ => aC.out _ (Only.of_below Kc.out)) (fun hHd => ?_)
     have hHd := hHd (by decide)
     clear hK K
     try simp only [Act.put, g1, g2, g3]
     refine aG (i := 9) (by kernel_rfl) rfl (fun K hK => ?_)
     go_simp
     go_at_call 133
     refine (mJ _ _).mono ?_
     rintro e we ⟨rfl, hb⟩
     have Ke := Lib.hid (Kc.out.trans (hb.mono Kc.out.size))
     clear hb
     go_wp2_with fail
     refine hK.out _ _ (fun _ => aC.out _ (Only.of_below Ke.out)) (fun hHd => ?_)
     have hHd := hHd (by decide)
     clear hK K
     try simp only [Act.put, g1, g2, g3]
     have mA := dh Q11.out Ke.out
     have y0 := mA.cell
     have y1 := mA.frozen
     have O3 : Hid (Only (fun k => k = g5) W1 (we.setCell ⟨g5, 0, none⟩ (.int .i64 (v : Int)))) := (Only.of_below (S := fun k => k = g5) Ke.out).setCell (p := ⟨g5, 0, none⟩) rfl _
     have E3 := Lib.hid (mA.set (.int .i64 (v : Int)))
     clear mA
     refine aG (i := 10) (by kernel_rfl) rfl (fun K hK => ?_)
     go_simp
     refine hK.out _ _ (fun _ => aC.out _ O3.out) (fun hHd => ?_)
     have hHd := hHd (by decide)
     clear hK K
     try simp only [Act.put, g1, g2, g3]
     have mB := Q21.out.only O3.out (by have := DY.out; omega)
     have z0 := mB.c0
     have fz0 := mB.frozen 0
     have z1 := mB.c1
     have gz := mB.frozen 1
     have z2 := mB.c2
     have gB := mB.frozen 2
     have z3 := mB.c3
     have fz3 := mB.frozen 3
     have mq := Lib.hid (mB.gV (aQ L R))
     clear hHd mB
     refine aG (i := 11) (by kernel_rfl) rfl (fun K hK => ?_)
     go_simp
     refine hK.out _ _ (fun h => absurd h (by decide)) (fun _ => ?_)
     clear hK K
     try simp only [Act.put, g1, g2, g3]
     refine dA (by kernel_rfl) ?_ _
     refine uw ?_
     refine ⟨?_, (v : Int), aQ L R, ?_, ?_, fun h => absurd h (by simp), fun _ => ⟨v, rfl, OJ.out⟩, fun u hu => ?_⟩
     · exact dw (S := fun k => (k = g5 ∨ k = g6) ∨ W.heap.size ≤ k) ((Only.of_below K1.out).trans (O3.out.mono fun k hk => .inl (.inl hk))) (.inl (.inr rfl)) _ _ _ _ 0
     · exact gK E3.out (dw (S := fun k => k = g6) (Only.refl _ _) rfl _ _ _ _ 0) BI
     · exact mq.out
     · unfold aQ at hu
       simp only [Bool.and_eq_true] at hu
       exact Q5.out u hu.1
  case done =>
   intro D xs W hD hxs hR hO hK
   obtain ⟨la, L, q1, q2, -, q4, -⟩ := hR
   have hx0 : xs ≠ [] := fun e => by
    rw [e] at hxs
    have h1 : (aU I 256).length = 0 := by rw [← hxs]; rfl
    have h2 := uq.2 (UF.1 h1)
    rw [HNE.out] at h2
    cases h2
   obtain ⟨v, rfl, iE⟩ := q4 hx0
   have hvn : v < n := HI.out _ iE
   have OJ := Lib.hid iE
   have hs2 := HS2.out
   have hsx := yG.out
   have hs1 := cO.out
   have OW : Hid (Only (fun k => w.heap.size + 3 ≤ k) w W) := (Only.of_below Bw.out |>.mono fun k hk => by exact hk).trans (hO.mono fun k hk => by omega)
   have oJ := Lib.hid (gK AV.out hO (by omega))
   have Vh := Lib.hid (UG.out.only hO (by omega))
   have Vj := Lib.hid (bR2.out.only hO (by omega))
   have OV : Hid (Only (fun k => w.heap.size ≤ k) w W) := OW.out.mono fun k hk => by omega
   have aC : Hid (∀ W', Below W.heap.size W W' → W'.cell? ⟨w.heap.size, 0, none⟩ = some (.pointer (some ⟨b, 0, none⟩)) ∧ W'.cell? ⟨b, 172, none⟩ = some (.slice (some ⟨nb, 0, none⟩) n n) ∧ W'.cell? ⟨g5, 0, none⟩ = some (.int .i64 (v : Int)) ∧ W'.cell? ⟨w.heap.size + 1, 0, none⟩ = some (.int .u64 (aj I 0)) ∧ W'.cell? ⟨w.heap.size + 1, 1, none⟩ = some (.int .u64 (aj I 1)) ∧ W'.cell? ⟨w.heap.size + 1, 2, none⟩ = some (.int .u64 (aj I 2)) ∧ W'.cell? ⟨w.heap.size + 1, 3, none⟩ = some (.int .u64 (aj I 3))) := fun W' hb => by
    have m1 := Vh.out.below hb
    have m4 := dh oJ.out hb
    have m3 := dh q1 hb
    have m5 := (eU.out _ (OV.out.trans (Only.of_below hb))).2.next
    exact ⟨m4.cell, m5, m3.cell, m1.c0, m1.c1, m1.c2, m1.c3⟩
   have Kd : Hid (Below W.heap.size W W.drew) := (Below.refl _ _).drew
   have HDK : Hid (w2.heap.size ≤ D ∧ W.heap[D]? = some (.deferred (some []))) := ⟨hD, hK⟩
   clear hD hK hx0 hxs q1 q2 q4 hO iE hs2 hsx hs1
   go_wp2_with fail
   refine wp_cut (fun a' wz => ∃ (R : Nat → Bool) (u9 u10 u25 u26 u27 u28 u29 u30 u31 : Value), (Hid (∃ F, uH (fun a b => decide (a < 256) && E a b) v I R F ∧ ∀ u, u < 256 → F u = false) ∧ Hid (aH wz (w.heap.size + 1 + 1) R) ∧ Hid (Only (fun k => k = w.heap.size + 1 + 1 ∨ W.heap.size ≤ k) W wz)) ∧ a' = { tmps := #[.pointer (some ⟨b, 0, none⟩), aW I, .pointer (some ⟨w.heap.size, 0, none⟩), .pointer (some ⟨w.heap.size + 1, 0, none⟩), .pointer (some ⟨w.heap.size + 1 + 1, 0, none⟩), .pointer (some ⟨g5, 0, none⟩), .pointer (some ⟨g6, 0, none⟩), undef, .agg #[.int .u64 (aj I 0), .int .u64 (aj I 1), .int .u64 (aj I 2), .int .u64 (aj I 3)], u9, u10, undef, undef, undef, undef, undef, undef, undef, undef, undef, undef, undef, undef, undef, undef, u25, u26, u27, u28, u29, u30, u31], defers := [{ target := .collected D, args := #[] }] }) ?UO ?UQ
   case UO =>
    refine jB (S := (fun W' => W'.cell? ⟨w.heap.size, 0, none⟩ = some (.pointer (some ⟨b, 0, none⟩)) ∧ W'.cell? ⟨b, 172, none⟩ = some (.slice (some ⟨nb, 0, none⟩) n n) ∧ W'.cell? ⟨g5, 0, none⟩ = some (.int .i64 (v : Int)) ∧ W'.cell? ⟨w.heap.size + 1, 0, none⟩ = some (.int .u64 (aj I 0)) ∧ W'.cell? ⟨w.heap.size + 1, 1, none⟩ = some (.int .u64 (aj I 1)) ∧ W'.cell? ⟨w.heap.size + 1, 2, none⟩ = some (.int .u64 (aj I 2)) ∧ W'.cell? ⟨w.heap.size + 1, 3, none⟩ = some (.int .u64 (aj I 3)))) (m := 7) (by kernel_rfl) (aC.out _ Kd.out) (fun hHd => ?_)
    refine aB (i := 0) (v := ?Bj) rfl (by kernel_rfl) (by decide) (by kernel_rfl) (by kernel_rfl) (by kernel_rfl) (fun _ _ _ h => h) (Or.inl ⟨by rfl, ?mY⟩) (by assumption) ?_
    case mY => (intro w hSw; (try dsimp only at hSw); go_simp; first | done | with_reducible rfl)
    try simp only [Act.put, g1, g2, g3]
    refine aB (i := 1) (v := ?Bo) rfl (by kernel_rfl) (by decide) (by kernel_rfl) (by kernel_rfl) (by kernel_rfl) (fun _ _ _ h => h) (Or.inl ⟨by rfl, ?mZ⟩) (by assumption) ?_
    case mZ => (intro w hSw; (try dsimp only at hSw); go_simp; first | done | with_reducible rfl)
    try simp only [Act.put, g1, g2, g3]
    refine aB (i := 2) (v := ?Bq) rfl (by kernel_rfl) (by decide) (by kernel_rfl) (by kernel_rfl) (by kernel_rfl) (fun _ _ _ h => h) (Or.inl ⟨by rfl, ?ng⟩) (by assumption) ?_
    case ng => (intro w hSw; (try dsimp only at hSw); go_simp; first | done | with_reducible rfl)
    try simp only [Act.put, g1, g2, g3]
    refine aB (i := 3) (v := ?BA) rfl (by kernel_rfl) (by decide) (by kernel_rfl) (by kernel_rfl) (by kernel_rfl) (fun _ _ _ h => h) (Or.inl ⟨by rfl, ?ni⟩) (by assumption) ?_
    case ni => (intro w hSw; (try dsimp only at hSw); go_simp; first | done | with_reducible rfl)
    try simp only [Act.put, g1, g2, g3]
    refine aB (i := 4) (v := ?BD) rfl (by kernel_rfl) (by decide) (by kernel_rfl) (by kernel_rfl) (by kernel_rfl) (fun _ _ _ h => h) (Or.inl ⟨by rfl, ?ny⟩) (by assumption) ?_
    case ny => (intro w hSw; (try dsimp only at hSw); go_simp; first | done | with_reducible rfl)
    try simp only [Act.put, g1, g2, g3]
    refine aB (i := 5) (v := ?BH) rfl (by kernel_rfl) (by decide) (by kernel_rfl) (by kernel_rfl) (by kernel_rfl) (fun _ _ _ h => h) (Or.inl ⟨by rfl, ?nC⟩) (by assumption) ?_
    case nC => (intro w hSw; (try dsimp only at hSw); go_simp; first | done | with_reducible rfl)
    try simp only [Act.put, g1, g2, g3]
    refine aG (i := 6) (by kernel_rfl) rfl (fun K hK => ?_)
    go_simp
    go_at_call 154
    refine (aa5 (eU.out _ (OV.out.trans (Only.of_below Kd.out))).1 (eU.out _ (OV.out.trans (Only.of_below Kd.out))).2.succ HI.out hvn hn).mono ?_
    rintro e wc ⟨R, rfl, HRR, hb⟩
    have Kc := Lib.hid (Kd.out.trans (hb.mono Kd.out.size))
    have HRR := Lib.hid HRR
    clear hb
    go_wp2_with fail
    refine hK.out _ _ (fun _ => aC.out _ Kc.out) (fun hHd => ?_)
    have hHd := hHd (by decide)
    clear hK K
    try simp only [Act.put, g1, g2, g3]
    have mA := Vj.out.below Kc.out
    have z0 := mA.c0
    have fz0 := mA.frozen 0
    have z1 := mA.c1
    have gz := mA.frozen 1
    have z2 := mA.c2
    have gB := mA.frozen 2
    have z3 := mA.c3
    have fz3 := mA.frozen 3
    have mq := Lib.hid (mA.gV R)
    clear hHd mA
    refine aG (i := 7) (by kernel_rfl) rfl (fun K hK => ?_)
    go_simp
    refine hK.out _ _ (fun h => absurd h (by decide)) (fun _ => ?_)
    clear hK K
    try simp only [Act.put, g1, g2, g3]
    refine dA (by kernel_rfl) ?_ _
    exact ⟨R, _, _, _, _, _, _, _, _, _, ⟨HRR, mq, dw (S := fun k => k = w.heap.size + 1 + 1 ∨ W.heap.size ≤ k) (Only.of_below Kc.out |>.mono fun k hk => .inr hk) (.inl rfl) _ _ _ _ 0⟩, rfl⟩
   case UQ =>
   rintro a' wz ⟨R, u9, u10, u25, u26, u27, u28, u29, u30, u31, ⟨HRR, HM, Oz⟩, rfl⟩
   go_wp2_with fail
   obtain ⟨F, OO, hF0⟩ := HRR.out
   have hg := HG.out
   have hF : ∀ u, F u = false := fun u => by
    cases yD : F u with
    | false => rfl
    | true =>
      have h1 : u < 256 := by
       rcases OO.sub u (OO.front u yD) with h | h
       · omega
       · have := HI.out u h; omega
      rw [hF0 u h1] at yD; cases yD
   have hdk := HDK.out
   have hs1 := cO.out
   have hs2 := HS2.out
   have hsx := yG.out
   have hsd := (Array.getElem?_eq_some_iff.1 hdk.2).1
   refine aaV (K := R) (g := w.heap.size + 1 + 1) rfl rfl HM.out ((Oz.out.block D hsd (by omega)).trans hdk.2)
    ⟨R, rfl, OO.shut hF OJ.out (fun u x hu hx => ?_) hg.rows.eu, ⟨v, OO.here⟩, ?_⟩
   · have hun : u < n := by rw [← hg.len]; exact hu
     have : u < 256 := by omega
     simp [this, (hg.succ u hun x).2 hx]
   · exact ((OV.out.trans (Oz.out.mono fun k hk => by omega)).trans ((Only.dV (grownBy_putObj' _ D _)).mono fun k hk => by cases hk; omega)).below (Nat.le_refl _) (fun k h => h)
  case stop => intro D c pre W _ _ h _ _; exact h.elim
end
end Go.Proofs.YtglbkbiphcgidaaDoor
namespace Go.Proofs.YtglbkbiphcgidaaDoor
section
open Go.RowKit Go.Shelf
def dH (w : World) (kb : Nat) (Q : (Nat → Bool) → Value → Prop) : Prop :=
 ∃ es clock, w.heap[kb]? = some (.map es clock) ∧ ∀ e ∈ es.toList, ∃ J, e.key = aW J ∧ (∀ v, J v = true → v < 256) ∧ Q J e.val
section
variable {w w' : World} {kb : Nat} {Q : (Nat → Bool) → Value → Prop}
theorem dH.lt (h : dH w kb Q) : kb < w.heap.size := by
 obtain ⟨es, c, h, _⟩ := h
 exact (Array.getElem?_eq_some_iff.1 h).1
theorem dH.only {S : Nat → Prop} (h : dH w kb Q) (hk : Only S w w') (hs : ¬ S kb) : dH w' kb Q := by
 have hl := h.lt
 obtain ⟨es, c, h1, h2⟩ := h
 exact ⟨es, c, (hk.block kb hl hs).trans h1, h2⟩
theorem dH.below (h : dH w kb Q) (hb : Below w.heap.size w w') : dH w' kb Q := h.only (S := fun _ => False) (Only.of_below hb) fun x => x
theorem dH.mono {Q' : (Nat → Bool) → Value → Prop} (h : dH w kb Q) (hQ : ∀ J v, Q J v → Q' J v) : dH w kb Q' := by
 obtain ⟨es, c, h1, h2⟩ := h
 exact ⟨es, c, h1, fun e he => by
  obtain ⟨J, a, b, c⟩ := h2 e he
  exact ⟨J, a, b, hQ _ _ c⟩⟩
end
theorem ahc {I J : Nat → Bool} (hI : ∀ v, I v = true → v < 256) (hJ : ∀ v, J v = true → v < 256) (h : nR I J = true) : I = J := funext fun v => by
 by_cases hv : v < 256
 · exact Gm.1 h v hv
 · have a : I v = false := not_true fun hh => hv (hI v hh)
   have b : J v = false := not_true fun hh => hv (hJ v hh)
   rw [a, b]
theorem ahd (w : World) (I J : Nat → Bool) : (Op.equal 69 (aW I) (aW J)).run Tryd.prog w = .ok (nR I J) w := Ug w I J
theorem abd {Q : (Nat → Bool) → Value → Prop} {I : Nat → Bool} (hI : ∀ v, I v = true → v < 256) : ∀ (es : List MapEntry) (i : Nat), (∀ e ∈ es, ∃ J, e.key = aW J ∧ (∀ v, J v = true → v < 256) ∧ Q J e.val) →
 (∀ w, (Instr.findAsking 69 (aW I) es i).run Tryd.prog w = .ok none w) ∨
 ∃ j e, (∀ w, (Instr.findAsking 69 (aW I) es i).run Tryd.prog w = .ok (some (i + j, e.val)) w) ∧ es[j]? = some e ∧ e.key = aW I ∧ Q I e.val
 | [], _, _ => .inl fun _ => rfl
 | e :: es, i, h => by
   obtain ⟨J, hk, hJ, hQ⟩ := h e (by simp)
   have hr := fun w => ahd w I J
   rw [← hk] at hr
   cases hs : nR I J with
   | true =>
     rw [hs] at hr
     have e1 := ahc hI hJ hs
     subst e1
     exact .inr ⟨0, e, fun w => by simp [Instr.findAsking, hr], rfl, hk, hQ⟩
   | false =>
     rw [hs] at hr
     rcases abd hI es (i + 1) (fun y hy => h y (by simp [hy])) with h1 | ⟨j, e', h1, h2, h3⟩
     · exact .inl fun w => by simp [Instr.findAsking, hr, h1]
     · exact .inr ⟨j + 1, e', fun w => by simp [Instr.findAsking, hr, h1, Nat.add_assoc, Nat.add_comm 1 j], by simpa using h2, h3⟩
theorem ahe (w : World) (e : Bool) (n : Nat) (x : Int) : (Instr.checkKey e (n + 1) 67 (.int .u64 x)).run Tryd.prog w = .ok () w :=
 MapKept.run_checkKey (d := .int .u64) Tryd.underlying67 (by simp [MapKept.IsKey]) e n
theorem OU (w : World) (e : Bool) (I : Nat → Bool) : (Instr.checkKey e 10000 69 (aW I)).run Tryd.prog w = .ok () w := by
 have hu : Tryd.prog.underlying 69 = some (.array 4 67) := by kernel_rfl
 obtain ⟨i, hi⟩ : ∃ i, Tryd.prog.info? 67 = some i := info_of_underlying Tryd.underlying67
 have hc : Tryd.prog.cellsOf 67 = 1 := by kernel_rfl
 have h9 : (10000 : Nat) = 9998 + 1 + 1 := rfl
 unfold aW
 rw [h9, Instr.checkKey]
 simp only [Sem.run_bind, run_underlying hu, Result.andThen_ok]
 simp only [Std.Legacy.Range.forIn_eq_forIn_range', Std.Legacy.Range.size, Nat.sub_zero, Nat.add_one_sub_one, Nat.div_one]
 have hr : List.range' 0 4 = [0, 1, 2, 3] := rfl
 rw [hr]
 have p0 : ∀ a b c d : Value, (Go.part 67 #[a, b, c, d] (0 * 1)).run Tryd.prog w = .ok a w := fun a b c d => Aq w _ _ _ rfl
 have p1 : ∀ a b c d : Value, (Go.part 67 #[a, b, c, d] (1 * 1)).run Tryd.prog w = .ok b w := fun a b c d => Aq w _ _ _ rfl
 have p2 : ∀ a b c d : Value, (Go.part 67 #[a, b, c, d] (2 * 1)).run Tryd.prog w = .ok c w := fun a b c d => Aq w _ _ _ rfl
 have p3 : ∀ a b c d : Value, (Go.part 67 #[a, b, c, d] (3 * 1)).run Tryd.prog w = .ok d w := fun a b c d => Aq w _ _ _ rfl
 simp only [List.forIn_cons, List.forIn_nil, Sem.run_bind, run_sizeOf w hi, hc, Result.andThen_ok, p0, p1, p2, p3, ahe, Sem.run_pure]
theorem abe {Q : (Nat → Bool) → Value → Prop} {I : Nat → Bool} (hI : ∀ v, I v = true → v < 256) (es : List MapEntry) (h : ∀ e ∈ es, ∃ J, e.key = aW J ∧ (∀ v, J v = true → v < 256) ∧ Q J e.val) :
 (∀ w, (Instr.findKey 69 (aW I) es).run Tryd.prog w = .ok none w) ∨
 ∃ j e, (∀ w, (Instr.findKey 69 (aW I) es).run Tryd.prog w = .ok (some (j, e.val)) w) ∧ es[j]? = some e ∧ e.key = aW I ∧ Q I e.val := by
 have hu : Tryd.prog.underlying 69 = some (.array 4 67) := by kernel_rfl
 have hq : ∀ w, (Instr.findKey 69 (aW I) es).run Tryd.prog w = (Instr.findAsking 69 (aW I) es).run Tryd.prog w := fun w => run_findKey_eq (P := Tryd.prog) (k := 69) w (by rw [hu]) _ _
 rcases abd hI es 0 h with h1 | ⟨j, e, h1, h2⟩
 · exact .inl fun w => (hq w).trans (h1 w)
 · exact .inr ⟨j, e, fun w => (hq w).trans (by simpa using h1 w), h2⟩
abbrev Vk : Value := .agg #[.int .u64 0, .int .u64 0, .int .u64 0, .int .u64 0, .int .u64 0, .int .u64 0, .int .u64 0, .int .u64 0]
theorem ahf {Q : (Nat → Bool) → Value → Prop} {w : World} {kb : Nat} {I : Nat → Bool} (hM : dH w kb Q) (hI : ∀ v, I v = true → v < 256) :
 ∃ (u : Value) (r : Bool), (∀ w', w'.heap[kb]? = w.heap[kb]? → (Instr.lookup 126 (.map (some kb)) (aW I) true).run Tryd.prog w' = .ok (.tuple #[u, .bool r]) w') ∧ ((r = false ∧ u = Vk) ∨ (r = true ∧ Q I u)) := by
 obtain ⟨es, c, hb, hes⟩ := hM
 have ht : Tryd.prog.underlying 126 = some (.map 69 71) := by kernel_rfl
 rcases abe hI es.toList hes with h1 | ⟨j, e, h1, _, _, hq⟩
 · refine ⟨Vk, false, fun w' hw => ?_, .inl ⟨rfl, rfl⟩⟩
   rw [hb] at hw
   have hz : ∀ w : World, (zeroValue 71).run Tryd.prog w = .ok Vk w := fun w => by kernel_rfl
   simp [Instr.lookup, run_underlying ht, MapKept.run_getObj_map hw, OU, h1, hz, Result.andThen]
 · refine ⟨e.val, true, fun w' hw => ?_, .inr ⟨rfl, hq⟩⟩
   rw [hb] at hw
   simp [Instr.lookup, run_underlying ht, MapKept.run_getObj_map hw, OU, h1, Result.andThen]
theorem ahg (I : Nat → Bool) : Instr.sameBits 10000 (aW I) (aW I) = true := by
 show Instr.sameBits (9999 + 1) (aW I) (aW I) = true
 unfold aW
 simp [Instr.sameBits]
theorem ahh {Q : (Nat → Bool) → Value → Prop} {w : World} {kb : Nat} {I : Nat → Bool} {u : Value} (hM : dH w kb Q) (hI : ∀ v, I v = true → v < 256) (hQ : Q I u) :
 ∃ w', (Instr.mapUpdate 126 (.map (some kb)) (aW I) u).run Tryd.prog w = .ok () w' ∧ dH w' kb Q ∧ Only (fun k => k = kb) w w' := by
 obtain ⟨es, c, hb, hes⟩ := hM
 have ht : Tryd.prog.underlying 126 = some (.map 69 71) := by kernel_rfl
 have put : ∀ (es' : Array MapEntry) (c' : Nat), (∀ e ∈ es'.toList, ∃ J, e.key = aW J ∧ (∀ v, J v = true → v < 256) ∧ Q J e.val) → dH { w with heap := w.heap.setIfInBounds kb (.map es' c') } kb Q ∧ Only (fun k => k = kb) w { w with heap := w.heap.setIfInBounds kb (.map es' c') } := fun es' c' h =>
  ⟨⟨es', c', (MapKept.heap_set hb).1, h⟩, ⟨rfl, rfl, rfl, by simp, fun k _ hk => (MapKept.heap_set hb).2 k hk⟩⟩
 rcases abe hI es.toList hes with h1 | ⟨j, e, h1, h2, h3, _⟩
 · refine ⟨_, by simp [Instr.mapUpdate, run_underlying ht, MapKept.run_getObj_map hb, OU, h1, MapKept.run_setObj_map _ hb, Result.andThen]; rfl, put _ _ fun x hx => ?_⟩
   rw [Array.toList_push, List.mem_append, List.mem_singleton] at hx
   rcases hx with hx | rfl
   · exact hes x hx
   · exact ⟨I, rfl, hI, hQ⟩
 · have hj : es[j]? = some e := by simpa using h2
   have hst : (Instr.keyThatStays (aW I) (aW I)).run Tryd.prog w = .ok (aW I) w := by simp [Instr.keyThatStays, ahg]
   refine ⟨_, by simp [Instr.mapUpdate, run_underlying ht, MapKept.run_getObj_map hb, OU, h1, hj, h3, hst, MapKept.run_setObj_map _ hb, Result.andThen]; rfl, put _ _ fun x hx => ?_⟩
   obtain ⟨m, hm, hmx⟩ := List.getElem_of_mem hx
   rw [Array.getElem_toList, Array.getElem_modify] at hmx
   split at hmx
   · rw [← hmx]
     exact ⟨I, rfl, hI, hQ⟩
   · rw [← hmx]
     exact hes _ (by rw [← Array.getElem_toList]; exact List.getElem_mem _)
end
end Go.Proofs.YtglbkbiphcgidaaDoor
