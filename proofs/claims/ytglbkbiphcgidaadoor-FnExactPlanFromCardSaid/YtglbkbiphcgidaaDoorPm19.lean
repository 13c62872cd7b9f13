import Derived.Test.YtglbkbiphcgidaaDoorPm18
namespace Go.Proofs.YtglbkbiphcgidaaDoor
section
open Go.RowKit Go.Shelf
attribute [local go_sem] Oper.semAt_some
def nV (ah : List (List Int)) (O P : List Int) (b n nb pb kb : Nat) (Ow Lv : Nat → Nat → Bool) (Pk : List Int) (W : World) : Prop :=
 ∃ E Pd, dX W b n nb pb kb Ow Lv E Pd ∧ jC (bU ah Pk) O n Ow E Pd ∧ dH W kb (gQ (bU ah Pk) O (nth P)) ∧ eY W nb ∧ eY W pb
theorem nV.only {S : Nat → Prop} {ah : List (List Int)} {O P Pk : List Int} {b n nb pb kb : Nat} {Ow Lv : Nat → Nat → Bool} {w w' : World} (h : nV ah O P b n nb pb kb Ow Lv Pk w) (hk : Only S w w') (h1 : ¬ S b) (h2 : ¬ S nb) (h3 : ¬ S pb) (h4 : ¬ S kb) : nV ah O P b n nb pb kb Ow Lv Pk w' := by
 obtain ⟨E, Pd, q1, q2, q3, q4, q5⟩ := h
 exact ⟨E, Pd, q1.only hk h1 h2 h3, q2, q3.only hk h4, q4.only hk h2, q5.only hk h3⟩
theorem aio (w : World) (who : Int) (hw : who = 0 ∨ who = 1) (I J : Nat → Bool) : (Instr.index 71 (jc I J) (.int .i64 who)).run Tryd.prog w = .ok (aW (if who = 0 then I else J)) w := by
 rcases hw with rfl | rfl
 · exact JI w I J
 · exact JK w I J
theorem aip {fn : Func} {p : Tmp} {tmps : Array Value} {W : World} {D g : Nat} {x : Int} {R : Ending → World → Prop} (hr : fn.results = #[.cell p 2]) (hp : tmps.getD p undef = .pointer (some ⟨g, 0, none⟩))
 (hM : Boxed W g 2 (.int .i64 x)) (hK : W.heap[D]? = some (.deferred (some []))) (hR : R (.returned (.int .i64 x)) (W.putObj D (.deferred none))) :
 bodyPostM Fence.wide 4 Tryd.prog fn R .ret { tmps := tmps, defers := [{ target := .collected D, args := #[] }] } W := by
 refine ⟨by simp, .inl ⟨_, _, rfl, run_takeDeferred hK, ?_⟩⟩
 have hg : Boxed (W.putObj D (.deferred none)) g 2 (.int .i64 x) := by
  refine (World.putObj_heap_other fun e => ?_).trans hM
  unfold Boxed at hM
  rw [e, hK] at hM
  cases hM
 have hp' : tmps[p]?.getD undef = .pointer (some ⟨g, 0, none⟩) := by simpa using hp
 have hc := hg.cell
 exact ⟨_, by simp [results, hr, hp', go_sem, hc], hR⟩
set_option linter.unusedSimpArgs false in
set_option maxRecDepth 100000 in
set_option maxHeartbeats 16000000 in
theorem abW {w : World} {b n nb pb kb v : Nat} {Ow Lv E Pd : Nat → Nat → Bool} {ah : List (List Int)} {O P Pk : List Int} {I : Nat → Bool} {who z : Int}
 (hT : dS w) (hR : dX w b n nb pb kb Ow Lv E Pd) (hM : dH w kb (gQ (bU ah Pk) O (nth P))) (xB : eY w pb) (hFn : eY w nb) (htb : pb ≠ 1 ∧ nb ≠ 1)
 (hG : jC (bU ah Pk) O n Ow E Pd) (hL : Pn n (nth P) O Lv) (hz : ah.length = n) (hPk : Pk.length = n) (hr : iO ah) (hs : (row ah v).Pairwise (· < ·)) (hv : v < n) (hpk : nth Pk v < 0)
 (hI : ∀ x, I x = true → x < n) (ht : fE (bU ah Pk) I) (hw : who = 0 ∨ who = 1) (hex : ∃ u ∈ row ah v, I u.toNat = true ∧ fC ah O P (Pk.set v u) I who = true) (hpz : gu (fun u => fC ah O P (Pk.set v u) I who) I (row ah v) = z) :
 Calls Tryd.prog 65 #[.pointer (some ⟨b, 0, none⟩), .int .i64 (v : Int), .int .i64 who, aW I] w fun e w' => e = .returned (.int .i64 z) ∧ nV ah O P b n nb pb kb Ow Lv (Pk.set v z) w' ∧ Only (fun k => k = nb ∨ k = pb ∨ k = kb ∨ w.heap.size ≤ k) w w' := by
 have hkt := JH hM hT
 have VW : E v = eX (row ah v) := funext fun x => by
  rw [Bool.eq_iff_iff, hG.succ v hv x, wR, aif (by omega) hpk]
 obtain ⟨L, Ko⟩ : ∃ L, L = eX (row ah v) := ⟨_, rfl⟩
 have hLr : ∀ x : Nat, L x = true → (x : Int) ∈ row ah v := fun x hx => by rw [Ko] at hx; exact wR.1 hx
 have hPM : ∀ (k : Nat) (pre : List (eH (dR L I))) (x : eH (dR L I)), jd (pre ++ [x]) = (aU (dR L I) 256).take k → (∀ y ∈ pre, fC ah O P (Pk.set v (y.1 : Int)) I who = false) → fC ah O P (Pk.set v (x.1 : Int)) I who = true → z = (x.1 : Int) := by
  rw [Ko, ← hpz]
  intro k pre x h1 h2 h3
  have hn := hR.small
  exact aik (hold := fun u => fC ah O P (Pk.set v u) I who) hr hs (by omega) (by omega) h1 h2 h3
 have hPA : ∀ (xs : List (eH (dR L I))), jd xs = aU (dR L I) 256 → (∀ y ∈ xs, fC ah O P (Pk.set v (y.1 : Int)) I who = false) → False := by
  rw [Ko]
  intro xs h1 h2
  have hn := hR.small
  exact ail (hold := fun u => fC ah O P (Pk.set v u) I who) (by omega) (by omega) hr h1 h2 hex
 rw [← Ko] at VW
 have HM := Lib.hid hM
 have HR := Lib.hid hR
 have HT := Lib.hid hT
 have HG := Lib.hid hG
 have HL := Lib.hid hL
 have HI := Lib.hid hI
 have Oi := Lib.hid ht
 have HPM := Lib.hid hPM
 have HPA := Lib.hid hPA
 have HLr := Lib.hid hLr
 have HEv := Lib.hid VW
 have HRW := Lib.hid hr
 have HFp := Lib.hid xB
 have DF := Lib.hid hFn
 have hn := hR.small
 have hap := hR.apart
 have hlt := hR.lt
 have hT0 := hT.lt
 clear hT hR hM VW hLr hPM hPA hr hI ht hL hG hex hpz Ko hs xB hFn hpk
 have hv0 : (0 : Int) ≤ (v : Int) := by omega
 have hv1 : (v : Int) < (n : Int) := by omega
 refine (callsIn_wide (n := 4)).1 ?_
 refine callsIn_of_wp_marks Tryd.func65 rfl trivial ?_ rfl
 simp only [Tryd.ntmps65, List.size_toArray, List.length_cons, List.length_nil, Nat.reduceAdd, Nat.reduceSub, Array.replicate_succ, Array.replicate_zero, List.push_toArray, List.append_toArray, List.nil_append, List.cons_append]
 refine wpIn_wide.2 ?_
 go_wp2_with fail
 obtain ⟨w1, hw1⟩ : ∃ y, y = (((((w.alloc (.cells #[.pointer (some ⟨b, 0, none⟩)] 76)).alloc (.cells #[.int .i64 (v : Int)] 2)).alloc (.cells #[.int .i64 who] 2)).alloc (.cells #[.int .u64 (aj I 0), .int .u64 (aj I 1), .int .u64 (aj I 2), .int .u64 (aj I 3)] 69)).alloc (.cells #[.int .i64 0] 2)) := ⟨_, rfl⟩
 rw [← hw1]
 have B1 : Hid (Below w.heap.size w w1) := by
  rw [hw1]
  exact (((((Below.refl _ _).alloc (Nat.le_refl _) _).alloc (by simp) _).alloc (by simp; omega) _).alloc (by simp; omega) _).alloc (by simp; omega) _
 have yQ : Hid (Boxed w1 (w.heap.size) 76 (.pointer (some ⟨b, 0, none⟩))) := by
  rw [hw1]; exact dh (dh (dh (dh (Boxed.new w 76 _) (aA _ _)) (aA _ _)) (aA _ _)) (aA _ _)
 have Hf : Hid (Boxed w1 (w.heap.size + 1) 2 (.int .i64 (v : Int))) := by
  rw [hw1]; exact dh (dh (dh (uD _ _ _ (by simp)) (aA _ _)) (aA _ _)) (aA _ _)
 have bW1 : Hid (Boxed w1 (w.heap.size + 1 + 1) 2 (.int .i64 who)) := by
  rw [hw1]; exact dh (dh (uD _ _ _ (by simp)) (aA _ _)) (aA _ _)
 have xu : Hid (aH w1 (w.heap.size + 1 + 1 + 1) I) := by
  rw [hw1]; exact (dP I _ (by simp)).below (aA _ _)
 have bR1 : Hid (Boxed w1 (w.heap.size + 1 + 1 + 1 + 1) 2 (.int .i64 0)) := by
  rw [hw1]; exact uD _ _ _ (by simp)
 have hs1 : w1.heap.size = w.heap.size + 5 := by rw [hw1]; simp
 clear hw1
 have aC : Hid (∀ W', Below w1.heap.size w1 W' → W'.cell? ⟨w.heap.size, 0, none⟩ = some (.pointer (some ⟨b, 0, none⟩)) ∧ W'.cell? ⟨b, 172, none⟩ = some (.slice (some ⟨nb, 0, none⟩) n n) ∧ W'.cell? ⟨w.heap.size + 1, 0, none⟩ = some (.int .i64 (v : Int)) ∧ W'.cell? ⟨nb, v * 4, none⟩ = some (.int .u64 (aj L 0)) ∧ W'.cell? ⟨nb, v * 4 + 1, none⟩ = some (.int .u64 (aj L 1)) ∧ W'.cell? ⟨nb, v * 4 + 2, none⟩ = some (.int .u64 (aj L 2)) ∧ W'.cell? ⟨nb, v * 4 + 3, none⟩ = some (.int .u64 (aj L 3)) ∧ W'.cell? ⟨w.heap.size + 1 + 1 + 1, 0, none⟩ = some (.int .u64 (aj I 0)) ∧ W'.cell? ⟨w.heap.size + 1 + 1 + 1, 1, none⟩ = some (.int .u64 (aj I 1)) ∧ W'.cell? ⟨w.heap.size + 1 + 1 + 1, 2, none⟩ = some (.int .u64 (aj I 2)) ∧ W'.cell? ⟨w.heap.size + 1 + 1 + 1, 3, none⟩ = some (.int .u64 (aj I 3))) := fun W' hb => by
  have hb' := B1.out.trans (hb.mono B1.out.size)
  have m0 := dh yQ.out hb
  have m1 := dh Hf.out hb
  have m3 := xu.out.below hb
  have R := HR.out.below hb'
  have y0 := R.succ v hv 0 (by omega)
  have y1 := R.succ v hv 1 (by omega)
  have y2 := R.succ v hv 2 (by omega)
  have y3 := R.succ v hv 3 (by omega)
  rw [Nat.zero_add, HEv.out] at y0 y1 y2 y3
  rw [Nat.add_zero] at y0
  exact ⟨m0.cell, R.next, m1.cell, y0, y1, y2, y3, m3.c0, m3.c1, m3.c2, m3.c3⟩
 have Kd : Hid (Below w1.heap.size w1 w1.drew) := (Below.refl _ _).drew
 go_wp2_with fail
 refine abA (fun a a' wb => ∃ (Bs : Nat) (u10 u11 u12 u13 u14 u15 u16 iT jJ : Value), (Bs < wb.heap.size ∧ Hid (Below w1.heap.size w1 wb) ∧ Hid (aH wb Bs (dR L I))) ∧ a' = { tmps := (((((((((a.tmps.setIfInBounds 10 u10).setIfInBounds 11 u11).setIfInBounds 12 u12).setIfInBounds 13 u13).setIfInBounds 14 u14).setIfInBounds 15 u15).setIfInBounds 16 u16).setIfInBounds 17 iT).setIfInBounds 18 jJ).setIfInBounds 19 (.func (.func 139) #[] #[.pointer (some ⟨Bs, 0, none⟩)]), defers := a.defers }) ?DW ?DX
 case DW =>
  refine jB (S := (fun W' => W'.cell? ⟨w.heap.size, 0, none⟩ = some (.pointer (some ⟨b, 0, none⟩)) ∧ W'.cell? ⟨b, 172, none⟩ = some (.slice (some ⟨nb, 0, none⟩) n n) ∧ W'.cell? ⟨w.heap.size + 1, 0, none⟩ = some (.int .i64 (v : Int)) ∧ W'.cell? ⟨nb, v * 4, none⟩ = some (.int .u64 (aj L 0)) ∧ W'.cell? ⟨nb, v * 4 + 1, none⟩ = some (.int .u64 (aj L 1)) ∧ W'.cell? ⟨nb, v * 4 + 2, none⟩ = some (.int .u64 (aj L 2)) ∧ W'.cell? ⟨nb, v * 4 + 3, none⟩ = some (.int .u64 (aj L 3)) ∧ W'.cell? ⟨w.heap.size + 1 + 1 + 1, 0, none⟩ = some (.int .u64 (aj I 0)) ∧ W'.cell? ⟨w.heap.size + 1 + 1 + 1, 1, none⟩ = some (.int .u64 (aj I 1)) ∧ W'.cell? ⟨w.heap.size + 1 + 1 + 1, 2, none⟩ = some (.int .u64 (aj I 2)) ∧ W'.cell? ⟨w.heap.size + 1 + 1 + 1, 3, none⟩ = some (.int .u64 (aj I 3)))) (m := 10) (by kernel_rfl) (aC.out _ Kd.out) (fun hHd => ?_)
  refine aB (i := 0) (v := ?rW) rfl (by kernel_rfl) (by decide) (by kernel_rfl) (by kernel_rfl) (by kernel_rfl) (fun _ _ _ h => h) (Or.inl ⟨by rfl, ?hm1⟩) (by assumption) ?_
  case hm1 => (intro w hSw; (try dsimp only at hSw); go_simp; first | done | with_reducible rfl)
  try simp only [Act.put, g1, g2, g3]
  refine aB (i := 1) (v := ?rZ) rfl (by kernel_rfl) (by decide) (by kernel_rfl) (by kernel_rfl) (by kernel_rfl) (fun _ _ _ h => h) (Or.inl ⟨by rfl, ?hm2⟩) (by assumption) ?_
  case hm2 => (intro w hSw; (try dsimp only at hSw); go_simp; first | done | with_reducible rfl)
  try simp only [Act.put, g1, g2, g3]
  refine aB (i := 2) (v := ?su) rfl (by kernel_rfl) (by decide) (by kernel_rfl) (by kernel_rfl) (by kernel_rfl) (fun _ _ _ h => h) (Or.inl ⟨by rfl, ?iR⟩) (by assumption) ?_
  case iR => (intro w hSw; (try dsimp only at hSw); go_simp; first | done | with_reducible rfl)
  try simp only [Act.put, g1, g2, g3]
  refine aB (i := 3) (v := ?uF) rfl (by kernel_rfl) (by decide) (by kernel_rfl) (by kernel_rfl) (by kernel_rfl) (fun _ _ _ h => h) (Or.inl ⟨by rfl, ?hm4⟩) (by assumption) ?_
  case hm4 => (intro w hSw; (try dsimp only at hSw); go_simp; first | done | with_reducible rfl)
  try simp only [Act.put, g1, g2, g3]
  refine aB (i := 4) (v := ?wW) rfl (by kernel_rfl) (by decide) (by kernel_rfl) (by kernel_rfl) (by kernel_rfl) (fun _ _ _ h => h) (Or.inl ⟨by rfl, ?jQ⟩) (by assumption) ?_
  case jQ => (intro w hSw; (try dsimp only at hSw); go_simp; first | done | with_reducible rfl)
  try simp only [Act.put, g1, g2, g3]
  refine aB (i := 5) (v := ?yF) rfl (by kernel_rfl) (by decide) (by kernel_rfl) (by kernel_rfl) (by kernel_rfl) (fun _ _ _ h => h) (Or.inl ⟨by rfl, ?kV⟩) (by assumption) ?_
  case kV => (intro w hSw; (try dsimp only at hSw); go_simp; first | done | with_reducible rfl)
  try simp only [Act.put, g1, g2, g3]
  refine aB (i := 6) (v := ?AX) rfl (by kernel_rfl) (by decide) (by kernel_rfl) (by kernel_rfl) (by kernel_rfl) (fun _ _ _ h => h) (Or.inl ⟨by rfl, ?mV⟩) (by assumption) ?_
  case mV => (intro w hSw; (try dsimp only at hSw); go_simp; first | done | with_reducible rfl)
  try simp only [Act.put, g1, g2, g3]
  refine aB (i := 7) (v := ?AZ) rfl (by kernel_rfl) (by decide) (by kernel_rfl) (by kernel_rfl) (by kernel_rfl) (fun _ _ _ h => h) (Or.inl ⟨by rfl, ?mW⟩) (by assumption) ?_
  case mW => (intro w hSw; (try dsimp only at hSw); go_simp; first | done | with_reducible rfl)
  try simp only [Act.put, g1, g2, g3]
  refine aG (i := 8) (by kernel_rfl) rfl (fun K hK => ?_)
  go_simp
  go_at_call 111
  refine (yw _ _).mono ?_
  rintro e wa ⟨rfl, hb⟩
  have Ka := Lib.hid (Kd.out.trans (hb.mono Kd.out.size))
  clear hb
  go_wp2_with fail
  refine hK.out _ _ (fun _ => aC.out _ Ka.out) (fun hHd => ?_)
  have hHd := hHd (by decide)
  clear hK K
  try simp only [Act.put, g1, g2, g3]
  refine aG (i := 9) (by kernel_rfl) rfl (fun K hK => ?_)
  go_simp
  go_at_call 112
  refine (Gn _ _).mono ?_
  rintro e wb ⟨rfl, hwb⟩
  have bJ : Hid (aH wb wa.heap.size (dR L I)) := by rw [hwb]; exact aH.new _ _
  have Kb : Hid (Below w1.heap.size w1 wb) := by rw [hwb]; exact Ka.out.trans ((aA _ _).mono Ka.out.size)
  have hsb : wb.heap.size = wa.heap.size + 1 := by rw [hwb]; simp
  clear hwb
  go_wp2_with fail
  refine hK.out _ _ (fun _ => aC.out _ Kb.out) (fun hHd => ?_)
  have hHd := hHd (by decide)
  clear hK K
  try simp only [Act.put, g1, g2, g3]
  refine dA (by kernel_rfl) ?_ _
  try simp only [List.setIfInBounds_toArray, List.set_cons_zero, List.set_cons_succ]
  exact ⟨wa.heap.size, _, _, _, _, _, _, _, _, _, ⟨by omega, Kb, bJ⟩, rfl⟩
 case DX =>
 rintro a' wb ⟨Bs, u10, u11, u12, u13, u14, u15, u16, iT, jJ, ⟨hBs, Kb, bJ⟩, rfl⟩
 try simp only [List.setIfInBounds_toArray, List.set_cons_zero, List.set_cons_succ]
 have B4 := Lib.hid (B1.out.trans (Kb.out.mono B1.out.size))
 have T4 := Lib.hid (HT.out.below B4.out)
 have BF := Lib.hid (dh yQ.out Kb.out)
 have bV4 := Lib.hid (dh Hf.out Kb.out)
 have bW4 := Lib.hid (dh bW1.out Kb.out)
 have bI4 := Lib.hid (xu.out.below Kb.out)
 have Ob := Lib.hid (dh bR1.out Kb.out)
 have S4 : Hid (nV ah O P b n nb pb kb Ow Lv Pk wb) := ⟨E, Pd, HR.out.below B4.out, HG.out, HM.out.below B4.out, DF.out.below B4.out, HFp.out.below B4.out⟩
 have hs4 := Kb.out.size
 clear aC Kd yQ Hf bW1 xu bR1
 go_wp2_with fail
 refine Gx (Bs := Bs) (I := dR L I) rfl T4.out bJ.out rfl (fun k => k = nb ∨ k = pb ∨ k = kb ∨ k = w.heap.size + 1 + 1 + 1 + 1)
  (fun k hk => by omega)
  (fun pre W => (∀ y ∈ pre, fC ah O P (Pk.set v (y.1 : Int)) I who = false) ∧ Boxed W (w.heap.size + 1 + 1 + 1 + 1) 2 (.int .i64 0) ∧ ∃ rP, nV ah O P b n nb pb kb Ow Lv rP W ∧ (∀ x, rP.set v x = Pk.set v x) ∧ rP.length = n ∧ fE (bU ah rP) I)
  (fun c pre W => c = .ret ∧ ∃ Kr x, pre = Kr ++ [x] ∧ (∀ y ∈ Kr, fC ah O P (Pk.set v (y.1 : Int)) I who = false) ∧ fC ah O P (Pk.set v (x.1 : Int)) I who = true ∧ nV ah O P b n nb pb kb Ow Lv (Pk.set v (x.1 : Int)) W ∧ Boxed W (w.heap.size + 1 + 1 + 1 + 1) 2 (.int .i64 (x.1 : Int)))
  (fun pre A A' h ho => ⟨h.1, gK h.2.1 ho (by omega), by
   obtain ⟨rP, h1, h2⟩ := h.2.2
   exact ⟨rP, h1.only ho (by omega) (by omega) (by omega) (by omega), h2⟩⟩)
  (fun c pre A A' h ho => ⟨h.1, by
   obtain ⟨Kr, x, h1, h2, h3, h4, h5⟩ := h.2
   exact ⟨Kr, x, h1, h2, h3, h4.only ho (by omega) (by omega) (by omega) (by omega), gK h5 ho (by omega)⟩⟩)
  ⟨fun y hy => by simp at hy, Ob.out, Pk, S4.out, fun _ => rfl, hPk, Oi.out⟩ ?act ?assign ?body ?done ?stop
 case assign =>
  intro l x W K hK
  dsimp only [encI]
  gi_wp2
  exact hK
 case body =>
  intro l pre x W hR hO
  obtain ⟨u, hu⟩ : ∃ u : Nat, u = x.1 := ⟨_, rfl⟩
  have hx2 := x.2.2
  rw [← hu] at hx2
  unfold dR at hx2
  rw [Bool.and_eq_true] at hx2
  have hur := HLr.out u hx2.1
  have hun : u < n := HI.out u hx2.2
  obtain ⟨hpre, hbR, rP, ⟨E', ru, q1, q2, q3, q4, q5⟩, hset, hlen, htot⟩ := hR
  obtain ⟨r, hr⟩ : ∃ r, fC ah O P (Pk.set v (u : Int)) I who = r := ⟨_, rfl⟩
  have hsW := hO.size
  have oJ := Lib.hid (gK BF.out hO (by omega))
  have bVW := Lib.hid (gK bV4.out hO (by omega))
  have bWW := Lib.hid (gK bW4.out hO (by omega))
  have Vh := Lib.hid (bI4.out.only hO (by omega))
  have Vj := Lib.hid hbR
  have TW := Lib.hid (T4.out.only hO (by omega))
  have HTU : Hid (fE (bU ah (Pk.set v (u : Int))) I) := by
   have h1 := aii (ah := ah) (Pk := rP) (v := v) (u := u) (I := I) (by omega) (by omega) hur hx2.2 htot
   rw [hset] at h1
   exact h1
  have aiq := Lib.hid hset
  have Q1 := Lib.hid q1
  have Q2 := Lib.hid q2
  have Q3 := Lib.hid q3
  have Q4 := Lib.hid q4
  have Q5 := Lib.hid q5
  have abX := Lib.hid hpre
  have HU := Lib.hid hu
  have HRR := Lib.hid hr
  have qR := Lib.hid hur
  have hlt' := q1.lt
  have HLen := Lib.hid hlen
  rw [← hu]
  have hu0 : (0 : Int) ≤ (u : Int) := by omega
  have hxe : x.1 = u := hu.symm
  have wI : Hid (∀ W', Only (fun k => k = nb ∨ k = pb ∨ k = kb ∨ W.heap.size ≤ k) W W' → W'.cell? ⟨w.heap.size, 0, none⟩ = some (.pointer (some ⟨b, 0, none⟩)) ∧ W'.cell? ⟨w.heap.size + 1, 0, none⟩ = some (.int .i64 (v : Int))) := fun W' ho => ⟨(gK oJ.out ho (by omega)).cell, (gK bVW.out ho (by omega)).cell⟩
  have Kd3 : Hid (Only (fun k => W.heap.size ≤ k) W W.drew) := kS (Only.refl _ _)
  have hsd : W.drew.heap.size = W.heap.size := rfl
  clear hr hpre hset q1 q2 q3 q4 q5 hbR hlen htot hO hur hu hx2
  gi_wp2
  refine uy (S := (fun W' => W'.cell? ⟨w.heap.size, 0, none⟩ = some (.pointer (some ⟨b, 0, none⟩)) ∧ W'.cell? ⟨w.heap.size + 1, 0, none⟩ = some (.int .i64 (v : Int)))) (m := 6) (by kernel_rfl) (by kernel_rfl) (wI.out _ (Kd3.out.mono (fun k hk => .inr (.inr (.inr hk))))) (fun hHd => ?_)
  refine aB (i := 0) (v := ?Bg) rfl (by kernel_rfl) (by decide) (by kernel_rfl) (by kernel_rfl) (by kernel_rfl) (fun _ _ _ h => h) (Or.inl ⟨by rfl, ?mX⟩) (by assumption) ?_
  case mX => (intro w hSw; (try dsimp only at hSw); go_simp; first | done | with_reducible rfl)
  try simp only [Act.put, g1, g2, g3]
  refine aB (i := 1) (v := ?Bj) rfl (by kernel_rfl) (by decide) (by kernel_rfl) (by kernel_rfl) (by kernel_rfl) (fun _ _ _ h => h) (Or.inl ⟨by rfl, ?mY⟩) (by assumption) ?_
  case mY => (intro w hSw; (try dsimp only at hSw); go_simp; first | done | with_reducible rfl)
  try simp only [Act.put, g1, g2, g3]
  refine aB (i := 2) (v := ?Bo) rfl (by kernel_rfl) (by decide) (by kernel_rfl) (by kernel_rfl) (by kernel_rfl) (fun _ _ _ h => h) (Or.inl ⟨by rfl, ?mZ⟩) (by assumption) ?_
  case mZ => (intro w hSw; (try dsimp only at hSw); go_simp; first | done | with_reducible rfl)
  try simp only [Act.put, g1, g2, g3]
  refine aG (i := 3) (by kernel_rfl) rfl (fun K hK => ?_)
  go_simp
  obtain ⟨Wa, hWa⟩ : ∃ y, y = (W.alloc (.cells #[.int .i64 (u : Int)] 2)).drew := ⟨_, rfl⟩
  rw [← hWa]
  have Ka : Hid (Only (fun k => W.heap.size ≤ k) W Wa) := by rw [hWa]; exact kS (Only.of_below (aA W _))
  have ca : Hid (Wa.cell? ⟨W.heap.size, 0, none⟩ = some (.int .i64 (u : Int))) := by rw [hWa]; exact (uD (w := W) _ _ _ rfl).cell
  clear hWa
  refine hK.out _ _ (fun _ => wI.out _ (Ka.out.mono (fun k hk => .inr (.inr (.inr hk))))) (fun hHd => ?_)
  have hHd := hHd (by decide)
  clear hK K
  try simp only [Act.put, g1, g2, g3]
  refine aG (i := 4) (by kernel_rfl) rfl (fun K hK => ?_)
  go_simp
  go_at_call 103
  refine (Jw ca.out (by omega)).mono ?_
  rintro e Wb ⟨rfl, hb⟩
  have hsa := Ka.out.size
  have BQ : Hid (Only (fun k => W.heap.size ≤ k) W Wb) := Ka.out.trans ((Only.of_below hb).mono fun k hk => by omega)
  clear hb
  go_wp2_with fail
  refine hK.out _ _ (fun _ => wI.out _ (BQ.out.mono (fun k hk => .inr (.inr (.inr hk))))) (fun hHd => ?_)
  have hHd := hHd (by decide)
  clear hK K
  try simp only [Act.put, g1, g2, g3]
  refine aG (i := 5) (by kernel_rfl) rfl (fun K hK => ?_)
  go_simp
  go_at_call 110
  refine (abC (Q' := gQ (bU ah (Pk.set v (u : Int))) O (nth P)) (TW.out.only BQ.out (by omega)) (Q1.out.only BQ.out (by omega) (by omega) (by omega)) (Q3.out.only BQ.out (by omega)) (Q5.out.only BQ.out (by omega)) (Q4.out.only BQ.out (by omega)) htb hv (fun x hx => Q2.out.lt hv hx) (fun x hx => by unfold aS at hx; have h : x = u := (by simpa using hx); omega)).mono ?_
  rintro e Wc ⟨Pd2, ⟨vv, rfl⟩, r1, r2, r3, r4, r5, ho⟩
  have akq := BQ.out.size
  have r1 := Lib.hid r1
  have r2 := Lib.hid r2
  have r3 := Lib.hid r3
  have r4 := Lib.hid r4
  have r5 := Lib.hid r5
  have Kc : Hid (Only (fun k => k = nb ∨ k = pb ∨ k = kb ∨ W.heap.size ≤ k) W Wc) := (BQ.out.mono fun k hk => .inr (.inr (.inr hk))).trans (ho.mono fun k hk => by omega)
  clear ho
  go_wp2_with fail
  refine hK.out _ _ (fun _ => wI.out _ Kc.out) (fun hHd => ?_)
  have hHd := hHd (by decide)
  clear hK K
  try simp only [Act.put, g1, g2, g3]
  refine dA (by kernel_rfl) ?_ _
  refine uw ?_
  have O3 : Hid (Only (fun k => k = nb ∨ k = pb ∨ k = kb ∨ W.heap.size ≤ k) W Wc) := Kc
  have G3 : Hid (jC (bU ah (Pk.set v (u : Int))) O n Ow (nT E' v (aS u)) Pd2) := Q2.out.lead hv (by rw [dQ]; exact hz) (sZ HRW.out) (fun x hx hne => by rw [← aiq.out]; exact abP (by have := HLen.out; omega) (by omega) (by omega) hne)
   (fun x => by
    rw [abQ (by omega) (by omega) hu0]
    unfold aS
    constructor
    · intro h
      have : x = u := by simpa using h
      rw [this]; exact ⟨qR.out, rfl⟩
    · rintro ⟨_, h⟩
      have : x = u := by omega
      simp [this]) r2.out
  have TC := Lib.hid (TW.out.only O3.out (by omega))
  have bPC := Lib.hid (gK oJ.out O3.out (by omega))
  have bWC := Lib.hid (gK bWW.out O3.out (by omega))
  have bIC := Lib.hid (Vh.out.only O3.out (by omega))
  have bRC := Lib.hid (gK Vj.out O3.out (by omega))
  have hsc := O3.out.size
  have zO : Hid (∀ W', Only (fun k => k = kb ∨ Wc.heap.size ≤ k) Wc W' → W'.cell? ⟨w.heap.size, 0, none⟩ = some (.pointer (some ⟨b, 0, none⟩)) ∧ W'.cell? ⟨w.heap.size + 1 + 1, 0, none⟩ = some (.int .i64 who) ∧ W'.cell? ⟨w.heap.size + 1 + 1 + 1, 0, none⟩ = some (.int .u64 (aj I 0)) ∧ W'.cell? ⟨w.heap.size + 1 + 1 + 1, 1, none⟩ = some (.int .u64 (aj I 1)) ∧ W'.cell? ⟨w.heap.size + 1 + 1 + 1, 2, none⟩ = some (.int .u64 (aj I 2)) ∧ W'.cell? ⟨w.heap.size + 1 + 1 + 1, 3, none⟩ = some (.int .u64 (aj I 3))) := fun W' ho => by
   have m3 := bIC.out.only ho (by omega)
   exact ⟨(gK bPC.out ho (by omega)).cell, (gK bWC.out ho (by omega)).cell, m3.c0, m3.c1, m3.c2, m3.c3⟩
  have PE : Hid (Only (fun k => k = kb ∨ Wc.heap.size ≤ k) Wc Wc.drew) := kS (Only.refl _ _)
  obtain ⟨Z, hZ⟩ : ∃ Z, Z = dM (bU ah (Pk.set v (u : Int))) O (nth P) I who := ⟨_, rfl⟩
  have hix : ∀ W : World, (Instr.index 71 (jc (dM (bU ah (Pk.set v (u : Int))) O (nth P) I 0) (dM (bU ah (Pk.set v (u : Int))) O (nth P) I 1)) (.int .i64 who)).run Tryd.prog W = .ok (aW Z) W := fun W => by
   rw [aio W who hw, hZ]
   rcases hw with rfl | rfl
   · rw [if_pos rfl]
   · rw [if_neg (by omega)]
  have heq : ∀ W : World, (Op.equalIn 10000 69 (.agg #[.int .u64 (aj Z 0), .int .u64 (aj Z 1), .int .u64 (aj Z 2), .int .u64 (aj Z 3)]) (.agg #[.int .u64 (aj I 0), .int .u64 (aj I 1), .int .u64 (aj I 2), .int .u64 (aj I 3)])).run Tryd.prog W = .ok r W := fun W => by
   have h := Ug W Z I
   rw [hZ, same_holds (by omega) (fun x hx => by rw [hz]; exact HI.out x hx), HRR.out] at h
   rw [hZ]; exact h
  have h01 : ∀ W : World, Only (fun k => k = kb ∨ Wc.heap.size ≤ k) Wc W → True := fun _ _ => trivial
  clear hZ h01 r2 Kc hHd
  gi_wp2
  refine uy (S := (fun W' => W'.cell? ⟨w.heap.size, 0, none⟩ = some (.pointer (some ⟨b, 0, none⟩)) ∧ W'.cell? ⟨w.heap.size + 1 + 1, 0, none⟩ = some (.int .i64 who) ∧ W'.cell? ⟨w.heap.size + 1 + 1 + 1, 0, none⟩ = some (.int .u64 (aj I 0)) ∧ W'.cell? ⟨w.heap.size + 1 + 1 + 1, 1, none⟩ = some (.int .u64 (aj I 1)) ∧ W'.cell? ⟨w.heap.size + 1 + 1 + 1, 2, none⟩ = some (.int .u64 (aj I 2)) ∧ W'.cell? ⟨w.heap.size + 1 + 1 + 1, 3, none⟩ = some (.int .u64 (aj I 3)))) (m := 7) (by kernel_rfl) (by kernel_rfl) (zO.out _ PE.out) (fun hHd => ?_)
  refine aB (i := 0) (v := ?Bq) rfl (by kernel_rfl) (by decide) (by kernel_rfl) (by kernel_rfl) (by kernel_rfl) (fun _ _ _ h => h) (Or.inl ⟨by rfl, ?ng⟩) (by assumption) ?_
  case ng => (intro w hSw; (try dsimp only at hSw); go_simp; first | done | with_reducible rfl)
  try simp only [Act.put, g1, g2, g3]
  refine aB (i := 1) (v := ?BA) rfl (by kernel_rfl) (by decide) (by kernel_rfl) (by kernel_rfl) (by kernel_rfl) (fun _ _ _ h => h) (Or.inl ⟨by rfl, ?ni⟩) (by assumption) ?_
  case ni => (intro w hSw; (try dsimp only at hSw); go_simp; first | done | with_reducible rfl)
  try simp only [Act.put, g1, g2, g3]
  refine aB (i := 3) (v := ?BD) rfl (by kernel_rfl) (by decide) (by kernel_rfl) (by kernel_rfl) (by kernel_rfl) (fun _ _ _ h => h) (Or.inl ⟨by rfl, ?ny⟩) (by assumption) ?_
  case ny => (intro w hSw; (try dsimp only at hSw); go_simp; first | done | with_reducible rfl)
  try simp only [Act.put, g1, g2, g3]
  refine aB (i := 5) (v := ?BH) rfl (by kernel_rfl) (by decide) (by kernel_rfl) (by kernel_rfl) (by kernel_rfl) (fun _ _ _ h => h) (Or.inl ⟨by rfl, ?nC⟩) (by assumption) ?_
  case nC => (intro w hSw; (try dsimp only at hSw); go_simp; first | done | with_reducible rfl)
  try simp only [Act.put, g1, g2, g3]
  refine aG (i := 2) (by kernel_rfl) rfl (fun K hK => ?_)
  go_simp
  go_at_call 102
  refine (abw G3.out HL.out _ I (Nat.lt_succ_self _) HI.out HTU.out Wc.drew (TC.out.only PE.out (by omega)) (r1.out.only PE.out (by omega) (by omega) (by omega)) (r3.out.only (S := fun _ => False) (kS (Only.refl _ _)) (fun x => x))).mono ?_
  rintro e Wd ⟨rfl, ho, hm⟩
  have hm := Lib.hid hm
  have Ke : Hid (Only (fun k => k = kb ∨ Wc.heap.size ≤ k) Wc Wd) := PE.out.trans ho
  clear ho
  go_wp2_with fail
  refine hK.out _ _ (fun _ => zO.out _ Ke.out) (fun hHd => ?_)
  have hHd := hHd (by decide)
  clear hK K
  try simp only [Act.put, g1, g2, g3]
  refine aB (i := 4) (v := ?DL) rfl (by kernel_rfl) (by decide) (by kernel_rfl) (by kernel_rfl) (by kernel_rfl) (fun _ _ _ h => h) (Or.inl ⟨by rfl, ?nN⟩) (by assumption) ?_
  case nN => (intro w hSw; (try dsimp only at hSw); go_simp; first | done | with_reducible rfl)
  try simp only [Act.put, g1, g2, g3]
  refine aG (i := 6) (by kernel_rfl) rfl (fun K hK => ?_)
  go_simp
  refine hK.out _ _ (fun _ => zO.out _ Ke.out) (fun hHd => ?_)
  have hHd := hHd (by decide)
  clear hK K
  try simp only [Act.put, g1, g2, g3]
  refine dA (by kernel_rfl) ?_ _
  refine uw ?_
  have O4 : Hid (Only (fun k => (k = nb ∨ k = pb ∨ k = kb ∨ k = w.heap.size + 1 + 1 + 1 + 1) ∨ W.heap.size ≤ k) W Wd) := (O3.out.mono fun k hk => by omega).trans (Ke.out.mono fun k hk => by omega)
  have hsd2 := Ke.out.size
  have SE : Hid (nV ah O P b n nb pb kb Ow Lv (Pk.set v (u : Int)) Wd) := ⟨_, _, r1.out.only Ke.out (by omega) (by omega) (by omega), G3.out, hm.out, r4.out.only Ke.out (by omega), r5.out.only Ke.out (by omega)⟩
  have PG := Lib.hid (gK bRC.out Ke.out (by omega))
  clear hHd hix heq
  cases r with
  | false =>
    gi_wp2
    refine ⟨O4.out, fun y hy => ?_, PG.out, Pk.set v (u : Int), SE.out, fun x => List.set_set .., by rw [List.length_set]; exact hPk, HTU.out⟩
    rcases List.mem_append.1 hy with hy | hy
    · exact abX.out y hy
    · rw [List.mem_singleton.1 hy, hxe]; exact HRR.out
  | true =>
    have e0 := PG.out.cell
    have e1 := PG.out.frozen
    gi_wp2
    refine ⟨O4.out.trans ((Only.refl (fun k => (k = nb ∨ k = pb ∨ k = kb ∨ k = w.heap.size + 1 + 1 + 1 + 1) ∨ W.heap.size ≤ k) Wd).setCell (.inl (.inr (.inr (.inr rfl)))) _), rfl, pre, x, rfl, abX.out, by rw [hxe]; exact HRR.out, ?_, ?_⟩
    · rw [hxe]
      exact SE.out.only ((Only.refl (fun k => k = w.heap.size + 1 + 1 + 1 + 1) Wd).setCell rfl _) (by omega) (by omega) (by omega) (by omega)
    · rw [hxe]; exact PG.out.set _
 case done =>
  intro D xs W hD hxs hR hO hK
  exact (HPA.out _ hxs hR.1).elim
 case stop =>
  intro D c pre W hD hk DC hO hK
  obtain ⟨k, hk⟩ := hk
  obtain ⟨rfl, Kr, x, rfl, h1, h2, h3, h4⟩ := DC
  have hzx := HPM.out _ _ _ hk h1 h2
  have hDs := (Array.getElem?_eq_some_iff.1 hK).1
  have hne : D ≠ w.heap.size + 1 + 1 + 1 + 1 := by omega
  go_wp2_with fail
  refine aip (g := w.heap.size + 1 + 1 + 1 + 1) rfl rfl h4 hK ⟨by rw [hzx], ?_, ?_⟩
  · rw [hzx]
    exact h3.only ((Only.dV (grownBy_putObj' W D _)).mono fun k hk => by cases hk; rfl : Only (fun k => k = D) W (W.putObj D (.deferred none))) (by omega) (by omega) (by omega) (by omega)
  · exact (((Only.of_below B4.out).mono fun k hk => by omega).trans (hO.mono fun k hk => by omega)).trans ((Only.dV (grownBy_putObj' W D _)).mono fun k hk => by cases hk; omega)
end
end Go.Proofs.YtglbkbiphcgidaaDoor
