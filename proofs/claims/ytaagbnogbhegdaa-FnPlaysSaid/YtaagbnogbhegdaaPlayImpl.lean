/-
  Contract of chapter 5: the program's PlayOf (strategies are function values).
-/
import Derived.Test.YtaagbnogbhegdaaPlayMath
import Derived.Test.YtaagbnogbhegdaaPlanImpl
import Derived.Test.YtaagbnogbhegdaaLasso
import Derived.Test.YtaagbnogbhegdaaPlaySpec
import Derived.Test.YtaagbnogbhegdaaRepeat
import Derived.Deep.RegionHeld3
import Derived.RangeFuncBox
import Derived.Shelf.Abstract
namespace Go.Proofs.Ytaagbnogbhegdaa
open Go.RowKit

theorem idx_push {zs : List Int} {x y : Int} (hx : x ∉ zs) : idx (zs ++ [x]) y = if y = x then (zs.length : Int) else idx zs y := by
  unfold idx
  by_cases e : y = x
  · subst e
    rw [if_pos rfl, if_pos (by simp), List.idxOf_append, if_neg hx]; simp
  · rw [if_neg e]
    by_cases h : y ∈ zs
    · rw [if_pos h, if_pos (by simp [h]), List.idxOf_append, if_pos h]
    · rw [if_neg h, if_neg (by simp [h, e])]
/-- Since when a vertex has been met. -/
def sinceF (f : Nat → Int) (k : Nat) (i : Nat) : Int := idx (metK f k) (i : Int)
theorem since_push {f : Nat → Int} {k u : Nat} (hno : f k ∉ metK f k) (hu : f k = (u : Int)) (i : Nat) : (if i = u then (k : Int) else sinceF f k i) = sinceF f (k + 1) i := by
  unfold sinceF
  rw [metK, idx_push hno, metK_len, hu]
  by_cases e : i = u
  · rw [if_pos e, if_pos (by omega)]
  · rw [if_neg e, if_neg (by omega)]
theorem since_le (f : Nat → Int) (k i : Nat) : -1 ≤ sinceF f k i ∧ sinceF f k i < k + 1 := by
  unfold sinceF idx
  split
  · rename_i h
    have := List.idxOf_lt_length_iff.2 h
    rw [metK_len] at this
    omega
  · omega
theorem cell_past {w : World} {p q : Addr} {v : Value} (h : w.cell? p = some v) (hne : p.block ≠ q.block) (u : Value) : (w.setCell q u).cell? p = some v :=
  (World.cell?_of_block (Below.heap_setCell _ _ _ _ hne)).trans h
theorem cell_only {S : Nat → Prop} {w w' : World} {p : Addr} {v : Value} (h : Only S w w') (hp : ¬ S p.block) (hc : w.cell? p = some v) : w'.cell? p = some v :=
  (World.cell?_of_block (h.block _ (World.block_lt_of_cell? w p hc) hp)).trans hc

/-- What a strategy chooses. -/
theorem choose_is {W : World} {be u : Nat} {aE : Option Addr} {cE : Nat} {E : List Int} {q : Int} (hq : nth E u = q) (hc : W.cell? ⟨be, 0, none⟩ = some (.slice aE E.length cE)) (hE : IntsAt W aE E) (hu : u < E.length) :
    Calls Try.prog 131 #[.int .i64 u, .pointer (some ⟨be, 0, none⟩)] W fun e w' => e = .returned (.int .i64 q) ∧ W = w' := by
  have hl := hE.len
  obtain ⟨b, o, ha, hcell⟩ := hE.cell (by omega)
  have c1 := hcell u hu
  rw [hq] at c1
  subst ha
  have hu0 : (0 : Int) ≤ u := by omega
  have hun : (u : Int) < E.length := by omega
  clear hcell hq hE
  go_enter Try.func131, Try.ntmps131
  go_wp2
  go_ret
  exact ⟨rfl, rfl⟩
theorem following_is (aE : Option Addr) (n cE : Nat) (W : World) :
    Calls Try.prog 95 #[.slice aE n cE] W fun e w' => e = .returned (.func (.func 131) #[] #[.pointer (some ⟨W.heap.size, 0, none⟩)]) ∧ w' = W.alloc (.cells #[.slice aE n cE] 24) := by
  go_enter Try.func95, Try.ntmps95
  go_wp2
  go_ret
  exact ⟨rfl, rfl⟩

set_option maxHeartbeats 16000000 in
set_option maxRecDepth 100000 in
theorem playFrom_is {w : World} {va : Value} {O E D X Y : List Int} {zss : List (List Int)} {v : Int} {aE aD : Option Addr} {cE cD be bd : Nat}
    (hP : X = (metK (seqF O E D v) (playK O E D v)).take (playI O E D v) ∧ Y = (metK (seqF O E D v) (playK O E D v)).drop (playI O E D v))
    (hfe : fullB O zss 0 E = true) (hfd : fullB O zss 1 D = true) (hv : 0 ≤ v ∧ v < O.length) (h : ArenaAt w va O zss)
    (hce : w.cell? ⟨be, 0, none⟩ = some (.slice aE E.length cE)) (hcd : w.cell? ⟨bd, 0, none⟩ = some (.slice aD D.length cD)) (hE : IntsAt w aE E) (hD : IntsAt w aD D) :
    Calls Try.prog 94 #[va, .int .i64 v, .func (.func 131) #[] #[.pointer (some ⟨be, 0, none⟩)], .func (.func 131) #[] #[.pointer (some ⟨bd, 0, none⟩)]] w (GivesLasso w X Y) := by
  obtain ⟨i0, hi, hz0, hz1, hz2⟩ := info_parts info_int
  have eg : ∀ args w, (callFunc 131 args).run Try.prog w = .ok (.enter 131 args) w := enters_of Try.func131 (by kernel_rfl) rfl
  obtain ⟨ao, an, co, cn, A, C, rfl, h1, h2⟩ := h
  have hlO := h1.len
  have HOi := Lib.hid h1
  have HP := Lib.hid hP
  have HCE := Lib.hid hce
  have HCD := Lib.hid hcd
  have HEi := Lib.hid hE
  have HDi := Lib.hid hD
  have hO0 : 0 < O.length := (fullB_iff.1 hfe).1.1.1
  have hO256 : O.length ≤ 256 := (fullB_iff.1 hfe).1.1.2.1
  have HLE : Hid (E.length = O.length) := (fullB_iff.1 hfe).1.2.2.1
  have HLD : Hid (D.length = O.length) := (fullB_iff.1 hfd).1.2.2.1
  obtain ⟨f, hf⟩ : ∃ f, f = seqF O E D v := ⟨_, rfl⟩
  have HIn : Hid (∀ k, ∃ u : Nat, f k = (u : Int) ∧ u < O.length) := by rw [hf]; exact seq_in hfe hfd hv
  have HVs : Hid (∀ k, (∀ j, j < k → f j ∉ metK f j) → VertsP O.length (metK f k)) := by rw [hf]; exact met_verts hfe hfd hv
  have HSt : Hid (∀ k, f (k + 1) = stepF O E D (f k)) := by rw [hf]; exact fun k => rfl
  have HF0 : Hid (f 0 = v) := by rw [hf]; rfl
  have HPK : Hid (playK O E D v = firstK f (O.length + 1) 0) := by rw [hf]; rfl
  have HPI : Hid (playI O E D v = (idx (metK f (playK O E D v)) (f (playK O E D v))).toNat) := by rw [hf]; rfl
  rw [← hf] at HP
  obtain ⟨w1, hw1⟩ : ∃ y, y = (w.alloc (.cells #[.slice ao O.length co, .slice an zss.length cn] 27)).alloc (.cells #[.slice none 0 0, .slice none 0 0] 43) := ⟨_, rfl⟩
  have HW1 := Lib.hid hw1
  have B1 : Hid (Below w.heap.size w w1) := by rw [hw1]; exact below2 _ _ _
  have hs1 : w1.heap.size = w.heap.size + 1 + 1 := by rw [hw1]; simp
  have HS1 := Lib.hid hs1
  have T1 : Hid (Box2 w1 w.heap.size 27 (.slice ao O.length co) (.slice an zss.length cn)) := by rw [hw1]; exact (Box2.new w _ _ _).alloc _
  have R1 : Hid (Box2 w1 (w.heap.size + 1) 43 (.slice none 0 0) (.slice none 0 0)) := by rw [hw1]; exact Box2.new_at (by simp) _ _ _
  obtain ⟨w2, hw2⟩ : ∃ y, y = w1.alloc (.cells #[.int .i64 (-1)] 2) := ⟨_, rfl⟩
  have HW2 := Lib.hid hw2
  have hs2 : w2.heap.size = w1.heap.size + 1 := by rw [hw2]; simp
  have HS2 := Lib.hid hs2
  have hb12 : Below w1.heap.size w1 w2 := by rw [hw2]; exact below1 _ _
  have B2 := Lib.hid (B1.out.trans (hb12.mono B1.out.size))
  have T2 := Lib.hid (T1.out.below hb12)
  have R2 := Lib.hid (R1.out.below hb12)
  have hc2 : w2.cell? ⟨w1.heap.size, 0, none⟩ = some (.int .i64 (-1)) := by rw [hw2]; exact (Boxed.new w1 2 (.int .i64 (-1))).cell
  have HRP := Lib.hid (Repeat_is (cap := 1) hO0 hO256 (by unfold Fits; omega) hc2)
  have t1a := T1.out.cell0
  have t2a := T2.out.cell0
  rw [hw2] at t2a
  rw [hw1] at t1a t2a
  clear hw1 hw2 h1 h2 hs1 hs2 hb12 hc2 hce hcd hE hD hP hfe hfd hv hf
  go_enter Try.func94, Try.ntmps94
  go_wp2_with fail
  rw [← HW1.out]
  try rw [← HS1.out]
  rw [← HW2.out]
  refine HRP.out.mono ?_
  rintro e w3 ⟨g, rfl, hF, hb⟩
  clear t1a t2a
  have hg := hF.lt
  have HG : Hid (w2.heap.size ≤ g ∧ g < w3.heap.size) := hg
  have B3 := Lib.hid (B2.out.trans (hb.mono B2.out.size))
  have T3 := Lib.hid (T2.out.below hb)
  have R3 := Lib.hid (R2.out.below hb)
  have F3 : Hid (OwnF w3 w2.heap.size g O.length O.length (sinceF f 0)) := hF.congr fun i _ => by simp [sinceF, metK, idx]
  have O3 : Hid (w3.ownsRow w3.heap.size 2 1 (.slice none 0 0) (metK f 0).length ((metK f 0).map (Value.int .i64))) := World.ownsRow_nil _ _ _ _
  clear hF hb hg
  have hv0 : Value.int .i64 v = .int .i64 (f 0) := by rw [HF0.out]
  rw [hv0]
  clear hv0
  go_wp2
  go_loopw [1, 9] (fun vv ov wr => ∃ (k : Nat) (uu : Value), uu = ov ∧ k ≤ O.length ∧ vv = .int .i64 (f k) ∧ lenV ov = k ∧ Hid (wr.ownsRow w3.heap.size 2 1 ov (metK f k).length ((metK f k).map (Value.int .i64))) ∧ Hid (∀ j, j < k → f j ∉ metK f j) ∧ Hid (OwnF wr w2.heap.size g O.length O.length (sinceF f k)) ∧ Hid (Only (fun b => b = g ∨ w3.heap.size ≤ b) w3 wr)) (fun _ ov _ => O.length + 1 - lenV ov)
  case atStart => exact ⟨0, _, rfl, Nat.zero_le _, rfl, rfl, O3, fun j hj => absurd hj (Nat.not_lt_zero _), F3, Only.refl _ _⟩
  case round =>
    clear O3 F3
    obtain ⟨k, uu, hu0, hk, rfl, hlen, HO, HJ, HF, HK⟩ := hrel
    subst hu0
    have HVk := Lib.hid (HVs.out k HJ.out)
    have hml : (metK f k).length ≤ 256 := by rw [metK_len]; omega
    obtain ⟨ma, mc, hms, hmi, _⟩ := (OwnInts.mk' HO.out (by omega) (HVk.out.fits (by omega))).shape
    have HMi := Lib.hid hmi
    subst hms
    have HLen := Lib.hid hlen
    have hgs : w.heap.size + 1 + 1 + 1 ≤ g := by have := HG.out.1; have := HS1.out; have := HS2.out; omega
    have HGS := Lib.hid hgs
    have Bw := Lib.hid (B3.out.trans (HK.out.below (B := w.heap.size) B3.out.size (fun b hb => by have := B3.out.size; omega)))
    have Tw := Lib.hid (T3.out.only HK.out (by have := T3.out.lt; omega))
    have Rw := Lib.hid (R3.out.only HK.out (by have := R3.out.lt; omega))
    obtain ⟨u, hu, hun⟩ := HIn.out k
    have HU := Lib.hid hu
    have hu0 : (0 : Int) ≤ (u : Int) := by omega
    have hu1 : (u : Int) < O.length := by omega
    have sc := HF.out.cell hun
    have sf := HF.out.frozen u
    have hksz := HK.out.size
    clear hmi hlen
    cases hh : hasB (metK f k) (f k) with
    | false =>
      have hno : f k ∉ metK f k := fun h => by unfold hasB at hh; simp [h] at hh
      have hsn : sinceF f k u = -1 := by unfold sinceF idx; rw [← HU.out, if_neg hno]
      rw [hsn] at sc
      have HJn : Hid (∀ j, j < k + 1 → f j ∉ metK f j) := fun j hj => by
        by_cases e : j = k
        · subst e; exact hno
        · exact HJ.out j (by omega)
      have HV1 := (HVs.out (k + 1) HJn.out).len
      have hk1 : k + 1 ≤ O.length := by rw [metK_len] at HV1; exact HV1
      obtain ⟨wa, hwa⟩ : ∃ y, y = wr.setCell ⟨g, u, none⟩ (.int .i64 ((metK f k).length : Int)) := ⟨_, rfl⟩
      have HWA := Lib.hid hwa
      have hOa : Only (fun b => b = g) wr wa := by rw [hwa]; exact Only.setCell (S := fun b => b = g) (Only.refl _ _) (p := ⟨g, u, none⟩) rfl _
      have FA : Hid (OwnF wa w2.heap.size g O.length O.length (sinceF f (k + 1))) := by
        rw [hwa, metK_len]
        exact (HF.out.put (u := u) (x := (k : Int)) (by unfold Fits; omega)).congr fun i _ => since_push hno HU.out i
      have HOA : Hid (wa.ownsRow w3.heap.size 2 1 (.slice ma (metK f k).length mc) (metK f k).length ((metK f k).map (Value.int .i64))) :=
        ownsRow_only HO.out hOa (fun b hb e => by have := (HO.out.lt b hb).1; have := HG.out.2; omega)
      have KA := Lib.hid (HK.out.trans (hOa.mono fun b hb => .inl hb))
      have hsa : wa.heap.size = wr.heap.size := by rw [hwa]; simp
      have HSA := Lib.hid hsa
      have hka : w3.heap.size ≤ wa.heap.size := by omega
      have c1 : ∀ j v, [Value.int .i64 (u : Int)][j]? = some v → (wa.alloc (.cells #[.int .i64 (u : Int)] 2)).cell? ((⟨wr.heap.size, 0, none⟩ : Addr).add j) = some v := by
        have h := cell_one_new wa (.int .i64 (u : Int)) 2
        rw [hsa] at h
        exact h
      have HC1 := Lib.hid c1
      rw [hu]
      clear hh hno HV1 hu hsn hwa hOa hsa c1
      go_wp2_with (at_builtin; rw [← HWA.out]; refine wpList_append_own_at _ rfl _ _ 24 rfl w3.heap.size 2 i0 (.int .i64 0) 1 8 Try.underlying24 hi hz0 hz1 hz2 rfl (by decide) _ _ _ rfl (HOA.out.alloc _) ⟨wr.heap.size, 0, none⟩ 1 1 [.int .i64 (u : Int)] rfl rfl ?c1 ?c2 ?c3 ?c4 ?c5 ?_)
      case c1 => exact HC1.out
      try (case c2 => first | rfl | (intro u hu; simp at hu; subst hu; rfl))
      case c3 => unfold maxLen; omega
      case c4 => omega
      case c5 => simp; omega
      intro v' w7 hown hgrow hsh _
      have hga : Only (fun b => w3.heap.size ≤ b) wa w7 := (Only.of_below (below1 wa _)).trans ((Only.of_grown hgrow).mono fun b hb => (HOA.out.lt b hb).1)
      have Kn := Lib.hid (KA.out.trans (hga.mono fun b hb => .inr hb))
      have Fn : Hid (OwnF w7 w2.heap.size g O.length O.length (sinceF f (k + 1))) := FA.out.only hga (by have := HG.out.2; omega)
      have Tn := Lib.hid (T3.out.only Kn.out (by have := T3.out.lt; have := HGS.out; omega))
      have e1 : metK f (k + 1) = metK f k ++ [(u : Int)] := by rw [metK, HU.out]
      have HOn : Hid (w7.ownsRow w3.heap.size 2 1 v' (metK f (k + 1)).length ((metK f (k + 1)).map (Value.int .i64))) := by
        rw [e1, List.map_append, List.length_append]; exact hown
      have hlv : lenV v' = k + 1 := by
        obtain ⟨g', c', rfl, _⟩ := ownsRow_succ hown
        show (metK f k).length + 1 = k + 1
        rw [metK_len]
      have HLV := Lib.hid hlv
      have Bn := Lib.hid (B3.out.trans (Kn.out.below (B := w.heap.size) B3.out.size (fun b hb => by have := B3.out.size; have := HGS.out; omega)))
      obtain ⟨ob, oo, hoa, hoc⟩ := (HOi.out.below Bn.out).cell (by omega)
      have o1 := hoc u hun
      have t0 := Tn.out.cell0
      obtain ⟨o, ho⟩ : ∃ o, o = nth O u := ⟨_, rfl⟩
      have hst : f (k + 1) = if o = 0 then nth E u else nth D u := by rw [HSt.out, HU.out, ho]; unfold stepF; rw [Int.toNat_natCast]
      rw [← ho] at o1
      have HKE : Hid (Calls Try.prog 131 #[.int .i64 u, .pointer (some ⟨be, 0, none⟩)] w7 fun e w' => e = .returned (.int .i64 (nth E u)) ∧ w7 = w') := choose_is rfl (Below.cell_some (B := 0) Bn.out rfl HCE.out) (HEi.out.below Bn.out) (by have := HLE.out; omega)
      have HKD : Hid (Calls Try.prog 131 #[.int .i64 u, .pointer (some ⟨bd, 0, none⟩)] w7 fun e w' => e = .returned (.int .i64 (nth D u)) ∧ w7 = w') := choose_is rfl (Below.cell_some (B := 0) Bn.out rfl HCD.out) (HDi.out.below Bn.out) (by have := HLD.out; omega)
      subst hoa
      clear hoc hown hgrow hga hsh e1 ho hlv sc sf
      by_cases e0 : o = 0
      · have ho1 : (o == 0) = true := by simpa using e0
        rw [if_pos e0] at hst
        have HST := Lib.hid hst
        clear e0 hst
        go_wp2_with (go_at_fn 131; refine HKE.out.mono ?_; rintro e w8 ⟨rfl, rfl⟩)
        clear t0 o1
        go_roundw
        case rel => exact ⟨k + 1, _, rfl, by omega, by rw [HST.out], HLV.out, HOn, HJn, Fn, Kn⟩
        case measure => have := HLV.out; have := HLen.out; simp only [lenV] at *; omega
      · have ho1 : (o == 0) = false := beq_eq_false_iff_ne.2 e0
        rw [if_neg e0] at hst
        have HST := Lib.hid hst
        clear e0 hst
        go_wp2_with (go_at_fn 131; refine HKD.out.mono ?_; rintro e w8 ⟨rfl, rfl⟩)
        clear t0 o1
        go_roundw
        case rel => exact ⟨k + 1, _, rfl, by omega, by rw [HST.out], HLV.out, HOn, HJn, Fn, Kn⟩
        case measure => have := HLV.out; have := HLen.out; simp only [lenV] at *; omega
    | true =>
      have hin : f k ∈ metK f k := by unfold hasB at hh; simpa using hh
      have hkK : playK O E D v = k := by rw [HPK.out]; exact firstK_is hin (Nat.zero_le _) (by omega) (fun j _ hj => HJ.out j hj)
      obtain ⟨i, hidx, hik⟩ : ∃ i : Nat, idx (metK f k) (f k) = (i : Int) ∧ i < k := by
        refine ⟨(metK f k).idxOf (f k), by unfold idx; rw [if_pos hin], ?_⟩
        have := List.idxOf_lt_length_iff.2 hin
        rw [metK_len] at this
        exact this
      have hsi : sinceF f k u = (i : Int) := by unfold sinceF; rw [← HU.out]; exact hidx
      rw [hsi] at sc
      have hPI : playI O E D v = i := by rw [HPI.out, hkK, hidx]; rfl
      have HX : Hid (X = (metK f k).take i) := by rw [HP.out.1, hkK, hPI]; rfl
      have HY : Hid (Y = (metK f k).drop i) := by rw [HP.out.2, hkK, hPI]; rfl
      obtain ⟨mb, mo, hma, _⟩ := HMi.out.cell (by rw [metK_len]; omega)
      subst hma
      have hcap : k ≤ mc := by
        rcases HO.out.2 with ⟨h, _⟩ | ⟨g, cap, cur, h, _, _, hc, _⟩
        · simp at h
        · simp only [Value.slice.injEq] at h
          rw [metK_len] at hc
          omega
      have hc0 : (0 : Int) ≤ (i : Int) := by omega
      have hc1 : (i : Int) ≤ (mc : Int) := by omega
      have hc2 : (i : Int) ≤ (k : Int) := by omega
      have hi0 : ¬ (i : Int) < 0 := by omega
      have HM0 := HMi.out
      rw [metK_len]
      rw [hu]
      have HC1 : Hid (∀ W, Below wr.heap.size wr W → Calls Try.prog 130 #[.slice (some ⟨mb, mo, none⟩) i mc] W (GivesInts W ((metK f k).take i))) := fun W hb => by
        have h := Clone_is mc ((HM0.takeB (i := i) (by rw [metK_len]; omega)).below hb)
        rw [show ((metK f k).take i).length = i by rw [List.length_take, metK_len]; omega] at h
        exact h
      have HC2 : Hid (∀ W, Below wr.heap.size wr W → Calls Try.prog 130 #[.slice (some ⟨mb, mo + i, none⟩) (k - i) (mc - i)] W (GivesInts W ((metK f k).drop i))) := fun W hb => by
        have h := Clone_is (mc - i) ((HM0.dropB (i := i) (by rw [metK_len]; omega)).below hb)
        rw [show ((metK f k).drop i).length = k - i by rw [List.length_drop, metK_len]] at h
        exact h
      have HL1 : Hid (((metK f k).take i).length = i) := by show _ = _; rw [List.length_take, metK_len]; omega
      have HL2 : Hid (((metK f k).drop i).length = k - i) := by show _ = _; rw [List.length_drop, metK_len]
      have hgt : g ≠ w.heap.size + 1 := by omega
      have Kd : Hid (Below wr.heap.size wr wr.drew) := (Below.refl _ _).drew
      have HSc : Hid (∀ W, Below wr.heap.size wr W → W.cell? ⟨g, u, none⟩ = some (.int .i64 (i : Int))) := fun W hb => Below.cell_some (B := 0) hb rfl sc
      have HSu : Hid (∀ W, Below wr.heap.size wr W → ∀ a b, ((W.setCell ⟨w.heap.size + 1, 0, none⟩ a).setCell ⟨w.heap.size + 1, 1, none⟩ b).cell? ⟨g, u, none⟩ = some (.int .i64 (i : Int))) := fun W hb a b => cell_past (cell_past (HSc.out W hb) hgt _) hgt _
      have s0 := HSc.out _ Kd.out
      clear HM0 hh hin hkK hidx hPI HPI HPK hsi hu
      go_wp2
      go_region_held3 (fun W => W.cell? ⟨g, u, none⟩ = some (.int .i64 (i : Int)))
        (first
          | exact HSc.out _ Kd.out
          | exact HSc.out _ Kx.out
          | exact HSc.out _ Ky.out
          | exact HSu.out _ Ky.out _ _)
        (first
          | (go_at_call 130; refine (HC2.out _ Kx.out).mono ?_; rintro e wy ⟨x, rfl, hx, hb⟩; obtain ⟨ya, yc, hxs, _, _⟩ := hx.shape; rw [HL2.out] at hxs; subst hxs; have Y6 := Lib.hid hx; have Kxy := Lib.hid hb; have Ky := Lib.hid (Kx.out.trans (hb.mono Kx.out.size)); have d0 := (Rw.out.below Ky.out).cell0; have d1 := (Rw.out.below Ky.out).cell1; have g0 := (Rw.out.below Ky.out).frozen 0; have g1 := (Rw.out.below Ky.out).frozen 1; clear hx hb)
          | (go_at_call 130; refine (HC1.out _ Kd.out).mono ?_; rintro e wx ⟨x, rfl, hx, hb⟩; obtain ⟨xa, xc, hxs, _, _⟩ := hx.shape; rw [HL1.out] at hxs; subst hxs; have X6 := Lib.hid hx; have Kx := Lib.hid (Kd.out.trans (hb.mono Kd.out.size)); clear hx hb))
      have hown : OwnLasso wy w3.heap.size wy.heap.size (.agg #[.slice xa i xc, .slice ya (k - i) yc]) X Y := by
        rw [HX.out, HY.out]
        exact OwnLasso.of_parts (M := wx.heap.size) ((X6.out.base (show w3.heap.size ≤ wr.heap.size from hksz)).below Kxy.out) (Y6.out.base (Nat.le_refl _)) (by have := Kx.out.size; omega) Kxy.out.size
      have hst := lasso_stored (w := w) (wr := wy) (t := w.heap.size + 1) (n := w3.heap.size) (Rw.out.below Ky.out) hown (by have := B3.out.size; omega) (by omega) (by have := HS1.out; have := HGS.out; have := HG.out.2; omega) (Bw.out.trans (Ky.out.mono Bw.out.size))
      have HST := Lib.hid hst
      have u0 := hst.2.2.cell0
      have u1 := hst.2.2.cell1
      clear hst hown
      go_wp2
      exact bodyPost_ret (v := .agg #[.slice xa i xc, .slice ya (k - i) yc]) (by simp [results, Try.results94, go_sem, u0, u1]) rfl
        ⟨_, rfl, HST.out.1, HST.out.2.1⟩

set_option maxHeartbeats 16000000 in
set_option maxRecDepth 100000 in
theorem PlayOf_is {w : World} {va : Value} {O E D X Y : List Int} {zss : List (List Int)} {v : Int} {aE aD : Option Addr} {r : Bool} (cE cD : Nat) (hr : playX O zss E D v = X ∧ playY O zss E D v = Y ∧ playB O zss E D v = r) (h : ArenaAt w va O zss) (hE : IntsAt w aE E) (hD : IntsAt w aD D) :
    Calls Try.prog 27 #[va, .slice aE E.length cE, .slice aD D.length cD, .int .i64 v] w (GivesLassoB w X Y r) := by
  obtain ⟨i0, hi, hz0, hz1, hz2⟩ := info_parts info_int
  have HAt := Lib.hid h
  obtain ⟨ao, an, co, cn, A, C, rfl, h1, h2⟩ := h
  have hlO := h1.len
  have hlE := hE.len
  have hlD := hD.len
  have HOi := Lib.hid h1
  have HEi := Lib.hid hE
  have HDi := Lib.hid hD
  obtain ⟨w1, hw1⟩ : ∃ y, y = (w.alloc (.cells #[.slice ao O.length co, .slice an zss.length cn] 27)).alloc (.cells #[.slice none 0 0, .slice none 0 0] 43) := ⟨_, rfl⟩
  have HW1 := Lib.hid hw1
  have B1 : Hid (Below w.heap.size w w1) := by rw [hw1]; exact below2 _ _ _
  have hs1 : w1.heap.size = w.heap.size + 1 + 1 := by rw [hw1]; simp
  have HS1 := Lib.hid hs1
  have T1 : Hid (Box2 w1 w.heap.size 27 (.slice ao O.length co) (.slice an zss.length cn)) := by rw [hw1]; exact (Box2.new w _ _ _).alloc _
  have R1 : Hid (Box2 w1 (w.heap.size + 1) 43 (.slice none 0 0) (.slice none 0 0)) := by rw [hw1]; exact Box2.new_at (by simp) _ _ _
  clear hw1 h1 h2 hE hD hs1
  cases hfe : fullB O zss 0 E with
  | false =>
    have HP := Lib.hid (play_no hr (by unfold playB; rw [hfe]; rfl))
    have HC := Lib.hid (FullIn_is cE hfe (HAt.out.below B1.out) (HEi.out.below B1.out))
    clear hr hfe
    go_enter Try.func27, Try.ntmps27
    go_wp2_with fail
    rw [← HW1.out]
    refine HC.out.mono ?_
    rintro e w2 ⟨rfl, hb⟩
    have B2 := Lib.hid (B1.out.trans (hb.mono B1.out.size))
    have R2 := Lib.hid (R1.out.below hb)
    have d0 := R2.out.cell0
    have d1 := R2.out.cell1
    have g0 := R2.out.frozen 0
    have g1 := R2.out.frozen 1
    clear hb HC
    go_wp2
    exact bodyPost_ret (v := .tuple #[.agg #[.slice none 0 0, .slice none 0 0], .bool false]) (by simp [results, Try.results27, go_sem, d0, d1]) rfl
      ⟨_, by rw [HP.out.2.2], by rw [HP.out.1, HP.out.2.1]; exact OwnLasso.zero _ _ _, zero_stored2 B2.out (by omega)⟩
  | true =>
    have HC := Lib.hid (FullIn_is cE hfe (HAt.out.below B1.out) (HEi.out.below B1.out))
    cases hfd : fullB O zss 1 D with
    | false =>
      have HP := Lib.hid (play_no hr (by unfold playB; rw [hfe, hfd]; rfl))
      have HFD := Lib.hid hfd
      clear hr hfe hfd
      go_enter Try.func27, Try.ntmps27
      go_wp2_with fail
      rw [← HW1.out]
      refine HC.out.mono ?_
      rintro e w2 ⟨rfl, hb⟩
      have B2 := Lib.hid (B1.out.trans (hb.mono B1.out.size))
      have R2 := Lib.hid (R1.out.below hb)
      have T2 := Lib.hid (T1.out.below hb)
      have t0 := T2.out.cell0
      have t1 := T2.out.cell1
      clear hb HC
      go_wp2_with fail
      refine (FullIn_is cD HFD.out (HAt.out.below B2.out) (HDi.out.below B2.out)).mono ?_
      rintro e w3 ⟨rfl, hb⟩
      have B3 := Lib.hid (B2.out.trans (hb.mono B2.out.size))
      have R3 := Lib.hid (R2.out.below hb)
      have d0 := R3.out.cell0
      have d1 := R3.out.cell1
      have g0 := R3.out.frozen 0
      have g1 := R3.out.frozen 1
      clear hb t0 t1
      go_wp2
      exact bodyPost_ret (v := .tuple #[.agg #[.slice none 0 0, .slice none 0 0], .bool false]) (by simp [results, Try.results27, go_sem, d0, d1]) rfl
        ⟨_, by rw [HP.out.2.2], by rw [HP.out.1, HP.out.2.1]; exact OwnLasso.zero _ _ _, zero_stored2 B3.out (by omega)⟩
    | true =>
      have HFD := Lib.hid hfd
      have HFE := Lib.hid hfe
      cases hth : thereB O.length v with
      | false =>
        have HP := Lib.hid (play_no hr (by unfold playB; rw [hfe, hfd, hth]; rfl))
        have HTH := Lib.hid hth
        clear hr hfe hfd hth
        go_enter Try.func27, Try.ntmps27
        go_wp2_with fail
        rw [← HW1.out]
        refine HC.out.mono ?_
        rintro e w2 ⟨rfl, hb⟩
        have B2 := Lib.hid (B1.out.trans (hb.mono B1.out.size))
        have R2 := Lib.hid (R1.out.below hb)
        have T2 := Lib.hid (T1.out.below hb)
        have t0 := T2.out.cell0
        have t1 := T2.out.cell1
        clear hb HC
        go_wp2_with fail
        refine (FullIn_is cD HFD.out (HAt.out.below B2.out) (HDi.out.below B2.out)).mono ?_
        rintro e w3 ⟨rfl, hb⟩
        have B3 := Lib.hid (B2.out.trans (hb.mono B2.out.size))
        have R3 := Lib.hid (R2.out.below hb)
        have T3 := Lib.hid (T2.out.below hb)
        clear hb t0 t1
        have t0 := T3.out.cell0
        have t1 := T3.out.cell1
        go_wp2_with fail
        refine (hasVertex_is HTH.out (HAt.out.below B3.out)).mono ?_
        rintro e w4 ⟨rfl, hb⟩
        have B4 := Lib.hid (B3.out.trans (hb.mono B3.out.size))
        have R4 := Lib.hid (R3.out.below hb)
        have d0 := R4.out.cell0
        have d1 := R4.out.cell1
        have g0 := R4.out.frozen 0
        have g1 := R4.out.frozen 1
        clear hb t0 t1
        go_wp2
        exact bodyPost_ret (v := .tuple #[.agg #[.slice none 0 0, .slice none 0 0], .bool false]) (by simp [results, Try.results27, go_sem, d0, d1]) rfl
          ⟨_, by rw [HP.out.2.2], by rw [HP.out.1, HP.out.2.1]; exact OwnLasso.zero _ _ _, zero_stored2 B4.out (by omega)⟩
      | true =>
        have HP := Lib.hid (play_yes hr (by unfold playB; rw [hfe, hfd, hth]; rfl))
        have HTH := Lib.hid hth
        have hv : 0 ≤ v ∧ v < O.length := by unfold thereB at hth; simpa using hth
        have HPF : Hid (∀ W be bd, Below w.heap.size w W → W.cell? ⟨be, 0, none⟩ = some (.slice aE E.length cE) → W.cell? ⟨bd, 0, none⟩ = some (.slice aD D.length cD) → Calls Try.prog 94 #[.agg #[.slice ao O.length co, .slice an zss.length cn], .int .i64 v, .func (.func 131) #[] #[.pointer (some ⟨be, 0, none⟩)], .func (.func 131) #[] #[.pointer (some ⟨bd, 0, none⟩)]] W (GivesLasso W X Y)) :=
          fun W be bd hb h1 h2 => playFrom_is ⟨HP.out.1, HP.out.2.1⟩ hfe hfd hv (HAt.out.below hb) h1 h2 (HEi.out.below hb) (HDi.out.below hb)
        clear hr hfe hfd hth hv
        go_enter Try.func27, Try.ntmps27
        go_wp2_with fail
        rw [← HW1.out]
        refine HC.out.mono ?_
        rintro e w2 ⟨rfl, hb⟩
        have B2 := Lib.hid (B1.out.trans (hb.mono B1.out.size))
        have R2 := Lib.hid (R1.out.below hb)
        have T2 := Lib.hid (T1.out.below hb)
        have t0 := T2.out.cell0
        have t1 := T2.out.cell1
        clear hb HC
        go_wp2_with fail
        refine (FullIn_is cD HFD.out (HAt.out.below B2.out) (HDi.out.below B2.out)).mono ?_
        rintro e w3 ⟨rfl, hb⟩
        have B3 := Lib.hid (B2.out.trans (hb.mono B2.out.size))
        have R3 := Lib.hid (R2.out.below hb)
        have T3 := Lib.hid (T2.out.below hb)
        clear hb t0 t1
        have t0 := T3.out.cell0
        have t1 := T3.out.cell1
        go_wp2_with fail
        refine (hasVertex_is HTH.out (HAt.out.below B3.out)).mono ?_
        rintro e w4 ⟨rfl, hb⟩
        have B4 := Lib.hid (B3.out.trans (hb.mono B3.out.size))
        have R4 := Lib.hid (R3.out.below hb)
        have T4 := Lib.hid (T3.out.below hb)
        have hrt4 : w.heap.size + 1 < w4.heap.size := R4.out.lt
        clear hb t0 t1
        have Kd : Hid (Below w4.heap.size w4 w4.drew) := (Below.refl _ _).drew
        have hds : w4.drew.heap.size = w4.heap.size := rfl
        have Ke : Hid (Below w4.heap.size w4 (w4.drew.alloc (.cells #[.slice aE E.length cE] 24))) := Kd.out.alloc Kd.out.size _
        have Kf : Hid (Below w4.heap.size w4 ((w4.drew.alloc (.cells #[.slice aE E.length cE] 24)).alloc (.cells #[.slice aD D.length cD] 24))) := Ke.out.alloc Ke.out.size _
        have HSc : Hid (∀ W, Below w4.heap.size w4 W → W.cell? ⟨w.heap.size, 0, none⟩ = some (.slice ao O.length co) ∧ W.cell? ⟨w.heap.size, 1, none⟩ = some (.slice an zss.length cn)) := fun W hb => ⟨(T4.out.below hb).cell0, (T4.out.below hb).cell1⟩
        have HSu : Hid (∀ W, Below w4.heap.size w4 W → ∀ a b, ((W.setCell ⟨w.heap.size + 1, 0, none⟩ a).setCell ⟨w.heap.size + 1, 1, none⟩ b).cell? ⟨w.heap.size, 0, none⟩ = some (.slice ao O.length co) ∧ ((W.setCell ⟨w.heap.size + 1, 0, none⟩ a).setCell ⟨w.heap.size + 1, 1, none⟩ b).cell? ⟨w.heap.size, 1, none⟩ = some (.slice an zss.length cn)) := fun W hb a b =>
          ⟨cell_past (cell_past (HSc.out W hb).1 (by show w.heap.size ≠ w.heap.size + 1; omega) _) (by show w.heap.size ≠ w.heap.size + 1; omega) _, cell_past (cell_past (HSc.out W hb).2 (by show w.heap.size ≠ w.heap.size + 1; omega) _) (by show w.heap.size ≠ w.heap.size + 1; omega) _⟩
        have hce : ((w4.drew.alloc (.cells #[.slice aE E.length cE] 24)).alloc (.cells #[.slice aD D.length cD] 24)).cell? ⟨w4.heap.size, 0, none⟩ = some (.slice aE E.length cE) := Below.cell_some (B := 0) (below1 _ _) rfl (Boxed.new w4.drew 24 (.slice aE E.length cE)).cell
        have hcd : ((w4.drew.alloc (.cells #[.slice aE E.length cE] 24)).alloc (.cells #[.slice aD D.length cD] 24)).cell? ⟨w4.heap.size + 1, 0, none⟩ = some (.slice aD D.length cD) := by
          have h := (Boxed.new (w4.drew.alloc (.cells #[.slice aE E.length cE] 24)) 24 (.slice aD D.length cD)).cell
          rw [World.size_alloc, hds] at h
          exact h
        have HPL := Lib.hid (HPF.out _ _ _ (B4.out.trans (Kf.out.mono B4.out.size)) hce hcd)
        have HBz : Hid (w4.heap.size ≤ ((w4.drew.alloc (.cells #[.slice aE E.length cE] 24)).alloc (.cells #[.slice aD D.length cD] 24)).heap.size) := Kf.out.size
        have s0 := HSc.out _ Kd.out
        clear hce hcd HPF hds
        go_wp2
        go_region_held3 (fun W => W.cell? ⟨w.heap.size, 0, none⟩ = some (.slice ao O.length co) ∧ W.cell? ⟨w.heap.size, 1, none⟩ = some (.slice an zss.length cn))
          (first
            | exact HSc.out _ Kd.out
            | exact HSc.out _ Ke.out
            | exact HSc.out _ Kf.out
            | exact HSc.out _ Kp.out
            | exact HSu.out _ Kp.out _ _)
          (first
            | (go_at_call 94; refine HPL.out.mono ?_; rintro e wp ⟨x, rfl, hx, hb⟩; obtain ⟨pa, pc, qa, qc, hxs⟩ := hx.shape; subst hxs; have X6 := Lib.hid hx; have Kp := Lib.hid (Kf.out.trans (hb.mono Kf.out.size)); have d0 := (R4.out.below Kp.out).cell0; have d1 := (R4.out.below Kp.out).cell1; have g0 := (R4.out.below Kp.out).frozen 0; have g1 := (R4.out.below Kp.out).frozen 1; clear hx hb)
            | (go_at_call 95; have _t := tE; refine (following_is aD D.length cD _).mono ?_; rintro e wb ⟨rfl, rfl⟩; have tD : True := trivial; clear tE)
            | (go_at_call 95; refine (following_is aE E.length cE _).mono ?_; rintro e wa ⟨rfl, rfl⟩; have tE : True := trivial))
        have hst := lasso_stored (w := w) (wr := wp) (t := w.heap.size + 1) (R4.out.below Kp.out) X6.out (by have := HBz.out; omega) (by omega) (by have := HBz.out; omega) (B4.out.trans (Kp.out.mono B4.out.size))
        have HST := Lib.hid hst
        have u0 := hst.2.2.cell0
        have u1 := hst.2.2.cell1
        clear hst
        go_wp2
        exact bodyPost_ret (v := .tuple #[.agg #[.slice pa X.length pc, .slice qa Y.length qc], .bool true]) (by simp [results, Try.results27, go_sem, u0, u1]) rfl
          ⟨_, by rw [HP.out.2.2], HST.out.1, HST.out.2.1⟩

end Go.Proofs.Ytaagbnogbhegdaa
