import Derived.Shelf.Bits.Mul64
import Derived.Deep.RegionHeld3
import Derived.Laws.CopyOwn
import Derived.Laws.OwnMore
import Derived.Test.YtglbkbiphcgidaaDoorPm00
import Derived.Test.YtglbkbiphcgidaaDoorPm02
import Derived.Test.YtglbkbiphcgidaaDoorPm09
import Derived.Test.YtglbkbiphcgidaaDoorPm23
import Derived.Test.YtglbkbiphcgidaaDoorPm24
namespace Go.Proofs.YtglbkbiphcgidaaDoor
open Go.RowKit
set_option maxHeartbeats 1000000 in
theorem ajL (x y : Nat) (hx : x < 18446744073709551616) (hy : y < 18446744073709551616) (w : World) :
 Calls Tryd.prog 143 #[.int .u64 x, .int .u64 y] w fun e w' => e = .returned (.tuple #[.int .u64 ((x * y / 18446744073709551616 : Nat) : Int), .int .u64 ((x * y % 18446744073709551616 : Nat) : Int)]) ∧ w' = w := by
 obtain ⟨bd, bt, bw, hhi⟩ := Lib.mul64_hi x y hx hy
 have ba := Lib.half_mul_le (a := x / 4294967296) (b := y / 4294967296) (by omega) (by omega)
 have bb := Lib.half_mul_le (a := x / 4294967296) (b := y % 4294967296) (by omega) (by omega)
 have bc := Lib.half_mul_le (a := x % 4294967296) (b := y / 4294967296) (by omega) (by omega)
 have ba' : x / 4294967296 * (y / 4294967296) < 18446744073709551616 := by omega
 have bb' : x / 4294967296 * (y % 4294967296) < 18446744073709551616 := by omega
 have bc' : x % 4294967296 * (y / 4294967296) < 18446744073709551616 := by omega
 have bh1 : x / 4294967296 * (y / 4294967296) + (x / 4294967296 * (y % 4294967296) + x % 4294967296 * (y % 4294967296) / 4294967296) / 4294967296 < 18446744073709551616 := by omega
 have bh : x / 4294967296 * (y / 4294967296) + (x / 4294967296 * (y % 4294967296) + x % 4294967296 * (y % 4294967296) / 4294967296) / 4294967296 + ((x / 4294967296 * (y % 4294967296) + x % 4294967296 * (y % 4294967296) / 4294967296) % 4294967296 + x % 4294967296 * (y / 4294967296)) / 4294967296 < 18446744073709551616 := by omega
 go_enter Tryd.func143, Tryd.ntmps143
 go_wp2
 simp only [Mul64.maskN x hx, Mul64.maskN y hy, Mul64.divN, Mul64.mulN, Mul64.addN, Mul64.wrapN _ bd, Mul64.wrapN _ bb', Mul64.wrapN _ bt, Mul64.maskN _ bt, Mul64.wrapN _ bc', Mul64.wrapN _ bw, Mul64.wrapN _ ba', Mul64.wrapN _ bh1, Mul64.wrapN _ bh, Mul64.wrapM (x * y)]
 rw [hhi]
 go_ret2
 exact ⟨rfl, rfl⟩
set_option maxHeartbeats 1000000 in
theorem adv (n : Nat) (hn : n ≤ 1048576) (w : World) :
 Calls Tryd.prog 114 #[.int .u64 1, .int .u64 n] w fun e w' => e = .returned (.tuple #[.int .u64 0, .int .u64 n]) ∧ w = w' := by
 have h := ajL 1 n (by omega) (by omega) w
 rw [Nat.one_mul, show n / 18446744073709551616 = 0 by omega, show n % 18446744073709551616 = n by omega] at h
 have H := Lib.hid h
 clear h
 go_enter Tryd.func114, Tryd.ntmps114
 go_wp2_with (go_at_call 143; refine H.out.mono ?_; rintro e w' ⟨rfl, rfl⟩)
 go_ret2
 exact ⟨rfl, rfl⟩
def nH (x : Int) (n k : Nat) : List Value := List.replicate k (.int .i64 x) ++ List.replicate (n - k) (.int .i64 0)
theorem YD {x : Int} {n k : Nat} (h : k ≤ n) : (nH x n k).length = n := by simp [nH]; omega
theorem adw {x : Int} {n k m : Nat} (h : k + m ≤ n) : splice (nH x n k) k (List.replicate m (.int .i64 x)) = nH x n (k + m) := by
 unfold splice nH
 rw [List.take_append_of_le_length (by simp), List.take_of_length_le (by simp), List.drop_append, List.drop_of_length_le (by simp), List.nil_append, List.length_replicate, List.length_replicate, List.drop_replicate, ← List.append_assoc, List.replicate_append_replicate]
 congr 2
 omega
theorem adx {x : Int} {n k j : Nat} (h : j < k) : (nH x n k)[j]? = some (.int .i64 x) := by
 unfold nH
 rw [List.getElem?_append_left (by simpa using h), List.getElem?_replicate]
 simp [h]
theorem ajM {w : World} {g : Nat} {x : Int} {n k j : Nat} (hg : w.heap[g]? = some (.cells (nH x n k).toArray 2 (0, 0))) (h : j < k) : w.cell? ⟨g, j, none⟩ = some (.int .i64 x) := by
 have h1 := adx (x := x) (n := n) h
 simp only [World.cell?, hg]
 simpa using h1
theorem ajN (n : Nat) : madeCells #[.int .i64 0] n = (List.replicate n (Value.int .i64 0)).toArray := by
 apply Array.ext'
 rw [toList_madeCells_one]
set_option maxHeartbeats 4000000 in
set_option maxRecDepth 100000 in
theorem ajO {w : World} {g0 YE cap n : Nat} {x : Int} (hn0 : 0 < n) (hn : n ≤ 1048576) (hx : Fits x) (hc : w.cell? ⟨g0, YE, none⟩ = some (.int .i64 x)) :
 Calls Tryd.prog 70 #[.slice (some ⟨g0, YE, none⟩) 1 cap, .int .i64 n] w fun e w' => ∃ g, e = .returned (.slice (some ⟨g, 0, none⟩) n n) ∧ iP w' w.heap.size g n n (fun _ => x) ∧ Below w.heap.size w w' := by
 have HM := Lib.hid (adv n (by omega) w)
 have hmk := run_make_row' (P := Tryd.prog) 22 2 (.int .i64 0) 8 Tryd.underlying22 qH rfl .i64 .i64 n (by omega) (by omega)
 obtain ⟨w1, hw1⟩ : ∃ y, y = w.alloc (.cells (madeCells #[.int .i64 0] n) 2) := ⟨_, rfl⟩
 have HW1 := Lib.hid hw1
 have hg1 : w1.heap[w.heap.size]? = some (.cells (nH x n 0).toArray 2 (0, 0)) := by
  rw [hw1, heap_alloc_new, ajN]
  simp [nH]
 have hb1 : Below w.heap.size w w1 := by rw [hw1]; exact aA _ _
 have hc1 : w1.cell? ⟨g0, YE, none⟩ = some (.int .i64 x) := (hb1.cell (World.block_lt_of_cell? _ _ hc)).trans hc
 have HG1 := Lib.hid hg1
 have HB1 := Lib.hid hb1
 have Ai := Lib.hid hc1
 clear hw1 hg1 hb1 hc1 hc
 have hn1 : (0 : Int) ≤ (n : Int) := by omega
 go_enter Tryd.func70, Tryd.ntmps70
 go_wp2_with (first
  | (go_at_call 114; refine HM.out.mono ?_; rintro e w' ⟨rfl, rfl⟩)
  | (with_reducible refine wpList_copy_splice (o := ⟨some 33, _, _, _, _, _⟩) rfl (.tmp 31) (.tmp 32) 22 22 rfl 2 Tryd.underlying22 ?s1 _ _ _ _ _ _ rfl rfl w.heap.size 0 (nH x n 0) 2 ?s2 [.int .i64 x] ?s3 ?s4 ?s5 ?s6 w.heap.size w ?s7 ?s8 ?_))
 case s1 => kernel_rfl
 case s2 => rw [← HW1.out]; exact HG1.out
 case s3 => exact (Nat.min_eq_left hn0).symm
 case s4 =>
  intro j v hj
  cases j with
  | zero =>
    simp at hj
    subst hj
    rw [← HW1.out]
    exact Ai.out
  | succ j => simp at hj
 case s5 => rw [YD (Nat.zero_le _)]; simp; omega
 case s6 => intro v hv; simp at hv; subst hv; rfl
 case s7 => rw [← HW1.out]; exact HB1.out
 case s8 => exact Nat.le_refl _
 intro w2 HG2 hB2
 have HB2 := Lib.hid hB2
 have Gi : Hid (w2.heap[w.heap.size]? = some (.cells (nH x n 1).toArray 2 (0, 0))) := by
  have h := HG2.out
  rw [show [Value.int .i64 x] = List.replicate 1 (.int .i64 x) from rfl, adw (by omega)] at h
  exact h
 clear HG2 hB2
 go_wp2
 go_loopw [8] (fun kv wr => ∃ k : Nat, 1 ≤ k ∧ k ≤ n ∧ kv = .int .i64 k ∧ Hid (wr.heap[w.heap.size]? = some (.cells (nH x n k).toArray 2 (0, 0))) ∧ Hid (Below w.heap.size w wr)) (fun kv _ => n - (intOf kv).toNat)
 case atStart => exact ⟨1, Nat.le_refl _, hn0, rfl, Gi, HB2⟩
 case round =>
  clear Gi HB2
  obtain ⟨k, hk1, hk, rfl, HG, HB⟩ := hrel
  by_cases hlt : k < n
  · have hi1 : (k : Int) < n := by omega
    have hi0 : (0 : Int) ≤ k := by omega
    obtain ⟨m, hm⟩ : ∃ m, m = Nat.min k (n - k) := ⟨_, rfl⟩
    have HGd : Hid (wr.drew.heap[w.heap.size]? = some (.cells (nH x n k).toArray 2 (0, 0))) := ((Below.refl wr.heap.size wr).drew.block _ (Array.getElem?_eq_some_iff.1 HG.out).1).trans HG.out
    have HBd : Hid (Below w.heap.size w wr.drew) := HB.out.drew
    have HCS : Hid (∀ j v, (List.replicate m (Value.int .i64 x))[j]? = some v → wr.drew.cell? ((⟨w.heap.size, 0, none⟩ : Addr).add j) = some v) := fun j v hj => by
     rw [List.getElem?_replicate] at hj
     have hjm : j < m := by
      by_cases h : j < m
      · exact h
      · rw [if_neg h] at hj; cases hj
     rw [if_pos hjm] at hj
     cases hj
     rw [Addr.add_lit, Nat.zero_add]
     exact ajM HGd.out (by have h1 : k.min (n - k) ≤ k := Nat.min_le_left _ _; omega)
    have ady : Hid (k + (List.replicate m (Value.int .i64 x)).length ≤ (nH x n k).length) := by
     unfold Hid; rw [YD hk, List.length_replicate]
     have : m ≤ n - k := by rw [hm]; exact Nat.min_le_right _ _
     omega
    have pI : Hid (∀ v ∈ List.replicate m (Value.int .i64 x), v.oneCell' = true) := fun v hv => by
     rw [List.mem_replicate] at hv
     rw [hv.2]; rfl
    have HML : Hid ((List.replicate m (Value.int .i64 x)).length = Nat.min k (n - k)) := by unfold Hid; rw [List.length_replicate]; exact hm
    obtain ⟨cs, hcs⟩ : ∃ cs, cs = List.replicate m (Value.int .i64 x) := ⟨_, rfl⟩
    have ajP := Lib.hid hcs
    have hcl : cs.length = m := by rw [hcs, List.length_replicate]
    have hmn : m ≤ n - k := by rw [hm]; exact Nat.min_le_right _ _
    have hm1 : 1 ≤ m := by
     have h1 : Nat.min k (n - k) = min k (n - k) := rfl
     rw [hm, h1]; omega
    have XT := Lib.hid hcl
    rw [← hcs] at HCS ady pI HML
    clear hcs hm hcl
    have hne : ¬ n = k := by omega
    have hwr : IntKind.i64.wrap ((k : Int) + (m : Int)) = (k : Int) + (m : Int) := by rw [IntKind.wrap_i64]; omega
    go_wp2
    go_region_held3 (fun _ => True) (trivial) (first
     | (refine step_copy_splice (by rfl) (.tmp 41) (.tmp 44) 22 22 (by rfl) 2 Tryd.underlying22 (by kernel_rfl) _ _ _ _ _ _ (by rfl) (by rfl) w.heap.size k (nH x n k) 2 HGd.out cs HML.out (fun _ => ⟨by first | rfl | exact if_neg hne | exact if_pos hne, _, by rfl, HCS.out⟩) ady.out pI.out w.heap.size w HBd.out (Nat.le_refl _) ?_; intro w4 HG4 hB4))
    all_goals (
     have HG5 : Hid (w4.heap[w.heap.size]? = some (.cells (nH x n (k + m)).toArray 2 (0, 0))) := by
      have h := HG4.out
      rw [ajP.out, adw (by omega)] at h
      exact h
     have HB4 := Lib.hid hB4
     rw [XT.out]
     clear HG4 hB4
     go_wp2
     go_roundw
     case rel => exact ⟨k + m, by omega, by omega, by first | rfl | (rw [hwr]; go_num) | go_num, HG5, HB4⟩
     case measure => first | (simp [intOf, hwr]; omega) | (simp [intOf]; omega))
  · have hkk : k = n := by omega
    have hfin : Hid (iP wr w.heap.size w.heap.size n n (fun _ => x)) := by
     have h := HG.out
     rw [hkk] at h
     have hrow : wr.rowIs w.heap.size 2 (dZ n fun _ => x).length (fun i => .int .i64 (nth (dZ n fun _ => x) i)) := by
      rw [lK]
      refine ⟨_, h, by simp [YD], fun i hi => ?_⟩
      show _ = some (Value.int .i64 (nth (dZ n fun _ => x) i))
      rw [zK hi]
      simpa using adx (x := x) (n := n) hi
     have hl := (Array.getElem?_eq_some_iff.1 h).1
     have h2 := aF.xN (B := w.heap.size) (D := wr.heap.size) hrow (Nat.le_refl _) hl (by rw [lK]; omega) (fun j hj => by rw [lK] at hj; rw [zK hj]; exact hx)
     rw [lK] at h2
     exact h2
    go_wp2
    go_ret
    exact ⟨_, rfl, hfin.out, HB.out⟩
end Go.Proofs.YtglbkbiphcgidaaDoor
namespace Go.Proofs.YtglbkbiphcgidaaDoor
section
open Go.RowKit Go.Shelf
attribute [local go_sem] Oper.semAt_some
set_option maxHeartbeats 4000000 in
set_option maxRecDepth 100000 in
theorem ajQ {w : World} {g0 cap : Nat} {x : Int} (_hc : w.cell? ⟨g0, 0, none⟩ = some (.int .i64 x)) :
 Calls Tryd.prog 70 #[.slice (some ⟨g0, 0, none⟩) 1 cap, .int .i64 0] w fun e w' => ∃ g, e = .returned (.slice (some ⟨g, 0, none⟩) 0 0) ∧ Below w.heap.size w w' := by
 have hM := adv 0 (by omega) w
 have hmk := run_make_row' (P := Tryd.prog) 22 2 (.int .i64 0) 8 Tryd.underlying22 qH rfl .i64 .i64 0 (by omega) (by omega)
 have e0 : ((0 : Nat) : Int) = 0 := rfl
 rw [e0] at hM hmk
 have HM := Lib.hid hM
 clear hM e0
 go_enter Tryd.func70, Tryd.ntmps70
 go_wp2_with (first
  | (go_at_call 114; refine HM.out.mono ?_; rintro e w' ⟨rfl, rfl⟩)
  | (with_reducible refine wpList_copy_nothing (o := ⟨some 33, _, _, _, _, _⟩) rfl (.tmp 31) (.tmp 32) 22 22 rfl 2 Tryd.underlying22 ?s1 _ _ _ _ _ _ rfl rfl ?s2 ?_))
 case s1 => kernel_rfl
 case s2 => rfl
 go_wp2
 go_loopw [8] (fun kv wr => kv = .int .i64 0 ∧ Hid (Below w.heap.size w wr)) (fun _ _ => 0)
 case atStart => exact ⟨rfl, aA _ _⟩
 case round =>
  obtain ⟨rfl, HB⟩ := hrel
  go_wp2
  go_ret
  exact ⟨_, rfl, HB.out⟩
theorem ajR {x : Int} (n : Nat) : dZ n (fun _ => x) = List.replicate n x := by simp [dZ, List.map_const']
theorem YF {w : World} {g0 cap n : Nat} (hn : n ≤ 1048576) (hc : w.cell? ⟨g0, 0, none⟩ = some (.int .i64 (-1))) :
 Calls Tryd.prog 70 #[.slice (some ⟨g0, 0, none⟩) 1 cap, .int .i64 n] w fun e w' => ∃ g, e = .returned (.slice (some ⟨g, 0, none⟩) n n) ∧ aV w' (some ⟨g, 0, none⟩) (List.replicate n (-1)) ∧ Below w.heap.size w w' := by
 by_cases h : 0 < n
 · refine (ajO h hn (by unfold Fits; omega) hc).mono ?_
   rintro e w' ⟨g, rfl, ho, hb⟩
   unfold iP at ho
   rw [ajR] at ho
   exact ⟨g, rfl, X6 ho, hb⟩
 · obtain rfl : n = 0 := by omega
   refine (ajQ hc).mono ?_
   rintro e w' ⟨g, rfl, hb⟩
   exact ⟨g, rfl, ⟨by simp, fun k hk => absurd hk (by simp), fun h => absurd h (by simp)⟩, hb⟩
theorem ajS {O P X Y : List Int} {ah : List (List Int)} (hr : rU O ah P = X ∧ rV O ah P = Y) : ∃ r, oH O ah P (List.replicate O.length (-1)) = X ∧ oI O ah P (List.replicate O.length (-1)) = Y ∧ kT O ah P (List.replicate O.length (-1)) = r := by
 cases hp : fZ O ah P with
 | false =>
   have hk : jb O ah P (List.replicate O.length (-1)) = false := by unfold jb fO; rw [hp]; rfl
   have hg : kT O ah P (List.replicate O.length (-1)) = false := by unfold kT; rw [hk]; rfl
   obtain ⟨rfl, rfl⟩ := hr
   unfold rU rV oH oI
   rw [hp, hg]
   exact ⟨false, rfl, rfl, rfl⟩
 | true =>
   have hz : ah.length = O.length := (iY.1 hp).1.2.2.1
   have hg := aaS hp
   rw [hz] at hg
   have hy := NJ (O := O) (P := P) (ah := ah) (Pk := List.replicate O.length (-1)) ⟨rfl, rfl, rfl⟩ hg
   obtain ⟨rfl, rfl⟩ := hr
   unfold rU rV
   rw [if_pos hp, if_pos hp]
   refine ⟨true, hy.1, ?_, hy.2.2⟩
   rw [hy.2.1]
   unfold NG
   rw [hz]
set_option linter.unusedSimpArgs false in
set_option maxHeartbeats 16000000 in
set_option maxRecDepth 100000 in
theorem ajT {w : World} {v : Value} {O P X Y : List Int} {ah : List (List Int)} (hr : rU O ah P = X ∧ rV O ah P = Y) (h : gX w v O ah P) (hl : O.length ≤ 1048576) (hT : dS w) :
 Calls Tryd.prog 26 #[v] w (NQ w X Y) := by
 obtain ⟨rb, hrb⟩ := ajS hr
 have fP := Lib.hid h
 have HT := Lib.hid hT
 obtain ⟨ao, an, ap, co, cn, cp, A, C, rfl, h1, h2, h3⟩ := h
 have hln := h2.len
 obtain ⟨w1, hw1⟩ : ∃ y, y = (w.alloc (.cells #[.slice ao O.length co, .slice an ah.length cn, .slice ap P.length cp] 35)).alloc (.cells #[.slice none 0 0, .slice none 0 0] 30) := ⟨_, rfl⟩
 have HW1 := Lib.hid hw1
 have B1 : Hid (Below w.heap.size w w1) := by rw [hw1]; exact below2 _ _ _
 have hs1 : w.heap.size + 2 ≤ w1.heap.size := by rw [hw1]; simp
 have T1 : Hid (aT w1 w.heap.size 35 (.slice ao O.length co) (.slice an ah.length cn) (.slice ap P.length cp)) := by rw [hw1]; exact (aT.new w _ _ _ _).below (aA _ _)
 have R1 : Hid (aI w1 (w.heap.size + 1) 30 (.slice none 0 0) (.slice none 0 0)) := by
  rw [hw1]
  have h := aI.new (w.alloc (.cells #[.slice ao O.length co, .slice an ah.length cn, .slice ap P.length cp] 35)) 30 (.slice none 0 0) (.slice none 0 0)
  rw [World.size_alloc] at h
  exact h
 have kR : Hid (∀ (W : World) (a : Option Addr), Below w1.heap.size w1 W → aV W a (List.replicate O.length (-1)) → Calls Tryd.prog 17 #[.agg #[.slice ao O.length co, .slice an ah.length cn, .slice ap P.length cp], .slice a O.length O.length] W (Dv W X Y rb)) := fun W a hb hI => by
  have hb' := B1.out.trans (hb.mono B1.out.size)
  have h := acP (aK := a) O.length hrb (fP.out.below hb') hI (HT.out.below hb')
  rw [List.length_replicate] at h
  exact h
 clear hw1 h1 h2 h3 hr hrb hT
 go_enter Tryd.func26, Tryd.ntmps26
 go_wp2_with fail
 rw [← HW1.out]
 have aC : Hid (∀ W', Below w1.heap.size w1 W' → W'.cell? ⟨w.heap.size, 0, none⟩ = some (.slice ao O.length co) ∧ W'.cell? ⟨w.heap.size, 1, none⟩ = some (.slice an ah.length cn) ∧ W'.cell? ⟨w.heap.size, 2, none⟩ = some (.slice ap P.length cp)) := fun W' hb => ⟨(T1.out.below hb).c0, (T1.out.below hb).c1, (T1.out.below hb).c2⟩
 have Kd : Hid (Below w1.heap.size w1 w1.drew) := (Below.refl _ _).drew
 have hsd : w1.heap.size ≤ w1.drew.heap.size := Nat.le_refl _
 refine wp_cut (fun a' wx => ∃ (g : Nat) (vx vy : Value) (u4 u5 u6 u7 u8 u9 u10 u11 u12 u13 u14 u15 : Value), (w1.heap.size ≤ g ∧ Hid (Below w1.heap.size w1 wx) ∧ Hid (aF wx w1.heap.size wx.heap.size vx X) ∧ Hid (aF wx w1.heap.size wx.heap.size vy Y) ∧ Hid (∀ h, vx.ownBlock = some h → vy.ownBlock ≠ some h) ∧ Hid (aI wx g 30 vx vy)) ∧ a' = { tmps := #[.agg #[.slice ao O.length co, .slice an ah.length cn, .slice ap P.length cp], .pointer (some ⟨w.heap.size, 0, none⟩), .pointer (some ⟨w.heap.size + 1, 0, none⟩), .pointer (some ⟨g, 0, none⟩), u4, u5, u6, u7, u8, u9, u10, u11, u12, u13, u14, u15, undef], defers := [] }) ?reg ?rest
 case reg =>
  refine jB (S := (fun W' => W'.cell? ⟨w.heap.size, 0, none⟩ = some (.slice ao O.length co) ∧ W'.cell? ⟨w.heap.size, 1, none⟩ = some (.slice an ah.length cn) ∧ W'.cell? ⟨w.heap.size, 2, none⟩ = some (.slice ap P.length cp))) (m := 13) (by kernel_rfl) (aC.out _ Kd.out) (fun hHd => ?_)
  refine aB (i := 0) (v := ?rW) rfl (by kernel_rfl) (by decide) (by kernel_rfl) (by kernel_rfl) (by kernel_rfl) (fun _ _ _ h => h) (Or.inl ⟨by rfl, ?hm1⟩) (by assumption) ?_
  case hm1 => (intro w hSw; (try dsimp only at hSw); go_simp; first | done | with_reducible rfl)
  try simp only [Act.put, g1, g2, g3]
  refine aB (i := 2) (v := ?rZ) rfl (by kernel_rfl) (by decide) (by kernel_rfl) (by kernel_rfl) (by kernel_rfl) (fun _ _ _ h => h) (Or.inl ⟨by rfl, ?hm2⟩) (by assumption) ?_
  case hm2 => (intro w hSw; (try dsimp only at hSw); go_simp; first | done | with_reducible rfl)
  try simp only [Act.put, g1, g2, g3]
  refine aB (i := 3) (v := ?su) rfl (by kernel_rfl) (by decide) (by kernel_rfl) (by kernel_rfl) (by kernel_rfl) (fun _ _ _ h => h) (Or.inl ⟨by rfl, ?iR⟩) (by assumption) ?_
  case iR => (intro w hSw; (try dsimp only at hSw); go_simp; first | done | with_reducible rfl)
  try simp only [Act.put, g1, g2, g3]
  refine aB (i := 4) (v := ?uF) rfl (by kernel_rfl) (by decide) (by kernel_rfl) (by kernel_rfl) (by kernel_rfl) (fun _ _ _ h => h) (Or.inl ⟨by rfl, ?hm4⟩) (by assumption) ?_
  case hm4 => (intro w hSw; (try dsimp only at hSw); go_simp; first | done | with_reducible rfl)
  try simp only [Act.put, g1, g2, g3]
  refine aB (i := 5) (v := ?wW) rfl (by kernel_rfl) (by decide) (by kernel_rfl) (by kernel_rfl) (by kernel_rfl) (fun _ _ _ h => h) (Or.inl ⟨by rfl, ?jQ⟩) (by assumption) ?_
  case jQ => (intro w hSw; (try dsimp only at hSw); go_simp; first | done | with_reducible rfl)
  try simp only [Act.put, g1, g2, g3]
  refine jA (i := 1) (j := 11) (by kernel_rfl) rfl rfl (fun K hK => ?_) (fun K hK => ?_)
  · skip
    go_simp
    obtain ⟨W1, hW1⟩ : ∃ y, y = (w1.alloc (.cells #[.int .i64 (-1)] 2)).drew := ⟨_, rfl⟩
    rw [← hW1]
    have hb1 : Below (w1.drew).heap.size (w1.drew) W1 := by rw [hW1]; exact VT (aA w1 (.cells #[.int .i64 (-1)] 2))
    have f1 : Hid (W1.cell? ⟨w1.heap.size, 0, none⟩ = some (.int .i64 (-1))) := by rw [hW1]; exact (uD (w := w1) _ _ _ rfl).cell
    clear hW1
    have iU : Hid (Below w1.heap.size w1 W1) := Lib.hid (Kd.out.trans (hb1.mono Kd.out.size))
    have hs1 := hb1.size
    clear hb1
    refine hK.out _ _ (fun _ => aC.out _ iU.out) (fun hHd => ?_)
    have hHd := hHd (by decide)
    clear hK K
    try simp only [Act.put, g1, g2, g3]
    refine jA (i := 6) (j := 11) (by kernel_rfl) rfl rfl (fun K hK => ?_) (fun K hK => ?_)
    · skip
      go_simp
      go_at_call 70
      refine (YF hl f1.out).mono ?_
      rintro e W2 ⟨g2, rfl, f2, hb2⟩
      have f2 := Lib.hid f2
      have iq : Hid (Below w1.heap.size w1 W2) := Lib.hid (iU.out.trans (hb2.mono iU.out.size))
      have QI : Hid (W2.cell? ⟨w1.heap.size, 0, none⟩ = some (.int .i64 (-1))) := Lib.hid ((World.cell?_of_block (hb2.block _ (World.block_lt_of_cell? _ _ f1.out))).trans f1.out)
      have hs2 := hb2.size
      clear hb2
      go_wp2_with fail
      refine hK.out _ _ (fun _ => aC.out _ iq.out) (fun hHd => ?_)
      have hHd := hHd (by decide)
      clear hK K
      try simp only [Act.put, g1, g2, g3]
      refine jA (i := 7) (j := 11) (by kernel_rfl) rfl rfl (fun K hK => ?_) (fun K hK => ?_)
      · skip
        go_simp
        go_at_call 17
        refine (kR.out W2 _ iq.out f2.out).mono ?_
        rintro e W3 ⟨vx, vy, rfl, hx3, hy3, hxy, hb3⟩
        have qZ := Lib.hid hxy
        have f3 : Hid (aF W3 w1.heap.size W3.heap.size vx X ∧ aF W3 w1.heap.size W3.heap.size vy Y) := ⟨hx3.base iq.out.size, hy3.base iq.out.size⟩
        clear hxy hx3 hy3
        have lW : Hid (Below w1.heap.size w1 W3) := Lib.hid (iq.out.trans (hb3.mono iq.out.size))
        have adz : Hid (W3.cell? ⟨w1.heap.size, 0, none⟩ = some (.int .i64 (-1))) := Lib.hid ((World.cell?_of_block (hb3.block _ (World.block_lt_of_cell? _ _ QI.out))).trans QI.out)
        have ajU : Hid (aV W3 (some ⟨g2, 0, none⟩) (List.replicate O.length (-1))) := Lib.hid (f2.out.below hb3)
        have hs3 := hb3.size
        clear hb3
        go_wp2_with fail
        refine hK.out _ _ (fun _ => aC.out _ lW.out) (fun hHd => ?_)
        have hHd := hHd (by decide)
        clear hK K
        try simp only [Act.put, g1, g2, g3]
        refine aB (i := 8) (v := ?yF) rfl (by kernel_rfl) (by decide) (by kernel_rfl) (by kernel_rfl) (by kernel_rfl) (fun _ _ _ h => h) (Or.inl ⟨by rfl, ?kV⟩) (by assumption) ?_
        case kV => (intro w hSw; (try dsimp only at hSw); go_simp; first | done | with_reducible rfl)
        try simp only [Act.put, g1, g2, g3]
        refine aB (i := 9) (v := ?AX) rfl (by kernel_rfl) (by decide) (by kernel_rfl) (by kernel_rfl) (by kernel_rfl) (fun _ _ _ h => h) (Or.inl ⟨by rfl, ?mV⟩) (by assumption) ?_
        case mV => (intro w hSw; (try dsimp only at hSw); go_simp; first | done | with_reducible rfl)
        try simp only [Act.put, g1, g2, g3]
        refine aB (i := 10) (v := ?AZ) rfl (by kernel_rfl) (by decide) (by kernel_rfl) (by kernel_rfl) (by kernel_rfl) (fun _ _ _ h => h) (Or.inl ⟨by rfl, ?mW⟩) (by assumption) ?_
        case mW => (intro w hSw; (try dsimp only at hSw); go_simp; first | done | with_reducible rfl)
        try simp only [Act.put, g1, g2, g3]
        refine aG (i := 11) (by kernel_rfl) rfl (fun K hK => ?_)
        go_simp
        obtain ⟨W4, fG⟩ : ∃ y, y = (W3).alloc (.cells #[.slice none 0 0, .slice none 0 0] 30) := ⟨_, rfl⟩
        rw [← fG]
        have hb4 : Below (W3).heap.size (W3) W4 := by rw [fG]; exact aA _ _
        have f4 : Hid (aI W4 W3.heap.size 30 (.slice none 0 0) (.slice none 0 0)) := by rw [fG]; exact aI.new W3 _ _ _
        clear fG
        have pX : Hid (Below w1.heap.size w1 W4) := Lib.hid (lW.out.trans (hb4.mono lW.out.size))
        have ak6 : Hid (W4.cell? ⟨w1.heap.size, 0, none⟩ = some (.int .i64 (-1))) := Lib.hid ((World.cell?_of_block (hb4.block _ (World.block_lt_of_cell? _ _ adz.out))).trans adz.out)
        have ak7 : Hid (aV W4 (some ⟨g2, 0, none⟩) (List.replicate O.length (-1))) := Lib.hid (ajU.out.below hb4)
        have IL : Hid (aF W4 w1.heap.size W4.heap.size vx X ∧ aF W4 w1.heap.size W4.heap.size vy Y) := Lib.hid (⟨(f3.out.1.below hb4).bg, (f3.out.2.below hb4).bg⟩)
        have hs4 := hb4.size
        clear hb4
        refine hK.out _ _ (fun _ => aC.out _ pX.out) (fun hHd => ?_)
        have hHd := hHd (by decide)
        clear hK K
        try simp only [Act.put, g1, g2, g3]
        obtain ⟨xa, xc, rfl⟩ := IL.out.1.shape2
        obtain ⟨ya, yc, rfl⟩ := IL.out.2.shape2
        have y0 := f4.out.cell0
        have y1 := f4.out.cell1
        have z0 := f4.out.frozen 0
        have z1 := f4.out.frozen 1
        have ks := pX.out.size
        have ho : Only (fun h => h = W3.heap.size) W4 ((W4.setCell ⟨W3.heap.size, 0, none⟩ (.slice xa X.length xc)).setCell ⟨W3.heap.size, 1, none⟩ (.slice ya Y.length yc)) := ((Only.refl (fun h => h = W3.heap.size) W4).setCell (p := ⟨W3.heap.size, 0, none⟩) rfl _).setCell (p := ⟨W3.heap.size, 1, none⟩) rfl _
        have hgx : ∀ h, (Value.slice xa X.length xc).ownBlock = some h → h ≠ W3.heap.size := fun h hh e => (aI.dL f4.out IL.out.1.own (by decide)) (by rw [hh, e])
        have EL : ∀ h, (Value.slice ya Y.length yc).ownBlock = some h → h ≠ W3.heap.size := fun h hh e => (aI.dL f4.out IL.out.2.own (by decide)) (by rw [hh, e])
        have Kz : Hid (Below w1.heap.size w1 ((W4.setCell ⟨W3.heap.size, 0, none⟩ (.slice xa X.length xc)).setCell ⟨W3.heap.size, 1, none⟩ (.slice ya Y.length yc))) := ((Only.of_below (S := fun h => w1.heap.size ≤ h) pX.out).trans (ho.mono fun h hh => by omega)).below (Nat.le_refl _) (fun k h => h)
        have EM := Lib.hid (IL.out.1.only ho fun h hh e => hgx h hh e).bg
        have EN := Lib.hid (IL.out.2.only ho fun h hh e => EL h hh e).bg
        have EO : Hid (aI ((W4.setCell ⟨W3.heap.size, 0, none⟩ (.slice xa X.length xc)).setCell ⟨W3.heap.size, 1, none⟩ (.slice ya Y.length yc)) W3.heap.size 30 (.slice xa X.length xc) (.slice ya Y.length yc)) := (f4.out.set0 _).set1 _
        refine aG (i := 12) (by kernel_rfl) rfl (fun K hK => ?_)
        go_simp
        refine hK.out _ _ (fun _ => aC.out _ Kz.out) (fun hHd => ?_)
        have hHd := hHd (by decide)
        clear hK K
        try simp only [Act.put, g1, g2, g3]
        refine aG (i := 13) (by kernel_rfl) rfl (fun K hK => ?_)
        go_simp
        refine hK.out _ _ (fun h => absurd h (by decide)) (fun _ => ?_)
        clear hK K
        try simp only [Act.put, g1, g2, g3]
        refine dA (by kernel_rfl) ?_ _
        exact ⟨W3.heap.size, _, _, _, _, _, _, _, _, _, _, _, _, _, _, ⟨by omega, Kz, EM, EN, qZ, EO⟩, rfl⟩
      · skip
        go_simp
        obtain ⟨W5, uP⟩ : ∃ y, y = (W2).alloc (.cells #[.slice none 0 0, .slice none 0 0] 30) := ⟨_, rfl⟩
        rw [← uP]
        have hb5 : Below (W2).heap.size (W2) W5 := by rw [uP]; exact aA _ _
        have f5 : Hid (aI W5 W2.heap.size 30 (.slice none 0 0) (.slice none 0 0)) := by rw [uP]; exact aI.new W2 _ _ _
        clear uP
        have jR : Hid (Below w1.heap.size w1 W5) := Lib.hid (iq.out.trans (hb5.mono iq.out.size))
        have adA : Hid (W5.cell? ⟨w1.heap.size, 0, none⟩ = some (.int .i64 (-1))) := Lib.hid ((World.cell?_of_block (hb5.block _ (World.block_lt_of_cell? _ _ QI.out))).trans QI.out)
        have adB : Hid (aV W5 (some ⟨g2, 0, none⟩) (List.replicate O.length (-1))) := Lib.hid (f2.out.below hb5)
        have hs5 := hb5.size
        clear hb5
        refine hK.out _ _ (fun _ => aC.out _ jR.out) (fun hHd => ?_)
        have hHd := hHd (by decide)
        clear hK K
        try simp only [Act.put, g1, g2, g3]
        refine aG (i := 7) (by kernel_rfl) rfl (fun K hK => ?_)
        go_simp
        go_at_call 17
        refine (kR.out W5 _ jR.out adB.out).mono ?_
        rintro e W6 ⟨vx, vy, rfl, hx6, hy6, hxy, hb6⟩
        have qZ := Lib.hid hxy
        have f6 : Hid (aF W6 w1.heap.size W6.heap.size vx X ∧ aF W6 w1.heap.size W6.heap.size vy Y) := ⟨hx6.base jR.out.size, hy6.base jR.out.size⟩
        clear hxy hx6 hy6
        have wY : Hid (Below w1.heap.size w1 W6) := Lib.hid (jR.out.trans (hb6.mono jR.out.size))
        have ak8 : Hid (W6.cell? ⟨w1.heap.size, 0, none⟩ = some (.int .i64 (-1))) := Lib.hid ((World.cell?_of_block (hb6.block _ (World.block_lt_of_cell? _ _ adA.out))).trans adA.out)
        have ak9 : Hid (aV W6 (some ⟨g2, 0, none⟩) (List.replicate O.length (-1))) := Lib.hid (adB.out.below hb6)
        have EP : Hid (aI W6 W2.heap.size 30 (.slice none 0 0) (.slice none 0 0)) := Lib.hid (f5.out.below hb6)
        have hs6 := hb6.size
        clear hb6
        go_wp2_with fail
        refine hK.out _ _ (fun _ => aC.out _ wY.out) (fun hHd => ?_)
        have hHd := hHd (by decide)
        clear hK K
        try simp only [Act.put, g1, g2, g3]
        refine aB (i := 8) (v := ?Bg) rfl (by kernel_rfl) (by decide) (by kernel_rfl) (by kernel_rfl) (by kernel_rfl) (fun _ _ _ h => h) (Or.inl ⟨by rfl, ?mX⟩) (by assumption) ?_
        case mX => (intro w hSw; (try dsimp only at hSw); go_simp; first | done | with_reducible rfl)
        try simp only [Act.put, g1, g2, g3]
        refine aB (i := 9) (v := ?Bj) rfl (by kernel_rfl) (by decide) (by kernel_rfl) (by kernel_rfl) (by kernel_rfl) (fun _ _ _ h => h) (Or.inl ⟨by rfl, ?mY⟩) (by assumption) ?_
        case mY => (intro w hSw; (try dsimp only at hSw); go_simp; first | done | with_reducible rfl)
        try simp only [Act.put, g1, g2, g3]
        refine aB (i := 10) (v := ?Bo) rfl (by kernel_rfl) (by decide) (by kernel_rfl) (by kernel_rfl) (by kernel_rfl) (fun _ _ _ h => h) (Or.inl ⟨by rfl, ?mZ⟩) (by assumption) ?_
        case mZ => (intro w hSw; (try dsimp only at hSw); go_simp; first | done | with_reducible rfl)
        try simp only [Act.put, g1, g2, g3]
        obtain ⟨xa, xc, rfl⟩ := f6.out.1.shape2
        obtain ⟨ya, yc, rfl⟩ := f6.out.2.shape2
        have y0 := EP.out.cell0
        have y1 := EP.out.cell1
        have z0 := EP.out.frozen 0
        have z1 := EP.out.frozen 1
        have ks := wY.out.size
        have ho : Only (fun h => h = W2.heap.size) W6 ((W6.setCell ⟨W2.heap.size, 0, none⟩ (.slice xa X.length xc)).setCell ⟨W2.heap.size, 1, none⟩ (.slice ya Y.length yc)) := ((Only.refl (fun h => h = W2.heap.size) W6).setCell (p := ⟨W2.heap.size, 0, none⟩) rfl _).setCell (p := ⟨W2.heap.size, 1, none⟩) rfl _
        have hgx : ∀ h, (Value.slice xa X.length xc).ownBlock = some h → h ≠ W2.heap.size := fun h hh e => (aI.dL EP.out f6.out.1.own (by decide)) (by rw [hh, e])
        have EL : ∀ h, (Value.slice ya Y.length yc).ownBlock = some h → h ≠ W2.heap.size := fun h hh e => (aI.dL EP.out f6.out.2.own (by decide)) (by rw [hh, e])
        have Kz : Hid (Below w1.heap.size w1 ((W6.setCell ⟨W2.heap.size, 0, none⟩ (.slice xa X.length xc)).setCell ⟨W2.heap.size, 1, none⟩ (.slice ya Y.length yc))) := ((Only.of_below (S := fun h => w1.heap.size ≤ h) wY.out).trans (ho.mono fun h hh => by omega)).below (Nat.le_refl _) (fun k h => h)
        have EM := Lib.hid (f6.out.1.only ho fun h hh e => hgx h hh e).bg
        have EN := Lib.hid (f6.out.2.only ho fun h hh e => EL h hh e).bg
        have EO : Hid (aI ((W6.setCell ⟨W2.heap.size, 0, none⟩ (.slice xa X.length xc)).setCell ⟨W2.heap.size, 1, none⟩ (.slice ya Y.length yc)) W2.heap.size 30 (.slice xa X.length xc) (.slice ya Y.length yc)) := (EP.out.set0 _).set1 _
        refine aG (i := 12) (by kernel_rfl) rfl (fun K hK => ?_)
        go_simp
        refine hK.out _ _ (fun _ => aC.out _ Kz.out) (fun hHd => ?_)
        have hHd := hHd (by decide)
        clear hK K
        try simp only [Act.put, g1, g2, g3]
        refine aG (i := 13) (by kernel_rfl) rfl (fun K hK => ?_)
        go_simp
        refine hK.out _ _ (fun h => absurd h (by decide)) (fun _ => ?_)
        clear hK K
        try simp only [Act.put, g1, g2, g3]
        refine dA (by kernel_rfl) ?_ _
        exact ⟨W2.heap.size, _, _, _, _, _, _, _, _, _, _, _, _, _, _, ⟨by omega, Kz, EM, EN, qZ, EO⟩, rfl⟩
    · skip
      go_simp
      obtain ⟨W7, uQ⟩ : ∃ y, y = (W1).alloc (.cells #[.slice none 0 0, .slice none 0 0] 30) := ⟨_, rfl⟩
      rw [← uQ]
      have hb7 : Below (W1).heap.size (W1) W7 := by rw [uQ]; exact aA _ _
      have f7 : Hid (aI W7 W1.heap.size 30 (.slice none 0 0) (.slice none 0 0)) := by rw [uQ]; exact aI.new W1 _ _ _
      clear uQ
      have pY : Hid (Below w1.heap.size w1 W7) := Lib.hid (iU.out.trans (hb7.mono iU.out.size))
      have YG : Hid (W7.cell? ⟨w1.heap.size, 0, none⟩ = some (.int .i64 (-1))) := Lib.hid ((World.cell?_of_block (hb7.block _ (World.block_lt_of_cell? _ _ f1.out))).trans f1.out)
      have hs7 := hb7.size
      clear hb7
      refine hK.out _ _ (fun _ => aC.out _ pY.out) (fun hHd => ?_)
      have hHd := hHd (by decide)
      clear hK K
      try simp only [Act.put, g1, g2, g3]
      refine aG (i := 6) (by kernel_rfl) rfl (fun K hK => ?_)
      go_simp
      go_at_call 70
      refine (YF hl YG.out).mono ?_
      rintro e W8 ⟨g8, rfl, f8, hb8⟩
      have f8 := Lib.hid f8
      have jS : Hid (Below w1.heap.size w1 W8) := Lib.hid (pY.out.trans (hb8.mono pY.out.size))
      have adC : Hid (W8.cell? ⟨w1.heap.size, 0, none⟩ = some (.int .i64 (-1))) := Lib.hid ((World.cell?_of_block (hb8.block _ (World.block_lt_of_cell? _ _ YG.out))).trans YG.out)
      have ajV : Hid (aI W8 W1.heap.size 30 (.slice none 0 0) (.slice none 0 0)) := Lib.hid (f7.out.below hb8)
      have hs8 := hb8.size
      clear hb8
      go_wp2_with fail
      refine hK.out _ _ (fun _ => aC.out _ jS.out) (fun hHd => ?_)
      have hHd := hHd (by decide)
      clear hK K
      try simp only [Act.put, g1, g2, g3]
      refine aG (i := 7) (by kernel_rfl) rfl (fun K hK => ?_)
      go_simp
      go_at_call 17
      refine (kR.out W8 _ jS.out f8.out).mono ?_
      rintro e W9 ⟨vx, vy, rfl, hx9, hy9, hxy, Di⟩
      have qZ := Lib.hid hxy
      have f9 : Hid (aF W9 w1.heap.size W9.heap.size vx X ∧ aF W9 w1.heap.size W9.heap.size vy Y) := ⟨hx9.base jS.out.size, hy9.base jS.out.size⟩
      clear hxy hx9 hy9
      have wZ : Hid (Below w1.heap.size w1 W9) := Lib.hid (jS.out.trans (Di.mono jS.out.size))
      have ala : Hid (W9.cell? ⟨w1.heap.size, 0, none⟩ = some (.int .i64 (-1))) := Lib.hid ((World.cell?_of_block (Di.block _ (World.block_lt_of_cell? _ _ adC.out))).trans adC.out)
      have ER : Hid (aI W9 W1.heap.size 30 (.slice none 0 0) (.slice none 0 0)) := Lib.hid (ajV.out.below Di)
      have alb : Hid (aV W9 (some ⟨g8, 0, none⟩) (List.replicate O.length (-1))) := Lib.hid (f8.out.below Di)
      have hs9 := Di.size
      clear Di
      go_wp2_with fail
      refine hK.out _ _ (fun _ => aC.out _ wZ.out) (fun hHd => ?_)
      have hHd := hHd (by decide)
      clear hK K
      try simp only [Act.put, g1, g2, g3]
      refine aB (i := 8) (v := ?Bq) rfl (by kernel_rfl) (by decide) (by kernel_rfl) (by kernel_rfl) (by kernel_rfl) (fun _ _ _ h => h) (Or.inl ⟨by rfl, ?ng⟩) (by assumption) ?_
      case ng => (intro w hSw; (try dsimp only at hSw); go_simp; first | done | with_reducible rfl)
      try simp only [Act.put, g1, g2, g3]
      refine aB (i := 9) (v := ?BA) rfl (by kernel_rfl) (by decide) (by kernel_rfl) (by kernel_rfl) (by kernel_rfl) (fun _ _ _ h => h) (Or.inl ⟨by rfl, ?ni⟩) (by assumption) ?_
      case ni => (intro w hSw; (try dsimp only at hSw); go_simp; first | done | with_reducible rfl)
      try simp only [Act.put, g1, g2, g3]
      refine aB (i := 10) (v := ?BD) rfl (by kernel_rfl) (by decide) (by kernel_rfl) (by kernel_rfl) (by kernel_rfl) (fun _ _ _ h => h) (Or.inl ⟨by rfl, ?ny⟩) (by assumption) ?_
      case ny => (intro w hSw; (try dsimp only at hSw); go_simp; first | done | with_reducible rfl)
      try simp only [Act.put, g1, g2, g3]
      obtain ⟨xa, xc, rfl⟩ := f9.out.1.shape2
      obtain ⟨ya, yc, rfl⟩ := f9.out.2.shape2
      have y0 := ER.out.cell0
      have y1 := ER.out.cell1
      have z0 := ER.out.frozen 0
      have z1 := ER.out.frozen 1
      have ks := wZ.out.size
      have ho : Only (fun h => h = W1.heap.size) W9 ((W9.setCell ⟨W1.heap.size, 0, none⟩ (.slice xa X.length xc)).setCell ⟨W1.heap.size, 1, none⟩ (.slice ya Y.length yc)) := ((Only.refl (fun h => h = W1.heap.size) W9).setCell (p := ⟨W1.heap.size, 0, none⟩) rfl _).setCell (p := ⟨W1.heap.size, 1, none⟩) rfl _
      have hgx : ∀ h, (Value.slice xa X.length xc).ownBlock = some h → h ≠ W1.heap.size := fun h hh e => (aI.dL ER.out f9.out.1.own (by decide)) (by rw [hh, e])
      have EL : ∀ h, (Value.slice ya Y.length yc).ownBlock = some h → h ≠ W1.heap.size := fun h hh e => (aI.dL ER.out f9.out.2.own (by decide)) (by rw [hh, e])
      have Kz : Hid (Below w1.heap.size w1 ((W9.setCell ⟨W1.heap.size, 0, none⟩ (.slice xa X.length xc)).setCell ⟨W1.heap.size, 1, none⟩ (.slice ya Y.length yc))) := ((Only.of_below (S := fun h => w1.heap.size ≤ h) wZ.out).trans (ho.mono fun h hh => by omega)).below (Nat.le_refl _) (fun k h => h)
      have EM := Lib.hid (f9.out.1.only ho fun h hh e => hgx h hh e).bg
      have EN := Lib.hid (f9.out.2.only ho fun h hh e => EL h hh e).bg
      have EO : Hid (aI ((W9.setCell ⟨W1.heap.size, 0, none⟩ (.slice xa X.length xc)).setCell ⟨W1.heap.size, 1, none⟩ (.slice ya Y.length yc)) W1.heap.size 30 (.slice xa X.length xc) (.slice ya Y.length yc)) := (ER.out.set0 _).set1 _
      refine aG (i := 12) (by kernel_rfl) rfl (fun K hK => ?_)
      go_simp
      refine hK.out _ _ (fun _ => aC.out _ Kz.out) (fun hHd => ?_)
      have hHd := hHd (by decide)
      clear hK K
      try simp only [Act.put, g1, g2, g3]
      refine aG (i := 13) (by kernel_rfl) rfl (fun K hK => ?_)
      go_simp
      refine hK.out _ _ (fun h => absurd h (by decide)) (fun _ => ?_)
      clear hK K
      try simp only [Act.put, g1, g2, g3]
      refine dA (by kernel_rfl) ?_ _
      exact ⟨W1.heap.size, _, _, _, _, _, _, _, _, _, _, _, _, _, _, ⟨by omega, Kz, EM, EN, qZ, EO⟩, rfl⟩
  · skip
    go_simp
    obtain ⟨kF, uS⟩ : ∃ y, y = (w1.alloc (.cells #[.slice none 0 0, .slice none 0 0] 30)).drew := ⟨_, rfl⟩
    rw [← uS]
    have Eh : Below (w1.drew).heap.size (w1.drew) kF := by rw [uS]; exact VT (aA w1 (.cells #[.slice none 0 0, .slice none 0 0] 30))
    have f10 : Hid (aI kF w1.heap.size 30 (.slice none 0 0) (.slice none 0 0)) := by rw [uS]; exact aI.new w1 _ _ _
    clear uS
    have lX : Hid (Below w1.heap.size w1 kF) := Lib.hid (Kd.out.trans (Eh.mono Kd.out.size))
    have hs10 := Eh.size
    clear Eh
    refine hK.out _ _ (fun _ => aC.out _ lX.out) (fun hHd => ?_)
    have hHd := hHd (by decide)
    clear hK K
    try simp only [Act.put, g1, g2, g3]
    refine aG (i := 1) (by kernel_rfl) rfl (fun K hK => ?_)
    go_simp
    obtain ⟨lD, BU⟩ : ∃ y, y = (kF).alloc (.cells #[.int .i64 (-1)] 2) := ⟨_, rfl⟩
    rw [← BU]
    have y7 : Below (kF).heap.size (kF) lD := by rw [BU]; exact aA _ _
    have f11 : Hid (lD.cell? ⟨kF.heap.size, 0, none⟩ = some (.int .i64 (-1))) := by rw [BU]; exact (uD (w := kF) _ _ _ rfl).cell
    clear BU
    have qh : Hid (Below w1.heap.size w1 lD) := Lib.hid (lX.out.trans (y7.mono lX.out.size))
    have ajW : Hid (aI lD w1.heap.size 30 (.slice none 0 0) (.slice none 0 0)) := Lib.hid (f10.out.below y7)
    have hs11 := y7.size
    clear y7
    refine hK.out _ _ (fun _ => aC.out _ qh.out) (fun hHd => ?_)
    have hHd := hHd (by decide)
    clear hK K
    try simp only [Act.put, g1, g2, g3]
    refine aG (i := 6) (by kernel_rfl) rfl (fun K hK => ?_)
    go_simp
    go_at_call 70
    refine (YF hl f11.out).mono ?_
    rintro e nX ⟨g12, rfl, f12, xC⟩
    have f12 := Lib.hid f12
    have jT : Hid (Below w1.heap.size w1 nX) := Lib.hid (qh.out.trans (xC.mono qh.out.size))
    have ajX : Hid (aI nX w1.heap.size 30 (.slice none 0 0) (.slice none 0 0)) := Lib.hid (ajW.out.below xC)
    have adD : Hid (nX.cell? ⟨kF.heap.size, 0, none⟩ = some (.int .i64 (-1))) := Lib.hid ((World.cell?_of_block (xC.block _ (World.block_lt_of_cell? _ _ f11.out))).trans f11.out)
    have X7 := xC.size
    clear xC
    go_wp2_with fail
    refine hK.out _ _ (fun _ => aC.out _ jT.out) (fun hHd => ?_)
    have hHd := hHd (by decide)
    clear hK K
    try simp only [Act.put, g1, g2, g3]
    refine aG (i := 7) (by kernel_rfl) rfl (fun K hK => ?_)
    go_simp
    go_at_call 17
    refine (kR.out nX _ jT.out f12.out).mono ?_
    rintro e rE ⟨vx, vy, rfl, adE, adF, hxy, IQ⟩
    have qZ := Lib.hid hxy
    have f13 : Hid (aF rE w1.heap.size rE.heap.size vx X ∧ aF rE w1.heap.size rE.heap.size vy Y) := ⟨adE.base jT.out.size, adF.base jT.out.size⟩
    clear hxy adE adF
    have xg : Hid (Below w1.heap.size w1 rE) := Lib.hid (jT.out.trans (IQ.mono jT.out.size))
    have ES : Hid (aI rE w1.heap.size 30 (.slice none 0 0) (.slice none 0 0)) := Lib.hid (ajX.out.below IQ)
    have alc : Hid (rE.cell? ⟨kF.heap.size, 0, none⟩ = some (.int .i64 (-1))) := Lib.hid ((World.cell?_of_block (IQ.block _ (World.block_lt_of_cell? _ _ adD.out))).trans adD.out)
    have ald : Hid (aV rE (some ⟨g12, 0, none⟩) (List.replicate O.length (-1))) := Lib.hid (f12.out.below IQ)
    have aaR := IQ.size
    clear IQ
    go_wp2_with fail
    refine hK.out _ _ (fun _ => aC.out _ xg.out) (fun hHd => ?_)
    have hHd := hHd (by decide)
    clear hK K
    try simp only [Act.put, g1, g2, g3]
    refine aB (i := 8) (v := ?BH) rfl (by kernel_rfl) (by decide) (by kernel_rfl) (by kernel_rfl) (by kernel_rfl) (fun _ _ _ h => h) (Or.inl ⟨by rfl, ?nC⟩) (by assumption) ?_
    case nC => (intro w hSw; (try dsimp only at hSw); go_simp; first | done | with_reducible rfl)
    try simp only [Act.put, g1, g2, g3]
    refine aB (i := 9) (v := ?DL) rfl (by kernel_rfl) (by decide) (by kernel_rfl) (by kernel_rfl) (by kernel_rfl) (fun _ _ _ h => h) (Or.inl ⟨by rfl, ?nN⟩) (by assumption) ?_
    case nN => (intro w hSw; (try dsimp only at hSw); go_simp; first | done | with_reducible rfl)
    try simp only [Act.put, g1, g2, g3]
    refine aB (i := 10) (v := ?GR) rfl (by kernel_rfl) (by decide) (by kernel_rfl) (by kernel_rfl) (by kernel_rfl) (fun _ _ _ h => h) (Or.inl ⟨by rfl, ?qX⟩) (by assumption) ?_
    case qX => (intro w hSw; (try dsimp only at hSw); go_simp; first | done | with_reducible rfl)
    try simp only [Act.put, g1, g2, g3]
    obtain ⟨xa, xc, rfl⟩ := f13.out.1.shape2
    obtain ⟨ya, yc, rfl⟩ := f13.out.2.shape2
    have y0 := ES.out.cell0
    have y1 := ES.out.cell1
    have z0 := ES.out.frozen 0
    have z1 := ES.out.frozen 1
    have ks := xg.out.size
    have ho : Only (fun h => h = w1.heap.size) rE ((rE.setCell ⟨w1.heap.size, 0, none⟩ (.slice xa X.length xc)).setCell ⟨w1.heap.size, 1, none⟩ (.slice ya Y.length yc)) := ((Only.refl (fun h => h = w1.heap.size) rE).setCell (p := ⟨w1.heap.size, 0, none⟩) rfl _).setCell (p := ⟨w1.heap.size, 1, none⟩) rfl _
    have hgx : ∀ h, (Value.slice xa X.length xc).ownBlock = some h → h ≠ w1.heap.size := fun h hh e => (aI.dL ES.out f13.out.1.own (by decide)) (by rw [hh, e])
    have EL : ∀ h, (Value.slice ya Y.length yc).ownBlock = some h → h ≠ w1.heap.size := fun h hh e => (aI.dL ES.out f13.out.2.own (by decide)) (by rw [hh, e])
    have Kz : Hid (Below w1.heap.size w1 ((rE.setCell ⟨w1.heap.size, 0, none⟩ (.slice xa X.length xc)).setCell ⟨w1.heap.size, 1, none⟩ (.slice ya Y.length yc))) := ((Only.of_below (S := fun h => w1.heap.size ≤ h) xg.out).trans (ho.mono fun h hh => by omega)).below (Nat.le_refl _) (fun k h => h)
    have EM := Lib.hid (f13.out.1.only ho fun h hh e => hgx h hh e).bg
    have EN := Lib.hid (f13.out.2.only ho fun h hh e => EL h hh e).bg
    have EO : Hid (aI ((rE.setCell ⟨w1.heap.size, 0, none⟩ (.slice xa X.length xc)).setCell ⟨w1.heap.size, 1, none⟩ (.slice ya Y.length yc)) w1.heap.size 30 (.slice xa X.length xc) (.slice ya Y.length yc)) := (ES.out.set0 _).set1 _
    refine aG (i := 12) (by kernel_rfl) rfl (fun K hK => ?_)
    go_simp
    refine hK.out _ _ (fun _ => aC.out _ Kz.out) (fun hHd => ?_)
    have hHd := hHd (by decide)
    clear hK K
    try simp only [Act.put, g1, g2, g3]
    refine aG (i := 13) (by kernel_rfl) rfl (fun K hK => ?_)
    go_simp
    refine hK.out _ _ (fun h => absurd h (by decide)) (fun _ => ?_)
    clear hK K
    try simp only [Act.put, g1, g2, g3]
    refine dA (by kernel_rfl) ?_ _
    exact ⟨w1.heap.size, _, _, _, _, _, _, _, _, _, _, _, _, _, _, ⟨by omega, Kz, EM, EN, qZ, EO⟩, rfl⟩
 case rest =>
  rintro a' wx ⟨g, vx, vy, u4, u5, u6, u7, u8, u9, u10, u11, u12, u13, u14, u15, ⟨hg, Bx, HX, HY, qZ, HB⟩, rfl⟩
  obtain ⟨xa, xc, rfl⟩ := HX.out.shape2
  obtain ⟨ya, yc, rfl⟩ := HY.out.shape2
  have a0 := HB.out.cell0
  have a1 := HB.out.cell1
  have RW := Lib.hid (R1.out.below Bx.out)
  have d0 := RW.out.cell0
  have d1 := RW.out.cell1
  have g0 := RW.out.frozen 0
  have g1 := RW.out.frozen 1
  have Bw := Lib.hid (B1.out.trans (Bx.out.mono B1.out.size))
  have hfin : Hid (∀ A B : Value, aF ((wx.setCell ⟨w.heap.size + 1, 0, none⟩ A).setCell ⟨w.heap.size + 1, 1, none⟩ B) w.heap.size ((wx.setCell ⟨w.heap.size + 1, 0, none⟩ A).setCell ⟨w.heap.size + 1, 1, none⟩ B).heap.size (.slice xa X.length xc) X ∧ aF ((wx.setCell ⟨w.heap.size + 1, 0, none⟩ A).setCell ⟨w.heap.size + 1, 1, none⟩ B) w.heap.size ((wx.setCell ⟨w.heap.size + 1, 0, none⟩ A).setCell ⟨w.heap.size + 1, 1, none⟩ B).heap.size (.slice ya Y.length yc) Y ∧ Below w.heap.size w ((wx.setCell ⟨w.heap.size + 1, 0, none⟩ A).setCell ⟨w.heap.size + 1, 1, none⟩ B)) := fun A B => by
   have ho : Only (fun g => g = w.heap.size + 1) wx ((wx.setCell ⟨w.heap.size + 1, 0, none⟩ A).setCell ⟨w.heap.size + 1, 1, none⟩ B) := ((Only.refl (fun g => g = w.heap.size + 1) wx).setCell (p := ⟨w.heap.size + 1, 0, none⟩) rfl _).setCell (p := ⟨w.heap.size + 1, 1, none⟩) rfl _
   refine ⟨((HX.out.only ho fun g hg e => by have := (HX.out.own.lt g hg).1; omega).bg).base (by omega), ((HY.out.only ho fun g hg e => by have := (HY.out.own.lt g hg).1; omega).bg).base (by omega), ?_⟩
   exact ((Only.of_below (S := fun g => w.heap.size ≤ g) Bw.out).trans (ho.mono fun g hg => by omega)).below (Nat.le_refl _) (fun k h => h)
  go_wp2
  exact bodyPost_ret (v := .agg #[(.slice xa X.length xc), (.slice ya Y.length yc)]) (by simp [results, Tryd.results26, go_sem, d0, d1]) rfl
   ⟨_, _, rfl, (hfin.out _ _).1, (hfin.out _ _).2.1, qZ.out, (hfin.out _ _).2.2⟩
end
end Go.Proofs.YtglbkbiphcgidaaDoor
namespace Go.Proofs.YtglbkbiphcgidaaDoor
section
open Go.RowKit Go.Shelf
theorem adG {w : World} {X Y : List Int} {e : Ending} {w' : World} (h : NQ w X Y e w') : TY w X Y e w' := by
 obtain ⟨vx, vy, he, h1, h2, h3, hb⟩ := h
 exact ⟨_, he, ⟨vx, vy, rfl, h1, h2, h3⟩, hb⟩
theorem ajY {w : World} {v : Value} {O P X Y : List Int} {ah : List (List Int)} (hr : rU O ah P = X ∧ rV O ah P = Y) (h : gX w v O ah P) :
 Calls Tryd.prog 25 #[v] w (TY w X Y) := (agS hr h).mono fun _ _ h => adG h
theorem adH {w : World} {v : Value} {O P X Y : List Int} {ah : List (List Int)} (hl : O.length ≤ 1048576) (hT : dS w) (hr : rU O ah P = X ∧ rV O ah P = Y) (h : gX w v O ah P) :
 Calls Tryd.prog 26 #[v] w (TY w X Y) := (ajT hr h hl hT).mono fun _ _ h => adG h
theorem ajZ {O P : List Int} {ah : List (List Int)} : sK (rU O ah P) (rV O ah P) ≤ 1048576 := by
 unfold rU rV
 cases hp : fZ O ah P with
 | false => simp [sK]
 | true =>
   have hA := (iY.1 hp).1
   have h1 := hA.2.1
   have h2 := hA.2.2.1
   simp only [if_true, sK, yh, NG, wU, List.length_replicate]
   omega
end
end Go.Proofs.YtglbkbiphcgidaaDoor
namespace Go.Proofs.YtglbkbiphcgidaaDoor
open Go.RowKit
set_option maxHeartbeats 16000000 in
set_option maxRecDepth 100000 in
theorem aj0 {w : World} {v0 : Value} {O0 : List Int} {z0 : List (List Int)} {P0 : List Int} (h0 : gX w v0 O0 z0 P0) (hE : dS w) :
 Calls Tryd.prog 4 #[v0] w fun e w' => e = .returned (.bool true) ∧ Below w.heap.size w w' := by
 have HE := Lib.hid hE
 clear hE
 have H0 := Lib.hid h0
 obtain ⟨vJ, vK, vM, vN, vO, vP, A0, C0, rfl, q0, q1, q2⟩ := h0
 clear q0 q1 q2
 obtain ⟨w1, hw1⟩ : ∃ y, y = (w.alloc (.cells #[.slice vJ O0.length vN, .slice vK z0.length vO, .slice vM P0.length vP] 27)) := ⟨_, rfl⟩
 have HW1 := Lib.hid hw1
 have B1 : Hid (Below w.heap.size w w1) := by rw [hw1]; exact aA _ _
 have b0 : Hid (aT w1 (w.heap.size) 27 (.slice vJ O0.length vN) (.slice vK z0.length vO) (.slice vM P0.length vP)) := by rw [hw1]; exact aT.xJ (by simp) _ _ _ _ 
 have K1 : Hid (Keep [w1, w] w1) := ⟨Below.refl _ _, B1.out, trivial⟩
 clear hw1
 by_cases hs0 : (1048576 : Int) < (jK O0 z0 P0 : Int)
 · skip
   have Yl : Hid (∀ W, Below w.heap.size w W → Calls Tryd.prog 13 #[.agg #[.slice vJ O0.length vN, .slice vK z0.length vO, .slice vM P0.length vP], .int .i64 (1048576 : Int)] W fun e w' => e = .returned (.int .i64 (-1)) ∧ Below W.heap.size W w') := fun W hb => MR (sU hs0) (H0.out.below hb) (by omega) (by omega)
   clear hs0
   go_enter Tryd.func4, Tryd.ntmps4
   go_wp2_with fail
   rw [← HW1.out]
   refine (Yl.out _ K1.out.2.1).mono ?_
   rintro e w2 ⟨rfl, hb⟩
   have nG : Hid (Keep [w1, w] w2) := K1.out.step hb
   clear K1
   clear hb
   go_wp2
   go_ret
   exact ⟨rfl, nG.out.2.1⟩
 have hle0 : (jK O0 z0 P0 : Int) ≤ (1048576 : Int) := by omega
 obtain ⟨m0, hm0⟩ : ∃ m, leftOf (1048576 : Int) (jK O0 z0 P0) = m := ⟨_, rfl⟩
 have Yo : m0 = (1048576 : Int) - (jK O0 z0 P0 : Int) := by rw [← hm0]; exact zH hle0
 have ai6 : 0 ≤ m0 := by omega
 have ai7 : m0 ≤ 1048576 := by omega
 have zq : Hid (jK O0 z0 P0 ≤ 1048576) := by simp only [Hid]; omega
 have FX : Hid (∀ W, Below w.heap.size w W → Calls Tryd.prog 13 #[.agg #[.slice vJ O0.length vN, .slice vK z0.length vO, .slice vM P0.length vP], .int .i64 (1048576 : Int)] W fun e w' => e = .returned (.int .i64 m0) ∧ Below W.heap.size W w') := fun W hb => MR hm0 (H0.out.below hb) (by omega) (by omega)
 have hn0 : z0.length ≤ 1048576 := by have := zq.out; unfold jK at this; (try unfold jq at this); omega
 clear hs0 hm0 hle0 Yo
 have hRS := ajZ (O := O0) (ah := z0) (P := P0)
 obtain ⟨rX, Es⟩ : ∃ r, rU O0 z0 P0 = r := ⟨_, rfl⟩
 obtain ⟨rY, Et⟩ : ∃ r, rV O0 z0 P0 = r := ⟨_, rfl⟩
 rw [Es, Et] at hRS
 have Eu : Hid (sK rX rY ≤ 1048576) := hRS
 have R0 := Lib.hid (And.intro Es Et)
 clear Es Et hRS
 obtain ⟨mk0, KL⟩ : ∃ r : Int, (1 : Int) + (O0.length : Int) + (fD z0 z0.length : Int) + (P0.length : Int) = r := ⟨_, rfl⟩
 have Yp := Lib.hid KL
 have ai8 : 0 ≤ mk0 := by omega
 have ai9 : mk0 ≤ 1048577 := by have := zq.out; unfold jK at this; (try unfold jq at this); omega
 obtain ⟨mg, KN⟩ : ∃ r : Int, (1 : Int) + (rX.length : Int) + (rY.length : Int) = r := ⟨_, rfl⟩
 have MG := Lib.hid KN
 have aja : 0 ≤ mg := by omega
 have ajb : (mg != mg) = false := by simp
 clear KN KL
 go_enter Tryd.func4, Tryd.ntmps4
 go_wp2_with fail
 rw [← HW1.out]
 refine (FX.out _ K1.out.2.1).mono ?_
 rintro e w2 ⟨rfl, hb⟩
 have nG : Hid (Keep [w1, w] w2) := K1.out.step hb
 clear K1
 clear hb
 have c0 := (b0.out.below nG.out.1).c0
 have c1 := (b0.out.below nG.out.1).c1
 have c2 := (b0.out.below nG.out.1).c2
 go_wp2_with fail
 refine (zN (H0.out.below nG.out.2.1) hn0).mono ?_
 rintro e w3 ⟨x, rfl, hu, hb⟩
 obtain ⟨ajc, ajd, aje, ajf, ajg, ajh, hus⟩ := hu.shape
 subst hus
 have Yq := Lib.hid hu
 have KO : Hid (Keep [w1, w] w3) := nG.out.step hb
 clear nG
 clear hu hb
 have Ew : Hid (Keep [w3, w1, w] w3) := KO.out.add
 clear KO
 clear c0 c1 c2
 go_wp2_with fail
 refine (ajY  R0.out (Yq.out.below Ew.out.1).at).mono ?_
 rintro e w4 ⟨x, rfl, hg, hb⟩
 obtain ⟨KQ, KR, KT, KU, hus⟩ := hg.shape
 subst hus
 have pG := Lib.hid hg
 have KP : Hid (Keep [w3, w1, w] w4) := Ew.out.step hb
 clear Ew
 clear hb hg
 have Ey : Hid (Keep [w4, w3, w1, w] w4) := KP.out.add
 clear KP
 obtain ⟨w5, hw5⟩ : ∃ y, y = w4.alloc (.cells #[.slice KQ rX.length KR, .slice KT rY.length KU] 30) := ⟨_, rfl⟩
 have Hw5 := Lib.hid hw5
 have hb : Below w4.heap.size w4 w5 := by rw [hw5]; exact aA _ _
 have zb : Hid (aI w5 w4.heap.size 30 (.slice KQ rX.length KR) (.slice KT rY.length KU)) := by rw [hw5]; exact aI.new _ _ _ _ 
 have KZ : Hid (Keep [w4, w3, w1, w] w5) := Ey.out.step hb
 clear Ey
 clear hb
 have sN : Hid (Keep [w5, w4, w3, w1, w] w5) := KZ.out.add
 clear KZ
 have c0 := (b0.out.below sN.out.2.2.2.1).c0
 have c1 := (b0.out.below sN.out.2.2.2.1).c1
 have c2 := (b0.out.below sN.out.2.2.2.1).c2
 rw [hw5] at c0 c1 c2
 clear hw5
 have OW : Hid (w.heap.size ≤ w1.heap.size) := B1.out.size
 have OC : Hid (w1.heap.size ≤ w5.heap.size) := sN.out.2.2.2.1.size
 have OP : Hid (w4.heap.size ≤ w5.heap.size) := sN.out.2.1.size
 go_wp2_with fail
 rw [← Hw5.out]
 have HB0 : Hid (w5.heap.size ≤ w5.heap.size) := sN.out.1.size
 refine (zN (H0.out.below sN.out.2.2.2.2.1) hn0).mono ?_
 rintro e w6 ⟨x, rfl, hu, hb⟩
 obtain ⟨Ez, EC, ED, EF, EG, EH, hus⟩ := hu.shape
 subst hus
 have EI := Lib.hid hu
 have Cb : Hid (w5.heap.size ≤ w6.heap.size) := hb.size
 have La : Hid (Keep [w5, w4, w3, w1, w] w6) := sN.out.step hb
 clear sN
 clear hu hb
 have sO : Hid (Keep [w6, w5, w4, w3, w1, w] w6) := La.out.add
 clear La
 clear c0 c1 c2
 obtain ⟨w7, hw7⟩ : ∃ y, y = w6.alloc (.cells #[.slice Ez O0.length EC, .slice ED z0.length EF, .slice EG P0.length EH] 35) := ⟨_, rfl⟩
 have Hw7 := Lib.hid hw7
 have hb : Below w6.heap.size w6 w7 := by rw [hw7]; exact aA _ _
 have iM : Hid (aT w7 w6.heap.size 35 (.slice Ez O0.length EC) (.slice ED z0.length EF) (.slice EG P0.length EH)) := by rw [hw7]; exact aT.new _ _ _ _ _ 
 have Lc : Hid (Keep [w6, w5, w4, w3, w1, w] w7) := sO.out.step hb
 clear sO
 clear hb
 have vS : Hid (Keep [w7, w6, w5, w4, w3, w1, w] w7) := Lc.out.add
 clear Lc
 clear hw7
 have c0 := (iM.out.below vS.out.1).c0
 have c1 := (iM.out.below vS.out.1).c1
 have c2 := (iM.out.below vS.out.1).c2
 rw [Hw7.out] at c0 c1 c2
 go_wp2_with fail
 rw [← Hw7.out]
 have HD0 : Hid (w6.heap.size ≤ w7.heap.size) := vS.out.2.1.size
 refine (adH (by have := zq.out; unfold jK at this; (try unfold jq at this); omega) (HE.out.below vS.out.2.2.2.2.2.2.1)  R0.out (EI.out.below vS.out.2.1).at).mono ?_
 rintro e w8 ⟨x, rfl, hg, hb⟩
 obtain ⟨Lh, Lj, Lp, Lr, hus⟩ := hg.shape
 subst hus
 have xG := Lib.hid hg
 have IK : Hid (w7.heap.size ≤ w8.heap.size) := hb.size
 have Ld : Hid (Keep [w7, w6, w5, w4, w3, w1, w] w8) := vS.out.step hb
 clear vS
 clear hb hg
 have Ci : Hid (Keep [w8, w7, w6, w5, w4, w3, w1, w] w8) := Ld.out.add
 clear Ld
 clear c0 c1 c2
 obtain ⟨w9, xF⟩ : ∃ y, y = w8.alloc (.cells #[.slice Lh rX.length Lj, .slice Lp rY.length Lr] 30) := ⟨_, rfl⟩
 have Hw9 := Lib.hid xF
 have hb : Below w8.heap.size w8 w9 := by rw [xF]; exact aA _ _
 have gb : Hid (aI w9 w8.heap.size 30 (.slice Lh rX.length Lj) (.slice Lp rY.length Lr)) := by rw [xF]; exact aI.new _ _ _ _ 
 have Le : Hid (Keep [w8, w7, w6, w5, w4, w3, w1, w] w9) := Ci.out.step hb
 clear Ci
 clear hb
 have lH : Hid (Keep [w9, w8, w7, w6, w5, w4, w3, w1, w] w9) := Le.out.add
 clear Le
 clear xF
 have c0 := (gb.out.below lH.out.1).cell0
 have c1 := (gb.out.below lH.out.1).cell1
 have c2 := (zb.out.below lH.out.2.2.2.2.1).cell0
 have c3 := (zb.out.below lH.out.2.2.2.2.1).cell1
 rw [Hw9.out] at c0 c1 c2 c3
 go_wp2_with fail
 rw [← Hw9.out]
 refine (IJ (xG.out.below lH.out.2.1).at (pG.out.below lH.out.2.2.2.2.2.1).at).mono ?_
 rintro e w10 ⟨rfl, hb⟩
 have xH : Hid (Keep [w9, w8, w7, w6, w5, w4, w3, w1, w] w10) := lH.out.step hb
 clear lH
 clear hb
 clear c0 c1 c2 c3
 have c0 := (b0.out.below xH.out.2.2.2.2.2.2.2.1).c0
 have c1 := (b0.out.below xH.out.2.2.2.2.2.2.2.1).c1
 have c2 := (b0.out.below xH.out.2.2.2.2.2.2.2.1).c2
 have c3 := (iM.out.below xH.out.2.2.1).c0
 have c4 := (iM.out.below xH.out.2.2.1).c1
 have c5 := (iM.out.below xH.out.2.2.1).c2
 have YH : Hid (Keep [w9, w8, w7, w6, w5, w4, w3, w1, w] w10.drew) := xH.out.step (Below.refl _ _).drew
 go_wp2_with fail
 go_region_held3 (fun w' => w'.cell? ⟨w.heap.size, 0, none⟩ = some (.slice vJ O0.length vN) ∧ w'.cell? ⟨w.heap.size, 1, none⟩ = some (.slice vK z0.length vO) ∧ w'.cell? ⟨w.heap.size, 2, none⟩ = some (.slice vM P0.length vP) ∧ w'.cell? ⟨w6.heap.size, 0, none⟩ = some (.slice Ez O0.length EC) ∧ w'.cell? ⟨w6.heap.size, 1, none⟩ = some (.slice ED z0.length EF) ∧ w'.cell? ⟨w6.heap.size, 2, none⟩ = some (.slice EG P0.length EH))
  (first
   | go_keep
   | exact ⟨d0, d1, d2, d3, d4, d5⟩
   | exact ⟨f0, f1, f2, f3, f4, f5⟩)
  (first
   | (go_at_call 15; refine (zN (H0.out.below YH.out.2.2.2.2.2.2.2.2.1) hn0).mono ?_; rintro e lI ⟨x, rfl, hu, hb⟩; obtain ⟨ajk, ajl, ajm, ajn, ajo, ajp, hus⟩ := hu.shape; subst hus; have Ls := Lib.hid hu; have vT : Hid (Keep [w9, w8, w7, w6, w5, w4, w3, w1, w] lI) := YH.out.step hb; have d0 := (b0.out.below vT.out.2.2.2.2.2.2.2.1).c0; have d1 := (b0.out.below vT.out.2.2.2.2.2.2.2.1).c1; have d2 := (b0.out.below vT.out.2.2.2.2.2.2.2.1).c2; have d3 := (iM.out.below vT.out.2.2.1).c0; have d4 := (iM.out.below vT.out.2.2.1).c1; have d5 := (iM.out.below vT.out.2.2.1).c2; have rD : Hid (Keep [lI, w9, w8, w7, w6, w5, w4, w3, w1, w] lI) := vT.out.add; clear hu hb)
   | (go_at_call 19; refine (Zp (EI.out.below rD.out.2.2.2.2.1).at (Ls.out.below rD.out.1).at).mono ?_; rintro e w12 ⟨rfl, hb⟩; have oU : Hid (Keep [lI, w9, w8, w7, w6, w5, w4, w3, w1, w] w12) := rD.out.step hb; have f0 := (b0.out.below oU.out.2.2.2.2.2.2.2.2.1).c0; have f1 := (b0.out.below oU.out.2.2.2.2.2.2.2.2.1).c1; have f2 := (b0.out.below oU.out.2.2.2.2.2.2.2.2.1).c2; have f3 := (iM.out.below oU.out.2.2.2.1).c0; have f4 := (iM.out.below oU.out.2.2.2.1).c1; have f5 := (iM.out.below oU.out.2.2.2.1).c2; clear hb))
 clear c0 d0 f0 c1 d1 f1 c2 d2 f2 c3 d3 f3 c4 d4 f4 c5 d5 f5
 have zC : Hid (Keep [w9, w8, w7, w6, w5, w4, w3, w1, w] w12) := oU.out.2
 clear YH vT rD Ls
 have adI := Lib.hid (EI.out.below zC.out.2.2.2.1)
 have QJ := Lib.hid (iM.out.below zC.out.2.2.1)
 have adJ := Lib.hid (xG.out.below zC.out.2.1)
 have adK := Lib.hid (gb.out.below zC.out.1)
 have adL : Hid (Keep [w5, w4, w1, w] w12) := ⟨zC.out.2.2.2.2.1, zC.out.2.2.2.2.2.1, zC.out.2.2.2.2.2.2.2.1, zC.out.2.2.2.2.2.2.2.2.1, trivial⟩
 clear zC
 have c0 := QJ.out.c0
 have c1 := QJ.out.c1
 have c2 := QJ.out.c2
 go_wp2_with fail
 refine (Zq Yp.out adI.out (by omega) (by omega) zq.out).mono ?_
 rintro e t13 ⟨rfl, hx, ho⟩
 have o0 := OW.out
 have o1 := OC.out
 have o2 := OP.out
 have o3 := IK.out
 have zu := HB0.out
 have zx := Cb.out
 have zy := HD0.out
 have LW : Hid (Keep [w5, w4, w1, w] t13) := adL.out.only ho (fun a ha b hb => by
  simp only [List.mem_cons, List.not_mem_nil, or_false] at ha
  rcases ha with rfl | rfl | rfl | rfl <;> omega)
 clear adL
 clear adI
 clear QJ
 have YI := Lib.hid (adJ.out.only ho (fun g hg1 hg2 hb => by omega))
 clear adJ
 have QK := Lib.hid (adK.out.only ho (fun hb => by omega))
 clear adK
 clear hx ho o0 o1 o2 o3 zu zx zy c0 c1 c2
 have c0 := QK.out.cell0
 have c1 := QK.out.cell1
 have d0 := (zb.out.below LW.out.1).cell0
 have d1 := (zb.out.below LW.out.1).cell1
 go_wp2_with fail
 refine (IJ YI.out.at (pG.out.below LW.out.2.1).at).mono ?_
 rintro e t14 ⟨rfl, hb⟩
 have aj1 := Lib.hid (YI.out.below hb)
 clear YI
 have YJ := Lib.hid (QK.out.below hb)
 clear QK
 have adM : Hid (Keep [w5, w4, w1, w] t14) := LW.out.step hb
 clear LW
 clear hb c0 d0 c1 d1
 have c0 := YJ.out.cell0
 have c1 := YJ.out.cell1
 go_wp2_with fail
 refine (acR MG.out aj1.out (by omega) (by omega) Eu.out).mono ?_
 rintro e t15 ⟨rfl, hx, ho⟩
 have o0 := OW.out
 have o1 := OC.out
 have o2 := OP.out
 have o3 := IK.out
 have zu := HB0.out
 have zx := Cb.out
 have zy := HD0.out
 have adN : Hid (Keep [w5, w4, w1, w] t15) := adM.out.only ho (fun a ha b hb => by
  simp only [List.mem_cons, List.not_mem_nil, or_false] at ha
  rcases ha with rfl | rfl | rfl | rfl <;> omega)
 clear adM
 have M := Lib.hid hx
 have zA := Lib.hid (YJ.out.only ho (fun hb => by omega))
 clear hx ho o0 o1 o2 o3 zu zx zy c0 c1
 have LX : Hid (Keep [t15, w5, w4, w1, w] t15) := adN.out.add
 clear adN
 have c0 := (zA.out.below LX.out.1).cell0
 have c1 := (zA.out.below LX.out.1).cell1
 go_wp2_with fail
 refine (Qy MG.out (M.out.below LX.out.1).at (by omega) (by omega) Eu.out).mono ?_
 rintro e t16 ⟨rfl, hb⟩
 have IU : Hid (Keep [t15, w5, w4, w1, w] t16) := LX.out.step hb
 clear LX
 clear hb c0 c1
 have c0 := (b0.out.below IU.out.2.2.2.1).c0
 have c1 := (b0.out.below IU.out.2.2.2.1).c1
 have c2 := (b0.out.below IU.out.2.2.2.1).c2
 go_wp2_with fail
 refine (zN (H0.out.below IU.out.2.2.2.2.1) hn0).mono ?_
 rintro e zD ⟨x, rfl, hu, hb⟩
 obtain ⟨ajs, ajt, aju, ajv, ajw, ajx, hus⟩ := hu.shape
 subst hus
 have hX0 := Lib.hid hu
 have adO : Hid (Keep [t15, w5, w4, w1, w] zD) := IU.out.step hb
 clear IU
 clear hu hb
 have QL : Hid (Keep [zD, t15, w5, w4, w1, w] zD) := adO.out.add
 clear adO
 clear c0 c1 c2
 go_wp2_with fail
 refine (adH (by have := zq.out; unfold jK at this; (try unfold jq at this); omega) (HE.out.below QL.out.2.2.2.2.2.1)  R0.out (hX0.out.below QL.out.1).at).mono ?_
 rintro e vW ⟨x, rfl, hg, hb⟩
 obtain ⟨LM, LP, LQ, LU, hus⟩ := hg.shape
 subst hus
 have hG := Lib.hid hg
 have adP : Hid (Keep [zD, t15, w5, w4, w1, w] vW) := QL.out.step hb
 clear QL
 clear hb hg
 have adQ : Hid (Keep [vW, zD, t15, w5, w4, w1, w] vW) := adP.out.add
 clear adP
 obtain ⟨ET, QM⟩ : ∃ y, y = vW.alloc (.cells #[.slice LM rX.length LP, .slice LQ rY.length LU] 30) := ⟨_, rfl⟩
 have adR := Lib.hid QM
 have hb : Below vW.heap.size vW ET := by rw [QM]; exact aA _ _
 have hbx : Hid (aI ET vW.heap.size 30 (.slice LM rX.length LP) (.slice LQ rY.length LU)) := by rw [QM]; exact aI.new _ _ _ _ 
 have adS : Hid (Keep [vW, zD, t15, w5, w4, w1, w] ET) := adQ.out.step hb
 clear adQ
 clear hb
 have CG : Hid (Keep [ET, vW, zD, t15, w5, w4, w1, w] ET) := adS.out.add
 clear adS
 clear QM
 have c0 := (hbx.out.below CG.out.1).cell0
 have c1 := (hbx.out.below CG.out.1).cell1
 have c2 := (zb.out.below CG.out.2.2.2.2.1).cell0
 have c3 := (zb.out.below CG.out.2.2.2.2.1).cell1
 rw [adR.out] at c0 c1 c2 c3
 go_wp2_with fail
 rw [← adR.out]
 refine (IJ (hG.out.below CG.out.2.1).at (pG.out.below CG.out.2.2.2.2.2.1).at).mono ?_
 rintro e w20 ⟨rfl, hb⟩
 have LY : Hid (Keep [ET, vW, zD, t15, w5, w4, w1, w] w20) := CG.out.step hb
 clear CG
 clear hb
 clear c0 c1 c2 c3
 have c0 := (zA.out.below LY.out.2.2.2.1).cell0
 have c1 := (zA.out.below LY.out.2.2.2.1).cell1
 go_wp2_with fail
 refine (Qy MG.out (M.out.below LY.out.2.2.2.1).at (by omega) (by omega) Eu.out).mono ?_
 rintro e t21 ⟨rfl, hb⟩
 have Cm : Hid (Keep [ET, vW, zD, t15, w5, w4, w1, w] t21) := LY.out.step hb
 clear LY
 clear hb c0 c1
 go_wp2
 go_ret
 exact ⟨rfl, Cm.out.2.2.2.2.2.2.2.1⟩
end Go.Proofs.YtglbkbiphcgidaaDoor
