/-
  The library's slices.Sort at this program: the numbers that its contract is laid at.
-/
import Derived.Shelf.SlGeneric
import Derived.Shelf.SortM.Plain
import Derived.Shelf.SortM.SortNone
import Derived.Ground.SlgmProg
import Derived.Test.YtaagbnogbhegdaaProg
import Derived.Test.YtaagbnogbhegdaaBase1
import Derived.Sort.OwnSortedInts
import Derived.Shelf.SlicesE.Compact
import Derived.Ground.SlgnProg
import Derived.Test.YtaagbnogbhegdaaParity1
import Derived.Lib.AppendZeros
import Derived.Lib.OwnBridge
import Derived.Test.YtaagbnogbhegdaaParity
namespace Go.Proofs.Ytaagbnogbhegdaa
section
section
open Go.Shelf
def sortLays_ren : Go.Shelf.Ren := ⟨fun | 5 => 77 | 8 => 122 | 7 => 121 | 19 => 150 | 20 => 151 | 10 => 141 | 11 => 142 | 12 => 143 | 13 => 144 | 14 => 145 | 15 => 146 | 16 => 147 | 17 => 148 | 18 => 149 | 30 => 163 | 31 => 164 | 32 => 165 | 33 => 166 | 34 => 167 | 35 => 124 | 40 => 172 | n => n, fun | 23 => 24 | 25 => 2 | 3 => 3 | 32 => 112 | 22 => 24 | 0 => 0 | 44 => 157 | 46 => 36 | 4 => 4 | 36 => 150 | 35 => 149 | 41 => 154 | 5 => 5 | 9 => 9 | 53 => 169 | 57 => 173 | 63 => 177 | 64 => 178 | n => n, fun | n => n⟩
theorem sortLays : Go.Proofs.SlLaysM.n5 Try.prog sortLays_ren := {
  mixed := by kernel_rfl
  f5 := ⟨Try.f77.name, by decide, Try.func77.trans (congrArg some (by kernel_rfl))⟩
  f7 := ⟨Try.f121.name, by decide, Try.func121.trans (congrArg some (by kernel_rfl))⟩
  f8 := Try.func122.trans (congrArg some (by kernel_rfl))
  f10 := ⟨Try.f141.name, by decide, Try.func141.trans (congrArg some (by kernel_rfl))⟩
  f11 := ⟨Try.f142.name, by decide, Try.func142.trans (congrArg some (by kernel_rfl))⟩
  f12 := ⟨Try.f143.name, by decide, Try.func143.trans (congrArg some (by kernel_rfl))⟩
  f13 := ⟨Try.f144.name, by decide, Try.func144.trans (congrArg some (by kernel_rfl))⟩
  f14 := ⟨Try.f145.name, by decide, Try.func145.trans (congrArg some (by kernel_rfl))⟩
  f15 := ⟨Try.f146.name, by decide, Try.func146.trans (congrArg some (by kernel_rfl))⟩
  f16 := ⟨Try.f147.name, by decide, Try.func147.trans (congrArg some (by kernel_rfl))⟩
  f17 := ⟨Try.f148.name, by decide, Try.func148.trans (congrArg some (by kernel_rfl))⟩
  f18 := ⟨Try.f149.name, by decide, Try.func149.trans (congrArg some (by kernel_rfl))⟩
  f19 := Try.func150.trans (congrArg some (by kernel_rfl))
  f20 := Try.func151.trans (congrArg some (by kernel_rfl))
  f30 := ⟨Try.f163.name, by decide, Try.func163.trans (congrArg some (by kernel_rfl))⟩
  f31 := Try.func164.trans (congrArg some (by kernel_rfl))
  f32 := Try.func165.trans (congrArg some (by kernel_rfl))
  f33 := ⟨Try.f166.name, by decide, Try.func166.trans (congrArg some (by kernel_rfl))⟩
  f34 := ⟨Try.f167.name, by decide, Try.func167.trans (congrArg some (by kernel_rfl))⟩
  f35 := ⟨Try.f124.name, by decide, Try.func124.trans (congrArg some (by kernel_rfl))⟩
  f40 := ⟨Try.f172.name, by decide, Try.func172.trans (congrArg some (by kernel_rfl))⟩
  t0 := Try.underlying0
  a0 := Try.isAgg0
  z0 := Try.sizeOf0
  v0 := Try.zeroValue0
  t3 := Try.underlying3
  a3 := Try.isAgg3
  z3 := Try.sizeOf3
  v3 := Try.zeroValue3
  t4 := Try.underlying4
  a4 := Try.isAgg4
  z4 := Try.sizeOf4
  v4 := Try.zeroValue4
  t5 := Try.underlying5
  a5 := Try.isAgg5
  z5 := Try.sizeOf5
  v5 := Try.zeroValue5
  t9 := Try.underlying9
  a9 := Try.isAgg9
  z9 := Try.sizeOf9
  v9 := Try.zeroValue9
  t22 := Try.underlying24
  a22 := Try.isAgg24
  z22 := Try.sizeOf24
  v22 := Try.zeroValue24
  t23 := Try.underlying24
  a23 := Try.isAgg24
  z23 := Try.sizeOf24
  v23 := Try.zeroValue24
  t25 := Try.underlying2
  a25 := Try.isAgg2
  z25 := Try.sizeOf2
  v25 := Try.zeroValue2
  t32 := Try.underlying112
  a32 := Try.isAgg112
  z32 := Try.sizeOf112
  v32 := Try.zeroValue112
  t35 := Try.underlying149
  a35 := Try.isAgg149
  z35 := Try.sizeOf149
  v35 := Try.zeroValue149
  t36 := Try.underlying150
  a36 := Try.isAgg150
  z36 := Try.sizeOf150
  v36 := Try.zeroValue150
  t41 := Try.underlying154
  a41 := Try.isAgg154
  z41 := Try.sizeOf154
  v41 := Try.zeroValue154
  t44 := Try.underlying157
  a44 := Try.isAgg157
  z44 := Try.sizeOf157
  v44 := Try.zeroValue157
  t46 := Try.underlying36
  a46 := Try.isAgg36
  z46 := Try.sizeOf36
  v46 := Try.zeroValue36
  t53 := Try.underlying169
  a53 := Try.isAgg169
  z53 := Try.sizeOf169
  v53 := Try.zeroValue169
  t57 := Try.underlying173
  a57 := Try.isAgg173
  z57 := Try.sizeOf173
  v57 := Try.zeroValue173
  t63 := Try.underlying177
  a63 := Try.isAgg177
  z63 := Try.sizeOf177
  v63 := Try.zeroValue177
  t64 := Try.underlying178
  a64 := Try.isAgg178
  z64 := Try.sizeOf178
  v64 := Try.zeroValue178 }
end

section
open Go.RowKit Go.Sort

theorem sort_own {w : World} {B : Nat} {v : Value} {zs : List Int} (h : w.ownsRow B 2 1 v zs.length (zs.map (Value.int .i64))) (hl : zs.length ≤ 1048576) :
    Calls Try.prog 77 #[v] w fun e w' => e = .returned (.tuple #[]) ∧ w'.ownsRow B 2 1 v zs.length ((zs.mergeSort fun x y => decide (x ≤ y)).map (Value.int .i64)) ∧ Only (fun b => v.ownBlock = some b) w w' := by
  rcases h.2 with ⟨hv, h0⟩ | ⟨g, cap, cur, hv, hg, hb, hc, hm, hcs, ht⟩
  · have hz : zs = [] := List.length_eq_zero_iff.1 h0
    subst hz
    subst hv
    refine (AnyM.slices_Sort_int_none sortLays none 0 w).mono ?_
    rintro e w' ⟨rfl, rfl⟩
    exact ⟨rfl, by simpa using h, Only.refl _ _⟩
  · subst hv
    have hlt : g < w.heap.size := (Array.getElem?_eq_some_iff.1 hb).1
    refine (AnyM.slices_Sort_int sortLays g 0 cap zs w (holds_of_blockI hb (by simpa using ht)) hlt (by omega)).mono ?_
    rintro e w' ⟨rfl, n, os, rfl⟩
    refine ⟨rfl, ownsRow_sortedI (List.length_mergeSort _) hg hb hc hm hcs, ?_⟩
    exact (Only.of_grown (grownBy_sortedI (w := w) (g := g) (n := n) (os := os) _)).mono fun b hb => by simpa [Value.ownBlock] using hb
end
end

section
open Go.Shelf
end

section
open Go.Shelf
end

section
open Go.RowKit Go.Sort

theorem zero23 : ∀ w, (zeroValue 2).run Try.prog w = .ok (.int .i64 0) w := Try.zeroValue2

theorem rows_pair {w : World} {a a' : Option Addr} {S T : List Int} {cs ct : Nat} (t : TypeId) (h : IntsAt w a S) (h' : IntsAt w a' T) :
    RowsAt (w.alloc (.cells #[.slice a S.length cs, .slice a' T.length ct] t)) (some ⟨w.heap.size, 0, none⟩) (fun k => if k = 0 then a else a') (fun k => if k = 0 then cs else ct) [S, T] := by
  have hb := Box2.new w t (.slice a S.length cs) (.slice a' T.length ct)
  refine ⟨by simp, fun _ => ⟨_, 0, rfl, fun k hk => ?_⟩, fun k hk => ?_⟩
  · match k with
    | 0 => exact hb.cell0
    | 1 => exact hb.cell1
    | k + 2 => exact absurd hk (by simp)
  · match k with
    | 0 => exact h.alloc _
    | 1 => exact h'.alloc _
    | k + 2 => exact absurd hk (by simp)

theorem catK_fits {w : World} {a : Option Addr} {A : Nat → Option Addr} {C : Nat → Nat} {zss : List (List Int)} (h : RowsAt w a A C zss) : ∀ n, n ≤ zss.length → ∀ k, k < (catK zss n).length → Fits (nth (catK zss n) k)
  | 0, _, k, hk => absurd hk (by simp [catK])
  | n + 1, hn, k, hk => by
    have hm := nth_mem hk
    generalize nth (catK zss (n + 1)) k = y at hm
    rw [catK, List.mem_append] at hm
    rcases hm with hm | hm
    · obtain ⟨j, hj, e⟩ := mem_nth.1 hm
      rw [← e]; exact catK_fits h n (by omega) j hj
    · obtain ⟨j, hj, e⟩ := mem_nth.1 hm
      rw [← e]; exact (h.rows n (by omega)).fits j hj

end

section
open Go.RowKit

set_option maxHeartbeats 1000000 in
set_option maxRecDepth 100000 in
theorem Grow5_is {w : World} (n : Nat) (hn : n ≤ 2097152) :
    Calls Try.prog 132 #[.slice none 0 0, .int .i64 n] w fun e w' => ∃ v, e = .returned v ∧ w'.ownsRow w.heap.size 2 1 v 0 [] ∧ Below w.heap.size w w' := by
  obtain ⟨i0, hi, hz0, hz1, hz2⟩ := info_parts info_int
  by_cases h0 : 0 < n
  · have hrun := Go.Lib.run_append_nil_zeros (P := Try.prog) w 24 3 24 2 i0 (.int .i64 0) .i64 .i64 Try.underlying24 Try.underlying3 hi hz0 n h0 (by omega) (by omega) (by rw [hz2]; omega)
    obtain ⟨cp, hcp⟩ : ∃ c, grownCap w n 0 2 = c := ⟨_, rfl⟩
    have hcm := grownCap_le_maxLen w n 0 2 (by unfold maxLen; omega)
    have hcg := grownCap_ge w n 0 2
    rw [hcp] at hrun hcm hcg
    obtain ⟨cs, hcs⟩ : ∃ c, Builtin.zeroCells (Value.int .i64 0).cells n ++ Builtin.zeroCells (Value.int .i64 0).cells (cp - n) = c := ⟨_, rfl⟩
    have hcz : cs.size = cp := by
      rw [← hcs]; simp [Builtin.zeroCells, Value.cells]; omega
    rw [hcs] at hrun
    have HRUN := Lib.hid hrun
    clear hrun hcs hcp
    have hi1 : (0 : Int) < n := by omega
    go_enter Try.func132, Try.ntmps132
    go_wp2_with (at_builtin; refine Go.Lib.wpList_append_run _ rfl _ _ 24 3 rfl _ _ rfl rfl _ _ HRUN.out ?_)
    go_ret
    refine ⟨_, rfl, ⟨by simp, .inr ⟨w.heap.size, cp, cs, rfl, Nat.le_refl _, ?_, Nat.zero_le _, hcm, by omega, by simp⟩⟩, ?_⟩
    · exact heap_alloc_new w.drew _
    · exact (Below.refl _ _).drew.alloc (Nat.le_refl _) _
  · have hn0 : n = 0 := by omega
    subst hn0
    go_enter Try.func132, Try.ntmps132
    go_wp2
    go_ret
    exact ⟨_, rfl, World.ownsRow_nil _ _ _ _, Below.refl _ _⟩

theorem rows_three {w : World} {a a' b : Option Addr} {S T U : List Int} {cs ct cu : Nat} (t : TypeId) (h : IntsAt w a S) (h' : IntsAt w a' T) (h2 : IntsAt w b U) :
    RowsAt (w.alloc (.cells #[.slice a S.length cs, .slice a' T.length ct, .slice b U.length cu] t)) (some ⟨w.heap.size, 0, none⟩) (fun k => if k = 0 then a else if k = 1 then a' else b) (fun k => if k = 0 then cs else if k = 1 then ct else cu) [S, T, U] := by
  have hb := Box3.new w t (.slice a S.length cs) (.slice a' T.length ct) (.slice b U.length cu)
  refine ⟨by simp, fun _ => ⟨_, 0, rfl, fun k hk => ?_⟩, fun k hk => ?_⟩
  · match k with
    | 0 => exact hb.c0
    | 1 => exact hb.c1
    | 2 => exact hb.c2
    | k + 3 => exact absurd hk (by simp)
  · match k with
    | 0 => exact h.alloc _
    | 1 => exact h'.alloc _
    | 2 => exact h2.alloc _
    | k + 3 => exact absurd hk (by simp)

set_option maxHeartbeats 2000000 in
set_option maxRecDepth 100000 in
theorem Concat5_is {w : World} {a : Option Addr} {A : Nat → Option Addr} {C : Nat → Nat} {zss : List (List Int)} (cap : Nat) (h : RowsAt w a A C zss) (hl : zss.length ≤ 1048576) (hs : sumLen zss zss.length ≤ 1048576) :
    Calls Try.prog 97 #[.slice a zss.length cap] w (GivesInts w (catK zss zss.length)) := by
  obtain ⟨i0, hi, hz0, hz1, hz2⟩ := info_parts info_int
  have HR := Lib.hid h
  have HCF := Lib.hid (catK_fits h zss.length (Nat.le_refl _))
  have HG := Lib.hid (Grow5_is (w := w) (sumLen zss zss.length) (by omega))
  clear h
  go_enter Try.func97, Try.ntmps97
  go_wp2
  go_loop [3, 11] (fun s i => ∃ k : Nat, k ≤ zss.length ∧ i = .int .i64 k ∧ s = .int .i64 (sumLen zss k)) (fun _ i => zss.length - (intOf i).toNat)
  case atStart => exact ⟨0, Nat.zero_le _, rfl, rfl⟩
  case round =>
    obtain ⟨k, hk, rfl, rfl⟩ := hrel
    by_cases hlt : k < zss.length
    · obtain ⟨b, off, ha, hc⟩ := HR.out.cell (by omega)
      subst ha
      have hck := hc k hlt
      clear hc
      have hsum : sumLen zss k + (row zss k).length ≤ 1048576 := by have := sumLen_mono zss (show k + 1 ≤ zss.length by omega); simp only [sumLen] at this; omega
      have HE : Hid (((sumLen zss (k + 1) : Nat) : Int) = (sumLen zss k : Int) + ((row zss k).length : Int)) := by simp [sumLen, Hid]
      go_wp2
      go_round
      case rel => exact ⟨k + 1, by omega, by go_num, by rw [HE.out]⟩
      case measure => simp [intOf]; omega
    · have hkk : k = zss.length := by omega
      subst hkk
      go_wp2_with fail
      refine HG.out.mono ?_
      rintro e w1 ⟨v, rfl, hv, hb⟩
      have HV := Lib.hid hv
      have HB := Lib.hid hb
      clear hv hb
      go_wp2
      go_loopw [6, 27] (fun u i wr => ∃ (k : Nat) (uu : Value), uu = u ∧ k ≤ zss.length ∧ i = .int .i64 k ∧ Hid (wr.ownsRow w.heap.size 2 1 u (catK zss k).length ((catK zss k).map (Value.int .i64))) ∧ Hid (Below w.heap.size w wr)) (fun _ i _ => zss.length - (intOf i).toNat)
      case atStart => exact ⟨0, _, rfl, Nat.zero_le _, rfl, HV, HB⟩
      case round =>
        clear HV HB HG
        obtain ⟨k, uu, hu0, hk, rfl, HU, HB⟩ := hrel
        subst hu0
        have hsz := HB.out.size
        by_cases hlt : k < zss.length
        · obtain ⟨b, off, ha, hc⟩ := (HR.out.below HB.out).cell (by omega)
          subst ha
          have hck := hc k hlt
          clear hc
          have hsum : sumLen zss k + (row zss k).length ≤ 1048576 := by have := sumLen_mono zss (show k + 1 ≤ zss.length by omega); simp only [sumLen] at this; omega
          have HRow := Lib.hid ((HR.out.below HB.out).rows k hlt)
          have HCL := Lib.hid (catK_len zss k)
          have e1 : (catK zss (k + 1)).length = (catK zss k).length + (row zss k).length := by simp [catK]
          have e2 : (catK zss (k + 1)).map (Value.int .i64) = (catK zss k).map (Value.int .i64) ++ (row zss k).map (Value.int .i64) := by simp [catK]
          have E1 := Lib.hid e1
          have E2 := Lib.hid e2
          clear e1 e2
          cases hA : A k with
          | none =>
            rw [hA] at hck HRow
            have hz : row zss k = [] := List.length_eq_zero_iff.1 (by
              rcases Nat.eq_zero_or_pos (row zss k).length with h | h
              · exact h
              · obtain ⟨b, off, ha, _⟩ := HRow.out.cell h; cases ha)
            have HU2 : Hid (wr.ownsRow w.heap.size 2 1 uu (catK zss (k + 1)).length ((catK zss (k + 1)).map (Value.int .i64))) := Lib.hid (by
              rw [E1.out, E2.out, hz]; simpa using HU.out)
            rw [hz] at hck
            clear hA hz E1 E2
            go_wp2_with (at_builtin; refine wpList_append_nil rfl _ _ 24 rfl w.heap.size 2 i0 1 Try.underlying24 hi _ _ _ rfl HU.out _ rfl ?_)
            go_roundw
            case rel => exact ⟨k + 1, _, rfl, by omega, by go_num, HU2, HB⟩
            case measure => simp [intOf]; omega
          | some ad =>
            rw [hA] at hck HRow
            clear hA
            go_wp2_with (at_builtin; refine wpList_append_own_at _ rfl _ _ 24 rfl w.heap.size 2 i0 (.int .i64 0) 1 8 Try.underlying24 hi hz0 hz1 hz2 rfl (by decide) _ _ _ rfl HU.out ad (row zss k).length (C k) ((row zss k).map (Value.int .i64)) rfl ?c0 ?c1 ?c2 ?c3 ?c4 ?c5 ?_)
            case c0 => simp
            case c1 => exact news_of HRow.out
            case c2 => exact one_of _
            case c3 => have := HCL.out; unfold maxLen; omega
            case c4 => have := HCL.out; omega
            case c5 => exact hsz
            · intro v' w1' hown' hgrow _ _
              have HBn := Lib.hid (HB.out.grown hgrow hsz (fun g hg => (HU.out.lt g hg).1))
              have HOn := Lib.hid hown'
              rw [← E1.out, ← E2.out] at HOn
              clear hown' hgrow
              go_wp2
              go_roundw
              case rel => exact ⟨k + 1, _, rfl, by omega, by go_num, HOn, HBn⟩
              case measure => simp [intOf]; omega
        · have hkk : k = zss.length := by omega
          rw [hkk] at HU
          have hcl := catK_len zss zss.length
          have hfin := Lib.hid (And.intro (OwnInts.mk' HU.out (by omega) HCF.out) HB.out)
          clear hkk HU hcl
          go_wp2
          go_ret
          exact ⟨_, rfl, hfin.out⟩
end

end Go.Proofs.Ytaagbnogbhegdaa
