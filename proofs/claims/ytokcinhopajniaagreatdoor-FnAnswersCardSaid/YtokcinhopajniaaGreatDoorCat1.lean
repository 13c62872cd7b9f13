/-
  The library's slices.Sort at this program: the numbers that its contract is laid at.
-/
import Derived.Shelf.SlGeneric
import Derived.Shelf.SortM.Plain
import Derived.Shelf.SortM.SortNone
import Derived.Ground.SlgmProg
import Derived.Test.YtokcinhopajniaaGreatDoorProg
import Derived.Test.YtokcinhopajniaaGreatDoorBase1
import Derived.Sort.OwnSortedInts
import Derived.Shelf.SlicesE.Compact
import Derived.Ground.SlgnProg
import Derived.Test.YtokcinhopajniaaGreatDoorParity1
import Derived.Lib.AppendZeros
import Derived.Lib.OwnBridge
import Derived.Test.YtokcinhopajniaaGreatDoorParity
namespace Go.Proofs.YtokcinhopajniaaGreatDoor
section
section
open Go.Shelf
def sortLays_ren : Go.Shelf.Ren := ⟨fun | 5 => 138 | 8 => 153 | 7 => 152 | 19 => 188 | 20 => 189 | 10 => 179 | 11 => 180 | 12 => 181 | 13 => 182 | 14 => 183 | 15 => 184 | 16 => 185 | 17 => 186 | 18 => 187 | 30 => 200 | 31 => 201 | 32 => 202 | 33 => 203 | 34 => 204 | 35 => 194 | 40 => 215 | n => n, fun | 23 => 27 | 25 => 2 | 3 => 3 | 32 => 103 | 22 => 27 | 0 => 0 | 44 => 218 | 46 => 26 | 4 => 4 | 36 => 211 | 35 => 210 | 41 => 215 | 5 => 5 | 9 => 9 | 53 => 227 | 57 => 231 | 63 => 239 | 64 => 240 | n => n, fun | n => n⟩
theorem sortLays : Go.Proofs.SlLaysM.n5 Tryz.prog sortLays_ren := {
  mixed := by kernel_rfl
  f5 := ⟨Tryz.f138.name, by decide, Tryz.func138.trans (congrArg some (by kernel_rfl))⟩
  f7 := ⟨Tryz.f152.name, by decide, Tryz.func152.trans (congrArg some (by kernel_rfl))⟩
  f8 := Tryz.func153.trans (congrArg some (by kernel_rfl))
  f10 := ⟨Tryz.f179.name, by decide, Tryz.func179.trans (congrArg some (by kernel_rfl))⟩
  f11 := ⟨Tryz.f180.name, by decide, Tryz.func180.trans (congrArg some (by kernel_rfl))⟩
  f12 := ⟨Tryz.f181.name, by decide, Tryz.func181.trans (congrArg some (by kernel_rfl))⟩
  f13 := ⟨Tryz.f182.name, by decide, Tryz.func182.trans (congrArg some (by kernel_rfl))⟩
  f14 := ⟨Tryz.f183.name, by decide, Tryz.func183.trans (congrArg some (by kernel_rfl))⟩
  f15 := ⟨Tryz.f184.name, by decide, Tryz.func184.trans (congrArg some (by kernel_rfl))⟩
  f16 := ⟨Tryz.f185.name, by decide, Tryz.func185.trans (congrArg some (by kernel_rfl))⟩
  f17 := ⟨Tryz.f186.name, by decide, Tryz.func186.trans (congrArg some (by kernel_rfl))⟩
  f18 := ⟨Tryz.f187.name, by decide, Tryz.func187.trans (congrArg some (by kernel_rfl))⟩
  f19 := Tryz.func188.trans (congrArg some (by kernel_rfl))
  f20 := Tryz.func189.trans (congrArg some (by kernel_rfl))
  f30 := ⟨Tryz.f200.name, by decide, Tryz.func200.trans (congrArg some (by kernel_rfl))⟩
  f31 := Tryz.func201.trans (congrArg some (by kernel_rfl))
  f32 := Tryz.func202.trans (congrArg some (by kernel_rfl))
  f33 := ⟨Tryz.f203.name, by decide, Tryz.func203.trans (congrArg some (by kernel_rfl))⟩
  f34 := ⟨Tryz.f204.name, by decide, Tryz.func204.trans (congrArg some (by kernel_rfl))⟩
  f35 := ⟨Tryz.f194.name, by decide, Tryz.func194.trans (congrArg some (by kernel_rfl))⟩
  f40 := ⟨Tryz.f215.name, by decide, Tryz.func215.trans (congrArg some (by kernel_rfl))⟩
  t0 := Tryz.underlying0
  a0 := Tryz.isAgg0
  z0 := Tryz.sizeOf0
  v0 := Tryz.zeroValue0
  t3 := Tryz.underlying3
  a3 := Tryz.isAgg3
  z3 := Tryz.sizeOf3
  v3 := Tryz.zeroValue3
  t4 := Tryz.underlying4
  a4 := Tryz.isAgg4
  z4 := Tryz.sizeOf4
  v4 := Tryz.zeroValue4
  t5 := Tryz.underlying5
  a5 := Tryz.isAgg5
  z5 := Tryz.sizeOf5
  v5 := Tryz.zeroValue5
  t9 := Tryz.underlying9
  a9 := Tryz.isAgg9
  z9 := Tryz.sizeOf9
  v9 := Tryz.zeroValue9
  t22 := Tryz.underlying27
  a22 := Tryz.isAgg27
  z22 := Tryz.sizeOf27
  v22 := Tryz.zeroValue27
  t23 := Tryz.underlying27
  a23 := Tryz.isAgg27
  z23 := Tryz.sizeOf27
  v23 := Tryz.zeroValue27
  t25 := Tryz.underlying2
  a25 := Tryz.isAgg2
  z25 := Tryz.sizeOf2
  v25 := Tryz.zeroValue2
  t32 := Tryz.underlying103
  a32 := Tryz.isAgg103
  z32 := Tryz.sizeOf103
  v32 := Tryz.zeroValue103
  t35 := Tryz.underlying210
  a35 := Tryz.isAgg210
  z35 := Tryz.sizeOf210
  v35 := Tryz.zeroValue210
  t36 := Tryz.underlying211
  a36 := Tryz.isAgg211
  z36 := Tryz.sizeOf211
  v36 := Tryz.zeroValue211
  t41 := Tryz.underlying215
  a41 := Tryz.isAgg215
  z41 := Tryz.sizeOf215
  v41 := Tryz.zeroValue215
  t44 := Tryz.underlying218
  a44 := Tryz.isAgg218
  z44 := Tryz.sizeOf218
  v44 := Tryz.zeroValue218
  t46 := Tryz.underlying26
  a46 := Tryz.isAgg26
  z46 := Tryz.sizeOf26
  v46 := Tryz.zeroValue26
  t53 := Tryz.underlying227
  a53 := Tryz.isAgg227
  z53 := Tryz.sizeOf227
  v53 := Tryz.zeroValue227
  t57 := Tryz.underlying231
  a57 := Tryz.isAgg231
  z57 := Tryz.sizeOf231
  v57 := Tryz.zeroValue231
  t63 := Tryz.underlying239
  a63 := Tryz.isAgg239
  z63 := Tryz.sizeOf239
  v63 := Tryz.zeroValue239
  t64 := Tryz.underlying240
  a64 := Tryz.isAgg240
  z64 := Tryz.sizeOf240
  v64 := Tryz.zeroValue240 }
end

section
open Go.RowKit Go.Sort

theorem sort_own {w : World} {B : Nat} {v : Value} {zs : List Int} (h : w.ownsRow B 2 1 v zs.length (zs.map (Value.int .i64))) (hl : zs.length ≤ 1048576) :
    Calls Tryz.prog 138 #[v] w fun e w' => e = .returned (.tuple #[]) ∧ w'.ownsRow B 2 1 v zs.length ((zs.mergeSort fun x y => decide (x ≤ y)).map (Value.int .i64)) ∧ Only (fun b => v.ownBlock = some b) w w' := by
  rcases h.2 with ⟨hv, h0⟩ | ⟨g, cap, cur, hv, hg, hb, hc, hm, hcs, ht⟩
  · have hz : zs = [] := List.length_eq_zero_iff.1 h0
    subst hz
    subst hv
    refine (AnyM.slices_Sort_int_none sortLays none 0 w).mono ?_
    rintro e w' ⟨rfl, rfl⟩
    exact ⟨rfl, by simpa using h, Only.refl _ _⟩
  · subst hv
    have hlt : g < w.heap.size := (Array.getElem?_eq_some_iff.1 hb).1
    refine (AnyM.slices_Sort_int sortLays g 0 cap zs w (holds_of_blockI hb (by simpa using ht)) hlt (by omega)).mono ?_
    rintro e w' ⟨rfl, n, os, rfl⟩
    refine ⟨rfl, ownsRow_sortedI (List.length_mergeSort _) hg hb hc hm hcs, ?_⟩
    exact (Only.of_grown (grownBy_sortedI (w := w) (g := g) (n := n) (os := os) _)).mono fun b hb => by simpa [Value.ownBlock] using hb
end
end

section
open Go.Shelf
def sortSetLays_ren : Go.Shelf.Ren := ⟨fun | 5 => 117 | 8 => 153 | 7 => 152 | 19 => 188 | 20 => 189 | 10 => 179 | 11 => 180 | 12 => 181 | 13 => 182 | 14 => 183 | 15 => 184 | 16 => 185 | 17 => 186 | 18 => 187 | 30 => 200 | 31 => 201 | 32 => 202 | 33 => 203 | 34 => 204 | 35 => 194 | 40 => 215 | n => n, fun | 23 => 105 | 25 => 2 | 3 => 3 | 32 => 103 | 22 => 27 | 0 => 0 | 44 => 218 | 46 => 26 | 4 => 4 | 36 => 211 | 35 => 210 | 41 => 215 | 5 => 5 | 9 => 9 | 53 => 227 | 57 => 231 | 63 => 239 | 64 => 240 | n => n, fun | n => n⟩
theorem sortSetLays : Go.Proofs.SlLaysM.n5 Tryz.prog sortSetLays_ren := {
  mixed := by kernel_rfl
  f5 := ⟨Tryz.f117.name, by decide, Tryz.func117.trans (congrArg some (by kernel_rfl))⟩
  f7 := ⟨Tryz.f152.name, by decide, Tryz.func152.trans (congrArg some (by kernel_rfl))⟩
  f8 := Tryz.func153.trans (congrArg some (by kernel_rfl))
  f10 := ⟨Tryz.f179.name, by decide, Tryz.func179.trans (congrArg some (by kernel_rfl))⟩
  f11 := ⟨Tryz.f180.name, by decide, Tryz.func180.trans (congrArg some (by kernel_rfl))⟩
  f12 := ⟨Tryz.f181.name, by decide, Tryz.func181.trans (congrArg some (by kernel_rfl))⟩
  f13 := ⟨Tryz.f182.name, by decide, Tryz.func182.trans (congrArg some (by kernel_rfl))⟩
  f14 := ⟨Tryz.f183.name, by decide, Tryz.func183.trans (congrArg some (by kernel_rfl))⟩
  f15 := ⟨Tryz.f184.name, by decide, Tryz.func184.trans (congrArg some (by kernel_rfl))⟩
  f16 := ⟨Tryz.f185.name, by decide, Tryz.func185.trans (congrArg some (by kernel_rfl))⟩
  f17 := ⟨Tryz.f186.name, by decide, Tryz.func186.trans (congrArg some (by kernel_rfl))⟩
  f18 := ⟨Tryz.f187.name, by decide, Tryz.func187.trans (congrArg some (by kernel_rfl))⟩
  f19 := Tryz.func188.trans (congrArg some (by kernel_rfl))
  f20 := Tryz.func189.trans (congrArg some (by kernel_rfl))
  f30 := ⟨Tryz.f200.name, by decide, Tryz.func200.trans (congrArg some (by kernel_rfl))⟩
  f31 := Tryz.func201.trans (congrArg some (by kernel_rfl))
  f32 := Tryz.func202.trans (congrArg some (by kernel_rfl))
  f33 := ⟨Tryz.f203.name, by decide, Tryz.func203.trans (congrArg some (by kernel_rfl))⟩
  f34 := ⟨Tryz.f204.name, by decide, Tryz.func204.trans (congrArg some (by kernel_rfl))⟩
  f35 := ⟨Tryz.f194.name, by decide, Tryz.func194.trans (congrArg some (by kernel_rfl))⟩
  f40 := ⟨Tryz.f215.name, by decide, Tryz.func215.trans (congrArg some (by kernel_rfl))⟩
  t0 := Tryz.underlying0
  a0 := Tryz.isAgg0
  z0 := Tryz.sizeOf0
  v0 := Tryz.zeroValue0
  t3 := Tryz.underlying3
  a3 := Tryz.isAgg3
  z3 := Tryz.sizeOf3
  v3 := Tryz.zeroValue3
  t4 := Tryz.underlying4
  a4 := Tryz.isAgg4
  z4 := Tryz.sizeOf4
  v4 := Tryz.zeroValue4
  t5 := Tryz.underlying5
  a5 := Tryz.isAgg5
  z5 := Tryz.sizeOf5
  v5 := Tryz.zeroValue5
  t9 := Tryz.underlying9
  a9 := Tryz.isAgg9
  z9 := Tryz.sizeOf9
  v9 := Tryz.zeroValue9
  t22 := Tryz.underlying27
  a22 := Tryz.isAgg27
  z22 := Tryz.sizeOf27
  v22 := Tryz.zeroValue27
  t23 := Tryz.underlying105
  a23 := Tryz.isAgg105
  z23 := Tryz.sizeOf105
  v23 := Tryz.zeroValue105
  t25 := Tryz.underlying2
  a25 := Tryz.isAgg2
  z25 := Tryz.sizeOf2
  v25 := Tryz.zeroValue2
  t32 := Tryz.underlying103
  a32 := Tryz.isAgg103
  z32 := Tryz.sizeOf103
  v32 := Tryz.zeroValue103
  t35 := Tryz.underlying210
  a35 := Tryz.isAgg210
  z35 := Tryz.sizeOf210
  v35 := Tryz.zeroValue210
  t36 := Tryz.underlying211
  a36 := Tryz.isAgg211
  z36 := Tryz.sizeOf211
  v36 := Tryz.zeroValue211
  t41 := Tryz.underlying215
  a41 := Tryz.isAgg215
  z41 := Tryz.sizeOf215
  v41 := Tryz.zeroValue215
  t44 := Tryz.underlying218
  a44 := Tryz.isAgg218
  z44 := Tryz.sizeOf218
  v44 := Tryz.zeroValue218
  t46 := Tryz.underlying26
  a46 := Tryz.isAgg26
  z46 := Tryz.sizeOf26
  v46 := Tryz.zeroValue26
  t53 := Tryz.underlying227
  a53 := Tryz.isAgg227
  z53 := Tryz.sizeOf227
  v53 := Tryz.zeroValue227
  t57 := Tryz.underlying231
  a57 := Tryz.isAgg231
  z57 := Tryz.sizeOf231
  v57 := Tryz.zeroValue231
  t63 := Tryz.underlying239
  a63 := Tryz.isAgg239
  z63 := Tryz.sizeOf239
  v63 := Tryz.zeroValue239
  t64 := Tryz.underlying240
  a64 := Tryz.isAgg240
  z64 := Tryz.sizeOf240
  v64 := Tryz.zeroValue240 }
end

section
open Go.Shelf
def compactLays_ren : Go.Shelf.Ren := ⟨fun | 43 => 118 | n => n, fun | 22 => 105 | 23 => 2 | 3 => 3 | 4 => 4 | 0 => 0 | n => n, fun | n => n⟩
theorem compactLays : Go.Proofs.SlLaysE.n43 Tryz.prog compactLays_ren := {
  mixed := by kernel_rfl
  f43 := ⟨Tryz.f118.name, by decide, Tryz.func118.trans (congrArg some (by kernel_rfl))⟩
  t0 := Tryz.underlying0
  a0 := Tryz.isAgg0
  z0 := Tryz.sizeOf0
  v0 := Tryz.zeroValue0
  t3 := Tryz.underlying3
  a3 := Tryz.isAgg3
  z3 := Tryz.sizeOf3
  v3 := Tryz.zeroValue3
  t4 := Tryz.underlying4
  a4 := Tryz.isAgg4
  z4 := Tryz.sizeOf4
  v4 := Tryz.zeroValue4
  t22 := Tryz.underlying105
  a22 := Tryz.isAgg105
  z22 := Tryz.sizeOf105
  v22 := Tryz.zeroValue105
  a23 := Tryz.isAgg2
  z23 := Tryz.sizeOf2 }
end

section
open Go.RowKit Go.Sort

theorem sortSet_own {w : World} {B : Nat} {v : Value} {zs : List Int} (h : w.ownsRow B 2 1 v zs.length (zs.map (Value.int .i64))) (hl : zs.length ≤ 1048576) :
    Calls Tryz.prog 117 #[v] w fun e w' => e = .returned (.tuple #[]) ∧ w'.ownsRow B 2 1 v zs.length ((zs.mergeSort fun x y => decide (x ≤ y)).map (Value.int .i64)) ∧ Only (fun b => v.ownBlock = some b) w w' := by
  rcases h.2 with ⟨hv, h0⟩ | ⟨g, cap, cur, hv, hg, hb, hc, hm, hcs, ht⟩
  · have hz : zs = [] := List.length_eq_zero_iff.1 h0
    subst hz
    subst hv
    refine (AnyM.slices_Sort_int_none sortSetLays none 0 w).mono ?_
    rintro e w' ⟨rfl, rfl⟩
    exact ⟨rfl, by simpa using h, Only.refl _ _⟩
  · subst hv
    have hlt : g < w.heap.size := (Array.getElem?_eq_some_iff.1 hb).1
    refine (AnyM.slices_Sort_int sortSetLays g 0 cap zs w (holds_of_blockI hb (by simpa using ht)) hlt (by omega)).mono ?_
    rintro e w' ⟨rfl, n, os, rfl⟩
    refine ⟨rfl, ownsRow_sortedI (List.length_mergeSort _) hg hb hc hm hcs, ?_⟩
    exact (Only.of_grown (grownBy_sortedI (w := w) (g := g) (n := n) (os := os) _)).mono fun b hb => by simpa [Value.ownBlock] using hb

theorem zero23 : ∀ w, (zeroValue 2).run Tryz.prog w = .ok (.int .i64 0) w := Tryz.zeroValue2

theorem compact_own {w : World} {B : Nat} {v : Value} {zs : List Int} (h : w.ownsRow B 2 1 v zs.length (zs.map (Value.int .i64))) (hl : zs.length ≤ 1048576) :
    Calls Tryz.prog 118 #[v] w fun e w' => ∃ u, e = .returned u ∧ w'.ownsRow B 2 1 u (compL zs).length ((compL zs).map (Value.int .i64)) ∧ Only (fun b => v.ownBlock = some b) w w' := by
  rcases h.2 with ⟨hv, h0⟩ | ⟨g, cap, cur, hv, hg, hb, hc, hm, hcs, ht⟩
  · have hz : zs = [] := List.length_eq_zero_iff.1 h0
    subst hz
    subst hv
    go_enter Tryz.func118, Tryz.ntmps118
    go_wp2
    go_ret
    exact ⟨_, rfl, World.ownsRow_nil _ _ _ _, Only.refl _ _⟩
  · subst hv
    have hcl := comp_len zs
    have hH : Holds (Value.int .i64) w g 0 zs.toArray := holds_of_blockI hb (by simpa using ht)
    refine (AnyE.slices_Compact compactLays (Value.int .i64) (fun _ => rfl) (EqlAt.intD _ _ .i64) (NeqAt.intD _ _ .i64) 0 zero23 g 0 cap zs.toArray w hH (by simp; omega) (by simpa using hc)).mono ?_
    rintro e w' ⟨rfl, q, rfl⟩
    have hsz : zs.toArray.size = zs.length := by simp
    rw [hsz]
    refine ⟨_, rfl, ?_, ?_⟩
    · have hk := Go.Lib.ownsRow_putRow (enc := Value.int .i64) (q := q) (k := (compL zs).length) (ys := compL zs ++ List.replicate (zs.length - (compL zs).length) 0) h (by simp; omega) hcl
      rw [List.take_left'  rfl] at hk
      exact hk
    · refine ⟨rfl, rfl, rfl, by simp [putRow, mapBlock, Sort.ahead], fun k hk hne => ?_⟩
      have : g ≠ k := fun e => hne (by simp [Value.ownBlock, e])
      simp [putRow, mapBlock, Sort.ahead, Array.getElem?_modify, this]

set_option maxHeartbeats 1000000 in
set_option maxRecDepth 100000 in
theorem Grow_is {w : World} (n : Nat) (hn : n ≤ 2097152) :
    Calls Tryz.prog 151 #[.slice none 0 0, .int .i64 n] w fun e w' => ∃ v, e = .returned v ∧ w'.ownsRow w.heap.size 2 1 v 0 [] ∧ Below w.heap.size w w' := by
  obtain ⟨i0, hi, hz0, hz1, hz2⟩ := info_parts info_int
  by_cases h0 : 0 < n
  · have hrun := Go.Lib.run_append_nil_zeros (P := Tryz.prog) w 105 3 105 2 i0 (.int .i64 0) .i64 .i64 Tryz.underlying105 Tryz.underlying3 hi hz0 n h0 (by omega) (by omega) (by rw [hz2]; omega)
    obtain ⟨cp, hcp⟩ : ∃ c, grownCap w n 0 2 = c := ⟨_, rfl⟩
    have hcm := grownCap_le_maxLen w n 0 2 (by unfold maxLen; omega)
    have hcg := grownCap_ge w n 0 2
    rw [hcp] at hrun hcm hcg
    obtain ⟨cs, hcs⟩ : ∃ c, Builtin.zeroCells (Value.int .i64 0).cells n ++ Builtin.zeroCells (Value.int .i64 0).cells (cp - n) = c := ⟨_, rfl⟩
    have hcz : cs.size = cp := by
      rw [← hcs]; simp [Builtin.zeroCells, Value.cells]; omega
    rw [hcs] at hrun
    have HRUN := Lib.hid hrun
    clear hrun hcs hcp
    have hi1 : (0 : Int) < n := by omega
    go_enter Tryz.func151, Tryz.ntmps151
    go_wp2_with (at_builtin; refine Go.Lib.wpList_append_run _ rfl _ _ 105 3 rfl _ _ rfl rfl _ _ HRUN.out ?_)
    go_ret
    refine ⟨_, rfl, ⟨by simp, .inr ⟨w.heap.size, cp, cs, rfl, Nat.le_refl _, ?_, Nat.zero_le _, hcm, by omega, by simp⟩⟩, ?_⟩
    · exact heap_alloc_new w.drew _
    · exact (Below.refl _ _).drew.alloc (Nat.le_refl _) _
  · have hn0 : n = 0 := by omega
    subst hn0
    go_enter Tryz.func151, Tryz.ntmps151
    go_wp2
    go_ret
    exact ⟨_, rfl, World.ownsRow_nil _ _ _ _, Below.refl _ _⟩

theorem rows_pair {w : World} {a a' : Option Addr} {S T : List Int} {cs ct : Nat} (t : TypeId) (h : IntsAt w a S) (h' : IntsAt w a' T) :
    RowsAt (w.alloc (.cells #[.slice a S.length cs, .slice a' T.length ct] t)) (some ⟨w.heap.size, 0, none⟩) (fun k => if k = 0 then a else a') (fun k => if k = 0 then cs else ct) [S, T] := by
  have hb := Box2.new w t (.slice a S.length cs) (.slice a' T.length ct)
  refine ⟨by simp, fun _ => ⟨_, 0, rfl, fun k hk => ?_⟩, fun k hk => ?_⟩
  · match k with
    | 0 => exact hb.cell0
    | 1 => exact hb.cell1
    | k + 2 => exact absurd hk (by simp)
  · match k with
    | 0 => exact h.alloc _
    | 1 => exact h'.alloc _
    | k + 2 => exact absurd hk (by simp)

theorem catK_fits {w : World} {a : Option Addr} {A : Nat → Option Addr} {C : Nat → Nat} {zss : List (List Int)} (h : RowsAt w a A C zss) : ∀ n, n ≤ zss.length → ∀ k, k < (catK zss n).length → Fits (nth (catK zss n) k)
  | 0, _, k, hk => absurd hk (by simp [catK])
  | n + 1, hn, k, hk => by
    have hm := nth_mem hk
    generalize nth (catK zss (n + 1)) k = y at hm
    rw [catK, List.mem_append] at hm
    rcases hm with hm | hm
    · obtain ⟨j, hj, e⟩ := mem_nth.1 hm
      rw [← e]; exact catK_fits h n (by omega) j hj
    · obtain ⟨j, hj, e⟩ := mem_nth.1 hm
      rw [← e]; exact (h.rows n (by omega)).fits j hj

set_option maxHeartbeats 2000000 in
set_option maxRecDepth 100000 in
theorem Concat_is {w : World} {a : Option Addr} {A : Nat → Option Addr} {C : Nat → Nat} {zss : List (List Int)} (cap : Nat) (h : RowsAt w a A C zss) (hl : zss.length ≤ 1048576) (hs : sumLen zss zss.length ≤ 1048576) :
    Calls Tryz.prog 116 #[.slice a zss.length cap] w (GivesInts w (catK zss zss.length)) := by
  obtain ⟨i0, hi, hz0, hz1, hz2⟩ := info_parts info_int
  have HR := Lib.hid h
  have HCF := Lib.hid (catK_fits h zss.length (Nat.le_refl _))
  have HG := Lib.hid (Grow_is (w := w) (sumLen zss zss.length) (by omega))
  clear h
  go_enter Tryz.func116, Tryz.ntmps116
  go_wp2
  go_loop [3, 11] (fun s i => ∃ k : Nat, k ≤ zss.length ∧ i = .int .i64 k ∧ s = .int .i64 (sumLen zss k)) (fun _ i => zss.length - (intOf i).toNat)
  case atStart => exact ⟨0, Nat.zero_le _, rfl, rfl⟩
  case round =>
    obtain ⟨k, hk, rfl, rfl⟩ := hrel
    by_cases hlt : k < zss.length
    · obtain ⟨b, off, ha, hc⟩ := HR.out.cell (by omega)
      subst ha
      have hck := hc k hlt
      clear hc
      have hsum : sumLen zss k + (row zss k).length ≤ 1048576 := by have := sumLen_mono zss (show k + 1 ≤ zss.length by omega); simp only [sumLen] at this; omega
      have HE : Hid (((sumLen zss (k + 1) : Nat) : Int) = (sumLen zss k : Int) + ((row zss k).length : Int)) := by simp [sumLen, Hid]
      go_wp2
      go_round
      case rel => exact ⟨k + 1, by omega, by go_num, by rw [HE.out]⟩
      case measure => simp [intOf]; omega
    · have hkk : k = zss.length := by omega
      subst hkk
      go_wp2_with fail
      refine HG.out.mono ?_
      rintro e w1 ⟨v, rfl, hv, hb⟩
      have HV := Lib.hid hv
      have HB := Lib.hid hb
      clear hv hb
      go_wp2
      go_loopw [6, 27] (fun u i wr => ∃ (k : Nat) (uu : Value), uu = u ∧ k ≤ zss.length ∧ i = .int .i64 k ∧ Hid (wr.ownsRow w.heap.size 2 1 u (catK zss k).length ((catK zss k).map (Value.int .i64))) ∧ Hid (Below w.heap.size w wr)) (fun _ i _ => zss.length - (intOf i).toNat)
      case atStart => exact ⟨0, _, rfl, Nat.zero_le _, rfl, HV, HB⟩
      case round =>
        clear HV HB HG
        obtain ⟨k, uu, hu0, hk, rfl, HU, HB⟩ := hrel
        subst hu0
        have hsz := HB.out.size
        by_cases hlt : k < zss.length
        · obtain ⟨b, off, ha, hc⟩ := (HR.out.below HB.out).cell (by omega)
          subst ha
          have hck := hc k hlt
          clear hc
          have hsum : sumLen zss k + (row zss k).length ≤ 1048576 := by have := sumLen_mono zss (show k + 1 ≤ zss.length by omega); simp only [sumLen] at this; omega
          have HRow := Lib.hid ((HR.out.below HB.out).rows k hlt)
          have HCL := Lib.hid (catK_len zss k)
          have e1 : (catK zss (k + 1)).length = (catK zss k).length + (row zss k).length := by simp [catK]
          have e2 : (catK zss (k + 1)).map (Value.int .i64) = (catK zss k).map (Value.int .i64) ++ (row zss k).map (Value.int .i64) := by simp [catK]
          have E1 := Lib.hid e1
          have E2 := Lib.hid e2
          clear e1 e2
          cases hA : A k with
          | none =>
            rw [hA] at hck HRow
            have hz : row zss k = [] := List.length_eq_zero_iff.1 (by
              rcases Nat.eq_zero_or_pos (row zss k).length with h | h
              · exact h
              · obtain ⟨b, off, ha, _⟩ := HRow.out.cell h; cases ha)
            have HU2 : Hid (wr.ownsRow w.heap.size 2 1 uu (catK zss (k + 1)).length ((catK zss (k + 1)).map (Value.int .i64))) := Lib.hid (by
              rw [E1.out, E2.out, hz]; simpa using HU.out)
            rw [hz] at hck
            clear hA hz E1 E2
            go_wp2_with (at_builtin; refine wpList_append_nil rfl _ _ 105 rfl w.heap.size 2 i0 1 Tryz.underlying105 hi _ _ _ rfl HU.out _ rfl ?_)
            go_roundw
            case rel => exact ⟨k + 1, _, rfl, by omega, by go_num, HU2, HB⟩
            case measure => simp [intOf]; omega
          | some ad =>
            rw [hA] at hck HRow
            clear hA
            go_wp2_with (at_builtin; refine wpList_append_own_at _ rfl _ _ 105 rfl w.heap.size 2 i0 (.int .i64 0) 1 8 Tryz.underlying105 hi hz0 hz1 hz2 rfl (by decide) _ _ _ rfl HU.out ad (row zss k).length (C k) ((row zss k).map (Value.int .i64)) rfl ?c0 ?c1 ?c2 ?c3 ?c4 ?c5 ?_)
            case c0 => simp
            case c1 => exact news_of HRow.out
            case c2 => exact one_of _
            case c3 => have := HCL.out; unfold maxLen; omega
            case c4 => have := HCL.out; omega
            case c5 => exact hsz
            · intro v' w1' hown' hgrow _ _
              have HBn := Lib.hid (HB.out.grown hgrow hsz (fun g hg => (HU.out.lt g hg).1))
              have HOn := Lib.hid hown'
              rw [← E1.out, ← E2.out] at HOn
              clear hown' hgrow
              go_wp2
              go_roundw
              case rel => exact ⟨k + 1, _, rfl, by omega, by go_num, HOn, HBn⟩
              case measure => simp [intOf]; omega
        · have hkk : k = zss.length := by omega
          rw [hkk] at HU
          have hcl := catK_len zss zss.length
          have hfin := Lib.hid (And.intro (OwnInts.mk' HU.out (by omega) HCF.out) HB.out)
          clear hkk HU hcl
          go_wp2
          go_ret
          exact ⟨_, rfl, hfin.out⟩

set_option maxHeartbeats 1000000 in
theorem with_is {w : World} {a a' : Option Addr} {S T : List Int} (cs ct : Nat) (hS : IntsAt w a S) (hT : IntsAt w a' T) (hr : Rises S) (hlS : S.length ≤ 256) (hlT : T.length ≤ 256) :
    Calls Tryz.prog 74 #[.slice a S.length cs, .slice a' T.length ct] w (GivesInts w (unionL S T)) := by
  have HC : Hid (Calls Tryz.prog 116 #[.slice (some ⟨w.heap.size, 0, none⟩) 2 2] (w.alloc (.cells #[.slice a S.length cs, .slice a' T.length ct] 105)) (GivesInts (w.alloc (.cells #[.slice a S.length cs, .slice a' T.length ct] 105)) (S ++ T))) := by
    have h := Concat_is (zss := [S, T]) 2 (rows_pair 105 (cs := cs) (ct := ct) hS hT) (by simp) (by simp [sumLen, row]; omega)
    have e : catK [S, T] [S, T].length = S ++ T := by simp [catK, row]
    rw [e] at h
    exact h
  have HF := Lib.hid (And.intro (unionL_fits hS.fits hT.fits) (unionL_len S T))
  have HO := Lib.hid hr
  have B1 := Lib.hid (below1 w (.cells #[.slice a S.length cs, .slice a' T.length ct] 105))
  have hlu : (S ++ T).length ≤ 512 := by simp; omega
  have HLU := Lib.hid hlu
  clear hS hT hr hlu
  go_enter Tryz.func74, Tryz.ntmps74
  go_wp2_with fail
  refine HC.out.mono ?_
  rintro e w1 ⟨v, rfl, hv, hb⟩
  have HV := Lib.hid (hv.base (B' := w.heap.size) (by simp))
  have HB := Lib.hid (B1.out.trans (hb.mono B1.out.size))
  clear hv hb HC
  go_wp2_with fail
  refine (sortSet_own HV.out.own (by have := HLU.out; omega)).mono ?_
  rintro e w2 ⟨rfl, hs, ho⟩
  have hlen : (S ++ T).length = ((S ++ T).mergeSort fun x y => decide (x ≤ y)).length := (List.length_mergeSort _).symm
  rw [hlen] at hs
  have H2 := Lib.hid hs
  have HB2 := Lib.hid (HB.out.trans (ho.below (B := w.heap.size) HB.out.size (fun b hb => (HV.out.own.lt b hb).1)))
  have HL2 : Hid (((S ++ T).mergeSort fun x y => decide (x ≤ y)).length ≤ 512) := by rw [← hlen]; exact HLU.out
  clear hs ho hlen
  go_wp2_with fail
  refine (compact_own H2.out (by have := HL2.out; omega)).mono ?_
  rintro e w3 ⟨u, rfl, hu, ho⟩
  rw [comp_sorted_union HO.out] at hu
  have HU := Lib.hid hu
  have HB3 := Lib.hid (HB2.out.trans (ho.below (B := w.heap.size) HB2.out.size (fun b hb => (H2.out.lt b hb).1)))
  clear hu ho
  go_wp2
  go_ret
  exact ⟨_, rfl, OwnInts.mk' HU.out (by have := HF.out.2; omega) HF.out.1, HB3.out⟩

set_option maxHeartbeats 1000000 in
theorem BothOf_is {w : World} {a a' : Option Addr} {S T r : List Int} (hr : bothL S T = r) (cs ct : Nat) (hS : IntsAt w a S) (hT : IntsAt w a' T) :
    Calls Tryz.prog 39 #[.slice a S.length cs, .slice a' T.length ct] w (GivesInts w r) := by
  cases hb : bothOk S T with
  | true =>
    have HC := Lib.hid (areSets_two hb cs ct hS hT)
    have hlT : T.length ≤ 256 := by have := setB_len (by decide) (both_sets hb).2; omega
    have HP := Lib.hid (with_is (w := w.alloc (.cells #[.slice a S.length cs, .slice a' T.length ct] 27)) cs ct (hS.alloc _) (hT.alloc _) (rises_of (both_sets hb).1) (both_len hb) hlT)
    have HR : Hid (r = unionL S T) := by rw [← hr]; unfold bothL; rw [hb]; rfl
    have B1 := Lib.hid (below1 w (.cells #[.slice a S.length cs, .slice a' T.length ct] 27))
    clear hr hS hT hb
    go_enter Tryz.func39, Tryz.ntmps39
    go_wp2_with (first
      | (go_at_call 73; refine HC.out.mono ?_; rintro e w' ⟨rfl, rfl⟩)
      | (go_at_call 74; refine HP.out.mono ?_; rintro e w2 ⟨u, rfl, hu, hbb⟩; have U := Lib.hid hu; have B2 := Lib.hid (B1.out.trans (hbb.mono B1.out.size)); clear hu hbb))
    go_ret
    exact ⟨_, rfl, by rw [HR.out]; exact U.out.base (by simp), B2.out⟩
  | false =>
    have HC := Lib.hid (areSets_two hb cs ct hS hT)
    have HR : Hid (r = []) := by rw [← hr]; unfold bothL; rw [hb]; rfl
    clear hr hS hT hb
    go_enter Tryz.func39, Tryz.ntmps39
    go_wp2_with (go_at_call 73; refine HC.out.mono ?_; rintro e w' ⟨rfl, rfl⟩)
    go_ret
    exact ⟨_, rfl, by rw [HR.out]; exact OwnInts.nil _ _ _, below1 _ _⟩
end

section
open Go.RowKit

theorem rows_three {w : World} {a a' b : Option Addr} {S T U : List Int} {cs ct cu : Nat} (t : TypeId) (h : IntsAt w a S) (h' : IntsAt w a' T) (h2 : IntsAt w b U) :
    RowsAt (w.alloc (.cells #[.slice a S.length cs, .slice a' T.length ct, .slice b U.length cu] t)) (some ⟨w.heap.size, 0, none⟩) (fun k => if k = 0 then a else if k = 1 then a' else b) (fun k => if k = 0 then cs else if k = 1 then ct else cu) [S, T, U] := by
  have hb := Box3.new w t (.slice a S.length cs) (.slice a' T.length ct) (.slice b U.length cu)
  refine ⟨by simp, fun _ => ⟨_, 0, rfl, fun k hk => ?_⟩, fun k hk => ?_⟩
  · match k with
    | 0 => exact hb.c0
    | 1 => exact hb.c1
    | 2 => exact hb.c2
    | k + 3 => exact absurd hk (by simp)
  · match k with
    | 0 => exact h.alloc _
    | 1 => exact h'.alloc _
    | 2 => exact h2.alloc _
    | k + 3 => exact absurd hk (by simp)

end

end Go.Proofs.YtokcinhopajniaaGreatDoor
