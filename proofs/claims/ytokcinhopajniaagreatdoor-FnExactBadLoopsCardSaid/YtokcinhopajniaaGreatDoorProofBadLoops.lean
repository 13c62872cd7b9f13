/- For every game and every number and every slice of numbers and every slice of numbers, where the program's package-level errors start as its text lays them (the card ties them), the call of FnExactBadLoops returns true, and all arguments read afterwards as they read before: BadLoops answers as its model, changes nothing, and its answer is memory of its own. -/
import Derived.Test.YtokcinhopajniaaGreatDoorLawBadLoops
import Derived.Test.YtokcinhopajniaaGreatDoorLaidW
import Derived.Test.YtokcinhopajniaaGreatDoorCards
import Derived.Test.YtokcinhopajniaaGreatDoorTie
import Derived.Test.YtokcinhopajniaaGreatDoorOpen
import Derived.Carry
import Derived.SevenTiedAt
namespace Go.Proofs.YtokcinhopajniaaGreatDoor
open Go.ChangeShapes Go.WideShapes Go.ChangeAt Go.RowKit

set_option maxRecDepth 100000 in
theorem lifted_BadLoops (os : Os) (started : os.Started) (H : Type) (enc : TypeId × Value → H) (F : Stop.Interp) :
    ReturnsInHanded {} Tryz.checked os 4 .any ((OpenSpec.ofChange Rows.fnExactBadLoopsSpec).preRow enc Tryz.prog Tryz.f4 Rows.fnExactBadLoopsRow.domain false Rows.fnExactBadLoopsRow.laid) (((OpenSpec.ofChange Rows.fnExactBadLoopsSpec).at F).post enc Tryz.prog Tryz.f4 false true false false) := by
  refine returnsInHanded_of_row (C := Tryz.checked) (s := OpenSpec.ofChange Rows.fnExactBadLoopsSpec) lv_own started (by kernel_rfl) Tryz.func4
    (witness_row_at (enc := enc) (C := Tryz.checked) false (lvWorld os) #[.agg #[.slice none 0 0, .slice none 0 0, .slice none 0 0], .int .i64 0, .slice none 0 0, .slice none 0 0] rfl (by kernel_rfl) (by kernel_rfl) (by kernel_rfl)
      (OpenSpec.preRow_of_B rfl 8 (by kernel_rfl) (by kernel_rfl) (lv_metB os _))) ?_
  intro W base args ds gs before hval0 hW _ _ hsz0 hL _ _
  have hsz : (DataW.weightsEach Tryz.prog (Tryz.f4.params.toList ++ (OpenSpec.ofChange Rows.fnExactBadLoopsSpec).bare.plain.varTypes Tryz.prog) (ds ++ gs)).all (· ≤ reachBytes) = true := hsz0
  clear hsz0
  have hval : ∀ (j : Nat) t v, Tryz.f4.params[j]? = some t → args[j]? = some v → Value.okWide Tryz.prog W .any base t v := hval0
  have hW' := hW
  obtain ⟨p, q, hA0, hV0, rfl, _, _⟩ := hW
  have hA : DataW.TrodAll enc Tryz.prog W 0 (fun _ => true) true Tryz.f4.params.toList args.toList ds p := hA0
  have hV : DataW.TrodVars enc Tryz.prog W (fun _ => true) ["loop.example/g00869/impl.errLoses", "loop.example/g00869/impl.errInvalid", "loop.example/g00869/impl.errLeaves"] gs q := hV0
  have hLS : laidMetH Tryz.prog [lvT, lvI, lvL, lvO] W := hL
  rw [Tryz.params4] at hA hval hsz
  obtain ⟨v0, v1, v2, v3, d0, d1, d2, d3, p0, p1, p2, p3, rfl, rfl, rfl, h0, h1, h2, h3⟩ := trodAll_four hA
  obtain ⟨⟨ai, al, ao, hE, hR⟩, hH⟩ := lv_B hLS
  have vr : ∀ (X : World), LvReads X ai al ao → ∀ sp : Nat → Bool, DataW.TrodVars enc Tryz.prog X sp ["loop.example/g00869/impl.errLoses", "loop.example/g00869/impl.errInvalid", "loop.example/g00869/impl.errLeaves"] [tok enc (.iface 245 (.pointer (some ao))), tok enc (.iface 245 (.pointer (some ai))), tok enc (.iface 245 (.pointer (some al)))] [.cell 0 0, .cell 2 0, .cell 1 0] := fun X hX sp => (lv_cons enc lv_gO lv_tO Tryz.underlying75 hX.2.2 trivial (lv_cons enc lv_gI lv_tI Tryz.underlying75 hX.1 trivial (lv_cons enc lv_gL lv_tL Tryz.underlying75 hX.2.1 trivial (rfl : DataW.TrodVars enc Tryz.prog _ _ [] [] []))))
  obtain ⟨rfl, rfl⟩ := hV.unique (vr W hR _)
  clear hA0 hval0 hV0 hV
  have hw0 : ∀ n ∈ d0.weights Tryz.prog 47, n ≤ reachBytes := fun n hn => by
    have := List.all_eq_true.1 hsz n (DataW.weights_mem_each (j := 0) rfl rfl n hn)
    simpa using this
  have hw2 : ∀ n ∈ d2.weights Tryz.prog 27, n ≤ reachBytes := fun n hn => by
    have := List.all_eq_true.1 hsz n (DataW.weights_mem_each (j := 2) rfl rfl n hn)
    simpa using this
  have hw3 : ∀ n ∈ d3.weights Tryz.prog 27, n ≤ reachBytes := fun n hn => by
    have := List.all_eq_true.1 hsz n (DataW.weights_mem_each (j := 3) rfl rfl n hn)
    simpa using this
  have h0k := h0
  obtain ⟨O0, z0, P0, hx0⟩ := game_of (hval 0 47 v0 rfl rfl) h0 hw0
  have hlt0 : ∀ x ∈ p0, x.block < W.heap.size := fun x hx => hW'.lt x (by simp [hx])
  obtain ⟨n1, rfl, rfl, rfl, wn1⟩ := open_int Tryz.underlying2 (hval 1 2 v1 rfl rfl) h1
  have h2k := h2
  obtain ⟨as2, zs2, cs2, rfl, hx2⟩ := slice_of (hval 2 27 v2 rfl rfl) h2 hw2
  have hlt2 : ∀ x ∈ p2, x.block < W.heap.size := fun x hx => hW'.lt x (by simp [hx])
  have h3k := h3
  obtain ⟨as3, zs3, cs3, rfl, hx3⟩ := slice_of (hval 3 27 v3 rfl rfl) h3 hw3
  have hlt3 : ∀ x ∈ p3, x.block < W.heap.size := fun x hx => hW'.lt x (by simp [hx])
  refine (lawBadLoops hx0 hx2 hx3 ⟨⟨ai, al, ao, hE⟩, hH⟩).mono fun e W' ⟨he, hnx⟩ => ?_
  subst he
  refine ⟨_, rfl, _, _, _, [], _, [.cell 0 0, .cell 2 0, .cell 1 0], hW', trodAll_mk1 (shut_bool Tryz.underlying4 true), trodAll_mk4 (Below.trod (by kernel_rfl) (by kernel_rfl) (of_decide_eq_true (by kernel_rfl)) h0k hnx hlt0) (shut_int Tryz.underlying2 wn1) (Below.trod (by kernel_rfl) (by kernel_rfl) (of_decide_eq_true (by kernel_rfl)) h2k hnx hlt2) (Below.trod (by kernel_rfl) (by kernel_rfl) (of_decide_eq_true (by kernel_rfl)) h3k hnx hlt3), vr W' (hR.below hnx) _, hnx.frame _, fun h => by cases h⟩

theorem said_BadLoops : Rows.FnExactBadLoopsSaid :=
  OpenClaim.holds_of_cond 4 Tryz.f4 rfl rfl rfl rfl rfl rfl rfl ⟨rfl, rfl, rfl, rfl, rfl⟩ rfl rfl rfl rfl rfl (by kernel_rfl) Tryz.func4 (by kernel_rfl)
    (of_decide_eq_true (by kernel_rfl)) (by unfold Func.isWrapper; rw [if_neg (of_decide_eq_false (by kernel_rfl))]; exact ⟨rfl, rfl⟩)
    (fun os started H enc _ F => by rw [OpenClaim.pre_eq_preRow]; exact lifted_BadLoops os started H enc F)

theorem plain_BadLoops (f : FuncId) (fn : Func) (hf : Tryz.pinned.checked.prog.funcNamed "loop.example/g00869/laws.FnExactBadLoops" = some f) (hfn : Tryz.pinned.checked.prog.funcs[f]? = some fn) :
    true = Tryz.pinned.checked.prog.looks [] ∧ ∀ (j : Nat) t, fn.params[j]? = some t → Tryz.pinned.checked.prog.wantsStandIn t = false := by
  obtain rfl : f = 4 := Option.some.inj ((show Tryz.prog.funcNamed "loop.example/g00869/laws.FnExactBadLoops" = some 4 by kernel_rfl).symm.trans hf) |>.symm
  obtain rfl : fn = Tryz.f4 := (Option.some.inj (Tryz.func4.symm.trans hfn)).symm
  refine ⟨by kernel_rfl, fun j t ht => ?_⟩
  rw [Tryz.params4] at ht
  have hm := Array.mem_of_getElem? ht
  simp only [List.mem_toArray, List.mem_cons, List.not_mem_nil, or_false] at hm
  rcases hm with rfl | rfl | rfl | rfl
  · exact (show Tryz.prog.wantsStandIn 47 = false by kernel_rfl)
  · exact (show Tryz.prog.wantsStandIn 2 = false by kernel_rfl)
  · exact (show Tryz.prog.wantsStandIn 27 = false by kernel_rfl)
  · exact (show Tryz.prog.wantsStandIn 27 = false by kernel_rfl)

/-- The tied card. -/
theorem BadLoops_holds : Rows.FnExactBadLoopsCardSaid :=
  Claim7.holds_tied_plain_at .later [] _ _ _ _ said_BadLoops (fun _ h => by cases h) (by kernel_rfl) (fun _ h => by cases h) fnExactBadLoops_row_tie rfl ⟨rfl, rfl⟩ (by kernel_rfl) rfl plain_BadLoops (by kernel_rfl)

end Go.Proofs.YtokcinhopajniaaGreatDoor
