/- For every game, where the library's table of math/bits starts as its text lays it (the card ties it), the call of FnExactSolved returns true, and all arguments read afterwards as they read before: Solved answers as its model, changes nothing, and its answer is memory of its own. No other condition. -/
import Derived.Test.YtglbkbiphcgidaaDoorCards
import Derived.Test.YtglbkbiphcgidaaDoorTie
import Derived.Carry
import Derived.SevenTiedAt
import Derived.Test.YtglbkbiphcgidaaDoorPm24
import Derived.Test.YtglbkbiphcgidaaDoorPm26
namespace Go.Proofs.YtglbkbiphcgidaaDoor
open Go.ChangeShapes Go.WideShapes Go.ChangeAt Go.RowKit
set_option maxRecDepth 100000 in
theorem aj2 (os : Os) (started : os.Started) (H : Type) (enc : TypeId × Value → H) (F : Stop.Interp) :
    ReturnsInHanded {} Tryd.checked os 4 .any ((OpenSpec.ofChange Rows.fnExactSolvedSpec).preRow enc Tryd.prog Tryd.f4 Rows.fnExactSolvedRow.domain false Rows.fnExactSolvedRow.laid) (((OpenSpec.ofChange Rows.fnExactSolvedSpec).at F).post enc Tryd.prog Tryd.f4 false true false false) := by
  refine returnsInHanded_of_row (C := Tryd.checked) (s := OpenSpec.ofChange Rows.fnExactSolvedSpec) adh started (by kernel_rfl) Tryd.func4
    (witness_row_at (enc := enc) (C := Tryd.checked) false (QH os) #[.agg #[.slice none 0 0, .slice none 0 0, .slice none 0 0]] rfl (by kernel_rfl) (by kernel_rfl) (by kernel_rfl)
      (OpenSpec.preRow_of_B rfl 8 (by kernel_rfl) (by kernel_rfl) (adn os _))) ?_
  intro W base args ds gs before hval0 hW _ _ hsz0 hL _ _
  have hsz : (DataW.weightsEach Tryd.prog (Tryd.f4.params.toList ++ (OpenSpec.ofChange Rows.fnExactSolvedSpec).bare.plain.varTypes Tryd.prog) (ds ++ gs)).all (· ≤ reachBytes) = true := hsz0
  clear hsz0
  have hval : ∀ (j : Nat) t v, Tryd.f4.params[j]? = some t → args[j]? = some v → Value.okWide Tryd.prog W .any base t v := hval0
  have hW' := hW
  obtain ⟨p, q, hA0, hV0, rfl, _, _⟩ := hW
  have hA : DataW.TrodAll enc Tryd.prog W 0 (fun _ => true) true Tryd.f4.params.toList args.toList ds p := hA0
  have hV : DataW.TrodVars enc Tryd.prog W (fun _ => true) [] gs q := hV0
  have YB : laidMetH Tryd.prog [sQ] W := hL
  rw [Tryd.params4] at hA hval hsz
  obtain ⟨v0, d0, rfl, rfl, h0⟩ := trodAll_one hA
  have YC := adk (adl YB)
  have vr : ∀ (X : World) (sp : Nat → Bool), DataW.TrodVars enc Tryd.prog X sp [] [] [] := fun X sp => (rfl : DataW.TrodVars enc Tryd.prog _ _ [] [] [])
  obtain ⟨rfl, rfl⟩ := hV.unique (vr W _)
  clear hA0 hval0 hV0 hV
  have hw0 : ∀ n ∈ d0.weights Tryd.prog 27, n ≤ reachBytes := fun n hn => by
    have := List.all_eq_true.1 hsz n (DataW.weights_mem_each (j := 0) rfl rfl n hn)
    simpa using this
  have h0k := h0
  obtain ⟨O0, z0, P0, hx0⟩ := adu (hval 0 27 v0 rfl rfl) h0 hw0
  have hlt0 : ∀ x ∈ p, x.block < W.heap.size := fun x hx => hW'.lt x (by simp [hx])
  refine (aj0 hx0 YC).mono fun e W' ⟨he, hnx⟩ => ?_
  subst he
  refine ⟨_, rfl, _, _, _, [], _, [], hW', trodAll_mk1 (shut_bool Tryd.underlying4 true), trodAll_mk1 (Below.trod (by kernel_rfl) (by kernel_rfl) (of_decide_eq_true (by kernel_rfl)) h0k hnx hlt0), vr W' _, hnx.frame _, fun h => by cases h⟩
theorem aj3 : Rows.FnExactSolvedSaid :=
  OpenClaim.holds_of_cond 4 Tryd.f4 rfl rfl rfl rfl rfl rfl rfl ⟨rfl, rfl, rfl, rfl, rfl⟩ rfl rfl rfl rfl rfl (by kernel_rfl) Tryd.func4 (by kernel_rfl)
    (of_decide_eq_true (by kernel_rfl)) (by unfold Func.isWrapper; rw [if_neg (of_decide_eq_false (by kernel_rfl))]; exact ⟨rfl, rfl⟩)
    (fun os started H enc _ F => by rw [OpenClaim.pre_eq_preRow]; exact aj2 os started H enc F)
theorem aj6 (f : FuncId) (fn : Func) (hf : Tryd.pinned.checked.prog.funcNamed "loop.example/g00869/laws.FnExactSolved" = some f) (hfn : Tryd.pinned.checked.prog.funcs[f]? = some fn) :
    false = Tryd.pinned.checked.prog.looks [] ∧ ∀ (j : Nat) t, fn.params[j]? = some t → Tryd.pinned.checked.prog.wantsStandIn t = false := by
  obtain rfl : f = 4 := Option.some.inj ((show Tryd.prog.funcNamed "loop.example/g00869/laws.FnExactSolved" = some 4 by kernel_rfl).symm.trans hf) |>.symm
  obtain rfl : fn = Tryd.f4 := (Option.some.inj (Tryd.func4.symm.trans hfn)).symm
  refine ⟨by kernel_rfl, fun j t ht => ?_⟩
  rw [Tryd.params4] at ht
  have hm := Array.mem_of_getElem? ht
  simp only [List.mem_toArray, List.mem_cons, List.not_mem_nil, or_false] at hm
  rcases hm with rfl
  · exact (show Tryd.prog.wantsStandIn 27 = false by kernel_rfl)
/-- The tied card. -/
theorem Solved_holds : Rows.FnExactSolvedCardSaid :=
  Claim7.holds_tied_plain_at .later [] _ _ _ _ aj3 (fun _ h => by cases h) (by kernel_rfl) (fun _ h => by cases h) fnExactSolved_row_tie rfl ⟨rfl, rfl⟩ (by kernel_rfl) rfl aj6 (by kernel_rfl)
end Go.Proofs.YtglbkbiphcgidaaDoor
