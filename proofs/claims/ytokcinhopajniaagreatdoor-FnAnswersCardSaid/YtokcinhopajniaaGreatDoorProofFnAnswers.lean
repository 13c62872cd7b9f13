/- For every run of bytes, where the program's package-level errors start as its text lays them (the card ties them), the call of FnAnswers returns true, and the bytes read afterwards as they read before: an answer in which one winner is exchanged is rejected. -/
import Derived.Test.YtokcinhopajniaaGreatDoorLawFnAnswers
import Derived.Test.YtokcinhopajniaaGreatDoorLaidW
import Derived.Test.YtokcinhopajniaaGreatDoorCards
import Derived.Test.YtokcinhopajniaaGreatDoorTie
import Derived.Test.YtokcinhopajniaaGreatDoorOpen
import Derived.Carry
import Derived.SevenTiedAt
namespace Go.Proofs.YtokcinhopajniaaGreatDoor
open Go.ChangeShapes Go.WideShapes Go.ChangeAt Go.RowKit

set_option maxRecDepth 100000 in
theorem lifted_FnAnswers (os : Os) (started : os.Started) (H : Type) (enc : TypeId × Value → H) (F : Stop.Interp) :
    ReturnsInHanded {} Tryz.checked os 8 .any ((OpenSpec.ofChange Rows.fnAnswersSpec).preRow enc Tryz.prog Tryz.f8 Rows.fnAnswersRow.domain false Rows.fnAnswersRow.laid) (((OpenSpec.ofChange Rows.fnAnswersSpec).at F).post enc Tryz.prog Tryz.f8 false true false false) := by
  refine returnsInHanded_of_row (C := Tryz.checked) (s := OpenSpec.ofChange Rows.fnAnswersSpec) lv_own started (by kernel_rfl) Tryz.func8
    (witness_row_at (enc := enc) (C := Tryz.checked) false (lvWorld os) #[.slice none 0 0] rfl (by kernel_rfl) (by kernel_rfl) (by kernel_rfl)
      (OpenSpec.preRow_of_B rfl 8 (by kernel_rfl) (by kernel_rfl) (lv_metS os _))) ?_
  intro W base args ds gs before hval0 hW _ _ hsz0 hL _ _
  have hsz : (DataW.weightsEach Tryz.prog (Tryz.f8.params.toList ++ (OpenSpec.ofChange Rows.fnAnswersSpec).bare.plain.varTypes Tryz.prog) (ds ++ gs)).all (· ≤ reachBytes) = true := hsz0
  clear hsz0
  have hval : ∀ (j : Nat) t v, Tryz.f8.params[j]? = some t → args[j]? = some v → Value.okWide Tryz.prog W .any base t v := hval0
  have hW' := hW
  obtain ⟨p, q, hA0, hV0, rfl, _, _⟩ := hW
  have hA : DataW.TrodAll enc Tryz.prog W 0 (fun _ => true) true Tryz.f8.params.toList args.toList ds p := hA0
  have hV : DataW.TrodVars enc Tryz.prog W (fun _ => true) ["loop.example/g00869/impl.errInvalid", "loop.example/g00869/impl.errLoses", "loop.example/g00869/impl.errLeaves"] gs q := hV0
  have hLS : laidMetH Tryz.prog [lvI, lvL, lvO] W := hL
  rw [Tryz.params8] at hA hval hsz
  obtain ⟨v0, d0, rfl, rfl, h0⟩ := trodAll_one hA
  obtain ⟨ai, al, ao, hE, hR⟩ := lv_sent (lv_S hLS)
  have vr : ∀ (X : World), LvReads X ai al ao → ∀ sp : Nat → Bool, DataW.TrodVars enc Tryz.prog X sp ["loop.example/g00869/impl.errInvalid", "loop.example/g00869/impl.errLoses", "loop.example/g00869/impl.errLeaves"] [tok enc (.iface 245 (.pointer (some ai))), tok enc (.iface 245 (.pointer (some ao))), tok enc (.iface 245 (.pointer (some al)))] [.cell 2 0, .cell 0 0, .cell 1 0] := fun X hX sp => (lv_cons enc lv_gI lv_tI Tryz.underlying75 hX.1 trivial (lv_cons enc lv_gO lv_tO Tryz.underlying75 hX.2.2 trivial (lv_cons enc lv_gL lv_tL Tryz.underlying75 hX.2.1 trivial (rfl : DataW.TrodVars enc Tryz.prog _ _ [] [] []))))
  obtain ⟨rfl, rfl⟩ := hV.unique (vr W hR _)
  clear hA0 hval0 hV0 hV
  have hw0 : ∀ n ∈ d0.weights Tryz.prog 22, n ≤ reachBytes := fun n hn => by
    have := List.all_eq_true.1 hsz n (DataW.weights_mem_each (j := 0) rfl rfl n hn)
    simpa using this
  have h0k := h0
  obtain ⟨as0, zs0, cs0, rfl, hx0⟩ := bytes_of (hval 0 22 v0 rfl rfl) h0 hw0
  have hlt0 : ∀ x ∈ p, x.block < W.heap.size := fun x hx => hW'.lt x (by simp [hx])
  refine (lawFnAnswers hx0 ⟨ai, al, ao, hE⟩).mono fun e W' ⟨he, hnx⟩ => ?_
  subst he
  refine ⟨_, rfl, _, _, _, [], _, [.cell 2 0, .cell 0 0, .cell 1 0], hW', trodAll_mk1 (shut_bool Tryz.underlying4 true), trodAll_mk1 (Below.trod (by kernel_rfl) (by kernel_rfl) (of_decide_eq_true (by kernel_rfl)) h0k hnx hlt0), vr W' (hR.below hnx) _, hnx.frame _, fun h => by cases h⟩

theorem said_FnAnswers : Rows.FnAnswersSaid :=
  OpenClaim.holds_of_cond 8 Tryz.f8 rfl rfl rfl rfl rfl rfl rfl ⟨rfl, rfl, rfl, rfl, rfl⟩ rfl rfl rfl rfl rfl (by kernel_rfl) Tryz.func8 (by kernel_rfl)
    (of_decide_eq_true (by kernel_rfl)) (by unfold Func.isWrapper; rw [if_neg (of_decide_eq_false (by kernel_rfl))]; exact ⟨rfl, rfl⟩)
    (fun os started H enc _ F => by rw [OpenClaim.pre_eq_preRow]; exact lifted_FnAnswers os started H enc F)

theorem plain_FnAnswers (f : FuncId) (fn : Func) (hf : Tryz.pinned.checked.prog.funcNamed "loop.example/g00869/laws.FnAnswers" = some f) (hfn : Tryz.pinned.checked.prog.funcs[f]? = some fn) :
    true = Tryz.pinned.checked.prog.looks [] ∧ ∀ (j : Nat) t, fn.params[j]? = some t → Tryz.pinned.checked.prog.wantsStandIn t = false := by
  obtain rfl : f = 8 := Option.some.inj ((show Tryz.prog.funcNamed "loop.example/g00869/laws.FnAnswers" = some 8 by kernel_rfl).symm.trans hf) |>.symm
  obtain rfl : fn = Tryz.f8 := (Option.some.inj (Tryz.func8.symm.trans hfn)).symm
  refine ⟨by kernel_rfl, fun j t ht => ?_⟩
  rw [Tryz.params8] at ht
  have hm := Array.mem_of_getElem? ht
  simp only [List.mem_toArray, List.mem_cons, List.not_mem_nil, or_false] at hm
  rcases hm with rfl
  · exact (show Tryz.prog.wantsStandIn 22 = false by kernel_rfl)

/-- The tied card. -/
theorem FnAnswers_holds : Rows.FnAnswersCardSaid :=
  Claim7.holds_tied_plain_at .later [] _ _ _ _ said_FnAnswers (fun _ h => by cases h) (by kernel_rfl) (fun _ h => by cases h) fnAnswers_row_tie rfl ⟨rfl, rfl⟩ (by kernel_rfl) rfl plain_FnAnswers (by kernel_rfl)

end Go.Proofs.YtokcinhopajniaaGreatDoor
