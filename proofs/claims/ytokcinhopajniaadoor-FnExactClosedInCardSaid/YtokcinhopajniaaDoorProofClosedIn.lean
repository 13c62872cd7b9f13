/- For every arena and every number and every slice of numbers and every slice of numbers, where the program's package-level errors start as its text lays them (the card ties them), the call of FnExactClosedIn returns true, and all arguments read afterwards as they read before: ClosedIn answers as its model and changes nothing. -/
import Derived.Test.YtokcinhopajniaaDoorLawClosedIn
import Derived.Test.YtokcinhopajniaaDoorLaidC
import Derived.Test.YtokcinhopajniaaDoorCards
import Derived.Test.YtokcinhopajniaaDoorTie
import Derived.Test.YtokcinhopajniaaDoorOpen
import Derived.Carry
import Derived.SevenTiedAt
namespace Go.Proofs.YtokcinhopajniaaDoor
open Go.ChangeShapes Go.WideShapes Go.ChangeAt Go.RowKit

set_option maxRecDepth 100000 in
theorem lifted_ClosedIn (os : Os) (started : os.Started) (H : Type) (enc : TypeId × Value → H) (F : Stop.Interp) :
    ReturnsInHanded {} Tryd.checked os 3 .any ((OpenSpec.ofChange Rows.fnExactClosedInSpec).preRow enc Tryd.prog Tryd.f3 Rows.fnExactClosedInRow.domain false Rows.fnExactClosedInRow.laid) (((OpenSpec.ofChange Rows.fnExactClosedInSpec).at F).post enc Tryd.prog Tryd.f3 false true false false) := by
  refine returnsInHanded_of_row (C := Tryd.checked) (s := OpenSpec.ofChange Rows.fnExactClosedInSpec) lv_own started (by kernel_rfl) Tryd.func3
    (witness_row_at (enc := enc) (C := Tryd.checked) false (lvWorld os) #[.agg #[.slice none 0 0, .slice none 0 0], .int .i64 0, .slice none 0 0, .slice none 0 0] rfl (by kernel_rfl) (by kernel_rfl) (by kernel_rfl)
      (OpenSpec.preRow_of_B rfl 8 (by kernel_rfl) (by kernel_rfl) (lv_metS os _))) ?_
  intro W base args ds gs before hval0 hW _ _ hsz0 hL _ _
  have hsz : (DataW.weightsEach Tryd.prog (Tryd.f3.params.toList ++ (OpenSpec.ofChange Rows.fnExactClosedInSpec).bare.plain.varTypes Tryd.prog) (ds ++ gs)).all (· ≤ reachBytes) = true := hsz0
  clear hsz0
  have hval : ∀ (j : Nat) t v, Tryd.f3.params[j]? = some t → args[j]? = some v → Value.okWide Tryd.prog W .any base t v := hval0
  have hW' := hW
  obtain ⟨p, q, hA0, hV0, rfl, _, _⟩ := hW
  have hA : DataW.TrodAll enc Tryd.prog W 0 (fun _ => true) true Tryd.f3.params.toList args.toList ds p := hA0
  have hV : DataW.TrodVars enc Tryd.prog W (fun _ => true) ["loop.example/g00869/impl.errInvalid", "loop.example/g00869/impl.errLeaves"] gs q := hV0
  have hLS : laidMetH Tryd.prog [lvI, lvL] W := hL
  rw [Tryd.params3] at hA hval hsz
  obtain ⟨v0, v1, v2, v3, d0, d1, d2, d3, p0, p1, p2, p3, rfl, rfl, rfl, h0, h1, h2, h3⟩ := trodAll_four hA
  obtain ⟨ai, al, hE, hR⟩ := lv_sent (lv_S hLS)
  have vr : ∀ (X : World), LvReads X ai al → ∀ sp : Nat → Bool, DataW.TrodVars enc Tryd.prog X sp ["loop.example/g00869/impl.errInvalid", "loop.example/g00869/impl.errLeaves"] [tok enc (.iface 64 (.pointer (some ai))), tok enc (.iface 64 (.pointer (some al)))] [.cell 0 0, .cell 1 0] := fun X hX sp => (lv_cons enc lv_gI lv_tI Tryd.underlying42 hX.1 trivial (lv_cons enc lv_gL lv_tL Tryd.underlying42 hX.2 trivial (rfl : DataW.TrodVars enc Tryd.prog _ _ [] [] [])))
  obtain ⟨rfl, rfl⟩ := hV.unique (vr W hR _)
  clear hA0 hval0 hV0 hV
  have hw0 : ∀ n ∈ d0.weights Tryd.prog 25, n ≤ reachBytes := fun n hn => by
    have := List.all_eq_true.1 hsz n (DataW.weights_mem_each (j := 0) rfl rfl n hn)
    simpa using this
  have hw2 : ∀ n ∈ d2.weights Tryd.prog 22, n ≤ reachBytes := fun n hn => by
    have := List.all_eq_true.1 hsz n (DataW.weights_mem_each (j := 2) rfl rfl n hn)
    simpa using this
  have hw3 : ∀ n ∈ d3.weights Tryd.prog 22, n ≤ reachBytes := fun n hn => by
    have := List.all_eq_true.1 hsz n (DataW.weights_mem_each (j := 3) rfl rfl n hn)
    simpa using this
  have h0k := h0
  obtain ⟨O0, z0, hx0⟩ := arena_of (hval 0 25 v0 rfl rfl) h0 hw0
  have hlt0 : ∀ x ∈ p0, x.block < W.heap.size := fun x hx => hW'.lt x (by simp [hx])
  obtain ⟨n1, rfl, rfl, rfl, wn1⟩ := open_int Tryd.underlying2 (hval 1 2 v1 rfl rfl) h1
  have h2k := h2
  obtain ⟨as2, zs2, cs2, rfl, hx2⟩ := slice_of (hval 2 22 v2 rfl rfl) h2 hw2
  have hlt2 : ∀ x ∈ p2, x.block < W.heap.size := fun x hx => hW'.lt x (by simp [hx])
  have h3k := h3
  obtain ⟨as3, zs3, cs3, rfl, hx3⟩ := slice_of (hval 3 22 v3 rfl rfl) h3 hw3
  have hlt3 : ∀ x ∈ p3, x.block < W.heap.size := fun x hx => hW'.lt x (by simp [hx])
  refine (lawClosedIn hx0 hx2 hx3 ⟨ai, al, hE⟩).mono fun e W' ⟨he, hnx⟩ => ?_
  subst he
  refine ⟨_, rfl, _, _, _, [], _, [.cell 0 0, .cell 1 0], hW', trodAll_mk1 (shut_bool Tryd.underlying4 true), trodAll_mk4 (Below.trod (by kernel_rfl) (by kernel_rfl) (of_decide_eq_true (by kernel_rfl)) h0k hnx hlt0) (shut_int Tryd.underlying2 wn1) (Below.trod (by kernel_rfl) (by kernel_rfl) (of_decide_eq_true (by kernel_rfl)) h2k hnx hlt2) (Below.trod (by kernel_rfl) (by kernel_rfl) (of_decide_eq_true (by kernel_rfl)) h3k hnx hlt3), vr W' (hR.below hnx) _, hnx.frame _, fun h => by cases h⟩

theorem said_ClosedIn : Rows.FnExactClosedInSaid :=
  OpenClaim.holds_of_cond 3 Tryd.f3 rfl rfl rfl rfl rfl rfl rfl ⟨rfl, rfl, rfl, rfl, rfl⟩ rfl rfl rfl rfl rfl (by kernel_rfl) Tryd.func3 (by kernel_rfl)
    (of_decide_eq_true (by kernel_rfl)) (by unfold Func.isWrapper; rw [if_neg (of_decide_eq_false (by kernel_rfl))]; exact ⟨rfl, rfl⟩)
    (fun os started H enc _ F => by rw [OpenClaim.pre_eq_preRow]; exact lifted_ClosedIn os started H enc F)

theorem plain_ClosedIn (f : FuncId) (fn : Func) (hf : Tryd.pinned.checked.prog.funcNamed "loop.example/g00869/laws.FnExactClosedIn" = some f) (hfn : Tryd.pinned.checked.prog.funcs[f]? = some fn) :
    false = Tryd.pinned.checked.prog.looks [] ∧ ∀ (j : Nat) t, fn.params[j]? = some t → Tryd.pinned.checked.prog.wantsStandIn t = false := by
  obtain rfl : f = 3 := Option.some.inj ((show Tryd.prog.funcNamed "loop.example/g00869/laws.FnExactClosedIn" = some 3 by kernel_rfl).symm.trans hf) |>.symm
  obtain rfl : fn = Tryd.f3 := (Option.some.inj (Tryd.func3.symm.trans hfn)).symm
  refine ⟨by kernel_rfl, fun j t ht => ?_⟩
  rw [Tryd.params3] at ht
  have hm := Array.mem_of_getElem? ht
  simp only [List.mem_toArray, List.mem_cons, List.not_mem_nil, or_false] at hm
  rcases hm with rfl | rfl | rfl | rfl
  · exact (show Tryd.prog.wantsStandIn 25 = false by kernel_rfl)
  · exact (show Tryd.prog.wantsStandIn 2 = false by kernel_rfl)
  · exact (show Tryd.prog.wantsStandIn 22 = false by kernel_rfl)
  · exact (show Tryd.prog.wantsStandIn 22 = false by kernel_rfl)

/-- The tied card. -/
theorem ClosedIn_holds : Rows.FnExactClosedInCardSaid :=
  Claim7.holds_tied_plain_at .later [] _ _ _ _ said_ClosedIn (fun _ h => by cases h) (by kernel_rfl) (fun _ h => by cases h) fnExactClosedIn_row_tie rfl ⟨rfl, rfl⟩ (by kernel_rfl) rfl plain_ClosedIn (by kernel_rfl)

end Go.Proofs.YtokcinhopajniaaDoor
