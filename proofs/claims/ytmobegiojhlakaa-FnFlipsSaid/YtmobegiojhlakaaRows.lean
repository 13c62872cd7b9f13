/-
  No cell of these rows narrows 'for every input' (looked for: loops, veiled, ifaces, maps, wideKeys, modest, calm, conditions, laid).
  DERIVED. THE GIVEN ROWS OF THIS SEAT. 11 by the template 'for every input the law returns true; each argument reads behind the call as it read before'; 0 by the template 'total and deterministic' (their statements: YtmobegiojhlakaaTotals.lean).
  GIVEN WITH THE SEED: the statements are not yours to turn. If you find one false, say at which input.
  Laid BY PROGRAM, IN A SANDBOX (cutbox-rows.mjs): the forced cells as the released guide's own fill.sh prints them over the translation b46ac66fa69608a0… (all of the seat's roots in one cut). By AI agents, Wed Nov 11 2026. No macro, syntax, notation, axiom, sorry.
-/
import Derived.Test.YtmobegiojhlakaaChecked
import GoSem.Claim
import GoSem.ClaimJoined
import GoSem.ClaimMapViews
import Derived.JoinedTies
import Derived.KernelRfl
namespace Go.Proofs.Ytmobegiojhlakaa
/- THE CELL 'sum', in the pinned program and in every row, IS THE sha256 OF THE DUMP (.gsa) THAT YtmobegiojhlakaaProg.lean LOADS. Nothing in Lean hashes anything: it is a label: what it is worth is what the hold of that sum in a sandbox is worth. -/
noncomputable def Try.pinned : Pinned := { name := "ytmobegiojhlakaa", sum := "b46ac66fa69608a02c4a68fc5c3d8f9f15089b4de5ce7c9f3d24c2268a17ac7e", checked := Try.checked }
namespace Rows
def none {H : Type} : Left H := { results := [], args := [] }

/-- 'laws.FnFlips': WHATEVER THE INPUT: true; the input reads as it did. -/
def fnFlipsSpec : ChangeSpec := { name := "fnFlips", fn := fun _ => fun
  | [d] => { results := [.lit (.bool true)], args := [d] }
  | _ => none }
def fnFlipsRow : OpenClaim := { program := "ytmobegiojhlakaa", sum := "b46ac66fa69608a02c4a68fc5c3d8f9f15089b4de5ce7c9f3d24c2268a17ac7e", func := "loop.example/g00869/laws.FnFlips", spec := "fnFlips", unfollowed := true, recurses := true, apart := false }
def FnFlipsSaid : Prop := fnFlipsRow.holds Try.pinned (OpenSpec.ofChange fnFlipsSpec)

/-- ITS FALSE NEIGHBOUR: 'it returns false'. Refute it at one input. -/
def fnFlipsWrong : ChangeSpec := { name := "fnFlips", fn := fun _ => fun
  | [d] => { results := [.lit (.bool false)], args := [d] }
  | _ => none }
def FnFlipsWrongFalsely : Prop := fnFlipsRow.holds Try.pinned (OpenSpec.ofChange fnFlipsWrong)

/-- 'laws.FnPressed': WHATEVER THE INPUT: true; the input reads as it did. -/
def fnPressedSpec : ChangeSpec := { name := "fnPressed", fn := fun _ => fun
  | [d] => { results := [.lit (.bool true)], args := [d] }
  | _ => none }
def fnPressedRow : OpenClaim := { program := "ytmobegiojhlakaa", sum := "b46ac66fa69608a02c4a68fc5c3d8f9f15089b4de5ce7c9f3d24c2268a17ac7e", func := "loop.example/g00869/laws.FnPressed", spec := "fnPressed", unfollowed := true, recurses := true, apart := false }
def FnPressedSaid : Prop := fnPressedRow.holds Try.pinned (OpenSpec.ofChange fnPressedSpec)

/-- ITS FALSE NEIGHBOUR: 'it returns false'. Refute it at one input. -/
def fnPressedWrong : ChangeSpec := { name := "fnPressed", fn := fun _ => fun
  | [d] => { results := [.lit (.bool false)], args := [d] }
  | _ => none }
def FnPressedWrongFalsely : Prop := fnPressedRow.holds Try.pinned (OpenSpec.ofChange fnPressedWrong)

/-- 'laws.FnExactTurned': WHATEVER THE INPUT: true; the input reads as it did. -/
def fnExactTurnedSpec : ChangeSpec := { name := "fnExactTurned", fn := fun _ => fun
  | [d] => { results := [.lit (.bool true)], args := [d] }
  | _ => none }
def fnExactTurnedRow : OpenClaim := { program := "ytmobegiojhlakaa", sum := "b46ac66fa69608a02c4a68fc5c3d8f9f15089b4de5ce7c9f3d24c2268a17ac7e", func := "loop.example/g00869/laws.FnExactTurned", spec := "fnExactTurned", apart := false }
def FnExactTurnedSaid : Prop := fnExactTurnedRow.holds Try.pinned (OpenSpec.ofChange fnExactTurnedSpec)

/-- ITS FALSE NEIGHBOUR: 'it returns false'. Refute it at one input. -/
def fnExactTurnedWrong : ChangeSpec := { name := "fnExactTurned", fn := fun _ => fun
  | [d] => { results := [.lit (.bool false)], args := [d] }
  | _ => none }
def FnExactTurnedWrongFalsely : Prop := fnExactTurnedRow.holds Try.pinned (OpenSpec.ofChange fnExactTurnedWrong)

/-- 'laws.FnExactParityOk': WHATEVER THE INPUT: true; the input reads as it did. -/
def fnExactParityOkSpec : ChangeSpec := { name := "fnExactParityOk", fn := fun _ => fun
  | [d] => { results := [.lit (.bool true)], args := [d] }
  | _ => none }
def fnExactParityOkRow : OpenClaim := { program := "ytmobegiojhlakaa", sum := "b46ac66fa69608a02c4a68fc5c3d8f9f15089b4de5ce7c9f3d24c2268a17ac7e", func := "loop.example/g00869/laws.FnExactParityOk", spec := "fnExactParityOk", apart := false }
def FnExactParityOkSaid : Prop := fnExactParityOkRow.holds Try.pinned (OpenSpec.ofChange fnExactParityOkSpec)

/-- ITS FALSE NEIGHBOUR: 'it returns false'. Refute it at one input. -/
def fnExactParityOkWrong : ChangeSpec := { name := "fnExactParityOk", fn := fun _ => fun
  | [d] => { results := [.lit (.bool false)], args := [d] }
  | _ => none }
def FnExactParityOkWrongFalsely : Prop := fnExactParityOkRow.holds Try.pinned (OpenSpec.ofChange fnExactParityOkWrong)

/-- 'laws.FnExactSameParity': WHATEVER THE INPUT: true; the input reads as it did. -/
def fnExactSameParitySpec : ChangeSpec := { name := "fnExactSameParity", fn := fun _ => fun
  | [d1, d2] => { results := [.lit (.bool true)], args := [d1, d2] }
  | _ => none }
def fnExactSameParityRow : OpenClaim := { program := "ytmobegiojhlakaa", sum := "b46ac66fa69608a02c4a68fc5c3d8f9f15089b4de5ce7c9f3d24c2268a17ac7e", func := "loop.example/g00869/laws.FnExactSameParity", spec := "fnExactSameParity", unfollowed := true, recurses := true, apart := false }
def FnExactSameParitySaid : Prop := fnExactSameParityRow.holds Try.pinned (OpenSpec.ofChange fnExactSameParitySpec)

/-- ITS FALSE NEIGHBOUR: 'it returns false'. Refute it at one input. -/
def fnExactSameParityWrong : ChangeSpec := { name := "fnExactSameParity", fn := fun _ => fun
  | [d1, d2] => { results := [.lit (.bool false)], args := [d1, d2] }
  | _ => none }
def FnExactSameParityWrongFalsely : Prop := fnExactSameParityRow.holds Try.pinned (OpenSpec.ofChange fnExactSameParityWrong)

/-- 'laws.FnExactTopIn': WHATEVER THE INPUT: true; the input reads as it did. -/
def fnExactTopInSpec : ChangeSpec := { name := "fnExactTopIn", fn := fun _ => fun
  | [d1, d2] => { results := [.lit (.bool true)], args := [d1, d2] }
  | _ => none }
def fnExactTopInRow : OpenClaim := { program := "ytmobegiojhlakaa", sum := "b46ac66fa69608a02c4a68fc5c3d8f9f15089b4de5ce7c9f3d24c2268a17ac7e", func := "loop.example/g00869/laws.FnExactTopIn", spec := "fnExactTopIn", apart := false }
def FnExactTopInSaid : Prop := fnExactTopInRow.holds Try.pinned (OpenSpec.ofChange fnExactTopInSpec)

/-- ITS FALSE NEIGHBOUR: 'it returns false'. Refute it at one input. -/
def fnExactTopInWrong : ChangeSpec := { name := "fnExactTopIn", fn := fun _ => fun
  | [d1, d2] => { results := [.lit (.bool false)], args := [d1, d2] }
  | _ => none }
def FnExactTopInWrongFalsely : Prop := fnExactTopInRow.holds Try.pinned (OpenSpec.ofChange fnExactTopInWrong)

/-- 'laws.FnExactWithPrio': WHATEVER THE INPUT: true; the input reads as it did. -/
def fnExactWithPrioSpec : ChangeSpec := { name := "fnExactWithPrio", fn := fun _ => fun
  | [d1, d2, d3] => { results := [.lit (.bool true)], args := [d1, d2, d3] }
  | _ => none }
def fnExactWithPrioRow : OpenClaim := { program := "ytmobegiojhlakaa", sum := "b46ac66fa69608a02c4a68fc5c3d8f9f15089b4de5ce7c9f3d24c2268a17ac7e", func := "loop.example/g00869/laws.FnExactWithPrio", spec := "fnExactWithPrio", apart := false }
def FnExactWithPrioSaid : Prop := fnExactWithPrioRow.holds Try.pinned (OpenSpec.ofChange fnExactWithPrioSpec)

/-- ITS FALSE NEIGHBOUR: 'it returns false'. Refute it at one input. -/
def fnExactWithPrioWrong : ChangeSpec := { name := "fnExactWithPrio", fn := fun _ => fun
  | [d1, d2, d3] => { results := [.lit (.bool false)], args := [d1, d2, d3] }
  | _ => none }
def FnExactWithPrioWrongFalsely : Prop := fnExactWithPrioRow.holds Try.pinned (OpenSpec.ofChange fnExactWithPrioWrong)

/-- 'laws.FnExactPriosIn': WHATEVER THE INPUT: true; the input reads as it did. -/
def fnExactPriosInSpec : ChangeSpec := { name := "fnExactPriosIn", fn := fun _ => fun
  | [d1, d2] => { results := [.lit (.bool true)], args := [d1, d2] }
  | _ => none }
def fnExactPriosInRow : OpenClaim := { program := "ytmobegiojhlakaa", sum := "b46ac66fa69608a02c4a68fc5c3d8f9f15089b4de5ce7c9f3d24c2268a17ac7e", func := "loop.example/g00869/laws.FnExactPriosIn", spec := "fnExactPriosIn", unfollowed := true, recurses := true, apart := false }
def FnExactPriosInSaid : Prop := fnExactPriosInRow.holds Try.pinned (OpenSpec.ofChange fnExactPriosInSpec)

/-- ITS FALSE NEIGHBOUR: 'it returns false'. Refute it at one input. -/
def fnExactPriosInWrong : ChangeSpec := { name := "fnExactPriosIn", fn := fun _ => fun
  | [d1, d2] => { results := [.lit (.bool false)], args := [d1, d2] }
  | _ => none }
def FnExactPriosInWrongFalsely : Prop := fnExactPriosInRow.holds Try.pinned (OpenSpec.ofChange fnExactPriosInWrong)

/-- 'laws.FnExactFlipped': WHATEVER THE INPUT: true; the input reads as it did. -/
def fnExactFlippedSpec : ChangeSpec := { name := "fnExactFlipped", fn := fun _ => fun
  | [d] => { results := [.lit (.bool true)], args := [d] }
  | _ => none }
def fnExactFlippedRow : OpenClaim := { program := "ytmobegiojhlakaa", sum := "b46ac66fa69608a02c4a68fc5c3d8f9f15089b4de5ce7c9f3d24c2268a17ac7e", func := "loop.example/g00869/laws.FnExactFlipped", spec := "fnExactFlipped", apart := false }
def FnExactFlippedSaid : Prop := fnExactFlippedRow.holds Try.pinned (OpenSpec.ofChange fnExactFlippedSpec)

/-- ITS FALSE NEIGHBOUR: 'it returns false'. Refute it at one input. -/
def fnExactFlippedWrong : ChangeSpec := { name := "fnExactFlipped", fn := fun _ => fun
  | [d] => { results := [.lit (.bool false)], args := [d] }
  | _ => none }
def FnExactFlippedWrongFalsely : Prop := fnExactFlippedRow.holds Try.pinned (OpenSpec.ofChange fnExactFlippedWrong)

/-- 'laws.FnExactPressed': WHATEVER THE INPUT: true; the input reads as it did. -/
def fnExactPressedSpec : ChangeSpec := { name := "fnExactPressed", fn := fun _ => fun
  | [d] => { results := [.lit (.bool true)], args := [d] }
  | _ => none }
def fnExactPressedRow : OpenClaim := { program := "ytmobegiojhlakaa", sum := "b46ac66fa69608a02c4a68fc5c3d8f9f15089b4de5ce7c9f3d24c2268a17ac7e", func := "loop.example/g00869/laws.FnExactPressed", spec := "fnExactPressed", unfollowed := true, recurses := true, apart := false }
def FnExactPressedSaid : Prop := fnExactPressedRow.holds Try.pinned (OpenSpec.ofChange fnExactPressedSpec)

/-- ITS FALSE NEIGHBOUR: 'it returns false'. Refute it at one input. -/
def fnExactPressedWrong : ChangeSpec := { name := "fnExactPressed", fn := fun _ => fun
  | [d] => { results := [.lit (.bool false)], args := [d] }
  | _ => none }
def FnExactPressedWrongFalsely : Prop := fnExactPressedRow.holds Try.pinned (OpenSpec.ofChange fnExactPressedWrong)

/-- 'laws.FnExactSubgameOf': WHATEVER THE INPUT: true; the input reads as it did. -/
def fnExactSubgameOfSpec : ChangeSpec := { name := "fnExactSubgameOf", fn := fun _ => fun
  | [d1, d2] => { results := [.lit (.bool true)], args := [d1, d2] }
  | _ => none }
def fnExactSubgameOfRow : OpenClaim := { program := "ytmobegiojhlakaa", sum := "b46ac66fa69608a02c4a68fc5c3d8f9f15089b4de5ce7c9f3d24c2268a17ac7e", func := "loop.example/g00869/laws.FnExactSubgameOf", spec := "fnExactSubgameOf", apart := false }
def FnExactSubgameOfSaid : Prop := fnExactSubgameOfRow.holds Try.pinned (OpenSpec.ofChange fnExactSubgameOfSpec)

/-- ITS FALSE NEIGHBOUR: 'it returns false'. Refute it at one input. -/
def fnExactSubgameOfWrong : ChangeSpec := { name := "fnExactSubgameOf", fn := fun _ => fun
  | [d1, d2] => { results := [.lit (.bool false)], args := [d1, d2] }
  | _ => none }
def FnExactSubgameOfWrongFalsely : Prop := fnExactSubgameOfRow.holds Try.pinned (OpenSpec.ofChange fnExactSubgameOfWrong)

/- THE SECOND FORM. 'bulk': how many values and letters a reading holds, each counted each time it is reached (what is shared counts as often as it is met; a slice's spare places count too). A statement '..UptoSaid' is the law's where the arguments, and the package variables that the reading takes, are together of bulk at most 1048576: NARROWER than '..Said'. Prove '..Said' where nothing that the law and all that it calls make is longer than what came in: it says more and counts as full. Else prove '..UptoSaid'. A law counts once. -/
mutual
def uptoBulk {H : Type} : DataW H → Nat
  | .lit (.string bytes) => bytes.length + 1
  | .lit _ => 1
  | .nil => 1
  | .ptr d => uptoBulk d + 1
  | .slice elems spare => uptoBulkAll elems + uptoBulkAll spare + 1
  | .agg parts => uptoBulkAll parts + 1
  | .iface _ d => uptoBulk d + 1
  | .map entries => uptoBulkEntries entries + 1
  | .held _ => 1
def uptoBulkAll {H : Type} : List (DataW H) → Nat
  | [] => 0
  | d :: r => uptoBulk d + uptoBulkAll r
def uptoBulkEntries {H : Type} : List (Lit × DataW H) → Nat
  | [] => 0
  | x :: r => uptoBulkEntry x + uptoBulkEntries r
def uptoBulkEntry {H : Type} : Lit × DataW H → Nat
  | (.string bytes, d) => bytes.length + uptoBulk d + 1
  | (_, d) => uptoBulk d + 1
 end
def uptoSmall : (H : Type) → List (DataW H) → Bool := fun _ ds => decide (uptoBulkAll ds ≤ 1048576)
def OpenSpec.upto (s : _root_.Go.ChangeSpec) : _root_.Go.OpenSpec := { _root_.Go.OpenSpec.ofChange s with cond := some uptoSmall }

/-- 'laws.FnFlips', WHERE WHAT IT READS IS OF BULK AT MOST 1048576: true; the input reads as it did. -/
def fnFlipsUptoRow : OpenClaim := { program := "ytmobegiojhlakaa", sum := "b46ac66fa69608a02c4a68fc5c3d8f9f15089b4de5ce7c9f3d24c2268a17ac7e", func := "loop.example/g00869/laws.FnFlips", spec := "fnFlips", unfollowed := true, recurses := true, apart := false, narrowed := true }
def FnFlipsUptoSaid : Prop := fnFlipsUptoRow.holds Try.pinned (OpenSpec.upto fnFlipsSpec)

/-- 'laws.FnPressed', WHERE WHAT IT READS IS OF BULK AT MOST 1048576: true; the input reads as it did. -/
def fnPressedUptoRow : OpenClaim := { program := "ytmobegiojhlakaa", sum := "b46ac66fa69608a02c4a68fc5c3d8f9f15089b4de5ce7c9f3d24c2268a17ac7e", func := "loop.example/g00869/laws.FnPressed", spec := "fnPressed", unfollowed := true, recurses := true, apart := false, narrowed := true }
def FnPressedUptoSaid : Prop := fnPressedUptoRow.holds Try.pinned (OpenSpec.upto fnPressedSpec)

/-- 'laws.FnExactTurned', WHERE WHAT IT READS IS OF BULK AT MOST 1048576: true; the input reads as it did. -/
def fnExactTurnedUptoRow : OpenClaim := { program := "ytmobegiojhlakaa", sum := "b46ac66fa69608a02c4a68fc5c3d8f9f15089b4de5ce7c9f3d24c2268a17ac7e", func := "loop.example/g00869/laws.FnExactTurned", spec := "fnExactTurned", apart := false, narrowed := true }
def FnExactTurnedUptoSaid : Prop := fnExactTurnedUptoRow.holds Try.pinned (OpenSpec.upto fnExactTurnedSpec)

/-- 'laws.FnExactParityOk', WHERE WHAT IT READS IS OF BULK AT MOST 1048576: true; the input reads as it did. -/
def fnExactParityOkUptoRow : OpenClaim := { program := "ytmobegiojhlakaa", sum := "b46ac66fa69608a02c4a68fc5c3d8f9f15089b4de5ce7c9f3d24c2268a17ac7e", func := "loop.example/g00869/laws.FnExactParityOk", spec := "fnExactParityOk", apart := false, narrowed := true }
def FnExactParityOkUptoSaid : Prop := fnExactParityOkUptoRow.holds Try.pinned (OpenSpec.upto fnExactParityOkSpec)

/-- 'laws.FnExactSameParity', WHERE WHAT IT READS IS OF BULK AT MOST 1048576: true; the input reads as it did. -/
def fnExactSameParityUptoRow : OpenClaim := { program := "ytmobegiojhlakaa", sum := "b46ac66fa69608a02c4a68fc5c3d8f9f15089b4de5ce7c9f3d24c2268a17ac7e", func := "loop.example/g00869/laws.FnExactSameParity", spec := "fnExactSameParity", unfollowed := true, recurses := true, apart := false, narrowed := true }
def FnExactSameParityUptoSaid : Prop := fnExactSameParityUptoRow.holds Try.pinned (OpenSpec.upto fnExactSameParitySpec)

/-- 'laws.FnExactTopIn', WHERE WHAT IT READS IS OF BULK AT MOST 1048576: true; the input reads as it did. -/
def fnExactTopInUptoRow : OpenClaim := { program := "ytmobegiojhlakaa", sum := "b46ac66fa69608a02c4a68fc5c3d8f9f15089b4de5ce7c9f3d24c2268a17ac7e", func := "loop.example/g00869/laws.FnExactTopIn", spec := "fnExactTopIn", apart := false, narrowed := true }
def FnExactTopInUptoSaid : Prop := fnExactTopInUptoRow.holds Try.pinned (OpenSpec.upto fnExactTopInSpec)

/-- 'laws.FnExactWithPrio', WHERE WHAT IT READS IS OF BULK AT MOST 1048576: true; the input reads as it did. -/
def fnExactWithPrioUptoRow : OpenClaim := { program := "ytmobegiojhlakaa", sum := "b46ac66fa69608a02c4a68fc5c3d8f9f15089b4de5ce7c9f3d24c2268a17ac7e", func := "loop.example/g00869/laws.FnExactWithPrio", spec := "fnExactWithPrio", apart := false, narrowed := true }
def FnExactWithPrioUptoSaid : Prop := fnExactWithPrioUptoRow.holds Try.pinned (OpenSpec.upto fnExactWithPrioSpec)

/-- 'laws.FnExactPriosIn', WHERE WHAT IT READS IS OF BULK AT MOST 1048576: true; the input reads as it did. -/
def fnExactPriosInUptoRow : OpenClaim := { program := "ytmobegiojhlakaa", sum := "b46ac66fa69608a02c4a68fc5c3d8f9f15089b4de5ce7c9f3d24c2268a17ac7e", func := "loop.example/g00869/laws.FnExactPriosIn", spec := "fnExactPriosIn", unfollowed := true, recurses := true, apart := false, narrowed := true }
def FnExactPriosInUptoSaid : Prop := fnExactPriosInUptoRow.holds Try.pinned (OpenSpec.upto fnExactPriosInSpec)

/-- 'laws.FnExactFlipped', WHERE WHAT IT READS IS OF BULK AT MOST 1048576: true; the input reads as it did. -/
def fnExactFlippedUptoRow : OpenClaim := { program := "ytmobegiojhlakaa", sum := "b46ac66fa69608a02c4a68fc5c3d8f9f15089b4de5ce7c9f3d24c2268a17ac7e", func := "loop.example/g00869/laws.FnExactFlipped", spec := "fnExactFlipped", apart := false, narrowed := true }
def FnExactFlippedUptoSaid : Prop := fnExactFlippedUptoRow.holds Try.pinned (OpenSpec.upto fnExactFlippedSpec)

/-- 'laws.FnExactPressed', WHERE WHAT IT READS IS OF BULK AT MOST 1048576: true; the input reads as it did. -/
def fnExactPressedUptoRow : OpenClaim := { program := "ytmobegiojhlakaa", sum := "b46ac66fa69608a02c4a68fc5c3d8f9f15089b4de5ce7c9f3d24c2268a17ac7e", func := "loop.example/g00869/laws.FnExactPressed", spec := "fnExactPressed", unfollowed := true, recurses := true, apart := false, narrowed := true }
def FnExactPressedUptoSaid : Prop := fnExactPressedUptoRow.holds Try.pinned (OpenSpec.upto fnExactPressedSpec)

/-- 'laws.FnExactSubgameOf', WHERE WHAT IT READS IS OF BULK AT MOST 1048576: true; the input reads as it did. -/
def fnExactSubgameOfUptoRow : OpenClaim := { program := "ytmobegiojhlakaa", sum := "b46ac66fa69608a02c4a68fc5c3d8f9f15089b4de5ce7c9f3d24c2268a17ac7e", func := "loop.example/g00869/laws.FnExactSubgameOf", spec := "fnExactSubgameOf", apart := false, narrowed := true }
def FnExactSubgameOfUptoSaid : Prop := fnExactSubgameOfUptoRow.holds Try.pinned (OpenSpec.upto fnExactSubgameOfSpec)

end Rows
end Go.Proofs.Ytmobegiojhlakaa
