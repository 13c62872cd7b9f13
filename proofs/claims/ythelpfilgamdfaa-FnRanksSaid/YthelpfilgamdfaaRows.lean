/-
  No cell of these rows narrows 'for every input' (looked for: loops, veiled, ifaces, maps, wideKeys, modest, calm, conditions, laid).
  DERIVED. THE GIVEN ROWS OF THIS SEAT. 7 by the template 'for every input the law returns true; each argument reads behind the call as it read before'; 0 by the template 'total and deterministic' (their statements: YthelpfilgamdfaaTotals.lean).
  GIVEN WITH THE SEED: the statements are not yours to turn. If you find one false, say at which input.
  Laid BY PROGRAM, IN A SANDBOX (cutbox-rows.mjs): the forced cells as the released guide's own fill.sh prints them over the translation 6583968e704602e8… (all of the seat's roots in one cut). By AI agents, Wed Nov 11 2026. No macro, syntax, notation, axiom, sorry.
-/
import Derived.Test.YthelpfilgamdfaaChecked
import GoSem.Claim
import GoSem.ClaimJoined
import GoSem.ClaimMapViews
import Derived.JoinedTies
import Derived.KernelRfl
namespace Go.Proofs.Ythelpfilgamdfaa
/- THE CELL 'sum', in the pinned program and in every row, IS THE sha256 OF THE DUMP (.gsa) THAT YthelpfilgamdfaaProg.lean LOADS. Nothing in Lean hashes anything: it is a label: what it is worth is what the hold of that sum in a sandbox is worth. -/
noncomputable def Try.pinned : Pinned := { name := "ythelpfilgamdfaa", sum := "6583968e704602e89ee8053aff6b9f80275b0c44bbc0537f18cef957fb71130f", checked := Try.checked }
namespace Rows
def none {H : Type} : Left H := { results := [], args := [] }

/-- 'laws.FnAttracts': WHATEVER THE INPUT: true; the input reads as it did. -/
def fnAttractsSpec : ChangeSpec := { name := "fnAttracts", fn := fun _ => fun
  | [d] => { results := [.lit (.bool true)], args := [d] }
  | _ => none }
def fnAttractsRow : OpenClaim := { program := "ythelpfilgamdfaa", sum := "6583968e704602e89ee8053aff6b9f80275b0c44bbc0537f18cef957fb71130f", func := "loop.example/g00869/laws.FnAttracts", spec := "fnAttracts", unfollowed := true, recurses := true, apart := false }
def FnAttractsSaid : Prop := fnAttractsRow.holds Try.pinned (OpenSpec.ofChange fnAttractsSpec)

/-- ITS FALSE NEIGHBOUR: 'it returns false'. Refute it at one input. -/
def fnAttractsWrong : ChangeSpec := { name := "fnAttracts", fn := fun _ => fun
  | [d] => { results := [.lit (.bool false)], args := [d] }
  | _ => none }
def FnAttractsWrongFalsely : Prop := fnAttractsRow.holds Try.pinned (OpenSpec.ofChange fnAttractsWrong)

/-- 'laws.FnRanks': WHATEVER THE INPUT: true; the input reads as it did. -/
def fnRanksSpec : ChangeSpec := { name := "fnRanks", fn := fun _ => fun
  | [d] => { results := [.lit (.bool true)], args := [d] }
  | _ => none }
def fnRanksRow : OpenClaim := { program := "ythelpfilgamdfaa", sum := "6583968e704602e89ee8053aff6b9f80275b0c44bbc0537f18cef957fb71130f", func := "loop.example/g00869/laws.FnRanks", spec := "fnRanks", unfollowed := true, recurses := true, apart := false }
def FnRanksSaid : Prop := fnRanksRow.holds Try.pinned (OpenSpec.ofChange fnRanksSpec)

/-- ITS FALSE NEIGHBOUR: 'it returns false'. Refute it at one input. -/
def fnRanksWrong : ChangeSpec := { name := "fnRanks", fn := fun _ => fun
  | [d] => { results := [.lit (.bool false)], args := [d] }
  | _ => none }
def FnRanksWrongFalsely : Prop := fnRanksRow.holds Try.pinned (OpenSpec.ofChange fnRanksWrong)

/-- 'laws.FnExactRanksIn': WHATEVER THE INPUT: true; the input reads as it did. -/
def fnExactRanksInSpec : ChangeSpec := { name := "fnExactRanksIn", fn := fun _ => fun
  | [d1, d2, d3, d4] => { results := [.lit (.bool true)], args := [d1, d2, d3, d4] }
  | _ => none }
def fnExactRanksInRow : OpenClaim := { program := "ythelpfilgamdfaa", sum := "6583968e704602e89ee8053aff6b9f80275b0c44bbc0537f18cef957fb71130f", func := "loop.example/g00869/laws.FnExactRanksIn", spec := "fnExactRanksIn", unfollowed := true, recurses := true, apart := false }
def FnExactRanksInSaid : Prop := fnExactRanksInRow.holds Try.pinned (OpenSpec.ofChange fnExactRanksInSpec)

/-- ITS FALSE NEIGHBOUR: 'it returns false'. Refute it at one input. -/
def fnExactRanksInWrong : ChangeSpec := { name := "fnExactRanksIn", fn := fun _ => fun
  | [d1, d2, d3, d4] => { results := [.lit (.bool false)], args := [d1, d2, d3, d4] }
  | _ => none }
def FnExactRanksInWrongFalsely : Prop := fnExactRanksInRow.holds Try.pinned (OpenSpec.ofChange fnExactRanksInWrong)

/-- 'laws.FnExactAttract': WHATEVER THE INPUT: true; the input reads as it did. -/
def fnExactAttractSpec : ChangeSpec := { name := "fnExactAttract", fn := fun _ => fun
  | [d1, d2, d3, d4] => { results := [.lit (.bool true)], args := [d1, d2, d3, d4] }
  | _ => none }
def fnExactAttractRow : OpenClaim := { program := "ythelpfilgamdfaa", sum := "6583968e704602e89ee8053aff6b9f80275b0c44bbc0537f18cef957fb71130f", func := "loop.example/g00869/laws.FnExactAttract", spec := "fnExactAttract", unfollowed := true, recurses := true, apart := false }
def FnExactAttractSaid : Prop := fnExactAttractRow.holds Try.pinned (OpenSpec.ofChange fnExactAttractSpec)

/-- ITS FALSE NEIGHBOUR: 'it returns false'. Refute it at one input. -/
def fnExactAttractWrong : ChangeSpec := { name := "fnExactAttract", fn := fun _ => fun
  | [d1, d2, d3, d4] => { results := [.lit (.bool false)], args := [d1, d2, d3, d4] }
  | _ => none }
def FnExactAttractWrongFalsely : Prop := fnExactAttractRow.holds Try.pinned (OpenSpec.ofChange fnExactAttractWrong)

/-- 'laws.FnExactPullIn': WHATEVER THE INPUT: true; the input reads as it did. -/
def fnExactPullInSpec : ChangeSpec := { name := "fnExactPullIn", fn := fun _ => fun
  | [d1, d2, d3, d4] => { results := [.lit (.bool true)], args := [d1, d2, d3, d4] }
  | _ => none }
def fnExactPullInRow : OpenClaim := { program := "ythelpfilgamdfaa", sum := "6583968e704602e89ee8053aff6b9f80275b0c44bbc0537f18cef957fb71130f", func := "loop.example/g00869/laws.FnExactPullIn", spec := "fnExactPullIn", unfollowed := true, recurses := true, apart := false }
def FnExactPullInSaid : Prop := fnExactPullInRow.holds Try.pinned (OpenSpec.ofChange fnExactPullInSpec)

/-- ITS FALSE NEIGHBOUR: 'it returns false'. Refute it at one input. -/
def fnExactPullInWrong : ChangeSpec := { name := "fnExactPullIn", fn := fun _ => fun
  | [d1, d2, d3, d4] => { results := [.lit (.bool false)], args := [d1, d2, d3, d4] }
  | _ => none }
def FnExactPullInWrongFalsely : Prop := fnExactPullInRow.holds Try.pinned (OpenSpec.ofChange fnExactPullInWrong)

/-- 'laws.FnExactTrapIn': WHATEVER THE INPUT: true; the input reads as it did. -/
def fnExactTrapInSpec : ChangeSpec := { name := "fnExactTrapIn", fn := fun _ => fun
  | [d1, d2, d3] => { results := [.lit (.bool true)], args := [d1, d2, d3] }
  | _ => none }
def fnExactTrapInRow : OpenClaim := { program := "ythelpfilgamdfaa", sum := "6583968e704602e89ee8053aff6b9f80275b0c44bbc0537f18cef957fb71130f", func := "loop.example/g00869/laws.FnExactTrapIn", spec := "fnExactTrapIn", apart := false }
def FnExactTrapInSaid : Prop := fnExactTrapInRow.holds Try.pinned (OpenSpec.ofChange fnExactTrapInSpec)

/-- ITS FALSE NEIGHBOUR: 'it returns false'. Refute it at one input. -/
def fnExactTrapInWrong : ChangeSpec := { name := "fnExactTrapIn", fn := fun _ => fun
  | [d1, d2, d3] => { results := [.lit (.bool false)], args := [d1, d2, d3] }
  | _ => none }
def FnExactTrapInWrongFalsely : Prop := fnExactTrapInRow.holds Try.pinned (OpenSpec.ofChange fnExactTrapInWrong)

/-- 'laws.FnExactEscapesIn': WHATEVER THE INPUT: true; the input reads as it did. -/
def fnExactEscapesInSpec : ChangeSpec := { name := "fnExactEscapesIn", fn := fun _ => fun
  | [d1, d2, d3] => { results := [.lit (.bool true)], args := [d1, d2, d3] }
  | _ => none }
def fnExactEscapesInRow : OpenClaim := { program := "ythelpfilgamdfaa", sum := "6583968e704602e89ee8053aff6b9f80275b0c44bbc0537f18cef957fb71130f", func := "loop.example/g00869/laws.FnExactEscapesIn", spec := "fnExactEscapesIn", apart := false }
def FnExactEscapesInSaid : Prop := fnExactEscapesInRow.holds Try.pinned (OpenSpec.ofChange fnExactEscapesInSpec)

/-- ITS FALSE NEIGHBOUR: 'it returns false'. Refute it at one input. -/
def fnExactEscapesInWrong : ChangeSpec := { name := "fnExactEscapesIn", fn := fun _ => fun
  | [d1, d2, d3] => { results := [.lit (.bool false)], args := [d1, d2, d3] }
  | _ => none }
def FnExactEscapesInWrongFalsely : Prop := fnExactEscapesInRow.holds Try.pinned (OpenSpec.ofChange fnExactEscapesInWrong)

/- THE SECOND FORM. 'bulk': how many values and letters a reading holds, each counted each time it is reached (what is shared counts as often as it is met; a slice's spare places count too). A statement '..UptoSaid' is the law's where the arguments, and the package variables that the reading takes, are together of bulk at most 1048576: NARROWER than '..Said'. Prove '..Said' where nothing that the law and all that it calls make is longer than what came in: it says more and counts as full. Else prove '..UptoSaid'. A law counts once. -/
mutual
def uptoBulk {H : Type} : DataW H → Nat
  | .lit (.string bytes) => bytes.length + 1
  | .lit _ => 1
  | .nil => 1
  | .ptr d => uptoBulk d + 1
  | .slice elems spare => uptoBulkAll elems + uptoBulkAll spare + 1
  | .agg parts => uptoBulkAll parts + 1
  | .iface _ d => uptoBulk d + 1
  | .map entries => uptoBulkEntries entries + 1
  | .held _ => 1
def uptoBulkAll {H : Type} : List (DataW H) → Nat
  | [] => 0
  | d :: r => uptoBulk d + uptoBulkAll r
def uptoBulkEntries {H : Type} : List (Lit × DataW H) → Nat
  | [] => 0
  | x :: r => uptoBulkEntry x + uptoBulkEntries r
def uptoBulkEntry {H : Type} : Lit × DataW H → Nat
  | (.string bytes, d) => bytes.length + uptoBulk d + 1
  | (_, d) => uptoBulk d + 1
 end
def uptoSmall : (H : Type) → List (DataW H) → Bool := fun _ ds => decide (uptoBulkAll ds ≤ 1048576)
def OpenSpec.upto (s : _root_.Go.ChangeSpec) : _root_.Go.OpenSpec := { _root_.Go.OpenSpec.ofChange s with cond := some uptoSmall }

/-- 'laws.FnAttracts', WHERE WHAT IT READS IS OF BULK AT MOST 1048576: true; the input reads as it did. -/
def fnAttractsUptoRow : OpenClaim := { program := "ythelpfilgamdfaa", sum := "6583968e704602e89ee8053aff6b9f80275b0c44bbc0537f18cef957fb71130f", func := "loop.example/g00869/laws.FnAttracts", spec := "fnAttracts", unfollowed := true, recurses := true, apart := false, narrowed := true }
def FnAttractsUptoSaid : Prop := fnAttractsUptoRow.holds Try.pinned (OpenSpec.upto fnAttractsSpec)

/-- 'laws.FnRanks', WHERE WHAT IT READS IS OF BULK AT MOST 1048576: true; the input reads as it did. -/
def fnRanksUptoRow : OpenClaim := { program := "ythelpfilgamdfaa", sum := "6583968e704602e89ee8053aff6b9f80275b0c44bbc0537f18cef957fb71130f", func := "loop.example/g00869/laws.FnRanks", spec := "fnRanks", unfollowed := true, recurses := true, apart := false, narrowed := true }
def FnRanksUptoSaid : Prop := fnRanksUptoRow.holds Try.pinned (OpenSpec.upto fnRanksSpec)

/-- 'laws.FnExactRanksIn', WHERE WHAT IT READS IS OF BULK AT MOST 1048576: true; the input reads as it did. -/
def fnExactRanksInUptoRow : OpenClaim := { program := "ythelpfilgamdfaa", sum := "6583968e704602e89ee8053aff6b9f80275b0c44bbc0537f18cef957fb71130f", func := "loop.example/g00869/laws.FnExactRanksIn", spec := "fnExactRanksIn", unfollowed := true, recurses := true, apart := false, narrowed := true }
def FnExactRanksInUptoSaid : Prop := fnExactRanksInUptoRow.holds Try.pinned (OpenSpec.upto fnExactRanksInSpec)

/-- 'laws.FnExactAttract', WHERE WHAT IT READS IS OF BULK AT MOST 1048576: true; the input reads as it did. -/
def fnExactAttractUptoRow : OpenClaim := { program := "ythelpfilgamdfaa", sum := "6583968e704602e89ee8053aff6b9f80275b0c44bbc0537f18cef957fb71130f", func := "loop.example/g00869/laws.FnExactAttract", spec := "fnExactAttract", unfollowed := true, recurses := true, apart := false, narrowed := true }
def FnExactAttractUptoSaid : Prop := fnExactAttractUptoRow.holds Try.pinned (OpenSpec.upto fnExactAttractSpec)

/-- 'laws.FnExactPullIn', WHERE WHAT IT READS IS OF BULK AT MOST 1048576: true; the input reads as it did. -/
def fnExactPullInUptoRow : OpenClaim := { program := "ythelpfilgamdfaa", sum := "6583968e704602e89ee8053aff6b9f80275b0c44bbc0537f18cef957fb71130f", func := "loop.example/g00869/laws.FnExactPullIn", spec := "fnExactPullIn", unfollowed := true, recurses := true, apart := false, narrowed := true }
def FnExactPullInUptoSaid : Prop := fnExactPullInUptoRow.holds Try.pinned (OpenSpec.upto fnExactPullInSpec)

/-- 'laws.FnExactTrapIn', WHERE WHAT IT READS IS OF BULK AT MOST 1048576: true; the input reads as it did. -/
def fnExactTrapInUptoRow : OpenClaim := { program := "ythelpfilgamdfaa", sum := "6583968e704602e89ee8053aff6b9f80275b0c44bbc0537f18cef957fb71130f", func := "loop.example/g00869/laws.FnExactTrapIn", spec := "fnExactTrapIn", apart := false, narrowed := true }
def FnExactTrapInUptoSaid : Prop := fnExactTrapInUptoRow.holds Try.pinned (OpenSpec.upto fnExactTrapInSpec)

/-- 'laws.FnExactEscapesIn', WHERE WHAT IT READS IS OF BULK AT MOST 1048576: true; the input reads as it did. -/
def fnExactEscapesInUptoRow : OpenClaim := { program := "ythelpfilgamdfaa", sum := "6583968e704602e89ee8053aff6b9f80275b0c44bbc0537f18cef957fb71130f", func := "loop.example/g00869/laws.FnExactEscapesIn", spec := "fnExactEscapesIn", apart := false, narrowed := true }
def FnExactEscapesInUptoSaid : Prop := fnExactEscapesInUptoRow.holds Try.pinned (OpenSpec.upto fnExactEscapesInSpec)

end Rows
end Go.Proofs.Ythelpfilgamdfaa
