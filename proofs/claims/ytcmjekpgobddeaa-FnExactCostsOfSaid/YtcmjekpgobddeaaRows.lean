/-
  No cell of these rows narrows 'for every input' (looked for: loops, veiled, ifaces, maps, wideKeys, modest, calm, conditions, laid).
  DERIVED. THE GIVEN ROWS OF THIS SEAT. 5 by the template 'for every input the law returns true; each argument reads behind the call as it read before'; 0 by the template 'total and deterministic' (their statements: YtcmjekpgobddeaaTotals.lean).
  GIVEN WITH THE SEED: the statements are not yours to turn. If you find one false, say at which input.
  Laid BY PROGRAM, IN A SANDBOX (cutbox-rows.mjs): the forced cells as the released guide's own fill.sh prints them over the translation f06336c689945bc5… (all of the seat's roots in one cut). By AI agents, Wed Nov 11 2026. No macro, syntax, notation, axiom, sorry.
-/
import Derived.Test.YtcmjekpgobddeaaChecked
import GoSem.Claim
import GoSem.ClaimJoined
import GoSem.ClaimMapViews
import Derived.JoinedTies
import Derived.KernelRfl
namespace Go.Proofs.Ytcmjekpgobddeaa
/- THE CELL 'sum', in the pinned program and in every row, IS THE sha256 OF THE DUMP (.gsa) THAT YtcmjekpgobddeaaProg.lean LOADS. Nothing in Lean hashes anything: it is a label: what it is worth is what the hold of that sum in a sandbox is worth. -/
noncomputable def Try.pinned : Pinned := { name := "ytcmjekpgobddeaa", sum := "f06336c689945bc5ab09ff70f9fab252d71d64033d0cfbe0bd761087d843049b", checked := Try.checked }
namespace Rows
def none {H : Type} : Left H := { results := [], args := [] }

/-- 'laws.FnExactTermOk': WHATEVER THE INPUT: true; the input reads as it did. -/
def fnExactTermOkSpec : ChangeSpec := { name := "fnExactTermOk", fn := fun _ => fun
  | [d] => { results := [.lit (.bool true)], args := [d] }
  | _ => none }
def fnExactTermOkRow : OpenClaim := { program := "ytcmjekpgobddeaa", sum := "f06336c689945bc5ab09ff70f9fab252d71d64033d0cfbe0bd761087d843049b", func := "loop.example/balancedpipes/laws.FnExactTermOk", spec := "fnExactTermOk", apart := false }
def FnExactTermOkSaid : Prop := fnExactTermOkRow.holds Try.pinned (OpenSpec.ofChange fnExactTermOkSpec)

/-- ITS FALSE NEIGHBOUR: 'it returns false'. Refute it at one input. -/
def fnExactTermOkWrong : ChangeSpec := { name := "fnExactTermOk", fn := fun _ => fun
  | [d] => { results := [.lit (.bool false)], args := [d] }
  | _ => none }
def FnExactTermOkWrongFalsely : Prop := fnExactTermOkRow.holds Try.pinned (OpenSpec.ofChange fnExactTermOkWrong)

/-- 'laws.FnExactPipesIn': WHATEVER THE INPUT: true; the input reads as it did. -/
def fnExactPipesInSpec : ChangeSpec := { name := "fnExactPipesIn", fn := fun _ => fun
  | [d] => { results := [.lit (.bool true)], args := [d] }
  | _ => none }
def fnExactPipesInRow : OpenClaim := { program := "ytcmjekpgobddeaa", sum := "f06336c689945bc5ab09ff70f9fab252d71d64033d0cfbe0bd761087d843049b", func := "loop.example/balancedpipes/laws.FnExactPipesIn", spec := "fnExactPipesIn", apart := false }
def FnExactPipesInSaid : Prop := fnExactPipesInRow.holds Try.pinned (OpenSpec.ofChange fnExactPipesInSpec)

/-- ITS FALSE NEIGHBOUR: 'it returns false'. Refute it at one input. -/
def fnExactPipesInWrong : ChangeSpec := { name := "fnExactPipesIn", fn := fun _ => fun
  | [d] => { results := [.lit (.bool false)], args := [d] }
  | _ => none }
def FnExactPipesInWrongFalsely : Prop := fnExactPipesInRow.holds Try.pinned (OpenSpec.ofChange fnExactPipesInWrong)

/-- 'laws.FnExactCarriesOf': WHATEVER THE INPUT: true; the input reads as it did. -/
def fnExactCarriesOfSpec : ChangeSpec := { name := "fnExactCarriesOf", fn := fun _ => fun
  | [d] => { results := [.lit (.bool true)], args := [d] }
  | _ => none }
def fnExactCarriesOfRow : OpenClaim := { program := "ytcmjekpgobddeaa", sum := "f06336c689945bc5ab09ff70f9fab252d71d64033d0cfbe0bd761087d843049b", func := "loop.example/balancedpipes/laws.FnExactCarriesOf", spec := "fnExactCarriesOf", unfollowed := true, recurses := true, apart := false }
def FnExactCarriesOfSaid : Prop := fnExactCarriesOfRow.holds Try.pinned (OpenSpec.ofChange fnExactCarriesOfSpec)

/-- ITS FALSE NEIGHBOUR: 'it returns false'. Refute it at one input. -/
def fnExactCarriesOfWrong : ChangeSpec := { name := "fnExactCarriesOf", fn := fun _ => fun
  | [d] => { results := [.lit (.bool false)], args := [d] }
  | _ => none }
def FnExactCarriesOfWrongFalsely : Prop := fnExactCarriesOfRow.holds Try.pinned (OpenSpec.ofChange fnExactCarriesOfWrong)

/-- 'laws.FnExactCostsOf': WHATEVER THE INPUT: true; the input reads as it did. -/
def fnExactCostsOfSpec : ChangeSpec := { name := "fnExactCostsOf", fn := fun _ => fun
  | [d] => { results := [.lit (.bool true)], args := [d] }
  | _ => none }
def fnExactCostsOfRow : OpenClaim := { program := "ytcmjekpgobddeaa", sum := "f06336c689945bc5ab09ff70f9fab252d71d64033d0cfbe0bd761087d843049b", func := "loop.example/balancedpipes/laws.FnExactCostsOf", spec := "fnExactCostsOf", unfollowed := true, recurses := true, apart := false }
def FnExactCostsOfSaid : Prop := fnExactCostsOfRow.holds Try.pinned (OpenSpec.ofChange fnExactCostsOfSpec)

/-- ITS FALSE NEIGHBOUR: 'it returns false'. Refute it at one input. -/
def fnExactCostsOfWrong : ChangeSpec := { name := "fnExactCostsOf", fn := fun _ => fun
  | [d] => { results := [.lit (.bool false)], args := [d] }
  | _ => none }
def FnExactCostsOfWrongFalsely : Prop := fnExactCostsOfRow.holds Try.pinned (OpenSpec.ofChange fnExactCostsOfWrong)

/-- 'laws.FnExactNetOfTerm': WHATEVER THE INPUT: true; the input reads as it did. -/
def fnExactNetOfTermSpec : ChangeSpec := { name := "fnExactNetOfTerm", fn := fun _ => fun
  | [d] => { results := [.lit (.bool true)], args := [d] }
  | _ => none }
def fnExactNetOfTermRow : OpenClaim := { program := "ytcmjekpgobddeaa", sum := "f06336c689945bc5ab09ff70f9fab252d71d64033d0cfbe0bd761087d843049b", func := "loop.example/balancedpipes/laws.FnExactNetOfTerm", spec := "fnExactNetOfTerm", unfollowed := true, recurses := true, apart := false }
def FnExactNetOfTermSaid : Prop := fnExactNetOfTermRow.holds Try.pinned (OpenSpec.ofChange fnExactNetOfTermSpec)

/-- ITS FALSE NEIGHBOUR: 'it returns false'. Refute it at one input. -/
def fnExactNetOfTermWrong : ChangeSpec := { name := "fnExactNetOfTerm", fn := fun _ => fun
  | [d] => { results := [.lit (.bool false)], args := [d] }
  | _ => none }
def FnExactNetOfTermWrongFalsely : Prop := fnExactNetOfTermRow.holds Try.pinned (OpenSpec.ofChange fnExactNetOfTermWrong)

/- THE SECOND FORM. 'bulk': how many values and letters a reading holds, each counted each time it is reached (what is shared counts as often as it is met; a slice's spare places count too). A statement '..UptoSaid' is the law's where the arguments, and the package variables that the reading takes, are together of bulk at most 1048576: NARROWER than '..Said'. Prove '..Said' where nothing that the law and all that it calls make is longer than what came in: it says more and counts as full. Else prove '..UptoSaid'. A law counts once. -/
mutual
def uptoBulk {H : Type} : DataW H → Nat
  | .lit (.string bytes) => bytes.length + 1
  | .lit _ => 1
  | .nil => 1
  | .ptr d => uptoBulk d + 1
  | .slice elems spare => uptoBulkAll elems + uptoBulkAll spare + 1
  | .agg parts => uptoBulkAll parts + 1
  | .iface _ d => uptoBulk d + 1
  | .map entries => uptoBulkEntries entries + 1
  | .held _ => 1
def uptoBulkAll {H : Type} : List (DataW H) → Nat
  | [] => 0
  | d :: r => uptoBulk d + uptoBulkAll r
def uptoBulkEntries {H : Type} : List (Lit × DataW H) → Nat
  | [] => 0
  | x :: r => uptoBulkEntry x + uptoBulkEntries r
def uptoBulkEntry {H : Type} : Lit × DataW H → Nat
  | (.string bytes, d) => bytes.length + uptoBulk d + 1
  | (_, d) => uptoBulk d + 1
 end
def uptoSmall : (H : Type) → List (DataW H) → Bool := fun _ ds => decide (uptoBulkAll ds ≤ 1048576)
def OpenSpec.upto (s : _root_.Go.ChangeSpec) : _root_.Go.OpenSpec := { _root_.Go.OpenSpec.ofChange s with cond := some uptoSmall }

/-- 'laws.FnExactTermOk', WHERE WHAT IT READS IS OF BULK AT MOST 1048576: true; the input reads as it did. -/
def fnExactTermOkUptoRow : OpenClaim := { program := "ytcmjekpgobddeaa", sum := "f06336c689945bc5ab09ff70f9fab252d71d64033d0cfbe0bd761087d843049b", func := "loop.example/balancedpipes/laws.FnExactTermOk", spec := "fnExactTermOk", apart := false, narrowed := true }
def FnExactTermOkUptoSaid : Prop := fnExactTermOkUptoRow.holds Try.pinned (OpenSpec.upto fnExactTermOkSpec)

/-- 'laws.FnExactPipesIn', WHERE WHAT IT READS IS OF BULK AT MOST 1048576: true; the input reads as it did. -/
def fnExactPipesInUptoRow : OpenClaim := { program := "ytcmjekpgobddeaa", sum := "f06336c689945bc5ab09ff70f9fab252d71d64033d0cfbe0bd761087d843049b", func := "loop.example/balancedpipes/laws.FnExactPipesIn", spec := "fnExactPipesIn", apart := false, narrowed := true }
def FnExactPipesInUptoSaid : Prop := fnExactPipesInUptoRow.holds Try.pinned (OpenSpec.upto fnExactPipesInSpec)

/-- 'laws.FnExactCarriesOf', WHERE WHAT IT READS IS OF BULK AT MOST 1048576: true; the input reads as it did. -/
def fnExactCarriesOfUptoRow : OpenClaim := { program := "ytcmjekpgobddeaa", sum := "f06336c689945bc5ab09ff70f9fab252d71d64033d0cfbe0bd761087d843049b", func := "loop.example/balancedpipes/laws.FnExactCarriesOf", spec := "fnExactCarriesOf", unfollowed := true, recurses := true, apart := false, narrowed := true }
def FnExactCarriesOfUptoSaid : Prop := fnExactCarriesOfUptoRow.holds Try.pinned (OpenSpec.upto fnExactCarriesOfSpec)

/-- 'laws.FnExactCostsOf', WHERE WHAT IT READS IS OF BULK AT MOST 1048576: true; the input reads as it did. -/
def fnExactCostsOfUptoRow : OpenClaim := { program := "ytcmjekpgobddeaa", sum := "f06336c689945bc5ab09ff70f9fab252d71d64033d0cfbe0bd761087d843049b", func := "loop.example/balancedpipes/laws.FnExactCostsOf", spec := "fnExactCostsOf", unfollowed := true, recurses := true, apart := false, narrowed := true }
def FnExactCostsOfUptoSaid : Prop := fnExactCostsOfUptoRow.holds Try.pinned (OpenSpec.upto fnExactCostsOfSpec)

/-- 'laws.FnExactNetOfTerm', WHERE WHAT IT READS IS OF BULK AT MOST 1048576: true; the input reads as it did. -/
def fnExactNetOfTermUptoRow : OpenClaim := { program := "ytcmjekpgobddeaa", sum := "f06336c689945bc5ab09ff70f9fab252d71d64033d0cfbe0bd761087d843049b", func := "loop.example/balancedpipes/laws.FnExactNetOfTerm", spec := "fnExactNetOfTerm", unfollowed := true, recurses := true, apart := false, narrowed := true }
def FnExactNetOfTermUptoSaid : Prop := fnExactNetOfTermUptoRow.holds Try.pinned (OpenSpec.upto fnExactNetOfTermSpec)

end Rows
end Go.Proofs.Ytcmjekpgobddeaa
