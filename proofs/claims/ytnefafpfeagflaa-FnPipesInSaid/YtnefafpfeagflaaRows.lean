/-
  No cell of these rows narrows 'for every input' (looked for: loops, veiled, ifaces, maps, wideKeys, modest, calm, conditions, laid).
  DERIVED. THE GIVEN ROWS OF THIS SEAT. 7 by the template 'for every input the law returns true; each argument reads behind the call as it read before'; 0 by the template 'total and deterministic' (their statements: YtnefafpfeagflaaTotals.lean).
  GIVEN WITH THE SEED: the statements are not yours to turn. If you find one false, say at which input.
  Laid BY PROGRAM, IN A SANDBOX (cutbox-rows.mjs): the forced cells as the released guide's own fill.sh prints them over the translation 12cab742069ca4f0… (all of the seat's roots in one cut). By AI agents, Wed Nov 11 2026. No macro, syntax, notation, axiom, sorry.
-/
import Derived.Test.YtnefafpfeagflaaChecked
import GoSem.Claim
import GoSem.ClaimJoined
import GoSem.ClaimMapViews
import Derived.JoinedTies
import Derived.KernelRfl
namespace Go.Proofs.Ytnefafpfeagflaa
/- THE CELL 'sum', in the pinned program and in every row, IS THE sha256 OF THE DUMP (.gsa) THAT YtnefafpfeagflaaProg.lean LOADS. Nothing in Lean hashes anything: it is a label: what it is worth is what the hold of that sum in a sandbox is worth. -/
noncomputable def Try.pinned : Pinned := { name := "ytnefafpfeagflaa", sum := "12cab742069ca4f08a4d21c0acbf628d4e5585554ab08d3d072b33a8dcaac59b", checked := Try.checked }
namespace Rows
def none {H : Type} : Left H := { results := [], args := [] }

/-- 'laws.FnTermOk': WHATEVER THE INPUT: true; the input reads as it did. -/
def fnTermOkSpec : ChangeSpec := { name := "fnTermOk", fn := fun _ => fun
  | [d] => { results := [.lit (.bool true)], args := [d] }
  | _ => none }
def fnTermOkRow : OpenClaim := { program := "ytnefafpfeagflaa", sum := "12cab742069ca4f08a4d21c0acbf628d4e5585554ab08d3d072b33a8dcaac59b", func := "loop.example/balancedpipes/laws.FnTermOk", spec := "fnTermOk", apart := false }
def FnTermOkSaid : Prop := fnTermOkRow.holds Try.pinned (OpenSpec.ofChange fnTermOkSpec)

/-- ITS FALSE NEIGHBOUR: 'it returns false'. Refute it at one input. -/
def fnTermOkWrong : ChangeSpec := { name := "fnTermOk", fn := fun _ => fun
  | [d] => { results := [.lit (.bool false)], args := [d] }
  | _ => none }
def FnTermOkWrongFalsely : Prop := fnTermOkRow.holds Try.pinned (OpenSpec.ofChange fnTermOkWrong)

/-- 'laws.FnPipesIn': WHATEVER THE INPUT: true; the input reads as it did. -/
def fnPipesInSpec : ChangeSpec := { name := "fnPipesIn", fn := fun _ => fun
  | [d] => { results := [.lit (.bool true)], args := [d] }
  | _ => none }
def fnPipesInRow : OpenClaim := { program := "ytnefafpfeagflaa", sum := "12cab742069ca4f08a4d21c0acbf628d4e5585554ab08d3d072b33a8dcaac59b", func := "loop.example/balancedpipes/laws.FnPipesIn", spec := "fnPipesIn", unfollowed := true, recurses := true, apart := false }
def FnPipesInSaid : Prop := fnPipesInRow.holds Try.pinned (OpenSpec.ofChange fnPipesInSpec)

/-- ITS FALSE NEIGHBOUR: 'it returns false'. Refute it at one input. -/
def fnPipesInWrong : ChangeSpec := { name := "fnPipesIn", fn := fun _ => fun
  | [d] => { results := [.lit (.bool false)], args := [d] }
  | _ => none }
def FnPipesInWrongFalsely : Prop := fnPipesInRow.holds Try.pinned (OpenSpec.ofChange fnPipesInWrong)

/-- 'laws.FnCarriesOf': WHATEVER THE INPUT: true; the input reads as it did. -/
def fnCarriesOfSpec : ChangeSpec := { name := "fnCarriesOf", fn := fun _ => fun
  | [d] => { results := [.lit (.bool true)], args := [d] }
  | _ => none }
def fnCarriesOfRow : OpenClaim := { program := "ytnefafpfeagflaa", sum := "12cab742069ca4f08a4d21c0acbf628d4e5585554ab08d3d072b33a8dcaac59b", func := "loop.example/balancedpipes/laws.FnCarriesOf", spec := "fnCarriesOf", unfollowed := true, recurses := true, apart := false }
def FnCarriesOfSaid : Prop := fnCarriesOfRow.holds Try.pinned (OpenSpec.ofChange fnCarriesOfSpec)

/-- ITS FALSE NEIGHBOUR: 'it returns false'. Refute it at one input. -/
def fnCarriesOfWrong : ChangeSpec := { name := "fnCarriesOf", fn := fun _ => fun
  | [d] => { results := [.lit (.bool false)], args := [d] }
  | _ => none }
def FnCarriesOfWrongFalsely : Prop := fnCarriesOfRow.holds Try.pinned (OpenSpec.ofChange fnCarriesOfWrong)

/-- 'laws.FnNetOfTerm': WHATEVER THE INPUT: true; the input reads as it did. -/
def fnNetOfTermSpec : ChangeSpec := { name := "fnNetOfTerm", fn := fun _ => fun
  | [d] => { results := [.lit (.bool true)], args := [d] }
  | _ => none }
def fnNetOfTermRow : OpenClaim := { program := "ytnefafpfeagflaa", sum := "12cab742069ca4f08a4d21c0acbf628d4e5585554ab08d3d072b33a8dcaac59b", func := "loop.example/balancedpipes/laws.FnNetOfTerm", spec := "fnNetOfTerm", unfollowed := true, recurses := true, apart := false }
def FnNetOfTermSaid : Prop := fnNetOfTermRow.holds Try.pinned (OpenSpec.ofChange fnNetOfTermSpec)

/-- ITS FALSE NEIGHBOUR: 'it returns false'. Refute it at one input. -/
def fnNetOfTermWrong : ChangeSpec := { name := "fnNetOfTerm", fn := fun _ => fun
  | [d] => { results := [.lit (.bool false)], args := [d] }
  | _ => none }
def FnNetOfTermWrongFalsely : Prop := fnNetOfTermRow.holds Try.pinned (OpenSpec.ofChange fnNetOfTermWrong)

/-- 'laws.FnTogether': WHATEVER THE INPUT: true; the input reads as it did. -/
def fnTogetherSpec : ChangeSpec := { name := "fnTogether", fn := fun _ => fun
  | [d1, d2] => { results := [.lit (.bool true)], args := [d1, d2] }
  | _ => none }
def fnTogetherRow : OpenClaim := { program := "ytnefafpfeagflaa", sum := "12cab742069ca4f08a4d21c0acbf628d4e5585554ab08d3d072b33a8dcaac59b", func := "loop.example/balancedpipes/laws.FnTogether", spec := "fnTogether", unfollowed := true, recurses := true, apart := false }
def FnTogetherSaid : Prop := fnTogetherRow.holds Try.pinned (OpenSpec.ofChange fnTogetherSpec)

/-- ITS FALSE NEIGHBOUR: 'it returns false'. Refute it at one input. -/
def fnTogetherWrong : ChangeSpec := { name := "fnTogether", fn := fun _ => fun
  | [d1, d2] => { results := [.lit (.bool false)], args := [d1, d2] }
  | _ => none }
def FnTogetherWrongFalsely : Prop := fnTogetherRow.holds Try.pinned (OpenSpec.ofChange fnTogetherWrong)

/-- 'laws.FnExactNetOfTerm': WHATEVER THE INPUT: true; the input reads as it did. -/
def fnExactNetOfTermSpec : ChangeSpec := { name := "fnExactNetOfTerm", fn := fun _ => fun
  | [d] => { results := [.lit (.bool true)], args := [d] }
  | _ => none }
def fnExactNetOfTermRow : OpenClaim := { program := "ytnefafpfeagflaa", sum := "12cab742069ca4f08a4d21c0acbf628d4e5585554ab08d3d072b33a8dcaac59b", func := "loop.example/balancedpipes/laws.FnExactNetOfTerm", spec := "fnExactNetOfTerm", unfollowed := true, recurses := true, apart := false }
def FnExactNetOfTermSaid : Prop := fnExactNetOfTermRow.holds Try.pinned (OpenSpec.ofChange fnExactNetOfTermSpec)

/-- ITS FALSE NEIGHBOUR: 'it returns false'. Refute it at one input. -/
def fnExactNetOfTermWrong : ChangeSpec := { name := "fnExactNetOfTerm", fn := fun _ => fun
  | [d] => { results := [.lit (.bool false)], args := [d] }
  | _ => none }
def FnExactNetOfTermWrongFalsely : Prop := fnExactNetOfTermRow.holds Try.pinned (OpenSpec.ofChange fnExactNetOfTermWrong)

/-- 'laws.FnExactCarriesOf': WHATEVER THE INPUT: true; the input reads as it did. -/
def fnExactCarriesOfSpec : ChangeSpec := { name := "fnExactCarriesOf", fn := fun _ => fun
  | [d] => { results := [.lit (.bool true)], args := [d] }
  | _ => none }
def fnExactCarriesOfRow : OpenClaim := { program := "ytnefafpfeagflaa", sum := "12cab742069ca4f08a4d21c0acbf628d4e5585554ab08d3d072b33a8dcaac59b", func := "loop.example/balancedpipes/laws.FnExactCarriesOf", spec := "fnExactCarriesOf", unfollowed := true, recurses := true, apart := false }
def FnExactCarriesOfSaid : Prop := fnExactCarriesOfRow.holds Try.pinned (OpenSpec.ofChange fnExactCarriesOfSpec)

/-- ITS FALSE NEIGHBOUR: 'it returns false'. Refute it at one input. -/
def fnExactCarriesOfWrong : ChangeSpec := { name := "fnExactCarriesOf", fn := fun _ => fun
  | [d] => { results := [.lit (.bool false)], args := [d] }
  | _ => none }
def FnExactCarriesOfWrongFalsely : Prop := fnExactCarriesOfRow.holds Try.pinned (OpenSpec.ofChange fnExactCarriesOfWrong)

/- THE SECOND FORM. 'bulk': how many values and letters a reading holds, each counted each time it is reached (what is shared counts as often as it is met; a slice's spare places count too). A statement '..UptoSaid' is the law's where the arguments, and the package variables that the reading takes, are together of bulk at most 1048576: NARROWER than '..Said'. Prove '..Said' where nothing that the law and all that it calls make is longer than what came in: it says more and counts as full. Else prove '..UptoSaid'. A law counts once. -/
mutual
def uptoBulk {H : Type} : DataW H → Nat
  | .lit (.string bytes) => bytes.length + 1
  | .lit _ => 1
  | .nil => 1
  | .ptr d => uptoBulk d + 1
  | .slice elems spare => uptoBulkAll elems + uptoBulkAll spare + 1
  | .agg parts => uptoBulkAll parts + 1
  | .iface _ d => uptoBulk d + 1
  | .map entries => uptoBulkEntries entries + 1
  | .held _ => 1
def uptoBulkAll {H : Type} : List (DataW H) → Nat
  | [] => 0
  | d :: r => uptoBulk d + uptoBulkAll r
def uptoBulkEntries {H : Type} : List (Lit × DataW H) → Nat
  | [] => 0
  | x :: r => uptoBulkEntry x + uptoBulkEntries r
def uptoBulkEntry {H : Type} : Lit × DataW H → Nat
  | (.string bytes, d) => bytes.length + uptoBulk d + 1
  | (_, d) => uptoBulk d + 1
 end
def uptoSmall : (H : Type) → List (DataW H) → Bool := fun _ ds => decide (uptoBulkAll ds ≤ 1048576)
def OpenSpec.upto (s : _root_.Go.ChangeSpec) : _root_.Go.OpenSpec := { _root_.Go.OpenSpec.ofChange s with cond := some uptoSmall }

/-- 'laws.FnTermOk', WHERE WHAT IT READS IS OF BULK AT MOST 1048576: true; the input reads as it did. -/
def fnTermOkUptoRow : OpenClaim := { program := "ytnefafpfeagflaa", sum := "12cab742069ca4f08a4d21c0acbf628d4e5585554ab08d3d072b33a8dcaac59b", func := "loop.example/balancedpipes/laws.FnTermOk", spec := "fnTermOk", apart := false, narrowed := true }
def FnTermOkUptoSaid : Prop := fnTermOkUptoRow.holds Try.pinned (OpenSpec.upto fnTermOkSpec)

/-- 'laws.FnPipesIn', WHERE WHAT IT READS IS OF BULK AT MOST 1048576: true; the input reads as it did. -/
def fnPipesInUptoRow : OpenClaim := { program := "ytnefafpfeagflaa", sum := "12cab742069ca4f08a4d21c0acbf628d4e5585554ab08d3d072b33a8dcaac59b", func := "loop.example/balancedpipes/laws.FnPipesIn", spec := "fnPipesIn", unfollowed := true, recurses := true, apart := false, narrowed := true }
def FnPipesInUptoSaid : Prop := fnPipesInUptoRow.holds Try.pinned (OpenSpec.upto fnPipesInSpec)

/-- 'laws.FnCarriesOf', WHERE WHAT IT READS IS OF BULK AT MOST 1048576: true; the input reads as it did. -/
def fnCarriesOfUptoRow : OpenClaim := { program := "ytnefafpfeagflaa", sum := "12cab742069ca4f08a4d21c0acbf628d4e5585554ab08d3d072b33a8dcaac59b", func := "loop.example/balancedpipes/laws.FnCarriesOf", spec := "fnCarriesOf", unfollowed := true, recurses := true, apart := false, narrowed := true }
def FnCarriesOfUptoSaid : Prop := fnCarriesOfUptoRow.holds Try.pinned (OpenSpec.upto fnCarriesOfSpec)

/-- 'laws.FnNetOfTerm', WHERE WHAT IT READS IS OF BULK AT MOST 1048576: true; the input reads as it did. -/
def fnNetOfTermUptoRow : OpenClaim := { program := "ytnefafpfeagflaa", sum := "12cab742069ca4f08a4d21c0acbf628d4e5585554ab08d3d072b33a8dcaac59b", func := "loop.example/balancedpipes/laws.FnNetOfTerm", spec := "fnNetOfTerm", unfollowed := true, recurses := true, apart := false, narrowed := true }
def FnNetOfTermUptoSaid : Prop := fnNetOfTermUptoRow.holds Try.pinned (OpenSpec.upto fnNetOfTermSpec)

/-- 'laws.FnTogether', WHERE WHAT IT READS IS OF BULK AT MOST 1048576: true; the input reads as it did. -/
def fnTogetherUptoRow : OpenClaim := { program := "ytnefafpfeagflaa", sum := "12cab742069ca4f08a4d21c0acbf628d4e5585554ab08d3d072b33a8dcaac59b", func := "loop.example/balancedpipes/laws.FnTogether", spec := "fnTogether", unfollowed := true, recurses := true, apart := false, narrowed := true }
def FnTogetherUptoSaid : Prop := fnTogetherUptoRow.holds Try.pinned (OpenSpec.upto fnTogetherSpec)

/-- 'laws.FnExactNetOfTerm', WHERE WHAT IT READS IS OF BULK AT MOST 1048576: true; the input reads as it did. -/
def fnExactNetOfTermUptoRow : OpenClaim := { program := "ytnefafpfeagflaa", sum := "12cab742069ca4f08a4d21c0acbf628d4e5585554ab08d3d072b33a8dcaac59b", func := "loop.example/balancedpipes/laws.FnExactNetOfTerm", spec := "fnExactNetOfTerm", unfollowed := true, recurses := true, apart := false, narrowed := true }
def FnExactNetOfTermUptoSaid : Prop := fnExactNetOfTermUptoRow.holds Try.pinned (OpenSpec.upto fnExactNetOfTermSpec)

/-- 'laws.FnExactCarriesOf', WHERE WHAT IT READS IS OF BULK AT MOST 1048576: true; the input reads as it did. -/
def fnExactCarriesOfUptoRow : OpenClaim := { program := "ytnefafpfeagflaa", sum := "12cab742069ca4f08a4d21c0acbf628d4e5585554ab08d3d072b33a8dcaac59b", func := "loop.example/balancedpipes/laws.FnExactCarriesOf", spec := "fnExactCarriesOf", unfollowed := true, recurses := true, apart := false, narrowed := true }
def FnExactCarriesOfUptoSaid : Prop := fnExactCarriesOfUptoRow.holds Try.pinned (OpenSpec.upto fnExactCarriesOfSpec)

end Rows
end Go.Proofs.Ytnefafpfeagflaa
