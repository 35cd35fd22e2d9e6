/-
  No cell of these rows narrows 'for every input' (looked for: loops, veiled, ifaces, maps, wideKeys, modest, calm, conditions, laid).
  DERIVED. THE GIVEN ROWS OF THIS SEAT. 11 by the template 'for every input the law returns true; each argument reads behind the call as it read before'; 0 by the template 'total and deterministic' (their statements: YtobbeofibkpbaaaTotals.lean).
  GIVEN WITH THE SEED: the statements are not yours to turn. If you find one false, say at which input.
  Laid BY PROGRAM, IN A SANDBOX (cutbox-rows.mjs): the forced cells as the released guide's own fill.sh prints them over the translation 392b43cff28ff26f… (all of the seat's roots in one cut). By AI agents, Wed Nov 11 2026. No macro, syntax, notation, axiom, sorry.
-/
import Derived.Test.YtobbeofibkpbaaaChecked
import GoSem.Claim
import GoSem.ClaimJoined
import GoSem.ClaimMapViews
import Derived.JoinedTies
import Derived.KernelRfl
namespace Go.Proofs.Ytobbeofibkpbaaa
/- THE CELL 'sum', in the pinned program and in every row, IS THE sha256 OF THE DUMP (.gsa) THAT YtobbeofibkpbaaaProg.lean LOADS. Nothing in Lean hashes anything: it is a label: what it is worth is what the hold of that sum in a sandbox is worth. -/
noncomputable def Try.pinned : Pinned := { name := "ytobbeofibkpbaaa", sum := "392b43cff28ff26fd779e2d547c90c69eb393d18e5798f0ab7720f153394ebf9", checked := Try.checked }
namespace Rows
def none {H : Type} : Left H := { results := [], args := [] }

/-- 'laws.FnGreatestFlow': WHATEVER THE INPUT: true; the input reads as it did. -/
def fnGreatestFlowSpec : ChangeSpec := { name := "fnGreatestFlow", fn := fun _ => fun
  | [d] => { results := [.lit (.bool true)], args := [d] }
  | _ => none }
def fnGreatestFlowRow : OpenClaim := { program := "ytobbeofibkpbaaa", sum := "392b43cff28ff26fd779e2d547c90c69eb393d18e5798f0ab7720f153394ebf9", func := "loop.example/balancedpipes/laws.FnGreatestFlow", spec := "fnGreatestFlow", unfollowed := true, recurses := true, apart := false }
def FnGreatestFlowSaid : Prop := fnGreatestFlowRow.holds Try.pinned (OpenSpec.ofChange fnGreatestFlowSpec)

/-- ITS FALSE NEIGHBOUR: 'it returns false'. Refute it at one input. -/
def fnGreatestFlowWrong : ChangeSpec := { name := "fnGreatestFlow", fn := fun _ => fun
  | [d] => { results := [.lit (.bool false)], args := [d] }
  | _ => none }
def FnGreatestFlowWrongFalsely : Prop := fnGreatestFlowRow.holds Try.pinned (OpenSpec.ofChange fnGreatestFlowWrong)

/-- 'laws.FnGreatestValue': WHATEVER THE INPUT: true; the input reads as it did. -/
def fnGreatestValueSpec : ChangeSpec := { name := "fnGreatestValue", fn := fun _ => fun
  | [d] => { results := [.lit (.bool true)], args := [d] }
  | _ => none }
def fnGreatestValueRow : OpenClaim := { program := "ytobbeofibkpbaaa", sum := "392b43cff28ff26fd779e2d547c90c69eb393d18e5798f0ab7720f153394ebf9", func := "loop.example/balancedpipes/laws.FnGreatestValue", spec := "fnGreatestValue", unfollowed := true, recurses := true, apart := false }
def FnGreatestValueSaid : Prop := fnGreatestValueRow.holds Try.pinned (OpenSpec.ofChange fnGreatestValueSpec)

/-- ITS FALSE NEIGHBOUR: 'it returns false'. Refute it at one input. -/
def fnGreatestValueWrong : ChangeSpec := { name := "fnGreatestValue", fn := fun _ => fun
  | [d] => { results := [.lit (.bool false)], args := [d] }
  | _ => none }
def FnGreatestValueWrongFalsely : Prop := fnGreatestValueRow.holds Try.pinned (OpenSpec.ofChange fnGreatestValueWrong)

/-- 'laws.FnReachedFrom': WHATEVER THE INPUT: true; the input reads as it did. -/
def fnReachedFromSpec : ChangeSpec := { name := "fnReachedFrom", fn := fun _ => fun
  | [d] => { results := [.lit (.bool true)], args := [d] }
  | _ => none }
def fnReachedFromRow : OpenClaim := { program := "ytobbeofibkpbaaa", sum := "392b43cff28ff26fd779e2d547c90c69eb393d18e5798f0ab7720f153394ebf9", func := "loop.example/balancedpipes/laws.FnReachedFrom", spec := "fnReachedFrom", unfollowed := true, recurses := true, apart := false }
def FnReachedFromSaid : Prop := fnReachedFromRow.holds Try.pinned (OpenSpec.ofChange fnReachedFromSpec)

/-- ITS FALSE NEIGHBOUR: 'it returns false'. Refute it at one input. -/
def fnReachedFromWrong : ChangeSpec := { name := "fnReachedFrom", fn := fun _ => fun
  | [d] => { results := [.lit (.bool false)], args := [d] }
  | _ => none }
def FnReachedFromWrongFalsely : Prop := fnReachedFromRow.holds Try.pinned (OpenSpec.ofChange fnReachedFromWrong)

/-- 'laws.FnAnyWay': WHATEVER THE INPUT: true; the input reads as it did. -/
def fnAnyWaySpec : ChangeSpec := { name := "fnAnyWay", fn := fun _ => fun
  | [d] => { results := [.lit (.bool true)], args := [d] }
  | _ => none }
def fnAnyWayRow : OpenClaim := { program := "ytobbeofibkpbaaa", sum := "392b43cff28ff26fd779e2d547c90c69eb393d18e5798f0ab7720f153394ebf9", func := "loop.example/balancedpipes/laws.FnAnyWay", spec := "fnAnyWay", unfollowed := true, recurses := true, apart := false }
def FnAnyWaySaid : Prop := fnAnyWayRow.holds Try.pinned (OpenSpec.ofChange fnAnyWaySpec)

/-- ITS FALSE NEIGHBOUR: 'it returns false'. Refute it at one input. -/
def fnAnyWayWrong : ChangeSpec := { name := "fnAnyWay", fn := fun _ => fun
  | [d] => { results := [.lit (.bool false)], args := [d] }
  | _ => none }
def FnAnyWayWrongFalsely : Prop := fnAnyWayRow.holds Try.pinned (OpenSpec.ofChange fnAnyWayWrong)

/-- 'laws.FnNoGreater': WHATEVER THE INPUT: true; the input reads as it did. -/
def fnNoGreaterSpec : ChangeSpec := { name := "fnNoGreater", fn := fun _ => fun
  | [d] => { results := [.lit (.bool true)], args := [d] }
  | _ => none }
def fnNoGreaterRow : OpenClaim := { program := "ytobbeofibkpbaaa", sum := "392b43cff28ff26fd779e2d547c90c69eb393d18e5798f0ab7720f153394ebf9", func := "loop.example/balancedpipes/laws.FnNoGreater", spec := "fnNoGreater", unfollowed := true, recurses := true, apart := false }
def FnNoGreaterSaid : Prop := fnNoGreaterRow.holds Try.pinned (OpenSpec.ofChange fnNoGreaterSpec)

/-- ITS FALSE NEIGHBOUR: 'it returns false'. Refute it at one input. -/
def fnNoGreaterWrong : ChangeSpec := { name := "fnNoGreater", fn := fun _ => fun
  | [d] => { results := [.lit (.bool false)], args := [d] }
  | _ => none }
def FnNoGreaterWrongFalsely : Prop := fnNoGreaterRow.holds Try.pinned (OpenSpec.ofChange fnNoGreaterWrong)

/-- 'laws.FnBackPipe': WHATEVER THE INPUT: true; the input reads as it did. -/
def fnBackPipeSpec : ChangeSpec := { name := "fnBackPipe", fn := fun _ => fun
  | [d] => { results := [.lit (.bool true)], args := [d] }
  | _ => none }
def fnBackPipeRow : OpenClaim := { program := "ytobbeofibkpbaaa", sum := "392b43cff28ff26fd779e2d547c90c69eb393d18e5798f0ab7720f153394ebf9", func := "loop.example/balancedpipes/laws.FnBackPipe", spec := "fnBackPipe", unfollowed := true, recurses := true, apart := false }
def FnBackPipeSaid : Prop := fnBackPipeRow.holds Try.pinned (OpenSpec.ofChange fnBackPipeSpec)

/-- ITS FALSE NEIGHBOUR: 'it returns false'. Refute it at one input. -/
def fnBackPipeWrong : ChangeSpec := { name := "fnBackPipe", fn := fun _ => fun
  | [d] => { results := [.lit (.bool false)], args := [d] }
  | _ => none }
def FnBackPipeWrongFalsely : Prop := fnBackPipeRow.holds Try.pinned (OpenSpec.ofChange fnBackPipeWrong)

/-- 'laws.FnCarriesOf': WHATEVER THE INPUT: true; the input reads as it did. -/
def fnCarriesOfSpec : ChangeSpec := { name := "fnCarriesOf", fn := fun _ => fun
  | [d] => { results := [.lit (.bool true)], args := [d] }
  | _ => none }
def fnCarriesOfRow : OpenClaim := { program := "ytobbeofibkpbaaa", sum := "392b43cff28ff26fd779e2d547c90c69eb393d18e5798f0ab7720f153394ebf9", func := "loop.example/balancedpipes/laws.FnCarriesOf", spec := "fnCarriesOf", unfollowed := true, recurses := true, apart := false }
def FnCarriesOfSaid : Prop := fnCarriesOfRow.holds Try.pinned (OpenSpec.ofChange fnCarriesOfSpec)

/-- ITS FALSE NEIGHBOUR: 'it returns false'. Refute it at one input. -/
def fnCarriesOfWrong : ChangeSpec := { name := "fnCarriesOf", fn := fun _ => fun
  | [d] => { results := [.lit (.bool false)], args := [d] }
  | _ => none }
def FnCarriesOfWrongFalsely : Prop := fnCarriesOfRow.holds Try.pinned (OpenSpec.ofChange fnCarriesOfWrong)

/-- 'laws.FnNeedsGreatest': WHATEVER THE INPUT: true; the input reads as it did. -/
def fnNeedsGreatestSpec : ChangeSpec := { name := "fnNeedsGreatest", fn := fun _ => fun
  | [d] => { results := [.lit (.bool true)], args := [d] }
  | _ => none }
def fnNeedsGreatestRow : OpenClaim := { program := "ytobbeofibkpbaaa", sum := "392b43cff28ff26fd779e2d547c90c69eb393d18e5798f0ab7720f153394ebf9", func := "loop.example/balancedpipes/laws.FnNeedsGreatest", spec := "fnNeedsGreatest", unfollowed := true, recurses := true, apart := false }
def FnNeedsGreatestSaid : Prop := fnNeedsGreatestRow.holds Try.pinned (OpenSpec.ofChange fnNeedsGreatestSpec)

/-- ITS FALSE NEIGHBOUR: 'it returns false'. Refute it at one input. -/
def fnNeedsGreatestWrong : ChangeSpec := { name := "fnNeedsGreatest", fn := fun _ => fun
  | [d] => { results := [.lit (.bool false)], args := [d] }
  | _ => none }
def FnNeedsGreatestWrongFalsely : Prop := fnNeedsGreatestRow.holds Try.pinned (OpenSpec.ofChange fnNeedsGreatestWrong)

/-- 'laws.FnThreadsUnit': WHATEVER THE INPUT: true; the input reads as it did. -/
def fnThreadsUnitSpec : ChangeSpec := { name := "fnThreadsUnit", fn := fun _ => fun
  | [d] => { results := [.lit (.bool true)], args := [d] }
  | _ => none }
def fnThreadsUnitRow : OpenClaim := { program := "ytobbeofibkpbaaa", sum := "392b43cff28ff26fd779e2d547c90c69eb393d18e5798f0ab7720f153394ebf9", func := "loop.example/balancedpipes/laws.FnThreadsUnit", spec := "fnThreadsUnit", unfollowed := true, recurses := true, apart := false }
def FnThreadsUnitSaid : Prop := fnThreadsUnitRow.holds Try.pinned (OpenSpec.ofChange fnThreadsUnitSpec)

/-- ITS FALSE NEIGHBOUR: 'it returns false'. Refute it at one input. -/
def fnThreadsUnitWrong : ChangeSpec := { name := "fnThreadsUnit", fn := fun _ => fun
  | [d] => { results := [.lit (.bool false)], args := [d] }
  | _ => none }
def FnThreadsUnitWrongFalsely : Prop := fnThreadsUnitRow.holds Try.pinned (OpenSpec.ofChange fnThreadsUnitWrong)

/-- 'laws.FnExactGreatestFlow': WHATEVER THE INPUT: true; the input reads as it did. -/
def fnExactGreatestFlowSpec : ChangeSpec := { name := "fnExactGreatestFlow", fn := fun _ => fun
  | [d1, d2, d3] => { results := [.lit (.bool true)], args := [d1, d2, d3] }
  | _ => none }
def fnExactGreatestFlowRow : OpenClaim := { program := "ytobbeofibkpbaaa", sum := "392b43cff28ff26fd779e2d547c90c69eb393d18e5798f0ab7720f153394ebf9", func := "loop.example/balancedpipes/laws.FnExactGreatestFlow", spec := "fnExactGreatestFlow", unfollowed := true, recurses := true, apart := false }
def FnExactGreatestFlowSaid : Prop := fnExactGreatestFlowRow.holds Try.pinned (OpenSpec.ofChange fnExactGreatestFlowSpec)

/-- ITS FALSE NEIGHBOUR: 'it returns false'. Refute it at one input. -/
def fnExactGreatestFlowWrong : ChangeSpec := { name := "fnExactGreatestFlow", fn := fun _ => fun
  | [d1, d2, d3] => { results := [.lit (.bool false)], args := [d1, d2, d3] }
  | _ => none }
def FnExactGreatestFlowWrongFalsely : Prop := fnExactGreatestFlowRow.holds Try.pinned (OpenSpec.ofChange fnExactGreatestFlowWrong)

/-- 'laws.FnExactGreatestValue': WHATEVER THE INPUT: true; the input reads as it did. -/
def fnExactGreatestValueSpec : ChangeSpec := { name := "fnExactGreatestValue", fn := fun _ => fun
  | [d1, d2, d3] => { results := [.lit (.bool true)], args := [d1, d2, d3] }
  | _ => none }
def fnExactGreatestValueRow : OpenClaim := { program := "ytobbeofibkpbaaa", sum := "392b43cff28ff26fd779e2d547c90c69eb393d18e5798f0ab7720f153394ebf9", func := "loop.example/balancedpipes/laws.FnExactGreatestValue", spec := "fnExactGreatestValue", unfollowed := true, recurses := true, apart := false }
def FnExactGreatestValueSaid : Prop := fnExactGreatestValueRow.holds Try.pinned (OpenSpec.ofChange fnExactGreatestValueSpec)

/-- ITS FALSE NEIGHBOUR: 'it returns false'. Refute it at one input. -/
def fnExactGreatestValueWrong : ChangeSpec := { name := "fnExactGreatestValue", fn := fun _ => fun
  | [d1, d2, d3] => { results := [.lit (.bool false)], args := [d1, d2, d3] }
  | _ => none }
def FnExactGreatestValueWrongFalsely : Prop := fnExactGreatestValueRow.holds Try.pinned (OpenSpec.ofChange fnExactGreatestValueWrong)

/- THE SECOND FORM. 'bulk': how many values and letters a reading holds, each counted each time it is reached (what is shared counts as often as it is met; a slice's spare places count too). A statement '..UptoSaid' is the law's where the arguments, and the package variables that the reading takes, are together of bulk at most 1048576: NARROWER than '..Said'. Prove '..Said' where nothing that the law and all that it calls make is longer than what came in: it says more and counts as full. Else prove '..UptoSaid'. A law counts once. -/
mutual
def uptoBulk {H : Type} : DataW H → Nat
  | .lit (.string bytes) => bytes.length + 1
  | .lit _ => 1
  | .nil => 1
  | .ptr d => uptoBulk d + 1
  | .slice elems spare => uptoBulkAll elems + uptoBulkAll spare + 1
  | .agg parts => uptoBulkAll parts + 1
  | .iface _ d => uptoBulk d + 1
  | .map entries => uptoBulkEntries entries + 1
  | .held _ => 1
def uptoBulkAll {H : Type} : List (DataW H) → Nat
  | [] => 0
  | d :: r => uptoBulk d + uptoBulkAll r
def uptoBulkEntries {H : Type} : List (Lit × DataW H) → Nat
  | [] => 0
  | x :: r => uptoBulkEntry x + uptoBulkEntries r
def uptoBulkEntry {H : Type} : Lit × DataW H → Nat
  | (.string bytes, d) => bytes.length + uptoBulk d + 1
  | (_, d) => uptoBulk d + 1
 end
def uptoSmall : (H : Type) → List (DataW H) → Bool := fun _ ds => decide (uptoBulkAll ds ≤ 1048576)
def OpenSpec.upto (s : _root_.Go.ChangeSpec) : _root_.Go.OpenSpec := { _root_.Go.OpenSpec.ofChange s with cond := some uptoSmall }

/-- 'laws.FnGreatestFlow', WHERE WHAT IT READS IS OF BULK AT MOST 1048576: true; the input reads as it did. -/
def fnGreatestFlowUptoRow : OpenClaim := { program := "ytobbeofibkpbaaa", sum := "392b43cff28ff26fd779e2d547c90c69eb393d18e5798f0ab7720f153394ebf9", func := "loop.example/balancedpipes/laws.FnGreatestFlow", spec := "fnGreatestFlow", unfollowed := true, recurses := true, apart := false, narrowed := true }
def FnGreatestFlowUptoSaid : Prop := fnGreatestFlowUptoRow.holds Try.pinned (OpenSpec.upto fnGreatestFlowSpec)

/-- 'laws.FnGreatestValue', WHERE WHAT IT READS IS OF BULK AT MOST 1048576: true; the input reads as it did. -/
def fnGreatestValueUptoRow : OpenClaim := { program := "ytobbeofibkpbaaa", sum := "392b43cff28ff26fd779e2d547c90c69eb393d18e5798f0ab7720f153394ebf9", func := "loop.example/balancedpipes/laws.FnGreatestValue", spec := "fnGreatestValue", unfollowed := true, recurses := true, apart := false, narrowed := true }
def FnGreatestValueUptoSaid : Prop := fnGreatestValueUptoRow.holds Try.pinned (OpenSpec.upto fnGreatestValueSpec)

/-- 'laws.FnReachedFrom', WHERE WHAT IT READS IS OF BULK AT MOST 1048576: true; the input reads as it did. -/
def fnReachedFromUptoRow : OpenClaim := { program := "ytobbeofibkpbaaa", sum := "392b43cff28ff26fd779e2d547c90c69eb393d18e5798f0ab7720f153394ebf9", func := "loop.example/balancedpipes/laws.FnReachedFrom", spec := "fnReachedFrom", unfollowed := true, recurses := true, apart := false, narrowed := true }
def FnReachedFromUptoSaid : Prop := fnReachedFromUptoRow.holds Try.pinned (OpenSpec.upto fnReachedFromSpec)

/-- 'laws.FnAnyWay', WHERE WHAT IT READS IS OF BULK AT MOST 1048576: true; the input reads as it did. -/
def fnAnyWayUptoRow : OpenClaim := { program := "ytobbeofibkpbaaa", sum := "392b43cff28ff26fd779e2d547c90c69eb393d18e5798f0ab7720f153394ebf9", func := "loop.example/balancedpipes/laws.FnAnyWay", spec := "fnAnyWay", unfollowed := true, recurses := true, apart := false, narrowed := true }
def FnAnyWayUptoSaid : Prop := fnAnyWayUptoRow.holds Try.pinned (OpenSpec.upto fnAnyWaySpec)

/-- 'laws.FnNoGreater', WHERE WHAT IT READS IS OF BULK AT MOST 1048576: true; the input reads as it did. -/
def fnNoGreaterUptoRow : OpenClaim := { program := "ytobbeofibkpbaaa", sum := "392b43cff28ff26fd779e2d547c90c69eb393d18e5798f0ab7720f153394ebf9", func := "loop.example/balancedpipes/laws.FnNoGreater", spec := "fnNoGreater", unfollowed := true, recurses := true, apart := false, narrowed := true }
def FnNoGreaterUptoSaid : Prop := fnNoGreaterUptoRow.holds Try.pinned (OpenSpec.upto fnNoGreaterSpec)

/-- 'laws.FnBackPipe', WHERE WHAT IT READS IS OF BULK AT MOST 1048576: true; the input reads as it did. -/
def fnBackPipeUptoRow : OpenClaim := { program := "ytobbeofibkpbaaa", sum := "392b43cff28ff26fd779e2d547c90c69eb393d18e5798f0ab7720f153394ebf9", func := "loop.example/balancedpipes/laws.FnBackPipe", spec := "fnBackPipe", unfollowed := true, recurses := true, apart := false, narrowed := true }
def FnBackPipeUptoSaid : Prop := fnBackPipeUptoRow.holds Try.pinned (OpenSpec.upto fnBackPipeSpec)

/-- 'laws.FnCarriesOf', WHERE WHAT IT READS IS OF BULK AT MOST 1048576: true; the input reads as it did. -/
def fnCarriesOfUptoRow : OpenClaim := { program := "ytobbeofibkpbaaa", sum := "392b43cff28ff26fd779e2d547c90c69eb393d18e5798f0ab7720f153394ebf9", func := "loop.example/balancedpipes/laws.FnCarriesOf", spec := "fnCarriesOf", unfollowed := true, recurses := true, apart := false, narrowed := true }
def FnCarriesOfUptoSaid : Prop := fnCarriesOfUptoRow.holds Try.pinned (OpenSpec.upto fnCarriesOfSpec)

/-- 'laws.FnNeedsGreatest', WHERE WHAT IT READS IS OF BULK AT MOST 1048576: true; the input reads as it did. -/
def fnNeedsGreatestUptoRow : OpenClaim := { program := "ytobbeofibkpbaaa", sum := "392b43cff28ff26fd779e2d547c90c69eb393d18e5798f0ab7720f153394ebf9", func := "loop.example/balancedpipes/laws.FnNeedsGreatest", spec := "fnNeedsGreatest", unfollowed := true, recurses := true, apart := false, narrowed := true }
def FnNeedsGreatestUptoSaid : Prop := fnNeedsGreatestUptoRow.holds Try.pinned (OpenSpec.upto fnNeedsGreatestSpec)

/-- 'laws.FnThreadsUnit', WHERE WHAT IT READS IS OF BULK AT MOST 1048576: true; the input reads as it did. -/
def fnThreadsUnitUptoRow : OpenClaim := { program := "ytobbeofibkpbaaa", sum := "392b43cff28ff26fd779e2d547c90c69eb393d18e5798f0ab7720f153394ebf9", func := "loop.example/balancedpipes/laws.FnThreadsUnit", spec := "fnThreadsUnit", unfollowed := true, recurses := true, apart := false, narrowed := true }
def FnThreadsUnitUptoSaid : Prop := fnThreadsUnitUptoRow.holds Try.pinned (OpenSpec.upto fnThreadsUnitSpec)

/-- 'laws.FnExactGreatestFlow', WHERE WHAT IT READS IS OF BULK AT MOST 1048576: true; the input reads as it did. -/
def fnExactGreatestFlowUptoRow : OpenClaim := { program := "ytobbeofibkpbaaa", sum := "392b43cff28ff26fd779e2d547c90c69eb393d18e5798f0ab7720f153394ebf9", func := "loop.example/balancedpipes/laws.FnExactGreatestFlow", spec := "fnExactGreatestFlow", unfollowed := true, recurses := true, apart := false, narrowed := true }
def FnExactGreatestFlowUptoSaid : Prop := fnExactGreatestFlowUptoRow.holds Try.pinned (OpenSpec.upto fnExactGreatestFlowSpec)

/-- 'laws.FnExactGreatestValue', WHERE WHAT IT READS IS OF BULK AT MOST 1048576: true; the input reads as it did. -/
def fnExactGreatestValueUptoRow : OpenClaim := { program := "ytobbeofibkpbaaa", sum := "392b43cff28ff26fd779e2d547c90c69eb393d18e5798f0ab7720f153394ebf9", func := "loop.example/balancedpipes/laws.FnExactGreatestValue", spec := "fnExactGreatestValue", unfollowed := true, recurses := true, apart := false, narrowed := true }
def FnExactGreatestValueUptoSaid : Prop := fnExactGreatestValueUptoRow.holds Try.pinned (OpenSpec.upto fnExactGreatestValueSpec)

end Rows
end Go.Proofs.Ytobbeofibkpbaaa
