/-
  No cell of these rows narrows 'for every input' (looked for: loops, veiled, ifaces, maps, wideKeys, modest, calm, conditions, laid).
  DERIVED. THE GIVEN ROWS OF THIS SEAT. 11 by the template 'for every input the law returns true; each argument reads behind the call as it read before'; 0 by the template 'total and deterministic' (their statements: YtpknhieiifjblaaTotals.lean).
  GIVEN WITH THE SEED: the statements are not yours to turn. If you find one false, say at which input.
  Laid BY PROGRAM, IN A SANDBOX (cutbox-rows.mjs): the forced cells as the released guide's own fill.sh prints them over the translation c62e725619230a5c… (all of the seat's roots in one cut). By AI agents, Wed Nov 11 2026. No macro, syntax, notation, axiom, sorry.
-/
import Derived.Test.YtpknhieiifjblaaChecked
import GoSem.Claim
import GoSem.ClaimJoined
import GoSem.ClaimMapViews
import Derived.JoinedTies
import Derived.KernelRfl
namespace Go.Proofs.Ytpknhieiifjblaa
/- THE CELL 'sum', in the pinned program and in every row, IS THE sha256 OF THE DUMP (.gsa) THAT YtpknhieiifjblaaProg.lean LOADS. Nothing in Lean hashes anything: it is a label: what it is worth is what the hold of that sum in a sandbox is worth. -/
noncomputable def Try.pinned : Pinned := { name := "ytpknhieiifjblaa", sum := "c62e725619230a5c86d3ce432c156a1e7f4e686bd371931c9dbb10cbfef33ff4", checked := Try.checked }
namespace Rows
def none {H : Type} : Left H := { results := [], args := [] }

/-- 'laws.FnBothWays': WHATEVER THE INPUT: true; the input reads as it did. -/
def fnBothWaysSpec : ChangeSpec := { name := "fnBothWays", fn := fun _ => fun
  | [d] => { results := [.lit (.bool true)], args := [d] }
  | _ => none }
def fnBothWaysRow : OpenClaim := { program := "ytpknhieiifjblaa", sum := "c62e725619230a5c86d3ce432c156a1e7f4e686bd371931c9dbb10cbfef33ff4", func := "loop.example/balancedpipes/laws.FnBothWays", spec := "fnBothWays", unfollowed := true, recurses := true, apart := false }
def FnBothWaysSaid : Prop := fnBothWaysRow.holds Try.pinned (OpenSpec.ofChange fnBothWaysSpec)

/-- ITS FALSE NEIGHBOUR: 'it returns false'. Refute it at one input. -/
def fnBothWaysWrong : ChangeSpec := { name := "fnBothWays", fn := fun _ => fun
  | [d] => { results := [.lit (.bool false)], args := [d] }
  | _ => none }
def FnBothWaysWrongFalsely : Prop := fnBothWaysRow.holds Try.pinned (OpenSpec.ofChange fnBothWaysWrong)

/-- 'laws.FnFreeOk': WHATEVER THE INPUT: true; the input reads as it did. -/
def fnFreeOkSpec : ChangeSpec := { name := "fnFreeOk", fn := fun _ => fun
  | [d] => { results := [.lit (.bool true)], args := [d] }
  | _ => none }
def fnFreeOkRow : OpenClaim := { program := "ytpknhieiifjblaa", sum := "c62e725619230a5c86d3ce432c156a1e7f4e686bd371931c9dbb10cbfef33ff4", func := "loop.example/balancedpipes/laws.FnFreeOk", spec := "fnFreeOk", unfollowed := true, recurses := true, apart := false }
def FnFreeOkSaid : Prop := fnFreeOkRow.holds Try.pinned (OpenSpec.ofChange fnFreeOkSpec)

/-- ITS FALSE NEIGHBOUR: 'it returns false'. Refute it at one input. -/
def fnFreeOkWrong : ChangeSpec := { name := "fnFreeOk", fn := fun _ => fun
  | [d] => { results := [.lit (.bool false)], args := [d] }
  | _ => none }
def FnFreeOkWrongFalsely : Prop := fnFreeOkRow.holds Try.pinned (OpenSpec.ofChange fnFreeOkWrong)

/-- 'laws.FnWayFrom': WHATEVER THE INPUT: true; the input reads as it did. -/
def fnWayFromSpec : ChangeSpec := { name := "fnWayFrom", fn := fun _ => fun
  | [d] => { results := [.lit (.bool true)], args := [d] }
  | _ => none }
def fnWayFromRow : OpenClaim := { program := "ytpknhieiifjblaa", sum := "c62e725619230a5c86d3ce432c156a1e7f4e686bd371931c9dbb10cbfef33ff4", func := "loop.example/balancedpipes/laws.FnWayFrom", spec := "fnWayFrom", unfollowed := true, recurses := true, apart := false }
def FnWayFromSaid : Prop := fnWayFromRow.holds Try.pinned (OpenSpec.ofChange fnWayFromSpec)

/-- ITS FALSE NEIGHBOUR: 'it returns false'. Refute it at one input. -/
def fnWayFromWrong : ChangeSpec := { name := "fnWayFrom", fn := fun _ => fun
  | [d] => { results := [.lit (.bool false)], args := [d] }
  | _ => none }
def FnWayFromWrongFalsely : Prop := fnWayFromRow.holds Try.pinned (OpenSpec.ofChange fnWayFromWrong)

/-- 'laws.FnPushedOn': WHATEVER THE INPUT: true; the input reads as it did. -/
def fnPushedOnSpec : ChangeSpec := { name := "fnPushedOn", fn := fun _ => fun
  | [d] => { results := [.lit (.bool true)], args := [d] }
  | _ => none }
def fnPushedOnRow : OpenClaim := { program := "ytpknhieiifjblaa", sum := "c62e725619230a5c86d3ce432c156a1e7f4e686bd371931c9dbb10cbfef33ff4", func := "loop.example/balancedpipes/laws.FnPushedOn", spec := "fnPushedOn", unfollowed := true, recurses := true, apart := false }
def FnPushedOnSaid : Prop := fnPushedOnRow.holds Try.pinned (OpenSpec.ofChange fnPushedOnSpec)

/-- ITS FALSE NEIGHBOUR: 'it returns false'. Refute it at one input. -/
def fnPushedOnWrong : ChangeSpec := { name := "fnPushedOn", fn := fun _ => fun
  | [d] => { results := [.lit (.bool false)], args := [d] }
  | _ => none }
def FnPushedOnWrongFalsely : Prop := fnPushedOnRow.holds Try.pinned (OpenSpec.ofChange fnPushedOnWrong)

/-- 'laws.FnGreatestFlow': WHATEVER THE INPUT: true; the input reads as it did. -/
def fnGreatestFlowSpec : ChangeSpec := { name := "fnGreatestFlow", fn := fun _ => fun
  | [d] => { results := [.lit (.bool true)], args := [d] }
  | _ => none }
def fnGreatestFlowRow : OpenClaim := { program := "ytpknhieiifjblaa", sum := "c62e725619230a5c86d3ce432c156a1e7f4e686bd371931c9dbb10cbfef33ff4", func := "loop.example/balancedpipes/laws.FnGreatestFlow", spec := "fnGreatestFlow", unfollowed := true, recurses := true, apart := false }
def FnGreatestFlowSaid : Prop := fnGreatestFlowRow.holds Try.pinned (OpenSpec.ofChange fnGreatestFlowSpec)

/-- ITS FALSE NEIGHBOUR: 'it returns false'. Refute it at one input. -/
def fnGreatestFlowWrong : ChangeSpec := { name := "fnGreatestFlow", fn := fun _ => fun
  | [d] => { results := [.lit (.bool false)], args := [d] }
  | _ => none }
def FnGreatestFlowWrongFalsely : Prop := fnGreatestFlowRow.holds Try.pinned (OpenSpec.ofChange fnGreatestFlowWrong)

/-- 'laws.FnGreatestValue': WHATEVER THE INPUT: true; the input reads as it did. -/
def fnGreatestValueSpec : ChangeSpec := { name := "fnGreatestValue", fn := fun _ => fun
  | [d] => { results := [.lit (.bool true)], args := [d] }
  | _ => none }
def fnGreatestValueRow : OpenClaim := { program := "ytpknhieiifjblaa", sum := "c62e725619230a5c86d3ce432c156a1e7f4e686bd371931c9dbb10cbfef33ff4", func := "loop.example/balancedpipes/laws.FnGreatestValue", spec := "fnGreatestValue", unfollowed := true, recurses := true, apart := false }
def FnGreatestValueSaid : Prop := fnGreatestValueRow.holds Try.pinned (OpenSpec.ofChange fnGreatestValueSpec)

/-- ITS FALSE NEIGHBOUR: 'it returns false'. Refute it at one input. -/
def fnGreatestValueWrong : ChangeSpec := { name := "fnGreatestValue", fn := fun _ => fun
  | [d] => { results := [.lit (.bool false)], args := [d] }
  | _ => none }
def FnGreatestValueWrongFalsely : Prop := fnGreatestValueRow.holds Try.pinned (OpenSpec.ofChange fnGreatestValueWrong)

/-- 'laws.FnReachedFrom': WHATEVER THE INPUT: true; the input reads as it did. -/
def fnReachedFromSpec : ChangeSpec := { name := "fnReachedFrom", fn := fun _ => fun
  | [d] => { results := [.lit (.bool true)], args := [d] }
  | _ => none }
def fnReachedFromRow : OpenClaim := { program := "ytpknhieiifjblaa", sum := "c62e725619230a5c86d3ce432c156a1e7f4e686bd371931c9dbb10cbfef33ff4", func := "loop.example/balancedpipes/laws.FnReachedFrom", spec := "fnReachedFrom", unfollowed := true, recurses := true, apart := false }
def FnReachedFromSaid : Prop := fnReachedFromRow.holds Try.pinned (OpenSpec.ofChange fnReachedFromSpec)

/-- ITS FALSE NEIGHBOUR: 'it returns false'. Refute it at one input. -/
def fnReachedFromWrong : ChangeSpec := { name := "fnReachedFrom", fn := fun _ => fun
  | [d] => { results := [.lit (.bool false)], args := [d] }
  | _ => none }
def FnReachedFromWrongFalsely : Prop := fnReachedFromRow.holds Try.pinned (OpenSpec.ofChange fnReachedFromWrong)

/-- 'laws.FnAnyWay': WHATEVER THE INPUT: true; the input reads as it did. -/
def fnAnyWaySpec : ChangeSpec := { name := "fnAnyWay", fn := fun _ => fun
  | [d] => { results := [.lit (.bool true)], args := [d] }
  | _ => none }
def fnAnyWayRow : OpenClaim := { program := "ytpknhieiifjblaa", sum := "c62e725619230a5c86d3ce432c156a1e7f4e686bd371931c9dbb10cbfef33ff4", func := "loop.example/balancedpipes/laws.FnAnyWay", spec := "fnAnyWay", unfollowed := true, recurses := true, apart := false }
def FnAnyWaySaid : Prop := fnAnyWayRow.holds Try.pinned (OpenSpec.ofChange fnAnyWaySpec)

/-- ITS FALSE NEIGHBOUR: 'it returns false'. Refute it at one input. -/
def fnAnyWayWrong : ChangeSpec := { name := "fnAnyWay", fn := fun _ => fun
  | [d] => { results := [.lit (.bool false)], args := [d] }
  | _ => none }
def FnAnyWayWrongFalsely : Prop := fnAnyWayRow.holds Try.pinned (OpenSpec.ofChange fnAnyWayWrong)

/-- 'laws.FnNoGreater': WHATEVER THE INPUT: true; the input reads as it did. -/
def fnNoGreaterSpec : ChangeSpec := { name := "fnNoGreater", fn := fun _ => fun
  | [d] => { results := [.lit (.bool true)], args := [d] }
  | _ => none }
def fnNoGreaterRow : OpenClaim := { program := "ytpknhieiifjblaa", sum := "c62e725619230a5c86d3ce432c156a1e7f4e686bd371931c9dbb10cbfef33ff4", func := "loop.example/balancedpipes/laws.FnNoGreater", spec := "fnNoGreater", unfollowed := true, recurses := true, apart := false }
def FnNoGreaterSaid : Prop := fnNoGreaterRow.holds Try.pinned (OpenSpec.ofChange fnNoGreaterSpec)

/-- ITS FALSE NEIGHBOUR: 'it returns false'. Refute it at one input. -/
def fnNoGreaterWrong : ChangeSpec := { name := "fnNoGreater", fn := fun _ => fun
  | [d] => { results := [.lit (.bool false)], args := [d] }
  | _ => none }
def FnNoGreaterWrongFalsely : Prop := fnNoGreaterRow.holds Try.pinned (OpenSpec.ofChange fnNoGreaterWrong)

/-- 'laws.FnWithPipe': WHATEVER THE INPUT: true; the input reads as it did. -/
def fnWithPipeSpec : ChangeSpec := { name := "fnWithPipe", fn := fun _ => fun
  | [d] => { results := [.lit (.bool true)], args := [d] }
  | _ => none }
def fnWithPipeRow : OpenClaim := { program := "ytpknhieiifjblaa", sum := "c62e725619230a5c86d3ce432c156a1e7f4e686bd371931c9dbb10cbfef33ff4", func := "loop.example/balancedpipes/laws.FnWithPipe", spec := "fnWithPipe", unfollowed := true, recurses := true, apart := false }
def FnWithPipeSaid : Prop := fnWithPipeRow.holds Try.pinned (OpenSpec.ofChange fnWithPipeSpec)

/-- ITS FALSE NEIGHBOUR: 'it returns false'. Refute it at one input. -/
def fnWithPipeWrong : ChangeSpec := { name := "fnWithPipe", fn := fun _ => fun
  | [d] => { results := [.lit (.bool false)], args := [d] }
  | _ => none }
def FnWithPipeWrongFalsely : Prop := fnWithPipeRow.holds Try.pinned (OpenSpec.ofChange fnWithPipeWrong)

/-- 'laws.FnCostOf': WHATEVER THE INPUT: true; the input reads as it did. -/
def fnCostOfSpec : ChangeSpec := { name := "fnCostOf", fn := fun _ => fun
  | [d] => { results := [.lit (.bool true)], args := [d] }
  | _ => none }
def fnCostOfRow : OpenClaim := { program := "ytpknhieiifjblaa", sum := "c62e725619230a5c86d3ce432c156a1e7f4e686bd371931c9dbb10cbfef33ff4", func := "loop.example/balancedpipes/laws.FnCostOf", spec := "fnCostOf", unfollowed := true, recurses := true, apart := false }
def FnCostOfSaid : Prop := fnCostOfRow.holds Try.pinned (OpenSpec.ofChange fnCostOfSpec)

/-- ITS FALSE NEIGHBOUR: 'it returns false'. Refute it at one input. -/
def fnCostOfWrong : ChangeSpec := { name := "fnCostOf", fn := fun _ => fun
  | [d] => { results := [.lit (.bool false)], args := [d] }
  | _ => none }
def FnCostOfWrongFalsely : Prop := fnCostOfRow.holds Try.pinned (OpenSpec.ofChange fnCostOfWrong)

/- THE SECOND FORM. 'bulk': how many values and letters a reading holds, each counted each time it is reached (what is shared counts as often as it is met; a slice's spare places count too). A statement '..UptoSaid' is the law's where the arguments, and the package variables that the reading takes, are together of bulk at most 1048576: NARROWER than '..Said'. Prove '..Said' where nothing that the law and all that it calls make is longer than what came in: it says more and counts as full. Else prove '..UptoSaid'. A law counts once. -/
mutual
def uptoBulk {H : Type} : DataW H → Nat
  | .lit (.string bytes) => bytes.length + 1
  | .lit _ => 1
  | .nil => 1
  | .ptr d => uptoBulk d + 1
  | .slice elems spare => uptoBulkAll elems + uptoBulkAll spare + 1
  | .agg parts => uptoBulkAll parts + 1
  | .iface _ d => uptoBulk d + 1
  | .map entries => uptoBulkEntries entries + 1
  | .held _ => 1
def uptoBulkAll {H : Type} : List (DataW H) → Nat
  | [] => 0
  | d :: r => uptoBulk d + uptoBulkAll r
def uptoBulkEntries {H : Type} : List (Lit × DataW H) → Nat
  | [] => 0
  | x :: r => uptoBulkEntry x + uptoBulkEntries r
def uptoBulkEntry {H : Type} : Lit × DataW H → Nat
  | (.string bytes, d) => bytes.length + uptoBulk d + 1
  | (_, d) => uptoBulk d + 1
 end
def uptoSmall : (H : Type) → List (DataW H) → Bool := fun _ ds => decide (uptoBulkAll ds ≤ 1048576)
def OpenSpec.upto (s : _root_.Go.ChangeSpec) : _root_.Go.OpenSpec := { _root_.Go.OpenSpec.ofChange s with cond := some uptoSmall }

/-- 'laws.FnBothWays', WHERE WHAT IT READS IS OF BULK AT MOST 1048576: true; the input reads as it did. -/
def fnBothWaysUptoRow : OpenClaim := { program := "ytpknhieiifjblaa", sum := "c62e725619230a5c86d3ce432c156a1e7f4e686bd371931c9dbb10cbfef33ff4", func := "loop.example/balancedpipes/laws.FnBothWays", spec := "fnBothWays", unfollowed := true, recurses := true, apart := false, narrowed := true }
def FnBothWaysUptoSaid : Prop := fnBothWaysUptoRow.holds Try.pinned (OpenSpec.upto fnBothWaysSpec)

/-- 'laws.FnFreeOk', WHERE WHAT IT READS IS OF BULK AT MOST 1048576: true; the input reads as it did. -/
def fnFreeOkUptoRow : OpenClaim := { program := "ytpknhieiifjblaa", sum := "c62e725619230a5c86d3ce432c156a1e7f4e686bd371931c9dbb10cbfef33ff4", func := "loop.example/balancedpipes/laws.FnFreeOk", spec := "fnFreeOk", unfollowed := true, recurses := true, apart := false, narrowed := true }
def FnFreeOkUptoSaid : Prop := fnFreeOkUptoRow.holds Try.pinned (OpenSpec.upto fnFreeOkSpec)

/-- 'laws.FnWayFrom', WHERE WHAT IT READS IS OF BULK AT MOST 1048576: true; the input reads as it did. -/
def fnWayFromUptoRow : OpenClaim := { program := "ytpknhieiifjblaa", sum := "c62e725619230a5c86d3ce432c156a1e7f4e686bd371931c9dbb10cbfef33ff4", func := "loop.example/balancedpipes/laws.FnWayFrom", spec := "fnWayFrom", unfollowed := true, recurses := true, apart := false, narrowed := true }
def FnWayFromUptoSaid : Prop := fnWayFromUptoRow.holds Try.pinned (OpenSpec.upto fnWayFromSpec)

/-- 'laws.FnPushedOn', WHERE WHAT IT READS IS OF BULK AT MOST 1048576: true; the input reads as it did. -/
def fnPushedOnUptoRow : OpenClaim := { program := "ytpknhieiifjblaa", sum := "c62e725619230a5c86d3ce432c156a1e7f4e686bd371931c9dbb10cbfef33ff4", func := "loop.example/balancedpipes/laws.FnPushedOn", spec := "fnPushedOn", unfollowed := true, recurses := true, apart := false, narrowed := true }
def FnPushedOnUptoSaid : Prop := fnPushedOnUptoRow.holds Try.pinned (OpenSpec.upto fnPushedOnSpec)

/-- 'laws.FnGreatestFlow', WHERE WHAT IT READS IS OF BULK AT MOST 1048576: true; the input reads as it did. -/
def fnGreatestFlowUptoRow : OpenClaim := { program := "ytpknhieiifjblaa", sum := "c62e725619230a5c86d3ce432c156a1e7f4e686bd371931c9dbb10cbfef33ff4", func := "loop.example/balancedpipes/laws.FnGreatestFlow", spec := "fnGreatestFlow", unfollowed := true, recurses := true, apart := false, narrowed := true }
def FnGreatestFlowUptoSaid : Prop := fnGreatestFlowUptoRow.holds Try.pinned (OpenSpec.upto fnGreatestFlowSpec)

/-- 'laws.FnGreatestValue', WHERE WHAT IT READS IS OF BULK AT MOST 1048576: true; the input reads as it did. -/
def fnGreatestValueUptoRow : OpenClaim := { program := "ytpknhieiifjblaa", sum := "c62e725619230a5c86d3ce432c156a1e7f4e686bd371931c9dbb10cbfef33ff4", func := "loop.example/balancedpipes/laws.FnGreatestValue", spec := "fnGreatestValue", unfollowed := true, recurses := true, apart := false, narrowed := true }
def FnGreatestValueUptoSaid : Prop := fnGreatestValueUptoRow.holds Try.pinned (OpenSpec.upto fnGreatestValueSpec)

/-- 'laws.FnReachedFrom', WHERE WHAT IT READS IS OF BULK AT MOST 1048576: true; the input reads as it did. -/
def fnReachedFromUptoRow : OpenClaim := { program := "ytpknhieiifjblaa", sum := "c62e725619230a5c86d3ce432c156a1e7f4e686bd371931c9dbb10cbfef33ff4", func := "loop.example/balancedpipes/laws.FnReachedFrom", spec := "fnReachedFrom", unfollowed := true, recurses := true, apart := false, narrowed := true }
def FnReachedFromUptoSaid : Prop := fnReachedFromUptoRow.holds Try.pinned (OpenSpec.upto fnReachedFromSpec)

/-- 'laws.FnAnyWay', WHERE WHAT IT READS IS OF BULK AT MOST 1048576: true; the input reads as it did. -/
def fnAnyWayUptoRow : OpenClaim := { program := "ytpknhieiifjblaa", sum := "c62e725619230a5c86d3ce432c156a1e7f4e686bd371931c9dbb10cbfef33ff4", func := "loop.example/balancedpipes/laws.FnAnyWay", spec := "fnAnyWay", unfollowed := true, recurses := true, apart := false, narrowed := true }
def FnAnyWayUptoSaid : Prop := fnAnyWayUptoRow.holds Try.pinned (OpenSpec.upto fnAnyWaySpec)

/-- 'laws.FnNoGreater', WHERE WHAT IT READS IS OF BULK AT MOST 1048576: true; the input reads as it did. -/
def fnNoGreaterUptoRow : OpenClaim := { program := "ytpknhieiifjblaa", sum := "c62e725619230a5c86d3ce432c156a1e7f4e686bd371931c9dbb10cbfef33ff4", func := "loop.example/balancedpipes/laws.FnNoGreater", spec := "fnNoGreater", unfollowed := true, recurses := true, apart := false, narrowed := true }
def FnNoGreaterUptoSaid : Prop := fnNoGreaterUptoRow.holds Try.pinned (OpenSpec.upto fnNoGreaterSpec)

/-- 'laws.FnWithPipe', WHERE WHAT IT READS IS OF BULK AT MOST 1048576: true; the input reads as it did. -/
def fnWithPipeUptoRow : OpenClaim := { program := "ytpknhieiifjblaa", sum := "c62e725619230a5c86d3ce432c156a1e7f4e686bd371931c9dbb10cbfef33ff4", func := "loop.example/balancedpipes/laws.FnWithPipe", spec := "fnWithPipe", unfollowed := true, recurses := true, apart := false, narrowed := true }
def FnWithPipeUptoSaid : Prop := fnWithPipeUptoRow.holds Try.pinned (OpenSpec.upto fnWithPipeSpec)

/-- 'laws.FnCostOf', WHERE WHAT IT READS IS OF BULK AT MOST 1048576: true; the input reads as it did. -/
def fnCostOfUptoRow : OpenClaim := { program := "ytpknhieiifjblaa", sum := "c62e725619230a5c86d3ce432c156a1e7f4e686bd371931c9dbb10cbfef33ff4", func := "loop.example/balancedpipes/laws.FnCostOf", spec := "fnCostOf", unfollowed := true, recurses := true, apart := false, narrowed := true }
def FnCostOfUptoSaid : Prop := fnCostOfUptoRow.holds Try.pinned (OpenSpec.upto fnCostOfSpec)

end Rows
end Go.Proofs.Ytpknhieiifjblaa
