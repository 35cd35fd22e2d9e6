/-
  No cell of these rows narrows 'for every input' (looked for: loops, veiled, ifaces, maps, wideKeys, modest, calm, conditions, laid).
  DERIVED. THE GIVEN ROWS OF THIS SEAT. 11 by the template 'for every input the law returns true; each argument reads behind the call as it read before'; 0 by the template 'total and deterministic' (their statements: YthkidcipimfkfaaTotals.lean).
  GIVEN WITH THE SEED: the statements are not yours to turn. If you find one false, say at which input.
  Laid BY PROGRAM, IN A SANDBOX (cutbox-rows.mjs): the forced cells as the released guide's own fill.sh prints them over the translation b599b8a5b85d6003… (all of the seat's roots in one cut). By AI agents, Wed Nov 11 2026. No macro, syntax, notation, axiom, sorry.
-/
import Derived.Test.YthkidcipimfkfaaChecked
import GoSem.Claim
import GoSem.ClaimJoined
import GoSem.ClaimMapViews
import Derived.JoinedTies
import Derived.KernelRfl
namespace Go.Proofs.Ythkidcipimfkfaa
/- THE CELL 'sum', in the pinned program and in every row, IS THE sha256 OF THE DUMP (.gsa) THAT YthkidcipimfkfaaProg.lean LOADS. Nothing in Lean hashes anything: it is a label: what it is worth is what the hold of that sum in a sandbox is worth. -/
noncomputable def Try.pinned : Pinned := { name := "ythkidcipimfkfaa", sum := "b599b8a5b85d6003f4e9c61cfe1762e9bd86075048f039c5674359a7b1f4ef78", checked := Try.checked }
namespace Rows
def none {H : Type} : Left H := { results := [], args := [] }

/-- 'laws.FnExactWayFrom': WHATEVER THE INPUT: true; the input reads as it did. -/
def fnExactWayFromSpec : ChangeSpec := { name := "fnExactWayFrom", fn := fun _ => fun
  | [d1, d2, d3, d4] => { results := [.lit (.bool true)], args := [d1, d2, d3, d4] }
  | _ => none }
def fnExactWayFromRow : OpenClaim := { program := "ythkidcipimfkfaa", sum := "b599b8a5b85d6003f4e9c61cfe1762e9bd86075048f039c5674359a7b1f4ef78", func := "loop.example/balancedpipes/laws.FnExactWayFrom", spec := "fnExactWayFrom", unfollowed := true, recurses := true, apart := false }
def FnExactWayFromSaid : Prop := fnExactWayFromRow.holds Try.pinned (OpenSpec.ofChange fnExactWayFromSpec)

/-- ITS FALSE NEIGHBOUR: 'it returns false'. Refute it at one input. -/
def fnExactWayFromWrong : ChangeSpec := { name := "fnExactWayFrom", fn := fun _ => fun
  | [d1, d2, d3, d4] => { results := [.lit (.bool false)], args := [d1, d2, d3, d4] }
  | _ => none }
def FnExactWayFromWrongFalsely : Prop := fnExactWayFromRow.holds Try.pinned (OpenSpec.ofChange fnExactWayFromWrong)

/-- 'laws.FnExactPushedOn': WHATEVER THE INPUT: true; the input reads as it did. -/
def fnExactPushedOnSpec : ChangeSpec := { name := "fnExactPushedOn", fn := fun _ => fun
  | [d1, d2, d3, d4] => { results := [.lit (.bool true)], args := [d1, d2, d3, d4] }
  | _ => none }
def fnExactPushedOnRow : OpenClaim := { program := "ythkidcipimfkfaa", sum := "b599b8a5b85d6003f4e9c61cfe1762e9bd86075048f039c5674359a7b1f4ef78", func := "loop.example/balancedpipes/laws.FnExactPushedOn", spec := "fnExactPushedOn", unfollowed := true, recurses := true, apart := false }
def FnExactPushedOnSaid : Prop := fnExactPushedOnRow.holds Try.pinned (OpenSpec.ofChange fnExactPushedOnSpec)

/-- ITS FALSE NEIGHBOUR: 'it returns false'. Refute it at one input. -/
def fnExactPushedOnWrong : ChangeSpec := { name := "fnExactPushedOn", fn := fun _ => fun
  | [d1, d2, d3, d4] => { results := [.lit (.bool false)], args := [d1, d2, d3, d4] }
  | _ => none }
def FnExactPushedOnWrongFalsely : Prop := fnExactPushedOnRow.holds Try.pinned (OpenSpec.ofChange fnExactPushedOnWrong)

/-- 'laws.FnExactGreatestFlow': WHATEVER THE INPUT: true; the input reads as it did. -/
def fnExactGreatestFlowSpec : ChangeSpec := { name := "fnExactGreatestFlow", fn := fun _ => fun
  | [d1, d2, d3] => { results := [.lit (.bool true)], args := [d1, d2, d3] }
  | _ => none }
def fnExactGreatestFlowRow : OpenClaim := { program := "ythkidcipimfkfaa", sum := "b599b8a5b85d6003f4e9c61cfe1762e9bd86075048f039c5674359a7b1f4ef78", func := "loop.example/balancedpipes/laws.FnExactGreatestFlow", spec := "fnExactGreatestFlow", unfollowed := true, recurses := true, apart := false }
def FnExactGreatestFlowSaid : Prop := fnExactGreatestFlowRow.holds Try.pinned (OpenSpec.ofChange fnExactGreatestFlowSpec)

/-- ITS FALSE NEIGHBOUR: 'it returns false'. Refute it at one input. -/
def fnExactGreatestFlowWrong : ChangeSpec := { name := "fnExactGreatestFlow", fn := fun _ => fun
  | [d1, d2, d3] => { results := [.lit (.bool false)], args := [d1, d2, d3] }
  | _ => none }
def FnExactGreatestFlowWrongFalsely : Prop := fnExactGreatestFlowRow.holds Try.pinned (OpenSpec.ofChange fnExactGreatestFlowWrong)

/-- 'laws.FnExactGreatestValue': WHATEVER THE INPUT: true; the input reads as it did. -/
def fnExactGreatestValueSpec : ChangeSpec := { name := "fnExactGreatestValue", fn := fun _ => fun
  | [d1, d2, d3] => { results := [.lit (.bool true)], args := [d1, d2, d3] }
  | _ => none }
def fnExactGreatestValueRow : OpenClaim := { program := "ythkidcipimfkfaa", sum := "b599b8a5b85d6003f4e9c61cfe1762e9bd86075048f039c5674359a7b1f4ef78", func := "loop.example/balancedpipes/laws.FnExactGreatestValue", spec := "fnExactGreatestValue", unfollowed := true, recurses := true, apart := false }
def FnExactGreatestValueSaid : Prop := fnExactGreatestValueRow.holds Try.pinned (OpenSpec.ofChange fnExactGreatestValueSpec)

/-- ITS FALSE NEIGHBOUR: 'it returns false'. Refute it at one input. -/
def fnExactGreatestValueWrong : ChangeSpec := { name := "fnExactGreatestValue", fn := fun _ => fun
  | [d1, d2, d3] => { results := [.lit (.bool false)], args := [d1, d2, d3] }
  | _ => none }
def FnExactGreatestValueWrongFalsely : Prop := fnExactGreatestValueRow.holds Try.pinned (OpenSpec.ofChange fnExactGreatestValueWrong)

/-- 'laws.FnExactReachedFrom': WHATEVER THE INPUT: true; the input reads as it did. -/
def fnExactReachedFromSpec : ChangeSpec := { name := "fnExactReachedFrom", fn := fun _ => fun
  | [d1, d2, d3] => { results := [.lit (.bool true)], args := [d1, d2, d3] }
  | _ => none }
def fnExactReachedFromRow : OpenClaim := { program := "ythkidcipimfkfaa", sum := "b599b8a5b85d6003f4e9c61cfe1762e9bd86075048f039c5674359a7b1f4ef78", func := "loop.example/balancedpipes/laws.FnExactReachedFrom", spec := "fnExactReachedFrom", unfollowed := true, recurses := true, apart := false }
def FnExactReachedFromSaid : Prop := fnExactReachedFromRow.holds Try.pinned (OpenSpec.ofChange fnExactReachedFromSpec)

/-- ITS FALSE NEIGHBOUR: 'it returns false'. Refute it at one input. -/
def fnExactReachedFromWrong : ChangeSpec := { name := "fnExactReachedFrom", fn := fun _ => fun
  | [d1, d2, d3] => { results := [.lit (.bool false)], args := [d1, d2, d3] }
  | _ => none }
def FnExactReachedFromWrongFalsely : Prop := fnExactReachedFromRow.holds Try.pinned (OpenSpec.ofChange fnExactReachedFromWrong)

/-- 'laws.FnExactCirculationOf': WHATEVER THE INPUT: true; the input reads as it did. -/
def fnExactCirculationOfSpec : ChangeSpec := { name := "fnExactCirculationOf", fn := fun _ => fun
  | [d] => { results := [.lit (.bool true)], args := [d] }
  | _ => none }
def fnExactCirculationOfRow : OpenClaim := { program := "ythkidcipimfkfaa", sum := "b599b8a5b85d6003f4e9c61cfe1762e9bd86075048f039c5674359a7b1f4ef78", func := "loop.example/balancedpipes/laws.FnExactCirculationOf", spec := "fnExactCirculationOf", unfollowed := true, recurses := true, apart := false }
def FnExactCirculationOfSaid : Prop := fnExactCirculationOfRow.holds Try.pinned (OpenSpec.ofChange fnExactCirculationOfSpec)

/-- ITS FALSE NEIGHBOUR: 'it returns false'. Refute it at one input. -/
def fnExactCirculationOfWrong : ChangeSpec := { name := "fnExactCirculationOf", fn := fun _ => fun
  | [d] => { results := [.lit (.bool false)], args := [d] }
  | _ => none }
def FnExactCirculationOfWrongFalsely : Prop := fnExactCirculationOfRow.holds Try.pinned (OpenSpec.ofChange fnExactCirculationOfWrong)

/-- 'laws.FnExactCostOf': WHATEVER THE INPUT: true; the input reads as it did. -/
def fnExactCostOfSpec : ChangeSpec := { name := "fnExactCostOf", fn := fun _ => fun
  | [d1, d2] => { results := [.lit (.bool true)], args := [d1, d2] }
  | _ => none }
def fnExactCostOfRow : OpenClaim := { program := "ythkidcipimfkfaa", sum := "b599b8a5b85d6003f4e9c61cfe1762e9bd86075048f039c5674359a7b1f4ef78", func := "loop.example/balancedpipes/laws.FnExactCostOf", spec := "fnExactCostOf", unfollowed := true, recurses := true, apart := false }
def FnExactCostOfSaid : Prop := fnExactCostOfRow.holds Try.pinned (OpenSpec.ofChange fnExactCostOfSpec)

/-- ITS FALSE NEIGHBOUR: 'it returns false'. Refute it at one input. -/
def fnExactCostOfWrong : ChangeSpec := { name := "fnExactCostOf", fn := fun _ => fun
  | [d1, d2] => { results := [.lit (.bool false)], args := [d1, d2] }
  | _ => none }
def FnExactCostOfWrongFalsely : Prop := fnExactCostOfRow.holds Try.pinned (OpenSpec.ofChange fnExactCostOfWrong)

/-- 'laws.FnExactGainOf': WHATEVER THE INPUT: true; the input reads as it did. -/
def fnExactGainOfSpec : ChangeSpec := { name := "fnExactGainOf", fn := fun _ => fun
  | [d1, d2] => { results := [.lit (.bool true)], args := [d1, d2] }
  | _ => none }
def fnExactGainOfRow : OpenClaim := { program := "ythkidcipimfkfaa", sum := "b599b8a5b85d6003f4e9c61cfe1762e9bd86075048f039c5674359a7b1f4ef78", func := "loop.example/balancedpipes/laws.FnExactGainOf", spec := "fnExactGainOf", unfollowed := true, recurses := true, apart := false }
def FnExactGainOfSaid : Prop := fnExactGainOfRow.holds Try.pinned (OpenSpec.ofChange fnExactGainOfSpec)

/-- ITS FALSE NEIGHBOUR: 'it returns false'. Refute it at one input. -/
def fnExactGainOfWrong : ChangeSpec := { name := "fnExactGainOf", fn := fun _ => fun
  | [d1, d2] => { results := [.lit (.bool false)], args := [d1, d2] }
  | _ => none }
def FnExactGainOfWrongFalsely : Prop := fnExactGainOfRow.holds Try.pinned (OpenSpec.ofChange fnExactGainOfWrong)

/-- 'laws.FnExactCheaperFlow': WHATEVER THE INPUT: true; the input reads as it did. -/
def fnExactCheaperFlowSpec : ChangeSpec := { name := "fnExactCheaperFlow", fn := fun _ => fun
  | [d1, d2] => { results := [.lit (.bool true)], args := [d1, d2] }
  | _ => none }
def fnExactCheaperFlowRow : OpenClaim := { program := "ythkidcipimfkfaa", sum := "b599b8a5b85d6003f4e9c61cfe1762e9bd86075048f039c5674359a7b1f4ef78", func := "loop.example/balancedpipes/laws.FnExactCheaperFlow", spec := "fnExactCheaperFlow", unfollowed := true, recurses := true, apart := false }
def FnExactCheaperFlowSaid : Prop := fnExactCheaperFlowRow.holds Try.pinned (OpenSpec.ofChange fnExactCheaperFlowSpec)

/-- ITS FALSE NEIGHBOUR: 'it returns false'. Refute it at one input. -/
def fnExactCheaperFlowWrong : ChangeSpec := { name := "fnExactCheaperFlow", fn := fun _ => fun
  | [d1, d2] => { results := [.lit (.bool false)], args := [d1, d2] }
  | _ => none }
def FnExactCheaperFlowWrongFalsely : Prop := fnExactCheaperFlowRow.holds Try.pinned (OpenSpec.ofChange fnExactCheaperFlowWrong)

/-- 'laws.FnExactCheapestFlow': WHATEVER THE INPUT: true; the input reads as it did. -/
def fnExactCheapestFlowSpec : ChangeSpec := { name := "fnExactCheapestFlow", fn := fun _ => fun
  | [d1, d2] => { results := [.lit (.bool true)], args := [d1, d2] }
  | _ => none }
def fnExactCheapestFlowRow : OpenClaim := { program := "ythkidcipimfkfaa", sum := "b599b8a5b85d6003f4e9c61cfe1762e9bd86075048f039c5674359a7b1f4ef78", func := "loop.example/balancedpipes/laws.FnExactCheapestFlow", spec := "fnExactCheapestFlow", unfollowed := true, recurses := true, apart := false }
def FnExactCheapestFlowSaid : Prop := fnExactCheapestFlowRow.holds Try.pinned (OpenSpec.ofChange fnExactCheapestFlowSpec)

/-- ITS FALSE NEIGHBOUR: 'it returns false'. Refute it at one input. -/
def fnExactCheapestFlowWrong : ChangeSpec := { name := "fnExactCheapestFlow", fn := fun _ => fun
  | [d1, d2] => { results := [.lit (.bool false)], args := [d1, d2] }
  | _ => none }
def FnExactCheapestFlowWrongFalsely : Prop := fnExactCheapestFlowRow.holds Try.pinned (OpenSpec.ofChange fnExactCheapestFlowWrong)

/-- 'laws.FnExactPricesFor': WHATEVER THE INPUT: true; the input reads as it did. -/
def fnExactPricesForSpec : ChangeSpec := { name := "fnExactPricesFor", fn := fun _ => fun
  | [d1, d2] => { results := [.lit (.bool true)], args := [d1, d2] }
  | _ => none }
def fnExactPricesForRow : OpenClaim := { program := "ythkidcipimfkfaa", sum := "b599b8a5b85d6003f4e9c61cfe1762e9bd86075048f039c5674359a7b1f4ef78", func := "loop.example/balancedpipes/laws.FnExactPricesFor", spec := "fnExactPricesFor", unfollowed := true, recurses := true, apart := false }
def FnExactPricesForSaid : Prop := fnExactPricesForRow.holds Try.pinned (OpenSpec.ofChange fnExactPricesForSpec)

/-- ITS FALSE NEIGHBOUR: 'it returns false'. Refute it at one input. -/
def fnExactPricesForWrong : ChangeSpec := { name := "fnExactPricesFor", fn := fun _ => fun
  | [d1, d2] => { results := [.lit (.bool false)], args := [d1, d2] }
  | _ => none }
def FnExactPricesForWrongFalsely : Prop := fnExactPricesForRow.holds Try.pinned (OpenSpec.ofChange fnExactPricesForWrong)

/- THE SECOND FORM. 'bulk': how many values and letters a reading holds, each counted each time it is reached (what is shared counts as often as it is met; a slice's spare places count too). A statement '..UptoSaid' is the law's where the arguments, and the package variables that the reading takes, are together of bulk at most 1048576: NARROWER than '..Said'. Prove '..Said' where nothing that the law and all that it calls make is longer than what came in: it says more and counts as full. Else prove '..UptoSaid'. A law counts once. -/
mutual
def uptoBulk {H : Type} : DataW H → Nat
  | .lit (.string bytes) => bytes.length + 1
  | .lit _ => 1
  | .nil => 1
  | .ptr d => uptoBulk d + 1
  | .slice elems spare => uptoBulkAll elems + uptoBulkAll spare + 1
  | .agg parts => uptoBulkAll parts + 1
  | .iface _ d => uptoBulk d + 1
  | .map entries => uptoBulkEntries entries + 1
  | .held _ => 1
def uptoBulkAll {H : Type} : List (DataW H) → Nat
  | [] => 0
  | d :: r => uptoBulk d + uptoBulkAll r
def uptoBulkEntries {H : Type} : List (Lit × DataW H) → Nat
  | [] => 0
  | x :: r => uptoBulkEntry x + uptoBulkEntries r
def uptoBulkEntry {H : Type} : Lit × DataW H → Nat
  | (.string bytes, d) => bytes.length + uptoBulk d + 1
  | (_, d) => uptoBulk d + 1
 end
def uptoSmall : (H : Type) → List (DataW H) → Bool := fun _ ds => decide (uptoBulkAll ds ≤ 1048576)
def OpenSpec.upto (s : _root_.Go.ChangeSpec) : _root_.Go.OpenSpec := { _root_.Go.OpenSpec.ofChange s with cond := some uptoSmall }

/-- 'laws.FnExactWayFrom', WHERE WHAT IT READS IS OF BULK AT MOST 1048576: true; the input reads as it did. -/
def fnExactWayFromUptoRow : OpenClaim := { program := "ythkidcipimfkfaa", sum := "b599b8a5b85d6003f4e9c61cfe1762e9bd86075048f039c5674359a7b1f4ef78", func := "loop.example/balancedpipes/laws.FnExactWayFrom", spec := "fnExactWayFrom", unfollowed := true, recurses := true, apart := false, narrowed := true }
def FnExactWayFromUptoSaid : Prop := fnExactWayFromUptoRow.holds Try.pinned (OpenSpec.upto fnExactWayFromSpec)

/-- 'laws.FnExactPushedOn', WHERE WHAT IT READS IS OF BULK AT MOST 1048576: true; the input reads as it did. -/
def fnExactPushedOnUptoRow : OpenClaim := { program := "ythkidcipimfkfaa", sum := "b599b8a5b85d6003f4e9c61cfe1762e9bd86075048f039c5674359a7b1f4ef78", func := "loop.example/balancedpipes/laws.FnExactPushedOn", spec := "fnExactPushedOn", unfollowed := true, recurses := true, apart := false, narrowed := true }
def FnExactPushedOnUptoSaid : Prop := fnExactPushedOnUptoRow.holds Try.pinned (OpenSpec.upto fnExactPushedOnSpec)

/-- 'laws.FnExactGreatestFlow', WHERE WHAT IT READS IS OF BULK AT MOST 1048576: true; the input reads as it did. -/
def fnExactGreatestFlowUptoRow : OpenClaim := { program := "ythkidcipimfkfaa", sum := "b599b8a5b85d6003f4e9c61cfe1762e9bd86075048f039c5674359a7b1f4ef78", func := "loop.example/balancedpipes/laws.FnExactGreatestFlow", spec := "fnExactGreatestFlow", unfollowed := true, recurses := true, apart := false, narrowed := true }
def FnExactGreatestFlowUptoSaid : Prop := fnExactGreatestFlowUptoRow.holds Try.pinned (OpenSpec.upto fnExactGreatestFlowSpec)

/-- 'laws.FnExactGreatestValue', WHERE WHAT IT READS IS OF BULK AT MOST 1048576: true; the input reads as it did. -/
def fnExactGreatestValueUptoRow : OpenClaim := { program := "ythkidcipimfkfaa", sum := "b599b8a5b85d6003f4e9c61cfe1762e9bd86075048f039c5674359a7b1f4ef78", func := "loop.example/balancedpipes/laws.FnExactGreatestValue", spec := "fnExactGreatestValue", unfollowed := true, recurses := true, apart := false, narrowed := true }
def FnExactGreatestValueUptoSaid : Prop := fnExactGreatestValueUptoRow.holds Try.pinned (OpenSpec.upto fnExactGreatestValueSpec)

/-- 'laws.FnExactReachedFrom', WHERE WHAT IT READS IS OF BULK AT MOST 1048576: true; the input reads as it did. -/
def fnExactReachedFromUptoRow : OpenClaim := { program := "ythkidcipimfkfaa", sum := "b599b8a5b85d6003f4e9c61cfe1762e9bd86075048f039c5674359a7b1f4ef78", func := "loop.example/balancedpipes/laws.FnExactReachedFrom", spec := "fnExactReachedFrom", unfollowed := true, recurses := true, apart := false, narrowed := true }
def FnExactReachedFromUptoSaid : Prop := fnExactReachedFromUptoRow.holds Try.pinned (OpenSpec.upto fnExactReachedFromSpec)

/-- 'laws.FnExactCirculationOf', WHERE WHAT IT READS IS OF BULK AT MOST 1048576: true; the input reads as it did. -/
def fnExactCirculationOfUptoRow : OpenClaim := { program := "ythkidcipimfkfaa", sum := "b599b8a5b85d6003f4e9c61cfe1762e9bd86075048f039c5674359a7b1f4ef78", func := "loop.example/balancedpipes/laws.FnExactCirculationOf", spec := "fnExactCirculationOf", unfollowed := true, recurses := true, apart := false, narrowed := true }
def FnExactCirculationOfUptoSaid : Prop := fnExactCirculationOfUptoRow.holds Try.pinned (OpenSpec.upto fnExactCirculationOfSpec)

/-- 'laws.FnExactCostOf', WHERE WHAT IT READS IS OF BULK AT MOST 1048576: true; the input reads as it did. -/
def fnExactCostOfUptoRow : OpenClaim := { program := "ythkidcipimfkfaa", sum := "b599b8a5b85d6003f4e9c61cfe1762e9bd86075048f039c5674359a7b1f4ef78", func := "loop.example/balancedpipes/laws.FnExactCostOf", spec := "fnExactCostOf", unfollowed := true, recurses := true, apart := false, narrowed := true }
def FnExactCostOfUptoSaid : Prop := fnExactCostOfUptoRow.holds Try.pinned (OpenSpec.upto fnExactCostOfSpec)

/-- 'laws.FnExactGainOf', WHERE WHAT IT READS IS OF BULK AT MOST 1048576: true; the input reads as it did. -/
def fnExactGainOfUptoRow : OpenClaim := { program := "ythkidcipimfkfaa", sum := "b599b8a5b85d6003f4e9c61cfe1762e9bd86075048f039c5674359a7b1f4ef78", func := "loop.example/balancedpipes/laws.FnExactGainOf", spec := "fnExactGainOf", unfollowed := true, recurses := true, apart := false, narrowed := true }
def FnExactGainOfUptoSaid : Prop := fnExactGainOfUptoRow.holds Try.pinned (OpenSpec.upto fnExactGainOfSpec)

/-- 'laws.FnExactCheaperFlow', WHERE WHAT IT READS IS OF BULK AT MOST 1048576: true; the input reads as it did. -/
def fnExactCheaperFlowUptoRow : OpenClaim := { program := "ythkidcipimfkfaa", sum := "b599b8a5b85d6003f4e9c61cfe1762e9bd86075048f039c5674359a7b1f4ef78", func := "loop.example/balancedpipes/laws.FnExactCheaperFlow", spec := "fnExactCheaperFlow", unfollowed := true, recurses := true, apart := false, narrowed := true }
def FnExactCheaperFlowUptoSaid : Prop := fnExactCheaperFlowUptoRow.holds Try.pinned (OpenSpec.upto fnExactCheaperFlowSpec)

/-- 'laws.FnExactCheapestFlow', WHERE WHAT IT READS IS OF BULK AT MOST 1048576: true; the input reads as it did. -/
def fnExactCheapestFlowUptoRow : OpenClaim := { program := "ythkidcipimfkfaa", sum := "b599b8a5b85d6003f4e9c61cfe1762e9bd86075048f039c5674359a7b1f4ef78", func := "loop.example/balancedpipes/laws.FnExactCheapestFlow", spec := "fnExactCheapestFlow", unfollowed := true, recurses := true, apart := false, narrowed := true }
def FnExactCheapestFlowUptoSaid : Prop := fnExactCheapestFlowUptoRow.holds Try.pinned (OpenSpec.upto fnExactCheapestFlowSpec)

/-- 'laws.FnExactPricesFor', WHERE WHAT IT READS IS OF BULK AT MOST 1048576: true; the input reads as it did. -/
def fnExactPricesForUptoRow : OpenClaim := { program := "ythkidcipimfkfaa", sum := "b599b8a5b85d6003f4e9c61cfe1762e9bd86075048f039c5674359a7b1f4ef78", func := "loop.example/balancedpipes/laws.FnExactPricesFor", spec := "fnExactPricesFor", unfollowed := true, recurses := true, apart := false, narrowed := true }
def FnExactPricesForUptoSaid : Prop := fnExactPricesForUptoRow.holds Try.pinned (OpenSpec.upto fnExactPricesForSpec)

end Rows
end Go.Proofs.Ythkidcipimfkfaa
