/-
  No cell of these rows narrows 'for every input' (looked for: loops, veiled, ifaces, maps, wideKeys, modest, calm, conditions, laid).
  DERIVED. THE GIVEN ROWS OF THIS SEAT. 12 by the template 'for every input the law returns true; each argument reads behind the call as it read before'; 0 by the template 'total and deterministic' (their statements: YticokpjjajdhcaaTotals.lean).
  GIVEN WITH THE SEED: the statements are not yours to turn. If you find one false, say at which input.
  Laid BY PROGRAM, IN A SANDBOX (cutbox-rows.mjs): the forced cells as the released guide's own fill.sh prints them over the translation ddbb294f44d465a1… (all of the seat's roots in one cut). By AI agents, Wed Nov 11 2026. No macro, syntax, notation, axiom, sorry.
-/
import Derived.Test.YticokpjjajdhcaaChecked
import GoSem.Claim
import GoSem.ClaimJoined
import GoSem.ClaimMapViews
import Derived.JoinedTies
import Derived.KernelRfl
namespace Go.Proofs.Yticokpjjajdhcaa
/- THE CELL 'sum', in the pinned program and in every row, IS THE sha256 OF THE DUMP (.gsa) THAT YticokpjjajdhcaaProg.lean LOADS. Nothing in Lean hashes anything: it is a label: what it is worth is what the hold of that sum in a sandbox is worth. -/
noncomputable def Try.pinned : Pinned := { name := "yticokpjjajdhcaa", sum := "ddbb294f44d465a115ff7437bee28ea1d9878ae996e952ea3440b43f86e29d8e", checked := Try.checked }
namespace Rows
def none {H : Type} : Left H := { results := [], args := [] }

/-- 'laws.FnFlowOk': WHATEVER THE INPUT: true; the input reads as it did. -/
def fnFlowOkSpec : ChangeSpec := { name := "fnFlowOk", fn := fun _ => fun
  | [d] => { results := [.lit (.bool true)], args := [d] }
  | _ => none }
def fnFlowOkRow : OpenClaim := { program := "yticokpjjajdhcaa", sum := "ddbb294f44d465a115ff7437bee28ea1d9878ae996e952ea3440b43f86e29d8e", func := "loop.example/balancedpipes/laws.FnFlowOk", spec := "fnFlowOk", unfollowed := true, recurses := true, apart := false }
def FnFlowOkSaid : Prop := fnFlowOkRow.holds Try.pinned (OpenSpec.ofChange fnFlowOkSpec)

/-- ITS FALSE NEIGHBOUR: 'it returns false'. Refute it at one input. -/
def fnFlowOkWrong : ChangeSpec := { name := "fnFlowOk", fn := fun _ => fun
  | [d] => { results := [.lit (.bool false)], args := [d] }
  | _ => none }
def FnFlowOkWrongFalsely : Prop := fnFlowOkRow.holds Try.pinned (OpenSpec.ofChange fnFlowOkWrong)

/-- 'laws.FnExcessAt': WHATEVER THE INPUT: true; the input reads as it did. -/
def fnExcessAtSpec : ChangeSpec := { name := "fnExcessAt", fn := fun _ => fun
  | [d] => { results := [.lit (.bool true)], args := [d] }
  | _ => none }
def fnExcessAtRow : OpenClaim := { program := "yticokpjjajdhcaa", sum := "ddbb294f44d465a115ff7437bee28ea1d9878ae996e952ea3440b43f86e29d8e", func := "loop.example/balancedpipes/laws.FnExcessAt", spec := "fnExcessAt", unfollowed := true, recurses := true, apart := false }
def FnExcessAtSaid : Prop := fnExcessAtRow.holds Try.pinned (OpenSpec.ofChange fnExcessAtSpec)

/-- ITS FALSE NEIGHBOUR: 'it returns false'. Refute it at one input. -/
def fnExcessAtWrong : ChangeSpec := { name := "fnExcessAt", fn := fun _ => fun
  | [d] => { results := [.lit (.bool false)], args := [d] }
  | _ => none }
def FnExcessAtWrongFalsely : Prop := fnExcessAtRow.holds Try.pinned (OpenSpec.ofChange fnExcessAtWrong)

/-- 'laws.FnBalancedOk': WHATEVER THE INPUT: true; the input reads as it did. -/
def fnBalancedOkSpec : ChangeSpec := { name := "fnBalancedOk", fn := fun _ => fun
  | [d] => { results := [.lit (.bool true)], args := [d] }
  | _ => none }
def fnBalancedOkRow : OpenClaim := { program := "yticokpjjajdhcaa", sum := "ddbb294f44d465a115ff7437bee28ea1d9878ae996e952ea3440b43f86e29d8e", func := "loop.example/balancedpipes/laws.FnBalancedOk", spec := "fnBalancedOk", unfollowed := true, recurses := true, apart := false }
def FnBalancedOkSaid : Prop := fnBalancedOkRow.holds Try.pinned (OpenSpec.ofChange fnBalancedOkSpec)

/-- ITS FALSE NEIGHBOUR: 'it returns false'. Refute it at one input. -/
def fnBalancedOkWrong : ChangeSpec := { name := "fnBalancedOk", fn := fun _ => fun
  | [d] => { results := [.lit (.bool false)], args := [d] }
  | _ => none }
def FnBalancedOkWrongFalsely : Prop := fnBalancedOkRow.holds Try.pinned (OpenSpec.ofChange fnBalancedOkWrong)

/-- 'laws.FnHoldsOk': WHATEVER THE INPUT: true; the input reads as it did. -/
def fnHoldsOkSpec : ChangeSpec := { name := "fnHoldsOk", fn := fun _ => fun
  | [d] => { results := [.lit (.bool true)], args := [d] }
  | _ => none }
def fnHoldsOkRow : OpenClaim := { program := "yticokpjjajdhcaa", sum := "ddbb294f44d465a115ff7437bee28ea1d9878ae996e952ea3440b43f86e29d8e", func := "loop.example/balancedpipes/laws.FnHoldsOk", spec := "fnHoldsOk", unfollowed := true, recurses := true, apart := false }
def FnHoldsOkSaid : Prop := fnHoldsOkRow.holds Try.pinned (OpenSpec.ofChange fnHoldsOkSpec)

/-- ITS FALSE NEIGHBOUR: 'it returns false'. Refute it at one input. -/
def fnHoldsOkWrong : ChangeSpec := { name := "fnHoldsOk", fn := fun _ => fun
  | [d] => { results := [.lit (.bool false)], args := [d] }
  | _ => none }
def FnHoldsOkWrongFalsely : Prop := fnHoldsOkRow.holds Try.pinned (OpenSpec.ofChange fnHoldsOkWrong)

/-- 'laws.FnBothFlows': WHATEVER THE INPUT: true; the input reads as it did. -/
def fnBothFlowsSpec : ChangeSpec := { name := "fnBothFlows", fn := fun _ => fun
  | [d] => { results := [.lit (.bool true)], args := [d] }
  | _ => none }
def fnBothFlowsRow : OpenClaim := { program := "yticokpjjajdhcaa", sum := "ddbb294f44d465a115ff7437bee28ea1d9878ae996e952ea3440b43f86e29d8e", func := "loop.example/balancedpipes/laws.FnBothFlows", spec := "fnBothFlows", unfollowed := true, recurses := true, apart := false }
def FnBothFlowsSaid : Prop := fnBothFlowsRow.holds Try.pinned (OpenSpec.ofChange fnBothFlowsSpec)

/-- ITS FALSE NEIGHBOUR: 'it returns false'. Refute it at one input. -/
def fnBothFlowsWrong : ChangeSpec := { name := "fnBothFlows", fn := fun _ => fun
  | [d] => { results := [.lit (.bool false)], args := [d] }
  | _ => none }
def FnBothFlowsWrongFalsely : Prop := fnBothFlowsRow.holds Try.pinned (OpenSpec.ofChange fnBothFlowsWrong)

/-- 'laws.FnExactFlowOk': WHATEVER THE INPUT: true; the input reads as it did. -/
def fnExactFlowOkSpec : ChangeSpec := { name := "fnExactFlowOk", fn := fun _ => fun
  | [d1, d2] => { results := [.lit (.bool true)], args := [d1, d2] }
  | _ => none }
def fnExactFlowOkRow : OpenClaim := { program := "yticokpjjajdhcaa", sum := "ddbb294f44d465a115ff7437bee28ea1d9878ae996e952ea3440b43f86e29d8e", func := "loop.example/balancedpipes/laws.FnExactFlowOk", spec := "fnExactFlowOk", unfollowed := true, recurses := true, apart := false }
def FnExactFlowOkSaid : Prop := fnExactFlowOkRow.holds Try.pinned (OpenSpec.ofChange fnExactFlowOkSpec)

/-- ITS FALSE NEIGHBOUR: 'it returns false'. Refute it at one input. -/
def fnExactFlowOkWrong : ChangeSpec := { name := "fnExactFlowOk", fn := fun _ => fun
  | [d1, d2] => { results := [.lit (.bool false)], args := [d1, d2] }
  | _ => none }
def FnExactFlowOkWrongFalsely : Prop := fnExactFlowOkRow.holds Try.pinned (OpenSpec.ofChange fnExactFlowOkWrong)

/-- 'laws.FnExactExcessAt': WHATEVER THE INPUT: true; the input reads as it did. -/
def fnExactExcessAtSpec : ChangeSpec := { name := "fnExactExcessAt", fn := fun _ => fun
  | [d1, d2, d3] => { results := [.lit (.bool true)], args := [d1, d2, d3] }
  | _ => none }
def fnExactExcessAtRow : OpenClaim := { program := "yticokpjjajdhcaa", sum := "ddbb294f44d465a115ff7437bee28ea1d9878ae996e952ea3440b43f86e29d8e", func := "loop.example/balancedpipes/laws.FnExactExcessAt", spec := "fnExactExcessAt", unfollowed := true, recurses := true, apart := false }
def FnExactExcessAtSaid : Prop := fnExactExcessAtRow.holds Try.pinned (OpenSpec.ofChange fnExactExcessAtSpec)

/-- ITS FALSE NEIGHBOUR: 'it returns false'. Refute it at one input. -/
def fnExactExcessAtWrong : ChangeSpec := { name := "fnExactExcessAt", fn := fun _ => fun
  | [d1, d2, d3] => { results := [.lit (.bool false)], args := [d1, d2, d3] }
  | _ => none }
def FnExactExcessAtWrongFalsely : Prop := fnExactExcessAtRow.holds Try.pinned (OpenSpec.ofChange fnExactExcessAtWrong)

/-- 'laws.FnExactBalancedOk': WHATEVER THE INPUT: true; the input reads as it did. -/
def fnExactBalancedOkSpec : ChangeSpec := { name := "fnExactBalancedOk", fn := fun _ => fun
  | [d1, d2] => { results := [.lit (.bool true)], args := [d1, d2] }
  | _ => none }
def fnExactBalancedOkRow : OpenClaim := { program := "yticokpjjajdhcaa", sum := "ddbb294f44d465a115ff7437bee28ea1d9878ae996e952ea3440b43f86e29d8e", func := "loop.example/balancedpipes/laws.FnExactBalancedOk", spec := "fnExactBalancedOk", unfollowed := true, recurses := true, apart := false }
def FnExactBalancedOkSaid : Prop := fnExactBalancedOkRow.holds Try.pinned (OpenSpec.ofChange fnExactBalancedOkSpec)

/-- ITS FALSE NEIGHBOUR: 'it returns false'. Refute it at one input. -/
def fnExactBalancedOkWrong : ChangeSpec := { name := "fnExactBalancedOk", fn := fun _ => fun
  | [d1, d2] => { results := [.lit (.bool false)], args := [d1, d2] }
  | _ => none }
def FnExactBalancedOkWrongFalsely : Prop := fnExactBalancedOkRow.holds Try.pinned (OpenSpec.ofChange fnExactBalancedOkWrong)

/-- 'laws.FnExactHoldsOk': WHATEVER THE INPUT: true; the input reads as it did. -/
def fnExactHoldsOkSpec : ChangeSpec := { name := "fnExactHoldsOk", fn := fun _ => fun
  | [d1, d2] => { results := [.lit (.bool true)], args := [d1, d2] }
  | _ => none }
def fnExactHoldsOkRow : OpenClaim := { program := "yticokpjjajdhcaa", sum := "ddbb294f44d465a115ff7437bee28ea1d9878ae996e952ea3440b43f86e29d8e", func := "loop.example/balancedpipes/laws.FnExactHoldsOk", spec := "fnExactHoldsOk", unfollowed := true, recurses := true, apart := false }
def FnExactHoldsOkSaid : Prop := fnExactHoldsOkRow.holds Try.pinned (OpenSpec.ofChange fnExactHoldsOkSpec)

/-- ITS FALSE NEIGHBOUR: 'it returns false'. Refute it at one input. -/
def fnExactHoldsOkWrong : ChangeSpec := { name := "fnExactHoldsOk", fn := fun _ => fun
  | [d1, d2] => { results := [.lit (.bool false)], args := [d1, d2] }
  | _ => none }
def FnExactHoldsOkWrongFalsely : Prop := fnExactHoldsOkRow.holds Try.pinned (OpenSpec.ofChange fnExactHoldsOkWrong)

/-- 'laws.FnExactBothFlows': WHATEVER THE INPUT: true; the input reads as it did. -/
def fnExactBothFlowsSpec : ChangeSpec := { name := "fnExactBothFlows", fn := fun _ => fun
  | [d1, d2, d3] => { results := [.lit (.bool true)], args := [d1, d2, d3] }
  | _ => none }
def fnExactBothFlowsRow : OpenClaim := { program := "yticokpjjajdhcaa", sum := "ddbb294f44d465a115ff7437bee28ea1d9878ae996e952ea3440b43f86e29d8e", func := "loop.example/balancedpipes/laws.FnExactBothFlows", spec := "fnExactBothFlows", unfollowed := true, recurses := true, apart := false }
def FnExactBothFlowsSaid : Prop := fnExactBothFlowsRow.holds Try.pinned (OpenSpec.ofChange fnExactBothFlowsSpec)

/-- ITS FALSE NEIGHBOUR: 'it returns false'. Refute it at one input. -/
def fnExactBothFlowsWrong : ChangeSpec := { name := "fnExactBothFlows", fn := fun _ => fun
  | [d1, d2, d3] => { results := [.lit (.bool false)], args := [d1, d2, d3] }
  | _ => none }
def FnExactBothFlowsWrongFalsely : Prop := fnExactBothFlowsRow.holds Try.pinned (OpenSpec.ofChange fnExactBothFlowsWrong)

/-- 'laws.FnAcrossOf': WHATEVER THE INPUT: true; the input reads as it did. -/
def fnAcrossOfSpec : ChangeSpec := { name := "fnAcrossOf", fn := fun _ => fun
  | [d] => { results := [.lit (.bool true)], args := [d] }
  | _ => none }
def fnAcrossOfRow : OpenClaim := { program := "yticokpjjajdhcaa", sum := "ddbb294f44d465a115ff7437bee28ea1d9878ae996e952ea3440b43f86e29d8e", func := "loop.example/balancedpipes/laws.FnAcrossOf", spec := "fnAcrossOf", unfollowed := true, recurses := true, apart := false }
def FnAcrossOfSaid : Prop := fnAcrossOfRow.holds Try.pinned (OpenSpec.ofChange fnAcrossOfSpec)

/-- ITS FALSE NEIGHBOUR: 'it returns false'. Refute it at one input. -/
def fnAcrossOfWrong : ChangeSpec := { name := "fnAcrossOf", fn := fun _ => fun
  | [d] => { results := [.lit (.bool false)], args := [d] }
  | _ => none }
def FnAcrossOfWrongFalsely : Prop := fnAcrossOfRow.holds Try.pinned (OpenSpec.ofChange fnAcrossOfWrong)

/-- 'laws.FnExactAcrossOf': WHATEVER THE INPUT: true; the input reads as it did. -/
def fnExactAcrossOfSpec : ChangeSpec := { name := "fnExactAcrossOf", fn := fun _ => fun
  | [d1, d2, d3] => { results := [.lit (.bool true)], args := [d1, d2, d3] }
  | _ => none }
def fnExactAcrossOfRow : OpenClaim := { program := "yticokpjjajdhcaa", sum := "ddbb294f44d465a115ff7437bee28ea1d9878ae996e952ea3440b43f86e29d8e", func := "loop.example/balancedpipes/laws.FnExactAcrossOf", spec := "fnExactAcrossOf", unfollowed := true, recurses := true, apart := false }
def FnExactAcrossOfSaid : Prop := fnExactAcrossOfRow.holds Try.pinned (OpenSpec.ofChange fnExactAcrossOfSpec)

/-- ITS FALSE NEIGHBOUR: 'it returns false'. Refute it at one input. -/
def fnExactAcrossOfWrong : ChangeSpec := { name := "fnExactAcrossOf", fn := fun _ => fun
  | [d1, d2, d3] => { results := [.lit (.bool false)], args := [d1, d2, d3] }
  | _ => none }
def FnExactAcrossOfWrongFalsely : Prop := fnExactAcrossOfRow.holds Try.pinned (OpenSpec.ofChange fnExactAcrossOfWrong)

/- THE SECOND FORM. 'bulk': how many values and letters a reading holds, each counted each time it is reached (what is shared counts as often as it is met; a slice's spare places count too). A statement '..UptoSaid' is the law's where the arguments, and the package variables that the reading takes, are together of bulk at most 1048576: NARROWER than '..Said'. Prove '..Said' where nothing that the law and all that it calls make is longer than what came in: it says more and counts as full. Else prove '..UptoSaid'. A law counts once. -/
mutual
def uptoBulk {H : Type} : DataW H → Nat
  | .lit (.string bytes) => bytes.length + 1
  | .lit _ => 1
  | .nil => 1
  | .ptr d => uptoBulk d + 1
  | .slice elems spare => uptoBulkAll elems + uptoBulkAll spare + 1
  | .agg parts => uptoBulkAll parts + 1
  | .iface _ d => uptoBulk d + 1
  | .map entries => uptoBulkEntries entries + 1
  | .held _ => 1
def uptoBulkAll {H : Type} : List (DataW H) → Nat
  | [] => 0
  | d :: r => uptoBulk d + uptoBulkAll r
def uptoBulkEntries {H : Type} : List (Lit × DataW H) → Nat
  | [] => 0
  | x :: r => uptoBulkEntry x + uptoBulkEntries r
def uptoBulkEntry {H : Type} : Lit × DataW H → Nat
  | (.string bytes, d) => bytes.length + uptoBulk d + 1
  | (_, d) => uptoBulk d + 1
 end
def uptoSmall : (H : Type) → List (DataW H) → Bool := fun _ ds => decide (uptoBulkAll ds ≤ 1048576)
def OpenSpec.upto (s : _root_.Go.ChangeSpec) : _root_.Go.OpenSpec := { _root_.Go.OpenSpec.ofChange s with cond := some uptoSmall }

/-- 'laws.FnFlowOk', WHERE WHAT IT READS IS OF BULK AT MOST 1048576: true; the input reads as it did. -/
def fnFlowOkUptoRow : OpenClaim := { program := "yticokpjjajdhcaa", sum := "ddbb294f44d465a115ff7437bee28ea1d9878ae996e952ea3440b43f86e29d8e", func := "loop.example/balancedpipes/laws.FnFlowOk", spec := "fnFlowOk", unfollowed := true, recurses := true, apart := false, narrowed := true }
def FnFlowOkUptoSaid : Prop := fnFlowOkUptoRow.holds Try.pinned (OpenSpec.upto fnFlowOkSpec)

/-- 'laws.FnExcessAt', WHERE WHAT IT READS IS OF BULK AT MOST 1048576: true; the input reads as it did. -/
def fnExcessAtUptoRow : OpenClaim := { program := "yticokpjjajdhcaa", sum := "ddbb294f44d465a115ff7437bee28ea1d9878ae996e952ea3440b43f86e29d8e", func := "loop.example/balancedpipes/laws.FnExcessAt", spec := "fnExcessAt", unfollowed := true, recurses := true, apart := false, narrowed := true }
def FnExcessAtUptoSaid : Prop := fnExcessAtUptoRow.holds Try.pinned (OpenSpec.upto fnExcessAtSpec)

/-- 'laws.FnBalancedOk', WHERE WHAT IT READS IS OF BULK AT MOST 1048576: true; the input reads as it did. -/
def fnBalancedOkUptoRow : OpenClaim := { program := "yticokpjjajdhcaa", sum := "ddbb294f44d465a115ff7437bee28ea1d9878ae996e952ea3440b43f86e29d8e", func := "loop.example/balancedpipes/laws.FnBalancedOk", spec := "fnBalancedOk", unfollowed := true, recurses := true, apart := false, narrowed := true }
def FnBalancedOkUptoSaid : Prop := fnBalancedOkUptoRow.holds Try.pinned (OpenSpec.upto fnBalancedOkSpec)

/-- 'laws.FnHoldsOk', WHERE WHAT IT READS IS OF BULK AT MOST 1048576: true; the input reads as it did. -/
def fnHoldsOkUptoRow : OpenClaim := { program := "yticokpjjajdhcaa", sum := "ddbb294f44d465a115ff7437bee28ea1d9878ae996e952ea3440b43f86e29d8e", func := "loop.example/balancedpipes/laws.FnHoldsOk", spec := "fnHoldsOk", unfollowed := true, recurses := true, apart := false, narrowed := true }
def FnHoldsOkUptoSaid : Prop := fnHoldsOkUptoRow.holds Try.pinned (OpenSpec.upto fnHoldsOkSpec)

/-- 'laws.FnBothFlows', WHERE WHAT IT READS IS OF BULK AT MOST 1048576: true; the input reads as it did. -/
def fnBothFlowsUptoRow : OpenClaim := { program := "yticokpjjajdhcaa", sum := "ddbb294f44d465a115ff7437bee28ea1d9878ae996e952ea3440b43f86e29d8e", func := "loop.example/balancedpipes/laws.FnBothFlows", spec := "fnBothFlows", unfollowed := true, recurses := true, apart := false, narrowed := true }
def FnBothFlowsUptoSaid : Prop := fnBothFlowsUptoRow.holds Try.pinned (OpenSpec.upto fnBothFlowsSpec)

/-- 'laws.FnExactFlowOk', WHERE WHAT IT READS IS OF BULK AT MOST 1048576: true; the input reads as it did. -/
def fnExactFlowOkUptoRow : OpenClaim := { program := "yticokpjjajdhcaa", sum := "ddbb294f44d465a115ff7437bee28ea1d9878ae996e952ea3440b43f86e29d8e", func := "loop.example/balancedpipes/laws.FnExactFlowOk", spec := "fnExactFlowOk", unfollowed := true, recurses := true, apart := false, narrowed := true }
def FnExactFlowOkUptoSaid : Prop := fnExactFlowOkUptoRow.holds Try.pinned (OpenSpec.upto fnExactFlowOkSpec)

/-- 'laws.FnExactExcessAt', WHERE WHAT IT READS IS OF BULK AT MOST 1048576: true; the input reads as it did. -/
def fnExactExcessAtUptoRow : OpenClaim := { program := "yticokpjjajdhcaa", sum := "ddbb294f44d465a115ff7437bee28ea1d9878ae996e952ea3440b43f86e29d8e", func := "loop.example/balancedpipes/laws.FnExactExcessAt", spec := "fnExactExcessAt", unfollowed := true, recurses := true, apart := false, narrowed := true }
def FnExactExcessAtUptoSaid : Prop := fnExactExcessAtUptoRow.holds Try.pinned (OpenSpec.upto fnExactExcessAtSpec)

/-- 'laws.FnExactBalancedOk', WHERE WHAT IT READS IS OF BULK AT MOST 1048576: true; the input reads as it did. -/
def fnExactBalancedOkUptoRow : OpenClaim := { program := "yticokpjjajdhcaa", sum := "ddbb294f44d465a115ff7437bee28ea1d9878ae996e952ea3440b43f86e29d8e", func := "loop.example/balancedpipes/laws.FnExactBalancedOk", spec := "fnExactBalancedOk", unfollowed := true, recurses := true, apart := false, narrowed := true }
def FnExactBalancedOkUptoSaid : Prop := fnExactBalancedOkUptoRow.holds Try.pinned (OpenSpec.upto fnExactBalancedOkSpec)

/-- 'laws.FnExactHoldsOk', WHERE WHAT IT READS IS OF BULK AT MOST 1048576: true; the input reads as it did. -/
def fnExactHoldsOkUptoRow : OpenClaim := { program := "yticokpjjajdhcaa", sum := "ddbb294f44d465a115ff7437bee28ea1d9878ae996e952ea3440b43f86e29d8e", func := "loop.example/balancedpipes/laws.FnExactHoldsOk", spec := "fnExactHoldsOk", unfollowed := true, recurses := true, apart := false, narrowed := true }
def FnExactHoldsOkUptoSaid : Prop := fnExactHoldsOkUptoRow.holds Try.pinned (OpenSpec.upto fnExactHoldsOkSpec)

/-- 'laws.FnExactBothFlows', WHERE WHAT IT READS IS OF BULK AT MOST 1048576: true; the input reads as it did. -/
def fnExactBothFlowsUptoRow : OpenClaim := { program := "yticokpjjajdhcaa", sum := "ddbb294f44d465a115ff7437bee28ea1d9878ae996e952ea3440b43f86e29d8e", func := "loop.example/balancedpipes/laws.FnExactBothFlows", spec := "fnExactBothFlows", unfollowed := true, recurses := true, apart := false, narrowed := true }
def FnExactBothFlowsUptoSaid : Prop := fnExactBothFlowsUptoRow.holds Try.pinned (OpenSpec.upto fnExactBothFlowsSpec)

/-- 'laws.FnAcrossOf', WHERE WHAT IT READS IS OF BULK AT MOST 1048576: true; the input reads as it did. -/
def fnAcrossOfUptoRow : OpenClaim := { program := "yticokpjjajdhcaa", sum := "ddbb294f44d465a115ff7437bee28ea1d9878ae996e952ea3440b43f86e29d8e", func := "loop.example/balancedpipes/laws.FnAcrossOf", spec := "fnAcrossOf", unfollowed := true, recurses := true, apart := false, narrowed := true }
def FnAcrossOfUptoSaid : Prop := fnAcrossOfUptoRow.holds Try.pinned (OpenSpec.upto fnAcrossOfSpec)

/-- 'laws.FnExactAcrossOf', WHERE WHAT IT READS IS OF BULK AT MOST 1048576: true; the input reads as it did. -/
def fnExactAcrossOfUptoRow : OpenClaim := { program := "yticokpjjajdhcaa", sum := "ddbb294f44d465a115ff7437bee28ea1d9878ae996e952ea3440b43f86e29d8e", func := "loop.example/balancedpipes/laws.FnExactAcrossOf", spec := "fnExactAcrossOf", unfollowed := true, recurses := true, apart := false, narrowed := true }
def FnExactAcrossOfUptoSaid : Prop := fnExactAcrossOfUptoRow.holds Try.pinned (OpenSpec.upto fnExactAcrossOfSpec)

end Rows
end Go.Proofs.Yticokpjjajdhcaa
