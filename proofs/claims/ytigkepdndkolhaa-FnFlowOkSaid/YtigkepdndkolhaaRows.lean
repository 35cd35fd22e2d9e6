/-
  No cell of these rows narrows 'for every input' (looked for: loops, veiled, ifaces, maps, wideKeys, modest, calm, conditions, laid).
  DERIVED. THE GIVEN ROWS OF THIS SEAT. 8 by the template 'for every input the law returns true; each argument reads behind the call as it read before'; 0 by the template 'total and deterministic' (their statements: YtigkepdndkolhaaTotals.lean).
  GIVEN WITH THE SEED: the statements are not yours to turn. If you find one false, say at which input.
  Laid BY PROGRAM, IN A SANDBOX (cutbox-rows.mjs): the forced cells as the released guide's own fill.sh prints them over the translation 61338bb6bf2dc9f7… (all of the seat's roots in one cut). By AI agents, Wed Nov 11 2026. No macro, syntax, notation, axiom, sorry.
-/
import Derived.Test.YtigkepdndkolhaaChecked
import GoSem.Claim
import GoSem.ClaimJoined
import GoSem.ClaimMapViews
import Derived.JoinedTies
import Derived.KernelRfl
namespace Go.Proofs.Ytigkepdndkolhaa
/- THE CELL 'sum', in the pinned program and in every row, IS THE sha256 OF THE DUMP (.gsa) THAT YtigkepdndkolhaaProg.lean LOADS. Nothing in Lean hashes anything: it is a label: what it is worth is what the hold of that sum in a sandbox is worth. -/
noncomputable def Try.pinned : Pinned := { name := "ytigkepdndkolhaa", sum := "61338bb6bf2dc9f78c8b846a06ad7851456976f315bcc55843e9144e24aad8b8", checked := Try.checked }
namespace Rows
def none {H : Type} : Left H := { results := [], args := [] }

/-- 'laws.FnFlowOk': WHATEVER THE INPUT: true; the input reads as it did. -/
def fnFlowOkSpec : ChangeSpec := { name := "fnFlowOk", fn := fun _ => fun
  | [d] => { results := [.lit (.bool true)], args := [d] }
  | _ => none }
def fnFlowOkRow : OpenClaim := { program := "ytigkepdndkolhaa", sum := "61338bb6bf2dc9f78c8b846a06ad7851456976f315bcc55843e9144e24aad8b8", func := "loop.example/balancedpipes/laws.FnFlowOk", spec := "fnFlowOk", apart := false }
def FnFlowOkSaid : Prop := fnFlowOkRow.holds Try.pinned (OpenSpec.ofChange fnFlowOkSpec)

/-- ITS FALSE NEIGHBOUR: 'it returns false'. Refute it at one input. -/
def fnFlowOkWrong : ChangeSpec := { name := "fnFlowOk", fn := fun _ => fun
  | [d] => { results := [.lit (.bool false)], args := [d] }
  | _ => none }
def FnFlowOkWrongFalsely : Prop := fnFlowOkRow.holds Try.pinned (OpenSpec.ofChange fnFlowOkWrong)

/-- 'laws.FnExcessAt': WHATEVER THE INPUT: true; the input reads as it did. -/
def fnExcessAtSpec : ChangeSpec := { name := "fnExcessAt", fn := fun _ => fun
  | [d] => { results := [.lit (.bool true)], args := [d] }
  | _ => none }
def fnExcessAtRow : OpenClaim := { program := "ytigkepdndkolhaa", sum := "61338bb6bf2dc9f78c8b846a06ad7851456976f315bcc55843e9144e24aad8b8", func := "loop.example/balancedpipes/laws.FnExcessAt", spec := "fnExcessAt", unfollowed := true, recurses := true, apart := false }
def FnExcessAtSaid : Prop := fnExcessAtRow.holds Try.pinned (OpenSpec.ofChange fnExcessAtSpec)

/-- ITS FALSE NEIGHBOUR: 'it returns false'. Refute it at one input. -/
def fnExcessAtWrong : ChangeSpec := { name := "fnExcessAt", fn := fun _ => fun
  | [d] => { results := [.lit (.bool false)], args := [d] }
  | _ => none }
def FnExcessAtWrongFalsely : Prop := fnExcessAtRow.holds Try.pinned (OpenSpec.ofChange fnExcessAtWrong)

/-- 'laws.FnBalancedOk': WHATEVER THE INPUT: true; the input reads as it did. -/
def fnBalancedOkSpec : ChangeSpec := { name := "fnBalancedOk", fn := fun _ => fun
  | [d] => { results := [.lit (.bool true)], args := [d] }
  | _ => none }
def fnBalancedOkRow : OpenClaim := { program := "ytigkepdndkolhaa", sum := "61338bb6bf2dc9f78c8b846a06ad7851456976f315bcc55843e9144e24aad8b8", func := "loop.example/balancedpipes/laws.FnBalancedOk", spec := "fnBalancedOk", unfollowed := true, recurses := true, apart := false }
def FnBalancedOkSaid : Prop := fnBalancedOkRow.holds Try.pinned (OpenSpec.ofChange fnBalancedOkSpec)

/-- ITS FALSE NEIGHBOUR: 'it returns false'. Refute it at one input. -/
def fnBalancedOkWrong : ChangeSpec := { name := "fnBalancedOk", fn := fun _ => fun
  | [d] => { results := [.lit (.bool false)], args := [d] }
  | _ => none }
def FnBalancedOkWrongFalsely : Prop := fnBalancedOkRow.holds Try.pinned (OpenSpec.ofChange fnBalancedOkWrong)

/-- 'laws.FnHoldsOk': WHATEVER THE INPUT: true; the input reads as it did. -/
def fnHoldsOkSpec : ChangeSpec := { name := "fnHoldsOk", fn := fun _ => fun
  | [d] => { results := [.lit (.bool true)], args := [d] }
  | _ => none }
def fnHoldsOkRow : OpenClaim := { program := "ytigkepdndkolhaa", sum := "61338bb6bf2dc9f78c8b846a06ad7851456976f315bcc55843e9144e24aad8b8", func := "loop.example/balancedpipes/laws.FnHoldsOk", spec := "fnHoldsOk", apart := false }
def FnHoldsOkSaid : Prop := fnHoldsOkRow.holds Try.pinned (OpenSpec.ofChange fnHoldsOkSpec)

/-- ITS FALSE NEIGHBOUR: 'it returns false'. Refute it at one input. -/
def fnHoldsOkWrong : ChangeSpec := { name := "fnHoldsOk", fn := fun _ => fun
  | [d] => { results := [.lit (.bool false)], args := [d] }
  | _ => none }
def FnHoldsOkWrongFalsely : Prop := fnHoldsOkRow.holds Try.pinned (OpenSpec.ofChange fnHoldsOkWrong)

/-- 'laws.FnBothFlows': WHATEVER THE INPUT: true; the input reads as it did. -/
def fnBothFlowsSpec : ChangeSpec := { name := "fnBothFlows", fn := fun _ => fun
  | [d] => { results := [.lit (.bool true)], args := [d] }
  | _ => none }
def fnBothFlowsRow : OpenClaim := { program := "ytigkepdndkolhaa", sum := "61338bb6bf2dc9f78c8b846a06ad7851456976f315bcc55843e9144e24aad8b8", func := "loop.example/balancedpipes/laws.FnBothFlows", spec := "fnBothFlows", unfollowed := true, recurses := true, apart := false }
def FnBothFlowsSaid : Prop := fnBothFlowsRow.holds Try.pinned (OpenSpec.ofChange fnBothFlowsSpec)

/-- ITS FALSE NEIGHBOUR: 'it returns false'. Refute it at one input. -/
def fnBothFlowsWrong : ChangeSpec := { name := "fnBothFlows", fn := fun _ => fun
  | [d] => { results := [.lit (.bool false)], args := [d] }
  | _ => none }
def FnBothFlowsWrongFalsely : Prop := fnBothFlowsRow.holds Try.pinned (OpenSpec.ofChange fnBothFlowsWrong)

/-- 'laws.FnTurnedNet': WHATEVER THE INPUT: true; the input reads as it did. -/
def fnTurnedNetSpec : ChangeSpec := { name := "fnTurnedNet", fn := fun _ => fun
  | [d] => { results := [.lit (.bool true)], args := [d] }
  | _ => none }
def fnTurnedNetRow : OpenClaim := { program := "ytigkepdndkolhaa", sum := "61338bb6bf2dc9f78c8b846a06ad7851456976f315bcc55843e9144e24aad8b8", func := "loop.example/balancedpipes/laws.FnTurnedNet", spec := "fnTurnedNet", apart := false }
def FnTurnedNetSaid : Prop := fnTurnedNetRow.holds Try.pinned (OpenSpec.ofChange fnTurnedNetSpec)

/-- ITS FALSE NEIGHBOUR: 'it returns false'. Refute it at one input. -/
def fnTurnedNetWrong : ChangeSpec := { name := "fnTurnedNet", fn := fun _ => fun
  | [d] => { results := [.lit (.bool false)], args := [d] }
  | _ => none }
def FnTurnedNetWrongFalsely : Prop := fnTurnedNetRow.holds Try.pinned (OpenSpec.ofChange fnTurnedNetWrong)

/-- 'laws.FnSideOk': WHATEVER THE INPUT: true; the input reads as it did. -/
def fnSideOkSpec : ChangeSpec := { name := "fnSideOk", fn := fun _ => fun
  | [d] => { results := [.lit (.bool true)], args := [d] }
  | _ => none }
def fnSideOkRow : OpenClaim := { program := "ytigkepdndkolhaa", sum := "61338bb6bf2dc9f78c8b846a06ad7851456976f315bcc55843e9144e24aad8b8", func := "loop.example/balancedpipes/laws.FnSideOk", spec := "fnSideOk", apart := false }
def FnSideOkSaid : Prop := fnSideOkRow.holds Try.pinned (OpenSpec.ofChange fnSideOkSpec)

/-- ITS FALSE NEIGHBOUR: 'it returns false'. Refute it at one input. -/
def fnSideOkWrong : ChangeSpec := { name := "fnSideOk", fn := fun _ => fun
  | [d] => { results := [.lit (.bool false)], args := [d] }
  | _ => none }
def FnSideOkWrongFalsely : Prop := fnSideOkRow.holds Try.pinned (OpenSpec.ofChange fnSideOkWrong)

/-- 'laws.FnAcrossOf': WHATEVER THE INPUT: true; the input reads as it did. -/
def fnAcrossOfSpec : ChangeSpec := { name := "fnAcrossOf", fn := fun _ => fun
  | [d] => { results := [.lit (.bool true)], args := [d] }
  | _ => none }
def fnAcrossOfRow : OpenClaim := { program := "ytigkepdndkolhaa", sum := "61338bb6bf2dc9f78c8b846a06ad7851456976f315bcc55843e9144e24aad8b8", func := "loop.example/balancedpipes/laws.FnAcrossOf", spec := "fnAcrossOf", unfollowed := true, recurses := true, apart := false }
def FnAcrossOfSaid : Prop := fnAcrossOfRow.holds Try.pinned (OpenSpec.ofChange fnAcrossOfSpec)

/-- ITS FALSE NEIGHBOUR: 'it returns false'. Refute it at one input. -/
def fnAcrossOfWrong : ChangeSpec := { name := "fnAcrossOf", fn := fun _ => fun
  | [d] => { results := [.lit (.bool false)], args := [d] }
  | _ => none }
def FnAcrossOfWrongFalsely : Prop := fnAcrossOfRow.holds Try.pinned (OpenSpec.ofChange fnAcrossOfWrong)

/- THE SECOND FORM. 'bulk': how many values and letters a reading holds, each counted each time it is reached (what is shared counts as often as it is met; a slice's spare places count too). A statement '..UptoSaid' is the law's where the arguments, and the package variables that the reading takes, are together of bulk at most 1048576: NARROWER than '..Said'. Prove '..Said' where nothing that the law and all that it calls make is longer than what came in: it says more and counts as full. Else prove '..UptoSaid'. A law counts once. -/
mutual
def uptoBulk {H : Type} : DataW H → Nat
  | .lit (.string bytes) => bytes.length + 1
  | .lit _ => 1
  | .nil => 1
  | .ptr d => uptoBulk d + 1
  | .slice elems spare => uptoBulkAll elems + uptoBulkAll spare + 1
  | .agg parts => uptoBulkAll parts + 1
  | .iface _ d => uptoBulk d + 1
  | .map entries => uptoBulkEntries entries + 1
  | .held _ => 1
def uptoBulkAll {H : Type} : List (DataW H) → Nat
  | [] => 0
  | d :: r => uptoBulk d + uptoBulkAll r
def uptoBulkEntries {H : Type} : List (Lit × DataW H) → Nat
  | [] => 0
  | x :: r => uptoBulkEntry x + uptoBulkEntries r
def uptoBulkEntry {H : Type} : Lit × DataW H → Nat
  | (.string bytes, d) => bytes.length + uptoBulk d + 1
  | (_, d) => uptoBulk d + 1
 end
def uptoSmall : (H : Type) → List (DataW H) → Bool := fun _ ds => decide (uptoBulkAll ds ≤ 1048576)
def OpenSpec.upto (s : _root_.Go.ChangeSpec) : _root_.Go.OpenSpec := { _root_.Go.OpenSpec.ofChange s with cond := some uptoSmall }

/-- 'laws.FnFlowOk', WHERE WHAT IT READS IS OF BULK AT MOST 1048576: true; the input reads as it did. -/
def fnFlowOkUptoRow : OpenClaim := { program := "ytigkepdndkolhaa", sum := "61338bb6bf2dc9f78c8b846a06ad7851456976f315bcc55843e9144e24aad8b8", func := "loop.example/balancedpipes/laws.FnFlowOk", spec := "fnFlowOk", apart := false, narrowed := true }
def FnFlowOkUptoSaid : Prop := fnFlowOkUptoRow.holds Try.pinned (OpenSpec.upto fnFlowOkSpec)

/-- 'laws.FnExcessAt', WHERE WHAT IT READS IS OF BULK AT MOST 1048576: true; the input reads as it did. -/
def fnExcessAtUptoRow : OpenClaim := { program := "ytigkepdndkolhaa", sum := "61338bb6bf2dc9f78c8b846a06ad7851456976f315bcc55843e9144e24aad8b8", func := "loop.example/balancedpipes/laws.FnExcessAt", spec := "fnExcessAt", unfollowed := true, recurses := true, apart := false, narrowed := true }
def FnExcessAtUptoSaid : Prop := fnExcessAtUptoRow.holds Try.pinned (OpenSpec.upto fnExcessAtSpec)

/-- 'laws.FnBalancedOk', WHERE WHAT IT READS IS OF BULK AT MOST 1048576: true; the input reads as it did. -/
def fnBalancedOkUptoRow : OpenClaim := { program := "ytigkepdndkolhaa", sum := "61338bb6bf2dc9f78c8b846a06ad7851456976f315bcc55843e9144e24aad8b8", func := "loop.example/balancedpipes/laws.FnBalancedOk", spec := "fnBalancedOk", unfollowed := true, recurses := true, apart := false, narrowed := true }
def FnBalancedOkUptoSaid : Prop := fnBalancedOkUptoRow.holds Try.pinned (OpenSpec.upto fnBalancedOkSpec)

/-- 'laws.FnHoldsOk', WHERE WHAT IT READS IS OF BULK AT MOST 1048576: true; the input reads as it did. -/
def fnHoldsOkUptoRow : OpenClaim := { program := "ytigkepdndkolhaa", sum := "61338bb6bf2dc9f78c8b846a06ad7851456976f315bcc55843e9144e24aad8b8", func := "loop.example/balancedpipes/laws.FnHoldsOk", spec := "fnHoldsOk", apart := false, narrowed := true }
def FnHoldsOkUptoSaid : Prop := fnHoldsOkUptoRow.holds Try.pinned (OpenSpec.upto fnHoldsOkSpec)

/-- 'laws.FnBothFlows', WHERE WHAT IT READS IS OF BULK AT MOST 1048576: true; the input reads as it did. -/
def fnBothFlowsUptoRow : OpenClaim := { program := "ytigkepdndkolhaa", sum := "61338bb6bf2dc9f78c8b846a06ad7851456976f315bcc55843e9144e24aad8b8", func := "loop.example/balancedpipes/laws.FnBothFlows", spec := "fnBothFlows", unfollowed := true, recurses := true, apart := false, narrowed := true }
def FnBothFlowsUptoSaid : Prop := fnBothFlowsUptoRow.holds Try.pinned (OpenSpec.upto fnBothFlowsSpec)

/-- 'laws.FnTurnedNet', WHERE WHAT IT READS IS OF BULK AT MOST 1048576: true; the input reads as it did. -/
def fnTurnedNetUptoRow : OpenClaim := { program := "ytigkepdndkolhaa", sum := "61338bb6bf2dc9f78c8b846a06ad7851456976f315bcc55843e9144e24aad8b8", func := "loop.example/balancedpipes/laws.FnTurnedNet", spec := "fnTurnedNet", apart := false, narrowed := true }
def FnTurnedNetUptoSaid : Prop := fnTurnedNetUptoRow.holds Try.pinned (OpenSpec.upto fnTurnedNetSpec)

/-- 'laws.FnSideOk', WHERE WHAT IT READS IS OF BULK AT MOST 1048576: true; the input reads as it did. -/
def fnSideOkUptoRow : OpenClaim := { program := "ytigkepdndkolhaa", sum := "61338bb6bf2dc9f78c8b846a06ad7851456976f315bcc55843e9144e24aad8b8", func := "loop.example/balancedpipes/laws.FnSideOk", spec := "fnSideOk", apart := false, narrowed := true }
def FnSideOkUptoSaid : Prop := fnSideOkUptoRow.holds Try.pinned (OpenSpec.upto fnSideOkSpec)

/-- 'laws.FnAcrossOf', WHERE WHAT IT READS IS OF BULK AT MOST 1048576: true; the input reads as it did. -/
def fnAcrossOfUptoRow : OpenClaim := { program := "ytigkepdndkolhaa", sum := "61338bb6bf2dc9f78c8b846a06ad7851456976f315bcc55843e9144e24aad8b8", func := "loop.example/balancedpipes/laws.FnAcrossOf", spec := "fnAcrossOf", unfollowed := true, recurses := true, apart := false, narrowed := true }
def FnAcrossOfUptoSaid : Prop := fnAcrossOfUptoRow.holds Try.pinned (OpenSpec.upto fnAcrossOfSpec)

end Rows
end Go.Proofs.Ytigkepdndkolhaa
