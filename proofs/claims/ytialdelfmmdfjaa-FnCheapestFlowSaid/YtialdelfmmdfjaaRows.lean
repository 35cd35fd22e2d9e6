/-
  No cell of these rows narrows 'for every input' (looked for: loops, veiled, ifaces, maps, wideKeys, modest, calm, conditions, laid).
  DERIVED. THE GIVEN ROWS OF THIS SEAT. 6 by the template 'for every input the law returns true; each argument reads behind the call as it read before'; 0 by the template 'total and deterministic' (their statements: YtialdelfmmdfjaaTotals.lean).
  GIVEN WITH THE SEED: the statements are not yours to turn. If you find one false, say at which input.
  Laid BY PROGRAM, IN A SANDBOX (cutbox-rows.mjs): the forced cells as the released guide's own fill.sh prints them over the translation 0168ef16eb998e8a… (all of the seat's roots in one cut). By AI agents, Wed Nov 11 2026. No macro, syntax, notation, axiom, sorry.
-/
import Derived.Test.YtialdelfmmdfjaaChecked
import GoSem.Claim
import GoSem.ClaimJoined
import GoSem.ClaimMapViews
import Derived.JoinedTies
import Derived.KernelRfl
namespace Go.Proofs.Ytialdelfmmdfjaa
/- THE CELL 'sum', in the pinned program and in every row, IS THE sha256 OF THE DUMP (.gsa) THAT YtialdelfmmdfjaaProg.lean LOADS. Nothing in Lean hashes anything: it is a label: what it is worth is what the hold of that sum in a sandbox is worth. -/
noncomputable def Try.pinned : Pinned := { name := "ytialdelfmmdfjaa", sum := "0168ef16eb998e8a144f860c6b386d9e13002e268721b9e77b5e3a9431f828c1", checked := Try.checked }
namespace Rows
def none {H : Type} : Left H := { results := [], args := [] }

/-- 'laws.FnGainOf': WHATEVER THE INPUT: true; the input reads as it did. -/
def fnGainOfSpec : ChangeSpec := { name := "fnGainOf", fn := fun _ => fun
  | [d] => { results := [.lit (.bool true)], args := [d] }
  | _ => none }
def fnGainOfRow : OpenClaim := { program := "ytialdelfmmdfjaa", sum := "0168ef16eb998e8a144f860c6b386d9e13002e268721b9e77b5e3a9431f828c1", func := "loop.example/balancedpipes/laws.FnGainOf", spec := "fnGainOf", unfollowed := true, recurses := true, apart := false }
def FnGainOfSaid : Prop := fnGainOfRow.holds Try.pinned (OpenSpec.ofChange fnGainOfSpec)

/-- ITS FALSE NEIGHBOUR: 'it returns false'. Refute it at one input. -/
def fnGainOfWrong : ChangeSpec := { name := "fnGainOf", fn := fun _ => fun
  | [d] => { results := [.lit (.bool false)], args := [d] }
  | _ => none }
def FnGainOfWrongFalsely : Prop := fnGainOfRow.holds Try.pinned (OpenSpec.ofChange fnGainOfWrong)

/-- 'laws.FnCheaperFlow': WHATEVER THE INPUT: true; the input reads as it did. -/
def fnCheaperFlowSpec : ChangeSpec := { name := "fnCheaperFlow", fn := fun _ => fun
  | [d] => { results := [.lit (.bool true)], args := [d] }
  | _ => none }
def fnCheaperFlowRow : OpenClaim := { program := "ytialdelfmmdfjaa", sum := "0168ef16eb998e8a144f860c6b386d9e13002e268721b9e77b5e3a9431f828c1", func := "loop.example/balancedpipes/laws.FnCheaperFlow", spec := "fnCheaperFlow", unfollowed := true, recurses := true, apart := false }
def FnCheaperFlowSaid : Prop := fnCheaperFlowRow.holds Try.pinned (OpenSpec.ofChange fnCheaperFlowSpec)

/-- ITS FALSE NEIGHBOUR: 'it returns false'. Refute it at one input. -/
def fnCheaperFlowWrong : ChangeSpec := { name := "fnCheaperFlow", fn := fun _ => fun
  | [d] => { results := [.lit (.bool false)], args := [d] }
  | _ => none }
def FnCheaperFlowWrongFalsely : Prop := fnCheaperFlowRow.holds Try.pinned (OpenSpec.ofChange fnCheaperFlowWrong)

/-- 'laws.FnCheapestFlow': WHATEVER THE INPUT: true; the input reads as it did. -/
def fnCheapestFlowSpec : ChangeSpec := { name := "fnCheapestFlow", fn := fun _ => fun
  | [d] => { results := [.lit (.bool true)], args := [d] }
  | _ => none }
def fnCheapestFlowRow : OpenClaim := { program := "ytialdelfmmdfjaa", sum := "0168ef16eb998e8a144f860c6b386d9e13002e268721b9e77b5e3a9431f828c1", func := "loop.example/balancedpipes/laws.FnCheapestFlow", spec := "fnCheapestFlow", unfollowed := true, recurses := true, apart := false }
def FnCheapestFlowSaid : Prop := fnCheapestFlowRow.holds Try.pinned (OpenSpec.ofChange fnCheapestFlowSpec)

/-- ITS FALSE NEIGHBOUR: 'it returns false'. Refute it at one input. -/
def fnCheapestFlowWrong : ChangeSpec := { name := "fnCheapestFlow", fn := fun _ => fun
  | [d] => { results := [.lit (.bool false)], args := [d] }
  | _ => none }
def FnCheapestFlowWrongFalsely : Prop := fnCheapestFlowRow.holds Try.pinned (OpenSpec.ofChange fnCheapestFlowWrong)

/-- 'laws.FnPricesOk': WHATEVER THE INPUT: true; the input reads as it did. -/
def fnPricesOkSpec : ChangeSpec := { name := "fnPricesOk", fn := fun _ => fun
  | [d] => { results := [.lit (.bool true)], args := [d] }
  | _ => none }
def fnPricesOkRow : OpenClaim := { program := "ytialdelfmmdfjaa", sum := "0168ef16eb998e8a144f860c6b386d9e13002e268721b9e77b5e3a9431f828c1", func := "loop.example/balancedpipes/laws.FnPricesOk", spec := "fnPricesOk", unfollowed := true, recurses := true, apart := false }
def FnPricesOkSaid : Prop := fnPricesOkRow.holds Try.pinned (OpenSpec.ofChange fnPricesOkSpec)

/-- ITS FALSE NEIGHBOUR: 'it returns false'. Refute it at one input. -/
def fnPricesOkWrong : ChangeSpec := { name := "fnPricesOk", fn := fun _ => fun
  | [d] => { results := [.lit (.bool false)], args := [d] }
  | _ => none }
def FnPricesOkWrongFalsely : Prop := fnPricesOkRow.holds Try.pinned (OpenSpec.ofChange fnPricesOkWrong)

/-- 'laws.FnPricesFor': WHATEVER THE INPUT: true; the input reads as it did. -/
def fnPricesForSpec : ChangeSpec := { name := "fnPricesFor", fn := fun _ => fun
  | [d] => { results := [.lit (.bool true)], args := [d] }
  | _ => none }
def fnPricesForRow : OpenClaim := { program := "ytialdelfmmdfjaa", sum := "0168ef16eb998e8a144f860c6b386d9e13002e268721b9e77b5e3a9431f828c1", func := "loop.example/balancedpipes/laws.FnPricesFor", spec := "fnPricesFor", unfollowed := true, recurses := true, apart := false }
def FnPricesForSaid : Prop := fnPricesForRow.holds Try.pinned (OpenSpec.ofChange fnPricesForSpec)

/-- ITS FALSE NEIGHBOUR: 'it returns false'. Refute it at one input. -/
def fnPricesForWrong : ChangeSpec := { name := "fnPricesFor", fn := fun _ => fun
  | [d] => { results := [.lit (.bool false)], args := [d] }
  | _ => none }
def FnPricesForWrongFalsely : Prop := fnPricesForRow.holds Try.pinned (OpenSpec.ofChange fnPricesForWrong)

/-- 'laws.FnPricesCost': WHATEVER THE INPUT: true; the input reads as it did. -/
def fnPricesCostSpec : ChangeSpec := { name := "fnPricesCost", fn := fun _ => fun
  | [d] => { results := [.lit (.bool true)], args := [d] }
  | _ => none }
def fnPricesCostRow : OpenClaim := { program := "ytialdelfmmdfjaa", sum := "0168ef16eb998e8a144f860c6b386d9e13002e268721b9e77b5e3a9431f828c1", func := "loop.example/balancedpipes/laws.FnPricesCost", spec := "fnPricesCost", unfollowed := true, recurses := true, apart := false }
def FnPricesCostSaid : Prop := fnPricesCostRow.holds Try.pinned (OpenSpec.ofChange fnPricesCostSpec)

/-- ITS FALSE NEIGHBOUR: 'it returns false'. Refute it at one input. -/
def fnPricesCostWrong : ChangeSpec := { name := "fnPricesCost", fn := fun _ => fun
  | [d] => { results := [.lit (.bool false)], args := [d] }
  | _ => none }
def FnPricesCostWrongFalsely : Prop := fnPricesCostRow.holds Try.pinned (OpenSpec.ofChange fnPricesCostWrong)

/- THE SECOND FORM. 'bulk': how many values and letters a reading holds, each counted each time it is reached (what is shared counts as often as it is met; a slice's spare places count too). A statement '..UptoSaid' is the law's where the arguments, and the package variables that the reading takes, are together of bulk at most 1048576: NARROWER than '..Said'. Prove '..Said' where nothing that the law and all that it calls make is longer than what came in: it says more and counts as full. Else prove '..UptoSaid'. A law counts once. -/
mutual
def uptoBulk {H : Type} : DataW H → Nat
  | .lit (.string bytes) => bytes.length + 1
  | .lit _ => 1
  | .nil => 1
  | .ptr d => uptoBulk d + 1
  | .slice elems spare => uptoBulkAll elems + uptoBulkAll spare + 1
  | .agg parts => uptoBulkAll parts + 1
  | .iface _ d => uptoBulk d + 1
  | .map entries => uptoBulkEntries entries + 1
  | .held _ => 1
def uptoBulkAll {H : Type} : List (DataW H) → Nat
  | [] => 0
  | d :: r => uptoBulk d + uptoBulkAll r
def uptoBulkEntries {H : Type} : List (Lit × DataW H) → Nat
  | [] => 0
  | x :: r => uptoBulkEntry x + uptoBulkEntries r
def uptoBulkEntry {H : Type} : Lit × DataW H → Nat
  | (.string bytes, d) => bytes.length + uptoBulk d + 1
  | (_, d) => uptoBulk d + 1
 end
def uptoSmall : (H : Type) → List (DataW H) → Bool := fun _ ds => decide (uptoBulkAll ds ≤ 1048576)
def OpenSpec.upto (s : _root_.Go.ChangeSpec) : _root_.Go.OpenSpec := { _root_.Go.OpenSpec.ofChange s with cond := some uptoSmall }

/-- 'laws.FnGainOf', WHERE WHAT IT READS IS OF BULK AT MOST 1048576: true; the input reads as it did. -/
def fnGainOfUptoRow : OpenClaim := { program := "ytialdelfmmdfjaa", sum := "0168ef16eb998e8a144f860c6b386d9e13002e268721b9e77b5e3a9431f828c1", func := "loop.example/balancedpipes/laws.FnGainOf", spec := "fnGainOf", unfollowed := true, recurses := true, apart := false, narrowed := true }
def FnGainOfUptoSaid : Prop := fnGainOfUptoRow.holds Try.pinned (OpenSpec.upto fnGainOfSpec)

/-- 'laws.FnCheaperFlow', WHERE WHAT IT READS IS OF BULK AT MOST 1048576: true; the input reads as it did. -/
def fnCheaperFlowUptoRow : OpenClaim := { program := "ytialdelfmmdfjaa", sum := "0168ef16eb998e8a144f860c6b386d9e13002e268721b9e77b5e3a9431f828c1", func := "loop.example/balancedpipes/laws.FnCheaperFlow", spec := "fnCheaperFlow", unfollowed := true, recurses := true, apart := false, narrowed := true }
def FnCheaperFlowUptoSaid : Prop := fnCheaperFlowUptoRow.holds Try.pinned (OpenSpec.upto fnCheaperFlowSpec)

/-- 'laws.FnCheapestFlow', WHERE WHAT IT READS IS OF BULK AT MOST 1048576: true; the input reads as it did. -/
def fnCheapestFlowUptoRow : OpenClaim := { program := "ytialdelfmmdfjaa", sum := "0168ef16eb998e8a144f860c6b386d9e13002e268721b9e77b5e3a9431f828c1", func := "loop.example/balancedpipes/laws.FnCheapestFlow", spec := "fnCheapestFlow", unfollowed := true, recurses := true, apart := false, narrowed := true }
def FnCheapestFlowUptoSaid : Prop := fnCheapestFlowUptoRow.holds Try.pinned (OpenSpec.upto fnCheapestFlowSpec)

/-- 'laws.FnPricesOk', WHERE WHAT IT READS IS OF BULK AT MOST 1048576: true; the input reads as it did. -/
def fnPricesOkUptoRow : OpenClaim := { program := "ytialdelfmmdfjaa", sum := "0168ef16eb998e8a144f860c6b386d9e13002e268721b9e77b5e3a9431f828c1", func := "loop.example/balancedpipes/laws.FnPricesOk", spec := "fnPricesOk", unfollowed := true, recurses := true, apart := false, narrowed := true }
def FnPricesOkUptoSaid : Prop := fnPricesOkUptoRow.holds Try.pinned (OpenSpec.upto fnPricesOkSpec)

/-- 'laws.FnPricesFor', WHERE WHAT IT READS IS OF BULK AT MOST 1048576: true; the input reads as it did. -/
def fnPricesForUptoRow : OpenClaim := { program := "ytialdelfmmdfjaa", sum := "0168ef16eb998e8a144f860c6b386d9e13002e268721b9e77b5e3a9431f828c1", func := "loop.example/balancedpipes/laws.FnPricesFor", spec := "fnPricesFor", unfollowed := true, recurses := true, apart := false, narrowed := true }
def FnPricesForUptoSaid : Prop := fnPricesForUptoRow.holds Try.pinned (OpenSpec.upto fnPricesForSpec)

/-- 'laws.FnPricesCost', WHERE WHAT IT READS IS OF BULK AT MOST 1048576: true; the input reads as it did. -/
def fnPricesCostUptoRow : OpenClaim := { program := "ytialdelfmmdfjaa", sum := "0168ef16eb998e8a144f860c6b386d9e13002e268721b9e77b5e3a9431f828c1", func := "loop.example/balancedpipes/laws.FnPricesCost", spec := "fnPricesCost", unfollowed := true, recurses := true, apart := false, narrowed := true }
def FnPricesCostUptoSaid : Prop := fnPricesCostUptoRow.holds Try.pinned (OpenSpec.upto fnPricesCostSpec)

end Rows
end Go.Proofs.Ytialdelfmmdfjaa
