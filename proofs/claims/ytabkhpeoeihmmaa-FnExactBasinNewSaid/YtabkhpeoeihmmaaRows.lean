/-
  No cell of these rows narrows 'for every input' (looked for: loops, veiled, ifaces, maps, wideKeys, modest, calm, conditions, laid).
  DERIVED. THE GIVEN ROWS OF THIS SEAT. 12 by the template 'for every input the law returns true; each argument reads behind the call as it read before'; 0 by the template 'total and deterministic' (their statements: YtabkhpeoeihmmaaTotals.lean).
  GIVEN WITH THE SEED: the statements are not yours to turn. If you find one false, say at which input.
  Laid BY PROGRAM, IN A SANDBOX (cutbox-rows.mjs): the forced cells as the released guide's own fill.sh prints them over the translation 43b684214ea879a1… (all of the seat's roots in one cut). By AI agents, Wed Nov 11 2026. No macro, syntax, notation, axiom, sorry.
-/
import Derived.Test.YtabkhpeoeihmmaaChecked
import GoSem.Claim
import GoSem.ClaimJoined
import GoSem.ClaimMapViews
import Derived.JoinedTies
import Derived.KernelRfl
namespace Go.Proofs.Ytabkhpeoeihmmaa
/- THE CELL 'sum', in the pinned program and in every row, IS THE sha256 OF THE DUMP (.gsa) THAT YtabkhpeoeihmmaaProg.lean LOADS. Nothing in Lean hashes anything: it is a label: what it is worth is what the hold of that sum in a sandbox is worth. -/
noncomputable def Try.pinned : Pinned := { name := "ytabkhpeoeihmmaa", sum := "43b684214ea879a167d62dcafcfbde7a6766c017a40ebaa074dfacaa548e7f9b", checked := Try.checked }
namespace Rows
def none {H : Type} : Left H := { results := [], args := [] }

/-- 'laws.FnExactBasinOk': WHATEVER THE INPUT: true; the input reads as it did. -/
def fnExactBasinOkSpec : ChangeSpec := { name := "fnExactBasinOk", fn := fun _ => fun
  | [d1, d2, d3, d4] => { results := [.lit (.bool true)], args := [d1, d2, d3, d4] }
  | _ => none }
def fnExactBasinOkRow : OpenClaim := { program := "ytabkhpeoeihmmaa", sum := "43b684214ea879a167d62dcafcfbde7a6766c017a40ebaa074dfacaa548e7f9b", func := "loop.example/balancedpipes/laws.FnExactBasinOk", spec := "fnExactBasinOk", unfollowed := true, recurses := true, apart := false }
def FnExactBasinOkSaid : Prop := fnExactBasinOkRow.holds Try.pinned (OpenSpec.ofChange fnExactBasinOkSpec)

/-- ITS FALSE NEIGHBOUR: 'it returns false'. Refute it at one input. -/
def fnExactBasinOkWrong : ChangeSpec := { name := "fnExactBasinOk", fn := fun _ => fun
  | [d1, d2, d3, d4] => { results := [.lit (.bool false)], args := [d1, d2, d3, d4] }
  | _ => none }
def FnExactBasinOkWrongFalsely : Prop := fnExactBasinOkRow.holds Try.pinned (OpenSpec.ofChange fnExactBasinOkWrong)

/-- 'laws.FnExactBasinNew': WHATEVER THE INPUT: true; the input reads as it did. -/
def fnExactBasinNewSpec : ChangeSpec := { name := "fnExactBasinNew", fn := fun _ => fun
  | [d1, d2, d3] => { results := [.lit (.bool true)], args := [d1, d2, d3] }
  | _ => none }
def fnExactBasinNewRow : OpenClaim := { program := "ytabkhpeoeihmmaa", sum := "43b684214ea879a167d62dcafcfbde7a6766c017a40ebaa074dfacaa548e7f9b", func := "loop.example/balancedpipes/laws.FnExactBasinNew", spec := "fnExactBasinNew", unfollowed := true, recurses := true, apart := false }
def FnExactBasinNewSaid : Prop := fnExactBasinNewRow.holds Try.pinned (OpenSpec.ofChange fnExactBasinNewSpec)

/-- ITS FALSE NEIGHBOUR: 'it returns false'. Refute it at one input. -/
def fnExactBasinNewWrong : ChangeSpec := { name := "fnExactBasinNew", fn := fun _ => fun
  | [d1, d2, d3] => { results := [.lit (.bool false)], args := [d1, d2, d3] }
  | _ => none }
def FnExactBasinNewWrongFalsely : Prop := fnExactBasinNewRow.holds Try.pinned (OpenSpec.ofChange fnExactBasinNewWrong)

/-- 'laws.FnExactBasinStep': WHATEVER THE INPUT: true; the input reads as it did. -/
def fnExactBasinStepSpec : ChangeSpec := { name := "fnExactBasinStep", fn := fun _ => fun
  | [d1, d2, d3, d4] => { results := [.lit (.bool true)], args := [d1, d2, d3, d4] }
  | _ => none }
def fnExactBasinStepRow : OpenClaim := { program := "ytabkhpeoeihmmaa", sum := "43b684214ea879a167d62dcafcfbde7a6766c017a40ebaa074dfacaa548e7f9b", func := "loop.example/balancedpipes/laws.FnExactBasinStep", spec := "fnExactBasinStep", unfollowed := true, recurses := true, apart := false }
def FnExactBasinStepSaid : Prop := fnExactBasinStepRow.holds Try.pinned (OpenSpec.ofChange fnExactBasinStepSpec)

/-- ITS FALSE NEIGHBOUR: 'it returns false'. Refute it at one input. -/
def fnExactBasinStepWrong : ChangeSpec := { name := "fnExactBasinStep", fn := fun _ => fun
  | [d1, d2, d3, d4] => { results := [.lit (.bool false)], args := [d1, d2, d3, d4] }
  | _ => none }
def FnExactBasinStepWrongFalsely : Prop := fnExactBasinStepRow.holds Try.pinned (OpenSpec.ofChange fnExactBasinStepWrong)

/-- 'laws.FnExactBasinRun': WHATEVER THE INPUT: true; the input reads as it did. -/
def fnExactBasinRunSpec : ChangeSpec := { name := "fnExactBasinRun", fn := fun _ => fun
  | [d1, d2, d3] => { results := [.lit (.bool true)], args := [d1, d2, d3] }
  | _ => none }
def fnExactBasinRunRow : OpenClaim := { program := "ytabkhpeoeihmmaa", sum := "43b684214ea879a167d62dcafcfbde7a6766c017a40ebaa074dfacaa548e7f9b", func := "loop.example/balancedpipes/laws.FnExactBasinRun", spec := "fnExactBasinRun", unfollowed := true, recurses := true, apart := false }
def FnExactBasinRunSaid : Prop := fnExactBasinRunRow.holds Try.pinned (OpenSpec.ofChange fnExactBasinRunSpec)

/-- ITS FALSE NEIGHBOUR: 'it returns false'. Refute it at one input. -/
def fnExactBasinRunWrong : ChangeSpec := { name := "fnExactBasinRun", fn := fun _ => fun
  | [d1, d2, d3] => { results := [.lit (.bool false)], args := [d1, d2, d3] }
  | _ => none }
def FnExactBasinRunWrongFalsely : Prop := fnExactBasinRunRow.holds Try.pinned (OpenSpec.ofChange fnExactBasinRunWrong)

/-- 'laws.FnExactSpilledOf': WHATEVER THE INPUT: true; the input reads as it did. -/
def fnExactSpilledOfSpec : ChangeSpec := { name := "fnExactSpilledOf", fn := fun _ => fun
  | [d1, d2, d3] => { results := [.lit (.bool true)], args := [d1, d2, d3] }
  | _ => none }
def fnExactSpilledOfRow : OpenClaim := { program := "ytabkhpeoeihmmaa", sum := "43b684214ea879a167d62dcafcfbde7a6766c017a40ebaa074dfacaa548e7f9b", func := "loop.example/balancedpipes/laws.FnExactSpilledOf", spec := "fnExactSpilledOf", unfollowed := true, recurses := true, apart := false }
def FnExactSpilledOfSaid : Prop := fnExactSpilledOfRow.holds Try.pinned (OpenSpec.ofChange fnExactSpilledOfSpec)

/-- ITS FALSE NEIGHBOUR: 'it returns false'. Refute it at one input. -/
def fnExactSpilledOfWrong : ChangeSpec := { name := "fnExactSpilledOf", fn := fun _ => fun
  | [d1, d2, d3] => { results := [.lit (.bool false)], args := [d1, d2, d3] }
  | _ => none }
def FnExactSpilledOfWrongFalsely : Prop := fnExactSpilledOfRow.holds Try.pinned (OpenSpec.ofChange fnExactSpilledOfWrong)

/-- 'laws.FnBasinOk': WHATEVER THE INPUT: true; the input reads as it did. -/
def fnBasinOkSpec : ChangeSpec := { name := "fnBasinOk", fn := fun _ => fun
  | [d] => { results := [.lit (.bool true)], args := [d] }
  | _ => none }
def fnBasinOkRow : OpenClaim := { program := "ytabkhpeoeihmmaa", sum := "43b684214ea879a167d62dcafcfbde7a6766c017a40ebaa074dfacaa548e7f9b", func := "loop.example/balancedpipes/laws.FnBasinOk", spec := "fnBasinOk", unfollowed := true, recurses := true, apart := false }
def FnBasinOkSaid : Prop := fnBasinOkRow.holds Try.pinned (OpenSpec.ofChange fnBasinOkSpec)

/-- ITS FALSE NEIGHBOUR: 'it returns false'. Refute it at one input. -/
def fnBasinOkWrong : ChangeSpec := { name := "fnBasinOk", fn := fun _ => fun
  | [d] => { results := [.lit (.bool false)], args := [d] }
  | _ => none }
def FnBasinOkWrongFalsely : Prop := fnBasinOkRow.holds Try.pinned (OpenSpec.ofChange fnBasinOkWrong)

/-- 'laws.FnBasinNew': WHATEVER THE INPUT: true; the input reads as it did. -/
def fnBasinNewSpec : ChangeSpec := { name := "fnBasinNew", fn := fun _ => fun
  | [d] => { results := [.lit (.bool true)], args := [d] }
  | _ => none }
def fnBasinNewRow : OpenClaim := { program := "ytabkhpeoeihmmaa", sum := "43b684214ea879a167d62dcafcfbde7a6766c017a40ebaa074dfacaa548e7f9b", func := "loop.example/balancedpipes/laws.FnBasinNew", spec := "fnBasinNew", unfollowed := true, recurses := true, apart := false }
def FnBasinNewSaid : Prop := fnBasinNewRow.holds Try.pinned (OpenSpec.ofChange fnBasinNewSpec)

/-- ITS FALSE NEIGHBOUR: 'it returns false'. Refute it at one input. -/
def fnBasinNewWrong : ChangeSpec := { name := "fnBasinNew", fn := fun _ => fun
  | [d] => { results := [.lit (.bool false)], args := [d] }
  | _ => none }
def FnBasinNewWrongFalsely : Prop := fnBasinNewRow.holds Try.pinned (OpenSpec.ofChange fnBasinNewWrong)

/-- 'laws.FnBasinStep': WHATEVER THE INPUT: true; the input reads as it did. -/
def fnBasinStepSpec : ChangeSpec := { name := "fnBasinStep", fn := fun _ => fun
  | [d] => { results := [.lit (.bool true)], args := [d] }
  | _ => none }
def fnBasinStepRow : OpenClaim := { program := "ytabkhpeoeihmmaa", sum := "43b684214ea879a167d62dcafcfbde7a6766c017a40ebaa074dfacaa548e7f9b", func := "loop.example/balancedpipes/laws.FnBasinStep", spec := "fnBasinStep", unfollowed := true, recurses := true, apart := false }
def FnBasinStepSaid : Prop := fnBasinStepRow.holds Try.pinned (OpenSpec.ofChange fnBasinStepSpec)

/-- ITS FALSE NEIGHBOUR: 'it returns false'. Refute it at one input. -/
def fnBasinStepWrong : ChangeSpec := { name := "fnBasinStep", fn := fun _ => fun
  | [d] => { results := [.lit (.bool false)], args := [d] }
  | _ => none }
def FnBasinStepWrongFalsely : Prop := fnBasinStepRow.holds Try.pinned (OpenSpec.ofChange fnBasinStepWrong)

/-- 'laws.FnBasinRun': WHATEVER THE INPUT: true; the input reads as it did. -/
def fnBasinRunSpec : ChangeSpec := { name := "fnBasinRun", fn := fun _ => fun
  | [d] => { results := [.lit (.bool true)], args := [d] }
  | _ => none }
def fnBasinRunRow : OpenClaim := { program := "ytabkhpeoeihmmaa", sum := "43b684214ea879a167d62dcafcfbde7a6766c017a40ebaa074dfacaa548e7f9b", func := "loop.example/balancedpipes/laws.FnBasinRun", spec := "fnBasinRun", unfollowed := true, recurses := true, apart := false }
def FnBasinRunSaid : Prop := fnBasinRunRow.holds Try.pinned (OpenSpec.ofChange fnBasinRunSpec)

/-- ITS FALSE NEIGHBOUR: 'it returns false'. Refute it at one input. -/
def fnBasinRunWrong : ChangeSpec := { name := "fnBasinRun", fn := fun _ => fun
  | [d] => { results := [.lit (.bool false)], args := [d] }
  | _ => none }
def FnBasinRunWrongFalsely : Prop := fnBasinRunRow.holds Try.pinned (OpenSpec.ofChange fnBasinRunWrong)

/-- 'laws.FnSpilledOf': WHATEVER THE INPUT: true; the input reads as it did. -/
def fnSpilledOfSpec : ChangeSpec := { name := "fnSpilledOf", fn := fun _ => fun
  | [d] => { results := [.lit (.bool true)], args := [d] }
  | _ => none }
def fnSpilledOfRow : OpenClaim := { program := "ytabkhpeoeihmmaa", sum := "43b684214ea879a167d62dcafcfbde7a6766c017a40ebaa074dfacaa548e7f9b", func := "loop.example/balancedpipes/laws.FnSpilledOf", spec := "fnSpilledOf", unfollowed := true, recurses := true, apart := false }
def FnSpilledOfSaid : Prop := fnSpilledOfRow.holds Try.pinned (OpenSpec.ofChange fnSpilledOfSpec)

/-- ITS FALSE NEIGHBOUR: 'it returns false'. Refute it at one input. -/
def fnSpilledOfWrong : ChangeSpec := { name := "fnSpilledOf", fn := fun _ => fun
  | [d] => { results := [.lit (.bool false)], args := [d] }
  | _ => none }
def FnSpilledOfWrongFalsely : Prop := fnSpilledOfRow.holds Try.pinned (OpenSpec.ofChange fnSpilledOfWrong)

/-- 'laws.FnBasinSide': WHATEVER THE INPUT: true; the input reads as it did. -/
def fnBasinSideSpec : ChangeSpec := { name := "fnBasinSide", fn := fun _ => fun
  | [d] => { results := [.lit (.bool true)], args := [d] }
  | _ => none }
def fnBasinSideRow : OpenClaim := { program := "ytabkhpeoeihmmaa", sum := "43b684214ea879a167d62dcafcfbde7a6766c017a40ebaa074dfacaa548e7f9b", func := "loop.example/balancedpipes/laws.FnBasinSide", spec := "fnBasinSide", unfollowed := true, recurses := true, apart := false }
def FnBasinSideSaid : Prop := fnBasinSideRow.holds Try.pinned (OpenSpec.ofChange fnBasinSideSpec)

/-- ITS FALSE NEIGHBOUR: 'it returns false'. Refute it at one input. -/
def fnBasinSideWrong : ChangeSpec := { name := "fnBasinSide", fn := fun _ => fun
  | [d] => { results := [.lit (.bool false)], args := [d] }
  | _ => none }
def FnBasinSideWrongFalsely : Prop := fnBasinSideRow.holds Try.pinned (OpenSpec.ofChange fnBasinSideWrong)

/-- 'laws.FnLiftsBound': WHATEVER THE INPUT: true; the input reads as it did. -/
def fnLiftsBoundSpec : ChangeSpec := { name := "fnLiftsBound", fn := fun _ => fun
  | [d] => { results := [.lit (.bool true)], args := [d] }
  | _ => none }
def fnLiftsBoundRow : OpenClaim := { program := "ytabkhpeoeihmmaa", sum := "43b684214ea879a167d62dcafcfbde7a6766c017a40ebaa074dfacaa548e7f9b", func := "loop.example/balancedpipes/laws.FnLiftsBound", spec := "fnLiftsBound", unfollowed := true, recurses := true, apart := false }
def FnLiftsBoundSaid : Prop := fnLiftsBoundRow.holds Try.pinned (OpenSpec.ofChange fnLiftsBoundSpec)

/-- ITS FALSE NEIGHBOUR: 'it returns false'. Refute it at one input. -/
def fnLiftsBoundWrong : ChangeSpec := { name := "fnLiftsBound", fn := fun _ => fun
  | [d] => { results := [.lit (.bool false)], args := [d] }
  | _ => none }
def FnLiftsBoundWrongFalsely : Prop := fnLiftsBoundRow.holds Try.pinned (OpenSpec.ofChange fnLiftsBoundWrong)

/- THE SECOND FORM. 'bulk': how many values and letters a reading holds, each counted each time it is reached (what is shared counts as often as it is met; a slice's spare places count too). A statement '..UptoSaid' is the law's where the arguments, and the package variables that the reading takes, are together of bulk at most 1048576: NARROWER than '..Said'. Prove '..Said' where nothing that the law and all that it calls make is longer than what came in: it says more and counts as full. Else prove '..UptoSaid'. A law counts once. -/
mutual
def uptoBulk {H : Type} : DataW H → Nat
  | .lit (.string bytes) => bytes.length + 1
  | .lit _ => 1
  | .nil => 1
  | .ptr d => uptoBulk d + 1
  | .slice elems spare => uptoBulkAll elems + uptoBulkAll spare + 1
  | .agg parts => uptoBulkAll parts + 1
  | .iface _ d => uptoBulk d + 1
  | .map entries => uptoBulkEntries entries + 1
  | .held _ => 1
def uptoBulkAll {H : Type} : List (DataW H) → Nat
  | [] => 0
  | d :: r => uptoBulk d + uptoBulkAll r
def uptoBulkEntries {H : Type} : List (Lit × DataW H) → Nat
  | [] => 0
  | x :: r => uptoBulkEntry x + uptoBulkEntries r
def uptoBulkEntry {H : Type} : Lit × DataW H → Nat
  | (.string bytes, d) => bytes.length + uptoBulk d + 1
  | (_, d) => uptoBulk d + 1
 end
def uptoSmall : (H : Type) → List (DataW H) → Bool := fun _ ds => decide (uptoBulkAll ds ≤ 1048576)
def OpenSpec.upto (s : _root_.Go.ChangeSpec) : _root_.Go.OpenSpec := { _root_.Go.OpenSpec.ofChange s with cond := some uptoSmall }

/-- 'laws.FnExactBasinOk', WHERE WHAT IT READS IS OF BULK AT MOST 1048576: true; the input reads as it did. -/
def fnExactBasinOkUptoRow : OpenClaim := { program := "ytabkhpeoeihmmaa", sum := "43b684214ea879a167d62dcafcfbde7a6766c017a40ebaa074dfacaa548e7f9b", func := "loop.example/balancedpipes/laws.FnExactBasinOk", spec := "fnExactBasinOk", unfollowed := true, recurses := true, apart := false, narrowed := true }
def FnExactBasinOkUptoSaid : Prop := fnExactBasinOkUptoRow.holds Try.pinned (OpenSpec.upto fnExactBasinOkSpec)

/-- 'laws.FnExactBasinNew', WHERE WHAT IT READS IS OF BULK AT MOST 1048576: true; the input reads as it did. -/
def fnExactBasinNewUptoRow : OpenClaim := { program := "ytabkhpeoeihmmaa", sum := "43b684214ea879a167d62dcafcfbde7a6766c017a40ebaa074dfacaa548e7f9b", func := "loop.example/balancedpipes/laws.FnExactBasinNew", spec := "fnExactBasinNew", unfollowed := true, recurses := true, apart := false, narrowed := true }
def FnExactBasinNewUptoSaid : Prop := fnExactBasinNewUptoRow.holds Try.pinned (OpenSpec.upto fnExactBasinNewSpec)

/-- 'laws.FnExactBasinStep', WHERE WHAT IT READS IS OF BULK AT MOST 1048576: true; the input reads as it did. -/
def fnExactBasinStepUptoRow : OpenClaim := { program := "ytabkhpeoeihmmaa", sum := "43b684214ea879a167d62dcafcfbde7a6766c017a40ebaa074dfacaa548e7f9b", func := "loop.example/balancedpipes/laws.FnExactBasinStep", spec := "fnExactBasinStep", unfollowed := true, recurses := true, apart := false, narrowed := true }
def FnExactBasinStepUptoSaid : Prop := fnExactBasinStepUptoRow.holds Try.pinned (OpenSpec.upto fnExactBasinStepSpec)

/-- 'laws.FnExactBasinRun', WHERE WHAT IT READS IS OF BULK AT MOST 1048576: true; the input reads as it did. -/
def fnExactBasinRunUptoRow : OpenClaim := { program := "ytabkhpeoeihmmaa", sum := "43b684214ea879a167d62dcafcfbde7a6766c017a40ebaa074dfacaa548e7f9b", func := "loop.example/balancedpipes/laws.FnExactBasinRun", spec := "fnExactBasinRun", unfollowed := true, recurses := true, apart := false, narrowed := true }
def FnExactBasinRunUptoSaid : Prop := fnExactBasinRunUptoRow.holds Try.pinned (OpenSpec.upto fnExactBasinRunSpec)

/-- 'laws.FnExactSpilledOf', WHERE WHAT IT READS IS OF BULK AT MOST 1048576: true; the input reads as it did. -/
def fnExactSpilledOfUptoRow : OpenClaim := { program := "ytabkhpeoeihmmaa", sum := "43b684214ea879a167d62dcafcfbde7a6766c017a40ebaa074dfacaa548e7f9b", func := "loop.example/balancedpipes/laws.FnExactSpilledOf", spec := "fnExactSpilledOf", unfollowed := true, recurses := true, apart := false, narrowed := true }
def FnExactSpilledOfUptoSaid : Prop := fnExactSpilledOfUptoRow.holds Try.pinned (OpenSpec.upto fnExactSpilledOfSpec)

/-- 'laws.FnBasinOk', WHERE WHAT IT READS IS OF BULK AT MOST 1048576: true; the input reads as it did. -/
def fnBasinOkUptoRow : OpenClaim := { program := "ytabkhpeoeihmmaa", sum := "43b684214ea879a167d62dcafcfbde7a6766c017a40ebaa074dfacaa548e7f9b", func := "loop.example/balancedpipes/laws.FnBasinOk", spec := "fnBasinOk", unfollowed := true, recurses := true, apart := false, narrowed := true }
def FnBasinOkUptoSaid : Prop := fnBasinOkUptoRow.holds Try.pinned (OpenSpec.upto fnBasinOkSpec)

/-- 'laws.FnBasinNew', WHERE WHAT IT READS IS OF BULK AT MOST 1048576: true; the input reads as it did. -/
def fnBasinNewUptoRow : OpenClaim := { program := "ytabkhpeoeihmmaa", sum := "43b684214ea879a167d62dcafcfbde7a6766c017a40ebaa074dfacaa548e7f9b", func := "loop.example/balancedpipes/laws.FnBasinNew", spec := "fnBasinNew", unfollowed := true, recurses := true, apart := false, narrowed := true }
def FnBasinNewUptoSaid : Prop := fnBasinNewUptoRow.holds Try.pinned (OpenSpec.upto fnBasinNewSpec)

/-- 'laws.FnBasinStep', WHERE WHAT IT READS IS OF BULK AT MOST 1048576: true; the input reads as it did. -/
def fnBasinStepUptoRow : OpenClaim := { program := "ytabkhpeoeihmmaa", sum := "43b684214ea879a167d62dcafcfbde7a6766c017a40ebaa074dfacaa548e7f9b", func := "loop.example/balancedpipes/laws.FnBasinStep", spec := "fnBasinStep", unfollowed := true, recurses := true, apart := false, narrowed := true }
def FnBasinStepUptoSaid : Prop := fnBasinStepUptoRow.holds Try.pinned (OpenSpec.upto fnBasinStepSpec)

/-- 'laws.FnBasinRun', WHERE WHAT IT READS IS OF BULK AT MOST 1048576: true; the input reads as it did. -/
def fnBasinRunUptoRow : OpenClaim := { program := "ytabkhpeoeihmmaa", sum := "43b684214ea879a167d62dcafcfbde7a6766c017a40ebaa074dfacaa548e7f9b", func := "loop.example/balancedpipes/laws.FnBasinRun", spec := "fnBasinRun", unfollowed := true, recurses := true, apart := false, narrowed := true }
def FnBasinRunUptoSaid : Prop := fnBasinRunUptoRow.holds Try.pinned (OpenSpec.upto fnBasinRunSpec)

/-- 'laws.FnSpilledOf', WHERE WHAT IT READS IS OF BULK AT MOST 1048576: true; the input reads as it did. -/
def fnSpilledOfUptoRow : OpenClaim := { program := "ytabkhpeoeihmmaa", sum := "43b684214ea879a167d62dcafcfbde7a6766c017a40ebaa074dfacaa548e7f9b", func := "loop.example/balancedpipes/laws.FnSpilledOf", spec := "fnSpilledOf", unfollowed := true, recurses := true, apart := false, narrowed := true }
def FnSpilledOfUptoSaid : Prop := fnSpilledOfUptoRow.holds Try.pinned (OpenSpec.upto fnSpilledOfSpec)

/-- 'laws.FnBasinSide', WHERE WHAT IT READS IS OF BULK AT MOST 1048576: true; the input reads as it did. -/
def fnBasinSideUptoRow : OpenClaim := { program := "ytabkhpeoeihmmaa", sum := "43b684214ea879a167d62dcafcfbde7a6766c017a40ebaa074dfacaa548e7f9b", func := "loop.example/balancedpipes/laws.FnBasinSide", spec := "fnBasinSide", unfollowed := true, recurses := true, apart := false, narrowed := true }
def FnBasinSideUptoSaid : Prop := fnBasinSideUptoRow.holds Try.pinned (OpenSpec.upto fnBasinSideSpec)

/-- 'laws.FnLiftsBound', WHERE WHAT IT READS IS OF BULK AT MOST 1048576: true; the input reads as it did. -/
def fnLiftsBoundUptoRow : OpenClaim := { program := "ytabkhpeoeihmmaa", sum := "43b684214ea879a167d62dcafcfbde7a6766c017a40ebaa074dfacaa548e7f9b", func := "loop.example/balancedpipes/laws.FnLiftsBound", spec := "fnLiftsBound", unfollowed := true, recurses := true, apart := false, narrowed := true }
def FnLiftsBoundUptoSaid : Prop := fnLiftsBoundUptoRow.holds Try.pinned (OpenSpec.upto fnLiftsBoundSpec)

end Rows
end Go.Proofs.Ytabkhpeoeihmmaa
