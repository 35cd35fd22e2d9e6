/-
  No cell of these rows narrows 'for every input' (looked for: loops, veiled, ifaces, maps, wideKeys, modest, calm, conditions, laid).
  DERIVED. THE GIVEN ROWS OF THIS SEAT. 6 by the template 'for every input the law returns true; each argument reads behind the call as it read before'; 0 by the template 'total and deterministic' (their statements: YtdbfpdanoclgmaaTotals.lean).
  GIVEN WITH THE SEED: the statements are not yours to turn. If you find one false, say at which input.
  Laid BY PROGRAM, IN A SANDBOX (cutbox-rows.mjs): the forced cells as the released guide's own fill.sh prints them over the translation e8389effa482b64e… (all of the seat's roots in one cut). By AI agents, Wed Nov 11 2026. No macro, syntax, notation, axiom, sorry.
-/
import Derived.Test.YtdbfpdanoclgmaaChecked
import GoSem.Claim
import GoSem.ClaimJoined
import GoSem.ClaimMapViews
import Derived.JoinedTies
import Derived.KernelRfl
namespace Go.Proofs.Ytdbfpdanoclgmaa
/- THE CELL 'sum', in the pinned program and in every row, IS THE sha256 OF THE DUMP (.gsa) THAT YtdbfpdanoclgmaaProg.lean LOADS. Nothing in Lean hashes anything: it is a label: what it is worth is what the hold of that sum in a sandbox is worth. -/
noncomputable def Try.pinned : Pinned := { name := "ytdbfpdanoclgmaa", sum := "e8389effa482b64e5f9b9e64e7952c73dab5f2cb08b337a0235c991c5321bbc0", checked := Try.checked }
namespace Rows
def none {H : Type} : Left H := { results := [], args := [] }

/-- 'laws.FnExactUnitNet': WHATEVER THE INPUT: true; the input reads as it did. -/
def fnExactUnitNetSpec : ChangeSpec := { name := "fnExactUnitNet", fn := fun _ => fun
  | [d] => { results := [.lit (.bool true)], args := [d] }
  | _ => none }
def fnExactUnitNetRow : OpenClaim := { program := "ytdbfpdanoclgmaa", sum := "e8389effa482b64e5f9b9e64e7952c73dab5f2cb08b337a0235c991c5321bbc0", func := "loop.example/balancedpipes/laws.FnExactUnitNet", spec := "fnExactUnitNet", unfollowed := true, recurses := true, apart := false }
def FnExactUnitNetSaid : Prop := fnExactUnitNetRow.holds Try.pinned (OpenSpec.ofChange fnExactUnitNetSpec)

/-- ITS FALSE NEIGHBOUR: 'it returns false'. Refute it at one input. -/
def fnExactUnitNetWrong : ChangeSpec := { name := "fnExactUnitNet", fn := fun _ => fun
  | [d] => { results := [.lit (.bool false)], args := [d] }
  | _ => none }
def FnExactUnitNetWrongFalsely : Prop := fnExactUnitNetRow.holds Try.pinned (OpenSpec.ofChange fnExactUnitNetWrong)

/-- 'laws.FnExactWithoutPipes': WHATEVER THE INPUT: true; the input reads as it did. -/
def fnExactWithoutPipesSpec : ChangeSpec := { name := "fnExactWithoutPipes", fn := fun _ => fun
  | [d1, d2] => { results := [.lit (.bool true)], args := [d1, d2] }
  | _ => none }
def fnExactWithoutPipesRow : OpenClaim := { program := "ytdbfpdanoclgmaa", sum := "e8389effa482b64e5f9b9e64e7952c73dab5f2cb08b337a0235c991c5321bbc0", func := "loop.example/balancedpipes/laws.FnExactWithoutPipes", spec := "fnExactWithoutPipes", unfollowed := true, recurses := true, apart := false }
def FnExactWithoutPipesSaid : Prop := fnExactWithoutPipesRow.holds Try.pinned (OpenSpec.ofChange fnExactWithoutPipesSpec)

/-- ITS FALSE NEIGHBOUR: 'it returns false'. Refute it at one input. -/
def fnExactWithoutPipesWrong : ChangeSpec := { name := "fnExactWithoutPipes", fn := fun _ => fun
  | [d1, d2] => { results := [.lit (.bool false)], args := [d1, d2] }
  | _ => none }
def FnExactWithoutPipesWrongFalsely : Prop := fnExactWithoutPipesRow.holds Try.pinned (OpenSpec.ofChange fnExactWithoutPipesWrong)

/-- 'laws.FnExactFewestBlocks': WHATEVER THE INPUT: true; the input reads as it did. -/
def fnExactFewestBlocksSpec : ChangeSpec := { name := "fnExactFewestBlocks", fn := fun _ => fun
  | [d1, d2, d3] => { results := [.lit (.bool true)], args := [d1, d2, d3] }
  | _ => none }
def fnExactFewestBlocksRow : OpenClaim := { program := "ytdbfpdanoclgmaa", sum := "e8389effa482b64e5f9b9e64e7952c73dab5f2cb08b337a0235c991c5321bbc0", func := "loop.example/balancedpipes/laws.FnExactFewestBlocks", spec := "fnExactFewestBlocks", unfollowed := true, recurses := true, apart := false }
def FnExactFewestBlocksSaid : Prop := fnExactFewestBlocksRow.holds Try.pinned (OpenSpec.ofChange fnExactFewestBlocksSpec)

/-- ITS FALSE NEIGHBOUR: 'it returns false'. Refute it at one input. -/
def fnExactFewestBlocksWrong : ChangeSpec := { name := "fnExactFewestBlocks", fn := fun _ => fun
  | [d1, d2, d3] => { results := [.lit (.bool false)], args := [d1, d2, d3] }
  | _ => none }
def FnExactFewestBlocksWrongFalsely : Prop := fnExactFewestBlocksRow.holds Try.pinned (OpenSpec.ofChange fnExactFewestBlocksWrong)

/-- 'laws.FnUnitNet': WHATEVER THE INPUT: true; the input reads as it did. -/
def fnUnitNetSpec : ChangeSpec := { name := "fnUnitNet", fn := fun _ => fun
  | [d] => { results := [.lit (.bool true)], args := [d] }
  | _ => none }
def fnUnitNetRow : OpenClaim := { program := "ytdbfpdanoclgmaa", sum := "e8389effa482b64e5f9b9e64e7952c73dab5f2cb08b337a0235c991c5321bbc0", func := "loop.example/balancedpipes/laws.FnUnitNet", spec := "fnUnitNet", unfollowed := true, recurses := true, apart := false }
def FnUnitNetSaid : Prop := fnUnitNetRow.holds Try.pinned (OpenSpec.ofChange fnUnitNetSpec)

/-- ITS FALSE NEIGHBOUR: 'it returns false'. Refute it at one input. -/
def fnUnitNetWrong : ChangeSpec := { name := "fnUnitNet", fn := fun _ => fun
  | [d] => { results := [.lit (.bool false)], args := [d] }
  | _ => none }
def FnUnitNetWrongFalsely : Prop := fnUnitNetRow.holds Try.pinned (OpenSpec.ofChange fnUnitNetWrong)

/-- 'laws.FnWithoutPipes': WHATEVER THE INPUT: true; the input reads as it did. -/
def fnWithoutPipesSpec : ChangeSpec := { name := "fnWithoutPipes", fn := fun _ => fun
  | [d] => { results := [.lit (.bool true)], args := [d] }
  | _ => none }
def fnWithoutPipesRow : OpenClaim := { program := "ytdbfpdanoclgmaa", sum := "e8389effa482b64e5f9b9e64e7952c73dab5f2cb08b337a0235c991c5321bbc0", func := "loop.example/balancedpipes/laws.FnWithoutPipes", spec := "fnWithoutPipes", unfollowed := true, recurses := true, apart := false }
def FnWithoutPipesSaid : Prop := fnWithoutPipesRow.holds Try.pinned (OpenSpec.ofChange fnWithoutPipesSpec)

/-- ITS FALSE NEIGHBOUR: 'it returns false'. Refute it at one input. -/
def fnWithoutPipesWrong : ChangeSpec := { name := "fnWithoutPipes", fn := fun _ => fun
  | [d] => { results := [.lit (.bool false)], args := [d] }
  | _ => none }
def FnWithoutPipesWrongFalsely : Prop := fnWithoutPipesRow.holds Try.pinned (OpenSpec.ofChange fnWithoutPipesWrong)

/-- 'laws.FnThreadsUnit': WHATEVER THE INPUT: true; the input reads as it did. -/
def fnThreadsUnitSpec : ChangeSpec := { name := "fnThreadsUnit", fn := fun _ => fun
  | [d] => { results := [.lit (.bool true)], args := [d] }
  | _ => none }
def fnThreadsUnitRow : OpenClaim := { program := "ytdbfpdanoclgmaa", sum := "e8389effa482b64e5f9b9e64e7952c73dab5f2cb08b337a0235c991c5321bbc0", func := "loop.example/balancedpipes/laws.FnThreadsUnit", spec := "fnThreadsUnit", unfollowed := true, recurses := true, apart := false }
def FnThreadsUnitSaid : Prop := fnThreadsUnitRow.holds Try.pinned (OpenSpec.ofChange fnThreadsUnitSpec)

/-- ITS FALSE NEIGHBOUR: 'it returns false'. Refute it at one input. -/
def fnThreadsUnitWrong : ChangeSpec := { name := "fnThreadsUnit", fn := fun _ => fun
  | [d] => { results := [.lit (.bool false)], args := [d] }
  | _ => none }
def FnThreadsUnitWrongFalsely : Prop := fnThreadsUnitRow.holds Try.pinned (OpenSpec.ofChange fnThreadsUnitWrong)

/- THE SECOND FORM. 'bulk': how many values and letters a reading holds, each counted each time it is reached (what is shared counts as often as it is met; a slice's spare places count too). A statement '..UptoSaid' is the law's where the arguments, and the package variables that the reading takes, are together of bulk at most 1048576: NARROWER than '..Said'. Prove '..Said' where nothing that the law and all that it calls make is longer than what came in: it says more and counts as full. Else prove '..UptoSaid'. A law counts once. -/
mutual
def uptoBulk {H : Type} : DataW H → Nat
  | .lit (.string bytes) => bytes.length + 1
  | .lit _ => 1
  | .nil => 1
  | .ptr d => uptoBulk d + 1
  | .slice elems spare => uptoBulkAll elems + uptoBulkAll spare + 1
  | .agg parts => uptoBulkAll parts + 1
  | .iface _ d => uptoBulk d + 1
  | .map entries => uptoBulkEntries entries + 1
  | .held _ => 1
def uptoBulkAll {H : Type} : List (DataW H) → Nat
  | [] => 0
  | d :: r => uptoBulk d + uptoBulkAll r
def uptoBulkEntries {H : Type} : List (Lit × DataW H) → Nat
  | [] => 0
  | x :: r => uptoBulkEntry x + uptoBulkEntries r
def uptoBulkEntry {H : Type} : Lit × DataW H → Nat
  | (.string bytes, d) => bytes.length + uptoBulk d + 1
  | (_, d) => uptoBulk d + 1
 end
def uptoSmall : (H : Type) → List (DataW H) → Bool := fun _ ds => decide (uptoBulkAll ds ≤ 1048576)
def OpenSpec.upto (s : _root_.Go.ChangeSpec) : _root_.Go.OpenSpec := { _root_.Go.OpenSpec.ofChange s with cond := some uptoSmall }

/-- 'laws.FnExactUnitNet', WHERE WHAT IT READS IS OF BULK AT MOST 1048576: true; the input reads as it did. -/
def fnExactUnitNetUptoRow : OpenClaim := { program := "ytdbfpdanoclgmaa", sum := "e8389effa482b64e5f9b9e64e7952c73dab5f2cb08b337a0235c991c5321bbc0", func := "loop.example/balancedpipes/laws.FnExactUnitNet", spec := "fnExactUnitNet", unfollowed := true, recurses := true, apart := false, narrowed := true }
def FnExactUnitNetUptoSaid : Prop := fnExactUnitNetUptoRow.holds Try.pinned (OpenSpec.upto fnExactUnitNetSpec)

/-- 'laws.FnExactWithoutPipes', WHERE WHAT IT READS IS OF BULK AT MOST 1048576: true; the input reads as it did. -/
def fnExactWithoutPipesUptoRow : OpenClaim := { program := "ytdbfpdanoclgmaa", sum := "e8389effa482b64e5f9b9e64e7952c73dab5f2cb08b337a0235c991c5321bbc0", func := "loop.example/balancedpipes/laws.FnExactWithoutPipes", spec := "fnExactWithoutPipes", unfollowed := true, recurses := true, apart := false, narrowed := true }
def FnExactWithoutPipesUptoSaid : Prop := fnExactWithoutPipesUptoRow.holds Try.pinned (OpenSpec.upto fnExactWithoutPipesSpec)

/-- 'laws.FnExactFewestBlocks', WHERE WHAT IT READS IS OF BULK AT MOST 1048576: true; the input reads as it did. -/
def fnExactFewestBlocksUptoRow : OpenClaim := { program := "ytdbfpdanoclgmaa", sum := "e8389effa482b64e5f9b9e64e7952c73dab5f2cb08b337a0235c991c5321bbc0", func := "loop.example/balancedpipes/laws.FnExactFewestBlocks", spec := "fnExactFewestBlocks", unfollowed := true, recurses := true, apart := false, narrowed := true }
def FnExactFewestBlocksUptoSaid : Prop := fnExactFewestBlocksUptoRow.holds Try.pinned (OpenSpec.upto fnExactFewestBlocksSpec)

/-- 'laws.FnUnitNet', WHERE WHAT IT READS IS OF BULK AT MOST 1048576: true; the input reads as it did. -/
def fnUnitNetUptoRow : OpenClaim := { program := "ytdbfpdanoclgmaa", sum := "e8389effa482b64e5f9b9e64e7952c73dab5f2cb08b337a0235c991c5321bbc0", func := "loop.example/balancedpipes/laws.FnUnitNet", spec := "fnUnitNet", unfollowed := true, recurses := true, apart := false, narrowed := true }
def FnUnitNetUptoSaid : Prop := fnUnitNetUptoRow.holds Try.pinned (OpenSpec.upto fnUnitNetSpec)

/-- 'laws.FnWithoutPipes', WHERE WHAT IT READS IS OF BULK AT MOST 1048576: true; the input reads as it did. -/
def fnWithoutPipesUptoRow : OpenClaim := { program := "ytdbfpdanoclgmaa", sum := "e8389effa482b64e5f9b9e64e7952c73dab5f2cb08b337a0235c991c5321bbc0", func := "loop.example/balancedpipes/laws.FnWithoutPipes", spec := "fnWithoutPipes", unfollowed := true, recurses := true, apart := false, narrowed := true }
def FnWithoutPipesUptoSaid : Prop := fnWithoutPipesUptoRow.holds Try.pinned (OpenSpec.upto fnWithoutPipesSpec)

/-- 'laws.FnThreadsUnit', WHERE WHAT IT READS IS OF BULK AT MOST 1048576: true; the input reads as it did. -/
def fnThreadsUnitUptoRow : OpenClaim := { program := "ytdbfpdanoclgmaa", sum := "e8389effa482b64e5f9b9e64e7952c73dab5f2cb08b337a0235c991c5321bbc0", func := "loop.example/balancedpipes/laws.FnThreadsUnit", spec := "fnThreadsUnit", unfollowed := true, recurses := true, apart := false, narrowed := true }
def FnThreadsUnitUptoSaid : Prop := fnThreadsUnitUptoRow.holds Try.pinned (OpenSpec.upto fnThreadsUnitSpec)

end Rows
end Go.Proofs.Ytdbfpdanoclgmaa
