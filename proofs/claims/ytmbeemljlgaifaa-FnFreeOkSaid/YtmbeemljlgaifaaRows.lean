/-
  No cell of these rows narrows 'for every input' (looked for: loops, veiled, ifaces, maps, wideKeys, modest, calm, conditions, laid).
  DERIVED. THE GIVEN ROWS OF THIS SEAT. 7 by the template 'for every input the law returns true; each argument reads behind the call as it read before'; 0 by the template 'total and deterministic' (their statements: YtmbeemljlgaifaaTotals.lean).
  GIVEN WITH THE SEED: the statements are not yours to turn. If you find one false, say at which input.
  Laid BY PROGRAM, IN A SANDBOX (cutbox-rows.mjs): the forced cells as the released guide's own fill.sh prints them over the translation 3c1303b217a8f4e8… (all of the seat's roots in one cut). By AI agents, Wed Nov 11 2026. No macro, syntax, notation, axiom, sorry.
-/
import Derived.Test.YtmbeemljlgaifaaChecked
import GoSem.Claim
import GoSem.ClaimJoined
import GoSem.ClaimMapViews
import Derived.JoinedTies
import Derived.KernelRfl
namespace Go.Proofs.Ytmbeemljlgaifaa
/- THE CELL 'sum', in the pinned program and in every row, IS THE sha256 OF THE DUMP (.gsa) THAT YtmbeemljlgaifaaProg.lean LOADS. Nothing in Lean hashes anything: it is a label: what it is worth is what the hold of that sum in a sandbox is worth. -/
noncomputable def Try.pinned : Pinned := { name := "ytmbeemljlgaifaa", sum := "3c1303b217a8f4e8e681f323d7102fb10cf6ee2cdf64959972a9654fe68bd7a6", checked := Try.checked }
namespace Rows
def none {H : Type} : Left H := { results := [], args := [] }

/-- 'laws.FnRoomOf': WHATEVER THE INPUT: true; the input reads as it did. -/
def fnRoomOfSpec : ChangeSpec := { name := "fnRoomOf", fn := fun _ => fun
  | [d1, d2] => { results := [.lit (.bool true)], args := [d1, d2] }
  | _ => none }
def fnRoomOfRow : OpenClaim := { program := "ytmbeemljlgaifaa", sum := "3c1303b217a8f4e8e681f323d7102fb10cf6ee2cdf64959972a9654fe68bd7a6", func := "loop.example/balancedpipes/laws.FnRoomOf", spec := "fnRoomOf", unfollowed := true, recurses := true, apart := false }
def FnRoomOfSaid : Prop := fnRoomOfRow.holds Try.pinned (OpenSpec.ofChange fnRoomOfSpec)

/-- ITS FALSE NEIGHBOUR: 'it returns false'. Refute it at one input. -/
def fnRoomOfWrong : ChangeSpec := { name := "fnRoomOf", fn := fun _ => fun
  | [d1, d2] => { results := [.lit (.bool false)], args := [d1, d2] }
  | _ => none }
def FnRoomOfWrongFalsely : Prop := fnRoomOfRow.holds Try.pinned (OpenSpec.ofChange fnRoomOfWrong)

/-- 'laws.FnLeavingOf': WHATEVER THE INPUT: true; the input reads as it did. -/
def fnLeavingOfSpec : ChangeSpec := { name := "fnLeavingOf", fn := fun _ => fun
  | [d] => { results := [.lit (.bool true)], args := [d] }
  | _ => none }
def fnLeavingOfRow : OpenClaim := { program := "ytmbeemljlgaifaa", sum := "3c1303b217a8f4e8e681f323d7102fb10cf6ee2cdf64959972a9654fe68bd7a6", func := "loop.example/balancedpipes/laws.FnLeavingOf", spec := "fnLeavingOf", unfollowed := true, recurses := true, apart := false }
def FnLeavingOfSaid : Prop := fnLeavingOfRow.holds Try.pinned (OpenSpec.ofChange fnLeavingOfSpec)

/-- ITS FALSE NEIGHBOUR: 'it returns false'. Refute it at one input. -/
def fnLeavingOfWrong : ChangeSpec := { name := "fnLeavingOf", fn := fun _ => fun
  | [d] => { results := [.lit (.bool false)], args := [d] }
  | _ => none }
def FnLeavingOfWrongFalsely : Prop := fnLeavingOfRow.holds Try.pinned (OpenSpec.ofChange fnLeavingOfWrong)

/-- 'laws.FnLeastRoom': WHATEVER THE INPUT: true; the input reads as it did. -/
def fnLeastRoomSpec : ChangeSpec := { name := "fnLeastRoom", fn := fun _ => fun
  | [d] => { results := [.lit (.bool true)], args := [d] }
  | _ => none }
def fnLeastRoomRow : OpenClaim := { program := "ytmbeemljlgaifaa", sum := "3c1303b217a8f4e8e681f323d7102fb10cf6ee2cdf64959972a9654fe68bd7a6", func := "loop.example/balancedpipes/laws.FnLeastRoom", spec := "fnLeastRoom", unfollowed := true, recurses := true, apart := false }
def FnLeastRoomSaid : Prop := fnLeastRoomRow.holds Try.pinned (OpenSpec.ofChange fnLeastRoomSpec)

/-- ITS FALSE NEIGHBOUR: 'it returns false'. Refute it at one input. -/
def fnLeastRoomWrong : ChangeSpec := { name := "fnLeastRoom", fn := fun _ => fun
  | [d] => { results := [.lit (.bool false)], args := [d] }
  | _ => none }
def FnLeastRoomWrongFalsely : Prop := fnLeastRoomRow.holds Try.pinned (OpenSpec.ofChange fnLeastRoomWrong)

/-- 'laws.FnNarrowestOf': WHATEVER THE INPUT: true; the input reads as it did. -/
def fnNarrowestOfSpec : ChangeSpec := { name := "fnNarrowestOf", fn := fun _ => fun
  | [d] => { results := [.lit (.bool true)], args := [d] }
  | _ => none }
def fnNarrowestOfRow : OpenClaim := { program := "ytmbeemljlgaifaa", sum := "3c1303b217a8f4e8e681f323d7102fb10cf6ee2cdf64959972a9654fe68bd7a6", func := "loop.example/balancedpipes/laws.FnNarrowestOf", spec := "fnNarrowestOf", unfollowed := true, recurses := true, apart := false }
def FnNarrowestOfSaid : Prop := fnNarrowestOfRow.holds Try.pinned (OpenSpec.ofChange fnNarrowestOfSpec)

/-- ITS FALSE NEIGHBOUR: 'it returns false'. Refute it at one input. -/
def fnNarrowestOfWrong : ChangeSpec := { name := "fnNarrowestOf", fn := fun _ => fun
  | [d] => { results := [.lit (.bool false)], args := [d] }
  | _ => none }
def FnNarrowestOfWrongFalsely : Prop := fnNarrowestOfRow.holds Try.pinned (OpenSpec.ofChange fnNarrowestOfWrong)

/-- 'laws.FnBothWays': WHATEVER THE INPUT: true; the input reads as it did. -/
def fnBothWaysSpec : ChangeSpec := { name := "fnBothWays", fn := fun _ => fun
  | [d] => { results := [.lit (.bool true)], args := [d] }
  | _ => none }
def fnBothWaysRow : OpenClaim := { program := "ytmbeemljlgaifaa", sum := "3c1303b217a8f4e8e681f323d7102fb10cf6ee2cdf64959972a9654fe68bd7a6", func := "loop.example/balancedpipes/laws.FnBothWays", spec := "fnBothWays", unfollowed := true, recurses := true, apart := false }
def FnBothWaysSaid : Prop := fnBothWaysRow.holds Try.pinned (OpenSpec.ofChange fnBothWaysSpec)

/-- ITS FALSE NEIGHBOUR: 'it returns false'. Refute it at one input. -/
def fnBothWaysWrong : ChangeSpec := { name := "fnBothWays", fn := fun _ => fun
  | [d] => { results := [.lit (.bool false)], args := [d] }
  | _ => none }
def FnBothWaysWrongFalsely : Prop := fnBothWaysRow.holds Try.pinned (OpenSpec.ofChange fnBothWaysWrong)

/-- 'laws.FnNarrowestTurned': WHATEVER THE INPUT: true; the input reads as it did. -/
def fnNarrowestTurnedSpec : ChangeSpec := { name := "fnNarrowestTurned", fn := fun _ => fun
  | [d] => { results := [.lit (.bool true)], args := [d] }
  | _ => none }
def fnNarrowestTurnedRow : OpenClaim := { program := "ytmbeemljlgaifaa", sum := "3c1303b217a8f4e8e681f323d7102fb10cf6ee2cdf64959972a9654fe68bd7a6", func := "loop.example/balancedpipes/laws.FnNarrowestTurned", spec := "fnNarrowestTurned", unfollowed := true, recurses := true, apart := false }
def FnNarrowestTurnedSaid : Prop := fnNarrowestTurnedRow.holds Try.pinned (OpenSpec.ofChange fnNarrowestTurnedSpec)

/-- ITS FALSE NEIGHBOUR: 'it returns false'. Refute it at one input. -/
def fnNarrowestTurnedWrong : ChangeSpec := { name := "fnNarrowestTurned", fn := fun _ => fun
  | [d] => { results := [.lit (.bool false)], args := [d] }
  | _ => none }
def FnNarrowestTurnedWrongFalsely : Prop := fnNarrowestTurnedRow.holds Try.pinned (OpenSpec.ofChange fnNarrowestTurnedWrong)

/-- 'laws.FnFreeOk': WHATEVER THE INPUT: true; the input reads as it did. -/
def fnFreeOkSpec : ChangeSpec := { name := "fnFreeOk", fn := fun _ => fun
  | [d] => { results := [.lit (.bool true)], args := [d] }
  | _ => none }
def fnFreeOkRow : OpenClaim := { program := "ytmbeemljlgaifaa", sum := "3c1303b217a8f4e8e681f323d7102fb10cf6ee2cdf64959972a9654fe68bd7a6", func := "loop.example/balancedpipes/laws.FnFreeOk", spec := "fnFreeOk", unfollowed := true, recurses := true, apart := false }
def FnFreeOkSaid : Prop := fnFreeOkRow.holds Try.pinned (OpenSpec.ofChange fnFreeOkSpec)

/-- ITS FALSE NEIGHBOUR: 'it returns false'. Refute it at one input. -/
def fnFreeOkWrong : ChangeSpec := { name := "fnFreeOk", fn := fun _ => fun
  | [d] => { results := [.lit (.bool false)], args := [d] }
  | _ => none }
def FnFreeOkWrongFalsely : Prop := fnFreeOkRow.holds Try.pinned (OpenSpec.ofChange fnFreeOkWrong)

/- THE SECOND FORM. 'bulk': how many values and letters a reading holds, each counted each time it is reached (what is shared counts as often as it is met; a slice's spare places count too). A statement '..UptoSaid' is the law's where the arguments, and the package variables that the reading takes, are together of bulk at most 1048576: NARROWER than '..Said'. Prove '..Said' where nothing that the law and all that it calls make is longer than what came in: it says more and counts as full. Else prove '..UptoSaid'. A law counts once. -/
mutual
def uptoBulk {H : Type} : DataW H → Nat
  | .lit (.string bytes) => bytes.length + 1
  | .lit _ => 1
  | .nil => 1
  | .ptr d => uptoBulk d + 1
  | .slice elems spare => uptoBulkAll elems + uptoBulkAll spare + 1
  | .agg parts => uptoBulkAll parts + 1
  | .iface _ d => uptoBulk d + 1
  | .map entries => uptoBulkEntries entries + 1
  | .held _ => 1
def uptoBulkAll {H : Type} : List (DataW H) → Nat
  | [] => 0
  | d :: r => uptoBulk d + uptoBulkAll r
def uptoBulkEntries {H : Type} : List (Lit × DataW H) → Nat
  | [] => 0
  | x :: r => uptoBulkEntry x + uptoBulkEntries r
def uptoBulkEntry {H : Type} : Lit × DataW H → Nat
  | (.string bytes, d) => bytes.length + uptoBulk d + 1
  | (_, d) => uptoBulk d + 1
 end
def uptoSmall : (H : Type) → List (DataW H) → Bool := fun _ ds => decide (uptoBulkAll ds ≤ 1048576)
def OpenSpec.upto (s : _root_.Go.ChangeSpec) : _root_.Go.OpenSpec := { _root_.Go.OpenSpec.ofChange s with cond := some uptoSmall }

/-- 'laws.FnRoomOf', WHERE WHAT IT READS IS OF BULK AT MOST 1048576: true; the input reads as it did. -/
def fnRoomOfUptoRow : OpenClaim := { program := "ytmbeemljlgaifaa", sum := "3c1303b217a8f4e8e681f323d7102fb10cf6ee2cdf64959972a9654fe68bd7a6", func := "loop.example/balancedpipes/laws.FnRoomOf", spec := "fnRoomOf", unfollowed := true, recurses := true, apart := false, narrowed := true }
def FnRoomOfUptoSaid : Prop := fnRoomOfUptoRow.holds Try.pinned (OpenSpec.upto fnRoomOfSpec)

/-- 'laws.FnLeavingOf', WHERE WHAT IT READS IS OF BULK AT MOST 1048576: true; the input reads as it did. -/
def fnLeavingOfUptoRow : OpenClaim := { program := "ytmbeemljlgaifaa", sum := "3c1303b217a8f4e8e681f323d7102fb10cf6ee2cdf64959972a9654fe68bd7a6", func := "loop.example/balancedpipes/laws.FnLeavingOf", spec := "fnLeavingOf", unfollowed := true, recurses := true, apart := false, narrowed := true }
def FnLeavingOfUptoSaid : Prop := fnLeavingOfUptoRow.holds Try.pinned (OpenSpec.upto fnLeavingOfSpec)

/-- 'laws.FnLeastRoom', WHERE WHAT IT READS IS OF BULK AT MOST 1048576: true; the input reads as it did. -/
def fnLeastRoomUptoRow : OpenClaim := { program := "ytmbeemljlgaifaa", sum := "3c1303b217a8f4e8e681f323d7102fb10cf6ee2cdf64959972a9654fe68bd7a6", func := "loop.example/balancedpipes/laws.FnLeastRoom", spec := "fnLeastRoom", unfollowed := true, recurses := true, apart := false, narrowed := true }
def FnLeastRoomUptoSaid : Prop := fnLeastRoomUptoRow.holds Try.pinned (OpenSpec.upto fnLeastRoomSpec)

/-- 'laws.FnNarrowestOf', WHERE WHAT IT READS IS OF BULK AT MOST 1048576: true; the input reads as it did. -/
def fnNarrowestOfUptoRow : OpenClaim := { program := "ytmbeemljlgaifaa", sum := "3c1303b217a8f4e8e681f323d7102fb10cf6ee2cdf64959972a9654fe68bd7a6", func := "loop.example/balancedpipes/laws.FnNarrowestOf", spec := "fnNarrowestOf", unfollowed := true, recurses := true, apart := false, narrowed := true }
def FnNarrowestOfUptoSaid : Prop := fnNarrowestOfUptoRow.holds Try.pinned (OpenSpec.upto fnNarrowestOfSpec)

/-- 'laws.FnBothWays', WHERE WHAT IT READS IS OF BULK AT MOST 1048576: true; the input reads as it did. -/
def fnBothWaysUptoRow : OpenClaim := { program := "ytmbeemljlgaifaa", sum := "3c1303b217a8f4e8e681f323d7102fb10cf6ee2cdf64959972a9654fe68bd7a6", func := "loop.example/balancedpipes/laws.FnBothWays", spec := "fnBothWays", unfollowed := true, recurses := true, apart := false, narrowed := true }
def FnBothWaysUptoSaid : Prop := fnBothWaysUptoRow.holds Try.pinned (OpenSpec.upto fnBothWaysSpec)

/-- 'laws.FnNarrowestTurned', WHERE WHAT IT READS IS OF BULK AT MOST 1048576: true; the input reads as it did. -/
def fnNarrowestTurnedUptoRow : OpenClaim := { program := "ytmbeemljlgaifaa", sum := "3c1303b217a8f4e8e681f323d7102fb10cf6ee2cdf64959972a9654fe68bd7a6", func := "loop.example/balancedpipes/laws.FnNarrowestTurned", spec := "fnNarrowestTurned", unfollowed := true, recurses := true, apart := false, narrowed := true }
def FnNarrowestTurnedUptoSaid : Prop := fnNarrowestTurnedUptoRow.holds Try.pinned (OpenSpec.upto fnNarrowestTurnedSpec)

/-- 'laws.FnFreeOk', WHERE WHAT IT READS IS OF BULK AT MOST 1048576: true; the input reads as it did. -/
def fnFreeOkUptoRow : OpenClaim := { program := "ytmbeemljlgaifaa", sum := "3c1303b217a8f4e8e681f323d7102fb10cf6ee2cdf64959972a9654fe68bd7a6", func := "loop.example/balancedpipes/laws.FnFreeOk", spec := "fnFreeOk", unfollowed := true, recurses := true, apart := false, narrowed := true }
def FnFreeOkUptoSaid : Prop := fnFreeOkUptoRow.holds Try.pinned (OpenSpec.upto fnFreeOkSpec)

end Rows
end Go.Proofs.Ytmbeemljlgaifaa
