/-
  No cell of these rows narrows 'for every input' (looked for: loops, veiled, ifaces, maps, wideKeys, modest, calm, conditions, laid).
  DERIVED. THE GIVEN ROWS OF THIS SEAT. 6 by the template 'for every input the law returns true; each argument reads behind the call as it read before'; 0 by the template 'total and deterministic' (their statements: YtenpplglanbooaaTotals.lean).
  GIVEN WITH THE SEED: the statements are not yours to turn. If you find one false, say at which input.
  Laid BY PROGRAM, IN A SANDBOX (cutbox-rows.mjs): the forced cells as the released guide's own fill.sh prints them over the translation 61f4cd877ea2f529… (all of the seat's roots in one cut). By AI agents, Wed Nov 11 2026. No macro, syntax, notation, axiom, sorry.
-/
import Derived.Test.YtenpplglanbooaaChecked
import GoSem.Claim
import GoSem.ClaimJoined
import GoSem.ClaimMapViews
import Derived.JoinedTies
import Derived.KernelRfl
namespace Go.Proofs.Ytenpplglanbooaa
/- THE CELL 'sum', in the pinned program and in every row, IS THE sha256 OF THE DUMP (.gsa) THAT YtenpplglanbooaaProg.lean LOADS. Nothing in Lean hashes anything: it is a label: what it is worth is what the hold of that sum in a sandbox is worth. -/
noncomputable def Try.pinned : Pinned := { name := "ytenpplglanbooaa", sum := "61f4cd877ea2f529e9a27c0a7e285b3c5a75e47fde3aac30a5a9c99f2c80a508", checked := Try.checked }
namespace Rows
def none {H : Type} : Left H := { results := [], args := [] }

/-- 'laws.FnNeedsOk': WHATEVER THE INPUT: true; the input reads as it did. -/
def fnNeedsOkSpec : ChangeSpec := { name := "fnNeedsOk", fn := fun _ => fun
  | [d] => { results := [.lit (.bool true)], args := [d] }
  | _ => none }
def fnNeedsOkRow : OpenClaim := { program := "ytenpplglanbooaa", sum := "61f4cd877ea2f529e9a27c0a7e285b3c5a75e47fde3aac30a5a9c99f2c80a508", func := "loop.example/balancedpipes/laws.FnNeedsOk", spec := "fnNeedsOk", unfollowed := true, recurses := true, apart := false }
def FnNeedsOkSaid : Prop := fnNeedsOkRow.holds Try.pinned (OpenSpec.ofChange fnNeedsOkSpec)

/-- ITS FALSE NEIGHBOUR: 'it returns false'. Refute it at one input. -/
def fnNeedsOkWrong : ChangeSpec := { name := "fnNeedsOk", fn := fun _ => fun
  | [d] => { results := [.lit (.bool false)], args := [d] }
  | _ => none }
def FnNeedsOkWrongFalsely : Prop := fnNeedsOkRow.holds Try.pinned (OpenSpec.ofChange fnNeedsOkWrong)

/-- 'laws.FnFeedsOk': WHATEVER THE INPUT: true; the input reads as it did. -/
def fnFeedsOkSpec : ChangeSpec := { name := "fnFeedsOk", fn := fun _ => fun
  | [d] => { results := [.lit (.bool true)], args := [d] }
  | _ => none }
def fnFeedsOkRow : OpenClaim := { program := "ytenpplglanbooaa", sum := "61f4cd877ea2f529e9a27c0a7e285b3c5a75e47fde3aac30a5a9c99f2c80a508", func := "loop.example/balancedpipes/laws.FnFeedsOk", spec := "fnFeedsOk", unfollowed := true, recurses := true, apart := false }
def FnFeedsOkSaid : Prop := fnFeedsOkRow.holds Try.pinned (OpenSpec.ofChange fnFeedsOkSpec)

/-- ITS FALSE NEIGHBOUR: 'it returns false'. Refute it at one input. -/
def fnFeedsOkWrong : ChangeSpec := { name := "fnFeedsOk", fn := fun _ => fun
  | [d] => { results := [.lit (.bool false)], args := [d] }
  | _ => none }
def FnFeedsOkWrongFalsely : Prop := fnFeedsOkRow.holds Try.pinned (OpenSpec.ofChange fnFeedsOkWrong)

/-- 'laws.FnFeedingOf': WHATEVER THE INPUT: true; the input reads as it did. -/
def fnFeedingOfSpec : ChangeSpec := { name := "fnFeedingOf", fn := fun _ => fun
  | [d] => { results := [.lit (.bool true)], args := [d] }
  | _ => none }
def fnFeedingOfRow : OpenClaim := { program := "ytenpplglanbooaa", sum := "61f4cd877ea2f529e9a27c0a7e285b3c5a75e47fde3aac30a5a9c99f2c80a508", func := "loop.example/balancedpipes/laws.FnFeedingOf", spec := "fnFeedingOf", unfollowed := true, recurses := true, apart := false }
def FnFeedingOfSaid : Prop := fnFeedingOfRow.holds Try.pinned (OpenSpec.ofChange fnFeedingOfSpec)

/-- ITS FALSE NEIGHBOUR: 'it returns false'. Refute it at one input. -/
def fnFeedingOfWrong : ChangeSpec := { name := "fnFeedingOf", fn := fun _ => fun
  | [d] => { results := [.lit (.bool false)], args := [d] }
  | _ => none }
def FnFeedingOfWrongFalsely : Prop := fnFeedingOfRow.holds Try.pinned (OpenSpec.ofChange fnFeedingOfWrong)

/-- 'laws.FnShortSide': WHATEVER THE INPUT: true; the input reads as it did. -/
def fnShortSideSpec : ChangeSpec := { name := "fnShortSide", fn := fun _ => fun
  | [d] => { results := [.lit (.bool true)], args := [d] }
  | _ => none }
def fnShortSideRow : OpenClaim := { program := "ytenpplglanbooaa", sum := "61f4cd877ea2f529e9a27c0a7e285b3c5a75e47fde3aac30a5a9c99f2c80a508", func := "loop.example/balancedpipes/laws.FnShortSide", spec := "fnShortSide", unfollowed := true, recurses := true, apart := false }
def FnShortSideSaid : Prop := fnShortSideRow.holds Try.pinned (OpenSpec.ofChange fnShortSideSpec)

/-- ITS FALSE NEIGHBOUR: 'it returns false'. Refute it at one input. -/
def fnShortSideWrong : ChangeSpec := { name := "fnShortSide", fn := fun _ => fun
  | [d] => { results := [.lit (.bool false)], args := [d] }
  | _ => none }
def FnShortSideWrongFalsely : Prop := fnShortSideRow.holds Try.pinned (OpenSpec.ofChange fnShortSideWrong)

/-- 'laws.FnCheapestFeed': WHATEVER THE INPUT: true; the input reads as it did. -/
def fnCheapestFeedSpec : ChangeSpec := { name := "fnCheapestFeed", fn := fun _ => fun
  | [d] => { results := [.lit (.bool true)], args := [d] }
  | _ => none }
def fnCheapestFeedRow : OpenClaim := { program := "ytenpplglanbooaa", sum := "61f4cd877ea2f529e9a27c0a7e285b3c5a75e47fde3aac30a5a9c99f2c80a508", func := "loop.example/balancedpipes/laws.FnCheapestFeed", spec := "fnCheapestFeed", unfollowed := true, recurses := true, apart := false }
def FnCheapestFeedSaid : Prop := fnCheapestFeedRow.holds Try.pinned (OpenSpec.ofChange fnCheapestFeedSpec)

/-- ITS FALSE NEIGHBOUR: 'it returns false'. Refute it at one input. -/
def fnCheapestFeedWrong : ChangeSpec := { name := "fnCheapestFeed", fn := fun _ => fun
  | [d] => { results := [.lit (.bool false)], args := [d] }
  | _ => none }
def FnCheapestFeedWrongFalsely : Prop := fnCheapestFeedRow.holds Try.pinned (OpenSpec.ofChange fnCheapestFeedWrong)

/-- 'laws.FnNeedsGreatest': WHATEVER THE INPUT: true; the input reads as it did. -/
def fnNeedsGreatestSpec : ChangeSpec := { name := "fnNeedsGreatest", fn := fun _ => fun
  | [d] => { results := [.lit (.bool true)], args := [d] }
  | _ => none }
def fnNeedsGreatestRow : OpenClaim := { program := "ytenpplglanbooaa", sum := "61f4cd877ea2f529e9a27c0a7e285b3c5a75e47fde3aac30a5a9c99f2c80a508", func := "loop.example/balancedpipes/laws.FnNeedsGreatest", spec := "fnNeedsGreatest", unfollowed := true, recurses := true, apart := false }
def FnNeedsGreatestSaid : Prop := fnNeedsGreatestRow.holds Try.pinned (OpenSpec.ofChange fnNeedsGreatestSpec)

/-- ITS FALSE NEIGHBOUR: 'it returns false'. Refute it at one input. -/
def fnNeedsGreatestWrong : ChangeSpec := { name := "fnNeedsGreatest", fn := fun _ => fun
  | [d] => { results := [.lit (.bool false)], args := [d] }
  | _ => none }
def FnNeedsGreatestWrongFalsely : Prop := fnNeedsGreatestRow.holds Try.pinned (OpenSpec.ofChange fnNeedsGreatestWrong)

/- THE SECOND FORM. 'bulk': how many values and letters a reading holds, each counted each time it is reached (what is shared counts as often as it is met; a slice's spare places count too). A statement '..UptoSaid' is the law's where the arguments, and the package variables that the reading takes, are together of bulk at most 1048576: NARROWER than '..Said'. Prove '..Said' where nothing that the law and all that it calls make is longer than what came in: it says more and counts as full. Else prove '..UptoSaid'. A law counts once. -/
mutual
def uptoBulk {H : Type} : DataW H → Nat
  | .lit (.string bytes) => bytes.length + 1
  | .lit _ => 1
  | .nil => 1
  | .ptr d => uptoBulk d + 1
  | .slice elems spare => uptoBulkAll elems + uptoBulkAll spare + 1
  | .agg parts => uptoBulkAll parts + 1
  | .iface _ d => uptoBulk d + 1
  | .map entries => uptoBulkEntries entries + 1
  | .held _ => 1
def uptoBulkAll {H : Type} : List (DataW H) → Nat
  | [] => 0
  | d :: r => uptoBulk d + uptoBulkAll r
def uptoBulkEntries {H : Type} : List (Lit × DataW H) → Nat
  | [] => 0
  | x :: r => uptoBulkEntry x + uptoBulkEntries r
def uptoBulkEntry {H : Type} : Lit × DataW H → Nat
  | (.string bytes, d) => bytes.length + uptoBulk d + 1
  | (_, d) => uptoBulk d + 1
 end
def uptoSmall : (H : Type) → List (DataW H) → Bool := fun _ ds => decide (uptoBulkAll ds ≤ 1048576)
def OpenSpec.upto (s : _root_.Go.ChangeSpec) : _root_.Go.OpenSpec := { _root_.Go.OpenSpec.ofChange s with cond := some uptoSmall }

/-- 'laws.FnNeedsOk', WHERE WHAT IT READS IS OF BULK AT MOST 1048576: true; the input reads as it did. -/
def fnNeedsOkUptoRow : OpenClaim := { program := "ytenpplglanbooaa", sum := "61f4cd877ea2f529e9a27c0a7e285b3c5a75e47fde3aac30a5a9c99f2c80a508", func := "loop.example/balancedpipes/laws.FnNeedsOk", spec := "fnNeedsOk", unfollowed := true, recurses := true, apart := false, narrowed := true }
def FnNeedsOkUptoSaid : Prop := fnNeedsOkUptoRow.holds Try.pinned (OpenSpec.upto fnNeedsOkSpec)

/-- 'laws.FnFeedsOk', WHERE WHAT IT READS IS OF BULK AT MOST 1048576: true; the input reads as it did. -/
def fnFeedsOkUptoRow : OpenClaim := { program := "ytenpplglanbooaa", sum := "61f4cd877ea2f529e9a27c0a7e285b3c5a75e47fde3aac30a5a9c99f2c80a508", func := "loop.example/balancedpipes/laws.FnFeedsOk", spec := "fnFeedsOk", unfollowed := true, recurses := true, apart := false, narrowed := true }
def FnFeedsOkUptoSaid : Prop := fnFeedsOkUptoRow.holds Try.pinned (OpenSpec.upto fnFeedsOkSpec)

/-- 'laws.FnFeedingOf', WHERE WHAT IT READS IS OF BULK AT MOST 1048576: true; the input reads as it did. -/
def fnFeedingOfUptoRow : OpenClaim := { program := "ytenpplglanbooaa", sum := "61f4cd877ea2f529e9a27c0a7e285b3c5a75e47fde3aac30a5a9c99f2c80a508", func := "loop.example/balancedpipes/laws.FnFeedingOf", spec := "fnFeedingOf", unfollowed := true, recurses := true, apart := false, narrowed := true }
def FnFeedingOfUptoSaid : Prop := fnFeedingOfUptoRow.holds Try.pinned (OpenSpec.upto fnFeedingOfSpec)

/-- 'laws.FnShortSide', WHERE WHAT IT READS IS OF BULK AT MOST 1048576: true; the input reads as it did. -/
def fnShortSideUptoRow : OpenClaim := { program := "ytenpplglanbooaa", sum := "61f4cd877ea2f529e9a27c0a7e285b3c5a75e47fde3aac30a5a9c99f2c80a508", func := "loop.example/balancedpipes/laws.FnShortSide", spec := "fnShortSide", unfollowed := true, recurses := true, apart := false, narrowed := true }
def FnShortSideUptoSaid : Prop := fnShortSideUptoRow.holds Try.pinned (OpenSpec.upto fnShortSideSpec)

/-- 'laws.FnCheapestFeed', WHERE WHAT IT READS IS OF BULK AT MOST 1048576: true; the input reads as it did. -/
def fnCheapestFeedUptoRow : OpenClaim := { program := "ytenpplglanbooaa", sum := "61f4cd877ea2f529e9a27c0a7e285b3c5a75e47fde3aac30a5a9c99f2c80a508", func := "loop.example/balancedpipes/laws.FnCheapestFeed", spec := "fnCheapestFeed", unfollowed := true, recurses := true, apart := false, narrowed := true }
def FnCheapestFeedUptoSaid : Prop := fnCheapestFeedUptoRow.holds Try.pinned (OpenSpec.upto fnCheapestFeedSpec)

/-- 'laws.FnNeedsGreatest', WHERE WHAT IT READS IS OF BULK AT MOST 1048576: true; the input reads as it did. -/
def fnNeedsGreatestUptoRow : OpenClaim := { program := "ytenpplglanbooaa", sum := "61f4cd877ea2f529e9a27c0a7e285b3c5a75e47fde3aac30a5a9c99f2c80a508", func := "loop.example/balancedpipes/laws.FnNeedsGreatest", spec := "fnNeedsGreatest", unfollowed := true, recurses := true, apart := false, narrowed := true }
def FnNeedsGreatestUptoSaid : Prop := fnNeedsGreatestUptoRow.holds Try.pinned (OpenSpec.upto fnNeedsGreatestSpec)

end Rows
end Go.Proofs.Ytenpplglanbooaa
