/-
  No cell of these rows narrows 'for every input' (looked for: loops, veiled, ifaces, maps, wideKeys, modest, calm, conditions, laid).
  DERIVED. THE GIVEN ROWS OF THIS SEAT. 7 by the template 'for every input the law returns true; each argument reads behind the call as it read before'; 0 by the template 'total and deterministic' (their statements: YtaohjhehlkeckaaTotals.lean).
  GIVEN WITH THE SEED: the statements are not yours to turn. If you find one false, say at which input.
  Laid BY PROGRAM, IN A SANDBOX (cutbox-rows.mjs): the forced cells as the released guide's own fill.sh prints them over the translation ec58deee8fa6079f… (all of the seat's roots in one cut). By AI agents, Wed Nov 11 2026. No macro, syntax, notation, axiom, sorry.
-/
import Derived.Test.YtaohjhehlkeckaaChecked
import GoSem.Claim
import GoSem.ClaimJoined
import GoSem.ClaimMapViews
import Derived.JoinedTies
import Derived.KernelRfl
namespace Go.Proofs.Ytaohjhehlkeckaa
/- THE CELL 'sum', in the pinned program and in every row, IS THE sha256 OF THE DUMP (.gsa) THAT YtaohjhehlkeckaaProg.lean LOADS. Nothing in Lean hashes anything: it is a label: what it is worth is what the hold of that sum in a sandbox is worth. -/
noncomputable def Try.pinned : Pinned := { name := "ytaohjhehlkeckaa", sum := "ec58deee8fa6079fa2e3d554762262884b7179e39e93d2b05fce1c8154faf6c2", checked := Try.checked }
namespace Rows
def none {H : Type} : Left H := { results := [], args := [] }

/-- 'laws.FnDualTerm': WHATEVER THE INPUT: true; the input reads as it did. -/
def fnDualTermSpec : ChangeSpec := { name := "fnDualTerm", fn := fun _ => fun
  | [d] => { results := [.lit (.bool true)], args := [d] }
  | _ => none }
def fnDualTermRow : OpenClaim := { program := "ytaohjhehlkeckaa", sum := "ec58deee8fa6079fa2e3d554762262884b7179e39e93d2b05fce1c8154faf6c2", func := "loop.example/balancedpipes/laws.FnDualTerm", spec := "fnDualTerm", unfollowed := true, recurses := true, apart := false }
def FnDualTermSaid : Prop := fnDualTermRow.holds Try.pinned (OpenSpec.ofChange fnDualTermSpec)

/-- ITS FALSE NEIGHBOUR: 'it returns false'. Refute it at one input. -/
def fnDualTermWrong : ChangeSpec := { name := "fnDualTerm", fn := fun _ => fun
  | [d] => { results := [.lit (.bool false)], args := [d] }
  | _ => none }
def FnDualTermWrongFalsely : Prop := fnDualTermRow.holds Try.pinned (OpenSpec.ofChange fnDualTermWrong)

/-- 'laws.FnLengthOf': WHATEVER THE INPUT: true; the input reads as it did. -/
def fnLengthOfSpec : ChangeSpec := { name := "fnLengthOf", fn := fun _ => fun
  | [d] => { results := [.lit (.bool true)], args := [d] }
  | _ => none }
def fnLengthOfRow : OpenClaim := { program := "ytaohjhehlkeckaa", sum := "ec58deee8fa6079fa2e3d554762262884b7179e39e93d2b05fce1c8154faf6c2", func := "loop.example/balancedpipes/laws.FnLengthOf", spec := "fnLengthOf", unfollowed := true, recurses := true, apart := false }
def FnLengthOfSaid : Prop := fnLengthOfRow.holds Try.pinned (OpenSpec.ofChange fnLengthOfSpec)

/-- ITS FALSE NEIGHBOUR: 'it returns false'. Refute it at one input. -/
def fnLengthOfWrong : ChangeSpec := { name := "fnLengthOf", fn := fun _ => fun
  | [d] => { results := [.lit (.bool false)], args := [d] }
  | _ => none }
def FnLengthOfWrongFalsely : Prop := fnLengthOfRow.holds Try.pinned (OpenSpec.ofChange fnLengthOfWrong)

/-- 'laws.FnNarrowOf': WHATEVER THE INPUT: true; the input reads as it did. -/
def fnNarrowOfSpec : ChangeSpec := { name := "fnNarrowOf", fn := fun _ => fun
  | [d] => { results := [.lit (.bool true)], args := [d] }
  | _ => none }
def fnNarrowOfRow : OpenClaim := { program := "ytaohjhehlkeckaa", sum := "ec58deee8fa6079fa2e3d554762262884b7179e39e93d2b05fce1c8154faf6c2", func := "loop.example/balancedpipes/laws.FnNarrowOf", spec := "fnNarrowOf", unfollowed := true, recurses := true, apart := false }
def FnNarrowOfSaid : Prop := fnNarrowOfRow.holds Try.pinned (OpenSpec.ofChange fnNarrowOfSpec)

/-- ITS FALSE NEIGHBOUR: 'it returns false'. Refute it at one input. -/
def fnNarrowOfWrong : ChangeSpec := { name := "fnNarrowOf", fn := fun _ => fun
  | [d] => { results := [.lit (.bool false)], args := [d] }
  | _ => none }
def FnNarrowOfWrongFalsely : Prop := fnNarrowOfRow.holds Try.pinned (OpenSpec.ofChange fnNarrowOfWrong)

/-- 'laws.FnHeldTerm': WHATEVER THE INPUT: true; the input reads as it did. -/
def fnHeldTermSpec : ChangeSpec := { name := "fnHeldTerm", fn := fun _ => fun
  | [d] => { results := [.lit (.bool true)], args := [d] }
  | _ => none }
def fnHeldTermRow : OpenClaim := { program := "ytaohjhehlkeckaa", sum := "ec58deee8fa6079fa2e3d554762262884b7179e39e93d2b05fce1c8154faf6c2", func := "loop.example/balancedpipes/laws.FnHeldTerm", spec := "fnHeldTerm", unfollowed := true, recurses := true, apart := false }
def FnHeldTermSaid : Prop := fnHeldTermRow.holds Try.pinned (OpenSpec.ofChange fnHeldTermSpec)

/-- ITS FALSE NEIGHBOUR: 'it returns false'. Refute it at one input. -/
def fnHeldTermWrong : ChangeSpec := { name := "fnHeldTerm", fn := fun _ => fun
  | [d] => { results := [.lit (.bool false)], args := [d] }
  | _ => none }
def FnHeldTermWrongFalsely : Prop := fnHeldTermRow.holds Try.pinned (OpenSpec.ofChange fnHeldTermWrong)

/-- 'laws.FnLeftTerm': WHATEVER THE INPUT: true; the input reads as it did. -/
def fnLeftTermSpec : ChangeSpec := { name := "fnLeftTerm", fn := fun _ => fun
  | [d] => { results := [.lit (.bool true)], args := [d] }
  | _ => none }
def fnLeftTermRow : OpenClaim := { program := "ytaohjhehlkeckaa", sum := "ec58deee8fa6079fa2e3d554762262884b7179e39e93d2b05fce1c8154faf6c2", func := "loop.example/balancedpipes/laws.FnLeftTerm", spec := "fnLeftTerm", unfollowed := true, recurses := true, apart := false }
def FnLeftTermSaid : Prop := fnLeftTermRow.holds Try.pinned (OpenSpec.ofChange fnLeftTermSpec)

/-- ITS FALSE NEIGHBOUR: 'it returns false'. Refute it at one input. -/
def fnLeftTermWrong : ChangeSpec := { name := "fnLeftTerm", fn := fun _ => fun
  | [d] => { results := [.lit (.bool false)], args := [d] }
  | _ => none }
def FnLeftTermWrongFalsely : Prop := fnLeftTermRow.holds Try.pinned (OpenSpec.ofChange fnLeftTermWrong)

/-- 'laws.FnMergedTerm': WHATEVER THE INPUT: true; the input reads as it did. -/
def fnMergedTermSpec : ChangeSpec := { name := "fnMergedTerm", fn := fun _ => fun
  | [d] => { results := [.lit (.bool true)], args := [d] }
  | _ => none }
def fnMergedTermRow : OpenClaim := { program := "ytaohjhehlkeckaa", sum := "ec58deee8fa6079fa2e3d554762262884b7179e39e93d2b05fce1c8154faf6c2", func := "loop.example/balancedpipes/laws.FnMergedTerm", spec := "fnMergedTerm", unfollowed := true, recurses := true, apart := false }
def FnMergedTermSaid : Prop := fnMergedTermRow.holds Try.pinned (OpenSpec.ofChange fnMergedTermSpec)

/-- ITS FALSE NEIGHBOUR: 'it returns false'. Refute it at one input. -/
def fnMergedTermWrong : ChangeSpec := { name := "fnMergedTerm", fn := fun _ => fun
  | [d] => { results := [.lit (.bool false)], args := [d] }
  | _ => none }
def FnMergedTermWrongFalsely : Prop := fnMergedTermRow.holds Try.pinned (OpenSpec.ofChange fnMergedTermWrong)

/-- 'laws.FnDualWay': WHATEVER THE INPUT: true; the input reads as it did. -/
def fnDualWaySpec : ChangeSpec := { name := "fnDualWay", fn := fun _ => fun
  | [d] => { results := [.lit (.bool true)], args := [d] }
  | _ => none }
def fnDualWayRow : OpenClaim := { program := "ytaohjhehlkeckaa", sum := "ec58deee8fa6079fa2e3d554762262884b7179e39e93d2b05fce1c8154faf6c2", func := "loop.example/balancedpipes/laws.FnDualWay", spec := "fnDualWay", unfollowed := true, recurses := true, apart := false }
def FnDualWaySaid : Prop := fnDualWayRow.holds Try.pinned (OpenSpec.ofChange fnDualWaySpec)

/-- ITS FALSE NEIGHBOUR: 'it returns false'. Refute it at one input. -/
def fnDualWayWrong : ChangeSpec := { name := "fnDualWay", fn := fun _ => fun
  | [d] => { results := [.lit (.bool false)], args := [d] }
  | _ => none }
def FnDualWayWrongFalsely : Prop := fnDualWayRow.holds Try.pinned (OpenSpec.ofChange fnDualWayWrong)

/- THE SECOND FORM. 'bulk': how many values and letters a reading holds, each counted each time it is reached (what is shared counts as often as it is met; a slice's spare places count too). A statement '..UptoSaid' is the law's where the arguments, and the package variables that the reading takes, are together of bulk at most 1048576: NARROWER than '..Said'. Prove '..Said' where nothing that the law and all that it calls make is longer than what came in: it says more and counts as full. Else prove '..UptoSaid'. A law counts once. -/
mutual
def uptoBulk {H : Type} : DataW H → Nat
  | .lit (.string bytes) => bytes.length + 1
  | .lit _ => 1
  | .nil => 1
  | .ptr d => uptoBulk d + 1
  | .slice elems spare => uptoBulkAll elems + uptoBulkAll spare + 1
  | .agg parts => uptoBulkAll parts + 1
  | .iface _ d => uptoBulk d + 1
  | .map entries => uptoBulkEntries entries + 1
  | .held _ => 1
def uptoBulkAll {H : Type} : List (DataW H) → Nat
  | [] => 0
  | d :: r => uptoBulk d + uptoBulkAll r
def uptoBulkEntries {H : Type} : List (Lit × DataW H) → Nat
  | [] => 0
  | x :: r => uptoBulkEntry x + uptoBulkEntries r
def uptoBulkEntry {H : Type} : Lit × DataW H → Nat
  | (.string bytes, d) => bytes.length + uptoBulk d + 1
  | (_, d) => uptoBulk d + 1
 end
def uptoSmall : (H : Type) → List (DataW H) → Bool := fun _ ds => decide (uptoBulkAll ds ≤ 1048576)
def OpenSpec.upto (s : _root_.Go.ChangeSpec) : _root_.Go.OpenSpec := { _root_.Go.OpenSpec.ofChange s with cond := some uptoSmall }

/-- 'laws.FnDualTerm', WHERE WHAT IT READS IS OF BULK AT MOST 1048576: true; the input reads as it did. -/
def fnDualTermUptoRow : OpenClaim := { program := "ytaohjhehlkeckaa", sum := "ec58deee8fa6079fa2e3d554762262884b7179e39e93d2b05fce1c8154faf6c2", func := "loop.example/balancedpipes/laws.FnDualTerm", spec := "fnDualTerm", unfollowed := true, recurses := true, apart := false, narrowed := true }
def FnDualTermUptoSaid : Prop := fnDualTermUptoRow.holds Try.pinned (OpenSpec.upto fnDualTermSpec)

/-- 'laws.FnLengthOf', WHERE WHAT IT READS IS OF BULK AT MOST 1048576: true; the input reads as it did. -/
def fnLengthOfUptoRow : OpenClaim := { program := "ytaohjhehlkeckaa", sum := "ec58deee8fa6079fa2e3d554762262884b7179e39e93d2b05fce1c8154faf6c2", func := "loop.example/balancedpipes/laws.FnLengthOf", spec := "fnLengthOf", unfollowed := true, recurses := true, apart := false, narrowed := true }
def FnLengthOfUptoSaid : Prop := fnLengthOfUptoRow.holds Try.pinned (OpenSpec.upto fnLengthOfSpec)

/-- 'laws.FnNarrowOf', WHERE WHAT IT READS IS OF BULK AT MOST 1048576: true; the input reads as it did. -/
def fnNarrowOfUptoRow : OpenClaim := { program := "ytaohjhehlkeckaa", sum := "ec58deee8fa6079fa2e3d554762262884b7179e39e93d2b05fce1c8154faf6c2", func := "loop.example/balancedpipes/laws.FnNarrowOf", spec := "fnNarrowOf", unfollowed := true, recurses := true, apart := false, narrowed := true }
def FnNarrowOfUptoSaid : Prop := fnNarrowOfUptoRow.holds Try.pinned (OpenSpec.upto fnNarrowOfSpec)

/-- 'laws.FnHeldTerm', WHERE WHAT IT READS IS OF BULK AT MOST 1048576: true; the input reads as it did. -/
def fnHeldTermUptoRow : OpenClaim := { program := "ytaohjhehlkeckaa", sum := "ec58deee8fa6079fa2e3d554762262884b7179e39e93d2b05fce1c8154faf6c2", func := "loop.example/balancedpipes/laws.FnHeldTerm", spec := "fnHeldTerm", unfollowed := true, recurses := true, apart := false, narrowed := true }
def FnHeldTermUptoSaid : Prop := fnHeldTermUptoRow.holds Try.pinned (OpenSpec.upto fnHeldTermSpec)

/-- 'laws.FnLeftTerm', WHERE WHAT IT READS IS OF BULK AT MOST 1048576: true; the input reads as it did. -/
def fnLeftTermUptoRow : OpenClaim := { program := "ytaohjhehlkeckaa", sum := "ec58deee8fa6079fa2e3d554762262884b7179e39e93d2b05fce1c8154faf6c2", func := "loop.example/balancedpipes/laws.FnLeftTerm", spec := "fnLeftTerm", unfollowed := true, recurses := true, apart := false, narrowed := true }
def FnLeftTermUptoSaid : Prop := fnLeftTermUptoRow.holds Try.pinned (OpenSpec.upto fnLeftTermSpec)

/-- 'laws.FnMergedTerm', WHERE WHAT IT READS IS OF BULK AT MOST 1048576: true; the input reads as it did. -/
def fnMergedTermUptoRow : OpenClaim := { program := "ytaohjhehlkeckaa", sum := "ec58deee8fa6079fa2e3d554762262884b7179e39e93d2b05fce1c8154faf6c2", func := "loop.example/balancedpipes/laws.FnMergedTerm", spec := "fnMergedTerm", unfollowed := true, recurses := true, apart := false, narrowed := true }
def FnMergedTermUptoSaid : Prop := fnMergedTermUptoRow.holds Try.pinned (OpenSpec.upto fnMergedTermSpec)

/-- 'laws.FnDualWay', WHERE WHAT IT READS IS OF BULK AT MOST 1048576: true; the input reads as it did. -/
def fnDualWayUptoRow : OpenClaim := { program := "ytaohjhehlkeckaa", sum := "ec58deee8fa6079fa2e3d554762262884b7179e39e93d2b05fce1c8154faf6c2", func := "loop.example/balancedpipes/laws.FnDualWay", spec := "fnDualWay", unfollowed := true, recurses := true, apart := false, narrowed := true }
def FnDualWayUptoSaid : Prop := fnDualWayUptoRow.holds Try.pinned (OpenSpec.upto fnDualWaySpec)

end Rows
end Go.Proofs.Ytaohjhehlkeckaa
