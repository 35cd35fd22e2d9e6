/-
  No cell of these rows narrows 'for every input' (looked for: loops, veiled, ifaces, maps, wideKeys, modest, calm, conditions, laid).
  DERIVED. THE GIVEN ROWS OF THIS SEAT. 6 by the template 'for every input the law returns true; each argument reads behind the call as it read before'; 0 by the template 'total and deterministic' (their statements: YtangnecgnclobaaTotals.lean).
  GIVEN WITH THE SEED: the statements are not yours to turn. If you find one false, say at which input.
  Laid BY PROGRAM, IN A SANDBOX (cutbox-rows.mjs): the forced cells as the released guide's own fill.sh prints them over the translation ed2d0393bd96c4b4… (all of the seat's roots in one cut). By AI agents, Wed Nov 11 2026. No macro, syntax, notation, axiom, sorry.
-/
import Derived.Test.YtangnecgnclobaaChecked
import GoSem.Claim
import GoSem.ClaimJoined
import GoSem.ClaimMapViews
import Derived.JoinedTies
import Derived.KernelRfl
namespace Go.Proofs.Ytangnecgnclobaa
/- THE CELL 'sum', in the pinned program and in every row, IS THE sha256 OF THE DUMP (.gsa) THAT YtangnecgnclobaaProg.lean LOADS. Nothing in Lean hashes anything: it is a label: what it is worth is what the hold of that sum in a sandbox is worth. -/
noncomputable def Try.pinned : Pinned := { name := "ytangnecgnclobaa", sum := "ed2d0393bd96c4b4881ad40862e83baaf4237906af21697257ae1b33b1c22cd5", checked := Try.checked }
namespace Rows
def none {H : Type} : Left H := { results := [], args := [] }

/-- 'laws.FnCostsOf': WHATEVER THE INPUT: true; the input reads as it did. -/
def fnCostsOfSpec : ChangeSpec := { name := "fnCostsOf", fn := fun _ => fun
  | [d] => { results := [.lit (.bool true)], args := [d] }
  | _ => none }
def fnCostsOfRow : OpenClaim := { program := "ytangnecgnclobaa", sum := "ed2d0393bd96c4b4881ad40862e83baaf4237906af21697257ae1b33b1c22cd5", func := "loop.example/balancedpipes/laws.FnCostsOf", spec := "fnCostsOf", unfollowed := true, recurses := true, apart := false }
def FnCostsOfSaid : Prop := fnCostsOfRow.holds Try.pinned (OpenSpec.ofChange fnCostsOfSpec)

/-- ITS FALSE NEIGHBOUR: 'it returns false'. Refute it at one input. -/
def fnCostsOfWrong : ChangeSpec := { name := "fnCostsOf", fn := fun _ => fun
  | [d] => { results := [.lit (.bool false)], args := [d] }
  | _ => none }
def FnCostsOfWrongFalsely : Prop := fnCostsOfRow.holds Try.pinned (OpenSpec.ofChange fnCostsOfWrong)

/-- 'laws.FnCirculationOf': WHATEVER THE INPUT: true; the input reads as it did. -/
def fnCirculationOfSpec : ChangeSpec := { name := "fnCirculationOf", fn := fun _ => fun
  | [d] => { results := [.lit (.bool true)], args := [d] }
  | _ => none }
def fnCirculationOfRow : OpenClaim := { program := "ytangnecgnclobaa", sum := "ed2d0393bd96c4b4881ad40862e83baaf4237906af21697257ae1b33b1c22cd5", func := "loop.example/balancedpipes/laws.FnCirculationOf", spec := "fnCirculationOf", unfollowed := true, recurses := true, apart := false }
def FnCirculationOfSaid : Prop := fnCirculationOfRow.holds Try.pinned (OpenSpec.ofChange fnCirculationOfSpec)

/-- ITS FALSE NEIGHBOUR: 'it returns false'. Refute it at one input. -/
def fnCirculationOfWrong : ChangeSpec := { name := "fnCirculationOf", fn := fun _ => fun
  | [d] => { results := [.lit (.bool false)], args := [d] }
  | _ => none }
def FnCirculationOfWrongFalsely : Prop := fnCirculationOfRow.holds Try.pinned (OpenSpec.ofChange fnCirculationOfWrong)

/-- 'laws.FnBlockingSide': WHATEVER THE INPUT: true; the input reads as it did. -/
def fnBlockingSideSpec : ChangeSpec := { name := "fnBlockingSide", fn := fun _ => fun
  | [d] => { results := [.lit (.bool true)], args := [d] }
  | _ => none }
def fnBlockingSideRow : OpenClaim := { program := "ytangnecgnclobaa", sum := "ed2d0393bd96c4b4881ad40862e83baaf4237906af21697257ae1b33b1c22cd5", func := "loop.example/balancedpipes/laws.FnBlockingSide", spec := "fnBlockingSide", unfollowed := true, recurses := true, apart := false }
def FnBlockingSideSaid : Prop := fnBlockingSideRow.holds Try.pinned (OpenSpec.ofChange fnBlockingSideSpec)

/-- ITS FALSE NEIGHBOUR: 'it returns false'. Refute it at one input. -/
def fnBlockingSideWrong : ChangeSpec := { name := "fnBlockingSide", fn := fun _ => fun
  | [d] => { results := [.lit (.bool false)], args := [d] }
  | _ => none }
def FnBlockingSideWrongFalsely : Prop := fnBlockingSideRow.holds Try.pinned (OpenSpec.ofChange fnBlockingSideWrong)

/-- 'laws.FnWithPipe': WHATEVER THE INPUT: true; the input reads as it did. -/
def fnWithPipeSpec : ChangeSpec := { name := "fnWithPipe", fn := fun _ => fun
  | [d] => { results := [.lit (.bool true)], args := [d] }
  | _ => none }
def fnWithPipeRow : OpenClaim := { program := "ytangnecgnclobaa", sum := "ed2d0393bd96c4b4881ad40862e83baaf4237906af21697257ae1b33b1c22cd5", func := "loop.example/balancedpipes/laws.FnWithPipe", spec := "fnWithPipe", unfollowed := true, recurses := true, apart := false }
def FnWithPipeSaid : Prop := fnWithPipeRow.holds Try.pinned (OpenSpec.ofChange fnWithPipeSpec)

/-- ITS FALSE NEIGHBOUR: 'it returns false'. Refute it at one input. -/
def fnWithPipeWrong : ChangeSpec := { name := "fnWithPipe", fn := fun _ => fun
  | [d] => { results := [.lit (.bool false)], args := [d] }
  | _ => none }
def FnWithPipeWrongFalsely : Prop := fnWithPipeRow.holds Try.pinned (OpenSpec.ofChange fnWithPipeWrong)

/-- 'laws.FnBackPipe': WHATEVER THE INPUT: true; the input reads as it did. -/
def fnBackPipeSpec : ChangeSpec := { name := "fnBackPipe", fn := fun _ => fun
  | [d] => { results := [.lit (.bool true)], args := [d] }
  | _ => none }
def fnBackPipeRow : OpenClaim := { program := "ytangnecgnclobaa", sum := "ed2d0393bd96c4b4881ad40862e83baaf4237906af21697257ae1b33b1c22cd5", func := "loop.example/balancedpipes/laws.FnBackPipe", spec := "fnBackPipe", unfollowed := true, recurses := true, apart := false }
def FnBackPipeSaid : Prop := fnBackPipeRow.holds Try.pinned (OpenSpec.ofChange fnBackPipeSpec)

/-- ITS FALSE NEIGHBOUR: 'it returns false'. Refute it at one input. -/
def fnBackPipeWrong : ChangeSpec := { name := "fnBackPipe", fn := fun _ => fun
  | [d] => { results := [.lit (.bool false)], args := [d] }
  | _ => none }
def FnBackPipeWrongFalsely : Prop := fnBackPipeRow.holds Try.pinned (OpenSpec.ofChange fnBackPipeWrong)

/-- 'laws.FnCountCirculations': WHATEVER THE INPUT: true; the input reads as it did. -/
def fnCountCirculationsSpec : ChangeSpec := { name := "fnCountCirculations", fn := fun _ => fun
  | [d] => { results := [.lit (.bool true)], args := [d] }
  | _ => none }
def fnCountCirculationsRow : OpenClaim := { program := "ytangnecgnclobaa", sum := "ed2d0393bd96c4b4881ad40862e83baaf4237906af21697257ae1b33b1c22cd5", func := "loop.example/balancedpipes/laws.FnCountCirculations", spec := "fnCountCirculations", unfollowed := true, recurses := true, apart := false }
def FnCountCirculationsSaid : Prop := fnCountCirculationsRow.holds Try.pinned (OpenSpec.ofChange fnCountCirculationsSpec)

/-- ITS FALSE NEIGHBOUR: 'it returns false'. Refute it at one input. -/
def fnCountCirculationsWrong : ChangeSpec := { name := "fnCountCirculations", fn := fun _ => fun
  | [d] => { results := [.lit (.bool false)], args := [d] }
  | _ => none }
def FnCountCirculationsWrongFalsely : Prop := fnCountCirculationsRow.holds Try.pinned (OpenSpec.ofChange fnCountCirculationsWrong)

/- THE SECOND FORM. 'bulk': how many values and letters a reading holds, each counted each time it is reached (what is shared counts as often as it is met; a slice's spare places count too). A statement '..UptoSaid' is the law's where the arguments, and the package variables that the reading takes, are together of bulk at most 1048576: NARROWER than '..Said'. Prove '..Said' where nothing that the law and all that it calls make is longer than what came in: it says more and counts as full. Else prove '..UptoSaid'. A law counts once. -/
mutual
def uptoBulk {H : Type} : DataW H → Nat
  | .lit (.string bytes) => bytes.length + 1
  | .lit _ => 1
  | .nil => 1
  | .ptr d => uptoBulk d + 1
  | .slice elems spare => uptoBulkAll elems + uptoBulkAll spare + 1
  | .agg parts => uptoBulkAll parts + 1
  | .iface _ d => uptoBulk d + 1
  | .map entries => uptoBulkEntries entries + 1
  | .held _ => 1
def uptoBulkAll {H : Type} : List (DataW H) → Nat
  | [] => 0
  | d :: r => uptoBulk d + uptoBulkAll r
def uptoBulkEntries {H : Type} : List (Lit × DataW H) → Nat
  | [] => 0
  | x :: r => uptoBulkEntry x + uptoBulkEntries r
def uptoBulkEntry {H : Type} : Lit × DataW H → Nat
  | (.string bytes, d) => bytes.length + uptoBulk d + 1
  | (_, d) => uptoBulk d + 1
 end
def uptoSmall : (H : Type) → List (DataW H) → Bool := fun _ ds => decide (uptoBulkAll ds ≤ 1048576)
def OpenSpec.upto (s : _root_.Go.ChangeSpec) : _root_.Go.OpenSpec := { _root_.Go.OpenSpec.ofChange s with cond := some uptoSmall }

/-- 'laws.FnCostsOf', WHERE WHAT IT READS IS OF BULK AT MOST 1048576: true; the input reads as it did. -/
def fnCostsOfUptoRow : OpenClaim := { program := "ytangnecgnclobaa", sum := "ed2d0393bd96c4b4881ad40862e83baaf4237906af21697257ae1b33b1c22cd5", func := "loop.example/balancedpipes/laws.FnCostsOf", spec := "fnCostsOf", unfollowed := true, recurses := true, apart := false, narrowed := true }
def FnCostsOfUptoSaid : Prop := fnCostsOfUptoRow.holds Try.pinned (OpenSpec.upto fnCostsOfSpec)

/-- 'laws.FnCirculationOf', WHERE WHAT IT READS IS OF BULK AT MOST 1048576: true; the input reads as it did. -/
def fnCirculationOfUptoRow : OpenClaim := { program := "ytangnecgnclobaa", sum := "ed2d0393bd96c4b4881ad40862e83baaf4237906af21697257ae1b33b1c22cd5", func := "loop.example/balancedpipes/laws.FnCirculationOf", spec := "fnCirculationOf", unfollowed := true, recurses := true, apart := false, narrowed := true }
def FnCirculationOfUptoSaid : Prop := fnCirculationOfUptoRow.holds Try.pinned (OpenSpec.upto fnCirculationOfSpec)

/-- 'laws.FnBlockingSide', WHERE WHAT IT READS IS OF BULK AT MOST 1048576: true; the input reads as it did. -/
def fnBlockingSideUptoRow : OpenClaim := { program := "ytangnecgnclobaa", sum := "ed2d0393bd96c4b4881ad40862e83baaf4237906af21697257ae1b33b1c22cd5", func := "loop.example/balancedpipes/laws.FnBlockingSide", spec := "fnBlockingSide", unfollowed := true, recurses := true, apart := false, narrowed := true }
def FnBlockingSideUptoSaid : Prop := fnBlockingSideUptoRow.holds Try.pinned (OpenSpec.upto fnBlockingSideSpec)

/-- 'laws.FnWithPipe', WHERE WHAT IT READS IS OF BULK AT MOST 1048576: true; the input reads as it did. -/
def fnWithPipeUptoRow : OpenClaim := { program := "ytangnecgnclobaa", sum := "ed2d0393bd96c4b4881ad40862e83baaf4237906af21697257ae1b33b1c22cd5", func := "loop.example/balancedpipes/laws.FnWithPipe", spec := "fnWithPipe", unfollowed := true, recurses := true, apart := false, narrowed := true }
def FnWithPipeUptoSaid : Prop := fnWithPipeUptoRow.holds Try.pinned (OpenSpec.upto fnWithPipeSpec)

/-- 'laws.FnBackPipe', WHERE WHAT IT READS IS OF BULK AT MOST 1048576: true; the input reads as it did. -/
def fnBackPipeUptoRow : OpenClaim := { program := "ytangnecgnclobaa", sum := "ed2d0393bd96c4b4881ad40862e83baaf4237906af21697257ae1b33b1c22cd5", func := "loop.example/balancedpipes/laws.FnBackPipe", spec := "fnBackPipe", unfollowed := true, recurses := true, apart := false, narrowed := true }
def FnBackPipeUptoSaid : Prop := fnBackPipeUptoRow.holds Try.pinned (OpenSpec.upto fnBackPipeSpec)

/-- 'laws.FnCountCirculations', WHERE WHAT IT READS IS OF BULK AT MOST 1048576: true; the input reads as it did. -/
def fnCountCirculationsUptoRow : OpenClaim := { program := "ytangnecgnclobaa", sum := "ed2d0393bd96c4b4881ad40862e83baaf4237906af21697257ae1b33b1c22cd5", func := "loop.example/balancedpipes/laws.FnCountCirculations", spec := "fnCountCirculations", unfollowed := true, recurses := true, apart := false, narrowed := true }
def FnCountCirculationsUptoSaid : Prop := fnCountCirculationsUptoRow.holds Try.pinned (OpenSpec.upto fnCountCirculationsSpec)

end Rows
end Go.Proofs.Ytangnecgnclobaa
