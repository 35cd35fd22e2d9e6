/-
  No cell of these rows narrows 'for every input' (looked for: loops, veiled, ifaces, maps, wideKeys, modest, calm, conditions, laid).
  DERIVED. THE GIVEN ROWS OF THIS SEAT. 6 by the template 'for every input the law returns true; each argument reads behind the call as it read before'; 0 by the template 'total and deterministic' (their statements: YtkognphcekdgdaaTotals.lean).
  GIVEN WITH THE SEED: the statements are not yours to turn. If you find one false, say at which input.
  Laid BY PROGRAM, IN A SANDBOX (cutbox-rows.mjs): the forced cells as the released guide's own fill.sh prints them over the translation 06c7d771fff9ac85… (all of the seat's roots in one cut). By AI agents, Wed Nov 11 2026. No macro, syntax, notation, axiom, sorry.
-/
import Derived.Test.YtkognphcekdgdaaChecked
import GoSem.Claim
import GoSem.ClaimJoined
import GoSem.ClaimMapViews
import Derived.JoinedTies
import Derived.KernelRfl
namespace Go.Proofs.Ytkognphcekdgdaa
/- THE CELL 'sum', in the pinned program and in every row, IS THE sha256 OF THE DUMP (.gsa) THAT YtkognphcekdgdaaProg.lean LOADS. Nothing in Lean hashes anything: it is a label: what it is worth is what the hold of that sum in a sandbox is worth. -/
noncomputable def Try.pinned : Pinned := { name := "ytkognphcekdgdaa", sum := "06c7d771fff9ac854c9c4e08c2b136a37f7f24405e8450cd9c46231ffa04f697", checked := Try.checked }
namespace Rows
def none {H : Type} : Left H := { results := [], args := [] }

/-- 'laws.FnExactRingsOf': WHATEVER THE INPUT: true; the input reads as it did. -/
def fnExactRingsOfSpec : ChangeSpec := { name := "fnExactRingsOf", fn := fun _ => fun
  | [d1, d2] => { results := [.lit (.bool true)], args := [d1, d2] }
  | _ => none }
def fnExactRingsOfRow : OpenClaim := { program := "ytkognphcekdgdaa", sum := "06c7d771fff9ac854c9c4e08c2b136a37f7f24405e8450cd9c46231ffa04f697", func := "loop.example/balancedpipes/laws.FnExactRingsOf", spec := "fnExactRingsOf", unfollowed := true, recurses := true, apart := false }
def FnExactRingsOfSaid : Prop := fnExactRingsOfRow.holds Try.pinned (OpenSpec.ofChange fnExactRingsOfSpec)

/-- ITS FALSE NEIGHBOUR: 'it returns false'. Refute it at one input. -/
def fnExactRingsOfWrong : ChangeSpec := { name := "fnExactRingsOf", fn := fun _ => fun
  | [d1, d2] => { results := [.lit (.bool false)], args := [d1, d2] }
  | _ => none }
def FnExactRingsOfWrongFalsely : Prop := fnExactRingsOfRow.holds Try.pinned (OpenSpec.ofChange fnExactRingsOfWrong)

/-- 'laws.FnExactPartsOf': WHATEVER THE INPUT: true; the input reads as it did. -/
def fnExactPartsOfSpec : ChangeSpec := { name := "fnExactPartsOf", fn := fun _ => fun
  | [d1, d2, d3, d4] => { results := [.lit (.bool true)], args := [d1, d2, d3, d4] }
  | _ => none }
def fnExactPartsOfRow : OpenClaim := { program := "ytkognphcekdgdaa", sum := "06c7d771fff9ac854c9c4e08c2b136a37f7f24405e8450cd9c46231ffa04f697", func := "loop.example/balancedpipes/laws.FnExactPartsOf", spec := "fnExactPartsOf", unfollowed := true, recurses := true, apart := false }
def FnExactPartsOfSaid : Prop := fnExactPartsOfRow.holds Try.pinned (OpenSpec.ofChange fnExactPartsOfSpec)

/-- ITS FALSE NEIGHBOUR: 'it returns false'. Refute it at one input. -/
def fnExactPartsOfWrong : ChangeSpec := { name := "fnExactPartsOf", fn := fun _ => fun
  | [d1, d2, d3, d4] => { results := [.lit (.bool false)], args := [d1, d2, d3, d4] }
  | _ => none }
def FnExactPartsOfWrongFalsely : Prop := fnExactPartsOfRow.holds Try.pinned (OpenSpec.ofChange fnExactPartsOfWrong)

/-- 'laws.FnExactCirculationOf': WHATEVER THE INPUT: true; the input reads as it did. -/
def fnExactCirculationOfSpec : ChangeSpec := { name := "fnExactCirculationOf", fn := fun _ => fun
  | [d] => { results := [.lit (.bool true)], args := [d] }
  | _ => none }
def fnExactCirculationOfRow : OpenClaim := { program := "ytkognphcekdgdaa", sum := "06c7d771fff9ac854c9c4e08c2b136a37f7f24405e8450cd9c46231ffa04f697", func := "loop.example/balancedpipes/laws.FnExactCirculationOf", spec := "fnExactCirculationOf", unfollowed := true, recurses := true, apart := false }
def FnExactCirculationOfSaid : Prop := fnExactCirculationOfRow.holds Try.pinned (OpenSpec.ofChange fnExactCirculationOfSpec)

/-- ITS FALSE NEIGHBOUR: 'it returns false'. Refute it at one input. -/
def fnExactCirculationOfWrong : ChangeSpec := { name := "fnExactCirculationOf", fn := fun _ => fun
  | [d] => { results := [.lit (.bool false)], args := [d] }
  | _ => none }
def FnExactCirculationOfWrongFalsely : Prop := fnExactCirculationOfRow.holds Try.pinned (OpenSpec.ofChange fnExactCirculationOfWrong)

/-- 'laws.FnExactBlockingSide': WHATEVER THE INPUT: true; the input reads as it did. -/
def fnExactBlockingSideSpec : ChangeSpec := { name := "fnExactBlockingSide", fn := fun _ => fun
  | [d] => { results := [.lit (.bool true)], args := [d] }
  | _ => none }
def fnExactBlockingSideRow : OpenClaim := { program := "ytkognphcekdgdaa", sum := "06c7d771fff9ac854c9c4e08c2b136a37f7f24405e8450cd9c46231ffa04f697", func := "loop.example/balancedpipes/laws.FnExactBlockingSide", spec := "fnExactBlockingSide", unfollowed := true, recurses := true, apart := false }
def FnExactBlockingSideSaid : Prop := fnExactBlockingSideRow.holds Try.pinned (OpenSpec.ofChange fnExactBlockingSideSpec)

/-- ITS FALSE NEIGHBOUR: 'it returns false'. Refute it at one input. -/
def fnExactBlockingSideWrong : ChangeSpec := { name := "fnExactBlockingSide", fn := fun _ => fun
  | [d] => { results := [.lit (.bool false)], args := [d] }
  | _ => none }
def FnExactBlockingSideWrongFalsely : Prop := fnExactBlockingSideRow.holds Try.pinned (OpenSpec.ofChange fnExactBlockingSideWrong)

/-- 'laws.FnExactCountCirculations': WHATEVER THE INPUT: true; the input reads as it did. -/
def fnExactCountCirculationsSpec : ChangeSpec := { name := "fnExactCountCirculations", fn := fun _ => fun
  | [d] => { results := [.lit (.bool true)], args := [d] }
  | _ => none }
def fnExactCountCirculationsRow : OpenClaim := { program := "ytkognphcekdgdaa", sum := "06c7d771fff9ac854c9c4e08c2b136a37f7f24405e8450cd9c46231ffa04f697", func := "loop.example/balancedpipes/laws.FnExactCountCirculations", spec := "fnExactCountCirculations", unfollowed := true, recurses := true, apart := false }
def FnExactCountCirculationsSaid : Prop := fnExactCountCirculationsRow.holds Try.pinned (OpenSpec.ofChange fnExactCountCirculationsSpec)

/-- ITS FALSE NEIGHBOUR: 'it returns false'. Refute it at one input. -/
def fnExactCountCirculationsWrong : ChangeSpec := { name := "fnExactCountCirculations", fn := fun _ => fun
  | [d] => { results := [.lit (.bool false)], args := [d] }
  | _ => none }
def FnExactCountCirculationsWrongFalsely : Prop := fnExactCountCirculationsRow.holds Try.pinned (OpenSpec.ofChange fnExactCountCirculationsWrong)

/-- 'laws.FnExactWithPipe': WHATEVER THE INPUT: true; the input reads as it did. -/
def fnExactWithPipeSpec : ChangeSpec := { name := "fnExactWithPipe", fn := fun _ => fun
  | [d1, d2] => { results := [.lit (.bool true)], args := [d1, d2] }
  | _ => none }
def fnExactWithPipeRow : OpenClaim := { program := "ytkognphcekdgdaa", sum := "06c7d771fff9ac854c9c4e08c2b136a37f7f24405e8450cd9c46231ffa04f697", func := "loop.example/balancedpipes/laws.FnExactWithPipe", spec := "fnExactWithPipe", apart := false }
def FnExactWithPipeSaid : Prop := fnExactWithPipeRow.holds Try.pinned (OpenSpec.ofChange fnExactWithPipeSpec)

/-- ITS FALSE NEIGHBOUR: 'it returns false'. Refute it at one input. -/
def fnExactWithPipeWrong : ChangeSpec := { name := "fnExactWithPipe", fn := fun _ => fun
  | [d1, d2] => { results := [.lit (.bool false)], args := [d1, d2] }
  | _ => none }
def FnExactWithPipeWrongFalsely : Prop := fnExactWithPipeRow.holds Try.pinned (OpenSpec.ofChange fnExactWithPipeWrong)

/- THE SECOND FORM. 'bulk': how many values and letters a reading holds, each counted each time it is reached (what is shared counts as often as it is met; a slice's spare places count too). A statement '..UptoSaid' is the law's where the arguments, and the package variables that the reading takes, are together of bulk at most 1048576: NARROWER than '..Said'. Prove '..Said' where nothing that the law and all that it calls make is longer than what came in: it says more and counts as full. Else prove '..UptoSaid'. A law counts once. -/
mutual
def uptoBulk {H : Type} : DataW H → Nat
  | .lit (.string bytes) => bytes.length + 1
  | .lit _ => 1
  | .nil => 1
  | .ptr d => uptoBulk d + 1
  | .slice elems spare => uptoBulkAll elems + uptoBulkAll spare + 1
  | .agg parts => uptoBulkAll parts + 1
  | .iface _ d => uptoBulk d + 1
  | .map entries => uptoBulkEntries entries + 1
  | .held _ => 1
def uptoBulkAll {H : Type} : List (DataW H) → Nat
  | [] => 0
  | d :: r => uptoBulk d + uptoBulkAll r
def uptoBulkEntries {H : Type} : List (Lit × DataW H) → Nat
  | [] => 0
  | x :: r => uptoBulkEntry x + uptoBulkEntries r
def uptoBulkEntry {H : Type} : Lit × DataW H → Nat
  | (.string bytes, d) => bytes.length + uptoBulk d + 1
  | (_, d) => uptoBulk d + 1
 end
def uptoSmall : (H : Type) → List (DataW H) → Bool := fun _ ds => decide (uptoBulkAll ds ≤ 1048576)
def OpenSpec.upto (s : _root_.Go.ChangeSpec) : _root_.Go.OpenSpec := { _root_.Go.OpenSpec.ofChange s with cond := some uptoSmall }

/-- 'laws.FnExactRingsOf', WHERE WHAT IT READS IS OF BULK AT MOST 1048576: true; the input reads as it did. -/
def fnExactRingsOfUptoRow : OpenClaim := { program := "ytkognphcekdgdaa", sum := "06c7d771fff9ac854c9c4e08c2b136a37f7f24405e8450cd9c46231ffa04f697", func := "loop.example/balancedpipes/laws.FnExactRingsOf", spec := "fnExactRingsOf", unfollowed := true, recurses := true, apart := false, narrowed := true }
def FnExactRingsOfUptoSaid : Prop := fnExactRingsOfUptoRow.holds Try.pinned (OpenSpec.upto fnExactRingsOfSpec)

/-- 'laws.FnExactPartsOf', WHERE WHAT IT READS IS OF BULK AT MOST 1048576: true; the input reads as it did. -/
def fnExactPartsOfUptoRow : OpenClaim := { program := "ytkognphcekdgdaa", sum := "06c7d771fff9ac854c9c4e08c2b136a37f7f24405e8450cd9c46231ffa04f697", func := "loop.example/balancedpipes/laws.FnExactPartsOf", spec := "fnExactPartsOf", unfollowed := true, recurses := true, apart := false, narrowed := true }
def FnExactPartsOfUptoSaid : Prop := fnExactPartsOfUptoRow.holds Try.pinned (OpenSpec.upto fnExactPartsOfSpec)

/-- 'laws.FnExactCirculationOf', WHERE WHAT IT READS IS OF BULK AT MOST 1048576: true; the input reads as it did. -/
def fnExactCirculationOfUptoRow : OpenClaim := { program := "ytkognphcekdgdaa", sum := "06c7d771fff9ac854c9c4e08c2b136a37f7f24405e8450cd9c46231ffa04f697", func := "loop.example/balancedpipes/laws.FnExactCirculationOf", spec := "fnExactCirculationOf", unfollowed := true, recurses := true, apart := false, narrowed := true }
def FnExactCirculationOfUptoSaid : Prop := fnExactCirculationOfUptoRow.holds Try.pinned (OpenSpec.upto fnExactCirculationOfSpec)

/-- 'laws.FnExactBlockingSide', WHERE WHAT IT READS IS OF BULK AT MOST 1048576: true; the input reads as it did. -/
def fnExactBlockingSideUptoRow : OpenClaim := { program := "ytkognphcekdgdaa", sum := "06c7d771fff9ac854c9c4e08c2b136a37f7f24405e8450cd9c46231ffa04f697", func := "loop.example/balancedpipes/laws.FnExactBlockingSide", spec := "fnExactBlockingSide", unfollowed := true, recurses := true, apart := false, narrowed := true }
def FnExactBlockingSideUptoSaid : Prop := fnExactBlockingSideUptoRow.holds Try.pinned (OpenSpec.upto fnExactBlockingSideSpec)

/-- 'laws.FnExactCountCirculations', WHERE WHAT IT READS IS OF BULK AT MOST 1048576: true; the input reads as it did. -/
def fnExactCountCirculationsUptoRow : OpenClaim := { program := "ytkognphcekdgdaa", sum := "06c7d771fff9ac854c9c4e08c2b136a37f7f24405e8450cd9c46231ffa04f697", func := "loop.example/balancedpipes/laws.FnExactCountCirculations", spec := "fnExactCountCirculations", unfollowed := true, recurses := true, apart := false, narrowed := true }
def FnExactCountCirculationsUptoSaid : Prop := fnExactCountCirculationsUptoRow.holds Try.pinned (OpenSpec.upto fnExactCountCirculationsSpec)

/-- 'laws.FnExactWithPipe', WHERE WHAT IT READS IS OF BULK AT MOST 1048576: true; the input reads as it did. -/
def fnExactWithPipeUptoRow : OpenClaim := { program := "ytkognphcekdgdaa", sum := "06c7d771fff9ac854c9c4e08c2b136a37f7f24405e8450cd9c46231ffa04f697", func := "loop.example/balancedpipes/laws.FnExactWithPipe", spec := "fnExactWithPipe", apart := false, narrowed := true }
def FnExactWithPipeUptoSaid : Prop := fnExactWithPipeUptoRow.holds Try.pinned (OpenSpec.upto fnExactWithPipeSpec)

end Rows
end Go.Proofs.Ytkognphcekdgdaa
