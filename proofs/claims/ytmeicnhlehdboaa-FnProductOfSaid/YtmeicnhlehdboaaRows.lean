/-
  No cell of these rows narrows 'for every input' (looked for: loops, veiled, ifaces, maps, wideKeys, modest, calm, conditions, laid).
  DERIVED. THE GIVEN ROWS OF THIS SEAT. 7 by the template 'for every input the law returns true; each argument reads behind the call as it read before'; 0 by the template 'total and deterministic' (their statements: YtmeicnhlehdboaaTotals.lean).
  GIVEN WITH THE SEED: the statements are not yours to turn. If you find one false, say at which input.
  Laid BY PROGRAM, IN A SANDBOX (cutbox-rows.mjs): the forced cells as the released guide's own fill.sh prints them over the translation 1cd4ce2fc4246a44… (all of the seat's roots in one cut). By AI agents, Wed Nov 11 2026. No macro, syntax, notation, axiom, sorry.
-/
import Derived.Test.YtmeicnhlehdboaaChecked
import GoSem.Claim
import GoSem.ClaimJoined
import GoSem.ClaimMapViews
import Derived.JoinedTies
import Derived.KernelRfl
namespace Go.Proofs.Ytmeicnhlehdboaa
/- THE CELL 'sum', in the pinned program and in every row, IS THE sha256 OF THE DUMP (.gsa) THAT YtmeicnhlehdboaaProg.lean LOADS. Nothing in Lean hashes anything: it is a label: what it is worth is what the hold of that sum in a sandbox is worth. -/
noncomputable def Try.pinned : Pinned := { name := "ytmeicnhlehdboaa", sum := "1cd4ce2fc4246a444164373220e2f15d9c36c0be57f7d097e0d9fb2adad74b79", checked := Try.checked }
namespace Rows
def none {H : Type} : Left H := { results := [], args := [] }

/-- 'laws.FnTreePipes': WHATEVER THE INPUT: true; the input reads as it did. -/
def fnTreePipesSpec : ChangeSpec := { name := "fnTreePipes", fn := fun _ => fun
  | [d] => { results := [.lit (.bool true)], args := [d] }
  | _ => none }
def fnTreePipesRow : OpenClaim := { program := "ytmeicnhlehdboaa", sum := "1cd4ce2fc4246a444164373220e2f15d9c36c0be57f7d097e0d9fb2adad74b79", func := "loop.example/balancedpipes/laws.FnTreePipes", spec := "fnTreePipes", unfollowed := true, recurses := true, apart := false }
def FnTreePipesSaid : Prop := fnTreePipesRow.holds Try.pinned (OpenSpec.ofChange fnTreePipesSpec)

/-- ITS FALSE NEIGHBOUR: 'it returns false'. Refute it at one input. -/
def fnTreePipesWrong : ChangeSpec := { name := "fnTreePipes", fn := fun _ => fun
  | [d] => { results := [.lit (.bool false)], args := [d] }
  | _ => none }
def FnTreePipesWrongFalsely : Prop := fnTreePipesRow.holds Try.pinned (OpenSpec.ofChange fnTreePipesWrong)

/-- 'laws.FnPiecesOf': WHATEVER THE INPUT: true; the input reads as it did. -/
def fnPiecesOfSpec : ChangeSpec := { name := "fnPiecesOf", fn := fun _ => fun
  | [d] => { results := [.lit (.bool true)], args := [d] }
  | _ => none }
def fnPiecesOfRow : OpenClaim := { program := "ytmeicnhlehdboaa", sum := "1cd4ce2fc4246a444164373220e2f15d9c36c0be57f7d097e0d9fb2adad74b79", func := "loop.example/balancedpipes/laws.FnPiecesOf", spec := "fnPiecesOf", unfollowed := true, recurses := true, apart := false }
def FnPiecesOfSaid : Prop := fnPiecesOfRow.holds Try.pinned (OpenSpec.ofChange fnPiecesOfSpec)

/-- ITS FALSE NEIGHBOUR: 'it returns false'. Refute it at one input. -/
def fnPiecesOfWrong : ChangeSpec := { name := "fnPiecesOf", fn := fun _ => fun
  | [d] => { results := [.lit (.bool false)], args := [d] }
  | _ => none }
def FnPiecesOfWrongFalsely : Prop := fnPiecesOfRow.holds Try.pinned (OpenSpec.ofChange fnPiecesOfWrong)

/-- 'laws.FnTensionOf': WHATEVER THE INPUT: true; the input reads as it did. -/
def fnTensionOfSpec : ChangeSpec := { name := "fnTensionOf", fn := fun _ => fun
  | [d] => { results := [.lit (.bool true)], args := [d] }
  | _ => none }
def fnTensionOfRow : OpenClaim := { program := "ytmeicnhlehdboaa", sum := "1cd4ce2fc4246a444164373220e2f15d9c36c0be57f7d097e0d9fb2adad74b79", func := "loop.example/balancedpipes/laws.FnTensionOf", spec := "fnTensionOf", unfollowed := true, recurses := true, apart := false }
def FnTensionOfSaid : Prop := fnTensionOfRow.holds Try.pinned (OpenSpec.ofChange fnTensionOfSpec)

/-- ITS FALSE NEIGHBOUR: 'it returns false'. Refute it at one input. -/
def fnTensionOfWrong : ChangeSpec := { name := "fnTensionOf", fn := fun _ => fun
  | [d] => { results := [.lit (.bool false)], args := [d] }
  | _ => none }
def FnTensionOfWrongFalsely : Prop := fnTensionOfRow.holds Try.pinned (OpenSpec.ofChange fnTensionOfWrong)

/-- 'laws.FnProductOf': WHATEVER THE INPUT: true; the input reads as it did. -/
def fnProductOfSpec : ChangeSpec := { name := "fnProductOf", fn := fun _ => fun
  | [d1, d2] => { results := [.lit (.bool true)], args := [d1, d2] }
  | _ => none }
def fnProductOfRow : OpenClaim := { program := "ytmeicnhlehdboaa", sum := "1cd4ce2fc4246a444164373220e2f15d9c36c0be57f7d097e0d9fb2adad74b79", func := "loop.example/balancedpipes/laws.FnProductOf", spec := "fnProductOf", unfollowed := true, recurses := true, apart := false }
def FnProductOfSaid : Prop := fnProductOfRow.holds Try.pinned (OpenSpec.ofChange fnProductOfSpec)

/-- ITS FALSE NEIGHBOUR: 'it returns false'. Refute it at one input. -/
def fnProductOfWrong : ChangeSpec := { name := "fnProductOf", fn := fun _ => fun
  | [d1, d2] => { results := [.lit (.bool false)], args := [d1, d2] }
  | _ => none }
def FnProductOfWrongFalsely : Prop := fnProductOfRow.holds Try.pinned (OpenSpec.ofChange fnProductOfWrong)

/-- 'laws.FnRingSigns': WHATEVER THE INPUT: true; the input reads as it did. -/
def fnRingSignsSpec : ChangeSpec := { name := "fnRingSigns", fn := fun _ => fun
  | [d] => { results := [.lit (.bool true)], args := [d] }
  | _ => none }
def fnRingSignsRow : OpenClaim := { program := "ytmeicnhlehdboaa", sum := "1cd4ce2fc4246a444164373220e2f15d9c36c0be57f7d097e0d9fb2adad74b79", func := "loop.example/balancedpipes/laws.FnRingSigns", spec := "fnRingSigns", unfollowed := true, recurses := true, apart := false }
def FnRingSignsSaid : Prop := fnRingSignsRow.holds Try.pinned (OpenSpec.ofChange fnRingSignsSpec)

/-- ITS FALSE NEIGHBOUR: 'it returns false'. Refute it at one input. -/
def fnRingSignsWrong : ChangeSpec := { name := "fnRingSigns", fn := fun _ => fun
  | [d] => { results := [.lit (.bool false)], args := [d] }
  | _ => none }
def FnRingSignsWrongFalsely : Prop := fnRingSignsRow.holds Try.pinned (OpenSpec.ofChange fnRingSignsWrong)

/-- 'laws.FnRingsTell': WHATEVER THE INPUT: true; the input reads as it did. -/
def fnRingsTellSpec : ChangeSpec := { name := "fnRingsTell", fn := fun _ => fun
  | [d] => { results := [.lit (.bool true)], args := [d] }
  | _ => none }
def fnRingsTellRow : OpenClaim := { program := "ytmeicnhlehdboaa", sum := "1cd4ce2fc4246a444164373220e2f15d9c36c0be57f7d097e0d9fb2adad74b79", func := "loop.example/balancedpipes/laws.FnRingsTell", spec := "fnRingsTell", unfollowed := true, recurses := true, apart := false }
def FnRingsTellSaid : Prop := fnRingsTellRow.holds Try.pinned (OpenSpec.ofChange fnRingsTellSpec)

/-- ITS FALSE NEIGHBOUR: 'it returns false'. Refute it at one input. -/
def fnRingsTellWrong : ChangeSpec := { name := "fnRingsTell", fn := fun _ => fun
  | [d] => { results := [.lit (.bool false)], args := [d] }
  | _ => none }
def FnRingsTellWrongFalsely : Prop := fnRingsTellRow.holds Try.pinned (OpenSpec.ofChange fnRingsTellWrong)

/-- 'laws.FnSideTension': WHATEVER THE INPUT: true; the input reads as it did. -/
def fnSideTensionSpec : ChangeSpec := { name := "fnSideTension", fn := fun _ => fun
  | [d] => { results := [.lit (.bool true)], args := [d] }
  | _ => none }
def fnSideTensionRow : OpenClaim := { program := "ytmeicnhlehdboaa", sum := "1cd4ce2fc4246a444164373220e2f15d9c36c0be57f7d097e0d9fb2adad74b79", func := "loop.example/balancedpipes/laws.FnSideTension", spec := "fnSideTension", unfollowed := true, recurses := true, apart := false }
def FnSideTensionSaid : Prop := fnSideTensionRow.holds Try.pinned (OpenSpec.ofChange fnSideTensionSpec)

/-- ITS FALSE NEIGHBOUR: 'it returns false'. Refute it at one input. -/
def fnSideTensionWrong : ChangeSpec := { name := "fnSideTension", fn := fun _ => fun
  | [d] => { results := [.lit (.bool false)], args := [d] }
  | _ => none }
def FnSideTensionWrongFalsely : Prop := fnSideTensionRow.holds Try.pinned (OpenSpec.ofChange fnSideTensionWrong)

/- THE SECOND FORM. 'bulk': how many values and letters a reading holds, each counted each time it is reached (what is shared counts as often as it is met; a slice's spare places count too). A statement '..UptoSaid' is the law's where the arguments, and the package variables that the reading takes, are together of bulk at most 1048576: NARROWER than '..Said'. Prove '..Said' where nothing that the law and all that it calls make is longer than what came in: it says more and counts as full. Else prove '..UptoSaid'. A law counts once. -/
mutual
def uptoBulk {H : Type} : DataW H → Nat
  | .lit (.string bytes) => bytes.length + 1
  | .lit _ => 1
  | .nil => 1
  | .ptr d => uptoBulk d + 1
  | .slice elems spare => uptoBulkAll elems + uptoBulkAll spare + 1
  | .agg parts => uptoBulkAll parts + 1
  | .iface _ d => uptoBulk d + 1
  | .map entries => uptoBulkEntries entries + 1
  | .held _ => 1
def uptoBulkAll {H : Type} : List (DataW H) → Nat
  | [] => 0
  | d :: r => uptoBulk d + uptoBulkAll r
def uptoBulkEntries {H : Type} : List (Lit × DataW H) → Nat
  | [] => 0
  | x :: r => uptoBulkEntry x + uptoBulkEntries r
def uptoBulkEntry {H : Type} : Lit × DataW H → Nat
  | (.string bytes, d) => bytes.length + uptoBulk d + 1
  | (_, d) => uptoBulk d + 1
 end
def uptoSmall : (H : Type) → List (DataW H) → Bool := fun _ ds => decide (uptoBulkAll ds ≤ 1048576)
def OpenSpec.upto (s : _root_.Go.ChangeSpec) : _root_.Go.OpenSpec := { _root_.Go.OpenSpec.ofChange s with cond := some uptoSmall }

/-- 'laws.FnTreePipes', WHERE WHAT IT READS IS OF BULK AT MOST 1048576: true; the input reads as it did. -/
def fnTreePipesUptoRow : OpenClaim := { program := "ytmeicnhlehdboaa", sum := "1cd4ce2fc4246a444164373220e2f15d9c36c0be57f7d097e0d9fb2adad74b79", func := "loop.example/balancedpipes/laws.FnTreePipes", spec := "fnTreePipes", unfollowed := true, recurses := true, apart := false, narrowed := true }
def FnTreePipesUptoSaid : Prop := fnTreePipesUptoRow.holds Try.pinned (OpenSpec.upto fnTreePipesSpec)

/-- 'laws.FnPiecesOf', WHERE WHAT IT READS IS OF BULK AT MOST 1048576: true; the input reads as it did. -/
def fnPiecesOfUptoRow : OpenClaim := { program := "ytmeicnhlehdboaa", sum := "1cd4ce2fc4246a444164373220e2f15d9c36c0be57f7d097e0d9fb2adad74b79", func := "loop.example/balancedpipes/laws.FnPiecesOf", spec := "fnPiecesOf", unfollowed := true, recurses := true, apart := false, narrowed := true }
def FnPiecesOfUptoSaid : Prop := fnPiecesOfUptoRow.holds Try.pinned (OpenSpec.upto fnPiecesOfSpec)

/-- 'laws.FnTensionOf', WHERE WHAT IT READS IS OF BULK AT MOST 1048576: true; the input reads as it did. -/
def fnTensionOfUptoRow : OpenClaim := { program := "ytmeicnhlehdboaa", sum := "1cd4ce2fc4246a444164373220e2f15d9c36c0be57f7d097e0d9fb2adad74b79", func := "loop.example/balancedpipes/laws.FnTensionOf", spec := "fnTensionOf", unfollowed := true, recurses := true, apart := false, narrowed := true }
def FnTensionOfUptoSaid : Prop := fnTensionOfUptoRow.holds Try.pinned (OpenSpec.upto fnTensionOfSpec)

/-- 'laws.FnProductOf', WHERE WHAT IT READS IS OF BULK AT MOST 1048576: true; the input reads as it did. -/
def fnProductOfUptoRow : OpenClaim := { program := "ytmeicnhlehdboaa", sum := "1cd4ce2fc4246a444164373220e2f15d9c36c0be57f7d097e0d9fb2adad74b79", func := "loop.example/balancedpipes/laws.FnProductOf", spec := "fnProductOf", unfollowed := true, recurses := true, apart := false, narrowed := true }
def FnProductOfUptoSaid : Prop := fnProductOfUptoRow.holds Try.pinned (OpenSpec.upto fnProductOfSpec)

/-- 'laws.FnRingSigns', WHERE WHAT IT READS IS OF BULK AT MOST 1048576: true; the input reads as it did. -/
def fnRingSignsUptoRow : OpenClaim := { program := "ytmeicnhlehdboaa", sum := "1cd4ce2fc4246a444164373220e2f15d9c36c0be57f7d097e0d9fb2adad74b79", func := "loop.example/balancedpipes/laws.FnRingSigns", spec := "fnRingSigns", unfollowed := true, recurses := true, apart := false, narrowed := true }
def FnRingSignsUptoSaid : Prop := fnRingSignsUptoRow.holds Try.pinned (OpenSpec.upto fnRingSignsSpec)

/-- 'laws.FnRingsTell', WHERE WHAT IT READS IS OF BULK AT MOST 1048576: true; the input reads as it did. -/
def fnRingsTellUptoRow : OpenClaim := { program := "ytmeicnhlehdboaa", sum := "1cd4ce2fc4246a444164373220e2f15d9c36c0be57f7d097e0d9fb2adad74b79", func := "loop.example/balancedpipes/laws.FnRingsTell", spec := "fnRingsTell", unfollowed := true, recurses := true, apart := false, narrowed := true }
def FnRingsTellUptoSaid : Prop := fnRingsTellUptoRow.holds Try.pinned (OpenSpec.upto fnRingsTellSpec)

/-- 'laws.FnSideTension', WHERE WHAT IT READS IS OF BULK AT MOST 1048576: true; the input reads as it did. -/
def fnSideTensionUptoRow : OpenClaim := { program := "ytmeicnhlehdboaa", sum := "1cd4ce2fc4246a444164373220e2f15d9c36c0be57f7d097e0d9fb2adad74b79", func := "loop.example/balancedpipes/laws.FnSideTension", spec := "fnSideTension", unfollowed := true, recurses := true, apart := false, narrowed := true }
def FnSideTensionUptoSaid : Prop := fnSideTensionUptoRow.holds Try.pinned (OpenSpec.upto fnSideTensionSpec)

end Rows
end Go.Proofs.Ytmeicnhlehdboaa
