/-
  No cell of these rows narrows 'for every input' (looked for: loops, veiled, ifaces, maps, wideKeys, modest, calm, conditions, laid).
  DERIVED. THE GIVEN ROWS OF THIS SEAT. 5 by the template 'for every input the law returns true; each argument reads behind the call as it read before'; 0 by the template 'total and deterministic' (their statements: YtdlgjmjgelginaaTotals.lean).
  GIVEN WITH THE SEED: the statements are not yours to turn. If you find one false, say at which input.
  Laid BY PROGRAM, IN A SANDBOX (cutbox-rows.mjs): the forced cells as the released guide's own fill.sh prints them over the translation cd604f32761ec5da… (all of the seat's roots in one cut). By AI agents, Wed Nov 11 2026. No macro, syntax, notation, axiom, sorry.
-/
import Derived.Test.YtdlgjmjgelginaaChecked
import GoSem.Claim
import GoSem.ClaimJoined
import GoSem.ClaimMapViews
import Derived.JoinedTies
import Derived.KernelRfl
namespace Go.Proofs.Ytdlgjmjgelginaa
/- THE CELL 'sum', in the pinned program and in every row, IS THE sha256 OF THE DUMP (.gsa) THAT YtdlgjmjgelginaaProg.lean LOADS. Nothing in Lean hashes anything: it is a label: what it is worth is what the hold of that sum in a sandbox is worth. -/
noncomputable def Try.pinned : Pinned := { name := "ytdlgjmjgelginaa", sum := "cd604f32761ec5da2073f9f9b09c9655107255db1093410761fcdf9be36fc1ef", checked := Try.checked }
namespace Rows
def none {H : Type} : Left H := { results := [], args := [] }

/-- 'laws.FnExactTreePipes': WHATEVER THE INPUT: true; the input reads as it did. -/
def fnExactTreePipesSpec : ChangeSpec := { name := "fnExactTreePipes", fn := fun _ => fun
  | [d] => { results := [.lit (.bool true)], args := [d] }
  | _ => none }
def fnExactTreePipesRow : OpenClaim := { program := "ytdlgjmjgelginaa", sum := "cd604f32761ec5da2073f9f9b09c9655107255db1093410761fcdf9be36fc1ef", func := "loop.example/balancedpipes/laws.FnExactTreePipes", spec := "fnExactTreePipes", apart := false }
def FnExactTreePipesSaid : Prop := fnExactTreePipesRow.holds Try.pinned (OpenSpec.ofChange fnExactTreePipesSpec)

/-- ITS FALSE NEIGHBOUR: 'it returns false'. Refute it at one input. -/
def fnExactTreePipesWrong : ChangeSpec := { name := "fnExactTreePipes", fn := fun _ => fun
  | [d] => { results := [.lit (.bool false)], args := [d] }
  | _ => none }
def FnExactTreePipesWrongFalsely : Prop := fnExactTreePipesRow.holds Try.pinned (OpenSpec.ofChange fnExactTreePipesWrong)

/-- 'laws.FnExactPiecesOf': WHATEVER THE INPUT: true; the input reads as it did. -/
def fnExactPiecesOfSpec : ChangeSpec := { name := "fnExactPiecesOf", fn := fun _ => fun
  | [d] => { results := [.lit (.bool true)], args := [d] }
  | _ => none }
def fnExactPiecesOfRow : OpenClaim := { program := "ytdlgjmjgelginaa", sum := "cd604f32761ec5da2073f9f9b09c9655107255db1093410761fcdf9be36fc1ef", func := "loop.example/balancedpipes/laws.FnExactPiecesOf", spec := "fnExactPiecesOf", unfollowed := true, recurses := true, apart := false }
def FnExactPiecesOfSaid : Prop := fnExactPiecesOfRow.holds Try.pinned (OpenSpec.ofChange fnExactPiecesOfSpec)

/-- ITS FALSE NEIGHBOUR: 'it returns false'. Refute it at one input. -/
def fnExactPiecesOfWrong : ChangeSpec := { name := "fnExactPiecesOf", fn := fun _ => fun
  | [d] => { results := [.lit (.bool false)], args := [d] }
  | _ => none }
def FnExactPiecesOfWrongFalsely : Prop := fnExactPiecesOfRow.holds Try.pinned (OpenSpec.ofChange fnExactPiecesOfWrong)

/-- 'laws.FnExactTensionOf': WHATEVER THE INPUT: true; the input reads as it did. -/
def fnExactTensionOfSpec : ChangeSpec := { name := "fnExactTensionOf", fn := fun _ => fun
  | [d1, d2] => { results := [.lit (.bool true)], args := [d1, d2] }
  | _ => none }
def fnExactTensionOfRow : OpenClaim := { program := "ytdlgjmjgelginaa", sum := "cd604f32761ec5da2073f9f9b09c9655107255db1093410761fcdf9be36fc1ef", func := "loop.example/balancedpipes/laws.FnExactTensionOf", spec := "fnExactTensionOf", unfollowed := true, recurses := true, apart := false }
def FnExactTensionOfSaid : Prop := fnExactTensionOfRow.holds Try.pinned (OpenSpec.ofChange fnExactTensionOfSpec)

/-- ITS FALSE NEIGHBOUR: 'it returns false'. Refute it at one input. -/
def fnExactTensionOfWrong : ChangeSpec := { name := "fnExactTensionOf", fn := fun _ => fun
  | [d1, d2] => { results := [.lit (.bool false)], args := [d1, d2] }
  | _ => none }
def FnExactTensionOfWrongFalsely : Prop := fnExactTensionOfRow.holds Try.pinned (OpenSpec.ofChange fnExactTensionOfWrong)

/-- 'laws.FnExactProductOf': WHATEVER THE INPUT: true; the input reads as it did. -/
def fnExactProductOfSpec : ChangeSpec := { name := "fnExactProductOf", fn := fun _ => fun
  | [d1, d2, d3] => { results := [.lit (.bool true)], args := [d1, d2, d3] }
  | _ => none }
def fnExactProductOfRow : OpenClaim := { program := "ytdlgjmjgelginaa", sum := "cd604f32761ec5da2073f9f9b09c9655107255db1093410761fcdf9be36fc1ef", func := "loop.example/balancedpipes/laws.FnExactProductOf", spec := "fnExactProductOf", unfollowed := true, recurses := true, apart := false }
def FnExactProductOfSaid : Prop := fnExactProductOfRow.holds Try.pinned (OpenSpec.ofChange fnExactProductOfSpec)

/-- ITS FALSE NEIGHBOUR: 'it returns false'. Refute it at one input. -/
def fnExactProductOfWrong : ChangeSpec := { name := "fnExactProductOf", fn := fun _ => fun
  | [d1, d2, d3] => { results := [.lit (.bool false)], args := [d1, d2, d3] }
  | _ => none }
def FnExactProductOfWrongFalsely : Prop := fnExactProductOfRow.holds Try.pinned (OpenSpec.ofChange fnExactProductOfWrong)

/-- 'laws.FnExactRingSigns': WHATEVER THE INPUT: true; the input reads as it did. -/
def fnExactRingSignsSpec : ChangeSpec := { name := "fnExactRingSigns", fn := fun _ => fun
  | [d1, d2] => { results := [.lit (.bool true)], args := [d1, d2] }
  | _ => none }
def fnExactRingSignsRow : OpenClaim := { program := "ytdlgjmjgelginaa", sum := "cd604f32761ec5da2073f9f9b09c9655107255db1093410761fcdf9be36fc1ef", func := "loop.example/balancedpipes/laws.FnExactRingSigns", spec := "fnExactRingSigns", unfollowed := true, recurses := true, apart := false }
def FnExactRingSignsSaid : Prop := fnExactRingSignsRow.holds Try.pinned (OpenSpec.ofChange fnExactRingSignsSpec)

/-- ITS FALSE NEIGHBOUR: 'it returns false'. Refute it at one input. -/
def fnExactRingSignsWrong : ChangeSpec := { name := "fnExactRingSigns", fn := fun _ => fun
  | [d1, d2] => { results := [.lit (.bool false)], args := [d1, d2] }
  | _ => none }
def FnExactRingSignsWrongFalsely : Prop := fnExactRingSignsRow.holds Try.pinned (OpenSpec.ofChange fnExactRingSignsWrong)

/- THE SECOND FORM. 'bulk': how many values and letters a reading holds, each counted each time it is reached (what is shared counts as often as it is met; a slice's spare places count too). A statement '..UptoSaid' is the law's where the arguments, and the package variables that the reading takes, are together of bulk at most 1048576: NARROWER than '..Said'. Prove '..Said' where nothing that the law and all that it calls make is longer than what came in: it says more and counts as full. Else prove '..UptoSaid'. A law counts once. -/
mutual
def uptoBulk {H : Type} : DataW H → Nat
  | .lit (.string bytes) => bytes.length + 1
  | .lit _ => 1
  | .nil => 1
  | .ptr d => uptoBulk d + 1
  | .slice elems spare => uptoBulkAll elems + uptoBulkAll spare + 1
  | .agg parts => uptoBulkAll parts + 1
  | .iface _ d => uptoBulk d + 1
  | .map entries => uptoBulkEntries entries + 1
  | .held _ => 1
def uptoBulkAll {H : Type} : List (DataW H) → Nat
  | [] => 0
  | d :: r => uptoBulk d + uptoBulkAll r
def uptoBulkEntries {H : Type} : List (Lit × DataW H) → Nat
  | [] => 0
  | x :: r => uptoBulkEntry x + uptoBulkEntries r
def uptoBulkEntry {H : Type} : Lit × DataW H → Nat
  | (.string bytes, d) => bytes.length + uptoBulk d + 1
  | (_, d) => uptoBulk d + 1
 end
def uptoSmall : (H : Type) → List (DataW H) → Bool := fun _ ds => decide (uptoBulkAll ds ≤ 1048576)
def OpenSpec.upto (s : _root_.Go.ChangeSpec) : _root_.Go.OpenSpec := { _root_.Go.OpenSpec.ofChange s with cond := some uptoSmall }

/-- 'laws.FnExactTreePipes', WHERE WHAT IT READS IS OF BULK AT MOST 1048576: true; the input reads as it did. -/
def fnExactTreePipesUptoRow : OpenClaim := { program := "ytdlgjmjgelginaa", sum := "cd604f32761ec5da2073f9f9b09c9655107255db1093410761fcdf9be36fc1ef", func := "loop.example/balancedpipes/laws.FnExactTreePipes", spec := "fnExactTreePipes", apart := false, narrowed := true }
def FnExactTreePipesUptoSaid : Prop := fnExactTreePipesUptoRow.holds Try.pinned (OpenSpec.upto fnExactTreePipesSpec)

/-- 'laws.FnExactPiecesOf', WHERE WHAT IT READS IS OF BULK AT MOST 1048576: true; the input reads as it did. -/
def fnExactPiecesOfUptoRow : OpenClaim := { program := "ytdlgjmjgelginaa", sum := "cd604f32761ec5da2073f9f9b09c9655107255db1093410761fcdf9be36fc1ef", func := "loop.example/balancedpipes/laws.FnExactPiecesOf", spec := "fnExactPiecesOf", unfollowed := true, recurses := true, apart := false, narrowed := true }
def FnExactPiecesOfUptoSaid : Prop := fnExactPiecesOfUptoRow.holds Try.pinned (OpenSpec.upto fnExactPiecesOfSpec)

/-- 'laws.FnExactTensionOf', WHERE WHAT IT READS IS OF BULK AT MOST 1048576: true; the input reads as it did. -/
def fnExactTensionOfUptoRow : OpenClaim := { program := "ytdlgjmjgelginaa", sum := "cd604f32761ec5da2073f9f9b09c9655107255db1093410761fcdf9be36fc1ef", func := "loop.example/balancedpipes/laws.FnExactTensionOf", spec := "fnExactTensionOf", unfollowed := true, recurses := true, apart := false, narrowed := true }
def FnExactTensionOfUptoSaid : Prop := fnExactTensionOfUptoRow.holds Try.pinned (OpenSpec.upto fnExactTensionOfSpec)

/-- 'laws.FnExactProductOf', WHERE WHAT IT READS IS OF BULK AT MOST 1048576: true; the input reads as it did. -/
def fnExactProductOfUptoRow : OpenClaim := { program := "ytdlgjmjgelginaa", sum := "cd604f32761ec5da2073f9f9b09c9655107255db1093410761fcdf9be36fc1ef", func := "loop.example/balancedpipes/laws.FnExactProductOf", spec := "fnExactProductOf", unfollowed := true, recurses := true, apart := false, narrowed := true }
def FnExactProductOfUptoSaid : Prop := fnExactProductOfUptoRow.holds Try.pinned (OpenSpec.upto fnExactProductOfSpec)

/-- 'laws.FnExactRingSigns', WHERE WHAT IT READS IS OF BULK AT MOST 1048576: true; the input reads as it did. -/
def fnExactRingSignsUptoRow : OpenClaim := { program := "ytdlgjmjgelginaa", sum := "cd604f32761ec5da2073f9f9b09c9655107255db1093410761fcdf9be36fc1ef", func := "loop.example/balancedpipes/laws.FnExactRingSigns", spec := "fnExactRingSigns", unfollowed := true, recurses := true, apart := false, narrowed := true }
def FnExactRingSignsUptoSaid : Prop := fnExactRingSignsUptoRow.holds Try.pinned (OpenSpec.upto fnExactRingSignsSpec)

end Rows
end Go.Proofs.Ytdlgjmjgelginaa
