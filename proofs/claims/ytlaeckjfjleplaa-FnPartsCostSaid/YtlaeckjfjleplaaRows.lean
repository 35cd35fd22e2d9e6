/-
  No cell of these rows narrows 'for every input' (looked for: loops, veiled, ifaces, maps, wideKeys, modest, calm, conditions, laid).
  DERIVED. THE GIVEN ROWS OF THIS SEAT. 9 by the template 'for every input the law returns true; each argument reads behind the call as it read before'; 0 by the template 'total and deterministic' (their statements: YtlaeckjfjleplaaTotals.lean).
  GIVEN WITH THE SEED: the statements are not yours to turn. If you find one false, say at which input.
  Laid BY PROGRAM, IN A SANDBOX (cutbox-rows.mjs): the forced cells as the released guide's own fill.sh prints them over the translation e481ed2f0ba08fef… (all of the seat's roots in one cut). By AI agents, Wed Nov 11 2026. No macro, syntax, notation, axiom, sorry.
-/
import Derived.Test.YtlaeckjfjleplaaChecked
import GoSem.Claim
import GoSem.ClaimJoined
import GoSem.ClaimMapViews
import Derived.JoinedTies
import Derived.KernelRfl
namespace Go.Proofs.Ytlaeckjfjleplaa
/- THE CELL 'sum', in the pinned program and in every row, IS THE sha256 OF THE DUMP (.gsa) THAT YtlaeckjfjleplaaProg.lean LOADS. Nothing in Lean hashes anything: it is a label: what it is worth is what the hold of that sum in a sandbox is worth. -/
noncomputable def Try.pinned : Pinned := { name := "ytlaeckjfjleplaa", sum := "e481ed2f0ba08fefa0bc6dc16ecc5e865591496c40270866f309c156687b0eaa", checked := Try.checked }
namespace Rows
def none {H : Type} : Left H := { results := [], args := [] }

/-- 'laws.FnRingOk': WHATEVER THE INPUT: true; the input reads as it did. -/
def fnRingOkSpec : ChangeSpec := { name := "fnRingOk", fn := fun _ => fun
  | [d] => { results := [.lit (.bool true)], args := [d] }
  | _ => none }
def fnRingOkRow : OpenClaim := { program := "ytlaeckjfjleplaa", sum := "e481ed2f0ba08fefa0bc6dc16ecc5e865591496c40270866f309c156687b0eaa", func := "loop.example/balancedpipes/laws.FnRingOk", spec := "fnRingOk", unfollowed := true, recurses := true, apart := false }
def FnRingOkSaid : Prop := fnRingOkRow.holds Try.pinned (OpenSpec.ofChange fnRingOkSpec)

/-- ITS FALSE NEIGHBOUR: 'it returns false'. Refute it at one input. -/
def fnRingOkWrong : ChangeSpec := { name := "fnRingOk", fn := fun _ => fun
  | [d] => { results := [.lit (.bool false)], args := [d] }
  | _ => none }
def FnRingOkWrongFalsely : Prop := fnRingOkRow.holds Try.pinned (OpenSpec.ofChange fnRingOkWrong)

/-- 'laws.FnThreadOk': WHATEVER THE INPUT: true; the input reads as it did. -/
def fnThreadOkSpec : ChangeSpec := { name := "fnThreadOk", fn := fun _ => fun
  | [d] => { results := [.lit (.bool true)], args := [d] }
  | _ => none }
def fnThreadOkRow : OpenClaim := { program := "ytlaeckjfjleplaa", sum := "e481ed2f0ba08fefa0bc6dc16ecc5e865591496c40270866f309c156687b0eaa", func := "loop.example/balancedpipes/laws.FnThreadOk", spec := "fnThreadOk", unfollowed := true, recurses := true, apart := false }
def FnThreadOkSaid : Prop := fnThreadOkRow.holds Try.pinned (OpenSpec.ofChange fnThreadOkSpec)

/-- ITS FALSE NEIGHBOUR: 'it returns false'. Refute it at one input. -/
def fnThreadOkWrong : ChangeSpec := { name := "fnThreadOk", fn := fun _ => fun
  | [d] => { results := [.lit (.bool false)], args := [d] }
  | _ => none }
def FnThreadOkWrongFalsely : Prop := fnThreadOkRow.holds Try.pinned (OpenSpec.ofChange fnThreadOkWrong)

/-- 'laws.FnRingsOf': WHATEVER THE INPUT: true; the input reads as it did. -/
def fnRingsOfSpec : ChangeSpec := { name := "fnRingsOf", fn := fun _ => fun
  | [d] => { results := [.lit (.bool true)], args := [d] }
  | _ => none }
def fnRingsOfRow : OpenClaim := { program := "ytlaeckjfjleplaa", sum := "e481ed2f0ba08fefa0bc6dc16ecc5e865591496c40270866f309c156687b0eaa", func := "loop.example/balancedpipes/laws.FnRingsOf", spec := "fnRingsOf", unfollowed := true, recurses := true, apart := false }
def FnRingsOfSaid : Prop := fnRingsOfRow.holds Try.pinned (OpenSpec.ofChange fnRingsOfSpec)

/-- ITS FALSE NEIGHBOUR: 'it returns false'. Refute it at one input. -/
def fnRingsOfWrong : ChangeSpec := { name := "fnRingsOf", fn := fun _ => fun
  | [d] => { results := [.lit (.bool false)], args := [d] }
  | _ => none }
def FnRingsOfWrongFalsely : Prop := fnRingsOfRow.holds Try.pinned (OpenSpec.ofChange fnRingsOfWrong)

/-- 'laws.FnPartsOf': WHATEVER THE INPUT: true; the input reads as it did. -/
def fnPartsOfSpec : ChangeSpec := { name := "fnPartsOf", fn := fun _ => fun
  | [d] => { results := [.lit (.bool true)], args := [d] }
  | _ => none }
def fnPartsOfRow : OpenClaim := { program := "ytlaeckjfjleplaa", sum := "e481ed2f0ba08fefa0bc6dc16ecc5e865591496c40270866f309c156687b0eaa", func := "loop.example/balancedpipes/laws.FnPartsOf", spec := "fnPartsOf", unfollowed := true, recurses := true, apart := false }
def FnPartsOfSaid : Prop := fnPartsOfRow.holds Try.pinned (OpenSpec.ofChange fnPartsOfSpec)

/-- ITS FALSE NEIGHBOUR: 'it returns false'. Refute it at one input. -/
def fnPartsOfWrong : ChangeSpec := { name := "fnPartsOf", fn := fun _ => fun
  | [d] => { results := [.lit (.bool false)], args := [d] }
  | _ => none }
def FnPartsOfWrongFalsely : Prop := fnPartsOfRow.holds Try.pinned (OpenSpec.ofChange fnPartsOfWrong)

/-- 'laws.FnThreadsClose': WHATEVER THE INPUT: true; the input reads as it did. -/
def fnThreadsCloseSpec : ChangeSpec := { name := "fnThreadsClose", fn := fun _ => fun
  | [d] => { results := [.lit (.bool true)], args := [d] }
  | _ => none }
def fnThreadsCloseRow : OpenClaim := { program := "ytlaeckjfjleplaa", sum := "e481ed2f0ba08fefa0bc6dc16ecc5e865591496c40270866f309c156687b0eaa", func := "loop.example/balancedpipes/laws.FnThreadsClose", spec := "fnThreadsClose", unfollowed := true, recurses := true, apart := false }
def FnThreadsCloseSaid : Prop := fnThreadsCloseRow.holds Try.pinned (OpenSpec.ofChange fnThreadsCloseSpec)

/-- ITS FALSE NEIGHBOUR: 'it returns false'. Refute it at one input. -/
def fnThreadsCloseWrong : ChangeSpec := { name := "fnThreadsClose", fn := fun _ => fun
  | [d] => { results := [.lit (.bool false)], args := [d] }
  | _ => none }
def FnThreadsCloseWrongFalsely : Prop := fnThreadsCloseRow.holds Try.pinned (OpenSpec.ofChange fnThreadsCloseWrong)

/-- 'laws.FnPartsCost': WHATEVER THE INPUT: true; the input reads as it did. -/
def fnPartsCostSpec : ChangeSpec := { name := "fnPartsCost", fn := fun _ => fun
  | [d] => { results := [.lit (.bool true)], args := [d] }
  | _ => none }
def fnPartsCostRow : OpenClaim := { program := "ytlaeckjfjleplaa", sum := "e481ed2f0ba08fefa0bc6dc16ecc5e865591496c40270866f309c156687b0eaa", func := "loop.example/balancedpipes/laws.FnPartsCost", spec := "fnPartsCost", unfollowed := true, recurses := true, apart := false }
def FnPartsCostSaid : Prop := fnPartsCostRow.holds Try.pinned (OpenSpec.ofChange fnPartsCostSpec)

/-- ITS FALSE NEIGHBOUR: 'it returns false'. Refute it at one input. -/
def fnPartsCostWrong : ChangeSpec := { name := "fnPartsCost", fn := fun _ => fun
  | [d] => { results := [.lit (.bool false)], args := [d] }
  | _ => none }
def FnPartsCostWrongFalsely : Prop := fnPartsCostRow.holds Try.pinned (OpenSpec.ofChange fnPartsCostWrong)

/-- 'laws.FnExactRingsOf': WHATEVER THE INPUT: true; the input reads as it did. -/
def fnExactRingsOfSpec : ChangeSpec := { name := "fnExactRingsOf", fn := fun _ => fun
  | [d1, d2] => { results := [.lit (.bool true)], args := [d1, d2] }
  | _ => none }
def fnExactRingsOfRow : OpenClaim := { program := "ytlaeckjfjleplaa", sum := "e481ed2f0ba08fefa0bc6dc16ecc5e865591496c40270866f309c156687b0eaa", func := "loop.example/balancedpipes/laws.FnExactRingsOf", spec := "fnExactRingsOf", unfollowed := true, recurses := true, apart := false }
def FnExactRingsOfSaid : Prop := fnExactRingsOfRow.holds Try.pinned (OpenSpec.ofChange fnExactRingsOfSpec)

/-- ITS FALSE NEIGHBOUR: 'it returns false'. Refute it at one input. -/
def fnExactRingsOfWrong : ChangeSpec := { name := "fnExactRingsOf", fn := fun _ => fun
  | [d1, d2] => { results := [.lit (.bool false)], args := [d1, d2] }
  | _ => none }
def FnExactRingsOfWrongFalsely : Prop := fnExactRingsOfRow.holds Try.pinned (OpenSpec.ofChange fnExactRingsOfWrong)

/-- 'laws.FnExactPartsOf': WHATEVER THE INPUT: true; the input reads as it did. -/
def fnExactPartsOfSpec : ChangeSpec := { name := "fnExactPartsOf", fn := fun _ => fun
  | [d1, d2, d3, d4] => { results := [.lit (.bool true)], args := [d1, d2, d3, d4] }
  | _ => none }
def fnExactPartsOfRow : OpenClaim := { program := "ytlaeckjfjleplaa", sum := "e481ed2f0ba08fefa0bc6dc16ecc5e865591496c40270866f309c156687b0eaa", func := "loop.example/balancedpipes/laws.FnExactPartsOf", spec := "fnExactPartsOf", unfollowed := true, recurses := true, apart := false }
def FnExactPartsOfSaid : Prop := fnExactPartsOfRow.holds Try.pinned (OpenSpec.ofChange fnExactPartsOfSpec)

/-- ITS FALSE NEIGHBOUR: 'it returns false'. Refute it at one input. -/
def fnExactPartsOfWrong : ChangeSpec := { name := "fnExactPartsOf", fn := fun _ => fun
  | [d1, d2, d3, d4] => { results := [.lit (.bool false)], args := [d1, d2, d3, d4] }
  | _ => none }
def FnExactPartsOfWrongFalsely : Prop := fnExactPartsOfRow.holds Try.pinned (OpenSpec.ofChange fnExactPartsOfWrong)

/-- 'laws.FnExactCountCirculations': WHATEVER THE INPUT: true; the input reads as it did. -/
def fnExactCountCirculationsSpec : ChangeSpec := { name := "fnExactCountCirculations", fn := fun _ => fun
  | [d] => { results := [.lit (.bool true)], args := [d] }
  | _ => none }
def fnExactCountCirculationsRow : OpenClaim := { program := "ytlaeckjfjleplaa", sum := "e481ed2f0ba08fefa0bc6dc16ecc5e865591496c40270866f309c156687b0eaa", func := "loop.example/balancedpipes/laws.FnExactCountCirculations", spec := "fnExactCountCirculations", unfollowed := true, recurses := true, apart := false }
def FnExactCountCirculationsSaid : Prop := fnExactCountCirculationsRow.holds Try.pinned (OpenSpec.ofChange fnExactCountCirculationsSpec)

/-- ITS FALSE NEIGHBOUR: 'it returns false'. Refute it at one input. -/
def fnExactCountCirculationsWrong : ChangeSpec := { name := "fnExactCountCirculations", fn := fun _ => fun
  | [d] => { results := [.lit (.bool false)], args := [d] }
  | _ => none }
def FnExactCountCirculationsWrongFalsely : Prop := fnExactCountCirculationsRow.holds Try.pinned (OpenSpec.ofChange fnExactCountCirculationsWrong)

/- THE SECOND FORM. 'bulk': how many values and letters a reading holds, each counted each time it is reached (what is shared counts as often as it is met; a slice's spare places count too). A statement '..UptoSaid' is the law's where the arguments, and the package variables that the reading takes, are together of bulk at most 1048576: NARROWER than '..Said'. Prove '..Said' where nothing that the law and all that it calls make is longer than what came in: it says more and counts as full. Else prove '..UptoSaid'. A law counts once. -/
mutual
def uptoBulk {H : Type} : DataW H → Nat
  | .lit (.string bytes) => bytes.length + 1
  | .lit _ => 1
  | .nil => 1
  | .ptr d => uptoBulk d + 1
  | .slice elems spare => uptoBulkAll elems + uptoBulkAll spare + 1
  | .agg parts => uptoBulkAll parts + 1
  | .iface _ d => uptoBulk d + 1
  | .map entries => uptoBulkEntries entries + 1
  | .held _ => 1
def uptoBulkAll {H : Type} : List (DataW H) → Nat
  | [] => 0
  | d :: r => uptoBulk d + uptoBulkAll r
def uptoBulkEntries {H : Type} : List (Lit × DataW H) → Nat
  | [] => 0
  | x :: r => uptoBulkEntry x + uptoBulkEntries r
def uptoBulkEntry {H : Type} : Lit × DataW H → Nat
  | (.string bytes, d) => bytes.length + uptoBulk d + 1
  | (_, d) => uptoBulk d + 1
 end
def uptoSmall : (H : Type) → List (DataW H) → Bool := fun _ ds => decide (uptoBulkAll ds ≤ 1048576)
def OpenSpec.upto (s : _root_.Go.ChangeSpec) : _root_.Go.OpenSpec := { _root_.Go.OpenSpec.ofChange s with cond := some uptoSmall }

/-- 'laws.FnRingOk', WHERE WHAT IT READS IS OF BULK AT MOST 1048576: true; the input reads as it did. -/
def fnRingOkUptoRow : OpenClaim := { program := "ytlaeckjfjleplaa", sum := "e481ed2f0ba08fefa0bc6dc16ecc5e865591496c40270866f309c156687b0eaa", func := "loop.example/balancedpipes/laws.FnRingOk", spec := "fnRingOk", unfollowed := true, recurses := true, apart := false, narrowed := true }
def FnRingOkUptoSaid : Prop := fnRingOkUptoRow.holds Try.pinned (OpenSpec.upto fnRingOkSpec)

/-- 'laws.FnThreadOk', WHERE WHAT IT READS IS OF BULK AT MOST 1048576: true; the input reads as it did. -/
def fnThreadOkUptoRow : OpenClaim := { program := "ytlaeckjfjleplaa", sum := "e481ed2f0ba08fefa0bc6dc16ecc5e865591496c40270866f309c156687b0eaa", func := "loop.example/balancedpipes/laws.FnThreadOk", spec := "fnThreadOk", unfollowed := true, recurses := true, apart := false, narrowed := true }
def FnThreadOkUptoSaid : Prop := fnThreadOkUptoRow.holds Try.pinned (OpenSpec.upto fnThreadOkSpec)

/-- 'laws.FnRingsOf', WHERE WHAT IT READS IS OF BULK AT MOST 1048576: true; the input reads as it did. -/
def fnRingsOfUptoRow : OpenClaim := { program := "ytlaeckjfjleplaa", sum := "e481ed2f0ba08fefa0bc6dc16ecc5e865591496c40270866f309c156687b0eaa", func := "loop.example/balancedpipes/laws.FnRingsOf", spec := "fnRingsOf", unfollowed := true, recurses := true, apart := false, narrowed := true }
def FnRingsOfUptoSaid : Prop := fnRingsOfUptoRow.holds Try.pinned (OpenSpec.upto fnRingsOfSpec)

/-- 'laws.FnPartsOf', WHERE WHAT IT READS IS OF BULK AT MOST 1048576: true; the input reads as it did. -/
def fnPartsOfUptoRow : OpenClaim := { program := "ytlaeckjfjleplaa", sum := "e481ed2f0ba08fefa0bc6dc16ecc5e865591496c40270866f309c156687b0eaa", func := "loop.example/balancedpipes/laws.FnPartsOf", spec := "fnPartsOf", unfollowed := true, recurses := true, apart := false, narrowed := true }
def FnPartsOfUptoSaid : Prop := fnPartsOfUptoRow.holds Try.pinned (OpenSpec.upto fnPartsOfSpec)

/-- 'laws.FnThreadsClose', WHERE WHAT IT READS IS OF BULK AT MOST 1048576: true; the input reads as it did. -/
def fnThreadsCloseUptoRow : OpenClaim := { program := "ytlaeckjfjleplaa", sum := "e481ed2f0ba08fefa0bc6dc16ecc5e865591496c40270866f309c156687b0eaa", func := "loop.example/balancedpipes/laws.FnThreadsClose", spec := "fnThreadsClose", unfollowed := true, recurses := true, apart := false, narrowed := true }
def FnThreadsCloseUptoSaid : Prop := fnThreadsCloseUptoRow.holds Try.pinned (OpenSpec.upto fnThreadsCloseSpec)

/-- 'laws.FnPartsCost', WHERE WHAT IT READS IS OF BULK AT MOST 1048576: true; the input reads as it did. -/
def fnPartsCostUptoRow : OpenClaim := { program := "ytlaeckjfjleplaa", sum := "e481ed2f0ba08fefa0bc6dc16ecc5e865591496c40270866f309c156687b0eaa", func := "loop.example/balancedpipes/laws.FnPartsCost", spec := "fnPartsCost", unfollowed := true, recurses := true, apart := false, narrowed := true }
def FnPartsCostUptoSaid : Prop := fnPartsCostUptoRow.holds Try.pinned (OpenSpec.upto fnPartsCostSpec)

/-- 'laws.FnExactRingsOf', WHERE WHAT IT READS IS OF BULK AT MOST 1048576: true; the input reads as it did. -/
def fnExactRingsOfUptoRow : OpenClaim := { program := "ytlaeckjfjleplaa", sum := "e481ed2f0ba08fefa0bc6dc16ecc5e865591496c40270866f309c156687b0eaa", func := "loop.example/balancedpipes/laws.FnExactRingsOf", spec := "fnExactRingsOf", unfollowed := true, recurses := true, apart := false, narrowed := true }
def FnExactRingsOfUptoSaid : Prop := fnExactRingsOfUptoRow.holds Try.pinned (OpenSpec.upto fnExactRingsOfSpec)

/-- 'laws.FnExactPartsOf', WHERE WHAT IT READS IS OF BULK AT MOST 1048576: true; the input reads as it did. -/
def fnExactPartsOfUptoRow : OpenClaim := { program := "ytlaeckjfjleplaa", sum := "e481ed2f0ba08fefa0bc6dc16ecc5e865591496c40270866f309c156687b0eaa", func := "loop.example/balancedpipes/laws.FnExactPartsOf", spec := "fnExactPartsOf", unfollowed := true, recurses := true, apart := false, narrowed := true }
def FnExactPartsOfUptoSaid : Prop := fnExactPartsOfUptoRow.holds Try.pinned (OpenSpec.upto fnExactPartsOfSpec)

/-- 'laws.FnExactCountCirculations', WHERE WHAT IT READS IS OF BULK AT MOST 1048576: true; the input reads as it did. -/
def fnExactCountCirculationsUptoRow : OpenClaim := { program := "ytlaeckjfjleplaa", sum := "e481ed2f0ba08fefa0bc6dc16ecc5e865591496c40270866f309c156687b0eaa", func := "loop.example/balancedpipes/laws.FnExactCountCirculations", spec := "fnExactCountCirculations", unfollowed := true, recurses := true, apart := false, narrowed := true }
def FnExactCountCirculationsUptoSaid : Prop := fnExactCountCirculationsUptoRow.holds Try.pinned (OpenSpec.upto fnExactCountCirculationsSpec)

end Rows
end Go.Proofs.Ytlaeckjfjleplaa
