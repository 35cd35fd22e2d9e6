/-
  No cell of these rows narrows 'for every input' (looked for: loops, veiled, ifaces, maps, wideKeys, modest, calm, conditions, laid).
  DERIVED. THE GIVEN ROWS OF THIS SEAT. 7 by the template 'for every input the law returns true; each argument reads behind the call as it read before'; 0 by the template 'total and deterministic' (their statements: YtfdcojbdklcaiaaTotals.lean).
  GIVEN WITH THE SEED: the statements are not yours to turn. If you find one false, say at which input.
  Laid BY PROGRAM, IN A SANDBOX (cutbox-rows.mjs): the forced cells as the released guide's own fill.sh prints them over the translation d79466862684626e… (all of the seat's roots in one cut). By AI agents, Wed Nov 11 2026. No macro, syntax, notation, axiom, sorry.
-/
import Derived.Test.YtfdcojbdklcaiaaChecked
import GoSem.Claim
import GoSem.ClaimJoined
import GoSem.ClaimMapViews
import Derived.JoinedTies
import Derived.KernelRfl
namespace Go.Proofs.Ytfdcojbdklcaiaa
/- THE CELL 'sum', in the pinned program and in every row, IS THE sha256 OF THE DUMP (.gsa) THAT YtfdcojbdklcaiaaProg.lean LOADS. Nothing in Lean hashes anything: it is a label: what it is worth is what the hold of that sum in a sandbox is worth. -/
noncomputable def Try.pinned : Pinned := { name := "ytfdcojbdklcaiaa", sum := "d79466862684626e2180d43975f50a897311c1160f2de8f3a276428face3f7a7", checked := Try.checked }
namespace Rows
def none {H : Type} : Left H := { results := [], args := [] }

/-- 'laws.FnExactNeedsOk': WHATEVER THE INPUT: true; the input reads as it did. -/
def fnExactNeedsOkSpec : ChangeSpec := { name := "fnExactNeedsOk", fn := fun _ => fun
  | [d1, d2] => { results := [.lit (.bool true)], args := [d1, d2] }
  | _ => none }
def fnExactNeedsOkRow : OpenClaim := { program := "ytfdcojbdklcaiaa", sum := "d79466862684626e2180d43975f50a897311c1160f2de8f3a276428face3f7a7", func := "loop.example/balancedpipes/laws.FnExactNeedsOk", spec := "fnExactNeedsOk", unfollowed := true, recurses := true, apart := false }
def FnExactNeedsOkSaid : Prop := fnExactNeedsOkRow.holds Try.pinned (OpenSpec.ofChange fnExactNeedsOkSpec)

/-- ITS FALSE NEIGHBOUR: 'it returns false'. Refute it at one input. -/
def fnExactNeedsOkWrong : ChangeSpec := { name := "fnExactNeedsOk", fn := fun _ => fun
  | [d1, d2] => { results := [.lit (.bool false)], args := [d1, d2] }
  | _ => none }
def FnExactNeedsOkWrongFalsely : Prop := fnExactNeedsOkRow.holds Try.pinned (OpenSpec.ofChange fnExactNeedsOkWrong)

/-- 'laws.FnExactFeedsOk': WHATEVER THE INPUT: true; the input reads as it did. -/
def fnExactFeedsOkSpec : ChangeSpec := { name := "fnExactFeedsOk", fn := fun _ => fun
  | [d1, d2, d3] => { results := [.lit (.bool true)], args := [d1, d2, d3] }
  | _ => none }
def fnExactFeedsOkRow : OpenClaim := { program := "ytfdcojbdklcaiaa", sum := "d79466862684626e2180d43975f50a897311c1160f2de8f3a276428face3f7a7", func := "loop.example/balancedpipes/laws.FnExactFeedsOk", spec := "fnExactFeedsOk", unfollowed := true, recurses := true, apart := false }
def FnExactFeedsOkSaid : Prop := fnExactFeedsOkRow.holds Try.pinned (OpenSpec.ofChange fnExactFeedsOkSpec)

/-- ITS FALSE NEIGHBOUR: 'it returns false'. Refute it at one input. -/
def fnExactFeedsOkWrong : ChangeSpec := { name := "fnExactFeedsOk", fn := fun _ => fun
  | [d1, d2, d3] => { results := [.lit (.bool false)], args := [d1, d2, d3] }
  | _ => none }
def FnExactFeedsOkWrongFalsely : Prop := fnExactFeedsOkRow.holds Try.pinned (OpenSpec.ofChange fnExactFeedsOkWrong)

/-- 'laws.FnExactFeedingOf': WHATEVER THE INPUT: true; the input reads as it did. -/
def fnExactFeedingOfSpec : ChangeSpec := { name := "fnExactFeedingOf", fn := fun _ => fun
  | [d1, d2] => { results := [.lit (.bool true)], args := [d1, d2] }
  | _ => none }
def fnExactFeedingOfRow : OpenClaim := { program := "ytfdcojbdklcaiaa", sum := "d79466862684626e2180d43975f50a897311c1160f2de8f3a276428face3f7a7", func := "loop.example/balancedpipes/laws.FnExactFeedingOf", spec := "fnExactFeedingOf", unfollowed := true, recurses := true, apart := false }
def FnExactFeedingOfSaid : Prop := fnExactFeedingOfRow.holds Try.pinned (OpenSpec.ofChange fnExactFeedingOfSpec)

/-- ITS FALSE NEIGHBOUR: 'it returns false'. Refute it at one input. -/
def fnExactFeedingOfWrong : ChangeSpec := { name := "fnExactFeedingOf", fn := fun _ => fun
  | [d1, d2] => { results := [.lit (.bool false)], args := [d1, d2] }
  | _ => none }
def FnExactFeedingOfWrongFalsely : Prop := fnExactFeedingOfRow.holds Try.pinned (OpenSpec.ofChange fnExactFeedingOfWrong)

/-- 'laws.FnExactShortSide': WHATEVER THE INPUT: true; the input reads as it did. -/
def fnExactShortSideSpec : ChangeSpec := { name := "fnExactShortSide", fn := fun _ => fun
  | [d1, d2] => { results := [.lit (.bool true)], args := [d1, d2] }
  | _ => none }
def fnExactShortSideRow : OpenClaim := { program := "ytfdcojbdklcaiaa", sum := "d79466862684626e2180d43975f50a897311c1160f2de8f3a276428face3f7a7", func := "loop.example/balancedpipes/laws.FnExactShortSide", spec := "fnExactShortSide", unfollowed := true, recurses := true, apart := false }
def FnExactShortSideSaid : Prop := fnExactShortSideRow.holds Try.pinned (OpenSpec.ofChange fnExactShortSideSpec)

/-- ITS FALSE NEIGHBOUR: 'it returns false'. Refute it at one input. -/
def fnExactShortSideWrong : ChangeSpec := { name := "fnExactShortSide", fn := fun _ => fun
  | [d1, d2] => { results := [.lit (.bool false)], args := [d1, d2] }
  | _ => none }
def FnExactShortSideWrongFalsely : Prop := fnExactShortSideRow.holds Try.pinned (OpenSpec.ofChange fnExactShortSideWrong)

/-- 'laws.FnExactCheapestFeed': WHATEVER THE INPUT: true; the input reads as it did. -/
def fnExactCheapestFeedSpec : ChangeSpec := { name := "fnExactCheapestFeed", fn := fun _ => fun
  | [d1, d2] => { results := [.lit (.bool true)], args := [d1, d2] }
  | _ => none }
def fnExactCheapestFeedRow : OpenClaim := { program := "ytfdcojbdklcaiaa", sum := "d79466862684626e2180d43975f50a897311c1160f2de8f3a276428face3f7a7", func := "loop.example/balancedpipes/laws.FnExactCheapestFeed", spec := "fnExactCheapestFeed", unfollowed := true, recurses := true, apart := false }
def FnExactCheapestFeedSaid : Prop := fnExactCheapestFeedRow.holds Try.pinned (OpenSpec.ofChange fnExactCheapestFeedSpec)

/-- ITS FALSE NEIGHBOUR: 'it returns false'. Refute it at one input. -/
def fnExactCheapestFeedWrong : ChangeSpec := { name := "fnExactCheapestFeed", fn := fun _ => fun
  | [d1, d2] => { results := [.lit (.bool false)], args := [d1, d2] }
  | _ => none }
def FnExactCheapestFeedWrongFalsely : Prop := fnExactCheapestFeedRow.holds Try.pinned (OpenSpec.ofChange fnExactCheapestFeedWrong)

/-- 'laws.FnExactCirculationOf': WHATEVER THE INPUT: true; the input reads as it did. -/
def fnExactCirculationOfSpec : ChangeSpec := { name := "fnExactCirculationOf", fn := fun _ => fun
  | [d] => { results := [.lit (.bool true)], args := [d] }
  | _ => none }
def fnExactCirculationOfRow : OpenClaim := { program := "ytfdcojbdklcaiaa", sum := "d79466862684626e2180d43975f50a897311c1160f2de8f3a276428face3f7a7", func := "loop.example/balancedpipes/laws.FnExactCirculationOf", spec := "fnExactCirculationOf", unfollowed := true, recurses := true, apart := false }
def FnExactCirculationOfSaid : Prop := fnExactCirculationOfRow.holds Try.pinned (OpenSpec.ofChange fnExactCirculationOfSpec)

/-- ITS FALSE NEIGHBOUR: 'it returns false'. Refute it at one input. -/
def fnExactCirculationOfWrong : ChangeSpec := { name := "fnExactCirculationOf", fn := fun _ => fun
  | [d] => { results := [.lit (.bool false)], args := [d] }
  | _ => none }
def FnExactCirculationOfWrongFalsely : Prop := fnExactCirculationOfRow.holds Try.pinned (OpenSpec.ofChange fnExactCirculationOfWrong)

/-- 'laws.FnExactBlockingSide': WHATEVER THE INPUT: true; the input reads as it did. -/
def fnExactBlockingSideSpec : ChangeSpec := { name := "fnExactBlockingSide", fn := fun _ => fun
  | [d] => { results := [.lit (.bool true)], args := [d] }
  | _ => none }
def fnExactBlockingSideRow : OpenClaim := { program := "ytfdcojbdklcaiaa", sum := "d79466862684626e2180d43975f50a897311c1160f2de8f3a276428face3f7a7", func := "loop.example/balancedpipes/laws.FnExactBlockingSide", spec := "fnExactBlockingSide", unfollowed := true, recurses := true, apart := false }
def FnExactBlockingSideSaid : Prop := fnExactBlockingSideRow.holds Try.pinned (OpenSpec.ofChange fnExactBlockingSideSpec)

/-- ITS FALSE NEIGHBOUR: 'it returns false'. Refute it at one input. -/
def fnExactBlockingSideWrong : ChangeSpec := { name := "fnExactBlockingSide", fn := fun _ => fun
  | [d] => { results := [.lit (.bool false)], args := [d] }
  | _ => none }
def FnExactBlockingSideWrongFalsely : Prop := fnExactBlockingSideRow.holds Try.pinned (OpenSpec.ofChange fnExactBlockingSideWrong)

/- THE SECOND FORM. 'bulk': how many values and letters a reading holds, each counted each time it is reached (what is shared counts as often as it is met; a slice's spare places count too). A statement '..UptoSaid' is the law's where the arguments, and the package variables that the reading takes, are together of bulk at most 1048576: NARROWER than '..Said'. Prove '..Said' where nothing that the law and all that it calls make is longer than what came in: it says more and counts as full. Else prove '..UptoSaid'. A law counts once. -/
mutual
def uptoBulk {H : Type} : DataW H → Nat
  | .lit (.string bytes) => bytes.length + 1
  | .lit _ => 1
  | .nil => 1
  | .ptr d => uptoBulk d + 1
  | .slice elems spare => uptoBulkAll elems + uptoBulkAll spare + 1
  | .agg parts => uptoBulkAll parts + 1
  | .iface _ d => uptoBulk d + 1
  | .map entries => uptoBulkEntries entries + 1
  | .held _ => 1
def uptoBulkAll {H : Type} : List (DataW H) → Nat
  | [] => 0
  | d :: r => uptoBulk d + uptoBulkAll r
def uptoBulkEntries {H : Type} : List (Lit × DataW H) → Nat
  | [] => 0
  | x :: r => uptoBulkEntry x + uptoBulkEntries r
def uptoBulkEntry {H : Type} : Lit × DataW H → Nat
  | (.string bytes, d) => bytes.length + uptoBulk d + 1
  | (_, d) => uptoBulk d + 1
 end
def uptoSmall : (H : Type) → List (DataW H) → Bool := fun _ ds => decide (uptoBulkAll ds ≤ 1048576)
def OpenSpec.upto (s : _root_.Go.ChangeSpec) : _root_.Go.OpenSpec := { _root_.Go.OpenSpec.ofChange s with cond := some uptoSmall }

/-- 'laws.FnExactNeedsOk', WHERE WHAT IT READS IS OF BULK AT MOST 1048576: true; the input reads as it did. -/
def fnExactNeedsOkUptoRow : OpenClaim := { program := "ytfdcojbdklcaiaa", sum := "d79466862684626e2180d43975f50a897311c1160f2de8f3a276428face3f7a7", func := "loop.example/balancedpipes/laws.FnExactNeedsOk", spec := "fnExactNeedsOk", unfollowed := true, recurses := true, apart := false, narrowed := true }
def FnExactNeedsOkUptoSaid : Prop := fnExactNeedsOkUptoRow.holds Try.pinned (OpenSpec.upto fnExactNeedsOkSpec)

/-- 'laws.FnExactFeedsOk', WHERE WHAT IT READS IS OF BULK AT MOST 1048576: true; the input reads as it did. -/
def fnExactFeedsOkUptoRow : OpenClaim := { program := "ytfdcojbdklcaiaa", sum := "d79466862684626e2180d43975f50a897311c1160f2de8f3a276428face3f7a7", func := "loop.example/balancedpipes/laws.FnExactFeedsOk", spec := "fnExactFeedsOk", unfollowed := true, recurses := true, apart := false, narrowed := true }
def FnExactFeedsOkUptoSaid : Prop := fnExactFeedsOkUptoRow.holds Try.pinned (OpenSpec.upto fnExactFeedsOkSpec)

/-- 'laws.FnExactFeedingOf', WHERE WHAT IT READS IS OF BULK AT MOST 1048576: true; the input reads as it did. -/
def fnExactFeedingOfUptoRow : OpenClaim := { program := "ytfdcojbdklcaiaa", sum := "d79466862684626e2180d43975f50a897311c1160f2de8f3a276428face3f7a7", func := "loop.example/balancedpipes/laws.FnExactFeedingOf", spec := "fnExactFeedingOf", unfollowed := true, recurses := true, apart := false, narrowed := true }
def FnExactFeedingOfUptoSaid : Prop := fnExactFeedingOfUptoRow.holds Try.pinned (OpenSpec.upto fnExactFeedingOfSpec)

/-- 'laws.FnExactShortSide', WHERE WHAT IT READS IS OF BULK AT MOST 1048576: true; the input reads as it did. -/
def fnExactShortSideUptoRow : OpenClaim := { program := "ytfdcojbdklcaiaa", sum := "d79466862684626e2180d43975f50a897311c1160f2de8f3a276428face3f7a7", func := "loop.example/balancedpipes/laws.FnExactShortSide", spec := "fnExactShortSide", unfollowed := true, recurses := true, apart := false, narrowed := true }
def FnExactShortSideUptoSaid : Prop := fnExactShortSideUptoRow.holds Try.pinned (OpenSpec.upto fnExactShortSideSpec)

/-- 'laws.FnExactCheapestFeed', WHERE WHAT IT READS IS OF BULK AT MOST 1048576: true; the input reads as it did. -/
def fnExactCheapestFeedUptoRow : OpenClaim := { program := "ytfdcojbdklcaiaa", sum := "d79466862684626e2180d43975f50a897311c1160f2de8f3a276428face3f7a7", func := "loop.example/balancedpipes/laws.FnExactCheapestFeed", spec := "fnExactCheapestFeed", unfollowed := true, recurses := true, apart := false, narrowed := true }
def FnExactCheapestFeedUptoSaid : Prop := fnExactCheapestFeedUptoRow.holds Try.pinned (OpenSpec.upto fnExactCheapestFeedSpec)

/-- 'laws.FnExactCirculationOf', WHERE WHAT IT READS IS OF BULK AT MOST 1048576: true; the input reads as it did. -/
def fnExactCirculationOfUptoRow : OpenClaim := { program := "ytfdcojbdklcaiaa", sum := "d79466862684626e2180d43975f50a897311c1160f2de8f3a276428face3f7a7", func := "loop.example/balancedpipes/laws.FnExactCirculationOf", spec := "fnExactCirculationOf", unfollowed := true, recurses := true, apart := false, narrowed := true }
def FnExactCirculationOfUptoSaid : Prop := fnExactCirculationOfUptoRow.holds Try.pinned (OpenSpec.upto fnExactCirculationOfSpec)

/-- 'laws.FnExactBlockingSide', WHERE WHAT IT READS IS OF BULK AT MOST 1048576: true; the input reads as it did. -/
def fnExactBlockingSideUptoRow : OpenClaim := { program := "ytfdcojbdklcaiaa", sum := "d79466862684626e2180d43975f50a897311c1160f2de8f3a276428face3f7a7", func := "loop.example/balancedpipes/laws.FnExactBlockingSide", spec := "fnExactBlockingSide", unfollowed := true, recurses := true, apart := false, narrowed := true }
def FnExactBlockingSideUptoSaid : Prop := fnExactBlockingSideUptoRow.holds Try.pinned (OpenSpec.upto fnExactBlockingSideSpec)

end Rows
end Go.Proofs.Ytfdcojbdklcaiaa
