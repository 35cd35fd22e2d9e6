/-
  No cell of these rows narrows 'for every input' (looked for: loops, veiled, ifaces, maps, wideKeys, modest, calm, conditions, laid).
  DERIVED. THE GIVEN ROWS OF THIS SEAT. 8 by the template 'for every input the law returns true; each argument reads behind the call as it read before'; 0 by the template 'total and deterministic' (their statements: YtphbmlephldaaaaTotals.lean).
  GIVEN WITH THE SEED: the statements are not yours to turn. If you find one false, say at which input.
  Laid BY PROGRAM, IN A SANDBOX (cutbox-rows.mjs): the forced cells as the released guide's own fill.sh prints them over the translation 47070051415dd0ab… (all of the seat's roots in one cut). By AI agents, Wed Nov 11 2026. No macro, syntax, notation, axiom, sorry.
-/
import Derived.Test.YtphbmlephldaaaaChecked
import GoSem.Claim
import GoSem.ClaimJoined
import GoSem.ClaimMapViews
import Derived.JoinedTies
import Derived.KernelRfl
namespace Go.Proofs.Ytphbmlephldaaaa
/- THE CELL 'sum', in the pinned program and in every row, IS THE sha256 OF THE DUMP (.gsa) THAT YtphbmlephldaaaaProg.lean LOADS. Nothing in Lean hashes anything: it is a label: what it is worth is what the hold of that sum in a sandbox is worth. -/
noncomputable def Try.pinned : Pinned := { name := "ytphbmlephldaaaa", sum := "47070051415dd0aba1f076743a4541ba41f189728b96eb77028333141fae1a16", checked := Try.checked }
namespace Rows
def none {H : Type} : Left H := { results := [], args := [] }

/-- 'laws.FnGreatestValue': WHATEVER THE INPUT: true; the input reads as it did. -/
def fnGreatestValueSpec : ChangeSpec := { name := "fnGreatestValue", fn := fun _ => fun
  | [d] => { results := [.lit (.bool true)], args := [d] }
  | _ => none }
def fnGreatestValueRow : OpenClaim := { program := "ytphbmlephldaaaa", sum := "47070051415dd0aba1f076743a4541ba41f189728b96eb77028333141fae1a16", func := "loop.example/balancedpipes/laws.FnGreatestValue", spec := "fnGreatestValue", unfollowed := true, recurses := true, apart := false }
def FnGreatestValueSaid : Prop := fnGreatestValueRow.holds Try.pinned (OpenSpec.ofChange fnGreatestValueSpec)

/-- ITS FALSE NEIGHBOUR: 'it returns false'. Refute it at one input. -/
def fnGreatestValueWrong : ChangeSpec := { name := "fnGreatestValue", fn := fun _ => fun
  | [d] => { results := [.lit (.bool false)], args := [d] }
  | _ => none }
def FnGreatestValueWrongFalsely : Prop := fnGreatestValueRow.holds Try.pinned (OpenSpec.ofChange fnGreatestValueWrong)

/-- 'laws.FnBlockingSide': WHATEVER THE INPUT: true; the input reads as it did. -/
def fnBlockingSideSpec : ChangeSpec := { name := "fnBlockingSide", fn := fun _ => fun
  | [d] => { results := [.lit (.bool true)], args := [d] }
  | _ => none }
def fnBlockingSideRow : OpenClaim := { program := "ytphbmlephldaaaa", sum := "47070051415dd0aba1f076743a4541ba41f189728b96eb77028333141fae1a16", func := "loop.example/balancedpipes/laws.FnBlockingSide", spec := "fnBlockingSide", unfollowed := true, recurses := true, apart := false }
def FnBlockingSideSaid : Prop := fnBlockingSideRow.holds Try.pinned (OpenSpec.ofChange fnBlockingSideSpec)

/-- ITS FALSE NEIGHBOUR: 'it returns false'. Refute it at one input. -/
def fnBlockingSideWrong : ChangeSpec := { name := "fnBlockingSide", fn := fun _ => fun
  | [d] => { results := [.lit (.bool false)], args := [d] }
  | _ => none }
def FnBlockingSideWrongFalsely : Prop := fnBlockingSideRow.holds Try.pinned (OpenSpec.ofChange fnBlockingSideWrong)

/-- 'laws.FnCountCirculations': WHATEVER THE INPUT: true; the input reads as it did. -/
def fnCountCirculationsSpec : ChangeSpec := { name := "fnCountCirculations", fn := fun _ => fun
  | [d] => { results := [.lit (.bool true)], args := [d] }
  | _ => none }
def fnCountCirculationsRow : OpenClaim := { program := "ytphbmlephldaaaa", sum := "47070051415dd0aba1f076743a4541ba41f189728b96eb77028333141fae1a16", func := "loop.example/balancedpipes/laws.FnCountCirculations", spec := "fnCountCirculations", unfollowed := true, recurses := true, apart := false }
def FnCountCirculationsSaid : Prop := fnCountCirculationsRow.holds Try.pinned (OpenSpec.ofChange fnCountCirculationsSpec)

/-- ITS FALSE NEIGHBOUR: 'it returns false'. Refute it at one input. -/
def fnCountCirculationsWrong : ChangeSpec := { name := "fnCountCirculations", fn := fun _ => fun
  | [d] => { results := [.lit (.bool false)], args := [d] }
  | _ => none }
def FnCountCirculationsWrongFalsely : Prop := fnCountCirculationsRow.holds Try.pinned (OpenSpec.ofChange fnCountCirculationsWrong)

/-- 'laws.FnCostOf': WHATEVER THE INPUT: true; the input reads as it did. -/
def fnCostOfSpec : ChangeSpec := { name := "fnCostOf", fn := fun _ => fun
  | [d] => { results := [.lit (.bool true)], args := [d] }
  | _ => none }
def fnCostOfRow : OpenClaim := { program := "ytphbmlephldaaaa", sum := "47070051415dd0aba1f076743a4541ba41f189728b96eb77028333141fae1a16", func := "loop.example/balancedpipes/laws.FnCostOf", spec := "fnCostOf", unfollowed := true, recurses := true, apart := false }
def FnCostOfSaid : Prop := fnCostOfRow.holds Try.pinned (OpenSpec.ofChange fnCostOfSpec)

/-- ITS FALSE NEIGHBOUR: 'it returns false'. Refute it at one input. -/
def fnCostOfWrong : ChangeSpec := { name := "fnCostOf", fn := fun _ => fun
  | [d] => { results := [.lit (.bool false)], args := [d] }
  | _ => none }
def FnCostOfWrongFalsely : Prop := fnCostOfRow.holds Try.pinned (OpenSpec.ofChange fnCostOfWrong)

/-- 'laws.FnPiecesOf': WHATEVER THE INPUT: true; the input reads as it did. -/
def fnPiecesOfSpec : ChangeSpec := { name := "fnPiecesOf", fn := fun _ => fun
  | [d] => { results := [.lit (.bool true)], args := [d] }
  | _ => none }
def fnPiecesOfRow : OpenClaim := { program := "ytphbmlephldaaaa", sum := "47070051415dd0aba1f076743a4541ba41f189728b96eb77028333141fae1a16", func := "loop.example/balancedpipes/laws.FnPiecesOf", spec := "fnPiecesOf", unfollowed := true, recurses := true, apart := false }
def FnPiecesOfSaid : Prop := fnPiecesOfRow.holds Try.pinned (OpenSpec.ofChange fnPiecesOfSpec)

/-- ITS FALSE NEIGHBOUR: 'it returns false'. Refute it at one input. -/
def fnPiecesOfWrong : ChangeSpec := { name := "fnPiecesOf", fn := fun _ => fun
  | [d] => { results := [.lit (.bool false)], args := [d] }
  | _ => none }
def FnPiecesOfWrongFalsely : Prop := fnPiecesOfRow.holds Try.pinned (OpenSpec.ofChange fnPiecesOfWrong)

/-- 'laws.FnNeedsOk': WHATEVER THE INPUT: true; the input reads as it did. -/
def fnNeedsOkSpec : ChangeSpec := { name := "fnNeedsOk", fn := fun _ => fun
  | [d] => { results := [.lit (.bool true)], args := [d] }
  | _ => none }
def fnNeedsOkRow : OpenClaim := { program := "ytphbmlephldaaaa", sum := "47070051415dd0aba1f076743a4541ba41f189728b96eb77028333141fae1a16", func := "loop.example/balancedpipes/laws.FnNeedsOk", spec := "fnNeedsOk", unfollowed := true, recurses := true, apart := false }
def FnNeedsOkSaid : Prop := fnNeedsOkRow.holds Try.pinned (OpenSpec.ofChange fnNeedsOkSpec)

/-- ITS FALSE NEIGHBOUR: 'it returns false'. Refute it at one input. -/
def fnNeedsOkWrong : ChangeSpec := { name := "fnNeedsOk", fn := fun _ => fun
  | [d] => { results := [.lit (.bool false)], args := [d] }
  | _ => none }
def FnNeedsOkWrongFalsely : Prop := fnNeedsOkRow.holds Try.pinned (OpenSpec.ofChange fnNeedsOkWrong)

/-- 'laws.FnFeedsOk': WHATEVER THE INPUT: true; the input reads as it did. -/
def fnFeedsOkSpec : ChangeSpec := { name := "fnFeedsOk", fn := fun _ => fun
  | [d] => { results := [.lit (.bool true)], args := [d] }
  | _ => none }
def fnFeedsOkRow : OpenClaim := { program := "ytphbmlephldaaaa", sum := "47070051415dd0aba1f076743a4541ba41f189728b96eb77028333141fae1a16", func := "loop.example/balancedpipes/laws.FnFeedsOk", spec := "fnFeedsOk", unfollowed := true, recurses := true, apart := false }
def FnFeedsOkSaid : Prop := fnFeedsOkRow.holds Try.pinned (OpenSpec.ofChange fnFeedsOkSpec)

/-- ITS FALSE NEIGHBOUR: 'it returns false'. Refute it at one input. -/
def fnFeedsOkWrong : ChangeSpec := { name := "fnFeedsOk", fn := fun _ => fun
  | [d] => { results := [.lit (.bool false)], args := [d] }
  | _ => none }
def FnFeedsOkWrongFalsely : Prop := fnFeedsOkRow.holds Try.pinned (OpenSpec.ofChange fnFeedsOkWrong)

/-- 'laws.FnCheapestFeed': WHATEVER THE INPUT: true; the input reads as it did. -/
def fnCheapestFeedSpec : ChangeSpec := { name := "fnCheapestFeed", fn := fun _ => fun
  | [d] => { results := [.lit (.bool true)], args := [d] }
  | _ => none }
def fnCheapestFeedRow : OpenClaim := { program := "ytphbmlephldaaaa", sum := "47070051415dd0aba1f076743a4541ba41f189728b96eb77028333141fae1a16", func := "loop.example/balancedpipes/laws.FnCheapestFeed", spec := "fnCheapestFeed", unfollowed := true, recurses := true, apart := false }
def FnCheapestFeedSaid : Prop := fnCheapestFeedRow.holds Try.pinned (OpenSpec.ofChange fnCheapestFeedSpec)

/-- ITS FALSE NEIGHBOUR: 'it returns false'. Refute it at one input. -/
def fnCheapestFeedWrong : ChangeSpec := { name := "fnCheapestFeed", fn := fun _ => fun
  | [d] => { results := [.lit (.bool false)], args := [d] }
  | _ => none }
def FnCheapestFeedWrongFalsely : Prop := fnCheapestFeedRow.holds Try.pinned (OpenSpec.ofChange fnCheapestFeedWrong)

/- THE SECOND FORM. 'bulk': how many values and letters a reading holds, each counted each time it is reached (what is shared counts as often as it is met; a slice's spare places count too). A statement '..UptoSaid' is the law's where the arguments, and the package variables that the reading takes, are together of bulk at most 1048576: NARROWER than '..Said'. Prove '..Said' where nothing that the law and all that it calls make is longer than what came in: it says more and counts as full. Else prove '..UptoSaid'. A law counts once. -/
mutual
def uptoBulk {H : Type} : DataW H → Nat
  | .lit (.string bytes) => bytes.length + 1
  | .lit _ => 1
  | .nil => 1
  | .ptr d => uptoBulk d + 1
  | .slice elems spare => uptoBulkAll elems + uptoBulkAll spare + 1
  | .agg parts => uptoBulkAll parts + 1
  | .iface _ d => uptoBulk d + 1
  | .map entries => uptoBulkEntries entries + 1
  | .held _ => 1
def uptoBulkAll {H : Type} : List (DataW H) → Nat
  | [] => 0
  | d :: r => uptoBulk d + uptoBulkAll r
def uptoBulkEntries {H : Type} : List (Lit × DataW H) → Nat
  | [] => 0
  | x :: r => uptoBulkEntry x + uptoBulkEntries r
def uptoBulkEntry {H : Type} : Lit × DataW H → Nat
  | (.string bytes, d) => bytes.length + uptoBulk d + 1
  | (_, d) => uptoBulk d + 1
 end
def uptoSmall : (H : Type) → List (DataW H) → Bool := fun _ ds => decide (uptoBulkAll ds ≤ 1048576)
def OpenSpec.upto (s : _root_.Go.ChangeSpec) : _root_.Go.OpenSpec := { _root_.Go.OpenSpec.ofChange s with cond := some uptoSmall }

/-- 'laws.FnGreatestValue', WHERE WHAT IT READS IS OF BULK AT MOST 1048576: true; the input reads as it did. -/
def fnGreatestValueUptoRow : OpenClaim := { program := "ytphbmlephldaaaa", sum := "47070051415dd0aba1f076743a4541ba41f189728b96eb77028333141fae1a16", func := "loop.example/balancedpipes/laws.FnGreatestValue", spec := "fnGreatestValue", unfollowed := true, recurses := true, apart := false, narrowed := true }
def FnGreatestValueUptoSaid : Prop := fnGreatestValueUptoRow.holds Try.pinned (OpenSpec.upto fnGreatestValueSpec)

/-- 'laws.FnBlockingSide', WHERE WHAT IT READS IS OF BULK AT MOST 1048576: true; the input reads as it did. -/
def fnBlockingSideUptoRow : OpenClaim := { program := "ytphbmlephldaaaa", sum := "47070051415dd0aba1f076743a4541ba41f189728b96eb77028333141fae1a16", func := "loop.example/balancedpipes/laws.FnBlockingSide", spec := "fnBlockingSide", unfollowed := true, recurses := true, apart := false, narrowed := true }
def FnBlockingSideUptoSaid : Prop := fnBlockingSideUptoRow.holds Try.pinned (OpenSpec.upto fnBlockingSideSpec)

/-- 'laws.FnCountCirculations', WHERE WHAT IT READS IS OF BULK AT MOST 1048576: true; the input reads as it did. -/
def fnCountCirculationsUptoRow : OpenClaim := { program := "ytphbmlephldaaaa", sum := "47070051415dd0aba1f076743a4541ba41f189728b96eb77028333141fae1a16", func := "loop.example/balancedpipes/laws.FnCountCirculations", spec := "fnCountCirculations", unfollowed := true, recurses := true, apart := false, narrowed := true }
def FnCountCirculationsUptoSaid : Prop := fnCountCirculationsUptoRow.holds Try.pinned (OpenSpec.upto fnCountCirculationsSpec)

/-- 'laws.FnCostOf', WHERE WHAT IT READS IS OF BULK AT MOST 1048576: true; the input reads as it did. -/
def fnCostOfUptoRow : OpenClaim := { program := "ytphbmlephldaaaa", sum := "47070051415dd0aba1f076743a4541ba41f189728b96eb77028333141fae1a16", func := "loop.example/balancedpipes/laws.FnCostOf", spec := "fnCostOf", unfollowed := true, recurses := true, apart := false, narrowed := true }
def FnCostOfUptoSaid : Prop := fnCostOfUptoRow.holds Try.pinned (OpenSpec.upto fnCostOfSpec)

/-- 'laws.FnPiecesOf', WHERE WHAT IT READS IS OF BULK AT MOST 1048576: true; the input reads as it did. -/
def fnPiecesOfUptoRow : OpenClaim := { program := "ytphbmlephldaaaa", sum := "47070051415dd0aba1f076743a4541ba41f189728b96eb77028333141fae1a16", func := "loop.example/balancedpipes/laws.FnPiecesOf", spec := "fnPiecesOf", unfollowed := true, recurses := true, apart := false, narrowed := true }
def FnPiecesOfUptoSaid : Prop := fnPiecesOfUptoRow.holds Try.pinned (OpenSpec.upto fnPiecesOfSpec)

/-- 'laws.FnNeedsOk', WHERE WHAT IT READS IS OF BULK AT MOST 1048576: true; the input reads as it did. -/
def fnNeedsOkUptoRow : OpenClaim := { program := "ytphbmlephldaaaa", sum := "47070051415dd0aba1f076743a4541ba41f189728b96eb77028333141fae1a16", func := "loop.example/balancedpipes/laws.FnNeedsOk", spec := "fnNeedsOk", unfollowed := true, recurses := true, apart := false, narrowed := true }
def FnNeedsOkUptoSaid : Prop := fnNeedsOkUptoRow.holds Try.pinned (OpenSpec.upto fnNeedsOkSpec)

/-- 'laws.FnFeedsOk', WHERE WHAT IT READS IS OF BULK AT MOST 1048576: true; the input reads as it did. -/
def fnFeedsOkUptoRow : OpenClaim := { program := "ytphbmlephldaaaa", sum := "47070051415dd0aba1f076743a4541ba41f189728b96eb77028333141fae1a16", func := "loop.example/balancedpipes/laws.FnFeedsOk", spec := "fnFeedsOk", unfollowed := true, recurses := true, apart := false, narrowed := true }
def FnFeedsOkUptoSaid : Prop := fnFeedsOkUptoRow.holds Try.pinned (OpenSpec.upto fnFeedsOkSpec)

/-- 'laws.FnCheapestFeed', WHERE WHAT IT READS IS OF BULK AT MOST 1048576: true; the input reads as it did. -/
def fnCheapestFeedUptoRow : OpenClaim := { program := "ytphbmlephldaaaa", sum := "47070051415dd0aba1f076743a4541ba41f189728b96eb77028333141fae1a16", func := "loop.example/balancedpipes/laws.FnCheapestFeed", spec := "fnCheapestFeed", unfollowed := true, recurses := true, apart := false, narrowed := true }
def FnCheapestFeedUptoSaid : Prop := fnCheapestFeedUptoRow.holds Try.pinned (OpenSpec.upto fnCheapestFeedSpec)

end Rows
end Go.Proofs.Ytphbmlephldaaaa
