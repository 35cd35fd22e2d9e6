/-
  No cell of these rows narrows 'for every input' (looked for: loops, veiled, ifaces, maps, wideKeys, modest, calm, conditions, laid).
  DERIVED. THE GIVEN ROWS OF THIS SEAT. 9 by the template 'for every input the law returns true; each argument reads behind the call as it read before'; 0 by the template 'total and deterministic' (their statements: YtlebamdgcfhdaaaTotals.lean).
  GIVEN WITH THE SEED: the statements are not yours to turn. If you find one false, say at which input.
  Laid BY PROGRAM, IN A SANDBOX (cutbox-rows.mjs): the forced cells as the released guide's own fill.sh prints them over the translation 0974d451f62b5ca8… (all of the seat's roots in one cut). By AI agents, Wed Nov 11 2026. No macro, syntax, notation, axiom, sorry.
-/
import Derived.Test.YtlebamdgcfhdaaaChecked
import GoSem.Claim
import GoSem.ClaimJoined
import GoSem.ClaimMapViews
import Derived.JoinedTies
import Derived.KernelRfl
namespace Go.Proofs.Ytlebamdgcfhdaaa
/- THE CELL 'sum', in the pinned program and in every row, IS THE sha256 OF THE DUMP (.gsa) THAT YtlebamdgcfhdaaaProg.lean LOADS. Nothing in Lean hashes anything: it is a label: what it is worth is what the hold of that sum in a sandbox is worth. -/
noncomputable def Try.pinned : Pinned := { name := "ytlebamdgcfhdaaa", sum := "0974d451f62b5ca8f5b7d8c7a77abdb026985f2681dc053a6eab9fefee5cde0d", checked := Try.checked }
namespace Rows
def none {H : Type} : Left H := { results := [], args := [] }

/-- 'laws.FnExactTurnedNet': WHATEVER THE INPUT: true; the input reads as it did. -/
def fnExactTurnedNetSpec : ChangeSpec := { name := "fnExactTurnedNet", fn := fun _ => fun
  | [d] => { results := [.lit (.bool true)], args := [d] }
  | _ => none }
def fnExactTurnedNetRow : OpenClaim := { program := "ytlebamdgcfhdaaa", sum := "0974d451f62b5ca8f5b7d8c7a77abdb026985f2681dc053a6eab9fefee5cde0d", func := "loop.example/balancedpipes/laws.FnExactTurnedNet", spec := "fnExactTurnedNet", unfollowed := true, recurses := true, apart := false }
def FnExactTurnedNetSaid : Prop := fnExactTurnedNetRow.holds Try.pinned (OpenSpec.ofChange fnExactTurnedNetSpec)

/-- ITS FALSE NEIGHBOUR: 'it returns false'. Refute it at one input. -/
def fnExactTurnedNetWrong : ChangeSpec := { name := "fnExactTurnedNet", fn := fun _ => fun
  | [d] => { results := [.lit (.bool false)], args := [d] }
  | _ => none }
def FnExactTurnedNetWrongFalsely : Prop := fnExactTurnedNetRow.holds Try.pinned (OpenSpec.ofChange fnExactTurnedNetWrong)

/-- 'laws.FnExcessAt': WHATEVER THE INPUT: true; the input reads as it did. -/
def fnExcessAtSpec : ChangeSpec := { name := "fnExcessAt", fn := fun _ => fun
  | [d] => { results := [.lit (.bool true)], args := [d] }
  | _ => none }
def fnExcessAtRow : OpenClaim := { program := "ytlebamdgcfhdaaa", sum := "0974d451f62b5ca8f5b7d8c7a77abdb026985f2681dc053a6eab9fefee5cde0d", func := "loop.example/balancedpipes/laws.FnExcessAt", spec := "fnExcessAt", unfollowed := true, recurses := true, apart := false }
def FnExcessAtSaid : Prop := fnExcessAtRow.holds Try.pinned (OpenSpec.ofChange fnExcessAtSpec)

/-- ITS FALSE NEIGHBOUR: 'it returns false'. Refute it at one input. -/
def fnExcessAtWrong : ChangeSpec := { name := "fnExcessAt", fn := fun _ => fun
  | [d] => { results := [.lit (.bool false)], args := [d] }
  | _ => none }
def FnExcessAtWrongFalsely : Prop := fnExcessAtRow.holds Try.pinned (OpenSpec.ofChange fnExcessAtWrong)

/-- 'laws.FnBalancedOk': WHATEVER THE INPUT: true; the input reads as it did. -/
def fnBalancedOkSpec : ChangeSpec := { name := "fnBalancedOk", fn := fun _ => fun
  | [d] => { results := [.lit (.bool true)], args := [d] }
  | _ => none }
def fnBalancedOkRow : OpenClaim := { program := "ytlebamdgcfhdaaa", sum := "0974d451f62b5ca8f5b7d8c7a77abdb026985f2681dc053a6eab9fefee5cde0d", func := "loop.example/balancedpipes/laws.FnBalancedOk", spec := "fnBalancedOk", unfollowed := true, recurses := true, apart := false }
def FnBalancedOkSaid : Prop := fnBalancedOkRow.holds Try.pinned (OpenSpec.ofChange fnBalancedOkSpec)

/-- ITS FALSE NEIGHBOUR: 'it returns false'. Refute it at one input. -/
def fnBalancedOkWrong : ChangeSpec := { name := "fnBalancedOk", fn := fun _ => fun
  | [d] => { results := [.lit (.bool false)], args := [d] }
  | _ => none }
def FnBalancedOkWrongFalsely : Prop := fnBalancedOkRow.holds Try.pinned (OpenSpec.ofChange fnBalancedOkWrong)

/-- 'laws.FnHoldsOk': WHATEVER THE INPUT: true; the input reads as it did. -/
def fnHoldsOkSpec : ChangeSpec := { name := "fnHoldsOk", fn := fun _ => fun
  | [d] => { results := [.lit (.bool true)], args := [d] }
  | _ => none }
def fnHoldsOkRow : OpenClaim := { program := "ytlebamdgcfhdaaa", sum := "0974d451f62b5ca8f5b7d8c7a77abdb026985f2681dc053a6eab9fefee5cde0d", func := "loop.example/balancedpipes/laws.FnHoldsOk", spec := "fnHoldsOk", unfollowed := true, recurses := true, apart := false }
def FnHoldsOkSaid : Prop := fnHoldsOkRow.holds Try.pinned (OpenSpec.ofChange fnHoldsOkSpec)

/-- ITS FALSE NEIGHBOUR: 'it returns false'. Refute it at one input. -/
def fnHoldsOkWrong : ChangeSpec := { name := "fnHoldsOk", fn := fun _ => fun
  | [d] => { results := [.lit (.bool false)], args := [d] }
  | _ => none }
def FnHoldsOkWrongFalsely : Prop := fnHoldsOkRow.holds Try.pinned (OpenSpec.ofChange fnHoldsOkWrong)

/-- 'laws.FnTurnedNet': WHATEVER THE INPUT: true; the input reads as it did. -/
def fnTurnedNetSpec : ChangeSpec := { name := "fnTurnedNet", fn := fun _ => fun
  | [d] => { results := [.lit (.bool true)], args := [d] }
  | _ => none }
def fnTurnedNetRow : OpenClaim := { program := "ytlebamdgcfhdaaa", sum := "0974d451f62b5ca8f5b7d8c7a77abdb026985f2681dc053a6eab9fefee5cde0d", func := "loop.example/balancedpipes/laws.FnTurnedNet", spec := "fnTurnedNet", unfollowed := true, recurses := true, apart := false }
def FnTurnedNetSaid : Prop := fnTurnedNetRow.holds Try.pinned (OpenSpec.ofChange fnTurnedNetSpec)

/-- ITS FALSE NEIGHBOUR: 'it returns false'. Refute it at one input. -/
def fnTurnedNetWrong : ChangeSpec := { name := "fnTurnedNet", fn := fun _ => fun
  | [d] => { results := [.lit (.bool false)], args := [d] }
  | _ => none }
def FnTurnedNetWrongFalsely : Prop := fnTurnedNetRow.holds Try.pinned (OpenSpec.ofChange fnTurnedNetWrong)

/-- 'laws.FnLeavingOf': WHATEVER THE INPUT: true; the input reads as it did. -/
def fnLeavingOfSpec : ChangeSpec := { name := "fnLeavingOf", fn := fun _ => fun
  | [d] => { results := [.lit (.bool true)], args := [d] }
  | _ => none }
def fnLeavingOfRow : OpenClaim := { program := "ytlebamdgcfhdaaa", sum := "0974d451f62b5ca8f5b7d8c7a77abdb026985f2681dc053a6eab9fefee5cde0d", func := "loop.example/balancedpipes/laws.FnLeavingOf", spec := "fnLeavingOf", unfollowed := true, recurses := true, apart := false }
def FnLeavingOfSaid : Prop := fnLeavingOfRow.holds Try.pinned (OpenSpec.ofChange fnLeavingOfSpec)

/-- ITS FALSE NEIGHBOUR: 'it returns false'. Refute it at one input. -/
def fnLeavingOfWrong : ChangeSpec := { name := "fnLeavingOf", fn := fun _ => fun
  | [d] => { results := [.lit (.bool false)], args := [d] }
  | _ => none }
def FnLeavingOfWrongFalsely : Prop := fnLeavingOfRow.holds Try.pinned (OpenSpec.ofChange fnLeavingOfWrong)

/-- 'laws.FnLeastRoom': WHATEVER THE INPUT: true; the input reads as it did. -/
def fnLeastRoomSpec : ChangeSpec := { name := "fnLeastRoom", fn := fun _ => fun
  | [d] => { results := [.lit (.bool true)], args := [d] }
  | _ => none }
def fnLeastRoomRow : OpenClaim := { program := "ytlebamdgcfhdaaa", sum := "0974d451f62b5ca8f5b7d8c7a77abdb026985f2681dc053a6eab9fefee5cde0d", func := "loop.example/balancedpipes/laws.FnLeastRoom", spec := "fnLeastRoom", unfollowed := true, recurses := true, apart := false }
def FnLeastRoomSaid : Prop := fnLeastRoomRow.holds Try.pinned (OpenSpec.ofChange fnLeastRoomSpec)

/-- ITS FALSE NEIGHBOUR: 'it returns false'. Refute it at one input. -/
def fnLeastRoomWrong : ChangeSpec := { name := "fnLeastRoom", fn := fun _ => fun
  | [d] => { results := [.lit (.bool false)], args := [d] }
  | _ => none }
def FnLeastRoomWrongFalsely : Prop := fnLeastRoomRow.holds Try.pinned (OpenSpec.ofChange fnLeastRoomWrong)

/-- 'laws.FnNarrowestTurned': WHATEVER THE INPUT: true; the input reads as it did. -/
def fnNarrowestTurnedSpec : ChangeSpec := { name := "fnNarrowestTurned", fn := fun _ => fun
  | [d] => { results := [.lit (.bool true)], args := [d] }
  | _ => none }
def fnNarrowestTurnedRow : OpenClaim := { program := "ytlebamdgcfhdaaa", sum := "0974d451f62b5ca8f5b7d8c7a77abdb026985f2681dc053a6eab9fefee5cde0d", func := "loop.example/balancedpipes/laws.FnNarrowestTurned", spec := "fnNarrowestTurned", unfollowed := true, recurses := true, apart := false }
def FnNarrowestTurnedSaid : Prop := fnNarrowestTurnedRow.holds Try.pinned (OpenSpec.ofChange fnNarrowestTurnedSpec)

/-- ITS FALSE NEIGHBOUR: 'it returns false'. Refute it at one input. -/
def fnNarrowestTurnedWrong : ChangeSpec := { name := "fnNarrowestTurned", fn := fun _ => fun
  | [d] => { results := [.lit (.bool false)], args := [d] }
  | _ => none }
def FnNarrowestTurnedWrongFalsely : Prop := fnNarrowestTurnedRow.holds Try.pinned (OpenSpec.ofChange fnNarrowestTurnedWrong)

/-- 'laws.FnFreeOk': WHATEVER THE INPUT: true; the input reads as it did. -/
def fnFreeOkSpec : ChangeSpec := { name := "fnFreeOk", fn := fun _ => fun
  | [d] => { results := [.lit (.bool true)], args := [d] }
  | _ => none }
def fnFreeOkRow : OpenClaim := { program := "ytlebamdgcfhdaaa", sum := "0974d451f62b5ca8f5b7d8c7a77abdb026985f2681dc053a6eab9fefee5cde0d", func := "loop.example/balancedpipes/laws.FnFreeOk", spec := "fnFreeOk", unfollowed := true, recurses := true, apart := false }
def FnFreeOkSaid : Prop := fnFreeOkRow.holds Try.pinned (OpenSpec.ofChange fnFreeOkSpec)

/-- ITS FALSE NEIGHBOUR: 'it returns false'. Refute it at one input. -/
def fnFreeOkWrong : ChangeSpec := { name := "fnFreeOk", fn := fun _ => fun
  | [d] => { results := [.lit (.bool false)], args := [d] }
  | _ => none }
def FnFreeOkWrongFalsely : Prop := fnFreeOkRow.holds Try.pinned (OpenSpec.ofChange fnFreeOkWrong)

/- THE SECOND FORM. 'bulk': how many values and letters a reading holds, each counted each time it is reached (what is shared counts as often as it is met; a slice's spare places count too). A statement '..UptoSaid' is the law's where the arguments, and the package variables that the reading takes, are together of bulk at most 1048576: NARROWER than '..Said'. Prove '..Said' where nothing that the law and all that it calls make is longer than what came in: it says more and counts as full. Else prove '..UptoSaid'. A law counts once. -/
mutual
def uptoBulk {H : Type} : DataW H → Nat
  | .lit (.string bytes) => bytes.length + 1
  | .lit _ => 1
  | .nil => 1
  | .ptr d => uptoBulk d + 1
  | .slice elems spare => uptoBulkAll elems + uptoBulkAll spare + 1
  | .agg parts => uptoBulkAll parts + 1
  | .iface _ d => uptoBulk d + 1
  | .map entries => uptoBulkEntries entries + 1
  | .held _ => 1
def uptoBulkAll {H : Type} : List (DataW H) → Nat
  | [] => 0
  | d :: r => uptoBulk d + uptoBulkAll r
def uptoBulkEntries {H : Type} : List (Lit × DataW H) → Nat
  | [] => 0
  | x :: r => uptoBulkEntry x + uptoBulkEntries r
def uptoBulkEntry {H : Type} : Lit × DataW H → Nat
  | (.string bytes, d) => bytes.length + uptoBulk d + 1
  | (_, d) => uptoBulk d + 1
 end
def uptoSmall : (H : Type) → List (DataW H) → Bool := fun _ ds => decide (uptoBulkAll ds ≤ 1048576)
def OpenSpec.upto (s : _root_.Go.ChangeSpec) : _root_.Go.OpenSpec := { _root_.Go.OpenSpec.ofChange s with cond := some uptoSmall }

/-- 'laws.FnExactTurnedNet', WHERE WHAT IT READS IS OF BULK AT MOST 1048576: true; the input reads as it did. -/
def fnExactTurnedNetUptoRow : OpenClaim := { program := "ytlebamdgcfhdaaa", sum := "0974d451f62b5ca8f5b7d8c7a77abdb026985f2681dc053a6eab9fefee5cde0d", func := "loop.example/balancedpipes/laws.FnExactTurnedNet", spec := "fnExactTurnedNet", unfollowed := true, recurses := true, apart := false, narrowed := true }
def FnExactTurnedNetUptoSaid : Prop := fnExactTurnedNetUptoRow.holds Try.pinned (OpenSpec.upto fnExactTurnedNetSpec)

/-- 'laws.FnExcessAt', WHERE WHAT IT READS IS OF BULK AT MOST 1048576: true; the input reads as it did. -/
def fnExcessAtUptoRow : OpenClaim := { program := "ytlebamdgcfhdaaa", sum := "0974d451f62b5ca8f5b7d8c7a77abdb026985f2681dc053a6eab9fefee5cde0d", func := "loop.example/balancedpipes/laws.FnExcessAt", spec := "fnExcessAt", unfollowed := true, recurses := true, apart := false, narrowed := true }
def FnExcessAtUptoSaid : Prop := fnExcessAtUptoRow.holds Try.pinned (OpenSpec.upto fnExcessAtSpec)

/-- 'laws.FnBalancedOk', WHERE WHAT IT READS IS OF BULK AT MOST 1048576: true; the input reads as it did. -/
def fnBalancedOkUptoRow : OpenClaim := { program := "ytlebamdgcfhdaaa", sum := "0974d451f62b5ca8f5b7d8c7a77abdb026985f2681dc053a6eab9fefee5cde0d", func := "loop.example/balancedpipes/laws.FnBalancedOk", spec := "fnBalancedOk", unfollowed := true, recurses := true, apart := false, narrowed := true }
def FnBalancedOkUptoSaid : Prop := fnBalancedOkUptoRow.holds Try.pinned (OpenSpec.upto fnBalancedOkSpec)

/-- 'laws.FnHoldsOk', WHERE WHAT IT READS IS OF BULK AT MOST 1048576: true; the input reads as it did. -/
def fnHoldsOkUptoRow : OpenClaim := { program := "ytlebamdgcfhdaaa", sum := "0974d451f62b5ca8f5b7d8c7a77abdb026985f2681dc053a6eab9fefee5cde0d", func := "loop.example/balancedpipes/laws.FnHoldsOk", spec := "fnHoldsOk", unfollowed := true, recurses := true, apart := false, narrowed := true }
def FnHoldsOkUptoSaid : Prop := fnHoldsOkUptoRow.holds Try.pinned (OpenSpec.upto fnHoldsOkSpec)

/-- 'laws.FnTurnedNet', WHERE WHAT IT READS IS OF BULK AT MOST 1048576: true; the input reads as it did. -/
def fnTurnedNetUptoRow : OpenClaim := { program := "ytlebamdgcfhdaaa", sum := "0974d451f62b5ca8f5b7d8c7a77abdb026985f2681dc053a6eab9fefee5cde0d", func := "loop.example/balancedpipes/laws.FnTurnedNet", spec := "fnTurnedNet", unfollowed := true, recurses := true, apart := false, narrowed := true }
def FnTurnedNetUptoSaid : Prop := fnTurnedNetUptoRow.holds Try.pinned (OpenSpec.upto fnTurnedNetSpec)

/-- 'laws.FnLeavingOf', WHERE WHAT IT READS IS OF BULK AT MOST 1048576: true; the input reads as it did. -/
def fnLeavingOfUptoRow : OpenClaim := { program := "ytlebamdgcfhdaaa", sum := "0974d451f62b5ca8f5b7d8c7a77abdb026985f2681dc053a6eab9fefee5cde0d", func := "loop.example/balancedpipes/laws.FnLeavingOf", spec := "fnLeavingOf", unfollowed := true, recurses := true, apart := false, narrowed := true }
def FnLeavingOfUptoSaid : Prop := fnLeavingOfUptoRow.holds Try.pinned (OpenSpec.upto fnLeavingOfSpec)

/-- 'laws.FnLeastRoom', WHERE WHAT IT READS IS OF BULK AT MOST 1048576: true; the input reads as it did. -/
def fnLeastRoomUptoRow : OpenClaim := { program := "ytlebamdgcfhdaaa", sum := "0974d451f62b5ca8f5b7d8c7a77abdb026985f2681dc053a6eab9fefee5cde0d", func := "loop.example/balancedpipes/laws.FnLeastRoom", spec := "fnLeastRoom", unfollowed := true, recurses := true, apart := false, narrowed := true }
def FnLeastRoomUptoSaid : Prop := fnLeastRoomUptoRow.holds Try.pinned (OpenSpec.upto fnLeastRoomSpec)

/-- 'laws.FnNarrowestTurned', WHERE WHAT IT READS IS OF BULK AT MOST 1048576: true; the input reads as it did. -/
def fnNarrowestTurnedUptoRow : OpenClaim := { program := "ytlebamdgcfhdaaa", sum := "0974d451f62b5ca8f5b7d8c7a77abdb026985f2681dc053a6eab9fefee5cde0d", func := "loop.example/balancedpipes/laws.FnNarrowestTurned", spec := "fnNarrowestTurned", unfollowed := true, recurses := true, apart := false, narrowed := true }
def FnNarrowestTurnedUptoSaid : Prop := fnNarrowestTurnedUptoRow.holds Try.pinned (OpenSpec.upto fnNarrowestTurnedSpec)

/-- 'laws.FnFreeOk', WHERE WHAT IT READS IS OF BULK AT MOST 1048576: true; the input reads as it did. -/
def fnFreeOkUptoRow : OpenClaim := { program := "ytlebamdgcfhdaaa", sum := "0974d451f62b5ca8f5b7d8c7a77abdb026985f2681dc053a6eab9fefee5cde0d", func := "loop.example/balancedpipes/laws.FnFreeOk", spec := "fnFreeOk", unfollowed := true, recurses := true, apart := false, narrowed := true }
def FnFreeOkUptoSaid : Prop := fnFreeOkUptoRow.holds Try.pinned (OpenSpec.upto fnFreeOkSpec)

end Rows
end Go.Proofs.Ytlebamdgcfhdaaa
