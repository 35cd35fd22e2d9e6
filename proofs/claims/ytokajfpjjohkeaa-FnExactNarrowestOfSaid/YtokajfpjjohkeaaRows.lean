/-
  No cell of these rows narrows 'for every input' (looked for: loops, veiled, ifaces, maps, wideKeys, modest, calm, conditions, laid).
  DERIVED. THE GIVEN ROWS OF THIS SEAT. 6 by the template 'for every input the law returns true; each argument reads behind the call as it read before'; 0 by the template 'total and deterministic' (their statements: YtokajfpjjohkeaaTotals.lean).
  GIVEN WITH THE SEED: the statements are not yours to turn. If you find one false, say at which input.
  Laid BY PROGRAM, IN A SANDBOX (cutbox-rows.mjs): the forced cells as the released guide's own fill.sh prints them over the translation 2f552bf0af7b321b… (all of the seat's roots in one cut). By AI agents, Wed Nov 11 2026. No macro, syntax, notation, axiom, sorry.
-/
import Derived.Test.YtokajfpjjohkeaaChecked
import GoSem.Claim
import GoSem.ClaimJoined
import GoSem.ClaimMapViews
import Derived.JoinedTies
import Derived.KernelRfl
namespace Go.Proofs.Ytokajfpjjohkeaa
/- THE CELL 'sum', in the pinned program and in every row, IS THE sha256 OF THE DUMP (.gsa) THAT YtokajfpjjohkeaaProg.lean LOADS. Nothing in Lean hashes anything: it is a label: what it is worth is what the hold of that sum in a sandbox is worth. -/
noncomputable def Try.pinned : Pinned := { name := "ytokajfpjjohkeaa", sum := "2f552bf0af7b321b33c1536cea75c46fa6fa213faf43dacf1bc72f2ab8265547", checked := Try.checked }
namespace Rows
def none {H : Type} : Left H := { results := [], args := [] }

/-- 'laws.FnExactSideOk': WHATEVER THE INPUT: true; the input reads as it did. -/
def fnExactSideOkSpec : ChangeSpec := { name := "fnExactSideOk", fn := fun _ => fun
  | [d1, d2] => { results := [.lit (.bool true)], args := [d1, d2] }
  | _ => none }
def fnExactSideOkRow : OpenClaim := { program := "ytokajfpjjohkeaa", sum := "2f552bf0af7b321b33c1536cea75c46fa6fa213faf43dacf1bc72f2ab8265547", func := "loop.example/balancedpipes/laws.FnExactSideOk", spec := "fnExactSideOk", apart := false }
def FnExactSideOkSaid : Prop := fnExactSideOkRow.holds Try.pinned (OpenSpec.ofChange fnExactSideOkSpec)

/-- ITS FALSE NEIGHBOUR: 'it returns false'. Refute it at one input. -/
def fnExactSideOkWrong : ChangeSpec := { name := "fnExactSideOk", fn := fun _ => fun
  | [d1, d2] => { results := [.lit (.bool false)], args := [d1, d2] }
  | _ => none }
def FnExactSideOkWrongFalsely : Prop := fnExactSideOkRow.holds Try.pinned (OpenSpec.ofChange fnExactSideOkWrong)

/-- 'laws.FnExactAcrossOf': WHATEVER THE INPUT: true; the input reads as it did. -/
def fnExactAcrossOfSpec : ChangeSpec := { name := "fnExactAcrossOf", fn := fun _ => fun
  | [d1, d2, d3] => { results := [.lit (.bool true)], args := [d1, d2, d3] }
  | _ => none }
def fnExactAcrossOfRow : OpenClaim := { program := "ytokajfpjjohkeaa", sum := "2f552bf0af7b321b33c1536cea75c46fa6fa213faf43dacf1bc72f2ab8265547", func := "loop.example/balancedpipes/laws.FnExactAcrossOf", spec := "fnExactAcrossOf", unfollowed := true, recurses := true, apart := false }
def FnExactAcrossOfSaid : Prop := fnExactAcrossOfRow.holds Try.pinned (OpenSpec.ofChange fnExactAcrossOfSpec)

/-- ITS FALSE NEIGHBOUR: 'it returns false'. Refute it at one input. -/
def fnExactAcrossOfWrong : ChangeSpec := { name := "fnExactAcrossOf", fn := fun _ => fun
  | [d1, d2, d3] => { results := [.lit (.bool false)], args := [d1, d2, d3] }
  | _ => none }
def FnExactAcrossOfWrongFalsely : Prop := fnExactAcrossOfRow.holds Try.pinned (OpenSpec.ofChange fnExactAcrossOfWrong)

/-- 'laws.FnExactRoomOf': WHATEVER THE INPUT: true; the input reads as it did. -/
def fnExactRoomOfSpec : ChangeSpec := { name := "fnExactRoomOf", fn := fun _ => fun
  | [d1, d2] => { results := [.lit (.bool true)], args := [d1, d2] }
  | _ => none }
def fnExactRoomOfRow : OpenClaim := { program := "ytokajfpjjohkeaa", sum := "2f552bf0af7b321b33c1536cea75c46fa6fa213faf43dacf1bc72f2ab8265547", func := "loop.example/balancedpipes/laws.FnExactRoomOf", spec := "fnExactRoomOf", unfollowed := true, recurses := true, apart := false }
def FnExactRoomOfSaid : Prop := fnExactRoomOfRow.holds Try.pinned (OpenSpec.ofChange fnExactRoomOfSpec)

/-- ITS FALSE NEIGHBOUR: 'it returns false'. Refute it at one input. -/
def fnExactRoomOfWrong : ChangeSpec := { name := "fnExactRoomOf", fn := fun _ => fun
  | [d1, d2] => { results := [.lit (.bool false)], args := [d1, d2] }
  | _ => none }
def FnExactRoomOfWrongFalsely : Prop := fnExactRoomOfRow.holds Try.pinned (OpenSpec.ofChange fnExactRoomOfWrong)

/-- 'laws.FnExactLeavingOf': WHATEVER THE INPUT: true; the input reads as it did. -/
def fnExactLeavingOfSpec : ChangeSpec := { name := "fnExactLeavingOf", fn := fun _ => fun
  | [d1, d2] => { results := [.lit (.bool true)], args := [d1, d2] }
  | _ => none }
def fnExactLeavingOfRow : OpenClaim := { program := "ytokajfpjjohkeaa", sum := "2f552bf0af7b321b33c1536cea75c46fa6fa213faf43dacf1bc72f2ab8265547", func := "loop.example/balancedpipes/laws.FnExactLeavingOf", spec := "fnExactLeavingOf", unfollowed := true, recurses := true, apart := false }
def FnExactLeavingOfSaid : Prop := fnExactLeavingOfRow.holds Try.pinned (OpenSpec.ofChange fnExactLeavingOfSpec)

/-- ITS FALSE NEIGHBOUR: 'it returns false'. Refute it at one input. -/
def fnExactLeavingOfWrong : ChangeSpec := { name := "fnExactLeavingOf", fn := fun _ => fun
  | [d1, d2] => { results := [.lit (.bool false)], args := [d1, d2] }
  | _ => none }
def FnExactLeavingOfWrongFalsely : Prop := fnExactLeavingOfRow.holds Try.pinned (OpenSpec.ofChange fnExactLeavingOfWrong)

/-- 'laws.FnExactLeastRoom': WHATEVER THE INPUT: true; the input reads as it did. -/
def fnExactLeastRoomSpec : ChangeSpec := { name := "fnExactLeastRoom", fn := fun _ => fun
  | [d1, d2, d3] => { results := [.lit (.bool true)], args := [d1, d2, d3] }
  | _ => none }
def fnExactLeastRoomRow : OpenClaim := { program := "ytokajfpjjohkeaa", sum := "2f552bf0af7b321b33c1536cea75c46fa6fa213faf43dacf1bc72f2ab8265547", func := "loop.example/balancedpipes/laws.FnExactLeastRoom", spec := "fnExactLeastRoom", unfollowed := true, recurses := true, apart := false }
def FnExactLeastRoomSaid : Prop := fnExactLeastRoomRow.holds Try.pinned (OpenSpec.ofChange fnExactLeastRoomSpec)

/-- ITS FALSE NEIGHBOUR: 'it returns false'. Refute it at one input. -/
def fnExactLeastRoomWrong : ChangeSpec := { name := "fnExactLeastRoom", fn := fun _ => fun
  | [d1, d2, d3] => { results := [.lit (.bool false)], args := [d1, d2, d3] }
  | _ => none }
def FnExactLeastRoomWrongFalsely : Prop := fnExactLeastRoomRow.holds Try.pinned (OpenSpec.ofChange fnExactLeastRoomWrong)

/-- 'laws.FnExactNarrowestOf': WHATEVER THE INPUT: true; the input reads as it did. -/
def fnExactNarrowestOfSpec : ChangeSpec := { name := "fnExactNarrowestOf", fn := fun _ => fun
  | [d1, d2, d3] => { results := [.lit (.bool true)], args := [d1, d2, d3] }
  | _ => none }
def fnExactNarrowestOfRow : OpenClaim := { program := "ytokajfpjjohkeaa", sum := "2f552bf0af7b321b33c1536cea75c46fa6fa213faf43dacf1bc72f2ab8265547", func := "loop.example/balancedpipes/laws.FnExactNarrowestOf", spec := "fnExactNarrowestOf", unfollowed := true, recurses := true, apart := false }
def FnExactNarrowestOfSaid : Prop := fnExactNarrowestOfRow.holds Try.pinned (OpenSpec.ofChange fnExactNarrowestOfSpec)

/-- ITS FALSE NEIGHBOUR: 'it returns false'. Refute it at one input. -/
def fnExactNarrowestOfWrong : ChangeSpec := { name := "fnExactNarrowestOf", fn := fun _ => fun
  | [d1, d2, d3] => { results := [.lit (.bool false)], args := [d1, d2, d3] }
  | _ => none }
def FnExactNarrowestOfWrongFalsely : Prop := fnExactNarrowestOfRow.holds Try.pinned (OpenSpec.ofChange fnExactNarrowestOfWrong)

/- THE SECOND FORM. 'bulk': how many values and letters a reading holds, each counted each time it is reached (what is shared counts as often as it is met; a slice's spare places count too). A statement '..UptoSaid' is the law's where the arguments, and the package variables that the reading takes, are together of bulk at most 1048576: NARROWER than '..Said'. Prove '..Said' where nothing that the law and all that it calls make is longer than what came in: it says more and counts as full. Else prove '..UptoSaid'. A law counts once. -/
mutual
def uptoBulk {H : Type} : DataW H → Nat
  | .lit (.string bytes) => bytes.length + 1
  | .lit _ => 1
  | .nil => 1
  | .ptr d => uptoBulk d + 1
  | .slice elems spare => uptoBulkAll elems + uptoBulkAll spare + 1
  | .agg parts => uptoBulkAll parts + 1
  | .iface _ d => uptoBulk d + 1
  | .map entries => uptoBulkEntries entries + 1
  | .held _ => 1
def uptoBulkAll {H : Type} : List (DataW H) → Nat
  | [] => 0
  | d :: r => uptoBulk d + uptoBulkAll r
def uptoBulkEntries {H : Type} : List (Lit × DataW H) → Nat
  | [] => 0
  | x :: r => uptoBulkEntry x + uptoBulkEntries r
def uptoBulkEntry {H : Type} : Lit × DataW H → Nat
  | (.string bytes, d) => bytes.length + uptoBulk d + 1
  | (_, d) => uptoBulk d + 1
 end
def uptoSmall : (H : Type) → List (DataW H) → Bool := fun _ ds => decide (uptoBulkAll ds ≤ 1048576)
def OpenSpec.upto (s : _root_.Go.ChangeSpec) : _root_.Go.OpenSpec := { _root_.Go.OpenSpec.ofChange s with cond := some uptoSmall }

/-- 'laws.FnExactSideOk', WHERE WHAT IT READS IS OF BULK AT MOST 1048576: true; the input reads as it did. -/
def fnExactSideOkUptoRow : OpenClaim := { program := "ytokajfpjjohkeaa", sum := "2f552bf0af7b321b33c1536cea75c46fa6fa213faf43dacf1bc72f2ab8265547", func := "loop.example/balancedpipes/laws.FnExactSideOk", spec := "fnExactSideOk", apart := false, narrowed := true }
def FnExactSideOkUptoSaid : Prop := fnExactSideOkUptoRow.holds Try.pinned (OpenSpec.upto fnExactSideOkSpec)

/-- 'laws.FnExactAcrossOf', WHERE WHAT IT READS IS OF BULK AT MOST 1048576: true; the input reads as it did. -/
def fnExactAcrossOfUptoRow : OpenClaim := { program := "ytokajfpjjohkeaa", sum := "2f552bf0af7b321b33c1536cea75c46fa6fa213faf43dacf1bc72f2ab8265547", func := "loop.example/balancedpipes/laws.FnExactAcrossOf", spec := "fnExactAcrossOf", unfollowed := true, recurses := true, apart := false, narrowed := true }
def FnExactAcrossOfUptoSaid : Prop := fnExactAcrossOfUptoRow.holds Try.pinned (OpenSpec.upto fnExactAcrossOfSpec)

/-- 'laws.FnExactRoomOf', WHERE WHAT IT READS IS OF BULK AT MOST 1048576: true; the input reads as it did. -/
def fnExactRoomOfUptoRow : OpenClaim := { program := "ytokajfpjjohkeaa", sum := "2f552bf0af7b321b33c1536cea75c46fa6fa213faf43dacf1bc72f2ab8265547", func := "loop.example/balancedpipes/laws.FnExactRoomOf", spec := "fnExactRoomOf", unfollowed := true, recurses := true, apart := false, narrowed := true }
def FnExactRoomOfUptoSaid : Prop := fnExactRoomOfUptoRow.holds Try.pinned (OpenSpec.upto fnExactRoomOfSpec)

/-- 'laws.FnExactLeavingOf', WHERE WHAT IT READS IS OF BULK AT MOST 1048576: true; the input reads as it did. -/
def fnExactLeavingOfUptoRow : OpenClaim := { program := "ytokajfpjjohkeaa", sum := "2f552bf0af7b321b33c1536cea75c46fa6fa213faf43dacf1bc72f2ab8265547", func := "loop.example/balancedpipes/laws.FnExactLeavingOf", spec := "fnExactLeavingOf", unfollowed := true, recurses := true, apart := false, narrowed := true }
def FnExactLeavingOfUptoSaid : Prop := fnExactLeavingOfUptoRow.holds Try.pinned (OpenSpec.upto fnExactLeavingOfSpec)

/-- 'laws.FnExactLeastRoom', WHERE WHAT IT READS IS OF BULK AT MOST 1048576: true; the input reads as it did. -/
def fnExactLeastRoomUptoRow : OpenClaim := { program := "ytokajfpjjohkeaa", sum := "2f552bf0af7b321b33c1536cea75c46fa6fa213faf43dacf1bc72f2ab8265547", func := "loop.example/balancedpipes/laws.FnExactLeastRoom", spec := "fnExactLeastRoom", unfollowed := true, recurses := true, apart := false, narrowed := true }
def FnExactLeastRoomUptoSaid : Prop := fnExactLeastRoomUptoRow.holds Try.pinned (OpenSpec.upto fnExactLeastRoomSpec)

/-- 'laws.FnExactNarrowestOf', WHERE WHAT IT READS IS OF BULK AT MOST 1048576: true; the input reads as it did. -/
def fnExactNarrowestOfUptoRow : OpenClaim := { program := "ytokajfpjjohkeaa", sum := "2f552bf0af7b321b33c1536cea75c46fa6fa213faf43dacf1bc72f2ab8265547", func := "loop.example/balancedpipes/laws.FnExactNarrowestOf", spec := "fnExactNarrowestOf", unfollowed := true, recurses := true, apart := false, narrowed := true }
def FnExactNarrowestOfUptoSaid : Prop := fnExactNarrowestOfUptoRow.holds Try.pinned (OpenSpec.upto fnExactNarrowestOfSpec)

end Rows
end Go.Proofs.Ytokajfpjjohkeaa
