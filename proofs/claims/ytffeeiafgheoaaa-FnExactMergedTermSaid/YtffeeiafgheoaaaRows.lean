/-
  No cell of these rows narrows 'for every input' (looked for: loops, veiled, ifaces, maps, wideKeys, modest, calm, conditions, laid).
  DERIVED. THE GIVEN ROWS OF THIS SEAT. 7 by the template 'for every input the law returns true; each argument reads behind the call as it read before'; 0 by the template 'total and deterministic' (their statements: YtffeeiafgheoaaaTotals.lean).
  GIVEN WITH THE SEED: the statements are not yours to turn. If you find one false, say at which input.
  Laid BY PROGRAM, IN A SANDBOX (cutbox-rows.mjs): the forced cells as the released guide's own fill.sh prints them over the translation ae811806a3967338… (all of the seat's roots in one cut). By AI agents, Wed Nov 11 2026. No macro, syntax, notation, axiom, sorry.
-/
import Derived.Test.YtffeeiafgheoaaaChecked
import GoSem.Claim
import GoSem.ClaimJoined
import GoSem.ClaimMapViews
import Derived.JoinedTies
import Derived.KernelRfl
namespace Go.Proofs.Ytffeeiafgheoaaa
/- THE CELL 'sum', in the pinned program and in every row, IS THE sha256 OF THE DUMP (.gsa) THAT YtffeeiafgheoaaaProg.lean LOADS. Nothing in Lean hashes anything: it is a label: what it is worth is what the hold of that sum in a sandbox is worth. -/
noncomputable def Try.pinned : Pinned := { name := "ytffeeiafgheoaaa", sum := "ae811806a39673388d2615db7d78c045e79b4b54af496536e467cecdc635ac1a", checked := Try.checked }
namespace Rows
def none {H : Type} : Left H := { results := [], args := [] }

/-- 'laws.FnExactDualTerm': WHATEVER THE INPUT: true; the input reads as it did. -/
def fnExactDualTermSpec : ChangeSpec := { name := "fnExactDualTerm", fn := fun _ => fun
  | [d] => { results := [.lit (.bool true)], args := [d] }
  | _ => none }
def fnExactDualTermRow : OpenClaim := { program := "ytffeeiafgheoaaa", sum := "ae811806a39673388d2615db7d78c045e79b4b54af496536e467cecdc635ac1a", func := "loop.example/balancedpipes/laws.FnExactDualTerm", spec := "fnExactDualTerm", apart := false }
def FnExactDualTermSaid : Prop := fnExactDualTermRow.holds Try.pinned (OpenSpec.ofChange fnExactDualTermSpec)

/-- ITS FALSE NEIGHBOUR: 'it returns false'. Refute it at one input. -/
def fnExactDualTermWrong : ChangeSpec := { name := "fnExactDualTerm", fn := fun _ => fun
  | [d] => { results := [.lit (.bool false)], args := [d] }
  | _ => none }
def FnExactDualTermWrongFalsely : Prop := fnExactDualTermRow.holds Try.pinned (OpenSpec.ofChange fnExactDualTermWrong)

/-- 'laws.FnExactLengthOf': WHATEVER THE INPUT: true; the input reads as it did. -/
def fnExactLengthOfSpec : ChangeSpec := { name := "fnExactLengthOf", fn := fun _ => fun
  | [d] => { results := [.lit (.bool true)], args := [d] }
  | _ => none }
def fnExactLengthOfRow : OpenClaim := { program := "ytffeeiafgheoaaa", sum := "ae811806a39673388d2615db7d78c045e79b4b54af496536e467cecdc635ac1a", func := "loop.example/balancedpipes/laws.FnExactLengthOf", spec := "fnExactLengthOf", unfollowed := true, recurses := true, apart := false }
def FnExactLengthOfSaid : Prop := fnExactLengthOfRow.holds Try.pinned (OpenSpec.ofChange fnExactLengthOfSpec)

/-- ITS FALSE NEIGHBOUR: 'it returns false'. Refute it at one input. -/
def fnExactLengthOfWrong : ChangeSpec := { name := "fnExactLengthOf", fn := fun _ => fun
  | [d] => { results := [.lit (.bool false)], args := [d] }
  | _ => none }
def FnExactLengthOfWrongFalsely : Prop := fnExactLengthOfRow.holds Try.pinned (OpenSpec.ofChange fnExactLengthOfWrong)

/-- 'laws.FnExactNarrowOf': WHATEVER THE INPUT: true; the input reads as it did. -/
def fnExactNarrowOfSpec : ChangeSpec := { name := "fnExactNarrowOf", fn := fun _ => fun
  | [d] => { results := [.lit (.bool true)], args := [d] }
  | _ => none }
def fnExactNarrowOfRow : OpenClaim := { program := "ytffeeiafgheoaaa", sum := "ae811806a39673388d2615db7d78c045e79b4b54af496536e467cecdc635ac1a", func := "loop.example/balancedpipes/laws.FnExactNarrowOf", spec := "fnExactNarrowOf", unfollowed := true, recurses := true, apart := false }
def FnExactNarrowOfSaid : Prop := fnExactNarrowOfRow.holds Try.pinned (OpenSpec.ofChange fnExactNarrowOfSpec)

/-- ITS FALSE NEIGHBOUR: 'it returns false'. Refute it at one input. -/
def fnExactNarrowOfWrong : ChangeSpec := { name := "fnExactNarrowOf", fn := fun _ => fun
  | [d] => { results := [.lit (.bool false)], args := [d] }
  | _ => none }
def FnExactNarrowOfWrongFalsely : Prop := fnExactNarrowOfRow.holds Try.pinned (OpenSpec.ofChange fnExactNarrowOfWrong)

/-- 'laws.FnExactHeldTerm': WHATEVER THE INPUT: true; the input reads as it did. -/
def fnExactHeldTermSpec : ChangeSpec := { name := "fnExactHeldTerm", fn := fun _ => fun
  | [d1, d2, d3] => { results := [.lit (.bool true)], args := [d1, d2, d3] }
  | _ => none }
def fnExactHeldTermRow : OpenClaim := { program := "ytffeeiafgheoaaa", sum := "ae811806a39673388d2615db7d78c045e79b4b54af496536e467cecdc635ac1a", func := "loop.example/balancedpipes/laws.FnExactHeldTerm", spec := "fnExactHeldTerm", apart := false }
def FnExactHeldTermSaid : Prop := fnExactHeldTermRow.holds Try.pinned (OpenSpec.ofChange fnExactHeldTermSpec)

/-- ITS FALSE NEIGHBOUR: 'it returns false'. Refute it at one input. -/
def fnExactHeldTermWrong : ChangeSpec := { name := "fnExactHeldTerm", fn := fun _ => fun
  | [d1, d2, d3] => { results := [.lit (.bool false)], args := [d1, d2, d3] }
  | _ => none }
def FnExactHeldTermWrongFalsely : Prop := fnExactHeldTermRow.holds Try.pinned (OpenSpec.ofChange fnExactHeldTermWrong)

/-- 'laws.FnExactLeftTerm': WHATEVER THE INPUT: true; the input reads as it did. -/
def fnExactLeftTermSpec : ChangeSpec := { name := "fnExactLeftTerm", fn := fun _ => fun
  | [d] => { results := [.lit (.bool true)], args := [d] }
  | _ => none }
def fnExactLeftTermRow : OpenClaim := { program := "ytffeeiafgheoaaa", sum := "ae811806a39673388d2615db7d78c045e79b4b54af496536e467cecdc635ac1a", func := "loop.example/balancedpipes/laws.FnExactLeftTerm", spec := "fnExactLeftTerm", unfollowed := true, recurses := true, apart := false }
def FnExactLeftTermSaid : Prop := fnExactLeftTermRow.holds Try.pinned (OpenSpec.ofChange fnExactLeftTermSpec)

/-- ITS FALSE NEIGHBOUR: 'it returns false'. Refute it at one input. -/
def fnExactLeftTermWrong : ChangeSpec := { name := "fnExactLeftTerm", fn := fun _ => fun
  | [d] => { results := [.lit (.bool false)], args := [d] }
  | _ => none }
def FnExactLeftTermWrongFalsely : Prop := fnExactLeftTermRow.holds Try.pinned (OpenSpec.ofChange fnExactLeftTermWrong)

/-- 'laws.FnExactMergedTerm': WHATEVER THE INPUT: true; the input reads as it did. -/
def fnExactMergedTermSpec : ChangeSpec := { name := "fnExactMergedTerm", fn := fun _ => fun
  | [d] => { results := [.lit (.bool true)], args := [d] }
  | _ => none }
def fnExactMergedTermRow : OpenClaim := { program := "ytffeeiafgheoaaa", sum := "ae811806a39673388d2615db7d78c045e79b4b54af496536e467cecdc635ac1a", func := "loop.example/balancedpipes/laws.FnExactMergedTerm", spec := "fnExactMergedTerm", unfollowed := true, recurses := true, apart := false }
def FnExactMergedTermSaid : Prop := fnExactMergedTermRow.holds Try.pinned (OpenSpec.ofChange fnExactMergedTermSpec)

/-- ITS FALSE NEIGHBOUR: 'it returns false'. Refute it at one input. -/
def fnExactMergedTermWrong : ChangeSpec := { name := "fnExactMergedTerm", fn := fun _ => fun
  | [d] => { results := [.lit (.bool false)], args := [d] }
  | _ => none }
def FnExactMergedTermWrongFalsely : Prop := fnExactMergedTermRow.holds Try.pinned (OpenSpec.ofChange fnExactMergedTermWrong)

/-- 'laws.FnExactNetOk': WHATEVER THE INPUT: true; the input reads as it did. -/
def fnExactNetOkSpec : ChangeSpec := { name := "fnExactNetOk", fn := fun _ => fun
  | [d] => { results := [.lit (.bool true)], args := [d] }
  | _ => none }
def fnExactNetOkRow : OpenClaim := { program := "ytffeeiafgheoaaa", sum := "ae811806a39673388d2615db7d78c045e79b4b54af496536e467cecdc635ac1a", func := "loop.example/balancedpipes/laws.FnExactNetOk", spec := "fnExactNetOk", apart := false }
def FnExactNetOkSaid : Prop := fnExactNetOkRow.holds Try.pinned (OpenSpec.ofChange fnExactNetOkSpec)

/-- ITS FALSE NEIGHBOUR: 'it returns false'. Refute it at one input. -/
def fnExactNetOkWrong : ChangeSpec := { name := "fnExactNetOk", fn := fun _ => fun
  | [d] => { results := [.lit (.bool false)], args := [d] }
  | _ => none }
def FnExactNetOkWrongFalsely : Prop := fnExactNetOkRow.holds Try.pinned (OpenSpec.ofChange fnExactNetOkWrong)

/- THE SECOND FORM. 'bulk': how many values and letters a reading holds, each counted each time it is reached (what is shared counts as often as it is met; a slice's spare places count too). A statement '..UptoSaid' is the law's where the arguments, and the package variables that the reading takes, are together of bulk at most 1048576: NARROWER than '..Said'. Prove '..Said' where nothing that the law and all that it calls make is longer than what came in: it says more and counts as full. Else prove '..UptoSaid'. A law counts once. -/
mutual
def uptoBulk {H : Type} : DataW H → Nat
  | .lit (.string bytes) => bytes.length + 1
  | .lit _ => 1
  | .nil => 1
  | .ptr d => uptoBulk d + 1
  | .slice elems spare => uptoBulkAll elems + uptoBulkAll spare + 1
  | .agg parts => uptoBulkAll parts + 1
  | .iface _ d => uptoBulk d + 1
  | .map entries => uptoBulkEntries entries + 1
  | .held _ => 1
def uptoBulkAll {H : Type} : List (DataW H) → Nat
  | [] => 0
  | d :: r => uptoBulk d + uptoBulkAll r
def uptoBulkEntries {H : Type} : List (Lit × DataW H) → Nat
  | [] => 0
  | x :: r => uptoBulkEntry x + uptoBulkEntries r
def uptoBulkEntry {H : Type} : Lit × DataW H → Nat
  | (.string bytes, d) => bytes.length + uptoBulk d + 1
  | (_, d) => uptoBulk d + 1
 end
def uptoSmall : (H : Type) → List (DataW H) → Bool := fun _ ds => decide (uptoBulkAll ds ≤ 1048576)
def OpenSpec.upto (s : _root_.Go.ChangeSpec) : _root_.Go.OpenSpec := { _root_.Go.OpenSpec.ofChange s with cond := some uptoSmall }

/-- 'laws.FnExactDualTerm', WHERE WHAT IT READS IS OF BULK AT MOST 1048576: true; the input reads as it did. -/
def fnExactDualTermUptoRow : OpenClaim := { program := "ytffeeiafgheoaaa", sum := "ae811806a39673388d2615db7d78c045e79b4b54af496536e467cecdc635ac1a", func := "loop.example/balancedpipes/laws.FnExactDualTerm", spec := "fnExactDualTerm", apart := false, narrowed := true }
def FnExactDualTermUptoSaid : Prop := fnExactDualTermUptoRow.holds Try.pinned (OpenSpec.upto fnExactDualTermSpec)

/-- 'laws.FnExactLengthOf', WHERE WHAT IT READS IS OF BULK AT MOST 1048576: true; the input reads as it did. -/
def fnExactLengthOfUptoRow : OpenClaim := { program := "ytffeeiafgheoaaa", sum := "ae811806a39673388d2615db7d78c045e79b4b54af496536e467cecdc635ac1a", func := "loop.example/balancedpipes/laws.FnExactLengthOf", spec := "fnExactLengthOf", unfollowed := true, recurses := true, apart := false, narrowed := true }
def FnExactLengthOfUptoSaid : Prop := fnExactLengthOfUptoRow.holds Try.pinned (OpenSpec.upto fnExactLengthOfSpec)

/-- 'laws.FnExactNarrowOf', WHERE WHAT IT READS IS OF BULK AT MOST 1048576: true; the input reads as it did. -/
def fnExactNarrowOfUptoRow : OpenClaim := { program := "ytffeeiafgheoaaa", sum := "ae811806a39673388d2615db7d78c045e79b4b54af496536e467cecdc635ac1a", func := "loop.example/balancedpipes/laws.FnExactNarrowOf", spec := "fnExactNarrowOf", unfollowed := true, recurses := true, apart := false, narrowed := true }
def FnExactNarrowOfUptoSaid : Prop := fnExactNarrowOfUptoRow.holds Try.pinned (OpenSpec.upto fnExactNarrowOfSpec)

/-- 'laws.FnExactHeldTerm', WHERE WHAT IT READS IS OF BULK AT MOST 1048576: true; the input reads as it did. -/
def fnExactHeldTermUptoRow : OpenClaim := { program := "ytffeeiafgheoaaa", sum := "ae811806a39673388d2615db7d78c045e79b4b54af496536e467cecdc635ac1a", func := "loop.example/balancedpipes/laws.FnExactHeldTerm", spec := "fnExactHeldTerm", apart := false, narrowed := true }
def FnExactHeldTermUptoSaid : Prop := fnExactHeldTermUptoRow.holds Try.pinned (OpenSpec.upto fnExactHeldTermSpec)

/-- 'laws.FnExactLeftTerm', WHERE WHAT IT READS IS OF BULK AT MOST 1048576: true; the input reads as it did. -/
def fnExactLeftTermUptoRow : OpenClaim := { program := "ytffeeiafgheoaaa", sum := "ae811806a39673388d2615db7d78c045e79b4b54af496536e467cecdc635ac1a", func := "loop.example/balancedpipes/laws.FnExactLeftTerm", spec := "fnExactLeftTerm", unfollowed := true, recurses := true, apart := false, narrowed := true }
def FnExactLeftTermUptoSaid : Prop := fnExactLeftTermUptoRow.holds Try.pinned (OpenSpec.upto fnExactLeftTermSpec)

/-- 'laws.FnExactMergedTerm', WHERE WHAT IT READS IS OF BULK AT MOST 1048576: true; the input reads as it did. -/
def fnExactMergedTermUptoRow : OpenClaim := { program := "ytffeeiafgheoaaa", sum := "ae811806a39673388d2615db7d78c045e79b4b54af496536e467cecdc635ac1a", func := "loop.example/balancedpipes/laws.FnExactMergedTerm", spec := "fnExactMergedTerm", unfollowed := true, recurses := true, apart := false, narrowed := true }
def FnExactMergedTermUptoSaid : Prop := fnExactMergedTermUptoRow.holds Try.pinned (OpenSpec.upto fnExactMergedTermSpec)

/-- 'laws.FnExactNetOk', WHERE WHAT IT READS IS OF BULK AT MOST 1048576: true; the input reads as it did. -/
def fnExactNetOkUptoRow : OpenClaim := { program := "ytffeeiafgheoaaa", sum := "ae811806a39673388d2615db7d78c045e79b4b54af496536e467cecdc635ac1a", func := "loop.example/balancedpipes/laws.FnExactNetOk", spec := "fnExactNetOk", apart := false, narrowed := true }
def FnExactNetOkUptoSaid : Prop := fnExactNetOkUptoRow.holds Try.pinned (OpenSpec.upto fnExactNetOkSpec)

end Rows
end Go.Proofs.Ytffeeiafgheoaaa
