/-
  No cell of these rows narrows 'for every input' (looked for: loops, veiled, ifaces, maps, wideKeys, modest, calm, conditions, laid).
  DERIVED. THE GIVEN ROWS OF THIS SEAT. 3 by the template 'for every input the law returns true; each argument reads behind the call as it read before'; 0 by the template 'total and deterministic' (their statements: YthcpcoimdecnkaaTotals.lean).
  GIVEN WITH THE SEED: the statements are not yours to turn. If you find one false, say at which input.
  Laid BY PROGRAM, IN A SANDBOX (cutbox-rows.mjs): the forced cells as the released guide's own fill.sh prints them over the translation 5a13730e07d5f44f… (all of the seat's roots in one cut). By AI agents, Wed Nov 11 2026. No macro, syntax, notation, axiom, sorry.
-/
import Derived.Test.YthcpcoimdecnkaaChecked
import GoSem.Claim
import GoSem.ClaimJoined
import GoSem.ClaimMapViews
import Derived.JoinedTies
import Derived.KernelRfl
namespace Go.Proofs.Ythcpcoimdecnkaa
/- THE CELL 'sum', in the pinned program and in every row, IS THE sha256 OF THE DUMP (.gsa) THAT YthcpcoimdecnkaaProg.lean LOADS. Nothing in Lean hashes anything: it is a label: what it is worth is what the hold of that sum in a sandbox is worth. -/
noncomputable def Try.pinned : Pinned := { name := "ythcpcoimdecnkaa", sum := "5a13730e07d5f44fcc782977de5c52ee618972027e04ecd9f78ab053278e30d8", checked := Try.checked }
namespace Rows
def none {H : Type} : Left H := { results := [], args := [] }

/-- 'laws.FnRingsOf': WHATEVER THE INPUT: true; the input reads as it did. -/
def fnRingsOfSpec : ChangeSpec := { name := "fnRingsOf", fn := fun _ => fun
  | [d] => { results := [.lit (.bool true)], args := [d] }
  | _ => none }
def fnRingsOfRow : OpenClaim := { program := "ythcpcoimdecnkaa", sum := "5a13730e07d5f44fcc782977de5c52ee618972027e04ecd9f78ab053278e30d8", func := "loop.example/balancedpipes/laws.FnRingsOf", spec := "fnRingsOf", unfollowed := true, recurses := true, apart := false }
def FnRingsOfSaid : Prop := fnRingsOfRow.holds Try.pinned (OpenSpec.ofChange fnRingsOfSpec)

/-- ITS FALSE NEIGHBOUR: 'it returns false'. Refute it at one input. -/
def fnRingsOfWrong : ChangeSpec := { name := "fnRingsOf", fn := fun _ => fun
  | [d] => { results := [.lit (.bool false)], args := [d] }
  | _ => none }
def FnRingsOfWrongFalsely : Prop := fnRingsOfRow.holds Try.pinned (OpenSpec.ofChange fnRingsOfWrong)

/-- 'laws.FnPartsOf': WHATEVER THE INPUT: true; the input reads as it did. -/
def fnPartsOfSpec : ChangeSpec := { name := "fnPartsOf", fn := fun _ => fun
  | [d] => { results := [.lit (.bool true)], args := [d] }
  | _ => none }
def fnPartsOfRow : OpenClaim := { program := "ythcpcoimdecnkaa", sum := "5a13730e07d5f44fcc782977de5c52ee618972027e04ecd9f78ab053278e30d8", func := "loop.example/balancedpipes/laws.FnPartsOf", spec := "fnPartsOf", unfollowed := true, recurses := true, apart := false }
def FnPartsOfSaid : Prop := fnPartsOfRow.holds Try.pinned (OpenSpec.ofChange fnPartsOfSpec)

/-- ITS FALSE NEIGHBOUR: 'it returns false'. Refute it at one input. -/
def fnPartsOfWrong : ChangeSpec := { name := "fnPartsOf", fn := fun _ => fun
  | [d] => { results := [.lit (.bool false)], args := [d] }
  | _ => none }
def FnPartsOfWrongFalsely : Prop := fnPartsOfRow.holds Try.pinned (OpenSpec.ofChange fnPartsOfWrong)

/-- 'laws.FnThreadsClose': WHATEVER THE INPUT: true; the input reads as it did. -/
def fnThreadsCloseSpec : ChangeSpec := { name := "fnThreadsClose", fn := fun _ => fun
  | [d] => { results := [.lit (.bool true)], args := [d] }
  | _ => none }
def fnThreadsCloseRow : OpenClaim := { program := "ythcpcoimdecnkaa", sum := "5a13730e07d5f44fcc782977de5c52ee618972027e04ecd9f78ab053278e30d8", func := "loop.example/balancedpipes/laws.FnThreadsClose", spec := "fnThreadsClose", unfollowed := true, recurses := true, apart := false }
def FnThreadsCloseSaid : Prop := fnThreadsCloseRow.holds Try.pinned (OpenSpec.ofChange fnThreadsCloseSpec)

/-- ITS FALSE NEIGHBOUR: 'it returns false'. Refute it at one input. -/
def fnThreadsCloseWrong : ChangeSpec := { name := "fnThreadsClose", fn := fun _ => fun
  | [d] => { results := [.lit (.bool false)], args := [d] }
  | _ => none }
def FnThreadsCloseWrongFalsely : Prop := fnThreadsCloseRow.holds Try.pinned (OpenSpec.ofChange fnThreadsCloseWrong)

/- THE SECOND FORM. 'bulk': how many values and letters a reading holds, each counted each time it is reached (what is shared counts as often as it is met; a slice's spare places count too). A statement '..UptoSaid' is the law's where the arguments, and the package variables that the reading takes, are together of bulk at most 1048576: NARROWER than '..Said'. Prove '..Said' where nothing that the law and all that it calls make is longer than what came in: it says more and counts as full. Else prove '..UptoSaid'. A law counts once. -/
mutual
def uptoBulk {H : Type} : DataW H → Nat
  | .lit (.string bytes) => bytes.length + 1
  | .lit _ => 1
  | .nil => 1
  | .ptr d => uptoBulk d + 1
  | .slice elems spare => uptoBulkAll elems + uptoBulkAll spare + 1
  | .agg parts => uptoBulkAll parts + 1
  | .iface _ d => uptoBulk d + 1
  | .map entries => uptoBulkEntries entries + 1
  | .held _ => 1
def uptoBulkAll {H : Type} : List (DataW H) → Nat
  | [] => 0
  | d :: r => uptoBulk d + uptoBulkAll r
def uptoBulkEntries {H : Type} : List (Lit × DataW H) → Nat
  | [] => 0
  | x :: r => uptoBulkEntry x + uptoBulkEntries r
def uptoBulkEntry {H : Type} : Lit × DataW H → Nat
  | (.string bytes, d) => bytes.length + uptoBulk d + 1
  | (_, d) => uptoBulk d + 1
 end
def uptoSmall : (H : Type) → List (DataW H) → Bool := fun _ ds => decide (uptoBulkAll ds ≤ 1048576)
def OpenSpec.upto (s : _root_.Go.ChangeSpec) : _root_.Go.OpenSpec := { _root_.Go.OpenSpec.ofChange s with cond := some uptoSmall }

/-- 'laws.FnRingsOf', WHERE WHAT IT READS IS OF BULK AT MOST 1048576: true; the input reads as it did. -/
def fnRingsOfUptoRow : OpenClaim := { program := "ythcpcoimdecnkaa", sum := "5a13730e07d5f44fcc782977de5c52ee618972027e04ecd9f78ab053278e30d8", func := "loop.example/balancedpipes/laws.FnRingsOf", spec := "fnRingsOf", unfollowed := true, recurses := true, apart := false, narrowed := true }
def FnRingsOfUptoSaid : Prop := fnRingsOfUptoRow.holds Try.pinned (OpenSpec.upto fnRingsOfSpec)

/-- 'laws.FnPartsOf', WHERE WHAT IT READS IS OF BULK AT MOST 1048576: true; the input reads as it did. -/
def fnPartsOfUptoRow : OpenClaim := { program := "ythcpcoimdecnkaa", sum := "5a13730e07d5f44fcc782977de5c52ee618972027e04ecd9f78ab053278e30d8", func := "loop.example/balancedpipes/laws.FnPartsOf", spec := "fnPartsOf", unfollowed := true, recurses := true, apart := false, narrowed := true }
def FnPartsOfUptoSaid : Prop := fnPartsOfUptoRow.holds Try.pinned (OpenSpec.upto fnPartsOfSpec)

/-- 'laws.FnThreadsClose', WHERE WHAT IT READS IS OF BULK AT MOST 1048576: true; the input reads as it did. -/
def fnThreadsCloseUptoRow : OpenClaim := { program := "ythcpcoimdecnkaa", sum := "5a13730e07d5f44fcc782977de5c52ee618972027e04ecd9f78ab053278e30d8", func := "loop.example/balancedpipes/laws.FnThreadsClose", spec := "fnThreadsClose", unfollowed := true, recurses := true, apart := false, narrowed := true }
def FnThreadsCloseUptoSaid : Prop := fnThreadsCloseUptoRow.holds Try.pinned (OpenSpec.upto fnThreadsCloseSpec)

end Rows
end Go.Proofs.Ythcpcoimdecnkaa
