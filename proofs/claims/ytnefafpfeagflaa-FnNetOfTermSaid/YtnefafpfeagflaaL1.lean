/- What the laws of promises call: equality, and a fixed answer. -/
import Derived.Test.YtnefafpfeagflaaD7
import Derived.Test.YtnefafpfeagflaaD4
import Derived.Test.YtnefafpfeagflaaE2
import Derived.Test.YtnefafpfeagflaaR
import Derived.Deep.RegionHeld3
namespace Go.Proofs.Ytnefafpfeagflaa
open Go.RowKit

theorem cell_keep {W W' : World} {g o : Nat} {v : Value} (h : W.cell? ⟨g, o, none⟩ = some v) (hb : Below W.heap.size W W') : W'.cell? ⟨g, o, none⟩ = some v :=
  (hb.cell (p := ⟨g, o, none⟩) (cell_lt h)).trans h

theorem alive_any' (w : World) : Calls Try.prog 14 #[] w fun e w' => e = .returned (.bool true) ∧ Below w.heap.size w w' := alive_any w

end Go.Proofs.Ytnefafpfeagflaa
