/- What the laws of promises call: equality, and a fixed answer. -/
import Derived.Test.YtdbfpdanoclgmaaD7
import Derived.Test.YtdbfpdanoclgmaaD4
import Derived.Test.YtdbfpdanoclgmaaE2
import Derived.Test.YtdbfpdanoclgmaaR
import Derived.Deep.RegionHeld3
namespace Go.Proofs.Ytdbfpdanoclgmaa
open Go.RowKit

theorem cell_keep {W W' : World} {g o : Nat} {v : Value} (h : W.cell? ⟨g, o, none⟩ = some v) (hb : Below W.heap.size W W') : W'.cell? ⟨g, o, none⟩ = some v :=
  (hb.cell (p := ⟨g, o, none⟩) (cell_lt h)).trans h

theorem alive_any' (w : World) : Calls Try.prog 27 #[] w fun e w' => e = .returned (.bool true) ∧ Below w.heap.size w w' := alive_any w

end Go.Proofs.Ytdbfpdanoclgmaa
