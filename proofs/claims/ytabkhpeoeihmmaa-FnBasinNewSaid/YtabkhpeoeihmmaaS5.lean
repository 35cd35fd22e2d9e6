/- Contracts of the functions of chapter 1 in the model: TurnedNet. -/
import Derived.Test.YtabkhpeoeihmmaaS1
import Derived.Deep.AppendLies
import Derived.Deep.RegionHeld3
namespace Go.Proofs.Ytabkhpeoeihmmaa
open Go.RowKit

theorem heap_new2 (w : World) (o o' : Obj) : ((w.alloc o).alloc o').heap[w.heap.size + 1]? = some o' := by
  have h := heap_alloc_new (w.alloc o) o'
  rwa [World.size_alloc] at h

end Go.Proofs.Ytabkhpeoeihmmaa
