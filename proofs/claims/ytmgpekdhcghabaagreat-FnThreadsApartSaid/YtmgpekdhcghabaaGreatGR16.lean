/- Plain facts. -/
import Derived.Test.YtmgpekdhcghabaaGreatS1
import Derived.Deep.AppendLies
import Derived.Deep.RegionHeld3
import Derived.Test.YtmgpekdhcghabaaGreatSI
import Derived.Test.YtmgpekdhcghabaaGreatGR23
import Derived.Test.YtmgpekdhcghabaaGreatGR4
import Derived.Test.YtmgpekdhcghabaaGreatGR18
import Derived.Test.YtmgpekdhcghabaaGreatGR7
/- Contracts of the functions of chapter 1 in the model: TurnedNet. -/
namespace Go.Proofs.YtmgpekdhcghabaaGreat
open Go.RowKit

theorem heap_new2 (w : World) (o o' : Obj) : ((w.alloc o).alloc o').heap[w.heap.size + 1]? = some o' := by
  have h := heap_alloc_new (w.alloc o) o'
  rwa [World.size_alloc] at h

end Go.Proofs.YtmgpekdhcghabaaGreat

/- Contracts of the functions of chapter 3 in the model: ReachedFrom. -/
namespace Go.Proofs.YtmgpekdhcghabaaGreat
open Go.RowKit

section
variable {n : Int} {ps : List Pp} {xs : List Int} {a : Int} {r k : Nat} {s : Int}
end

end Go.Proofs.YtmgpekdhcghabaaGreat

/- Contracts of the functions of chapter 4 in the model: RingOk and ThreadOk. -/
namespace Go.Proofs.YtmgpekdhcghabaaGreat
open Go.RowKit

end Go.Proofs.YtmgpekdhcghabaaGreat
