/- Plain facts. -/
import Derived.Test.YtobbeofibkpbaaaGZ23
import Derived.BigQuiet
import Derived.Test.YtobbeofibkpbaaaSG
import Derived.Test.YtobbeofibkpbaaaGZ16
/- A region that draws its order, whose operations read what is old and whose callees make new memory alone: one walk in the order of the text. -/
namespace Go.Proofs.Ytobbeofibkpbaaa
open Go.RowKit

/-- a later world in which nothing old has changed -/
structure Bw (w : World) where
  v : World
  h : Below w.heap.size w v

instance (w : World) : Nonempty (Bw w) := ⟨⟨w, Below.refl _ _⟩⟩

end Go.Proofs.Ytobbeofibkpbaaa

/- Contracts of the functions of chapter 3 in the model: pushes along a way. -/
namespace Go.Proofs.Ytobbeofibkpbaaa
open Go.RowKit

end Go.Proofs.Ytobbeofibkpbaaa
