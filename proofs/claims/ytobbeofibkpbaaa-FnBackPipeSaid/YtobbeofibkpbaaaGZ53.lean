/- Plain facts. -/
import Derived.Test.YtobbeofibkpbaaaGZ47
import Derived.Test.YtobbeofibkpbaaaGZ31
/- Plain facts, chapter 6: pushes round rings that gain; the cheapest flow. -/
namespace Go.Proofs.Ytobbeofibkpbaaa
open Go.RowKit

section
variable {n : Int} {ps : List Pp} {xs : List Int}

end

end Go.Proofs.Ytobbeofibkpbaaa

/- Plain facts of chapter 10: what feeding costs at least. -/
namespace Go.Proofs.Ytobbeofibkpbaaa
open Go.RowKit

end Go.Proofs.Ytobbeofibkpbaaa
