/- Plain facts. -/
import Derived.Test.YtobbeofibkpbaaaGZ30
import Derived.Test.YtobbeofibkpbaaaMG
/- Plain facts of chapter 5: sides that block. -/
namespace Go.Proofs.Ytobbeofibkpbaaa
open Go.RowKit

end Go.Proofs.Ytobbeofibkpbaaa

/- Plain facts of chapter 5: circulations, pushed from excess to lack. -/
namespace Go.Proofs.Ytobbeofibkpbaaa
open Go.RowKit

section
variable {n : Int} {ps : List Pp} {xs : List Int}

end

end Go.Proofs.Ytobbeofibkpbaaa
