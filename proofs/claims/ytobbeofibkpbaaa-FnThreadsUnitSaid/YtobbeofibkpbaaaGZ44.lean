/- Plain facts. -/
import Derived.Test.YtobbeofibkpbaaaGZ4
import Derived.Test.YtobbeofibkpbaaaGZ25
/- Contracts of the functions of chapter 4 in the model: ThreadOk. -/
namespace Go.Proofs.Ytobbeofibkpbaaa
open Go.RowKit

section
variable {n a b : Int} {ps : List Pp} {xs : List Int}
end

end Go.Proofs.Ytobbeofibkpbaaa

/- Plain facts of chapter 4: an amount of 1 in each pipe of a walk. -/
namespace Go.Proofs.Ytobbeofibkpbaaa
open Go.RowKit

section
variable {n a b : Int} {ps : List Pp} {xs : List Int}

end

end Go.Proofs.Ytobbeofibkpbaaa
