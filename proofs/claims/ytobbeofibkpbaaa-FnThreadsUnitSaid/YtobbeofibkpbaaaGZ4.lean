/- Plain facts. -/
import Derived.Test.YtobbeofibkpbaaaGZ3
import Derived.Test.YtobbeofibkpbaaaGZ21
import Derived.Test.YtobbeofibkpbaaaGZ25
import Derived.Test.YtobbeofibkpbaaaGZ42
import Derived.Test.YtobbeofibkpbaaaGZ12
import Derived.Test.YtobbeofibkpbaaaGZ46
/- Contracts of the functions of chapter 3 in the model: ReachedFrom. -/
namespace Go.Proofs.Ytobbeofibkpbaaa
open Go.RowKit

section
variable {n : Int} {ps : List Pp} {xs : List Int} {a : Int} {r k : Nat} {s : Int}
end

end Go.Proofs.Ytobbeofibkpbaaa

/- Contracts of the functions of chapter 4 in the model: RingOk and ThreadOk. -/
namespace Go.Proofs.Ytobbeofibkpbaaa
open Go.RowKit

end Go.Proofs.Ytobbeofibkpbaaa
