/- Plain facts. -/
import Derived.Test.YtobbeofibkpbaaaMG
import Derived.Test.YtobbeofibkpbaaaGZ50
/- Plain facts, chapter 6: rings of steps that gain, as the program and as the model seek them. -/
namespace Go.Proofs.Ytobbeofibkpbaaa
open Go.RowKit

end Go.Proofs.Ytobbeofibkpbaaa

/- Plain facts, chapter 6: rings that gain are found, just if there is one; pushes round them. -/
namespace Go.Proofs.Ytobbeofibkpbaaa
open Go.RowKit

section
variable {ps : List Pp} {S : List Nat} {a b c : Int}

end

section
variable {n : Int} {ps : List Pp} {xs : List Int}

end

end Go.Proofs.Ytobbeofibkpbaaa
