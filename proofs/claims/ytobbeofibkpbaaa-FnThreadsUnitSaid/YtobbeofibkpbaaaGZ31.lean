/- Plain facts. -/
import Derived.Test.YtobbeofibkpbaaaGZ14
/- Plain facts of chapter 5: single pushes from excess to lack. -/
namespace Go.Proofs.Ytobbeofibkpbaaa
open Go.RowKit

section
variable {n : Int} {ps : List Pp} {xs : List Int}
end

section
variable {n : Int} {ps : List Pp} {xs : List Int}

end

end Go.Proofs.Ytobbeofibkpbaaa

/- Plain facts of chapter 10: needs, pushes from what gives too little to what lacks, short sides. -/
namespace Go.Proofs.Ytobbeofibkpbaaa
open Go.RowKit

section
variable {n : Int} {ps : List Pp} {xs nd : List Int}

end

section
variable {n : Int} {ps : List Pp} {xs : List Int}

end

section
variable {n : Int} {ps : List Pp} {nd : List Int}
end

end Go.Proofs.Ytobbeofibkpbaaa

/- Plain facts of chapter 10: short sides tell, turned needs, what feeding costs, one giver and one taker. -/
namespace Go.Proofs.Ytobbeofibkpbaaa
open Go.RowKit

section
variable {n : Int} {ps : List Pp} {nd xs : List Int}

end

end Go.Proofs.Ytobbeofibkpbaaa
