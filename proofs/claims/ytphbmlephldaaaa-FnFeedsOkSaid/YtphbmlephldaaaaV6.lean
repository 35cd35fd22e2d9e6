/- Contracts of the functions of chapter 4 in the program: a part, gone along from a node on. -/
import Derived.Test.YtphbmlephldaaaaGQ5
import Derived.Test.YtphbmlephldaaaaGQ3
namespace Go.Proofs.Ytphbmlephldaaaa
open Go.RowKit

end Go.Proofs.Ytphbmlephldaaaa
