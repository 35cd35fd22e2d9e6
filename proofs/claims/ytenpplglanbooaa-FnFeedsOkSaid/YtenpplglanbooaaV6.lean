/- Contracts of the functions of chapter 4 in the program: a part, gone along from a node on. -/
import Derived.Test.YtenpplglanbooaaGQ5
import Derived.Test.YtenpplglanbooaaGQ3
namespace Go.Proofs.Ytenpplglanbooaa
open Go.RowKit

end Go.Proofs.Ytenpplglanbooaa
