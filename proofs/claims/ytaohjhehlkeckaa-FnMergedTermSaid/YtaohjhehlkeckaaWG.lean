/- Contracts of the functions of chapter 3 in the program: pushes along a way. -/
import Derived.Test.YtaohjhehlkeckaaWF
import Derived.Deep.DeepCutAuto
import Derived.Deep.RegionWith
import Derived.Lib.BufferMore
namespace Go.Proofs.Ytaohjhehlkeckaa
open Go.RowKit

end Go.Proofs.Ytaohjhehlkeckaa
