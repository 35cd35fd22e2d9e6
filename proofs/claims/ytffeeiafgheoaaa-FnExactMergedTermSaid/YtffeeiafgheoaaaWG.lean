/- Contracts of the functions of chapter 3 in the program: pushes along a way. -/
import Derived.Test.YtffeeiafgheoaaaWF
import Derived.Deep.DeepCutAuto
import Derived.Deep.RegionWith
import Derived.Lib.BufferMore
namespace Go.Proofs.Ytffeeiafgheoaaa
open Go.RowKit

end Go.Proofs.Ytffeeiafgheoaaa
