/- Contracts of the functions of chapter 1 in the program: BothFlows. -/
import Derived.Test.YtnefafpfeagflaaW3
import Derived.StillTailTactics
namespace Go.Proofs.Ytnefafpfeagflaa
open Go.RowKit

end Go.Proofs.Ytnefafpfeagflaa
