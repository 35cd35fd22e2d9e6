/- Contracts of what the exact laws call: sizes, copies. -/
import Derived.Test.YtnefafpfeagflaaMG
import Derived.Test.YtnefafpfeagflaaP
namespace Go.Proofs.Ytnefafpfeagflaa
open Go.RowKit

end Go.Proofs.Ytnefafpfeagflaa
