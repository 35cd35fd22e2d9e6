/- Contracts of what the exact laws call: sizes, copies. -/
import Derived.Test.YtcmjekpgobddeaaMG
import Derived.Test.YtcmjekpgobddeaaP
namespace Go.Proofs.Ytcmjekpgobddeaa
open Go.RowKit

end Go.Proofs.Ytcmjekpgobddeaa
