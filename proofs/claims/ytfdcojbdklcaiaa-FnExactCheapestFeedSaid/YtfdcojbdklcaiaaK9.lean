/- Plain facts of chapter 10: what feeding costs at least. -/
import Derived.Test.YtfdcojbdklcaiaaC7
import Derived.Test.YtfdcojbdklcaiaaGK
namespace Go.Proofs.Ytfdcojbdklcaiaa
open Go.RowKit

/-- what CheapestFeed answers -/
def cfeedR (n : Int) (ps : List Pp) (nd : List Int) : Int × Bool := if feedB n ps nd = true then (costS ps (chpstR n ps (feedL n ps nd)), true) else (0, false)
theorem cfeed_cost {n : Int} {ps : List Pp} {nd : List Int} (h : feedB n ps nd = true) : costR n ps (chpstR n ps (feedL n ps nd)) = cfeedR n ps nd := by
  have hh := (chpst_ok (feed_ok h).2.1).1
  rw [cfeedR, if_pos h, costR, if_pos (holds_parts hh).1]

end Go.Proofs.Ytfdcojbdklcaiaa
