/- Contracts of the functions of chapter 1 in the program. -/
import Derived.Test.YtcmjekpgobddeaaMG
namespace Go.Proofs.Ytcmjekpgobddeaa
open Go.RowKit

set_option maxHeartbeats 400000 in
set_option maxRecDepth 20000 in
theorem within_any (n l m : Int) (w : World) :
    Calls Try.prog 49 #[.int .i64 n, .int .i64 l, .int .i64 m] w fun e w' => e = .returned (.bool (withinB n l m)) ∧ w = w' := by
  go_enter Try.func49, Try.ntmps49
  go_wp2
  all_goals (go_ret; exact ⟨by simp [withinB, *] <;> omega, rfl⟩)

/-- a row of so many numbers, each between two others -/
def rowB (xs : List Int) (cnt l m : Int) : Bool := decide ((xs.length : Int) = cnt) && xs.all fun x => withinB x l m

end Go.Proofs.Ytcmjekpgobddeaa
