/- Plain facts, chapter 3: how long the answers are. -/
import Derived.Test.YtiplpdcilcghmaaMC
namespace Go.Proofs.Ytiplpdcilcghmaa
open Go.RowKit

theorem wayI_len (n : Int) (ps : List Pp) (xs : List Int) (a b : Int) : (wayI n ps xs a b).length ≤ 5 := by
  rw [wayI, List.length_map]; exact wayR_len n ps xs a b
theorem pushR_len (n : Int) (ps : List Pp) (xs : List Int) (a b : Int) : (pushR n ps xs a b).length ≤ xs.length := by
  unfold pushR
  split
  · rw [pushL_len]; exact Nat.le_refl _
  · simp
theorem greatF_len (n : Int) (ps : List Pp) (a b : Int) : (greatF n ps a b).length ≤ ps.length := by
  by_cases h : greatB n ps a b = true
  · have hh := great_holds h
    exact Nat.le_of_eq (holds_parts hh).2.2
  · rw [great_no (by simpa using h)]; simp

end Go.Proofs.Ytiplpdcilcghmaa
