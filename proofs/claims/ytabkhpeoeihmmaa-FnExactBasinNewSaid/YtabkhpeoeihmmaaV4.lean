/- Contracts of the functions of chapter 4 in the program: the next pipe of a walk. -/
import Derived.Test.YtabkhpeoeihmmaaN4
import Derived.Test.YtabkhpeoeihmmaaWD
import Derived.Test.YtabkhpeoeihmmaaRW
import Derived.Test.YtabkhpeoeihmmaaLA
import Derived.Deep.QuietTactic
import Derived.Deep.AppendLies
namespace Go.Proofs.Ytabkhpeoeihmmaa
open Go.RowKit

theorem numW_first {ps : List Pp} {xs : List Int} {v : Int} {q : Nat} (h : nextP ps xs v = some q) : 0 < (numW ps.length (openP ps xs v)).length ∧ (numW ps.length (openP ps xs v)).getD 0 0 = (q : Int) := by
  have h2 : ((List.range ps.length).filter (openP ps xs v)).head? = some q := by
    rw [List.head?_filter]; exact h
  unfold numW
  cases hl : (List.range ps.length).filter (openP ps xs v) with
  | nil => rw [hl] at h2; simp at h2
  | cons y l =>
    rw [hl] at h2
    simp at h2
    subst h2
    simp

end Go.Proofs.Ytabkhpeoeihmmaa
