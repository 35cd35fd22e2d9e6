/- Contracts of what the exact laws call: equality. -/
import Derived.Test.YtphbmlephldaaaaMG
namespace Go.Proofs.Ytphbmlephldaaaa
open Go.RowKit

def eqPp (p q : Pp) : Bool := decide (p = q)

theorem eqPp_parts (p q : Pp) : (eqPp p q = true) ↔ (p.fr = q.fr ∧ p.to = q.to ∧ p.le = q.le ∧ p.mo = q.mo ∧ p.co = q.co) := by
  unfold eqPp
  cases p; cases q
  simp

theorem eq_two {n m : Int} {ps qs : List Pp} : decide (n = m ∧ ps = qs) = (decide (n = m) && decide (ps = qs)) := by simp

end Go.Proofs.Ytphbmlephldaaaa
