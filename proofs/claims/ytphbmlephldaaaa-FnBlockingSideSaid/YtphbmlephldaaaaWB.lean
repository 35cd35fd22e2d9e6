/- Contracts of the functions of chapter 2 in the program: NarrowestOf. -/
import Derived.Test.YtphbmlephldaaaaWA
namespace Go.Proofs.Ytphbmlephldaaaa
open Go.RowKit

def narrF (ps : List Pp) (a b m : Int) (k : Nat) : Bool := partsB (k : Int) a b && decide (room (k : Int) ps = m)

theorem narrow_yes {n : Int} {ps : List Pp} {a b : Int} (h : endsB n ps a b = true) : narrowL n ps a b = numW (2 ^ n.toNat) (narrF ps a b (leastI n ps a b)) := by rw [narrowL, if_pos h]; rfl
theorem narrow_no {n : Int} {ps : List Pp} {a b : Int} (h : endsB n ps a b = false) : narrowL n ps a b = [] := by rw [narrowL, if_neg (by simp [h])]

end Go.Proofs.Ytphbmlephldaaaa
