/- Contracts of the functions of chapter 2 in the model: NarrowestOf. -/
import Derived.Test.YtdbfpdanoclgmaaSA
namespace Go.Proofs.Ytdbfpdanoclgmaa
open Go.RowKit

def narrF' (ps : List Pp) (a b m : Int) (k : Nat) : Bool := partsB (k : Int) a b && decide (room (k : Int) ps = m)
theorem narrow_yes' {n : Int} {ps : List Pp} {a b : Int} (h : endsB n ps a b = true) : narrowL n ps a b = numW (2 ^ n.toNat) (narrF' ps a b (leastI n ps a b)) := by rw [narrowL, if_pos h]; rfl
theorem narrow_no' {n : Int} {ps : List Pp} {a b : Int} (h : endsB n ps a b = false) : narrowL n ps a b = [] := by rw [narrowL, if_neg (by simp [h])]
theorem narrF_yes {ps : List Pp} {a b m : Int} {k : Nat} (h : betwF' a b k = true) (h1 : room (k : Int) ps = m) : narrF' ps a b m k = true := by
  rw [narrF', show partsB (k : Int) a b = true from h, decide_eq_true h1]; rfl
theorem narrF_no1 {ps : List Pp} {a b m : Int} {k : Nat} (h : betwF' a b k = false) : narrF' ps a b m k = false := by
  rw [narrF', show partsB (k : Int) a b = false from h, Bool.false_and]
theorem narrF_no2 {ps : List Pp} {a b m : Int} {k : Nat} (h1 : ¬ room (k : Int) ps = m) : narrF' ps a b m k = false := by
  rw [narrF', decide_eq_false h1, Bool.and_false]

theorem betw_yes2 {k : Nat} {a b : Int} (h1 : ((k : Int) / 2 ^ a.toNat).tmod 2 = 1) (h2 : ((k : Int) / 2 ^ b.toNat).tmod 2 = 0) : betwF' a b k = true :=
  betw_yes h1 (by rw [beq_iff_eq]; exact h2)
theorem betw_no2 {k : Nat} {a b : Int} (h2 : ¬ ((k : Int) / 2 ^ b.toNat).tmod 2 = 0) : betwF' a b k = false :=
  betw_no (by rw [beq_eq_false_iff_ne]; exact h2)

end Go.Proofs.Ytdbfpdanoclgmaa
