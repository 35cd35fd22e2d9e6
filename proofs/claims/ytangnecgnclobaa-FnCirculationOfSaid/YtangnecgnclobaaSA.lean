/- Contracts of the functions of chapter 2 in the model: LeastRoom. -/
import Derived.Test.YtangnecgnclobaaS9
namespace Go.Proofs.Ytangnecgnclobaa
open Go.RowKit

theorem leastR_yes' {n : Int} {ps : List Pp} {a b : Int} (h : endsB n ps a b = true) : leastR n ps a b = (leastI n ps a b, true) := by rw [leastR, if_pos h]
theorem leastR_no' {n : Int} {ps : List Pp} {a b : Int} (h : endsB n ps a b = false) : leastR n ps a b = (0, false) := by rw [leastR, if_neg (by simp [h])]

theorem shl_in {k : Int} (h0 : 0 ≤ k) (h1 : k ≤ 5) : IntKind.i64.wrap (2 ^ k.toNat) = 2 ^ k.toNat := by
  have h : k = 0 ∨ k = 1 ∨ k = 2 ∨ k = 3 ∨ k = 4 ∨ k = 5 := by omega
  rcases h with rfl | rfl | rfl | rfl | rfl | rfl <;> decide

theorem minL_add (ps : List Pp) (x : Int) (l : List Int) (t : Int) : minL ps x (l ++ [t]) = min (minL ps x l) (room t ps) := by
  rw [minL, List.foldl_append]; rfl

def betwF' (a b : Int) (k : Nat) : Bool := partsB (k : Int) a b

theorem bits_of (k : Nat) (a b : Int) :
    (((k : Int) / 2 ^ a.toNat).tmod 2 == 1) = decide (bitI k a = 1) ∧ (((k : Int) / 2 ^ b.toNat).tmod 2 == 0) = decide (bitI k b = 0) ∧ betwF' a b k = (decide (bitI k a = 1) && decide (bitI k b = 0)) := by
  rw [shr_bit (Int.natCast_nonneg k), shr_bit (Int.natCast_nonneg k)]
  refine ⟨beq_dec _ _, beq_dec _ _, ?_⟩
  have h2 := bitI_01 (k : Int) b
  rw [betwF', partsB, bitI_B, bitI_B]
  congr 1
  rw [Bool.eq_iff_iff]
  simp only [Bool.not_eq_true', decide_eq_false_iff_not, decide_eq_true_eq]
  omega

theorem betw_yes {k : Nat} {a b : Int} (h1 : ((k : Int) / 2 ^ a.toNat).tmod 2 = 1) (h2 : (((k : Int) / 2 ^ b.toNat).tmod 2 == 0) = true) : betwF' a b k = true := by
  obtain ⟨x1, x2, x3⟩ := bits_of k a b
  rw [x3, ← x1, ← x2, h2, h1]; rfl
theorem betw_no {k : Nat} {a b : Int} (h2 : (((k : Int) / 2 ^ b.toNat).tmod 2 == 0) = false) : betwF' a b k = false := by
  obtain ⟨x1, x2, x3⟩ := bits_of k a b
  rw [x3, ← x2, h2, Bool.and_false]
theorem betw_no' {k : Nat} {a b : Int} (h1 : ¬ ((k : Int) / 2 ^ a.toNat).tmod 2 = 1) : betwF' a b k = false := by
  obtain ⟨x1, x2, x3⟩ := bits_of k a b
  rw [x3, ← x1, beq_dec, decide_eq_false h1, Bool.false_and]

theorem min_if' (a b : Int) : (if b < a then b else a) = min a b := by split <;> omega

end Go.Proofs.Ytangnecgnclobaa
