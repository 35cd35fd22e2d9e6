/- Contracts of the functions of chapter 2 in the program: what goes over a cut, rooms. -/
import Derived.Test.YtlaeckjfjleplaaW6
import Derived.Laws.DeepNot64
namespace Go.Proofs.Ytlaeckjfjleplaa
open Go.RowKit

theorem not_side {s : Int} (h4 : 0 ≤ s) (h5 : s ≤ 31) : bits .xor .i64 (-1) s = -1 - s := by
  obtain ⟨a, rfl⟩ := Int.eq_ofNat_of_zero_le h4
  exact i64_not a (by omega)

theorem side_parts {n s : Int} {ps : List Pp} (h : sideB n ps s = true) : netOkB n ps = true ∧ 0 ≤ s ∧ s ≤ 31 := by
  simp only [sideB, withinB, Bool.and_eq_true, decide_eq_true_eq] at h
  refine ⟨h.1, h.2.1, ?_⟩
  rcases side_n h.1 with rfl | rfl | rfl | rfl <;> simp at h <;> omega

end Go.Proofs.Ytlaeckjfjleplaa
