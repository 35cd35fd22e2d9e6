/- Contracts of the functions of chapter 4 in the model: RingsOf. -/
import Derived.Test.YtobbeofibkpbaaaGZ6
import Derived.Test.YtobbeofibkpbaaaGZ40
namespace Go.Proofs.Ytobbeofibkpbaaa
open Go.RowKit

theorem flow_getD {n : Int} {ps : List Pp} {xs : List Int} (h : flowOkB n ps xs = true) (i : Nat) : 0 ≤ xs.getD i 0 ∧ xs.getD i 0 ≤ 40 := by
  obtain ⟨-, -, hb⟩ := flowOk_parts h
  by_cases hi : i < xs.length
  · rw [getD_at hi]; exact hb _ (List.getElem_mem hi)
  · have : xs.getD i 0 = 0 := by simp [List.getD_eq_getElem?_getD, show xs.length ≤ i by omega]
    omega
theorem bal_flow {n : Int} {ps : List Pp} {xs : List Int} (h : balB n ps xs = true) : flowOkB n ps xs = true := by
  simp only [balB, Bool.and_eq_true] at h; exact h.1

end Go.Proofs.Ytobbeofibkpbaaa
