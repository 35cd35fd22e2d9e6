/- Contracts of the functions of chapter 2 in the model: RoomOf, LeavingOf. -/
import Derived.Test.YtpknhieiifjblaaS7
import Derived.Deep.AppendLies
namespace Go.Proofs.Ytpknhieiifjblaa
open Go.RowKit

theorem side_pos {n s : Int} {ps : List Pp} (h : sideB n ps s = true) : netOkB n ps = true ∧ 0 ≤ s := by
  simp only [sideB, withinB, Bool.and_eq_true, decide_eq_true_eq] at h
  exact ⟨h.1, h.2.1⟩

end Go.Proofs.Ytpknhieiifjblaa
