/- Contracts of the laws' draws of chapter 5: a net. -/
import Derived.Test.YtpknhieiifjblaaDU
import Derived.Test.YtpknhieiifjblaaD6
namespace Go.Proofs.Ytpknhieiifjblaa
open Go.RowKit

theorem own_front {w : World} {b e size n m g cap : Nat} {xs : List Value} (h : w.ownsRow b e size (.slice (some ⟨g, 0, none⟩) n cap) n xs) (hm : m ≤ n) : w.ownsRow b e size (.slice (some ⟨g, 0, none⟩) m cap) m (xs.take (m * size)) := by
  obtain ⟨h1, h2⟩ := h
  have hle : m * size ≤ n * size := Nat.mul_le_mul_right _ hm
  rcases h2 with ⟨h, -⟩ | ⟨g', cap', cur, e1, h3, h4, h5, h6, h7, h8⟩
  · cases h
  · injection e1 with x1 x2 x3
    injection x1 with x1
    injection x1 with x1
    subst x1
    subst x3
    refine ⟨by rw [List.length_take, h1]; omega, .inr ⟨g, cap, cur, rfl, h3, h4, by omega, h6, h7, ?_⟩⟩
    rw [← h8, List.take_take, Nat.min_eq_left hle]
theorem flat_take5 (qs : List Pp) (m : Nat) : (qs.take m).flatMap Pp.cells = (qs.flatMap Pp.cells).take (m * 5) := by
  induction m generalizing qs with
  | zero => simp
  | succ m ih =>
    cases qs with
    | nil => simp
    | cons q qs =>
      rw [List.take_succ_cons, List.flatMap_cons, List.flatMap_cons, ih qs, show (m + 1) * 5 = q.cells.length + m * 5 by simp [Pp.cells]; omega, List.take_length_add_append]

end Go.Proofs.Ytpknhieiifjblaa
