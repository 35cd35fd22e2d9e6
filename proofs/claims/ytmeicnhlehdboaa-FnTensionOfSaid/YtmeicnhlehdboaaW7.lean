/- Contracts of the functions of chapter 2 in the program: what goes over a cut, rooms. -/
import Derived.Test.YtmeicnhlehdboaaW6
import Derived.Laws.DeepNot64
namespace Go.Proofs.Ytmeicnhlehdboaa
open Go.RowKit

theorem not_side {s : Int} (h4 : 0 ≤ s) (h5 : s ≤ 31) : bits .xor .i64 (-1) s = -1 - s := by
  obtain ⟨a, rfl⟩ := Int.eq_ofNat_of_zero_le h4
  exact i64_not a (by omega)

set_option maxHeartbeats 400000 in
set_option maxRecDepth 20000 in
theorem leavesNot_any (s : Int) (p : Pp) (w : World) (h0 : 0 ≤ p.fr ∧ p.fr ≤ 4 ∧ 0 ≤ p.to ∧ p.to ≤ 4) (h4 : 0 ≤ s) (h5 : s ≤ 31) :
    Calls Try.prog 81 #[.int .i64 (bits .xor .i64 (-1) s), .agg #[.int .i64 p.fr, .int .i64 p.to, .int .i64 p.le, .int .i64 p.mo, .int .i64 p.co]] w fun e w' => e = .returned (.bool (partsB s p.to p.fr)) ∧ Below w.heap.size w w' := by
  rw [not_side h4 h5]
  exact (leaves_any (-1 - s) p w h0).mono fun _ _ h => ⟨by rw [h.1, parts_not h0.1 h0.2.1 h0.2.2.1 h0.2.2.2], h.2⟩

theorem side_parts {n s : Int} {ps : List Pp} (h : sideB n ps s = true) : netOkB n ps = true ∧ 0 ≤ s ∧ s ≤ 31 := by
  simp only [sideB, withinB, Bool.and_eq_true, decide_eq_true_eq] at h
  refine ⟨h.1, h.2.1, ?_⟩
  rcases side_n h.1 with rfl | rfl | rfl | rfl <;> simp at h <;> omega

end Go.Proofs.Ytmeicnhlehdboaa
