/- Contracts of the functions of chapter 1 in the model: NetOk, FlowOk. -/
import Derived.Test.YtaohjhehlkeckaaMG
namespace Go.Proofs.Ytaohjhehlkeckaa
open Go.RowKit

set_option maxHeartbeats 400000 in
set_option maxRecDepth 20000 in
theorem l1In_any (n l m : Int) (w : World) :
    Calls Try.prog 59 #[.int .i64 n, .int .i64 l, .int .i64 m] w fun e w' => e = .returned (.bool (withinB n l m)) ∧ w = w' := by
  go_enter Try.func59, Try.ntmps59
  go_wp2
  all_goals (go_ret; exact ⟨by simp [withinB, *] <;> omega, rfl⟩)

theorem pipe_no {n a b c d e : Int} (h : withinB a 0 (n - 1) = false ∨ withinB b 0 (n - 1) = false ∨ a = b ∨ withinB c 0 d = false ∨ 4 < d ∨ withinB e (-9) 9 = false) : pipeOkB n a b c d e = false := by
  rw [Bool.eq_false_iff]
  intro hp
  obtain ⟨h1, h2, h3, h4, h5, h6, h7, h8, h9, h10⟩ := pipeOk_parts hp
  simp only [withinB, Bool.and_eq_false_iff, decide_eq_false_iff_not] at h
  omega

theorem pipe_conv {n a b c d e : Int} (h : pipeOkB n a b c d e = true) : withinB a 0 (n - 1) = true ∧ withinB b 0 (n - 1) = true ∧ (a == b) = false ∧ withinB c 0 d = true ∧ d ≤ 4 ∧ withinB e (-9) 9 = true := by
  obtain ⟨h1, h2, h3, h4, h5, h6, h7, h8, h9, h10⟩ := pipeOk_parts h
  simp only [withinB, Bool.and_eq_true, decide_eq_true_eq, beq_eq_false_iff_ne]
  omega

theorem pipe_yes {n a b c d e : Int} (h1 : withinB a 0 (n - 1) = true) (h2 : withinB b 0 (n - 1) = true) (h3 : a ≠ b) (h4 : withinB c 0 d = true) (h5 : d ≤ 4) (h6 : withinB e (-9) 9 = true) : pipeOkB n a b c d e = true := by
  simp only [pipeOkB, withinB, Bool.and_eq_true, decide_eq_true_eq] at *
  omega

theorem netOk_out {n : Int} {ps : List Pp} (h : ¬ (2 ≤ n ∧ n ≤ 5)) : netOkB n ps = false ∧ withinB n 2 5 = false := by
  have : withinB n 2 5 = false := by simp [withinB]; omega
  exact ⟨by simp [netOkB, this], this⟩

end Go.Proofs.Ytaohjhehlkeckaa
