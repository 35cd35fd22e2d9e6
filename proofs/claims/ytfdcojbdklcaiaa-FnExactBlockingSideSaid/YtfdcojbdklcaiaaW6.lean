/- Contracts of the functions of chapter 2 in the program: nodes of a side, what leaves it, SideOk. -/
import Derived.Test.YtfdcojbdklcaiaaW1
import Derived.Test.YtfdcojbdklcaiaaMG
namespace Go.Proofs.Ytfdcojbdklcaiaa
open Go.RowKit

theorem and_one (x : Int) : bits .and .i64 x 1 = x % 2 := by
  show IntKind.i64.wrap ((BitVec.ofInt 64 x &&& BitVec.ofInt 64 1).toNat : Int) = x % 2
  have h1 : (BitVec.ofInt 64 x &&& BitVec.ofInt 64 1).toNat = (BitVec.ofInt 64 x).toNat % 2 := by
    rw [BitVec.toNat_and]; exact Nat.and_two_pow_sub_one_eq_mod _ 1
  rw [h1, IntKind.wrap_i64]
  have h2 : (((BitVec.ofInt 64 x).toNat : Nat) : Int) = x % 18446744073709551616 := by
    rw [BitVec.toNat_ofInt]
    omega
  omega

set_option maxHeartbeats 400000 in
set_option maxRecDepth 20000 in
theorem hasNode_any (s k : Int) (w : World) (h0 : 0 ≤ k) (h1 : k ≤ 4) :
    Calls Try.prog 69 #[.int .i64 s, .int .i64 k] w fun e w' => e = .returned (.bool (bitB s k)) ∧ w = w' := by
  rcases cases5 h0 h1 with rfl | rfl | rfl | rfl | rfl
  all_goals
    go_enter Try.func69, Try.ntmps69
    go_wp2
    go_ret
    exact ⟨ret_bool (by rw [and_one]; simp [bitB, beq_dec]), rfl⟩

set_option maxHeartbeats 400000 in
set_option maxRecDepth 20000 in
theorem parts_any (s a b : Int) (w : World) (h0 : 0 ≤ a) (h1 : a ≤ 4) (h2 : 0 ≤ b) (h3 : b ≤ 4) :
    Calls Try.prog 114 #[.int .i64 s, .int .i64 a, .int .i64 b] w fun e w' => e = .returned (.bool (partsB s a b)) ∧ w = w' := by
  go_enter Try.func114, Try.ntmps114
  go_wp2_with (first
    | (go_at_call 69; ((with_reducible refine (hasNode_any _ _ _ (by first | exact h0 | exact h2) (by first | exact h1 | exact h3)).mono ?_); rintro e w1 ⟨rfl, rfl⟩)))
  all_goals (go_ret; exact ⟨ret_bool (by simp_all [partsB]), rfl⟩)

set_option maxHeartbeats 400000 in
set_option maxRecDepth 20000 in
theorem leaves_any (s : Int) (p : Pp) (w : World) (h0 : 0 ≤ p.fr ∧ p.fr ≤ 4 ∧ 0 ≤ p.to ∧ p.to ≤ 4) :
    Calls Try.prog 99 #[.int .i64 s, .agg #[.int .i64 p.fr, .int .i64 p.to, .int .i64 p.le, .int .i64 p.mo, .int .i64 p.co]] w fun e w' => e = .returned (.bool (partsB s p.fr p.to)) ∧ Below w.heap.size w w' := by
  have H := Lib.hid h0
  go_enter Try.func99, Try.ntmps99
  go_wp2_with (first
    | (go_at_call 114; ((with_reducible refine (parts_any _ _ _ _ H.out.1 H.out.2.1 H.out.2.2.1 H.out.2.2.2).mono ?_); rintro e w1 ⟨rfl, rfl⟩)))
  go_ret
  exact ⟨rfl, by (repeat (first | (with_reducible assumption) | (with_reducible exact Below.refl _ _) | ((with_reducible refine Below.alloc ?_ ?hsz _); (case hsz => (first | omega | (simp; done) | (simp; omega) | (simp at *; omega)))) | ((with_reducible refine Below.setCell ?_ ?hsz _); (case hsz => (first | omega | (simp; done) | (simp; omega) | (simp at *; omega)))) | (with_reducible refine Below.drew ?_) | (with_reducible refine below_drewN ?_ _) | ((with_reducible refine Below.trans ?_ (Below.mono (by with_reducible assumption) ?hsz)); (case hsz => (first | omega | (simp; done) | (simp; omega) | (simp at *; omega))))))⟩

theorem side_n {n : Int} {ps : List Pp} (h : netOkB n ps = true) : n = 2 ∨ n = 3 ∨ n = 4 ∨ n = 5 := by have := netOk_parts h; omega

set_option maxHeartbeats 400000 in
set_option maxRecDepth 20000 in
theorem nodeIn_any (n k : Int) (w : World) (ps : List Pp) (hok : netOkB n ps = true) :
    Calls Try.prog 103 #[.int .i64 n, .int .i64 k] w fun e w' => e = .returned (.bool (withinB k 0 (n - 1))) ∧ w = w' :=
  nodeOk_any n k w (by have := netOk_parts hok; omega) (by have := netOk_parts hok; omega)

end Go.Proofs.Ytfdcojbdklcaiaa
