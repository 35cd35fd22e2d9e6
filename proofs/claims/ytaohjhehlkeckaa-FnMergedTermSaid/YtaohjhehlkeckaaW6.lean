/- Contracts of the functions of chapter 2 in the program: nodes of a side, what leaves it, SideOk. -/
import Derived.Test.YtaohjhehlkeckaaW1
import Derived.Test.YtaohjhehlkeckaaMG
namespace Go.Proofs.Ytaohjhehlkeckaa
open Go.RowKit

theorem and_one (x : Int) : bits .and .i64 x 1 = x % 2 := by
  show IntKind.i64.wrap ((BitVec.ofInt 64 x &&& BitVec.ofInt 64 1).toNat : Int) = x % 2
  have h1 : (BitVec.ofInt 64 x &&& BitVec.ofInt 64 1).toNat = (BitVec.ofInt 64 x).toNat % 2 := by
    rw [BitVec.toNat_and]; exact Nat.and_two_pow_sub_one_eq_mod _ 1
  rw [h1, IntKind.wrap_i64]
  have h2 : (((BitVec.ofInt 64 x).toNat : Nat) : Int) = x % 18446744073709551616 := by
    rw [BitVec.toNat_ofInt]
    omega
  omega

theorem side_n {n : Int} {ps : List Pp} (h : netOkB n ps = true) : n = 2 ∨ n = 3 ∨ n = 4 ∨ n = 5 := by have := netOk_parts h; omega

set_option maxHeartbeats 400000 in
set_option maxRecDepth 20000 in
theorem nodeIn_any (n k : Int) (w : World) (ps : List Pp) (hok : netOkB n ps = true) :
    Calls Try.prog 84 #[.int .i64 n, .int .i64 k] w fun e w' => e = .returned (.bool (withinB k 0 (n - 1))) ∧ w = w' :=
  nodeOk_any n k w (by have := netOk_parts hok; omega) (by have := netOk_parts hok; omega)

end Go.Proofs.Ytaohjhehlkeckaa
