/- Contracts of the functions of chapter 2 in the program: nodes of a side, what leaves it, SideOk. -/
import Derived.Test.YtabkhpeoeihmmaaW1
import Derived.Test.YtabkhpeoeihmmaaMG
namespace Go.Proofs.Ytabkhpeoeihmmaa
open Go.RowKit

theorem and_one (x : Int) : bits .and .i64 x 1 = x % 2 := by
  show IntKind.i64.wrap ((BitVec.ofInt 64 x &&& BitVec.ofInt 64 1).toNat : Int) = x % 2
  have h1 : (BitVec.ofInt 64 x &&& BitVec.ofInt 64 1).toNat = (BitVec.ofInt 64 x).toNat % 2 := by
    rw [BitVec.toNat_and]; exact Nat.and_two_pow_sub_one_eq_mod _ 1
  rw [h1, IntKind.wrap_i64]
  have h2 : (((BitVec.ofInt 64 x).toNat : Nat) : Int) = x % 18446744073709551616 := by
    rw [BitVec.toNat_ofInt]
    omega
  omega

set_option maxHeartbeats 400000 in
set_option maxRecDepth 20000 in
theorem hasNode_any (s k : Int) (w : World) (h0 : 0 ≤ k) (h1 : k ≤ 4) :
    Calls Try.prog 125 #[.int .i64 s, .int .i64 k] w fun e w' => e = .returned (.bool (bitB s k)) ∧ w = w' := by
  rcases cases5 h0 h1 with rfl | rfl | rfl | rfl | rfl
  all_goals
    go_enter Try.func125, Try.ntmps125
    go_wp2
    go_ret
    exact ⟨ret_bool (by rw [and_one]; simp [bitB, beq_dec]), rfl⟩

set_option maxHeartbeats 400000 in
set_option maxRecDepth 20000 in
theorem parts_any (s a b : Int) (w : World) (h0 : 0 ≤ a) (h1 : a ≤ 4) (h2 : 0 ≤ b) (h3 : b ≤ 4) :
    Calls Try.prog 88 #[.int .i64 s, .int .i64 a, .int .i64 b] w fun e w' => e = .returned (.bool (partsB s a b)) ∧ w = w' := by
  go_enter Try.func88, Try.ntmps88
  go_wp2_with (first
    | (go_at_call 125; ((with_reducible refine (hasNode_any _ _ _ (by first | exact h0 | exact h2) (by first | exact h1 | exact h3)).mono ?_); rintro e w1 ⟨rfl, rfl⟩)))
  all_goals (go_ret; exact ⟨ret_bool (by simp_all [partsB]), rfl⟩)

set_option maxHeartbeats 400000 in
set_option maxRecDepth 20000 in
theorem leaves_any (s : Int) (p : Pp) (w : World) (h0 : 0 ≤ p.fr ∧ p.fr ≤ 4 ∧ 0 ≤ p.to ∧ p.to ≤ 4) :
    Calls Try.prog 140 #[.int .i64 s, .agg #[.int .i64 p.fr, .int .i64 p.to, .int .i64 p.le, .int .i64 p.mo, .int .i64 p.co]] w fun e w' => e = .returned (.bool (partsB s p.fr p.to)) ∧ Below w.heap.size w w' := by
  have H := Lib.hid h0
  go_enter Try.func140, Try.ntmps140
  go_wp2_with (first
    | (go_at_call 88; ((with_reducible refine (parts_any _ _ _ _ H.out.1 H.out.2.1 H.out.2.2.1 H.out.2.2.2).mono ?_); rintro e w1 ⟨rfl, rfl⟩)))
  go_ret
  exact ⟨rfl, by (repeat (first | (with_reducible assumption) | (with_reducible exact Below.refl _ _) | ((with_reducible refine Below.alloc ?_ ?hsz _); (case hsz => (first | omega | (simp; done) | (simp; omega) | (simp at *; omega)))) | ((with_reducible refine Below.setCell ?_ ?hsz _); (case hsz => (first | omega | (simp; done) | (simp; omega) | (simp at *; omega)))) | (with_reducible refine Below.drew ?_) | (with_reducible refine below_drewN ?_ _) | ((with_reducible refine Below.trans ?_ (Below.mono (by with_reducible assumption) ?hsz)); (case hsz => (first | omega | (simp; done) | (simp; omega) | (simp at *; omega))))))⟩

theorem side_n {n : Int} {ps : List Pp} (h : netOkB n ps = true) : n = 2 ∨ n = 3 ∨ n = 4 ∨ n = 5 := by have := netOk_parts h; omega

set_option maxHeartbeats 400000 in
set_option maxRecDepth 20000 in
theorem sideOk_any (n s : Int) (v : Value) (ps : List Pp) (b : Nat) (w : World) (hp : Pipes w b v ps) :
    Calls Try.prog 82 #[.agg #[.int .i64 n, v], .int .i64 s] w fun e w' => e = .returned (.bool (sideB n ps s)) ∧ Below w.heap.size w w' := by
  by_cases hok : netOkB n ps = true
  · have hn := side_n hok
    have Hok := Lib.hid hok
    rcases hn with rfl | rfl | rfl | rfl
    all_goals
      go_enter Try.func82, Try.ntmps82
      go_wp2_with (first
        | (go_at_call 78; ((with_reducible refine (netOk_any _ v ps b _ (hp.keep (by (repeat (first | (with_reducible assumption) | (with_reducible exact Below.refl _ _) | ((with_reducible refine Below.alloc ?_ ?hsz _); (case hsz => (first | omega | (simp; done) | (simp; omega) | (simp at *; omega)))) | ((with_reducible refine Below.setCell ?_ ?hsz _); (case hsz => (first | omega | (simp; done) | (simp; omega) | (simp at *; omega)))) | (with_reducible refine Below.drew ?_) | (with_reducible refine below_drewN ?_ _) | ((with_reducible refine Below.trans ?_ (Below.mono (by with_reducible assumption) ?hsz)); (case hsz => (first | omega | (simp; done) | (simp; omega) | (simp at *; omega))))))))).mono ?_); rintro e w1 ⟨rfl, hb1⟩; obtain ⟨hc1, hf1, hz1⟩ := bcell hb1; (try simp at hz1); (try have hy1 : w.heap.size < w1.heap.size := by omega); (try have hy2 : w.heap.size + 1 < w1.heap.size := by omega); (try have hy3 : w.heap.size + 1 + 1 < w1.heap.size := by omega)))
        | (go_at_call 94; ((with_reducible refine (within_any _ _ _ _).mono ?_); rintro e w1 ⟨rfl, rfl⟩)))
      go_ret
      exact ⟨ret_bool (by simp [sideB, Hok.out]), by (repeat (first | (with_reducible assumption) | (with_reducible exact Below.refl _ _) | ((with_reducible refine Below.alloc ?_ ?hsz _); (case hsz => (first | omega | (simp; done) | (simp; omega) | (simp at *; omega)))) | ((with_reducible refine Below.setCell ?_ ?hsz _); (case hsz => (first | omega | (simp; done) | (simp; omega) | (simp at *; omega)))) | (with_reducible refine Below.drew ?_) | (with_reducible refine below_drewN ?_ _) | ((with_reducible refine Below.trans ?_ (Below.mono (by with_reducible assumption) ?hsz)); (case hsz => (first | omega | (simp; done) | (simp; omega) | (simp at *; omega))))))⟩
  · have hok' : netOkB n ps = false := by simpa using hok
    have Hb : Hid (sideB n ps s = false) := Lib.hid (by simp [sideB, hok'])
    clear hok
    go_enter Try.func82, Try.ntmps82
    go_wp2_with (first
      | (go_at_call 78; ((with_reducible refine (netOk_any _ v ps b _ (hp.keep (by (repeat (first | (with_reducible assumption) | (with_reducible exact Below.refl _ _) | ((with_reducible refine Below.alloc ?_ ?hsz _); (case hsz => (first | omega | (simp; done) | (simp; omega) | (simp at *; omega)))) | ((with_reducible refine Below.setCell ?_ ?hsz _); (case hsz => (first | omega | (simp; done) | (simp; omega) | (simp at *; omega)))) | (with_reducible refine Below.drew ?_) | (with_reducible refine below_drewN ?_ _) | ((with_reducible refine Below.trans ?_ (Below.mono (by with_reducible assumption) ?hsz)); (case hsz => (first | omega | (simp; done) | (simp; omega) | (simp at *; omega))))))))).mono ?_); rintro e w1 ⟨rfl, hb1⟩; obtain ⟨hc1, hf1, hz1⟩ := bcell hb1; (try simp at hz1); (try have hy1 : w.heap.size < w1.heap.size := by omega); (try have hy2 : w.heap.size + 1 < w1.heap.size := by omega); (try have hy3 : w.heap.size + 1 + 1 < w1.heap.size := by omega))))
    go_ret
    exact ⟨ret_bool Hb.out.symm, by (repeat (first | (with_reducible assumption) | (with_reducible exact Below.refl _ _) | ((with_reducible refine Below.alloc ?_ ?hsz _); (case hsz => (first | omega | (simp; done) | (simp; omega) | (simp at *; omega)))) | ((with_reducible refine Below.setCell ?_ ?hsz _); (case hsz => (first | omega | (simp; done) | (simp; omega) | (simp at *; omega)))) | (with_reducible refine Below.drew ?_) | (with_reducible refine below_drewN ?_ _) | ((with_reducible refine Below.trans ?_ (Below.mono (by with_reducible assumption) ?hsz)); (case hsz => (first | omega | (simp; done) | (simp; omega) | (simp at *; omega))))))⟩

set_option maxHeartbeats 400000 in
set_option maxRecDepth 20000 in
theorem nodeIn_any (n k : Int) (w : World) (ps : List Pp) (hok : netOkB n ps = true) :
    Calls Try.prog 81 #[.int .i64 n, .int .i64 k] w fun e w' => e = .returned (.bool (withinB k 0 (n - 1))) ∧ w = w' :=
  nodeOk_any n k w (by have := netOk_parts hok; omega) (by have := netOk_parts hok; omega)

set_option maxHeartbeats 400000 in
set_option maxRecDepth 20000 in
theorem endsOk_any (n i j : Int) (v : Value) (ps : List Pp) (b : Nat) (w : World) (hp : Pipes w b v ps) :
    Calls Try.prog 76 #[.agg #[.int .i64 n, v], .int .i64 i, .int .i64 j] w fun e w' => e = .returned (.bool (endsB n ps i j)) ∧ Below w.heap.size w w' := by
  by_cases hok : netOkB n ps = true
  · have Hok := Lib.hid hok
    go_enter Try.func76, Try.ntmps76
    go_wp2_with (first
      | (go_at_call 78; ((with_reducible refine (netOk_any _ v ps b _ (hp.keep (by (repeat (first | (with_reducible assumption) | (with_reducible exact Below.refl _ _) | ((with_reducible refine Below.alloc ?_ ?hsz _); (case hsz => (first | omega | (simp; done) | (simp; omega) | (simp at *; omega)))) | ((with_reducible refine Below.setCell ?_ ?hsz _); (case hsz => (first | omega | (simp; done) | (simp; omega) | (simp at *; omega)))) | (with_reducible refine Below.drew ?_) | (with_reducible refine below_drewN ?_ _) | ((with_reducible refine Below.trans ?_ (Below.mono (by with_reducible assumption) ?hsz)); (case hsz => (first | omega | (simp; done) | (simp; omega) | (simp at *; omega))))))))).mono ?_); rintro e w1 ⟨rfl, hb1⟩; obtain ⟨hc1, hf1, hz1⟩ := bcell hb1; (try simp at hz1); (try have hy1 : w.heap.size < w1.heap.size := by omega); (try have hy2 : w.heap.size + 1 < w1.heap.size := by omega); (try have hy3 : w.heap.size + 1 + 1 < w1.heap.size := by omega)))
      | (go_at_call 81; ((with_reducible refine (nodeIn_any _ _ _ ps Hok.out).mono ?_); rintro e w1 ⟨rfl, rfl⟩)))
    all_goals (go_ret; exact ⟨ret_bool (by simp_all [endsB, bne_dec]), by (repeat (first | (with_reducible assumption) | (with_reducible exact Below.refl _ _) | ((with_reducible refine Below.alloc ?_ ?hsz _); (case hsz => (first | omega | (simp; done) | (simp; omega) | (simp at *; omega)))) | ((with_reducible refine Below.setCell ?_ ?hsz _); (case hsz => (first | omega | (simp; done) | (simp; omega) | (simp at *; omega)))) | (with_reducible refine Below.drew ?_) | (with_reducible refine below_drewN ?_ _) | ((with_reducible refine Below.trans ?_ (Below.mono (by with_reducible assumption) ?hsz)); (case hsz => (first | omega | (simp; done) | (simp; omega) | (simp at *; omega))))))⟩)
  · have hok' : netOkB n ps = false := by simpa using hok
    have Hb : Hid (endsB n ps i j = false) := Lib.hid (by simp [endsB, hok'])
    clear hok
    go_enter Try.func76, Try.ntmps76
    go_wp2_with (first
      | (go_at_call 78; ((with_reducible refine (netOk_any _ v ps b _ (hp.keep (by (repeat (first | (with_reducible assumption) | (with_reducible exact Below.refl _ _) | ((with_reducible refine Below.alloc ?_ ?hsz _); (case hsz => (first | omega | (simp; done) | (simp; omega) | (simp at *; omega)))) | ((with_reducible refine Below.setCell ?_ ?hsz _); (case hsz => (first | omega | (simp; done) | (simp; omega) | (simp at *; omega)))) | (with_reducible refine Below.drew ?_) | (with_reducible refine below_drewN ?_ _) | ((with_reducible refine Below.trans ?_ (Below.mono (by with_reducible assumption) ?hsz)); (case hsz => (first | omega | (simp; done) | (simp; omega) | (simp at *; omega))))))))).mono ?_); rintro e w1 ⟨rfl, hb1⟩; obtain ⟨hc1, hf1, hz1⟩ := bcell hb1; (try simp at hz1); (try have hy1 : w.heap.size < w1.heap.size := by omega); (try have hy2 : w.heap.size + 1 < w1.heap.size := by omega); (try have hy3 : w.heap.size + 1 + 1 < w1.heap.size := by omega))))
    go_ret
    exact ⟨ret_bool Hb.out.symm, by (repeat (first | (with_reducible assumption) | (with_reducible exact Below.refl _ _) | ((with_reducible refine Below.alloc ?_ ?hsz _); (case hsz => (first | omega | (simp; done) | (simp; omega) | (simp at *; omega)))) | ((with_reducible refine Below.setCell ?_ ?hsz _); (case hsz => (first | omega | (simp; done) | (simp; omega) | (simp at *; omega)))) | (with_reducible refine Below.drew ?_) | (with_reducible refine below_drewN ?_ _) | ((with_reducible refine Below.trans ?_ (Below.mono (by with_reducible assumption) ?hsz)); (case hsz => (first | omega | (simp; done) | (simp; omega) | (simp at *; omega))))))⟩

end Go.Proofs.Ytabkhpeoeihmmaa
