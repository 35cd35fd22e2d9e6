/- Contracts of the draws: a net out of a code; and the laws' fixed answer. -/
import Derived.Test.YtobbeofibkpbaaaGZ38
import Derived.Test.YtobbeofibkpbaaaGZ52
namespace Go.Proofs.Ytobbeofibkpbaaa
open Go.RowKit

theorem net2 : netOkB 2 [] = true := by decide
theorem net0 : netOkB 0 [] = false := by decide

set_option maxHeartbeats 1000000 in
set_option maxRecDepth 20000 in
theorem alive_any (w : World) : Calls Try.prog 18 #[] w fun e w' => e = .returned (.bool true) ∧ Below w.heap.size w w' := by
  have n2 := net2
  have n0 := net0
  go_enter Try.func18, Try.ntmps18
  go_wp2_with (first
    | (go_at_call 63; ((with_reducible refine (netOk_any _ _ [] 0 _ (Pipes_nil _ _)).mono ?_); rintro e w1 ⟨rfl, hb1⟩; obtain ⟨hc1, hf1, hz1⟩ := bcell hb1; (try simp at hz1); (try have hy1 : w.heap.size < w1.heap.size := by omega); (try have hy2 : w.heap.size + 1 < w1.heap.size := by omega); (try have hy3 : w.heap.size + 1 + 1 < w1.heap.size := by omega))))
  go_ret
  exact ⟨rfl, by (repeat (first | (with_reducible assumption) | (with_reducible exact Below.refl _ _) | ((with_reducible refine Below.alloc ?_ ?hsz _); (case hsz => (first | omega | (simp; done) | (simp; omega) | (simp at *; omega)))) | ((with_reducible refine Below.setCell ?_ ?hsz _); (case hsz => (first | omega | (simp; done) | (simp; omega) | (simp at *; omega)))) | (with_reducible refine Below.drew ?_) | (with_reducible refine below_drewN ?_ _) | ((with_reducible refine Below.trans ?_ (Below.mono (by with_reducible assumption) ?hsz)); (case hsz => (first | omega | (simp; done) | (simp; omega) | (simp at *; omega))))))⟩

theorem own_take {w : World} {b n size : Nat} {e : TypeId} {A : Option Addr} {c : Nat} {xs : List Value} (h : w.ownsRow b e size (.slice A n c) n xs) {k : Nat} (hk : k ≤ n) (h0 : 0 < n) : w.ownsRow b e size (.slice A k c) k (xs.take (k * size)) := by
  have hle : k * size ≤ n * size := Nat.mul_le_mul_right _ hk
  refine ⟨by rw [List.length_take, h.1]; omega, ?_⟩
  rcases h.2 with ⟨hv, h1⟩ | ⟨g, cap, cur, hv, hg, hh, h1, h2, h3, h4⟩
  · omega
  · injection hv with e1 e2 e3
    subst e1; subst e3
    exact .inr ⟨g, c, cur, rfl, hg, hh, by omega, h2, h3, by rw [← h4, List.take_take]; congr 1; omega⟩

theorem flat_take (ps : List Pp) (k : Nat) : (ps.flatMap Pp.cells).take (k * 5) = (ps.take k).flatMap Pp.cells := by
  induction ps generalizing k with
  | nil => simp
  | cons p ps ih =>
    cases k with
    | zero => simp
    | succ k =>
      have e : (k + 1) * 5 = k * 5 + 5 := by omega
      rw [e, List.take_succ_cons, List.flatMap_cons, List.flatMap_cons, ← ih k]
      simp [Pp.cells]

theorem Pipes.take {w : World} {b : Nat} {A : Option Addr} {c : Nat} {ps : List Pp} (h : Pipes w b (.slice A ps.length c) ps) {k : Nat} (hk : k ≤ ps.length) (h0 : 0 < ps.length) : Pipes w b (.slice A k c) (ps.take k) := by
  have hl : (ps.take k).length = k := by simp; omega
  refine ⟨?_, by rw [hl]; exact Nat.le_trans hk h.2⟩
  have := own_take h.1 hk h0
  rw [flat_take] at this
  rw [hl]
  exact this

end Go.Proofs.Ytobbeofibkpbaaa
