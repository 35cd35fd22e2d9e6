/- Contracts of the draws: a net out of a code; and the laws' fixed answer. -/
import Derived.Test.YteafabfiobmblaaD2
import Derived.Test.YteafabfiobmblaaW1
namespace Go.Proofs.Yteafabfiobmblaa
open Go.RowKit

set_option maxHeartbeats 1000000 in
theorem drawNetOk_any (v : Value) (n : Nat) (w : World) (h : ArgBytes w v n) :
    Calls Try.prog 11 #[v] w fun e w' => ∃ (z : Int) (ps : List Pp) (u : Value), e = .returned (.agg #[.int .i64 z, u]) ∧ Pipes w' w.heap.size u ps ∧ Below w.heap.size w w' ∧ ps.length ≤ 8 ∧ 1 ≤ z ∧ z ≤ 6 := by
  go_enter Try.func11, Try.ntmps11
  go_wp2_with fail
  refine (l20Open_any v n _ (h.keep (by (repeat (first | (with_reducible assumption) | (with_reducible exact Below.refl _ _) | ((with_reducible refine Below.alloc ?_ ?hsz _); (case hsz => (first | omega | (simp; done) | (simp; omega) | (simp at *; omega)))) | ((with_reducible refine Below.setCell ?_ ?hsz _); (case hsz => (first | omega | (simp; done) | (simp; omega) | (simp at *; omega)))) | (with_reducible refine Below.drew ?_) | (with_reducible refine below_drewN ?_ _) | ((with_reducible refine Below.trans ?_ (Below.mono (by with_reducible assumption) ?hsz)); (case hsz => (first | omega | (simp; done) | (simp; omega) | (simp at *; omega))))))))).mono ?_
  rintro e w1 ⟨A, m, c, rfl, hr, hb1, hz1⟩
  obtain ⟨hc1, hf1, hzz1⟩ := bcell hb1
  rw [World.size_alloc] at hr hz1 hzz1
  go_wp2_with fail
  with_reducible refine (l20Net_any 2 (w.heap.size + 1) m c 0 A _ hr (by omega) (by omega) (by omega)).mono ?_
  rintro e w2 ⟨z, ps, u, rfl, hp, hr2, hg2, hl, hz1', hz2'⟩
  obtain ⟨A2, c2, rfl, -, -, -, -⟩ := hp.form
  have x0 := (hg2.cell_far ⟨w.heap.size, 0, none⟩ (by simp; omega) (by simp)).trans (hc1 w.heap.size 0 (by simp))
  have x1 := (hg2.cell_far ⟨w.heap.size, 1, none⟩ (by simp; omega) (by simp)).trans (hc1 w.heap.size 1 (by simp))
  have f0 := (hg2.frozen_far ⟨w.heap.size, 0, none⟩ (by simp; omega) (by simp)).trans (hf1 w.heap.size 0 (by simp))
  have f1 := (hg2.frozen_far ⟨w.heap.size, 1, none⟩ (by simp; omega) (by simp)).trans (hf1 w.heap.size 1 (by simp))
  go_wp2
  refine bodyPost_ret (v := .agg #[.int .i64 z, .slice A2 ps.length c2]) (by simp [results, Try.results11, go_sem, x0, x1]) rfl ⟨z, ps, _, rfl, ?_, ?_, hl, hz1', hz2'⟩
  · exact ((hp.setLow (by (first | omega | (simp; done) | (simp; omega) | (simp at *; omega)))).setLow (by (first | omega | (simp; done) | (simp; omega) | (simp at *; omega)))).mono (by (first | omega | (simp; done) | (simp; omega) | (simp at *; omega)))
  · have hbb : Below w.heap.size w w1 := by (repeat (first | (with_reducible assumption) | (with_reducible exact Below.refl _ _) | ((with_reducible refine Below.alloc ?_ ?hsz _); (case hsz => (first | omega | (simp; done) | (simp; omega) | (simp at *; omega)))) | ((with_reducible refine Below.setCell ?_ ?hsz _); (case hsz => (first | omega | (simp; done) | (simp; omega) | (simp at *; omega)))) | (with_reducible refine Below.drew ?_) | (with_reducible refine below_drewN ?_ _) | ((with_reducible refine Below.trans ?_ (Below.mono (by with_reducible assumption) ?hsz)); (case hsz => (first | omega | (simp; done) | (simp; omega) | (simp at *; omega))))))
    have hgg := below_grow hg2 (B := w.heap.size) (by omega) (fun q hq => by injection hq with hq; omega)
    exact ((hbb.trans hgg).setCell (by (first | omega | (simp; done) | (simp; omega) | (simp at *; omega))) _).setCell (by (first | omega | (simp; done) | (simp; omega) | (simp at *; omega))) _

theorem net2 : netOkB 2 [] = true := by decide
theorem net1 : netOkB 1 [] = false := by decide
theorem net0 : netOkB 0 [] = false := by decide

set_option maxHeartbeats 1000000 in
theorem alive_any (w : World) : Calls Try.prog 14 #[] w fun e w' => e = .returned (.bool true) ∧ Below w.heap.size w w' := by
  have n2 := net2
  have n0 := net0
  go_enter Try.func14, Try.ntmps14
  go_wp2_with (first
    | (go_at_call 12; ((with_reducible refine (netOk_any _ _ [] 0 _ (Pipes_nil _ _)).mono ?_); rintro e w1 ⟨rfl, hb1⟩; obtain ⟨hc1, hf1, hz1⟩ := bcell hb1; (try simp at hz1); (try have hy1 : w.heap.size < w1.heap.size := by omega); (try have hy2 : w.heap.size + 1 < w1.heap.size := by omega); (try have hy3 : w.heap.size + 1 + 1 < w1.heap.size := by omega))))
  go_ret
  exact ⟨rfl, by (repeat (first | (with_reducible assumption) | (with_reducible exact Below.refl _ _) | ((with_reducible refine Below.alloc ?_ ?hsz _); (case hsz => (first | omega | (simp; done) | (simp; omega) | (simp at *; omega)))) | ((with_reducible refine Below.setCell ?_ ?hsz _); (case hsz => (first | omega | (simp; done) | (simp; omega) | (simp at *; omega)))) | (with_reducible refine Below.drew ?_) | (with_reducible refine below_drewN ?_ _) | ((with_reducible refine Below.trans ?_ (Below.mono (by with_reducible assumption) ?hsz)); (case hsz => (first | omega | (simp; done) | (simp; omega) | (simp at *; omega))))))⟩

theorem own_take {w : World} {b n size : Nat} {e : TypeId} {A : Option Addr} {c : Nat} {xs : List Value} (h : w.ownsRow b e size (.slice A n c) n xs) {k : Nat} (hk : k ≤ n) (h0 : 0 < n) : w.ownsRow b e size (.slice A k c) k (xs.take (k * size)) := by
  have hle : k * size ≤ n * size := Nat.mul_le_mul_right _ hk
  refine ⟨by rw [List.length_take, h.1]; omega, ?_⟩
  rcases h.2 with ⟨hv, h1⟩ | ⟨g, cap, cur, hv, hg, hh, h1, h2, h3, h4⟩
  · omega
  · injection hv with e1 e2 e3
    subst e1; subst e3
    exact .inr ⟨g, c, cur, rfl, hg, hh, by omega, h2, h3, by rw [← h4, List.take_take]; congr 1; omega⟩

theorem flat_take (ps : List Pp) (k : Nat) : (ps.flatMap Pp.cells).take (k * 5) = (ps.take k).flatMap Pp.cells := by
  induction ps generalizing k with
  | nil => simp
  | cons p ps ih =>
    cases k with
    | zero => simp
    | succ k =>
      have e : (k + 1) * 5 = k * 5 + 5 := by omega
      rw [e, List.take_succ_cons, List.flatMap_cons, List.flatMap_cons, ← ih k]
      simp [Pp.cells]

theorem Pipes.take {w : World} {b : Nat} {A : Option Addr} {c : Nat} {ps : List Pp} (h : Pipes w b (.slice A ps.length c) ps) {k : Nat} (hk : k ≤ ps.length) (h0 : 0 < ps.length) : Pipes w b (.slice A k c) (ps.take k) := by
  have hl : (ps.take k).length = k := by simp; omega
  refine ⟨?_, by rw [hl]; exact Nat.le_trans hk h.2⟩
  have := own_take h.1 hk h0
  rw [flat_take] at this
  rw [hl]
  exact this

theorem netOk_less {n : Int} {ps : List Pp} (h : netOkB n ps = true) (k : Nat) : netOkB n (ps.take k) = true := by
  obtain ⟨h1, h2, h3, h4⟩ := netOk_parts h
  simp only [netOkB, withinB, Bool.and_eq_true, decide_eq_true_eq, List.all_eq_true]
  refine ⟨⟨⟨h1, h2⟩, by simp; omega⟩, fun p hp => h4 p (List.mem_of_mem_take hp)⟩

end Go.Proofs.Yteafabfiobmblaa
