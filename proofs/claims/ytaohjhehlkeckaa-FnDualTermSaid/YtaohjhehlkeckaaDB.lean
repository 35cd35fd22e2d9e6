/- Contracts of the draws of terms. -/
import Derived.Test.YtaohjhehlkeckaaDN
import Derived.Test.YtaohjhehlkeckaaD6
namespace Go.Proofs.Ytaohjhehlkeckaa
open Go.RowKit

/-- what a draw of a row of marks leaves -/
def DrawnMarks (w : World) (e : Ending) (w' : World) : Prop :=
  ∃ (r : Value) (ts : List Mk), e = .returned r ∧ Marks w' w.heap.size r ts ∧ ts.length ≤ 14 ∧ Below w.heap.size w w'

set_option maxHeartbeats 1000000 in
set_option maxRecDepth 20000 in
theorem drawDualTerm_any (v : Value) (n : Nat) (w : World) (h : ArgBytes w v n) : Calls Try.prog 10 #[v] w (DrawnMarks w) := by
  go_enter Try.func10, Try.ntmps10
  go_wp2_with fail
  refine (l20Open_any v n _ (h.keep (by (repeat (first | (with_reducible assumption) | (with_reducible exact Below.refl _ _) | ((with_reducible refine Below.alloc ?_ ?hsz _); (case hsz => (first | omega | (simp; done) | (simp; omega) | (simp at *; omega)))) | ((with_reducible refine Below.setCell ?_ ?hsz _); (case hsz => (first | omega | (simp; done) | (simp; omega) | (simp at *; omega)))) | (with_reducible refine Below.drew ?_) | (with_reducible refine below_drewN ?_ _) | ((with_reducible refine Below.trans ?_ (Below.mono (by with_reducible assumption) ?hsz)); (case hsz => (first | omega | (simp; done) | (simp; omega) | (simp at *; omega))))))))).mono ?_
  rintro e w1 ⟨A, m, c, rfl, hr1, hb1, hz1⟩
  go_wp2_with fail
  refine (l20Term_any 9 w.heap.size m c 0 A _ hr1 (by omega) (by omega)).mono ?_
  rintro e w2 ⟨r, ts, rfl, hm, hl, hr2, hg2⟩
  go_wp2
  go_ret
  have hs2 := hg2.size
  exact ⟨_, ts, rfl, hm.mono (by omega), hl, hb1.trans (below_grow hg2 (by omega) (fun q hq => by injection hq with hq; omega))⟩

set_option maxHeartbeats 1000000 in
set_option maxRecDepth 20000 in
theorem drawLengthOf_any (v : Value) (n : Nat) (w : World) (h : ArgBytes w v n) : Calls Try.prog 18 #[v] w (DrawnMarks w) := by
  go_enter Try.func18, Try.ntmps18
  go_wp2_with fail
  refine (l20Open_any v n _ (h.keep (by (repeat (first | (with_reducible assumption) | (with_reducible exact Below.refl _ _) | ((with_reducible refine Below.alloc ?_ ?hsz _); (case hsz => (first | omega | (simp; done) | (simp; omega) | (simp at *; omega)))) | ((with_reducible refine Below.setCell ?_ ?hsz _); (case hsz => (first | omega | (simp; done) | (simp; omega) | (simp at *; omega)))) | (with_reducible refine Below.drew ?_) | (with_reducible refine below_drewN ?_ _) | ((with_reducible refine Below.trans ?_ (Below.mono (by with_reducible assumption) ?hsz)); (case hsz => (first | omega | (simp; done) | (simp; omega) | (simp at *; omega))))))))).mono ?_
  rintro e w1 ⟨A, m, c, rfl, hr1, hb1, hz1⟩
  go_wp2_with fail
  refine (l20Term_any 9 w.heap.size m c 0 A _ hr1 (by omega) (by omega)).mono ?_
  rintro e w2 ⟨r, ts, rfl, hm, hl, hr2, hg2⟩
  go_wp2
  go_ret
  have hs2 := hg2.size
  exact ⟨_, ts, rfl, hm.mono (by omega), hl, hb1.trans (below_grow hg2 (by omega) (fun q hq => by injection hq with hq; omega))⟩

set_option maxHeartbeats 1000000 in
set_option maxRecDepth 20000 in
theorem drawNarrowOf_any (v : Value) (n : Nat) (w : World) (h : ArgBytes w v n) : Calls Try.prog 20 #[v] w (DrawnMarks w) := by
  go_enter Try.func20, Try.ntmps20
  go_wp2_with fail
  refine (l20Open_any v n _ (h.keep (by (repeat (first | (with_reducible assumption) | (with_reducible exact Below.refl _ _) | ((with_reducible refine Below.alloc ?_ ?hsz _); (case hsz => (first | omega | (simp; done) | (simp; omega) | (simp at *; omega)))) | ((with_reducible refine Below.setCell ?_ ?hsz _); (case hsz => (first | omega | (simp; done) | (simp; omega) | (simp at *; omega)))) | (with_reducible refine Below.drew ?_) | (with_reducible refine below_drewN ?_ _) | ((with_reducible refine Below.trans ?_ (Below.mono (by with_reducible assumption) ?hsz)); (case hsz => (first | omega | (simp; done) | (simp; omega) | (simp at *; omega))))))))).mono ?_
  rintro e w1 ⟨A, m, c, rfl, hr1, hb1, hz1⟩
  go_wp2_with fail
  refine (l20Term_any 9 w.heap.size m c 0 A _ hr1 (by omega) (by omega)).mono ?_
  rintro e w2 ⟨r, ts, rfl, hm, hl, hr2, hg2⟩
  go_wp2
  go_ret
  have hs2 := hg2.size
  exact ⟨_, ts, rfl, hm.mono (by omega), hl, hb1.trans (below_grow hg2 (by omega) (fun q hq => by injection hq with hq; omega))⟩

set_option maxHeartbeats 1000000 in
set_option maxRecDepth 20000 in
theorem drawLeftTerm_any (v : Value) (n : Nat) (w : World) (h : ArgBytes w v n) : Calls Try.prog 29 #[v] w (DrawnMarks w) := by
  go_enter Try.func29, Try.ntmps29
  go_wp2_with fail
  refine (l20Open_any v n _ (h.keep (by (repeat (first | (with_reducible assumption) | (with_reducible exact Below.refl _ _) | ((with_reducible refine Below.alloc ?_ ?hsz _); (case hsz => (first | omega | (simp; done) | (simp; omega) | (simp at *; omega)))) | ((with_reducible refine Below.setCell ?_ ?hsz _); (case hsz => (first | omega | (simp; done) | (simp; omega) | (simp at *; omega)))) | (with_reducible refine Below.drew ?_) | (with_reducible refine below_drewN ?_ _) | ((with_reducible refine Below.trans ?_ (Below.mono (by with_reducible assumption) ?hsz)); (case hsz => (first | omega | (simp; done) | (simp; omega) | (simp at *; omega))))))))).mono ?_
  rintro e w1 ⟨A, m, c, rfl, hr1, hb1, hz1⟩
  go_wp2_with fail
  refine (l20Term_any 9 w.heap.size m c 0 A _ hr1 (by omega) (by omega)).mono ?_
  rintro e w2 ⟨r, ts, rfl, hm, hl, hr2, hg2⟩
  go_wp2
  go_ret
  have hs2 := hg2.size
  exact ⟨_, ts, rfl, hm.mono (by omega), hl, hb1.trans (below_grow hg2 (by omega) (fun q hq => by injection hq with hq; omega))⟩

theorem more_term {ts : List Mk} (h : termB ts = true) (h7 : pipesN ts < 7) : termB (ts ++ [⟨0, 2, 1⟩, ⟨2, 0, 0⟩]) = true := by
  obtain ⟨T, rfl, hg, h1, h3⟩ := (termB_iff ts).1 h
  rw [pipesN_yes h, Tm.count0] at h7
  exact (termB_iff _).2 ⟨.two true T (.pipe 2 1), rfl, ⟨hg, by simp [Tm.good]⟩, by simp [Tm.pipes]; omega, by simp [Tm.thens]; omega⟩

end Go.Proofs.Ytaohjhehlkeckaa
