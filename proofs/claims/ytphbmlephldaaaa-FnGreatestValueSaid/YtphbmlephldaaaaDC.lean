/- Contracts of the laws' draws, chapter 3. -/
import Derived.Test.YtphbmlephldaaaaDA
namespace Go.Proofs.Ytphbmlephldaaaa
open Go.RowKit

def DrawnPushed (w : World) (e : Ending) (w' : World) : Prop :=
  ∃ (z : Int) (ps : List Pp) (u : Value) (xs : List Int) (r : Value) (i j : Int), e = .returned (.tuple #[.agg #[.int .i64 z, u], r, .int .i64 i, .int .i64 j]) ∧ Pipes w' w.heap.size u ps ∧ Ints w' w.heap.size r xs ∧ xs.length = ps.length ∧ Below w.heap.size w w' ∧ ps.length ≤ 8 ∧ 1 ≤ z ∧ z ≤ 6 ∧ 0 ≤ i ∧ 0 ≤ j ∧ (2 ≤ z → i < z)
def DrawnReached (w : World) (e : Ending) (w' : World) : Prop :=
  ∃ (z : Int) (ps : List Pp) (u : Value) (xs : List Int) (r : Value) (i : Int), e = .returned (.tuple #[.agg #[.int .i64 z, u], r, .int .i64 i]) ∧ Pipes w' w.heap.size u ps ∧ Ints w' w.heap.size r xs ∧ xs.length = ps.length ∧ Below w.heap.size w w' ∧ ps.length ≤ 8 ∧ 1 ≤ z ∧ z ≤ 6 ∧ 0 ≤ i ∧ (2 ≤ z → i < z)
def DrawnEnds2 (w : World) (e : Ending) (w' : World) : Prop :=
  ∃ (z : Int) (ps : List Pp) (u : Value) (i j : Int), e = .returned (.tuple #[.agg #[.int .i64 z, u], .int .i64 i, .int .i64 j]) ∧ Pipes w' w.heap.size u ps ∧ Below w.heap.size w w' ∧ ps.length ≤ 8 ∧ 1 ≤ z ∧ z ≤ 6 ∧ 0 ≤ i ∧ 0 ≤ j ∧ (2 ≤ z → i < z)

set_option maxHeartbeats 1000000 in
set_option maxRecDepth 20000 in
theorem drawGreatestValue_any (v : Value) (n : Nat) (w : World) (h : ArgBytes w v n) : Calls Try.prog 11 #[v] w (DrawnEnds2 w) := by
  have bx0 := Box2.new w (.int .i64 0) (.slice none 0 0) 25
  go_enter Try.func11, Try.ntmps11
  go_wp2_with fail
  refine (l20Open_any v n _ (h.keep (by (repeat (first | (with_reducible assumption) | (with_reducible exact Below.refl _ _) | ((with_reducible refine Below.alloc ?_ ?hsz _); (case hsz => (first | omega | (simp; done) | (simp; omega) | (simp at *; omega)))) | ((with_reducible refine Below.setCell ?_ ?hsz _); (case hsz => (first | omega | (simp; done) | (simp; omega) | (simp at *; omega)))) | (with_reducible refine Below.drew ?_) | (with_reducible refine below_drewN ?_ _) | ((with_reducible refine Below.trans ?_ (Below.mono (by with_reducible assumption) ?hsz)); (case hsz => (first | omega | (simp; done) | (simp; omega) | (simp at *; omega))))))))).mono ?_
  rintro e w1 ⟨A, m, c, rfl, hr1, hb1, hz1⟩
  have bx1 := bx0.keep (hb1.mono (by simp))
  rw [World.size_alloc] at hr1 hz1
  have hgo : Below w.heap.size w w1 := by (repeat (first | (with_reducible assumption) | (with_reducible exact Below.refl _ _) | ((with_reducible refine Below.alloc ?_ ?hsz _); (case hsz => (first | omega | (simp; done) | (simp; omega) | (simp at *; omega)))) | ((with_reducible refine Below.setCell ?_ ?hsz _); (case hsz => (first | omega | (simp; done) | (simp; omega) | (simp at *; omega)))) | (with_reducible refine Below.drew ?_) | (with_reducible refine below_drewN ?_ _) | ((with_reducible refine Below.trans ?_ (Below.mono (by with_reducible assumption) ?hsz)); (case hsz => (first | omega | (simp; done) | (simp; omega) | (simp at *; omega))))))
  go_wp2_with fail
  with_reducible refine (l20Free_any 12 (w.heap.size + 1) m c 0 A _ hr1 (by omega) (by omega) (by omega)).mono ?_
  rintro e w2 ⟨z, ps, u, i, j, rfl, hp2, hr2, hg2, hl8, hzl, hzh, hi0, hj0, hiz⟩
  have bx2 := bx1.grown hg2 (by simp)
  have hs2 := hg2.size
  have hb2 : Below w.heap.size w w2 := hgo.trans (below_grow hg2 (by omega) (fun q hq => by injection hq with hq; omega))
  obtain ⟨PA, pc, rfl, hc1, hc2, hsm, -⟩ := hp2.form
  obtain ⟨bs, b0, b1, b2, b3⟩ := id bx2
  go_wp2
  refine bodyPost_ret (v := .tuple #[.agg #[.int .i64 z, .slice PA ps.length pc], .int .i64 i, .int .i64 j]) (by simp [results, Try.results11, go_sem, b0, b1]) rfl ⟨z, ps, _, i, j, rfl, ?_, ?_, hl8, hzl, hzh, hi0, hj0, hiz⟩
  · refine Pipes.mono (b := w1.heap.size) ?_ (by omega)
    (repeat (first | (with_reducible assumption) | ((with_reducible refine Pipes.setLow ?_ ?hsz); (case hsz => (first | omega | (simp; done) | (simp; omega) | (simp at *; omega)))) | (with_reducible refine Pipes.alloc' ?_ _) | (with_reducible refine Pipes.drew' ?_) | (with_reducible refine Pipes.drewN' ?_ _) | ((with_reducible refine Pipes.keep ?_ (by with_reducible assumption)))))
  · (repeat (first | (with_reducible assumption) | (with_reducible exact Below.refl _ _) | ((with_reducible refine Below.alloc ?_ ?hsz _); (case hsz => (first | omega | (simp; done) | (simp; omega) | (simp at *; omega)))) | ((with_reducible refine Below.setCell ?_ ?hsz _); (case hsz => (first | omega | (simp; done) | (simp; omega) | (simp at *; omega)))) | (with_reducible refine Below.drew ?_) | (with_reducible refine below_drewN ?_ _) | ((with_reducible refine Below.trans ?_ (Below.mono (by with_reducible assumption) ?hsz)); (case hsz => (first | omega | (simp; done) | (simp; omega) | (simp at *; omega))))))

end Go.Proofs.Ytphbmlephldaaaa
