/- Plain facts. -/
import Derived.Test.YtmgpekdhcghabaaGreatD8
import Derived.Test.YtmgpekdhcghabaaGreatSB1
import Derived.Test.YtmgpekdhcghabaaGreatSB2
/- Contracts of the laws' draws of chapter 11: a net; a net and two nodes. -/
namespace Go.Proofs.YtmgpekdhcghabaaGreat
open Go.RowKit

set_option maxHeartbeats 1000000 in
set_option maxRecDepth 20000 in
theorem drawThreadsApart_any (v : Value) (n : Nat) (w : World) (h : ArgBytes w v n) : Calls Tryz.prog 6 #[v] w (DrawnEnds w) := by
  have bx0 := Box2.new w (.int .i64 0) (.slice none 0 0) 25
  go_enter Tryz.func6, Tryz.ntmps6
  go_wp2_with fail
  refine (l20Open_any v n _ (h.keep (by (repeat (first | (with_reducible assumption) | (with_reducible exact Below.refl _ _) | ((with_reducible refine Below.alloc ?_ ?hsz _); (case hsz => (first | omega | (simp; done) | (simp; omega) | (simp at *; omega)))) | ((with_reducible refine Below.setCell ?_ ?hsz _); (case hsz => (first | omega | (simp; done) | (simp; omega) | (simp at *; omega)))) | (with_reducible refine Below.drew ?_) | (with_reducible refine below_drewN ?_ _) | ((with_reducible refine Below.trans ?_ (Below.mono (by with_reducible assumption) ?hsz)); (case hsz => (first | omega | (simp; done) | (simp; omega) | (simp at *; omega))))))))).mono ?_
  rintro e w1 ⟨A, m, c, rfl, hr1, hb1, hz1⟩
  have bx1 := bx0.keep (hb1.mono (by simp))
  rw [World.size_alloc] at hr1 hz1
  have hgo : Below w.heap.size w w1 := by (repeat (first | (with_reducible assumption) | (with_reducible exact Below.refl _ _) | ((with_reducible refine Below.alloc ?_ ?hsz _); (case hsz => (first | omega | (simp; done) | (simp; omega) | (simp at *; omega)))) | ((with_reducible refine Below.setCell ?_ ?hsz _); (case hsz => (first | omega | (simp; done) | (simp; omega) | (simp at *; omega)))) | (with_reducible refine Below.drew ?_) | (with_reducible refine below_drewN ?_ _) | ((with_reducible refine Below.trans ?_ (Below.mono (by with_reducible assumption) ?hsz)); (case hsz => (first | omega | (simp; done) | (simp; omega) | (simp at *; omega))))))
  go_wp2_with fail
  with_reducible refine (l20Ends_any 12 (w.heap.size + 1) m c 0 A _ hr1 (by omega) (by omega) (by omega)).mono ?_
  rintro e w2 ⟨z, ps, u, i, j, rfl, hp2, hr2, hg2, hl8, hzl, hzh⟩
  have bx2 := bx1.grown hg2 (by simp)
  have hs2 := hg2.size
  have hb2 : Below w.heap.size w w2 := hgo.trans (below_grow hg2 (by omega) (fun q hq => by injection hq with hq; omega))
  obtain ⟨PA, pc, rfl, hc1, hc2, hsm, -⟩ := hp2.form
  obtain ⟨bs, b0, b1, b2, b3⟩ := id bx2
  go_wp2
  refine bodyPost_ret (v := .tuple #[.agg #[.int .i64 z, .slice PA ps.length pc], .int .i64 i, .int .i64 j]) (by simp [results, Tryz.results6, go_sem, b0, b1]) rfl ⟨z, ps, _, i, j, rfl, ?_, ?_, hl8, hzl, hzh.1⟩
  · refine Pipes.mono (b := w1.heap.size) ?_ (by omega)
    (repeat (first | (with_reducible assumption) | ((with_reducible refine Pipes.setLow ?_ ?hsz); (case hsz => (first | omega | (simp; done) | (simp; omega) | (simp at *; omega)))) | (with_reducible refine Pipes.alloc' ?_ _) | (with_reducible refine Pipes.drew' ?_) | (with_reducible refine Pipes.drewN' ?_ _) | ((with_reducible refine Pipes.keep ?_ (by with_reducible assumption)))))
  · (repeat (first | (with_reducible assumption) | (with_reducible exact Below.refl _ _) | ((with_reducible refine Below.alloc ?_ ?hsz _); (case hsz => (first | omega | (simp; done) | (simp; omega) | (simp at *; omega)))) | ((with_reducible refine Below.setCell ?_ ?hsz _); (case hsz => (first | omega | (simp; done) | (simp; omega) | (simp at *; omega)))) | (with_reducible refine Below.drew ?_) | (with_reducible refine below_drewN ?_ _) | ((with_reducible refine Below.trans ?_ (Below.mono (by with_reducible assumption) ?hsz)); (case hsz => (first | omega | (simp; done) | (simp; omega) | (simp at *; omega))))))

end Go.Proofs.YtmgpekdhcghabaaGreat

/- Contracts of the functions of chapter 2 in the model: NarrowestOf. -/
namespace Go.Proofs.YtmgpekdhcghabaaGreat
open Go.RowKit

end Go.Proofs.YtmgpekdhcghabaaGreat
