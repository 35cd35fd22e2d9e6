/- Contracts of the draws of chapter 6 that go on from a flow that pipes may hold: DrawPricesFor. -/
import Derived.Test.YtialdelfmmdfjaaDI
import Derived.Test.YtialdelfmmdfjaaGI
namespace Go.Proofs.Ytialdelfmmdfjaa
open Go.RowKit

set_option maxHeartbeats 2000000 in
set_option maxRecDepth 20000 in
theorem drawPricesFor_any (v : Value) (n : Nat) (w : World) (h : ArgBytes w v n) : Calls Try.prog 29 #[v] w (DrawnFlow w) := by
  have bx0 := Box2.new w (.int .i64 0) (.slice none 0 0) 25
  go_enter Try.func29, Try.ntmps29
  go_wp2_with fail
  refine (l20Open_any v n _ (h.keep (by (repeat (first | (with_reducible assumption) | (with_reducible exact Below.refl _ _) | ((with_reducible refine Below.alloc ?_ ?hsz _); (case hsz => (first | omega | (simp; done) | (simp; omega) | (simp at *; omega)))) | ((with_reducible refine Below.setCell ?_ ?hsz _); (case hsz => (first | omega | (simp; done) | (simp; omega) | (simp at *; omega)))) | (with_reducible refine Below.drew ?_) | (with_reducible refine below_drewN ?_ _) | ((with_reducible refine Below.trans ?_ (Below.mono (by with_reducible assumption) ?hsz)); (case hsz => (first | omega | (simp; done) | (simp; omega) | (simp at *; omega))))))))).mono ?_
  rintro e w1 ⟨A, m, c, rfl, hr1, hb1, hz1⟩
  have bx1 := bx0.keep (hb1.mono (by simp))
  rw [World.size_alloc] at hr1 hz1
  have hgo : Below w.heap.size w w1 := by (repeat (first | (with_reducible assumption) | (with_reducible exact Below.refl _ _) | ((with_reducible refine Below.alloc ?_ ?hsz _); (case hsz => (first | omega | (simp; done) | (simp; omega) | (simp at *; omega)))) | ((with_reducible refine Below.setCell ?_ ?hsz _); (case hsz => (first | omega | (simp; done) | (simp; omega) | (simp at *; omega)))) | (with_reducible refine Below.drew ?_) | (with_reducible refine below_drewN ?_ _) | ((with_reducible refine Below.trans ?_ (Below.mono (by with_reducible assumption) ?hsz)); (case hsz => (first | omega | (simp; done) | (simp; omega) | (simp at *; omega))))))
  go_wp2_with fail
  with_reducible refine (l20Held_any (w.heap.size + 1) m c 0 A _ hr1 (by omega)).mono ?_
  rintro e w2 ⟨z, ps, u, xs, t, rfl, hp2, hx2, hr2, hg2, hl8, hzl, hzh⟩
  have bx2 := bx1.grown hg2 (by simp)
  have hs2 := hg2.size
  have hb2 : Below w.heap.size w w2 := hgo.trans (below_grow hg2 (by omega) (fun q hq => by injection hq with hq; omega))
  obtain ⟨PA, pc, rfl, hc1, hc2, hsm, -⟩ := hp2.form
  obtain ⟨XA, xc, rfl, hc1', hc2', hsm', -⟩ := hx2.form
  unfold maxLen at hc2 hc2'
  obtain ⟨bs, b0, b1, b2, b3⟩ := id bx2
  have nb0 := Box2.new w2 (.int .i64 z) (.slice PA ps.length pc) 25
  have hbA : Below w2.heap.size w2 (w2.alloc (.cells #[.int .i64 z, .slice PA ps.length pc] 25)) := by (repeat (first | (with_reducible assumption) | (with_reducible exact Below.refl _ _) | ((with_reducible refine Below.alloc ?_ ?hsz _); (case hsz => (first | omega | (simp; done) | (simp; omega) | (simp at *; omega)))) | ((with_reducible refine Below.setCell ?_ ?hsz _); (case hsz => (first | omega | (simp; done) | (simp; omega) | (simp at *; omega)))) | (with_reducible refine Below.drew ?_) | (with_reducible refine below_drewN ?_ _) | ((with_reducible refine Below.trans ?_ (Below.mono (by with_reducible assumption) ?hsz)); (case hsz => (first | omega | (simp; done) | (simp; omega) | (simp at *; omega))))))
  have hrd3 := hr2.alloc' (.cells #[.int .i64 z, .slice PA ps.length pc] 25)
  obtain ⟨w3, hw3⟩ : ∃ W, W = w2.alloc (.cells #[.int .i64 z, .slice PA ps.length pc] 25) := ⟨_, rfl⟩
  rw [← hw3] at nb0 hbA hrd3
  have hz3 : w2.heap.size < w3.heap.size := by rw [hw3]; simp
  have hp3 := hp2.keep hbA
  have hx3 := hx2.keep hbA
  have bx3 := bx2.keep hbA
  have hb3 : Below w.heap.size w w3 := hb2.trans (hbA.mono hb2.size)
  go_wp2_with fail
  rw [← hw3]
  clear hw3
  with_reducible refine (specCheapest_any z _ _ ps xs _ _ _ hp3 hx3).mono ?_
  rintro e w4 ⟨r4, rfl, hr4, hb4⟩
  have nb4 := nb0.keep hb4
  have bx4 := bx3.keep hb4
  have hp4 := hp3.keep hb4
  have hx4 := hx3.keep hb4
  have hrd4 := hrd3.keep hb4
  have hb4' : Below w.heap.size w w4 := hb3.trans (hb4.mono hb3.size)
  have hz4 := hb4.size
  have hs2' : w.heap.size + 1 < w2.heap.size := hr2.1
  obtain ⟨A4, c4, rfl, hc41, hc42, -, -⟩ := hr4.form
  unfold maxLen at hc42
  have hl4 := chpst_len z ps xs
  clear nb0 bx3 hp3 hx3 hrd3 hb3 hb4 hp2 hx2 bx2 hr2 hg2 bs b0 b1 b2 b3
  obtain ⟨bs, b0, b1, b2, b3⟩ := id bx4
  obtain ⟨ns, n0, n1, n2, n3⟩ := id nb4
  have HP := Lib.hid (And.intro hp4 (And.intro hx4 hr4))
  generalize chpstR z ps xs = ys at *
  clear hp4 hx4 hr4
  have e21 : w2.heap.size ≠ w.heap.size + 1 := by omega
  have e20 : w2.heap.size ≠ w.heap.size := by omega
  cases hh : holdsB z ps xs
  · go_wp2
    refine bodyPost_ret (v := .tuple #[.agg #[.int .i64 z, .slice PA ps.length pc], .slice XA xs.length xc]) (by simp [results, Try.results29, go_sem, b0, b1]) rfl ⟨z, ps, _, xs, _, rfl, ?_, ?_, ?_, hl8, hzl, hzh⟩
    · exact ((HP.out.1.mono (b' := w.heap.size + 1) (by omega)).setLow (by simp)).setLow (by simp) |>.mono (by omega)
    · exact ((HP.out.2.1.mono (b' := w.heap.size + 1) (by omega)).setLow (by simp)).setLow (by simp) |>.mono (by omega)
    · (repeat (first | (with_reducible assumption) | (with_reducible exact Below.refl _ _) | ((with_reducible refine Below.alloc ?_ ?hsz _); (case hsz => (first | omega | (simp; done) | (simp; omega) | (simp at *; omega)))) | ((with_reducible refine Below.setCell ?_ ?hsz _); (case hsz => (first | omega | (simp; done) | (simp; omega) | (simp at *; omega)))) | (with_reducible refine Below.drew ?_) | (with_reducible refine below_drewN ?_ _) | ((with_reducible refine Below.trans ?_ (Below.mono (by with_reducible assumption) ?hsz)); (case hsz => (first | omega | (simp; done) | (simp; omega) | (simp at *; omega))))))
  · go_wp2_with fail
    refine (pick_any 2 (w.heap.size + 1) m c _ A _ hrd4 (by omega) (by omega) (by omega)).mono ?_
    rintro e w5 ⟨x5, rfl, x50, x51, hrd5, hg5, hz5⟩
    have nb5 := nb4.grown hg5 (by simp; omega)
    have bx5 := bx4.grown hg5 (by simp)
    have HP5 := Lib.hid (And.intro (HP.out.1.grown hg5 (by omega)) (And.intro (HP.out.2.1.grown hg5 (by omega)) (HP.out.2.2.grown hg5 (by omega))))
    have hb5 : Below w.heap.size w w5 := hb4'.trans (below_grow hg5 (by omega) (fun q hq => by injection hq with hq; omega))
    clear nb4 bx4 HP hrd4 hg5 hrd5 bs b0 b1 b2 b3 ns n0 n1 n2 n3
    obtain ⟨bs, b0, b1, b2, b3⟩ := id bx5
    obtain ⟨ns, n0, n1, n2, n3⟩ := id nb5
    by_cases hx0 : x5 = 0
    · subst hx0
      go_wp2
      refine bodyPost_ret (v := .tuple #[.agg #[.int .i64 z, .slice PA ps.length pc], .slice A4 ys.length c4]) (by simp [results, Try.results29, go_sem, b0, b1]) rfl ⟨z, ps, _, ys, _, rfl, ?_, ?_, ?_, hl8, hzl, hzh⟩
      · exact ((HP5.out.1.mono (b' := w.heap.size + 1) (by omega)).setLow (by simp)).setLow (by simp) |>.mono (by omega)
      · exact ((HP5.out.2.2.mono (b' := w.heap.size + 1) (by omega)).setLow (by simp)).setLow (by simp) |>.mono (by omega)
      · (repeat (first | (with_reducible assumption) | (with_reducible exact Below.refl _ _) | ((with_reducible refine Below.alloc ?_ ?hsz _); (case hsz => (first | omega | (simp; done) | (simp; omega) | (simp at *; omega)))) | ((with_reducible refine Below.setCell ?_ ?hsz _); (case hsz => (first | omega | (simp; done) | (simp; omega) | (simp at *; omega)))) | (with_reducible refine Below.drew ?_) | (with_reducible refine below_drewN ?_ _) | ((with_reducible refine Below.trans ?_ (Below.mono (by with_reducible assumption) ?hsz)); (case hsz => (first | omega | (simp; done) | (simp; omega) | (simp at *; omega))))))
    · have hxb : (x5 == 0) = false := by simpa using hx0
      go_wp2
      refine bodyPost_ret (v := .tuple #[.agg #[.int .i64 z, .slice PA ps.length pc], .slice XA xs.length xc]) (by simp [results, Try.results29, go_sem, b0, b1]) rfl ⟨z, ps, _, xs, _, rfl, ?_, ?_, ?_, hl8, hzl, hzh⟩
      · exact ((HP5.out.1.mono (b' := w.heap.size + 1) (by omega)).setLow (by simp)).setLow (by simp) |>.mono (by omega)
      · exact ((HP5.out.2.1.mono (b' := w.heap.size + 1) (by omega)).setLow (by simp)).setLow (by simp) |>.mono (by omega)
      · (repeat (first | (with_reducible assumption) | (with_reducible exact Below.refl _ _) | ((with_reducible refine Below.alloc ?_ ?hsz _); (case hsz => (first | omega | (simp; done) | (simp; omega) | (simp at *; omega)))) | ((with_reducible refine Below.setCell ?_ ?hsz _); (case hsz => (first | omega | (simp; done) | (simp; omega) | (simp at *; omega)))) | (with_reducible refine Below.drew ?_) | (with_reducible refine below_drewN ?_ _) | ((with_reducible refine Below.trans ?_ (Below.mono (by with_reducible assumption) ?hsz)); (case hsz => (first | omega | (simp; done) | (simp; omega) | (simp at *; omega))))))

end Go.Proofs.Ytialdelfmmdfjaa
