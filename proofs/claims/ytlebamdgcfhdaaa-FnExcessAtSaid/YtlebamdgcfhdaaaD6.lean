/- Contracts of the laws' draws that give a net and a flow. -/
import Derived.Test.YtlebamdgcfhdaaaD5
namespace Go.Proofs.Ytlebamdgcfhdaaa
open Go.RowKit

/-- what a draw of a net and a flow leaves -/
def DrawnFlow (w : World) (e : Ending) (w' : World) : Prop :=
  ∃ (z : Int) (ps : List Pp) (u : Value) (xs : List Int) (t : Value), e = .returned (.tuple #[.agg #[.int .i64 z, u], t]) ∧ Pipes w' w.heap.size u ps ∧ Ints w' w.heap.size t xs ∧ Below w.heap.size w w' ∧ ps.length ≤ 8 ∧ 1 ≤ z ∧ z ≤ 6
/-- what a draw of a net, a flow and a number leaves -/
def DrawnFlowInt (w : World) (e : Ending) (w' : World) : Prop :=
  ∃ (z : Int) (ps : List Pp) (u : Value) (xs : List Int) (t : Value) (i : Int), e = .returned (.tuple #[.agg #[.int .i64 z, u], t, .int .i64 i]) ∧ Pipes w' w.heap.size u ps ∧ Ints w' w.heap.size t xs ∧ Below w.heap.size w w' ∧ ps.length ≤ 8 ∧ 1 ≤ z ∧ z ≤ 6

set_option maxHeartbeats 1000000 in
set_option maxRecDepth 20000 in
theorem drawBalancedOk_any (v : Value) (n : Nat) (w : World) (h : ArgBytes w v n) : Calls Try.prog 23 #[v] w (DrawnFlow w) := by
  have bx0 := Box2.new w (.int .i64 0) (.slice none 0 0) 28
  go_enter Try.func23, Try.ntmps23
  go_wp2_with fail
  refine (l20Open_any v n _ (h.keep (by (repeat (first | (with_reducible assumption) | (with_reducible exact Below.refl _ _) | ((with_reducible refine Below.alloc ?_ ?hsz _); (case hsz => (first | omega | (simp; done) | (simp; omega) | (simp at *; omega)))) | ((with_reducible refine Below.setCell ?_ ?hsz _); (case hsz => (first | omega | (simp; done) | (simp; omega) | (simp at *; omega)))) | (with_reducible refine Below.drew ?_) | (with_reducible refine below_drewN ?_ _) | ((with_reducible refine Below.trans ?_ (Below.mono (by with_reducible assumption) ?hsz)); (case hsz => (first | omega | (simp; done) | (simp; omega) | (simp at *; omega))))))))).mono ?_
  rintro e w1 ⟨A, m, c, rfl, hr1, hb1, hz1⟩
  have bx1 := bx0.keep (hb1.mono (by simp))
  rw [World.size_alloc] at hr1 hz1
  have hgo : Below w.heap.size w w1 := by (repeat (first | (with_reducible assumption) | (with_reducible exact Below.refl _ _) | ((with_reducible refine Below.alloc ?_ ?hsz _); (case hsz => (first | omega | (simp; done) | (simp; omega) | (simp at *; omega)))) | ((with_reducible refine Below.setCell ?_ ?hsz _); (case hsz => (first | omega | (simp; done) | (simp; omega) | (simp at *; omega)))) | (with_reducible refine Below.drew ?_) | (with_reducible refine below_drewN ?_ _) | ((with_reducible refine Below.trans ?_ (Below.mono (by with_reducible assumption) ?hsz)); (case hsz => (first | omega | (simp; done) | (simp; omega) | (simp at *; omega))))))
  go_wp2_with fail
  with_reducible refine (l20Flow_any 12 (w.heap.size + 1) m c 0 A _ hr1 (by omega) (by omega) (by omega)).mono ?_
  rintro e w2 ⟨z, ps, u, xs, t, rfl, hp2, hx2, hr2, hg2, hl8, hzl, hzh⟩
  have bx2 := bx1.grown hg2 (by simp)
  have hs2 := hg2.size
  have hb2 : Below w.heap.size w w2 := hgo.trans (below_grow hg2 (by omega) (fun q hq => by injection hq with hq; omega))
  obtain ⟨PA, pc, rfl, hc1, hc2, hsm, -⟩ := hp2.form
  obtain ⟨XA, xc, rfl, hc1', hc2', hsm', -⟩ := hx2.form
  unfold maxLen at hc2 hc2'
  obtain ⟨bs, b0, b1, b2, b3⟩ := id bx2
  go_wp2
  refine bodyPost_ret (v := .tuple #[.agg #[.int .i64 z, .slice PA ps.length pc], .slice XA xs.length xc]) (by simp [results, Try.results23, go_sem, b0, b1]) rfl ⟨z, ps, _, xs, _, rfl, ?_, ?_, ?_, hl8, hzl, hzh⟩
  · refine Pipes.mono (b := w1.heap.size) ?_ (by omega)
    (repeat (first | (with_reducible assumption) | ((with_reducible refine Pipes.setLow ?_ ?hsz); (case hsz => (first | omega | (simp; done) | (simp; omega) | (simp at *; omega)))) | (with_reducible refine Pipes.alloc' ?_ _) | (with_reducible refine Pipes.drew' ?_) | (with_reducible refine Pipes.drewN' ?_ _) | ((with_reducible refine Pipes.keep ?_ (by with_reducible assumption)))))
  · refine Ints.mono (b := w1.heap.size) ?_ (by omega)
    (repeat (first | (with_reducible assumption) | ((with_reducible refine Ints.setLow ?_ ?hsz); (case hsz => (first | omega | (simp; done) | (simp; omega) | (simp at *; omega)))) | (with_reducible refine Ints.alloc' ?_ _) | (with_reducible refine Ints.drew' ?_) | (with_reducible refine Ints.drewN' ?_ _) | ((with_reducible refine Ints.keep ?_ (by with_reducible assumption)))))
  · (repeat (first | (with_reducible assumption) | (with_reducible exact Below.refl _ _) | ((with_reducible refine Below.alloc ?_ ?hsz _); (case hsz => (first | omega | (simp; done) | (simp; omega) | (simp at *; omega)))) | ((with_reducible refine Below.setCell ?_ ?hsz _); (case hsz => (first | omega | (simp; done) | (simp; omega) | (simp at *; omega)))) | (with_reducible refine Below.drew ?_) | (with_reducible refine below_drewN ?_ _) | ((with_reducible refine Below.trans ?_ (Below.mono (by with_reducible assumption) ?hsz)); (case hsz => (first | omega | (simp; done) | (simp; omega) | (simp at *; omega))))))

set_option maxHeartbeats 1000000 in
set_option maxRecDepth 20000 in
theorem drawHoldsOk_any (v : Value) (n : Nat) (w : World) (h : ArgBytes w v n) : Calls Try.prog 27 #[v] w (DrawnFlow w) := by
  have bx0 := Box2.new w (.int .i64 0) (.slice none 0 0) 28
  go_enter Try.func27, Try.ntmps27
  go_wp2_with fail
  refine (l20Open_any v n _ (h.keep (by (repeat (first | (with_reducible assumption) | (with_reducible exact Below.refl _ _) | ((with_reducible refine Below.alloc ?_ ?hsz _); (case hsz => (first | omega | (simp; done) | (simp; omega) | (simp at *; omega)))) | ((with_reducible refine Below.setCell ?_ ?hsz _); (case hsz => (first | omega | (simp; done) | (simp; omega) | (simp at *; omega)))) | (with_reducible refine Below.drew ?_) | (with_reducible refine below_drewN ?_ _) | ((with_reducible refine Below.trans ?_ (Below.mono (by with_reducible assumption) ?hsz)); (case hsz => (first | omega | (simp; done) | (simp; omega) | (simp at *; omega))))))))).mono ?_
  rintro e w1 ⟨A, m, c, rfl, hr1, hb1, hz1⟩
  have bx1 := bx0.keep (hb1.mono (by simp))
  rw [World.size_alloc] at hr1 hz1
  have hgo : Below w.heap.size w w1 := by (repeat (first | (with_reducible assumption) | (with_reducible exact Below.refl _ _) | ((with_reducible refine Below.alloc ?_ ?hsz _); (case hsz => (first | omega | (simp; done) | (simp; omega) | (simp at *; omega)))) | ((with_reducible refine Below.setCell ?_ ?hsz _); (case hsz => (first | omega | (simp; done) | (simp; omega) | (simp at *; omega)))) | (with_reducible refine Below.drew ?_) | (with_reducible refine below_drewN ?_ _) | ((with_reducible refine Below.trans ?_ (Below.mono (by with_reducible assumption) ?hsz)); (case hsz => (first | omega | (simp; done) | (simp; omega) | (simp at *; omega))))))
  go_wp2_with fail
  with_reducible refine (l20Flow_any 12 (w.heap.size + 1) m c 0 A _ hr1 (by omega) (by omega) (by omega)).mono ?_
  rintro e w2 ⟨z, ps, u, xs, t, rfl, hp2, hx2, hr2, hg2, hl8, hzl, hzh⟩
  have bx2 := bx1.grown hg2 (by simp)
  have hs2 := hg2.size
  have hb2 : Below w.heap.size w w2 := hgo.trans (below_grow hg2 (by omega) (fun q hq => by injection hq with hq; omega))
  obtain ⟨PA, pc, rfl, hc1, hc2, hsm, -⟩ := hp2.form
  obtain ⟨XA, xc, rfl, hc1', hc2', hsm', -⟩ := hx2.form
  unfold maxLen at hc2 hc2'
  obtain ⟨bs, b0, b1, b2, b3⟩ := id bx2
  go_wp2
  refine bodyPost_ret (v := .tuple #[.agg #[.int .i64 z, .slice PA ps.length pc], .slice XA xs.length xc]) (by simp [results, Try.results27, go_sem, b0, b1]) rfl ⟨z, ps, _, xs, _, rfl, ?_, ?_, ?_, hl8, hzl, hzh⟩
  · refine Pipes.mono (b := w1.heap.size) ?_ (by omega)
    (repeat (first | (with_reducible assumption) | ((with_reducible refine Pipes.setLow ?_ ?hsz); (case hsz => (first | omega | (simp; done) | (simp; omega) | (simp at *; omega)))) | (with_reducible refine Pipes.alloc' ?_ _) | (with_reducible refine Pipes.drew' ?_) | (with_reducible refine Pipes.drewN' ?_ _) | ((with_reducible refine Pipes.keep ?_ (by with_reducible assumption)))))
  · refine Ints.mono (b := w1.heap.size) ?_ (by omega)
    (repeat (first | (with_reducible assumption) | ((with_reducible refine Ints.setLow ?_ ?hsz); (case hsz => (first | omega | (simp; done) | (simp; omega) | (simp at *; omega)))) | (with_reducible refine Ints.alloc' ?_ _) | (with_reducible refine Ints.drew' ?_) | (with_reducible refine Ints.drewN' ?_ _) | ((with_reducible refine Ints.keep ?_ (by with_reducible assumption)))))
  · (repeat (first | (with_reducible assumption) | (with_reducible exact Below.refl _ _) | ((with_reducible refine Below.alloc ?_ ?hsz _); (case hsz => (first | omega | (simp; done) | (simp; omega) | (simp at *; omega)))) | ((with_reducible refine Below.setCell ?_ ?hsz _); (case hsz => (first | omega | (simp; done) | (simp; omega) | (simp at *; omega)))) | (with_reducible refine Below.drew ?_) | (with_reducible refine below_drewN ?_ _) | ((with_reducible refine Below.trans ?_ (Below.mono (by with_reducible assumption) ?hsz)); (case hsz => (first | omega | (simp; done) | (simp; omega) | (simp at *; omega))))))

set_option maxHeartbeats 1000000 in
set_option maxRecDepth 20000 in
theorem drawExcessAt_any (v : Value) (n : Nat) (w : World) (h : ArgBytes w v n) : Calls Try.prog 19 #[v] w (DrawnFlowInt w) := by
  have bx0 := Box2.new w (.int .i64 0) (.slice none 0 0) 28
  go_enter Try.func19, Try.ntmps19
  go_wp2_with fail
  refine (l20Open_any v n _ (h.keep (by (repeat (first | (with_reducible assumption) | (with_reducible exact Below.refl _ _) | ((with_reducible refine Below.alloc ?_ ?hsz _); (case hsz => (first | omega | (simp; done) | (simp; omega) | (simp at *; omega)))) | ((with_reducible refine Below.setCell ?_ ?hsz _); (case hsz => (first | omega | (simp; done) | (simp; omega) | (simp at *; omega)))) | (with_reducible refine Below.drew ?_) | (with_reducible refine below_drewN ?_ _) | ((with_reducible refine Below.trans ?_ (Below.mono (by with_reducible assumption) ?hsz)); (case hsz => (first | omega | (simp; done) | (simp; omega) | (simp at *; omega))))))))).mono ?_
  rintro e w1 ⟨A, m, c, rfl, hr1, hb1, hz1⟩
  have bx1 := bx0.keep (hb1.mono (by simp))
  rw [World.size_alloc] at hr1 hz1
  have hgo : Below w.heap.size w w1 := by (repeat (first | (with_reducible assumption) | (with_reducible exact Below.refl _ _) | ((with_reducible refine Below.alloc ?_ ?hsz _); (case hsz => (first | omega | (simp; done) | (simp; omega) | (simp at *; omega)))) | ((with_reducible refine Below.setCell ?_ ?hsz _); (case hsz => (first | omega | (simp; done) | (simp; omega) | (simp at *; omega)))) | (with_reducible refine Below.drew ?_) | (with_reducible refine below_drewN ?_ _) | ((with_reducible refine Below.trans ?_ (Below.mono (by with_reducible assumption) ?hsz)); (case hsz => (first | omega | (simp; done) | (simp; omega) | (simp at *; omega))))))
  go_wp2_with fail
  with_reducible refine (l20Flow_any 14 (w.heap.size + 1) m c 0 A _ hr1 (by omega) (by omega) (by omega)).mono ?_
  rintro e w2 ⟨z, ps, u, xs, t, rfl, hp2, hx2, hr2, hg2, hl8, hzl, hzh⟩
  have bx2 := bx1.grown hg2 (by simp)
  have hs2 := hg2.size
  have hb2 : Below w.heap.size w w2 := hgo.trans (below_grow hg2 (by omega) (fun q hq => by injection hq with hq; omega))
  obtain ⟨PA, pc, rfl, hc1, hc2, hsm, -⟩ := hp2.form
  obtain ⟨XA, xc, rfl, hc1', hc2', hsm', -⟩ := hx2.form
  unfold maxLen at hc2 hc2'
  obtain ⟨bs, b0, b1, b2, b3⟩ := id bx2
  go_wp2_with fail
  have nb2 : Box2 (w2.alloc (.cells #[.int .i64 z, .slice PA ps.length pc] 28)) w2.heap.size (.int .i64 z) (.slice PA ps.length pc) := Box2.new _ _ _ _
  have hr2a : Rd (w2.alloc (.cells #[.int .i64 z, .slice PA ps.length pc] 28)).drew (w.heap.size + 1) A m c (0 + 400) := ((hr2.more (K' := 0 + 400) (by omega)).alloc' _).drew
  have hz21 : w2.heap.size ≠ w.heap.size + 1 := by omega
  have hz22 : w2.heap.size ≠ w.heap.size := by omega
  have hz23 : w.heap.size ≠ w.heap.size + 1 := by omega
  have hz24 : w.heap.size < w2.heap.size := by omega
  go_region_held3 (fun w' => w'.cell? ⟨w2.heap.size, 0, none⟩ = some (.int .i64 z) ∧ w'.cell? ⟨w2.heap.size, 1, none⟩ = some (.slice PA ps.length pc))
    (first | go_keep | (go_split_ands; refine ⟨?_, ?_⟩ <;> (repeat (first | (with_reducible assumption) | ((with_reducible refine (Below.cell (by with_reducible assumption) ?hsz).trans ?_); (case hsz => (first | omega | (simp; done) | (simp; omega) | (simp at *; omega)))) | ((with_reducible refine (World.cell?_alloc_lt _ _ _ ?hsz).trans ?_); (case hsz => (first | omega | (simp; done) | (simp; omega) | (simp at *; omega)))) | ((with_reducible refine (World.cell?_setCell_other _ _ _ _ ?hsz).trans ?_); (case hsz => (intro h; injection h with h1 h2; omega)))))) | (go_simp; done))
    (first
      | (go_at_call 59; (with_reducible refine (pick_any _ (w.heap.size + 1) m c _ A _ hr4a (by omega) (by first | decide | omega) (by first | decide | omega)).mono ?_); rintro e w5 ⟨x5, rfl, x50, x51, hr5a, hg5, hz5⟩; obtain ⟨hcg5, hfg5⟩ := gcell hg5)
      | (go_at_call 59; (with_reducible refine (pick_any _ (w.heap.size + 1) m c _ A _ hr3a (by omega) (by first | decide | omega) (by first | decide | omega)).mono ?_); rintro e w4 ⟨x4, rfl, x40, x41, hr4a, hg4, hz4⟩; obtain ⟨hcg4, hfg4⟩ := gcell hg4)
      | (go_at_call 59; (with_reducible refine (pick_any _ (w.heap.size + 1) m c _ A _ hr2a (by omega) (by first | decide | omega | (split <;> omega)) (by first | decide | omega | (split <;> omega))).mono ?_); rintro e w3 ⟨x3, rfl, x30, x31, hr3a, hg3, hz3⟩; obtain ⟨hcg3, hfg3⟩ := gcell hg3))
  have hg25 : w2.grownBy w5 (some (w.heap.size + 1)) := grow_more (grow_more (grow_more (grow_drew (grow_alloc (grow_refl w2 _) _)) hg3 (fun q hq => .inr hq)) hg4 (fun q hq => .inr hq)) hg5 (fun q hq => .inr hq)
  clear hcg3 hfg3
  (try clear hcg4 hfg4)
  (try clear hcg5 hfg5)
  have bx5 := bx2.grown hg25 (by simp)
  have hp5 := hp2.grown hg25 (by omega)
  have hx5 := hx2.grown hg25 (by omega)
  have hb5 : Below w.heap.size w w5 := hb2.trans (below_grow hg25 (by omega) (fun q hq => by injection hq with hq; omega))
  obtain ⟨bs5, q0, q1, -, -⟩ := id bx5
  clear b0 b1 b2 b3 hg25
  obtain ⟨iv, hiv⟩ : ∃ iv : Int, iv = IntKind.i64.wrap (IntKind.i64.wrap (x3 + IntKind.i64.wrap (IntKind.i64.wrap (x4.tdiv 29) * 5)) - IntKind.i64.wrap (IntKind.i64.wrap (x5.tdiv 39) * 6)) := ⟨_, rfl⟩
  rw [← hiv]
  clear hiv
  go_wp2
  refine bodyPost_ret (v := .tuple #[.agg #[.int .i64 z, .slice PA ps.length pc], .slice XA xs.length xc, .int .i64 iv]) (by simp [results, Try.results19, go_sem, q0, q1]) rfl ⟨_, ps, _, xs, _, iv, rfl, ?_, ?_, ?_, hl8, hzl, hzh⟩
  · refine Pipes.mono (b := w1.heap.size) ?_ (by omega)
    (repeat (first | (with_reducible assumption) | ((with_reducible refine Pipes.setLow ?_ ?hsz); (case hsz => (first | omega | (simp; done) | (simp; omega) | (simp at *; omega)))) | (with_reducible refine Pipes.alloc' ?_ _) | (with_reducible refine Pipes.drew' ?_) | (with_reducible refine Pipes.drewN' ?_ _) | ((with_reducible refine Pipes.keep ?_ (by with_reducible assumption)))))
  · refine Ints.mono (b := w1.heap.size) ?_ (by omega)
    (repeat (first | (with_reducible assumption) | ((with_reducible refine Ints.setLow ?_ ?hsz); (case hsz => (first | omega | (simp; done) | (simp; omega) | (simp at *; omega)))) | (with_reducible refine Ints.alloc' ?_ _) | (with_reducible refine Ints.drew' ?_) | (with_reducible refine Ints.drewN' ?_ _) | ((with_reducible refine Ints.keep ?_ (by with_reducible assumption)))))
  · (repeat (first | (with_reducible assumption) | (with_reducible exact Below.refl _ _) | ((with_reducible refine Below.alloc ?_ ?hsz _); (case hsz => (first | omega | (simp; done) | (simp; omega) | (simp at *; omega)))) | ((with_reducible refine Below.setCell ?_ ?hsz _); (case hsz => (first | omega | (simp; done) | (simp; omega) | (simp at *; omega)))) | (with_reducible refine Below.drew ?_) | (with_reducible refine below_drewN ?_ _) | ((with_reducible refine Below.trans ?_ (Below.mono (by with_reducible assumption) ?hsz)); (case hsz => (first | omega | (simp; done) | (simp; omega) | (simp at *; omega))))))

end Go.Proofs.Ytlebamdgcfhdaaa
