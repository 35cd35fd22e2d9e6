/- Contracts of the laws' draws: two flows; a net alone; a net and a side. -/
import Derived.Test.YticokpjjajdhcaaD6
namespace Go.Proofs.Yticokpjjajdhcaa
open Go.RowKit

/-- what a draw of a net and two flows leaves -/
def DrawnTwo (w : World) (e : Ending) (w' : World) : Prop :=
  ∃ (z : Int) (ps : List Pp) (u : Value) (xs : List Int) (t : Value) (ys : List Int) (r : Value), e = .returned (.tuple #[.agg #[.int .i64 z, u], t, r]) ∧ Pipes w' w.heap.size u ps ∧ Ints w' w.heap.size t xs ∧ Ints w' w.heap.size r ys ∧ Below w.heap.size w w' ∧ ps.length ≤ 8 ∧ 1 ≤ z ∧ z ≤ 6
/-- what a draw of a net leaves -/
def DrawnNet (w : World) (e : Ending) (w' : World) : Prop :=
  ∃ (z : Int) (ps : List Pp) (u : Value), e = .returned (.agg #[.int .i64 z, u]) ∧ Pipes w' w.heap.size u ps ∧ Below w.heap.size w w' ∧ ps.length ≤ 8 ∧ 1 ≤ z ∧ z ≤ 6
/-- what a draw of a net and a number leaves -/
def DrawnNetInt (w : World) (e : Ending) (w' : World) : Prop :=
  ∃ (z : Int) (ps : List Pp) (u : Value) (i : Int), e = .returned (.tuple #[.agg #[.int .i64 z, u], .int .i64 i]) ∧ Pipes w' w.heap.size u ps ∧ Below w.heap.size w w' ∧ ps.length ≤ 8 ∧ 1 ≤ z ∧ z ≤ 6 ∧ -1000 ≤ i ∧ i ≤ 1000

set_option maxHeartbeats 1000000 in
set_option maxRecDepth 20000 in
theorem drawBothFlows_any (v : Value) (n : Nat) (w : World) (h : ArgBytes w v n) : Calls Try.prog 30 #[v] w (DrawnTwo w) := by
  have bx0 := Box2.new w (.int .i64 0) (.slice none 0 0) 25
  go_enter Try.func30, Try.ntmps30
  go_wp2_with fail
  refine (l20Open_any v n _ (h.keep (by (repeat (first | (with_reducible assumption) | (with_reducible exact Below.refl _ _) | ((with_reducible refine Below.alloc ?_ ?hsz _); (case hsz => (first | omega | (simp; done) | (simp; omega) | (simp at *; omega)))) | ((with_reducible refine Below.setCell ?_ ?hsz _); (case hsz => (first | omega | (simp; done) | (simp; omega) | (simp at *; omega)))) | (with_reducible refine Below.drew ?_) | (with_reducible refine below_drewN ?_ _) | ((with_reducible refine Below.trans ?_ (Below.mono (by with_reducible assumption) ?hsz)); (case hsz => (first | omega | (simp; done) | (simp; omega) | (simp at *; omega))))))))).mono ?_
  rintro e w1 ⟨A, m, c, rfl, hr1, hb1, hz1⟩
  have bx1 := bx0.keep (hb1.mono (by simp))
  rw [World.size_alloc] at hr1 hz1
  have hgo : Below w.heap.size w w1 := by (repeat (first | (with_reducible assumption) | (with_reducible exact Below.refl _ _) | ((with_reducible refine Below.alloc ?_ ?hsz _); (case hsz => (first | omega | (simp; done) | (simp; omega) | (simp at *; omega)))) | ((with_reducible refine Below.setCell ?_ ?hsz _); (case hsz => (first | omega | (simp; done) | (simp; omega) | (simp at *; omega)))) | (with_reducible refine Below.drew ?_) | (with_reducible refine below_drewN ?_ _) | ((with_reducible refine Below.trans ?_ (Below.mono (by with_reducible assumption) ?hsz)); (case hsz => (first | omega | (simp; done) | (simp; omega) | (simp at *; omega))))))
  go_wp2_with fail
  with_reducible refine (l20Flow_any 14 (w.heap.size + 1) m c 0 A _ hr1 (by omega) (by omega) (by omega)).mono ?_
  rintro e w2 ⟨z, ps, u, xs, t, rfl, hp2, hx2, hr2, hg2, hl8, hzl, hzh⟩
  have bx2 := bx1.grown hg2 (by simp)
  have hs2 := hg2.size
  have hb2 : Below w.heap.size w w2 := hgo.trans (below_grow hg2 (by omega) (fun q hq => by injection hq with hq; omega))
  obtain ⟨PA, pc, rfl, hc1, hc2, hsm, -⟩ := hp2.form
  obtain ⟨XA, xc, rfl, hc1', hc2', hsm', -⟩ := hx2.form
  unfold maxLen at hc2 hc2'
  obtain ⟨bs, b0, b1, b2, b3⟩ := id bx2
  have nb2 : Box2 (w2.alloc (.cells #[.int .i64 z, .slice PA ps.length pc] 25)) w2.heap.size (.int .i64 z) (.slice PA ps.length pc) := Box2.new _ _ _ _
  go_wp2_with fail
  refine (specNetOk_any z _ ps _ _ (hp2.keep (by (repeat (first | (with_reducible assumption) | (with_reducible exact Below.refl _ _) | ((with_reducible refine Below.alloc ?_ ?hsz _); (case hsz => (first | omega | (simp; done) | (simp; omega) | (simp at *; omega)))) | ((with_reducible refine Below.setCell ?_ ?hsz _); (case hsz => (first | omega | (simp; done) | (simp; omega) | (simp at *; omega)))) | (with_reducible refine Below.drew ?_) | (with_reducible refine below_drewN ?_ _) | ((with_reducible refine Below.trans ?_ (Below.mono (by with_reducible assumption) ?hsz)); (case hsz => (first | omega | (simp; done) | (simp; omega) | (simp at *; omega))))))))).mono ?_
  rintro e w3 ⟨rfl, hb3⟩
  have nb3 := nb2.keep hb3
  have hb23 : Below w2.heap.size w2 w3 := by (repeat (first | (with_reducible assumption) | (with_reducible exact Below.refl _ _) | ((with_reducible refine Below.alloc ?_ ?hsz _); (case hsz => (first | omega | (simp; done) | (simp; omega) | (simp at *; omega)))) | ((with_reducible refine Below.setCell ?_ ?hsz _); (case hsz => (first | omega | (simp; done) | (simp; omega) | (simp at *; omega)))) | (with_reducible refine Below.drew ?_) | (with_reducible refine below_drewN ?_ _) | ((with_reducible refine Below.trans ?_ (Below.mono (by with_reducible assumption) ?hsz)); (case hsz => (first | omega | (simp; done) | (simp; omega) | (simp at *; omega))))))
  have bx3 := bx2.keep hb23
  have hp3 := hp2.keep hb23
  have hx3 := hx2.keep hb23
  have hr3 := hr2.keep hb23
  have hb03 := hb2.trans (hb23.mono hb2.size)
  obtain ⟨ns, n0, n1, n2, n3⟩ := id nb3
  obtain ⟨bs3, q0, q1, q2, q3⟩ := id bx3
  clear b0 b1 b2 b3
  by_cases hok : netOkB z ps = true
  · go_wp2_with fail
    with_reducible refine (l20Round_any z _ ps w1.heap.size (w.heap.size + 1) m c _ A _ hr3 (by omega) hp3 (by omega) hok).mono ?_
    rintro e w4 ⟨gu, uc, ys, rfl, hy4, hyl, hr4, hg4⟩
    go_wp2_with fail
    with_reducible refine (odd_any 14 (w.heap.size + 1) m c _ A _ hr4 (by omega) (by omega) (by omega)).mono ?_
    rintro e w5 ⟨bb, rfl, hr5, hg5, hz5⟩
    have hg35 := grow_more hg4 hg5 (fun q hq => .inr hq)
    have nb5 := nb3.grown hg35 (by simp; omega)
    have bx5 := bx3.grown hg35 (by simp)
    have hp5 := hp3.grown hg35 (by omega)
    have hx5 := hx3.grown hg35 (by omega)
    have hs3 := hb23.size
    have hy5 := hy4.grown hg5 (by omega)
    have hb5 := hb03.trans (below_grow hg35 (by omega) (fun q hq => by injection hq with hq; omega))
    obtain ⟨ns5, k0, k1, k2, k3⟩ := id nb5
    obtain ⟨bs5, e0, e1, e2, e3⟩ := id bx5
    clear n0 n1 n2 n3 q0 q1 q2 q3 hz5 hg4 hg5
    cases bb with
    | false =>
      go_wp2
      refine bodyPost_ret (v := .tuple #[.agg #[.int .i64 z, .slice PA ps.length pc], .slice XA xs.length xc, .slice (some ⟨gu, 0, none⟩) ps.length uc]) (by simp [results, Try.results30, go_sem, e0, e1]) rfl ⟨_, ps, _, xs, _, ys, _, rfl, ?_, ?_, ?_, ?_, hl8, hzl, hzh⟩
      · refine Pipes.mono (b := w1.heap.size) ?_ (by omega)
        (repeat (first | (with_reducible assumption) | ((with_reducible refine Pipes.setLow ?_ ?hsz); (case hsz => (first | omega | (simp; done) | (simp; omega) | (simp at *; omega)))) | (with_reducible refine Pipes.alloc' ?_ _) | (with_reducible refine Pipes.drew' ?_) | (with_reducible refine Pipes.drewN' ?_ _) | ((with_reducible refine Pipes.keep ?_ (by with_reducible assumption)))))
      · refine Ints.mono (b := w1.heap.size) ?_ (by omega)
        (repeat (first | (with_reducible assumption) | ((with_reducible refine Ints.setLow ?_ ?hsz); (case hsz => (first | omega | (simp; done) | (simp; omega) | (simp at *; omega)))) | (with_reducible refine Ints.alloc' ?_ _) | (with_reducible refine Ints.drew' ?_) | (with_reducible refine Ints.drewN' ?_ _) | ((with_reducible refine Ints.keep ?_ (by with_reducible assumption)))))
      · refine Ints.mono (b := w3.heap.size) ?_ (by omega)
        (repeat (first | (with_reducible assumption) | ((with_reducible refine Ints.setLow ?_ ?hsz); (case hsz => (first | omega | (simp; done) | (simp; omega) | (simp at *; omega)))) | (with_reducible refine Ints.alloc' ?_ _) | (with_reducible refine Ints.drew' ?_) | (with_reducible refine Ints.drewN' ?_ _) | ((with_reducible refine Ints.keep ?_ (by with_reducible assumption)))))
      · (repeat (first | (with_reducible assumption) | (with_reducible exact Below.refl _ _) | ((with_reducible refine Below.alloc ?_ ?hsz _); (case hsz => (first | omega | (simp; done) | (simp; omega) | (simp at *; omega)))) | ((with_reducible refine Below.setCell ?_ ?hsz _); (case hsz => (first | omega | (simp; done) | (simp; omega) | (simp at *; omega)))) | (with_reducible refine Below.drew ?_) | (with_reducible refine below_drewN ?_ _) | ((with_reducible refine Below.trans ?_ (Below.mono (by with_reducible assumption) ?hsz)); (case hsz => (first | omega | (simp; done) | (simp; omega) | (simp at *; omega))))))
    | true =>
      clear k0 k1 k2 k3 e0 e1 e2 e3
      obtain ⟨hown5, hys⟩ := hy5
      rw [hyl] at hown5 hys
      have hgu := (hown5.lt gu rfl).1
      go_wp2_with fail
      go_loopw [9] (fun i wr => ∃ (k : Nat) (ys : List Int), k ≤ ps.length ∧ i = .int .i64 k ∧ ys.length = ps.length ∧ wr.ownsRow w3.heap.size 3 1 (.slice (some ⟨gu, 0, none⟩) ps.length uc) ps.length (ys.map (Value.int .i64)) ∧
          w3.grownBy wr (some (w.heap.size + 1))) (fun i _ => ps.length - (intOf i).toNat)
      case atStart => exact ⟨0, ys, by omega, rfl, hyl, hown5, hg35⟩
      case round =>
        obtain ⟨k, zs, hk, rfl, hzs, hown, hg⟩ := hrel
        have Hzs := Lib.hid hzs
        clear hzs
        by_cases hlt : k < ps.length
        · obtain ⟨yv, hyv⟩ : ∃ yv : Int, (zs.map (Value.int .i64))[k]? = some (.int .i64 yv) := ⟨zs[k]'(by have := Hzs.out; omega), by simp [Hzs.out, hlt]⟩
          have y0 := (hown.cellAt k (by omega)).trans hyv
          have y1 := hown.frozenAt k
          have hset := (hown.stored k (.int .i64 39)).1
          rw [← List.map_set] at hset
          go_wp2
          go_roundw
          case rel => exact ⟨k + 1, zs.set k 39, by omega, by go_num, by simp; exact Hzs.out, hset, grow_set hg (.inl hgu) _⟩
          case measure => simp [intOf]; omega
        · have nb6 := nb3.grown hg (by simp; omega)
          have bx6 := bx3.grown hg (by simp)
          have hp6 := hp3.grown hg (by omega)
          have hx6 := hx3.grown hg (by omega)
          have hb6 := hb03.trans (below_grow hg (by omega) (fun q hq => by injection hq with hq; omega))
          obtain ⟨ns6, k0, k1, k2, k3⟩ := id nb6
          obtain ⟨bs6, e0, e1, e2, e3⟩ := id bx6
          have hy6 : Ints wr w3.heap.size (.slice (some ⟨gu, 0, none⟩) ps.length uc) zs := ⟨by rw [Hzs.out]; exact hown, by rw [Hzs.out]; exact hys⟩
          clear hg35 hb5 hp5 hx5 nb5 bx5
          go_wp2
          refine bodyPost_ret (v := .tuple #[.agg #[.int .i64 z, .slice PA ps.length pc], .slice XA xs.length xc, .slice (some ⟨gu, 0, none⟩) ps.length uc]) (by simp [results, Try.results30, go_sem, e0, e1]) rfl ⟨_, ps, _, xs, _, zs, _, rfl, ?_, ?_, ?_, ?_, hl8, hzl, hzh⟩
          · refine Pipes.mono (b := w1.heap.size) ?_ (by omega)
            (repeat (first | (with_reducible assumption) | ((with_reducible refine Pipes.setLow ?_ ?hsz); (case hsz => (first | omega | (simp; done) | (simp; omega) | (simp at *; omega)))) | (with_reducible refine Pipes.alloc' ?_ _) | (with_reducible refine Pipes.drew' ?_) | (with_reducible refine Pipes.drewN' ?_ _) | ((with_reducible refine Pipes.keep ?_ (by with_reducible assumption)))))
          · refine Ints.mono (b := w1.heap.size) ?_ (by omega)
            (repeat (first | (with_reducible assumption) | ((with_reducible refine Ints.setLow ?_ ?hsz); (case hsz => (first | omega | (simp; done) | (simp; omega) | (simp at *; omega)))) | (with_reducible refine Ints.alloc' ?_ _) | (with_reducible refine Ints.drew' ?_) | (with_reducible refine Ints.drewN' ?_ _) | ((with_reducible refine Ints.keep ?_ (by with_reducible assumption)))))
          · refine Ints.mono (b := w3.heap.size) ?_ (by omega)
            (repeat (first | (with_reducible assumption) | ((with_reducible refine Ints.setLow ?_ ?hsz); (case hsz => (first | omega | (simp; done) | (simp; omega) | (simp at *; omega)))) | (with_reducible refine Ints.alloc' ?_ _) | (with_reducible refine Ints.drew' ?_) | (with_reducible refine Ints.drewN' ?_ _) | ((with_reducible refine Ints.keep ?_ (by with_reducible assumption)))))
          · (repeat (first | (with_reducible assumption) | (with_reducible exact Below.refl _ _) | ((with_reducible refine Below.alloc ?_ ?hsz _); (case hsz => (first | omega | (simp; done) | (simp; omega) | (simp at *; omega)))) | ((with_reducible refine Below.setCell ?_ ?hsz _); (case hsz => (first | omega | (simp; done) | (simp; omega) | (simp at *; omega)))) | (with_reducible refine Below.drew ?_) | (with_reducible refine below_drewN ?_ _) | ((with_reducible refine Below.trans ?_ (Below.mono (by with_reducible assumption) ?hsz)); (case hsz => (first | omega | (simp; done) | (simp; omega) | (simp at *; omega))))))
  · have hok' : netOkB z ps = false := by simpa using hok
    go_wp2
    refine bodyPost_ret (v := .tuple #[.agg #[.int .i64 z, .slice PA ps.length pc], .slice XA xs.length xc, .slice XA xs.length xc]) (by simp [results, Try.results30, go_sem, q0, q1]) rfl ⟨_, ps, _, xs, _, xs, _, rfl, ?_, ?_, ?_, ?_, hl8, hzl, hzh⟩
    · refine Pipes.mono (b := w1.heap.size) ?_ (by omega)
      (repeat (first | (with_reducible assumption) | ((with_reducible refine Pipes.setLow ?_ ?hsz); (case hsz => (first | omega | (simp; done) | (simp; omega) | (simp at *; omega)))) | (with_reducible refine Pipes.alloc' ?_ _) | (with_reducible refine Pipes.drew' ?_) | (with_reducible refine Pipes.drewN' ?_ _) | ((with_reducible refine Pipes.keep ?_ (by with_reducible assumption)))))
    · refine Ints.mono (b := w1.heap.size) ?_ (by omega)
      (repeat (first | (with_reducible assumption) | ((with_reducible refine Ints.setLow ?_ ?hsz); (case hsz => (first | omega | (simp; done) | (simp; omega) | (simp at *; omega)))) | (with_reducible refine Ints.alloc' ?_ _) | (with_reducible refine Ints.drew' ?_) | (with_reducible refine Ints.drewN' ?_ _) | ((with_reducible refine Ints.keep ?_ (by with_reducible assumption)))))
    · refine Ints.mono (b := w1.heap.size) ?_ (by omega)
      (repeat (first | (with_reducible assumption) | ((with_reducible refine Ints.setLow ?_ ?hsz); (case hsz => (first | omega | (simp; done) | (simp; omega) | (simp at *; omega)))) | (with_reducible refine Ints.alloc' ?_ _) | (with_reducible refine Ints.drew' ?_) | (with_reducible refine Ints.drewN' ?_ _) | ((with_reducible refine Ints.keep ?_ (by with_reducible assumption)))))
    · (repeat (first | (with_reducible assumption) | (with_reducible exact Below.refl _ _) | ((with_reducible refine Below.alloc ?_ ?hsz _); (case hsz => (first | omega | (simp; done) | (simp; omega) | (simp at *; omega)))) | ((with_reducible refine Below.setCell ?_ ?hsz _); (case hsz => (first | omega | (simp; done) | (simp; omega) | (simp at *; omega)))) | (with_reducible refine Below.drew ?_) | (with_reducible refine below_drewN ?_ _) | ((with_reducible refine Below.trans ?_ (Below.mono (by with_reducible assumption) ?hsz)); (case hsz => (first | omega | (simp; done) | (simp; omega) | (simp at *; omega))))))

end Go.Proofs.Yticokpjjajdhcaa
