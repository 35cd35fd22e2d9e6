/- Contracts of the laws' draws of chapter 5: a net. -/
import Derived.Test.YtphbmlephldaaaaDU
import Derived.Test.YtphbmlephldaaaaG1
namespace Go.Proofs.Ytphbmlephldaaaa
open Go.RowKit

set_option maxHeartbeats 1000000 in
set_option maxRecDepth 20000 in
theorem drawBlockingSide_any (v : Value) (n : Nat) (w : World) (h : ArgBytes w v n) : Calls Try.prog 17 #[v] w fun e w' => ∃ (z : Int) (ps : List Pp) (u : Value), e = .returned (.agg #[.int .i64 z, u]) ∧ Pipes w' w.heap.size u ps ∧ Below w.heap.size w w' ∧ ps.length ≤ 8 ∧ 1 ≤ z ∧ z ≤ 6 := by
  have bx0 := Box2.new w (.int .i64 0) (.slice none 0 0) 25
  go_enter Try.func17, Try.ntmps17
  go_wp2_with fail
  refine (l20Open_any v n _ (h.keep (by (repeat (first | (with_reducible assumption) | (with_reducible exact Below.refl _ _) | ((with_reducible refine Below.alloc ?_ ?hsz _); (case hsz => (first | omega | (simp; done) | (simp; omega) | (simp at *; omega)))) | ((with_reducible refine Below.setCell ?_ ?hsz _); (case hsz => (first | omega | (simp; done) | (simp; omega) | (simp at *; omega)))) | (with_reducible refine Below.drew ?_) | (with_reducible refine below_drewN ?_ _) | ((with_reducible refine Below.trans ?_ (Below.mono (by with_reducible assumption) ?hsz)); (case hsz => (first | omega | (simp; done) | (simp; omega) | (simp at *; omega))))))))).mono ?_
  rintro e w1 ⟨A, m, c, rfl, hr1, hb1, hz1⟩
  have bx1 := bx0.keep (hb1.mono (by simp))
  rw [World.size_alloc] at hr1 hz1
  have hgo : Below w.heap.size w w1 := by (repeat (first | (with_reducible assumption) | (with_reducible exact Below.refl _ _) | ((with_reducible refine Below.alloc ?_ ?hsz _); (case hsz => (first | omega | (simp; done) | (simp; omega) | (simp at *; omega)))) | ((with_reducible refine Below.setCell ?_ ?hsz _); (case hsz => (first | omega | (simp; done) | (simp; omega) | (simp at *; omega)))) | (with_reducible refine Below.drew ?_) | (with_reducible refine below_drewN ?_ _) | ((with_reducible refine Below.trans ?_ (Below.mono (by with_reducible assumption) ?hsz)); (case hsz => (first | omega | (simp; done) | (simp; omega) | (simp at *; omega))))))
  go_wp2_with fail
  with_reducible refine (l20Least_any 9 (w.heap.size + 1) m c 0 A _ hr1 (by omega) (by omega) (by omega)).mono ?_
  rintro e w2 ⟨z, ps, u, rfl, hp2, hr2, hg2, hl8, hzl, hzh⟩
  have bx2 := bx1.grown hg2 (by simp)
  have hs2 := hg2.size
  have hb2 : Below w.heap.size w w2 := hgo.trans (below_grow hg2 (by omega) (fun q hq => by injection hq with hq; omega))
  obtain ⟨PA, pc, rfl, hc1, hc2, hsm, -⟩ := hp2.form
  unfold maxLen at hc2
  obtain ⟨bs, b0, b1, b2, b3⟩ := id bx2
  go_wp2
  refine bodyPost_ret (v := .agg #[.int .i64 z, .slice PA ps.length pc]) (by simp [results, Try.results17, go_sem, b0, b1]) rfl ⟨z, ps, _, rfl, ?_, ?_, hl8, hzl, hzh⟩
  · refine Pipes.mono (b := w1.heap.size) ?_ (by omega)
    (repeat (first | (with_reducible assumption) | ((with_reducible refine Pipes.setLow ?_ ?hsz); (case hsz => (first | omega | (simp; done) | (simp; omega) | (simp at *; omega)))) | (with_reducible refine Pipes.alloc' ?_ _) | (with_reducible refine Pipes.drew' ?_) | (with_reducible refine Pipes.drewN' ?_ _) | ((with_reducible refine Pipes.keep ?_ (by with_reducible assumption)))))
  · (repeat (first | (with_reducible assumption) | (with_reducible exact Below.refl _ _) | ((with_reducible refine Below.alloc ?_ ?hsz _); (case hsz => (first | omega | (simp; done) | (simp; omega) | (simp at *; omega)))) | ((with_reducible refine Below.setCell ?_ ?hsz _); (case hsz => (first | omega | (simp; done) | (simp; omega) | (simp at *; omega)))) | (with_reducible refine Below.drew ?_) | (with_reducible refine below_drewN ?_ _) | ((with_reducible refine Below.trans ?_ (Below.mono (by with_reducible assumption) ?hsz)); (case hsz => (first | omega | (simp; done) | (simp; omega) | (simp at *; omega))))))

theorem own_front {w : World} {b e size n m g cap : Nat} {xs : List Value} (h : w.ownsRow b e size (.slice (some ⟨g, 0, none⟩) n cap) n xs) (hm : m ≤ n) : w.ownsRow b e size (.slice (some ⟨g, 0, none⟩) m cap) m (xs.take (m * size)) := by
  obtain ⟨h1, h2⟩ := h
  have hle : m * size ≤ n * size := Nat.mul_le_mul_right _ hm
  rcases h2 with ⟨h, -⟩ | ⟨g', cap', cur, e1, h3, h4, h5, h6, h7, h8⟩
  · cases h
  · injection e1 with x1 x2 x3
    injection x1 with x1
    injection x1 with x1
    subst x1
    subst x3
    refine ⟨by rw [List.length_take, h1]; omega, .inr ⟨g, cap, cur, rfl, h3, h4, by omega, h6, h7, ?_⟩⟩
    rw [← h8, List.take_take, Nat.min_eq_left hle]
theorem flat_take5 (qs : List Pp) (m : Nat) : (qs.take m).flatMap Pp.cells = (qs.flatMap Pp.cells).take (m * 5) := by
  induction m generalizing qs with
  | zero => simp
  | succ m ih =>
    cases qs with
    | nil => simp
    | cons q qs =>
      rw [List.take_succ_cons, List.flatMap_cons, List.flatMap_cons, ih qs, show (m + 1) * 5 = q.cells.length + m * 5 by simp [Pp.cells]; omega, List.take_length_add_append]

set_option maxHeartbeats 1000000 in
set_option maxRecDepth 20000 in
theorem drawCountCirculations_any (v : Value) (n : Nat) (w : World) (h : ArgBytes w v n) : Calls Try.prog 21 #[v] w fun e w' => ∃ (z : Int) (ps : List Pp) (u : Value), e = .returned (.agg #[.int .i64 z, u]) ∧ Pipes w' w.heap.size u ps ∧ Below w.heap.size w w' ∧ ps.length ≤ 8 ∧ 1 ≤ z ∧ z ≤ 6 := by
  have bx0 := Box2.new w (.int .i64 0) (.slice none 0 0) 25
  go_enter Try.func21, Try.ntmps21
  go_wp2_with fail
  refine (l20Open_any v n _ (h.keep (by (repeat (first | (with_reducible assumption) | (with_reducible exact Below.refl _ _) | ((with_reducible refine Below.alloc ?_ ?hsz _); (case hsz => (first | omega | (simp; done) | (simp; omega) | (simp at *; omega)))) | ((with_reducible refine Below.setCell ?_ ?hsz _); (case hsz => (first | omega | (simp; done) | (simp; omega) | (simp at *; omega)))) | (with_reducible refine Below.drew ?_) | (with_reducible refine below_drewN ?_ _) | ((with_reducible refine Below.trans ?_ (Below.mono (by with_reducible assumption) ?hsz)); (case hsz => (first | omega | (simp; done) | (simp; omega) | (simp at *; omega))))))))).mono ?_
  rintro e w1 ⟨A, m, c, rfl, hr1, hb1, hz1⟩
  have bx1 := bx0.keep (hb1.mono (by simp))
  rw [World.size_alloc] at hr1 hz1
  have hgo : Below w.heap.size w w1 := by (repeat (first | (with_reducible assumption) | (with_reducible exact Below.refl _ _) | ((with_reducible refine Below.alloc ?_ ?hsz _); (case hsz => (first | omega | (simp; done) | (simp; omega) | (simp at *; omega)))) | ((with_reducible refine Below.setCell ?_ ?hsz _); (case hsz => (first | omega | (simp; done) | (simp; omega) | (simp at *; omega)))) | (with_reducible refine Below.drew ?_) | (with_reducible refine below_drewN ?_ _) | ((with_reducible refine Below.trans ?_ (Below.mono (by with_reducible assumption) ?hsz)); (case hsz => (first | omega | (simp; done) | (simp; omega) | (simp at *; omega))))))
  go_wp2_with fail
  with_reducible refine (l20Least_any 9 (w.heap.size + 1) m c 0 A _ hr1 (by omega) (by omega) (by omega)).mono ?_
  rintro e w2 ⟨z, ps, u, rfl, hp2, hr2, hg2, hl8, hzl, hzh⟩
  have bx2 := bx1.grown hg2 (by simp)
  have hs2 := hg2.size
  have hb2 : Below w.heap.size w w2 := hgo.trans (below_grow hg2 (by omega) (fun q hq => by injection hq with hq; omega))
  obtain ⟨PA, pc, rfl, hc1, hc2, hsm, -⟩ := hp2.form
  unfold maxLen at hc2
  have nb2 : Box2 (w2.alloc (.cells #[.int .i64 z, .slice PA ps.length pc] 25)) w2.heap.size (.int .i64 z) (.slice PA ps.length pc) := Box2.new _ _ _ _
  have bx2' := bx2.keep ((Below.refl _ _).alloc (Nat.le_refl _) (.cells #[.int .i64 z, .slice PA ps.length pc] 25))
  obtain ⟨bs, b0, b1, b2, b3⟩ := id bx2'
  obtain ⟨ns, n0, n1, n2, n3⟩ := id nb2
  by_cases hl5 : 5 < ps.length
  · obtain ⟨g, rfl, hg1, hg2, -⟩ := hp2.at' 0 (by omega)
    have hr3 := hr2.alloc' (.cells #[.int .i64 z, .slice (some ⟨g, 0, none⟩) ps.length pc] 25)
    go_wp2_with fail
    refine (pick_any 6 (w.heap.size + 1) m c _ A _ hr3 (by omega) (by omega) (by omega)).mono ?_
    rintro e w3 ⟨x, rfl, x0, x1, hr4, hg3, hz3⟩
    have nb3 := nb2.grown hg3 (by simp; omega)
    have bx3 := bx2'.grown hg3 (by simp)
    have hp3 := (hp2.alloc' (.cells #[.int .i64 z, .slice (some ⟨g, 0, none⟩) ps.length pc] 25)).grown hg3 (by omega)
    have hb3 : Below w.heap.size w w3 := (hb2.alloc hb2.size _).trans (below_grow hg3 (by simp; omega) (fun q hq => by injection hq with hq; omega))
    have hz4 : w3.heap.size = w2.heap.size + 1 := by rw [hz3]; simp
    clear b0 b1 b2 b3 n0 n1 n2 n3 bs ns nb2 bx2 bx2' hr3 hr4 hg3 hz3
    obtain ⟨bs, b0, b1, b2, b3⟩ := id bx3
    obtain ⟨ns, n0, n1, n2, n3⟩ := id nb3
    by_cases hx : 0 < x
    · have hne : g ≠ w2.heap.size := by omega
      have hf : Pipes w3 w1.heap.size (.slice (some ⟨g, 0, none⟩) 4 pc) (ps.take 4) := by
        have e4 : (ps.take 4).length = 4 := by rw [List.length_take]; omega
        refine ⟨?_, by rw [e4]; unfold small; omega⟩
        rw [e4, flat_take5]
        exact own_front hp3.1 (by omega)
      have hw : Pipes (w3.setCell ⟨w2.heap.size, 1, none⟩ (.slice (some ⟨g, 0, none⟩) 4 pc)) w1.heap.size (.slice (some ⟨g, 0, none⟩) 4 pc) (ps.take 4) := ⟨ownsRow_setCell_other hf.1 (a := ⟨w2.heap.size, 1, none⟩) (fun h => hne (by injection h)) _, hf.2⟩
      have hl4 : (ps.take 4).length ≤ 8 := by rw [List.length_take]; omega
      have HW := Lib.hid (And.intro hw (And.intro hl4 (hb3.setCell (p := ⟨w2.heap.size, 1, none⟩) (by simp; omega) (.slice (some ⟨g, 0, none⟩) 4 pc))))
      clear hw hl4 hf hb3
      go_wp2
      refine bodyPost_ret (v := .agg #[.int .i64 z, .slice (some ⟨g, 0, none⟩) 4 pc]) (by simp [results, Try.results21, go_sem, b0, b1]) rfl ⟨z, ps.take 4, _, rfl, ?_, ?_, HW.out.2.1, hzl, hzh⟩
      · exact ((HW.out.1.setLow (by simp; omega)).setLow (by simp; omega)).mono (by omega)
      · exact (HW.out.2.2.setCell (Nat.le_refl _) _).setCell (Nat.le_refl _) _
    · go_wp2
      refine bodyPost_ret (v := .agg #[.int .i64 z, .slice (some ⟨g, 0, none⟩) ps.length pc]) (by simp [results, Try.results21, go_sem, b0, b1]) rfl ⟨z, ps, _, rfl, ?_, ?_, hl8, hzl, hzh⟩
      · exact ((hp3.setLow (by simp; omega)).setLow (by simp; omega)).mono (by omega)
      · exact (hb3.setCell (Nat.le_refl _) _).setCell (Nat.le_refl _) _
  · go_wp2
    refine bodyPost_ret (v := .agg #[.int .i64 z, .slice PA ps.length pc]) (by simp [results, Try.results21, go_sem, b0, b1]) rfl ⟨z, ps, _, rfl, ?_, ?_, hl8, hzl, hzh⟩
    · exact (((hp2.alloc' _).setLow (by simp; omega)).setLow (by simp; omega)).mono (by omega)
    · exact ((hb2.alloc hb2.size _).setCell (Nat.le_refl _) _).setCell (Nat.le_refl _) _

end Go.Proofs.Ytphbmlephldaaaa
