/- Contract of the draw of MergedTerm: a drawn row of marks whose pipes are changed in place. -/
import Derived.Test.YtaohjhehlkeckaaHD
namespace Go.Proofs.Ytaohjhehlkeckaa
open Go.RowKit

theorem setp_list (qs : List Mk) (k : Nat) (hk : k < qs.length) (x : Int) :
    (qs.flatMap Mk.cells).set (k * 3 + 2) (.int .i64 x) = (qs.set k ⟨qs[k].k, qs[k].h, x⟩).flatMap Mk.cells := by
  induction qs generalizing k with
  | nil => simp at hk
  | cons q qs ih =>
    cases k with
    | zero => simp [List.flatMap_cons, Mk.cells]
    | succ k =>
      have h := ih k (by simpa using hk)
      have e : (k + 1) * 3 + 2 = (k * 3 + 2) + 3 := by omega
      rw [e, List.set_cons_succ, List.flatMap_cons, List.flatMap_cons, List.getElem_cons_succ, ← h]
      simp [Mk.cells]
theorem seth_list (qs : List Mk) (k : Nat) (hk : k < qs.length) (x : Int) :
    (qs.flatMap Mk.cells).set (k * 3 + 1) (.int .i64 x) = (qs.set k ⟨qs[k].k, x, qs[k].p⟩).flatMap Mk.cells := by
  induction qs generalizing k with
  | nil => simp at hk
  | cons q qs ih =>
    cases k with
    | zero => simp [List.flatMap_cons, Mk.cells]
    | succ k =>
      have h := ih k (by simpa using hk)
      have e : (k + 1) * 3 + 1 = (k * 3 + 1) + 3 := by omega
      rw [e, List.set_cons_succ, List.flatMap_cons, List.flatMap_cons, List.getElem_cons_succ, ← h]
      simp [Mk.cells]

set_option maxHeartbeats 8000000 in
set_option maxRecDepth 20000 in
theorem drawMergedTerm_any (v : Value) (n : Nat) (w : World) (h : ArgBytes w v n) : Calls Try.prog 33 #[v] w (DrawnMarks w) := by
  go_enter Try.func33, Try.ntmps33
  go_wp2_with fail
  refine (l20Open_any v n _ (h.keep (by (repeat (first | (with_reducible assumption) | (with_reducible exact Below.refl _ _) | ((with_reducible refine Below.alloc ?_ ?hsz _); (case hsz => (first | omega | (simp; done) | (simp; omega) | (simp at *; omega)))) | ((with_reducible refine Below.setCell ?_ ?hsz _); (case hsz => (first | omega | (simp; done) | (simp; omega) | (simp at *; omega)))) | (with_reducible refine Below.drew ?_) | (with_reducible refine below_drewN ?_ _) | ((with_reducible refine Below.trans ?_ (Below.mono (by with_reducible assumption) ?hsz)); (case hsz => (first | omega | (simp; done) | (simp; omega) | (simp at *; omega))))))))).mono ?_
  rintro e w1 ⟨A, m, c, rfl, hr1, hb1, hz1⟩
  go_wp2_with fail
  refine (l20Term_any 9 w.heap.size m c 0 A _ hr1 (by omega) (by omega)).mono ?_
  rintro e w2 ⟨r, ts, rfl, hm, hl, hr2, hg2⟩
  have hs2 := hg2.size
  have hb2 : Below w.heap.size w w2 := hb1.trans (below_grow hg2 (by omega) (fun q hq => by injection hq with hq; omega))
  obtain ⟨A9, c9, rfl, -, -, -, -⟩ := hm.form
  obtain ⟨l9, hl9⟩ : ∃ x, ts.length = x := ⟨_, rfl⟩
  rw [hl9] at hm hl ⊢
  go_wp2_with fail
  refine (pick_any 2 w.heap.size m c _ A _ hr2 (by omega) (by omega) (by omega)).mono ?_
  rintro e w4 ⟨x4, rfl, x40, x41, hr4, hg4, hz4⟩
  have hm4 := hm.grownR hg4 (by omega)
  have hb4 : Below w.heap.size w w4 := hb2.trans (below_grow hg4 (by omega) (fun q hq => by injection hq with hq; omega))
  have hrg := hr4.1
  clear hm hb2 hb1 hg2 hg4 hr2 hr1
  by_cases hx : x4 = 0
  · subst hx
    go_wp2_with fail
    go_loopw [5] (fun i wr => ∃ (k : Nat) (qs : List Mk), i = .int .i64 k ∧ k ≤ l9 ∧ qs.length = l9 ∧ Marks wr w1.heap.size (.slice A9 l9 c9) qs ∧ Rd wr w.heap.size A m c (0 + 200 + 1 + k) ∧ Below w.heap.size w wr) (fun i _ => l9 - (intOf i).toNat)
    case atStart => exact ⟨0, ts, rfl, by omega, hl9, hm4, hr4, hb4⟩
    case round =>
      obtain ⟨k, qs, rfl, hk, hq, hmr, hrr, hb⟩ := hrel
      have hzb := hb.size
      clear hm4 hr4 hb4
      by_cases hlt : k < l9
      · obtain ⟨A7, c7, e7, hcc1, hcc2, -, hcell⟩ := hmr.form
        rw [hq] at e7
        injection e7 with e1 e2 e3
        subst e1
        subst e3
        obtain ⟨g, rfl, hg1, hg2, d0, d1, d2⟩ := hcell wr (Below.refl _ _) k (by omega)
        obtain ⟨mk, hmk⟩ : ∃ x, qs[k]'(by omega) = x := ⟨_, rfl⟩
        rw [hmk] at d0 d1 d2
        clear hcell e2
        unfold maxLen at hcc2
        by_cases h0 : mk.k = 0
        · rw [h0] at d0
          go_wp2_with fail
          refine (pick_any 2 w.heap.size m c _ A _ hrr (by omega) (by omega) (by omega)).mono ?_
          rintro e w5 ⟨x5, rfl, x50, x51, hr5, hg5, hz5⟩
          have hm5 := hmr.grownR hg5 (by omega)
          have hb5 : Below w.heap.size w w5 := hb.trans (below_grow hg5 (by omega) (fun q hq => by injection hq with hq; omega))
          have hm5' := hm5.1
          rw [hq] at hm5'
          obtain ⟨hgr5, ⟨f0, f1, f2⟩, hfr⟩ := own_cells3 hm5' (k := k) (by omega)
          rw [hmk] at f0 f1 f2
          have hs6 := (hm5'.stored (k * 3 + 2) (.int .i64 x5)).1
          rw [setp_list qs k (by omega) x5, hmk] at hs6
          obtain ⟨y, hy⟩ : ∃ y, IntKind.i64.wrap (mk.h.tdiv 2) = y := ⟨_, rfl⟩
          have hk6 : k < (qs.set k ⟨mk.k, mk.h, x5⟩).length := by simp; omega
          have hgg : w.heap.size < g := by omega
          obtain ⟨w6, hw6⟩ : ∃ W, w5.setCell ⟨g, k * 3 + 2, none⟩ (.int .i64 x5) = W := ⟨_, rfl⟩
          rw [hw6] at hs6
          have hs7 : ∃ Q : List Mk, Q.length = l9 ∧ (w6.setCell ⟨g, k * 3 + 1, none⟩ (.int .i64 y)).ownsRow w1.heap.size 33 3 (.slice (some ⟨g, 0, none⟩) l9 c9) l9 (Q.flatMap Mk.cells) := by
            have h7 := (hs6.stored (k * 3 + 1) (.int .i64 y)).1
            rw [seth_list _ k hk6 y] at h7
            exact ⟨_, by simpa using hq, h7⟩
          obtain ⟨Q, hQ, hs7⟩ := hs7
          have f1' : w6.cell? ⟨g, k * 3 + 1, none⟩ = some (.int .i64 mk.h) := by rw [← hw6]; exact (World.cell?_setCell_other _ _ _ _ (by intro h; injection h with h1 h2; omega)).trans f1
          have hfr2 := hfr (k * 3 + 2)
          have hfr1 : w6.frozen? ⟨g, k * 3 + 1, none⟩ = false := by rw [← hw6]; exact (World.frozen?_setCell _ _ _ _).trans (hfr _)
          have hb7 : Below w.heap.size w (w6.setCell ⟨g, k * 3 + 1, none⟩ (.int .i64 y)) := by
            rw [← hw6]
            exact (hb5.setCell (p := ⟨g, k * 3 + 2, none⟩) (by show w.heap.size ≤ g; omega) _).setCell (p := ⟨g, k * 3 + 1, none⟩) (by show w.heap.size ≤ g; omega) _
          have hr7 : Rd (w6.setCell ⟨g, k * 3 + 1, none⟩ (.int .i64 y)) w.heap.size A m c (0 + 200 + 1 + k + 1) := by
            rw [← hw6]
            exact (hr5.set (p := ⟨g, k * 3 + 2, none⟩) (by show w.heap.size < g; omega) (.int .i64 x5)).set (p := ⟨g, k * 3 + 1, none⟩) (by show w.heap.size < g; omega) (.int .i64 y)
          have hsm : Q.length ≤ small := by rw [hQ, ← hq]; exact hm5.2
          have hg6 : g < w6.heap.size := by rw [← hw6]; simpa using hgr5
          clear hm5 hm5' hfr hs6 hr5 hb5 d0 d1 d2 f0 f1 hmr hrr hb hg5 hk6
          have HS := Lib.hid hs7
          have HW6 := Lib.hid hw6
          clear hs7 hw6
          go_upto_region 9 with fail
          rw [HW6.out]
          clear HW6 hfr2 f2
          go_wp2_with fail
          go_roundw
          case rel => exact ⟨k + 1, Q, by go_num, by omega, hQ, ⟨by rw [hQ]; exact HS.out, hsm⟩, hr7, hb7⟩
          case measure => simp [intOf]; omega
        · have b0 : (mk.k == 0) = false := by simpa using h0
          clear h0
          go_wp2_with fail
          go_roundw
          case rel => exact ⟨k + 1, qs, by go_num, by omega, hq, hmr, hrr.more (by omega), hb⟩
          case measure => simp [intOf]; omega
      · have hke : k = l9 := by omega
        subst hke
        go_wp2_with fail
        go_ret
        have hs9 := hq
        exact ⟨_, qs, rfl, hmr.mono (by omega), by omega, hb⟩
  · have hx1 : (x4 == 0) = false := by simpa using hx
    clear hx
    go_wp2_with fail
    go_ret
    exact ⟨_, ts, rfl, hm4.mono (by omega), by omega, hb4⟩

end Go.Proofs.Ytaohjhehlkeckaa
