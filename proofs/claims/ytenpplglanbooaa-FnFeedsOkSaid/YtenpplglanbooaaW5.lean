/- Contracts of the functions of chapter 1 in the program: TurnedNet. -/
import Derived.Test.YtenpplglanbooaaGQ6
namespace Go.Proofs.Ytenpplglanbooaa
open Go.RowKit

set_option maxHeartbeats 1000000 in
set_option maxRecDepth 20000 in
theorem turned_any (n : Int) (v : Value) (ps : List Pp) (b : Nat) (w : World) (hp : Pipes w b v ps) :
    Calls Try.prog 14 #[.agg #[.int .i64 n, v]] w fun e w' => ∃ s, e = .returned (.agg #[.int .i64 (turnN n ps), s]) ∧ Pipes w' w.heap.size s (turnL n ps) ∧ Below w.heap.size w w' := by
  have hp0 := hp
  obtain ⟨A, c, rfl, hc1, hc2, hs, hcell⟩ := hp.form
  unfold maxLen at hc2
  have hmk := fun W => run_make_pipes hs W
  go_enter Try.func14, Try.ntmps14
  go_wp2_with (first
    | (go_at_call 39; ((with_reducible refine (netOk_any n _ ps b _ (hp0.keep (by (repeat (first | (with_reducible assumption) | (with_reducible exact Below.refl _ _) | ((with_reducible refine Below.alloc ?_ ?hsz _); (case hsz => (first | omega | (simp; done) | (simp; omega) | (simp at *; omega)))) | ((with_reducible refine Below.setCell ?_ ?hsz _); (case hsz => (first | omega | (simp; done) | (simp; omega) | (simp at *; omega)))) | (with_reducible refine Below.drew ?_) | (with_reducible refine below_drewN ?_ _) | ((with_reducible refine Below.trans ?_ (Below.mono (by with_reducible assumption) ?hsz)); (case hsz => (first | omega | (simp; done) | (simp; omega) | (simp at *; omega))))))))).mono ?_); rintro e w1 ⟨rfl, hb1⟩; obtain ⟨hc1, hf1, hz1⟩ := bcell hb1; (try simp at hz1); (try have hy1 : w.heap.size < w1.heap.size := by omega); (try have hy2 : w.heap.size + 1 < w1.heap.size := by omega); (try have hy3 : w.heap.size + 1 + 1 < w1.heap.size := by omega))))
  · have hno := turn_no (of_not_t (b := netOkB n ps) (by assumption))
    refine bodyPost_ret (v := .agg #[.int .i64 0, .slice none 0 0]) (by simp [results, Try.results14, go_sem, hc1]) rfl ⟨.slice none 0 0, by rw [hno.1], by rw [hno.2]; exact Pipes_nil _ _, by (repeat (first | (with_reducible assumption) | (with_reducible exact Below.refl _ _) | ((with_reducible refine Below.alloc ?_ ?hsz _); (case hsz => (first | omega | (simp; done) | (simp; omega) | (simp at *; omega)))) | ((with_reducible refine Below.setCell ?_ ?hsz _); (case hsz => (first | omega | (simp; done) | (simp; omega) | (simp at *; omega)))) | (with_reducible refine Below.drew ?_) | (with_reducible refine below_drewN ?_ _) | ((with_reducible refine Below.trans ?_ (Below.mono (by with_reducible assumption) ?hsz)); (case hsz => (first | omega | (simp; done) | (simp; omega) | (simp at *; omega))))))⟩
  · have hyes := Lib.hid (turn_yes (of_not (b := netOkB n ps) (by assumption)))
    have l7 := (netOk_parts (of_not (b := netOkB n ps) (by assumption))).2.2.1
    go_region
    all_goals go_wp2
    · go_loopw [20] (fun i wr => ∃ (k : Nat) (qs : List Pp), k ≤ ps.length ∧ i = .int .i64 k ∧ qs.length = ps.length ∧ qs.take k = (ps.map turnP).take k ∧
        wr.ownsRow w1.heap.size 53 5 (.slice (some ⟨w1.heap.size, 0, none⟩) ps.length ps.length) ps.length (qs.flatMap Pp.cells) ∧ w1.heap.size < wr.heap.size ∧ (w1.heap.size + 1) < wr.heap.size ∧
        wr.cell? ⟨(w1.heap.size + 1), 0, none⟩ = some (.int .i64 n) ∧ wr.cell? ⟨(w1.heap.size + 1), 1, none⟩ = some (.slice (some ⟨w1.heap.size, 0, none⟩) ps.length ps.length) ∧ Below w1.heap.size w1 wr) (fun i _ => ps.length - (intOf i).toNat)
      case atStart =>
        exact ⟨0, List.replicate ps.length zeroPp, by omega, rfl, by simp, by simp, by (exact (made_pipes w1 ps.length _ _ (by omega) (by omega)).alloc _), by (first | omega | (simp; done) | (simp; omega) | (simp at *; omega)), by (first | omega | (simp; done) | (simp; omega) | (simp at *; omega)), by simp, by simp, by (repeat (first | (with_reducible assumption) | (with_reducible exact Below.refl _ _) | ((with_reducible refine Below.alloc ?_ ?hsz _); (case hsz => (first | omega | (simp; done) | (simp; omega) | (simp at *; omega)))) | ((with_reducible refine Below.setCell ?_ ?hsz _); (case hsz => (first | omega | (simp; done) | (simp; omega) | (simp at *; omega)))) | (with_reducible refine Below.drew ?_) | (with_reducible refine below_drewN ?_ _) | ((with_reducible refine Below.trans ?_ (Below.mono (by with_reducible assumption) ?hsz)); (case hsz => (first | omega | (simp; done) | (simp; omega) | (simp at *; omega))))))⟩
      case round =>
        obtain ⟨k, qs, hk, rfl, hql, hqk, hown, s1, s2, d0, d1, hb⟩ := hrel
        have e0 := (hb.cell (p := ⟨w.heap.size, 0, none⟩) (by (first | omega | (simp; done) | (simp; omega) | (simp at *; omega)))).trans ((hc1 _ _ (by (first | omega | (simp; done) | (simp; omega) | (simp at *; omega)))).trans (by simp; rfl))
        have e1 := (hb.cell (p := ⟨w.heap.size, 1, none⟩) (by (first | omega | (simp; done) | (simp; omega) | (simp at *; omega)))).trans ((hc1 _ _ (by (first | omega | (simp; done) | (simp; omega) | (simp at *; omega)))).trans (by simp; rfl))
        have e2 := (hb.cell (p := ⟨w.heap.size + 1, 0, none⟩) (by (first | omega | (simp; done) | (simp; omega) | (simp at *; omega)))).trans ((hc1 _ _ (by (first | omega | (simp; done) | (simp; omega) | (simp at *; omega)))).trans (by simp; rfl))
        have e3 := (hb.cell (p := ⟨w.heap.size + 1, 1, none⟩) (by (first | omega | (simp; done) | (simp; omega) | (simp at *; omega)))).trans ((hc1 _ _ (by (first | omega | (simp; done) | (simp; omega) | (simp at *; omega)))).trans (by simp; rfl))
        have f2 := (hb.frozen (p := ⟨w.heap.size + 1, 0, none⟩) (by (first | omega | (simp; done) | (simp; omega) | (simp at *; omega)))).trans ((hf1 _ _ (by (first | omega | (simp; done) | (simp; omega) | (simp at *; omega)))).trans (by simp; rfl))
        have f3 := (hb.frozen (p := ⟨w.heap.size + 1, 1, none⟩) (by (first | omega | (simp; done) | (simp; omega) | (simp at *; omega)))).trans ((hf1 _ _ (by (first | omega | (simp; done) | (simp; omega) | (simp at *; omega)))).trans (by simp; rfl))
        have hbw : Below w.heap.size w wr := by (repeat (first | (with_reducible assumption) | (with_reducible exact Below.refl _ _) | ((with_reducible refine Below.alloc ?_ ?hsz _); (case hsz => (first | omega | (simp; done) | (simp; omega) | (simp at *; omega)))) | ((with_reducible refine Below.setCell ?_ ?hsz _); (case hsz => (first | omega | (simp; done) | (simp; omega) | (simp at *; omega)))) | (with_reducible refine Below.drew ?_) | (with_reducible refine below_drewN ?_ _) | ((with_reducible refine Below.trans ?_ (Below.mono (by with_reducible assumption) ?hsz)); (case hsz => (first | omega | (simp; done) | (simp; omega) | (simp at *; omega))))))
        by_cases hlt : k < ps.length
        · obtain ⟨g, rfl, hg1, hg2, c0, c1, c2, c3, c4⟩ := hcell wr hbw k hlt
          have hgr : g < wr.heap.size := by omega
          have hq1 : k < qs.length := by omega
          obtain ⟨hgw, ⟨o0, o1, o2, o3, o4⟩, hof⟩ := own_cells5 (k := k) hown hq1
          have hset := (own_set5 (k := k) hown hq1 ⟨ps[k].to, ps[k].fr, ps[k].le, ps[k].mo, ps[k].co⟩).alloc (.cells #[.int .i64 ps[k].to, .int .i64 ps[k].fr, .int .i64 ps[k].le, .int .i64 ps[k].mo, .int .i64 ps[k].co] 53)
          dsimp only at hset
          have Hset := Lib.hid hset
          have Hql := Lib.hid hql
          have Hqk := Lib.hid hqk
          have HO := Lib.hid hown
          clear hql hqk hown hset
          go_wp2
          go_roundw
          case rel => exact ⟨k + 1, qs.set k ⟨ps[k].to, ps[k].fr, ps[k].le, ps[k].mo, ps[k].co⟩, by omega, by go_num, by simp; exact Hql.out, set_take hq1 Hqk.out (by simp [hlt, turnP]), (by with_reducible exact Hset.out), by (first | omega | (simp; done) | (simp; omega) | (simp at *; omega)), by (first | omega | (simp; done) | (simp; omega) | (simp at *; omega)), by (repeat (first | (with_reducible assumption) | ((with_reducible refine (Below.cell (by with_reducible assumption) ?hsz).trans ?_); (case hsz => (first | omega | (simp; done) | (simp; omega) | (simp at *; omega)))) | ((with_reducible refine (World.cell?_alloc_lt _ _ _ ?hsz).trans ?_); (case hsz => (first | omega | (simp; done) | (simp; omega) | (simp at *; omega)))) | ((with_reducible refine (World.cell?_setCell_other _ _ _ _ ?hsz).trans ?_); (case hsz => (intro h; injection h with h1 h2; omega))))), by (repeat (first | (with_reducible assumption) | ((with_reducible refine (Below.cell (by with_reducible assumption) ?hsz).trans ?_); (case hsz => (first | omega | (simp; done) | (simp; omega) | (simp at *; omega)))) | ((with_reducible refine (World.cell?_alloc_lt _ _ _ ?hsz).trans ?_); (case hsz => (first | omega | (simp; done) | (simp; omega) | (simp at *; omega)))) | ((with_reducible refine (World.cell?_setCell_other _ _ _ _ ?hsz).trans ?_); (case hsz => (intro h; injection h with h1 h2; omega))))), by (repeat (first | (with_reducible assumption) | (with_reducible exact Below.refl _ _) | ((with_reducible refine Below.alloc ?_ ?hsz _); (case hsz => (first | omega | (simp; done) | (simp; omega) | (simp at *; omega)))) | ((with_reducible refine Below.setCell ?_ ?hsz _); (case hsz => (first | omega | (simp; done) | (simp; omega) | (simp at *; omega)))) | (with_reducible refine Below.drew ?_) | (with_reducible refine below_drewN ?_ _) | ((with_reducible refine Below.trans ?_ (Below.mono (by with_reducible assumption) ?hsz)); (case hsz => (first | omega | (simp; done) | (simp; omega) | (simp at *; omega))))))⟩
          case measure => simp [intOf]; omega
        · go_wp2
          have hk2 : k = ps.length := by omega
          subst hk2
          have hz : qs = ps.map turnP := by
            rw [List.take_of_length_le (by omega), List.take_of_length_le (by simp)] at hqk
            exact hqk
          subst hz
          have hfin : Pipes wr w1.heap.size (.slice (some ⟨w1.heap.size, 0, none⟩) ps.length ps.length) (ps.map turnP) := ⟨by simpa using hown, by simp [small]; omega⟩
          refine bodyPost_ret (v := .agg #[.int .i64 n, .slice (some ⟨w1.heap.size, 0, none⟩) ps.length ps.length]) (by simp [results, Try.results14, go_sem, e2, e3]) rfl ⟨_, by rw [hyes.out.1], ?_, by (repeat (first | (with_reducible assumption) | (with_reducible exact Below.refl _ _) | ((with_reducible refine Below.alloc ?_ ?hsz _); (case hsz => (first | omega | (simp; done) | (simp; omega) | (simp at *; omega)))) | ((with_reducible refine Below.setCell ?_ ?hsz _); (case hsz => (first | omega | (simp; done) | (simp; omega) | (simp at *; omega)))) | (with_reducible refine Below.drew ?_) | (with_reducible refine below_drewN ?_ _) | ((with_reducible refine Below.trans ?_ (Below.mono (by with_reducible assumption) ?hsz)); (case hsz => (first | omega | (simp; done) | (simp; omega) | (simp at *; omega))))))⟩
          rw [hyes.out.2]
          exact ((hfin.setLow (by (first | omega | (simp; done) | (simp; omega) | (simp at *; omega)))).setLow (by (first | omega | (simp; done) | (simp; omega) | (simp at *; omega)))).mono (by (first | omega | (simp; done) | (simp; omega) | (simp at *; omega)))
    · go_loopw [20] (fun i wr => ∃ (k : Nat) (qs : List Pp), k ≤ ps.length ∧ i = .int .i64 k ∧ qs.length = ps.length ∧ qs.take k = (ps.map turnP).take k ∧
        wr.ownsRow w1.heap.size 53 5 (.slice (some ⟨(w1.heap.size + 1), 0, none⟩) ps.length ps.length) ps.length (qs.flatMap Pp.cells) ∧ (w1.heap.size + 1) < wr.heap.size ∧ w1.heap.size < wr.heap.size ∧
        wr.cell? ⟨w1.heap.size, 0, none⟩ = some (.int .i64 n) ∧ wr.cell? ⟨w1.heap.size, 1, none⟩ = some (.slice (some ⟨(w1.heap.size + 1), 0, none⟩) ps.length ps.length) ∧ Below w1.heap.size w1 wr) (fun i _ => ps.length - (intOf i).toNat)
      case atStart =>
        exact ⟨0, List.replicate ps.length zeroPp, by omega, rfl, by simp, by simp, by (have h := made_pipes (w1.alloc (.cells #[.int .i64 n, .slice (some ⟨w1.heap.size + 1, 0, none⟩) ps.length ps.length] 25)) ps.length 53 w1.heap.size (by (first | omega | (simp; done) | (simp; omega) | (simp at *; omega))) (by omega); rw [World.size_alloc] at h; exact h), by (first | omega | (simp; done) | (simp; omega) | (simp at *; omega)), by (first | omega | (simp; done) | (simp; omega) | (simp at *; omega)), by simp, by simp, by (repeat (first | (with_reducible assumption) | (with_reducible exact Below.refl _ _) | ((with_reducible refine Below.alloc ?_ ?hsz _); (case hsz => (first | omega | (simp; done) | (simp; omega) | (simp at *; omega)))) | ((with_reducible refine Below.setCell ?_ ?hsz _); (case hsz => (first | omega | (simp; done) | (simp; omega) | (simp at *; omega)))) | (with_reducible refine Below.drew ?_) | (with_reducible refine below_drewN ?_ _) | ((with_reducible refine Below.trans ?_ (Below.mono (by with_reducible assumption) ?hsz)); (case hsz => (first | omega | (simp; done) | (simp; omega) | (simp at *; omega))))))⟩
      case round =>
        obtain ⟨k, qs, hk, rfl, hql, hqk, hown, s1, s2, d0, d1, hb⟩ := hrel
        have e0 := (hb.cell (p := ⟨w.heap.size, 0, none⟩) (by (first | omega | (simp; done) | (simp; omega) | (simp at *; omega)))).trans ((hc1 _ _ (by (first | omega | (simp; done) | (simp; omega) | (simp at *; omega)))).trans (by simp; rfl))
        have e1 := (hb.cell (p := ⟨w.heap.size, 1, none⟩) (by (first | omega | (simp; done) | (simp; omega) | (simp at *; omega)))).trans ((hc1 _ _ (by (first | omega | (simp; done) | (simp; omega) | (simp at *; omega)))).trans (by simp; rfl))
        have e2 := (hb.cell (p := ⟨w.heap.size + 1, 0, none⟩) (by (first | omega | (simp; done) | (simp; omega) | (simp at *; omega)))).trans ((hc1 _ _ (by (first | omega | (simp; done) | (simp; omega) | (simp at *; omega)))).trans (by simp; rfl))
        have e3 := (hb.cell (p := ⟨w.heap.size + 1, 1, none⟩) (by (first | omega | (simp; done) | (simp; omega) | (simp at *; omega)))).trans ((hc1 _ _ (by (first | omega | (simp; done) | (simp; omega) | (simp at *; omega)))).trans (by simp; rfl))
        have f2 := (hb.frozen (p := ⟨w.heap.size + 1, 0, none⟩) (by (first | omega | (simp; done) | (simp; omega) | (simp at *; omega)))).trans ((hf1 _ _ (by (first | omega | (simp; done) | (simp; omega) | (simp at *; omega)))).trans (by simp; rfl))
        have f3 := (hb.frozen (p := ⟨w.heap.size + 1, 1, none⟩) (by (first | omega | (simp; done) | (simp; omega) | (simp at *; omega)))).trans ((hf1 _ _ (by (first | omega | (simp; done) | (simp; omega) | (simp at *; omega)))).trans (by simp; rfl))
        have hbw : Below w.heap.size w wr := by (repeat (first | (with_reducible assumption) | (with_reducible exact Below.refl _ _) | ((with_reducible refine Below.alloc ?_ ?hsz _); (case hsz => (first | omega | (simp; done) | (simp; omega) | (simp at *; omega)))) | ((with_reducible refine Below.setCell ?_ ?hsz _); (case hsz => (first | omega | (simp; done) | (simp; omega) | (simp at *; omega)))) | (with_reducible refine Below.drew ?_) | (with_reducible refine below_drewN ?_ _) | ((with_reducible refine Below.trans ?_ (Below.mono (by with_reducible assumption) ?hsz)); (case hsz => (first | omega | (simp; done) | (simp; omega) | (simp at *; omega))))))
        by_cases hlt : k < ps.length
        · obtain ⟨g, rfl, hg1, hg2, c0, c1, c2, c3, c4⟩ := hcell wr hbw k hlt
          have hgr : g < wr.heap.size := by omega
          have hq1 : k < qs.length := by omega
          obtain ⟨hgw, ⟨o0, o1, o2, o3, o4⟩, hof⟩ := own_cells5 (k := k) hown hq1
          have hset := (own_set5 (k := k) hown hq1 ⟨ps[k].to, ps[k].fr, ps[k].le, ps[k].mo, ps[k].co⟩).alloc (.cells #[.int .i64 ps[k].to, .int .i64 ps[k].fr, .int .i64 ps[k].le, .int .i64 ps[k].mo, .int .i64 ps[k].co] 53)
          dsimp only at hset
          have Hset := Lib.hid hset
          have Hql := Lib.hid hql
          have Hqk := Lib.hid hqk
          have HO := Lib.hid hown
          clear hql hqk hown hset
          go_wp2
          go_roundw
          case rel => exact ⟨k + 1, qs.set k ⟨ps[k].to, ps[k].fr, ps[k].le, ps[k].mo, ps[k].co⟩, by omega, by go_num, by simp; exact Hql.out, set_take hq1 Hqk.out (by simp [hlt, turnP]), (by with_reducible exact Hset.out), by (first | omega | (simp; done) | (simp; omega) | (simp at *; omega)), by (first | omega | (simp; done) | (simp; omega) | (simp at *; omega)), by (repeat (first | (with_reducible assumption) | ((with_reducible refine (Below.cell (by with_reducible assumption) ?hsz).trans ?_); (case hsz => (first | omega | (simp; done) | (simp; omega) | (simp at *; omega)))) | ((with_reducible refine (World.cell?_alloc_lt _ _ _ ?hsz).trans ?_); (case hsz => (first | omega | (simp; done) | (simp; omega) | (simp at *; omega)))) | ((with_reducible refine (World.cell?_setCell_other _ _ _ _ ?hsz).trans ?_); (case hsz => (intro h; injection h with h1 h2; omega))))), by (repeat (first | (with_reducible assumption) | ((with_reducible refine (Below.cell (by with_reducible assumption) ?hsz).trans ?_); (case hsz => (first | omega | (simp; done) | (simp; omega) | (simp at *; omega)))) | ((with_reducible refine (World.cell?_alloc_lt _ _ _ ?hsz).trans ?_); (case hsz => (first | omega | (simp; done) | (simp; omega) | (simp at *; omega)))) | ((with_reducible refine (World.cell?_setCell_other _ _ _ _ ?hsz).trans ?_); (case hsz => (intro h; injection h with h1 h2; omega))))), by (repeat (first | (with_reducible assumption) | (with_reducible exact Below.refl _ _) | ((with_reducible refine Below.alloc ?_ ?hsz _); (case hsz => (first | omega | (simp; done) | (simp; omega) | (simp at *; omega)))) | ((with_reducible refine Below.setCell ?_ ?hsz _); (case hsz => (first | omega | (simp; done) | (simp; omega) | (simp at *; omega)))) | (with_reducible refine Below.drew ?_) | (with_reducible refine below_drewN ?_ _) | ((with_reducible refine Below.trans ?_ (Below.mono (by with_reducible assumption) ?hsz)); (case hsz => (first | omega | (simp; done) | (simp; omega) | (simp at *; omega))))))⟩
          case measure => simp [intOf]; omega
        · go_wp2
          have hk2 : k = ps.length := by omega
          subst hk2
          have hz : qs = ps.map turnP := by
            rw [List.take_of_length_le (by omega), List.take_of_length_le (by simp)] at hqk
            exact hqk
          subst hz
          have hfin : Pipes wr w1.heap.size (.slice (some ⟨(w1.heap.size + 1), 0, none⟩) ps.length ps.length) (ps.map turnP) := ⟨by simpa using hown, by simp [small]; omega⟩
          refine bodyPost_ret (v := .agg #[.int .i64 n, .slice (some ⟨(w1.heap.size + 1), 0, none⟩) ps.length ps.length]) (by simp [results, Try.results14, go_sem, e2, e3]) rfl ⟨_, by rw [hyes.out.1], ?_, by (repeat (first | (with_reducible assumption) | (with_reducible exact Below.refl _ _) | ((with_reducible refine Below.alloc ?_ ?hsz _); (case hsz => (first | omega | (simp; done) | (simp; omega) | (simp at *; omega)))) | ((with_reducible refine Below.setCell ?_ ?hsz _); (case hsz => (first | omega | (simp; done) | (simp; omega) | (simp at *; omega)))) | (with_reducible refine Below.drew ?_) | (with_reducible refine below_drewN ?_ _) | ((with_reducible refine Below.trans ?_ (Below.mono (by with_reducible assumption) ?hsz)); (case hsz => (first | omega | (simp; done) | (simp; omega) | (simp at *; omega))))))⟩
          rw [hyes.out.2]
          exact ((hfin.setLow (by (first | omega | (simp; done) | (simp; omega) | (simp at *; omega)))).setLow (by (first | omega | (simp; done) | (simp; omega) | (simp at *; omega)))).mono (by (first | omega | (simp; done) | (simp; omega) | (simp at *; omega)))

end Go.Proofs.Ytenpplglanbooaa
