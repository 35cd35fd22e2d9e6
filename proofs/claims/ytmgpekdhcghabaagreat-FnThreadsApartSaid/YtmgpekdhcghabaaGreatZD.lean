/- Contracts of the functions of chapter 11 in the model: UnitNet. -/
import Derived.Test.YtmgpekdhcghabaaGreatGR16
import Derived.Test.YtmgpekdhcghabaaGreatGR27
namespace Go.Proofs.YtmgpekdhcghabaaGreat
open Go.RowKit

set_option maxHeartbeats 2000000 in
set_option maxRecDepth 20000 in
theorem specUnit_any (n : Int) (v : Value) (ps : List Pp) (b : Nat) (w : World) (hp : Pipes w b v ps) :
    Calls Tryz.prog 30 #[.agg #[.int .i64 n, v]] w fun e w' => ∃ s, e = .returned (.agg #[.int .i64 (unitN n ps), s]) ∧ Pipes w' w.heap.size s (unitL n ps) ∧ Below w.heap.size w w' := by
  have hp0 := hp
  obtain ⟨A, c, rfl, hc1, hc2, hs, hcell⟩ := hp.form
  unfold maxLen at hc2
  go_enter Tryz.func30, Tryz.ntmps30
  go_wp2_with (first
    | (go_at_call 69; ((with_reducible refine (specNetOk_any n _ ps b _ (hp0.keep (by (repeat (first | (with_reducible assumption) | (with_reducible exact Below.refl _ _) | ((with_reducible refine Below.alloc ?_ ?hsz _); (case hsz => (first | omega | (simp; done) | (simp; omega) | (simp at *; omega)))) | ((with_reducible refine Below.setCell ?_ ?hsz _); (case hsz => (first | omega | (simp; done) | (simp; omega) | (simp at *; omega)))) | (with_reducible refine Below.drew ?_) | (with_reducible refine below_drewN ?_ _) | ((with_reducible refine Below.trans ?_ (Below.mono (by with_reducible assumption) ?hsz)); (case hsz => (first | omega | (simp; done) | (simp; omega) | (simp at *; omega))))))))).mono ?_); rintro e w1 ⟨rfl, hb1⟩; obtain ⟨hc1, hf1, hz1⟩ := bcell hb1; (try simp at hz1); (try have hy1 : w.heap.size < w1.heap.size := by omega); (try have hy2 : w.heap.size + 1 < w1.heap.size := by omega); (try have hy3 : w.heap.size + 1 + 1 < w1.heap.size := by omega))))
  · have hno := unit_no (of_not_t (b := netOkB n ps) (by assumption))
    refine bodyPost_ret (v := .agg #[.int .i64 0, .slice none 0 0]) (by simp [results, Tryz.results30, go_sem, hc1]) rfl ⟨.slice none 0 0, by rw [hno.1], by rw [hno.2]; exact Pipes_nil _ _, by (repeat (first | (with_reducible assumption) | (with_reducible exact Below.refl _ _) | ((with_reducible refine Below.alloc ?_ ?hsz _); (case hsz => (first | omega | (simp; done) | (simp; omega) | (simp at *; omega)))) | ((with_reducible refine Below.setCell ?_ ?hsz _); (case hsz => (first | omega | (simp; done) | (simp; omega) | (simp at *; omega)))) | (with_reducible refine Below.drew ?_) | (with_reducible refine below_drewN ?_ _) | ((with_reducible refine Below.trans ?_ (Below.mono (by with_reducible assumption) ?hsz)); (case hsz => (first | omega | (simp; done) | (simp; omega) | (simp at *; omega))))))⟩
  · have hyes := Lib.hid (unit_yes (of_not (b := netOkB n ps) (by assumption)))
    have l7 := (netOk_parts (of_not (b := netOkB n ps) (by assumption))).2.2.1
    obtain ⟨i0, hi0, hz0, hz1', hz2⟩ := info_parts pipe_info
    have h00 := of_not (b := netOkB n ps) (by assumption)
    simp only [h00, Bool.not_true]
    go_loopw [4] (fun i wr => ∃ (k : Nat) (A1 : Option Addr) (k1 : Nat), k ≤ ps.length ∧ i = .int .i64 k ∧
        wr.ownsRow (w1.heap.size + 1) 35 5 (.slice A1 k k1) k (((ps.map unitP).take k).flatMap Pp.cells) ∧ w1.heap.size < wr.heap.size ∧
        wr.cell? ⟨w1.heap.size, 0, none⟩ = some (.int .i64 n) ∧ wr.cell? ⟨w1.heap.size, 1, none⟩ = some (.slice A1 k k1) ∧ wr.frozen? ⟨w1.heap.size, 1, none⟩ = false ∧ Below w1.heap.size w1 wr) (fun i _ => ps.length - (intOf i).toNat)
    case atStart => exact ⟨0, none, 0, by omega, rfl, World.ownsRow_nil _ _ _ 5, by (first | omega | (simp; done) | (simp; omega) | (simp at *; omega)), by simp, by simp, by simp, by (repeat (first | (with_reducible assumption) | (with_reducible exact Below.refl _ _) | ((with_reducible refine Below.alloc ?_ ?hsz _); (case hsz => (first | omega | (simp; done) | (simp; omega) | (simp at *; omega)))) | ((with_reducible refine Below.setCell ?_ ?hsz _); (case hsz => (first | omega | (simp; done) | (simp; omega) | (simp at *; omega)))) | (with_reducible refine Below.drew ?_) | (with_reducible refine below_drewN ?_ _) | ((with_reducible refine Below.trans ?_ (Below.mono (by with_reducible assumption) ?hsz)); (case hsz => (first | omega | (simp; done) | (simp; omega) | (simp at *; omega))))))⟩
    case round =>
      obtain ⟨k, A1, k1, hk, rfl, hown, s2, d0, d1, df, hb⟩ := hrel
      have e0 := (hb.cell (p := ⟨w.heap.size, 0, none⟩) (by (first | omega | (simp; done) | (simp; omega) | (simp at *; omega)))).trans ((hc1 _ _ (by (first | omega | (simp; done) | (simp; omega) | (simp at *; omega)))).trans (by simp; rfl))
      have e1 := (hb.cell (p := ⟨w.heap.size, 1, none⟩) (by (first | omega | (simp; done) | (simp; omega) | (simp at *; omega)))).trans ((hc1 _ _ (by (first | omega | (simp; done) | (simp; omega) | (simp at *; omega)))).trans (by simp; rfl))
      have e2 := (hb.cell (p := ⟨w.heap.size + 1, 0, none⟩) (by (first | omega | (simp; done) | (simp; omega) | (simp at *; omega)))).trans ((hc1 _ _ (by (first | omega | (simp; done) | (simp; omega) | (simp at *; omega)))).trans (by simp; rfl))
      have e3 := (hb.cell (p := ⟨w.heap.size + 1, 1, none⟩) (by (first | omega | (simp; done) | (simp; omega) | (simp at *; omega)))).trans ((hc1 _ _ (by (first | omega | (simp; done) | (simp; omega) | (simp at *; omega)))).trans (by simp; rfl))
      have f2 := (hb.frozen (p := ⟨w.heap.size + 1, 0, none⟩) (by (first | omega | (simp; done) | (simp; omega) | (simp at *; omega)))).trans ((hf1 _ _ (by (first | omega | (simp; done) | (simp; omega) | (simp at *; omega)))).trans (by simp; rfl))
      have f3 := (hb.frozen (p := ⟨w.heap.size + 1, 1, none⟩) (by (first | omega | (simp; done) | (simp; omega) | (simp at *; omega)))).trans ((hf1 _ _ (by (first | omega | (simp; done) | (simp; omega) | (simp at *; omega)))).trans (by simp; rfl))
      have hbw : Below w.heap.size w wr := by (repeat (first | (with_reducible assumption) | (with_reducible exact Below.refl _ _) | ((with_reducible refine Below.alloc ?_ ?hsz _); (case hsz => (first | omega | (simp; done) | (simp; omega) | (simp at *; omega)))) | ((with_reducible refine Below.setCell ?_ ?hsz _); (case hsz => (first | omega | (simp; done) | (simp; omega) | (simp at *; omega)))) | (with_reducible refine Below.drew ?_) | (with_reducible refine below_drewN ?_ _) | ((with_reducible refine Below.trans ?_ (Below.mono (by with_reducible assumption) ?hsz)); (case hsz => (first | omega | (simp; done) | (simp; omega) | (simp at *; omega))))))
      by_cases hlt : k < ps.length
      · obtain ⟨g, rfl, hg1, hg2, c0, c1, c2, c3, c4⟩ := hcell wr hbw k hlt
        have hgr : g < wr.heap.size := by omega
        have hne1 : some w1.heap.size ≠ (Value.slice A1 k k1).ownBlock := by
          intro h
          have := (hown.lt _ h.symm).1
          omega
        by_cases hm1 : (1 : Int) < ps[k].mo
        · have hM : min ps[k].mo 1 = 1 := by omega
          have hfz2 : ∀ o o', ((wr.alloc o).alloc o').frozen? ⟨w1.heap.size, 1, none⟩ = false := fun o o' =>
            ((((Below.refl wr.heap.size wr).alloc (Nat.le_refl _) o).alloc (by simp) o').frozen (p := ⟨w1.heap.size, 1, none⟩) s2).trans df
          go_wp2_with (first
            | (at_builtin
               go_must (refine wpList_append_lies _ rfl _ _ 23 rfl (w1.heap.size + 1) 35 i0 _ 5 40 Tryz.underlying23 hi0 hz0 hz1' hz2 rfl (by omega) _ k _ rfl ((hown.alloc _).alloc _) ⟨wr.heap.size + 1, 0, none⟩ 1 1 [.int .i64 ps[k].fr, .int .i64 ps[k].to, .int .i64 0, .int .i64 1, .int .i64 ps[k].co] rfl rfl (World.news_of_block (cs := #[.int .i64 ps[k].fr, .int .i64 ps[k].to, .int .i64 0, .int .i64 1, .int .i64 ps[k].co]) (t := 35) (fr := (0, 0)) (heap_new2 _ _ _)) (by simp [Value.oneCell']) (by omega) (by unfold maxLen; omega) (by omega) (by (first | omega | (simp; done) | (simp; omega) | (simp at *; omega))) _ rfl ?_)
               intro g2 k2 w2 hown2 hgr2 hat2 hlt2
               have x0 : w2.cell? ⟨w1.heap.size, 0, none⟩ = some (.int .i64 n) := (hgr2.cell_far _ (by (first | omega | (simp; done) | (simp; omega) | (simp at *; omega))) hne1).trans (by (repeat (first | (with_reducible assumption) | ((with_reducible refine (Below.cell (by with_reducible assumption) ?hsz).trans ?_); (case hsz => (first | omega | (simp; done) | (simp; omega) | (simp at *; omega)))) | ((with_reducible refine (World.cell?_alloc_lt _ _ _ ?hsz).trans ?_); (case hsz => (first | omega | (simp; done) | (simp; omega) | (simp at *; omega)))) | ((with_reducible refine (World.cell?_setCell_other _ _ _ _ ?hsz).trans ?_); (case hsz => (intro h; injection h with h1 h2; omega))))))
               have x1 : w2.cell? ⟨w1.heap.size, 1, none⟩ = some (.slice A1 k k1) := (hgr2.cell_far _ (by (first | omega | (simp; done) | (simp; omega) | (simp at *; omega))) hne1).trans (by (repeat (first | (with_reducible assumption) | ((with_reducible refine (Below.cell (by with_reducible assumption) ?hsz).trans ?_); (case hsz => (first | omega | (simp; done) | (simp; omega) | (simp at *; omega)))) | ((with_reducible refine (World.cell?_alloc_lt _ _ _ ?hsz).trans ?_); (case hsz => (first | omega | (simp; done) | (simp; omega) | (simp at *; omega)))) | ((with_reducible refine (World.cell?_setCell_other _ _ _ _ ?hsz).trans ?_); (case hsz => (intro h; injection h with h1 h2; omega))))))
               have xf : w2.frozen? ⟨w1.heap.size, 1, none⟩ = false := (hgr2.frozen_far _ (by (first | omega | (simp; done) | (simp; omega) | (simp at *; omega))) hne1).trans (hfz2 _ _)))
          have hUC : (unitP ps[k]).cells = [.int .i64 ps[k].fr, .int .i64 ps[k].to, .int .i64 0, .int .i64 1, .int .i64 ps[k].co] := by simp [unitP, Pp.cells, hM]
          rw [← hUC] at hown2
          have hk1 : (ps.map unitP).take (k + 1) = (ps.map unitP).take k ++ [unitP ps[k]] := by
            rw [List.take_add_one]; simp [hlt]
          have hown3 : w2.ownsRow (w1.heap.size + 1) 35 5 (.slice (some ⟨g2, 0, none⟩) (k + 1) k2) (k + 1) (((ps.map unitP).take (k + 1)).flatMap Pp.cells) := by
            rw [hk1, List.flatMap_append]
            simpa using hown2
          have hbe : Below w1.heap.size w1 (w2.setCell ⟨w1.heap.size, 1, none⟩ (.slice (some ⟨g2, 0, none⟩) (k + 1) k2)) := by
            refine Below.setCell ?_ (by (first | omega | (simp; done) | (simp; omega) | (simp at *; omega))) _
            refine Below.grown (w := ((wr.alloc (.cells #[.int .i64 ps[k].fr, .int .i64 ps[k].to, .int .i64 ps[k].le, .int .i64 ps[k].mo, .int .i64 ps[k].co] 35)).alloc (.cells #[.int .i64 ps[k].fr, .int .i64 ps[k].to, .int .i64 0, .int .i64 1, .int .i64 ps[k].co] 35))) (by (repeat (first | (with_reducible assumption) | (with_reducible exact Below.refl _ _) | ((with_reducible refine Below.alloc ?_ ?hsz _); (case hsz => (first | omega | (simp; done) | (simp; omega) | (simp at *; omega)))) | ((with_reducible refine Below.setCell ?_ ?hsz _); (case hsz => (first | omega | (simp; done) | (simp; omega) | (simp at *; omega)))) | (with_reducible refine Below.drew ?_) | (with_reducible refine below_drewN ?_ _) | ((with_reducible refine Below.trans ?_ (Below.mono (by with_reducible assumption) ?hsz)); (case hsz => (first | omega | (simp; done) | (simp; omega) | (simp at *; omega))))))) hgr2 (by (first | omega | (simp; done) | (simp; omega) | (simp at *; omega))) ?_
            intro q hq
            have := (hown.lt q hq).1
            omega
          have hl2 : w1.heap.size < w2.heap.size := by have := hgr2.size; simp at this; omega
          go_roundw
          case rel => exact ⟨k + 1, some ⟨g2, 0, none⟩, k2, by omega, by go_num, ownsRow_setCell_below hown3 (by (first | omega | (simp; done) | (simp; omega) | (simp at *; omega))) _, by (first | omega | (simp; done) | (simp; omega) | (simp at *; omega)), (World.cell?_setCell_other _ _ _ _ (by intro h; injection h with h1 h2; omega)).trans x0, World.cell?_setCell_same _ _ _ x1, by simpa using xf, hbe⟩
          case measure => simp [intOf]; omega
        · have hM : min ps[k].mo 1 = ps[k].mo := by omega
          have hfz2 : ∀ o o', ((wr.alloc o).alloc o').frozen? ⟨w1.heap.size, 1, none⟩ = false := fun o o' =>
            ((((Below.refl wr.heap.size wr).alloc (Nat.le_refl _) o).alloc (by simp) o').frozen (p := ⟨w1.heap.size, 1, none⟩) s2).trans df
          go_wp2_with (first
            | (at_builtin
               go_must (refine wpList_append_lies _ rfl _ _ 23 rfl (w1.heap.size + 1) 35 i0 _ 5 40 Tryz.underlying23 hi0 hz0 hz1' hz2 rfl (by omega) _ k _ rfl ((hown.alloc _).alloc _) ⟨wr.heap.size + 1, 0, none⟩ 1 1 [.int .i64 ps[k].fr, .int .i64 ps[k].to, .int .i64 0, .int .i64 ps[k].mo, .int .i64 ps[k].co] rfl rfl (World.news_of_block (cs := #[.int .i64 ps[k].fr, .int .i64 ps[k].to, .int .i64 0, .int .i64 ps[k].mo, .int .i64 ps[k].co]) (t := 35) (fr := (0, 0)) (heap_new2 _ _ _)) (by simp [Value.oneCell']) (by omega) (by unfold maxLen; omega) (by omega) (by (first | omega | (simp; done) | (simp; omega) | (simp at *; omega))) _ rfl ?_)
               intro g2 k2 w2 hown2 hgr2 hat2 hlt2
               have x0 : w2.cell? ⟨w1.heap.size, 0, none⟩ = some (.int .i64 n) := (hgr2.cell_far _ (by (first | omega | (simp; done) | (simp; omega) | (simp at *; omega))) hne1).trans (by (repeat (first | (with_reducible assumption) | ((with_reducible refine (Below.cell (by with_reducible assumption) ?hsz).trans ?_); (case hsz => (first | omega | (simp; done) | (simp; omega) | (simp at *; omega)))) | ((with_reducible refine (World.cell?_alloc_lt _ _ _ ?hsz).trans ?_); (case hsz => (first | omega | (simp; done) | (simp; omega) | (simp at *; omega)))) | ((with_reducible refine (World.cell?_setCell_other _ _ _ _ ?hsz).trans ?_); (case hsz => (intro h; injection h with h1 h2; omega))))))
               have x1 : w2.cell? ⟨w1.heap.size, 1, none⟩ = some (.slice A1 k k1) := (hgr2.cell_far _ (by (first | omega | (simp; done) | (simp; omega) | (simp at *; omega))) hne1).trans (by (repeat (first | (with_reducible assumption) | ((with_reducible refine (Below.cell (by with_reducible assumption) ?hsz).trans ?_); (case hsz => (first | omega | (simp; done) | (simp; omega) | (simp at *; omega)))) | ((with_reducible refine (World.cell?_alloc_lt _ _ _ ?hsz).trans ?_); (case hsz => (first | omega | (simp; done) | (simp; omega) | (simp at *; omega)))) | ((with_reducible refine (World.cell?_setCell_other _ _ _ _ ?hsz).trans ?_); (case hsz => (intro h; injection h with h1 h2; omega))))))
               have xf : w2.frozen? ⟨w1.heap.size, 1, none⟩ = false := (hgr2.frozen_far _ (by (first | omega | (simp; done) | (simp; omega) | (simp at *; omega))) hne1).trans (hfz2 _ _)))
          have hUC : (unitP ps[k]).cells = [.int .i64 ps[k].fr, .int .i64 ps[k].to, .int .i64 0, .int .i64 ps[k].mo, .int .i64 ps[k].co] := by simp [unitP, Pp.cells, hM]
          rw [← hUC] at hown2
          have hk1 : (ps.map unitP).take (k + 1) = (ps.map unitP).take k ++ [unitP ps[k]] := by
            rw [List.take_add_one]; simp [hlt]
          have hown3 : w2.ownsRow (w1.heap.size + 1) 35 5 (.slice (some ⟨g2, 0, none⟩) (k + 1) k2) (k + 1) (((ps.map unitP).take (k + 1)).flatMap Pp.cells) := by
            rw [hk1, List.flatMap_append]
            simpa using hown2
          have hbe : Below w1.heap.size w1 (w2.setCell ⟨w1.heap.size, 1, none⟩ (.slice (some ⟨g2, 0, none⟩) (k + 1) k2)) := by
            refine Below.setCell ?_ (by (first | omega | (simp; done) | (simp; omega) | (simp at *; omega))) _
            refine Below.grown (w := ((wr.alloc (.cells #[.int .i64 ps[k].fr, .int .i64 ps[k].to, .int .i64 ps[k].le, .int .i64 ps[k].mo, .int .i64 ps[k].co] 35)).alloc (.cells #[.int .i64 ps[k].fr, .int .i64 ps[k].to, .int .i64 0, .int .i64 ps[k].mo, .int .i64 ps[k].co] 35))) (by (repeat (first | (with_reducible assumption) | (with_reducible exact Below.refl _ _) | ((with_reducible refine Below.alloc ?_ ?hsz _); (case hsz => (first | omega | (simp; done) | (simp; omega) | (simp at *; omega)))) | ((with_reducible refine Below.setCell ?_ ?hsz _); (case hsz => (first | omega | (simp; done) | (simp; omega) | (simp at *; omega)))) | (with_reducible refine Below.drew ?_) | (with_reducible refine below_drewN ?_ _) | ((with_reducible refine Below.trans ?_ (Below.mono (by with_reducible assumption) ?hsz)); (case hsz => (first | omega | (simp; done) | (simp; omega) | (simp at *; omega))))))) hgr2 (by (first | omega | (simp; done) | (simp; omega) | (simp at *; omega))) ?_
            intro q hq
            have := (hown.lt q hq).1
            omega
          have hl2 : w1.heap.size < w2.heap.size := by have := hgr2.size; simp at this; omega
          go_roundw
          case rel => exact ⟨k + 1, some ⟨g2, 0, none⟩, k2, by omega, by go_num, ownsRow_setCell_below hown3 (by (first | omega | (simp; done) | (simp; omega) | (simp at *; omega))) _, by (first | omega | (simp; done) | (simp; omega) | (simp at *; omega)), (World.cell?_setCell_other _ _ _ _ (by intro h; injection h with h1 h2; omega)).trans x0, World.cell?_setCell_same _ _ _ x1, by simpa using xf, hbe⟩
          case measure => simp [intOf]; omega
      · go_wp2
        have hk2 : k = ps.length := by omega
        subst hk2
        rw [List.take_of_length_le (by simp)] at hown
        have hfin : Pipes wr (w1.heap.size + 1) (.slice A1 ps.length k1) (ps.map unitP) := ⟨by simpa using hown, by simp [small]; omega⟩
        refine bodyPost_ret (v := .agg #[.int .i64 n, .slice A1 ps.length k1]) (by simp [results, Tryz.results30, go_sem, e2, e3]) rfl ⟨_, by rw [hyes.out.1], ?_, by (repeat (first | (with_reducible assumption) | (with_reducible exact Below.refl _ _) | ((with_reducible refine Below.alloc ?_ ?hsz _); (case hsz => (first | omega | (simp; done) | (simp; omega) | (simp at *; omega)))) | ((with_reducible refine Below.setCell ?_ ?hsz _); (case hsz => (first | omega | (simp; done) | (simp; omega) | (simp at *; omega)))) | (with_reducible refine Below.drew ?_) | (with_reducible refine below_drewN ?_ _) | ((with_reducible refine Below.trans ?_ (Below.mono (by with_reducible assumption) ?hsz)); (case hsz => (first | omega | (simp; done) | (simp; omega) | (simp at *; omega))))))⟩
        rw [hyes.out.2]
        exact ((hfin.setLow (by (first | omega | (simp; done) | (simp; omega) | (simp at *; omega)))).setLow (by (first | omega | (simp; done) | (simp; omega) | (simp at *; omega)))).mono (by (first | omega | (simp; done) | (simp; omega) | (simp at *; omega)))

end Go.Proofs.YtmgpekdhcghabaaGreat
