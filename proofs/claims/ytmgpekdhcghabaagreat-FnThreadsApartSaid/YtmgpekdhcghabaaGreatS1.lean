/- Contracts of the functions of chapter 1 in the model: NetOk, FlowOk. -/
import Derived.Test.YtmgpekdhcghabaaGreatMG
namespace Go.Proofs.YtmgpekdhcghabaaGreat
open Go.RowKit

set_option maxHeartbeats 400000 in
set_option maxRecDepth 20000 in
theorem l1In_any (n l m : Int) (w : World) :
    Calls Tryz.prog 79 #[.int .i64 n, .int .i64 l, .int .i64 m] w fun e w' => e = .returned (.bool (withinB n l m)) ∧ w = w' := by
  go_enter Tryz.func79, Tryz.ntmps79
  go_wp2
  all_goals (go_ret; exact ⟨by simp [withinB, *] <;> omega, rfl⟩)

theorem pipe_conv {n a b c d e : Int} (h : pipeOkB n a b c d e = true) : withinB a 0 (n - 1) = true ∧ withinB b 0 (n - 1) = true ∧ (a == b) = false ∧ withinB c 0 d = true ∧ d ≤ 4 ∧ withinB e (-9) 9 = true := by
  obtain ⟨h1, h2, h3, h4, h5, h6, h7, h8, h9, h10⟩ := pipeOk_parts h
  simp only [withinB, Bool.and_eq_true, decide_eq_true_eq, beq_eq_false_iff_ne]
  omega

theorem pipe_yes {n a b c d e : Int} (h1 : withinB a 0 (n - 1) = true) (h2 : withinB b 0 (n - 1) = true) (h3 : a ≠ b) (h4 : withinB c 0 d = true) (h5 : d ≤ 4) (h6 : withinB e (-9) 9 = true) : pipeOkB n a b c d e = true := by
  simp only [pipeOkB, withinB, Bool.and_eq_true, decide_eq_true_eq] at *
  omega

set_option maxHeartbeats 1000000 in
set_option maxRecDepth 20000 in
theorem specNetOk_in (n : Int) (v : Value) (ps : List Pp) (b : Nat) (w : World) (hp : Pipes w b v ps) (hn1 : 2 ≤ n) (hn2 : n ≤ 5) :
    Calls Tryz.prog 69 #[.agg #[.int .i64 n, v]] w fun e w' => e = .returned (.bool (netOkB n ps)) ∧ Below w.heap.size w w' := by
  obtain ⟨A, c, rfl, hc1, hc2, hs, hcell⟩ := hp.form
  unfold maxLen at hc2
  have Hn : Hid (withinB n 2 5 = true) := Lib.hid (by simp [withinB]; omega)
  go_enter Tryz.func69, Tryz.ntmps69
  go_wp2
  go_loopw [3] (fun i wr => ∃ k : Nat, k ≤ ps.length ∧ i = .int .i64 k ∧ (∀ p ∈ ps.take k, (fun p : Pp => pipeOkB n p.fr p.to p.le p.mo p.co) p = true) ∧ Below w.heap.size w wr ∧
      wr.cell? ⟨w.heap.size, 0, none⟩ = some (.int .i64 n) ∧ wr.cell? ⟨w.heap.size, 1, none⟩ = some (.slice A ps.length c) ∧ w.heap.size < wr.heap.size) (fun i _ => ps.length - (intOf i).toNat)
  case atStart => exact ⟨0, by omega, rfl, by simp, by (repeat (first | (with_reducible assumption) | (with_reducible exact Below.refl _ _) | ((with_reducible refine Below.alloc ?_ ?hsz _); (case hsz => (first | omega | (simp; done) | (simp; omega) | (simp at *; omega)))) | ((with_reducible refine Below.setCell ?_ ?hsz _); (case hsz => (first | omega | (simp; done) | (simp; omega) | (simp at *; omega)))) | (with_reducible refine Below.drew ?_) | (with_reducible refine below_drewN ?_ _) | ((with_reducible refine Below.trans ?_ (Below.mono (by with_reducible assumption) ?hsz)); (case hsz => (first | omega | (simp; done) | (simp; omega) | (simp at *; omega)))))), by simp, by simp, by simp⟩
  case round =>
    obtain ⟨k, hk, rfl, hall, hb, d0, d1, hz⟩ := hrel
    obtain ⟨hcr, hfr, hzr⟩ := bcell hb
    by_cases hlt : k < ps.length
    · obtain ⟨g, rfl, hg1, hg2, c0, c1, c2, c3, c4⟩ := hcell w (Below.refl _ _) k hlt
      have hgr : g < wr.heap.size := by omega
      by_cases hP : pipeOkB n ps[k].fr ps[k].to ps[k].le ps[k].mo ps[k].co = true
      · obtain ⟨t1, t2, t3, t4, t5, t6⟩ := pipe_conv hP
        go_wp2_with (first
          | (go_at_call 79; ((with_reducible refine (l1In_any _ _ _ _).mono ?_); rintro e w1 ⟨rfl, rfl⟩)))
        go_roundw
        case rel => exact ⟨k + 1, by omega, by go_num, all_take hlt hall hP, by (repeat (first | (with_reducible assumption) | (with_reducible exact Below.refl _ _) | ((with_reducible refine Below.alloc ?_ ?hsz _); (case hsz => (first | omega | (simp; done) | (simp; omega) | (simp at *; omega)))) | ((with_reducible refine Below.setCell ?_ ?hsz _); (case hsz => (first | omega | (simp; done) | (simp; omega) | (simp at *; omega)))) | (with_reducible refine Below.drew ?_) | (with_reducible refine below_drewN ?_ _) | ((with_reducible refine Below.trans ?_ (Below.mono (by with_reducible assumption) ?hsz)); (case hsz => (first | omega | (simp; done) | (simp; omega) | (simp at *; omega)))))), by (repeat (first | (with_reducible assumption) | ((with_reducible refine (Below.cell (by with_reducible assumption) ?hsz).trans ?_); (case hsz => (first | omega | (simp; done) | (simp; omega) | (simp at *; omega)))) | ((with_reducible refine (World.cell?_alloc_lt _ _ _ ?hsz).trans ?_); (case hsz => (first | omega | (simp; done) | (simp; omega) | (simp at *; omega)))) | ((with_reducible refine (World.cell?_setCell_other _ _ _ _ ?hsz).trans ?_); (case hsz => (intro h; injection h with h1 h2; omega))))), by (repeat (first | (with_reducible assumption) | ((with_reducible refine (Below.cell (by with_reducible assumption) ?hsz).trans ?_); (case hsz => (first | omega | (simp; done) | (simp; omega) | (simp at *; omega)))) | ((with_reducible refine (World.cell?_alloc_lt _ _ _ ?hsz).trans ?_); (case hsz => (first | omega | (simp; done) | (simp; omega) | (simp at *; omega)))) | ((with_reducible refine (World.cell?_setCell_other _ _ _ _ ?hsz).trans ?_); (case hsz => (intro h; injection h with h1 h2; omega))))), by (first | omega | (simp; done) | (simp; omega) | (simp at *; omega))⟩
        case measure => simp [intOf]; omega
      · have hP' : pipeOkB n ps[k].fr ps[k].to ps[k].le ps[k].mo ps[k].co = false := by simpa using hP
        have Hno := Lib.hid (all_no (f := fun p : Pp => pipeOkB n p.fr p.to p.le p.mo p.co) hlt (by simp only [hP', Bool.not_false]))
        have HP := Lib.hid hP
        clear hP hP'
        go_wp2_with (first
          | (go_at_call 79; ((with_reducible refine (l1In_any _ _ _ _).mono ?_); rintro e w1 ⟨rfl, rfl⟩)))
        all_goals (first
          | (go_ret; exact ⟨ret_bool (by rw [netOkB, Hno.out]; simp), by (repeat (first | (with_reducible assumption) | (with_reducible exact Below.refl _ _) | ((with_reducible refine Below.alloc ?_ ?hsz _); (case hsz => (first | omega | (simp; done) | (simp; omega) | (simp at *; omega)))) | ((with_reducible refine Below.setCell ?_ ?hsz _); (case hsz => (first | omega | (simp; done) | (simp; omega) | (simp at *; omega)))) | (with_reducible refine Below.drew ?_) | (with_reducible refine below_drewN ?_ _) | ((with_reducible refine Below.trans ?_ (Below.mono (by with_reducible assumption) ?hsz)); (case hsz => (first | omega | (simp; done) | (simp; omega) | (simp at *; omega))))))⟩)
          | (exfalso
             have hh : ((ps[k].fr == ps[k].to) = false ∧ ps[k].mo ≤ 4) ∧ (!withinB ps[k].co (-9) 9) = false := by assumption
             exact HP.out (pipe_yes (by assumption) (by assumption) (by assumption) (by assumption) (by assumption) (of_not hh.2))))
    · go_wp2_with (first
        | (go_at_call 79; ((with_reducible refine (l1In_any _ _ _ _).mono ?_); rintro e w1 ⟨rfl, rfl⟩)))
      all_goals (first
        | (go_ret; exact ⟨ret_bool (by rw [netOkB, all_whole hlt hall, Hn.out]; simp; omega), by (repeat (first | (with_reducible assumption) | (with_reducible exact Below.refl _ _) | ((with_reducible refine Below.alloc ?_ ?hsz _); (case hsz => (first | omega | (simp; done) | (simp; omega) | (simp at *; omega)))) | ((with_reducible refine Below.setCell ?_ ?hsz _); (case hsz => (first | omega | (simp; done) | (simp; omega) | (simp at *; omega)))) | (with_reducible refine Below.drew ?_) | (with_reducible refine below_drewN ?_ _) | ((with_reducible refine Below.trans ?_ (Below.mono (by with_reducible assumption) ?hsz)); (case hsz => (first | omega | (simp; done) | (simp; omega) | (simp at *; omega))))))⟩)
        | (exfalso; exact absurd Hn.out (by assumption)))

theorem netOk_out {n : Int} {ps : List Pp} (h : ¬ (2 ≤ n ∧ n ≤ 5)) : netOkB n ps = false ∧ withinB n 2 5 = false := by
  have : withinB n 2 5 = false := by simp [withinB]; omega
  exact ⟨by simp [netOkB, this], this⟩

set_option maxHeartbeats 1000000 in
set_option maxRecDepth 20000 in
theorem specNetOk_out (n : Int) (v : Value) (ps : List Pp) (b : Nat) (w : World) (hp : Pipes w b v ps) (hn : ¬ (2 ≤ n ∧ n ≤ 5)) :
    Calls Tryz.prog 69 #[.agg #[.int .i64 n, v]] w fun e w' => e = .returned (.bool (netOkB n ps)) ∧ Below w.heap.size w w' := by
  obtain ⟨A, c, rfl, hc1, hc2, hs, hcell⟩ := hp.form
  unfold maxLen at hc2
  have Hno := Lib.hid (netOk_out (ps := ps) hn)
  have Hn : Hid (withinB n 2 5 = false) := Lib.hid Hno.out.2
  have ho := Hno.out.2
  clear hn
  go_enter Tryz.func69, Tryz.ntmps69
  go_wp2
  go_loopw [3] (fun i wr => ∃ k : Nat, k ≤ ps.length ∧ i = .int .i64 k ∧ Below w.heap.size w wr ∧
      wr.cell? ⟨w.heap.size, 0, none⟩ = some (.int .i64 n) ∧ wr.cell? ⟨w.heap.size, 1, none⟩ = some (.slice A ps.length c) ∧ w.heap.size < wr.heap.size) (fun i _ => ps.length - (intOf i).toNat)
  case atStart => exact ⟨0, by omega, rfl, by (repeat (first | (with_reducible assumption) | (with_reducible exact Below.refl _ _) | ((with_reducible refine Below.alloc ?_ ?hsz _); (case hsz => (first | omega | (simp; done) | (simp; omega) | (simp at *; omega)))) | ((with_reducible refine Below.setCell ?_ ?hsz _); (case hsz => (first | omega | (simp; done) | (simp; omega) | (simp at *; omega)))) | (with_reducible refine Below.drew ?_) | (with_reducible refine below_drewN ?_ _) | ((with_reducible refine Below.trans ?_ (Below.mono (by with_reducible assumption) ?hsz)); (case hsz => (first | omega | (simp; done) | (simp; omega) | (simp at *; omega)))))), by simp, by simp, by simp⟩
  case round =>
    obtain ⟨k, hk, rfl, hb, d0, d1, hz⟩ := hrel
    obtain ⟨hcr, hfr, hzr⟩ := bcell hb
    by_cases hlt : k < ps.length
    · obtain ⟨g, rfl, hg1, hg2, c0, c1, c2, c3, c4⟩ := hcell w (Below.refl _ _) k hlt
      have hgr : g < wr.heap.size := by omega
      go_wp2_with (first
        | (go_at_call 79; ((with_reducible refine (l1In_any _ _ _ _).mono ?_); rintro e w1 ⟨rfl, rfl⟩)))
      all_goals (first
        | (go_ret; exact ⟨ret_bool Hno.out.1.symm, by (repeat (first | (with_reducible assumption) | (with_reducible exact Below.refl _ _) | ((with_reducible refine Below.alloc ?_ ?hsz _); (case hsz => (first | omega | (simp; done) | (simp; omega) | (simp at *; omega)))) | ((with_reducible refine Below.setCell ?_ ?hsz _); (case hsz => (first | omega | (simp; done) | (simp; omega) | (simp at *; omega)))) | (with_reducible refine Below.drew ?_) | (with_reducible refine below_drewN ?_ _) | ((with_reducible refine Below.trans ?_ (Below.mono (by with_reducible assumption) ?hsz)); (case hsz => (first | omega | (simp; done) | (simp; omega) | (simp at *; omega))))))⟩)
        | (go_roundw
           case rel => exact ⟨k + 1, by omega, by go_num, by (repeat (first | (with_reducible assumption) | (with_reducible exact Below.refl _ _) | ((with_reducible refine Below.alloc ?_ ?hsz _); (case hsz => (first | omega | (simp; done) | (simp; omega) | (simp at *; omega)))) | ((with_reducible refine Below.setCell ?_ ?hsz _); (case hsz => (first | omega | (simp; done) | (simp; omega) | (simp at *; omega)))) | (with_reducible refine Below.drew ?_) | (with_reducible refine below_drewN ?_ _) | ((with_reducible refine Below.trans ?_ (Below.mono (by with_reducible assumption) ?hsz)); (case hsz => (first | omega | (simp; done) | (simp; omega) | (simp at *; omega)))))), by (repeat (first | (with_reducible assumption) | ((with_reducible refine (Below.cell (by with_reducible assumption) ?hsz).trans ?_); (case hsz => (first | omega | (simp; done) | (simp; omega) | (simp at *; omega)))) | ((with_reducible refine (World.cell?_alloc_lt _ _ _ ?hsz).trans ?_); (case hsz => (first | omega | (simp; done) | (simp; omega) | (simp at *; omega)))) | ((with_reducible refine (World.cell?_setCell_other _ _ _ _ ?hsz).trans ?_); (case hsz => (intro h; injection h with h1 h2; omega))))), by (repeat (first | (with_reducible assumption) | ((with_reducible refine (Below.cell (by with_reducible assumption) ?hsz).trans ?_); (case hsz => (first | omega | (simp; done) | (simp; omega) | (simp at *; omega)))) | ((with_reducible refine (World.cell?_alloc_lt _ _ _ ?hsz).trans ?_); (case hsz => (first | omega | (simp; done) | (simp; omega) | (simp at *; omega)))) | ((with_reducible refine (World.cell?_setCell_other _ _ _ _ ?hsz).trans ?_); (case hsz => (intro h; injection h with h1 h2; omega))))), by (first | omega | (simp; done) | (simp; omega) | (simp at *; omega))⟩
           case measure => simp [intOf]; omega))
    · go_wp2_with (first
        | (go_at_call 79; ((with_reducible refine (l1In_any _ _ _ _).mono ?_); rintro e w1 ⟨rfl, rfl⟩)))
      all_goals (first
        | (go_ret; exact ⟨ret_bool Hno.out.1.symm, by (repeat (first | (with_reducible assumption) | (with_reducible exact Below.refl _ _) | ((with_reducible refine Below.alloc ?_ ?hsz _); (case hsz => (first | omega | (simp; done) | (simp; omega) | (simp at *; omega)))) | ((with_reducible refine Below.setCell ?_ ?hsz _); (case hsz => (first | omega | (simp; done) | (simp; omega) | (simp at *; omega)))) | (with_reducible refine Below.drew ?_) | (with_reducible refine below_drewN ?_ _) | ((with_reducible refine Below.trans ?_ (Below.mono (by with_reducible assumption) ?hsz)); (case hsz => (first | omega | (simp; done) | (simp; omega) | (simp at *; omega))))))⟩)
        | (exfalso; have := Hno.out.2; simp_all))

theorem specNetOk_any (n : Int) (v : Value) (ps : List Pp) (b : Nat) (w : World) (hp : Pipes w b v ps) :
    Calls Tryz.prog 69 #[.agg #[.int .i64 n, v]] w fun e w' => e = .returned (.bool (netOkB n ps)) ∧ Below w.heap.size w w' := by
  by_cases h : 2 ≤ n ∧ n ≤ 5
  · exact specNetOk_in n v ps b w hp h.1 h.2
  · exact specNetOk_out n v ps b w hp h

end Go.Proofs.YtmgpekdhcghabaaGreat
