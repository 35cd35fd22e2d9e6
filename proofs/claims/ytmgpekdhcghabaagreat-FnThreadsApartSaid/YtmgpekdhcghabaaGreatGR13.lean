/- Plain facts. -/
import Derived.Test.YtmgpekdhcghabaaGreatS1
import Derived.Test.YtmgpekdhcghabaaGreatMG
import Derived.Deep.RegionHeld3
import Derived.BigQuiet
/- Contracts of the functions of chapter 3 in the model: FreeOk. -/
namespace Go.Proofs.YtmgpekdhcghabaaGreat
open Go.RowKit

set_option maxHeartbeats 1000000 in
set_option maxRecDepth 20000 in
theorem specFreeOk_any (n : Int) (v : Value) (ps : List Pp) (b : Nat) (w : World) (hp : Pipes w b v ps) :
    Calls Tryz.prog 70 #[.agg #[.int .i64 n, v]] w fun e w' => e = .returned (.bool (freeB n ps)) ∧ Below w.heap.size w w' := by
  have hp0 := hp
  obtain ⟨A, c, rfl, hc1, hc2, hs, hcell⟩ := hp.form
  unfold maxLen at hc2
  go_enter Tryz.func70, Tryz.ntmps70
  go_wp2
  go_loopw [3] (fun i wr => ∃ k : Nat, k ≤ ps.length ∧ i = .int .i64 k ∧ (∀ p ∈ ps.take k, decide (p.le = 0) = true) ∧ Below w.heap.size w wr ∧ wr.cell? ⟨w.heap.size, 0, none⟩ = some (.int .i64 n) ∧ wr.cell? ⟨w.heap.size, 1, none⟩ = some (.slice A ps.length c) ∧ w.heap.size < wr.heap.size) (fun i _ => ps.length - (intOf i).toNat)
  case atStart => exact ⟨0, by omega, rfl, by simp, by (repeat (first | (with_reducible assumption) | (with_reducible exact Below.refl _ _) | ((with_reducible refine Below.alloc ?_ ?hsz _); (case hsz => (first | omega | (simp; done) | (simp; omega) | (simp at *; omega)))) | ((with_reducible refine Below.setCell ?_ ?hsz _); (case hsz => (first | omega | (simp; done) | (simp; omega) | (simp at *; omega)))) | (with_reducible refine Below.drew ?_) | (with_reducible refine below_drewN ?_ _) | ((with_reducible refine Below.trans ?_ (Below.mono (by with_reducible assumption) ?hsz)); (case hsz => (first | omega | (simp; done) | (simp; omega) | (simp at *; omega)))))), by simp, by simp, by simp⟩
  case round =>
    obtain ⟨k, hk, rfl, hall, hb, d0, d1, hz⟩ := hrel
    have Hall := Lib.hid hall
    clear hall
    by_cases hlt : k < ps.length
    · obtain ⟨g, rfl, hg1, hg2, c0, c1, c2, c3, c4⟩ := hcell wr hb k hlt
      by_cases hz0 : ps[k].le = 0
      · have hz' : (ps[k].le != 0) = false := by simp [hz0]
        have Hn := Lib.hid (all_take (f := fun p : Pp => decide (p.le = 0)) hlt Hall.out (by simp [hz0]))
        clear hz0
        go_wp2
        go_roundw
        case rel => exact ⟨k + 1, by omega, by go_num, Hn.out, by (repeat (first | (with_reducible assumption) | (with_reducible exact Below.refl _ _) | ((with_reducible refine Below.alloc ?_ ?hsz _); (case hsz => (first | omega | (simp; done) | (simp; omega) | (simp at *; omega)))) | ((with_reducible refine Below.setCell ?_ ?hsz _); (case hsz => (first | omega | (simp; done) | (simp; omega) | (simp at *; omega)))) | (with_reducible refine Below.drew ?_) | (with_reducible refine below_drewN ?_ _) | ((with_reducible refine Below.trans ?_ (Below.mono (by with_reducible assumption) ?hsz)); (case hsz => (first | omega | (simp; done) | (simp; omega) | (simp at *; omega)))))), d0, d1, hz⟩
        case measure => simp [intOf]; omega
      · have hz' : (ps[k].le != 0) = true := by simpa using hz0
        have Hn := Lib.hid (show freeB n ps = false by
          rw [freeB, all_no hlt (by simp [hz0])]; simp)
        clear hz0
        go_wp2
        go_ret
        exact ⟨ret_bool Hn.out.symm, by (repeat (first | (with_reducible assumption) | (with_reducible exact Below.refl _ _) | ((with_reducible refine Below.alloc ?_ ?hsz _); (case hsz => (first | omega | (simp; done) | (simp; omega) | (simp at *; omega)))) | ((with_reducible refine Below.setCell ?_ ?hsz _); (case hsz => (first | omega | (simp; done) | (simp; omega) | (simp at *; omega)))) | (with_reducible refine Below.drew ?_) | (with_reducible refine below_drewN ?_ _) | ((with_reducible refine Below.trans ?_ (Below.mono (by with_reducible assumption) ?hsz)); (case hsz => (first | omega | (simp; done) | (simp; omega) | (simp at *; omega))))))⟩
    · have Hn := Lib.hid (show freeB n ps = netOkB n ps by
        rw [freeB, all_whole hlt Hall.out]; simp)
      go_wp2_with fail
      refine (specNetOk_any n _ ps b _ (hp0.keep hb)).mono ?_
      rintro e w2 ⟨rfl, hb2⟩
      go_wp2
      go_ret
      exact ⟨ret_bool Hn.out.symm, hb.trans (hb2.mono hb.size)⟩

end Go.Proofs.YtmgpekdhcghabaaGreat

/- Contracts of the functions of chapter 3 in the model: steps. -/
namespace Go.Proofs.YtmgpekdhcghabaaGreat
open Go.RowKit

set_option maxHeartbeats 1000000 in
set_option maxRecDepth 20000 in
theorem specStep_any (s : Nat) (n : Int) (v u : Value) (ps : List Pp) (xs : List Int) (b b' : Nat) (w : World) (hp : Pipes w b v ps) (hx : Ints w b' u xs) (hs : s < 2 * ps.length) (hlen : xs.length = ps.length)
    (ha : ∀ x ∈ xs, 0 ≤ x ∧ x ≤ 40) (hr : ∀ p ∈ ps, 0 ≤ p.le ∧ p.le ≤ p.mo ∧ p.mo ≤ 4) :
    Calls Tryz.prog 135 #[.agg #[.int .i64 n, v], u, .int .i64 s] w fun e w' => e = .returned (.tuple #[.int .i64 (stFr ps s), .int .i64 (stTo ps s), .int .i64 (stRoom ps xs s)]) ∧ Below w.heap.size w w' := by
  obtain ⟨A, c, rfl, hc1, hc2, hsm, hcell⟩ := hp.form
  obtain ⟨A', c', rfl, hc1', hc2', hsm', hcell'⟩ := hx.form
  unfold maxLen at hc2 hc2'
  obtain ⟨k, hk⟩ : ∃ k, s / 2 = k := ⟨_, rfl⟩
  have hkl : k < ps.length := by omega
  have hkx : k < xs.length := by omega
  obtain ⟨g, rfl, hg1, hg2, c0, c1, c2, c3, c4⟩ := hcell w (Below.refl _ _) k hkl
  obtain ⟨g', rfl, hg1', hg2', d0, -⟩ := hcell' w (Below.refl _ _) k hkx
  have hq : (s : Int) / 2 = (k : Int) := by omega
  obtain ⟨x0, x1⟩ := ha _ (List.getElem_mem hkx)
  obtain ⟨l0, l1, l2⟩ := hr _ (List.getElem_mem hkl)
  have Hl := Lib.hid hlen
  clear hlen ha hr
  rcases (show s % 2 = 1 ∨ s % 2 = 0 by omega) with hm | hm
  · obtain ⟨e1, e2, e3⟩ := st_odd (xs := xs) hm hk hkl hkx
    have He := Lib.hid (And.intro e1 (And.intro e2 e3))
    have hmi : ((s : Int) % 2 == 0) = false := by rw [beq_eq_false_iff_ne]; omega
    clear e1 e2 e3 hk hm
    go_enter Tryz.func135, Tryz.ntmps135
    go_wp2
    go_quiet (fail)
    go_wp2
    refine bodyPost_ret (v := .tuple #[.int .i64 ps[k].to, .int .i64 ps[k].fr, .int .i64 (xs[k] - ps[k].le)]) (by simp [results, Tryz.results135, go_sem]) rfl ⟨by rw [He.out.1, He.out.2.1, He.out.2.2], by (repeat (first | (with_reducible assumption) | (with_reducible exact Below.refl _ _) | ((with_reducible refine Below.alloc ?_ ?hsz _); (case hsz => (first | omega | (simp; done) | (simp; omega) | (simp at *; omega)))) | ((with_reducible refine Below.setCell ?_ ?hsz _); (case hsz => (first | omega | (simp; done) | (simp; omega) | (simp at *; omega)))) | (with_reducible refine Below.drew ?_) | (with_reducible refine below_drewN ?_ _) | ((with_reducible refine Below.trans ?_ (Below.mono (by with_reducible assumption) ?hsz)); (case hsz => (first | omega | (simp; done) | (simp; omega) | (simp at *; omega))))))⟩
  · obtain ⟨e1, e2, e3⟩ := st_even (xs := xs) hm hk hkl hkx
    have He := Lib.hid (And.intro e1 (And.intro e2 e3))
    have hmi : ((s : Int) % 2 == 0) = true := by rw [beq_iff_eq]; omega
    clear e1 e2 e3 hk hm
    go_enter Tryz.func135, Tryz.ntmps135
    go_wp2
    go_quiet (fail)
    go_wp2
    refine bodyPost_ret (v := .tuple #[.int .i64 ps[k].fr, .int .i64 ps[k].to, .int .i64 (ps[k].mo - xs[k])]) (by simp [results, Tryz.results135, go_sem]) rfl ⟨by rw [He.out.1, He.out.2.1, He.out.2.2], by (repeat (first | (with_reducible assumption) | (with_reducible exact Below.refl _ _) | ((with_reducible refine Below.alloc ?_ ?hsz _); (case hsz => (first | omega | (simp; done) | (simp; omega) | (simp at *; omega)))) | ((with_reducible refine Below.setCell ?_ ?hsz _); (case hsz => (first | omega | (simp; done) | (simp; omega) | (simp at *; omega)))) | (with_reducible refine Below.drew ?_) | (with_reducible refine below_drewN ?_ _) | ((with_reducible refine Below.trans ?_ (Below.mono (by with_reducible assumption) ?hsz)); (case hsz => (first | omega | (simp; done) | (simp; omega) | (simp at *; omega))))))⟩

end Go.Proofs.YtmgpekdhcghabaaGreat
