/- Plain facts. -/
import Derived.Test.YtabkhpeoeihmmaaS1
import Derived.Test.YtabkhpeoeihmmaaMG
import Derived.IntWalk
/- Contracts of the functions of chapter 1 in the model: FlowOk. -/
namespace Go.Proofs.Ytabkhpeoeihmmaa
open Go.RowKit

set_option maxHeartbeats 1000000 in
set_option maxRecDepth 20000 in
theorem specFlowOk_any (n : Int) (v u : Value) (ps : List Pp) (xs : List Int) (b b' : Nat) (w : World) (hp : Pipes w b v ps) (hx : Ints w b' u xs) :
    Calls Try.prog 90 #[.agg #[.int .i64 n, v], u] w fun e w' => e = .returned (.bool (flowOkB n ps xs)) ∧ Below w.heap.size w w' := by
  have hp0 := hp
  obtain ⟨A, c, rfl, hc1, hc2, hs, hcell⟩ := hp.form
  obtain ⟨A', c', rfl, hc1', hc2', hs', hcell'⟩ := hx.form
  unfold maxLen at hc2 hc2'
  go_enter Try.func90, Try.ntmps90
  go_wp2
  go_loop [5] (fun i => ∃ k : Nat, k ≤ xs.length ∧ i = .int .i64 k ∧ (∀ p ∈ xs.take k, (fun x : Int => withinB x 0 40) p = true)) (fun i => xs.length - (intOf i).toNat)
  case atStart => exact ⟨0, by omega, rfl, by simp⟩
  case round =>
    obtain ⟨k, hk, rfl, hall⟩ := hrel
    by_cases hlt : k < xs.length
    · obtain ⟨g, rfl, hg1, hg2, c0, _⟩ := hcell' w (Below.refl _ _) k hlt
      go_wp2_with (first
        | (go_at_call 55; ((with_reducible refine (l1In_any _ _ _ _).mono ?_); rintro e w1 ⟨rfl, rfl⟩)))
      · go_ret
        exact ⟨ret_bool (by rw [flowOkB, all_no hlt (by assumption)]; simp), by (repeat (first | (with_reducible assumption) | (with_reducible exact Below.refl _ _) | ((with_reducible refine Below.alloc ?_ ?hsz _); (case hsz => (first | omega | (simp; done) | (simp; omega) | (simp at *; omega)))) | ((with_reducible refine Below.setCell ?_ ?hsz _); (case hsz => (first | omega | (simp; done) | (simp; omega) | (simp at *; omega)))) | (with_reducible refine Below.drew ?_) | (with_reducible refine below_drewN ?_ _) | ((with_reducible refine Below.trans ?_ (Below.mono (by with_reducible assumption) ?hsz)); (case hsz => (first | omega | (simp; done) | (simp; omega) | (simp at *; omega))))))⟩
      · have hp1 : withinB xs[k] 0 40 = true := of_not (by assumption)
        go_round
        case rel => exact ⟨k + 1, by omega, by go_num, all_take hlt hall hp1⟩
        case measure => simp [intOf]; omega
    · go_wp2_with (first
        | (go_at_call 89; ((with_reducible refine (specNetOk_any n _ ps b _ (hp0.keep (by (repeat (first | (with_reducible assumption) | (with_reducible exact Below.refl _ _) | ((with_reducible refine Below.alloc ?_ ?hsz _); (case hsz => (first | omega | (simp; done) | (simp; omega) | (simp at *; omega)))) | ((with_reducible refine Below.setCell ?_ ?hsz _); (case hsz => (first | omega | (simp; done) | (simp; omega) | (simp at *; omega)))) | (with_reducible refine Below.drew ?_) | (with_reducible refine below_drewN ?_ _) | ((with_reducible refine Below.trans ?_ (Below.mono (by with_reducible assumption) ?hsz)); (case hsz => (first | omega | (simp; done) | (simp; omega) | (simp at *; omega))))))))).mono ?_); rintro e w1 ⟨rfl, hb1⟩; obtain ⟨hc1, hf1, hz1⟩ := bcell hb1; (try simp at hz1); (try have hy1 : w.heap.size < w1.heap.size := by omega); (try have hy2 : w.heap.size + 1 < w1.heap.size := by omega); (try have hy3 : w.heap.size + 1 + 1 < w1.heap.size := by omega))))
      all_goals (go_ret; exact ⟨ret_bool (by rw [flowOkB, all_whole hlt hall]; simp [*, beq_len]), by (repeat (first | (with_reducible assumption) | (with_reducible exact Below.refl _ _) | ((with_reducible refine Below.alloc ?_ ?hsz _); (case hsz => (first | omega | (simp; done) | (simp; omega) | (simp at *; omega)))) | ((with_reducible refine Below.setCell ?_ ?hsz _); (case hsz => (first | omega | (simp; done) | (simp; omega) | (simp at *; omega)))) | (with_reducible refine Below.drew ?_) | (with_reducible refine below_drewN ?_ _) | ((with_reducible refine Below.trans ?_ (Below.mono (by with_reducible assumption) ?hsz)); (case hsz => (first | omega | (simp; done) | (simp; omega) | (simp at *; omega))))))⟩)

end Go.Proofs.Ytabkhpeoeihmmaa

/- Contracts of the functions of chapter 2 in the model: SideOk, how a pipe leads. -/
namespace Go.Proofs.Ytabkhpeoeihmmaa
open Go.RowKit

theorem side_n' {n : Int} {ps : List Pp} (h : netOkB n ps = true) : n = 2 ∨ n = 3 ∨ n = 4 ∨ n = 5 := by have := netOk_parts h; omega

set_option maxHeartbeats 400000 in
set_option maxRecDepth 20000 in
theorem ends_any (n i j : Int) (v : Value) (ps : List Pp) (b : Nat) (w : World) (hp : Pipes w b v ps) :
    Calls Try.prog 52 #[.agg #[.int .i64 n, v], .int .i64 i, .int .i64 j] w fun e w' => e = .returned (.bool (endsB n ps i j)) ∧ Below w.heap.size w w' := by
  by_cases hok : netOkB n ps = true
  · have hn := side_n' hok
    have Hok := Lib.hid hok
    have hb1 : 2 ≤ n := by omega
    have hb2 : n ≤ 5 := by omega
    clear hn
    go_enter Try.func52, Try.ntmps52
    go_wp2_with (first
      | (go_at_call 89; ((with_reducible refine (specNetOk_any _ v ps b _ (hp.keep (by (repeat (first | (with_reducible assumption) | (with_reducible exact Below.refl _ _) | ((with_reducible refine Below.alloc ?_ ?hsz _); (case hsz => (first | omega | (simp; done) | (simp; omega) | (simp at *; omega)))) | ((with_reducible refine Below.setCell ?_ ?hsz _); (case hsz => (first | omega | (simp; done) | (simp; omega) | (simp at *; omega)))) | (with_reducible refine Below.drew ?_) | (with_reducible refine below_drewN ?_ _) | ((with_reducible refine Below.trans ?_ (Below.mono (by with_reducible assumption) ?hsz)); (case hsz => (first | omega | (simp; done) | (simp; omega) | (simp at *; omega))))))))).mono ?_); rintro e w1 ⟨rfl, hb1⟩; obtain ⟨hc1, hf1, hz1⟩ := bcell hb1; (try simp at hz1); (try have hy1 : w.heap.size < w1.heap.size := by omega); (try have hy2 : w.heap.size + 1 < w1.heap.size := by omega); (try have hy3 : w.heap.size + 1 + 1 < w1.heap.size := by omega)))
      | (go_at_call 55; ((with_reducible refine (l1In_any _ _ _ _).mono ?_); rintro e w1 ⟨rfl, rfl⟩)))
    all_goals (go_ret; exact ⟨ret_bool (by simp_all [endsB, bne_dec]), by (repeat (first | (with_reducible assumption) | (with_reducible exact Below.refl _ _) | ((with_reducible refine Below.alloc ?_ ?hsz _); (case hsz => (first | omega | (simp; done) | (simp; omega) | (simp at *; omega)))) | ((with_reducible refine Below.setCell ?_ ?hsz _); (case hsz => (first | omega | (simp; done) | (simp; omega) | (simp at *; omega)))) | (with_reducible refine Below.drew ?_) | (with_reducible refine below_drewN ?_ _) | ((with_reducible refine Below.trans ?_ (Below.mono (by with_reducible assumption) ?hsz)); (case hsz => (first | omega | (simp; done) | (simp; omega) | (simp at *; omega))))))⟩)
  · have hok' : netOkB n ps = false := by simpa using hok
    have Hb : Hid (endsB n ps i j = false) := Lib.hid (by simp [endsB, hok'])
    clear hok
    go_enter Try.func52, Try.ntmps52
    go_wp2_with (first
      | (go_at_call 89; ((with_reducible refine (specNetOk_any _ v ps b _ (hp.keep (by (repeat (first | (with_reducible assumption) | (with_reducible exact Below.refl _ _) | ((with_reducible refine Below.alloc ?_ ?hsz _); (case hsz => (first | omega | (simp; done) | (simp; omega) | (simp at *; omega)))) | ((with_reducible refine Below.setCell ?_ ?hsz _); (case hsz => (first | omega | (simp; done) | (simp; omega) | (simp at *; omega)))) | (with_reducible refine Below.drew ?_) | (with_reducible refine below_drewN ?_ _) | ((with_reducible refine Below.trans ?_ (Below.mono (by with_reducible assumption) ?hsz)); (case hsz => (first | omega | (simp; done) | (simp; omega) | (simp at *; omega))))))))).mono ?_); rintro e w1 ⟨rfl, hb1⟩; obtain ⟨hc1, hf1, hz1⟩ := bcell hb1; (try simp at hz1); (try have hy1 : w.heap.size < w1.heap.size := by omega); (try have hy2 : w.heap.size + 1 < w1.heap.size := by omega); (try have hy3 : w.heap.size + 1 + 1 < w1.heap.size := by omega))))
    go_ret
    exact ⟨ret_bool Hb.out.symm, by (repeat (first | (with_reducible assumption) | (with_reducible exact Below.refl _ _) | ((with_reducible refine Below.alloc ?_ ?hsz _); (case hsz => (first | omega | (simp; done) | (simp; omega) | (simp at *; omega)))) | ((with_reducible refine Below.setCell ?_ ?hsz _); (case hsz => (first | omega | (simp; done) | (simp; omega) | (simp at *; omega)))) | (with_reducible refine Below.drew ?_) | (with_reducible refine below_drewN ?_ _) | ((with_reducible refine Below.trans ?_ (Below.mono (by with_reducible assumption) ?hsz)); (case hsz => (first | omega | (simp; done) | (simp; omega) | (simp at *; omega))))))⟩

def bitI (s k : Int) : Int := s / 2 ^ k.toNat % 2
/-- how a pipe leads: 1 from the side to the others, -1 back, else 0 -/
def overI (s : Int) (p : Pp) : Int := bitI s p.fr - bitI s p.to

theorem bitI_01 (s k : Int) : 0 ≤ bitI s k ∧ bitI s k ≤ 1 := by unfold bitI; generalize s / 2 ^ k.toNat = x; omega
theorem bitI_B (s k : Int) : bitB s k = decide (bitI s k = 1) := rfl

theorem over_out {s : Int} {p : Pp} (h : partsB s p.fr p.to = true) : overI s p = 1 := by
  have h1 := bitI_01 s p.fr
  have h2 := bitI_01 s p.to
  simp only [partsB, bitI_B, Bool.and_eq_true, Bool.not_eq_true', decide_eq_true_eq, decide_eq_false_iff_not] at h
  unfold overI; omega
theorem over_back {s : Int} {p : Pp} (h : partsB s p.to p.fr = true) : overI s p = -1 := by
  have h1 := bitI_01 s p.fr
  have h2 := bitI_01 s p.to
  simp only [partsB, bitI_B, Bool.and_eq_true, Bool.not_eq_true', decide_eq_true_eq, decide_eq_false_iff_not] at h
  unfold overI; omega
theorem over_no {s : Int} {p : Pp} (h : partsB s p.fr p.to = false) (h' : partsB s p.to p.fr = false) : overI s p = 0 := by
  have h1 := bitI_01 s p.fr
  have h2 := bitI_01 s p.to
  simp only [partsB, bitI_B, Bool.and_eq_false_iff, Bool.not_eq_false', decide_eq_true_eq, decide_eq_false_iff_not] at h h'
  unfold overI; omega

theorem shr_bit {s k : Int} (h4 : 0 ≤ s) : (s / 2 ^ k.toNat).tmod 2 = bitI s k := by
  rw [Int.tmod_eq_emod_of_nonneg (Int.ediv_nonneg h4 (Int.le_of_lt (Int.pow_pos (by decide)))), bitI]

end Go.Proofs.Ytabkhpeoeihmmaa

/- Contracts of the functions of chapter 3 in the model: FreeOk. -/
namespace Go.Proofs.Ytabkhpeoeihmmaa
open Go.RowKit

set_option maxHeartbeats 1000000 in
set_option maxRecDepth 20000 in
theorem specFreeOk_any (n : Int) (v : Value) (ps : List Pp) (b : Nat) (w : World) (hp : Pipes w b v ps) :
    Calls Try.prog 51 #[.agg #[.int .i64 n, v]] w fun e w' => e = .returned (.bool (freeB n ps)) ∧ Below w.heap.size w w' := by
  have hp0 := hp
  obtain ⟨A, c, rfl, hc1, hc2, hs, hcell⟩ := hp.form
  unfold maxLen at hc2
  go_enter Try.func51, Try.ntmps51
  go_wp2
  go_loopw [3] (fun i wr => ∃ k : Nat, k ≤ ps.length ∧ i = .int .i64 k ∧ (∀ p ∈ ps.take k, decide (p.le = 0) = true) ∧ Below w.heap.size w wr ∧ wr.cell? ⟨w.heap.size, 0, none⟩ = some (.int .i64 n) ∧ wr.cell? ⟨w.heap.size, 1, none⟩ = some (.slice A ps.length c) ∧ w.heap.size < wr.heap.size) (fun i _ => ps.length - (intOf i).toNat)
  case atStart => exact ⟨0, by omega, rfl, by simp, by (repeat (first | (with_reducible assumption) | (with_reducible exact Below.refl _ _) | ((with_reducible refine Below.alloc ?_ ?hsz _); (case hsz => (first | omega | (simp; done) | (simp; omega) | (simp at *; omega)))) | ((with_reducible refine Below.setCell ?_ ?hsz _); (case hsz => (first | omega | (simp; done) | (simp; omega) | (simp at *; omega)))) | (with_reducible refine Below.drew ?_) | (with_reducible refine below_drewN ?_ _) | ((with_reducible refine Below.trans ?_ (Below.mono (by with_reducible assumption) ?hsz)); (case hsz => (first | omega | (simp; done) | (simp; omega) | (simp at *; omega)))))), by simp, by simp, by simp⟩
  case round =>
    obtain ⟨k, hk, rfl, hall, hb, d0, d1, hz⟩ := hrel
    have Hall := Lib.hid hall
    clear hall
    by_cases hlt : k < ps.length
    · obtain ⟨g, rfl, hg1, hg2, c0, c1, c2, c3, c4⟩ := hcell wr hb k hlt
      by_cases hz0 : ps[k].le = 0
      · have hz' : (ps[k].le != 0) = false := by simp [hz0]
        have Hn := Lib.hid (all_take (f := fun p : Pp => decide (p.le = 0)) hlt Hall.out (by simp [hz0]))
        clear hz0
        go_wp2
        go_roundw
        case rel => exact ⟨k + 1, by omega, by go_num, Hn.out, by (repeat (first | (with_reducible assumption) | (with_reducible exact Below.refl _ _) | ((with_reducible refine Below.alloc ?_ ?hsz _); (case hsz => (first | omega | (simp; done) | (simp; omega) | (simp at *; omega)))) | ((with_reducible refine Below.setCell ?_ ?hsz _); (case hsz => (first | omega | (simp; done) | (simp; omega) | (simp at *; omega)))) | (with_reducible refine Below.drew ?_) | (with_reducible refine below_drewN ?_ _) | ((with_reducible refine Below.trans ?_ (Below.mono (by with_reducible assumption) ?hsz)); (case hsz => (first | omega | (simp; done) | (simp; omega) | (simp at *; omega)))))), d0, d1, hz⟩
        case measure => simp [intOf]; omega
      · have hz' : (ps[k].le != 0) = true := by simpa using hz0
        have Hn := Lib.hid (show freeB n ps = false by
          rw [freeB, all_no hlt (by simp [hz0])]; simp)
        clear hz0
        go_wp2
        go_ret
        exact ⟨ret_bool Hn.out.symm, by (repeat (first | (with_reducible assumption) | (with_reducible exact Below.refl _ _) | ((with_reducible refine Below.alloc ?_ ?hsz _); (case hsz => (first | omega | (simp; done) | (simp; omega) | (simp at *; omega)))) | ((with_reducible refine Below.setCell ?_ ?hsz _); (case hsz => (first | omega | (simp; done) | (simp; omega) | (simp at *; omega)))) | (with_reducible refine Below.drew ?_) | (with_reducible refine below_drewN ?_ _) | ((with_reducible refine Below.trans ?_ (Below.mono (by with_reducible assumption) ?hsz)); (case hsz => (first | omega | (simp; done) | (simp; omega) | (simp at *; omega))))))⟩
    · have Hn := Lib.hid (show freeB n ps = netOkB n ps by
        rw [freeB, all_whole hlt Hall.out]; simp)
      go_wp2_with fail
      refine (specNetOk_any n _ ps b _ (hp0.keep hb)).mono ?_
      rintro e w2 ⟨rfl, hb2⟩
      go_wp2
      go_ret
      exact ⟨ret_bool Hn.out.symm, hb.trans (hb2.mono hb.size)⟩

end Go.Proofs.Ytabkhpeoeihmmaa
