/- Contracts of the functions of chapter 6 in the model: CostOf. -/
import Derived.Test.YtphbmlephldaaaaGN7
import Derived.Test.YtphbmlephldaaaaGN23
import Derived.Test.YtphbmlephldaaaaGN38
import Derived.Deep.DeepCutAuto
namespace Go.Proofs.Ytphbmlephldaaaa
open Go.RowKit

/-- what the operations of a sum of costs yield -/
def scV (u : Value) (A : Option Addr) (N c B g g' k : Nat) (x co s : Int) : Nat → Value → Prop
  | 0, y => y = .int .i64 s
  | 1, y => y = u
  | 2, y => y = .int .i64 k
  | 3, y => y = .pointer (some ⟨g', k, none⟩)
  | 4, y => y = .int .i64 x
  | 5, y => y = .pointer (some ⟨B, 1, none⟩)
  | 6, y => y = .slice A N c
  | 7, y => y = .int .i64 k
  | 8, y => y = .pointer (some ⟨g, k * 5, none⟩)
  | 9, y => y = .pointer (some ⟨g, k * 5 + 4, none⟩)
  | 10, y => y = .int .i64 co
  | 11, y => y = .int .i64 (x * co)
  | 12, y => y = .int .i64 (s + x * co)
  | 13, y => y = .int .i64 (s + x * co)
  | _, _ => True

set_option maxHeartbeats 1000000 in
set_option maxRecDepth 20000 in
theorem specCostOf_any (n : Int) (v u : Value) (ps : List Pp) (xs : List Int) (b b' : Nat) (w : World) (hp : Pipes w b v ps) (hx : Ints w b' u xs) :
    Calls Try.prog 27 #[.agg #[.int .i64 n, v], u] w fun e w' => e = .returned (.tuple #[.int .i64 (costR n ps xs).1, .bool (costR n ps xs).2]) ∧ Below w.heap.size w w' := by
  by_cases hok : flowOkB n ps xs = true
  · have hp0 := hp
    have hx0 := hx
    obtain ⟨hnok, hlen, hall⟩ := flowOk_parts hok
    have Hco := Lib.hid (net_costs hnok)
    obtain ⟨_, _, h7, _⟩ := netOk_parts hnok
    obtain ⟨A, c, rfl, hc1, hc2, hs, hcell⟩ := hp.form
    obtain ⟨A', c', rfl, hc1', hc2', hs', hcell'⟩ := hx.form
    unfold maxLen at hc2 hc2'
    have Hlen := Lib.hid hlen
    have hl1 : xs.length ≤ ps.length := by omega
    clear hlen
    have Hok := Lib.hid hok
    rw [costR_yes hok]
    go_enter Try.func27, Try.ntmps27
    go_wp2_with (first
      | (go_at_call 70; ((with_reducible refine (specFlowOk_any n _ _ ps xs b b' _ (hp0.keep (by (repeat (first | (with_reducible assumption) | (with_reducible exact Below.refl _ _) | ((with_reducible refine Below.alloc ?_ ?hsz _); (case hsz => (first | omega | (simp; done) | (simp; omega) | (simp at *; omega)))) | ((with_reducible refine Below.setCell ?_ ?hsz _); (case hsz => (first | omega | (simp; done) | (simp; omega) | (simp at *; omega)))) | (with_reducible refine Below.drew ?_) | (with_reducible refine below_drewN ?_ _) | ((with_reducible refine Below.trans ?_ (Below.mono (by with_reducible assumption) ?hsz)); (case hsz => (first | omega | (simp; done) | (simp; omega) | (simp at *; omega)))))))) (hx0.keep (by (repeat (first | (with_reducible assumption) | (with_reducible exact Below.refl _ _) | ((with_reducible refine Below.alloc ?_ ?hsz _); (case hsz => (first | omega | (simp; done) | (simp; omega) | (simp at *; omega)))) | ((with_reducible refine Below.setCell ?_ ?hsz _); (case hsz => (first | omega | (simp; done) | (simp; omega) | (simp at *; omega)))) | (with_reducible refine Below.drew ?_) | (with_reducible refine below_drewN ?_ _) | ((with_reducible refine Below.trans ?_ (Below.mono (by with_reducible assumption) ?hsz)); (case hsz => (first | omega | (simp; done) | (simp; omega) | (simp at *; omega))))))))).mono ?_); rintro e w1 ⟨rfl, hb1⟩; obtain ⟨hc1, hf1, hz1⟩ := bcell hb1; (try simp at hz1); (try have hy1 : w.heap.size < w1.heap.size := by omega); (try have hy2 : w.heap.size + 1 < w1.heap.size := by omega); (try have hy3 : w.heap.size + 1 + 1 < w1.heap.size := by omega))))
    go_loopw [7, 6] (fun i s wr => ∃ k : Nat, k ≤ xs.length ∧ i = .int .i64 k ∧ s = .int .i64 (costS (ps.take k) (xs.take k)) ∧ Below w.heap.size w wr ∧
      wr.cell? ⟨w.heap.size, 0, none⟩ = some (.int .i64 n) ∧ wr.cell? ⟨w.heap.size, 1, none⟩ = some (.slice A ps.length c) ∧ w.heap.size < wr.heap.size) (fun i _ _ => xs.length - (intOf i).toNat)
    case atStart => exact ⟨0, by omega, rfl, rfl, by (repeat (first | (with_reducible assumption) | (with_reducible exact Below.refl _ _) | ((with_reducible refine Below.alloc ?_ ?hsz _); (case hsz => (first | omega | (simp; done) | (simp; omega) | (simp at *; omega)))) | ((with_reducible refine Below.setCell ?_ ?hsz _); (case hsz => (first | omega | (simp; done) | (simp; omega) | (simp at *; omega)))) | (with_reducible refine Below.drew ?_) | (with_reducible refine below_drewN ?_ _) | ((with_reducible refine Below.trans ?_ (Below.mono (by with_reducible assumption) ?hsz)); (case hsz => (first | omega | (simp; done) | (simp; omega) | (simp at *; omega)))))), by simp [*], by simp [*], by (first | omega | (simp; done) | (simp; omega) | (simp at *; omega))⟩
    case round =>
      obtain ⟨k, hk, rfl, rfl, hb, d0, d1, hz⟩ := hrel
      obtain ⟨hcr, hfr, hzr⟩ := bcell hb
      by_cases hlx : k < xs.length
      · have hlt : k < ps.length := by omega
        obtain ⟨g, rfl, hg1, hg2, c0, c1, c2, c3, c4⟩ := hcell w (Below.refl _ _) k hlt
        obtain ⟨g', rfl, hg1', hg2', c0', _⟩ := hcell' w (Below.refl _ _) k hlx
        obtain ⟨g1, g2⟩ := costS_bd7 Hok.out k
        have hv := hall _ (List.getElem_mem hlx)
        have ht := costT_bd (p := ps[k]) hv.1 hv.2 (Hco.out _ (List.getElem_mem hlt)).1 (Hco.out _ (List.getElem_mem hlt)).2
        have Hs := Lib.hid (costS_snoc ps xs k hlt hlx)
        have HS : Hid (costS (ps.take (k + 1)) (xs.take (k + 1)) = costS (ps.take k) (xs.take k) + xs[k] * ps[k].co) := Hs
        clear Hs
        unfold costT at ht
        have q0 := (bel_cell hb (o := k) (by omega)).trans c0'
        have q4 := (bel_cell hb (o := k * 5 + 4) (by omega)).trans c4
        generalize costS (ps.take k) (xs.take k) = s at *
        generalize xs[k] = x at *
        generalize ps[k].co = co at *
        have ht1 := ht.1
        have ht2 := ht.2
        clear ht hv
        go_wp2_with fail
        refine wp_region_flow 13 (some 6) [(0, 18), (1, 19), (2, 20), (3, 21), (4, 22), (5, 23), (6, 24), (7, 25), (8, 26), (9, 27), (10, 28), (11, 29), (12, 30)] (fun j y _ _ => scV (.slice (some ⟨g', 0, none⟩) xs.length c') (some ⟨g, 0, none⟩) ps.length c w.heap.size g g' k x co s j y) (fun _ _ _ => True) (fun _ wx => Below wr.heap.size wr wx) (by kernel_rfl) (by kernel_rfl) rfl ⟨rfl, rfl, rfl, Nat.le_refl _, fun _ _ => rfl⟩ ?_ ?_ ?_ ?_
        · exact fun _ _ _ _ _ _ _ _ _ _ h => h
        · exact fun _ _ _ _ _ _ _ h => h
        · simp only [eachOp, fillF, List.setIfInBounds_toArray, List.set_cons_succ, List.set_cons_zero]
          refine ⟨?_, ?_, ?_, ?_, ?_, ?_, ?_, ?_, ?_, ?_, ?_, ?_, ?_, ?_, trivial⟩ <;> intro u f wx hC hd <;> (try simp [allV, useOf, Region.binds] at hd)
          · go_wp2
            exact ⟨_, rfl, rfl, trivial, hC⟩
          · go_wp2
            exact ⟨_, rfl, rfl, trivial, hC⟩
          · go_wp2
            exact ⟨_, rfl, rfl, trivial, hC⟩
          · rw [show u 1 = _ from hd.1, show u 2 = _ from hd.2]
            go_wp2
            exact ⟨_, rfl, rfl, trivial, hC⟩
          · rw [show u 3 = _ from hd]
            have e1 := (bel_cell hC (o := k) (by omega)).trans q0
            go_wp2
            exact ⟨_, rfl, rfl, trivial, hC⟩
          · go_wp2
            exact ⟨_, rfl, rfl, trivial, hC⟩
          · rw [show u 5 = _ from hd]
            have e1 := (bel_cell hC (o := 1) (by omega)).trans d1
            go_wp2
            exact ⟨_, rfl, rfl, trivial, hC⟩
          · go_wp2
            exact ⟨_, rfl, rfl, trivial, hC⟩
          · rw [show u 6 = _ from hd.1, show u 7 = _ from hd.2]
            go_wp2
            exact ⟨_, rfl, rfl, trivial, hC⟩
          · rw [show u 8 = _ from hd]
            go_wp2
            exact ⟨_, rfl, rfl, trivial, hC⟩
          · rw [show u 9 = _ from hd]
            have e1 := (bel_cell hC (o := k * 5 + 4) (by omega)).trans q4
            go_wp2
            exact ⟨_, rfl, rfl, trivial, hC⟩
          · rw [show u 4 = _ from hd.1, show u 10 = _ from hd.2]
            have h1 := IntWalk.i64_in (x * co) (by omega)
            have h2 := IntWalk.wrap64_in (x * co) (by omega)
            go_wp2
            exact ⟨_, rfl, rfl, trivial, hC⟩
          · rw [show u 0 = _ from hd.1, show u 11 = _ from hd.2]
            have h1 := IntWalk.i64_in (s + x * co) (by omega)
            have h2 := IntWalk.wrap64_in (s + x * co) (by omega)
            go_wp2
            exact ⟨_, rfl, rfl, trivial, hC⟩
          · rw [show u 12 = _ from hd]
            go_wp2
            exact ⟨_, rfl, rfl, trivial, hC⟩
        · intro u f wx hC hfin
          simp only [fillEnd, fillF, Act.put, List.setIfInBounds_toArray, List.set_cons_succ, List.set_cons_zero]
          rw [show u 13 = _ from hfin 13 (by decide) (by decide)]
          have e0 := (bel_cell hC (o := 0) (by omega)).trans d0
          have e1 := (bel_cell hC (o := 1) (by omega)).trans d1
          have hB2 := hb.trans (hC.mono (by omega))
          have hz2 := hC.size
          go_wp2
          go_roundw
          case rel => exact ⟨k + 1, by omega, by go_num, by rw [HS.out], hB2, e0, e1, by omega⟩
          case measure => simp [intOf]; omega
      · go_wp2
        go_ret2
        exact ⟨ret_ib (by rw [List.take_of_length_le (by have := Hlen.out; omega), List.take_of_length_le (by omega)]), by (repeat (first | (with_reducible assumption) | (with_reducible exact Below.refl _ _) | ((with_reducible refine Below.alloc ?_ ?hsz _); (case hsz => (first | omega | (simp; done) | (simp; omega) | (simp at *; omega)))) | ((with_reducible refine Below.setCell ?_ ?hsz _); (case hsz => (first | omega | (simp; done) | (simp; omega) | (simp at *; omega)))) | (with_reducible refine Below.drew ?_) | (with_reducible refine below_drewN ?_ _) | ((with_reducible refine Below.trans ?_ (Below.mono (by with_reducible assumption) ?hsz)); (case hsz => (first | omega | (simp; done) | (simp; omega) | (simp at *; omega))))))⟩
  · have hok' : flowOkB n ps xs = false := by simpa using hok
    go_enter Try.func27, Try.ntmps27
    go_wp2_with (first
      | (go_at_call 70; ((with_reducible refine (specFlowOk_any n v u ps xs b b' _ (hp.keep (by (repeat (first | (with_reducible assumption) | (with_reducible exact Below.refl _ _) | ((with_reducible refine Below.alloc ?_ ?hsz _); (case hsz => (first | omega | (simp; done) | (simp; omega) | (simp at *; omega)))) | ((with_reducible refine Below.setCell ?_ ?hsz _); (case hsz => (first | omega | (simp; done) | (simp; omega) | (simp at *; omega)))) | (with_reducible refine Below.drew ?_) | (with_reducible refine below_drewN ?_ _) | ((with_reducible refine Below.trans ?_ (Below.mono (by with_reducible assumption) ?hsz)); (case hsz => (first | omega | (simp; done) | (simp; omega) | (simp at *; omega)))))))) (hx.keep (by (repeat (first | (with_reducible assumption) | (with_reducible exact Below.refl _ _) | ((with_reducible refine Below.alloc ?_ ?hsz _); (case hsz => (first | omega | (simp; done) | (simp; omega) | (simp at *; omega)))) | ((with_reducible refine Below.setCell ?_ ?hsz _); (case hsz => (first | omega | (simp; done) | (simp; omega) | (simp at *; omega)))) | (with_reducible refine Below.drew ?_) | (with_reducible refine below_drewN ?_ _) | ((with_reducible refine Below.trans ?_ (Below.mono (by with_reducible assumption) ?hsz)); (case hsz => (first | omega | (simp; done) | (simp; omega) | (simp at *; omega))))))))).mono ?_); rintro e w1 ⟨rfl, hb1⟩; obtain ⟨hc1, hf1, hz1⟩ := bcell hb1; (try simp at hz1); (try have hy1 : w.heap.size < w1.heap.size := by omega); (try have hy2 : w.heap.size + 1 < w1.heap.size := by omega); (try have hy3 : w.heap.size + 1 + 1 < w1.heap.size := by omega))))
    all_goals (go_ret2; exact ⟨ret_ib (by simp [costR, hok']), by (repeat (first | (with_reducible assumption) | (with_reducible exact Below.refl _ _) | ((with_reducible refine Below.alloc ?_ ?hsz _); (case hsz => (first | omega | (simp; done) | (simp; omega) | (simp at *; omega)))) | ((with_reducible refine Below.setCell ?_ ?hsz _); (case hsz => (first | omega | (simp; done) | (simp; omega) | (simp at *; omega)))) | (with_reducible refine Below.drew ?_) | (with_reducible refine below_drewN ?_ _) | ((with_reducible refine Below.trans ?_ (Below.mono (by with_reducible assumption) ?hsz)); (case hsz => (first | omega | (simp; done) | (simp; omega) | (simp at *; omega))))))⟩)

end Go.Proofs.Ytphbmlephldaaaa
