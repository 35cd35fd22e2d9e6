/- Plain facts. -/
import Derived.Test.YtphbmlephldaaaaMG
import Derived.Test.YtphbmlephldaaaaW3
import Derived.Test.YtphbmlephldaaaaGN38
/- Plain facts, chapter 6: costs. -/
namespace Go.Proofs.Ytphbmlephldaaaa
open Go.RowKit

/-- what an amount in a pipe costs -/
def costT (p : Pp) (x : Int) : Int := x * p.co

def costS (ps : List Pp) (xs : List Int) : Int := ((ps.zip xs).map fun q => costT q.1 q.2).sum

theorem costT_bd {p : Pp} {x : Int} (h0 : 0 ≤ x) (h1 : x ≤ 40) (h2 : -9 ≤ p.co) (h3 : p.co ≤ 9) : -360 ≤ costT p x ∧ costT p x ≤ 360 := by
  unfold costT
  have a1 : x * p.co ≤ x * 9 := Int.mul_le_mul_of_nonneg_left h3 h0
  have a2 : x * (-9) ≤ x * p.co := Int.mul_le_mul_of_nonneg_left h2 h0
  omega

theorem costS_snoc (ps : List Pp) (xs : List Int) (k : Nat) (hp : k < ps.length) (hx : k < xs.length) :
    costS (ps.take (k + 1)) (xs.take (k + 1)) = costS (ps.take k) (xs.take k) + costT ps[k] xs[k] := by
  unfold costS
  rw [List.take_succ_eq_append_getElem hp, List.take_succ_eq_append_getElem hx, List.zip_append (by simp; omega)]
  simp

theorem costS_cons (p : Pp) (ps : List Pp) (x : Int) (xs : List Int) : costS (p :: ps) (x :: xs) = costT p x + costS ps xs := by simp [costS]

theorem costS_bd (ps : List Pp) (xs : List Int) (h : ∀ x ∈ xs, 0 ≤ x ∧ x ≤ 40) (hc : ∀ p ∈ ps, -9 ≤ p.co ∧ p.co ≤ 9) : -(360 * (ps.length : Int)) ≤ costS ps xs ∧ costS ps xs ≤ 360 * (ps.length : Int) := by
  induction ps generalizing xs with
  | nil => simp [costS]
  | cons p ps ih =>
    cases xs with
    | nil => simp [costS]; omega
    | cons x xs =>
      have h1 := ih xs (fun y hy => h y (by simp [hy])) (fun q hq => hc q (by simp [hq]))
      have h2 := costT_bd (p := p) (h x (by simp)).1 (h x (by simp)).2 (hc p (by simp)).1 (hc p (by simp)).2
      rw [costS_cons]
      simp only [List.length_cons]
      omega

theorem net_costs {n : Int} {ps : List Pp} (h : netOkB n ps = true) : ∀ p ∈ ps, -9 ≤ p.co ∧ p.co ≤ 9 := by
  intro p hp
  have := pipeOk_parts ((netOk_parts h).2.2.2 p hp)
  omega

theorem costS_bd7 {n : Int} {ps : List Pp} {xs : List Int} (h : flowOkB n ps xs = true) (k : Nat) : -2520 ≤ costS (ps.take k) (xs.take k) ∧ costS (ps.take k) (xs.take k) ≤ 2520 := by
  obtain ⟨h1, h2, h3⟩ := flowOk_parts h
  have h7 := (netOk_parts h1).2.2.1
  have hb := costS_bd (ps.take k) (xs.take k) (fun x hx => h3 x (List.mem_of_mem_take hx)) (fun p hp => net_costs h1 p (List.mem_of_mem_take hp))
  have hl : (ps.take k).length ≤ 7 := by rw [List.length_take]; omega
  omega

/-- what CostOf answers -/
def costR (n : Int) (ps : List Pp) (xs : List Int) : Int × Bool := if flowOkB n ps xs = true then (costS ps xs, true) else (0, false)

theorem costR_yes {n : Int} {ps : List Pp} {xs : List Int} (h : flowOkB n ps xs = true) : costR n ps xs = (costS ps xs, true) := by simp [costR, h]
theorem costR_no {n : Int} {ps : List Pp} {xs : List Int} (h : flowOkB n ps xs = false) : costR n ps xs = (0, false) := by simp [costR, h]

theorem costS_turn (ps : List Pp) (xs : List Int) : costS (ps.map turnP) xs = costS ps xs := by
  induction ps generalizing xs with
  | nil => rfl
  | cons p ps ih => cases xs with
    | nil => simp [costS]
    | cons x xs => rw [List.map_cons, costS_cons, costS_cons, ih]; rfl

theorem costS_zero (ps : List Pp) (n : Nat) : costS ps (List.replicate n 0) = 0 := by
  induction ps generalizing n with
  | nil => simp [costS]
  | cons p ps ih => cases n with
    | zero => simp [costS]
    | succ n => rw [List.replicate_succ, costS_cons, ih]; simp [costT]

theorem costS_add (ps : List Pp) (xs ys : List Int) (h : xs.length = ys.length) : costS ps (addAll xs ys) = costS ps xs + costS ps ys := by
  induction ps generalizing xs ys with
  | nil => simp [costS]
  | cons p ps ih =>
    cases xs with
    | nil => cases ys with
      | nil => simp [costS, addAll]
      | cons y ys => simp at h
    | cons x xs => cases ys with
      | nil => simp at h
      | cons y ys =>
        have e : addAll (x :: xs) (y :: ys) = (x + y) :: addAll xs ys := by simp [addAll]
        rw [e, costS_cons, costS_cons, costS_cons, ih xs ys (by simpa using h)]
        unfold costT
        rw [Int.add_mul]
        omega

end Go.Proofs.Ytphbmlephldaaaa

/- Contracts of the functions of chapter 6 in the program: CostOf. -/
namespace Go.Proofs.Ytphbmlephldaaaa
open Go.RowKit

/-- what the operations of a cost yield -/
def coV (u : Value) (g h k : Nat) (x c : Int) : Nat → Value → Prop
  | 0, y => y = u
  | 1, y => y = .int .i64 k
  | 2, y => y = .pointer (some ⟨g, k, none⟩)
  | 3, y => y = .int .i64 x
  | 4, y => y = .pointer (some ⟨h, 4, none⟩)
  | 5, y => y = .int .i64 c
  | 6, y => y = .int .i64 (x * c)
  | 7, y => y = .int .i64 (x * c)
  | _, _ => True

set_option maxHeartbeats 1000000 in
set_option maxRecDepth 20000 in
theorem costFn_any (k bf : Nat) (p : Pp) (u : Value) (xs : List Int) (b' : Nat) (w : World) (hx : Ints w b' u xs) (hk : k < xs.length) (hall : ∀ x ∈ xs, 0 ≤ x ∧ x ≤ 40)
    (hc : -9 ≤ p.co ∧ p.co ≤ 9) (hbf : bf < w.heap.size) (d1 : w.cell? ⟨bf, 0, none⟩ = some u) :
    Calls Try.prog 69 #[.int .i64 k, .agg #[.int .i64 p.fr, .int .i64 p.to, .int .i64 p.le, .int .i64 p.mo, .int .i64 p.co], .pointer (some ⟨bf, 0, none⟩)] w fun e w' => e = .returned (.int .i64 (costT p xs[k])) ∧ Below w.heap.size w w' := by
  obtain ⟨A', c', rfl, hc1', hc2', hs', hcell'⟩ := hx.form
  unfold maxLen at hc2'
  obtain ⟨g, rfl, hg1, hg2, c0, _⟩ := hcell' w (Below.refl _ _) k hk
  have hv := hall _ (List.getElem_mem hk)
  have hb := costT_bd hv.1 hv.2 hc.1 hc.2
  unfold costT at hb ⊢
  generalize xs[k] = x at *
  generalize hW1 : w.alloc (.cells #[.int .i64 p.fr, .int .i64 p.to, .int .i64 p.le, .int .i64 p.mo, .int .i64 p.co] 33) = W1
  have hB1 : Below w.heap.size w W1 := by rw [← hW1]; exact (Below.refl _ _).alloc (Nat.le_refl _) _
  have hz1 : W1.heap.size = w.heap.size + 1 := by rw [← hW1]; simp
  have q1 : W1.cell? ⟨bf, 0, none⟩ = some (.slice (some ⟨g, 0, none⟩) xs.length c') := (hB1.cell (p := ⟨bf, 0, none⟩) hbf).trans d1
  have q2 : W1.cell? ⟨g, k, none⟩ = some (.int .i64 x) := (hB1.cell (p := ⟨g, k, none⟩) hg2).trans c0
  have q3 : W1.cell? ⟨w.heap.size, 4, none⟩ = some (.int .i64 p.co) := by rw [← hW1]; simp
  go_enter Try.func69, Try.ntmps69
  go_wp2_with fail
  generalize hW2 : World.alloc w _ = W2
  obtain rfl : W1 = W2 := hW1.symm.trans hW2
  refine wp_region_flow 8 none [(0, 6), (1, 7), (2, 8), (3, 9), (4, 10), (5, 11), (6, 12), (7, 5)] (fun j y _ _ => coV (.slice (some ⟨g, 0, none⟩) xs.length c') g w.heap.size k x p.co j y) (fun _ _ _ => True) (fun _ wx => Below W1.heap.size W1 wx) (by kernel_rfl) (by kernel_rfl) rfl ⟨rfl, rfl, rfl, Nat.le_refl _, fun _ _ => rfl⟩ ?_ ?_ ?_ ?_
  · exact fun _ _ _ _ _ _ _ _ _ _ h => h
  · exact fun _ _ _ _ _ _ _ h => h
  · simp only [eachOp, fillF, List.setIfInBounds_toArray, List.set_cons_succ, List.set_cons_zero]
    refine ⟨?_, ?_, ?_, ?_, ?_, ?_, ?_, ?_, trivial⟩ <;> intro u f wx hC hd <;> (try simp [allV, useOf, Region.binds] at hd)
    · have e1 := (bel_cell hC (by omega)).trans q1
      go_wp2
      exact ⟨_, rfl, rfl, trivial, hC⟩
    · go_wp2
      exact ⟨_, rfl, rfl, trivial, hC⟩
    · rw [show u 0 = _ from hd.1, show u 1 = _ from hd.2]
      go_wp2
      exact ⟨_, rfl, rfl, trivial, hC⟩
    · rw [show u 2 = _ from hd]
      have e1 := (bel_cell hC (by omega)).trans q2
      go_wp2
      exact ⟨_, rfl, rfl, trivial, hC⟩
    · go_wp2
      exact ⟨_, rfl, rfl, trivial, hC⟩
    · rw [show u 4 = _ from hd]
      have e1 := (bel_cell hC (by omega)).trans q3
      go_wp2
      exact ⟨_, rfl, rfl, trivial, hC⟩
    · rw [show u 3 = _ from hd.1, show u 5 = _ from hd.2]
      have h1 := IntWalk.i64_in (x * p.co) (by omega)
      have h2 := IntWalk.wrap64_in (x * p.co) (by omega)
      go_wp2
      exact ⟨_, rfl, rfl, trivial, hC⟩
    · rw [show u 6 = _ from hd]
      go_wp2
      exact ⟨_, rfl, rfl, trivial, hC⟩
  · intro u f wx hC hfin
    simp only [fillEnd, fillF, Act.put, List.setIfInBounds_toArray, List.set_cons_succ, List.set_cons_zero]
    rw [show u 7 = _ from hfin 7 (by decide) (by decide)]
    go_wp2
    go_ret
    exact ⟨rfl, hB1.trans (hC.mono (by omega))⟩

set_option maxHeartbeats 400000 in
set_option maxRecDepth 20000 in
theorem sumCost_any (n : Int) (bf : Nat) (v u : Value) (ps : List Pp) (xs : List Int) (b b' : Nat) (w : World) (hp : Pipes w b v ps) (hx : Ints w b' u xs) (hok : flowOkB n ps xs = true)
    (hbf : bf < w.heap.size) (d1 : w.cell? ⟨bf, 0, none⟩ = some u) :
    Calls Try.prog 68 #[v, .func (Fn.func 69) #[] #[.pointer (some ⟨bf, 0, none⟩)]] w fun e w' => e = .returned (.int .i64 (costS ps xs)) ∧ Below w.heap.size w w' := by
  obtain ⟨hnok, hlen, hall⟩ := flowOk_parts hok
  obtain ⟨_, _, h7, _⟩ := netOk_parts hnok
  have Hco := Lib.hid (net_costs hnok)
  have Hok := Lib.hid hok
  obtain ⟨A, c, rfl, hc1, hc2, hs, hcell⟩ := hp.form
  unfold maxLen at hc2
  have Hlen := Lib.hid hlen
  clear hlen hok
  go_enter Try.func68, Try.ntmps68
  go_wp2
  go_loopw [10, 5] (fun i s wr => ∃ k : Nat, k ≤ ps.length ∧ i = .int .i64 k ∧ s = .int .i64 (costS (ps.take k) (xs.take k)) ∧ Below w.heap.size w wr) (fun i _ _ => ps.length - (intOf i).toNat)
  case atStart => exact ⟨0, by omega, rfl, rfl, Below.refl _ _⟩
  case round =>
    obtain ⟨k, hk, rfl, rfl, hb⟩ := hrel
    obtain ⟨hcr, hfr, hzr⟩ := bcell hb
    by_cases hlt : k < ps.length
    · obtain ⟨g, rfl, hg1, hg2, c0, c1, c2, c3, c4⟩ := hcell w (Below.refl _ _) k hlt
      have hlx : k < xs.length := by have := Hlen.out; omega
      obtain ⟨g1, g2⟩ := costS_bd7 Hok.out k
      have hv := hall _ (List.getElem_mem hlx)
      have ht := costT_bd (p := ps[k]) hv.1 hv.2 (Hco.out _ (List.getElem_mem hlt)).1 (Hco.out _ (List.getElem_mem hlt)).2
      have ht1 := ht.1
      have ht2 := ht.2
      clear ht hv
      have Hs := Lib.hid (costS_snoc ps xs k hlt hlx)
      go_wp2_with (first
        | (go_at_call 69; ((with_reducible refine (costFn_any k bf ps[k] u xs b' _ (hx.keep (by (repeat (first | (with_reducible assumption) | (with_reducible exact Below.refl _ _) | ((with_reducible refine Below.alloc ?_ ?hsz _); (case hsz => (first | omega | (simp; done) | (simp; omega) | (simp at *; omega)))) | ((with_reducible refine Below.setCell ?_ ?hsz _); (case hsz => (first | omega | (simp; done) | (simp; omega) | (simp at *; omega)))) | (with_reducible refine Below.drew ?_) | (with_reducible refine below_drewN ?_ _) | ((with_reducible refine Below.trans ?_ (Below.mono (by with_reducible assumption) ?hsz)); (case hsz => (first | omega | (simp; done) | (simp; omega) | (simp at *; omega)))))))) hlx hall (Hco.out _ (List.getElem_mem hlt)) (by (first | omega | (simp; done) | (simp; omega) | (simp at *; omega))) (by (repeat (first | (with_reducible assumption) | ((with_reducible refine (Below.cell (by with_reducible assumption) ?hsz).trans ?_); (case hsz => (first | omega | (simp; done) | (simp; omega) | (simp at *; omega)))) | ((with_reducible refine (World.cell?_alloc_lt _ _ _ ?hsz).trans ?_); (case hsz => (first | omega | (simp; done) | (simp; omega) | (simp at *; omega)))) | ((with_reducible refine (World.cell?_setCell_other _ _ _ _ ?hsz).trans ?_); (case hsz => (intro h; injection h with h1 h2; omega))))))).mono ?_); rintro e w1 ⟨rfl, hb1⟩; obtain ⟨hc1, hf1, hz1⟩ := bcell hb1; (try simp at hz1); (try have hy1 : w.heap.size < w1.heap.size := by omega); (try have hy2 : w.heap.size + 1 < w1.heap.size := by omega); (try have hy3 : w.heap.size + 1 + 1 < w1.heap.size := by omega))))
      go_roundw
      case rel => exact ⟨k + 1, by omega, by go_num, by rw [Hs.out], by (repeat (first | (with_reducible assumption) | (with_reducible exact Below.refl _ _) | ((with_reducible refine Below.alloc ?_ ?hsz _); (case hsz => (first | omega | (simp; done) | (simp; omega) | (simp at *; omega)))) | ((with_reducible refine Below.setCell ?_ ?hsz _); (case hsz => (first | omega | (simp; done) | (simp; omega) | (simp at *; omega)))) | (with_reducible refine Below.drew ?_) | (with_reducible refine below_drewN ?_ _) | ((with_reducible refine Below.trans ?_ (Below.mono (by with_reducible assumption) ?hsz)); (case hsz => (first | omega | (simp; done) | (simp; omega) | (simp at *; omega))))))⟩
      case measure => simp [intOf]; omega
    · go_wp2
      go_ret
      have : k = ps.length := by omega
      subst this
      exact ⟨ret_int (by rw [List.take_of_length_le (Nat.le_refl _), List.take_of_length_le (by have := Hlen.out; omega)]), by (repeat (first | (with_reducible assumption) | (with_reducible exact Below.refl _ _) | ((with_reducible refine Below.alloc ?_ ?hsz _); (case hsz => (first | omega | (simp; done) | (simp; omega) | (simp at *; omega)))) | ((with_reducible refine Below.setCell ?_ ?hsz _); (case hsz => (first | omega | (simp; done) | (simp; omega) | (simp at *; omega)))) | (with_reducible refine Below.drew ?_) | (with_reducible refine below_drewN ?_ _) | ((with_reducible refine Below.trans ?_ (Below.mono (by with_reducible assumption) ?hsz)); (case hsz => (first | omega | (simp; done) | (simp; omega) | (simp at *; omega))))))⟩

set_option maxHeartbeats 400000 in
set_option maxRecDepth 20000 in
theorem costOf_any (n : Int) (v u : Value) (ps : List Pp) (xs : List Int) (b b' : Nat) (w : World) (hp : Pipes w b v ps) (hx : Ints w b' u xs) :
    Calls Try.prog 26 #[.agg #[.int .i64 n, v], u] w fun e w' => e = .returned (.tuple #[.int .i64 (costR n ps xs).1, .bool (costR n ps xs).2]) ∧ Below w.heap.size w w' := by
  have hx0 := hx
  obtain ⟨A', c', rfl, hc1', hc2', hs', -⟩ := hx.form
  go_enter Try.func26, Try.ntmps26
  go_wp2_with (first
    | (go_at_call 67; ((with_reducible refine (flowOk_any n v _ ps xs b b' _ (hp.keep (by (repeat (first | (with_reducible assumption) | (with_reducible exact Below.refl _ _) | ((with_reducible refine Below.alloc ?_ ?hsz _); (case hsz => (first | omega | (simp; done) | (simp; omega) | (simp at *; omega)))) | ((with_reducible refine Below.setCell ?_ ?hsz _); (case hsz => (first | omega | (simp; done) | (simp; omega) | (simp at *; omega)))) | (with_reducible refine Below.drew ?_) | (with_reducible refine below_drewN ?_ _) | ((with_reducible refine Below.trans ?_ (Below.mono (by with_reducible assumption) ?hsz)); (case hsz => (first | omega | (simp; done) | (simp; omega) | (simp at *; omega)))))))) (hx0.keep (by (repeat (first | (with_reducible assumption) | (with_reducible exact Below.refl _ _) | ((with_reducible refine Below.alloc ?_ ?hsz _); (case hsz => (first | omega | (simp; done) | (simp; omega) | (simp at *; omega)))) | ((with_reducible refine Below.setCell ?_ ?hsz _); (case hsz => (first | omega | (simp; done) | (simp; omega) | (simp at *; omega)))) | (with_reducible refine Below.drew ?_) | (with_reducible refine below_drewN ?_ _) | ((with_reducible refine Below.trans ?_ (Below.mono (by with_reducible assumption) ?hsz)); (case hsz => (first | omega | (simp; done) | (simp; omega) | (simp at *; omega))))))))).mono ?_); rintro e w1 ⟨rfl, hb1⟩; obtain ⟨hc1, hf1, hz1⟩ := bcell hb1; (try simp at hz1); (try have hy1 : w.heap.size < w1.heap.size := by omega); (try have hy2 : w.heap.size + 1 < w1.heap.size := by omega); (try have hy3 : w.heap.size + 1 + 1 < w1.heap.size := by omega)))
    | (go_at_call 68; ((with_reducible refine (sumCost_any n _ _ _ ps xs b b' _ (hp.keep (by (repeat (first | (with_reducible assumption) | (with_reducible exact Below.refl _ _) | ((with_reducible refine Below.alloc ?_ ?hsz _); (case hsz => (first | omega | (simp; done) | (simp; omega) | (simp at *; omega)))) | ((with_reducible refine Below.setCell ?_ ?hsz _); (case hsz => (first | omega | (simp; done) | (simp; omega) | (simp at *; omega)))) | (with_reducible refine Below.drew ?_) | (with_reducible refine below_drewN ?_ _) | ((with_reducible refine Below.trans ?_ (Below.mono (by with_reducible assumption) ?hsz)); (case hsz => (first | omega | (simp; done) | (simp; omega) | (simp at *; omega)))))))) (hx0.keep (by (repeat (first | (with_reducible assumption) | (with_reducible exact Below.refl _ _) | ((with_reducible refine Below.alloc ?_ ?hsz _); (case hsz => (first | omega | (simp; done) | (simp; omega) | (simp at *; omega)))) | ((with_reducible refine Below.setCell ?_ ?hsz _); (case hsz => (first | omega | (simp; done) | (simp; omega) | (simp at *; omega)))) | (with_reducible refine Below.drew ?_) | (with_reducible refine below_drewN ?_ _) | ((with_reducible refine Below.trans ?_ (Below.mono (by with_reducible assumption) ?hsz)); (case hsz => (first | omega | (simp; done) | (simp; omega) | (simp at *; omega)))))))) (of_not (by assumption)) (by (first | omega | (simp; done) | (simp; omega) | (simp at *; omega))) (by simp [*])).mono ?_); rintro e w1 ⟨rfl, hb1⟩; obtain ⟨hc1, hf1, hz1⟩ := bcell hb1; (try simp at hz1); (try have hy1 : w.heap.size < w1.heap.size := by omega); (try have hy2 : w.heap.size + 1 < w1.heap.size := by omega); (try have hy3 : w.heap.size + 1 + 1 < w1.heap.size := by omega))))
  · have hno : flowOkB n ps xs = false := of_not_t (by assumption)
    go_ret2
    exact ⟨ret_ib (by simp [costR, hno]), by (repeat (first | (with_reducible assumption) | (with_reducible exact Below.refl _ _) | ((with_reducible refine Below.alloc ?_ ?hsz _); (case hsz => (first | omega | (simp; done) | (simp; omega) | (simp at *; omega)))) | ((with_reducible refine Below.setCell ?_ ?hsz _); (case hsz => (first | omega | (simp; done) | (simp; omega) | (simp at *; omega)))) | (with_reducible refine Below.drew ?_) | (with_reducible refine below_drewN ?_ _) | ((with_reducible refine Below.trans ?_ (Below.mono (by with_reducible assumption) ?hsz)); (case hsz => (first | omega | (simp; done) | (simp; omega) | (simp at *; omega))))))⟩
  · have hok : flowOkB n ps xs = true := of_not (by assumption)
    go_ret2
    exact ⟨ret_ib (by simp [costR, hok]), by (repeat (first | (with_reducible assumption) | (with_reducible exact Below.refl _ _) | ((with_reducible refine Below.alloc ?_ ?hsz _); (case hsz => (first | omega | (simp; done) | (simp; omega) | (simp at *; omega)))) | ((with_reducible refine Below.setCell ?_ ?hsz _); (case hsz => (first | omega | (simp; done) | (simp; omega) | (simp at *; omega)))) | (with_reducible refine Below.drew ?_) | (with_reducible refine below_drewN ?_ _) | ((with_reducible refine Below.trans ?_ (Below.mono (by with_reducible assumption) ?hsz)); (case hsz => (first | omega | (simp; done) | (simp; omega) | (simp at *; omega))))))⟩

end Go.Proofs.Ytphbmlephldaaaa
