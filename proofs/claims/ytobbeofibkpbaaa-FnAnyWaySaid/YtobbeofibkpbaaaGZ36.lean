/- Plain facts. -/
import Derived.Test.YtobbeofibkpbaaaGZ52
import Derived.Test.YtobbeofibkpbaaaGZ31
import Derived.Test.YtobbeofibkpbaaaGZ13
import Derived.Test.YtobbeofibkpbaaaWC
import Derived.Test.YtobbeofibkpbaaaGZ43
/- Contracts of the functions of chapter 1 in the program: ExcessAt, BalancedOk, HoldsOk. -/
namespace Go.Proofs.Ytobbeofibkpbaaa
open Go.RowKit

set_option maxHeartbeats 400000 in
set_option maxRecDepth 20000 in
theorem excessAt_any (node n : Int) (v u : Value) (ps : List Pp) (xs : List Int) (b b' : Nat) (w : World) (hp : Pipes w b v ps) (hx : Ints w b' u xs) :
    Calls Try.prog 19 #[.agg #[.int .i64 n, v], u, .int .i64 node] w fun e w' => e = .returned (.tuple #[.int .i64 (excAt n ps xs node).1, .bool (excAt n ps xs node).2]) ∧ Below w.heap.size w w' := by
  go_enter Try.func19, Try.ntmps19
  go_wp2_with (first
    | (go_at_call 64; ((with_reducible refine (flowOk_any n v u ps xs b b' _ (hp.keep (by (repeat (first | (with_reducible assumption) | (with_reducible exact Below.refl _ _) | ((with_reducible refine Below.alloc ?_ ?hsz _); (case hsz => (first | omega | (simp; done) | (simp; omega) | (simp at *; omega)))) | ((with_reducible refine Below.setCell ?_ ?hsz _); (case hsz => (first | omega | (simp; done) | (simp; omega) | (simp at *; omega)))) | (with_reducible refine Below.drew ?_) | (with_reducible refine below_drewN ?_ _) | ((with_reducible refine Below.trans ?_ (Below.mono (by with_reducible assumption) ?hsz)); (case hsz => (first | omega | (simp; done) | (simp; omega) | (simp at *; omega)))))))) (hx.keep (by (repeat (first | (with_reducible assumption) | (with_reducible exact Below.refl _ _) | ((with_reducible refine Below.alloc ?_ ?hsz _); (case hsz => (first | omega | (simp; done) | (simp; omega) | (simp at *; omega)))) | ((with_reducible refine Below.setCell ?_ ?hsz _); (case hsz => (first | omega | (simp; done) | (simp; omega) | (simp at *; omega)))) | (with_reducible refine Below.drew ?_) | (with_reducible refine below_drewN ?_ _) | ((with_reducible refine Below.trans ?_ (Below.mono (by with_reducible assumption) ?hsz)); (case hsz => (first | omega | (simp; done) | (simp; omega) | (simp at *; omega))))))))).mono ?_); rintro e w1 ⟨rfl, hb1⟩; obtain ⟨hc1, hf1, hz1⟩ := bcell hb1; (try simp at hz1); (try have hy1 : w.heap.size < w1.heap.size := by omega); (try have hy2 : w.heap.size + 1 < w1.heap.size := by omega); (try have hy3 : w.heap.size + 1 + 1 < w1.heap.size := by omega)))
    | (go_at_call 66; ((with_reducible refine (excessOf_any node n v u ps xs b b' _ (hp.keep (by (repeat (first | (with_reducible assumption) | (with_reducible exact Below.refl _ _) | ((with_reducible refine Below.alloc ?_ ?hsz _); (case hsz => (first | omega | (simp; done) | (simp; omega) | (simp at *; omega)))) | ((with_reducible refine Below.setCell ?_ ?hsz _); (case hsz => (first | omega | (simp; done) | (simp; omega) | (simp at *; omega)))) | (with_reducible refine Below.drew ?_) | (with_reducible refine below_drewN ?_ _) | ((with_reducible refine Below.trans ?_ (Below.mono (by with_reducible assumption) ?hsz)); (case hsz => (first | omega | (simp; done) | (simp; omega) | (simp at *; omega)))))))) (hx.keep (by (repeat (first | (with_reducible assumption) | (with_reducible exact Below.refl _ _) | ((with_reducible refine Below.alloc ?_ ?hsz _); (case hsz => (first | omega | (simp; done) | (simp; omega) | (simp at *; omega)))) | ((with_reducible refine Below.setCell ?_ ?hsz _); (case hsz => (first | omega | (simp; done) | (simp; omega) | (simp at *; omega)))) | (with_reducible refine Below.drew ?_) | (with_reducible refine below_drewN ?_ _) | ((with_reducible refine Below.trans ?_ (Below.mono (by with_reducible assumption) ?hsz)); (case hsz => (first | omega | (simp; done) | (simp; omega) | (simp at *; omega)))))))) (by assumption)).mono ?_); rintro e w1 ⟨rfl, hb1⟩; obtain ⟨hc1, hf1, hz1⟩ := bcell hb1; (try simp at hz1); (try have hy1 : w.heap.size < w1.heap.size := by omega); (try have hy2 : w.heap.size + 1 < w1.heap.size := by omega); (try have hy3 : w.heap.size + 1 + 1 < w1.heap.size := by omega)))
    | (go_at_call 65; ((with_reducible refine (nodeOk_any n _ _ (flow_n (by assumption)).1 (flow_n (by assumption)).2).mono ?_); rintro e w1 ⟨rfl, rfl⟩)))
  all_goals (go_ret2; exact ⟨ret_ib (by simp_all [excAt]), by (repeat (first | (with_reducible assumption) | (with_reducible exact Below.refl _ _) | ((with_reducible refine Below.alloc ?_ ?hsz _); (case hsz => (first | omega | (simp; done) | (simp; omega) | (simp at *; omega)))) | ((with_reducible refine Below.setCell ?_ ?hsz _); (case hsz => (first | omega | (simp; done) | (simp; omega) | (simp at *; omega)))) | (with_reducible refine Below.drew ?_) | (with_reducible refine below_drewN ?_ _) | ((with_reducible refine Below.trans ?_ (Below.mono (by with_reducible assumption) ?hsz)); (case hsz => (first | omega | (simp; done) | (simp; omega) | (simp at *; omega))))))⟩)

set_option maxHeartbeats 400000 in
set_option maxRecDepth 20000 in
theorem holdsOk_any (n : Int) (v u : Value) (ps : List Pp) (xs : List Int) (b b' : Nat) (w : World) (hp : Pipes w b v ps) (hx : Ints w b' u xs) :
    Calls Try.prog 25 #[.agg #[.int .i64 n, v], u] w fun e w' => e = .returned (.bool (holdsB n ps xs)) ∧ Below w.heap.size w w' := by
  have hp0 := hp
  have hx0 := hx
  obtain ⟨A, c, rfl, hc1, hc2, hs, hcell⟩ := hp.form
  obtain ⟨A', c', rfl, hc1', hc2', hs', hcell'⟩ := hx.form
  unfold maxLen at hc2 hc2'
  go_enter Try.func25, Try.ntmps25
  go_wp2_with (first
    | (go_at_call 64; ((with_reducible refine (flowOk_any n _ _ ps xs b b' _ (hp0.keep (by (repeat (first | (with_reducible assumption) | (with_reducible exact Below.refl _ _) | ((with_reducible refine Below.alloc ?_ ?hsz _); (case hsz => (first | omega | (simp; done) | (simp; omega) | (simp at *; omega)))) | ((with_reducible refine Below.setCell ?_ ?hsz _); (case hsz => (first | omega | (simp; done) | (simp; omega) | (simp at *; omega)))) | (with_reducible refine Below.drew ?_) | (with_reducible refine below_drewN ?_ _) | ((with_reducible refine Below.trans ?_ (Below.mono (by with_reducible assumption) ?hsz)); (case hsz => (first | omega | (simp; done) | (simp; omega) | (simp at *; omega)))))))) (hx0.keep (by (repeat (first | (with_reducible assumption) | (with_reducible exact Below.refl _ _) | ((with_reducible refine Below.alloc ?_ ?hsz _); (case hsz => (first | omega | (simp; done) | (simp; omega) | (simp at *; omega)))) | ((with_reducible refine Below.setCell ?_ ?hsz _); (case hsz => (first | omega | (simp; done) | (simp; omega) | (simp at *; omega)))) | (with_reducible refine Below.drew ?_) | (with_reducible refine below_drewN ?_ _) | ((with_reducible refine Below.trans ?_ (Below.mono (by with_reducible assumption) ?hsz)); (case hsz => (first | omega | (simp; done) | (simp; omega) | (simp at *; omega))))))))).mono ?_); rintro e w1 ⟨rfl, hb1⟩; obtain ⟨hc1, hf1, hz1⟩ := bcell hb1; (try simp at hz1); (try have hy1 : w.heap.size < w1.heap.size := by omega); (try have hy2 : w.heap.size + 1 < w1.heap.size := by omega); (try have hy3 : w.heap.size + 1 + 1 < w1.heap.size := by omega))))
  · have hno : flowOkB n ps xs = false := of_not_t (by assumption)
    go_ret
    exact ⟨ret_bool (by simp [holdsB, hno]), by (repeat (first | (with_reducible assumption) | (with_reducible exact Below.refl _ _) | ((with_reducible refine Below.alloc ?_ ?hsz _); (case hsz => (first | omega | (simp; done) | (simp; omega) | (simp at *; omega)))) | ((with_reducible refine Below.setCell ?_ ?hsz _); (case hsz => (first | omega | (simp; done) | (simp; omega) | (simp at *; omega)))) | (with_reducible refine Below.drew ?_) | (with_reducible refine below_drewN ?_ _) | ((with_reducible refine Below.trans ?_ (Below.mono (by with_reducible assumption) ?hsz)); (case hsz => (first | omega | (simp; done) | (simp; omega) | (simp at *; omega))))))⟩
  · have hok : flowOkB n ps xs = true := of_not (by assumption)
    have Hl := Lib.hid (flowOk_parts hok).2.1
    simp only [hok, Bool.not_true]
    go_loopw [14] (fun i wr => ∃ k : Nat, k ≤ ps.length ∧ i = .int .i64 k ∧ (∀ p ∈ (ps.zip xs).take k, (fun q : Pp × Int => withinB q.2 q.1.le q.1.mo) p = true) ∧ Below w1.heap.size w1 wr) (fun i _ => ps.length - (intOf i).toNat)
    case atStart => exact ⟨0, by omega, rfl, by simp, Below.refl _ _⟩
    case round =>
      obtain ⟨k, hk, rfl, hall, hb⟩ := hrel
      have hbw : Below w.heap.size w wr := by (repeat (first | (with_reducible assumption) | (with_reducible exact Below.refl _ _) | ((with_reducible refine Below.alloc ?_ ?hsz _); (case hsz => (first | omega | (simp; done) | (simp; omega) | (simp at *; omega)))) | ((with_reducible refine Below.setCell ?_ ?hsz _); (case hsz => (first | omega | (simp; done) | (simp; omega) | (simp at *; omega)))) | (with_reducible refine Below.drew ?_) | (with_reducible refine below_drewN ?_ _) | ((with_reducible refine Below.trans ?_ (Below.mono (by with_reducible assumption) ?hsz)); (case hsz => (first | omega | (simp; done) | (simp; omega) | (simp at *; omega))))))
      have e0 := (hb.cell (p := ⟨w.heap.size, 0, none⟩) (by (first | omega | (simp; done) | (simp; omega) | (simp at *; omega)))).trans ((hc1 _ _ (by (first | omega | (simp; done) | (simp; omega) | (simp at *; omega)))).trans (by simp; rfl))
      have e1 := (hb.cell (p := ⟨w.heap.size, 1, none⟩) (by (first | omega | (simp; done) | (simp; omega) | (simp at *; omega)))).trans ((hc1 _ _ (by (first | omega | (simp; done) | (simp; omega) | (simp at *; omega)))).trans (by simp; rfl))
      obtain ⟨hcr, hfr, hzr⟩ := bcell hbw
      have hzs := hb.size
      have hzz : w.heap.size < wr.heap.size := by omega
      by_cases hlt : k < ps.length
      · have hlx : k < xs.length := by have := Hl.out; omega
        obtain ⟨g, rfl, hg1, hg2, c0, c1, c2, c3, c4⟩ := hcell w (Below.refl _ _) k hlt
        obtain ⟨g', rfl, hg1', hg2', c0', _⟩ := hcell' w (Below.refl _ _) k hlx
        have hgr : g < wr.heap.size := by omega
        have hgr' : g' < wr.heap.size := by omega
        go_wp2
        go_quiet ((go_at_call 77; exact Calls.quiet_of_same ((within_any _ _ _ _).mono fun _ _ h => ⟨h.1, h.2.symm⟩)))
        go_wp2
        · have h0 : withinB xs[k] ps[k].le ps[k].mo = false := of_not_t (by assumption)
          go_ret
          exact ⟨ret_bool (by rw [holdsB, all_no (xs := ps.zip xs) (k := k) (by simp; omega) (by rw [zip_at hlt hlx]; simpa using h0)]; simp), by (repeat (first | (with_reducible assumption) | (with_reducible exact Below.refl _ _) | ((with_reducible refine Below.alloc ?_ ?hsz _); (case hsz => (first | omega | (simp; done) | (simp; omega) | (simp at *; omega)))) | ((with_reducible refine Below.setCell ?_ ?hsz _); (case hsz => (first | omega | (simp; done) | (simp; omega) | (simp at *; omega)))) | (with_reducible refine Below.drew ?_) | (with_reducible refine below_drewN ?_ _) | ((with_reducible refine Below.trans ?_ (Below.mono (by with_reducible assumption) ?hsz)); (case hsz => (first | omega | (simp; done) | (simp; omega) | (simp at *; omega))))))⟩
        · have h0 : withinB xs[k] ps[k].le ps[k].mo = true := of_not (by assumption)
          go_roundw
          case rel => exact ⟨k + 1, by omega, by go_num, all_take (xs := ps.zip xs) (k := k) (by simp; omega) hall (by rw [zip_at hlt hlx]; exact h0), by (repeat (first | (with_reducible assumption) | (with_reducible exact Below.refl _ _) | ((with_reducible refine Below.alloc ?_ ?hsz _); (case hsz => (first | omega | (simp; done) | (simp; omega) | (simp at *; omega)))) | ((with_reducible refine Below.setCell ?_ ?hsz _); (case hsz => (first | omega | (simp; done) | (simp; omega) | (simp at *; omega)))) | (with_reducible refine Below.drew ?_) | (with_reducible refine below_drewN ?_ _) | ((with_reducible refine Below.trans ?_ (Below.mono (by with_reducible assumption) ?hsz)); (case hsz => (first | omega | (simp; done) | (simp; omega) | (simp at *; omega))))))⟩
          case measure => simp [intOf]; omega
      · go_wp2
        go_ret
        exact ⟨ret_bool (by rw [holdsB, all_whole (by simp; omega) hall]; simp [*]), by (repeat (first | (with_reducible assumption) | (with_reducible exact Below.refl _ _) | ((with_reducible refine Below.alloc ?_ ?hsz _); (case hsz => (first | omega | (simp; done) | (simp; omega) | (simp at *; omega)))) | ((with_reducible refine Below.setCell ?_ ?hsz _); (case hsz => (first | omega | (simp; done) | (simp; omega) | (simp at *; omega)))) | (with_reducible refine Below.drew ?_) | (with_reducible refine below_drewN ?_ _) | ((with_reducible refine Below.trans ?_ (Below.mono (by with_reducible assumption) ?hsz)); (case hsz => (first | omega | (simp; done) | (simp; omega) | (simp at *; omega))))))⟩

end Go.Proofs.Ytobbeofibkpbaaa

/- Contracts of the functions of chapter 10 in the program: NeedsOk, FeedsOk. -/
namespace Go.Proofs.Ytobbeofibkpbaaa
open Go.RowKit

theorem needSum_succ (k : Nat) (nd : List Int) (s : Int) : needSum (k + 1) nd s = needSum k nd s + (if bitB s k = true then nd.getD k 0 else 0) := nodeSum_succ _ _
theorem needSum_bd (k : Nat) {nd : List Int} (s : Int) (h : ∀ x ∈ nd, -12 ≤ x ∧ x ≤ 12) : -(12 * (k : Int)) ≤ needSum k nd s ∧ needSum k nd s ≤ 12 * (k : Int) := by
  induction k with
  | zero => exact ⟨Int.le_refl _, Int.le_refl _⟩
  | succ k ih =>
    rw [needSum_succ]
    have hb : -12 ≤ nd.getD k 0 ∧ nd.getD k 0 ≤ 12 := by
      by_cases hk : k < nd.length
      · rw [getD_at hk]; exact h _ (List.getElem_mem hk)
      · rw [List.getD_eq_getElem?_getD, List.getElem?_eq_none (by omega)]
        show -12 ≤ (0 : Int) ∧ (0 : Int) ≤ 12
        omega
    split <;> omega
theorem needSum_all {n : Int} {nd : List Int} (h : (nd.length : Int) = n) (hn : n ≤ 5) : needSum nd.length nd (2 ^ n.toNat - 1) = nodeSum nd.length fun k => nd.getD k 0 := by
  refine nodeSum_congr fun k hk => ?_
  have hb := bit_lack' (n := n) (s := 0) (k := (k : Int)) (by omega) hn (by omega) (by have h1 := Nat.two_pow_pos n.toNat; have h2 : ((2 ^ n.toNat : Nat) : Int) = 2 ^ n.toNat := by simp
                                                                                       omega) (by omega) (by omega)
  have e : lack n 0 = 2 ^ n.toNat - 1 := by unfold lack; omega
  rw [e, bit_zero] at hb
  rw [hb]
  rfl
def overL (nd : List Int) (ps : List Pp) (xs : List Int) : List Int := (List.range nd.length).map (dN nd ps xs)
theorem overL_len (nd : List Int) (ps : List Pp) (xs : List Int) : (overL nd ps xs).length = nd.length := by simp [overL]
theorem overL_at {nd : List Int} (ps : List Pp) (xs : List Int) {k : Nat} (hk : k < nd.length) : (overL nd ps xs)[k]? = some (exc (k : Int) ps xs - nd[k]) := by
  have h : nd.getD k 0 = nd[k] := getD_at hk
  simp [overL, dN, hk]
theorem overL_get {nd : List Int} (ps : List Pp) (xs : List Int) {k : Nat} (hk : k < nd.length) : (overL nd ps xs).getD k 0 = dN nd ps xs k := by
  rw [List.getD_eq_getElem?_getD, overL, List.getElem?_map, List.getElem?_range hk]; rfl
theorem overL_zero {n : Int} {nd : List Int} (ps : List Pp) (xs : List Int) (h : (nd.length : Int) = n) : ((overL nd ps xs).all fun x => x == 0) = zeroD n nd ps xs := by
  have e : n.toNat = nd.length := by omega
  rw [overL, zeroD, List.all_map, e]
  rfl

set_option maxHeartbeats 1000000 in
set_option maxRecDepth 20000 in
theorem needsOf_any (s : Int) (u : Value) (nd : List Int) (b' : Nat) (w : World) (hx : Ints w b' u nd) (hl : nd.length ≤ 5) (hbd : ∀ x ∈ nd, -12 ≤ x ∧ x ≤ 12) :
    Calls Try.prog 147 #[u, .int .i64 s] w fun e w' => e = .returned (.int .i64 (needSum nd.length nd s)) ∧ Below w.heap.size w w' := by
  obtain ⟨A', c', rfl, hc1', hc2', hs', hcell'⟩ := hx.form
  unfold maxLen at hc2'
  have Hbd := Lib.hid hbd
  clear hbd
  go_enter Try.func147, Try.ntmps147
  go_wp2
  go_loopw [10, 5] (fun i s' wr => ∃ k : Nat, k ≤ nd.length ∧ i = .int .i64 k ∧ s' = .int .i64 (needSum k nd s) ∧ Below w.heap.size w wr) (fun i _ _ => nd.length - (intOf i).toNat)
  case atStart => exact ⟨0, by omega, rfl, rfl, Below.refl _ _⟩
  case round =>
    obtain ⟨k, hk, rfl, rfl, hb⟩ := hrel
    by_cases hlt : k < nd.length
    · obtain ⟨g', rfl, hg1', hg2', c0', _⟩ := hcell' wr hb k hlt
      obtain ⟨h1, h2⟩ := needSum_bd k s Hbd.out
      obtain ⟨h3, h4⟩ := Hbd.out _ (List.getElem_mem hlt)
      have Hs := needSum_succ k nd s
      rw [getD_at hlt] at Hs
      generalize nd[k] = x at *
      generalize needSum k nd s = sm at *
      by_cases hb1 : bitB s k = true
      · rw [if_pos hb1] at Hs
        have HS := Lib.hid Hs
        clear Hs
        go_wp2_with fail
        refine (hasNode_any s k _ (by omega) (by omega)).mono ?_
        rintro e w1 ⟨rfl, rfl⟩
        rw [hb1]
        go_wp2
        go_roundw
        case rel => exact ⟨k + 1, by omega, by go_num, by rw [HS.out], hb⟩
        case measure => simp [intOf]; omega
      · have hb2 : bitB s k = false := by simpa using hb1
        rw [if_neg hb1] at Hs
        have HS := Lib.hid Hs
        clear Hs hb1
        go_wp2_with fail
        refine (hasNode_any s k _ (by omega) (by omega)).mono ?_
        rintro e w1 ⟨rfl, rfl⟩
        rw [hb2]
        go_wp2
        go_roundw
        case rel => exact ⟨k + 1, by omega, by go_num, by rw [HS.out, Int.add_zero], hb⟩
        case measure => simp [intOf]; omega
    · go_wp2
      go_ret
      have : k = nd.length := by omega
      subst this
      exact ⟨rfl, hb⟩

set_option maxHeartbeats 1000000 in
set_option maxRecDepth 20000 in
theorem needsOk_any (n : Int) (v u : Value) (ps : List Pp) (nd : List Int) (b b' : Nat) (w : World) (hp : Pipes w b v ps) (hx : Ints w b' u nd) :
    Calls Try.prog 104 #[.agg #[.int .i64 n, v], u] w fun e w' => e = .returned (.bool (needsB n ps nd)) ∧ Below w.heap.size w w' := by
  have hx0 := hx
  obtain ⟨A', c', rfl, -, -, -, -⟩ := hx.form
  by_cases hf : freeB n ps = true
  · by_cases hr : rowB nd n (-12) 12 = true
    · have hl : (nd.length : Int) = n := by simp only [rowB, Bool.and_eq_true, decide_eq_true_eq] at hr; exact hr.1
      have hbd : ∀ x ∈ nd, -12 ≤ x ∧ x ≤ 12 := by
        simp only [rowB, Bool.and_eq_true, decide_eq_true_eq, List.all_eq_true, withinB] at hr
        exact hr.2
      have h5 := (netOk_parts (free_net hf)).2.1
      have Hs := Lib.hid (needSum_all hl h5)
      have Hr : Hid (needsB n ps nd = decide (nodeSum nd.length (fun k => nd.getD k 0) = 0)) := Lib.hid (by
        rw [needsB, hf, show (decide ((nd.length : Int) = n) && nd.all fun x => withinB x (-12) 12) = true from hr]; rfl)
      have Hl := Lib.hid (show nd.length ≤ 5 by omega)
      have Hbd := Lib.hid hbd
      clear hl hbd h5
      rcases side_n (free_net hf) with rfl | rfl | rfl | rfl
      all_goals
        go_enter Try.func104, Try.ntmps104
        go_wp2_with (first
          | (go_at_call 114; ((with_reducible refine (freeOk_any _ _ ps b _ (hp.keep (by (repeat (first | (with_reducible assumption) | (with_reducible exact Below.refl _ _) | ((with_reducible refine Below.alloc ?_ ?hsz _); (case hsz => (first | omega | (simp; done) | (simp; omega) | (simp at *; omega)))) | ((with_reducible refine Below.setCell ?_ ?hsz _); (case hsz => (first | omega | (simp; done) | (simp; omega) | (simp at *; omega)))) | (with_reducible refine Below.drew ?_) | (with_reducible refine below_drewN ?_ _) | ((with_reducible refine Below.trans ?_ (Below.mono (by with_reducible assumption) ?hsz)); (case hsz => (first | omega | (simp; done) | (simp; omega) | (simp at *; omega))))))))).mono ?_); rintro e w1 ⟨rfl, hb1⟩; obtain ⟨hc1, hf1, hz1⟩ := bcell hb1; (try simp at hz1); (try have hy1 : w.heap.size < w1.heap.size := by omega); (try have hy2 : w.heap.size + 1 < w1.heap.size := by omega); (try have hy3 : w.heap.size + 1 + 1 < w1.heap.size := by omega)))
          | (go_at_call 118; ((with_reducible refine (rowOk_any _ nd _ (-12) 12 b' _ (hx0.keep (by (repeat (first | (with_reducible assumption) | (with_reducible exact Below.refl _ _) | ((with_reducible refine Below.alloc ?_ ?hsz _); (case hsz => (first | omega | (simp; done) | (simp; omega) | (simp at *; omega)))) | ((with_reducible refine Below.setCell ?_ ?hsz _); (case hsz => (first | omega | (simp; done) | (simp; omega) | (simp at *; omega)))) | (with_reducible refine Below.drew ?_) | (with_reducible refine below_drewN ?_ _) | ((with_reducible refine Below.trans ?_ (Below.mono (by with_reducible assumption) ?hsz)); (case hsz => (first | omega | (simp; done) | (simp; omega) | (simp at *; omega))))))))).mono ?_); rintro e w1 ⟨rfl, hb1⟩; obtain ⟨hc1, hf1, hz1⟩ := bcell hb1; (try simp at hz1); (try have hy1 : w.heap.size < w1.heap.size := by omega); (try have hy2 : w.heap.size + 1 < w1.heap.size := by omega); (try have hy3 : w.heap.size + 1 + 1 < w1.heap.size := by omega)))
          | (go_at_call 147; ((with_reducible refine (needsOf_any _ _ nd b' _ (hx0.keep (by (repeat (first | (with_reducible assumption) | (with_reducible exact Below.refl _ _) | ((with_reducible refine Below.alloc ?_ ?hsz _); (case hsz => (first | omega | (simp; done) | (simp; omega) | (simp at *; omega)))) | ((with_reducible refine Below.setCell ?_ ?hsz _); (case hsz => (first | omega | (simp; done) | (simp; omega) | (simp at *; omega)))) | (with_reducible refine Below.drew ?_) | (with_reducible refine below_drewN ?_ _) | ((with_reducible refine Below.trans ?_ (Below.mono (by with_reducible assumption) ?hsz)); (case hsz => (first | omega | (simp; done) | (simp; omega) | (simp at *; omega)))))))) Hl.out Hbd.out).mono ?_); rintro e w1 ⟨rfl, hb1⟩; obtain ⟨hc1, hf1, hz1⟩ := bcell hb1; (try simp at hz1); (try have hy1 : w.heap.size < w1.heap.size := by omega); (try have hy2 : w.heap.size + 1 < w1.heap.size := by omega); (try have hy3 : w.heap.size + 1 + 1 < w1.heap.size := by omega))))
        go_ret
        exact ⟨ret_bool (by
          rw [Hr.out, beq_dec]
          exact congrArg (fun x : Int => decide (x = 0)) Hs.out), by (repeat (first | (with_reducible assumption) | (with_reducible exact Below.refl _ _) | ((with_reducible refine Below.alloc ?_ ?hsz _); (case hsz => (first | omega | (simp; done) | (simp; omega) | (simp at *; omega)))) | ((with_reducible refine Below.setCell ?_ ?hsz _); (case hsz => (first | omega | (simp; done) | (simp; omega) | (simp at *; omega)))) | (with_reducible refine Below.drew ?_) | (with_reducible refine below_drewN ?_ _) | ((with_reducible refine Below.trans ?_ (Below.mono (by with_reducible assumption) ?hsz)); (case hsz => (first | omega | (simp; done) | (simp; omega) | (simp at *; omega))))))⟩
    · have hr' : rowB nd n (-12) 12 = false := by simpa using hr
      have Hr : Hid (needsB n ps nd = false) := Lib.hid (by
        rw [needsB, show (decide ((nd.length : Int) = n) && nd.all fun x => withinB x (-12) 12) = false from hr']; simp)
      clear hr
      go_enter Try.func104, Try.ntmps104
      go_wp2_with (first
        | (go_at_call 114; ((with_reducible refine (freeOk_any _ _ ps b _ (hp.keep (by (repeat (first | (with_reducible assumption) | (with_reducible exact Below.refl _ _) | ((with_reducible refine Below.alloc ?_ ?hsz _); (case hsz => (first | omega | (simp; done) | (simp; omega) | (simp at *; omega)))) | ((with_reducible refine Below.setCell ?_ ?hsz _); (case hsz => (first | omega | (simp; done) | (simp; omega) | (simp at *; omega)))) | (with_reducible refine Below.drew ?_) | (with_reducible refine below_drewN ?_ _) | ((with_reducible refine Below.trans ?_ (Below.mono (by with_reducible assumption) ?hsz)); (case hsz => (first | omega | (simp; done) | (simp; omega) | (simp at *; omega))))))))).mono ?_); rintro e w1 ⟨rfl, hb1⟩; obtain ⟨hc1, hf1, hz1⟩ := bcell hb1; (try simp at hz1); (try have hy1 : w.heap.size < w1.heap.size := by omega); (try have hy2 : w.heap.size + 1 < w1.heap.size := by omega); (try have hy3 : w.heap.size + 1 + 1 < w1.heap.size := by omega)))
        | (go_at_call 118; ((with_reducible refine (rowOk_any _ nd _ (-12) 12 b' _ (hx0.keep (by (repeat (first | (with_reducible assumption) | (with_reducible exact Below.refl _ _) | ((with_reducible refine Below.alloc ?_ ?hsz _); (case hsz => (first | omega | (simp; done) | (simp; omega) | (simp at *; omega)))) | ((with_reducible refine Below.setCell ?_ ?hsz _); (case hsz => (first | omega | (simp; done) | (simp; omega) | (simp at *; omega)))) | (with_reducible refine Below.drew ?_) | (with_reducible refine below_drewN ?_ _) | ((with_reducible refine Below.trans ?_ (Below.mono (by with_reducible assumption) ?hsz)); (case hsz => (first | omega | (simp; done) | (simp; omega) | (simp at *; omega))))))))).mono ?_); rintro e w1 ⟨rfl, hb1⟩; obtain ⟨hc1, hf1, hz1⟩ := bcell hb1; (try simp at hz1); (try have hy1 : w.heap.size < w1.heap.size := by omega); (try have hy2 : w.heap.size + 1 < w1.heap.size := by omega); (try have hy3 : w.heap.size + 1 + 1 < w1.heap.size := by omega))))
      go_ret
      exact ⟨ret_bool Hr.out.symm, by (repeat (first | (with_reducible assumption) | (with_reducible exact Below.refl _ _) | ((with_reducible refine Below.alloc ?_ ?hsz _); (case hsz => (first | omega | (simp; done) | (simp; omega) | (simp at *; omega)))) | ((with_reducible refine Below.setCell ?_ ?hsz _); (case hsz => (first | omega | (simp; done) | (simp; omega) | (simp at *; omega)))) | (with_reducible refine Below.drew ?_) | (with_reducible refine below_drewN ?_ _) | ((with_reducible refine Below.trans ?_ (Below.mono (by with_reducible assumption) ?hsz)); (case hsz => (first | omega | (simp; done) | (simp; omega) | (simp at *; omega))))))⟩
  · have hf' : freeB n ps = false := by simpa using hf
    have Hr : Hid (needsB n ps nd = false) := Lib.hid (by rw [needsB, hf']; rfl)
    clear hf
    go_enter Try.func104, Try.ntmps104
    go_wp2_with (first
      | (go_at_call 114; ((with_reducible refine (freeOk_any _ _ ps b _ (hp.keep (by (repeat (first | (with_reducible assumption) | (with_reducible exact Below.refl _ _) | ((with_reducible refine Below.alloc ?_ ?hsz _); (case hsz => (first | omega | (simp; done) | (simp; omega) | (simp at *; omega)))) | ((with_reducible refine Below.setCell ?_ ?hsz _); (case hsz => (first | omega | (simp; done) | (simp; omega) | (simp at *; omega)))) | (with_reducible refine Below.drew ?_) | (with_reducible refine below_drewN ?_ _) | ((with_reducible refine Below.trans ?_ (Below.mono (by with_reducible assumption) ?hsz)); (case hsz => (first | omega | (simp; done) | (simp; omega) | (simp at *; omega))))))))).mono ?_); rintro e w1 ⟨rfl, hb1⟩; obtain ⟨hc1, hf1, hz1⟩ := bcell hb1; (try simp at hz1); (try have hy1 : w.heap.size < w1.heap.size := by omega); (try have hy2 : w.heap.size + 1 < w1.heap.size := by omega); (try have hy3 : w.heap.size + 1 + 1 < w1.heap.size := by omega))))
    go_ret
    exact ⟨ret_bool Hr.out.symm, by (repeat (first | (with_reducible assumption) | (with_reducible exact Below.refl _ _) | ((with_reducible refine Below.alloc ?_ ?hsz _); (case hsz => (first | omega | (simp; done) | (simp; omega) | (simp at *; omega)))) | ((with_reducible refine Below.setCell ?_ ?hsz _); (case hsz => (first | omega | (simp; done) | (simp; omega) | (simp at *; omega)))) | (with_reducible refine Below.drew ?_) | (with_reducible refine below_drewN ?_ _) | ((with_reducible refine Below.trans ?_ (Below.mono (by with_reducible assumption) ?hsz)); (case hsz => (first | omega | (simp; done) | (simp; omega) | (simp at *; omega))))))⟩

set_option maxHeartbeats 4000000 in
set_option maxRecDepth 20000 in
theorem overNeeds_any (n : Int) (v u o : Value) (ps : List Pp) (xs nd : List Int) (b b' b2 : Nat) (w : World) (hp : Pipes w b v ps) (hx : Ints w b' u xs) (ho : Ints w b2 o nd) (hok : flowOkB n ps xs = true) (hl5 : nd.length ≤ 5) (hbd : ∀ v, -12 ≤ nd.getD v 0 ∧ nd.getD v 0 ≤ 12) :
    Calls Try.prog 141 #[v, u, o] w fun e w' => ∃ r, e = .returned r ∧ Ints w' w.heap.size r (overL nd ps xs) ∧ Below w.heap.size w w' := by
  have hp0 := hp
  have hx0 := hx
  obtain ⟨A, c, rfl, -, -, -, -⟩ := hp.form
  obtain ⟨A', c', rfl, -, -, -, -⟩ := hx.form
  obtain ⟨A2, c2, rfl, hc21, hc22, -, hcell2⟩ := ho.form
  unfold maxLen at hc22
  have Hok := Lib.hid hok
  have Hbd := Lib.hid hbd
  have HE := Lib.hid (fun v : Int => exc_bd7 hok v)
  have HA := Lib.hid (fun k (hk : k < nd.length) => overL_at ps xs hk)
  have HL := Lib.hid (overL_len nd ps xs)
  clear hok hbd
  have hmk := fun W => run_make_ints (n := nd.length) (by omega) W
  have hmade : Row (w.alloc (.cells (madeCells #[.int .i64 0] nd.length) 3)) w.heap.size w.heap.size nd.length nd.length (List.replicate nd.length 0) := ⟨made_ints w nd.length 3 w.heap.size (Nat.le_refl _) (by omega), by unfold small; omega⟩
  have HM := Lib.hid hmade
  clear hmade
  have hB0 : Below w.heap.size w (w.alloc (.cells (madeCells #[.int .i64 0] nd.length) 3)) := by (repeat (first | (with_reducible assumption) | (with_reducible exact Below.refl _ _) | ((with_reducible refine Below.alloc ?_ ?hsz _); (case hsz => (first | omega | (simp; done) | (simp; omega) | (simp at *; omega)))) | ((with_reducible refine Below.setCell ?_ ?hsz _); (case hsz => (first | omega | (simp; done) | (simp; omega) | (simp at *; omega)))) | (with_reducible refine Below.drew ?_) | (with_reducible refine below_drewN ?_ _) | ((with_reducible refine Below.trans ?_ (Below.mono (by with_reducible assumption) ?hsz)); (case hsz => (first | omega | (simp; done) | (simp; omega) | (simp at *; omega))))))
  generalize overL nd ps xs = OL at *
  go_enter Try.func141, Try.ntmps141
  go_wp2_with fail
  go_loopw [15] (fun i wr => ∃ (k : Nat) (qs : List Int), k ≤ nd.length ∧ i = .int .i64 k ∧ Row wr w.heap.size w.heap.size nd.length nd.length qs ∧ qs.take k = OL.take k ∧ Below w.heap.size w wr) (fun i _ => nd.length - (intOf i).toNat)
  case atStart => exact ⟨0, _, by omega, rfl, HM.out, by simp, hB0⟩
  case round =>
    obtain ⟨k, qs, hk, rfl, hR, hq, hb⟩ := hrel
    have hzb := hb.size
    have hql := hR.len
    by_cases hlt : k < nd.length
    · obtain ⟨g, rfl, hg1, hg2, c0, -⟩ := hcell2 wr hb k hlt
      obtain ⟨x1, x2⟩ := HE.out (k : Int)
      have hx34 := Hbd.out k
      rw [getD_at hlt] at hx34
      obtain ⟨x3, x4⟩ := hx34
      have hov := HA.out k hlt
      generalize nd[k] = d at *
      obtain ⟨E, hE⟩ : ∃ E, exc (k : Int) ps xs = E := ⟨_, rfl⟩
      rw [hE] at hov x1 x2
      have HE2 := Lib.hid hE
      have Hq : Hid ((qs.set k (E - d)).take (k + 1) = OL.take (k + 1)) := Lib.hid (set_take (by omega) hq hov)
      have HR := Lib.hid hR
      clear hq hR hql hE hov
      go_wp2_with fail
      refine (excessOf_any k n _ _ ps xs b b' _ (hp0.keep hb) (hx0.keep hb) Hok.out).mono ?_
      rintro e w2 ⟨rfl, hb2⟩
      rw [HE2.out]
      have hb02 := hb.trans (hb2.mono hzb)
      have hR2 := HR.out.keep hb2
      have hz2 := hb02.size
      obtain ⟨y0, y1⟩ := hR2.at' k hlt
      have hglr := hR2.lt
      have HR3 := Lib.hid (hR2.set k (E - d))
      generalize qs.getD k 0 = old at *
      clear hR2 hb2 c0
      go_wp2
      go_roundw
      case rel => exact ⟨k + 1, _, by omega, by go_num, HR3.out, Hq.out, by (repeat (first | (with_reducible assumption) | (with_reducible exact Below.refl _ _) | ((with_reducible refine Below.alloc ?_ ?hsz _); (case hsz => (first | omega | (simp; done) | (simp; omega) | (simp at *; omega)))) | ((with_reducible refine Below.setCell ?_ ?hsz _); (case hsz => (first | omega | (simp; done) | (simp; omega) | (simp at *; omega)))) | (with_reducible refine Below.drew ?_) | (with_reducible refine below_drewN ?_ _) | ((with_reducible refine Below.trans ?_ (Below.mono (by with_reducible assumption) ?hsz)); (case hsz => (first | omega | (simp; done) | (simp; omega) | (simp at *; omega))))))⟩
      case measure => simp [intOf]; omega
    · have hkk : k = nd.length := by omega
      subst hkk
      have hqq : qs = OL := by
        rw [List.take_of_length_le (by omega), List.take_of_length_le (by have := HL.out; omega)] at hq
        exact hq
      subst hqq
      have hI := hR.ints
      go_wp2
      go_ret
      exact ⟨_, rfl, hI, hb⟩

set_option maxHeartbeats 400000 in
set_option maxRecDepth 20000 in
theorem nonzFn_any (x : Int) (w : World) : Calls Try.prog 167 #[.int .i64 x] w fun e w' => e = .returned (.bool (x != 0)) ∧ w = w' := by
  go_enter Try.func167, Try.ntmps167
  go_wp2
  go_ret
  exact ⟨rfl, rfl⟩

set_option maxHeartbeats 400000 in
set_option maxRecDepth 20000 in
theorem indexNonz_any (u : Value) (xs : List Int) (b : Nat) (w : World) (hx : Ints w b u xs) :
    Calls Try.prog 121 #[u, .func (Fn.func 167) #[] #[]] w fun e w' => ∃ r : Int, e = .returned (.int .i64 r) ∧ decide (0 ≤ r) = (!(xs.all fun x => x == 0)) ∧ Below w.heap.size w w' := by
  obtain ⟨A0, c0, rfl, hc1, hc2, hs, hcell⟩ := hx.form
  unfold maxLen at hc2
  go_enter Try.func121, Try.ntmps121
  go_wp2
  go_loopw [8] (fun i wr => ∃ k : Nat, k ≤ xs.length ∧ i = .int .i64 k ∧ (∀ x ∈ xs.take k, (x == 0) = true) ∧ Below w.heap.size w wr) (fun i _ => xs.length - (intOf i).toNat)
  case atStart => exact ⟨0, by omega, rfl, by simp, Below.refl _ _⟩
  case round =>
    obtain ⟨k, hk, rfl, hall, hb⟩ := hrel
    have Hall := Lib.hid hall
    clear hall
    have hzb := hb.size
    by_cases hlt : k < xs.length
    · obtain ⟨g, rfl, hg1, hg2, cx, -⟩ := hcell wr hb k hlt
      by_cases hz : (xs[k] == 0) = true
      · have Hn := Lib.hid (all_take (f := fun x : Int => x == 0) hlt Hall.out hz)
        have hz2 : (xs[k] != 0) = false := by simpa using hz
        clear hz
        go_wp2_with fail
        refine (nonzFn_any xs[k] _).mono ?_
        rintro e w1 ⟨rfl, rfl⟩
        rw [hz2]
        go_wp2
        go_roundw
        case rel => exact ⟨k + 1, by omega, by go_num, Hn.out, by (repeat (first | (with_reducible assumption) | (with_reducible exact Below.refl _ _) | ((with_reducible refine Below.alloc ?_ ?hsz _); (case hsz => (first | omega | (simp; done) | (simp; omega) | (simp at *; omega)))) | ((with_reducible refine Below.setCell ?_ ?hsz _); (case hsz => (first | omega | (simp; done) | (simp; omega) | (simp at *; omega)))) | (with_reducible refine Below.drew ?_) | (with_reducible refine below_drewN ?_ _) | ((with_reducible refine Below.trans ?_ (Below.mono (by with_reducible assumption) ?hsz)); (case hsz => (first | omega | (simp; done) | (simp; omega) | (simp at *; omega))))))⟩
        case measure => simp [intOf]; omega
      · have hz' : (xs[k] == 0) = false := by simpa using hz
        have hz2 : (xs[k] != 0) = true := by simpa using hz
        have Hn := Lib.hid (show (!(xs.all fun x => x == 0)) = true by
          rw [all_no hlt (by simp [hz'])]; rfl)
        clear hz hz'
        go_wp2_with fail
        refine (nonzFn_any xs[k] _).mono ?_
        rintro e w1 ⟨rfl, rfl⟩
        rw [hz2]
        go_wp2
        go_ret
        exact ⟨_, rfl, by rw [Hn.out]; simp, by (repeat (first | (with_reducible assumption) | (with_reducible exact Below.refl _ _) | ((with_reducible refine Below.alloc ?_ ?hsz _); (case hsz => (first | omega | (simp; done) | (simp; omega) | (simp at *; omega)))) | ((with_reducible refine Below.setCell ?_ ?hsz _); (case hsz => (first | omega | (simp; done) | (simp; omega) | (simp at *; omega)))) | (with_reducible refine Below.drew ?_) | (with_reducible refine below_drewN ?_ _) | ((with_reducible refine Below.trans ?_ (Below.mono (by with_reducible assumption) ?hsz)); (case hsz => (first | omega | (simp; done) | (simp; omega) | (simp at *; omega))))))⟩
    · go_wp2
      go_ret
      exact ⟨_, rfl, by rw [all_whole hlt Hall.out]; rfl, by (repeat (first | (with_reducible assumption) | (with_reducible exact Below.refl _ _) | ((with_reducible refine Below.alloc ?_ ?hsz _); (case hsz => (first | omega | (simp; done) | (simp; omega) | (simp at *; omega)))) | ((with_reducible refine Below.setCell ?_ ?hsz _); (case hsz => (first | omega | (simp; done) | (simp; omega) | (simp at *; omega)))) | (with_reducible refine Below.drew ?_) | (with_reducible refine below_drewN ?_ _) | ((with_reducible refine Below.trans ?_ (Below.mono (by with_reducible assumption) ?hsz)); (case hsz => (first | omega | (simp; done) | (simp; omega) | (simp at *; omega))))))⟩

set_option maxHeartbeats 400000 in
set_option maxRecDepth 20000 in
theorem containsNonz_any (u : Value) (xs : List Int) (b : Nat) (w : World) (hx : Ints w b u xs) :
    Calls Try.prog 163 #[u, .func (Fn.func 167) #[] #[]] w fun e w' => e = .returned (.bool (!(xs.all fun x => x == 0))) ∧ Below w.heap.size w w' := by
  go_enter Try.func163, Try.ntmps163
  go_wp2_with fail
  refine (indexNonz_any u xs b _ (hx.keep (by (repeat (first | (with_reducible assumption) | (with_reducible exact Below.refl _ _) | ((with_reducible refine Below.alloc ?_ ?hsz _); (case hsz => (first | omega | (simp; done) | (simp; omega) | (simp at *; omega)))) | ((with_reducible refine Below.setCell ?_ ?hsz _); (case hsz => (first | omega | (simp; done) | (simp; omega) | (simp at *; omega)))) | (with_reducible refine Below.drew ?_) | (with_reducible refine below_drewN ?_ _) | ((with_reducible refine Below.trans ?_ (Below.mono (by with_reducible assumption) ?hsz)); (case hsz => (first | omega | (simp; done) | (simp; omega) | (simp at *; omega))))))))).mono ?_
  rintro e w1 ⟨r, rfl, hr, hb1⟩
  go_wp2
  go_ret
  exact ⟨by first | rfl | exact ret_bool hr, by (repeat (first | (with_reducible assumption) | (with_reducible exact Below.refl _ _) | ((with_reducible refine Below.alloc ?_ ?hsz _); (case hsz => (first | omega | (simp; done) | (simp; omega) | (simp at *; omega)))) | ((with_reducible refine Below.setCell ?_ ?hsz _); (case hsz => (first | omega | (simp; done) | (simp; omega) | (simp at *; omega)))) | (with_reducible refine Below.drew ?_) | (with_reducible refine below_drewN ?_ _) | ((with_reducible refine Below.trans ?_ (Below.mono (by with_reducible assumption) ?hsz)); (case hsz => (first | omega | (simp; done) | (simp; omega) | (simp at *; omega))))))⟩

set_option maxHeartbeats 400000 in
set_option maxRecDepth 20000 in
theorem allZero_any (u : Value) (xs : List Int) (b : Nat) (w : World) (hx : Ints w b u xs) :
    Calls Try.prog 142 #[u] w fun e w' => e = .returned (.bool (xs.all fun x => x == 0)) ∧ Below w.heap.size w w' := by
  have hx0 := hx
  obtain ⟨A0, c0, rfl, -, -, -, -⟩ := hx.form
  have H := Lib.hid (Bool.not_not (xs.all fun x => x == 0))
  go_enter Try.func142, Try.ntmps142
  go_wp2_with fail
  refine (containsNonz_any _ xs b _ hx0).mono ?_
  rintro e w1 ⟨rfl, hb1⟩
  go_wp2
  go_ret
  exact ⟨ret_bool (by first | rfl | rw [H.out]), by (repeat (first | (with_reducible assumption) | (with_reducible exact Below.refl _ _) | ((with_reducible refine Below.alloc ?_ ?hsz _); (case hsz => (first | omega | (simp; done) | (simp; omega) | (simp at *; omega)))) | ((with_reducible refine Below.setCell ?_ ?hsz _); (case hsz => (first | omega | (simp; done) | (simp; omega) | (simp at *; omega)))) | (with_reducible refine Below.drew ?_) | (with_reducible refine below_drewN ?_ _) | ((with_reducible refine Below.trans ?_ (Below.mono (by with_reducible assumption) ?hsz)); (case hsz => (first | omega | (simp; done) | (simp; omega) | (simp at *; omega))))))⟩

end Go.Proofs.Ytobbeofibkpbaaa
