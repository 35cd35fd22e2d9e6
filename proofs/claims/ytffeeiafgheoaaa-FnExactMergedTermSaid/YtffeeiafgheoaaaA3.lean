/- Contracts of what the exact laws call: rows of marks. -/
import Derived.Test.YtffeeiafgheoaaaA2
namespace Go.Proofs.Ytffeeiafgheoaaa
open Go.RowKit

set_option maxHeartbeats 400000 in
set_option maxRecDepth 20000 in
theorem szMarkS_any (v : Value) (ts : List Mk) (left : Int) (w : World) (h : ArgMarks w v ts) (h0 : 0 ≤ left) (h1 : left ≤ 1048576) :
    Calls Try.prog 10 #[v, .int .i64 left] w fun e w' => e = .returned (.int .i64 (if left < ts.length then -1 else left - ts.length)) ∧ Below w.heap.size w w' := by
  obtain ⟨A, c, rfl, hc1, hc2, _⟩ := h
  unfold maxLen at hc2
  go_enter Try.func10, Try.ntmps10
  go_wp2
  all_goals (go_ret; exact ⟨ret_int (by first | rfl | (rw [if_pos (by omega)]; done) | (rw [if_neg (by omega)]; done) | (split <;> omega)), by (repeat (first | (with_reducible assumption) | (with_reducible exact Below.refl _ _) | ((with_reducible refine Below.alloc ?_ ?hsz _); (case hsz => (first | omega | (simp; done) | (simp; omega) | (simp at *; omega)))) | ((with_reducible refine Below.setCell ?_ ?hsz _); (case hsz => (first | omega | (simp; done) | (simp; omega) | (simp at *; omega)))) | (with_reducible refine Below.drew ?_) | (with_reducible refine below_drewN ?_ _) | ((with_reducible refine Below.trans ?_ (Below.mono (by with_reducible assumption) ?hsz)); (case hsz => (first | omega | (simp; done) | (simp; omega) | (simp at *; omega))))))⟩)

set_option maxHeartbeats 400000 in
set_option maxRecDepth 20000 in
theorem toMark_any (p : Mk) (w : World) :
    Calls Try.prog 36 #[.agg #[.int .i64 p.k, .int .i64 p.h, .int .i64 p.p]] w fun e w' => e = .returned (.agg #[.int .i64 p.k, .int .i64 p.h, .int .i64 p.p]) ∧ Below w.heap.size w w' := by
  go_enter Try.func36, Try.ntmps36
  go_wp2
  refine bodyPost_ret (v := .agg #[.int .i64 p.k, .int .i64 p.h, .int .i64 p.p]) (by simp [results, Try.results36, go_sem]) rfl ⟨rfl, by (repeat (first | (with_reducible assumption) | (with_reducible exact Below.refl _ _) | ((with_reducible refine Below.alloc ?_ ?hsz _); (case hsz => (first | omega | (simp; done) | (simp; omega) | (simp at *; omega)))) | ((with_reducible refine Below.setCell ?_ ?hsz _); (case hsz => (first | omega | (simp; done) | (simp; omega) | (simp at *; omega)))) | (with_reducible refine Below.drew ?_) | (with_reducible refine below_drewN ?_ _) | ((with_reducible refine Below.trans ?_ (Below.mono (by with_reducible assumption) ?hsz)); (case hsz => (first | omega | (simp; done) | (simp; omega) | (simp at *; omega))))))⟩

set_option maxHeartbeats 400000 in
set_option maxRecDepth 20000 in
theorem toMarkS_any (v : Value) (ts : List Mk) (w : World) (h : ArgMarks w v ts) (hs : ts.length ≤ 1048576) :
    Calls Try.prog 12 #[v] w fun e w' => ∃ r, e = .returned r ∧ Marks w' w.heap.size r ts ∧ Below w.heap.size w w' := by
  obtain ⟨A, c, rfl, hc1, hc2, hcell⟩ := h
  unfold maxLen at hc2
  have hmk := fun W => run_make_marks (n := ts.length) (by omega) W
  go_enter Try.func12, Try.ntmps12
  go_wp2
  go_loopw [4] (fun i wr => ∃ (k : Nat) (qs : List Mk), k ≤ ts.length ∧ i = .int .i64 k ∧ qs.length = ts.length ∧ qs.take k = ts.take k ∧
      wr.ownsRow w.heap.size 51 3 (.slice (some ⟨w.heap.size, 0, none⟩) ts.length ts.length) ts.length (qs.flatMap Mk.cells) ∧ Below w.heap.size w wr) (fun i _ => ts.length - (intOf i).toNat)
  case atStart => exact ⟨0, List.replicate ts.length zeroMk, by omega, rfl, by simp, by simp, made_marks w ts.length _ _ (Nat.le_refl _) (by omega), by (repeat (first | (with_reducible assumption) | (with_reducible exact Below.refl _ _) | ((with_reducible refine Below.alloc ?_ ?hsz _); (case hsz => (first | omega | (simp; done) | (simp; omega) | (simp at *; omega)))) | ((with_reducible refine Below.setCell ?_ ?hsz _); (case hsz => (first | omega | (simp; done) | (simp; omega) | (simp at *; omega)))) | (with_reducible refine Below.drew ?_) | (with_reducible refine below_drewN ?_ _) | ((with_reducible refine Below.trans ?_ (Below.mono (by with_reducible assumption) ?hsz)); (case hsz => (first | omega | (simp; done) | (simp; omega) | (simp at *; omega))))))⟩
  case round =>
    obtain ⟨k, qs, hk, rfl, hql, hqk, hown, hb⟩ := hrel
    obtain ⟨hcr, hfr, hzr⟩ := bcell hb
    by_cases hlt : k < ts.length
    · obtain ⟨g, o, rfl, hg2, c0, c1, c2⟩ := hcell k hlt
      obtain ⟨hgw, ⟨o0, o1, o2⟩, hof⟩ := own_cells3 (k := k) hown (by omega)
      have hset := own_set3 (k := k) hown (by omega) ts[k]
      have Hql := Lib.hid hql
      have Hqk := Lib.hid hqk
      have HO := Lib.hid hown
      clear hqk hown hset
      go_wp2_with (first
        | (go_at_call 36; ((with_reducible refine (toMark_any ts[k] _).mono ?_); rintro e w1 ⟨rfl, hb1⟩; obtain ⟨hc1, hf1, hz1⟩ := bcell hb1; (try simp at hz1); (try have hy1 : w.heap.size < w1.heap.size := by omega); (try have hy2 : w.heap.size + 1 < w1.heap.size := by omega); (try have hy3 : w.heap.size + 1 + 1 < w1.heap.size := by omega))))
      have hown1 := own_keep HO.out (Nat.le_refl _) hb1
      have hset := own_set3 (k := k) hown1 (by omega) ts[k]
      go_roundw
      case rel => exact ⟨k + 1, qs.set k ts[k], by omega, by go_num, by simp; exact Hql.out, set_take (by have := Hql.out; omega) Hqk.out (by simp [hlt]), hset, by (repeat (first | (with_reducible assumption) | (with_reducible exact Below.refl _ _) | ((with_reducible refine Below.alloc ?_ ?hsz _); (case hsz => (first | omega | (simp; done) | (simp; omega) | (simp at *; omega)))) | ((with_reducible refine Below.setCell ?_ ?hsz _); (case hsz => (first | omega | (simp; done) | (simp; omega) | (simp at *; omega)))) | (with_reducible refine Below.drew ?_) | (with_reducible refine below_drewN ?_ _) | ((with_reducible refine Below.trans ?_ (Below.mono (by with_reducible assumption) ?hsz)); (case hsz => (first | omega | (simp; done) | (simp; omega) | (simp at *; omega))))))⟩
      case measure => simp [intOf]; omega
    · go_wp2
      go_ret
      have hk2 : k = ts.length := by omega
      subst hk2
      have hz : qs = ts := by
        rw [List.take_of_length_le (by omega), List.take_of_length_le (Nat.le_refl _)] at hqk
        exact hqk
      subst hz
      exact ⟨_, rfl, ⟨hown, by unfold small; omega⟩, by (repeat (first | (with_reducible assumption) | (with_reducible exact Below.refl _ _) | ((with_reducible refine Below.alloc ?_ ?hsz _); (case hsz => (first | omega | (simp; done) | (simp; omega) | (simp at *; omega)))) | ((with_reducible refine Below.setCell ?_ ?hsz _); (case hsz => (first | omega | (simp; done) | (simp; omega) | (simp at *; omega)))) | (with_reducible refine Below.drew ?_) | (with_reducible refine below_drewN ?_ _) | ((with_reducible refine Below.trans ?_ (Below.mono (by with_reducible assumption) ?hsz)); (case hsz => (first | omega | (simp; done) | (simp; omega) | (simp at *; omega))))))⟩

def eqMk (p q : Mk) : Bool := decide (p = q)
theorem eqMk_parts (p q : Mk) : (eqMk p q = true) ↔ (p.k = q.k ∧ p.h = q.h ∧ p.p = q.p) := by
  unfold eqMk
  cases p; cases q
  simp

set_option maxHeartbeats 400000 in
set_option maxRecDepth 20000 in
theorem eqMark_any (p q : Mk) (w : World) :
    Calls Try.prog 40 #[.agg #[.int .i64 p.k, .int .i64 p.h, .int .i64 p.p], .agg #[.int .i64 q.k, .int .i64 q.h, .int .i64 q.p]] w fun e w' => e = .returned (.bool (eqMk p q)) ∧ Below w.heap.size w w' := by
  have H := Lib.hid (eqMk_parts p q)
  go_enter Try.func40, Try.ntmps40
  go_wp2
  all_goals (go_ret; refine ⟨ret_bool ?_, by (repeat (first | (with_reducible assumption) | (with_reducible exact Below.refl _ _) | ((with_reducible refine Below.alloc ?_ ?hsz _); (case hsz => (first | omega | (simp; done) | (simp; omega) | (simp at *; omega)))) | ((with_reducible refine Below.setCell ?_ ?hsz _); (case hsz => (first | omega | (simp; done) | (simp; omega) | (simp at *; omega)))) | (with_reducible refine Below.drew ?_) | (with_reducible refine below_drewN ?_ _) | ((with_reducible refine Below.trans ?_ (Below.mono (by with_reducible assumption) ?hsz)); (case hsz => (first | omega | (simp; done) | (simp; omega) | (simp at *; omega))))))⟩)
  all_goals (first
    | (symm; rw [H.out]; simp_all; done)
    | (symm; rw [Bool.eq_false_iff]; intro h; rw [H.out] at h; simp_all; done))

set_option maxHeartbeats 1000000 in
set_option maxRecDepth 20000 in
theorem eqMarkS_any (v u : Value) (ps qs : List Mk) (b b' : Nat) (w : World) (hp : Marks w b v ps) (hq : Marks w b' u qs) :
    Calls Try.prog 14 #[v, u] w fun e w' => e = .returned (.bool (decide (ps = qs))) ∧ Below w.heap.size w w' := by
  obtain ⟨A, c, rfl, hc1, hc2, hs, hcell⟩ := hp.form
  obtain ⟨A', c', rfl, hc1', hc2', hs', hcell'⟩ := hq.form
  unfold maxLen at hc2 hc2'
  by_cases hl : ps.length = qs.length
  · have h0 : ((ps.length : Int) != (qs.length : Int)) = false := by simp [hl]
    have Hl := Lib.hid hl
    clear hl
    go_enter Try.func14, Try.ntmps14
    go_wp2
    go_loopw [5] (fun i wr => ∃ k : Nat, k ≤ ps.length ∧ i = .int .i64 k ∧ ps.take k = qs.take k ∧ Below w.heap.size w wr) (fun i _ => ps.length - (intOf i).toNat)
    case atStart => exact ⟨0, by omega, rfl, by simp, by (repeat (first | (with_reducible assumption) | (with_reducible exact Below.refl _ _) | ((with_reducible refine Below.alloc ?_ ?hsz _); (case hsz => (first | omega | (simp; done) | (simp; omega) | (simp at *; omega)))) | ((with_reducible refine Below.setCell ?_ ?hsz _); (case hsz => (first | omega | (simp; done) | (simp; omega) | (simp at *; omega)))) | (with_reducible refine Below.drew ?_) | (with_reducible refine below_drewN ?_ _) | ((with_reducible refine Below.trans ?_ (Below.mono (by with_reducible assumption) ?hsz)); (case hsz => (first | omega | (simp; done) | (simp; omega) | (simp at *; omega))))))⟩
    case round =>
      obtain ⟨k, hk, rfl, hall, hb⟩ := hrel
      have Hall := Lib.hid hall
      clear hall
      obtain ⟨hcr, hfr, hzr⟩ := bcell hb
      by_cases hlt : k < ps.length
      · have hlq : k < qs.length := by have := Hl.out; omega
        obtain ⟨g, rfl, hg1, hg2, c0, c1, c2⟩ := hcell w (Below.refl _ _) k hlt
        obtain ⟨g', rfl, hg1', hg2', d0, d1, d2⟩ := hcell' w (Below.refl _ _) k hlq
        have hgr : g < wr.heap.size := by omega
        have hgr' : g' < wr.heap.size := by omega
        go_wp2
        go_still_tail 8, (by kernel_rfl)
        change wpList _ _ _ _ _ wr.drew
        go_wp2_with (first
          | (go_at_call 40; ((with_reducible refine (eqMark_any ps[k] qs[k] _).mono ?_); rintro e w1 ⟨rfl, hb1⟩; obtain ⟨hc1, hf1, hz1⟩ := bcell hb1; (try simp at hz1); (try have hy1 : w.heap.size < w1.heap.size := by omega); (try have hy2 : w.heap.size + 1 < w1.heap.size := by omega); (try have hy3 : w.heap.size + 1 + 1 < w1.heap.size := by omega))))
        · have h1 : eqMk ps[k] qs[k] = false := of_not_t (by assumption)
          go_ret
          exact ⟨ret_bool (by
            symm; rw [decide_eq_false_iff_not]
            intro h; subst h; simp [eqMk] at h1), by (repeat (first | (with_reducible assumption) | (with_reducible exact Below.refl _ _) | ((with_reducible refine Below.alloc ?_ ?hsz _); (case hsz => (first | omega | (simp; done) | (simp; omega) | (simp at *; omega)))) | ((with_reducible refine Below.setCell ?_ ?hsz _); (case hsz => (first | omega | (simp; done) | (simp; omega) | (simp at *; omega)))) | (with_reducible refine Below.drew ?_) | (with_reducible refine below_drewN ?_ _) | ((with_reducible refine Below.trans ?_ (Below.mono (by with_reducible assumption) ?hsz)); (case hsz => (first | omega | (simp; done) | (simp; omega) | (simp at *; omega))))))⟩
        · have h1 : eqMk ps[k] qs[k] = true := of_not (by assumption)
          have h2 : ps[k] = qs[k] := by simpa [eqMk] using h1
          have h3 : ps.take (k + 1) = qs.take (k + 1) := by rw [List.take_succ_eq_append_getElem hlt, List.take_succ_eq_append_getElem hlq, Hall.out, h2]
          clear h2
          go_roundw
          case rel => exact ⟨k + 1, by omega, by go_num, h3, by (repeat (first | (with_reducible assumption) | (with_reducible exact Below.refl _ _) | ((with_reducible refine Below.alloc ?_ ?hsz _); (case hsz => (first | omega | (simp; done) | (simp; omega) | (simp at *; omega)))) | ((with_reducible refine Below.setCell ?_ ?hsz _); (case hsz => (first | omega | (simp; done) | (simp; omega) | (simp at *; omega)))) | (with_reducible refine Below.drew ?_) | (with_reducible refine below_drewN ?_ _) | ((with_reducible refine Below.trans ?_ (Below.mono (by with_reducible assumption) ?hsz)); (case hsz => (first | omega | (simp; done) | (simp; omega) | (simp at *; omega))))))⟩
          case measure => simp [intOf]; omega
      · go_wp2
        go_ret
        have : ps = qs := by
          have h := Hall.out
          rw [List.take_of_length_le (by omega), List.take_of_length_le (by have := Hl.out; omega)] at h
          exact h
        exact ⟨ret_bool (by simp [this]), by (repeat (first | (with_reducible assumption) | (with_reducible exact Below.refl _ _) | ((with_reducible refine Below.alloc ?_ ?hsz _); (case hsz => (first | omega | (simp; done) | (simp; omega) | (simp at *; omega)))) | ((with_reducible refine Below.setCell ?_ ?hsz _); (case hsz => (first | omega | (simp; done) | (simp; omega) | (simp at *; omega)))) | (with_reducible refine Below.drew ?_) | (with_reducible refine below_drewN ?_ _) | ((with_reducible refine Below.trans ?_ (Below.mono (by with_reducible assumption) ?hsz)); (case hsz => (first | omega | (simp; done) | (simp; omega) | (simp at *; omega))))))⟩
  · have h0 : ((ps.length : Int) != (qs.length : Int)) = true := by rw [bne_iff_ne]; omega
    have hne : decide (ps = qs) = false := by
      rw [decide_eq_false_iff_not]
      intro h; exact hl (by rw [h])
    have Hne := Lib.hid hne
    clear hl hne
    go_enter Try.func14, Try.ntmps14
    go_wp2
    go_ret
    exact ⟨ret_bool Hne.out.symm, by (repeat (first | (with_reducible assumption) | (with_reducible exact Below.refl _ _) | ((with_reducible refine Below.alloc ?_ ?hsz _); (case hsz => (first | omega | (simp; done) | (simp; omega) | (simp at *; omega)))) | ((with_reducible refine Below.setCell ?_ ?hsz _); (case hsz => (first | omega | (simp; done) | (simp; omega) | (simp at *; omega)))) | (with_reducible refine Below.drew ?_) | (with_reducible refine below_drewN ?_ _) | ((with_reducible refine Below.trans ?_ (Below.mono (by with_reducible assumption) ?hsz)); (case hsz => (first | omega | (simp; done) | (simp; omega) | (simp at *; omega))))))⟩

def markMk (m : Int) : Mk := ⟨m, m + 1, m + 1 + 1⟩
def upMarks (m : Int) : Nat → List Mk
  | 0 => []
  | n + 1 => markMk m :: upMarks (m + 3) n
theorem upMarks_len (m : Int) (n : Nat) : (upMarks m n).length = n := by
  induction n generalizing m with
  | zero => rfl
  | succ n ih => simp [upMarks, ih]
theorem upMarks_at (m : Int) (n i : Nat) (h : i < n) : (upMarks m n)[i]? = some (markMk (m + 3 * i)) := by
  induction n generalizing m i with
  | zero => omega
  | succ n ih =>
    cases i with
    | zero => simp [upMarks]
    | succ i =>
      have := ih (m + 3) i (by omega)
      simp only [upMarks, List.getElem?_cons_succ, this]
      congr 2; push_cast; omega

set_option maxHeartbeats 2000000 in
set_option maxRecDepth 20000 in
theorem markMarkS_any (v : Value) (ts : List Mk) (m : Int) (b : Nat) (w : World) (hx : Marks w b v ts) (h0 : 0 ≤ m) (h1 : m ≤ 1000000000) :
    Calls Try.prog 15 #[v, .int .i64 m] w fun e w' => e = .returned (.int .i64 (m + 3 * ts.length)) ∧ Marks w' b v (upMarks m ts.length) ∧ w.grownBy w' v.ownBlock := by
  obtain ⟨A, c, rfl, hc1, hc2, hs, hcell⟩ := hx.form
  unfold maxLen at hc2
  go_enter Try.func15, Try.ntmps15
  go_wp2
  go_loopw [5, 1] (fun i t wr => ∃ (k : Nat) (qs : List Mk), k ≤ ts.length ∧ i = .int .i64 k ∧ t = .int .i64 (m + 3 * k) ∧ qs.length = ts.length ∧ qs.take k = (upMarks m ts.length).take k ∧
      wr.ownsRow b 51 3 (.slice A ts.length c) ts.length (qs.flatMap Mk.cells) ∧ w.grownBy wr (Value.slice A ts.length c).ownBlock) (fun i _ _ => ts.length - (intOf i).toNat)
  case atStart => exact ⟨0, ts, by omega, rfl, by simp, rfl, by simp, hx.1, World.grownBy.refl w _⟩
  case round =>
    obtain ⟨k, qs, hk, rfl, rfl, hql, hqk, hown, hg⟩ := hrel
    by_cases hlt : k < ts.length
    · obtain ⟨g, rfl, hg1, hg2, -⟩ := hcell w (Below.refl _ _) k hlt
      have hq1 : k < qs.length := by omega
      obtain ⟨hgw, ⟨o0, o1, o2⟩, hof⟩ := own_cells3 (k := k) hown hq1
      have hset := own_set3 (k := k) hown hq1 (markMk (m + 3 * k))
      dsimp only [markMk] at hset
      have hgr := own_grow3 hown (k * 3) (k * 3 + 1) (k * 3 + 2) (.int .i64 (m + 3 * k)) (.int .i64 (m + 3 * k + 1)) (.int .i64 (m + 3 * k + 1 + 1))
      have Hs := Lib.hid hset
      have Hg := Lib.hid hgr
      have Hql := Lib.hid hql
      have Hqk := Lib.hid hqk
      clear hql hqk hset hgr
      go_wp2
      go_roundw
      case rel => exact ⟨k + 1, qs.set k (markMk (m + 3 * k)), by omega, by go_num, by congr 1; push_cast; omega, by simpa using Hql.out, set_take hq1 Hqk.out (upMarks_at m _ k hlt), Hs.out, hg.trans Hg.out⟩
      case measure => simp [intOf]; omega
    · go_wp2
      go_ret
      have hk2 : k = ts.length := by omega
      subst hk2
      have hz : qs = upMarks m ts.length := by
        rw [List.take_of_length_le (by omega), List.take_of_length_le (by rw [upMarks_len]; exact Nat.le_refl _)] at hqk
        exact hqk
      subst hz
      exact ⟨rfl, ⟨by rw [upMarks_len]; exact hown, by rw [upMarks_len]; unfold small; omega⟩, hg⟩

set_option maxHeartbeats 2000000 in
set_option maxRecDepth 20000 in
theorem heldMarkS_any (v : Value) (n : Nat) (m : Int) (b : Nat) (w : World) (hx : Marks w b v (upMarks m n)) (h0 : 0 ≤ m) (h1 : m ≤ 1000000000) :
    Calls Try.prog 16 #[v, .int .i64 m] w fun e w' => e = .returned (.int .i64 (m + 3 * n)) ∧ w = w' := by
  obtain ⟨A, c, rfl, hc1, hc2, hs, hcell⟩ := hx.form
  unfold maxLen at hc2
  rw [upMarks_len] at hc1 hs
  have hcell2 : ∀ k : Nat, k < n → ∃ g, A = some ⟨g, 0, none⟩ ∧ w.cell? ⟨g, k * 3, none⟩ = some (.int .i64 (m + 3 * k)) ∧ w.cell? ⟨g, k * 3 + 1, none⟩ = some (.int .i64 (m + 3 * k + 1)) ∧
      w.cell? ⟨g, k * 3 + 2, none⟩ = some (.int .i64 (m + 3 * k + 1 + 1)) := by
    intro k hk
    obtain ⟨g, hA, _, _, c0, c1, c2⟩ := hcell w (Below.refl _ _) k (by rw [upMarks_len]; exact hk)
    have := upMarks_at m n k hk
    rw [List.getElem?_eq_getElem (by rw [upMarks_len]; exact hk)] at this
    injection this with this
    rw [this] at c0 c1 c2
    exact ⟨g, hA, c0, c1, c2⟩
  rw [upMarks_len]
  clear hcell
  go_enter Try.func16, Try.ntmps16
  go_wp2
  go_loop [5, 1] (fun i t => ∃ k : Nat, k ≤ n ∧ i = .int .i64 k ∧ t = .int .i64 (m + 3 * k)) (fun i _ => n - (intOf i).toNat)
  case atStart => exact ⟨0, by omega, rfl, by simp⟩
  case round =>
    obtain ⟨k, hk, rfl, rfl⟩ := hrel
    by_cases hlt : k < n
    · obtain ⟨g, rfl, c0, c1, c2⟩ := hcell2 k hlt
      go_wp2
      go_round
      case rel => exact ⟨k + 1, by omega, by go_num, by congr 1; push_cast; omega⟩
      case measure => simp [intOf]; omega
    · have hk2 : k = n := by omega
      subst hk2
      go_wp2
      go_ret
      exact ⟨rfl, rfl⟩

end Go.Proofs.Ytffeeiafgheoaaa
