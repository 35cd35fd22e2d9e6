/- Contracts of the functions of chapter 8 in the program: rows of costs. -/
import Derived.Test.YtaohjhehlkeckaaAU
import Derived.Test.YtaohjhehlkeckaaAR
import Derived.Test.YtaohjhehlkeckaaW4
namespace Go.Proofs.Ytaohjhehlkeckaa
open Go.RowKit

set_option maxHeartbeats 1000000 in
set_option maxRecDepth 20000 in
theorem minInts_any (v : Value) (xs : List Int) (b : Nat) (w : World) (hx : Ints w b v xs) (h0 : 0 < xs.length) :
    Calls Try.prog 82 #[v] w fun e w' => e = .returned (.int .i64 (lowL xs)) ∧ Below w.heap.size w w' := by
  obtain ⟨A, c, rfl, hc1, hc2, hs, -⟩ := hx.form
  obtain ⟨g, rfl, -, hg2, -, -, hcell⟩ := own_at' hx h0
  unfold maxLen at hc2
  have f0 := hcell w (Below.refl _ _) 0 h0
  obtain ⟨L, hL⟩ : ∃ L, xs.length = L := ⟨_, rfl⟩
  have HL := Lib.hid hL
  rw [hL] at hc1 hs h0 ⊢
  have H1 := Lib.hid (show xs.getD 0 0 = lowL (xs.take 1) by
    have := HL.out
    match xs, this, h0 with
    | x :: r, _, _ => simp [lowL])
  have HC := Lib.hid hcell
  clear hL hcell
  generalize xs.getD 0 0 = x0 at *
  go_enter Try.func82, Try.ntmps82
  go_wp2
  go_loopw [4, 3] (fun i m wr => ∃ k : Nat, 1 ≤ k ∧ k ≤ L ∧ i = .int .i64 k ∧ m = .int .i64 (lowL (xs.take k)) ∧ Below w.heap.size w wr) (fun i _ _ => L - (intOf i).toNat)
  case atStart => exact ⟨1, by omega, by omega, rfl, by rw [H1.out], by (repeat (first | (with_reducible assumption) | (with_reducible exact Below.refl _ _) | ((with_reducible refine Below.alloc ?_ ?hsz _); (case hsz => (first | omega | (simp; done) | (simp; omega) | (simp at *; omega)))) | ((with_reducible refine Below.setCell ?_ ?hsz _); (case hsz => (first | omega | (simp; done) | (simp; omega) | (simp at *; omega)))) | (with_reducible refine Below.drew ?_) | (with_reducible refine below_drewN ?_ _) | ((with_reducible refine Below.trans ?_ (Below.mono (by with_reducible assumption) ?hsz)); (case hsz => (first | omega | (simp; done) | (simp; omega) | (simp at *; omega))))))⟩
  case round =>
    obtain ⟨k, hk1, hk, rfl, rfl, hb⟩ := hrel
    by_cases hlt : k < L
    · have hlt' : k < xs.length := by have := HL.out; omega
      have c0 := HC.out wr hb k hlt'
      have hgr : g < wr.heap.size := by have := hb.size; omega
      have hsn : lowL (xs.take (k + 1)) = min (lowL (xs.take k)) (xs.getD k 0) := by
        rw [List.take_succ_eq_append_getElem hlt', lowL_snoc (by intro e; have := congrArg List.length e; rw [List.length_take, List.length_nil] at this; omega)]
        simp [List.getD_eq_getElem?_getD, hlt']
      have HS := Lib.hid hsn
      clear hsn f0
      generalize xs.getD k 0 = x at *
      generalize lowL (xs.take k) = m at *
      by_cases hmx : m ≤ x
      all_goals
        go_wp2
        go_roundw
        case rel => exact ⟨k + 1, by omega, by omega, by go_num, by rw [HS.out]; congr 1; omega, by (repeat (first | (with_reducible assumption) | (with_reducible exact Below.refl _ _) | ((with_reducible refine Below.alloc ?_ ?hsz _); (case hsz => (first | omega | (simp; done) | (simp; omega) | (simp at *; omega)))) | ((with_reducible refine Below.setCell ?_ ?hsz _); (case hsz => (first | omega | (simp; done) | (simp; omega) | (simp at *; omega)))) | (with_reducible refine Below.drew ?_) | (with_reducible refine below_drewN ?_ _) | ((with_reducible refine Below.trans ?_ (Below.mono (by with_reducible assumption) ?hsz)); (case hsz => (first | omega | (simp; done) | (simp; omega) | (simp at *; omega))))))⟩
        case measure => simp [intOf] <;> omega
    · have hk2 : k = L := by omega
      subst hk2
      have hA := HL.out
      rw [← hA, List.take_length] at *
      go_wp2
      go_ret
      exact ⟨rfl, by (repeat (first | (with_reducible assumption) | (with_reducible exact Below.refl _ _) | ((with_reducible refine Below.alloc ?_ ?hsz _); (case hsz => (first | omega | (simp; done) | (simp; omega) | (simp at *; omega)))) | ((with_reducible refine Below.setCell ?_ ?hsz _); (case hsz => (first | omega | (simp; done) | (simp; omega) | (simp at *; omega)))) | (with_reducible refine Below.drew ?_) | (with_reducible refine below_drewN ?_ _) | ((with_reducible refine Below.trans ?_ (Below.mono (by with_reducible assumption) ?hsz)); (case hsz => (first | omega | (simp; done) | (simp; omega) | (simp at *; omega))))))⟩

set_option maxHeartbeats 1000000 in
set_option maxRecDepth 20000 in
theorem pipeCosts_any (k0 h p : Int) (w : World) (hgd : (0 ≤ h ∧ h ≤ 4) ∧ 0 ≤ p ∧ p ≤ 9) :
    Calls Try.prog 64 #[.agg #[.int .i64 k0, .int .i64 h, .int .i64 p]] w fun e w' => ∃ r, e = .returned r ∧ Ints w' w.heap.size r (pipeL h p) ∧ Below w.heap.size w w' := by
  obtain ⟨⟨h1, h2⟩, p1, p2⟩ := hgd
  obtain ⟨H, hH1, hH2⟩ : ∃ H : Nat, (H : Int) = h + 1 ∧ (pipeL h p).length = H := ⟨(h + 1).toNat, by omega, by simp [pipeL]; omega⟩
  have hh : h = (H : Int) - 1 := by omega
  have HPL := Lib.hid (show ∀ k : Nat, k < H → (pipeL h p)[k]? = some ((k : Int) * p) from fun k hk => by rw [List.getElem?_eq_getElem (by omega)]; simp [pipeL])
  have HPN := Lib.hid hH2
  generalize pipeL h p = PL at *
  subst hh
  clear hH1 hH2
  have hH5 : H ≤ 5 := by omega
  have hmk := fun W => run_make_ints (n := H) (by omega) W
  have hb0 : ∀ W : World, Below W.heap.size W W := fun W => Below.refl _ _
  go_enter Try.func64, Try.ntmps64
  go_wp2
  go_loopw [11] (fun i wr => ∃ (k : Nat) (zs : List Int), k ≤ H ∧ i = .int .i64 k ∧ zs.length = H ∧ zs.take k = PL.take k ∧
      wr.ownsRow w.heap.size 3 1 (.slice (some ⟨w.heap.size + 1, 0, none⟩) H H) H (zs.map (Value.int .i64)) ∧ Below w.heap.size w wr ∧ wr.cell? ⟨w.heap.size, 2, none⟩ = some (.int .i64 p)) (fun i _ => H - (intOf i).toNat)
  case atStart => exact ⟨0, List.replicate H 0, by omega, rfl, by simp, by simp, by
      have h := made_ints (w.alloc (.cells #[.int .i64 k0, .int .i64 ((H : Int) - 1), .int .i64 p] 33)) H 3 w.heap.size (by simp) (by omega)
      rw [World.size_alloc] at h
      exact h, by (repeat (first | (with_reducible assumption) | (with_reducible exact Below.refl _ _) | ((with_reducible refine Below.alloc ?_ ?hsz _); (case hsz => (first | omega | (simp; done) | (simp; omega) | (simp at *; omega)))) | ((with_reducible refine Below.setCell ?_ ?hsz _); (case hsz => (first | omega | (simp; done) | (simp; omega) | (simp at *; omega)))) | (with_reducible refine Below.drew ?_) | (with_reducible refine below_drewN ?_ _) | ((with_reducible refine Below.trans ?_ (Below.mono (by with_reducible assumption) ?hsz)); (case hsz => (first | omega | (simp; done) | (simp; omega) | (simp at *; omega)))))), by go_simp⟩
  case round =>
    obtain ⟨k, zs, hk, rfl, hzl, hzk, hown, hb, hp2⟩ := hrel
    have hzr := hb.size
    by_cases hlt : k < H
    · obtain ⟨z, o0⟩ : ∃ z : Int, wr.cell? ⟨w.heap.size + 1, k, none⟩ = some (.int .i64 z) := ⟨zs[k]'(by omega), by
        rw [hown.cellAt k (by omega)]; simp [hzl, hlt]⟩
      have o1 := hown.frozenAt k
      have o2 := (hown.lt _ rfl).2
      have e1 : 0 ≤ (k : Int) * p := Int.mul_nonneg (by omega) (by omega)
      have e2 : (k : Int) * p ≤ 4 * 9 := Int.mul_le_mul (by omega) (by omega) (by omega) (by omega)
      have hw : IntKind.i64.wrap ((k : Int) * p) = (k : Int) * p := IntWalk.i64_in _ (by omega)
      have hw2 : RowKit.wrap64 ((k : Int) * p) = (k : Int) * p := IntWalk.wrap64_in _ (by omega)
      have Hzl := Lib.hid hzl
      have Hzk := Lib.hid hzk
      have HO := Lib.hid hown
      clear hzl hzk hown
      go_wp2
      have hst := HO.out.stored k (.int .i64 ((k : Int) * p))
      go_roundw
      case rel => exact ⟨k + 1, zs.set k ((k : Int) * p), by omega, by go_num, by simpa using Hzl.out, set_take (by have := Hzl.out; omega) Hzk.out (HPL.out k hlt),
        by rw [List.map_set]; exact hst.1, by (repeat (first | (with_reducible assumption) | (with_reducible exact Below.refl _ _) | ((with_reducible refine Below.alloc ?_ ?hsz _); (case hsz => (first | omega | (simp; done) | (simp; omega) | (simp at *; omega)))) | ((with_reducible refine Below.setCell ?_ ?hsz _); (case hsz => (first | omega | (simp; done) | (simp; omega) | (simp at *; omega)))) | (with_reducible refine Below.drew ?_) | (with_reducible refine below_drewN ?_ _) | ((with_reducible refine Below.trans ?_ (Below.mono (by with_reducible assumption) ?hsz)); (case hsz => (first | omega | (simp; done) | (simp; omega) | (simp at *; omega)))))), by (repeat (first | (with_reducible assumption) | ((with_reducible refine (Below.cell (by with_reducible assumption) ?hsz).trans ?_); (case hsz => (first | omega | (simp; done) | (simp; omega) | (simp at *; omega)))) | ((with_reducible refine (World.cell?_alloc_lt _ _ _ ?hsz).trans ?_); (case hsz => (first | omega | (simp; done) | (simp; omega) | (simp at *; omega)))) | ((with_reducible refine (World.cell?_setCell_other _ _ _ _ ?hsz).trans ?_); (case hsz => (intro h; injection h with h1 h2; omega)))))⟩
      case measure => simp [intOf] <;> omega
    · have hk2 : k = H := by omega
      subst hk2
      have hz : zs = PL := by
        rw [List.take_of_length_le (by omega), List.take_of_length_le (by rw [HPN.out]; exact Nat.le_refl _)] at hzk
        exact hzk
      subst hz
      have HO := Lib.hid hown
      clear hown hzk
      go_wp2
      go_ret
      exact ⟨_, rfl, ⟨by rw [HPN.out]; exact HO.out, by rw [HPN.out]; unfold small; omega⟩, by (repeat (first | (with_reducible assumption) | (with_reducible exact Below.refl _ _) | ((with_reducible refine Below.alloc ?_ ?hsz _); (case hsz => (first | omega | (simp; done) | (simp; omega) | (simp at *; omega)))) | ((with_reducible refine Below.setCell ?_ ?hsz _); (case hsz => (first | omega | (simp; done) | (simp; omega) | (simp at *; omega)))) | (with_reducible refine Below.drew ?_) | (with_reducible refine below_drewN ?_ _) | ((with_reducible refine Below.trans ?_ (Below.mono (by with_reducible assumption) ?hsz)); (case hsz => (first | omega | (simp; done) | (simp; omega) | (simp at *; omega))))))⟩

theorem behindFn_any (x y : Int) (w : World) (h0 : 0 ≤ x ∧ x ≤ 252) (h1 : 0 ≤ y ∧ y ≤ 252) :
    Calls Try.prog 81 #[.int .i64 x, .int .i64 y] w fun e w' => e = .returned (.int .i64 (x + y)) ∧ w = w' := by
  go_enter Try.func81, Try.ntmps81
  go_wp2
  go_ret
  exact ⟨rfl, rfl⟩

set_option maxHeartbeats 1000000 in
set_option maxRecDepth 20000 in
theorem joinedBehind_any (v u : Value) (xs ys : List Int) (b b' : Nat) (w : World) (hx : Ints w b v xs) (hy : Ints w b' u ys) (hl : xs.length = ys.length) (ha : ∀ x ∈ xs, 0 ≤ x ∧ x ≤ 252) (ha2 : ∀ x ∈ ys, 0 ≤ x ∧ x ≤ 252) :
    Calls Try.prog 80 #[v, u, .func (Fn.func 81) #[] #[]] w fun e w' => ∃ r, e = .returned r ∧ Ints w' w.heap.size r (addAll xs ys) ∧ Below w.heap.size w w' := by
  obtain ⟨A, c, rfl, hc1, hc2, hs, hcell⟩ := hx.form
  obtain ⟨A', c', rfl, hc1', hc2', hs', hcell'⟩ := hy.form
  unfold maxLen at hc2 hc2'
  have Hl := Lib.hid hl
  clear hl
  have hmk := fun W => run_make_ints hs W
  go_enter Try.func80, Try.ntmps80
  go_wp2
  go_loopw [14] (fun i wr => ∃ (k : Nat) (zs : List Int), k ≤ xs.length ∧ i = .int .i64 k ∧ zs.length = xs.length ∧ zs.take k = (addAll xs ys).take k ∧
      wr.ownsRow w.heap.size 3 1 (.slice (some ⟨w.heap.size, 0, none⟩) xs.length xs.length) xs.length (zs.map (Value.int .i64)) ∧ Below w.heap.size w wr) (fun i _ => xs.length - (intOf i).toNat)
  case atStart => exact ⟨0, List.replicate xs.length 0, by omega, rfl, by simp, by simp, by
      have h := World.ownsRow_lit (e := 3) (base := w.heap.size) (size := 1) w (madeCells #[.int .i64 0] xs.length) xs.length (Nat.le_refl _) (by unfold maxLen; omega) (by simp [madeCells])
      rw [toList_madeCells_one] at h
      simpa using h, by (repeat (first | (with_reducible assumption) | (with_reducible exact Below.refl _ _) | ((with_reducible refine Below.alloc ?_ ?hsz _); (case hsz => (first | omega | (simp; done) | (simp; omega) | (simp at *; omega)))) | ((with_reducible refine Below.setCell ?_ ?hsz _); (case hsz => (first | omega | (simp; done) | (simp; omega) | (simp at *; omega)))) | (with_reducible refine Below.drew ?_) | (with_reducible refine below_drewN ?_ _) | ((with_reducible refine Below.trans ?_ (Below.mono (by with_reducible assumption) ?hsz)); (case hsz => (first | omega | (simp; done) | (simp; omega) | (simp at *; omega))))))⟩
  case round =>
    obtain ⟨k, zs, hk, rfl, hzl, hzk, hown, hb⟩ := hrel
    obtain ⟨hcr, hfr, hzr⟩ := bcell hb
    by_cases hlt : k < xs.length
    · have hly : k < ys.length := by have := Hl.out; omega
      obtain ⟨g, rfl, hg1, hg2, c0, _⟩ := hcell w (Below.refl _ _) k hlt
      obtain ⟨g', rfl, hg1', hg2', c0', _⟩ := hcell' w (Below.refl _ _) k hly
      obtain ⟨z, o0⟩ : ∃ z : Int, wr.cell? ⟨w.heap.size, k, none⟩ = some (.int .i64 z) := ⟨zs[k]'(by omega), by
        rw [hown.cellAt k (by omega)]; simp [hzl, hlt]⟩
      have o1 := hown.frozenAt k
      have v1 := ha _ (List.getElem_mem hlt)
      have v3 := ha2 _ (List.getElem_mem hly)
      have Hzl := Lib.hid hzl
      have Hzk := Lib.hid hzk
      clear hzl hzk
      go_wp2
      go_still_tail 12, (by kernel_rfl)
      still_call ((behindFn_any _ _ _ v1 v3).mono fun _ _ h => ⟨h.1, h.2.symm⟩)
      refine wpStill_nil ?_
      change wpList _ _ _ _ _ wr.drew
      go_wp2
      have hst := hown.stored k (.int .i64 (xs[k] + ys[k]))
      go_roundw
      case rel => exact ⟨k + 1, zs.set k (xs[k] + ys[k]), by omega, by go_num, by simpa using Hzl.out, set_take (by have := Hzl.out; omega) Hzk.out (addAll_at hlt hly),
        by rw [List.map_set]; exact hst.1, by (repeat (first | (with_reducible assumption) | (with_reducible exact Below.refl _ _) | ((with_reducible refine Below.alloc ?_ ?hsz _); (case hsz => (first | omega | (simp; done) | (simp; omega) | (simp at *; omega)))) | ((with_reducible refine Below.setCell ?_ ?hsz _); (case hsz => (first | omega | (simp; done) | (simp; omega) | (simp at *; omega)))) | (with_reducible refine Below.drew ?_) | (with_reducible refine below_drewN ?_ _) | ((with_reducible refine Below.trans ?_ (Below.mono (by with_reducible assumption) ?hsz)); (case hsz => (first | omega | (simp; done) | (simp; omega) | (simp at *; omega))))))⟩
      case measure => simp [intOf]; omega
    · go_wp2
      go_ret
      have hk2 : k = xs.length := by omega
      subst hk2
      have hz : zs = addAll xs ys := by
        rw [List.take_of_length_le (by omega), List.take_of_length_le (by rw [addAll_len Hl.out]; exact Nat.le_refl _)] at hzk
        exact hzk
      subst hz
      exact ⟨_, rfl, ⟨by rw [addAll_len Hl.out]; exact hown, by rw [addAll_len Hl.out]; exact hs⟩, by (repeat (first | (with_reducible assumption) | (with_reducible exact Below.refl _ _) | ((with_reducible refine Below.alloc ?_ ?hsz _); (case hsz => (first | omega | (simp; done) | (simp; omega) | (simp at *; omega)))) | ((with_reducible refine Below.setCell ?_ ?hsz _); (case hsz => (first | omega | (simp; done) | (simp; omega) | (simp at *; omega)))) | (with_reducible refine Below.drew ?_) | (with_reducible refine below_drewN ?_ _) | ((with_reducible refine Below.trans ?_ (Below.mono (by with_reducible assumption) ?hsz)); (case hsz => (first | omega | (simp; done) | (simp; omega) | (simp at *; omega))))))⟩

theorem Ints.front {w : World} {b n m c : Nat} {A : Option Addr} {xs : List Int} (h : Ints w b (.slice A n c) xs) (h0 : 0 < xs.length) (hm : m ≤ xs.length) : Ints w b (.slice A m c) (xs.take m) := by
  obtain ⟨g, rfl, -, -, -, -, -⟩ := own_at' h h0
  obtain ⟨A', c', hv, -, -, -, -⟩ := h.form
  injection hv with _ hn _
  subst hn
  have h1 := own_fst h.1 hm
  refine ⟨by rw [List.length_take, Nat.min_eq_left hm, List.map_take]; simpa using h1, by have := h.2; rw [List.length_take]; omega⟩
theorem addAll_take {xs ys : List Int} : addAll (xs.take (min xs.length ys.length)) (ys.take (min xs.length ys.length)) = behindL xs ys := by
  apply List.ext_getElem?
  intro i
  by_cases hi : i < min xs.length ys.length
  · simp [addAll, behindL, hi, List.getD_eq_getElem?_getD, show i < xs.length by omega, show i < ys.length by omega]
  · simp [addAll, behindL, hi]

/-- what the operations yield -/
def avB (B g g' L L' c c' m : Nat) (R : List Int) : Nat → Value → World → Prop
  | 0, x, _ => x = .slice (some ⟨g, 0, none⟩) L c
  | 1, x, _ => x = .int .i64 (m : Int)
  | 2, x, _ => x = .slice (some ⟨g, 0, none⟩) m c
  | 3, x, _ => x = .slice (some ⟨g', 0, none⟩) L' c'
  | 4, x, _ => x = .int .i64 (m : Int)
  | 5, x, _ => x = .slice (some ⟨g', 0, none⟩) m c'
  | 6, x, w => ∃ s, x = s ∧ Ints w B s R
  | 7, x, w => ∃ s, x = s ∧ Ints w B s R
  | _, _, _ => True

set_option maxHeartbeats 1000000 in
set_option maxRecDepth 20000 in
theorem costsBehind_any (v u : Value) (xs ys : List Int) (b b' : Nat) (w : World) (hx : Ints w b v xs) (hy : Ints w b' u ys) (hx0 : 0 < xs.length) (hy0 : 0 < ys.length) (ha : ∀ x ∈ xs, 0 ≤ x ∧ x ≤ 252) (ha2 : ∀ x ∈ ys, 0 ≤ x ∧ x ≤ 252) :
    Calls Try.prog 66 #[v, u] w fun e w' => ∃ r, e = .returned r ∧ Ints w' w.heap.size r (behindL xs ys) ∧ Below w.heap.size w w' := by
  obtain ⟨A, c, rfl, hc1, hc2, hs, -⟩ := hx.form
  obtain ⟨A', c', rfl, hc1', hc2', hs', -⟩ := hy.form
  obtain ⟨g, rfl, hg1, hg2, -, -, -⟩ := own_at' hx hx0
  obtain ⟨g', rfl, hg1', hg2', -, -, -⟩ := own_at' hy hy0
  unfold maxLen at hc2 hc2'
  rw [← addAll_take]
  obtain ⟨m, hm⟩ : ∃ m, min xs.length ys.length = m := ⟨_, rfl⟩
  rw [hm]
  have hx1 := hx.front hx0 (m := m) (by omega)
  have hy1 := hy.front hy0 (m := m) (by omega)
  have hlm : (xs.take m).length = (ys.take m).length := by rw [List.length_take, List.length_take]; omega
  have HM := Lib.hid (And.intro hx1 (And.intro hy1 (And.intro hlm (And.intro (show ∀ x ∈ xs.take m, 0 ≤ x ∧ x ≤ 252 from fun x hx => ha x (List.mem_of_mem_take hx)) (show ∀ x ∈ ys.take m, 0 ≤ x ∧ x ≤ 252 from fun x hx => ha2 x (List.mem_of_mem_take hx))))))
  clear hx1 hy1 hlm hx hy ha ha2
  by_cases hle : xs.length ≤ ys.length
  · have hmx : xs.length = m := by omega
    rw [hmx] at hle hc1 hs hx0 hm ⊢
    clear hmx hm
    go_enter Try.func66, Try.ntmps66
    go_wp2_with fail
    refine wp_region_flow 8 none [(0, 11), (1, 12), (2, 13), (3, 14), (4, 15), (5, 16), (6, 17), (7, 4)] (fun j x _ wx => avB w.heap.size g g' m ys.length c c' m (addAll (xs.take m) (ys.take m)) j x wx) (fun _ wx wy => Below wx.heap.size wx wy) (fun _ wx => Below w.heap.size w wx) (by kernel_rfl) (by kernel_rfl) rfl ⟨rfl, rfl, rfl, Nat.le_refl _, fun _ _ => rfl⟩ ?_ ?_ ?_ ?_
    · intro i j hi hj hal x u wa wb hR hV
      have hj' : j < 8 := hj
      rcases j with _ | _ | _ | _ | _ | _ | _ | _ | j
      all_goals first
        | exact hV
        | (exfalso; omega)
        | (obtain ⟨s, h1, h2⟩ := hV; exact ⟨s, h1, h2.keep hR⟩)
    · exact fun _ _ _ _ _ _ _ h => h
    · simp (maxSteps := 4000000) only [eachOp, fillF, List.setIfInBounds_toArray, List.set_cons_succ, List.set_cons_zero]
      refine ⟨?_, ?_, ?_, ?_, ?_, ?_, ?_, ?_, trivial⟩ <;> intro u f wx hC hd <;> (try simp [allV, useOf, Region.binds] at hd)
      · go_wp2
        exact ⟨_, rfl, rfl, Below.refl _ _, hC⟩
      · go_wp2
        exact ⟨_, rfl, rfl, Below.refl _ _, hC⟩
      · rw [show u 0 = _ from (by first | exact hd | exact hd.1 | exact hd.2 | exact hd.2.1 | exact hd.2.2 | exact hd.2.2.1 | exact hd.2.2.2 | exact hd.2.2.2.1 | exact hd.2.2.2.2), show u 1 = _ from (by first | exact hd | exact hd.1 | exact hd.2 | exact hd.2.1 | exact hd.2.2 | exact hd.2.2.1 | exact hd.2.2.2 | exact hd.2.2.2.1 | exact hd.2.2.2.2)]
        go_wp2
        exact ⟨_, rfl, rfl, Below.refl _ _, hC⟩
      · go_wp2
        exact ⟨_, rfl, rfl, Below.refl _ _, hC⟩
      · go_wp2
        exact ⟨_, rfl, rfl, Below.refl _ _, hC⟩
      · rw [show u 3 = _ from (by first | exact hd | exact hd.1 | exact hd.2 | exact hd.2.1 | exact hd.2.2 | exact hd.2.2.1 | exact hd.2.2.2 | exact hd.2.2.2.1 | exact hd.2.2.2.2), show u 4 = _ from (by first | exact hd | exact hd.1 | exact hd.2 | exact hd.2.1 | exact hd.2.2 | exact hd.2.2.1 | exact hd.2.2.2 | exact hd.2.2.2.1 | exact hd.2.2.2.2)]
        go_wp2
        exact ⟨_, rfl, rfl, Below.refl _ _, hC⟩
      · rw [show u 2 = _ from (by first | exact hd | exact hd.1 | exact hd.2 | exact hd.2.1 | exact hd.2.2 | exact hd.2.2.1 | exact hd.2.2.2 | exact hd.2.2.2.1 | exact hd.2.2.2.2), show u 5 = _ from (by first | exact hd | exact hd.1 | exact hd.2 | exact hd.2.1 | exact hd.2.2 | exact hd.2.2.1 | exact hd.2.2.2 | exact hd.2.2.2.1 | exact hd.2.2.2.2)]
        go_wp2_with fail
        refine (joinedBehind_any _ _ _ _ _ _ _ (HM.out.1.keep hC) (HM.out.2.1.keep hC) HM.out.2.2.1 HM.out.2.2.2.1 HM.out.2.2.2.2).mono ?_
        rintro e wy ⟨r, rfl, hr, hby⟩
        go_wp2
        exact ⟨_, rfl, ⟨r, rfl, hr.mono hC.size⟩, hby, hC.trans (hby.mono hC.size)⟩
      · obtain ⟨s, hs, hr⟩ : ∃ s, u 6 = s ∧ Ints wx w.heap.size s (addAll (xs.take m) (ys.take m)) := hd
        obtain ⟨A9, c9, rfl, -, -, -, -⟩ := hr.form
        rw [hs]
        go_wp2
        exact ⟨_, rfl, ⟨_, rfl, hr⟩, Below.refl _ _, hC⟩
    · intro u f wx hC hfin
      simp only [fillEnd, fillF, Act.put, List.setIfInBounds_toArray, List.set_cons_succ, List.set_cons_zero]
      obtain ⟨s, hs9, hr9⟩ : ∃ s, u 7 = s ∧ Ints wx w.heap.size s (addAll (xs.take m) (ys.take m)) := hfin 7 (by decide) (by decide)
      obtain ⟨A9, c9, rfl, -, -, -, -⟩ := hr9.form
      rw [hs9]
      go_wp2
      go_ret
      exact ⟨_, rfl, hr9, hC⟩
  · have hmy : ys.length = m := by omega
    have hle2 : m ≤ xs.length := by omega
    rw [hmy] at hle hc1' hs' hy0 hm ⊢
    clear hmy hm
    go_enter Try.func66, Try.ntmps66
    go_wp2_with fail
    refine wp_region_flow 8 none [(0, 11), (1, 12), (2, 13), (3, 14), (4, 15), (5, 16), (6, 17), (7, 4)] (fun j x _ wx => avB w.heap.size g g' xs.length m c c' m (addAll (xs.take m) (ys.take m)) j x wx) (fun _ wx wy => Below wx.heap.size wx wy) (fun _ wx => Below w.heap.size w wx) (by kernel_rfl) (by kernel_rfl) rfl ⟨rfl, rfl, rfl, Nat.le_refl _, fun _ _ => rfl⟩ ?_ ?_ ?_ ?_
    · intro i j hi hj hal x u wa wb hR hV
      have hj' : j < 8 := hj
      rcases j with _ | _ | _ | _ | _ | _ | _ | _ | j
      all_goals first
        | exact hV
        | (exfalso; omega)
        | (obtain ⟨s, h1, h2⟩ := hV; exact ⟨s, h1, h2.keep hR⟩)
    · exact fun _ _ _ _ _ _ _ h => h
    · simp (maxSteps := 4000000) only [eachOp, fillF, List.setIfInBounds_toArray, List.set_cons_succ, List.set_cons_zero]
      refine ⟨?_, ?_, ?_, ?_, ?_, ?_, ?_, ?_, trivial⟩ <;> intro u f wx hC hd <;> (try simp [allV, useOf, Region.binds] at hd)
      · go_wp2
        exact ⟨_, rfl, rfl, Below.refl _ _, hC⟩
      · go_wp2
        exact ⟨_, rfl, rfl, Below.refl _ _, hC⟩
      · rw [show u 0 = _ from (by first | exact hd | exact hd.1 | exact hd.2 | exact hd.2.1 | exact hd.2.2 | exact hd.2.2.1 | exact hd.2.2.2 | exact hd.2.2.2.1 | exact hd.2.2.2.2), show u 1 = _ from (by first | exact hd | exact hd.1 | exact hd.2 | exact hd.2.1 | exact hd.2.2 | exact hd.2.2.1 | exact hd.2.2.2 | exact hd.2.2.2.1 | exact hd.2.2.2.2)]
        go_wp2
        exact ⟨_, rfl, rfl, Below.refl _ _, hC⟩
      · go_wp2
        exact ⟨_, rfl, rfl, Below.refl _ _, hC⟩
      · go_wp2
        exact ⟨_, rfl, rfl, Below.refl _ _, hC⟩
      · rw [show u 3 = _ from (by first | exact hd | exact hd.1 | exact hd.2 | exact hd.2.1 | exact hd.2.2 | exact hd.2.2.1 | exact hd.2.2.2 | exact hd.2.2.2.1 | exact hd.2.2.2.2), show u 4 = _ from (by first | exact hd | exact hd.1 | exact hd.2 | exact hd.2.1 | exact hd.2.2 | exact hd.2.2.1 | exact hd.2.2.2 | exact hd.2.2.2.1 | exact hd.2.2.2.2)]
        go_wp2
        exact ⟨_, rfl, rfl, Below.refl _ _, hC⟩
      · rw [show u 2 = _ from (by first | exact hd | exact hd.1 | exact hd.2 | exact hd.2.1 | exact hd.2.2 | exact hd.2.2.1 | exact hd.2.2.2 | exact hd.2.2.2.1 | exact hd.2.2.2.2), show u 5 = _ from (by first | exact hd | exact hd.1 | exact hd.2 | exact hd.2.1 | exact hd.2.2 | exact hd.2.2.1 | exact hd.2.2.2 | exact hd.2.2.2.1 | exact hd.2.2.2.2)]
        go_wp2_with fail
        refine (joinedBehind_any _ _ _ _ _ _ _ (HM.out.1.keep hC) (HM.out.2.1.keep hC) HM.out.2.2.1 HM.out.2.2.2.1 HM.out.2.2.2.2).mono ?_
        rintro e wy ⟨r, rfl, hr, hby⟩
        go_wp2
        exact ⟨_, rfl, ⟨r, rfl, hr.mono hC.size⟩, hby, hC.trans (hby.mono hC.size)⟩
      · obtain ⟨s, hs, hr⟩ : ∃ s, u 6 = s ∧ Ints wx w.heap.size s (addAll (xs.take m) (ys.take m)) := hd
        obtain ⟨A9, c9, rfl, -, -, -, -⟩ := hr.form
        rw [hs]
        go_wp2
        exact ⟨_, rfl, ⟨_, rfl, hr⟩, Below.refl _ _, hC⟩
    · intro u f wx hC hfin
      simp only [fillEnd, fillF, Act.put, List.setIfInBounds_toArray, List.set_cons_succ, List.set_cons_zero]
      obtain ⟨s, hs9, hr9⟩ : ∃ s, u 7 = s ∧ Ints wx w.heap.size s (addAll (xs.take m) (ys.take m)) := hfin 7 (by decide) (by decide)
      obtain ⟨A9, c9, rfl, -, -, -, -⟩ := hr9.form
      rw [hs9]
      go_wp2
      go_ret
      exact ⟨_, rfl, hr9, hC⟩

end Go.Proofs.Ytaohjhehlkeckaa
