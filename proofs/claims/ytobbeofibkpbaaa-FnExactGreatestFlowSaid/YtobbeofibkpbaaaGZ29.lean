/- Plain facts. -/
import Derived.Test.YtobbeofibkpbaaaMG
/- Contracts of what the exact laws call: marks. -/
namespace Go.Proofs.Ytobbeofibkpbaaa
open Go.RowKit

def upFrom (k : Int) : Nat → List Int
  | 0 => []
  | n + 1 => k :: upFrom (k + 1) n

theorem upFrom_len (k : Int) (n : Nat) : (upFrom k n).length = n := by
  induction n generalizing k with
  | zero => rfl
  | succ n ih => simp [upFrom, ih]

theorem upFrom_at (k : Int) (n i : Nat) (h : i < n) : (upFrom k n)[i]? = some (k + i) := by
  induction n generalizing k i with
  | zero => omega
  | succ n ih =>
    cases i with
    | zero => simp [upFrom]
    | succ i =>
      have := ih (k + 1) i (by omega)
      simp only [upFrom, List.getElem?_cons_succ, this]
      congr 1; push_cast; omega

set_option maxHeartbeats 1000000 in
set_option maxRecDepth 20000 in
theorem markIntS_any (v : Value) (xs : List Int) (m : Int) (b : Nat) (w : World) (hx : Ints w b v xs) (h0 : 0 ≤ m) (h1 : m ≤ 1000000000) :
    Calls Try.prog 56 #[v, .int .i64 m] w fun e w' => e = .returned (.int .i64 (m + xs.length)) ∧ Ints w' b v (upFrom m xs.length) ∧ w.grownBy w' v.ownBlock := by
  obtain ⟨A, c, rfl, hc1, hc2, hs, hcell⟩ := hx.form
  unfold maxLen at hc2
  go_enter Try.func56, Try.ntmps56
  go_wp2
  go_loopw [5, 1] (fun i t wr => ∃ (k : Nat) (zs : List Int), k ≤ xs.length ∧ i = .int .i64 k ∧ t = .int .i64 (m + k) ∧ zs.length = xs.length ∧ zs.take k = (upFrom m xs.length).take k ∧
      wr.ownsRow b 3 1 (.slice A xs.length c) xs.length (zs.map (Value.int .i64)) ∧ w.grownBy wr (Value.slice A xs.length c).ownBlock) (fun i _ _ => xs.length - (intOf i).toNat)
  case atStart => exact ⟨0, xs, by omega, rfl, by simp, rfl, by simp, hx.1, World.grownBy.refl w _⟩
  case round =>
    obtain ⟨k, zs, hk, rfl, rfl, hzl, hzk, hown, hg⟩ := hrel
    by_cases hlt : k < xs.length
    · obtain ⟨g, rfl, hg1, hg2, _, _⟩ := hcell w (Below.refl _ _) k hlt
      obtain ⟨z, o0⟩ : ∃ z : Int, wr.cell? ⟨g, k, none⟩ = some (.int .i64 z) := ⟨zs[k]'(by omega), by
        rw [hown.cellAt k (by omega)]; simp [hzl, hlt]⟩
      have o1 := hown.frozenAt k
      have Hzl := Lib.hid hzl
      have Hzk := Lib.hid hzk
      clear hzl hzk
      go_wp2
      have hst := hown.stored k (.int .i64 (m + k))
      go_roundw
      case rel => exact ⟨k + 1, zs.set k (m + k), by omega, by go_num, by go_num, by simpa using Hzl.out, set_take (by have := Hzl.out; omega) Hzk.out (upFrom_at m _ k hlt),
        by rw [List.map_set]; exact hst.1, hg.trans hst.2⟩
      case measure => simp [intOf]; omega
    · go_wp2
      go_ret
      have hk2 : k = xs.length := by omega
      subst hk2
      have hz : zs = upFrom m xs.length := by
        rw [List.take_of_length_le (by omega), List.take_of_length_le (by rw [upFrom_len]; exact Nat.le_refl _)] at hzk
        exact hzk
      subst hz
      exact ⟨rfl, ⟨by rw [upFrom_len]; exact hown, by rw [upFrom_len]; unfold small; omega⟩, hg⟩

set_option maxHeartbeats 1000000 in
set_option maxRecDepth 20000 in
theorem heldIntS_any (v : Value) (n : Nat) (m : Int) (b : Nat) (w : World) (hx : Ints w b v (upFrom m n)) (h0 : 0 ≤ m) (h1 : m ≤ 1000000000) :
    Calls Try.prog 57 #[v, .int .i64 m] w fun e w' => e = .returned (.int .i64 (m + n)) ∧ w = w' := by
  obtain ⟨A, c, rfl, hc1, hc2, hs, hcell⟩ := hx.form
  unfold maxLen at hc2
  rw [upFrom_len] at hc1 hs
  have hcell2 : ∀ k, k < n → ∃ g, A = some ⟨g, 0, none⟩ ∧ w.cell? ⟨g, k, none⟩ = some (.int .i64 (m + k)) := by
    intro k hk
    obtain ⟨g, hA, _, _, c0, _⟩ := hcell w (Below.refl _ _) k (by rw [upFrom_len]; exact hk)
    refine ⟨g, hA, ?_⟩
    rw [c0]
    have := upFrom_at m n k hk
    rw [List.getElem?_eq_getElem (by rw [upFrom_len]; exact hk)] at this
    injection this with this
    rw [this]
  rw [upFrom_len]
  clear hcell
  go_enter Try.func57, Try.ntmps57
  go_wp2
  go_loop [5, 1] (fun i t => ∃ k : Nat, k ≤ n ∧ i = .int .i64 k ∧ t = .int .i64 (m + k)) (fun i _ => n - (intOf i).toNat)
  case atStart => exact ⟨0, by omega, rfl, by simp⟩
  case round =>
    obtain ⟨k, hk, rfl, rfl⟩ := hrel
    by_cases hlt : k < n
    · obtain ⟨g, rfl, c0⟩ := hcell2 k hlt
      go_wp2
      go_round
      case rel => exact ⟨k + 1, by omega, by go_num, by go_num⟩
      case measure => simp [intOf]; omega
    · have hk2 : k = n := by omega
      subst hk2
      go_wp2
      go_ret
      exact ⟨rfl, rfl⟩

end Go.Proofs.Ytobbeofibkpbaaa

/- Contracts of what the exact laws call: marks of pipes and nets. -/
namespace Go.Proofs.Ytobbeofibkpbaaa
open Go.RowKit

def markPp (m : Int) : Pp := ⟨m, m + 1, m + 1 + 1, m + 1 + 1 + 1, m + 1 + 1 + 1 + 1⟩
def upPipes (m : Int) : Nat → List Pp
  | 0 => []
  | n + 1 => markPp m :: upPipes (m + 5) n

theorem upPipes_len (m : Int) (n : Nat) : (upPipes m n).length = n := by
  induction n generalizing m with
  | zero => rfl
  | succ n ih => simp [upPipes, ih]

theorem upPipes_at (m : Int) (n i : Nat) (h : i < n) : (upPipes m n)[i]? = some (markPp (m + 5 * i)) := by
  induction n generalizing m i with
  | zero => omega
  | succ n ih =>
    cases i with
    | zero => simp [upPipes]
    | succ i =>
      have := ih (m + 5) i (by omega)
      simp only [upPipes, List.getElem?_cons_succ, this]
      congr 2; push_cast; omega

theorem own_grow5 {w : World} {b e : Nat} {g n cap : Nat} {xs : List Value} (h : w.ownsRow b e 5 (.slice (some ⟨g, 0, none⟩) n cap) n xs) (j0 j1 j2 j3 j4 : Nat) (u0 u1 u2 u3 u4 : Value) :
    w.grownBy (((((w.setCell ⟨g, j0, none⟩ u0).setCell ⟨g, j1, none⟩ u1).setCell ⟨g, j2, none⟩ u2).setCell ⟨g, j3, none⟩ u3).setCell ⟨g, j4, none⟩ u4) (some g) := by
  have a0 := h.stored j0 u0
  have a1 := a0.1.stored j1 u1
  have a2 := a1.1.stored j2 u2
  have a3 := a2.1.stored j3 u3
  have a4 := a3.1.stored j4 u4
  exact (((a0.2.trans a1.2).trans a2.2).trans a3.2).trans a4.2

set_option maxHeartbeats 2000000 in
set_option maxRecDepth 20000 in
theorem markPipeS_any (v : Value) (ps : List Pp) (m : Int) (b : Nat) (w : World) (hx : Pipes w b v ps) (h0 : 0 ≤ m) (h1 : m ≤ 1000000000) :
    Calls Try.prog 112 #[v, .int .i64 m] w fun e w' => e = .returned (.int .i64 (m + 5 * ps.length)) ∧ Pipes w' b v (upPipes m ps.length) ∧ w.grownBy w' v.ownBlock := by
  obtain ⟨A, c, rfl, hc1, hc2, hs, hcell⟩ := hx.form
  unfold maxLen at hc2
  go_enter Try.func112, Try.ntmps112
  go_wp2
  go_loopw [5, 1] (fun i t wr => ∃ (k : Nat) (qs : List Pp), k ≤ ps.length ∧ i = .int .i64 k ∧ t = .int .i64 (m + 5 * k) ∧ qs.length = ps.length ∧ qs.take k = (upPipes m ps.length).take k ∧
      wr.ownsRow b 45 5 (.slice A ps.length c) ps.length (qs.flatMap Pp.cells) ∧ w.grownBy wr (Value.slice A ps.length c).ownBlock) (fun i _ _ => ps.length - (intOf i).toNat)
  case atStart => exact ⟨0, ps, by omega, rfl, by simp, rfl, by simp, hx.1, World.grownBy.refl w _⟩
  case round =>
    obtain ⟨k, qs, hk, rfl, rfl, hql, hqk, hown, hg⟩ := hrel
    by_cases hlt : k < ps.length
    · obtain ⟨g, rfl, hg1, hg2, -⟩ := hcell w (Below.refl _ _) k hlt
      have hq1 : k < qs.length := by omega
      obtain ⟨hgw, ⟨o0, o1, o2, o3, o4⟩, hof⟩ := own_cells5 (k := k) hown hq1
      have hset := own_set5 (k := k) hown hq1 (markPp (m + 5 * k))
      dsimp only [markPp] at hset
      have hgr := own_grow5 hown (k * 5) (k * 5 + 1) (k * 5 + 2) (k * 5 + 3) (k * 5 + 4) (.int .i64 (m + 5 * k)) (.int .i64 (m + 5 * k + 1)) (.int .i64 (m + 5 * k + 1 + 1)) (.int .i64 (m + 5 * k + 1 + 1 + 1)) (.int .i64 (m + 5 * k + 1 + 1 + 1 + 1))
      have Hs := Lib.hid hset
      have Hg := Lib.hid hgr
      have Hql := Lib.hid hql
      have Hqk := Lib.hid hqk
      clear hql hqk hset hgr
      go_wp2
      go_roundw
      case rel => exact ⟨k + 1, qs.set k (markPp (m + 5 * k)), by omega, by go_num, by congr 1; push_cast; omega, by simpa using Hql.out, set_take hq1 Hqk.out (upPipes_at m _ k hlt), Hs.out, hg.trans Hg.out⟩
      case measure => simp [intOf]; omega
    · go_wp2
      go_ret
      have hk2 : k = ps.length := by omega
      subst hk2
      have hz : qs = upPipes m ps.length := by
        rw [List.take_of_length_le (by omega), List.take_of_length_le (by rw [upPipes_len]; exact Nat.le_refl _)] at hqk
        exact hqk
      subst hz
      exact ⟨rfl, ⟨by rw [upPipes_len]; exact hown, by rw [upPipes_len]; unfold small; omega⟩, hg⟩

set_option maxHeartbeats 2000000 in
set_option maxRecDepth 20000 in
theorem markNet_any (n : Int) (v : Value) (ps : List Pp) (m : Int) (b : Nat) (w : World) (hx : Pipes w b v ps) (h0 : 0 ≤ m) (h1 : m ≤ 1000000000) :
    Calls Try.prog 55 #[.agg #[.int .i64 n, v], .int .i64 m] w fun e w' => e = .returned (.int .i64 (m + 5 * ps.length)) ∧ Pipes w' b v (upPipes m ps.length) ∧ w.grownBy w' v.ownBlock := by
  have hx' : Pipes (w.alloc (.cells #[.int .i64 n, v] 25)) b v ps := hx.keep (by (repeat (first | (with_reducible assumption) | (with_reducible exact Below.refl _ _) | ((with_reducible refine Below.alloc ?_ ?hsz _); (case hsz => (first | omega | (simp; done) | (simp; omega) | (simp at *; omega)))) | ((with_reducible refine Below.setCell ?_ ?hsz _); (case hsz => (first | omega | (simp; done) | (simp; omega) | (simp at *; omega)))) | (with_reducible refine Below.drew ?_) | (with_reducible refine below_drewN ?_ _) | ((with_reducible refine Below.trans ?_ (Below.mono (by with_reducible assumption) ?hsz)); (case hsz => (first | omega | (simp; done) | (simp; omega) | (simp at *; omega)))))))
  have hg0 : ∀ r, w.grownBy (w.alloc (.cells #[.int .i64 n, v] 25)) r := fun r => ⟨rfl, rfl, rfl, by simp, fun i hi _ => Below.heap_alloc w _ i hi⟩
  go_enter Try.func55, Try.ntmps55
  go_wp2_with fail
  refine (markPipeS_any _ ps m b _ hx' h0 h1).mono ?_
  rintro e w1 ⟨rfl, hp1, hg1⟩
  go_wp2
  go_ret
  exact ⟨rfl, hp1, (hg0 _).trans hg1⟩

theorem own_apart {v u : Value} {a b c d : Nat} (o1 : ∀ k, v.ownBlock = some k → a ≤ k ∧ k < b) (o2 : ∀ k, u.ownBlock = some k → c ≤ k ∧ k < d) (h : b ≤ c ∨ d ≤ a) : v.ownBlock = none ∨ v.ownBlock ≠ u.ownBlock := by
  cases hv : v.ownBlock with
  | none => exact .inl rfl
  | some k =>
    refine .inr fun he => ?_
    have h1 := o1 k hv
    have h2 := o2 k he.symm
    omega

end Go.Proofs.Ytobbeofibkpbaaa
