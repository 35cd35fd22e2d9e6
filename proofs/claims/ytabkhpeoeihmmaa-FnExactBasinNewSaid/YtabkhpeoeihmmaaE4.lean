/- Contracts of what the exact laws call: marks of pipes and nets. -/
import Derived.Test.YtabkhpeoeihmmaaE3
namespace Go.Proofs.Ytabkhpeoeihmmaa
open Go.RowKit

def markPp (m : Int) : Pp := ⟨m, m + 1, m + 1 + 1, m + 1 + 1 + 1, m + 1 + 1 + 1 + 1⟩
def upPipes (m : Int) : Nat → List Pp
  | 0 => []
  | n + 1 => markPp m :: upPipes (m + 5) n

theorem upPipes_len (m : Int) (n : Nat) : (upPipes m n).length = n := by
  induction n generalizing m with
  | zero => rfl
  | succ n ih => simp [upPipes, ih]

theorem upPipes_at (m : Int) (n i : Nat) (h : i < n) : (upPipes m n)[i]? = some (markPp (m + 5 * i)) := by
  induction n generalizing m i with
  | zero => omega
  | succ n ih =>
    cases i with
    | zero => simp [upPipes]
    | succ i =>
      have := ih (m + 5) i (by omega)
      simp only [upPipes, List.getElem?_cons_succ, this]
      congr 2; push_cast; omega

theorem own_grow5 {w : World} {b e : Nat} {g n cap : Nat} {xs : List Value} (h : w.ownsRow b e 5 (.slice (some ⟨g, 0, none⟩) n cap) n xs) (j0 j1 j2 j3 j4 : Nat) (u0 u1 u2 u3 u4 : Value) :
    w.grownBy (((((w.setCell ⟨g, j0, none⟩ u0).setCell ⟨g, j1, none⟩ u1).setCell ⟨g, j2, none⟩ u2).setCell ⟨g, j3, none⟩ u3).setCell ⟨g, j4, none⟩ u4) (some g) := by
  have a0 := h.stored j0 u0
  have a1 := a0.1.stored j1 u1
  have a2 := a1.1.stored j2 u2
  have a3 := a2.1.stored j3 u3
  have a4 := a3.1.stored j4 u4
  exact (((a0.2.trans a1.2).trans a2.2).trans a3.2).trans a4.2

set_option maxHeartbeats 2000000 in
set_option maxRecDepth 20000 in
theorem markPipeS_any (v : Value) (ps : List Pp) (m : Int) (b : Nat) (w : World) (hx : Pipes w b v ps) (h0 : 0 ≤ m) (h1 : m ≤ 1000000000) :
    Calls Try.prog 67 #[v, .int .i64 m] w fun e w' => e = .returned (.int .i64 (m + 5 * ps.length)) ∧ Pipes w' b v (upPipes m ps.length) ∧ w.grownBy w' v.ownBlock := by
  obtain ⟨A, c, rfl, hc1, hc2, hs, hcell⟩ := hx.form
  unfold maxLen at hc2
  go_enter Try.func67, Try.ntmps67
  go_wp2
  go_loopw [5, 1] (fun i t wr => ∃ (k : Nat) (qs : List Pp), k ≤ ps.length ∧ i = .int .i64 k ∧ t = .int .i64 (m + 5 * k) ∧ qs.length = ps.length ∧ qs.take k = (upPipes m ps.length).take k ∧
      wr.ownsRow b 80 5 (.slice A ps.length c) ps.length (qs.flatMap Pp.cells) ∧ w.grownBy wr (Value.slice A ps.length c).ownBlock) (fun i _ _ => ps.length - (intOf i).toNat)
  case atStart => exact ⟨0, ps, by omega, rfl, by simp, rfl, by simp, hx.1, World.grownBy.refl w _⟩
  case round =>
    obtain ⟨k, qs, hk, rfl, rfl, hql, hqk, hown, hg⟩ := hrel
    by_cases hlt : k < ps.length
    · obtain ⟨g, rfl, hg1, hg2, -⟩ := hcell w (Below.refl _ _) k hlt
      have hq1 : k < qs.length := by omega
      obtain ⟨hgw, ⟨o0, o1, o2, o3, o4⟩, hof⟩ := own_cells5 (k := k) hown hq1
      have hset := own_set5 (k := k) hown hq1 (markPp (m + 5 * k))
      dsimp only [markPp] at hset
      have hgr := own_grow5 hown (k * 5) (k * 5 + 1) (k * 5 + 2) (k * 5 + 3) (k * 5 + 4) (.int .i64 (m + 5 * k)) (.int .i64 (m + 5 * k + 1)) (.int .i64 (m + 5 * k + 1 + 1)) (.int .i64 (m + 5 * k + 1 + 1 + 1)) (.int .i64 (m + 5 * k + 1 + 1 + 1 + 1))
      have Hs := Lib.hid hset
      have Hg := Lib.hid hgr
      have Hql := Lib.hid hql
      have Hqk := Lib.hid hqk
      clear hql hqk hset hgr
      go_wp2
      go_roundw
      case rel => exact ⟨k + 1, qs.set k (markPp (m + 5 * k)), by omega, by go_num, by congr 1; push_cast; omega, by simpa using Hql.out, set_take hq1 Hqk.out (upPipes_at m _ k hlt), Hs.out, hg.trans Hg.out⟩
      case measure => simp [intOf]; omega
    · go_wp2
      go_ret
      have hk2 : k = ps.length := by omega
      subst hk2
      have hz : qs = upPipes m ps.length := by
        rw [List.take_of_length_le (by omega), List.take_of_length_le (by rw [upPipes_len]; exact Nat.le_refl _)] at hqk
        exact hqk
      subst hz
      exact ⟨rfl, ⟨by rw [upPipes_len]; exact hown, by rw [upPipes_len]; unfold small; omega⟩, hg⟩

set_option maxHeartbeats 2000000 in
set_option maxRecDepth 20000 in
theorem markNet_any (n : Int) (v : Value) (ps : List Pp) (m : Int) (b : Nat) (w : World) (hx : Pipes w b v ps) (h0 : 0 ≤ m) (h1 : m ≤ 1000000000) :
    Calls Try.prog 25 #[.agg #[.int .i64 n, v], .int .i64 m] w fun e w' => e = .returned (.int .i64 (m + 5 * ps.length)) ∧ Pipes w' b v (upPipes m ps.length) ∧ w.grownBy w' v.ownBlock := by
  have hx' : Pipes (w.alloc (.cells #[.int .i64 n, v] 33)) b v ps := hx.keep (by (repeat (first | (with_reducible assumption) | (with_reducible exact Below.refl _ _) | ((with_reducible refine Below.alloc ?_ ?hsz _); (case hsz => (first | omega | (simp; done) | (simp; omega) | (simp at *; omega)))) | ((with_reducible refine Below.setCell ?_ ?hsz _); (case hsz => (first | omega | (simp; done) | (simp; omega) | (simp at *; omega)))) | (with_reducible refine Below.drew ?_) | (with_reducible refine below_drewN ?_ _) | ((with_reducible refine Below.trans ?_ (Below.mono (by with_reducible assumption) ?hsz)); (case hsz => (first | omega | (simp; done) | (simp; omega) | (simp at *; omega)))))))
  have hg0 : ∀ r, w.grownBy (w.alloc (.cells #[.int .i64 n, v] 33)) r := fun r => ⟨rfl, rfl, rfl, by simp, fun i hi _ => Below.heap_alloc w _ i hi⟩
  go_enter Try.func25, Try.ntmps25
  go_wp2_with fail
  refine (markPipeS_any _ ps m b _ hx' h0 h1).mono ?_
  rintro e w1 ⟨rfl, hp1, hg1⟩
  go_wp2
  go_ret
  exact ⟨rfl, hp1, (hg0 _).trans hg1⟩

theorem own_apart {v u : Value} {a b c d : Nat} (o1 : ∀ k, v.ownBlock = some k → a ≤ k ∧ k < b) (o2 : ∀ k, u.ownBlock = some k → c ≤ k ∧ k < d) (h : b ≤ c ∨ d ≤ a) : v.ownBlock = none ∨ v.ownBlock ≠ u.ownBlock := by
  cases hv : v.ownBlock with
  | none => exact .inl rfl
  | some k =>
    refine .inr fun he => ?_
    have h1 := o1 k hv
    have h2 := o2 k he.symm
    omega

theorem turnL_len (n : Int) (ps : List Pp) : (turnL n ps).length ≤ ps.length := by unfold turnL; split <;> simp
theorem bothR_len (n : Int) (ps : List Pp) (xs ys : List Int) : (bothR n ps xs ys).length ≤ xs.length := by
  unfold bothR; split
  · simp [addAll]; omega
  · simp

end Go.Proofs.Ytabkhpeoeihmmaa
