/- Contracts of what the exact laws call: marks. -/
import Derived.Test.YtabkhpeoeihmmaaMG
namespace Go.Proofs.Ytabkhpeoeihmmaa
open Go.RowKit

def upFrom (k : Int) : Nat → List Int
  | 0 => []
  | n + 1 => k :: upFrom (k + 1) n

theorem upFrom_len (k : Int) (n : Nat) : (upFrom k n).length = n := by
  induction n generalizing k with
  | zero => rfl
  | succ n ih => simp [upFrom, ih]

theorem upFrom_at (k : Int) (n i : Nat) (h : i < n) : (upFrom k n)[i]? = some (k + i) := by
  induction n generalizing k i with
  | zero => omega
  | succ n ih =>
    cases i with
    | zero => simp [upFrom]
    | succ i =>
      have := ih (k + 1) i (by omega)
      simp only [upFrom, List.getElem?_cons_succ, this]
      congr 1; push_cast; omega

set_option maxHeartbeats 1000000 in
set_option maxRecDepth 20000 in
theorem markIntS_any (v : Value) (xs : List Int) (m : Int) (b : Nat) (w : World) (hx : Ints w b v xs) (h0 : 0 ≤ m) (h1 : m ≤ 1000000000) :
    Calls Try.prog 68 #[v, .int .i64 m] w fun e w' => e = .returned (.int .i64 (m + xs.length)) ∧ Ints w' b v (upFrom m xs.length) ∧ w.grownBy w' v.ownBlock := by
  obtain ⟨A, c, rfl, hc1, hc2, hs, hcell⟩ := hx.form
  unfold maxLen at hc2
  go_enter Try.func68, Try.ntmps68
  go_wp2
  go_loopw [5, 1] (fun i t wr => ∃ (k : Nat) (zs : List Int), k ≤ xs.length ∧ i = .int .i64 k ∧ t = .int .i64 (m + k) ∧ zs.length = xs.length ∧ zs.take k = (upFrom m xs.length).take k ∧
      wr.ownsRow b 3 1 (.slice A xs.length c) xs.length (zs.map (Value.int .i64)) ∧ w.grownBy wr (Value.slice A xs.length c).ownBlock) (fun i _ _ => xs.length - (intOf i).toNat)
  case atStart => exact ⟨0, xs, by omega, rfl, by simp, rfl, by simp, hx.1, World.grownBy.refl w _⟩
  case round =>
    obtain ⟨k, zs, hk, rfl, rfl, hzl, hzk, hown, hg⟩ := hrel
    by_cases hlt : k < xs.length
    · obtain ⟨g, rfl, hg1, hg2, _, _⟩ := hcell w (Below.refl _ _) k hlt
      obtain ⟨z, o0⟩ : ∃ z : Int, wr.cell? ⟨g, k, none⟩ = some (.int .i64 z) := ⟨zs[k]'(by omega), by
        rw [hown.cellAt k (by omega)]; simp [hzl, hlt]⟩
      have o1 := hown.frozenAt k
      have Hzl := Lib.hid hzl
      have Hzk := Lib.hid hzk
      clear hzl hzk
      go_wp2
      have hst := hown.stored k (.int .i64 (m + k))
      go_roundw
      case rel => exact ⟨k + 1, zs.set k (m + k), by omega, by go_num, by go_num, by simpa using Hzl.out, set_take (by have := Hzl.out; omega) Hzk.out (upFrom_at m _ k hlt),
        by rw [List.map_set]; exact hst.1, hg.trans hst.2⟩
      case measure => simp [intOf]; omega
    · go_wp2
      go_ret
      have hk2 : k = xs.length := by omega
      subst hk2
      have hz : zs = upFrom m xs.length := by
        rw [List.take_of_length_le (by omega), List.take_of_length_le (by rw [upFrom_len]; exact Nat.le_refl _)] at hzk
        exact hzk
      subst hz
      exact ⟨rfl, ⟨by rw [upFrom_len]; exact hown, by rw [upFrom_len]; unfold small; omega⟩, hg⟩

set_option maxHeartbeats 1000000 in
set_option maxRecDepth 20000 in
theorem heldIntS_any (v : Value) (n : Nat) (m : Int) (b : Nat) (w : World) (hx : Ints w b v (upFrom m n)) (h0 : 0 ≤ m) (h1 : m ≤ 1000000000) :
    Calls Try.prog 69 #[v, .int .i64 m] w fun e w' => e = .returned (.int .i64 (m + n)) ∧ w = w' := by
  obtain ⟨A, c, rfl, hc1, hc2, hs, hcell⟩ := hx.form
  unfold maxLen at hc2
  rw [upFrom_len] at hc1 hs
  have hcell2 : ∀ k, k < n → ∃ g, A = some ⟨g, 0, none⟩ ∧ w.cell? ⟨g, k, none⟩ = some (.int .i64 (m + k)) := by
    intro k hk
    obtain ⟨g, hA, _, _, c0, _⟩ := hcell w (Below.refl _ _) k (by rw [upFrom_len]; exact hk)
    refine ⟨g, hA, ?_⟩
    rw [c0]
    have := upFrom_at m n k hk
    rw [List.getElem?_eq_getElem (by rw [upFrom_len]; exact hk)] at this
    injection this with this
    rw [this]
  rw [upFrom_len]
  clear hcell
  go_enter Try.func69, Try.ntmps69
  go_wp2
  go_loop [5, 1] (fun i t => ∃ k : Nat, k ≤ n ∧ i = .int .i64 k ∧ t = .int .i64 (m + k)) (fun i _ => n - (intOf i).toNat)
  case atStart => exact ⟨0, by omega, rfl, by simp⟩
  case round =>
    obtain ⟨k, hk, rfl, rfl⟩ := hrel
    by_cases hlt : k < n
    · obtain ⟨g, rfl, c0⟩ := hcell2 k hlt
      go_wp2
      go_round
      case rel => exact ⟨k + 1, by omega, by go_num, by go_num⟩
      case measure => simp [intOf]; omega
    · have hk2 : k = n := by omega
      subst hk2
      go_wp2
      go_ret
      exact ⟨rfl, rfl⟩

end Go.Proofs.Ytabkhpeoeihmmaa
