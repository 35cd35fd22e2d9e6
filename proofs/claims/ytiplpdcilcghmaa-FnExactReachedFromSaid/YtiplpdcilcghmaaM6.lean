/- Plain facts for the promises of chapter 1: how the answers of a node read; bounds of sums. -/
import Derived.Test.YtiplpdcilcghmaaM5
namespace Go.Proofs.Ytiplpdcilcghmaa
open Go.RowKit

theorem nodeSum_bd (n : Nat) (f : Nat → Int) (B : Int) (h : ∀ k, k < n → -B ≤ f k ∧ f k ≤ B) : -(B * n) ≤ nodeSum n f ∧ nodeSum n f ≤ B * n := by
  induction n with
  | zero => simp [nodeSum_nil]
  | succ n ih =>
    have h1 := ih (fun k hk => h k (by omega))
    have h2 := h n (by omega)
    rw [nodeSum_succ]
    have : B * ((n + 1 : Nat) : Int) = B * n + B := by rw [Int.natCast_add, Int.mul_add]; simp
    omega
theorem exc_bd7 {n : Int} {ps : List Pp} {xs : List Int} (h : flowOkB n ps xs = true) (k : Int) : -280 ≤ exc k ps xs ∧ exc k ps xs ≤ 280 := by
  obtain ⟨h1, h2, h3⟩ := flowOk_parts h
  have := exc_bd k ps xs h3
  have := (netOk_parts h1).2.2.1
  omega
theorem excSum_bd {n : Int} {ps : List Pp} {xs : List Int} (h : flowOkB n ps xs = true) (k : Nat) (hk : (k : Int) ≤ n) : -1400 ≤ nodeSum k (fun j => exc j ps xs) ∧ nodeSum k (fun j => exc j ps xs) ≤ 1400 := by
  have h1 := nodeSum_bd k (fun j => exc j ps xs) 280 (fun j _ => exc_bd7 h j)
  have := (netOk_parts (flowOk_parts h).1).2.1
  omega
theorem excAt_yes {n : Int} {ps : List Pp} {xs : List Int} {k : Int} (h : flowOkB n ps xs = true) (h0 : 0 ≤ k) (h1 : k < n) : (excAt n ps xs k).1 = exc k ps xs ∧ (excAt n ps xs k).2 = true := by
  have : withinB k 0 (n - 1) = true := by simp [withinB, h0]; omega
  simp [excAt, h, this]
theorem excAt_no {n : Int} {ps : List Pp} {xs : List Int} {k : Int} (h : ¬ (flowOkB n ps xs = true ∧ withinB k 0 (n - 1) = true)) : (excAt n ps xs k).1 = 0 ∧ (excAt n ps xs k).2 = false := by
  simp only [excAt, if_neg h, and_self]
theorem excAt_turn {n : Int} {ps : List Pp} {xs : List Int} {k : Int} (h : flowOkB n ps xs = true) (h0 : 0 ≤ k) (h1 : k < n) : (excAt n (ps.map turnP) xs k).1 = -exc k ps xs ∧ (excAt n (ps.map turnP) xs k).2 = true := by
  have := excAt_yes (ps := ps.map turnP) (xs := xs) (by rw [flowOk_turn]; exact h) h0 h1
  rw [this.1, this.2, exc_turn k xs (flowOk_parts h).1]
  exact ⟨rfl, rfl⟩

theorem shr_bitB {i : Int} (h : 0 ≤ i) (k : Nat) : ((i / 2 ^ k).tmod 2 == 1) = bitB i (k : Int) := by
  rw [Int.tmod_eq_emod_of_nonneg (Int.ediv_nonneg h (Int.le_of_lt (Int.pow_pos (by omega)))), beq_dec, bitB, Int.toNat_natCast]

end Go.Proofs.Ytiplpdcilcghmaa
