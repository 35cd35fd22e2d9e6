/- Plain facts of chapter 5: circulations counted one by one. -/
import Derived.Test.YtphbmlephldaaaaMG
namespace Go.Proofs.Ytphbmlephldaaaa
open Go.RowKit

/-- how many balanced flows go on some amounts -/
def countP (n : Int) (ps : List Pp) : List Pp → List Int → Int
  | [], xs => if balB n ps xs = true then 1 else 0
  | p :: rest, xs => ((List.range (p.mo - p.le + 1).toNat).map fun i : Nat => countP n ps rest (xs ++ [p.le + (i : Int)])).sum
/-- the sum of the first of them -/
def countTo (n : Int) (ps : List Pp) (p : Pp) (rest : List Pp) (xs : List Int) (j : Nat) : Int := ((List.range j).map fun i : Nat => countP n ps rest (xs ++ [p.le + (i : Int)])).sum
theorem countTo_zero (n : Int) (ps : List Pp) (p : Pp) (rest : List Pp) (xs : List Int) : countTo n ps p rest xs 0 = 0 := rfl
theorem countTo_succ (n : Int) (ps : List Pp) (p : Pp) (rest : List Pp) (xs : List Int) (j : Nat) : countTo n ps p rest xs (j + 1) = countTo n ps p rest xs j + countP n ps rest (xs ++ [p.le + (j : Int)]) := by
  simp [countTo, List.range_succ]
theorem countTo_all (n : Int) (ps : List Pp) (p : Pp) (rest : List Pp) (xs : List Int) : countTo n ps p rest xs (p.mo - p.le + 1).toNat = countP n ps (p :: rest) xs := rfl
theorem sum_bd {l : List Int} {B : Int} (h : ∀ x ∈ l, 0 ≤ x ∧ x ≤ B) : 0 ≤ l.sum ∧ l.sum ≤ l.length * B := by
  induction l with
  | nil => simp
  | cons x l ih =>
    have h1 := h x (by simp)
    have h2 := ih fun y hy => h y (by simp [hy])
    simp only [List.sum_cons, List.length_cons]
    push_cast
    rw [Int.add_mul]
    omega
theorem count_bd (n : Int) (ps : List Pp) : ∀ (rest : List Pp) (xs : List Int), (∀ p ∈ rest, 0 ≤ p.le ∧ p.le ≤ p.mo ∧ p.mo ≤ 4) → 0 ≤ countP n ps rest xs ∧ countP n ps rest xs ≤ 5 ^ rest.length := by
  intro rest
  induction rest with
  | nil => intro xs _; unfold countP; split <;> simp
  | cons p rest ih =>
    intro xs h
    have hp := h p (by simp)
    have hb := sum_bd (l := (List.range (p.mo - p.le + 1).toNat).map fun i : Nat => countP n ps rest (xs ++ [p.le + (i : Int)])) (B := 5 ^ rest.length) (by
      intro x hx
      obtain ⟨i, -, rfl⟩ := List.mem_map.1 hx
      exact ih _ fun q hq => h q (by simp [hq]))
    rw [countP]
    refine ⟨hb.1, Int.le_trans hb.2 ?_⟩
    rw [List.length_map, List.length_range, List.length_cons, Int.pow_succ, Int.mul_comm]
    exact Int.mul_le_mul_of_nonneg_left (by omega) (Int.le_of_lt (Int.pow_pos (by decide)))
theorem pow5 {k : Nat} (h : k ≤ 4) : (5 : Int) ^ k ≤ 625 := by
  have : k = 0 ∨ k = 1 ∨ k = 2 ∨ k = 3 ∨ k = 4 := by omega
  rcases this with rfl | rfl | rfl | rfl | rfl <;> decide
theorem countTo_bd {n : Int} {ps : List Pp} {p : Pp} {rest : List Pp} {xs : List Int} (h : ∀ q ∈ rest, 0 ≤ q.le ∧ q.le ≤ q.mo ∧ q.mo ≤ 4) (hr : rest.length ≤ 4) {j : Nat} (hj : j ≤ 5) : 0 ≤ countTo n ps p rest xs j ∧ countTo n ps p rest xs j ≤ 3125 := by
  have hb := sum_bd (l := (List.range j).map fun i : Nat => countP n ps rest (xs ++ [p.le + (i : Int)])) (B := 625) (by
    intro x hx
    obtain ⟨i, -, rfl⟩ := List.mem_map.1 hx
    have h1 := count_bd n ps rest (xs ++ [p.le + (i : Int)]) h
    exact ⟨h1.1, Int.le_trans h1.2 (pow5 hr)⟩)
  rw [List.length_map, List.length_range] at hb
  unfold countTo
  refine ⟨hb.1, Int.le_trans hb.2 ?_⟩
  omega

/-- CountCirculations -/
def countR (n : Int) (ps : List Pp) : Int := if netOkB n ps = true ∧ ps.length ≤ 5 then countP n ps ps [] else -1

end Go.Proofs.Ytphbmlephldaaaa
