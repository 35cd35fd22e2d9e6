/- Plain facts, chapter 6: costs. -/
import Derived.Test.YtpknhieiifjblaaMG
namespace Go.Proofs.Ytpknhieiifjblaa
open Go.RowKit

/-- what an amount in a pipe costs -/
def costT (p : Pp) (x : Int) : Int := x * p.co

def costS (ps : List Pp) (xs : List Int) : Int := ((ps.zip xs).map fun q => costT q.1 q.2).sum

theorem costT_bd {p : Pp} {x : Int} (h0 : 0 ≤ x) (h1 : x ≤ 40) (h2 : -9 ≤ p.co) (h3 : p.co ≤ 9) : -360 ≤ costT p x ∧ costT p x ≤ 360 := by
  unfold costT
  have a1 : x * p.co ≤ x * 9 := Int.mul_le_mul_of_nonneg_left h3 h0
  have a2 : x * (-9) ≤ x * p.co := Int.mul_le_mul_of_nonneg_left h2 h0
  omega

theorem costS_snoc (ps : List Pp) (xs : List Int) (k : Nat) (hp : k < ps.length) (hx : k < xs.length) :
    costS (ps.take (k + 1)) (xs.take (k + 1)) = costS (ps.take k) (xs.take k) + costT ps[k] xs[k] := by
  unfold costS
  rw [List.take_succ_eq_append_getElem hp, List.take_succ_eq_append_getElem hx, List.zip_append (by simp; omega)]
  simp

theorem costS_cons (p : Pp) (ps : List Pp) (x : Int) (xs : List Int) : costS (p :: ps) (x :: xs) = costT p x + costS ps xs := by simp [costS]

theorem costS_bd (ps : List Pp) (xs : List Int) (h : ∀ x ∈ xs, 0 ≤ x ∧ x ≤ 40) (hc : ∀ p ∈ ps, -9 ≤ p.co ∧ p.co ≤ 9) : -(360 * (ps.length : Int)) ≤ costS ps xs ∧ costS ps xs ≤ 360 * (ps.length : Int) := by
  induction ps generalizing xs with
  | nil => simp [costS]
  | cons p ps ih =>
    cases xs with
    | nil => simp [costS]; omega
    | cons x xs =>
      have h1 := ih xs (fun y hy => h y (by simp [hy])) (fun q hq => hc q (by simp [hq]))
      have h2 := costT_bd (p := p) (h x (by simp)).1 (h x (by simp)).2 (hc p (by simp)).1 (hc p (by simp)).2
      rw [costS_cons]
      simp only [List.length_cons]
      omega

theorem net_costs {n : Int} {ps : List Pp} (h : netOkB n ps = true) : ∀ p ∈ ps, -9 ≤ p.co ∧ p.co ≤ 9 := by
  intro p hp
  have := pipeOk_parts ((netOk_parts h).2.2.2 p hp)
  omega

theorem costS_bd7 {n : Int} {ps : List Pp} {xs : List Int} (h : flowOkB n ps xs = true) (k : Nat) : -2520 ≤ costS (ps.take k) (xs.take k) ∧ costS (ps.take k) (xs.take k) ≤ 2520 := by
  obtain ⟨h1, h2, h3⟩ := flowOk_parts h
  have h7 := (netOk_parts h1).2.2.1
  have hb := costS_bd (ps.take k) (xs.take k) (fun x hx => h3 x (List.mem_of_mem_take hx)) (fun p hp => net_costs h1 p (List.mem_of_mem_take hp))
  have hl : (ps.take k).length ≤ 7 := by rw [List.length_take]; omega
  omega

/-- what CostOf answers -/
def costR (n : Int) (ps : List Pp) (xs : List Int) : Int × Bool := if flowOkB n ps xs = true then (costS ps xs, true) else (0, false)

theorem costR_yes {n : Int} {ps : List Pp} {xs : List Int} (h : flowOkB n ps xs = true) : costR n ps xs = (costS ps xs, true) := by simp [costR, h]
theorem costR_no {n : Int} {ps : List Pp} {xs : List Int} (h : flowOkB n ps xs = false) : costR n ps xs = (0, false) := by simp [costR, h]

theorem costS_turn (ps : List Pp) (xs : List Int) : costS (ps.map turnP) xs = costS ps xs := by
  induction ps generalizing xs with
  | nil => rfl
  | cons p ps ih => cases xs with
    | nil => simp [costS]
    | cons x xs => rw [List.map_cons, costS_cons, costS_cons, ih]; rfl

theorem costS_zero (ps : List Pp) (n : Nat) : costS ps (List.replicate n 0) = 0 := by
  induction ps generalizing n with
  | nil => simp [costS]
  | cons p ps ih => cases n with
    | zero => simp [costS]
    | succ n => rw [List.replicate_succ, costS_cons, ih]; simp [costT]

theorem costS_add (ps : List Pp) (xs ys : List Int) (h : xs.length = ys.length) : costS ps (addAll xs ys) = costS ps xs + costS ps ys := by
  induction ps generalizing xs ys with
  | nil => simp [costS]
  | cons p ps ih =>
    cases xs with
    | nil => cases ys with
      | nil => simp [costS, addAll]
      | cons y ys => simp at h
    | cons x xs => cases ys with
      | nil => simp at h
      | cons y ys =>
        have e : addAll (x :: xs) (y :: ys) = (x + y) :: addAll xs ys := by simp [addAll]
        rw [e, costS_cons, costS_cons, costS_cons, ih xs ys (by simpa using h)]
        unfold costT
        rw [Int.add_mul]
        omega

end Go.Proofs.Ytpknhieiifjblaa
