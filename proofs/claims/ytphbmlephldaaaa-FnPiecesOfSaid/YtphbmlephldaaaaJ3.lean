/- Plain facts, chapter 7: tensions of rows of heights, products. -/
import Derived.Test.YtphbmlephldaaaaJ2
import Derived.Test.YtphbmlephldaaaaW1
import Derived.Test.YtphbmlephldaaaaRW
namespace Go.Proofs.Ytphbmlephldaaaa
open Go.RowKit

def tensB (n : Int) (ps : List Pp) (hs : List Int) : Bool := netOkB n ps && rowB hs n (-40) 40
def tensR (n : Int) (ps : List Pp) (hs : List Int) : List Int := if tensB n ps hs = true then tensL (lab hs) ps else []
def prodB (n : Int) (ps : List Pp) (a b : List Int) : Bool := netOkB n ps && rowB a (ps.length : Int) (-80) 80 && rowB b (ps.length : Int) (-80) 80
def prodR (n : Int) (ps : List Pp) (a b : List Int) : Int := if prodB n ps a b = true then prodI a b else 0

theorem rowB_parts {xs : List Int} {cnt l m : Int} (h : rowB xs cnt l m = true) : (xs.length : Int) = cnt ∧ ∀ x ∈ xs, l ≤ x ∧ x ≤ m := by
  simp only [rowB, withinB, Bool.and_eq_true, decide_eq_true_eq, List.all_eq_true] at h
  exact h
theorem own_made7 (w : World) {N : Nat} (h : N ≤ 4194304) : Row (w.alloc (.cells (madeCells #[.int .i64 0] N) 3)) w.heap.size w.heap.size N N (List.replicate N 0) :=
  ⟨made_ints w N 3 w.heap.size (Nat.le_refl _) h, h⟩
theorem tensL_len (S : Int → Int) (ps : List Pp) : (tensL S ps).length = ps.length := by simp [tensL]

theorem mul_bd0 {x y m : Int} (h0 : 0 ≤ x) (hx : x ≤ m) (hy : -m ≤ y ∧ y ≤ m) : -(m * m) ≤ x * y ∧ x * y ≤ m * m := by
  have a1 : x * y ≤ x * m := Int.mul_le_mul_of_nonneg_left hy.2 h0
  have a2 : x * (-m) ≤ x * y := Int.mul_le_mul_of_nonneg_left hy.1 h0
  have a3 : x * m ≤ m * m := Int.mul_le_mul_of_nonneg_right hx (by omega)
  rw [Int.mul_neg] at a2
  omega
theorem mul_bd {x y m : Int} (hx : -m ≤ x ∧ x ≤ m) (hy : -m ≤ y ∧ y ≤ m) : -(m * m) ≤ x * y ∧ x * y ≤ m * m := by
  rcases Int.le_total 0 x with h | h
  · exact mul_bd0 h hx.2 hy
  · have := mul_bd0 (x := -x) (y := y) (m := m) (by omega) (by omega) hy
    rw [Int.neg_mul] at this
    omega
/-- a sum of products, pair by pair -/
theorem prod_snoc (a b : List Int) (k : Nat) (ha : k < a.length) (hb : k < b.length) : prodI (a.take (k + 1)) (b.take (k + 1)) = prodI (a.take k) (b.take k) + a[k] * b[k] := by
  unfold prodI
  rw [List.take_succ_eq_append_getElem ha, List.take_succ_eq_append_getElem hb, List.zip_append (by simp; omega)]
  simp
theorem prod_bd {a b : List Int} {m : Int} (ha : ∀ x ∈ a, -m ≤ x ∧ x ≤ m) (hb : ∀ x ∈ b, -m ≤ x ∧ x ≤ m) : -(m * m * (a.length : Int)) ≤ prodI a b ∧ prodI a b ≤ m * m * (a.length : Int) := by
  induction a generalizing b with
  | nil => rw [prodI_nil1]; simp
  | cons x a ih =>
    cases b with
    | nil =>
      rw [prodI_nil2]
      have hm : 0 ≤ m := by have := ha x (by simp); omega
      have h0 : 0 ≤ m * m := Int.mul_nonneg hm hm
      have := Int.mul_nonneg h0 (show (0 : Int) ≤ ((x :: a).length : Int) by omega)
      omega
    | cons y b =>
      have h1 := ih (fun z hz => ha z (by simp [hz])) (fun z hz => hb z (by simp [hz])) (b := b)
      have hx := ha x (by simp)
      have hy := hb y (by simp)
      have hxy : -(m * m) ≤ x * y ∧ x * y ≤ m * m := mul_bd hx hy
      rw [prodI_cons, List.length_cons]
      push_cast
      rw [Int.mul_add, Int.mul_one]
      omega

theorem treeR_len (n : Int) (ps : List Pp) : (treeR n ps).length ≤ ps.length := by
  unfold treeR; split
  · exact numW_len _ _
  · simp
theorem tensR_len (n : Int) (ps : List Pp) (hs : List Int) : (tensR n ps hs).length ≤ ps.length := by
  unfold tensR; split
  · rw [tensL_len]; exact Nat.le_refl _
  · simp
theorem signsR_len' (n : Int) (ps : List Pp) (k : Int) : (signsR n ps k).length ≤ ps.length := by
  cases hb : signB n ps k with
  | false => rw [signsR_no hb]; simp
  | true => rw [(signsR_ring hb).1.1]; exact Nat.le_refl _

end Go.Proofs.Ytphbmlephldaaaa
