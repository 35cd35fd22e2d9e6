/- Contracts of what the exact laws call: marks of pipes and nets. -/
import Derived.Test.YtffeeiafgheoaaaE3
namespace Go.Proofs.Ytffeeiafgheoaaa
open Go.RowKit

def markPp (m : Int) : Pp := ⟨m, m + 1, m + 1 + 1, m + 1 + 1 + 1, m + 1 + 1 + 1 + 1⟩
def upPipes (m : Int) : Nat → List Pp
  | 0 => []
  | n + 1 => markPp m :: upPipes (m + 5) n

theorem upPipes_len (m : Int) (n : Nat) : (upPipes m n).length = n := by
  induction n generalizing m with
  | zero => rfl
  | succ n ih => simp [upPipes, ih]

theorem upPipes_at (m : Int) (n i : Nat) (h : i < n) : (upPipes m n)[i]? = some (markPp (m + 5 * i)) := by
  induction n generalizing m i with
  | zero => omega
  | succ n ih =>
    cases i with
    | zero => simp [upPipes]
    | succ i =>
      have := ih (m + 5) i (by omega)
      simp only [upPipes, List.getElem?_cons_succ, this]
      congr 2; push_cast; omega

theorem own_grow5 {w : World} {b e : Nat} {g n cap : Nat} {xs : List Value} (h : w.ownsRow b e 5 (.slice (some ⟨g, 0, none⟩) n cap) n xs) (j0 j1 j2 j3 j4 : Nat) (u0 u1 u2 u3 u4 : Value) :
    w.grownBy (((((w.setCell ⟨g, j0, none⟩ u0).setCell ⟨g, j1, none⟩ u1).setCell ⟨g, j2, none⟩ u2).setCell ⟨g, j3, none⟩ u3).setCell ⟨g, j4, none⟩ u4) (some g) := by
  have a0 := h.stored j0 u0
  have a1 := a0.1.stored j1 u1
  have a2 := a1.1.stored j2 u2
  have a3 := a2.1.stored j3 u3
  have a4 := a3.1.stored j4 u4
  exact (((a0.2.trans a1.2).trans a2.2).trans a3.2).trans a4.2

theorem own_apart {v u : Value} {a b c d : Nat} (o1 : ∀ k, v.ownBlock = some k → a ≤ k ∧ k < b) (o2 : ∀ k, u.ownBlock = some k → c ≤ k ∧ k < d) (h : b ≤ c ∨ d ≤ a) : v.ownBlock = none ∨ v.ownBlock ≠ u.ownBlock := by
  cases hv : v.ownBlock with
  | none => exact .inl rfl
  | some k =>
    refine .inr fun he => ?_
    have h1 := o1 k hv
    have h2 := o2 k he.symm
    omega

theorem turnL_len (n : Int) (ps : List Pp) : (turnL n ps).length ≤ ps.length := by unfold turnL; split <;> simp
theorem bothR_len (n : Int) (ps : List Pp) (xs ys : List Int) : (bothR n ps xs ys).length ≤ xs.length := by
  unfold bothR; split
  · simp [addAll]; omega
  · simp

end Go.Proofs.Ytffeeiafgheoaaa
