/- Contracts of what the exact laws call: marks. -/
import Derived.Test.YtlebamdgcfhdaaaMG
namespace Go.Proofs.Ytlebamdgcfhdaaa
open Go.RowKit

def upFrom (k : Int) : Nat → List Int
  | 0 => []
  | n + 1 => k :: upFrom (k + 1) n

theorem upFrom_len (k : Int) (n : Nat) : (upFrom k n).length = n := by
  induction n generalizing k with
  | zero => rfl
  | succ n ih => simp [upFrom, ih]

theorem upFrom_at (k : Int) (n i : Nat) (h : i < n) : (upFrom k n)[i]? = some (k + i) := by
  induction n generalizing k i with
  | zero => omega
  | succ n ih =>
    cases i with
    | zero => simp [upFrom]
    | succ i =>
      have := ih (k + 1) i (by omega)
      simp only [upFrom, List.getElem?_cons_succ, this]
      congr 1; push_cast; omega

end Go.Proofs.Ytlebamdgcfhdaaa
