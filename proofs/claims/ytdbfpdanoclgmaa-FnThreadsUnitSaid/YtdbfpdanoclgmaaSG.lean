/- Contracts of the functions of chapter 3 in the model: the first way. -/
import Derived.Test.YtdbfpdanoclgmaaGR7
namespace Go.Proofs.Ytdbfpdanoclgmaa
open Go.RowKit

theorem far_get {E : List (Int × Int)} {N : Nat} {c : Int} {v : Nat} (hv : v < N) : (farL E N c).getD v 0 = farD E N v c := by
  simp [farL, List.getD_eq_getElem?_getD, hv]
/-- is it the step that the model looks for -/
def isNextM (n : Int) (ps : List Pp) (xs : List Int) (c : Int) (k : Nat) (v : Int) (s : Nat) : Bool := decide (stFr ps s = v) && decide (dis n ps xs (stTo ps s) c = k)
theorem next_opens {n : Int} {ps : List Pp} {xs : List Int} {c v : Int} {k : Nat} : nextS n ps xs c k v = (opens ps xs (2 * ps.length)).find? (isNextM n ps xs c k v) := rfl
theorem find_snoc {α : Type} {p : α → Bool} {l : List α} {x : α} (h : l.find? p = none) (hx : p x = true) (m : List α) : (l ++ x :: m).find? p = some x := by
  rw [List.find?_append, h]; simp [hx]

theorem opens_split {ps : List Pp} {xs : List Int} {j M : Nat} (hj : j < M) (h : openF ps xs j = true) : ∃ m, opens ps xs M = opens ps xs j ++ j :: m := by
  induction M with
  | zero => omega
  | succ M ih =>
    by_cases hjm : j = M
    · subst hjm; exact ⟨[], opens_yes h⟩
    · obtain ⟨m, hm⟩ := ih (by omega)
      by_cases ho : openF ps xs M = true
      · exact ⟨m ++ [M], by rw [opens_yes ho, hm]; simp⟩
      · exact ⟨m, by rw [opens_no (by simpa using ho), hm]⟩
theorem opens_none {n : Int} {ps : List Pp} {xs : List Int} {c v : Int} {k j : Nat} (h : (opens ps xs j).find? (isNextM n ps xs c k v) = none) (hn : openF ps xs j = true → isNextM n ps xs c k v j = false) : (opens ps xs (j + 1)).find? (isNextM n ps xs c k v) = none := by
  by_cases ho : openF ps xs j = true
  · rw [opens_yes ho, List.find?_append, h]; simp [hn ho]
  · rw [opens_no (by simpa using ho)]; exact h

/-- the way from a node, none if there is none -/
def restL (n : Int) (ps : List Pp) (xs : List Int) (c v : Int) : List Nat := if dis n ps xs v c < n.toNat then wayL n ps xs c (dis n ps xs v c) v else []

end Go.Proofs.Ytdbfpdanoclgmaa
