/- Plain facts of chapter 5: sides that block. -/
import Derived.Test.YtphbmlephldaaaaN4
import Derived.Test.YtphbmlephldaaaaMG
namespace Go.Proofs.Ytphbmlephldaaaa
open Go.RowKit

def blockF (ps : List Pp) (k : Nat) : Bool := decide (room (k : Int) ps < 0)
def blockO (n : Int) (ps : List Pp) : Option Nat := if netOkB n ps = true then (List.range (2 ^ n.toNat)).find? (blockF ps) else none
def blockR (n : Int) (ps : List Pp) : Int × Bool := match blockO n ps with
  | some k => ((k : Int), true)
  | none => (-1, false)

theorem block_some {n : Int} {ps : List Pp} {k : Nat} (h : blockO n ps = some k) : blockR n ps = ((k : Int), true) := by rw [blockR, h]
theorem block_none {n : Int} {ps : List Pp} (h : blockO n ps = none) : blockR n ps = (-1, false) := by rw [blockR, h]
theorem blockO_yes {n : Int} {ps : List Pp} (h : netOkB n ps = true) : blockO n ps = (List.range (2 ^ n.toNat)).find? (blockF ps) := by rw [blockO, if_pos h]
theorem blockO_no {n : Int} {ps : List Pp} (h : netOkB n ps = false) : blockO n ps = none := by rw [blockO, if_neg (by simp [h])]

theorem find_filter {c q : Nat} {f : Nat → Bool} (h : (List.range c).find? f = some q) : ∃ l, (List.range c).filter f = q :: l := by
  generalize List.range c = L at h
  induction L with
  | nil => simp at h
  | cons x L ih =>
    by_cases hx : f x = true
    · rw [List.find?_cons_of_pos hx] at h
      injection h with h
      subst h
      exact ⟨_, List.filter_cons_of_pos hx⟩
    · rw [List.find?_cons_of_neg hx] at h
      rw [List.filter_cons_of_neg hx]
      exact ih h
theorem numW_head {c q : Nat} {f : Nat → Bool} (h : (List.range c).find? f = some q) : 0 < (numW c f).length ∧ (numW c f).getD 0 0 = (q : Int) := by
  obtain ⟨l, hl⟩ := find_filter h
  simp [numW, hl]
theorem numW_none {c : Nat} {f : Nat → Bool} (h : (List.range c).find? f = none) : numW c f = [] := by
  have : (List.range c).filter f = [] := by
    rw [List.filter_eq_nil_iff]
    intro a ha
    simpa using List.find?_eq_none.1 h a ha
  simp [numW, this]

end Go.Proofs.Ytphbmlephldaaaa
