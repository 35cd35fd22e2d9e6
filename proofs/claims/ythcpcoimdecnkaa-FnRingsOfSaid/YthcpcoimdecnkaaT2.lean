/- Contracts of the functions of chapter 4 in the model: ThreadOk. -/
import Derived.Test.YthcpcoimdecnkaaT1
namespace Go.Proofs.Ythcpcoimdecnkaa
open Go.RowKit

/-- the node that one is at -/
def atN (ps : List Pp) (xs : List Int) (a : Int) : Nat → Int
  | 0 => a
  | j + 1 => toI ps (xs.getD j 0)

section
variable {n a b : Int} {ps : List Pp} {xs : List Int}
theorem nodes_last (h1 : 1 ≤ xs.length) : (nodesI ps xs).getD xs.length 0 = atN ps xs a xs.length := by
  have := nodes_succ (ps := ps) (xs := xs) (j := xs.length - 1) (by omega)
  rw [show xs.length - 1 + 1 = xs.length by omega] at this
  rw [this]
  obtain ⟨m, hm⟩ : ∃ m, xs.length = m + 1 := ⟨xs.length - 1, by omega⟩
  rw [hm]
  rfl

theorem thread_alt (he : endsB n ps a b = true) (h1 : 1 ≤ xs.length) (h5 : xs.length ≤ 5) (hp : placesB ps xs = true) :
    threadB n ps xs a b = true ↔ (∀ j, j < xs.length → frI ps (xs.getD j 0) = atN ps xs a j) ∧ (a :: xs.map (toI ps)).Nodup ∧ atN ps xs a xs.length = b := by
  have hw : walkB n ps xs = linkB ps xs := by simp [walkB, (ends_parts he).1, withinB, hp]; omega
  rw [threadB, hw, he]
  simp only [Bool.and_eq_true, decide_eq_true_eq, true_and]
  rw [nodes_last (a := a) h1, link_iff]
  constructor
  · rintro ⟨⟨⟨hl, h0⟩, hb⟩, hn⟩
    refine ⟨fun j hj => ?_, ?_, hb⟩
    · rcases j with _ | j
      · exact h0
      · exact hl j hj
    · rw [nodesI, h0] at hn; exact hn
  · rintro ⟨hl, hn, hb⟩
    have h0 := hl 0 (by omega)
    refine ⟨⟨⟨fun j hj => hl (j + 1) hj, h0⟩, hb⟩, ?_⟩
    rw [nodesI, h0]; exact hn

theorem thread_no (h : ¬ ((∀ j, j < xs.length → frI ps (xs.getD j 0) = atN ps xs a j) ∧ (a :: xs.map (toI ps)).Nodup)) (he : endsB n ps a b = true) (h1 : 1 ≤ xs.length) (h5 : xs.length ≤ 5) : threadB n ps xs a b = false := by
  rw [Bool.eq_false_iff]
  intro ht
  by_cases hp : placesB ps xs = true
  · have := (thread_alt he h1 h5 hp).1 ht
    exact h ⟨this.1, this.2.1⟩
  · simp [threadB, walk_no3 (n := n) (show placesB ps xs = false by simpa using hp)] at ht
end

end Go.Proofs.Ythcpcoimdecnkaa
