/- Plain facts. -/
import Derived.Test.YtmgpekdhcghabaaGreatGR9
import Derived.Test.YtmgpekdhcghabaaGreatGR27
/- Plain facts, chapter 7: labels as the given model keeps them, laid anew from the tree each time. -/
namespace Go.Proofs.YtmgpekdhcghabaaGreat
open Go.RowKit

end Go.Proofs.YtmgpekdhcghabaaGreat

/- Plain facts, chapter 7: pieces of turned nets, and of nets without the last pipe. -/
namespace Go.Proofs.YtmgpekdhcghabaaGreat
open Go.RowKit

theorem numW_congr {c : Nat} {f g : Nat → Bool} (h : ∀ k, k < c → f k = g k) : numW c f = numW c g := by
  induction c with
  | zero => rfl
  | succ c ih =>
    have ih := ih fun k hk => h k (by omega)
    have hc := h c (by omega)
    cases hf : f c with
    | true => rw [numW_yes hf, numW_yes (by rw [← hc, hf]), ih]
    | false => rw [numW_no hf, numW_no (by rw [← hc, hf]), ih]
end Go.Proofs.YtmgpekdhcghabaaGreat

/- Plain facts of chapter 11: nets whose pipes have the same ends. -/
namespace Go.Proofs.YtmgpekdhcghabaaGreat
open Go.RowKit

section
variable {n a b : Int} {ps qs : List Pp} {xs : List Int} {k : Nat}
/-- nets whose pipes have the same ends -/
def sameEnds (ps qs : List Pp) : Prop := qs.length = ps.length ∧ ∀ k, (qs.getD k zeroPp).fr = (ps.getD k zeroPp).fr ∧ (qs.getD k zeroPp).to = (ps.getD k zeroPp).to
theorem unit_ends (ps : List Pp) : sameEnds ps (ps.map unitP) := ⟨by simp, fun k => by
  by_cases hk : k < ps.length
  · rw [unit_getD ps hk]; exact ⟨rfl, rfl⟩
  · rw [getD_none hk, getD_none (by simpa using hk)]; exact ⟨rfl, rfl⟩⟩
theorem sameEnds.growL {m : Nat} (h : sameEnds ps qs) (k : Nat) : growL m qs k = growL m ps k := by
  induction k with
  | zero => rfl
  | succ k ih => rw [Go.Proofs.YtmgpekdhcghabaaGreat.growL, Go.Proofs.YtmgpekdhcghabaaGreat.growL, ih, (h.2 k).1, (h.2 k).2]
theorem sameEnds.treeF {m : Nat} (h : sameEnds ps qs) (k : Nat) : treeF m qs k = treeF m ps k := by
  unfold Go.Proofs.YtmgpekdhcghabaaGreat.treeF
  rw [h.growL, (h.2 k).1, (h.2 k).2]
theorem sameEnds.pieces (h : sameEnds ps qs) (h1 : netOkB n ps = true) (h2 : netOkB n qs = true) : piecesI n qs = piecesI n ps := by
  rw [piecesI, piecesI, if_pos h1, if_pos h2, treeL, treeL, h.1, numW_congr fun k _ => h.treeF (m := n.toNat) k]
theorem sameEnds.thread (h : sameEnds ps qs) (h1 : netOkB n ps = true) (h2 : netOkB n qs = true) : threadB n qs xs a b = threadB n ps xs a b := by
  have ef : frI qs = frI ps := funext fun x => (h.2 x.toNat).1
  have et : toI qs = toI ps := funext fun x => (h.2 x.toNat).2
  simp only [threadB, walkB, endsB, placesB, linkB, nodesI, ef, et, h.1, h1, h2]
  rfl
end

end Go.Proofs.YtmgpekdhcghabaaGreat
