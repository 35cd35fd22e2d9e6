/- Plain facts. -/
import Derived.Test.YtmgpekdhcghabaaGreatMG
/- Plain facts, chapter 7: labels of pieces, trees, products of flows and tensions. -/
namespace Go.Proofs.YtmgpekdhcghabaaGreat
open Go.RowKit

/-- the label of a node -/
def lab (L : List Int) (v : Int) : Int := L.getD v.toNat 0
def ident (n : Nat) : List Int := (List.range n).map fun k : Nat => (k : Int)
def relab (L : List Int) (gone kept : Int) : List Int := L.map fun x => if x = gone then kept else x

/-- the labels after so many pipes; is this pipe of the tree; the tree -/
def growL (n : Nat) (ps : List Pp) : Nat → List Int
  | 0 => ident n
  | k + 1 => if lab (growL n ps k) (ps.getD k zeroPp).fr = lab (growL n ps k) (ps.getD k zeroPp).to then growL n ps k else relab (growL n ps k) (lab (growL n ps k) (ps.getD k zeroPp).to) (lab (growL n ps k) (ps.getD k zeroPp).fr)
def treeF (n : Nat) (ps : List Pp) (k : Nat) : Bool := !decide (lab (growL n ps k) (ps.getD k zeroPp).fr = lab (growL n ps k) (ps.getD k zeroPp).to)
def treeL (n : Nat) (ps : List Pp) : List Int := numW ps.length (treeF n ps)
def piecesI (n : Int) (ps : List Pp) : Int := if netOkB n ps = true then n - (treeL n.toNat ps).length else -1

section
variable {n : Nat} {ps : List Pp} {k : Nat} {u v : Int}
end

end Go.Proofs.YtmgpekdhcghabaaGreat

/- Plain facts, chapter 7: the signs of the ring that a pipe has with the tree. -/
namespace Go.Proofs.YtmgpekdhcghabaaGreat
open Go.RowKit

section
variable {n : Nat} {ps : List Pp} {z z1 z2 : List Int}
end

section
variable {n : Int} {ps : List Pp} {k : Nat}
end

end Go.Proofs.YtmgpekdhcghabaaGreat
