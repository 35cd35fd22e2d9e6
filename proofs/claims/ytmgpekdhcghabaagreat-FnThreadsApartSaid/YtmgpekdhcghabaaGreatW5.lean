/- Contracts of the functions of chapter 1 in the program: remade, TurnedNet. -/
import Derived.Test.YtmgpekdhcghabaaGreatW1
import Derived.Test.YtmgpekdhcghabaaGreatGR26
namespace Go.Proofs.YtmgpekdhcghabaaGreat
open Go.RowKit

theorem mapIdx_map (ps : List Pp) (f : Pp → Pp) : ps.mapIdx (fun _ p => f p) = ps.map f := by
  refine List.ext_getElem (by simp) fun k h1 h2 => ?_
  simp

end Go.Proofs.YtmgpekdhcghabaaGreat
