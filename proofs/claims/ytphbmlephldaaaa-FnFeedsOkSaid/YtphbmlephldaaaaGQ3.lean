/- Plain facts. -/
import Derived.Test.YtphbmlephldaaaaGQ24
import Derived.Test.YtphbmlephldaaaaW6
import Derived.Test.YtphbmlephldaaaaGQ21
import Derived.Test.YtphbmlephldaaaaGQ19
import Derived.Deep.QuietTactic
import Derived.Deep.AppendLies
/- Contracts of the functions of chapter 4 in the program: walks along pipes. -/
namespace Go.Proofs.Ytphbmlephldaaaa
open Go.RowKit

end Go.Proofs.Ytphbmlephldaaaa

/- Contracts of the functions of chapter 4 in the program: the nodes along a walk. -/
namespace Go.Proofs.Ytphbmlephldaaaa
open Go.RowKit

theorem take_getD {L : List Int} {j : Nat} (h : j < L.length) : L.take (j + 1) = L.take j ++ [L.getD j 0] := by
  rw [List.take_succ_eq_append_getElem h]
  simp [List.getD_eq_getElem?_getD, h]

end Go.Proofs.Ytphbmlephldaaaa
