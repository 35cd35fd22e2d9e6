/- Contracts of the functions of chapter 3 in the model: pushes along a way. -/
import Derived.Test.YtdbfpdanoclgmaaSG
import Derived.Test.YtdbfpdanoclgmaaGR26
import Derived.Test.YtdbfpdanoclgmaaGR5
namespace Go.Proofs.Ytdbfpdanoclgmaa
open Go.RowKit

theorem roomL_snoc' (ps : List Pp) (xs : List Int) (r : Int) (l : List Nat) (k : Nat) (hk : k < l.length) : roomL ps xs r (l.take (k + 1)) = min (roomL ps xs r (l.take k)) (stRoom ps xs l[k]) := by
  rw [List.take_succ_eq_append_getElem hk, roomL, List.foldl_append]
  rfl
theorem pushL_snoc' (a : Int) (xs : List Int) (l : List Nat) (k : Nat) (hk : k < l.length) : pushL a xs (l.take (k + 1)) = push1 a (pushL a xs (l.take k)) l[k] := by
  rw [List.take_succ_eq_append_getElem hk, pushL, List.foldl_append]
  rfl

end Go.Proofs.Ytdbfpdanoclgmaa
