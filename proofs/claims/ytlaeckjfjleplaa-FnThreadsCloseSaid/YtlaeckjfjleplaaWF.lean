/- Contracts of the functions of chapter 3 in the program: folds over a way, pushes. -/
import Derived.Test.YtlaeckjfjleplaaWD
import Derived.Test.YtlaeckjfjleplaaMG
import Derived.Laws.CopyOwn
import Derived.Deep.RegionHeld3
import Derived.Test.YtlaeckjfjleplaaRW
import Derived.Test.YtlaeckjfjleplaaP
namespace Go.Proofs.Ytlaeckjfjleplaa
open Go.RowKit

/-- numbers of steps as numbers -/
abbrev ofS (l : List Nat) : List Int := l.map fun s : Nat => (s : Int)

theorem roomL_snoc (ps : List Pp) (xs : List Int) (r : Int) (l : List Nat) (k : Nat) (hk : k < l.length) : roomL ps xs r (l.take (k + 1)) = min (roomL ps xs r (l.take k)) (stRoom ps xs l[k]) := by
  rw [List.take_succ_eq_append_getElem hk, roomL, List.foldl_append]
  rfl
theorem pushL_snoc (a : Int) (xs : List Int) (l : List Nat) (k : Nat) (hk : k < l.length) : pushL a xs (l.take (k + 1)) = push1 a (pushL a xs (l.take k)) l[k] := by
  rw [List.take_succ_eq_append_getElem hk, pushL, List.foldl_append]
  rfl

end Go.Proofs.Ytlaeckjfjleplaa
