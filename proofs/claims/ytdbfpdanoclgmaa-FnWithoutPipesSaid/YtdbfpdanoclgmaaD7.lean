/- Contracts of the laws' draws: two flows; a net alone; a net and a side. -/
import Derived.Test.YtdbfpdanoclgmaaD6
namespace Go.Proofs.Ytdbfpdanoclgmaa
open Go.RowKit

/-- what a draw of a net and two flows leaves -/
def DrawnTwo (w : World) (e : Ending) (w' : World) : Prop :=
  ∃ (z : Int) (ps : List Pp) (u : Value) (xs : List Int) (t : Value) (ys : List Int) (r : Value), e = .returned (.tuple #[.agg #[.int .i64 z, u], t, r]) ∧ Pipes w' w.heap.size u ps ∧ Ints w' w.heap.size t xs ∧ Ints w' w.heap.size r ys ∧ Below w.heap.size w w' ∧ ps.length ≤ 8 ∧ 1 ≤ z ∧ z ≤ 6
/-- what a draw of a net leaves -/
def DrawnNet (w : World) (e : Ending) (w' : World) : Prop :=
  ∃ (z : Int) (ps : List Pp) (u : Value), e = .returned (.agg #[.int .i64 z, u]) ∧ Pipes w' w.heap.size u ps ∧ Below w.heap.size w w' ∧ ps.length ≤ 8 ∧ 1 ≤ z ∧ z ≤ 6
/-- what a draw of a net and a number leaves -/
def DrawnNetInt (w : World) (e : Ending) (w' : World) : Prop :=
  ∃ (z : Int) (ps : List Pp) (u : Value) (i : Int), e = .returned (.tuple #[.agg #[.int .i64 z, u], .int .i64 i]) ∧ Pipes w' w.heap.size u ps ∧ Below w.heap.size w w' ∧ ps.length ≤ 8 ∧ 1 ≤ z ∧ z ≤ 6 ∧ -1000 ≤ i ∧ i ≤ 1000

end Go.Proofs.Ytdbfpdanoclgmaa
