/- Contracts of the laws' draws that give a net and a flow. -/
import Derived.Test.YtdbfpdanoclgmaaD5
namespace Go.Proofs.Ytdbfpdanoclgmaa
open Go.RowKit

/-- what a draw of a net and a flow leaves -/
def DrawnFlow (w : World) (e : Ending) (w' : World) : Prop :=
  ∃ (z : Int) (ps : List Pp) (u : Value) (xs : List Int) (t : Value), e = .returned (.tuple #[.agg #[.int .i64 z, u], t]) ∧ Pipes w' w.heap.size u ps ∧ Ints w' w.heap.size t xs ∧ Below w.heap.size w w' ∧ ps.length ≤ 8 ∧ 1 ≤ z ∧ z ≤ 6
/-- what a draw of a net, a flow and a number leaves -/
def DrawnFlowInt (w : World) (e : Ending) (w' : World) : Prop :=
  ∃ (z : Int) (ps : List Pp) (u : Value) (xs : List Int) (t : Value) (i : Int), e = .returned (.tuple #[.agg #[.int .i64 z, u], t, .int .i64 i]) ∧ Pipes w' w.heap.size u ps ∧ Ints w' w.heap.size t xs ∧ Below w.heap.size w w' ∧ ps.length ≤ 8 ∧ 1 ≤ z ∧ z ≤ 6

end Go.Proofs.Ytdbfpdanoclgmaa
