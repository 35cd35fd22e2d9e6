/- Contracts of the laws' draws: a net, a flow that all pipes often hold, and two nodes. -/
import Derived.Test.YtphbmlephldaaaaG7
import Derived.Test.YtphbmlephldaaaaSI
import Derived.Test.YtphbmlephldaaaaMG
import Derived.Deep.RegionWith
namespace Go.Proofs.Ytphbmlephldaaaa
open Go.RowKit

/-- what l20Pushed leaves -/
def Pushed (w : World) (rg : Nat) (A : Option Addr) (m c K : Nat) (e : Ending) (w' : World) : Prop :=
  ∃ (z : Int) (ps : List Pp) (v : Value) (xs : List Int) (u : Value) (i j : Int), e = .returned (.tuple #[.agg #[.int .i64 z, v], u, .int .i64 i, .int .i64 j]) ∧ Pipes w' w.heap.size v ps ∧ Ints w' w.heap.size u xs ∧ xs.length = ps.length ∧ Rd w' rg A m c K ∧ w.grownBy w' (some rg) ∧ ps.length ≤ 8 ∧ 1 ≤ z ∧ z ≤ 6 ∧ 0 ≤ i ∧ 0 ≤ j ∧ (2 ≤ z → i < z)

end Go.Proofs.Ytphbmlephldaaaa
