/- Contracts of the functions of chapter 4 in the model: RingOk and ThreadOk. -/
import Derived.Test.YthcpcoimdecnkaaN1
import Derived.Test.YthcpcoimdecnkaaS6
import Derived.Test.YthcpcoimdecnkaaSJ
import Derived.Test.YthcpcoimdecnkaaRD
import Derived.Test.YthcpcoimdecnkaaD0
namespace Go.Proofs.Ythcpcoimdecnkaa
open Go.RowKit

theorem tmod_len {k m : Nat} : ((k : Int) + 1).tmod (m : Int) = (((k + 1) % m : Nat) : Int) := by
  rw [show (k : Int) + 1 = ((k + 1 : Nat) : Int) by omega]
  rw [Int.tmod_eq_emod_of_nonneg (Int.natCast_nonneg _)]
  rfl

end Go.Proofs.Ythcpcoimdecnkaa
