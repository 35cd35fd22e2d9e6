/- RingsOf, as its exact law calls it. -/
import Derived.Test.YtkognphcekdgdaaO1
import Derived.Test.YtkognphcekdgdaaN5
import Derived.Test.YtkognphcekdgdaaT6
import Derived.Test.YtkognphcekdgdaaV8
namespace Go.Proofs.Ytkognphcekdgdaa
open Go.RowKit

theorem ringsR_off (n : Int) (ps : List Pp) (xs : List Int) : off (ringsR n ps xs) (ringsR n ps xs).length ≤ 1000000 := by
  have h := off_bd (Ls := ringsR n ps xs) (B := 7) (fun L hL => (ringsR_each L hL).2)
  have := ringsR_few (n := n) (ps := ps) (xs := xs)
  omega
theorem rings_ex (n : Int) (v u : Value) (ps : List Pp) (xs : List Int) (b b' : Nat) (w : World) (hp : Pipes w b v ps) (hx : Ints w b' u xs) :
    Calls Try.prog 13 #[.agg #[.int .i64 n, v], u] w fun e w' => ∃ r, e = .returned r ∧ RowsM w' w.heap.size w'.heap.size r (ringsR n ps xs) ∧ Below w.heap.size w w' := by
  refine (ringsTop_any n v u ps xs b b' w hp hx).mono ?_
  rintro e w' ⟨r, rfl, h, hb⟩
  exact ⟨r, rfl, h.toM, hb⟩
theorem specRings_ex (n : Int) (v u : Value) (ps : List Pp) (xs : List Int) (b b' : Nat) (w : World) (hp : Pipes w b v ps) (hx : Ints w b' u xs) :
    Calls Try.prog 10 #[.agg #[.int .i64 n, v], u] w fun e w' => ∃ r, e = .returned r ∧ RowsB w' w.heap.size w'.heap.size r (ringsR n ps xs) ∧ Below w.heap.size w w' := by
  refine (specRingsOf_any n v u ps xs b b' w hp hx).mono ?_
  rintro e w' ⟨g, cap, rfl, h, hb⟩
  exact ⟨_, rfl, h.toB, hb⟩

end Go.Proofs.Ytkognphcekdgdaa
