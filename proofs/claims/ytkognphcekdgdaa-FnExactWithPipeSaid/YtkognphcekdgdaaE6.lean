/- A pipe that came in. -/
import Derived.Test.YtkognphcekdgdaaP
namespace Go.Proofs.Ytkognphcekdgdaa
open Go.ChangeShapes Go.WideShapes Go.ChangeAt Go.RowKit Go.Deep Go.Joins

set_option maxRecDepth 100000 in
theorem open_arg_pipe {H : Type} {enc : TypeId × Value → H} {w : World} {base : Nat} {spare : Nat → Bool} {held : Bool} {r : Reach} {b0 : Nat} {v : Value} {d : DataW H} {p : List MemPlace}
    (hv : Value.okWide Try.prog w r b0 51 v) (h : DataW.Trod enc Try.prog w base spare held 51 v d p) :
    ∃ q : Pp, v = .agg #[.int .i64 q.fr, .int .i64 q.to, .int .i64 q.le, .int .i64 q.mo, .int .i64 q.co] := by
  obtain ⟨cs, rfl, -⟩ := okWide_struct Try.underlying51 hv
  obtain ⟨fuel, hf⟩ := h
  obtain ⟨q, hq⟩ := five_ints hf
  have e : cs.toList = q.cells := by simpa [Value.cells] using hq
  refine ⟨q, ?_⟩
  congr 1
  exact Array.ext' (by simpa [Pp.cells] using e)

end Go.Proofs.Ytkognphcekdgdaa
