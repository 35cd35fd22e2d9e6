/- What the laws of promises call: equality of nets. -/
import Derived.Test.YtphbmlephldaaaaG1
import Derived.Laws.StructEq
namespace Go.Proofs.Ytphbmlephldaaaa
open Go.RowKit

theorem eqPipes_run (p q : Pp) (w : World) : (Op.equalIn 10000 33 (.agg #[.int .i64 p.fr, .int .i64 p.to, .int .i64 p.le, .int .i64 p.mo, .int .i64 p.co]) (.agg #[.int .i64 q.fr, .int .i64 q.to, .int .i64 q.le, .int .i64 q.mo, .int .i64 q.co])).run Try.prog w = .ok (eqPp p q) w := by
  have hS : Try.prog.underlying 33 = some (.struct (Try.prog.fieldsOf 33)) := by kernel_rfl
  have u3 := Try.underlying3
  have a3 := Try.isAgg3
  have z3 := Try.sizeOf3
  rw [show (10000 : Nat) = 9999 + 1 from rfl, run_equalIn_agg w 9999 33 _ _ hS (by kernel_rfl)]
  simp only [Program.fieldsOf, Try.underlying33]
  go_simp
  obtain ⟨a, b, c, d, e⟩ := p
  obtain ⟨a', b', c', d', e'⟩ := q
  simp only [eqPp]
  by_cases h1 : a = a' <;> by_cases h2 : b = b' <;> by_cases h3 : c = c' <;> by_cases h4 : d = d' <;> by_cases h5 : e = e' <;> simp [h1, h2, h3, h4, h5]

end Go.Proofs.Ytphbmlephldaaaa
