/- Contracts of the functions of chapter 5 in the program: WithPipe. -/
import Derived.Test.YtaohjhehlkeckaaC2
import Derived.Test.YtaohjhehlkeckaaGA
import Derived.Test.YtaohjhehlkeckaaW1
import Derived.Test.YtaohjhehlkeckaaWG
import Derived.Deep.DeepCutAuto
import Derived.Lib.SliceRun
namespace Go.Proofs.Ytaohjhehlkeckaa
open Go.RowKit

theorem pipes_new {w : World} {b : Nat} {v : Value} {ps : List Pp} (h : Pipes w b v ps) : ps.length ≤ 4194304 := h.2

/-- what the operations of WithPipe's literal yield -/
def wpV (B z : Nat) (n q0 q1 q2 q3 q4 : Int) (ps PS : List Pp) (sv : Value) : Nat → Value → (Nat → Value) → World → Prop
  | 0, x, _, _ => x = .pointer (some ⟨z, 0, none⟩)
  | 1, x, _, _ => x = .int .i64 n
  | 2, x, _, _ => x = .pointer (some ⟨z, 1, none⟩)
  | 3, x, _, _ => x = sv
  | 4, x, _, wx => Pipes wx B x ps
  | 5, x, _, _ => x = .agg #[.int .i64 q0, .int .i64 q1, .int .i64 q2, .int .i64 q3, .int .i64 q4]
  | 6, x, _, wx => ∃ g, x = .slice (some ⟨g, 0, none⟩) 1 1 ∧ wx.heap[g]? = some (.cells #[.int .i64 q0, .int .i64 q1, .int .i64 q2, .int .i64 q3, .int .i64 q4] 74)
  | 7, x, _, wx => Pipes wx B x PS
  | 8, x, _, wx => ∃ s, x = .agg #[.int .i64 n, s] ∧ Pipes wx B s PS
  | 9, x, _, wx => ∃ g x0 x1, x = .pointer (some ⟨g, 0, none⟩) ∧ B ≤ g ∧ wx.heap[g]? = some (.cells #[x0, x1] 50)
  | 10, _, u, wx => ∃ g s, u 9 = .pointer (some ⟨g, 0, none⟩) ∧ B ≤ g ∧ Pipes wx B s PS ∧ wx.heap[g]? = some (.cells #[.int .i64 n, s] 50)
  | _, _, _, _ => True
/-- what an operation may turn -/
def wpR : Nat → World → World → Prop
  | 7, wx, wy => ∃ row, wx.grownBy wy row ∧ ∀ q, row = some q → ∃ cur, wx.heap[q]? = some (.cells cur 74 (0, 0))
  | 10, _, _ => True
  | _, wx, wy => Below wx.heap.size wx wy

end Go.Proofs.Ytaohjhehlkeckaa
