/- Contracts of the functions of chapter 2 in the model: LeavingOf. -/
import Derived.Test.YtangnecgnclobaaS8
import Derived.Test.YtangnecgnclobaaGE15
namespace Go.Proofs.Ytangnecgnclobaa
open Go.RowKit

theorem Ints_empty' (w : World) (b : Nat) (g : Nat) (hb : b ≤ w.heap.size) (hg : g = w.heap.size) : Ints (w.alloc (.cells #[] 3)) b (.slice (some ⟨g, 0, none⟩) 0 0) [] := by
  subst hg
  exact ⟨World.ownsRow_lit (e := 3) (base := b) (size := 1) w #[] 0 hb (by simp [maxLen]) rfl, Nat.zero_le _⟩

end Go.Proofs.Ytangnecgnclobaa
