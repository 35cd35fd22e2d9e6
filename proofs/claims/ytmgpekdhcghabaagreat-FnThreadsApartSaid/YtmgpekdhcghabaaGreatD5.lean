/- Contracts of the draws: a net and a flow. -/
import Derived.Test.YtmgpekdhcghabaaGreatD3
import Derived.Test.YtmgpekdhcghabaaGreatS1
import Derived.Maps.AppendAt
import Derived.Deep.RegionWith
namespace Go.Proofs.YtmgpekdhcghabaaGreat
open Go.RowKit

theorem cell_drew {W : World} {g o : Nat} {v : Value} (h : W.cell? ⟨g, o, none⟩ = some v) : W.drew.cell? ⟨g, o, none⟩ = some v := h
section
variable {w : World} {b : Nat} {v : Value} {ps : List Pp} {xs : List Int}
theorem Pipes.alloc' (h : Pipes w b v ps) (o : Obj) : Pipes (w.alloc o) b v ps := ⟨h.1.alloc o, h.2⟩
theorem Pipes.drew' (h : Pipes w b v ps) : Pipes w.drew b v ps := h
theorem Pipes.drewN' (h : Pipes w b v ps) (n : Nat) : Pipes (w.drewN n) b v ps := h
theorem Ints.alloc' (h : Ints w b v xs) (o : Obj) : Ints (w.alloc o) b v xs := ⟨h.1.alloc o, h.2⟩
theorem Ints.drew' (h : Ints w b v xs) : Ints w.drew b v xs := h
theorem Ints.drewN' (h : Ints w b v xs) (n : Nat) : Ints (w.drewN n) b v xs := h
theorem Rd.alloc' {rg m c K : Nat} {A : Option Addr} (h : Rd w rg A m c K) (o : Obj) : Rd (w.alloc o) rg A m c K := h.keep ((Below.refl _ _).alloc (Nat.le_refl _) _)
theorem Ints.made (w : World) {n b g : Nat} (hb : b ≤ w.heap.size) (hn : n ≤ 4194304) (hg : g = w.heap.size) : Ints (w.alloc (.cells (madeCells #[.int .i64 0] n) 3)) b (.slice (some ⟨g, 0, none⟩) n n) (List.replicate n 0) := by
  subst hg
  have h := made_ints w n 3 b hb hn
  exact ⟨by simpa using h, by simpa [small] using hn⟩
end

end Go.Proofs.YtmgpekdhcghabaaGreat
