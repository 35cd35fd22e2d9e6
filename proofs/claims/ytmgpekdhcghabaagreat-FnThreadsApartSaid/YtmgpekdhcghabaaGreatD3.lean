/- Contracts of the draws: amounts that go round in a net. -/
import Derived.Test.YtmgpekdhcghabaaGreatD2
import Derived.Test.YtmgpekdhcghabaaGreatMG
namespace Go.Proofs.YtmgpekdhcghabaaGreat
open Go.RowKit

theorem Ints.grown {w w' : World} {b : Nat} {v : Value} {xs : List Int} (h : Ints w b v xs) {rg : Nat} (hg : w.grownBy w' (some rg)) (hr : rg < b) : Ints w' b v xs :=
  ⟨own_grow h.1 hg (fun q hq => by injection hq with hq; omega), h.2⟩
theorem Pipes.grown {w w' : World} {b : Nat} {v : Value} {ps : List Pp} (h : Pipes w b v ps) {rg : Nat} (hg : w.grownBy w' (some rg)) (hr : rg < b) : Pipes w' b v ps :=
  ⟨own_grow h.1 hg (fun q hq => by injection hq with hq; omega), h.2⟩

theorem Pipes.at' {w : World} {b n c : Nat} {A : Option Addr} {ps : List Pp} (h : Pipes w b (.slice A n c) ps) (k : Nat) (hk : k < ps.length) : ∃ g, A = some ⟨g, 0, none⟩ ∧ b ≤ g ∧ g < w.heap.size ∧
      w.cell? ⟨g, k * 5, none⟩ = some (.int .i64 ps[k].fr) ∧ w.cell? ⟨g, k * 5 + 1, none⟩ = some (.int .i64 ps[k].to) ∧ w.cell? ⟨g, k * 5 + 2, none⟩ = some (.int .i64 ps[k].le) ∧
      w.cell? ⟨g, k * 5 + 3, none⟩ = some (.int .i64 ps[k].mo) ∧ w.cell? ⟨g, k * 5 + 4, none⟩ = some (.int .i64 ps[k].co) := by
  obtain ⟨A', c', e, -, -, -, hc⟩ := h.form
  injection e with e1 e2 e3
  subst e1
  exact hc w (Below.refl _ _) k hk
theorem Ints.at' {w : World} {b n c : Nat} {A : Option Addr} {xs : List Int} (h : Ints w b (.slice A n c) xs) (k : Nat) (hk : k < xs.length) : ∃ g, A = some ⟨g, 0, none⟩ ∧ b ≤ g ∧ g < w.heap.size ∧
      w.cell? ⟨g, k, none⟩ = some (.int .i64 xs[k]) ∧ w.frozen? ⟨g, k, none⟩ = false := by
  obtain ⟨A', c', e, -, -, -, hc⟩ := h.form
  injection e with e1 e2 e3
  subst e1
  exact hc w (Below.refl _ _) k hk

end Go.Proofs.YtmgpekdhcghabaaGreat
