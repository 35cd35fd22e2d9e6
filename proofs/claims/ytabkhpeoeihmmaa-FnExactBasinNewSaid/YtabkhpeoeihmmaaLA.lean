/- Cells of rows whose slice is known, at any later world. -/
import Derived.Test.YtabkhpeoeihmmaaMG
namespace Go.Proofs.Ytabkhpeoeihmmaa
open Go.RowKit

theorem Ints.cellAt {w wr : World} {b m c : Nat} {A : Option Addr} {xs : List Int} (h : Ints w b (.slice A m c) xs) (hb : Below w.heap.size w wr) (k : Nat) (hk : k < xs.length) :
    ∃ g, A = some ⟨g, 0, none⟩ ∧ b ≤ g ∧ g < w.heap.size ∧ wr.cell? ⟨g, k, none⟩ = some (.int .i64 xs[k]) ∧ wr.frozen? ⟨g, k, none⟩ = false := by
  obtain ⟨A', c', hv, -, -, -, hc⟩ := h.form
  injection hv with e1 e2 e3
  subst e1
  exact hc wr hb k hk

theorem Pipes.cellAt {w wr : World} {b m c : Nat} {A : Option Addr} {ps : List Pp} (h : Pipes w b (.slice A m c) ps) (hb : Below w.heap.size w wr) (k : Nat) (hk : k < ps.length) :
    ∃ g, A = some ⟨g, 0, none⟩ ∧ b ≤ g ∧ g < w.heap.size ∧
      wr.cell? ⟨g, k * 5, none⟩ = some (.int .i64 ps[k].fr) ∧ wr.cell? ⟨g, k * 5 + 1, none⟩ = some (.int .i64 ps[k].to) ∧ wr.cell? ⟨g, k * 5 + 2, none⟩ = some (.int .i64 ps[k].le) ∧
      wr.cell? ⟨g, k * 5 + 3, none⟩ = some (.int .i64 ps[k].mo) ∧ wr.cell? ⟨g, k * 5 + 4, none⟩ = some (.int .i64 ps[k].co) := by
  obtain ⟨A', c', hv, -, -, -, hc⟩ := h.form
  injection hv with e1 e2 e3
  subst e1
  exact hc wr hb k hk

end Go.Proofs.Ytabkhpeoeihmmaa
