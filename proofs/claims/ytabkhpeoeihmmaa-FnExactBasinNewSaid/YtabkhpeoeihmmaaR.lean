/- A region that draws its order, whose operations read what is old and whose callees make new memory alone: one walk in the order of the text. -/
import Derived.Test.YtabkhpeoeihmmaaB
import Derived.BigQuiet
namespace Go.Proofs.Ytabkhpeoeihmmaa
open Go.RowKit

/-- a later world in which nothing old has changed -/
structure Bw (w : World) where
  v : World
  h : Below w.heap.size w v

instance (w : World) : Nonempty (Bw w) := ⟨⟨w, Below.refl _ _⟩⟩

theorem bw_cell {w : World} (p : Bw w) {b o : Nat} (h : b < w.heap.size) : p.v.cell? ⟨b, o, none⟩ = w.cell? ⟨b, o, none⟩ := p.h.cell (p := ⟨b, o, none⟩) h

theorem calls_bw {P : Program} {f : FuncId} {args : Array Value} {w : World} {p : Bw w} {v : Value}
    (h : Calls P f args p.v fun e w' => e = .returned v ∧ Below p.v.heap.size p.v w') : Calls P f args p.v fun e w'' => e = .returned v ∧ ∃ q : Bw w, w'' = q.v :=
  h.mono fun _ w' hh => ⟨hh.1, ⟨w', p.h.trans (hh.2.mono p.h.size)⟩, rfl⟩

theorem wp_region_bw {P : Program} {id : Nat} {Q : Exit → Act → World → Prop} {a : Act} {w : World} {l : List Oper} (hm : P.follows .mixedOrders = true) (hB : Region.lexB .any l.toArray = true)
    (h : wpQuiet P l.toArray (fun w' => ∃ p : Bw w, w' = p.v) (fun a' => ∀ w', (∃ p : Bw w, w' = p.v) → Q .normal a' w') l a) : (Code.region id l.toArray true).wp P Q a w :=
  wp_region_quiet (C := fun w' => ∃ p : Bw w, w' = p.v) hm hB ⟨⟨{ w with drawn := w.drawn + 1 }, ⟨rfl, rfl, rfl, Nat.le_refl _, fun _ _ => rfl⟩⟩, rfl⟩ (by simpa using h)

end Go.Proofs.Ytabkhpeoeihmmaa
