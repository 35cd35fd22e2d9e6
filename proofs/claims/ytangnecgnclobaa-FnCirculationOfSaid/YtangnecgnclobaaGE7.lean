/- Plain facts. -/
import Derived.Test.YtangnecgnclobaaGE1
import Derived.BigQuiet
import Derived.Test.YtangnecgnclobaaSG
import Derived.Test.YtangnecgnclobaaGE20
/- A region that draws its order, whose operations read what is old and whose callees make new memory alone: one walk in the order of the text. -/
namespace Go.Proofs.Ytangnecgnclobaa
open Go.RowKit

/-- a later world in which nothing old has changed -/
structure Bw (w : World) where
  v : World
  h : Below w.heap.size w v

instance (w : World) : Nonempty (Bw w) := ⟨⟨w, Below.refl _ _⟩⟩

theorem bw_cell {w : World} (p : Bw w) {b o : Nat} (h : b < w.heap.size) : p.v.cell? ⟨b, o, none⟩ = w.cell? ⟨b, o, none⟩ := p.h.cell (p := ⟨b, o, none⟩) h

theorem calls_bw {P : Program} {f : FuncId} {args : Array Value} {w : World} {p : Bw w} {v : Value}
    (h : Calls P f args p.v fun e w' => e = .returned v ∧ Below p.v.heap.size p.v w') : Calls P f args p.v fun e w'' => e = .returned v ∧ ∃ q : Bw w, w'' = q.v :=
  h.mono fun _ w' hh => ⟨hh.1, ⟨w', p.h.trans (hh.2.mono p.h.size)⟩, rfl⟩

theorem wp_region_bw {P : Program} {id : Nat} {Q : Exit → Act → World → Prop} {a : Act} {w : World} {l : List Oper} (hm : P.follows .mixedOrders = true) (hB : Region.lexB .any l.toArray = true)
    (h : wpQuiet P l.toArray (fun w' => ∃ p : Bw w, w' = p.v) (fun a' => ∀ w', (∃ p : Bw w, w' = p.v) → Q .normal a' w') l a) : (Code.region id l.toArray true).wp P Q a w :=
  wp_region_quiet (C := fun w' => ∃ p : Bw w, w' = p.v) hm hB ⟨⟨{ w with drawn := w.drawn + 1 }, ⟨rfl, rfl, rfl, Nat.le_refl _, fun _ _ => rfl⟩⟩, rfl⟩ (by simpa using h)

end Go.Proofs.Ytangnecgnclobaa

/- Contracts of the functions of chapter 3 in the model: pushes along a way. -/
namespace Go.Proofs.Ytangnecgnclobaa
open Go.RowKit

theorem roomL_snoc' (ps : List Pp) (xs : List Int) (r : Int) (l : List Nat) (k : Nat) (hk : k < l.length) : roomL ps xs r (l.take (k + 1)) = min (roomL ps xs r (l.take k)) (stRoom ps xs l[k]) := by
  rw [List.take_succ_eq_append_getElem hk, roomL, List.foldl_append]
  rfl
theorem pushL_snoc' (a : Int) (xs : List Int) (l : List Nat) (k : Nat) (hk : k < l.length) : pushL a xs (l.take (k + 1)) = push1 a (pushL a xs (l.take k)) l[k] := by
  rw [List.take_succ_eq_append_getElem hk, pushL, List.foldl_append]
  rfl

end Go.Proofs.Ytangnecgnclobaa
