/- Plain facts. -/
import Derived.Test.YtaohjhehlkeckaaGA
import Derived.Lib.AppendZerosOnto
import Derived.Test.YtaohjhehlkeckaaY2
import Derived.Test.YtaohjhehlkeckaaA2
import Derived.Test.YtaohjhehlkeckaaAR
/- slices.Concat and slices.Grow of rows of pipes. -/
namespace Go.Proofs.Ytaohjhehlkeckaa
open Go.RowKit

/-- rows that are put together: where their headers lie, and their cells -/
def SrcsOk (w : World) (size g m : Nat) (ns : List Nat) (css : List (List Value)) : Prop :=
  ns.length = m ∧ css.length = m ∧ g < w.heap.size ∧ ∀ k, k < m → ∃ v, w.cell? ⟨g, k, none⟩ = some v ∧ ∀ W, Below w.heap.size w W → SrcOk W size v (ns.getD k 0) (css.getD k [])
theorem sum_take_le (ns : List Nat) (k : Nat) : (ns.take k).sum ≤ ns.sum := by
  have h := congrArg List.sum (List.take_append_drop k ns)
  rw [List.sum_append] at h
  omega
theorem sum_take_succ (ns : List Nat) (k : Nat) (h : k < ns.length) : (ns.take (k + 1)).sum = (ns.take k).sum + ns.getD k 0 := by
  rw [List.take_succ_eq_append_getElem h, List.sum_append, List.getD_eq_getElem?_getD, List.getElem?_eq_getElem h]
  simp
theorem flat_take_succ (css : List (List Value)) (k : Nat) (h : k < css.length) : (css.take (k + 1)).flatten = (css.take k).flatten ++ css.getD k [] := by
  rw [List.take_succ_eq_append_getElem h, List.flatten_append, List.getD_eq_getElem?_getD, List.getElem?_eq_getElem h]
  simp

end Go.Proofs.Ytaohjhehlkeckaa

/- Contracts of the functions of chapter 8 in the program: movedNode, movedPipes, a pipe's net. -/
namespace Go.Proofs.Ytaohjhehlkeckaa
open Go.RowKit

theorem set2_list (qs : List Pp) (k : Nat) (hk : k < qs.length) (a b : Int) :
    (((qs.flatMap Pp.cells).set (k * 5) (.int .i64 a)).set (k * 5 + 1) (.int .i64 b)) = (qs.set k ⟨a, b, qs[k].le, qs[k].mo, qs[k].co⟩).flatMap Pp.cells := by
  induction qs generalizing k with
  | nil => simp at hk
  | cons q qs ih =>
    cases k with
    | zero => simp [List.flatMap_cons, Pp.cells]
    | succ k =>
      have h := ih k (by simpa using hk)
      have e : (k + 1) * 5 = k * 5 + 5 := by omega
      have e2 : (q :: qs)[k + 1] = qs[k]'(by simpa using hk) := rfl
      rw [e, e2, List.set_cons_succ, List.flatMap_cons, List.flatMap_cons, ← h]
      simp [Pp.cells]
/- pipes of which the first ones are moved -/
def mvL (b e r : Int) (ps : List Pp) (k : Nat) : List Pp := (ps.take k).map (movedP b e r) ++ ps.drop k
theorem mvL_len (b e r : Int) (ps : List Pp) (k : Nat) (h : k ≤ ps.length) : (mvL b e r ps k).length = ps.length := by simp [mvL]; omega
theorem mvL_at {b e r : Int} {ps : List Pp} {k : Nat} (h : k < ps.length) : (mvL b e r ps k)[k]'(by rw [mvL_len _ _ _ _ _ (by omega)]; exact h) = ps[k] := by
  simp only [mvL]
  rw [List.getElem_append_right (by simp; omega)]
  simp [Nat.min_eq_left (Nat.le_of_lt h)]
theorem mvL_next {b e r : Int} {ps : List Pp} {k : Nat} (h : k < ps.length) : (mvL b e r ps k).set k (movedP b e r ps[k]) = mvL b e r ps (k + 1) := by
  simp only [mvL]
  have hl : ((ps.take k).map (movedP b e r)).length = k := by simp; omega
  rw [List.set_append_right _ _ (by omega), hl, Nat.sub_self, List.drop_eq_getElem_cons h, List.set_cons_zero, List.take_succ_eq_append_getElem h]
  simp only [List.map_append, List.map_cons, List.map_nil, List.append_assoc, List.cons_append, List.nil_append]

end Go.Proofs.Ytaohjhehlkeckaa

/- Contracts of the functions of chapter 8 in the program: a pipe's net, joinedNets. -/
namespace Go.Proofs.Ytaohjhehlkeckaa
open Go.RowKit

/- what two nets make -/
def joinN (s : Bool) (n m : Int) : Int := if s then n + m - 2 else n + m - 1
def joinP (s : Bool) (n : Int) (ps qs : List Pp) : List Pp := if s then ps ++ qs.map (movedP 0 1 (n - 2)) else ps.map (movedP 0 2 1) ++ qs.map (movedP 2 1 (n - 1))

theorem catPipes {w : World} {b : Nat} {v : Value} {L1 L2 : List Pp} (h : w.ownsRow b 74 5 v [L1.length, L2.length].sum [L1.flatMap Pp.cells, L2.flatMap Pp.cells].flatten) (hs : L1.length + L2.length ≤ small := by unfold small; omega) : Pipes w b v (L1 ++ L2) := by
  refine ⟨?_, by simpa using hs⟩
  rw [List.flatMap_append, List.length_append]
  simpa using h
theorem twoPipes {w : World} {g b b' : Nat} {u v : Value} {L1 L2 : List Pp} {t : TypeId} {fr : Nat × Nat} (h : w.heap[g]? = some (.cells #[u, v] t fr)) (h1 : Pipes w b u L1) (h2 : Pipes w b' v L2) :
    SrcsOk w 5 g 2 [L1.length, L2.length] [L1.flatMap Pp.cells, L2.flatMap Pp.cells] := by
  refine ⟨rfl, rfl, heap_lt h, fun k hk => ?_⟩
  have hk2 : k = 0 ∨ k = 1 := by omega
  rcases hk2 with rfl | rfl
  · exact ⟨u, heap_cell h rfl, fun W hW => (h1.keep hW).src⟩
  · exact ⟨v, heap_cell h rfl, fun W hW => (h2.keep hW).src⟩

/-- what the operations yield -/
def jbV (W : World) (g4 g5 g6 : Nat) (N2 F N : Int) (v1 v2 : Value) (L1 L2 : List Pp) : Nat → Value → World → Prop
  | 0, x, _ => x = .pointer (some ⟨g5, 0, none⟩)
  | 1, x, _ => x = .int .i64 N2
  | 2, x, _ => x = .int .i64 F
  | 3, x, _ => x = .int .i64 N
  | 4, x, _ => x = .pointer (some ⟨g4, 1, none⟩)
  | 5, x, _ => x = v1
  | 6, x, _ => x = .pointer (some ⟨g5, 1, none⟩)
  | 7, x, _ => x = v2
  | 8, x, _ => x = .int .i64 F
  | 9, x, w => Pipes w W.heap.size x L2
  | 10, x, w => ∃ g s, x = .slice (some ⟨g, 0, none⟩) 2 2 ∧ w.heap[g]? = some (.cells #[v1, s] 48 (0, 0)) ∧ Pipes w W.heap.size s L2
  | 11, x, w => Pipes w W.heap.size x (L1 ++ L2)
  | 12, x, w => ∃ s, x = .agg #[.int .i64 N, s] ∧ Pipes w W.heap.size s (L1 ++ L2)
  | 13, x, w => x = x ∧ ∃ w' s, Below W.heap.size W w' ∧ Pipes w' W.heap.size s (L1 ++ L2) ∧ w = (w'.setCell ⟨g6, 0, none⟩ (.int .i64 N)).setCell ⟨g6, 1, none⟩ s
  | _, _, _ => True
/-- what the operations yield -/
def jtV (W : World) (g4 g5 g6 : Nat) (N1 N2 F N : Int) (v1 v2 : Value) (L1 L2 : List Pp) : Nat → Value → World → Prop
  | 0, x, _ => x = .pointer (some ⟨g4, 0, none⟩)
  | 1, x, _ => x = .int .i64 N1
  | 2, x, _ => x = .pointer (some ⟨g5, 0, none⟩)
  | 3, x, _ => x = .int .i64 N2
  | 4, x, _ => x = .int .i64 (N1 + N2)
  | 5, x, _ => x = .int .i64 N
  | 6, x, _ => x = .pointer (some ⟨g4, 1, none⟩)
  | 7, x, _ => x = v1
  | 8, x, w => Pipes w W.heap.size x L1
  | 9, x, _ => x = .pointer (some ⟨g5, 1, none⟩)
  | 10, x, _ => x = v2
  | 11, x, _ => x = .pointer (some ⟨g4, 0, none⟩)
  | 12, x, _ => x = .int .i64 N1
  | 13, x, _ => x = .int .i64 F
  | 14, x, w => Pipes w W.heap.size x L2
  | 15, x, w => ∃ g s s', x = .slice (some ⟨g, 0, none⟩) 2 2 ∧ w.heap[g]? = some (.cells #[s, s'] 48 (0, 0)) ∧ Pipes w W.heap.size s L1 ∧ Pipes w W.heap.size s' L2
  | 16, x, w => Pipes w W.heap.size x (L1 ++ L2)
  | 17, x, w => ∃ s, x = .agg #[.int .i64 N, s] ∧ Pipes w W.heap.size s (L1 ++ L2)
  | 18, x, w => x = x ∧ ∃ w' s, Below W.heap.size W w' ∧ Pipes w' W.heap.size s (L1 ++ L2) ∧ w = (w'.setCell ⟨g6, 0, none⟩ (.int .i64 N)).setCell ⟨g6, 1, none⟩ s
  | _, _, _ => True

end Go.Proofs.Ytaohjhehlkeckaa
