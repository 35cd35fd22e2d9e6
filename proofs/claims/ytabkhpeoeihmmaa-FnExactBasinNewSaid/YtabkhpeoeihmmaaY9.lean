/- Contracts of the functions of chapter 11 in the program: what is struck from a row (DeleteFunc). -/
import Derived.Test.YtabkhpeoeihmmaaRW
import Derived.Test.YtabkhpeoeihmmaaCD
import Derived.Lib.SliceRun
namespace Go.Proofs.Ytabkhpeoeihmmaa
open Go.RowKit

theorem getD_set9 (o : List Int) (k i : Nat) (y : Int) (h : k ≠ i) : (o.set k y).getD i 0 = o.getD i 0 := by
  simp only [List.getD_eq_getElem?_getD, List.getElem?_set_ne h]
theorem own_front9 {w : World} {b e n m g cap : Nat} {xs : List Value} (h : w.ownsRow b e 1 (.slice (some ⟨g, 0, none⟩) n cap) n xs) (hm : m ≤ n) : w.ownsRow b e 1 (.slice (some ⟨g, 0, none⟩) m cap) m (xs.take m) := by
  obtain ⟨h1, h2⟩ := h
  rcases h2 with ⟨h, -⟩ | ⟨g', cap', cur, e1, h3, h4, h5, h6, h7, h8⟩
  · cases h
  · injection e1 with x1 x2 x3
    injection x1 with x1
    injection x1 with x1
    subst x1
    subst x3
    refine ⟨by rw [List.length_take, h1]; omega, .inr ⟨g, cap, cur, rfl, h3, h4, by omega, h6, h7, ?_⟩⟩
    rw [← h8, List.take_take, Nat.mul_one, Nat.min_eq_left (by omega)]
theorem Row.setCells {b g n cap : Nat} (xs : List Int) : ∀ {w : World} {L : List Int} (o : Nat), Row w b g n cap L → o + xs.length ≤ n → ∃ M, Row (w.setCells g o (xs.map (Value.int .i64))) b g n cap M ∧ M.take o = L.take o ∧ (∀ W : World, ∀ B, Below B W w → B ≤ g → Below B W (w.setCells g o (xs.map (Value.int .i64)))) := by
  induction xs with
  | nil => intro w L o h _; exact ⟨L, h, rfl, fun _ _ h _ => h⟩
  | cons x xs ih =>
    intro w L o h hl
    simp only [List.length_cons] at hl
    obtain ⟨M, h1, h2, h3⟩ := ih (w := w.setCell ⟨g, o, none⟩ (.int .i64 x)) (L := L.set o x) (o + 1) (h.set o x) (by omega)
    refine ⟨M, h1, ?_, fun W B hb hg => h3 W B (hb.setCell (p := ⟨g, o, none⟩) hg _) hg⟩
    have := congrArg (List.take o) h2
    rw [List.take_take, List.take_take, Nat.min_eq_left (by omega)] at this
    rw [this, List.take_set_of_le (by omega)]
theorem Row.front {w : World} {b g n m cap : Nat} {L : List Int} (h : Row w b g n cap L) (hm : m ≤ n) : Row w b g m cap (L.take m) := ⟨by
  have := own_front9 h.1 hm
  rwa [← List.map_take] at this, Nat.le_trans hm h.2⟩

section
variable {del : Int → Bool} {bn : Nat}
end

end Go.Proofs.Ytabkhpeoeihmmaa
