/- Contracts of the functions of chapter 8 in the program: the stack, CarriesOf. -/
import Derived.Test.YtffeeiafgheoaaaAP
import Derived.Test.YtffeeiafgheoaaaHA
import Derived.Test.YtffeeiafgheoaaaGA
namespace Go.Proofs.Ytffeeiafgheoaaa
open Go.RowKit

/-- what the operations yield -/
def bfV (W : World) (g M c1 mb : Nat) (s : Bool) (x1 x2 x3 : Int) (fv : Value) : Nat → Value → World → Prop
  | 0, x, _ => x = .slice (some ⟨g, 0, none⟩) (M + 2) c1
  | 1, x, _ => x = .int .i64 ((M : Int) + 2 - 1)
  | 2, x, _ => x = .int .i64 (M : Int)
  | 3, x, _ => x = fv
  | 4, x, _ => x = .pointer (some ⟨mb, 0, none⟩)
  | 5, x, _ => x = .int .i64 (kindI s)
  | 6, x, _ => x = .slice (some ⟨g, 0, none⟩) (M + 2) c1
  | 7, x, _ => x = .int .i64 ((M : Int) + 2 - 1)
  | 8, x, _ => x = .int .i64 (M : Int)
  | 9, x, _ => x = .pointer (some ⟨g, M, none⟩)
  | 10, x, _ => x = .int .i64 x1
  | 11, x, _ => x = .slice (some ⟨g, 0, none⟩) (M + 2) c1
  | 12, x, _ => x = .int .i64 ((M : Int) + 2 - 1)
  | 13, x, _ => x = .pointer (some ⟨g, M + 1, none⟩)
  | 14, x, _ => x = .int .i64 x2
  | 15, x, _ => x = .int .i64 x3
  | 16, x, _ => x = .pointer (some ⟨g, M, none⟩)
  | 17, x, w => x = x ∧ ∃ w', Below W.heap.size W w' ∧ w = w'.setCell ⟨g, M, none⟩ (.int .i64 x3)
  | _, _, _ => True

theorem own_fst {w : World} {b e size n m g cap : Nat} {xs : List Value} (h : w.ownsRow b e size (.slice (some ⟨g, 0, none⟩) n cap) n xs) (hm : m ≤ n) : w.ownsRow b e size (.slice (some ⟨g, 0, none⟩) m cap) m (xs.take (m * size)) := by
  obtain ⟨h1, h2⟩ := h
  have hle : m * size ≤ n * size := Nat.mul_le_mul_right _ hm
  rcases h2 with ⟨h, -⟩ | ⟨g', cap', cur, e1, h3, h4, h5, h6, h7, h8⟩
  · cases h
  · injection e1 with x1 x2 x3
    injection x1 with x1
    injection x1 with x1
    subst x1
    subst x3
    refine ⟨by rw [List.length_take, h1]; omega, .inr ⟨g, cap, cur, rfl, h3, h4, by omega, h6, h7, ?_⟩⟩
    rw [← h8, List.take_take, Nat.min_eq_left hle]

theorem own_at {w : World} {b e size n c : Nat} {A : Option Addr} {xs : List Value} (h : w.ownsRow b e size (.slice A n c) n xs) (hn : 0 < xs.length) :
    ∃ g, A = some ⟨g, 0, none⟩ ∧ b ≤ g ∧ g < w.heap.size ∧ n ≤ c ∧ c ≤ maxLen ∧ ∀ k u, xs[k]? = some u → w.cell? ⟨g, k, none⟩ = some u ∧ w.frozen? ⟨g, k, none⟩ = false := by
  obtain ⟨A', c', hv, h1, h2, h3⟩ := own_form h
  injection hv with e1 e2 e3
  subst e1
  subst e3
  obtain ⟨g, hA, hg, hg2, -, -⟩ := h3 0 _ (List.getElem?_eq_getElem hn)
  subst hA
  refine ⟨g, rfl, hg, hg2, h1, h2, fun k u hk => ?_⟩
  obtain ⟨g', hA', -, -, c0, c1⟩ := h3 k u hk
  injection hA' with e4
  injection e4 with e4
  subst e4
  exact ⟨c0, c1⟩

theorem front_two {f : Tm → Int} {a b c : Tm} {r : List Tm} {M : Nat} (hM : r.length = M) :
    ((((b :: a :: r).reverse.map f).map (Value.int .i64)).set M (.int .i64 (f c))).take ((M + 1) * 1) = ((c :: r).reverse.map f).map (Value.int .i64) := by
  subst hM
  have h1 : ((b :: a :: r).reverse.map f).map (Value.int .i64) = (r.reverse.map f).map (Value.int .i64) ++ [.int .i64 (f a), .int .i64 (f b)] := by simp
  have h2 : ((c :: r).reverse.map f).map (Value.int .i64) = (r.reverse.map f).map (Value.int .i64) ++ [.int .i64 (f c)] := by simp
  have h3 : ((r.reverse.map f).map (Value.int .i64)).length = r.length := by simp
  rw [h1, h2]
  generalize (r.reverse.map f).map (Value.int .i64) = l at *
  rw [← h3, List.set_append_right _ _ (Nat.le_refl _), Nat.sub_self, Nat.mul_one, List.take_append]
  simp
  exact List.take_of_length_le (by omega)

end Go.Proofs.Ytffeeiafgheoaaa
