/- Plain facts of chapter 4: amounts put together. -/
import Derived.Test.YtlaeckjfjleplaaN1
namespace Go.Proofs.Ytlaeckjfjleplaa
open Go.RowKit

/-- a row of rows, as it is read -/
def RowsI (w : World) (b : Nat) (v : Value) (Ls : List (List Int)) : Prop :=
  ∃ A c, v = .slice A Ls.length c ∧ Ls.length ≤ c ∧ c ≤ maxLen ∧ Ls.length ≤ small ∧ ∀ k (hk : k < Ls.length), ∃ g vk, A = some ⟨g, 0, none⟩ ∧ b ≤ g ∧ g < w.heap.size ∧ w.cell? ⟨g, k, none⟩ = some vk ∧ Ints w b vk Ls[k]
theorem RowsI.keep {w w' : World} {b : Nat} {v : Value} {Ls : List (List Int)} (h : RowsI w b v Ls) (hb : Below w.heap.size w w') : RowsI w' b v Ls := by
  obtain ⟨A, c, h1, h2, h3, h4, h5⟩ := h
  refine ⟨A, c, h1, h2, h3, h4, fun k hk => ?_⟩
  obtain ⟨g, vk, k1, k2, k3, k4, k5⟩ := h5 k hk
  exact ⟨g, vk, k1, k2, Nat.lt_of_lt_of_le k3 hb.size, (hb.cell (p := ⟨g, k, none⟩) k3).trans k4, k5.keep hb⟩

/-- what a row, an amount and places behind it, adds -/
def take1 (n : Nat) (a : Int) (o : List Int) (x : Int) : List Int := if 0 ≤ x ∧ x < n then o.set x.toNat (wrap64 (o.getD x.toNat 0 + a)) else o
def takeRow (n : Nat) (o : List Int) (L : List Int) : List Int := (L.drop 1).foldl (take1 n (L.getD 0 0)) o
def takenL (n : Nat) (Ls : List (List Int)) : List Int := Ls.foldl (takeRow n) (List.replicate n 0)

theorem take1_len (n : Nat) (a : Int) (o : List Int) (x : Int) : (take1 n a o x).length = o.length := by
  unfold take1; split <;> simp
theorem takeRow_len (n : Nat) (o L : List Int) : (takeRow n o L).length = o.length := by
  unfold takeRow
  generalize L.drop 1 = l
  generalize L.getD 0 0 = a
  induction l generalizing o with
  | nil => rfl
  | cons x l ih => rw [List.foldl_cons, ih, take1_len]
theorem takenL_len (n : Nat) (Ls : List (List Int)) : (takenL n Ls).length = n := by
  have : ∀ (Ls : List (List Int)) (o : List Int), (Ls.foldl (takeRow n) o).length = o.length := by
    intro Ls
    induction Ls with
    | nil => intro o; rfl
    | cons L Ls ih => intro o; rw [List.foldl_cons, ih, takeRow_len]
  rw [takenL, this, List.length_replicate]

/-- the row is gone along as far as place j -/
def takeTo (n : Nat) (o L : List Int) (j : Nat) : List Int := ((L.take j).drop 1).foldl (take1 n (L.getD 0 0)) o
theorem takeTo_one (n : Nat) (o L : List Int) : takeTo n o L 1 = o := by
  unfold takeTo
  rw [List.drop_eq_nil_of_le (by simp; omega)]
  rfl
theorem takeTo_snoc {n : Nat} {o L : List Int} {j : Nat} (h1 : 1 ≤ j) (hj : j < L.length) : takeTo n o L (j + 1) = take1 n (L.getD 0 0) (takeTo n o L j) L[j] := by
  unfold takeTo
  rw [List.take_succ_eq_append_getElem hj, List.drop_append_of_le_length (by simp; omega), List.foldl_append]
  rfl
theorem takeTo_end {n : Nat} {o L : List Int} {j : Nat} (h : L.length ≤ j) : takeTo n o L j = takeRow n o L := by
  unfold takeTo takeRow
  rw [List.take_of_length_le h]
theorem takeTo_len (n : Nat) (o L : List Int) (j : Nat) : (takeTo n o L j).length = o.length := by
  unfold takeTo
  generalize (L.take j).drop 1 = l
  generalize L.getD 0 0 = a
  induction l generalizing o with
  | nil => rfl
  | cons x l ih => rw [List.foldl_cons, ih, take1_len]
theorem taken_snoc {n : Nat} {Ls : List (List Int)} {k : Nat} (h : k < Ls.length) : takenL n (Ls.take (k + 1)) = takeRow n (takenL n (Ls.take k)) Ls[k] := by
  unfold takenL
  rw [List.take_succ_eq_append_getElem h, List.foldl_append]
  rfl

end Go.Proofs.Ytlaeckjfjleplaa
