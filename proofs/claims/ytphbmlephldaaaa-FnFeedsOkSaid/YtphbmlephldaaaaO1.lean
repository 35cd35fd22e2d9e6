/- A row of rows of numbers, with the blocks that it lies in. -/
import Derived.Test.YtphbmlephldaaaaGQ10
import Derived.Test.YtphbmlephldaaaaGQ12
namespace Go.Proofs.Ytphbmlephldaaaa
open Go.RowKit

/-- a row of rows from block b on, all of it below block t -/
def RowsB (w : World) (b t : Nat) (v : Value) (Ls : List (List Int)) : Prop :=
  ∃ vs : List Value, vs.length = Ls.length ∧ w.ownsRow b 40 1 v Ls.length vs ∧ Ls.length ≤ small ∧ (∀ q, v.ownBlock = some q → q < t) ∧ ∀ k (h : k < Ls.length) (h' : k < vs.length), Ints w b vs[k] Ls[k] ∧ ∀ q, vs[k].ownBlock = some q → q < t
/-- and no two of its rows share memory -/
def RowsM (w : World) (b t : Nat) (v : Value) (Ls : List (List Int)) : Prop :=
  ∃ vs : List Value, vs.length = Ls.length ∧ w.ownsRow b 40 1 v Ls.length vs ∧ Ls.length ≤ small ∧ (∀ q, v.ownBlock = some q → q < t) ∧ (∀ k (h : k < Ls.length) (h' : k < vs.length), Ints w b vs[k] Ls[k] ∧ ∀ q, vs[k].ownBlock = some q → q < t) ∧ Apart vs

theorem RowsM.toB {w : World} {b t : Nat} {v : Value} {Ls : List (List Int)} (h : RowsM w b t v Ls) : RowsB w b t v Ls := by
  obtain ⟨vs, h1, h2, h3, h4, h5, -⟩ := h
  exact ⟨vs, h1, h2, h3, h4, h5⟩
theorem RowsB.toB {w : World} {b t : Nat} {v : Value} {Ls : List (List Int)} (h : RowsB w b t v Ls) : RowsB w b t v Ls := h
theorem RowsB.keep {w w' : World} {b t : Nat} {v : Value} {Ls : List (List Int)} (h : RowsB w b t v Ls) (hb : Below w.heap.size w w') : RowsB w' b t v Ls := by
  obtain ⟨vs, h1, h2, h3, h4, h5⟩ := h
  exact ⟨vs, h1, own_keep h2 (Nat.le_refl _) hb, h3, h4, fun k hk hk' => ⟨(h5 k hk hk').1.keep hb, (h5 k hk hk').2⟩⟩
theorem RowsM.keep {w w' : World} {b t : Nat} {v : Value} {Ls : List (List Int)} (h : RowsM w b t v Ls) (hb : Below w.heap.size w w') : RowsM w' b t v Ls := by
  obtain ⟨vs, h1, h2, h3, h4, h5, h6⟩ := h
  exact ⟨vs, h1, own_keep h2 (Nat.le_refl _) hb, h3, h4, fun k hk hk' => ⟨(h5 k hk hk').1.keep hb, (h5 k hk hk').2⟩, h6⟩
theorem OwnRows.toB {w : World} {b g cap : Nat} {Ls : List (List Int)} (h : OwnRows w b g cap Ls) : RowsB w b w.heap.size (.slice (some ⟨g, 0, none⟩) Ls.length cap) Ls := by
  obtain ⟨vs, h1, h2, h3, h4⟩ := h
  exact ⟨vs, h1, h2, h3, fun q hq => (h2.lt q hq).2, fun k hk hk' => ⟨h4 k hk hk', fun q hq => ((h4 k hk hk').1.lt q hq).2⟩⟩
theorem OwnRowsV.toM {w : World} {b : Nat} {v : Value} {Ls : List (List Int)} (h : OwnRowsV w b v Ls) : RowsM w b w.heap.size v Ls := by
  obtain ⟨vs, h1, h2, h3, h4, h5⟩ := h
  exact ⟨vs, h1, h2, h3, fun q hq => (h2.lt q hq).2, fun k hk hk' => ⟨h4 k hk hk', fun q hq => ((h4 k hk hk').1.lt q hq).2⟩, h5⟩

theorem own_under {w w' : World} {B b n : Nat} {e : TypeId} {size : Nat} {v : Value} {xs : List Value} (h : w.ownsRow b e size v n xs) (hB : ∀ q, v.ownBlock = some q → q < B) (hb : Below B w w') : w'.ownsRow b e size v n xs := by
  refine ⟨h.1, ?_⟩
  rcases h.2 with h0 | ⟨g, cap, cur, hv, hg, hh, r⟩
  · exact .inl h0
  · refine .inr ⟨g, cap, cur, hv, hg, ?_, r⟩
    rw [hb.block g (hB g (by rw [hv]; rfl))]; exact hh
theorem Ints.under {w w' : World} {B b : Nat} {v : Value} {xs : List Int} (h : Ints w b v xs) (hB : ∀ q, v.ownBlock = some q → q < B) (hb : Below B w w') : Ints w' b v xs := ⟨own_under h.1 hB hb, h.2⟩
theorem Pipes.under {w w' : World} {B b : Nat} {v : Value} {xs : List Pp} (h : Pipes w b v xs) (hB : ∀ q, v.ownBlock = some q → q < B) (hb : Below B w w') : Pipes w' b v xs := ⟨own_under h.1 hB hb, h.2⟩
theorem RowsB.under {w w' : World} {B b t : Nat} {v : Value} {Ls : List (List Int)} (h : RowsB w b t v Ls) (hB : t ≤ B) (hb : Below B w w') : RowsB w' b t v Ls := by
  obtain ⟨vs, h1, h2, h3, h4, h5⟩ := h
  exact ⟨vs, h1, own_under h2 (fun q hq => Nat.lt_of_lt_of_le (h4 q hq) hB) hb, h3, h4, fun k hk hk' => ⟨(h5 k hk hk').1.under (fun q hq => Nat.lt_of_lt_of_le ((h5 k hk hk').2 q hq) hB) hb, (h5 k hk hk').2⟩⟩
theorem RowsB.kept {w w' : World} {b t : Nat} {v : Value} {Ls : List (List Int)} {row : Option Nat} (h : RowsB w b t v Ls) (hg : w.grownBy w' row) (hr : ∀ q, row = some q → t ≤ q ∨ q < b) : RowsB w' b t v Ls := by
  obtain ⟨vs, h1, h2, h3, h4, h5⟩ := h
  have key : ∀ u : Value, (∀ q, u.ownBlock = some q → b ≤ q ∧ q < t) → u.ownBlock = none ∨ u.ownBlock ≠ row := by
    intro u hu
    cases e : u.ownBlock with
    | none => exact .inl rfl
    | some q =>
      refine .inr fun he => ?_
      have := hu q e
      rcases hr q he.symm with h | h <;> omega
  exact ⟨vs, h1, h2.kept hg (key v fun q hq => ⟨(h2.lt q hq).1, h4 q hq⟩), h3, h4, fun k hk hk' => ⟨⟨(h5 k hk hk').1.1.kept hg (key _ fun q hq => ⟨((h5 k hk hk').1.1.lt q hq).1, (h5 k hk hk').2 q hq⟩), (h5 k hk hk').1.2⟩, (h5 k hk hk').2⟩⟩
theorem RowsM.kept {w w' : World} {b t : Nat} {v : Value} {Ls : List (List Int)} {row : Option Nat} (h : RowsM w b t v Ls) (hg : w.grownBy w' row) (hr : ∀ q, row = some q → t ≤ q ∨ q < b) : RowsM w' b t v Ls := by
  obtain ⟨vs, h1, h2, h3, h4, h5, h6⟩ := h
  obtain ⟨vs', k1, k2, k3, k4, k5⟩ := RowsB.kept (⟨vs, h1, h2, h3, h4, h5⟩ : RowsB w b t v Ls) hg hr
  have key : ∀ u : Value, (∀ q, u.ownBlock = some q → b ≤ q ∧ q < t) → u.ownBlock = none ∨ u.ownBlock ≠ row := by
    intro u hu
    cases e : u.ownBlock with
    | none => exact .inl rfl
    | some q =>
      refine .inr fun he => ?_
      have := hu q e
      rcases hr q he.symm with h | h <;> omega
  exact ⟨vs, h1, h2.kept hg (key v fun q hq => ⟨(h2.lt q hq).1, h4 q hq⟩), h3, h4, fun k hk hk' => ⟨⟨(h5 k hk hk').1.1.kept hg (key _ fun q hq => ⟨((h5 k hk hk').1.1.lt q hq).1, (h5 k hk hk').2 q hq⟩), (h5 k hk hk').1.2⟩, (h5 k hk hk').2⟩, h6⟩

/-- a row of rows stays where a row of numbers turns -/
theorem own_beside {w w' : World} {b b2 n : Nat} {v u : Value} {xs : List Int} {vs : List Value} (ho : w.ownsRow b 40 1 v n vs) (hu : Ints w b2 u xs) (hg : w.grownBy w' u.ownBlock) : w'.ownsRow b 40 1 v n vs := by
  refine ho.kept hg ?_
  rcases ho.2 with ⟨h0, -⟩ | ⟨g1, c1, cur1, h0, -, hh, -⟩
  · left; rw [h0]; rfl
  · right
    intro e
    rcases hu.1.2 with ⟨h2, -⟩ | ⟨g2, c2, cur2, h2, -, hh2, -⟩
    · rw [h0, h2] at e; cases e
    · rw [h0, h2] at e
      have e : g1 = g2 := by injection e
      subst e
      rw [hh] at hh2
      injection hh2 with e2
      injection e2 with _ e3 _
      exact absurd e3 (by decide)

theorem RowsB.form {w : World} {b t : Nat} {v : Value} {Ls : List (List Int)} (h : RowsB w b t v Ls) :
    ∃ A c, v = .slice A Ls.length c ∧ Ls.length ≤ c ∧ c ≤ maxLen ∧ Ls.length ≤ 4194304 ∧ ∀ wr, Below w.heap.size w wr → ∀ k (hk : k < Ls.length), ∃ g vk, A = some ⟨g, 0, none⟩ ∧ b ≤ g ∧ g < w.heap.size ∧ wr.cell? ⟨g, k, none⟩ = some vk ∧ Ints wr b vk Ls[k] := by
  obtain ⟨vs, h1, h2, h3, h4, h5⟩ := h
  obtain ⟨A, c, hv, c1, c2, c3⟩ := own_form h2
  refine ⟨A, c, hv, c1, c2, h3, fun wr hb k hk => ?_⟩
  have hkv : k < vs.length := by omega
  obtain ⟨g, hA, hg, hg2, c0, -⟩ := c3 k vs[k] (by simp [hkv])
  exact ⟨g, vs[k], hA, hg, hg2, (hb.cell (p := ⟨g, k, none⟩) hg2).trans c0, (h5 k hk hkv).1.keep hb⟩

theorem RowsM.form {w : World} {b t : Nat} {v : Value} {Ls : List (List Int)} (h : RowsM w b t v Ls) :
    ∃ A c, v = .slice A Ls.length c ∧ Ls.length ≤ c ∧ c ≤ maxLen ∧ Ls.length ≤ 4194304 ∧ ∀ wr, Below w.heap.size w wr → ∀ k (hk : k < Ls.length), ∃ g vk, A = some ⟨g, 0, none⟩ ∧ b ≤ g ∧ g < w.heap.size ∧ wr.cell? ⟨g, k, none⟩ = some vk ∧ Ints wr b vk Ls[k] := h.toB.form

/-- how many numbers stand in the first rows -/
def off (Ls : List (List Int)) (j : Nat) : Nat := ((Ls.take j).map List.length).sum
theorem off_succ {Ls : List (List Int)} {j : Nat} (h : j < Ls.length) : off Ls (j + 1) = off Ls j + Ls[j].length := by
  unfold off
  rw [List.take_succ_eq_append_getElem h, List.map_append, List.sum_append]
  simp
theorem off_mono {Ls : List (List Int)} {i j : Nat} (h : i ≤ j) : off Ls i ≤ off Ls j := by
  obtain ⟨d, rfl⟩ := Nat.exists_eq_add_of_le h
  clear h
  induction d with
  | zero => exact Nat.le_refl _
  | succ d ih =>
    refine Nat.le_trans ih ?_
    by_cases hl : i + d < Ls.length
    · rw [show i + (d + 1) = (i + d) + 1 by omega, off_succ hl]; omega
    · unfold off
      rw [List.take_of_length_le (show Ls.length ≤ i + d by omega), List.take_of_length_le (show Ls.length ≤ i + (d + 1) by omega)]
      exact Nat.le_refl _
theorem off_bd {Ls : List (List Int)} {B : Nat} (h : ∀ L ∈ Ls, L.length ≤ B) : off Ls Ls.length ≤ B * Ls.length := by
  unfold off
  rw [List.take_of_length_le (Nat.le_refl _)]
  induction Ls with
  | nil => simp
  | cons L Ls ih =>
    have h1 := h L (by simp)
    have h2 := ih (fun M hM => h M (by simp [hM]))
    simp only [List.map_cons, List.sum_cons, List.length_cons]
    rw [Nat.mul_succ]
    omega

end Go.Proofs.Ytphbmlephldaaaa
