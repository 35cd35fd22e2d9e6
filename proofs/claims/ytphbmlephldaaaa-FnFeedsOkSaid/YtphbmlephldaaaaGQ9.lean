/- Plain facts. -/
import Derived.Test.YtphbmlephldaaaaMG
import Derived.Test.YtphbmlephldaaaaN4
import Derived.Test.YtphbmlephldaaaaGQ21
import Derived.Test.YtphbmlephldaaaaGQ22
import Derived.Test.YtphbmlephldaaaaGQ13
import Derived.Deep.AppendLies
/- Cells of rows whose slice is known, at any later world. -/
namespace Go.Proofs.Ytphbmlephldaaaa
open Go.RowKit

theorem Ints.cellAt {w wr : World} {b m c : Nat} {A : Option Addr} {xs : List Int} (h : Ints w b (.slice A m c) xs) (hb : Below w.heap.size w wr) (k : Nat) (hk : k < xs.length) :
    ∃ g, A = some ⟨g, 0, none⟩ ∧ b ≤ g ∧ g < w.heap.size ∧ wr.cell? ⟨g, k, none⟩ = some (.int .i64 xs[k]) ∧ wr.frozen? ⟨g, k, none⟩ = false := by
  obtain ⟨A', c', hv, -, -, -, hc⟩ := h.form
  injection hv with e1 e2 e3
  subst e1
  exact hc wr hb k hk

theorem Pipes.cellAt {w wr : World} {b m c : Nat} {A : Option Addr} {ps : List Pp} (h : Pipes w b (.slice A m c) ps) (hb : Below w.heap.size w wr) (k : Nat) (hk : k < ps.length) :
    ∃ g, A = some ⟨g, 0, none⟩ ∧ b ≤ g ∧ g < w.heap.size ∧
      wr.cell? ⟨g, k * 5, none⟩ = some (.int .i64 ps[k].fr) ∧ wr.cell? ⟨g, k * 5 + 1, none⟩ = some (.int .i64 ps[k].to) ∧ wr.cell? ⟨g, k * 5 + 2, none⟩ = some (.int .i64 ps[k].le) ∧
      wr.cell? ⟨g, k * 5 + 3, none⟩ = some (.int .i64 ps[k].mo) ∧ wr.cell? ⟨g, k * 5 + 4, none⟩ = some (.int .i64 ps[k].co) := by
  obtain ⟨A', c', hv, -, -, -, hc⟩ := h.form
  injection hv with e1 e2 e3
  subst e1
  exact hc wr hb k hk

end Go.Proofs.Ytphbmlephldaaaa

/- Contracts of the functions of chapter 4 in the model: walks along pipes that are not empty. -/
namespace Go.Proofs.Ytphbmlephldaaaa
open Go.RowKit

abbrev natsI (l : List Nat) : List Int := l.map fun s : Nat => (s : Int)
def sliceLen (v : Value) : Nat := match v with | .slice _ m _ => m | _ => 0

theorem idxOf_at : ∀ (l : List Int) (v : Int) (i : Nat), i < l.length → l.getD i 0 = v → (∀ q, q < i → l.getD q 0 ≠ v) → l.idxOf v = i := by
  intro l
  induction l with
  | nil => intro v i h; simp at h
  | cons x l ih =>
    intro v i hi he hno
    rcases i with _ | i
    · have : x = v := he
      subst this
      simp
    · have h0 : x ≠ v := hno 0 (by omega)
      have := ih v i (by simpa using hi) he (fun q hq => hno (q + 1) (by omega))
      have hb : (x == v) = false := by simpa using h0
      rw [List.idxOf_cons, hb, this]
      rfl
theorem not_in {l : List Int} {v : Int} (h : ∀ q, q < l.length → l.getD q 0 ≠ v) : v ∉ l := by
  intro hv
  obtain ⟨i, hi, he⟩ := List.getElem_of_mem hv
  have := h i hi
  rw [getD_at hi] at this
  exact this he
theorem in_of {l : List Int} {v : Int} {i : Nat} (hi : i < l.length) (he : l.getD i 0 = v) : v ∈ l := by
  rw [getD_at hi] at he
  rw [← he]
  exact List.getElem_mem hi
theorem last_at {l : List Int} {m : Nat} (h : l.length = m + 1) : l.getLastD 0 = l.getD m 0 := by
  rw [List.getLastD_eq_getLast?, List.getLast?_eq_getElem?, h, List.getD_eq_getElem?_getD]
  rfl

/-- what a search downward has found so far -/
def foundTo (p : Nat → Bool) (m j : Nat) (t : Int) : Prop := (t = -1 ∧ ∀ i, j ≤ i → i < m → p i = false) ∨ (∃ q : Nat, t = (q : Int) ∧ j ≤ q ∧ q < m ∧ p q = true ∧ ∀ i, j ≤ i → i < q → p i = false)
theorem found_start (p : Nat → Bool) (m : Nat) : foundTo p m m (-1) := .inl ⟨rfl, fun i h1 h2 => by omega⟩
theorem found_yes {p : Nat → Bool} {m j : Nat} {t : Int} (_h : foundTo p m (j + 1) t) (hj : j < m) (hp : p j = true) : foundTo p m j (j : Int) := .inr ⟨j, rfl, Nat.le_refl _, hj, hp, fun i h1 h2 => by omega⟩
theorem found_no {p : Nat → Bool} {m j : Nat} {t : Int} (h : foundTo p m (j + 1) t) (hp : p j = false) : foundTo p m j t := by
  rcases h with ⟨h1, h2⟩ | ⟨q, h1, h2, h3, h4, h5⟩
  · refine .inl ⟨h1, fun i hi hm => ?_⟩
    by_cases hij : i = j
    · rw [hij]; exact hp
    · exact h2 i (by omega) hm
  · refine .inr ⟨q, h1, by omega, h3, h4, fun i hi hq => ?_⟩
    by_cases hij : i = j
    · rw [hij]; exact hp
    · exact h5 i (by omega) hq
theorem found_end {ps : List Pp} {xs : List Int} {v t : Int} (h : foundTo (openP ps xs v) ps.length 0 t) : (t = -1 ∧ nextP ps xs v = none) ∨ ∃ q : Nat, t = (q : Int) ∧ nextP ps xs v = some q := by
  rcases h with ⟨h1, h2⟩ | ⟨q, h1, -, h3, h4, h5⟩
  · exact .inl ⟨h1, range_none.2 fun i hi => h2 i (by omega) hi⟩
  · exact .inr ⟨q, h1, range_find.2 ⟨h3, h4, fun i hi => h5 i (by omega) hi⟩⟩

end Go.Proofs.Ytphbmlephldaaaa
