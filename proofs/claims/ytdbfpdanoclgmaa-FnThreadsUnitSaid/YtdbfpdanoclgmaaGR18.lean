/- Plain facts. -/
import Derived.Test.YtdbfpdanoclgmaaMG
import Derived.Test.YtdbfpdanoclgmaaGR23
import Derived.Test.YtdbfpdanoclgmaaGR7
import Derived.Test.YtdbfpdanoclgmaaS1
import Derived.Deep.AppendLies
/- Cells of rows whose slice is known, at any later world. -/
namespace Go.Proofs.Ytdbfpdanoclgmaa
open Go.RowKit

theorem Ints.cellAt {w wr : World} {b m c : Nat} {A : Option Addr} {xs : List Int} (h : Ints w b (.slice A m c) xs) (hb : Below w.heap.size w wr) (k : Nat) (hk : k < xs.length) :
    ∃ g, A = some ⟨g, 0, none⟩ ∧ b ≤ g ∧ g < w.heap.size ∧ wr.cell? ⟨g, k, none⟩ = some (.int .i64 xs[k]) ∧ wr.frozen? ⟨g, k, none⟩ = false := by
  obtain ⟨A', c', hv, -, -, -, hc⟩ := h.form
  injection hv with e1 e2 e3
  subst e1
  exact hc wr hb k hk

theorem Pipes.cellAt {w wr : World} {b m c : Nat} {A : Option Addr} {ps : List Pp} (h : Pipes w b (.slice A m c) ps) (hb : Below w.heap.size w wr) (k : Nat) (hk : k < ps.length) :
    ∃ g, A = some ⟨g, 0, none⟩ ∧ b ≤ g ∧ g < w.heap.size ∧
      wr.cell? ⟨g, k * 5, none⟩ = some (.int .i64 ps[k].fr) ∧ wr.cell? ⟨g, k * 5 + 1, none⟩ = some (.int .i64 ps[k].to) ∧ wr.cell? ⟨g, k * 5 + 2, none⟩ = some (.int .i64 ps[k].le) ∧
      wr.cell? ⟨g, k * 5 + 3, none⟩ = some (.int .i64 ps[k].mo) ∧ wr.cell? ⟨g, k * 5 + 4, none⟩ = some (.int .i64 ps[k].co) := by
  obtain ⟨A', c', hv, -, -, -, hc⟩ := h.form
  injection hv with e1 e2 e3
  subst e1
  exact hc wr hb k hk

end Go.Proofs.Ytdbfpdanoclgmaa

/- Rows of numbers that are only read: rows of their own, and parts of them. -/
namespace Go.Proofs.Ytdbfpdanoclgmaa
open Go.RowKit

def Reads (w : World) (v : Value) (xs : List Int) : Prop :=
  ∃ A c, v = .slice A xs.length c ∧ xs.length ≤ c ∧ c ≤ maxLen ∧ xs.length ≤ 4194304 ∧ (0 < xs.length → ∃ g o, A = some ⟨g, o, none⟩ ∧ g < w.heap.size ∧ ∀ j (h : j < xs.length), w.cell? ⟨g, o + j, none⟩ = some (.int .i64 xs[j]))
theorem Reads.keep {w w' : World} {v : Value} {xs : List Int} (h : Reads w v xs) (hb : Below w.heap.size w w') : Reads w' v xs := by
  obtain ⟨A, c, h1, h2, h3, h4, h5⟩ := h
  refine ⟨A, c, h1, h2, h3, h4, fun h0 => ?_⟩
  obtain ⟨g, o, k1, k2, k3⟩ := h5 h0
  exact ⟨g, o, k1, Nat.lt_of_lt_of_le k2 hb.size, fun j hj => (hb.cell (p := ⟨g, o + j, none⟩) k2).trans (k3 j hj)⟩
theorem Ints.reads {w : World} {b : Nat} {v : Value} {xs : List Int} (h : Ints w b v xs) : Reads w v xs := by
  obtain ⟨A, c, hv, h1, h2, h3, hc⟩ := h.form
  refine ⟨A, c, hv, h1, h2, h3, fun h0 => ?_⟩
  obtain ⟨g, hA, -, hg, -, -⟩ := hc w (Below.refl _ _) 0 h0
  refine ⟨g, 0, hA, hg, fun j hj => ?_⟩
  obtain ⟨g', hA', -, -, c0, -⟩ := hc w (Below.refl _ _) j hj
  rw [hA] at hA'
  injection hA' with e
  injection e with e
  subst e
  rw [Nat.zero_add]
  exact c0
theorem Reads.form {w : World} {v : Value} {xs : List Int} (h : Reads w v xs) :
    ∃ A c, v = .slice A xs.length c ∧ xs.length ≤ c ∧ c ≤ maxLen ∧ xs.length ≤ 4194304 ∧ ∀ wr, Below w.heap.size w wr → ∀ k (hk : k < xs.length), ∃ g o, A = some ⟨g, o, none⟩ ∧ g < w.heap.size ∧ wr.cell? ⟨g, o + k, none⟩ = some (.int .i64 xs[k]) := by
  obtain ⟨A, c, h1, h2, h3, h4, h5⟩ := h
  refine ⟨A, c, h1, h2, h3, h4, fun wr hb k hk => ?_⟩
  obtain ⟨g, o, k1, k2, k3⟩ := h5 (by omega)
  exact ⟨g, o, k1, k2, (hb.cell (p := ⟨g, o + k, none⟩) k2).trans (k3 k hk)⟩
theorem Reads.cellAt {w wr : World} {m c : Nat} {A : Option Addr} {xs : List Int} (h : Reads w (.slice A m c) xs) (hb : Below w.heap.size w wr) (k : Nat) (hk : k < xs.length) :
    ∃ g o, A = some ⟨g, o, none⟩ ∧ g < w.heap.size ∧ wr.cell? ⟨g, o + k, none⟩ = some (.int .i64 xs[k]) := by
  obtain ⟨A', c', hv, -, -, -, hc⟩ := h.form
  injection hv with e1 e2 e3
  subst e1
  exact hc wr hb k hk
theorem Reads.at' {w : World} {m c : Nat} {A : Option Addr} {xs : List Int} (h : Reads w (.slice A m c) xs) (h0 : 0 < xs.length) :
    ∃ g o, A = some ⟨g, o, none⟩ ∧ g < w.heap.size ∧ ∀ wr, Below w.heap.size w wr → ∀ k (hk : k < xs.length), wr.cell? ⟨g, o + k, none⟩ = some (.int .i64 xs[k]) := by
  obtain ⟨A', c', hv, -, -, -, h5⟩ := h
  injection hv with e1 e2 e3
  subst e1
  obtain ⟨g, o, k1, k2, k3⟩ := h5 h0
  exact ⟨g, o, k1, k2, fun wr hb k hk => (hb.cell (p := ⟨g, o + k, none⟩) k2).trans (k3 k hk)⟩

end Go.Proofs.Ytdbfpdanoclgmaa

/- Contracts of the functions of chapter 4 in the model: walks along pipes that are not empty. -/
namespace Go.Proofs.Ytdbfpdanoclgmaa
open Go.RowKit

abbrev natsI (l : List Nat) : List Int := l.map fun s : Nat => (s : Int)
def sliceLen (v : Value) : Nat := match v with | .slice _ m _ => m | _ => 0

theorem idxOf_at : ∀ (l : List Int) (v : Int) (i : Nat), i < l.length → l.getD i 0 = v → (∀ q, q < i → l.getD q 0 ≠ v) → l.idxOf v = i := by
  intro l
  induction l with
  | nil => intro v i h; simp at h
  | cons x l ih =>
    intro v i hi he hno
    rcases i with _ | i
    · have : x = v := he
      subst this
      simp
    · have h0 : x ≠ v := hno 0 (by omega)
      have := ih v i (by simpa using hi) he (fun q hq => hno (q + 1) (by omega))
      have hb : (x == v) = false := by simpa using h0
      rw [List.idxOf_cons, hb, this]
      rfl
theorem not_in {l : List Int} {v : Int} (h : ∀ q, q < l.length → l.getD q 0 ≠ v) : v ∉ l := by
  intro hv
  obtain ⟨i, hi, he⟩ := List.getElem_of_mem hv
  have := h i hi
  rw [getD_at hi] at this
  exact this he
theorem in_of {l : List Int} {v : Int} {i : Nat} (hi : i < l.length) (he : l.getD i 0 = v) : v ∈ l := by
  rw [getD_at hi] at he
  rw [← he]
  exact List.getElem_mem hi
theorem last_at {l : List Int} {m : Nat} (h : l.length = m + 1) : l.getLastD 0 = l.getD m 0 := by
  rw [List.getLastD_eq_getLast?, List.getLast?_eq_getElem?, h, List.getD_eq_getElem?_getD]
  rfl

/-- what a search downward has found so far -/
def foundTo (p : Nat → Bool) (m j : Nat) (t : Int) : Prop := (t = -1 ∧ ∀ i, j ≤ i → i < m → p i = false) ∨ (∃ q : Nat, t = (q : Int) ∧ j ≤ q ∧ q < m ∧ p q = true ∧ ∀ i, j ≤ i → i < q → p i = false)
theorem found_start (p : Nat → Bool) (m : Nat) : foundTo p m m (-1) := .inl ⟨rfl, fun i h1 h2 => by omega⟩
theorem found_yes {p : Nat → Bool} {m j : Nat} {t : Int} (_h : foundTo p m (j + 1) t) (hj : j < m) (hp : p j = true) : foundTo p m j (j : Int) := .inr ⟨j, rfl, Nat.le_refl _, hj, hp, fun i h1 h2 => by omega⟩
theorem found_no {p : Nat → Bool} {m j : Nat} {t : Int} (h : foundTo p m (j + 1) t) (hp : p j = false) : foundTo p m j t := by
  rcases h with ⟨h1, h2⟩ | ⟨q, h1, h2, h3, h4, h5⟩
  · refine .inl ⟨h1, fun i hi hm => ?_⟩
    by_cases hij : i = j
    · rw [hij]; exact hp
    · exact h2 i (by omega) hm
  · refine .inr ⟨q, h1, by omega, h3, h4, fun i hi hq => ?_⟩
    by_cases hij : i = j
    · rw [hij]; exact hp
    · exact h5 i (by omega) hq
theorem found_end {ps : List Pp} {xs : List Int} {v t : Int} (h : foundTo (openP ps xs v) ps.length 0 t) : (t = -1 ∧ nextP ps xs v = none) ∨ ∃ q : Nat, t = (q : Int) ∧ nextP ps xs v = some q := by
  rcases h with ⟨h1, h2⟩ | ⟨q, h1, -, h3, h4, h5⟩
  · exact .inl ⟨h1, range_none.2 fun i hi => h2 i (by omega) hi⟩
  · exact .inr ⟨q, h1, range_find.2 ⟨h3, h4, fun i hi => h5 i (by omega) hi⟩⟩

end Go.Proofs.Ytdbfpdanoclgmaa
