/- Rows of numbers that are only read: rows of their own, and parts of them. -/
import Derived.Test.YtabkhpeoeihmmaaLA
namespace Go.Proofs.Ytabkhpeoeihmmaa
open Go.RowKit

def Reads (w : World) (v : Value) (xs : List Int) : Prop :=
  ∃ A c, v = .slice A xs.length c ∧ xs.length ≤ c ∧ c ≤ maxLen ∧ xs.length ≤ 4194304 ∧ (0 < xs.length → ∃ g o, A = some ⟨g, o, none⟩ ∧ g < w.heap.size ∧ ∀ j (h : j < xs.length), w.cell? ⟨g, o + j, none⟩ = some (.int .i64 xs[j]))
theorem Reads.keep {w w' : World} {v : Value} {xs : List Int} (h : Reads w v xs) (hb : Below w.heap.size w w') : Reads w' v xs := by
  obtain ⟨A, c, h1, h2, h3, h4, h5⟩ := h
  refine ⟨A, c, h1, h2, h3, h4, fun h0 => ?_⟩
  obtain ⟨g, o, k1, k2, k3⟩ := h5 h0
  exact ⟨g, o, k1, Nat.lt_of_lt_of_le k2 hb.size, fun j hj => (hb.cell (p := ⟨g, o + j, none⟩) k2).trans (k3 j hj)⟩
theorem Ints.reads {w : World} {b : Nat} {v : Value} {xs : List Int} (h : Ints w b v xs) : Reads w v xs := by
  obtain ⟨A, c, hv, h1, h2, h3, hc⟩ := h.form
  refine ⟨A, c, hv, h1, h2, h3, fun h0 => ?_⟩
  obtain ⟨g, hA, -, hg, -, -⟩ := hc w (Below.refl _ _) 0 h0
  refine ⟨g, 0, hA, hg, fun j hj => ?_⟩
  obtain ⟨g', hA', -, -, c0, -⟩ := hc w (Below.refl _ _) j hj
  rw [hA] at hA'
  injection hA' with e
  injection e with e
  subst e
  rw [Nat.zero_add]
  exact c0
theorem Reads.form {w : World} {v : Value} {xs : List Int} (h : Reads w v xs) :
    ∃ A c, v = .slice A xs.length c ∧ xs.length ≤ c ∧ c ≤ maxLen ∧ xs.length ≤ 4194304 ∧ ∀ wr, Below w.heap.size w wr → ∀ k (hk : k < xs.length), ∃ g o, A = some ⟨g, o, none⟩ ∧ g < w.heap.size ∧ wr.cell? ⟨g, o + k, none⟩ = some (.int .i64 xs[k]) := by
  obtain ⟨A, c, h1, h2, h3, h4, h5⟩ := h
  refine ⟨A, c, h1, h2, h3, h4, fun wr hb k hk => ?_⟩
  obtain ⟨g, o, k1, k2, k3⟩ := h5 (by omega)
  exact ⟨g, o, k1, k2, (hb.cell (p := ⟨g, o + k, none⟩) k2).trans (k3 k hk)⟩
theorem Reads.cellAt {w wr : World} {m c : Nat} {A : Option Addr} {xs : List Int} (h : Reads w (.slice A m c) xs) (hb : Below w.heap.size w wr) (k : Nat) (hk : k < xs.length) :
    ∃ g o, A = some ⟨g, o, none⟩ ∧ g < w.heap.size ∧ wr.cell? ⟨g, o + k, none⟩ = some (.int .i64 xs[k]) := by
  obtain ⟨A', c', hv, -, -, -, hc⟩ := h.form
  injection hv with e1 e2 e3
  subst e1
  exact hc wr hb k hk
theorem Reads.at' {w : World} {m c : Nat} {A : Option Addr} {xs : List Int} (h : Reads w (.slice A m c) xs) (h0 : 0 < xs.length) :
    ∃ g o, A = some ⟨g, o, none⟩ ∧ g < w.heap.size ∧ ∀ wr, Below w.heap.size w wr → ∀ k (hk : k < xs.length), wr.cell? ⟨g, o + k, none⟩ = some (.int .i64 xs[k]) := by
  obtain ⟨A', c', hv, -, -, -, h5⟩ := h
  injection hv with e1 e2 e3
  subst e1
  obtain ⟨g, o, k1, k2, k3⟩ := h5 h0
  exact ⟨g, o, k1, k2, fun wr hb k hk => (hb.cell (p := ⟨g, o + k, none⟩) k2).trans (k3 k hk)⟩

end Go.Proofs.Ytabkhpeoeihmmaa
