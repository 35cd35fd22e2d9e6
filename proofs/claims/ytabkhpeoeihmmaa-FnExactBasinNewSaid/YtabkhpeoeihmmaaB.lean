/- Words for memory that all the walks use: a row of numbers, a row of pipes, a net; and small lemmas. -/
import Derived.Test.YtabkhpeoeihmmaaRows
import Derived.WalkKit
import Derived.WalkSpells
import Derived.WalkLawsBesides
import Derived.Deep.QuietTactic
import Derived.BigQuiet
import Derived.Lib.Hide
import Derived.Laws.OwnMore
namespace Go.Proofs.Ytabkhpeoeihmmaa
open Go.RowKit

structure Pp where
  fr : Int
  to : Int
  le : Int
  mo : Int
  co : Int
  deriving DecidableEq

def Pp.cells (p : Pp) : List Value := [.int .i64 p.fr, .int .i64 p.to, .int .i64 p.le, .int .i64 p.mo, .int .i64 p.co]
abbrev Pp.val (p : Pp) : Value := .agg #[.int .i64 p.fr, .int .i64 p.to, .int .i64 p.le, .int .i64 p.mo, .int .i64 p.co]

def small : Nat := 4194304
theorem small_le : small ≤ 4194304 := Nat.le_refl _

def Ints (w : World) (b : Nat) (v : Value) (xs : List Int) : Prop :=
  w.ownsRow b 3 1 v xs.length (xs.map (Value.int .i64)) ∧ xs.length ≤ small

def Pipes (w : World) (b : Nat) (v : Value) (ps : List Pp) : Prop :=
  w.ownsRow b 80 5 v ps.length (ps.flatMap Pp.cells) ∧ ps.length ≤ small

theorem ret_int {k : IntKind} {a b : Int} (h : a = b) : Ending.returned (.int k a) = .returned (.int k b) := by rw [h]
theorem ret_bool {a b : Bool} (h : a = b) : Ending.returned (.bool a) = .returned (.bool b) := by rw [h]
theorem ne_len {a b : Nat} (h : ((a : Int) != (b : Int)) = true) : a ≠ b := by rw [bne_iff_ne] at h; omega
theorem eq_len {a b : Nat} (h : ((a : Int) != (b : Int)) = false) : a = b := by
  rw [bne_eq_false_iff_eq] at h; omega
theorem of_not {b : Bool} (h : (!b) = false) : b = true := by simpa using h
theorem of_not_t {b : Bool} (h : (!b) = true) : b = false := by simpa using h

theorem bcell {W w1 : World} (hb : Below W.heap.size W w1) : (∀ b o, b < W.heap.size → w1.cell? ⟨b, o, none⟩ = W.cell? ⟨b, o, none⟩) ∧ (∀ b o, b < W.heap.size → w1.frozen? ⟨b, o, none⟩ = W.frozen? ⟨b, o, none⟩) ∧ W.heap.size ≤ w1.heap.size :=
  ⟨fun b o h => hb.cell (p := ⟨b, o, none⟩) h, fun b o h => hb.frozen (p := ⟨b, o, none⟩) h, hb.size⟩

theorem below_drewN {B : Nat} {a w : World} (h : Below B a w) (n : Nat) : Below B a (w.drewN n) := ⟨h.os, h.tape, h.output, h.size, h.block⟩

theorem own_keep {w w' : World} {B b n : Nat} {e : TypeId} {size : Nat} {v : Value} {xs : List Value} (h : w.ownsRow b e size v n xs) (hB : w.heap.size ≤ B) (hb : Below B w w') : w'.ownsRow b e size v n xs := by
  refine ⟨h.1, ?_⟩
  rcases h.2 with h0 | ⟨g, cap, cur, hv, hg, hh, r⟩
  · exact .inl h0
  · refine .inr ⟨g, cap, cur, hv, hg, ?_, r⟩
    have hlt : g < w.heap.size := by
      rcases Nat.lt_or_ge g w.heap.size with hlt | hge
      · exact hlt
      · rw [Array.getElem?_eq_none hge] at hh; cases hh
    rw [hb.block g (by omega)]; exact hh

theorem Ints.keep {w w' : World} {b : Nat} {v : Value} {xs : List Int} (h : Ints w b v xs) (hb : Below w.heap.size w w') : Ints w' b v xs :=
  ⟨own_keep h.1 (Nat.le_refl _) hb, h.2⟩
theorem Pipes.keep {w w' : World} {b : Nat} {v : Value} {ps : List Pp} (h : Pipes w b v ps) (hb : Below w.heap.size w w') : Pipes w' b v ps :=
  ⟨own_keep h.1 (Nat.le_refl _) hb, h.2⟩
theorem own_mono {w : World} {b b' n : Nat} {e : TypeId} {size : Nat} {v : Value} {xs : List Value} (h : w.ownsRow b e size v n xs) (hb : b' ≤ b) : w.ownsRow b' e size v n xs := by
  refine ⟨h.1, ?_⟩
  rcases h.2 with h0 | ⟨g, cap, cur, hv, hg, r⟩
  · exact .inl h0
  · exact .inr ⟨g, cap, cur, hv, by omega, r⟩
theorem Ints.mono {w : World} {b b' : Nat} {v : Value} {xs : List Int} (h : Ints w b v xs) (hb : b' ≤ b) : Ints w b' v xs := ⟨own_mono h.1 hb, h.2⟩
theorem Pipes.mono {w : World} {b b' : Nat} {v : Value} {ps : List Pp} (h : Pipes w b v ps) (hb : b' ≤ b) : Pipes w b' v ps := ⟨own_mono h.1 hb, h.2⟩

theorem Ints.setLow {w : World} {b : Nat} {v : Value} {xs : List Int} (h : Ints w b v xs) {a : Addr} {u : Value} (ha : a.block < b) : Ints (w.setCell a u) b v xs :=
  ⟨ownsRow_setCell_below h.1 ha u, h.2⟩
theorem Pipes.setLow {w : World} {b : Nat} {v : Value} {ps : List Pp} (h : Pipes w b v ps) {a : Addr} {u : Value} (ha : a.block < b) : Pipes (w.setCell a u) b v ps :=
  ⟨ownsRow_setCell_below h.1 ha u, h.2⟩

theorem own_form {w : World} {b n : Nat} {e : TypeId} {size : Nat} {v : Value} {xs : List Value} (h : w.ownsRow b e size v n xs) :
    ∃ A c, v = .slice A n c ∧ n ≤ c ∧ c ≤ maxLen ∧ ∀ k u, xs[k]? = some u → ∃ g, A = some ⟨g, 0, none⟩ ∧ b ≤ g ∧ g < w.heap.size ∧ w.cell? ⟨g, k, none⟩ = some u ∧ w.frozen? ⟨g, k, none⟩ = false := by
  rcases h.2 with ⟨rfl, rfl⟩ | ⟨g, cap, cur, rfl, hg, hh, h1, h2, h3, h4⟩
  · refine ⟨none, 0, rfl, Nat.le_refl _, by simp [maxLen], fun k u hk => ?_⟩
    have := h.1
    have hx : xs = [] := List.eq_nil_of_length_eq_zero (by simpa using this)
    subst hx; simp at hk
  · refine ⟨some ⟨g, 0, none⟩, cap, rfl, h1, h2, fun k u hk => ⟨g, rfl, hg, ?_, ?_, ?_⟩⟩
    · rcases Nat.lt_or_ge g w.heap.size with hlt | hge
      · exact hlt
      · rw [Array.getElem?_eq_none hge] at hh; cases hh
    · have hlen : k < n * size := by
        have := List.getElem?_eq_some_iff.1 hk
        obtain ⟨hk1, _⟩ := this
        rw [h.1] at hk1; exact hk1
      rw [cell_of_row w g k cur e (0, 0) hh, ← hk, ← h4]
      rw [List.getElem?_take]
      simp [hlen]
    · simp [World.frozen?, hh]

theorem Ints.form {w : World} {b : Nat} {v : Value} {xs : List Int} (h : Ints w b v xs) :
    ∃ A c, v = .slice A xs.length c ∧ xs.length ≤ c ∧ c ≤ maxLen ∧ xs.length ≤ 4194304 ∧ ∀ wr, Below w.heap.size w wr → ∀ k (hk : k < xs.length), ∃ g, A = some ⟨g, 0, none⟩ ∧ b ≤ g ∧ g < w.heap.size ∧ wr.cell? ⟨g, k, none⟩ = some (.int .i64 xs[k]) ∧ wr.frozen? ⟨g, k, none⟩ = false := by
  obtain ⟨A, c, hv, h1, h2, h3⟩ := own_form h.1
  refine ⟨A, c, hv, h1, h2, h.2, fun wr hb k hk => ?_⟩
  obtain ⟨g, hA, hg, hg2, c0, c1⟩ := h3 k _ (show (xs.map (Value.int .i64))[k]? = some (.int .i64 xs[k]) by simp [hk])
  exact ⟨g, hA, hg, hg2, (hb.cell (p := ⟨g, k, none⟩) hg2).trans c0, (hb.frozen (p := ⟨g, k, none⟩) hg2).trans c1⟩

theorem pp_cells (ps : List Pp) (k : Nat) (hk : k < ps.length) (j : Nat) (hj : j < 5) : (ps.flatMap Pp.cells)[k * 5 + j]? = (ps[k].cells)[j]? := by
  induction ps generalizing k with
  | nil => simp at hk
  | cons p ps ih =>
    cases k with
    | zero =>
      rw [List.flatMap_cons, List.getElem?_append_left (by simp [Pp.cells]; omega)]
      simp
    | succ k =>
      rw [List.flatMap_cons, List.getElem?_append_right (by simp [Pp.cells]; omega)]
      have : (k + 1) * 5 + j - p.cells.length = k * 5 + j := by simp [Pp.cells]; omega
      rw [this, ih k (by simpa using hk)]
      simp

theorem Pipes.form {w : World} {b : Nat} {v : Value} {ps : List Pp} (h : Pipes w b v ps) :
    ∃ A c, v = .slice A ps.length c ∧ ps.length ≤ c ∧ c ≤ maxLen ∧ ps.length ≤ 4194304 ∧ ∀ wr, Below w.heap.size w wr → ∀ k (hk : k < ps.length), ∃ g, A = some ⟨g, 0, none⟩ ∧ b ≤ g ∧ g < w.heap.size ∧
      wr.cell? ⟨g, k * 5, none⟩ = some (.int .i64 ps[k].fr) ∧ wr.cell? ⟨g, k * 5 + 1, none⟩ = some (.int .i64 ps[k].to) ∧ wr.cell? ⟨g, k * 5 + 2, none⟩ = some (.int .i64 ps[k].le) ∧
      wr.cell? ⟨g, k * 5 + 3, none⟩ = some (.int .i64 ps[k].mo) ∧ wr.cell? ⟨g, k * 5 + 4, none⟩ = some (.int .i64 ps[k].co) := by
  obtain ⟨A, c, hv, h1, h2, h3⟩ := own_form h.1
  refine ⟨A, c, hv, h1, h2, h.2, fun wr hb k hk => ?_⟩
  have hc := pp_cells ps k hk
  obtain ⟨g, hA, hg, hg2, c0, _⟩ := h3 (k * 5 + 0) _ (hc 0 (by omega))
  have hx : ∀ j u, (ps[k].cells)[j]? = some u → j < 5 → wr.cell? ⟨g, k * 5 + j, none⟩ = some u := by
    intro j u hj h5
    obtain ⟨g1, hA1, _, hg3, c1, _⟩ := h3 (k * 5 + j) _ ((hc j h5).trans hj)
    rw [hA] at hA1
    injection hA1 with e1; injection e1 with e1; subst e1
    exact (hb.cell (p := ⟨g, k * 5 + j, none⟩) hg3).trans c1
  exact ⟨g, hA, hg, hg2, hx 0 _ rfl (by omega), hx 1 _ rfl (by omega), hx 2 _ rfl (by omega), hx 3 _ rfl (by omega), hx 4 _ rfl (by omega)⟩

end Go.Proofs.Ytabkhpeoeihmmaa
