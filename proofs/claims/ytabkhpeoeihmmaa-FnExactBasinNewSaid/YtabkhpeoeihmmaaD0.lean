/- A variable of two cells, and what only one block's turning keeps. -/
import Derived.Test.YtabkhpeoeihmmaaMG
import Derived.Deep.AppendLies
namespace Go.Proofs.Ytabkhpeoeihmmaa
open Go.RowKit

def Box2 (w : World) (g : Nat) (u0 u1 : Value) : Prop :=
  g < w.heap.size ∧ w.cell? ⟨g, 0, none⟩ = some u0 ∧ w.cell? ⟨g, 1, none⟩ = some u1 ∧ w.frozen? ⟨g, 0, none⟩ = false ∧ w.frozen? ⟨g, 1, none⟩ = false

section
variable {w w' : World} {g : Nat} {u0 u1 : Value}
theorem Box2.new (w : World) (u0 u1 : Value) (t : TypeId) : Box2 (w.alloc (.cells #[u0, u1] t)) w.heap.size u0 u1 := by
  refine ⟨by simp, ?_, ?_, ?_, ?_⟩ <;> simp
theorem Box2.grown (h : Box2 w g u0 u1) {row : Option Nat} (hg : w.grownBy w' row) (hne : some g ≠ row) : Box2 w' g u0 u1 :=
  ⟨Nat.lt_of_lt_of_le h.1 hg.size, (hg.cell_far ⟨g, 0, none⟩ h.1 hne).trans h.2.1, (hg.cell_far ⟨g, 1, none⟩ h.1 hne).trans h.2.2.1,
    (hg.frozen_far ⟨g, 0, none⟩ h.1 hne).trans h.2.2.2.1, (hg.frozen_far ⟨g, 1, none⟩ h.1 hne).trans h.2.2.2.2⟩
theorem Box2.keep (h : Box2 w g u0 u1) (hb : Below w.heap.size w w') : Box2 w' g u0 u1 :=
  ⟨Nat.lt_of_lt_of_le h.1 hb.size, (hb.cell (p := ⟨g, 0, none⟩) h.1).trans h.2.1, (hb.cell (p := ⟨g, 1, none⟩) h.1).trans h.2.2.1,
    (hb.frozen (p := ⟨g, 0, none⟩) h.1).trans h.2.2.2.1, (hb.frozen (p := ⟨g, 1, none⟩) h.1).trans h.2.2.2.2⟩
theorem Box2.set1 (h : Box2 w g u0 u1) (v : Value) : Box2 (w.setCell ⟨g, 1, none⟩ v) g u0 v :=
  ⟨by simpa using h.1, (World.cell?_setCell_other _ _ _ _ (by simp)).trans h.2.1, World.cell?_setCell_same _ _ _ h.2.2.1, by simpa using h.2.2.2.1, by simpa using h.2.2.2.2⟩
theorem Box2.set0 (h : Box2 w g u0 u1) (v : Value) : Box2 (w.setCell ⟨g, 0, none⟩ v) g v u1 :=
  ⟨by simpa using h.1, World.cell?_setCell_same _ _ _ h.2.1, (World.cell?_setCell_other _ _ _ _ (by simp)).trans h.2.2.1, by simpa using h.2.2.2.1, by simpa using h.2.2.2.2⟩
theorem Box2.far (h : Box2 w g u0 u1) {p : Addr} (hp : p.block ≠ g) (v : Value) : Box2 (w.setCell p v) g u0 u1 :=
  ⟨by simpa using h.1, (World.cell?_setCell_other _ _ _ _ (by rintro rfl; exact hp rfl)).trans h.2.1, (World.cell?_setCell_other _ _ _ _ (by rintro rfl; exact hp rfl)).trans h.2.2.1, by simpa using h.2.2.2.1, by simpa using h.2.2.2.2⟩

theorem grow_refl (w : World) (r : Option Nat) : w.grownBy w r := World.grownBy.refl w r
theorem grow_drew {a w : World} {r : Option Nat} (h : a.grownBy w r) : a.grownBy w.drew r := ⟨h.os, h.tape, h.output, h.size, h.block⟩
theorem grow_drewN {a w : World} {r : Option Nat} (h : a.grownBy w r) (n : Nat) : a.grownBy (w.drewN n) r := ⟨h.os, h.tape, h.output, h.size, h.block⟩
theorem grow_alloc {a w : World} {r : Option Nat} (h : a.grownBy w r) (o : Obj) : a.grownBy (w.alloc o) r :=
  ⟨h.os, h.tape, h.output, Nat.le_trans h.size (by simp), fun i hi hne => (Below.heap_alloc w o i (Nat.lt_of_lt_of_le hi h.size)).trans (h.block i hi hne)⟩
theorem grow_set {a w : World} {r : Option Nat} (h : a.grownBy w r) {p : Addr} (hp : a.heap.size ≤ p.block ∨ r = some p.block) (u : Value) : a.grownBy (w.setCell p u) r :=
  ⟨h.os, h.tape, h.output, by simpa using h.size, fun i hi hne => (Below.heap_setCell w p u i (by
    rintro rfl
    rcases hp with hp | hp
    · omega
    · exact hne hp.symm)).trans (h.block i hi hne)⟩
/-- a callee that turns only the row, and what is new, of a later world -/
theorem grow_more {a w w' : World} {r r' : Option Nat} (h : a.grownBy w r) (k : w.grownBy w' r') (hr : ∀ q, r' = some q → a.heap.size ≤ q ∨ r = some q) : a.grownBy w' r :=
  ⟨k.os.trans h.os, k.tape.trans h.tape, k.output.trans h.output, Nat.le_trans h.size k.size, fun i hi hne => (k.block i (Nat.lt_of_lt_of_le hi h.size) (by
    intro e
    rcases hr i e.symm with h1 | h1
    · omega
    · exact hne h1.symm)).trans (h.block i hi hne)⟩
theorem grow_below {a w w' : World} {r : Option Nat} (h : a.grownBy w r) (k : Below w.heap.size w w') : a.grownBy w' r :=
  ⟨k.os.trans h.os, k.tape.trans h.tape, k.output.trans h.output, Nat.le_trans h.size k.size, fun i hi hne => (k.block i (Nat.lt_of_lt_of_le hi h.size)).trans (h.block i hi hne)⟩
theorem below_grow {a w : World} {r : Option Nat} {B : Nat} (h : a.grownBy w r) (hB : B ≤ a.heap.size) (hr : ∀ q, r = some q → B ≤ q) : Below B a w :=
  ⟨h.os, h.tape, h.output, h.size, fun i hi => h.block i (by omega) (fun e => by have := hr i e.symm; omega)⟩
theorem own_grow {b n size : Nat} {e : TypeId} {v : Value} {xs : List Value} (h : w.ownsRow b e size v n xs) {r : Option Nat} (hg : w.grownBy w' r) (hr : ∀ q, r = some q → q < b) : w'.ownsRow b e size v n xs := by
  refine h.kept hg ?_
  cases hv : v.ownBlock with
  | none => exact .inl rfl
  | some q =>
    refine .inr fun e => ?_
    have h1 := (h.lt q hv).1
    have h2 := hr q e.symm
    omega
theorem gcell {rg : Nat} (hg : w.grownBy w' (some rg)) : (∀ b o, b < w.heap.size → b ≠ rg → w'.cell? ⟨b, o, none⟩ = w.cell? ⟨b, o, none⟩) ∧ (∀ b o, b < w.heap.size → b ≠ rg → w'.frozen? ⟨b, o, none⟩ = w.frozen? ⟨b, o, none⟩) :=
  ⟨fun b o h hne => hg.cell_far ⟨b, o, none⟩ h (by intro e; injection e with e; exact hne e), fun b o h hne => hg.frozen_far ⟨b, o, none⟩ h (by intro e; injection e with e; exact hne e)⟩
end

/-- a pipe's variable, known whole -/
def Box5 (w : World) (g : Nat) (p : Pp) : Prop :=
  g < w.heap.size ∧ w.cell? ⟨g, 0, none⟩ = some (.int .i64 p.fr) ∧ w.cell? ⟨g, 1, none⟩ = some (.int .i64 p.to) ∧ w.cell? ⟨g, 2, none⟩ = some (.int .i64 p.le) ∧ w.cell? ⟨g, 3, none⟩ = some (.int .i64 p.mo) ∧ w.cell? ⟨g, 4, none⟩ = some (.int .i64 p.co) ∧
    ∀ j, w.frozen? ⟨g, j, none⟩ = false

theorem Box5.grown {w w' : World} {g : Nat} {p : Pp} (h : Box5 w g p) {row : Option Nat} (hg : w.grownBy w' row) (hne : some g ≠ row) : Box5 w' g p := by
  obtain ⟨h0, h1, h2, h3, h4, h5, h6⟩ := h
  exact ⟨Nat.lt_of_lt_of_le h0 hg.size, (hg.cell_far ⟨g, 0, none⟩ h0 hne).trans h1, (hg.cell_far ⟨g, 1, none⟩ h0 hne).trans h2, (hg.cell_far ⟨g, 2, none⟩ h0 hne).trans h3, (hg.cell_far ⟨g, 3, none⟩ h0 hne).trans h4,
    (hg.cell_far ⟨g, 4, none⟩ h0 hne).trans h5, fun j => (hg.frozen_far ⟨g, j, none⟩ h0 hne).trans (h6 j)⟩

theorem Box5.new (w : World) (a b c d e : Int) (t : TypeId) {g : Nat} (hg : w.heap.size = g) : Box5 (w.alloc (.cells #[.int .i64 a, .int .i64 b, .int .i64 c, .int .i64 d, .int .i64 e] t)) g ⟨a, b, c, d, e⟩ := by
  subst hg
  refine ⟨by simp, by simp, by simp, by simp, by simp, by simp, fun j => by simp⟩

theorem Box5.of_sets {w : World} {g : Nat} (a b c d e : Int) (h : g < w.heap.size) {u0 u1 u2 u3 u4 : Value} (h0 : w.cell? ⟨g, 0, none⟩ = some u0) (h1 : w.cell? ⟨g, 1, none⟩ = some u1) (h2 : w.cell? ⟨g, 2, none⟩ = some u2)
    (h3 : w.cell? ⟨g, 3, none⟩ = some u3) (h4 : w.cell? ⟨g, 4, none⟩ = some u4) (hf : ∀ j, w.frozen? ⟨g, j, none⟩ = false) :
    Box5 (((((w.setCell ⟨g, 0, none⟩ (.int .i64 a)).setCell ⟨g, 1, none⟩ (.int .i64 b)).setCell ⟨g, 2, none⟩ (.int .i64 c)).setCell ⟨g, 3, none⟩ (.int .i64 d)).setCell ⟨g, 4, none⟩ (.int .i64 e)) g ⟨a, b, c, d, e⟩ := by
  have k : ∀ (W : World) (i j : Nat) (u : Value), i ≠ j → (W.setCell ⟨g, i, none⟩ u).cell? ⟨g, j, none⟩ = W.cell? ⟨g, j, none⟩ := fun W i j u hij => World.cell?_setCell_other _ _ _ _ (by intro h; injection h with _ h; exact hij h)
  have s : ∀ (W : World) (i : Nat) (u v : Value), W.cell? ⟨g, i, none⟩ = some v → (W.setCell ⟨g, i, none⟩ u).cell? ⟨g, i, none⟩ = some u := fun W i u v hv => World.cell?_setCell_same _ _ _ hv
  refine ⟨by simpa using h, ?_, ?_, ?_, ?_, ?_, fun j => by simpa using hf j⟩
  · rw [k _ 4 0 _ (by omega), k _ 3 0 _ (by omega), k _ 2 0 _ (by omega), k _ 1 0 _ (by omega)]; exact s _ _ _ _ h0
  · rw [k _ 4 1 _ (by omega), k _ 3 1 _ (by omega), k _ 2 1 _ (by omega)]; exact s _ _ _ _ (by rw [k _ 0 1 _ (by omega)]; exact h1)
  · rw [k _ 4 2 _ (by omega), k _ 3 2 _ (by omega)]; exact s _ _ _ _ (by rw [k _ 1 2 _ (by omega), k _ 0 2 _ (by omega)]; exact h2)
  · rw [k _ 4 3 _ (by omega)]; exact s _ _ _ _ (by rw [k _ 2 3 _ (by omega), k _ 1 3 _ (by omega), k _ 0 3 _ (by omega)]; exact h3)
  · exact s _ _ _ _ (by rw [k _ 3 4 _ (by omega), k _ 2 4 _ (by omega), k _ 1 4 _ (by omega), k _ 0 4 _ (by omega)]; exact h4)

end Go.Proofs.Ytabkhpeoeihmmaa
