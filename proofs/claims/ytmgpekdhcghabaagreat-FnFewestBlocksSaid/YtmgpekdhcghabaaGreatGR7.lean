/- Plain facts. -/
import Derived.Test.YtmgpekdhcghabaaGreatMG
import Derived.Deep.AppendLies
import Derived.Test.YtmgpekdhcghabaaGreatGR13
import Derived.Deep.DeepCutAuto
import Derived.Deep.RegionWith
/- A variable of two cells, and what only one block's turning keeps. -/
namespace Go.Proofs.YtmgpekdhcghabaaGreat
open Go.RowKit

def Box2 (w : World) (g : Nat) (u0 u1 : Value) : Prop :=
  g < w.heap.size ∧ w.cell? ⟨g, 0, none⟩ = some u0 ∧ w.cell? ⟨g, 1, none⟩ = some u1 ∧ w.frozen? ⟨g, 0, none⟩ = false ∧ w.frozen? ⟨g, 1, none⟩ = false

section
variable {w w' : World} {g : Nat} {u0 u1 : Value}
theorem Box2.new (w : World) (u0 u1 : Value) (t : TypeId) : Box2 (w.alloc (.cells #[u0, u1] t)) w.heap.size u0 u1 := by
  refine ⟨by simp, ?_, ?_, ?_, ?_⟩ <;> simp
theorem Box2.grown (h : Box2 w g u0 u1) {row : Option Nat} (hg : w.grownBy w' row) (hne : some g ≠ row) : Box2 w' g u0 u1 :=
  ⟨Nat.lt_of_lt_of_le h.1 hg.size, (hg.cell_far ⟨g, 0, none⟩ h.1 hne).trans h.2.1, (hg.cell_far ⟨g, 1, none⟩ h.1 hne).trans h.2.2.1,
    (hg.frozen_far ⟨g, 0, none⟩ h.1 hne).trans h.2.2.2.1, (hg.frozen_far ⟨g, 1, none⟩ h.1 hne).trans h.2.2.2.2⟩
theorem Box2.keep (h : Box2 w g u0 u1) (hb : Below w.heap.size w w') : Box2 w' g u0 u1 :=
  ⟨Nat.lt_of_lt_of_le h.1 hb.size, (hb.cell (p := ⟨g, 0, none⟩) h.1).trans h.2.1, (hb.cell (p := ⟨g, 1, none⟩) h.1).trans h.2.2.1,
    (hb.frozen (p := ⟨g, 0, none⟩) h.1).trans h.2.2.2.1, (hb.frozen (p := ⟨g, 1, none⟩) h.1).trans h.2.2.2.2⟩
theorem Box2.set1 (h : Box2 w g u0 u1) (v : Value) : Box2 (w.setCell ⟨g, 1, none⟩ v) g u0 v :=
  ⟨by simpa using h.1, (World.cell?_setCell_other _ _ _ _ (by simp)).trans h.2.1, World.cell?_setCell_same _ _ _ h.2.2.1, by simpa using h.2.2.2.1, by simpa using h.2.2.2.2⟩
theorem Box2.set0 (h : Box2 w g u0 u1) (v : Value) : Box2 (w.setCell ⟨g, 0, none⟩ v) g v u1 :=
  ⟨by simpa using h.1, World.cell?_setCell_same _ _ _ h.2.1, (World.cell?_setCell_other _ _ _ _ (by simp)).trans h.2.2.1, by simpa using h.2.2.2.1, by simpa using h.2.2.2.2⟩
theorem Box2.far (h : Box2 w g u0 u1) {p : Addr} (hp : p.block ≠ g) (v : Value) : Box2 (w.setCell p v) g u0 u1 :=
  ⟨by simpa using h.1, (World.cell?_setCell_other _ _ _ _ (by rintro rfl; exact hp rfl)).trans h.2.1, (World.cell?_setCell_other _ _ _ _ (by rintro rfl; exact hp rfl)).trans h.2.2.1, by simpa using h.2.2.2.1, by simpa using h.2.2.2.2⟩

theorem grow_refl (w : World) (r : Option Nat) : w.grownBy w r := World.grownBy.refl w r
theorem grow_drew {a w : World} {r : Option Nat} (h : a.grownBy w r) : a.grownBy w.drew r := ⟨h.os, h.tape, h.output, h.size, h.block⟩
theorem grow_drewN {a w : World} {r : Option Nat} (h : a.grownBy w r) (n : Nat) : a.grownBy (w.drewN n) r := ⟨h.os, h.tape, h.output, h.size, h.block⟩
theorem grow_alloc {a w : World} {r : Option Nat} (h : a.grownBy w r) (o : Obj) : a.grownBy (w.alloc o) r :=
  ⟨h.os, h.tape, h.output, Nat.le_trans h.size (by simp), fun i hi hne => (Below.heap_alloc w o i (Nat.lt_of_lt_of_le hi h.size)).trans (h.block i hi hne)⟩
theorem grow_set {a w : World} {r : Option Nat} (h : a.grownBy w r) {p : Addr} (hp : a.heap.size ≤ p.block ∨ r = some p.block) (u : Value) : a.grownBy (w.setCell p u) r :=
  ⟨h.os, h.tape, h.output, by simpa using h.size, fun i hi hne => (Below.heap_setCell w p u i (by
    rintro rfl
    rcases hp with hp | hp
    · omega
    · exact hne hp.symm)).trans (h.block i hi hne)⟩
/-- a callee that turns only the row, and what is new, of a later world -/
theorem grow_more {a w w' : World} {r r' : Option Nat} (h : a.grownBy w r) (k : w.grownBy w' r') (hr : ∀ q, r' = some q → a.heap.size ≤ q ∨ r = some q) : a.grownBy w' r :=
  ⟨k.os.trans h.os, k.tape.trans h.tape, k.output.trans h.output, Nat.le_trans h.size k.size, fun i hi hne => (k.block i (Nat.lt_of_lt_of_le hi h.size) (by
    intro e
    rcases hr i e.symm with h1 | h1
    · omega
    · exact hne h1.symm)).trans (h.block i hi hne)⟩
theorem below_grow {a w : World} {r : Option Nat} {B : Nat} (h : a.grownBy w r) (hB : B ≤ a.heap.size) (hr : ∀ q, r = some q → B ≤ q) : Below B a w :=
  ⟨h.os, h.tape, h.output, h.size, fun i hi => h.block i (by omega) (fun e => by have := hr i e.symm; omega)⟩
theorem own_grow {b n size : Nat} {e : TypeId} {v : Value} {xs : List Value} (h : w.ownsRow b e size v n xs) {r : Option Nat} (hg : w.grownBy w' r) (hr : ∀ q, r = some q → q < b) : w'.ownsRow b e size v n xs := by
  refine h.kept hg ?_
  cases hv : v.ownBlock with
  | none => exact .inl rfl
  | some q =>
    refine .inr fun e => ?_
    have h1 := (h.lt q hv).1
    have h2 := hr q e.symm
    omega
theorem gcell {rg : Nat} (hg : w.grownBy w' (some rg)) : (∀ b o, b < w.heap.size → b ≠ rg → w'.cell? ⟨b, o, none⟩ = w.cell? ⟨b, o, none⟩) ∧ (∀ b o, b < w.heap.size → b ≠ rg → w'.frozen? ⟨b, o, none⟩ = w.frozen? ⟨b, o, none⟩) :=
  ⟨fun b o h hne => hg.cell_far ⟨b, o, none⟩ h (by intro e; injection e with e; exact hne e), fun b o h hne => hg.frozen_far ⟨b, o, none⟩ h (by intro e; injection e with e; exact hne e)⟩
end

/-- a pipe's variable, known whole -/
def Box5 (w : World) (g : Nat) (p : Pp) : Prop :=
  g < w.heap.size ∧ w.cell? ⟨g, 0, none⟩ = some (.int .i64 p.fr) ∧ w.cell? ⟨g, 1, none⟩ = some (.int .i64 p.to) ∧ w.cell? ⟨g, 2, none⟩ = some (.int .i64 p.le) ∧ w.cell? ⟨g, 3, none⟩ = some (.int .i64 p.mo) ∧ w.cell? ⟨g, 4, none⟩ = some (.int .i64 p.co) ∧
    ∀ j, w.frozen? ⟨g, j, none⟩ = false

theorem Box5.grown {w w' : World} {g : Nat} {p : Pp} (h : Box5 w g p) {row : Option Nat} (hg : w.grownBy w' row) (hne : some g ≠ row) : Box5 w' g p := by
  obtain ⟨h0, h1, h2, h3, h4, h5, h6⟩ := h
  exact ⟨Nat.lt_of_lt_of_le h0 hg.size, (hg.cell_far ⟨g, 0, none⟩ h0 hne).trans h1, (hg.cell_far ⟨g, 1, none⟩ h0 hne).trans h2, (hg.cell_far ⟨g, 2, none⟩ h0 hne).trans h3, (hg.cell_far ⟨g, 3, none⟩ h0 hne).trans h4,
    (hg.cell_far ⟨g, 4, none⟩ h0 hne).trans h5, fun j => (hg.frozen_far ⟨g, j, none⟩ h0 hne).trans (h6 j)⟩

theorem Box5.new (w : World) (a b c d e : Int) (t : TypeId) {g : Nat} (hg : w.heap.size = g) : Box5 (w.alloc (.cells #[.int .i64 a, .int .i64 b, .int .i64 c, .int .i64 d, .int .i64 e] t)) g ⟨a, b, c, d, e⟩ := by
  subst hg
  refine ⟨by simp, by simp, by simp, by simp, by simp, by simp, fun j => by simp⟩

theorem Box5.of_sets {w : World} {g : Nat} (a b c d e : Int) (h : g < w.heap.size) {u0 u1 u2 u3 u4 : Value} (h0 : w.cell? ⟨g, 0, none⟩ = some u0) (h1 : w.cell? ⟨g, 1, none⟩ = some u1) (h2 : w.cell? ⟨g, 2, none⟩ = some u2)
    (h3 : w.cell? ⟨g, 3, none⟩ = some u3) (h4 : w.cell? ⟨g, 4, none⟩ = some u4) (hf : ∀ j, w.frozen? ⟨g, j, none⟩ = false) :
    Box5 (((((w.setCell ⟨g, 0, none⟩ (.int .i64 a)).setCell ⟨g, 1, none⟩ (.int .i64 b)).setCell ⟨g, 2, none⟩ (.int .i64 c)).setCell ⟨g, 3, none⟩ (.int .i64 d)).setCell ⟨g, 4, none⟩ (.int .i64 e)) g ⟨a, b, c, d, e⟩ := by
  have k : ∀ (W : World) (i j : Nat) (u : Value), i ≠ j → (W.setCell ⟨g, i, none⟩ u).cell? ⟨g, j, none⟩ = W.cell? ⟨g, j, none⟩ := fun W i j u hij => World.cell?_setCell_other _ _ _ _ (by intro h; injection h with _ h; exact hij h)
  have s : ∀ (W : World) (i : Nat) (u v : Value), W.cell? ⟨g, i, none⟩ = some v → (W.setCell ⟨g, i, none⟩ u).cell? ⟨g, i, none⟩ = some u := fun W i u v hv => World.cell?_setCell_same _ _ _ hv
  refine ⟨by simpa using h, ?_, ?_, ?_, ?_, ?_, fun j => by simpa using hf j⟩
  · rw [k _ 4 0 _ (by omega), k _ 3 0 _ (by omega), k _ 2 0 _ (by omega), k _ 1 0 _ (by omega)]; exact s _ _ _ _ h0
  · rw [k _ 4 1 _ (by omega), k _ 3 1 _ (by omega), k _ 2 1 _ (by omega)]; exact s _ _ _ _ (by rw [k _ 0 1 _ (by omega)]; exact h1)
  · rw [k _ 4 2 _ (by omega), k _ 3 2 _ (by omega)]; exact s _ _ _ _ (by rw [k _ 1 2 _ (by omega), k _ 0 2 _ (by omega)]; exact h2)
  · rw [k _ 4 3 _ (by omega)]; exact s _ _ _ _ (by rw [k _ 2 3 _ (by omega), k _ 1 3 _ (by omega), k _ 0 3 _ (by omega)]; exact h3)
  · exact s _ _ _ _ (by rw [k _ 3 4 _ (by omega), k _ 2 4 _ (by omega), k _ 1 4 _ (by omega), k _ 0 4 _ (by omega)]; exact h4)

end Go.Proofs.YtmgpekdhcghabaaGreat

/- Rows of numbers that are turned in place. -/
namespace Go.Proofs.YtmgpekdhcghabaaGreat
open Go.RowKit

/-- a row of numbers in a block of its own, from block b on, that may be turned -/
def Row (w : World) (b g n cap : Nat) (L : List Int) : Prop := w.ownsRow b 3 1 (.slice (some ⟨g, 0, none⟩) n cap) n (L.map (Value.int .i64)) ∧ n ≤ small

section
variable {w w' : World} {b g n cap : Nat} {L : List Int}
theorem Row.len (h : Row w b g n cap L) : L.length = n := by have := h.1.1; simp at this; omega
theorem Row.lt (h : Row w b g n cap L) : b ≤ g ∧ g < w.heap.size := h.1.lt g rfl
theorem Row.at' (h : Row w b g n cap L) (j : Nat) (hj : j < n) : w.cell? ⟨g, j, none⟩ = some (.int .i64 (L.getD j 0)) ∧ w.frozen? ⟨g, j, none⟩ = false := by
  have hl := h.len
  refine ⟨?_, h.1.frozenAt j⟩
  rw [h.1.cellAt j (by omega), List.getElem?_map, List.getElem?_eq_getElem (by omega)]
  simp [List.getD_eq_getElem?_getD, List.getElem?_eq_getElem (show j < L.length by omega)]
theorem Row.capd (h : Row w b g n cap L) : n ≤ cap ∧ cap ≤ maxLen := by
  rcases h.1.2 with ⟨h', _⟩ | ⟨g', cap', cur, h', hb, hg, hnc, hcm, hcs, htake⟩
  · simp at h'
  · simp only [Value.slice.injEq, Option.some.injEq, Addr.mk.injEq, and_true, true_and] at h'
    obtain ⟨rfl, rfl⟩ := h'
    exact ⟨hnc, hcm⟩
theorem Row.set (h : Row w b g n cap L) (j : Nat) (x : Int) : Row (w.setCell ⟨g, j, none⟩ (.int .i64 x)) b g n cap (L.set j x) := by
  refine ⟨?_, h.2⟩
  have := (h.1.stored j (.int .i64 x)).1
  rw [← List.map_set] at this
  exact this
theorem Row.keep (h : Row w b g n cap L) (hb : Below w.heap.size w w') : Row w' b g n cap L := ⟨own_keep h.1 (Nat.le_refl _) hb, h.2⟩
theorem Row.mono {b' : Nat} (h : Row w b g n cap L) (hb : b' ≤ b) : Row w b' g n cap L := ⟨own_mono h.1 hb, h.2⟩
theorem Row.grown (h : Row w b g n cap L) {r : Option Nat} (hg : w.grownBy w' r) (hr : r ≠ some g) : Row w' b g n cap L := by
  refine ⟨h.1.kept hg (.inr fun e => hr (e.symm.trans rfl)), h.2⟩
theorem Row.far (h : Row w b g n cap L) {a : Addr} (ha : a.block ≠ g) (u : Value) : Row (w.setCell a u) b g n cap L := by
  refine ⟨⟨h.1.1, ?_⟩, h.2⟩
  rcases h.1.2 with h0 | ⟨g', cap', cur, hv, hg, hh, r⟩
  · exact .inl h0
  · refine .inr ⟨g', cap', cur, hv, hg, ?_, r⟩
    have e : g' = g := by
      simp only [Value.slice.injEq, Option.some.injEq, Addr.mk.injEq, and_true, true_and] at hv
      exact hv.1.symm
    rw [Below.heap_setCell w a u g' (by rw [e]; exact fun hx => ha hx.symm)]; exact hh
theorem Row.drew (h : Row w b g n cap L) : Row w.drew b g n cap L := h
theorem Row.ints (h : Row w b g n cap L) : Ints w b (.slice (some ⟨g, 0, none⟩) n cap) L := by
  have hl := h.len
  refine ⟨?_, by rw [hl]; exact h.2⟩
  rw [hl]; exact h.1
theorem Ints.row {v : Value} (h : Ints w b v L) (hl : 0 < L.length) : ∃ g cap, v = .slice (some ⟨g, 0, none⟩) L.length cap ∧ Row w b g L.length cap L := by
  rcases h.1.2 with ⟨-, h0⟩ | ⟨g, cap, cur, hv, hg, hh, r⟩
  · omega
  · subst hv
    exact ⟨g, cap, rfl, h.1, h.2⟩
theorem Ints_made (w : World) {n b g : Nat} (hb : b ≤ w.heap.size) (hn : n ≤ 4194304) (hg : g = w.heap.size) : Ints (w.alloc (.cells (madeCells #[.int .i64 0] n) 3)) b (.slice (some ⟨g, 0, none⟩) n n) (List.replicate n 0) := by
  subst hg
  have h := made_ints w n 3 b hb hn
  exact ⟨by rw [List.length_replicate]; exact h, by rw [List.length_replicate]; exact hn⟩
theorem Ints_one (w : World) (x : Int) {b g : Nat} (hb : b ≤ w.heap.size) (hg : g = w.heap.size) : Ints (w.alloc (.cells #[.int .i64 x] 3)) b (.slice (some ⟨g, 0, none⟩) 1 1) [x] := by
  subst hg
  exact ⟨World.ownsRow_lit (e := 3) (base := b) (size := 1) w #[.int .i64 x] 1 hb (by simp [maxLen]) rfl, by simp [small]⟩
end

end Go.Proofs.YtmgpekdhcghabaaGreat

/- Contracts of the functions of chapter 3 in the model: how far it is from each node. -/
namespace Go.Proofs.YtmgpekdhcghabaaGreat
open Go.RowKit

end Go.Proofs.YtmgpekdhcghabaaGreat
