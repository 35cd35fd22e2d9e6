/- Rows of numbers that are turned in place. -/
import Derived.Test.YtabkhpeoeihmmaaMG
import Derived.Test.YtabkhpeoeihmmaaD0
namespace Go.Proofs.Ytabkhpeoeihmmaa
open Go.RowKit

/-- a row of numbers in a block of its own, from block b on, that may be turned -/
def Row (w : World) (b g n cap : Nat) (L : List Int) : Prop := w.ownsRow b 3 1 (.slice (some ⟨g, 0, none⟩) n cap) n (L.map (Value.int .i64)) ∧ n ≤ small

section
variable {w w' : World} {b g n cap : Nat} {L : List Int}
theorem Row.len (h : Row w b g n cap L) : L.length = n := by have := h.1.1; simp at this; omega
theorem Row.lt (h : Row w b g n cap L) : b ≤ g ∧ g < w.heap.size := h.1.lt g rfl
theorem Row.at' (h : Row w b g n cap L) (j : Nat) (hj : j < n) : w.cell? ⟨g, j, none⟩ = some (.int .i64 (L.getD j 0)) ∧ w.frozen? ⟨g, j, none⟩ = false := by
  have hl := h.len
  refine ⟨?_, h.1.frozenAt j⟩
  rw [h.1.cellAt j (by omega), List.getElem?_map, List.getElem?_eq_getElem (by omega)]
  simp [List.getD_eq_getElem?_getD, List.getElem?_eq_getElem (show j < L.length by omega)]
theorem Row.capd (h : Row w b g n cap L) : n ≤ cap ∧ cap ≤ maxLen := by
  rcases h.1.2 with ⟨h', _⟩ | ⟨g', cap', cur, h', hb, hg, hnc, hcm, hcs, htake⟩
  · simp at h'
  · simp only [Value.slice.injEq, Option.some.injEq, Addr.mk.injEq, and_true, true_and] at h'
    obtain ⟨rfl, rfl⟩ := h'
    exact ⟨hnc, hcm⟩
theorem Row.set (h : Row w b g n cap L) (j : Nat) (x : Int) : Row (w.setCell ⟨g, j, none⟩ (.int .i64 x)) b g n cap (L.set j x) := by
  refine ⟨?_, h.2⟩
  have := (h.1.stored j (.int .i64 x)).1
  rw [← List.map_set] at this
  exact this
theorem Row.keep (h : Row w b g n cap L) (hb : Below w.heap.size w w') : Row w' b g n cap L := ⟨own_keep h.1 (Nat.le_refl _) hb, h.2⟩
theorem Row.mono {b' : Nat} (h : Row w b g n cap L) (hb : b' ≤ b) : Row w b' g n cap L := ⟨own_mono h.1 hb, h.2⟩
theorem Row.grown (h : Row w b g n cap L) {r : Option Nat} (hg : w.grownBy w' r) (hr : r ≠ some g) : Row w' b g n cap L := by
  refine ⟨h.1.kept hg (.inr fun e => hr (e.symm.trans rfl)), h.2⟩
theorem Row.far (h : Row w b g n cap L) {a : Addr} (ha : a.block ≠ g) (u : Value) : Row (w.setCell a u) b g n cap L := by
  refine ⟨⟨h.1.1, ?_⟩, h.2⟩
  rcases h.1.2 with h0 | ⟨g', cap', cur, hv, hg, hh, r⟩
  · exact .inl h0
  · refine .inr ⟨g', cap', cur, hv, hg, ?_, r⟩
    have e : g' = g := by
      simp only [Value.slice.injEq, Option.some.injEq, Addr.mk.injEq, and_true, true_and] at hv
      exact hv.1.symm
    rw [Below.heap_setCell w a u g' (by rw [e]; exact fun hx => ha hx.symm)]; exact hh
theorem Row.drew (h : Row w b g n cap L) : Row w.drew b g n cap L := h
theorem Row.ints (h : Row w b g n cap L) : Ints w b (.slice (some ⟨g, 0, none⟩) n cap) L := by
  have hl := h.len
  refine ⟨?_, by rw [hl]; exact h.2⟩
  rw [hl]; exact h.1
theorem Ints.row {v : Value} (h : Ints w b v L) (hl : 0 < L.length) : ∃ g cap, v = .slice (some ⟨g, 0, none⟩) L.length cap ∧ Row w b g L.length cap L := by
  rcases h.1.2 with ⟨-, h0⟩ | ⟨g, cap, cur, hv, hg, hh, r⟩
  · omega
  · subst hv
    exact ⟨g, cap, rfl, h.1, h.2⟩
theorem Ints_made (w : World) {n b g : Nat} (hb : b ≤ w.heap.size) (hn : n ≤ 4194304) (hg : g = w.heap.size) : Ints (w.alloc (.cells (madeCells #[.int .i64 0] n) 3)) b (.slice (some ⟨g, 0, none⟩) n n) (List.replicate n 0) := by
  subst hg
  have h := made_ints w n 3 b hb hn
  exact ⟨by rw [List.length_replicate]; exact h, by rw [List.length_replicate]; exact hn⟩
theorem Ints_one (w : World) (x : Int) {b g : Nat} (hb : b ≤ w.heap.size) (hg : g = w.heap.size) : Ints (w.alloc (.cells #[.int .i64 x] 3)) b (.slice (some ⟨g, 0, none⟩) 1 1) [x] := by
  subst hg
  exact ⟨World.ownsRow_lit (e := 3) (base := b) (size := 1) w #[.int .i64 x] 1 hb (by simp [maxLen]) rfl, by simp [small]⟩
end

end Go.Proofs.Ytabkhpeoeihmmaa
