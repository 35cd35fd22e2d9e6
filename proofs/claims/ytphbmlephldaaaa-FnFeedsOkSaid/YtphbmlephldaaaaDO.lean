/- Readers whose bytes lie in older blocks. -/
import Derived.Test.YtphbmlephldaaaaGQ16
namespace Go.Proofs.Ytphbmlephldaaaa
open Go.RowKit

/-- the bytes that a reader reads lie in older blocks than B -/
def lowA (A : Option Addr) (m B : Nat) : Prop := ∀ k, k < m → ∃ g o, A = some ⟨g, o, none⟩ ∧ g < B

theorem Rd.other {w w' : World} {rg m c K B q : Nat} {A : Option Addr} (h : Rd w rg A m c K) (hA : lowA A m B) (hg : w.grownBy w' (some q)) (hq : q ≠ rg) (hB : B ≤ q) : Rd w' rg A m c K := by
  obtain ⟨h1, h2, h3, ⟨p, h4, h5⟩, h6, h7, h8, h9⟩ := h
  have hne : some rg ≠ some q := fun e => hq (by injection e with e; exact e.symm)
  refine ⟨Nat.lt_of_lt_of_le h1 hg.size, (hg.cell_far ⟨rg, _, none⟩ h1 hne).trans h2, (hg.frozen_far ⟨rg, _, none⟩ h1 hne).trans h3, ⟨p, (hg.cell_far ⟨rg, _, none⟩ h1 hne).trans h4, h5⟩, h6, h7, h8, fun k hk => ?_⟩
  obtain ⟨g, o, x, hA', hgl, hc, hx⟩ := h9 k hk
  obtain ⟨g2, o2, e2, hg2⟩ := hA k hk
  rw [hA'] at e2
  injection e2 with e2
  injection e2 with e2
  subst e2
  have hne2 : some g ≠ some q := fun e => by
    injection e with e
    omega
  exact ⟨g, o, x, hA', hgl, (hg.cell_far ⟨g, _, none⟩ (Nat.lt_trans hgl h1) hne2).trans hc, hx⟩

theorem l20Open_same (A : Option Addr) (c n : Nat) (w : World) (h : ArgBytes w (.slice A n c) n) :
    Calls Try.prog 45 #[.slice A n c] w fun e w' => ∃ m, e = .returned (.pointer (some ⟨w.heap.size, 0, none⟩)) ∧ Rd w' w.heap.size A m c 0 ∧ m ≤ n ∧ Below w.heap.size w w' ∧ w'.heap.size = w.heap.size + 1 := by
  obtain ⟨A', c', e', hc1, hc2, hcell⟩ := id h
  injection e' with e1 e2 e3
  subst e1
  subst e3
  clear e2
  unfold maxLen at hc2
  by_cases hn : 2000 < n
  · go_enter Try.func45, Try.ntmps45
    go_wp2
    go_ret
    refine ⟨2000, rfl, ⟨by simp, by simp, by simp, ⟨0, by simp, Nat.le_refl _⟩, by omega, by unfold maxLen; omega, Nat.le_refl _, fun k hk => ?_⟩, by omega, by (repeat (first | (with_reducible assumption) | (with_reducible exact Below.refl _ _) | ((with_reducible refine Below.alloc ?_ ?hsz _); (case hsz => (first | omega | (simp; done) | (simp; omega) | (simp at *; omega)))) | ((with_reducible refine Below.setCell ?_ ?hsz _); (case hsz => (first | omega | (simp; done) | (simp; omega) | (simp at *; omega)))) | (with_reducible refine Below.drew ?_) | (with_reducible refine below_drewN ?_ _) | ((with_reducible refine Below.trans ?_ (Below.mono (by with_reducible assumption) ?hsz)); (case hsz => (first | omega | (simp; done) | (simp; omega) | (simp at *; omega)))))), by simp⟩
    obtain ⟨g, o, x, hA, hg, hc, hx⟩ := hcell k (by omega)
    exact ⟨g, o, x, hA, hg, (World.cell?_alloc_lt _ _ _ hg).trans hc, hx⟩
  · go_enter Try.func45, Try.ntmps45
    go_wp2
    go_ret
    refine ⟨n, rfl, ⟨by simp, by simp, by simp, ⟨0, by simp, Nat.le_refl _⟩, by omega, by unfold maxLen; omega, by omega, fun k hk => ?_⟩, Nat.le_refl _, by (repeat (first | (with_reducible assumption) | (with_reducible exact Below.refl _ _) | ((with_reducible refine Below.alloc ?_ ?hsz _); (case hsz => (first | omega | (simp; done) | (simp; omega) | (simp at *; omega)))) | ((with_reducible refine Below.setCell ?_ ?hsz _); (case hsz => (first | omega | (simp; done) | (simp; omega) | (simp at *; omega)))) | (with_reducible refine Below.drew ?_) | (with_reducible refine below_drewN ?_ _) | ((with_reducible refine Below.trans ?_ (Below.mono (by with_reducible assumption) ?hsz)); (case hsz => (first | omega | (simp; done) | (simp; omega) | (simp at *; omega)))))), by simp⟩
    obtain ⟨g, o, x, hA, hg, hc, hx⟩ := hcell k (by omega)
    exact ⟨g, o, x, hA, hg, (World.cell?_alloc_lt _ _ _ hg).trans hc, hx⟩

end Go.Proofs.Ytphbmlephldaaaa
