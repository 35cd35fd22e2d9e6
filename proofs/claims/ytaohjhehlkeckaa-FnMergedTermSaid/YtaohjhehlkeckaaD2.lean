/- Contracts of the draws: a net. -/
import Derived.Test.YtaohjhehlkeckaaD1
import Derived.IntWalk
import Derived.Deep.DeepCutAuto
import Derived.Test.YtaohjhehlkeckaaS5
namespace Go.Proofs.Ytaohjhehlkeckaa
open Go.RowKit

theorem rem_in {y z : Int} (h1 : 2 ≤ z) (h2 : z ≤ 5) : IntKind.i64.wrap (y % z) = y % z := by
  have := Int.emod_nonneg y (show z ≠ 0 by omega)
  have := Int.emod_lt_of_pos y (show 0 < z by omega)
  exact IntWalk.i64_in _ (by omega)
theorem le_alloc (w : World) (o : Obj) : w.heap.size ≤ (w.alloc o).heap.size := by rw [World.size_alloc]; exact Nat.le_succ _

theorem Rd.low {w w' : World} {rg m c K : Nat} {A : Option Addr} (h : Rd w rg A m c K) (hb : Below (rg + 1) w w') : Rd w' rg A m c K := by
  obtain ⟨h1, h2, h3, ⟨p, h4, h5⟩, h6, h7, h8, h9⟩ := h
  refine ⟨Nat.lt_of_lt_of_le h1 hb.size, (hb.cell (p := ⟨rg, _, none⟩) (Nat.lt_succ_self _)).trans h2, (hb.frozen (p := ⟨rg, _, none⟩) (Nat.lt_succ_self _)).trans h3, ⟨p, (hb.cell (p := ⟨rg, _, none⟩) (Nat.lt_succ_self _)).trans h4, h5⟩, h6, h7, h8, fun k hk => ?_⟩
  obtain ⟨g, o, x, hA, hg, hc, hx⟩ := h9 k hk
  exact ⟨g, o, x, hA, hg, (hb.cell (p := ⟨g, _, none⟩) (Nat.lt_succ_of_lt hg)).trans hc, hx⟩

/-- a drawn pipe's least and most amounts are small -/
def bdP (p : Pp) : Prop := 0 ≤ p.le ∧ p.le ≤ 4 ∧ 0 ≤ p.mo ∧ p.mo ≤ 4
def BdL (ps : List Pp) : Prop := ∀ p ∈ ps, bdP p
instance (p : Pp) : Decidable (bdP p) := by unfold bdP; infer_instance
theorem BdL.nil : BdL [] := fun _ h => by cases h
theorem BdL.snoc {ps : List Pp} {q : Pp} (h : BdL ps) (hq : bdP q) : BdL (ps ++ [q]) := fun p hp => by
  rcases List.mem_append.1 hp with hp | hp
  · exact h p hp
  · rw [List.mem_singleton.1 hp]; exact hq
theorem lv_bd {a b m lv : Int} (h : RowKit.wrap64 (a * (b / 3)) = lv) (a0 : 0 ≤ a) (a1 : a ≤ m) (m4 : m ≤ 4) (b0 : 0 ≤ b) (b1 : b < 4) : 0 ≤ lv ∧ lv ≤ 4 := by
  have hb : b / 3 = 0 ∨ b / 3 = 1 := by omega
  rcases hb with hb | hb
  · rw [hb, Int.mul_zero, IntWalk.wrap64_in _ (by omega)] at h
    omega
  · rw [hb, Int.mul_one, IntWalk.wrap64_in _ (by omega)] at h
    omega

end Go.Proofs.Ytaohjhehlkeckaa
