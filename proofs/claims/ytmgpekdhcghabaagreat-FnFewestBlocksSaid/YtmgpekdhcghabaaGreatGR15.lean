/- Plain facts. -/
import Derived.Test.YtmgpekdhcghabaaGreatGR4
import Derived.Test.YtmgpekdhcghabaaGreatGR1
import Derived.Test.YtmgpekdhcghabaaGreatGR23
import Derived.Deep.RegionHeld3
/- Contracts of the functions of chapter 1 in the model: ExcessAt, HoldsOk. -/
namespace Go.Proofs.YtmgpekdhcghabaaGreat
open Go.RowKit

end Go.Proofs.YtmgpekdhcghabaaGreat

/- Contracts of the functions of chapter 1 in the model: BalancedOk. -/
namespace Go.Proofs.YtmgpekdhcghabaaGreat
open Go.RowKit

end Go.Proofs.YtmgpekdhcghabaaGreat

/- Contracts of the functions of chapter 4 in the model: the rings of a flow. -/
namespace Go.Proofs.YtmgpekdhcghabaaGreat
open Go.RowKit

theorem ints_info : (Tryz.prog.info? 30).map (fun i => (i.zero, i.size, i.bytes)) = some (some (.slice none 0 0), 1, 24) := by kernel_rfl

/-- a row of rows of its own -/
def OwnRows (w : World) (b g cap : Nat) (Ls : List (List Int)) : Prop :=
  ∃ vs : List Value, vs.length = Ls.length ∧ w.ownsRow b 30 1 (.slice (some ⟨g, 0, none⟩) Ls.length cap) Ls.length vs ∧ Ls.length ≤ small ∧ ∀ k (h : k < Ls.length) (h' : k < vs.length), Ints w b vs[k] Ls[k]
theorem OwnRows.keep {w w' : World} {b g cap : Nat} {Ls : List (List Int)} (h : OwnRows w b g cap Ls) (hb : Below w.heap.size w w') : OwnRows w' b g cap Ls := by
  obtain ⟨vs, h1, h2, h3, h4⟩ := h
  exact ⟨vs, h1, own_keep h2 (Nat.le_refl _) hb, h3, fun k hk hk' => (h4 k hk hk').keep hb⟩
theorem OwnRows.rows {w : World} {b g cap : Nat} {Ls : List (List Int)} (h : OwnRows w b g cap Ls) : RowsI w b (.slice (some ⟨g, 0, none⟩) Ls.length cap) Ls := by
  obtain ⟨vs, h1, h2, h3, h4⟩ := h
  have hlt := h2.lt g rfl
  obtain ⟨A, c, hv, c1, c2, c3⟩ := own_form h2
  injection hv with e1 e2 e3
  subst e3
  refine ⟨_, _, rfl, c1, c2, h3, fun k hk => ?_⟩
  have hkv : k < vs.length := by omega
  refine ⟨g, vs[k], rfl, hlt.1, hlt.2, ?_, h4 k hk hkv⟩
  obtain ⟨g', hA, -, -, c0, -⟩ := c3 k vs[k] (by simp [hkv])
  rw [← e1] at hA
  injection hA with hA
  injection hA with hA
  subst hA
  exact c0
theorem Ints.alloc1 {w : World} {b : Nat} {v : Value} {xs : List Int} (h : Ints w b v xs) (o : Obj) : Ints (w.alloc o) b v xs := ⟨h.1.alloc o, h.2⟩
/-- a row of numbers lies in another block than a row of rows -/
theorem Ints.other {w w' : World} {b b2 g N k : Nat} {v : Value} {xs : List Int} {vs : List Value} (h : Ints w b v xs) (ho : w.ownsRow b2 30 1 (.slice (some ⟨g, 0, none⟩) N k) N vs) (hg : w.grownBy w' (some g)) : Ints w' b v xs := by
  refine ⟨h.1.kept hg ?_, h.2⟩
  rcases h.1.2 with ⟨h0, -⟩ | ⟨g1, c1, cur1, h0, -, hh, -⟩
  · left; rw [h0]; rfl
  · right
    rw [h0]
    intro e
    have e : g1 = g := by injection e
    subst e
    rcases ho.2 with ⟨h2, -⟩ | ⟨g2, c2, cur2, h2, -, hh2, -⟩
    · cases h2
    · injection h2 with e1 _ _
      injection e1 with e1
      injection e1 with e1
      subst e1
      rw [hh] at hh2
      injection hh2 with e2
      injection e2 with _ e3 _
      exact absurd e3 (by decide)

section
variable {ps : List Pp} {xs : List Int} {k f : Nat}
theorem rings_on (h : firstP xs = some k) : ringsP ps (f + 1) xs = (leastP xs (ringP ps xs k) :: natsI (ringP ps xs k)) :: ringsP ps f (lessP (leastP xs (ringP ps xs k)) xs (ringP ps xs k)) := by
  conv => lhs; rw [ringsP, h]
theorem pos_some (hk : k < xs.length) (hx : 0 < xs.getD k 0) : 0 < posN xs := by
  unfold posN
  exact List.countP_pos_iff.2 ⟨k, List.mem_range.2 hk, decide_eq_true hx⟩
theorem pos_le : posN xs ≤ xs.length := by
  have := List.countP_le_length (p := fun k => decide (0 < xs.getD k 0)) (l := List.range xs.length)
  unfold posN; simpa using this
end

/-- the rings of a flow -/
def ringsL (ps : List Pp) (xs : List Int) : List (List Int) := ringsP ps 8 xs

end Go.Proofs.YtmgpekdhcghabaaGreat
