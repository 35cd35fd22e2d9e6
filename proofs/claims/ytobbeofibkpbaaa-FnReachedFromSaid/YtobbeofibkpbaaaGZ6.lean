/- Plain facts. -/
import Derived.Test.YtobbeofibkpbaaaGZ30
import Derived.Test.YtobbeofibkpbaaaGZ25
import Derived.Test.YtobbeofibkpbaaaGZ40
import Derived.Deep.RegionHeld3
/- Contracts of the functions of chapter 4 in the model: the least amount of some pipes, and a flow without it. -/
namespace Go.Proofs.Ytobbeofibkpbaaa
open Go.RowKit

/-- numbers that lie one behind the other somewhere -/
def Lies (w : World) (v : Value) (L : List Int) : Prop :=
  ∃ g o c, v = .slice (some ⟨g, o, none⟩) L.length c ∧ g < w.heap.size ∧ L.length ≤ c ∧ c ≤ maxLen ∧ ∀ j (h : j < L.length), w.cell? ⟨g, o + j, none⟩ = some (.int .i64 L[j])
theorem Lies.keep {w w' : World} {v : Value} {L : List Int} (h : Lies w v L) (hb : Below w.heap.size w w') : Lies w' v L := by
  obtain ⟨g, o, c, h1, h2, h3, h4, h5⟩ := h
  exact ⟨g, o, c, h1, Nat.lt_of_lt_of_le h2 hb.size, h3, h4, fun j hj => (hb.cell (p := ⟨g, o + j, none⟩) h2).trans (h5 j hj)⟩
theorem news_lies {w : World} {g o : Nat} {L : List Int} (h : ∀ j (h : j < L.length), w.cell? ⟨g, o + j, none⟩ = some (.int .i64 L[j])) : ∀ j u, (L.map (Value.int .i64))[j]? = some u → w.cell? ((⟨g, o, none⟩ : Addr).add j) = some u := by
  intro j u hj
  have hjl : j < L.length := by
    have := (List.getElem?_eq_some_iff.1 hj).1
    simpa using this
  have hadd : (⟨g, o, none⟩ : Addr).add j = ⟨g, o + j, none⟩ := by unfold Addr.add; split <;> simp_all
  rw [hadd, h j hjl, ← hj]
  simp [hjl]

theorem least_snoc (xs : List Int) (l : List Nat) (k : Nat) (hk : k < l.length) : leastP xs (l.take (k + 1)) = min (leastP xs (l.take k)) (xs.getD l[k] 0) := by
  rw [List.take_succ_eq_append_getElem hk, leastP, List.foldl_append]
  rfl
theorem less_snoc (d : Int) (xs : List Int) (l : List Nat) (k : Nat) (hk : k < l.length) : lessP d xs (l.take (k + 1)) = (lessP d xs (l.take k)).set l[k] ((lessP d xs (l.take k)).getD l[k] 0 - d) := by
  rw [List.take_succ_eq_append_getElem hk, lessP, List.foldl_append]
  rfl

end Go.Proofs.Ytobbeofibkpbaaa

/- Contracts of the functions of chapter 4 in the model: the rings of a flow. -/
namespace Go.Proofs.Ytobbeofibkpbaaa
open Go.RowKit

theorem ints_info : (Try.prog.info? 28).map (fun i => (i.zero, i.size, i.bytes)) = some (some (.slice none 0 0), 1, 24) := by kernel_rfl

/-- a row of rows of its own -/
def OwnRows (w : World) (b g cap : Nat) (Ls : List (List Int)) : Prop :=
  ∃ vs : List Value, vs.length = Ls.length ∧ w.ownsRow b 28 1 (.slice (some ⟨g, 0, none⟩) Ls.length cap) Ls.length vs ∧ Ls.length ≤ small ∧ ∀ k (h : k < Ls.length) (h' : k < vs.length), Ints w b vs[k] Ls[k]
theorem OwnRows.keep {w w' : World} {b g cap : Nat} {Ls : List (List Int)} (h : OwnRows w b g cap Ls) (hb : Below w.heap.size w w') : OwnRows w' b g cap Ls := by
  obtain ⟨vs, h1, h2, h3, h4⟩ := h
  exact ⟨vs, h1, own_keep h2 (Nat.le_refl _) hb, h3, fun k hk hk' => (h4 k hk hk').keep hb⟩
theorem OwnRows.rows {w : World} {b g cap : Nat} {Ls : List (List Int)} (h : OwnRows w b g cap Ls) : RowsI w b (.slice (some ⟨g, 0, none⟩) Ls.length cap) Ls := by
  obtain ⟨vs, h1, h2, h3, h4⟩ := h
  have hlt := h2.lt g rfl
  obtain ⟨A, c, hv, c1, c2, c3⟩ := own_form h2
  injection hv with e1 e2 e3
  subst e3
  refine ⟨_, _, rfl, c1, c2, h3, fun k hk => ?_⟩
  have hkv : k < vs.length := by omega
  refine ⟨g, vs[k], rfl, hlt.1, hlt.2, ?_, h4 k hk hkv⟩
  obtain ⟨g', hA, -, -, c0, -⟩ := c3 k vs[k] (by simp [hkv])
  rw [← e1] at hA
  injection hA with hA
  injection hA with hA
  subst hA
  exact c0
theorem Ints.alloc1 {w : World} {b : Nat} {v : Value} {xs : List Int} (h : Ints w b v xs) (o : Obj) : Ints (w.alloc o) b v xs := ⟨h.1.alloc o, h.2⟩
/-- a row of numbers lies in another block than a row of rows -/
theorem Ints.other {w w' : World} {b b2 g N k : Nat} {v : Value} {xs : List Int} {vs : List Value} (h : Ints w b v xs) (ho : w.ownsRow b2 28 1 (.slice (some ⟨g, 0, none⟩) N k) N vs) (hg : w.grownBy w' (some g)) : Ints w' b v xs := by
  refine ⟨h.1.kept hg ?_, h.2⟩
  rcases h.1.2 with ⟨h0, -⟩ | ⟨g1, c1, cur1, h0, -, hh, -⟩
  · left; rw [h0]; rfl
  · right
    rw [h0]
    intro e
    have e : g1 = g := by injection e
    subst e
    rcases ho.2 with ⟨h2, -⟩ | ⟨g2, c2, cur2, h2, -, hh2, -⟩
    · cases h2
    · injection h2 with e1 _ _
      injection e1 with e1
      injection e1 with e1
      subst e1
      rw [hh] at hh2
      injection hh2 with e2
      injection e2 with _ e3 _
      exact absurd e3 (by decide)

section
variable {ps : List Pp} {xs : List Int} {k f : Nat}
theorem rings_on (h : firstP xs = some k) : ringsP ps (f + 1) xs = (leastP xs (ringP ps xs k) :: natsI (ringP ps xs k)) :: ringsP ps f (lessP (leastP xs (ringP ps xs k)) xs (ringP ps xs k)) := by
  conv => lhs; rw [ringsP, h]
theorem pos_some (hk : k < xs.length) (hx : 0 < xs.getD k 0) : 0 < posN xs := by
  unfold posN
  exact List.countP_pos_iff.2 ⟨k, List.mem_range.2 hk, decide_eq_true hx⟩
theorem pos_le : posN xs ≤ xs.length := by
  have := List.countP_le_length (p := fun k => decide (0 < xs.getD k 0)) (l := List.range xs.length)
  unfold posN; simpa using this
end

/-- the rings of a flow -/
def ringsL (ps : List Pp) (xs : List Int) : List (List Int) := ringsP ps 8 xs

end Go.Proofs.Ytobbeofibkpbaaa
