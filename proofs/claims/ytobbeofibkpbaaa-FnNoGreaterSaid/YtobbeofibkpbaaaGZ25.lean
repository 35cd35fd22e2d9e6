/- Plain facts. -/
import Derived.Test.YtobbeofibkpbaaaMG
/- Plain facts of chapter 4: rings and threads, the plain answers. -/
namespace Go.Proofs.Ytobbeofibkpbaaa
open Go.RowKit

def frI (ps : List Pp) (x : Int) : Int := (ps.getD x.toNat zeroPp).fr
def toI (ps : List Pp) (x : Int) : Int := (ps.getD x.toNat zeroPp).to
def placesB (ps : List Pp) (xs : List Int) : Bool := xs.all fun x => withinB x 0 ((ps.length : Int) - 1)
def linkB (ps : List Pp) (xs : List Int) : Bool := (List.range (xs.length - 1)).all fun j => decide (frI ps (xs.getD (j + 1) 0) = toI ps (xs.getD j 0))
def walkB (n : Int) (ps : List Pp) (xs : List Int) : Bool := netOkB n ps && withinB xs.length 1 5 && placesB ps xs && linkB ps xs
def nodesI (ps : List Pp) (xs : List Int) : List Int := frI ps (xs.getD 0 0) :: xs.map (toI ps)
def ringB (n : Int) (ps : List Pp) (xs : List Int) : Bool := walkB n ps xs && decide ((nodesI ps xs).getD xs.length 0 = frI ps (xs.getD 0 0)) && decide ((nodesI ps xs).take xs.length).Nodup
def threadB (n : Int) (ps : List Pp) (xs : List Int) (a b : Int) : Bool := endsB n ps a b && walkB n ps xs && decide (frI ps (xs.getD 0 0) = a) && decide ((nodesI ps xs).getD xs.length 0 = b) && decide (nodesI ps xs).Nodup

section
variable {n a b : Int} {ps : List Pp} {xs : List Int}

theorem frI_at {k : Nat} (h : k < ps.length) : frI ps (k : Int) = ps[k].fr := by simp [frI, List.getD_eq_getElem?_getD, h]
theorem toI_at {k : Nat} (h : k < ps.length) : toI ps (k : Int) = ps[k].to := by simp [toI, List.getD_eq_getElem?_getD, h]
theorem getD_at {j : Nat} (h : j < xs.length) : xs.getD j 0 = xs[j] := by simp [List.getD_eq_getElem?_getD, h]

theorem place_at (h : placesB ps xs = true) {j : Nat} (hj : j < xs.length) : ∃ k : Nat, xs[j] = (k : Int) ∧ k < ps.length := by
  have := List.all_eq_true.1 h _ (List.getElem_mem hj)
  simp only [withinB, Bool.and_eq_true, decide_eq_true_eq] at this
  exact ⟨xs[j].toNat, by omega, by omega⟩

theorem link_iff : linkB ps xs = true ↔ ∀ j, j + 1 < xs.length → frI ps (xs.getD (j + 1) 0) = toI ps (xs.getD j 0) := by
  simp only [linkB, List.all_eq_true, List.mem_range, decide_eq_true_eq]
  constructor
  · intro h j hj; exact h j (by omega)
  · intro h j hj; exact h j (by omega)

theorem nodes_len : (nodesI ps xs).length = xs.length + 1 := by simp [nodesI]
theorem nodes_zero : (nodesI ps xs).getD 0 0 = frI ps (xs.getD 0 0) := rfl
theorem nodes_succ {j : Nat} (hj : j < xs.length) : (nodesI ps xs).getD (j + 1) 0 = toI ps (xs.getD j 0) := by
  rw [nodesI, List.getD_cons_succ, List.getD_eq_getElem?_getD, List.getElem?_map, getD_at hj, List.getElem?_eq_getElem hj]
  rfl
theorem nodes_take (h : linkB ps xs = true) : (nodesI ps xs).take xs.length = xs.map (frI ps) := by
  apply List.ext_getElem (by simp [nodes_len])
  intro j h1 h2
  have hj : j < xs.length := by simpa using h2
  rw [List.getElem_take, List.getElem_map]
  have e : (nodesI ps xs).getD j 0 = (nodesI ps xs)[j]'(by rw [nodes_len]; omega) := by simp [List.getD_eq_getElem?_getD, nodes_len, show j < xs.length + 1 by omega]
  rw [← e]
  rcases j with _ | j
  · rw [nodes_zero, getD_at hj]
  · rw [nodes_succ (by omega), ← link_iff.1 h j hj, getD_at hj]

theorem walk_parts (h : walkB n ps xs = true) : netOkB n ps = true ∧ 1 ≤ xs.length ∧ xs.length ≤ 5 ∧ placesB ps xs = true ∧ linkB ps xs = true := by
  simp only [walkB, withinB, Bool.and_eq_true, decide_eq_true_eq] at h
  exact ⟨h.1.1.1, by omega, by omega, h.1.2, h.2⟩

/-- the closing of a ring, pipe by pipe -/
def closeB (ps : List Pp) (xs : List Int) : Bool := (List.range xs.length).all fun k => decide (toI ps (xs.getD k 0) = frI ps (xs.getD ((k + 1) % xs.length) 0))
theorem close_iff : closeB ps xs = true ↔ ∀ k, k < xs.length → toI ps (xs.getD k 0) = frI ps (xs.getD ((k + 1) % xs.length) 0) := by
  simp only [closeB, List.all_eq_true, List.mem_range, decide_eq_true_eq]

theorem close_link (h1 : 1 ≤ xs.length) : closeB ps xs = true ↔ (linkB ps xs = true ∧ (nodesI ps xs).getD xs.length 0 = frI ps (xs.getD 0 0)) := by
  have hl : (nodesI ps xs).getD xs.length 0 = toI ps (xs.getD (xs.length - 1) 0) := by
    have := nodes_succ (ps := ps) (xs := xs) (j := xs.length - 1) (by omega)
    rw [show xs.length - 1 + 1 = xs.length by omega] at this
    exact this
  rw [hl, close_iff, link_iff]
  constructor
  · intro h
    refine ⟨fun j hj => ?_, ?_⟩
    · rw [h j (by omega), Nat.mod_eq_of_lt hj]
    · have := h (xs.length - 1) (by omega)
      rw [show xs.length - 1 + 1 = xs.length by omega, Nat.mod_self] at this
      exact this
  · rintro ⟨h, hc⟩ k hk
    by_cases hk2 : k + 1 < xs.length
    · rw [Nat.mod_eq_of_lt hk2]; exact (h k hk2).symm
    · obtain rfl : k = xs.length - 1 := by omega
      rw [show xs.length - 1 + 1 = xs.length by omega, Nat.mod_self]
      exact hc

/-- the same answer, as the model looks at it -/
theorem ring_alt (hn : netOkB n ps = true) (h1 : 1 ≤ xs.length) (h5 : xs.length ≤ 5) (hp : placesB ps xs = true) : ringB n ps xs = (decide (xs.map (frI ps)).Nodup && closeB ps xs) := by
  have hw : walkB n ps xs = linkB ps xs := by simp [walkB, hn, withinB, hp]; omega
  rw [ringB, hw, Bool.eq_iff_iff]
  simp only [Bool.and_eq_true, decide_eq_true_eq]
  rw [close_link h1]
  constructor
  · rintro ⟨⟨h2, h3⟩, h4⟩
    rw [nodes_take h2] at h4
    exact ⟨h4, h2, h3⟩
  · rintro ⟨h4, h2, h3⟩
    rw [nodes_take h2]
    exact ⟨⟨h2, h3⟩, h4⟩

theorem walk_no1 (h : netOkB n ps = false) : walkB n ps xs = false := by simp [walkB, h]
theorem walk_no2 (h : withinB xs.length 1 5 = false) : walkB n ps xs = false := by simp [walkB, h]
theorem walk_no3 (h : placesB ps xs = false) : walkB n ps xs = false := by simp [walkB, h]
end

theorem nodup_snoc {l : List Int} {x : Int} : (l ++ [x]).Nodup ↔ l.Nodup ∧ x ∉ l := by
  rw [List.nodup_append]
  constructor
  · rintro ⟨h1, -, h3⟩
    exact ⟨h1, fun hx => h3 x hx x (by simp) rfl⟩
  · rintro ⟨h1, h2⟩
    refine ⟨h1, by simp, fun y hy z hz => ?_⟩
    simp at hz
    subst hz
    rintro rfl
    exact h2 hy

end Go.Proofs.Ytobbeofibkpbaaa

/- Plain facts of chapter 4: amounts put together. -/
namespace Go.Proofs.Ytobbeofibkpbaaa
open Go.RowKit

/-- a row of rows, as it is read -/
def RowsI (w : World) (b : Nat) (v : Value) (Ls : List (List Int)) : Prop :=
  ∃ A c, v = .slice A Ls.length c ∧ Ls.length ≤ c ∧ c ≤ maxLen ∧ Ls.length ≤ small ∧ ∀ k (hk : k < Ls.length), ∃ g vk, A = some ⟨g, 0, none⟩ ∧ b ≤ g ∧ g < w.heap.size ∧ w.cell? ⟨g, k, none⟩ = some vk ∧ Ints w b vk Ls[k]
theorem RowsI.keep {w w' : World} {b : Nat} {v : Value} {Ls : List (List Int)} (h : RowsI w b v Ls) (hb : Below w.heap.size w w') : RowsI w' b v Ls := by
  obtain ⟨A, c, h1, h2, h3, h4, h5⟩ := h
  refine ⟨A, c, h1, h2, h3, h4, fun k hk => ?_⟩
  obtain ⟨g, vk, k1, k2, k3, k4, k5⟩ := h5 k hk
  exact ⟨g, vk, k1, k2, Nat.lt_of_lt_of_le k3 hb.size, (hb.cell (p := ⟨g, k, none⟩) k3).trans k4, k5.keep hb⟩

/-- what a row, an amount and places behind it, adds -/
def take1 (n : Nat) (a : Int) (o : List Int) (x : Int) : List Int := if 0 ≤ x ∧ x < n then o.set x.toNat (wrap64 (o.getD x.toNat 0 + a)) else o
def takeRow (n : Nat) (o : List Int) (L : List Int) : List Int := (L.drop 1).foldl (take1 n (L.getD 0 0)) o
theorem take1_len (n : Nat) (a : Int) (o : List Int) (x : Int) : (take1 n a o x).length = o.length := by
  unfold take1; split <;> simp
theorem takeRow_len (n : Nat) (o L : List Int) : (takeRow n o L).length = o.length := by
  unfold takeRow
  generalize L.drop 1 = l
  generalize L.getD 0 0 = a
  induction l generalizing o with
  | nil => rfl
  | cons x l ih => rw [List.foldl_cons, ih, take1_len]
end Go.Proofs.Ytobbeofibkpbaaa
