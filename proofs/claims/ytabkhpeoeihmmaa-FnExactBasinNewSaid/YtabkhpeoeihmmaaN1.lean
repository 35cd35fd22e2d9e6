/- Plain facts of chapter 4: rings and threads, the plain answers. -/
import Derived.Test.YtabkhpeoeihmmaaMG
namespace Go.Proofs.Ytabkhpeoeihmmaa
open Go.RowKit

def frI (ps : List Pp) (x : Int) : Int := (ps.getD x.toNat zeroPp).fr
def toI (ps : List Pp) (x : Int) : Int := (ps.getD x.toNat zeroPp).to
def placesB (ps : List Pp) (xs : List Int) : Bool := xs.all fun x => withinB x 0 ((ps.length : Int) - 1)
def linkB (ps : List Pp) (xs : List Int) : Bool := (List.range (xs.length - 1)).all fun j => decide (frI ps (xs.getD (j + 1) 0) = toI ps (xs.getD j 0))
def walkB (n : Int) (ps : List Pp) (xs : List Int) : Bool := netOkB n ps && withinB xs.length 1 5 && placesB ps xs && linkB ps xs
def nodesI (ps : List Pp) (xs : List Int) : List Int := frI ps (xs.getD 0 0) :: xs.map (toI ps)
def ringB (n : Int) (ps : List Pp) (xs : List Int) : Bool := walkB n ps xs && decide ((nodesI ps xs).getD xs.length 0 = frI ps (xs.getD 0 0)) && decide ((nodesI ps xs).take xs.length).Nodup
def threadB (n : Int) (ps : List Pp) (xs : List Int) (a b : Int) : Bool := endsB n ps a b && walkB n ps xs && decide (frI ps (xs.getD 0 0) = a) && decide ((nodesI ps xs).getD xs.length 0 = b) && decide (nodesI ps xs).Nodup

section
variable {n a b : Int} {ps : List Pp} {xs : List Int}

theorem frI_at {k : Nat} (h : k < ps.length) : frI ps (k : Int) = ps[k].fr := by simp [frI, List.getD_eq_getElem?_getD, h]
theorem toI_at {k : Nat} (h : k < ps.length) : toI ps (k : Int) = ps[k].to := by simp [toI, List.getD_eq_getElem?_getD, h]
theorem getD_at {j : Nat} (h : j < xs.length) : xs.getD j 0 = xs[j] := by simp [List.getD_eq_getElem?_getD, h]

theorem place_at (h : placesB ps xs = true) {j : Nat} (hj : j < xs.length) : ∃ k : Nat, xs[j] = (k : Int) ∧ k < ps.length := by
  have := List.all_eq_true.1 h _ (List.getElem_mem hj)
  simp only [withinB, Bool.and_eq_true, decide_eq_true_eq] at this
  exact ⟨xs[j].toNat, by omega, by omega⟩

theorem link_iff : linkB ps xs = true ↔ ∀ j, j + 1 < xs.length → frI ps (xs.getD (j + 1) 0) = toI ps (xs.getD j 0) := by
  simp only [linkB, List.all_eq_true, List.mem_range, decide_eq_true_eq]
  constructor
  · intro h j hj; exact h j (by omega)
  · intro h j hj; exact h j (by omega)

theorem nodes_len : (nodesI ps xs).length = xs.length + 1 := by simp [nodesI]
theorem nodes_zero : (nodesI ps xs).getD 0 0 = frI ps (xs.getD 0 0) := rfl
theorem nodes_succ {j : Nat} (hj : j < xs.length) : (nodesI ps xs).getD (j + 1) 0 = toI ps (xs.getD j 0) := by
  rw [nodesI, List.getD_cons_succ, List.getD_eq_getElem?_getD, List.getElem?_map, getD_at hj, List.getElem?_eq_getElem hj]
  rfl
theorem nodes_take (h : linkB ps xs = true) : (nodesI ps xs).take xs.length = xs.map (frI ps) := by
  apply List.ext_getElem (by simp [nodes_len])
  intro j h1 h2
  have hj : j < xs.length := by simpa using h2
  rw [List.getElem_take, List.getElem_map]
  have e : (nodesI ps xs).getD j 0 = (nodesI ps xs)[j]'(by rw [nodes_len]; omega) := by simp [List.getD_eq_getElem?_getD, nodes_len, show j < xs.length + 1 by omega]
  rw [← e]
  rcases j with _ | j
  · rw [nodes_zero, getD_at hj]
  · rw [nodes_succ (by omega), ← link_iff.1 h j hj, getD_at hj]

theorem walk_parts (h : walkB n ps xs = true) : netOkB n ps = true ∧ 1 ≤ xs.length ∧ xs.length ≤ 5 ∧ placesB ps xs = true ∧ linkB ps xs = true := by
  simp only [walkB, withinB, Bool.and_eq_true, decide_eq_true_eq] at h
  exact ⟨h.1.1.1, by omega, by omega, h.1.2, h.2⟩

/-- the closing of a ring, pipe by pipe -/
def closeB (ps : List Pp) (xs : List Int) : Bool := (List.range xs.length).all fun k => decide (toI ps (xs.getD k 0) = frI ps (xs.getD ((k + 1) % xs.length) 0))
theorem close_iff : closeB ps xs = true ↔ ∀ k, k < xs.length → toI ps (xs.getD k 0) = frI ps (xs.getD ((k + 1) % xs.length) 0) := by
  simp only [closeB, List.all_eq_true, List.mem_range, decide_eq_true_eq]

theorem close_link (h1 : 1 ≤ xs.length) : closeB ps xs = true ↔ (linkB ps xs = true ∧ (nodesI ps xs).getD xs.length 0 = frI ps (xs.getD 0 0)) := by
  have hl : (nodesI ps xs).getD xs.length 0 = toI ps (xs.getD (xs.length - 1) 0) := by
    have := nodes_succ (ps := ps) (xs := xs) (j := xs.length - 1) (by omega)
    rw [show xs.length - 1 + 1 = xs.length by omega] at this
    exact this
  rw [hl, close_iff, link_iff]
  constructor
  · intro h
    refine ⟨fun j hj => ?_, ?_⟩
    · rw [h j (by omega), Nat.mod_eq_of_lt hj]
    · have := h (xs.length - 1) (by omega)
      rw [show xs.length - 1 + 1 = xs.length by omega, Nat.mod_self] at this
      exact this
  · rintro ⟨h, hc⟩ k hk
    by_cases hk2 : k + 1 < xs.length
    · rw [Nat.mod_eq_of_lt hk2]; exact (h k hk2).symm
    · obtain rfl : k = xs.length - 1 := by omega
      rw [show xs.length - 1 + 1 = xs.length by omega, Nat.mod_self]
      exact hc

/-- the same answer, as the model looks at it -/
theorem ring_alt (hn : netOkB n ps = true) (h1 : 1 ≤ xs.length) (h5 : xs.length ≤ 5) (hp : placesB ps xs = true) : ringB n ps xs = (decide (xs.map (frI ps)).Nodup && closeB ps xs) := by
  have hw : walkB n ps xs = linkB ps xs := by simp [walkB, hn, withinB, hp]; omega
  rw [ringB, hw, Bool.eq_iff_iff]
  simp only [Bool.and_eq_true, decide_eq_true_eq]
  rw [close_link h1]
  constructor
  · rintro ⟨⟨h2, h3⟩, h4⟩
    rw [nodes_take h2] at h4
    exact ⟨h4, h2, h3⟩
  · rintro ⟨h4, h2, h3⟩
    rw [nodes_take h2]
    exact ⟨⟨h2, h3⟩, h4⟩

theorem ring_no1 (h : netOkB n ps = false) : ringB n ps xs = false := by simp [ringB, walkB, h]
theorem ring_no2 (h : withinB xs.length 1 5 = false) : ringB n ps xs = false := by simp [ringB, walkB, h]
theorem ring_no3 (h : placesB ps xs = false) : ringB n ps xs = false := by simp [ringB, walkB, h]
theorem walk_no1 (h : netOkB n ps = false) : walkB n ps xs = false := by simp [walkB, h]
theorem walk_no2 (h : withinB xs.length 1 5 = false) : walkB n ps xs = false := by simp [walkB, h]
theorem walk_no3 (h : placesB ps xs = false) : walkB n ps xs = false := by simp [walkB, h]
theorem place_no {j : Nat} (hj : j < xs.length) (h : withinB xs[j] 0 ((ps.length : Int) - 1) = false) : placesB ps xs = false := by
  rw [placesB, List.all_eq_false]
  exact ⟨_, List.getElem_mem hj, by simp [h]⟩
end

theorem seen_or' : ∀ (s : Fin 32) (v u : Fin 5), 0 ≤ bits .or .i64 (s.val : Int) (2 ^ v.val) ∧ bits .or .i64 (s.val : Int) (2 ^ v.val) ≤ 31 ∧ bitB (bits .or .i64 (s.val : Int) (2 ^ v.val)) (u.val : Int) = (bitB (s.val : Int) (u.val : Int) || decide (u.val = v.val)) := by decide +kernel

/-- these nodes are seen, and no other ones -/
def seenOk (s : Int) (l : List Int) : Prop := 0 ≤ s ∧ s ≤ 31 ∧ ∀ u : Nat, u < 5 → bitB s (u : Int) = decide ((u : Int) ∈ l)
theorem seen_nil : seenOk 0 [] := ⟨by omega, by omega, fun u hu => by
  have key : ∀ u : Fin 5, bitB 0 (u.val : Int) = false := by decide +kernel
  simpa using key ⟨u, hu⟩⟩
theorem seen_one : ∀ v : Nat, v < 5 → seenOk (2 ^ v) [(v : Int)] := by
  intro v hv
  have key : ∀ v u : Fin 5, 0 ≤ (2 : Int) ^ v.val ∧ (2 : Int) ^ v.val ≤ 31 ∧ bitB (2 ^ v.val) (u.val : Int) = decide (u.val = v.val) := by decide +kernel
  refine ⟨(key ⟨v, hv⟩ ⟨0, by omega⟩).1, (key ⟨v, hv⟩ ⟨0, by omega⟩).2.1, fun u hu => ?_⟩
  rw [(key ⟨v, hv⟩ ⟨u, hu⟩).2.2, Bool.eq_iff_iff]
  simp
  omega
theorem seen_snoc {s : Int} {l : List Int} {v : Nat} (h : seenOk s l) (hv : v < 5) : seenOk (bits .or .i64 s (2 ^ v)) (l ++ [(v : Int)]) := by
  obtain ⟨h0, h1, h2⟩ := h
  obtain ⟨S, rfl⟩ : ∃ S : Nat, s = (S : Int) := ⟨s.toNat, by omega⟩
  have key := fun u : Fin 5 => seen_or' ⟨S, by omega⟩ ⟨v, hv⟩ u
  refine ⟨(key ⟨0, by omega⟩).1, (key ⟨0, by omega⟩).2.1, fun u hu => ?_⟩
  rw [(key ⟨u, hu⟩).2.2, h2 u hu, Bool.eq_iff_iff]
  have e : u = v ↔ (u : Int) = (v : Int) := by omega
  simp [e]

theorem nodup_snoc {l : List Int} {x : Int} : (l ++ [x]).Nodup ↔ l.Nodup ∧ x ∉ l := by
  rw [List.nodup_append]
  constructor
  · rintro ⟨h1, -, h3⟩
    exact ⟨h1, fun hx => h3 x hx x (by simp) rfl⟩
  · rintro ⟨h1, h2⟩
    refine ⟨h1, by simp, fun y hy z hz => ?_⟩
    simp at hz
    subst hz
    rintro rfl
    exact h2 hy

end Go.Proofs.Ytabkhpeoeihmmaa
