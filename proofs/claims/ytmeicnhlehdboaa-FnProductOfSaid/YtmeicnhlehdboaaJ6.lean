/- Plain facts, chapter 7: a balanced flow is the sum of the rings of the pipes that are not of the tree. -/
import Derived.Test.YtmeicnhlehdboaaJ2
namespace Go.Proofs.Ytmeicnhlehdboaa
open Go.RowKit

/-- a row with so many of its first amounts made more, place by place -/
def addTo (M sg : List Int) (c : Int) : Nat → List Int
  | 0 => M
  | j + 1 => (addTo M sg c j).set j ((addTo M sg c j).getD j 0 + sg.getD j 0 * c)
theorem addTo_len (M sg : List Int) (c : Int) (j : Nat) : (addTo M sg c j).length = M.length := by
  induction j with
  | zero => rfl
  | succ j ih => rw [addTo, List.length_set]; exact ih
theorem addTo_getD (M sg : List Int) (c : Int) (j i : Nat) (hj : j ≤ M.length) : (addTo M sg c j).getD i 0 = if i < j then M.getD i 0 + sg.getD i 0 * c else M.getD i 0 := by
  induction j with
  | zero => rw [if_neg (by omega)]; rfl
  | succ j ih =>
    have ih := ih (by omega)
    rw [addTo, getD_set _ _ _ _ _ (by rw [addTo_len]; omega)]
    by_cases hij : j = i
    · subst hij
      rw [if_neg (by omega)] at ih
      rw [if_pos rfl, if_pos (by omega), ih]
    · rw [if_neg hij, ih]
      by_cases hlt : i < j
      · rw [if_pos hlt, if_pos (by omega)]
      · rw [if_neg hlt, if_neg (by omega)]
theorem addTo_all {M sg : List Int} (c : Int) (h : sg.length = M.length) : addTo M sg c M.length = addAll M (sg.map fun x => x * c) := by
  have hl : M.length = (sg.map fun x => x * c).length := by simpa using h.symm
  refine ext_getD (by rw [addTo_len, addAll_len hl]) fun v hv => ?_
  rw [addTo_len] at hv
  rw [addTo_getD _ _ _ _ _ (Nat.le_refl _), if_pos hv, addAll_getD hl, mul_getD]

/-- the rings of the first pipes that are not of the tree, each times the amount of its pipe, added -/
def tellL (n : Int) (ps : List Pp) (xs : List Int) : Nat → List Int
  | 0 => zeros ps
  | k + 1 => if signB n ps (k : Int) = true then addAll (tellL n ps xs k) ((signsR n ps (k : Int)).map fun x => x * xs.getD k 0) else tellL n ps xs k

section
variable {n : Int} {ps : List Pp} {xs : List Int}
theorem signsR_lenE {k : Int} (h : signB n ps k = true) : (signsR n ps k).length = ps.length := (signsR_ring h).1.1
theorem tellL_len (k : Nat) : (tellL n ps xs k).length = ps.length := by
  induction k with
  | zero => exact zeros_len ps
  | succ k ih =>
    rw [tellL]
    split
    · next h => rw [addAll_len (by rw [ih, List.length_map, signsR_lenE h])]; exact ih
    · exact ih
theorem tellL_yes {k : Nat} (h : signB n ps (k : Int) = true) : tellL n ps xs (k + 1) = addTo (tellL n ps xs k) (signsR n ps (k : Int)) (xs.getD k 0) ps.length := by
  rw [tellL, if_pos h, ← tellL_len (n := n) (ps := ps) (xs := xs) k, addTo_all _ (by rw [tellL_len, signsR_lenE h])]
theorem tellL_no {k : Nat} (h : signB n ps (k : Int) = false) : tellL n ps xs (k + 1) = tellL n ps xs k := by rw [tellL, if_neg (by rw [h]; simp)]

theorem sg_bd {L : List Int} (h : ∀ x ∈ L, -1 ≤ x ∧ x ≤ 1) (j : Nat) : -1 ≤ L.getD j 0 ∧ L.getD j 0 ≤ 1 := by
  rcases Nat.lt_or_ge j L.length with hj | hj
  · rw [List.getD_eq_getElem?_getD, List.getElem?_eq_getElem hj]
    exact h _ (List.getElem_mem hj)
  · rw [List.getD_eq_getElem?_getD, List.getElem?_eq_none hj]; decide
theorem xs_bd (h : ∀ x ∈ xs, 0 ≤ x ∧ x ≤ 40) (j : Nat) : 0 ≤ xs.getD j 0 ∧ xs.getD j 0 ≤ 40 := by
  rcases Nat.lt_or_ge j xs.length with hj | hj
  · rw [List.getD_eq_getElem?_getD, List.getElem?_eq_getElem hj]
    exact h _ (List.getElem_mem hj)
  · rw [List.getD_eq_getElem?_getD, List.getElem?_eq_none hj]; decide
theorem sx_bd {s x : Int} (hs : -1 ≤ s ∧ s ≤ 1) (hx : 0 ≤ x ∧ x ≤ 40) : -40 ≤ s * x ∧ s * x ≤ 40 := by
  rcases (show s = -1 ∨ s = 0 ∨ s = 1 by omega) with rfl | rfl | rfl <;> omega
theorem tellL_bd (h : ∀ x ∈ xs, 0 ≤ x ∧ x ≤ 40) (k j : Nat) : -(40 * (k : Int)) ≤ (tellL n ps xs k).getD j 0 ∧ (tellL n ps xs k).getD j 0 ≤ 40 * (k : Int) := by
  induction k with
  | zero => rw [tellL, zeros_getD]; simp
  | succ k ih =>
    cases hb : signB n ps (k : Int) with
    | false => rw [tellL_no hb]; omega
    | true =>
      rw [tellL, if_pos hb, addAll_getD (by rw [tellL_len, List.length_map, signsR_lenE hb]), mul_getD]
      have h1 := sx_bd (sg_bd (signsR_ring hb).2 j) (xs_bd h k)
      omega
theorem tellL_exc (k : Nat) : ∀ v : Nat, v < n.toNat → exc v ps (tellL n ps xs k) = 0 := by
  induction k with
  | zero => intro v _; exact exc_zeros _ _
  | succ k ih =>
    intro v hv
    cases hb : signB n ps (k : Int) with
    | false => rw [tellL_no hb]; exact ih v hv
    | true =>
      have hr := (signsR_ring hb).1
      rw [tellL, if_pos hb, exc_add _ _ _ _ (tellL_len _) (by rw [List.length_map, signsR_lenE hb]), exc_mul, ih v hv, hr.2.2.2 v hv]
      simp
theorem signB_at (hn : netOkB n ps = true) {k : Nat} (hk : k < ps.length) : signB n ps (k : Int) = !treeF n.toNat ps k := by
  simp only [signB, hn, Bool.true_and, withinB, Int.toNat_natCast]
  rw [decide_eq_true (show (0 : Int) ≤ (k : Int) by omega), decide_eq_true (show (k : Int) ≤ (ps.length : Int) - 1 by omega)]
  simp
theorem tellL_at (hn : netOkB n ps = true) {j : Nat} (hj : j < ps.length) (ht : treeF n.toNat ps j = false) (k : Nat) (hk : k ≤ ps.length) : (tellL n ps xs k).getD j 0 = if j < k then xs.getD j 0 else 0 := by
  induction k with
  | zero => rw [if_neg (by omega), tellL, zeros_getD]
  | succ k ih =>
    have ih := ih (by omega)
    cases hb : signB n ps (k : Int) with
    | false =>
      rw [tellL_no hb, ih]
      have hjk : j ≠ k := fun e => by
        subst e
        rw [signB_at hn hj, ht] at hb; cases hb
      by_cases hlt : j < k
      · rw [if_pos hlt, if_pos (by omega)]
      · rw [if_neg hlt, if_neg (by omega)]
    | true =>
      have hr := (signsR_ring hb).1
      rw [Int.toNat_natCast] at hr
      rw [tellL, if_pos hb, addAll_getD (by rw [tellL_len, List.length_map, signsR_lenE hb]), mul_getD, ih]
      by_cases hjk : j = k
      · subst hjk
        rw [if_neg (by omega), if_pos (by omega), hr.2.1]; simp
      · rw [hr.2.2.1 j hj hjk ht, Int.zero_mul, Int.add_zero]
        by_cases hlt : j < k
        · rw [if_pos hlt, if_pos (by omega)]
        · rw [if_neg hlt, if_neg (by omega)]
/-- a balanced flow is the sum of its rings -/
theorem tell_all (hb : balB n ps xs = true) : tellL n ps xs ps.length = xs := by
  have hb' := hb
  simp only [balB, Bool.and_eq_true, List.all_eq_true, List.mem_range, beq_iff_eq] at hb'
  obtain ⟨hf, hx⟩ := hb'
  obtain ⟨hn, hl, -⟩ := flowOk_parts hf
  refine tree_one (net_ends' hn) (tellL_len _) hl (fun v hv => ?_) fun j hj ht => ?_
  · rw [tellL_exc _ v hv, hx v hv]
  · rw [tellL_at hn hj ht _ (Nat.le_refl _), if_pos hj]
end

end Go.Proofs.Ytmeicnhlehdboaa
