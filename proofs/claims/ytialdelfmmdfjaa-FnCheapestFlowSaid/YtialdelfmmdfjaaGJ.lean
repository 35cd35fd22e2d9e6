/- Plain facts. -/
import Derived.Test.YtialdelfmmdfjaaMG
import Derived.Test.YtialdelfmmdfjaaW1
import Derived.Test.YtialdelfmmdfjaaRW
/- Plain facts, chapter 7: labels of pieces, trees, products of flows and tensions. -/
namespace Go.Proofs.Ytialdelfmmdfjaa
open Go.RowKit

/-- the label of a node -/
def lab (L : List Int) (v : Int) : Int := L.getD v.toNat 0
def ident (n : Nat) : List Int := (List.range n).map fun k : Nat => (k : Int)
def relab (L : List Int) (gone kept : Int) : List Int := L.map fun x => if x = gone then kept else x

theorem ident_len (n : Nat) : (ident n).length = n := by simp [ident]
theorem relab_len (L : List Int) (g k : Int) : (relab L g k).length = L.length := by simp [relab]
theorem lab_ident {n : Nat} {v : Int} (h0 : 0 ≤ v) (h1 : v < n) : lab (ident n) v = v := by
  have h : v.toNat < n := by omega
  simp [lab, ident, List.getD_eq_getElem?_getD, h]
  omega
theorem lab_relab {L : List Int} {v : Int} (g k : Int) (h : v.toNat < L.length) : lab (relab L g k) v = if lab L v = g then k else lab L v := by
  simp [lab, relab, List.getD_eq_getElem?_getD, h]

/-- the labels after so many pipes; is this pipe of the tree; the tree -/
def growL (n : Nat) (ps : List Pp) : Nat → List Int
  | 0 => ident n
  | k + 1 => if lab (growL n ps k) (ps.getD k zeroPp).fr = lab (growL n ps k) (ps.getD k zeroPp).to then growL n ps k else relab (growL n ps k) (lab (growL n ps k) (ps.getD k zeroPp).to) (lab (growL n ps k) (ps.getD k zeroPp).fr)
def treeF (n : Nat) (ps : List Pp) (k : Nat) : Bool := !decide (lab (growL n ps k) (ps.getD k zeroPp).fr = lab (growL n ps k) (ps.getD k zeroPp).to)
def treeL (n : Nat) (ps : List Pp) : List Int := numW ps.length (treeF n ps)
def treeR (n : Int) (ps : List Pp) : List Int := if netOkB n ps = true then treeL n.toNat ps else []
def piecesI (n : Int) (ps : List Pp) : Int := if netOkB n ps = true then n - (treeL n.toNat ps).length else -1

theorem growL_len (n : Nat) (ps : List Pp) (k : Nat) : (growL n ps k).length = n := by
  induction k with
  | zero => exact ident_len n
  | succ k ih =>
    rw [growL]
    split
    · exact ih
    · rw [relab_len]; exact ih

section
variable {n : Nat} {ps : List Pp} {k : Nat} {u v : Int}
theorem growL_no (h : treeF n ps k = false) : growL n ps (k + 1) = growL n ps k := by
  rw [growL, if_pos (by simpa [treeF] using h)]
theorem growL_yes (h : treeF n ps k = true) : growL n ps (k + 1) = relab (growL n ps k) (lab (growL n ps k) (ps.getD k zeroPp).to) (lab (growL n ps k) (ps.getD k zeroPp).fr) := by
  rw [growL, if_neg (by simpa [treeF] using h)]
theorem treeF_ne (h : treeF n ps k = true) : lab (growL n ps k) (ps.getD k zeroPp).fr ≠ lab (growL n ps k) (ps.getD k zeroPp).to := by simpa [treeF] using h
theorem treeF_eq (h : treeF n ps k = false) : lab (growL n ps k) (ps.getD k zeroPp).fr = lab (growL n ps k) (ps.getD k zeroPp).to := by simpa [treeF] using h
/-- the labels behind a pipe of the tree -/
theorem lab_yes (h : treeF n ps k = true) (h1 : v < n) (hn : 0 < n) : lab (growL n ps (k + 1)) v = if lab (growL n ps k) v = lab (growL n ps k) (ps.getD k zeroPp).to then lab (growL n ps k) (ps.getD k zeroPp).fr else lab (growL n ps k) v := by
  rw [growL_yes h, lab_relab _ _ (by rw [growL_len]; omega)]

theorem getD_ends (hE : ∀ p ∈ ps, endsIn n p) (hk : k < ps.length) : endsIn n (ps.getD k zeroPp) := by
  rw [List.getD_eq_getElem?_getD, List.getElem?_eq_getElem hk]
  exact hE _ (List.getElem_mem hk)

/-- a label is a node that has itself for its label -/
theorem lab_root (hE : ∀ p ∈ ps, endsIn n p) (hk : k ≤ ps.length) : ∀ v : Int, 0 ≤ v → v < n → (0 ≤ lab (growL n ps k) v ∧ lab (growL n ps k) v < n) ∧ lab (growL n ps k) (lab (growL n ps k) v) = lab (growL n ps k) v := by
  induction k with
  | zero =>
    intro v h0 h1
    have e : lab (growL n ps 0) v = v := lab_ident h0 h1
    rw [e, e]
    exact ⟨⟨h0, h1⟩, rfl⟩
  | succ k ih =>
    have ih := ih (by omega)
    obtain ⟨a0, a1, b0, b1, -⟩ := getD_ends hE (show k < ps.length by omega)
    intro v h0 h1
    cases ht : treeF n ps k with
    | false => rw [growL_no ht]; exact ih v h0 h1
    | true =>
      have hne := treeF_ne ht
      have f1 := ih _ a0 a1
      have t1 := ih _ b0 b1
      have v1 := ih v h0 h1
      have e1 : lab (growL n ps (k + 1)) v = if lab (growL n ps k) v = lab (growL n ps k) (ps.getD k zeroPp).to then lab (growL n ps k) (ps.getD k zeroPp).fr else lab (growL n ps k) v := lab_yes ht h1 (by omega)
      by_cases hv : lab (growL n ps k) v = lab (growL n ps k) (ps.getD k zeroPp).to
      · rw [if_pos hv] at e1
        rw [e1]
        refine ⟨f1.1, ?_⟩
        rw [lab_yes ht f1.1.2 (by omega), f1.2, if_neg hne]
      · rw [if_neg hv] at e1
        rw [e1]
        refine ⟨v1.1, ?_⟩
        rw [lab_yes ht v1.1.2 (by omega), v1.2, if_neg hv]

/-- what does not change along the pipes of the tree does not change within a piece -/
theorem piece_same {α : Type} (S : Int → α) (hE : ∀ p ∈ ps, endsIn n p) (hk : k ≤ ps.length) (hS : ∀ j, j < k → treeF n ps j = true → S (ps.getD j zeroPp).fr = S (ps.getD j zeroPp).to) :
    ∀ v : Int, 0 ≤ v → v < n → S (lab (growL n ps k) v) = S v := by
  induction k with
  | zero =>
    intro v h0 h1
    rw [show growL n ps 0 = ident n from rfl, lab_ident h0 h1]
  | succ k ih =>
    have ih := ih (by omega) fun j hj => hS j (by omega)
    obtain ⟨a0, a1, b0, b1, -⟩ := getD_ends hE (show k < ps.length by omega)
    intro v h0 h1
    cases ht : treeF n ps k with
    | false => rw [growL_no ht]; exact ih v h0 h1
    | true =>
      rw [lab_yes ht h1 (by omega)]
      by_cases hv : lab (growL n ps k) v = lab (growL n ps k) (ps.getD k zeroPp).to
      · rw [if_pos hv, ih _ a0 a1, hS k (by omega) ht, ← ih _ b0 b1, ← hv]
        exact ih v h0 h1
      · rw [if_neg hv]; exact ih v h0 h1

theorem lab_more (h0 : u < n) (h1 : v < n) (hn : 0 < n) (h : lab (growL n ps k) u = lab (growL n ps k) v) : lab (growL n ps (k + 1)) u = lab (growL n ps (k + 1)) v := by
  cases ht : treeF n ps k with
  | false => rw [growL_no ht]; exact h
  | true => rw [lab_yes ht h0 hn, lab_yes ht h1 hn, h]
theorem lab_mores (h0 : u < n) (h1 : v < n) (hn : 0 < n) (h : lab (growL n ps k) u = lab (growL n ps k) v) (m : Nat) : lab (growL n ps (k + m)) u = lab (growL n ps (k + m)) v := by
  induction m with
  | zero => exact h
  | succ m ih => exact lab_more h0 h1 hn ih
/-- the ends of each pipe that has been asked are joined -/
theorem lab_joined (hE : ∀ p ∈ ps, endsIn n p) {j : Nat} (hj : j < k) (hk : k ≤ ps.length) : lab (growL n ps k) (ps.getD j zeroPp).fr = lab (growL n ps k) (ps.getD j zeroPp).to := by
  obtain ⟨a0, a1, b0, b1, -⟩ := getD_ends hE (show j < ps.length by omega)
  have h : lab (growL n ps (j + 1)) (ps.getD j zeroPp).fr = lab (growL n ps (j + 1)) (ps.getD j zeroPp).to := by
    cases ht : treeF n ps j with
    | false => rw [growL_no ht]; exact treeF_eq ht
    | true => rw [lab_yes ht a1 (by omega), lab_yes ht b1 (by omega), if_pos rfl, if_neg (treeF_ne ht)]
  have := lab_mores a1 b1 (by omega) h (k - (j + 1))
  rwa [show j + 1 + (k - (j + 1)) = k by omega] at this
end

/-! ### how many labels are left -/
def rootF (L : List Int) (v : Nat) : Bool := decide (lab L v = v)
def rootsN (n : Nat) (L : List Int) : Int := nodeSum n fun v => if lab L v = (v : Int) then 1 else 0
theorem rootF_len (n : Nat) (L : List Int) : ((numW n (rootF L)).length : Int) = rootsN n L := by
  induction n with
  | zero => rfl
  | succ n ih =>
    rw [rootsN, nodeSum_succ]
    have e : nodeSum n (fun v => if lab L v = (v : Int) then 1 else 0) = rootsN n L := rfl
    rw [e, ← ih]
    cases h : rootF L n with
    | true =>
      rw [numW_yes h, if_pos (by simpa [rootF] using h)]; simp
    | false =>
      rw [numW_no h, if_neg (by simpa [rootF] using h)]; simp
theorem roots_len {n : Nat} {ps : List Pp} {k : Nat} (hE : ∀ p ∈ ps, endsIn n p) (hk : k ≤ ps.length) : rootsN n (growL n ps k) + (numW k (treeF n ps)).length = n := by
  induction k with
  | zero =>
    have e : rootsN n (growL n ps 0) = nodeSum n fun _ => 1 := nodeSum_congr fun v hv => by
      rw [show growL n ps 0 = ident n from rfl, lab_ident (by omega) (by omega), if_pos rfl]
    rw [e]
    have e1 : nodeSum n (fun _ => 1) = n := by
      clear e hE hk
      induction n with
      | zero => rfl
      | succ n ih => rw [nodeSum_succ, ih]; simp
    rw [e1]; simp [numW]
  | succ k ih =>
    have ih := ih (by omega)
    obtain ⟨a0, a1, b0, b1, -⟩ := getD_ends hE (show k < ps.length by omega)
    cases ht : treeF n ps k with
    | false => rw [growL_no ht, numW_no ht]; exact ih
    | true =>
      have hne := treeF_ne ht
      have f1 := lab_root hE (show k ≤ ps.length by omega) _ a0 a1
      have t1 := lab_root hE (show k ≤ ps.length by omega) _ b0 b1
      have e : rootsN n (growL n ps k) = nodeSum n (fun v => (if lab (growL n ps (k + 1)) v = (v : Int) then 1 else 0) + (if (v : Int) = lab (growL n ps k) (ps.getD k zeroPp).to then 1 else 0)) := by
        refine nodeSum_congr fun v hv => ?_
        rw [lab_yes ht (show (v : Int) < n by omega) (by omega)]
        have v1 := lab_root hE (show k ≤ ps.length by omega) (v : Int) (by omega) (by omega)
        by_cases hv1 : (v : Int) = lab (growL n ps k) (ps.getD k zeroPp).to
        · have e1 : lab (growL n ps k) v = lab (growL n ps k) (ps.getD k zeroPp).to := by rw [hv1]; exact t1.2
          rw [if_pos (by rw [e1]; exact hv1.symm), if_pos e1, if_neg (by rw [hv1]; exact hne), if_pos hv1]
          rfl
        · by_cases hv2 : lab (growL n ps k) v = lab (growL n ps k) (ps.getD k zeroPp).to
          · have hv3 : ¬ lab (growL n ps k) (ps.getD k zeroPp).fr = (v : Int) := fun h => by
              have : lab (growL n ps k) v = v := by rw [← h]; exact f1.2
              omega
            rw [if_neg (by rw [hv2]; exact fun h => hv1 h.symm), if_pos hv2, if_neg hv3, if_neg hv1]; rfl
          · rw [if_neg hv2, if_neg hv1, Int.add_zero]
      rw [e, nodeSum_add, nodeSum_one, if_pos t1.1] at ih
      have e2 : nodeSum n (fun v => if lab (growL n ps (k + 1)) v = (v : Int) then 1 else 0) = rootsN n (growL n ps (k + 1)) := rfl
      rw [e2] at ih
      rw [numW_yes ht]
      simp only [List.length_append, List.length_cons, List.length_nil]
      omega

/-! ### products -/
def prodI (a b : List Int) : Int := ((a.zip b).map fun q => q.1 * q.2).sum
def tensL (S : Int → Int) (ps : List Pp) : List Int := ps.map fun p => S p.to - S p.fr
theorem prodI_nil1 (b : List Int) : prodI [] b = 0 := by simp [prodI]
theorem prodI_nil2 (a : List Int) : prodI a [] = 0 := by simp [prodI]
theorem prodI_cons (x y : Int) (a b : List Int) : prodI (x :: a) (y :: b) = x * y + prodI a b := by simp [prodI]
theorem prodI_comm (a b : List Int) : prodI a b = prodI b a := by
  induction a generalizing b with
  | nil => rw [prodI_nil1, prodI_nil2]
  | cons x a ih =>
    cases b with
    | nil => rw [prodI_nil1, prodI_nil2]
    | cons y b => rw [prodI_cons, prodI_cons, ih, Int.mul_comm]

theorem nodeSum_at (n : Nat) (S : Int → Int) {a : Int} (x : Int) (h0 : 0 ≤ a) (h1 : a < n) : nodeSum n (fun v => S v * (if (v : Int) = a then x else 0)) = S a * x := by
  have e : nodeSum n (fun v => S v * (if (v : Int) = a then x else 0)) = nodeSum n (fun v => if (v : Int) = a then S a * x else 0) := nodeSum_congr fun v _ => by
    split
    · next h => rw [h]
    · simp
  rw [e, nodeSum_one, if_pos ⟨h0, h1⟩]
/-- the product of amounts and tensions is told by the excesses -/
theorem prod_pot {n : Nat} {ps : List Pp} (S : Int → Int) (z : List Int) (hE : ∀ p ∈ ps, endsIn n p) : prodI z (tensL S ps) = nodeSum n fun v => S v * exc v ps z := by
  induction ps generalizing z with
  | nil => rw [show tensL S [] = [] from rfl, prodI_nil2]; exact (nodeSum_zero _ _ fun v _ => by rw [exc_nil1]; simp).symm
  | cons p ps ih =>
    cases z with
    | nil => rw [prodI_nil1]; exact (nodeSum_zero _ _ fun v _ => by rw [exc_nil2]; simp).symm
    | cons x z =>
      obtain ⟨h0, h1, h2, h3, h4⟩ := hE p (by simp)
      have e : nodeSum n (fun v => S v * exc v (p :: ps) (x :: z)) = nodeSum n (fun v => (S v * (if (v : Int) = p.to then x else 0) + S v * (if (v : Int) = p.fr then -x else 0)) + S v * exc v ps z) := nodeSum_congr fun v _ => by
        rw [exc_cons, excT_two h4, Int.mul_add, Int.mul_add]
      rw [e, nodeSum_add, nodeSum_add, nodeSum_at _ _ _ h2 h3, nodeSum_at _ _ _ h0 h1, ← ih z fun q hq => hE q (by simp [hq]), show tensL S (p :: ps) = (S p.to - S p.fr) :: tensL S ps from rfl, prodI_cons]
      rw [Int.mul_neg, Int.mul_sub, Int.mul_comm x, Int.mul_comm x]
      omega

theorem prod_zero {a b : List Int} (h : ∀ j, j < a.length → a.getD j 0 * b.getD j 0 = 0) : prodI a b = 0 := by
  induction a generalizing b with
  | nil => exact prodI_nil1 b
  | cons x a ih =>
    cases b with
    | nil => exact prodI_nil2 _
    | cons y b =>
      rw [prodI_cons, ih fun j hj => by simpa using h (j + 1) (by simpa using hj)]
      have := h 0 (by simp)
      simp only [List.getD_cons_zero] at this
      rw [this]; rfl
/-- only one place of a row counts -/
theorem prod_only {a b : List Int} {k : Nat} (hk : k < a.length) (hl : a.length = b.length) (h : ∀ j, j < a.length → j ≠ k → a.getD j 0 * b.getD j 0 = 0) : prodI a b = a.getD k 0 * b.getD k 0 := by
  induction a generalizing b k with
  | nil => simp at hk
  | cons x a ih =>
    cases b with
    | nil => simp at hl
    | cons y b =>
      rw [prodI_cons]
      cases k with
      | zero =>
        rw [prod_zero fun j hj => by simpa using h (j + 1) (by simpa using hj) (by omega)]
        simp
      | succ k =>
        have h0 := h 0 (by simp) (by omega)
        simp only [List.getD_cons_zero] at h0
        rw [h0, ih (k := k) (by simpa using hk) (by simpa using hl) fun j hj hne => by
          have := h (j + 1) (by simpa using hj) (by omega)
          simpa using this]
        simp

theorem tens_at (S : Int → Int) {ps : List Pp} {j : Nat} (hj : j < ps.length) : (tensL S ps).getD j 0 = S (ps.getD j zeroPp).to - S (ps.getD j zeroPp).fr := by
  simp [tensL, List.getD_eq_getElem?_getD, hj]

/-- amounts in the tree alone, without any excess, are nothing -/
theorem tree_none {n : Nat} {ps : List Pp} {z : List Int} (hE : ∀ p ∈ ps, endsIn n p) (hl : z.length = ps.length) (hz : ∀ v : Nat, v < n → exc v ps z = 0) (k : Nat) (hk : k ≤ ps.length)
    (hs : ∀ j, j < ps.length → z.getD j 0 ≠ 0 → j < k ∧ treeF n ps j = true) : ∀ j, j < ps.length → z.getD j 0 = 0 := by
  induction k with
  | zero =>
    intro j hj
    rcases Int.decEq (z.getD j 0) 0 with h | h
    · exact absurd (hs j hj h).1 (by omega)
    · exact h
  | succ k ih =>
    cases ht : treeF n ps k with
    | false =>
      refine ih (by omega) fun j hj h => ?_
      obtain ⟨h1, h2⟩ := hs j hj h
      refine ⟨?_, h2⟩
      rcases Nat.lt_or_ge j k with h3 | h3
      · exact h3
      · have : j = k := by omega
        subst this
        rw [ht] at h2; cases h2
    | true =>
      have hkl : k < ps.length := by omega
      obtain ⟨a0, a1, b0, b1, -⟩ := getD_ends hE hkl
      have hp := prod_pot (fun v => if lab (growL n ps k) v = lab (growL n ps k) (ps.getD k zeroPp).to then 1 else 0) z hE
      rw [nodeSum_zero _ _ fun v hv => by rw [hz v hv, Int.mul_zero]] at hp
      have ho := prod_only (a := z) (b := tensL (fun v => if lab (growL n ps k) v = lab (growL n ps k) (ps.getD k zeroPp).to then 1 else 0) ps) (k := k) (by omega) (by simp [tensL, hl]) fun j hj hne => by
        rw [tens_at _ (by omega)]
        rcases Int.decEq (z.getD j 0) 0 with h | h
        · obtain ⟨h1, h2⟩ := hs j (by omega) h
          have := lab_joined (k := k) hE (show j < k by omega) (by omega)
          simp only [this]
          simp
        · rw [h]; simp
      rw [ho, tens_at _ hkl, if_pos rfl, if_neg (treeF_ne ht)] at hp
      refine ih (by omega) fun j hj h => ?_
      obtain ⟨h1, h2⟩ := hs j hj h
      refine ⟨?_, h2⟩
      rcases Nat.lt_or_ge j k with h3 | h3
      · exact h3
      · have : j = k := by omega
        subst this
        exact absurd (by omega) h

theorem ident_succ (k : Nat) : ident (k + 1) = ident k ++ [(k : Int)] := by simp [ident, List.range_succ]
/-- relabelled up to a node -/
def relabK (L : List Int) (g k : Int) : Nat → List Int
  | 0 => L
  | j + 1 => if (relabK L g k j).getD j 0 = g then (relabK L g k j).set j k else relabK L g k j
theorem relabK_len (L : List Int) (g k : Int) (j : Nat) : (relabK L g k j).length = L.length := by
  induction j with
  | zero => rfl
  | succ j ih => rw [relabK]; split <;> simp [ih]
theorem relabK_getD (L : List Int) (g k : Int) (j v : Nat) (hv : v < L.length) : (relabK L g k j).getD v 0 = if v < j ∧ L.getD v 0 = g then k else L.getD v 0 := by
  induction j with
  | zero => rw [if_neg (by omega)]; rfl
  | succ j ih =>
    rw [relabK]
    by_cases hj : j < L.length
    · have hlj := relabK_len L g k j
      by_cases hvj : v = j
      · subst hvj
        rw [if_neg (by omega)] at ih
        rw [ih]
        by_cases hg : L.getD v 0 = g
        · rw [if_pos hg, if_pos ⟨by omega, hg⟩, getD_set _ _ _ _ _ (by omega), if_pos rfl]
        · rw [if_neg hg, if_neg (fun h => hg h.2), ih]
      · have e : (if (relabK L g k j).getD j 0 = g then (relabK L g k j).set j k else relabK L g k j).getD v 0 = (relabK L g k j).getD v 0 := by
          split
          · rw [getD_set _ _ _ _ _ (by omega), if_neg (fun h => hvj h.symm)]
          · rfl
        rw [e, ih]
        by_cases hg : L.getD v 0 = g
        · by_cases hlt : v < j
          · rw [if_pos ⟨hlt, hg⟩, if_pos ⟨by omega, hg⟩]
          · rw [if_neg (fun h => hlt h.1), if_neg (fun h => hlt (by omega))]
        · rw [if_neg (fun h => hg h.2), if_neg (fun h => hg h.2)]
    · have e : (if (relabK L g k j).getD j 0 = g then (relabK L g k j).set j k else relabK L g k j).getD v 0 = (relabK L g k j).getD v 0 := by
        split
        · rw [List.set_eq_of_length_le (by rw [relabK_len]; omega)]
        · rfl
      rw [e, ih]
      by_cases hg : L.getD v 0 = g
      · rw [if_pos ⟨by omega, hg⟩, if_pos ⟨by omega, hg⟩]
      · rw [if_neg (fun h => hg h.2), if_neg (fun h => hg h.2)]
theorem relabK_all (L : List Int) (g k : Int) {n : Nat} (hn : L.length = n) : relabK L g k n = relab L g k := by
  subst hn
  refine ext_getD (by rw [relabK_len, relab_len]) fun v hv => ?_
  rw [relabK_len] at hv
  rw [relabK_getD _ _ _ _ _ hv]
  have e := lab_relab (L := L) (v := (v : Int)) g k (by simpa using hv)
  simp only [lab, Int.toNat_natCast] at e
  rw [e]
  by_cases hg : L.getD v 0 = g
  · rw [if_pos ⟨hv, hg⟩]; exact (if_pos hg).symm
  · rw [if_neg (fun h => hg h.2)]; exact (if_neg hg).symm

end Go.Proofs.Ytialdelfmmdfjaa

/- Plain facts, chapter 7: the signs of the ring that a pipe has with the tree. -/
namespace Go.Proofs.Ytialdelfmmdfjaa
open Go.RowKit

theorem exc_mul (v : Int) (ps : List Pp) (xs : List Int) (c : Int) : exc v ps (xs.map fun x => x * c) = exc v ps xs * c := by
  induction ps generalizing xs with
  | nil => simp [exc_nil1]
  | cons p ps ih =>
    cases xs with
    | nil => simp [exc_nil2]
    | cons x xs =>
      rw [List.map_cons, exc_cons, exc_cons, ih, Int.add_mul]
      have : excT v p (x * c) = excT v p x * c := by
        unfold excT
        repeat' split
        · rfl
        · rw [Int.neg_mul]
        · simp
      rw [this]

theorem addAll_getD {a b : List Int} (h : a.length = b.length) (j : Nat) : (addAll a b).getD j 0 = a.getD j 0 + b.getD j 0 := by
  rcases Nat.lt_or_ge j a.length with hj | hj
  · have := addAll_at hj (show j < b.length by omega)
    simp only [List.getD_eq_getElem?_getD, this, List.getElem?_eq_getElem hj, List.getElem?_eq_getElem (show j < b.length by omega), Option.getD_some]
  · have hl := addAll_len h
    simp only [List.getD_eq_getElem?_getD, List.getElem?_eq_none hj, List.getElem?_eq_none (show b.length ≤ j by omega), List.getElem?_eq_none (show (addAll a b).length ≤ j by omega), Option.getD_none]
    rfl
theorem mul_getD (a : List Int) (c : Int) (j : Nat) : (a.map fun x => x * c).getD j 0 = a.getD j 0 * c := by
  rcases Nat.lt_or_ge j a.length with hj | hj
  · simp [List.getD_eq_getElem?_getD, hj]
  · simp [List.getD_eq_getElem?_getD, List.getElem?_eq_none hj]

section
variable {n : Nat} {ps : List Pp} {z z1 z2 : List Int}
/-- amounts that differ in the tree alone, and whose excesses are the same, are the same -/
theorem tree_one (hE : ∀ p ∈ ps, endsIn n p) (h1 : z1.length = ps.length) (h2 : z2.length = ps.length) (hx : ∀ v : Nat, v < n → exc v ps z1 = exc v ps z2)
    (hs : ∀ j, j < ps.length → treeF n ps j = false → z1.getD j 0 = z2.getD j 0) : z1 = z2 := by
  have hl : (z2.map fun x => x * -1).length = ps.length := by simpa using h2
  have hd : ∀ j, (addAll z1 (z2.map fun x => x * -1)).getD j 0 = z1.getD j 0 - z2.getD j 0 := fun j => by
    rw [addAll_getD (by omega), mul_getD]; omega
  have hn := tree_none (z := addAll z1 (z2.map fun x => x * -1)) hE (by rw [addAll_len (by omega)]; omega) (fun v hv => by
    rw [exc_add _ _ _ _ h1 hl, exc_mul, hx v hv]; omega) ps.length (Nat.le_refl _) (fun j hj hne => ⟨hj, by
      rw [hd] at hne
      cases ht : treeF n ps j with
      | true => rfl
      | false => exact absurd (by have := hs j hj ht; omega) hne⟩)
  refine ext_getD (by omega) fun j hj => ?_
  have := hn j (by omega)
  rw [hd] at this
  omega

/-- the signs of a ring: 1 for the pipe itself, nothing outside of the tree, and no excess -/
def ringS (n : Nat) (ps : List Pp) (k : Nat) (z : List Int) : Prop :=
  z.length = ps.length ∧ z.getD k 0 = 1 ∧ (∀ j, j < ps.length → j ≠ k → treeF n ps j = false → z.getD j 0 = 0) ∧ ∀ v : Nat, v < n → exc v ps z = 0

theorem ringS_one {k : Nat} (hE : ∀ p ∈ ps, endsIn n p) (h1 : ringS n ps k z1) (h2 : ringS n ps k z2) : z1 = z2 := by
  obtain ⟨a1, a2, a3, a4⟩ := h1
  obtain ⟨b1, b2, b3, b4⟩ := h2
  refine tree_one hE a1 b1 (fun v hv => by rw [a4 v hv, b4 v hv]) fun j hj ht => ?_
  by_cases hjk : j = k
  · rw [hjk, a2, b2]
  · rw [a3 j hj hjk ht, b3 j hj hjk ht]

theorem push1_getD {a : Int} {xs : List Int} {s j : Nat} (h : s / 2 ≠ j) : (push1 a xs s).getD j 0 = xs.getD j 0 := by
  unfold push1
  split <;> simp [List.getD_eq_getElem?_getD, h]
theorem pushL_getD {a : Int} {l : List Nat} {j : Nat} (h : ∀ s ∈ l, s / 2 ≠ j) (xs : List Int) : (pushL a xs l).getD j 0 = xs.getD j 0 := by
  induction l generalizing xs with
  | nil => rfl
  | cons s l ih =>
    have e : pushL a xs (s :: l) = pushL a (push1 a xs s) l := rfl
    rw [e, ih (fun t ht => h t (by simp [ht])), push1_getD (h s (by simp))]

theorem zeros_getD (ps : List Pp) (j : Nat) : (zeros ps).getD j 0 = 0 := by
  unfold zeros
  rcases Nat.lt_or_ge j ps.length with h | h
  · simp [List.getD_eq_getElem?_getD, h]
  · simp [List.getD_eq_getElem?_getD, h]
theorem zeros_len (ps : List Pp) : (zeros ps).length = ps.length := by simp [zeros]

/-- a pipe, pushed along a walk in the tree from where it leads to where it begins -/
theorem walk_ring {N : Int} {k : Nat} {l : List Nat} (hok : netOkB N ps = true) (hk : k < ps.length) (ht : treeF n ps k = false) (hc : chain ps (ps.getD k zeroPp).to (ps.getD k zeroPp).fr l)
    (hl : ∀ s ∈ l, treeF n ps (s / 2) = true) : ringS n ps k ((pushL 1 (zeros ps) l).set k 1) := by
  have hne : ∀ s ∈ l, s / 2 ≠ k := fun s hs h => by
    have := hl s hs
    rw [h, ht] at this; cases this
  have hz : (pushL 1 (zeros ps) l).getD k 0 = 0 := by rw [pushL_getD hne, zeros_getD]
  have hpl : (pushL 1 (zeros ps) l).length = ps.length := by rw [pushL_len, zeros_len]
  have hends := net_endsIn hok ps[k] (List.getElem_mem hk)
  have hg : ps.getD k zeroPp = ps[k] := by simp [List.getD_eq_getElem?_getD, hk]
  refine ⟨by rw [List.length_set, hpl], by rw [getD_set _ _ _ _ _ (by omega), if_pos rfl], fun j hj hjk htj => ?_, fun v hv => ?_⟩
  · rw [getD_set _ _ _ _ _ (by omega), if_neg (fun h => hjk h.symm), pushL_getD (fun s hs h => by
      have := hl s hs
      rw [h, htj] at this; cases this), zeros_getD]
  · have e : (pushL 1 (zeros ps) l).set k 1 = (pushL 1 (zeros ps) l).set k ((pushL 1 (zeros ps) l).getD k 0 + 1) := by rw [hz]; rfl
    rw [e, exc_set _ _ _ _ _ hk (by omega), exc_pushL hok (zeros_len ps) hc, exc_zeros, hg]
    obtain ⟨h0, h1, h2, h3, h4⟩ := hends
    unfold excT
    repeat' split
    all_goals omega
theorem walk_ring' {N : Int} {k : Nat} {l : List Nat} (hok : netOkB N ps = true) (hk : k < ps.length) (ht : treeF n ps k = false) (hc : chain ps (ps.getD k zeroPp).to (ps.getD k zeroPp).fr l)
    (hl : ∀ s ∈ l, treeF n ps (s / 2) = true) : ringS n ps k (pushL 1 ((zeros ps).set k 1) l) := by
  have hne : ∀ s ∈ l, s / 2 ≠ k := fun s hs h => by
    have := hl s hs
    rw [h, ht] at this; cases this
  have hzl : ((zeros ps).set k 1).length = ps.length := by rw [List.length_set, zeros_len]
  have hends := net_endsIn hok ps[k] (List.getElem_mem hk)
  have hg : ps.getD k zeroPp = ps[k] := by simp [List.getD_eq_getElem?_getD, hk]
  refine ⟨by rw [pushL_len, hzl], by rw [pushL_getD hne, getD_set _ _ _ _ _ (by rw [zeros_len]; exact hk), if_pos rfl], fun j hj hjk htj => ?_, fun v hv => ?_⟩
  · rw [pushL_getD (fun s hs h => by
      have := hl s hs
      rw [h, htj] at this; cases this), getD_set _ _ _ _ _ (by rw [zeros_len]; exact hk), if_neg (fun h => hjk h.symm), zeros_getD]
  · have e : (zeros ps).set k 1 = (zeros ps).set k ((zeros ps).getD k 0 + 1) := by rw [zeros_getD]; rfl
    rw [exc_pushL hok hzl hc, e, exc_set _ _ _ _ _ hk (by rw [zeros_len]; exact hk), exc_zeros, hg]
    obtain ⟨h0, h1, h2, h3, h4⟩ := hends
    unfold excT
    repeat' split
    all_goals omega

/-- signs set along a way that has no pipe twice are pushes -/
def signSet (xs : List Int) (s : Nat) : List Int := xs.set (s / 2) (1 - ((s % 2 : Nat) : Int) * 2)
theorem sets_push {l : List Nat} {xs : List Int} (hp : l.Pairwise fun s t => s / 2 ≠ t / 2) (hz : ∀ s ∈ l, xs.getD (s / 2) 0 = 0) : l.foldl signSet xs = pushL 1 xs l := by
  induction l generalizing xs with
  | nil => rfl
  | cons s l ih =>
    rw [List.pairwise_cons] at hp
    have h0 := hz s (by simp)
    have e : signSet xs s = push1 1 xs s := by
      unfold signSet push1
      rw [h0]
      rcases (show s % 2 = 1 ∨ s % 2 = 0 by omega) with h | h <;> rw [h] <;> simp
    rw [List.foldl_cons, e, show pushL 1 xs (s :: l) = pushL 1 (push1 1 xs s) l from rfl]
    exact ih hp.2 fun t ht => by rw [push1_getD (hp.1 t ht)]; exact hz t (by simp [ht])
theorem sets_bd {l : List Nat} {xs : List Int} (h : ∀ x ∈ xs, -1 ≤ x ∧ x ≤ 1) : ∀ x ∈ l.foldl signSet xs, -1 ≤ x ∧ x ≤ 1 := by
  induction l generalizing xs with
  | nil => exact h
  | cons s l ih =>
    refine ih fun x hx => ?_
    rcases List.mem_or_eq_of_mem_set hx with hx | rfl
    · exact h x hx
    · omega
end

/-! ### the way in the tree -/
def freeQ (ps : List Pp) (T : List Int) : List Pp := T.map fun t => ⟨(ps.getD t.toNat zeroPp).fr, (ps.getD t.toNat zeroPp).to, 0, 2, 0⟩
def halfQ (T : List Int) : List Int := List.replicate T.length 1
def liftS (T : List Int) (s : Nat) : Nat := 2 * (T.getD (s / 2) 0).toNat + s % 2

section
variable {n : Int} {ps : List Pp} {k : Nat}
theorem tree_mem {m : Nat} {t : Int} (h : t ∈ treeL m ps) : ∃ i : Nat, i < ps.length ∧ treeF m ps i = true ∧ t = (i : Int) := numW_mem.1 h
theorem tree_at {m i : Nat} (hi : i < (treeL m ps).length) : ∃ j : Nat, j < ps.length ∧ treeF m ps j = true ∧ (treeL m ps)[i] = (j : Int) ∧ (treeL m ps).getD i 0 = (j : Int) := by
  obtain ⟨j, h1, h2, h3⟩ := tree_mem (List.getElem_mem hi)
  exact ⟨j, h1, h2, h3, by rw [List.getD_eq_getElem?_getD, List.getElem?_eq_getElem hi]; exact h3⟩
theorem tree_len7 (h : netOkB n ps = true) : (treeL n.toNat ps).length ≤ 7 := by
  have := numW_len ps.length (treeF n.toNat ps)
  have h2 := netOk_parts h
  unfold treeL; omega
theorem freeQ_at {T : List Int} {i : Nat} (hi : i < T.length) : (freeQ ps T).getD i zeroPp = ⟨(ps.getD (T[i]).toNat zeroPp).fr, (ps.getD (T[i]).toNat zeroPp).to, 0, 2, 0⟩ := by
  simp [freeQ, List.getD_eq_getElem?_getD, hi]
theorem freeQ_len (T : List Int) : (freeQ ps T).length = T.length := by simp [freeQ]
theorem toNat_n (h : netOkB n ps = true) : ((n.toNat : Nat) : Int) = n := by
  have := netOk_parts h
  omega
theorem net_ends' (h : netOkB n ps = true) : ∀ p ∈ ps, endsIn n.toNat p := by rw [toNat_n h]; exact net_endsIn h

theorem freeQ_ok (h : netOkB n ps = true) : netOkB n (freeQ ps (treeL n.toNat ps)) = true := by
  obtain ⟨h1, h2, h3, -⟩ := netOk_parts h
  have h7 := tree_len7 h
  simp only [netOkB, withinB, Bool.and_eq_true, decide_eq_true_eq, List.all_eq_true]
  refine ⟨⟨⟨h1, h2⟩, by rw [freeQ_len]; exact h7⟩, fun q hq => ?_⟩
  obtain ⟨t, ht, rfl⟩ := List.mem_map.1 hq
  obtain ⟨i, hi, -, rfl⟩ := tree_mem ht
  obtain ⟨a0, a1, b0, b1, ab⟩ := getD_ends (net_ends' h) hi
  have hn := toNat_n h
  simp only [pipeOkB, withinB, Bool.and_eq_true, decide_eq_true_eq, Int.toNat_natCast]
  omega
theorem halfQ_holds (h : netOkB n ps = true) : holdsB n (freeQ ps (treeL n.toNat ps)) (halfQ (treeL n.toNat ps)) = true := by
  rw [holds_inB (freeQ_ok h)]
  refine ⟨by rw [freeQ_len]; simp [halfQ], fun j hj => ?_⟩
  have hj' : j < (treeL n.toNat ps).length := by rwa [freeQ_len] at hj
  simp [freeQ, halfQ, List.getD_eq_getElem?_getD, hj']

theorem treeQ_edge {m j : Nat} (hj : j < ps.length) (ht : treeF m ps j = true) (b : Bool) :
    (if b = true then ((ps.getD j zeroPp).fr, (ps.getD j zeroPp).to) else ((ps.getD j zeroPp).to, (ps.getD j zeroPp).fr)) ∈ edgL (freeQ ps (treeL m ps)) (halfQ (treeL m ps)) := by
  have hm : ((j : Nat) : Int) ∈ treeL m ps := numW_mem.2 ⟨j, hj, ht, rfl⟩
  obtain ⟨i, hi, he⟩ := List.getElem_of_mem hm
  have hq := freeQ_at (ps := ps) hi
  rw [he, Int.toNat_natCast] at hq
  have hl := freeQ_len (ps := ps) (treeL m ps)
  rw [edg_mem]
  have hh : (halfQ (treeL m ps)).getD i 0 = 1 := by simp [halfQ, hi]
  cases b with
  | true => refine ⟨2 * i, by omega, ?_, ?_, ?_⟩ <;> simp [stRoom, stFr, stTo, show 2 * i % 2 = 0 by omega, show 2 * i / 2 = i by omega, hq, hh, -List.getD_eq_getElem?_getD]
  | false => refine ⟨2 * i + 1, by omega, ?_, ?_, ?_⟩ <;> simp [stRoom, stFr, stTo, show (2 * i + 1) % 2 = 1 by omega, show (2 * i + 1) / 2 = i by omega, hq, hh, -List.getD_eq_getElem?_getD]

/-- within a piece there is a way in the tree -/
theorem treeQ_way (h : netOkB n ps = true) (hk : k < ps.length) :
    wayB n (freeQ ps (treeL n.toNat ps)) (halfQ (treeL n.toNat ps)) (ps.getD k zeroPp).to (ps.getD k zeroPp).fr = true := by
  have hn := toNat_n h
  have hE := net_ends' h
  obtain ⟨a0, a1, b0, b1, ab⟩ := getD_ends hE hk
  rw [wayB, halfQ_holds h, Bool.true_and]
  have he : endsB n (freeQ ps (treeL n.toNat ps)) (ps.getD k zeroPp).to (ps.getD k zeroPp).fr = true := by
    simp only [endsB, freeQ_ok h, withinB, Bool.true_and, Bool.and_eq_true, decide_eq_true_eq]
    omega
  rw [he, Bool.true_and, decide_eq_true_eq, inK_iff ⟨a0, by omega⟩ (edg_in (freeQ_ok h) _)]
  have hS := piece_same (k := ps.length) (fun v : Int => ∃ m, inK (edgL (freeQ ps (treeL n.toNat ps)) (halfQ (treeL n.toNat ps))) m v (ps.getD k zeroPp).fr = true) hE (Nat.le_refl _) fun j hj htj => by
    have e1 := treeQ_edge hj htj true
    have e2 := treeQ_edge hj htj false
    simp only [if_true, Bool.false_eq_true, if_false] at e1 e2
    apply propext
    constructor
    · rintro ⟨m, hm⟩; exact ⟨m + 1, inK_succ.2 (.inr ⟨_, e2, rfl, hm⟩)⟩
    · rintro ⟨m, hm⟩; exact ⟨m + 1, inK_succ.2 (.inr ⟨_, e1, rfl, hm⟩)⟩
  have hj := lab_joined (k := ps.length) hE hk (Nat.le_refl _)
  have s1 := hS _ a0 a1
  have s2 := hS _ b0 b1
  rw [hj] at s1
  rw [s1] at s2
  exact s2.mp ⟨0, inK_self 0⟩

theorem liftS_step {m s : Nat} (hs : s < 2 * (freeQ ps (treeL m ps)).length) : liftS (treeL m ps) s < 2 * ps.length ∧ stFr (freeQ ps (treeL m ps)) s = stFr ps (liftS (treeL m ps) s) ∧
    stTo (freeQ ps (treeL m ps)) s = stTo ps (liftS (treeL m ps) s) ∧ treeF m ps (liftS (treeL m ps) s / 2) = true ∧ liftS (treeL m ps) s % 2 = s % 2 ∧ (treeL m ps).getD (s / 2) 0 = ((liftS (treeL m ps) s / 2 : Nat) : Int) := by
  rw [freeQ_len] at hs
  have hi : s / 2 < (treeL m ps).length := by omega
  obtain ⟨j, hj, htj, e1, e2⟩ := tree_at hi
  have hl : liftS (treeL m ps) s = 2 * j + s % 2 := by rw [liftS, e2, Int.toNat_natCast]
  have hq := freeQ_at (ps := ps) hi
  rw [e1, Int.toNat_natCast] at hq
  have hm : (2 * j + s % 2) % 2 = s % 2 := by omega
  have hd : (2 * j + s % 2) / 2 = j := by omega
  rw [hl, hd, hm]
  refine ⟨by omega, ?_, ?_, htj, rfl, e2⟩
  · unfold stFr; rw [hq, hm, hd]
  · unfold stTo; rw [hq, hm, hd]
theorem lift_chain {m : Nat} {a b : Int} {l : List Nat} (hc : chain (freeQ ps (treeL m ps)) a b l) : chain ps a b (l.map (liftS (treeL m ps))) ∧ ∀ s ∈ l.map (liftS (treeL m ps)), treeF m ps (s / 2) = true := by
  induction l generalizing a with
  | nil => exact ⟨hc, by simp⟩
  | cons s l ih =>
    obtain ⟨h1, h2, h3⟩ := hc
    obtain ⟨l1, l2, l3, l4, -⟩ := liftS_step h1
    obtain ⟨i1, i2⟩ := ih h3
    refine ⟨⟨l1, by rw [← l2]; exact h2, by rw [← l3]; exact i1⟩, fun t ht => ?_⟩
    rcases List.mem_cons.1 ht with rfl | ht
    · exact l4
    · exact i2 t ht
theorem tree_inj {m i j : Nat} (hi : i < (treeL m ps).length) (hj : j < (treeL m ps).length) (h : (treeL m ps).getD i 0 = (treeL m ps).getD j 0) : i = j := by
  have hp : (treeL m ps).Pairwise (· < ·) := numW_pair _ _
  rw [List.getD_eq_getElem?_getD, List.getD_eq_getElem?_getD, List.getElem?_eq_getElem hi, List.getElem?_eq_getElem hj] at h
  simp only [Option.getD_some] at h
  rcases Nat.lt_trichotomy i j with h1 | h1 | h1
  · have := List.pairwise_iff_getElem.1 hp i j hi hj h1; omega
  · exact h1
  · have := List.pairwise_iff_getElem.1 hp j i hj hi h1; omega
theorem lift_apart {m : Nat} {l : List Nat} (hl : ∀ s ∈ l, s < 2 * (freeQ ps (treeL m ps)).length) (hp : l.Pairwise fun s t => s / 2 ≠ t / 2) : (l.map (liftS (treeL m ps))).Pairwise fun s t => s / 2 ≠ t / 2 := by
  rw [List.pairwise_map]
  refine List.Pairwise.imp_of_mem ?_ hp
  intro s t hs ht hne he
  obtain ⟨-, -, -, -, -, s5⟩ := liftS_step (hl s hs)
  obtain ⟨-, -, -, -, -, t5⟩ := liftS_step (hl t ht)
  have h1 := hl s hs
  have h2 := hl t ht
  rw [freeQ_len] at h1 h2
  exact hne (tree_inj (ps := ps) (m := m) (by omega) (by omega) (by rw [s5, t5, he]))

/-- the signs as the given model sets them: along the way in the tree -/
def signsM (n : Int) (ps : List Pp) (k : Nat) : List Int := ((wayR n (freeQ ps (treeL n.toNat ps)) (halfQ (treeL n.toNat ps)) (ps.getD k zeroPp).to (ps.getD k zeroPp).fr).map (liftS (treeL n.toNat ps))).foldl signSet ((zeros ps).set k 1)
theorem signsM_ring (h : netOkB n ps = true) (hk : k < ps.length) (ht : treeF n.toNat ps k = false) : ringS n.toNat ps k (signsM n ps k) ∧ ∀ x ∈ signsM n ps k, -1 ≤ x ∧ x ≤ 1 := by
  obtain ⟨-, -, w3, w4, w5⟩ := wayR_ok (treeQ_way h hk)
  obtain ⟨c1, c2⟩ := lift_chain w3
  refine ⟨?_, sets_bd fun x hx => ?_⟩
  · rw [signsM, sets_push (lift_apart (fun s hs => (w4 s hs).1) w5) fun s hs => ?_]
    · exact walk_ring' h hk ht c1 c2
    · have h2 := c2 s hs
      rw [getD_set _ _ _ _ _ (by rw [zeros_len]; exact hk), if_neg (fun he => by rw [← he, ht] at h2; cases h2), zeros_getD]
  · rcases List.mem_or_eq_of_mem_set hx with hx | rfl
    · unfold zeros at hx
      have := List.eq_of_mem_replicate hx
      omega
    · omega

/-- is this a pipe with a ring; its signs -/
def signB (n : Int) (ps : List Pp) (k : Int) : Bool := netOkB n ps && withinB k 0 ((ps.length : Int) - 1) && !treeF n.toNat ps k.toNat
def signsR (n : Int) (ps : List Pp) (k : Int) : List Int := if signB n ps k = true then signsM n ps k.toNat else []
theorem sign_parts {k : Int} (h : signB n ps k = true) : netOkB n ps = true ∧ 0 ≤ k ∧ k < ps.length ∧ treeF n.toNat ps k.toNat = false := by
  simp only [signB, withinB, Bool.and_eq_true, decide_eq_true_eq, Bool.not_eq_true'] at h
  obtain ⟨⟨h1, h2, h3⟩, h4⟩ := h
  exact ⟨h1, h2, by omega, h4⟩
theorem signsR_ring {k : Int} (h : signB n ps k = true) : ringS n.toNat ps k.toNat (signsR n ps k) ∧ ∀ x ∈ signsR n ps k, -1 ≤ x ∧ x ≤ 1 := by
  obtain ⟨h1, h2, h3, h4⟩ := sign_parts h
  rw [signsR, if_pos h]
  exact signsM_ring h1 (by omega) h4
theorem signsR_is {k : Int} {z : List Int} (h : signB n ps k = true) (hz : ringS n.toNat ps k.toNat z) : z = signsR n ps k :=
  ringS_one (net_ends' (sign_parts h).1) hz (signsR_ring h).1
theorem signsR_no {k : Int} (h : signB n ps k = false) : signsR n ps k = [] := by rw [signsR, if_neg (by simp [h])]
theorem signsR_len (n : Int) (ps : List Pp) (k : Int) (h : netOkB n ps = true) : (signsR n ps k).length ≤ 7 := by
  cases hb : signB n ps k with
  | false => rw [signsR_no hb]; simp
  | true =>
    rw [(signsR_ring hb).1.1]
    exact (netOk_parts h).2.2.1
end

end Go.Proofs.Ytialdelfmmdfjaa

/- Plain facts, chapter 7: tensions of rows of heights, products. -/
namespace Go.Proofs.Ytialdelfmmdfjaa
open Go.RowKit

def tensB (n : Int) (ps : List Pp) (hs : List Int) : Bool := netOkB n ps && rowB hs n (-40) 40
def tensR (n : Int) (ps : List Pp) (hs : List Int) : List Int := if tensB n ps hs = true then tensL (lab hs) ps else []
def prodB (n : Int) (ps : List Pp) (a b : List Int) : Bool := netOkB n ps && rowB a (ps.length : Int) (-80) 80 && rowB b (ps.length : Int) (-80) 80
def prodR (n : Int) (ps : List Pp) (a b : List Int) : Int := if prodB n ps a b = true then prodI a b else 0

theorem rowB_parts {xs : List Int} {cnt l m : Int} (h : rowB xs cnt l m = true) : (xs.length : Int) = cnt ∧ ∀ x ∈ xs, l ≤ x ∧ x ≤ m := by
  simp only [rowB, withinB, Bool.and_eq_true, decide_eq_true_eq, List.all_eq_true] at h
  exact h
theorem own_made7 (w : World) {N : Nat} (h : N ≤ 4194304) : Row (w.alloc (.cells (madeCells #[.int .i64 0] N) 3)) w.heap.size w.heap.size N N (List.replicate N 0) :=
  ⟨made_ints w N 3 w.heap.size (Nat.le_refl _) h, h⟩
theorem tensL_len (S : Int → Int) (ps : List Pp) : (tensL S ps).length = ps.length := by simp [tensL]

theorem mul_bd0 {x y m : Int} (h0 : 0 ≤ x) (hx : x ≤ m) (hy : -m ≤ y ∧ y ≤ m) : -(m * m) ≤ x * y ∧ x * y ≤ m * m := by
  have a1 : x * y ≤ x * m := Int.mul_le_mul_of_nonneg_left hy.2 h0
  have a2 : x * (-m) ≤ x * y := Int.mul_le_mul_of_nonneg_left hy.1 h0
  have a3 : x * m ≤ m * m := Int.mul_le_mul_of_nonneg_right hx (by omega)
  rw [Int.mul_neg] at a2
  omega
theorem mul_bd {x y m : Int} (hx : -m ≤ x ∧ x ≤ m) (hy : -m ≤ y ∧ y ≤ m) : -(m * m) ≤ x * y ∧ x * y ≤ m * m := by
  rcases Int.le_total 0 x with h | h
  · exact mul_bd0 h hx.2 hy
  · have := mul_bd0 (x := -x) (y := y) (m := m) (by omega) (by omega) hy
    rw [Int.neg_mul] at this
    omega
/-- a sum of products, pair by pair -/
theorem prod_snoc (a b : List Int) (k : Nat) (ha : k < a.length) (hb : k < b.length) : prodI (a.take (k + 1)) (b.take (k + 1)) = prodI (a.take k) (b.take k) + a[k] * b[k] := by
  unfold prodI
  rw [List.take_succ_eq_append_getElem ha, List.take_succ_eq_append_getElem hb, List.zip_append (by simp; omega)]
  simp
theorem prod_bd {a b : List Int} {m : Int} (ha : ∀ x ∈ a, -m ≤ x ∧ x ≤ m) (hb : ∀ x ∈ b, -m ≤ x ∧ x ≤ m) : -(m * m * (a.length : Int)) ≤ prodI a b ∧ prodI a b ≤ m * m * (a.length : Int) := by
  induction a generalizing b with
  | nil => rw [prodI_nil1]; simp
  | cons x a ih =>
    cases b with
    | nil =>
      rw [prodI_nil2]
      have hm : 0 ≤ m := by have := ha x (by simp); omega
      have h0 : 0 ≤ m * m := Int.mul_nonneg hm hm
      have := Int.mul_nonneg h0 (show (0 : Int) ≤ ((x :: a).length : Int) by omega)
      omega
    | cons y b =>
      have h1 := ih (fun z hz => ha z (by simp [hz])) (fun z hz => hb z (by simp [hz])) (b := b)
      have hx := ha x (by simp)
      have hy := hb y (by simp)
      have hxy : -(m * m) ≤ x * y ∧ x * y ≤ m * m := mul_bd hx hy
      rw [prodI_cons, List.length_cons]
      push_cast
      rw [Int.mul_add, Int.mul_one]
      omega

theorem treeR_len (n : Int) (ps : List Pp) : (treeR n ps).length ≤ ps.length := by
  unfold treeR; split
  · exact numW_len _ _
  · simp
theorem tensR_len (n : Int) (ps : List Pp) (hs : List Int) : (tensR n ps hs).length ≤ ps.length := by
  unfold tensR; split
  · rw [tensL_len]; exact Nat.le_refl _
  · simp
theorem signsR_len' (n : Int) (ps : List Pp) (k : Int) : (signsR n ps k).length ≤ ps.length := by
  cases hb : signB n ps k with
  | false => rw [signsR_no hb]; simp
  | true => rw [(signsR_ring hb).1.1]; exact Nat.le_refl _

end Go.Proofs.Ytialdelfmmdfjaa

/- Plain facts, chapter 7: a walk in the tree that goes back where all has been tried. -/
namespace Go.Proofs.Ytialdelfmmdfjaa
open Go.RowKit

theorem nodup_len7 (m : Nat) : ∀ l : List Int, l.Nodup → (∀ x ∈ l, 0 ≤ x ∧ x < (m : Int)) → l.length ≤ m := by
  induction m with
  | zero =>
    intro l _ h
    cases l with
    | nil => simp
    | cons x l => have := h x (by simp); omega
  | succ m ih =>
    intro l hn h
    have h1 := ih (l.erase (m : Int)) (hn.erase _) fun x hx => by
      have h2 := h x (List.mem_of_mem_erase hx)
      have h3 : x ≠ (m : Int) := fun e => by
        subst e
        exact absurd hx (hn.not_mem_erase)
      omega
    have h2 := List.length_erase (a := (m : Int)) (l := l)
    split at h2 <;> omega

/-- the steps along pipes of the tree -/
def tstepF (n : Nat) (ps : List Pp) (s : Nat) : Bool := treeF n ps (s / 2)

theorem chain_snoc7 {ps : List Pp} {a v : Int} {l : List Nat} {s : Nat} (h : chain ps a v l) (hs : s < 2 * ps.length) (hf : stFr ps s = v) : chain ps a (stTo ps s) (l ++ [s]) := by
  induction l generalizing a with
  | nil =>
    have : a = v := h
    subst this
    exact ⟨hs, hf, rfl⟩
  | cons t l ih => exact ⟨h.1, h.2.1, ih h.2.2⟩
theorem chain_last7 {ps : List Pp} {a v : Int} {l : List Nat} {s : Nat} (h : chain ps a v (l ++ [s])) : chain ps a (stFr ps s) l ∧ stTo ps s = v := by
  induction l generalizing a with
  | nil =>
    obtain ⟨-, h2, h3⟩ := h
    exact ⟨h2.symm, h3⟩
  | cons t l ih =>
    obtain ⟨h1, h2, h3⟩ := h
    obtain ⟨i1, i2⟩ := ih h3
    exact ⟨⟨h1, h2, i1⟩, i2⟩

/-- the walk so far, and the nodes that have been tried -/
def walkT (n : Nat) (ps : List Pp) (a c v : Int) (walk : List Nat) (tried : List Int) : Prop :=
  chain ps a v walk ∧ (∀ s ∈ walk, s < 2 * ps.length ∧ tstepF n ps s = true ∧ stFr ps s ∈ tried) ∧ tried.Nodup ∧ (∀ x ∈ tried, 0 ≤ x ∧ x < (n : Int)) ∧ a ∈ tried ∧ v ∈ tried ∧ (c ∈ tried → v = c) ∧ walk.length + 1 ≤ tried.length ∧
  (∀ x ∈ tried, x ≠ v → (∀ s ∈ walk, stFr ps s ≠ x) → ∀ t, t < 2 * ps.length → tstepF n ps t = true → stFr ps t = x → stTo ps t ∈ tried)

section
variable {n : Nat} {ps : List Pp} {a c v : Int} {walk : List Nat} {tried : List Int} {s : Nat}
theorem walkT_start (a0 : 0 ≤ a) (a1 : a < n) : walkT n ps a c a [] [a] :=
  ⟨rfl, by simp, by simp, fun x hx => by simp at hx; omega, by simp, by simp, fun h => by simp at h; exact h.symm, by simp, fun x hx hne => by simp at hx; exact absurd hx hne⟩
theorem walkT_len (h : walkT n ps a c v walk tried) : tried.length ≤ n ∧ walk.length + 1 ≤ tried.length :=
  ⟨nodup_len7 n tried h.2.2.1 h.2.2.2.1, h.2.2.2.2.2.2.2.1⟩
theorem walkT_push (h : walkT n ps a c v walk tried) (hs : s < 2 * ps.length) (ht : tstepF n ps s = true) (hf : stFr ps s = v) (hto : stTo ps s ∉ tried) (hin : 0 ≤ stTo ps s ∧ stTo ps s < n) (hvc : v ≠ c) :
    walkT n ps a c (stTo ps s) (walk ++ [s]) (tried ++ [stTo ps s]) := by
  obtain ⟨h1, h2, h3, h4, h5, h6, h7, h8, h9⟩ := h
  refine ⟨chain_snoc7 h1 hs hf, ?_, ?_, ?_, by simp [h5], by simp, ?_, by simp; omega, ?_⟩
  · intro t htm
    rcases List.mem_append.1 htm with h | h
    · exact ⟨(h2 t h).1, (h2 t h).2.1, by simp [(h2 t h).2.2]⟩
    · simp at h
      subst h
      exact ⟨hs, ht, by rw [hf]; simp [h6]⟩
  · rw [List.nodup_append]
    refine ⟨h3, by simp, ?_⟩
    intro x hx y hy
    simp at hy
    subst hy
    intro e
    subst e
    exact hto hx
  · intro x hx
    rcases List.mem_append.1 hx with h | h
    · exact h4 x h
    · simp at h; subst h; exact hin
  · intro hc
    rcases List.mem_append.1 hc with h | h
    · exact absurd (h7 h) hvc
    · simp at h; exact h.symm
  · intro x hx hne hw t ht1 ht2 ht3
    rcases List.mem_append.1 hx with h | h
    · have hxv : x ≠ v := fun e => hw s (by simp) (by rw [hf, e])
      have := h9 x h hxv (fun s' hs' => hw s' (by simp [hs'])) t ht1 ht2 ht3
      simp [this]
    · simp at h; exact absurd h hne
theorem walkT_pop (h : walkT n ps a c v (walk ++ [s]) tried) (hno : ∀ t, t < 2 * ps.length → tstepF n ps t = true → stFr ps t = v → stTo ps t ∈ tried) (hvc : v ≠ c) : walkT n ps a c (stFr ps s) walk tried := by
  obtain ⟨h1, h2, h3, h4, h5, h6, h7, h8, h9⟩ := h
  obtain ⟨c1, c2⟩ := chain_last7 h1
  refine ⟨c1, fun t ht => h2 t (by simp [ht]), h3, h4, h5, (h2 s (by simp)).2.2, fun hc => absurd (h7 hc) hvc, by simp at h8; omega, ?_⟩
  intro x hx hne hw t ht1 ht2 ht3
  by_cases hxv : x = v
  · exact hno t ht1 ht2 (by rw [ht3, hxv])
  · refine h9 x hx hxv (fun s' hs' => ?_) t ht1 ht2 ht3
    rcases List.mem_append.1 hs' with h | h
    · exact hw s' h
    · simp at h; subst h; exact fun e => hne e.symm
/-- within a piece the walk never comes to its begin again with nothing left to try -/
theorem walkT_stuck (hE : ∀ p ∈ ps, endsIn n p) (h : walkT n ps a c v [] tried) (hno : ∀ t, t < 2 * ps.length → tstepF n ps t = true → stFr ps t = v → stTo ps t ∈ tried) (hvc : v ≠ c)
    (c0 : 0 ≤ c) (c1 : c < n) (hj : lab (growL n ps ps.length) a = lab (growL n ps ps.length) c) : False := by
  obtain ⟨-, -, h3, h4, h5, h6, h7, h8, h9⟩ := h
  have hcl : ∀ t, t < 2 * ps.length → tstepF n ps t = true → stFr ps t ∈ tried → stTo ps t ∈ tried := fun t ht1 ht2 hin => by
    by_cases hxv : stFr ps t = v
    · exact hno t ht1 ht2 hxv
    · exact h9 _ hin hxv (by simp) t ht1 ht2 rfl
  have hS := piece_same (k := ps.length) (fun x : Int => x ∈ tried) hE (Nat.le_refl _) fun j hj ht => by
    have g0 : ps.getD j zeroPp = ps[j] := by simp [List.getD_eq_getElem?_getD, hj]
    have e1 := hcl (2 * j) (by omega) (by unfold tstepF; rw [show 2 * j / 2 = j by omega]; exact ht)
    have e2 := hcl (2 * j + 1) (by omega) (by unfold tstepF; rw [show (2 * j + 1) / 2 = j by omega]; exact ht)
    have f1 : stFr ps (2 * j) = ps[j].fr ∧ stTo ps (2 * j) = ps[j].to := by simp [stFr, stTo, show 2 * j % 2 = 0 by omega, show 2 * j / 2 = j by omega, hj]
    have f2 : stFr ps (2 * j + 1) = ps[j].to ∧ stTo ps (2 * j + 1) = ps[j].fr := by simp [stFr, stTo, show (2 * j + 1) % 2 = 1 by omega, show (2 * j + 1) / 2 = j by omega, hj]
    rw [f1.1, f1.2] at e1
    rw [f2.1, f2.2] at e2
    rw [g0]
    exact propext ⟨e1, e2⟩
  obtain ⟨a0, a1⟩ := h4 a h5
  have s1 := hS a a0 a1
  have s2 := hS c c0 c1
  rw [hj] at s1
  rw [s1] at s2
  exact hvc (h7 (s2.mp h5))
end

theorem tree_few {n : Nat} {ps : List Pp} (hE : ∀ p ∈ ps, endsIn n p) : (treeL n ps).length ≤ n := by
  have h := roots_len (k := ps.length) hE (Nat.le_refl _)
  have h0 : 0 ≤ rootsN n (growL n ps ps.length) := by rw [← rootF_len]; omega
  unfold treeL
  omega
theorem tree_in {n : Nat} {ps : List Pp} {k : Nat} (hk : k < ps.length) : decide ((k : Int) ∈ treeL n ps) = treeF n ps k := by
  cases ht : treeF n ps k with
  | true => exact decide_eq_true (numW_mem.2 ⟨k, hk, ht, rfl⟩)
  | false =>
    refine decide_eq_false fun h => ?_
    obtain ⟨i, -, hi, he⟩ := tree_mem h
    have : k = i := by omega
    subst this
    rw [ht] at hi; cases hi

/-- pushes of 1 along steps stay within their number -/
theorem push1_bd {xs : List Int} {s j : Nat} {m : Int} (h : ∀ j, -m ≤ xs.getD j 0 ∧ xs.getD j 0 ≤ m) : -(m + 1) ≤ (push1 1 xs s).getD j 0 ∧ (push1 1 xs s).getD j 0 ≤ m + 1 := by
  have hj := h j
  have hs := h (s / 2)
  by_cases hl : s / 2 < xs.length
  · unfold push1
    split <;> rw [getD_set _ _ _ _ _ hl] <;> split <;> omega
  · have e : (push1 1 xs s) = xs := by
      unfold push1
      split <;> rw [List.set_eq_of_length_le (by omega)]
    rw [e]; omega
theorem pushL_bd7 {l : List Nat} {xs : List Int} {m : Int} (h : ∀ j, -m ≤ xs.getD j 0 ∧ xs.getD j 0 ≤ m) : ∀ j, -(m + (l.length : Int)) ≤ (pushL 1 xs l).getD j 0 ∧ (pushL 1 xs l).getD j 0 ≤ m + (l.length : Int) := by
  induction l generalizing xs m with
  | nil => intro j; have := h j; simpa [pushL] using this
  | cons s l ih =>
    intro j
    have := ih (xs := push1 1 xs s) (m := m + 1) (fun j => push1_bd h) j
    rw [show pushL 1 xs (s :: l) = pushL 1 (push1 1 xs s) l from rfl, List.length_cons]
    push_cast
    omega

end Go.Proofs.Ytialdelfmmdfjaa

/- Plain facts, chapter 7: labels as the given model keeps them, laid anew from the tree each time. -/
namespace Go.Proofs.Ytialdelfmmdfjaa
open Go.RowKit

def sLab1 (ps : List Pp) (M : List Int) (t : Int) : List Int := relab M (max (lab M (ps.getD t.toNat zeroPp).fr) (lab M (ps.getD t.toNat zeroPp).to)) (min (lab M (ps.getD t.toNat zeroPp).fr) (lab M (ps.getD t.toNat zeroPp).to))
def sLabs (n : Nat) (ps : List Pp) (T : List Int) : List Int := T.foldl (sLab1 ps) (ident n)
/-- two rows of labels that join the same nodes -/
def sameK (n : Nat) (L M : List Int) : Prop := ∀ u v : Int, 0 ≤ u → u < n → 0 ≤ v → v < n → (lab L u = lab L v ↔ lab M u = lab M v)

theorem sLabs_len (n : Nat) (ps : List Pp) (T : List Int) : (sLabs n ps T).length = n := by
  unfold sLabs
  have h : ∀ (T : List Int) (M : List Int), M.length = n → (T.foldl (sLab1 ps) M).length = n := by
    intro T
    induction T with
    | nil => intro M h; exact h
    | cons t T ih => intro M h; exact ih _ (by rw [sLab1, relab_len]; exact h)
  exact h T _ (ident_len n)
theorem sLabs_snoc (n : Nat) (ps : List Pp) (T : List Int) (t : Int) : sLabs n ps (T ++ [t]) = sLab1 ps (sLabs n ps T) t := by simp [sLabs, List.foldl_append]
theorem sLabs_take (n : Nat) (ps : List Pp) (T : List Int) (k : Nat) (hk : k < T.length) : sLabs n ps (T.take (k + 1)) = sLab1 ps (sLabs n ps (T.take k)) T[k] := by
  rw [List.take_succ_eq_append_getElem hk, sLabs_snoc]

theorem join_same {n : Nat} {L M : List Int} {f t : Int} (hL : L.length = n) (hM : M.length = n) (h : sameK n L M) (f0 : 0 ≤ f) (f1 : f < n) (t0 : 0 ≤ t) (t1 : t < n) (hne : lab L f ≠ lab L t) :
    sameK n (relab L (lab L t) (lab L f)) (relab M (max (lab M f) (lab M t)) (min (lab M f) (lab M t))) := by
  intro u v u0 u1 v0 v1
  rw [lab_relab _ _ (by omega), lab_relab _ _ (by omega), lab_relab _ _ (by omega), lab_relab _ _ (by omega)]
  have e0 := h f t f0 f1 t0 t1
  have e1 := h u v u0 u1 v0 v1
  have e2 := h u f u0 u1 f0 f1
  have e3 := h u t u0 u1 t0 t1
  have e4 := h v f v0 v1 f0 f1
  have e5 := h v t v0 v1 t0 t1
  generalize lab L f = lf at *
  generalize lab L t = lt at *
  generalize lab L u = lu at *
  generalize lab L v = lv at *
  generalize lab M f = mf at *
  generalize lab M t = mt at *
  generalize lab M u = mu at *
  generalize lab M v = mv at *
  rcases Int.lt_trichotomy mf mt with hlt | hlt | hlt
  · rw [Int.max_eq_right (by omega), Int.min_eq_left (by omega)]
    split <;> split <;> split <;> split <;> omega
  · exact absurd (e0.2 hlt) hne
  · rw [Int.max_eq_left (by omega), Int.min_eq_right (by omega)]
    split <;> split <;> split <;> split <;> omega

theorem grow_same {n : Nat} {ps : List Pp} {k : Nat} (hE : ∀ p ∈ ps, endsIn n p) (hk : k ≤ ps.length) : sameK n (growL n ps k) (sLabs n ps (numW k (treeF n ps))) := by
  induction k with
  | zero => intro u v _ _ _ _; exact Iff.rfl
  | succ k ih =>
    have ih := ih (by omega)
    obtain ⟨a0, a1, b0, b1, -⟩ := getD_ends hE (show k < ps.length by omega)
    cases ht : treeF n ps k with
    | false => rw [growL_no ht, numW_no ht]; exact ih
    | true =>
      rw [growL_yes ht, numW_yes ht, sLabs_snoc, sLab1, Int.toNat_natCast]
      exact join_same (growL_len _ _ _) (sLabs_len _ _ _) ih a0 a1 b0 b1 (treeF_ne ht)
/-- a pipe is of the tree just if the model's labels of its ends differ -/
theorem treeF_labs {n : Nat} {ps : List Pp} {k : Nat} (hE : ∀ p ∈ ps, endsIn n p) (hk : k < ps.length) : treeF n ps k = !decide (lab (sLabs n ps (numW k (treeF n ps))) (ps.getD k zeroPp).fr = lab (sLabs n ps (numW k (treeF n ps))) (ps.getD k zeroPp).to) := by
  obtain ⟨a0, a1, b0, b1, -⟩ := getD_ends hE hk
  have h := grow_same (k := k) hE (by omega) (ps.getD k zeroPp).fr (ps.getD k zeroPp).to a0 a1 b0 b1
  unfold treeF
  rw [decide_eq_decide.2 h]
  rfl

end Go.Proofs.Ytialdelfmmdfjaa
