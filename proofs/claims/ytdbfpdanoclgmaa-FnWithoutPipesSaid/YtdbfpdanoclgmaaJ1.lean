/- Plain facts, chapter 7: labels of pieces, trees, products of flows and tensions. -/
import Derived.Test.YtdbfpdanoclgmaaMG
namespace Go.Proofs.Ytdbfpdanoclgmaa
open Go.RowKit

/-- the label of a node -/
def lab (L : List Int) (v : Int) : Int := L.getD v.toNat 0
def ident (n : Nat) : List Int := (List.range n).map fun k : Nat => (k : Int)
def relab (L : List Int) (gone kept : Int) : List Int := L.map fun x => if x = gone then kept else x

theorem ident_len (n : Nat) : (ident n).length = n := by simp [ident]
theorem relab_len (L : List Int) (g k : Int) : (relab L g k).length = L.length := by simp [relab]
theorem lab_ident {n : Nat} {v : Int} (h0 : 0 ≤ v) (h1 : v < n) : lab (ident n) v = v := by
  have h : v.toNat < n := by omega
  simp [lab, ident, List.getD_eq_getElem?_getD, h]
  omega
theorem lab_relab {L : List Int} {v : Int} (g k : Int) (h : v.toNat < L.length) : lab (relab L g k) v = if lab L v = g then k else lab L v := by
  simp [lab, relab, List.getD_eq_getElem?_getD, h]

/-- the labels after so many pipes; is this pipe of the tree; the tree -/
def growL (n : Nat) (ps : List Pp) : Nat → List Int
  | 0 => ident n
  | k + 1 => if lab (growL n ps k) (ps.getD k zeroPp).fr = lab (growL n ps k) (ps.getD k zeroPp).to then growL n ps k else relab (growL n ps k) (lab (growL n ps k) (ps.getD k zeroPp).to) (lab (growL n ps k) (ps.getD k zeroPp).fr)
def treeF (n : Nat) (ps : List Pp) (k : Nat) : Bool := !decide (lab (growL n ps k) (ps.getD k zeroPp).fr = lab (growL n ps k) (ps.getD k zeroPp).to)
def treeL (n : Nat) (ps : List Pp) : List Int := numW ps.length (treeF n ps)
def treeR (n : Int) (ps : List Pp) : List Int := if netOkB n ps = true then treeL n.toNat ps else []
def piecesI (n : Int) (ps : List Pp) : Int := if netOkB n ps = true then n - (treeL n.toNat ps).length else -1

theorem growL_len (n : Nat) (ps : List Pp) (k : Nat) : (growL n ps k).length = n := by
  induction k with
  | zero => exact ident_len n
  | succ k ih =>
    rw [growL]
    split
    · exact ih
    · rw [relab_len]; exact ih

section
variable {n : Nat} {ps : List Pp} {k : Nat} {u v : Int}
theorem growL_no (h : treeF n ps k = false) : growL n ps (k + 1) = growL n ps k := by
  rw [growL, if_pos (by simpa [treeF] using h)]
theorem growL_yes (h : treeF n ps k = true) : growL n ps (k + 1) = relab (growL n ps k) (lab (growL n ps k) (ps.getD k zeroPp).to) (lab (growL n ps k) (ps.getD k zeroPp).fr) := by
  rw [growL, if_neg (by simpa [treeF] using h)]
theorem treeF_ne (h : treeF n ps k = true) : lab (growL n ps k) (ps.getD k zeroPp).fr ≠ lab (growL n ps k) (ps.getD k zeroPp).to := by simpa [treeF] using h
theorem treeF_eq (h : treeF n ps k = false) : lab (growL n ps k) (ps.getD k zeroPp).fr = lab (growL n ps k) (ps.getD k zeroPp).to := by simpa [treeF] using h
/-- the labels behind a pipe of the tree -/
theorem lab_yes (h : treeF n ps k = true) (h1 : v < n) (hn : 0 < n) : lab (growL n ps (k + 1)) v = if lab (growL n ps k) v = lab (growL n ps k) (ps.getD k zeroPp).to then lab (growL n ps k) (ps.getD k zeroPp).fr else lab (growL n ps k) v := by
  rw [growL_yes h, lab_relab _ _ (by rw [growL_len]; omega)]

theorem getD_ends (hE : ∀ p ∈ ps, endsIn n p) (hk : k < ps.length) : endsIn n (ps.getD k zeroPp) := by
  rw [List.getD_eq_getElem?_getD, List.getElem?_eq_getElem hk]
  exact hE _ (List.getElem_mem hk)

/-- a label is a node that has itself for its label -/
theorem lab_root (hE : ∀ p ∈ ps, endsIn n p) (hk : k ≤ ps.length) : ∀ v : Int, 0 ≤ v → v < n → (0 ≤ lab (growL n ps k) v ∧ lab (growL n ps k) v < n) ∧ lab (growL n ps k) (lab (growL n ps k) v) = lab (growL n ps k) v := by
  induction k with
  | zero =>
    intro v h0 h1
    have e : lab (growL n ps 0) v = v := lab_ident h0 h1
    rw [e, e]
    exact ⟨⟨h0, h1⟩, rfl⟩
  | succ k ih =>
    have ih := ih (by omega)
    obtain ⟨a0, a1, b0, b1, -⟩ := getD_ends hE (show k < ps.length by omega)
    intro v h0 h1
    cases ht : treeF n ps k with
    | false => rw [growL_no ht]; exact ih v h0 h1
    | true =>
      have hne := treeF_ne ht
      have f1 := ih _ a0 a1
      have t1 := ih _ b0 b1
      have v1 := ih v h0 h1
      have e1 : lab (growL n ps (k + 1)) v = if lab (growL n ps k) v = lab (growL n ps k) (ps.getD k zeroPp).to then lab (growL n ps k) (ps.getD k zeroPp).fr else lab (growL n ps k) v := lab_yes ht h1 (by omega)
      by_cases hv : lab (growL n ps k) v = lab (growL n ps k) (ps.getD k zeroPp).to
      · rw [if_pos hv] at e1
        rw [e1]
        refine ⟨f1.1, ?_⟩
        rw [lab_yes ht f1.1.2 (by omega), f1.2, if_neg hne]
      · rw [if_neg hv] at e1
        rw [e1]
        refine ⟨v1.1, ?_⟩
        rw [lab_yes ht v1.1.2 (by omega), v1.2, if_neg hv]

/-- what does not change along the pipes of the tree does not change within a piece -/
theorem piece_same {α : Type} (S : Int → α) (hE : ∀ p ∈ ps, endsIn n p) (hk : k ≤ ps.length) (hS : ∀ j, j < k → treeF n ps j = true → S (ps.getD j zeroPp).fr = S (ps.getD j zeroPp).to) :
    ∀ v : Int, 0 ≤ v → v < n → S (lab (growL n ps k) v) = S v := by
  induction k with
  | zero =>
    intro v h0 h1
    rw [show growL n ps 0 = ident n from rfl, lab_ident h0 h1]
  | succ k ih =>
    have ih := ih (by omega) fun j hj => hS j (by omega)
    obtain ⟨a0, a1, b0, b1, -⟩ := getD_ends hE (show k < ps.length by omega)
    intro v h0 h1
    cases ht : treeF n ps k with
    | false => rw [growL_no ht]; exact ih v h0 h1
    | true =>
      rw [lab_yes ht h1 (by omega)]
      by_cases hv : lab (growL n ps k) v = lab (growL n ps k) (ps.getD k zeroPp).to
      · rw [if_pos hv, ih _ a0 a1, hS k (by omega) ht, ← ih _ b0 b1, ← hv]
        exact ih v h0 h1
      · rw [if_neg hv]; exact ih v h0 h1

theorem lab_more (h0 : u < n) (h1 : v < n) (hn : 0 < n) (h : lab (growL n ps k) u = lab (growL n ps k) v) : lab (growL n ps (k + 1)) u = lab (growL n ps (k + 1)) v := by
  cases ht : treeF n ps k with
  | false => rw [growL_no ht]; exact h
  | true => rw [lab_yes ht h0 hn, lab_yes ht h1 hn, h]
theorem lab_mores (h0 : u < n) (h1 : v < n) (hn : 0 < n) (h : lab (growL n ps k) u = lab (growL n ps k) v) (m : Nat) : lab (growL n ps (k + m)) u = lab (growL n ps (k + m)) v := by
  induction m with
  | zero => exact h
  | succ m ih => exact lab_more h0 h1 hn ih
/-- the ends of each pipe that has been asked are joined -/
theorem lab_joined (hE : ∀ p ∈ ps, endsIn n p) {j : Nat} (hj : j < k) (hk : k ≤ ps.length) : lab (growL n ps k) (ps.getD j zeroPp).fr = lab (growL n ps k) (ps.getD j zeroPp).to := by
  obtain ⟨a0, a1, b0, b1, -⟩ := getD_ends hE (show j < ps.length by omega)
  have h : lab (growL n ps (j + 1)) (ps.getD j zeroPp).fr = lab (growL n ps (j + 1)) (ps.getD j zeroPp).to := by
    cases ht : treeF n ps j with
    | false => rw [growL_no ht]; exact treeF_eq ht
    | true => rw [lab_yes ht a1 (by omega), lab_yes ht b1 (by omega), if_pos rfl, if_neg (treeF_ne ht)]
  have := lab_mores a1 b1 (by omega) h (k - (j + 1))
  rwa [show j + 1 + (k - (j + 1)) = k by omega] at this
end

/-! ### how many labels are left -/
def rootF (L : List Int) (v : Nat) : Bool := decide (lab L v = v)
def rootsN (n : Nat) (L : List Int) : Int := nodeSum n fun v => if lab L v = (v : Int) then 1 else 0
theorem rootF_len (n : Nat) (L : List Int) : ((numW n (rootF L)).length : Int) = rootsN n L := by
  induction n with
  | zero => rfl
  | succ n ih =>
    rw [rootsN, nodeSum_succ]
    have e : nodeSum n (fun v => if lab L v = (v : Int) then 1 else 0) = rootsN n L := rfl
    rw [e, ← ih]
    cases h : rootF L n with
    | true =>
      rw [numW_yes h, if_pos (by simpa [rootF] using h)]; simp
    | false =>
      rw [numW_no h, if_neg (by simpa [rootF] using h)]; simp
theorem roots_len {n : Nat} {ps : List Pp} {k : Nat} (hE : ∀ p ∈ ps, endsIn n p) (hk : k ≤ ps.length) : rootsN n (growL n ps k) + (numW k (treeF n ps)).length = n := by
  induction k with
  | zero =>
    have e : rootsN n (growL n ps 0) = nodeSum n fun _ => 1 := nodeSum_congr fun v hv => by
      rw [show growL n ps 0 = ident n from rfl, lab_ident (by omega) (by omega), if_pos rfl]
    rw [e]
    have e1 : nodeSum n (fun _ => 1) = n := by
      clear e hE hk
      induction n with
      | zero => rfl
      | succ n ih => rw [nodeSum_succ, ih]; simp
    rw [e1]; simp [numW]
  | succ k ih =>
    have ih := ih (by omega)
    obtain ⟨a0, a1, b0, b1, -⟩ := getD_ends hE (show k < ps.length by omega)
    cases ht : treeF n ps k with
    | false => rw [growL_no ht, numW_no ht]; exact ih
    | true =>
      have hne := treeF_ne ht
      have f1 := lab_root hE (show k ≤ ps.length by omega) _ a0 a1
      have t1 := lab_root hE (show k ≤ ps.length by omega) _ b0 b1
      have e : rootsN n (growL n ps k) = nodeSum n (fun v => (if lab (growL n ps (k + 1)) v = (v : Int) then 1 else 0) + (if (v : Int) = lab (growL n ps k) (ps.getD k zeroPp).to then 1 else 0)) := by
        refine nodeSum_congr fun v hv => ?_
        rw [lab_yes ht (show (v : Int) < n by omega) (by omega)]
        have v1 := lab_root hE (show k ≤ ps.length by omega) (v : Int) (by omega) (by omega)
        by_cases hv1 : (v : Int) = lab (growL n ps k) (ps.getD k zeroPp).to
        · have e1 : lab (growL n ps k) v = lab (growL n ps k) (ps.getD k zeroPp).to := by rw [hv1]; exact t1.2
          rw [if_pos (by rw [e1]; exact hv1.symm), if_pos e1, if_neg (by rw [hv1]; exact hne), if_pos hv1]
          rfl
        · by_cases hv2 : lab (growL n ps k) v = lab (growL n ps k) (ps.getD k zeroPp).to
          · have hv3 : ¬ lab (growL n ps k) (ps.getD k zeroPp).fr = (v : Int) := fun h => by
              have : lab (growL n ps k) v = v := by rw [← h]; exact f1.2
              omega
            rw [if_neg (by rw [hv2]; exact fun h => hv1 h.symm), if_pos hv2, if_neg hv3, if_neg hv1]; rfl
          · rw [if_neg hv2, if_neg hv1, Int.add_zero]
      rw [e, nodeSum_add, nodeSum_one, if_pos t1.1] at ih
      have e2 : nodeSum n (fun v => if lab (growL n ps (k + 1)) v = (v : Int) then 1 else 0) = rootsN n (growL n ps (k + 1)) := rfl
      rw [e2] at ih
      rw [numW_yes ht]
      simp only [List.length_append, List.length_cons, List.length_nil]
      omega

/-! ### products -/
def prodI (a b : List Int) : Int := ((a.zip b).map fun q => q.1 * q.2).sum
def tensL (S : Int → Int) (ps : List Pp) : List Int := ps.map fun p => S p.to - S p.fr
theorem prodI_nil1 (b : List Int) : prodI [] b = 0 := by simp [prodI]
theorem prodI_nil2 (a : List Int) : prodI a [] = 0 := by simp [prodI]
theorem prodI_cons (x y : Int) (a b : List Int) : prodI (x :: a) (y :: b) = x * y + prodI a b := by simp [prodI]
theorem prodI_comm (a b : List Int) : prodI a b = prodI b a := by
  induction a generalizing b with
  | nil => rw [prodI_nil1, prodI_nil2]
  | cons x a ih =>
    cases b with
    | nil => rw [prodI_nil1, prodI_nil2]
    | cons y b => rw [prodI_cons, prodI_cons, ih, Int.mul_comm]

theorem nodeSum_at (n : Nat) (S : Int → Int) {a : Int} (x : Int) (h0 : 0 ≤ a) (h1 : a < n) : nodeSum n (fun v => S v * (if (v : Int) = a then x else 0)) = S a * x := by
  have e : nodeSum n (fun v => S v * (if (v : Int) = a then x else 0)) = nodeSum n (fun v => if (v : Int) = a then S a * x else 0) := nodeSum_congr fun v _ => by
    split
    · next h => rw [h]
    · simp
  rw [e, nodeSum_one, if_pos ⟨h0, h1⟩]
/-- the product of amounts and tensions is told by the excesses -/
theorem prod_pot {n : Nat} {ps : List Pp} (S : Int → Int) (z : List Int) (hE : ∀ p ∈ ps, endsIn n p) : prodI z (tensL S ps) = nodeSum n fun v => S v * exc v ps z := by
  induction ps generalizing z with
  | nil => rw [show tensL S [] = [] from rfl, prodI_nil2]; exact (nodeSum_zero _ _ fun v _ => by rw [exc_nil1]; simp).symm
  | cons p ps ih =>
    cases z with
    | nil => rw [prodI_nil1]; exact (nodeSum_zero _ _ fun v _ => by rw [exc_nil2]; simp).symm
    | cons x z =>
      obtain ⟨h0, h1, h2, h3, h4⟩ := hE p (by simp)
      have e : nodeSum n (fun v => S v * exc v (p :: ps) (x :: z)) = nodeSum n (fun v => (S v * (if (v : Int) = p.to then x else 0) + S v * (if (v : Int) = p.fr then -x else 0)) + S v * exc v ps z) := nodeSum_congr fun v _ => by
        rw [exc_cons, excT_two h4, Int.mul_add, Int.mul_add]
      rw [e, nodeSum_add, nodeSum_add, nodeSum_at _ _ _ h2 h3, nodeSum_at _ _ _ h0 h1, ← ih z fun q hq => hE q (by simp [hq]), show tensL S (p :: ps) = (S p.to - S p.fr) :: tensL S ps from rfl, prodI_cons]
      rw [Int.mul_neg, Int.mul_sub, Int.mul_comm x, Int.mul_comm x]
      omega

theorem prod_zero {a b : List Int} (h : ∀ j, j < a.length → a.getD j 0 * b.getD j 0 = 0) : prodI a b = 0 := by
  induction a generalizing b with
  | nil => exact prodI_nil1 b
  | cons x a ih =>
    cases b with
    | nil => exact prodI_nil2 _
    | cons y b =>
      rw [prodI_cons, ih fun j hj => by simpa using h (j + 1) (by simpa using hj)]
      have := h 0 (by simp)
      simp only [List.getD_cons_zero] at this
      rw [this]; rfl
/-- only one place of a row counts -/
theorem prod_only {a b : List Int} {k : Nat} (hk : k < a.length) (hl : a.length = b.length) (h : ∀ j, j < a.length → j ≠ k → a.getD j 0 * b.getD j 0 = 0) : prodI a b = a.getD k 0 * b.getD k 0 := by
  induction a generalizing b k with
  | nil => simp at hk
  | cons x a ih =>
    cases b with
    | nil => simp at hl
    | cons y b =>
      rw [prodI_cons]
      cases k with
      | zero =>
        rw [prod_zero fun j hj => by simpa using h (j + 1) (by simpa using hj) (by omega)]
        simp
      | succ k =>
        have h0 := h 0 (by simp) (by omega)
        simp only [List.getD_cons_zero] at h0
        rw [h0, ih (k := k) (by simpa using hk) (by simpa using hl) fun j hj hne => by
          have := h (j + 1) (by simpa using hj) (by omega)
          simpa using this]
        simp

theorem tens_at (S : Int → Int) {ps : List Pp} {j : Nat} (hj : j < ps.length) : (tensL S ps).getD j 0 = S (ps.getD j zeroPp).to - S (ps.getD j zeroPp).fr := by
  simp [tensL, List.getD_eq_getElem?_getD, hj]

/-- amounts in the tree alone, without any excess, are nothing -/
theorem tree_none {n : Nat} {ps : List Pp} {z : List Int} (hE : ∀ p ∈ ps, endsIn n p) (hl : z.length = ps.length) (hz : ∀ v : Nat, v < n → exc v ps z = 0) (k : Nat) (hk : k ≤ ps.length)
    (hs : ∀ j, j < ps.length → z.getD j 0 ≠ 0 → j < k ∧ treeF n ps j = true) : ∀ j, j < ps.length → z.getD j 0 = 0 := by
  induction k with
  | zero =>
    intro j hj
    rcases Int.decEq (z.getD j 0) 0 with h | h
    · exact absurd (hs j hj h).1 (by omega)
    · exact h
  | succ k ih =>
    cases ht : treeF n ps k with
    | false =>
      refine ih (by omega) fun j hj h => ?_
      obtain ⟨h1, h2⟩ := hs j hj h
      refine ⟨?_, h2⟩
      rcases Nat.lt_or_ge j k with h3 | h3
      · exact h3
      · have : j = k := by omega
        subst this
        rw [ht] at h2; cases h2
    | true =>
      have hkl : k < ps.length := by omega
      obtain ⟨a0, a1, b0, b1, -⟩ := getD_ends hE hkl
      have hp := prod_pot (fun v => if lab (growL n ps k) v = lab (growL n ps k) (ps.getD k zeroPp).to then 1 else 0) z hE
      rw [nodeSum_zero _ _ fun v hv => by rw [hz v hv, Int.mul_zero]] at hp
      have ho := prod_only (a := z) (b := tensL (fun v => if lab (growL n ps k) v = lab (growL n ps k) (ps.getD k zeroPp).to then 1 else 0) ps) (k := k) (by omega) (by simp [tensL, hl]) fun j hj hne => by
        rw [tens_at _ (by omega)]
        rcases Int.decEq (z.getD j 0) 0 with h | h
        · obtain ⟨h1, h2⟩ := hs j (by omega) h
          have := lab_joined (k := k) hE (show j < k by omega) (by omega)
          simp only [this]
          simp
        · rw [h]; simp
      rw [ho, tens_at _ hkl, if_pos rfl, if_neg (treeF_ne ht)] at hp
      refine ih (by omega) fun j hj h => ?_
      obtain ⟨h1, h2⟩ := hs j hj h
      refine ⟨?_, h2⟩
      rcases Nat.lt_or_ge j k with h3 | h3
      · exact h3
      · have : j = k := by omega
        subst this
        exact absurd (by omega) h

theorem ident_succ (k : Nat) : ident (k + 1) = ident k ++ [(k : Int)] := by simp [ident, List.range_succ]
/-- relabelled up to a node -/
def relabK (L : List Int) (g k : Int) : Nat → List Int
  | 0 => L
  | j + 1 => if (relabK L g k j).getD j 0 = g then (relabK L g k j).set j k else relabK L g k j
theorem relabK_len (L : List Int) (g k : Int) (j : Nat) : (relabK L g k j).length = L.length := by
  induction j with
  | zero => rfl
  | succ j ih => rw [relabK]; split <;> simp [ih]
theorem relabK_getD (L : List Int) (g k : Int) (j v : Nat) (hv : v < L.length) : (relabK L g k j).getD v 0 = if v < j ∧ L.getD v 0 = g then k else L.getD v 0 := by
  induction j with
  | zero => rw [if_neg (by omega)]; rfl
  | succ j ih =>
    rw [relabK]
    by_cases hj : j < L.length
    · have hlj := relabK_len L g k j
      by_cases hvj : v = j
      · subst hvj
        rw [if_neg (by omega)] at ih
        rw [ih]
        by_cases hg : L.getD v 0 = g
        · rw [if_pos hg, if_pos ⟨by omega, hg⟩, getD_set _ _ _ _ _ (by omega), if_pos rfl]
        · rw [if_neg hg, if_neg (fun h => hg h.2), ih]
      · have e : (if (relabK L g k j).getD j 0 = g then (relabK L g k j).set j k else relabK L g k j).getD v 0 = (relabK L g k j).getD v 0 := by
          split
          · rw [getD_set _ _ _ _ _ (by omega), if_neg (fun h => hvj h.symm)]
          · rfl
        rw [e, ih]
        by_cases hg : L.getD v 0 = g
        · by_cases hlt : v < j
          · rw [if_pos ⟨hlt, hg⟩, if_pos ⟨by omega, hg⟩]
          · rw [if_neg (fun h => hlt h.1), if_neg (fun h => hlt (by omega))]
        · rw [if_neg (fun h => hg h.2), if_neg (fun h => hg h.2)]
    · have e : (if (relabK L g k j).getD j 0 = g then (relabK L g k j).set j k else relabK L g k j).getD v 0 = (relabK L g k j).getD v 0 := by
        split
        · rw [List.set_eq_of_length_le (by rw [relabK_len]; omega)]
        · rfl
      rw [e, ih]
      by_cases hg : L.getD v 0 = g
      · rw [if_pos ⟨by omega, hg⟩, if_pos ⟨by omega, hg⟩]
      · rw [if_neg (fun h => hg h.2), if_neg (fun h => hg h.2)]
theorem relabK_all (L : List Int) (g k : Int) {n : Nat} (hn : L.length = n) : relabK L g k n = relab L g k := by
  subst hn
  refine ext_getD (by rw [relabK_len, relab_len]) fun v hv => ?_
  rw [relabK_len] at hv
  rw [relabK_getD _ _ _ _ _ hv]
  have e := lab_relab (L := L) (v := (v : Int)) g k (by simpa using hv)
  simp only [lab, Int.toNat_natCast] at e
  rw [e]
  by_cases hg : L.getD v 0 = g
  · rw [if_pos ⟨hv, hg⟩]; exact (if_pos hg).symm
  · rw [if_neg (fun h => hg h.2)]; exact (if_neg hg).symm

end Go.Proofs.Ytdbfpdanoclgmaa
