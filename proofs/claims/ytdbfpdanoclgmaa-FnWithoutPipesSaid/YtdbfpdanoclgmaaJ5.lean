/- Plain facts, chapter 7: labels as the given model keeps them, laid anew from the tree each time. -/
import Derived.Test.YtdbfpdanoclgmaaJ2
namespace Go.Proofs.Ytdbfpdanoclgmaa
open Go.RowKit

def sLab1 (ps : List Pp) (M : List Int) (t : Int) : List Int := relab M (max (lab M (ps.getD t.toNat zeroPp).fr) (lab M (ps.getD t.toNat zeroPp).to)) (min (lab M (ps.getD t.toNat zeroPp).fr) (lab M (ps.getD t.toNat zeroPp).to))
def sLabs (n : Nat) (ps : List Pp) (T : List Int) : List Int := T.foldl (sLab1 ps) (ident n)
/-- two rows of labels that join the same nodes -/
def sameK (n : Nat) (L M : List Int) : Prop := ∀ u v : Int, 0 ≤ u → u < n → 0 ≤ v → v < n → (lab L u = lab L v ↔ lab M u = lab M v)

theorem sLabs_len (n : Nat) (ps : List Pp) (T : List Int) : (sLabs n ps T).length = n := by
  unfold sLabs
  have h : ∀ (T : List Int) (M : List Int), M.length = n → (T.foldl (sLab1 ps) M).length = n := by
    intro T
    induction T with
    | nil => intro M h; exact h
    | cons t T ih => intro M h; exact ih _ (by rw [sLab1, relab_len]; exact h)
  exact h T _ (ident_len n)
theorem sLabs_snoc (n : Nat) (ps : List Pp) (T : List Int) (t : Int) : sLabs n ps (T ++ [t]) = sLab1 ps (sLabs n ps T) t := by simp [sLabs, List.foldl_append]
theorem sLabs_take (n : Nat) (ps : List Pp) (T : List Int) (k : Nat) (hk : k < T.length) : sLabs n ps (T.take (k + 1)) = sLab1 ps (sLabs n ps (T.take k)) T[k] := by
  rw [List.take_succ_eq_append_getElem hk, sLabs_snoc]

theorem join_same {n : Nat} {L M : List Int} {f t : Int} (hL : L.length = n) (hM : M.length = n) (h : sameK n L M) (f0 : 0 ≤ f) (f1 : f < n) (t0 : 0 ≤ t) (t1 : t < n) (hne : lab L f ≠ lab L t) :
    sameK n (relab L (lab L t) (lab L f)) (relab M (max (lab M f) (lab M t)) (min (lab M f) (lab M t))) := by
  intro u v u0 u1 v0 v1
  rw [lab_relab _ _ (by omega), lab_relab _ _ (by omega), lab_relab _ _ (by omega), lab_relab _ _ (by omega)]
  have e0 := h f t f0 f1 t0 t1
  have e1 := h u v u0 u1 v0 v1
  have e2 := h u f u0 u1 f0 f1
  have e3 := h u t u0 u1 t0 t1
  have e4 := h v f v0 v1 f0 f1
  have e5 := h v t v0 v1 t0 t1
  generalize lab L f = lf at *
  generalize lab L t = lt at *
  generalize lab L u = lu at *
  generalize lab L v = lv at *
  generalize lab M f = mf at *
  generalize lab M t = mt at *
  generalize lab M u = mu at *
  generalize lab M v = mv at *
  rcases Int.lt_trichotomy mf mt with hlt | hlt | hlt
  · rw [Int.max_eq_right (by omega), Int.min_eq_left (by omega)]
    split <;> split <;> split <;> split <;> omega
  · exact absurd (e0.2 hlt) hne
  · rw [Int.max_eq_left (by omega), Int.min_eq_right (by omega)]
    split <;> split <;> split <;> split <;> omega

theorem grow_same {n : Nat} {ps : List Pp} {k : Nat} (hE : ∀ p ∈ ps, endsIn n p) (hk : k ≤ ps.length) : sameK n (growL n ps k) (sLabs n ps (numW k (treeF n ps))) := by
  induction k with
  | zero => intro u v _ _ _ _; exact Iff.rfl
  | succ k ih =>
    have ih := ih (by omega)
    obtain ⟨a0, a1, b0, b1, -⟩ := getD_ends hE (show k < ps.length by omega)
    cases ht : treeF n ps k with
    | false => rw [growL_no ht, numW_no ht]; exact ih
    | true =>
      rw [growL_yes ht, numW_yes ht, sLabs_snoc, sLab1, Int.toNat_natCast]
      exact join_same (growL_len _ _ _) (sLabs_len _ _ _) ih a0 a1 b0 b1 (treeF_ne ht)
/-- a pipe is of the tree just if the model's labels of its ends differ -/
theorem treeF_labs {n : Nat} {ps : List Pp} {k : Nat} (hE : ∀ p ∈ ps, endsIn n p) (hk : k < ps.length) : treeF n ps k = !decide (lab (sLabs n ps (numW k (treeF n ps))) (ps.getD k zeroPp).fr = lab (sLabs n ps (numW k (treeF n ps))) (ps.getD k zeroPp).to) := by
  obtain ⟨a0, a1, b0, b1, -⟩ := getD_ends hE hk
  have h := grow_same (k := k) hE (by omega) (ps.getD k zeroPp).fr (ps.getD k zeroPp).to a0 a1 b0 b1
  unfold treeF
  rw [decide_eq_decide.2 h]
  rfl

end Go.Proofs.Ytdbfpdanoclgmaa
