/- Plain facts, chapter 7: pieces of turned nets, and of nets without the last pipe. -/
import Derived.Test.YtphbmlephldaaaaJ5
namespace Go.Proofs.Ytphbmlephldaaaa
open Go.RowKit

theorem netOk_take {n : Int} {ps : List Pp} (h : netOkB n ps = true) (L : Nat) : netOkB n (ps.take L) = true := by
  simp only [netOkB, Bool.and_eq_true, decide_eq_true_eq, List.all_eq_true] at h ⊢
  refine ⟨⟨h.1.1, ?_⟩, fun p hp => h.2 p (List.mem_of_mem_take hp)⟩
  rw [List.length_take]
  have := h.1.2
  omega
theorem take_getD7 {ps : List Pp} {L k : Nat} (hk : k < L) : (ps.take L).getD k zeroPp = ps.getD k zeroPp := by
  simp [List.getD_eq_getElem?_getD, hk]
theorem growL_take {n : Nat} {ps : List Pp} {L : Nat} (k : Nat) (hk : k ≤ L) : growL n (ps.take L) k = growL n ps k := by
  induction k with
  | zero => rfl
  | succ k ih =>
    have ih := ih (by omega)
    rw [growL, growL, ih, take_getD7 (show k < L by omega)]
theorem treeF_take {n : Nat} {ps : List Pp} {L k : Nat} (hk : k < L) : treeF n (ps.take L) k = treeF n ps k := by
  unfold treeF
  rw [growL_take k (by omega), take_getD7 hk]
theorem numW_congr {c : Nat} {f g : Nat → Bool} (h : ∀ k, k < c → f k = g k) : numW c f = numW c g := by
  induction c with
  | zero => rfl
  | succ c ih =>
    have ih := ih fun k hk => h k (by omega)
    have hc := h c (by omega)
    cases hf : f c with
    | true => rw [numW_yes hf, numW_yes (by rw [← hc, hf]), ih]
    | false => rw [numW_no hf, numW_no (by rw [← hc, hf]), ih]
/-- without the last pipe there are as many pieces, or one more -/
theorem pieces_last {n : Int} {ps : List Pp} {L : Nat} (h : netOkB n ps = true) (hL : ps.length = L + 1) : piecesI n (ps.take L) = piecesI n ps ∨ piecesI n (ps.take L) = piecesI n ps + 1 := by
  have h1 := netOk_take h L
  have hl : (ps.take L).length = L := by rw [List.length_take]; omega
  have e : treeL n.toNat (ps.take L) = numW L (treeF n.toNat ps) := by
    rw [treeL, hl]
    exact numW_congr fun k hk => treeF_take hk
  rw [piecesI, piecesI, if_pos h, if_pos h1, e, treeL, hL]
  cases ht : treeF n.toNat ps L with
  | true =>
    right
    rw [numW_yes ht, List.length_append]
    simp
    omega
  | false => left; rw [numW_no ht]

theorem join_turn {n : Nat} {L M : List Int} {f t : Int} (hL : L.length = n) (hM : M.length = n) (h : sameK n L M) (f0 : 0 ≤ f) (f1 : f < n) (t0 : 0 ≤ t) (t1 : t < n) :
    sameK n (relab L (lab L t) (lab L f)) (relab M (lab M f) (lab M t)) := by
  intro u v u0 u1 v0 v1
  rw [lab_relab _ _ (by omega), lab_relab _ _ (by omega), lab_relab _ _ (by omega), lab_relab _ _ (by omega)]
  have e0 := h f t f0 f1 t0 t1
  have e1 := h u v u0 u1 v0 v1
  have e2 := h u f u0 u1 f0 f1
  have e3 := h u t u0 u1 t0 t1
  have e4 := h v f v0 v1 f0 f1
  have e5 := h v t v0 v1 t0 t1
  generalize lab L f = lf at *
  generalize lab L t = lt at *
  generalize lab L u = lu at *
  generalize lab L v = lv at *
  generalize lab M f = mf at *
  generalize lab M t = mt at *
  generalize lab M u = mu at *
  generalize lab M v = mv at *
  split <;> split <;> split <;> split <;> omega
theorem turn_getD7 {ps : List Pp} {k : Nat} (hk : k < ps.length) : (ps.map turnP).getD k zeroPp = turnP (ps.getD k zeroPp) := by
  simp [List.getD_eq_getElem?_getD, hk]
theorem grow_turn {n : Nat} {ps : List Pp} {k : Nat} (hE : ∀ p ∈ ps, endsIn n p) (hk : k ≤ ps.length) : sameK n (growL n ps k) (growL n (ps.map turnP) k) := by
  induction k with
  | zero => intro u v _ _ _ _; exact Iff.rfl
  | succ k ih =>
    have ih := ih (by omega)
    obtain ⟨a0, a1, b0, b1, -⟩ := getD_ends hE (show k < ps.length by omega)
    have hg := turn_getD7 (ps := ps) (show k < ps.length by omega)
    have he := ih _ _ a0 a1 b0 b1
    have ef : (turnP (ps.getD k zeroPp)).fr = (ps.getD k zeroPp).to := rfl
    have et : (turnP (ps.getD k zeroPp)).to = (ps.getD k zeroPp).fr := rfl
    cases ht : treeF n ps k with
    | false =>
      have ht' : treeF n (ps.map turnP) k = false := by
        have h1 := he.1 (treeF_eq ht)
        unfold treeF
        rw [hg, ef, et, h1]
        simp
      rw [growL_no ht, growL_no ht']
      exact ih
    | true =>
      have ht' : treeF n (ps.map turnP) k = true := by
        have h1 := treeF_ne ht
        unfold treeF
        rw [hg, ef, et, decide_eq_false (fun h => h1 (he.2 h.symm))]
        rfl
      rw [growL_yes ht, growL_yes ht', hg, ef, et]
      exact join_turn (growL_len _ _ _) (growL_len _ _ _) ih a0 a1 b0 b1
theorem treeF_turn {n : Nat} {ps : List Pp} {k : Nat} (hE : ∀ p ∈ ps, endsIn n p) (hk : k < ps.length) : treeF n (ps.map turnP) k = treeF n ps k := by
  obtain ⟨a0, a1, b0, b1, -⟩ := getD_ends hE hk
  have he := grow_turn (k := k) hE (by omega) _ _ a0 a1 b0 b1
  unfold treeF
  rw [turn_getD7 hk, show (turnP (ps.getD k zeroPp)).fr = (ps.getD k zeroPp).to from rfl, show (turnP (ps.getD k zeroPp)).to = (ps.getD k zeroPp).fr from rfl]
  congr 1
  rw [decide_eq_decide]
  exact ⟨fun h => he.2 h.symm, fun h => (he.1 h).symm⟩
/-- turned, a net falls into as many pieces -/
theorem pieces_turn {n : Int} {ps : List Pp} (h : netOkB n ps = true) : piecesI n (ps.map turnP) = piecesI n ps := by
  rw [piecesI, piecesI, if_pos h, if_pos (by rw [netOk_turn]; exact h), treeL, treeL, turn_len, numW_congr fun k hk => treeF_turn (net_ends' h) hk]

theorem nodeSum_ge {n : Nat} {f : Nat → Int} (h : ∀ k, k < n → 0 ≤ f k) {a : Nat} (ha : a < n) : f a ≤ nodeSum n f := by
  induction n with
  | zero => omega
  | succ n ih =>
    rw [nodeSum_succ]
    have hn := h n (by omega)
    rcases Nat.lt_or_ge a n with hlt | hge
    · have := ih (fun k hk => h k (by omega)) hlt
      omega
    · have : a = n := by omega
      subst this
      have h0 : 0 ≤ nodeSum a f := by
        clear ih ha hge
        induction a with
        | zero => exact Int.le_refl _
        | succ a iha =>
          rw [nodeSum_succ]
          have := h a (by omega)
          have := iha (fun k hk => h k (by omega)) (h a (by omega))
          omega
      omega
/-- there is at least one piece -/
theorem pieces_pos {n : Int} {ps : List Pp} (h : netOkB n ps = true) : 1 ≤ piecesI n ps := by
  obtain ⟨n2, n5, -, -⟩ := netOk_parts h
  have hE := net_ends' h
  have hr := roots_len (k := ps.length) hE (Nat.le_refl _)
  obtain ⟨⟨l0, l1⟩, l2⟩ := lab_root (k := ps.length) hE (Nat.le_refl _) 0 (Int.le_refl _) (by have := toNat_n h; omega)
  have hg := nodeSum_ge (n := n.toNat) (f := fun v => if lab (growL n.toNat ps ps.length) v = (v : Int) then 1 else 0) (fun k _ => by split <;> omega) (a := (lab (growL n.toNat ps ps.length) 0).toNat) (by omega)
  have e : (((lab (growL n.toNat ps ps.length) 0).toNat : Nat) : Int) = lab (growL n.toNat ps ps.length) 0 := by omega
  simp only [e, l2, if_true] at hg
  have e2 : nodeSum n.toNat (fun v => if lab (growL n.toNat ps ps.length) v = (v : Int) then 1 else 0) = rootsN n.toNat (growL n.toNat ps ps.length) := rfl
  rw [e2] at hg
  rw [piecesI, if_pos h]
  have := toNat_n h
  unfold treeL
  omega

end Go.Proofs.Ytphbmlephldaaaa
