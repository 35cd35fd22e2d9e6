/- Plain facts of chapter 11: fewest blocks. -/
import Derived.Test.YtabkhpeoeihmmaaCA
namespace Go.Proofs.Ytabkhpeoeihmmaa
open Go.RowKit

theorem numW_same {c : Nat} {f g : Nat → Bool} (h : ∀ k, k < c → f k = g k) : numW c f = numW c g := by
  induction c with
  | zero => rfl
  | succ c ih =>
    have ih := ih fun k hk => h k (by omega)
    have hc := h c (by omega)
    cases hf : f c with
    | true => rw [numW_yes hf, numW_yes (by rw [← hc, hf]), ih]
    | false => rw [numW_no hf, numW_no (by rw [← hc, hf]), ih]
theorem numW_filter (c : Nat) (f : Nat → Bool) (g : Int → Bool) : (numW c f).filter g = numW c fun k => f k && g (k : Int) := by
  induction c with
  | zero => rfl
  | succ c ih =>
    cases hf : f c with
    | false => rw [numW_no hf, numW_no (by simp [hf]), ih]
    | true =>
      cases hg : g (c : Int) with
      | false => rw [numW_yes hf, numW_no (by simp [hg]), List.filter_append, ih]; simp [hg]
      | true => rw [numW_yes hf, numW_yes (by simp [hf, hg]), List.filter_append, ih]; simp [hg]

/-- pipes that leave a side and hold something -/
def heldF (s : Int) (us : List Pp) (k : Nat) : Bool := leavF s us k && decide (0 < (us.getD k zeroPp).mo)
def blkL (s : Int) (us : List Pp) : List Int := numW us.length (heldF s us)
/-- one unit at most in each pipe -/
def unitB (us : List Pp) : Prop := ∀ k, k < us.length → (us.getD k zeroPp).le = 0 ∧ 0 ≤ (us.getD k zeroPp).mo ∧ (us.getD k zeroPp).mo ≤ 1

section
variable {n a b s : Int} {ps us : List Pp} {xs : List Int} {k : Nat}
theorem unit_unitB (h : netOkB n ps = true) : unitB (ps.map unitP) := fun k hk => by
  have hk' : k < ps.length := by simpa using hk
  have := pipeOk_iff.1 ((netOk_parts h).2.2.2 _ (List.getElem_mem hk'))
  rw [unit_getD ps hk', List.getD_eq_getElem?_getD, List.getElem?_eq_getElem hk']
  show (0 : Int) = 0 ∧ 0 ≤ min ps[k].mo 1 ∧ min ps[k].mo 1 ≤ 1
  omega
theorem getD_el (hk : k < us.length) : us.getD k zeroPp = us[k] := by rw [List.getD_eq_getElem?_getD, List.getElem?_eq_getElem hk]; rfl
theorem blk_len (hu : unitB us) : ((blkL s us).length : Int) = room s us := by
  have key : ∀ j, j ≤ us.length → ((numW j (heldF s us)).length : Int) = room s (us.take j) := by
    intro j
    induction j with
    | zero => intro _; simp [numW, room]
    | succ j ih =>
      intro hj
      have hjl : j < us.length := by omega
      have ih := ih (by omega)
      obtain ⟨u1, u2, u3⟩ := hu j hjl
      rw [getD_el hjl] at u1 u2 u3
      rw [room_snoc s us j hjl, ← ih]
      by_cases hl : partsB s us[j].fr us[j].to = true
      · rw [acT_out hl]
        by_cases hm : 0 < us[j].mo
        · rw [numW_yes (by rw [heldF, leavF_at hjl, hl, getD_el hjl]; simpa using hm)]
          simp only [List.length_append, List.length_singleton]
          omega
        · rw [numW_no (by rw [heldF, leavF_at hjl, hl, getD_el hjl]; simpa using hm)]
          omega
      · have hl : partsB s us[j].fr us[j].to = false := by simpa using hl
        rw [numW_no (by rw [heldF, leavF_at hjl, hl]; rfl)]
        by_cases hb : partsB s us[j].to us[j].fr = true
        · rw [acT_back hl hb, u1]; omega
        · rw [acT_no hl (by simpa using hb)]; omega
  have := key us.length (Nat.le_refl _)
  rw [List.take_length] at this
  exact this
theorem blk_nodup (s : Int) (us : List Pp) : (blkL s us).Nodup := (numW_pair _ _).imp fun h e => by omega
theorem blk_mem {x : Int} : x ∈ blkL s us ↔ ∃ i : Nat, i < us.length ∧ heldF s us i = true ∧ x = (i : Int) := numW_mem
theorem heldF_out (hk : k < us.length) : heldF s (outL xs us) k = (heldF s us k && !decide ((k : Int) ∈ xs)) := by
  have hk' : k < (outL xs us).length := by rw [outL_len]; exact hk
  rw [heldF, heldF, leavF_at hk, leavF_at hk', outL_at xs hk, outL_getD xs hk]
  unfold outP
  by_cases hm : (k : Int) ∈ xs
  · simp [hm]
  · simp [hm]
theorem blk_out (s : Int) (us : List Pp) (xs : List Int) : blkL s (outL xs us) = (blkL s us).filter fun x => !decide (x ∈ xs) := by
  rw [blkL, blkL, outL_len, numW_filter]
  exact numW_same fun k hk => heldF_out hk
theorem blk_filter (hu : unitB us) (hs : sideB n us s = true) : ((leavingL n us s).filter fun x => !((us.getD x.toNat zeroPp).mo == 0)) = blkL s us := by
  rw [leaving_yes hs, numW_filter]
  refine numW_same fun k hk => ?_
  have := hu k hk
  rw [heldF]
  congr 1
  rw [Int.toNat_natCast, Bool.eq_iff_iff]
  simp only [Bool.not_eq_true', beq_eq_false_iff_ne, decide_eq_true_eq]
  omega
theorem leaving_at (hs : sideB n us s = true) {x : Int} (hx : x ∈ leavingL n us s) : ∃ k : Nat, x = (k : Int) ∧ k < us.length := by
  rw [leaving_yes hs] at hx
  obtain ⟨i, hi, -, e⟩ := numW_mem.1 hx
  exact ⟨i, e, hi⟩
theorem outB_unit (hu : unitB us) (xs : List Int) : unitB (outL xs us) := fun k hk => by
  have hk' : k < us.length := by rwa [outL_len] at hk
  rw [outL_getD xs hk']
  have := hu k hk'
  unfold outP
  split
  · exact ⟨rfl, by show (0 : Int) ≤ 0; omega, by show (0 : Int) ≤ 1; omega⟩
  · exact this
theorem mem_one (x : Int) : (fun y : Int => !decide (y ∈ [x])) = fun y => !decide (y = x) := funext fun y => by simp
theorem filter_one (x : Int) : ∀ l : List Int, l.Nodup → (l.filter fun y => !decide (y = x)).length + (if x ∈ l then 1 else 0) = l.length
  | [], _ => by simp
  | y :: l, h => by
    obtain ⟨h1, h2⟩ := List.nodup_cons.1 h
    have ih := filter_one x l h2
    by_cases e : y = x
    · subst e
      rw [if_neg h1] at ih
      rw [List.filter_cons_of_neg (by simp), if_pos (by simp)]
      simp only [List.length_cons]
      omega
    · have e' : x ≠ y := fun h => e h.symm
      rw [List.filter_cons_of_pos (by simpa using e)]
      simp only [List.length_cons, List.mem_cons, e', false_or]
      omega
theorem least_blk (he : endsB n us a b = true) (hu : unitB us) : 0 ≤ leastI n us a b := by
  obtain ⟨s, -, -, -, e⟩ := least_at he
  rw [e, ← blk_len hu]
  exact Int.natCast_nonneg _
theorem ends_out (he : endsB n us a b = true) (xs : List Int) : endsB n (outL xs us) a b = true := by
  have hn := (ends_parts he).1
  simp only [endsB, Bool.and_eq_true] at he ⊢
  exact ⟨⟨⟨out_net xs hn, he.1.1.2⟩, he.1.2⟩, he.2⟩
/-- without one of the blocks there is one less -/
theorem least_less (he : endsB n us a b = true) (hu : unitB us) (hs : s ∈ narrowL n us a b) {x : Int} (hx : x ∈ blkL s us) : leastI n (outL [x] us) a b = leastI n us a b - 1 := by
  obtain ⟨s0, s1, sp, se⟩ := (narrow_mem he).1 hs
  have h1 := least_le (ps := outL [x] us) s0 s1 sp
  have hc := filter_one x (blkL s us) (blk_nodup s us)
  rw [if_pos hx] at hc
  rw [← blk_len (outB_unit hu [x]), blk_out, mem_one] at h1
  have h2 := blk_len (s := s) hu
  obtain ⟨t, t0, t1, tp, te⟩ := least_at (ends_out he [x])
  have h3 := least_le (ps := us) t0 t1 tp
  have hd := filter_one x (blkL t us) (blk_nodup t us)
  rw [← blk_len (outB_unit hu [x]), blk_out, mem_one] at te
  have h4 := blk_len (s := t) hu
  have h5 : (if x ∈ blkL t us then 1 else 0) ≤ 1 := by split <;> omega
  omega
/-- without all blocks there is nothing -/
theorem least_none (he : endsB n us a b = true) (hu : unitB us) (hs : s ∈ narrowL n us a b) : leastI n (outL (blkL s us) us) a b = 0 := by
  obtain ⟨s0, s1, sp, se⟩ := (narrow_mem he).1 hs
  have h1 := least_le (ps := outL (blkL s us) us) s0 s1 sp
  rw [← blk_len (outB_unit hu _), blk_out, List.filter_eq_nil_iff.2 (fun x hx => by simp [hx])] at h1
  have h2 := least_blk (ends_out he (blkL s us)) (outB_unit hu _)
  simp at h1
  omega

def fewB (n : Int) (ps : List Pp) (a b : Int) : Bool := endsB n ps a b
def fewS (n : Int) (us : List Pp) (a b : Int) : Int := (narrowL n us a b).getD 0 0
def fewR (n : Int) (ps : List Pp) (a b : Int) : List Int := if endsB n ps a b = true then blkL (fewS n (ps.map unitP) a b) (ps.map unitP) else []

theorem fewR_len (n : Int) (ps : List Pp) (a b : Int) : (fewR n ps a b).length ≤ ps.length := by
  unfold fewR
  split
  · have := numW_len (ps.map unitP).length (heldF (fewS n (ps.map unitP) a b) (ps.map unitP))
    rw [List.length_map] at this
    rw [blkL, List.length_map]
    exact this
  · simp
theorem few_side (he : endsB n us a b = true) : fewS n us a b ∈ narrowL n us a b := by
  have h := narrow_some he
  rw [fewS, List.getD_eq_getElem?_getD, List.getElem?_eq_getElem h]
  exact List.getElem_mem h
theorem unit_ends2 (he : endsB n ps a b = true) : endsB n (ps.map unitP) a b = true := by
  have hn := (ends_parts he).1
  simp only [endsB, Bool.and_eq_true] at he ⊢
  exact ⟨⟨⟨unit_net hn, he.1.1.2⟩, he.1.2⟩, he.2⟩
end

end Go.Proofs.Ytabkhpeoeihmmaa
