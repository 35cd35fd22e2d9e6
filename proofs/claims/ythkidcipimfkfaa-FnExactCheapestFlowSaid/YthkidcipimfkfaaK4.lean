/- Plain facts, chapter 6: pushes round rings that gain; the cheapest flow. -/
import Derived.Test.YthkidcipimfkfaaK3
namespace Go.Proofs.Ythkidcipimfkfaa
open Go.RowKit

theorem costS_set (ps : List Pp) (xs : List Int) (k : Nat) (y : Int) (hk : k < ps.length) (hx : k < xs.length) : costS ps (xs.set k (xs.getD k 0 + y)) = costS ps xs + y * ps[k].co := by
  induction ps generalizing xs k with
  | nil => simp at hk
  | cons p ps ih =>
    cases xs with
    | nil => simp at hx
    | cons x xs =>
      cases k with
      | zero => simp [costS_cons, costT, Int.add_mul]; omega
      | succ k =>
        have := ih xs k (by simpa using hk) (by simpa using hx)
        simp only [List.set_cons_succ, costS_cons, List.getElem_cons_succ, List.getD_cons_succ]
        omega

section
variable {n : Int} {ps : List Pp} {xs : List Int}

theorem costS_push1 {d : Int} {s : Nat} (hl : xs.length = ps.length) (hs : s < 2 * ps.length) : costS ps (push1 d xs s) = costS ps xs + d * stCo ps s := by
  have hk : s / 2 < ps.length := by omega
  have e : ps.getD (s / 2) zeroPp = ps[s / 2] := by simp [List.getD, List.getElem?_eq_getElem hk]
  unfold push1 stCo
  rw [e]
  split
  · rw [Int.sub_eq_add_neg, costS_set _ _ _ _ hk (by omega), Int.neg_mul, Int.mul_neg]
  · rw [costS_set _ _ _ _ hk (by omega)]

theorem costS_pushL {d : Int} {l : List Nat} (hl : xs.length = ps.length) (hs : ∀ s ∈ l, s < 2 * ps.length) : costS ps (pushL d xs l) = costS ps xs + d * coL ps l := by
  induction l generalizing xs with
  | nil => simp [pushL, coL]
  | cons s l ih =>
    have h1 := ih (xs := push1 d xs s) (by rw [push1_len]; exact hl) (fun t ht => hs t (by simp [ht]))
    rw [costS_push1 hl (hs s (by simp))] at h1
    rw [coL_cons, Int.mul_add]
    have e : pushL d xs (s :: l) = pushL d (push1 d xs s) l := rfl
    rw [e, h1]
    omega

def gainA (n : Int) (ps : List Pp) (xs : List Int) : Int := roomL ps xs 4 (gainR n ps xs)
/-- what CheaperFlow answers -/
def cheapR (n : Int) (ps : List Pp) (xs : List Int) : List Int := if gainsB n ps xs = true then pushL (gainA n ps xs) xs (gainR n ps xs) else []

theorem gain_some (h : gainsB n ps xs = true) : gainO n ps xs = some (gainR n ps xs) := by
  unfold gainsB at h
  unfold gainR
  cases e : gainO n ps xs with
  | none => simp [e] at h
  | some r => rfl

theorem gains_holds (h : gainsB n ps xs = true) : holdsB n ps xs = true := (gain_ring (gain_some h)).1
theorem gains_no (h : holdsB n ps xs = false) : gainsB n ps xs = false := by simp [gainsB, gainO, h]
theorem gainR_no (h : gainsB n ps xs = false) : gainR n ps xs = [] := by
  unfold gainsB at h
  unfold gainR
  cases e : gainO n ps xs with
  | none => rfl
  | some r => simp [e] at h
theorem gainI_no (h : gainsB n ps xs = false) : gainI n ps xs = [] := by rw [gainI, gainR_no h]; rfl

theorem gainR_ok (h : gainsB n ps xs = true) : ringK ps (stL ps xs) (gainR n ps xs) ∧ coL ps (gainR n ps xs) < 0 ∧ 2 ≤ (gainR n ps xs).length ∧ ((gainR n ps xs).length : Int) ≤ n := (gain_ring (gain_some h)).2

theorem gainR_len (n : Int) (ps : List Pp) (xs : List Int) : (gainR n ps xs).length ≤ 5 := by
  by_cases h : gainsB n ps xs = true
  · have h1 := (gainR_ok h).2.2.2
    have h2 := netOk_parts (holds_net (gains_holds h))
    omega
  · rw [gainR_no (by simpa using h)]; simp

theorem gainI_len (n : Int) (ps : List Pp) (xs : List Int) : (gainI n ps xs).length ≤ 5 := by
  rw [gainI, List.length_map]; exact gainR_len n ps xs

theorem gainR_mem (h : gainsB n ps xs = true) : ∀ s ∈ gainR n ps xs, s < 2 * ps.length ∧ 0 < stRoom ps xs s := fun s hs => stL_mem.1 ((gainR_ok h).1.2.1 s hs)

theorem gainA_pos (h : gainsB n ps xs = true) : 1 ≤ gainA n ps xs ∧ gainA n ps xs ≤ 4 ∧ ∀ s ∈ gainR n ps xs, gainA n ps xs ≤ stRoom ps xs s := by
  obtain ⟨h1, h2, h3⟩ := roomL_le ps xs (gainR n ps xs) 4
  unfold gainA
  refine ⟨?_, h1, h2⟩
  rcases h3 with h3 | ⟨s, hs, h3⟩
  · omega
  · have := (gainR_mem h s hs).2; omega

theorem gainA40 (h : gainsB n ps xs = true) : roomL ps xs 40 (gainR n ps xs) = gainA n ps xs := by
  obtain ⟨h1, h2, h3⟩ := roomL_le ps xs (gainR n ps xs) 40
  obtain ⟨g1, g2, g3⟩ := roomL_le ps xs (gainR n ps xs) 4
  have hh := gains_holds h
  have hn := holds_net hh
  have hi := (holds_inB hn).1 hh
  have hl := (gainR_ok h).2.2.1
  unfold gainA
  obtain ⟨s, hs⟩ : ∃ s, s ∈ gainR n ps xs := List.exists_mem_of_length_pos (by omega)
  have q1 := h2 s hs
  have q2 := stRoom_le hn hi (gainR_mem h s hs).1
  apply Int.le_antisymm
  · rcases g3 with g3 | ⟨t, ht, g3⟩
    · omega
    · rw [g3]; exact h2 t ht
  · rcases h3 with h3 | ⟨t, ht, h3⟩
    · omega
    · rw [h3]; exact g2 t ht

theorem cheap_yes (h : gainsB n ps xs = true) : cheapR n ps xs = pushL (gainA n ps xs) xs (gainR n ps xs) := by rw [cheapR, if_pos h]
theorem cheap_no (h : gainsB n ps xs = false) : cheapR n ps xs = [] := by rw [cheapR, if_neg (by simp [h])]

theorem gain_facts (h : gainsB n ps xs = true) : ps.length ≤ 7 ∧ xs.length = ps.length ∧ 0 < xs.length ∧ (∀ x ∈ xs, 0 ≤ x ∧ x ≤ 40) ∧ (∀ p ∈ ps, 0 ≤ p.le ∧ p.le ≤ p.mo ∧ p.mo ≤ 4) ∧
    (∀ s ∈ gainR n ps xs, s < 2 * ps.length) ∧ (∀ k j, 0 ≤ (pushL (gainA n ps xs) xs ((gainR n ps xs).take k)).getD j 0 ∧ (pushL (gainA n ps xs) xs ((gainR n ps xs).take k)).getD j 0 ≤ 40) ∧ 0 ≤ gainA n ps xs ∧ gainA n ps xs ≤ 40 := by
  have hh := gains_holds h
  have hn := holds_net hh
  have hi := (holds_inB hn).1 hh
  have hr := net_rooms hn
  have hm := gainR_mem h
  obtain ⟨r1, r2, r3, r4⟩ := gainR_ok h
  have l5 := ring_apart r1 r2
  obtain ⟨m1, m2, m3⟩ := gainA_pos h
  have hlen := hi.1
  refine ⟨(netOk_parts hn).2.2.1, hlen, ?_, (flowOk_parts (holds_parts hh).1).2.2, hr, fun s hs => (hm s hs).1, fun k j => ?_, by omega, by omega⟩
  · obtain ⟨s, hs⟩ : ∃ s, s ∈ gainR n ps xs := List.exists_mem_of_length_pos (by omega)
    have := (hm s hs).1
    omega
  · have hk := pushL_inB (d := gainA n ps xs) (l := (gainR n ps xs).take k) (by omega) hi (fun s hs => ⟨(hm s (List.mem_of_mem_take hs)).1, m3 s (List.mem_of_mem_take hs)⟩) (l5.sublist (List.take_sublist _ _))
    by_cases hj : j < ps.length
    · have h1 := hk.2 j hj
      have h2 := hr ps[j] (List.getElem_mem hj)
      omega
    · have h1 := hk.1
      rw [List.getD_eq_getElem?_getD, List.getElem?_eq_none (by omega)]
      simp

theorem cheap_ok (h : gainsB n ps xs = true) : holdsB n ps (cheapR n ps xs) = true ∧ (∀ v, exc v ps (cheapR n ps xs) = exc v ps xs) ∧ costS ps (cheapR n ps xs) < costS ps xs := by
  have hh := gains_holds h
  have hn := holds_net hh
  have hi := (holds_inB hn).1 hh
  have hm := gainR_mem h
  obtain ⟨r1, r2, r3, r4⟩ := gainR_ok h
  have l5 := ring_apart r1 r2
  obtain ⟨m1, m2, m3⟩ := gainA_pos h
  obtain ⟨-, -, -, a, hc⟩ := r1
  rw [cheap_yes h]
  refine ⟨(holds_inB hn).2 (pushL_inB (by omega) hi (fun s hs => ⟨(hm s hs).1, m3 s hs⟩) l5), fun v => ?_, ?_⟩
  · rw [exc_pushL hn hi.1 hc]; split <;> omega
  · rw [costS_pushL hi.1 fun s hs => (hm s hs).1]
    have : gainA n ps xs * coL ps (gainR n ps xs) ≤ 1 * coL ps (gainR n ps xs) := Int.mul_le_mul_of_nonpos_right m1 (by omega)
    omega

theorem cheapR_len (n : Int) (ps : List Pp) (xs : List Int) : (cheapR n ps xs).length ≤ xs.length := by
  by_cases h : gainsB n ps xs = true
  · rw [cheap_yes h, pushL_len]; exact Nat.le_refl _
  · rw [cheap_no (by simpa using h)]; simp

/-- CheaperFlow again and again -/
def cheapN (n : Int) (ps : List Pp) : Nat → List Int → List Int
  | 0, xs => xs
  | k + 1, xs => if gainsB n ps xs = true then cheapN n ps k (cheapR n ps xs) else xs

def chpstR (n : Int) (ps : List Pp) (xs : List Int) : List Int := if holdsB n ps xs = true then cheapN n ps 5041 xs else []

theorem costS_bd7' (h : holdsB n ps xs = true) : -2520 ≤ costS ps xs ∧ costS ps xs ≤ 2520 := by
  have hf := (holds_parts h).1
  have := costS_bd7 hf 8
  have h7 := (netOk_parts (holds_net h)).2.2.1
  have hl := (flowOk_parts hf).2.1
  rwa [List.take_of_length_le (by omega), List.take_of_length_le (by omega)] at this

theorem cheapN_no (h : gainsB n ps xs = false) (k : Nat) : cheapN n ps k xs = xs := by
  cases k with
  | zero => rfl
  | succ k => rw [cheapN, if_neg (by simp [h])]

theorem cheapN_ok (k : Nat) : ∀ {xs : List Int}, holdsB n ps xs = true → holdsB n ps (cheapN n ps k xs) = true ∧ (∀ v, exc v ps (cheapN n ps k xs) = exc v ps xs) ∧ costS ps (cheapN n ps k xs) ≤ costS ps xs := by
  induction k with
  | zero => intro xs h; exact ⟨h, fun _ => rfl, Int.le_refl _⟩
  | succ k ih =>
    intro xs h
    rw [cheapN]
    split
    · next hg =>
      obtain ⟨h1, h2, h3⟩ := cheap_ok hg
      obtain ⟨g1, g2, g3⟩ := ih h1
      exact ⟨g1, fun v => (g2 v).trans (h2 v), by omega⟩
    · exact ⟨h, fun _ => rfl, Int.le_refl _⟩

theorem cheapN_end (k : Nat) : ∀ {xs : List Int}, holdsB n ps xs = true → costS ps xs + 2520 < k → gainsB n ps (cheapN n ps k xs) = false := by
  induction k with
  | zero => intro xs h hk; have := costS_bd7' h; omega
  | succ k ih =>
    intro xs h hk
    rw [cheapN]
    split
    · next hg =>
      obtain ⟨h1, h2, h3⟩ := cheap_ok hg
      exact ih h1 (by omega)
    · next hg => simpa using hg

theorem cheapN_stay (k : Nat) : ∀ {xs : List Int}, holdsB n ps xs = true → costS ps xs + 2520 < k → ∀ j, cheapN n ps (k + j) xs = cheapN n ps k xs := by
  induction k with
  | zero => intro xs h hk; have := costS_bd7' h; omega
  | succ k ih =>
    intro xs h hk j
    rw [show k + 1 + j = (k + j) + 1 by omega, cheapN, cheapN]
    split
    · next hg =>
      obtain ⟨h1, h2, h3⟩ := cheap_ok hg
      exact ih h1 (by omega) j
    · rfl

/-- one CheaperFlow ahead leads to the same -/
theorem chpst_step (h : gainsB n ps xs = true) : chpstR n ps (cheapR n ps xs) = chpstR n ps xs := by
  have hh := gains_holds h
  obtain ⟨h1, h2, h3⟩ := cheap_ok h
  rw [chpstR, if_pos h1, chpstR, if_pos hh]
  have e : cheapN n ps (5041 + 1) xs = cheapN n ps 5041 (cheapR n ps xs) := by rw [cheapN, if_pos h]
  rw [← e]
  exact cheapN_stay 5041 hh (by have := costS_bd7' hh; omega) 1
theorem chpst_end (hh : holdsB n ps xs = true) (h : gainsB n ps xs = false) : chpstR n ps xs = xs := by
  rw [chpstR, if_pos hh, cheapN_no h]
theorem chpst_ok (hh : holdsB n ps xs = true) : holdsB n ps (chpstR n ps xs) = true ∧ (∀ v, exc v ps (chpstR n ps xs) = exc v ps xs) ∧ gainsB n ps (chpstR n ps xs) = false := by
  rw [chpstR, if_pos hh]
  exact ⟨(cheapN_ok _ hh).1, (cheapN_ok _ hh).2.1, cheapN_end _ hh (by have := costS_bd7' hh; omega)⟩
theorem chpst_no (hh : holdsB n ps xs = false) : chpstR n ps xs = [] := by rw [chpstR, if_neg (by simp [hh])]

theorem chpst_len (n : Int) (ps : List Pp) (xs : List Int) : (chpstR n ps xs).length ≤ xs.length := by
  by_cases hh : holdsB n ps xs = true
  · have h1 := (flowOk_parts (holds_parts (chpst_ok hh).1).1).2.1
    have h2 := (flowOk_parts (holds_parts hh).1).2.1
    omega
  · rw [chpst_no (by simpa using hh)]; simp
end

theorem gain_last {ps : List Pp} {l : List Nat} {M : Nat} (hM : M < l.length) (h0 : 0 < l.length) (hl : l.length = M + 1) : gainB ps l = (decide (stTo ps l[M] = stFr ps l[0]) && decide (coL ps l < 0)) := by
  have e1 : l.getLast? = some l[M] := by rw [List.getLast?_eq_getElem?, List.getElem?_eq_getElem (by omega)]; congr 1; congr 1; omega
  have e2 : l.head? = some l[0] := by rw [List.head?_eq_getElem?, List.getElem?_eq_getElem h0]
  simp [gainB, closB, e1, e2]

theorem srch_zero (ps : List Pp) (S l : List Nat) : (srch ps S 0 l).isSome = gainB ps l ∧ ∀ q, srch ps S 0 l = some q → q = l := by
  rw [srch]
  split
  · next h => exact ⟨by rw [h]; rfl, fun q hq => by injection hq with hq; exact hq.symm⟩
  · next h => exact ⟨by simp at h; rw [h]; rfl, fun q hq => by simp at hq⟩

theorem srchM_zero (ps : List Pp) (S l : List Nat) : srchM ps S 0 l = if gainB ps l = true then some l else none := rfl
def stepM (ps : List Pp) (S : List Nat) (m : Nat) (l : List Nat) (s : Nat) : Option (List Nat) := if againB ps l s (decide (m = 0)) = true then none else srchM ps S m (l ++ [s])
theorem srchM_succ (ps : List Pp) (S : List Nat) (m : Nat) (l : List Nat) : srchM ps S (m + 1) l = S.findSome? (stepM ps S m l) := rfl
theorem srchM_len (ps : List Pp) (S : List Nat) : ∀ (m : Nat) (l q : List Nat), srchM ps S m l = some q → q.length = m + l.length := by
  intro m
  induction m with
  | zero =>
    intro l q h
    rw [srchM_zero] at h
    split at h
    · injection h with h; subst h; omega
    · cases h
  | succ m ih =>
    intro l q h
    rw [srchM_succ] at h
    obtain ⟨s, hs, hr⟩ := List.exists_of_findSome?_eq_some h
    unfold stepM at hr
    split at hr
    · cases hr
    · have := ih _ _ hr
      rw [List.length_append] at this
      simp at this
      omega

end Go.Proofs.Ythkidcipimfkfaa
