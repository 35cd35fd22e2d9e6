/- Chapter 9, plain: what is made one carries at the same cost, has no more pipes, and stays. -/
import Derived.Test.YtaohjhehlkeckaaBM
import Derived.Test.YtaohjhehlkeckaaAP
namespace Go.Proofs.Ytaohjhehlkeckaa
open Go.RowKit

theorem pipeL_len (h p : Int) : (pipeL h p).length = h.toNat + 1 := by simp [pipeL]
theorem pipeL_at (h p : Int) (k : Nat) (hk : k ≤ h.toNat) : (pipeL h p).getD k 0 = (k : Int) * p := by
  have h1 : k < (pipeL h p).length := by rw [pipeL_len]; omega
  rw [List.getD_eq_getElem?_getD, List.getElem?_eq_getElem h1]
  simp [pipeL]
theorem one_behind (h1 p1 h2 p2 : Int) : pipeL (min h1 h2) (p1 + p2) = behindL (pipeL h1 p1) (pipeL h2 p2) := by
  apply List.ext_getElem
  · simp only [behindL, List.length_map, List.length_range, pipeL_len]
    omega
  · intro k hk hk'
    rw [pipeL_len] at hk
    simp only [behindL, List.getElem_map, List.getElem_range]
    rw [pipeL_at h1 p1 k (by omega), pipeL_at h2 p2 k (by omega)]
    simp only [pipeL, List.getElem_map, List.getElem_range]
    rw [Int.mul_add]
theorem one_beside {h1 h2 : Int} (p : Int) (g1 : 0 ≤ h1) (g2 : 0 ≤ h2) : pipeL (h1 + h2) p = besideL (pipeL h1 p) (pipeL h2 p) := by
  apply List.ext_getElem
  · simp only [besideL, List.length_map, List.length_range, pipeL_len]
    omega
  · intro n hn hn'
    rw [pipeL_len] at hn
    simp only [besideL, List.getElem_map, List.getElem_range]
    have hne : waysL (pipeL h1 p) (pipeL h2 p) n ≠ [] := ways_ne (by rw [pipeL_len]; omega) (by rw [pipeL_len]; omega) (by rw [pipeL_len, pipeL_len]; omega)
    have hm := lowL_mem hne
    obtain ⟨j, hj, e⟩ := List.getElem_of_mem hm
    rw [← e, ways_at hj]
    rw [ways_len, pipeL_len, pipeL_len] at hj
    simp only [pipeL_len]
    rw [pipeL_at h1 p _ (by omega), pipeL_at h2 p _ (by omega), ← Int.add_mul]
    simp only [pipeL, List.getElem_map, List.getElem_range]
    congr 1
    omega
theorem one_costs {s : Bool} {h1 p1 h2 p2 : Int} (g1 : (Tm.pipe h1 p1).good) (g2 : (Tm.pipe h2 p2).good) (h : oneB s h1 p1 h2 p2 = true) :
    (Tm.pipe (oneH s h1 h2) (oneP s p1 p2)).costs = (Tm.two s (.pipe h1 p1) (.pipe h2 p2)).costs := by
  cases s
  · simp only [oneH, oneP, Tm.costs, Bool.false_eq_true, if_false]
    exact one_behind _ _ _ _
  · simp [oneB] at h
    obtain ⟨rfl, -⟩ := h
    simp only [oneH, oneP, Tm.costs, if_true]
    exact one_beside _ g1.1.1 g2.1.1
theorem merge_facts {s : Bool} {a b : Tm} (ga : a.good) (gb : b.good) : (mergeT s a b).costs = (Tm.two s a b).costs ∧ (mergeT s a b).thens ≤ (Tm.two s a b).thens ∧ (a.merged = a → b.merged = b → (mergeT s a b).merged = mergeT s a b) := by
  by_cases h : a.marks.length = 1 ∧ b.marks.length = 1
  · obtain ⟨x, y, rfl⟩ := one_pipe h.1
    obtain ⟨x', y', rfl⟩ := one_pipe h.2
    simp only [mergeT]
    split
    · rename_i ho
      exact ⟨one_costs ga gb ho, by simp [Tm.thens], fun _ _ => rfl⟩
    · rename_i ho
      exact ⟨rfl, Nat.le_refl _, fun _ _ => by simp only [Tm.merged, mergeT, if_neg ho]⟩
  · rw [merge_two s h]
    exact ⟨rfl, Nat.le_refl _, fun e1 e2 => by simp only [Tm.merged]; rw [e1, e2, merge_two s h]⟩
theorem Tm.merged_facts (T : Tm) (hg : T.good) : T.merged.costs = T.costs ∧ T.merged.thens ≤ T.thens ∧ T.merged.merged = T.merged := by
  induction T with
  | pipe x y => exact ⟨rfl, Nat.le_refl _, rfl⟩
  | two s a b iha ihb =>
    obtain ⟨a1, a2, a3⟩ := iha hg.1
    obtain ⟨b1, b2, b3⟩ := ihb hg.2
    obtain ⟨c1, c2, c3⟩ := merge_facts (s := s) (a.merged_good hg.1).1 (b.merged_good hg.2).1
    refine ⟨?_, ?_, c3 a3 b3⟩
    · simp only [Tm.merged, c1]
      simp only [Tm.costs, a1, b1]
    · simp only [Tm.merged]
      simp only [Tm.thens] at c2 ⊢
      omega
theorem mergedR_yes {ts : List Mk} (ht : termB ts = true) : termB (mergedR ts) = true ∧ costsR (mergedR ts) = costsR ts ∧ mergedR (mergedR ts) = mergedR ts ∧ pipesN (mergedR ts) ≤ pipesN ts ∧ 0 < (mergedR ts).length := by
  obtain ⟨hT, hg, h7, h3⟩ := term_of ht
  obtain ⟨m1, m2⟩ := (tmOf ts).merged_good hg
  obtain ⟨f1, f2, f3⟩ := (tmOf ts).merged_facts hg
  have e : mergedR ts = (tmOf ts).merged.marks := by simp [mergedR, ht]
  have hb : termB (tmOf ts).merged.marks = true := (termB_iff _).2 ⟨_, rfl, m1, by omega, by omega⟩
  rw [e]
  refine ⟨hb, ?_, ?_, ?_, ?_⟩
  · simp only [costsR, hb, ht, if_true]
    rw [tmOf_marks _ m1, f1]
  · simp only [mergedR, hb, if_true]
    rw [tmOf_marks _ m1, f3]
  · rw [pipesN_yes hb, pipesN_yes ht, Tm.count0]
    have : countK 0 ts = (tmOf ts).pipes := by
      conv => lhs; rw [hT]
      exact Tm.count0 _
    omega
  · have := (tmOf ts).merged.marks_len
    have := (tmOf ts).merged.pipes_pos
    omega

end Go.Proofs.Ytaohjhehlkeckaa
