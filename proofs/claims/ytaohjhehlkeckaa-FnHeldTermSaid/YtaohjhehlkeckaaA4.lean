/- The stack that reads a term's marks, mark by mark. -/
import Derived.Test.YtaohjhehlkeckaaA1
namespace Go.Proofs.Ytaohjhehlkeckaa
open Go.RowKit

theorem runT_snoc (ts : List Mk) (k : Nat) (hk : k < ts.length) (st : List Tm) : runT (ts.take (k + 1)) st = stepT (runT (ts.take k) st) ts[k] := by
  rw [List.take_succ_eq_append_getElem hk, runT_append]; rfl
theorem allMarks_len {st : List Tm} {U : Tm} (h : U ∈ st) : U.marks.length ≤ (allMarks st).length := by
  induction st with
  | nil => cases h
  | cons V st ih =>
    simp only [allMarks, List.length_append]
    rcases List.mem_cons.1 h with rfl | h
    · omega
    · have := ih h; omega
theorem allMarks_num (st : List Tm) : st.length ≤ (allMarks st).length := by
  induction st with
  | nil => simp [allMarks]
  | cons V st ih =>
    have := V.marks_len; have := V.pipes_pos
    simp only [allMarks, List.length_append, List.length_cons]; omega
def stackT (T : Tm) (k : Nat) : List Tm := runT (T.marks.take k) []

theorem stack_parts (T : Tm) (hg : T.good) (k : Nat) : ∃ q, partsN (T.marks.take k) 0 = some q := by
  have h := partsN_append (T.marks.take k) (T.marks.drop k) 0
  rw [List.take_append_drop, T.parts hg 0] at h
  cases hq : partsN (T.marks.take k) 0 with
  | none => rw [hq] at h; cases h
  | some q => exact ⟨q, rfl⟩
theorem stack_all (T : Tm) (hg : T.good) (k : Nat) (hk : k ≤ T.marks.length) : allGood (stackT T k) ∧ (∀ U ∈ stackT T k, U.marks.length ≤ k) ∧ (stackT T k).length ≤ k := by
  obtain ⟨q, hq⟩ := stack_parts T hg k
  obtain ⟨h1, -, h3⟩ := stack_run (st := []) (by intro T hT; cases hT) hq
  have hl : (allMarks (stackT T k)).length = k := by
    have : allMarks (stackT T k) = T.marks.take k := by simpa [allMarks, stackT] using h3
    rw [this, List.length_take]; omega
  exact ⟨h1, fun U hU => by have := allMarks_len hU; omega, by have := allMarks_num (stackT T k); omega⟩
theorem stack_zero (T : Tm) : stackT T 0 = [] := rfl
theorem stack_end (T : Tm) (hg : T.good) : stackT T T.marks.length = [T] := by
  rw [stackT, List.take_length]; exact T.run hg []
/- what the next mark does to the stack -/
theorem stack_next (T : Tm) (hg : T.good) (k : Nat) (hk : k < T.marks.length) :
    (∃ h p, T.marks[k] = ⟨0, h, p⟩ ∧ (0 ≤ h ∧ h ≤ 4) ∧ (0 ≤ p ∧ p ≤ 9) ∧ stackT T (k + 1) = .pipe h p :: stackT T k) ∨
    (∃ s a b r, T.marks[k] = ⟨kindI s, 0, 0⟩ ∧ stackT T k = b :: a :: r ∧ stackT T (k + 1) = .two s a b :: r) := by
  obtain ⟨q, hq⟩ := stack_parts T hg k
  obtain ⟨q', hq'⟩ := stack_parts T hg (k + 1)
  have hl := (stack_run (st := []) (by intro T hT; cases hT) hq).2.1
  have hs : partsN (T.marks.take (k + 1)) 0 = partStep q T.marks[k] := by
    rw [List.take_succ_eq_append_getElem hk, partsN_append, hq]
    simp only [Option.bind_some, partsN]
    cases partStep q T.marks[k] <;> rfl
  rw [hq'] at hs
  have hn : stackT T (k + 1) = stepT (stackT T k) T.marks[k] := runT_snoc T.marks k hk []
  have hl : (stackT T k).length = q := hl
  generalize T.marks[k] = m at *
  obtain ⟨kk, h, p⟩ := m
  unfold partStep at hs
  split at hs
  · cases hs
  rename_i hm
  have hm : markB ⟨kk, h, p⟩ = true := by simpa using hm
  split at hs
  · rename_i h0
    simp only at h0; subst h0
    have : (0 ≤ h ∧ h ≤ 4) ∧ 0 ≤ p ∧ p ≤ 9 := by simpa [markB] using hm
    exact .inl ⟨h, p, rfl, this.1, this.2, by rw [hn]; simp [stepT]⟩
  · rename_i h0
    simp only at h0
    split at hs
    · cases hs
    rename_i h2
    have hx : (kk = 1 ∨ kk = 2) ∧ h = 0 ∧ p = 0 := by
      unfold markB at hm
      simp only [h0, if_false] at hm
      split at hm
      · rename_i h1; exact ⟨h1, by simpa using hm⟩
      · cases hm
    obtain ⟨h12, rfl, rfl⟩ := hx
    match hst : stackT T k, hl with
    | b :: a :: r, _ =>
      refine .inr ⟨kk == 2, a, b, r, ?_, rfl, ?_⟩
      · rcases h12 with rfl | rfl <;> rfl
      · rw [hn, hst]; simp [stepT, h0]
    | [a], hl => simp at hl; omega
    | [], hl => simp at hl; omega

theorem Tm.pipes_marks (U : Tm) {k : Nat} (h : U.marks.length ≤ k) (hk : k ≤ 13) : U.pipes ≤ 7 := by
  have := U.marks_len; omega
theorem Tm.len13 (T : Tm) (h : T.pipes ≤ 7) : T.marks.length ≤ 13 := by have := T.marks_len; omega

end Go.Proofs.Ytaohjhehlkeckaa
