/- Chapter 9, plain: two parts made one pipe. -/
import Derived.Test.YtaohjhehlkeckaaHA
namespace Go.Proofs.Ytaohjhehlkeckaa
open Go.RowKit

def oneH (s : Bool) (h1 h2 : Int) : Int := if s then h1 + h2 else min h1 h2
def oneP (s : Bool) (p1 p2 : Int) : Int := if s then p1 else p1 + p2
def oneB (s : Bool) (h1 p1 h2 p2 : Int) : Bool := if s then decide (p1 = p2 ∧ h1 + h2 ≤ 4) else decide (p1 + p2 ≤ 9)
def mergeT : Bool → Tm → Tm → Tm
  | s, .pipe h1 p1, .pipe h2 p2 => if oneB s h1 p1 h2 p2 = true then .pipe (oneH s h1 h2) (oneP s p1 p2) else .two s (.pipe h1 p1) (.pipe h2 p2)
  | s, a, b => .two s a b
def Tm.merged : Tm → Tm
  | .pipe h p => .pipe h p
  | .two s a b => mergeT s a.merged b.merged
theorem merge_two (s : Bool) {a b : Tm} (h : ¬ (a.marks.length = 1 ∧ b.marks.length = 1)) : mergeT s a b = .two s a b := by
  cases a with
  | pipe h1 p1 =>
    cases b with
    | pipe h2 p2 => exact absurd ⟨rfl, rfl⟩ h
    | two s' c d => rfl
  | two s' c d => rfl
theorem one_pipe {a : Tm} (h : a.marks.length = 1) : ∃ x y, a = .pipe x y := by
  cases a with
  | pipe x y => exact ⟨x, y, rfl⟩
  | two s c d =>
    have := c.marks_len; have := d.marks_len; have := c.pipes_pos; have := d.pipes_pos
    simp [Tm.marks] at h; omega
theorem one_good {s : Bool} {h1 p1 h2 p2 : Int} (g1 : (Tm.pipe h1 p1).good) (g2 : (Tm.pipe h2 p2).good) (h : oneB s h1 p1 h2 p2 = true) : (Tm.pipe (oneH s h1 h2) (oneP s p1 p2)).good := by
  obtain ⟨a1, a2⟩ := g1
  obtain ⟨b1, b2⟩ := g2
  cases s
  · simp [oneB] at h
    simp only [Tm.good, oneH, oneP, Bool.false_eq_true, if_false]
    omega
  · simp [oneB] at h
    simp only [Tm.good, oneH, oneP, if_true]
    omega
theorem merge_good {s : Bool} {a b : Tm} (ga : a.good) (gb : b.good) : (mergeT s a b).good ∧ (mergeT s a b).pipes ≤ a.pipes + b.pipes := by
  by_cases h : a.marks.length = 1 ∧ b.marks.length = 1
  · obtain ⟨x, y, rfl⟩ := one_pipe h.1
    obtain ⟨x', y', rfl⟩ := one_pipe h.2
    simp only [mergeT]
    split
    · rename_i ho
      exact ⟨one_good ga gb ho, by simp [Tm.pipes]⟩
    · exact ⟨⟨ga, gb⟩, Nat.le_refl _⟩
  · rw [merge_two s h]
    exact ⟨⟨ga, gb⟩, Nat.le_refl _⟩
theorem Tm.merged_good (T : Tm) (h : T.good) : T.merged.good ∧ T.merged.pipes ≤ T.pipes := by
  induction T with
  | pipe x y => exact ⟨h, Nat.le_refl _⟩
  | two s a b iha ihb =>
    have h1 := iha h.1; have h2 := ihb h.2
    have h3 := merge_good (s := s) h1.1 h2.1
    exact ⟨h3.1, by simp only [Tm.merged, Tm.pipes] at *; omega⟩
def mergedR (ts : List Mk) : List Mk := if termB ts = true then (tmOf ts).merged.marks else []
theorem mergedR_len (ts : List Mk) : (mergedR ts).length ≤ 13 := by
  unfold mergedR
  split
  · rename_i h
    obtain ⟨-, hg, h7, -⟩ := term_of h
    have h1 := (tmOf ts).merged_good hg
    exact Tm.len13 _ (by omega)
  · simp

end Go.Proofs.Ytaohjhehlkeckaa
