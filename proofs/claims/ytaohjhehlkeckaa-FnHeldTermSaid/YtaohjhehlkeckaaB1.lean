/- Chapter 9, plain: turned terms, lengths, terms in which a pipe holds so much. -/
import Derived.Test.YtaohjhehlkeckaaA5
import Derived.Test.YtaohjhehlkeckaaAP
namespace Go.Proofs.Ytaohjhehlkeckaa
open Go.RowKit

def dualK (k : Int) : Int := if k = 1 then 2 else if k = 2 then 1 else k
def dualM (m : Mk) : Mk := ⟨dualK m.k, m.h, m.p⟩
def dualS (m : Mk) : Mk := if m.k = 1 then ⟨2, 0, 0⟩ else if m.k = 2 then ⟨1, 0, 0⟩ else m
def dualB (ts : List Mk) : Bool := termB ts && termB (ts.map dualM)
def dualL (ts : List Mk) : List Mk := if dualB ts = true then ts.map dualM else []

theorem Tm.marks_ok (T : Tm) (hg : T.good) : ∀ m ∈ T.marks, markB m = true := by
  induction T with
  | pipe h p =>
    intro m hm
    simp only [Tm.marks, List.mem_singleton] at hm
    subst hm
    have h1 : (0 ≤ h ∧ h ≤ 4) ∧ 0 ≤ p ∧ p ≤ 9 := hg
    simp [markB, h1]
  | two s a b iha ihb =>
    intro m hm
    simp only [Tm.marks, List.mem_append, List.mem_singleton] at hm
    rcases hm with hm | hm | rfl
    · exact iha hg.1 m hm
    · exact ihb hg.2 m hm
    · cases s <;> simp [markB, kindI]
theorem term_marks {ts : List Mk} (h : termB ts = true) : ∀ m ∈ ts, markB m = true := by
  obtain ⟨hT, hg, -, -⟩ := term_of h
  rw [hT]
  exact (tmOf ts).marks_ok hg
theorem dual_same {ts : List Mk} (h : termB ts = true) : ts.map dualS = ts.map dualM := by
  apply List.map_congr_left
  intro m hm
  have := term_marks h m hm
  obtain ⟨k, a, b⟩ := m
  simp only [dualS, dualM, dualK]
  by_cases h1 : k = 1
  · subst h1
    simp [markB] at this
    simp [this]
  · by_cases h2 : k = 2
    · subst h2
      simp [markB] at this
      simp [this]
    · simp [h1, h2]
theorem dual_len (ts : List Mk) : (dualL ts).length ≤ ts.length := by
  unfold dualL
  split <;> simp
theorem dualL_yes {ts : List Mk} (h : dualB ts = true) : dualL ts = ts.map dualM := by rw [dualL, if_pos h]
theorem dualL_no {ts : List Mk} (h : dualB ts = false) : dualL ts = [] := by rw [dualL, if_neg (by simp [h])]
theorem term_len {ts : List Mk} (h : termB ts = true) : ts.length ≤ 13 := by
  obtain ⟨hT, -, h7, -⟩ := term_of h
  have := (tmOf ts).len13 h7
  rw [hT]; exact this
theorem dual_len13 (ts : List Mk) : (dualL ts).length ≤ 13 := by
  cases h : dualB ts
  · rw [dualL_no h]; simp
  · rw [dualL_yes h, List.length_map]
    simp only [dualB, Bool.and_eq_true] at h
    exact term_len h.1

def Tm.dual : Tm → Tm
  | .pipe h p => .pipe h p
  | .two s a b => .two (!s) a.dual b.dual
theorem Tm.dual_marks (T : Tm) : T.dual.marks = T.marks.map dualM := by
  induction T with
  | pipe h p => rfl
  | two s a b iha ihb =>
    simp only [Tm.dual, Tm.marks, iha, ihb, List.map_append, List.map_cons, List.map_nil]
    cases s <;> rfl
theorem Tm.dual_good (T : Tm) (h : T.good) : T.dual.good := by
  induction T with
  | pipe => exact h
  | two s a b iha ihb => exact ⟨iha h.1, ihb h.2⟩
theorem Tm.dual_pipes (T : Tm) : T.dual.pipes = T.pipes := by
  induction T with
  | pipe => rfl
  | two s a b iha ihb => simp [Tm.dual, Tm.pipes, iha, ihb]
theorem Tm.dual_dual (T : Tm) : T.dual.dual = T := by
  induction T with
  | pipe => rfl
  | two s a b iha ihb => simp [Tm.dual, iha, ihb]

def Tm.long : Tm → Int
  | .pipe h _ => h
  | .two s a b => if s then min a.long b.long else a.long + b.long
theorem Tm.long_bd (T : Tm) (hg : T.good) : 0 ≤ T.long ∧ T.long ≤ 4 * T.pipes := by
  induction T with
  | pipe h p => obtain ⟨h1, -⟩ := hg; simp [Tm.long, Tm.pipes]; omega
  | two s a b iha ihb =>
    have h1 := iha hg.1; have h2 := ihb hg.2
    cases s <;> simp [Tm.long, Tm.pipes] <;> omega
theorem Tm.dual_long (T : Tm) : T.dual.long = T.carry ∧ T.dual.carry = T.long := by
  induction T with
  | pipe => exact ⟨rfl, rfl⟩
  | two s a b iha ihb => cases s <;> simp [Tm.dual, Tm.long, Tm.carry, iha, ihb]
def longN (ts : List Mk) : Int := if termB ts = true then (tmOf ts).long else -1

/- a pipe that holds so much, by its place among the pipes -/
def hldF (hold : Int) : List Mk → Int → List Mk
  | [], _ => []
  | m :: t, a => if m.k = 0 then (if a = 0 then ⟨0, hold, m.p⟩ else m) :: hldF hold t (a - 1) else m :: hldF hold t a
theorem held_len (hold : Int) (ts : List Mk) : ∀ a, (hldF hold ts a).length = ts.length := by
  induction ts with
  | nil => intro a; rfl
  | cons m t ih => intro a; simp only [hldF]; split <;> simp [ih]
theorem held_at (hold : Int) (ts : List Mk) : ∀ (a : Int) (k : Nat) (hk : k < ts.length), (hldF hold ts a)[k]'(by rw [held_len]; exact hk) = if ts[k].k = 0 ∧ (countK 0 (ts.take k) : Int) = a then ⟨0, hold, ts[k].p⟩ else ts[k] := by
  induction ts with
  | nil => intro a k hk; simp at hk
  | cons m t ih =>
    intro a k hk
    cases k with
    | zero =>
      simp only [hldF]
      by_cases h0 : m.k = 0
      · by_cases h1 : a = 0
        · simp [h0, h1, countK]
        · have h2 : ¬ (0 : Int) = a := fun e => h1 e.symm
          simp [h0, h1, h2, countK]
      · simp [h0]
    | succ k =>
      have hk' : k < t.length := by simpa using hk
      simp only [hldF]
      by_cases h0 : m.k = 0
      · have hc : (countK 0 ((m :: t).take (k + 1)) : Int) = countK 0 (t.take k) + 1 := by simp [countK, h0]
        simp only [h0, if_true, List.getElem_cons_succ]
        rw [ih (a - 1) k hk', hc]
        by_cases h1 : (countK 0 (t.take k) : Int) = a - 1
        · simp [h1]
        · have h2 : ¬ (countK 0 (t.take k) : Int) + 1 = a := by omega
          simp [h1, h2]
      · have hc : (countK 0 ((m :: t).take (k + 1)) : Int) = countK 0 (t.take k) := by simp [countK, h0]
        simp only [h0, if_false, List.getElem_cons_succ]
        rw [ih a k hk', hc]
theorem countK_lt {ts : List Mk} {j k : Nat} (hj : j < ts.length) (h : ts[j].k = 0) (hjk : j < k) : countK 0 (ts.take j) < countK 0 (ts.take k) := by
  have h1 := countK_snoc 0 ts j hj
  rw [if_pos h] at h1
  have h2 : countK 0 (ts.take (j + 1)) ≤ countK 0 (ts.take k) := by
    have e : ts.take k = (ts.take k).take (j + 1) ++ (ts.take k).drop (j + 1) := (List.take_append_drop _ _).symm
    rw [List.take_take, Nat.min_eq_left (show j + 1 ≤ k from hjk)] at e
    rw [e, countK_append]; omega
  omega
theorem held_set (hold : Int) {ts : List Mk} {j : Nat} (hj : j < ts.length) (h : ts[j].k = 0) : hldF hold ts (countK 0 (ts.take j) : Int) = ts.set j ⟨0, hold, ts[j].p⟩ := by
  apply List.ext_getElem (by rw [held_len, List.length_set])
  intro k h1 h2
  rw [held_len] at h1
  rw [held_at hold ts _ k h1, List.getElem_set]
  by_cases e : j = k
  · subst e; simp [h]
  · rw [if_neg e]
    by_cases h0 : ts[k].k = 0
    · have hne : ¬ (countK 0 (ts.take k) : Int) = countK 0 (ts.take j) := by
        rcases Nat.lt_or_ge j k with hlt | hge
        · have := countK_lt hj h hlt; omega
        · have := countK_lt h1 h0 (show k < j by omega); omega
      simp [hne]
    · simp [h0]
def hldB (ts : List Mk) (a hold : Int) : Bool := termB ts && (withinB a 0 ((countK 0 ts : Int) - 1) && withinB hold 0 4)
def hldR (ts : List Mk) (a hold : Int) : List Mk := if hldB ts a hold = true then hldF hold ts a else []
theorem hldR_len (ts : List Mk) (a hold : Int) : (hldR ts a hold).length ≤ 13 := by
  unfold hldR
  split
  · rename_i h
    simp only [hldB, Bool.and_eq_true] at h
    rw [held_len]
    exact term_len h.1
  · simp

end Go.Proofs.Ytaohjhehlkeckaa
