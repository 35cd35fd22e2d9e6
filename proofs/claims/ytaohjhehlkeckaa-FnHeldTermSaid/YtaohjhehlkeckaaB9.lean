/- Chapter 9, plain: a term in which a pipe holds more. -/
import Derived.Test.YtaohjhehlkeckaaB8
namespace Go.Proofs.Ytaohjhehlkeckaa
open Go.RowKit

theorem hld_append (hold : Int) (ts us : List Mk) : ∀ a : Int, hldF hold (ts ++ us) a = hldF hold ts a ++ hldF hold us (a - countK 0 ts) := by
  induction ts with
  | nil => intro a; simp [hldF, countK]
  | cons m t ih =>
    intro a
    simp only [List.cons_append, hldF]
    by_cases h0 : m.k = 0
    · have hc : (countK 0 (m :: t) : Int) = countK 0 t + 1 := by simp [countK, h0]
      simp only [h0, if_true, List.cons_append]
      rw [ih, hc]
      congr 2
      congr 1; omega
    · have hc : (countK 0 (m :: t) : Int) = countK 0 t := by simp [countK, h0]
      simp only [h0, if_false, List.cons_append]
      rw [ih, hc]
def Tm.held (hold : Int) : Tm → Int → Tm
  | .pipe h p, a => if a = 0 then .pipe hold p else .pipe h p
  | .two s x y, a => .two s (x.held hold a) (y.held hold (a - x.pipes))
theorem Tm.held_marks (hold : Int) (T : Tm) : ∀ a : Int, (T.held hold a).marks = hldF hold T.marks a := by
  induction T with
  | pipe h p =>
    intro a
    simp only [Tm.held, Tm.marks, hldF]
    by_cases h0 : a = 0 <;> simp [h0, Tm.marks]
  | two s x y ihx ihy =>
    intro a
    have e : ∀ b : Int, hldF hold [(⟨kindI s, 0, 0⟩ : Mk)] b = [⟨kindI s, 0, 0⟩] := by intro b; cases s <;> simp [hldF, kindI]
    simp only [Tm.held, Tm.marks, hld_append, ihx, ihy, e, Tm.count0]
theorem Tm.held_good (hold : Int) (h0 : 0 ≤ hold) (h4 : hold ≤ 4) (T : Tm) : T.good → ∀ a : Int, (T.held hold a).good := by
  induction T with
  | pipe h p =>
    intro hg a
    simp only [Tm.held]
    split
    · exact ⟨⟨h0, h4⟩, hg.2⟩
    · exact hg
  | two s x y ihx ihy => intro hg a; exact ⟨ihx hg.1 a, ihy hg.2 _⟩
theorem Tm.held_pipes (hold : Int) (T : Tm) : ∀ a : Int, (T.held hold a).pipes = T.pipes ∧ (T.held hold a).thens = T.thens := by
  induction T with
  | pipe h p => intro a; simp only [Tm.held]; split <;> exact ⟨rfl, rfl⟩
  | two s x y ihx ihy => intro a; simp [Tm.held, Tm.pipes, Tm.thens, ihx, ihy]
/- outside its pipes nothing changes -/
theorem Tm.held_out (hold : Int) (T : Tm) : ∀ a : Int, (a < 0 ∨ T.pipes ≤ a) → T.held hold a = T := by
  induction T with
  | pipe h p => intro a ha; simp only [Tm.pipes] at ha; simp only [Tm.held]; rw [if_neg (by omega)]
  | two s x y ihx ihy =>
    intro a ha
    simp only [Tm.pipes] at ha
    simp only [Tm.held]
    rw [ihx a (by omega), ihy (a - x.pipes) (by omega)]
theorem Tm.held_more (hold : Int) (T : Tm) : ∀ a : Int, (T.held (hold + 1) a).carry = (T.held hold a).carry ∨ (T.held (hold + 1) a).carry = (T.held hold a).carry + 1 := by
  induction T with
  | pipe h p => intro a; simp only [Tm.held]; split <;> simp [Tm.carry]
  | two s x y ihx ihy =>
    intro a
    have h1 := ihx a
    have h2 := ihy (a - x.pipes)
    have key : x.held (hold + 1) a = x.held hold a ∨ y.held (hold + 1) (a - x.pipes) = y.held hold (a - x.pipes) := by
      by_cases h : (x.pipes : Int) ≤ a
      · left; rw [x.held_out _ a (.inr h), x.held_out _ a (.inr h)]
      · right; rw [y.held_out _ _ (.inl (by omega)), y.held_out _ _ (.inl (by omega))]
    simp only [Tm.held, Tm.carry]
    rcases key with k | k
    · rw [k]
      cases s <;> simp <;> omega
    · rw [k]
      cases s <;> simp <;> omega
theorem hld_term {ts : List Mk} {a hold : Int} (h : hldB ts a hold = true) : termB ts = true ∧ hldR ts a hold = ((tmOf ts).held hold a).marks ∧ termB (hldR ts a hold) = true ∧ tmOf (hldR ts a hold) = (tmOf ts).held hold a := by
  have h' := h
  simp only [hldB, Bool.and_eq_true, withinB, decide_eq_true_eq] at h'
  obtain ⟨ht, -, h0, h4⟩ := h'
  obtain ⟨hT, hg, h7, h3⟩ := term_of ht
  have e1 : hldR ts a hold = ((tmOf ts).held hold a).marks := by
    rw [hldR, if_pos h, Tm.held_marks, ← hT]
  have hgd := Tm.held_good hold h0 h4 _ hg a
  have hp := Tm.held_pipes hold (tmOf ts) a
  refine ⟨ht, e1, ?_, ?_⟩
  · rw [e1]
    exact (termB_iff _).2 ⟨_, rfl, hgd, by rw [hp.1]; exact h7, by rw [hp.2]; exact h3⟩
  · rw [e1, tmOf_marks _ hgd]
theorem hld_more {ts : List Mk} {a hold : Int} (h : hldB ts a hold = true) (h2 : hldB ts a (hold + 1) = true) : carriesN (hldR ts a (hold + 1)) = carriesN (hldR ts a hold) ∨ carriesN (hldR ts a (hold + 1)) = carriesN (hldR ts a hold) + 1 := by
  obtain ⟨-, -, t1, e1⟩ := hld_term h
  obtain ⟨-, -, t2, e2⟩ := hld_term h2
  simp only [carriesN, t1, t2, if_true, e1, e2]
  exact Tm.held_more hold (tmOf ts) a
theorem hld_own {ts : List Mk} {a : Int} {j : Nat} (ht : termB ts = true) (hj : j < ts.length) (h0 : ts[j].k = 0) (ha : (countK 0 (ts.take j) : Int) = a) : hldB ts a ts[j].h = true ∧ hldR ts a ts[j].h = ts := by
  have hm := mark_h (term_marks ht _ (List.getElem_mem hj))
  have hlt : countK 0 (ts.take j) < countK 0 (ts.take (j + 1)) := countK_lt hj h0 (Nat.lt_succ_self j)
  have hle : countK 0 (ts.take (j + 1)) ≤ countK 0 ts := by
    have e : ts = ts.take (j + 1) ++ ts.drop (j + 1) := (List.take_append_drop _ _).symm
    conv => rhs; rw [e]
    rw [countK_append]; omega
  have hB : hldB ts a ts[j].h = true := by
    simp only [hldB, ht, withinB, Bool.and_eq_true, decide_eq_true_eq]
    refine ⟨trivial, ⟨?_, ?_⟩, ?_, ?_⟩ <;> omega
  refine ⟨hB, ?_⟩
  rw [hldR, if_pos hB, ← ha, held_set _ hj h0, ← h0]
  exact List.set_getElem_self hj
theorem hld_uniq {ts : List Mk} {j k : Nat} (hj : j < ts.length) (hk : k < ts.length) (j0 : ts[j].k = 0) (k0 : ts[k].k = 0) (h : countK 0 (ts.take j) = countK 0 (ts.take k)) : j = k := by
  rcases Nat.lt_trichotomy j k with hl | hl | hl
  · have := countK_lt hj j0 hl; omega
  · exact hl
  · have := countK_lt hk k0 hl; omega
theorem hld_find {ts : List Mk} {a hold : Int} (h : hldB ts a hold = true) : ∃ j, ∃ hj : j < ts.length, ts[j].k = 0 ∧ (countK 0 (ts.take j) : Int) = a := by
  have h' := h
  simp only [hldB, Bool.and_eq_true, withinB, decide_eq_true_eq] at h'
  obtain ⟨-, ⟨h0, h1⟩, -⟩ := h'
  have key : ∀ k, k ≤ ts.length → a < (countK 0 (ts.take k) : Int) → ∃ j, ∃ hj : j < ts.length, ts[j].k = 0 ∧ (countK 0 (ts.take j) : Int) = a := by
    intro k
    induction k with
    | zero => intro _ hh; simp [countK] at hh; omega
    | succ k ih =>
      intro hk hh
      have hs := countK_snoc 0 ts k (by omega)
      by_cases hlt : a < (countK 0 (ts.take k) : Int)
      · exact ih (by omega) hlt
      · by_cases hk0 : ts[k].k = 0
        · exact ⟨k, by omega, hk0, by rw [if_pos hk0] at hs; omega⟩
        · rw [if_neg hk0] at hs; omega
  exact key ts.length (Nat.le_refl _) (by rw [List.take_length]; omega)

end Go.Proofs.Ytaohjhehlkeckaa
