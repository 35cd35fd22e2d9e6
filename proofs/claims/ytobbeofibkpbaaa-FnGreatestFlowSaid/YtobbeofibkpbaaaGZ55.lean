/- Plain facts. -/
import Derived.Test.YtobbeofibkpbaaaGZ10
/- The stack that reads a term's marks, mark by mark. -/
namespace Go.Proofs.Ytobbeofibkpbaaa
open Go.RowKit

theorem runT_snoc (ts : List Mk) (k : Nat) (hk : k < ts.length) (st : List Tm) : runT (ts.take (k + 1)) st = stepT (runT (ts.take k) st) ts[k] := by
  rw [List.take_succ_eq_append_getElem hk, runT_append]; rfl
theorem allMarks_len {st : List Tm} {U : Tm} (h : U ∈ st) : U.marks.length ≤ (allMarks st).length := by
  induction st with
  | nil => cases h
  | cons V st ih =>
    simp only [allMarks, List.length_append]
    rcases List.mem_cons.1 h with rfl | h
    · omega
    · have := ih h; omega
theorem allMarks_num (st : List Tm) : st.length ≤ (allMarks st).length := by
  induction st with
  | nil => simp [allMarks]
  | cons V st ih =>
    have := V.marks_len; have := V.pipes_pos
    simp only [allMarks, List.length_append, List.length_cons]; omega
def stackT (T : Tm) (k : Nat) : List Tm := runT (T.marks.take k) []

theorem stack_parts (T : Tm) (hg : T.good) (k : Nat) : ∃ q, partsN (T.marks.take k) 0 = some q := by
  have h := partsN_append (T.marks.take k) (T.marks.drop k) 0
  rw [List.take_append_drop, T.parts hg 0] at h
  cases hq : partsN (T.marks.take k) 0 with
  | none => rw [hq] at h; cases h
  | some q => exact ⟨q, rfl⟩
theorem stack_all (T : Tm) (hg : T.good) (k : Nat) (hk : k ≤ T.marks.length) : allGood (stackT T k) ∧ (∀ U ∈ stackT T k, U.marks.length ≤ k) ∧ (stackT T k).length ≤ k := by
  obtain ⟨q, hq⟩ := stack_parts T hg k
  obtain ⟨h1, -, h3⟩ := stack_run (st := []) (by intro T hT; cases hT) hq
  have hl : (allMarks (stackT T k)).length = k := by
    have : allMarks (stackT T k) = T.marks.take k := by simpa [allMarks, stackT] using h3
    rw [this, List.length_take]; omega
  exact ⟨h1, fun U hU => by have := allMarks_len hU; omega, by have := allMarks_num (stackT T k); omega⟩
theorem stack_zero (T : Tm) : stackT T 0 = [] := rfl
theorem stack_end (T : Tm) (hg : T.good) : stackT T T.marks.length = [T] := by
  rw [stackT, List.take_length]; exact T.run hg []
/- what the next mark does to the stack -/
theorem stack_next (T : Tm) (hg : T.good) (k : Nat) (hk : k < T.marks.length) :
    (∃ h p, T.marks[k] = ⟨0, h, p⟩ ∧ (0 ≤ h ∧ h ≤ 4) ∧ (0 ≤ p ∧ p ≤ 9) ∧ stackT T (k + 1) = .pipe h p :: stackT T k) ∨
    (∃ s a b r, T.marks[k] = ⟨kindI s, 0, 0⟩ ∧ stackT T k = b :: a :: r ∧ stackT T (k + 1) = .two s a b :: r) := by
  obtain ⟨q, hq⟩ := stack_parts T hg k
  obtain ⟨q', hq'⟩ := stack_parts T hg (k + 1)
  have hl := (stack_run (st := []) (by intro T hT; cases hT) hq).2.1
  have hs : partsN (T.marks.take (k + 1)) 0 = partStep q T.marks[k] := by
    rw [List.take_succ_eq_append_getElem hk, partsN_append, hq]
    simp only [Option.bind_some, partsN]
    cases partStep q T.marks[k] <;> rfl
  rw [hq'] at hs
  have hn : stackT T (k + 1) = stepT (stackT T k) T.marks[k] := runT_snoc T.marks k hk []
  have hl : (stackT T k).length = q := hl
  generalize T.marks[k] = m at *
  obtain ⟨kk, h, p⟩ := m
  unfold partStep at hs
  split at hs
  · cases hs
  rename_i hm
  have hm : markB ⟨kk, h, p⟩ = true := by simpa using hm
  split at hs
  · rename_i h0
    simp only at h0; subst h0
    have : (0 ≤ h ∧ h ≤ 4) ∧ 0 ≤ p ∧ p ≤ 9 := by simpa [markB] using hm
    exact .inl ⟨h, p, rfl, this.1, this.2, by rw [hn]; simp [stepT]⟩
  · rename_i h0
    simp only at h0
    split at hs
    · cases hs
    rename_i h2
    have hx : (kk = 1 ∨ kk = 2) ∧ h = 0 ∧ p = 0 := by
      unfold markB at hm
      simp only [h0, if_false] at hm
      split at hm
      · rename_i h1; exact ⟨h1, by simpa using hm⟩
      · cases hm
    obtain ⟨h12, rfl, rfl⟩ := hx
    match hst : stackT T k, hl with
    | b :: a :: r, _ =>
      refine .inr ⟨kk == 2, a, b, r, ?_, rfl, ?_⟩
      · rcases h12 with rfl | rfl <;> rfl
      · rw [hn, hst]; simp [stepT, h0]
    | [a], hl => simp at hl; omega
    | [], hl => simp at hl; omega

theorem Tm.pipes_marks (U : Tm) {k : Nat} (h : U.marks.length ≤ k) (hk : k ≤ 13) : U.pipes ≤ 7 := by
  have := U.marks_len; omega
theorem Tm.len13 (T : Tm) (h : T.pipes ≤ 7) : T.marks.length ≤ 13 := by have := T.marks_len; omega

end Go.Proofs.Ytobbeofibkpbaaa

/- What terms cost, plain: bounds, and how rows of costs grow. -/
namespace Go.Proofs.Ytobbeofibkpbaaa
open Go.RowKit

theorem lowL_mem : ∀ {l : List Int}, l ≠ [] → lowL l ∈ l
  | [], h => absurd rfl h
  | [x], _ => by simp [lowL]
  | x :: y :: r, _ => by
    have ih := lowL_mem (l := y :: r) (by simp)
    simp only [lowL]
    by_cases hx : x ≤ lowL (y :: r)
    · rw [Int.min_eq_left hx]; simp
    · rw [Int.min_eq_right (by omega)]; exact List.mem_cons_of_mem _ ih
theorem lowL_le : ∀ {l : List Int} {x : Int}, x ∈ l → lowL l ≤ x
  | [y], x, h => by simp at h; simp [lowL, h]
  | y :: z :: r, x, h => by
    simp only [lowL]
    rcases List.mem_cons.1 h with rfl | h
    · omega
    · have := lowL_le (l := z :: r) h; omega
theorem lowL_uniq {l : List Int} {x : Int} (h : x ∈ l) (hl : ∀ y ∈ l, x ≤ y) : lowL l = x := by
  have h1 := lowL_le h
  have h2 := hl _ (lowL_mem (by intro e; rw [e] at h; cases h))
  omega
theorem lowL_snoc {l : List Int} {x : Int} (h : l ≠ []) : lowL (l ++ [x]) = min (lowL l) x := by
  apply lowL_uniq
  · by_cases hx : lowL l ≤ x
    · rw [Int.min_eq_left hx]; exact List.mem_append_left _ (lowL_mem h)
    · rw [Int.min_eq_right (by omega)]; simp
  · intro y hy
    rcases List.mem_append.1 hy with hy | hy
    · have := lowL_le hy; omega
    · simp at hy; omega
theorem lowL_nn {l : List Int} (h : ∀ x ∈ l, 0 ≤ x) : 0 ≤ lowL l := by
  by_cases hl : l = []
  · subst hl; simp [lowL]
  · exact h _ (lowL_mem hl)

def bestM (l : List Int) (j : Nat) : Int := if j = 0 then -1 else lowL (l.take j)
theorem bestM_neg {l : List Int} (h : ∀ x ∈ l, 0 ≤ x) {j : Nat} : bestM l j < 0 ↔ j = 0 := by
  unfold bestM
  by_cases hj : j = 0
  · simp [hj]
  · rw [if_neg hj]
    have := lowL_nn (l := l.take j) (fun x hx => h x (List.mem_of_mem_take hx))
    omega
theorem bestM_step {l : List Int} (h : ∀ x ∈ l, 0 ≤ x) {j : Nat} (hj : j < l.length) : bestM l (j + 1) = if bestM l j < 0 ∨ l[j] < bestM l j then l[j] else bestM l j := by
  have hn := bestM_neg h (j := j)
  unfold bestM at hn ⊢
  rw [if_neg (by omega : ¬ j + 1 = 0), List.take_succ_eq_append_getElem hj]
  by_cases h0 : j = 0
  · subst h0; simp [lowL]
  · rw [if_neg h0] at hn ⊢
    have hne : l.take j ≠ [] := by
      intro e
      have := congrArg List.length e
      rw [List.length_take, List.length_nil] at this; omega
    rw [lowL_snoc hne]
    have : ¬ lowL (l.take j) < 0 := fun h => h0 (hn.1 h)
    by_cases hx : l[j] < lowL (l.take j)
    · rw [if_pos (.inr hx)]; exact Int.min_eq_right (Int.le_of_lt hx)
    · rw [if_neg (fun h => h.elim this hx)]; exact Int.min_eq_left (Int.not_lt.1 hx)
theorem bestM_all {l : List Int} (h : l ≠ []) : bestM l l.length = lowL l := by
  unfold bestM
  rw [if_neg (by intro e; exact h (List.eq_nil_of_length_eq_zero e)), List.take_length]

theorem ways_len (a b : List Int) (n : Nat) : (waysL a b n).length = min n (a.length - 1) + 1 - (n + 1 - b.length) := by simp [waysL]
theorem ways_at {a b : List Int} {n j : Nat} (h : j < (waysL a b n).length) : (waysL a b n)[j] = a.getD (n + 1 - b.length + j) 0 + b.getD (n - (n + 1 - b.length + j)) 0 := by simp [waysL]
theorem ways_ne {a b : List Int} {n : Nat} (ha : 0 < a.length) (hb : 0 < b.length) (hn : n + 1 < a.length + b.length) : waysL a b n ≠ [] := by
  intro e
  have := congrArg List.length e
  rw [ways_len] at this
  simp at this
  omega
def bdL (B : Int) (l : List Int) : Prop := ∀ x ∈ l, 0 ≤ x ∧ x ≤ B
theorem bdL_getD {B : Int} {l : List Int} (h : bdL B l) (hB : 0 ≤ B) (k : Nat) : 0 ≤ l.getD k 0 ∧ l.getD k 0 ≤ B := by
  rw [List.getD_eq_getElem?_getD]
  by_cases hk : k < l.length
  · simp only [List.getElem?_eq_getElem hk, Option.getD_some]; exact h _ (List.getElem_mem hk)
  · rw [List.getElem?_eq_none (by omega), Option.getD_none]; omega
theorem ways_bd {A B : Int} {a b : List Int} (ha : bdL A a) (hb : bdL B b) (hA : 0 ≤ A) (hB : 0 ≤ B) (n : Nat) : bdL (A + B) (waysL a b n) := by
  intro x hx
  obtain ⟨j, hj, rfl⟩ := List.getElem_of_mem hx
  rw [ways_at hj]
  have h1 := bdL_getD ha hA (n + 1 - b.length + j)
  have h2 := bdL_getD hb hB (n - (n + 1 - b.length + j))
  omega
theorem Tm.costs_bd (T : Tm) (hg : T.good) : bdL (36 * T.pipes) T.costs := by
  induction T with
  | pipe h p =>
    obtain ⟨h1, h2⟩ := hg
    intro x hx
    simp only [Tm.costs, pipeL, List.mem_map, List.mem_range] at hx
    obtain ⟨k, hk, rfl⟩ := hx
    have hk4 : (k : Int) ≤ 4 := by omega
    have e1 : 0 ≤ (k : Int) * p := Int.mul_nonneg (by omega) (by omega)
    have e2 : (k : Int) * p ≤ 4 * 9 := Int.mul_le_mul hk4 (by omega) (by omega) (by omega)
    simp [Tm.pipes]; omega
  | two s a b iha ihb =>
    have ha := iha hg.1; have hb := ihb hg.2
    have pa := a.pipes_pos; have pb := b.pipes_pos
    intro x hx
    cases s
    · simp only [Tm.costs, Bool.false_eq_true, if_false, behindL, List.mem_map, List.mem_range] at hx
      obtain ⟨n, -, rfl⟩ := hx
      have h1 := bdL_getD ha (by omega) n
      have h2 := bdL_getD hb (by omega) n
      simp only [Tm.pipes]; omega
    · simp only [Tm.costs, if_true, besideL, List.mem_map, List.mem_range] at hx
      obtain ⟨n, -, rfl⟩ := hx
      by_cases hw : waysL a.costs b.costs n = []
      · rw [hw]; simp [lowL, Tm.pipes]; omega
      · have := ways_bd ha hb (by omega) (by omega) n _ (lowL_mem hw)
        simp only [Tm.pipes]; omega
theorem Tm.costs_pos (T : Tm) (hg : T.good) : 0 < T.costs.length := by
  have h1 := T.costs_len hg; have h2 := T.carry_bd hg; omega
theorem Tm.costs_small (T : Tm) (hg : T.good) : T.costs.length ≤ 4 * T.pipes + 1 := by
  have h1 := T.costs_len hg; have h2 := T.carry_bd hg; omega

theorem map_range_snoc (f : Nat → Int) (n k : Nat) (hk : k < n) : ((List.range n).map f).take (k + 1) = ((List.range n).map f).take k ++ [f k] := by
  rw [List.take_succ_eq_append_getElem (by simpa using hk)]; simp

/- a row's tree -/
def tmOf (ts : List Mk) : Tm := (runT ts []).headD (.pipe 0 0)
theorem tmOf_marks (T : Tm) (hg : T.good) : tmOf T.marks = T := by simp [tmOf, T.run hg]
theorem term_of {ts : List Mk} (h : termB ts = true) : ts = (tmOf ts).marks ∧ (tmOf ts).good ∧ (tmOf ts).pipes ≤ 7 ∧ (tmOf ts).thens ≤ 3 := by
  obtain ⟨T, rfl, hg, h7, h3⟩ := (termB_iff ts).1 h
  rw [tmOf_marks T hg]
  exact ⟨rfl, hg, h7, h3⟩
def carriesN (ts : List Mk) : Int := if termB ts then (tmOf ts).carry else -1
def costsR (ts : List Mk) : List Int := if termB ts then (tmOf ts).costs else []
theorem carries_costs {ts : List Mk} (h : termB ts = true) : carriesN ts = ((costsR ts).length : Int) - 1 := by
  obtain ⟨-, hg, -, -⟩ := term_of h
  have := (tmOf ts).costs_len hg
  simp only [carriesN, costsR, h, if_true]; omega

end Go.Proofs.Ytobbeofibkpbaaa
