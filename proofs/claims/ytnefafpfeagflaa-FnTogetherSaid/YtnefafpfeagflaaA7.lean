/- Terms, plain: the pipes of a net in the order of the term; two terms put together. -/
import Derived.Test.YtnefafpfeagflaaA6
import Derived.Test.YtnefafpfeagflaaAP
namespace Go.Proofs.Ytnefafpfeagflaa
open Go.RowKit

theorem place_marks (T : Tm) : ∀ (f t n : Int), (placeT T f t n).map (fun p => (p.mo, p.co)) = (T.marks.filter fun m => m.k == 0).map fun m => (m.h, m.p) := by
  induction T with
  | pipe h p => intro f t n; simp [placeT, Tm.marks]
  | two s a b iha ihb =>
    intro f t n
    have hk : ([⟨kindI s, 0, 0⟩] : List Mk).filter (fun m => m.k == 0) = [] := by cases s <;> rfl
    cases s
    · simp only [placeT, Bool.false_eq_true, if_false, Tm.marks, List.map_append, List.filter_append, iha, ihb, hk, List.append_nil]
    · simp only [placeT, if_true, Tm.marks, List.map_append, List.filter_append, iha, ihb, hk, List.append_nil]
theorem filt_at (q : Mk → Bool) (ts : List Mk) (k : Nat) (hk : k < ts.length) (h : q ts[k] = true) : (ts.filter q)[((ts.take k).filter q).length]? = some ts[k] := by
  have e : ts = ts.take k ++ (ts[k] :: ts.drop (k + 1)) := by rw [← List.drop_eq_getElem_cons hk, List.take_append_drop]
  have e2 : ts.filter q = (ts.take k).filter q ++ (ts[k] :: (ts.drop (k + 1)).filter q) := by
    have := congrArg (List.filter q) e
    rw [List.filter_append, List.filter_cons, if_pos h] at this
    exact this
  rw [e2, List.getElem?_append_right (Nat.le_refl _), Nat.sub_self]
  rfl
theorem net_order {ts : List Mk} (h : termB ts = true) (k : Nat) (hk : k < ts.length) (h0 : ts[k].k = 0) :
    ∃ hl : countK 0 (ts.take k) < (termNetL ts).length, (termNetL ts)[countK 0 (ts.take k)].mo = ts[k].h ∧ (termNetL ts)[countK 0 (ts.take k)].co = ts[k].p := by
  obtain ⟨hT, -, -, -⟩ := term_of h
  have h1 := place_marks (tmOf ts) 0 1 2
  rw [← hT] at h1
  have h2 := filt_at (fun m => m.k == 0) ts k hk (by simpa using h0)
  have h3 := congrArg (fun l => l[countK 0 (ts.take k)]?) h1
  simp only [List.getElem?_map] at h3
  rw [show countK 0 (ts.take k) = ((ts.take k).filter fun m => m.k == 0).length from rfl, h2, ← (termNet_yes h).2] at h3
  rw [show countK 0 (ts.take k) = ((ts.take k).filter fun m => m.k == 0).length from rfl]
  rcases Nat.lt_or_ge ((ts.take k).filter fun m => m.k == 0).length (termNetL ts).length with hl | hl
  · refine ⟨hl, ?_⟩
    rw [List.getElem?_eq_getElem hl] at h3
    simp only [Option.map_some, Option.some.injEq, Prod.mk.injEq] at h3
    exact h3
  · rw [List.getElem?_eq_none hl] at h3
    cases h3
theorem net_nodes {ts : List Mk} (h : termB ts = true) : termNetN ts = (countK 1 ts : Nat) + 2 := by
  obtain ⟨hT, -, -, -⟩ := term_of h
  rw [(termNet_yes h).1]
  conv => rhs; rw [hT]
  rw [Tm.count1]

theorem two_marks {xs ys : List Mk} (s : Bool) (ha : termB xs = true) (hb : termB ys = true) : xs ++ ys ++ [⟨kindI s, 0, 0⟩] = (Tm.two s (tmOf xs) (tmOf ys)).marks ∧ (Tm.two s (tmOf xs) (tmOf ys)).good := by
  obtain ⟨h1, g1, -, -⟩ := term_of ha
  obtain ⟨h2, g2, -, -⟩ := term_of hb
  refine ⟨?_, g1, g2⟩
  simp only [Tm.marks]
  rw [← h1, ← h2, List.append_assoc]
theorem two_tm {xs ys : List Mk} (s : Bool) (ha : termB xs = true) (hb : termB ys = true) : tmOf (xs ++ ys ++ [⟨kindI s, 0, 0⟩]) = Tm.two s (tmOf xs) (tmOf ys) := by
  obtain ⟨h1, h2⟩ := two_marks s ha hb
  rw [h1, tmOf_marks _ h2]
theorem two_carry {xs ys : List Mk} (s : Bool) (ha : termB xs = true) (hb : termB ys = true) (h : termB (xs ++ ys ++ [⟨kindI s, 0, 0⟩]) = true) :
    carriesN (xs ++ ys ++ [⟨kindI s, 0, 0⟩]) = if s then carriesN xs + carriesN ys else min (carriesN xs) (carriesN ys) := by
  simp only [carriesN, h, ha, hb, if_true, two_tm s ha hb, Tm.carry]
theorem then_costs {xs ys : List Mk} (ha : termB xs = true) (hb : termB ys = true) (h : termB (xs ++ ys ++ [⟨1, 0, 0⟩]) = true) :
    costsR (xs ++ ys ++ [⟨1, 0, 0⟩]) = behindL (costsR xs) (costsR ys) := by
  have h2 := two_tm false ha hb
  simp only [costsR, h, ha, hb, if_true]
  rw [show ([⟨1, 0, 0⟩] : List Mk) = [⟨kindI false, 0, 0⟩] from rfl, h2]
  rfl
theorem behind_len (a b : List Int) : (behindL a b).length = min a.length b.length := by simp [behindL]
theorem behind_at {a b : List Int} {k : Nat} (h : k < (behindL a b).length) : (behindL a b).getD k 0 = a.getD k 0 + b.getD k 0 := by
  rw [behind_len] at h
  simp only [behindL]
  rw [List.getD_eq_getElem?_getD, List.getElem?_map, List.getElem?_range h]
  rfl
theorem costs_bdR (ts : List Mk) : bdL 252 (costsR ts) := by
  intro x hx
  unfold costsR at hx
  split at hx
  · rename_i h
    obtain ⟨-, hg, h7, -⟩ := term_of h
    have := (tmOf ts).costs_bd hg x hx
    omega
  · cases hx

end Go.Proofs.Ytnefafpfeagflaa
