/- Plain facts of chapter 5: the count of circulations: none exactly if there is no circulation; by the amount of the last pipe; turned. -/
import Derived.Test.YtphbmlephldaaaaC3
import Derived.Test.YtphbmlephldaaaaC4
import Derived.Test.YtphbmlephldaaaaMG
namespace Go.Proofs.Ytphbmlephldaaaa
open Go.RowKit

/-- amounts that pipes hold, one by one -/
def heldL : List Pp → List Int → Prop
  | [], [] => True
  | p :: ps, x :: xs => p.le ≤ x ∧ x ≤ p.mo ∧ heldL ps xs
  | _, _ => False

theorem sum_nonneg {l : List Int} (h : ∀ x ∈ l, 0 ≤ x) : 0 ≤ l.sum := by
  induction l with
  | nil => simp
  | cons x l ih =>
    have h1 := h x (by simp)
    have h2 := ih fun y hy => h y (by simp [hy])
    simp only [List.sum_cons]
    omega
theorem sum_pos {l : List Int} (h : ∀ x ∈ l, 0 ≤ x) : 0 < l.sum ↔ ∃ x ∈ l, 0 < x := by
  induction l with
  | nil => simp
  | cons x l ih =>
    have h1 := h x (by simp)
    have h2 := ih fun y hy => h y (by simp [hy])
    have h3 := sum_nonneg fun y hy => h y (List.mem_cons_of_mem x hy)
    simp only [List.sum_cons, List.mem_cons, exists_eq_or_imp]
    constructor
    · intro h0
      by_cases hx : 0 < x
      · exact .inl hx
      · exact .inr (h2.1 (by omega))
    · rintro (hx | hx)
      · omega
      · have := h2.2 hx
        omega
theorem sum_map_add {α : Type} (f g : α → Int) (l : List α) : (l.map fun x => f x + g x).sum = (l.map f).sum + (l.map g).sum := by
  induction l with
  | nil => simp
  | cons x l ih =>
    simp only [List.map_cons, List.sum_cons, ih]
    omega

theorem count_nonneg (n : Int) (ps : List Pp) : ∀ (rest : List Pp) (xs : List Int), 0 ≤ countP n ps rest xs := by
  intro rest
  induction rest with
  | nil => intro xs; unfold countP; split <;> decide
  | cons p rest ih =>
    intro xs
    rw [countP]
    refine sum_nonneg fun x hx => ?_
    obtain ⟨i, -, rfl⟩ := List.mem_map.1 hx
    exact ih _

theorem count_pos (n : Int) (ps : List Pp) : ∀ (rest : List Pp) (xs : List Int), 0 < countP n ps rest xs ↔ ∃ ys, heldL rest ys ∧ balB n ps (xs ++ ys) = true := by
  intro rest
  induction rest with
  | nil =>
    intro xs
    unfold countP
    constructor
    · intro h
      refine ⟨[], trivial, ?_⟩
      rw [List.append_nil]
      apply Classical.byContradiction
      intro hb
      rw [if_neg hb] at h
      exact absurd h (by decide)
    · rintro ⟨ys, hy, hb⟩
      cases ys with
      | nil =>
        rw [List.append_nil] at hb
        rw [if_pos hb]
        decide
      | cons y ys => exact absurd hy (by simp [heldL])
  | cons p rest ih =>
    intro xs
    rw [countP, sum_pos (fun x hx => by
      obtain ⟨i, -, rfl⟩ := List.mem_map.1 hx
      exact count_nonneg _ _ _ _)]
    constructor
    · rintro ⟨x, hx, h0⟩
      obtain ⟨i, hi, rfl⟩ := List.mem_map.1 hx
      rw [List.mem_range] at hi
      obtain ⟨ys, hy, hb⟩ := (ih _).1 h0
      refine ⟨(p.le + (i : Int)) :: ys, ⟨by omega, by omega, hy⟩, ?_⟩
      rw [List.append_assoc] at hb
      exact hb
    · rintro ⟨ys, hy, hb⟩
      cases ys with
      | nil => exact absurd hy (by simp [heldL])
      | cons y ys =>
        obtain ⟨h1, h2, h3⟩ := hy
        refine ⟨countP n ps rest (xs ++ [p.le + ((y - p.le).toNat : Int)]), List.mem_map.2 ⟨(y - p.le).toNat, ?_, rfl⟩, (ih _).2 ⟨ys, h3, ?_⟩⟩
        · rw [List.mem_range]
          omega
        · rw [show p.le + ((y - p.le).toNat : Int) = y by omega, List.append_assoc]
          exact hb

theorem held_all {ps : List Pp} {xs : List Int} (hl : xs.length = ps.length) : heldL ps xs ↔ ((ps.zip xs).all fun q => withinB q.2 q.1.le q.1.mo) = true := by
  induction ps generalizing xs with
  | nil =>
    cases xs with
    | nil => simp [heldL]
    | cons x xs => simp at hl
  | cons p ps ih =>
    cases xs with
    | nil => simp at hl
    | cons x xs =>
      have := ih (xs := xs) (by simpa using hl)
      simp only [heldL, List.zip_cons_cons, List.all_cons, Bool.and_eq_true, withinB, decide_eq_true_eq] at this ⊢
      rw [this]
      simp [and_assoc]

theorem count_circ {n : Int} {ps : List Pp} (hn : netOkB n ps = true) (hl : ps.length ≤ 5) : decide (0 < countR n ps) = circB n ps := by
  have e : countR n ps = countP n ps ps [] := by rw [countR, if_pos ⟨hn, hl⟩]
  rw [e]
  have h : 0 < countP n ps ps [] ↔ circB n ps = true := by
    rw [count_pos, circ_iff hn]
    constructor
    · rintro ⟨ys, hy, hb⟩
      rw [List.nil_append] at hb
      have hf : flowOkB n ps ys = true := by
        simp only [balB, Bool.and_eq_true] at hb
        exact hb.1
      refine ⟨ys, ?_, hb⟩
      simp only [holdsB, Bool.and_eq_true]
      exact ⟨hf, (held_all (flowOk_parts hf).2.1).1 hy⟩
    · rintro ⟨ys, hh, hb⟩
      obtain ⟨h1, h2, h3⟩ := holds_parts hh
      exact ⟨ys, (held_all h3).2 h2, by rw [List.nil_append]; exact hb⟩
  cases hc : circB n ps with
  | true => rw [decide_eq_true_eq]; exact h.2 hc
  | false =>
    rw [decide_eq_false_iff_not]
    intro h0
    rw [h.1 h0] at hc
    cases hc

/-- the count looks at the amounts alone -/
theorem count_same {n m : Int} {ps qs : List Pp} (hb : ∀ xs, balB n ps xs = balB m qs xs) : ∀ (rest : List Pp) (xs : List Int), countP n ps rest xs = countP m qs rest xs := by
  intro rest
  induction rest with
  | nil => intro xs; rw [countP, countP, hb]
  | cons p rest ih =>
    intro xs
    rw [countP, countP]
    congr 1
    refine List.map_congr_left fun i _ => ih _
theorem count_rooms {n : Int} {ps : List Pp} (f : Pp → Pp) (hf : ∀ p, (f p).le = p.le ∧ (f p).mo = p.mo) : ∀ (rest : List Pp) (xs : List Int), countP n ps (rest.map f) xs = countP n ps rest xs := by
  intro rest
  induction rest with
  | nil => intro xs; rfl
  | cons p rest ih =>
    intro xs
    rw [List.map_cons, countP, countP, (hf p).1, (hf p).2]
    congr 1
    refine List.map_congr_left fun i _ => ih _

theorem count_turn {n : Int} {ps : List Pp} (hn : netOkB n ps = true) : countR n (ps.map turnP) = countR n ps := by
  unfold countR
  rw [netOk_turn, List.length_map]
  by_cases h : netOkB n ps = true ∧ ps.length ≤ 5
  · rw [if_pos h, if_pos h, count_same (qs := ps) (m := n) (fun xs => bal_turn xs hn), count_rooms turnP fun p => ⟨rfl, rfl⟩]
  · rw [if_neg h, if_neg h]

/-- by the amount of the last pipe -/
theorem count_split {n : Int} {ps : List Pp} {p p1 p2 : Pp} (h1 : p1.le = p.le) (h2 : p1.mo = p.le) (h3 : p2.le = p.le + 1) (h4 : p2.mo = p.mo) (hlt : p.le < p.mo) : ∀ (rest : List Pp) (xs : List Int),
    countP n ps (rest ++ [p]) xs = countP n ps (rest ++ [p1]) xs + countP n ps (rest ++ [p2]) xs := by
  intro rest
  induction rest with
  | nil =>
    intro xs
    rw [List.nil_append, List.nil_append, List.nil_append, countP, countP, countP, h1, h2, h3, h4]
    obtain ⟨k, hk⟩ : ∃ k, (p.mo - p.le + 1).toNat = k + 1 := ⟨(p.mo - p.le).toNat, by omega⟩
    rw [hk, show (p.le - p.le + 1).toNat = 1 by omega, show (p.mo - (p.le + 1) + 1).toNat = k by omega, List.range_succ_eq_map]
    simp only [List.map_cons, List.map_map, List.sum_cons, List.range_one, List.map_nil, List.sum_nil, Int.add_zero]
    congr 2
    refine List.map_congr_left fun i _ => ?_
    simp only [Function.comp_apply]
    rw [show p.le + ((i.succ : Nat) : Int) = p.le + 1 + (i : Int) by omega]
  | cons q rest ih =>
    intro xs
    rw [List.cons_append, List.cons_append, List.cons_append, countP, countP, countP, ← sum_map_add]
    congr 1
    refine List.map_congr_left fun i _ => ih _

theorem exc_ends (k : Int) (ps : List Pp) {p q : Pp} (h1 : q.fr = p.fr) (h2 : q.to = p.to) (xs : List Int) : exc k (ps ++ [q]) xs = exc k (ps ++ [p]) xs := by
  induction ps generalizing xs with
  | nil =>
    cases xs with
    | nil => simp [exc]
    | cons x xs => simp [exc, excT, h1, h2]
  | cons r ps ih =>
    cases xs with
    | nil => simp [exc]
    | cons x xs =>
      have := ih xs
      simp only [exc] at this
      simp [exc, this]
theorem bal_ends {n : Int} {ps : List Pp} {p q : Pp} (h1 : q.fr = p.fr) (h2 : q.to = p.to) (hn : netOkB n (ps ++ [p]) = true) (hq : netOkB n (ps ++ [q]) = true) (xs : List Int) : balB n (ps ++ [q]) xs = balB n (ps ++ [p]) xs := by
  simp only [balB, flowOkB, hn, hq, List.length_append, List.length_cons, List.length_nil]
  congr 1
  congr 1
  funext k
  rw [exc_ends _ _ h1 h2]
theorem net_last {n : Int} {ps : List Pp} {p q : Pp} (h1 : q.fr = p.fr) (h2 : q.to = p.to) (h3 : p.le ≤ q.le) (h4 : q.le ≤ q.mo) (h5 : q.mo ≤ p.mo) (h6 : q.co = p.co) (hn : netOkB n (ps ++ [p]) = true) : netOkB n (ps ++ [q]) = true := by
  simp only [netOkB, Bool.and_eq_true, decide_eq_true_eq, List.length_append, List.length_cons, List.length_nil, List.all_append, List.all_cons, List.all_nil, and_true, pipeOk_iff] at hn ⊢
  obtain ⟨hn1, hn2, hn3⟩ := hn
  refine ⟨hn1, hn2, ?_⟩
  rw [h1, h2, h6]
  omega
theorem count_last {n : Int} {ps : List Pp} {p : Pp} (hn : netOkB n (ps ++ [p]) = true) (hl : (ps ++ [p]).length ≤ 5) (hlt : p.le < p.mo) :
    countR n (ps ++ [⟨p.fr, p.to, p.le, p.le, p.co⟩]) + countR n (ps ++ [⟨p.fr, p.to, p.le + 1, p.mo, p.co⟩]) = countR n (ps ++ [p]) := by
  have n1 : netOkB n (ps ++ [⟨p.fr, p.to, p.le, p.le, p.co⟩]) = true := net_last (p := p) (q := ⟨p.fr, p.to, p.le, p.le, p.co⟩) rfl rfl (Int.le_refl _) (Int.le_refl _) (Int.le_of_lt hlt) rfl hn
  have n2 : netOkB n (ps ++ [⟨p.fr, p.to, p.le + 1, p.mo, p.co⟩]) = true := net_last (p := p) (q := ⟨p.fr, p.to, p.le + 1, p.mo, p.co⟩) rfl rfl (Int.le_of_lt (Int.lt_succ p.le)) hlt (Int.le_refl _) rfl hn
  have hl1 : (ps ++ [(⟨p.fr, p.to, p.le, p.le, p.co⟩ : Pp)]).length ≤ 5 := by simpa using hl
  have hl2 : (ps ++ [(⟨p.fr, p.to, p.le + 1, p.mo, p.co⟩ : Pp)]).length ≤ 5 := by simpa using hl
  have b1 : ∀ xs, balB n (ps ++ [⟨p.fr, p.to, p.le, p.le, p.co⟩]) xs = balB n (ps ++ [p]) xs := fun xs => bal_ends (p := p) (q := ⟨p.fr, p.to, p.le, p.le, p.co⟩) rfl rfl hn n1 xs
  have b2 : ∀ xs, balB n (ps ++ [⟨p.fr, p.to, p.le + 1, p.mo, p.co⟩]) xs = balB n (ps ++ [p]) xs := fun xs => bal_ends (p := p) (q := ⟨p.fr, p.to, p.le + 1, p.mo, p.co⟩) rfl rfl hn n2 xs
  rw [countR, countR, countR, if_pos ⟨n1, hl1⟩, if_pos ⟨n2, hl2⟩, if_pos ⟨hn, hl⟩, count_same b1, count_same b2]
  exact (count_split (p := p) (p1 := ⟨p.fr, p.to, p.le, p.le, p.co⟩) (p2 := ⟨p.fr, p.to, p.le + 1, p.mo, p.co⟩) rfl rfl rfl rfl hlt ps []).symm

end Go.Proofs.Ytphbmlephldaaaa
