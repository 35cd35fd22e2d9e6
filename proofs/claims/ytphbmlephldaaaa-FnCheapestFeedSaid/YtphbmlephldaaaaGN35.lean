/- Plain facts. -/
import Derived.Test.YtphbmlephldaaaaMG
import Derived.Test.YtphbmlephldaaaaGN23
/- Plain facts, chapter 6: rings of steps that gain, as the program and as the model seek them. -/
namespace Go.Proofs.Ytphbmlephldaaaa
open Go.RowKit

/-- the cost of a step -/
def stCo (ps : List Pp) (s : Nat) : Int := if s % 2 = 1 then -(ps.getD (s / 2) zeroPp).co else (ps.getD (s / 2) zeroPp).co
def coL (ps : List Pp) (l : List Nat) : Int := (l.map (stCo ps)).sum

theorem coL_nil (ps : List Pp) : coL ps [] = 0 := rfl
theorem coL_cons (ps : List Pp) (s : Nat) (l : List Nat) : coL ps (s :: l) = stCo ps s + coL ps l := by simp [coL]
theorem coL_append (ps : List Pp) (l q : List Nat) : coL ps (l ++ q) = coL ps l + coL ps q := by simp [coL]
theorem coL_snoc (ps : List Pp) (l : List Nat) (s : Nat) : coL ps (l ++ [s]) = coL ps l + stCo ps s := by simp [coL]

theorem stCo_bd {ps : List Pp} (hc : ∀ p ∈ ps, -9 ≤ p.co ∧ p.co ≤ 9) {s : Nat} (hs : s < 2 * ps.length) : -9 ≤ stCo ps s ∧ stCo ps s ≤ 9 := by
  have hk : s / 2 < ps.length := by omega
  have h := hc _ (List.getElem_mem hk)
  unfold stCo
  simp only [List.getD, List.getElem?_eq_getElem hk, Option.getD_some]
  split <;> omega

theorem coL_bd {ps : List Pp} (hc : ∀ p ∈ ps, -9 ≤ p.co ∧ p.co ≤ 9) {l : List Nat} (hl : ∀ s ∈ l, s < 2 * ps.length) : -(9 * (l.length : Int)) ≤ coL ps l ∧ coL ps l ≤ 9 * (l.length : Int) := by
  induction l with
  | nil => simp [coL]
  | cons s l ih =>
    have h1 := ih (fun t ht => hl t (by simp [ht]))
    have h2 := stCo_bd hc (hl s (by simp))
    rw [coL_cons]
    simp only [List.length_cons]
    omega

/-- whether a step may go on begun ones: no step at all, or it begins where the last one leads and where none begins -/
def usedB (ps : List Pp) (l : List Nat) (v : Int) : Bool := l.any fun e => decide (stFr ps e = v)
def goesB (ps : List Pp) (l : List Nat) (s : Nat) : Bool := match l.getLast? with
  | none => true
  | some t => decide (stTo ps t = stFr ps s) && !usedB ps l (stFr ps s)
def closB (ps : List Pp) (l : List Nat) : Bool := decide (stTo ps (l.getLast?.getD 0) = stFr ps (l.head?.getD 0))
def gainB (ps : List Pp) (l : List Nat) : Bool := closB ps l && decide (coL ps l < 0)

def srch (ps : List Pp) (S : List Nat) : Nat → List Nat → Option (List Nat)
  | 0, l => if gainB ps l = true then some l else none
  | m + 1, l => S.findSome? fun s => if goesB ps l s = true then srch ps S m (l ++ [s]) else none

/-- the model's test ahead of a step -/
def againB (ps : List Pp) (l : List Nat) (s : Nat) (last : Bool) : Bool := match l.getLast? with
  | none => false
  | some t => if stTo ps t = stFr ps s then
      match l.findIdx? fun e => decide (stFr ps e = stTo ps s) with
      | none => false
      | some k => !last || decide (0 < k)
    else true

def srchM (ps : List Pp) (S : List Nat) : Nat → List Nat → Option (List Nat)
  | 0, l => if gainB ps l = true then some l else none
  | m + 1, l => S.findSome? fun s => if againB ps l s (decide (m = 0)) = true then none else srchM ps S m (l ++ [s])

theorem findSome_congr {α β : Type} {f g : α → Option β} {l : List α} (h : ∀ x ∈ l, f x = g x) : l.findSome? f = l.findSome? g := by
  induction l with
  | nil => rfl
  | cons a l ih =>
    simp only [List.findSome?_cons, h a (by simp)]
    rw [ih fun x hx => h x (by simp [hx])]

theorem findSome_none {α β : Type} {f : α → Option β} {l : List α} (h : ∀ x ∈ l, f x = none) : l.findSome? f = none := by
  rw [List.findSome?_eq_none_iff]; exact h

theorem findSome_take {α β : Type} {f : α → Option β} {l : List α} {k : Nat} (hk : k < l.length) (h : (l.take k).findSome? f = none) (h1 : f l[k] = none) : (l.take (k + 1)).findSome? f = none := by
  rw [List.take_succ_eq_append_getElem hk, List.findSome?_append, h]
  simp [h1]

theorem findSome_hit {α β : Type} {f : α → Option β} {l : List α} {k : Nat} {y : β} (hk : k < l.length) (h : (l.take k).findSome? f = none) (h1 : f l[k] = some y) : l.findSome? f = some y := by
  have e : l.findSome? f = (l.take k ++ l.drop k).findSome? f := by rw [List.take_append_drop]
  rw [e, List.findSome?_append, h, List.drop_eq_getElem_cons hk, List.findSome?_cons, h1]
  rfl

def invB (ps : List Pp) (l : List Nat) : Prop := ∀ t, l.getLast? = some t → ∀ e ∈ l, stFr ps e ≠ stTo ps t

theorem used_no {ps : List Pp} {l : List Nat} {v : Int} : usedB ps l v = false ↔ ∀ e ∈ l, stFr ps e ≠ v := by
  simp [usedB]

theorem srch_eq {ps : List Pp} {S : List Nat} (hS : ∀ s ∈ S, stFr ps s ≠ stTo ps s) : ∀ (m : Nat) (l : List Nat), (m = 0 ∨ invB ps l) → srchM ps S m l = srch ps S m l := by
  intro m
  induction m with
  | zero => intro l _; rfl
  | succ m ih =>
    intro l hl
    have hl : invB ps l := by rcases hl with h | h; · omega
                              · exact h
    rw [srchM, srch]
    refine findSome_congr fun s hs => ?_
    have hne := hS s hs
    cases hlast : l.getLast? with
    | none =>
      have e : l = [] := List.getLast?_eq_none_iff.1 hlast
      subst e
      have ha : againB ps [] s (decide (m = 0)) = false := rfl
      have hg : goesB ps [] s = true := rfl
      rw [if_neg (by rw [ha]; simp), if_pos hg]
      refine ih _ (.inr ?_)
      intro t ht e he
      simp at ht he
      subst ht; subst he
      exact hne
    | some t =>
      have hin := hl t hlast
      by_cases ht : stTo ps t = stFr ps s
      · have hu : usedB ps l (stFr ps s) = false := used_no.2 fun e he => by rw [← ht]; exact hin e he
        have hg : goesB ps l s = true := by simp [goesB, hlast, ht, hu]
        rw [if_pos hg]
        cases hf : l.findIdx? (fun e => decide (stFr ps e = stTo ps s)) with
        | none =>
          have ha : againB ps l s (decide (m = 0)) = false := by simp [againB, hlast, ht, hf]
          rw [if_neg (by simp [ha])]
          refine ih _ (.inr ?_)
          intro t' ht' e he
          rw [List.getLast?_concat] at ht'
          injection ht' with ht'
          subst ht'
          rcases List.mem_append.1 he with he | he
          · have := List.findIdx?_eq_none_iff.1 hf e he
            simpa using this
          · simp at he; subst he; exact hne
        | some k =>
          obtain ⟨hk, hk1, hk2⟩ := List.findIdx?_eq_some_iff_getElem.1 hf
          simp only [decide_eq_true_eq] at hk1
          by_cases hm : m = 0
          · subst hm
            by_cases h0 : k = 0
            · have ha : againB ps l s (decide (0 = 0)) = false := by simp [againB, hlast, ht, hf, h0]
              rw [if_neg (by simp at ha; simp [ha])]
              exact ih _ (.inl rfl)
            · have ha : againB ps l s (decide (0 = 0)) = true := by simp [againB, hlast, ht, hf]; omega
              rw [if_pos (by simpa using ha), srch]
              have h00 := hk2 0 (by omega)
              have hl0 : 0 < l.length := by omega
              rw [if_neg]
              simp only [gainB, closB, Bool.and_eq_true, decide_eq_true_eq, List.getLast?_concat, Option.getD_some]
              have hh : (l ++ [s]).head? = some l[0] := by
                rw [List.head?_eq_getElem?, List.getElem?_append_left hl0, List.getElem?_eq_getElem hl0]
              rw [hh]
              simp only [Option.getD_some]
              simp only [decide_eq_true_eq] at h00
              intro h
              exact h00 h.1.symm
          · have ha : againB ps l s (decide (m = 0)) = true := by simp [againB, hlast, ht, hf, hm]
            rw [if_pos ha]
            obtain ⟨m', rfl⟩ : ∃ m', m = m' + 1 := ⟨m - 1, by omega⟩
            rw [srch]
            symm
            refine findSome_none fun s' _ => ?_
            rw [if_neg]
            simp only [goesB, List.getLast?_concat, Bool.and_eq_true, decide_eq_true_eq, Bool.not_eq_true']
            rintro ⟨h1, h2⟩
            have := used_no.1 h2 l[k] (by simp)
            rw [hk1] at this
            exact this h1
      · have ha : againB ps l s (decide (m = 0)) = true := by simp [againB, hlast, ht]
        have hg : goesB ps l s = false := by simp [goesB, hlast, ht]
        rw [if_pos ha, if_neg (by simp [hg])]

theorem srchM_eq {ps : List Pp} {S : List Nat} (hS : ∀ s ∈ S, stFr ps s ≠ stTo ps s) (m : Nat) : srchM ps S m [] = srch ps S m [] := srch_eq hS m [] (.inr (by intro t ht; simp at ht))

/-- what GainOf answers -/
def gainO (n : Int) (ps : List Pp) (xs : List Int) : Option (List Nat) := if holdsB n ps xs = true then (List.range (n.toNat - 1)).findSome? fun i => srch ps (stL ps xs) (i + 2) [] else none
def gainsB (n : Int) (ps : List Pp) (xs : List Int) : Bool := (gainO n ps xs).isSome
def gainR (n : Int) (ps : List Pp) (xs : List Int) : List Nat := (gainO n ps xs).getD []
def gainI (n : Int) (ps : List Pp) (xs : List Int) : List Int := (gainR n ps xs).map fun s : Nat => (s : Int)

end Go.Proofs.Ytphbmlephldaaaa

/- Plain facts, chapter 6: rings that gain are found, just if there is one; pushes round them. -/
namespace Go.Proofs.Ytphbmlephldaaaa
open Go.RowKit

section
variable {ps : List Pp} {S : List Nat} {a b c : Int}

theorem chain_head {l : List Nat} {s : Nat} (h : chain ps a b l) (hs : l.head? = some s) : stFr ps s = a := by
  cases l with
  | nil => simp at hs
  | cons t l => simp at hs; subst hs; exact h.2.1

theorem chain_last {l : List Nat} {s : Nat} (h : chain ps a b l) (hs : l.getLast? = some s) : stTo ps s = b := by
  induction l generalizing a with
  | nil => simp at hs
  | cons t l ih =>
    cases l with
    | nil => simp at hs; subst hs; exact h.2.2
    | cons u l => exact ih h.2.2 (by simpa using hs)

theorem chain_append {l q : List Nat} : chain ps a b (l ++ q) ↔ ∃ c, chain ps a c l ∧ chain ps c b q := by
  induction l generalizing a with
  | nil => simp [chain]
  | cons t l ih =>
    simp only [List.cons_append, chain, ih]
    constructor
    · rintro ⟨h1, h2, c, h3, h4⟩; exact ⟨c, ⟨h1, h2, h3⟩, h4⟩
    · rintro ⟨c, ⟨h1, h2, h3⟩, h4⟩; exact ⟨h1, h2, c, h3, h4⟩

theorem chain_one {s : Nat} (hs : s < 2 * ps.length) : chain ps (stFr ps s) (stTo ps s) [s] := ⟨hs, rfl, rfl⟩

theorem chain_split {l : List Nat} (h : chain ps a b l) (hc : c ∈ l.map (stFr ps) ++ [b]) : ∃ l1 l2, l = l1 ++ l2 ∧ chain ps a c l1 ∧ chain ps c b l2 ∧ c ∉ l1.map (stFr ps) := by
  induction l generalizing a with
  | nil =>
    simp at hc
    subst hc
    exact ⟨[], [], rfl, h, rfl, by simp⟩
  | cons t l ih =>
    by_cases hac : a = c
    · subst hac
      exact ⟨[], t :: l, rfl, rfl, h, by simp⟩
    · have hta : stFr ps t = a := h.2.1
      have hc' : c ∈ l.map (stFr ps) ++ [b] := by
        simp only [List.map_cons, List.cons_append, List.mem_cons] at hc
        rcases hc with hc | hc
        · omega
        · exact hc
      obtain ⟨l1, l2, rfl, h1, h2, h3⟩ := ih h.2.2 hc'
      refine ⟨t :: l1, l2, rfl, ⟨h.1, hta, h1⟩, h2, ?_⟩
      simp only [List.map_cons, List.mem_cons, not_or]
      exact ⟨by omega, h3⟩

/-- a ring of steps -/
def ringK (ps : List Pp) (S : List Nat) (r : List Nat) : Prop := r ≠ [] ∧ (∀ s ∈ r, s ∈ S) ∧ (r.map (stFr ps)).Nodup ∧ ∃ a, chain ps a a r

theorem srch_sound (hS : ∀ s ∈ S, s < 2 * ps.length) : ∀ (m : Nat) (l r : List Nat), srch ps S m l = some r → (∀ s ∈ l, s ∈ S) → (l.map (stFr ps)).Nodup → (∃ a b, chain ps a b l) → 0 < m + l.length →
    ringK ps S r ∧ coL ps r < 0 ∧ r.length = m + l.length := by
  intro m
  induction m with
  | zero =>
    intro l r h h1 h2 h3 h4
    rw [srch] at h
    split at h
    · next hg =>
      injection h with h
      subst h
      simp only [gainB, closB, Bool.and_eq_true, decide_eq_true_eq] at hg
      have hne : l ≠ [] := by intro e; subst e; simp at h4
      refine ⟨⟨hne, h1, h2, ?_⟩, hg.2, by omega⟩
      obtain ⟨a, b, hc⟩ := h3
      obtain ⟨t, ht⟩ : ∃ t, l.getLast? = some t := by
        cases e : l.getLast? with
        | none => exact absurd (List.getLast?_eq_none_iff.1 e) hne
        | some t => exact ⟨t, rfl⟩
      obtain ⟨u, hu⟩ : ∃ t, l.head? = some t := by
        cases e : l.head? with
        | none => exact absurd (List.head?_eq_none_iff.1 e) hne
        | some t => exact ⟨t, rfl⟩
      rw [ht, hu] at hg
      simp only [Option.getD_some] at hg
      have e1 := chain_last hc ht
      have e2 := chain_head hc hu
      refine ⟨a, ?_⟩
      have : b = a := by omega
      rw [← this] at hc ⊢
      rw [this] at hc ⊢
      exact hc
    · simp at h
  | succ m ih =>
    intro l r h h1 h2 h3 h4
    rw [srch] at h
    obtain ⟨s, hs, hr⟩ := List.exists_of_findSome?_eq_some h
    split at hr
    · next hg =>
      have hin : ∀ t ∈ l ++ [s], t ∈ S := by
        intro t ht
        rcases List.mem_append.1 ht with ht | ht
        · exact h1 t ht
        · simp at ht; subst ht; exact hs
      have := ih (l ++ [s]) r hr hin ?_ ?_ (by simp; omega)
      · rw [List.length_append] at this
        refine ⟨this.1, this.2.1, ?_⟩
        have := this.2.2
        simp at this
        omega
      · rw [List.map_append, List.nodup_append]
        refine ⟨h2, by simp, ?_⟩
        intro x hx y hy
        simp at hy
        subst hy
        cases hlast : l.getLast? with
        | none => have e : l = [] := List.getLast?_eq_none_iff.1 hlast; subst e; simp at hx
        | some t =>
          simp only [goesB, hlast, Bool.and_eq_true, decide_eq_true_eq, Bool.not_eq_true'] at hg
          obtain ⟨e, he, rfl⟩ := List.mem_map.1 hx
          exact used_no.1 hg.2 e he
      · cases hlast : l.getLast? with
        | none => have e : l = [] := List.getLast?_eq_none_iff.1 hlast; subst e; exact ⟨_, _, chain_one (hS s hs)⟩
        | some t =>
          simp only [goesB, hlast, Bool.and_eq_true, decide_eq_true_eq, Bool.not_eq_true'] at hg
          obtain ⟨a, b, hc⟩ := h3
          have := chain_last hc hlast
          refine ⟨a, stTo ps s, chain_append.2 ⟨b, hc, ?_⟩⟩
          rw [← this, hg.1]
          exact chain_one (hS s hs)
    · simp at hr

theorem srch_complete : ∀ (q l : List Nat) (a b : Int), chain ps a b l → chain ps b a q → ((l ++ q).map (stFr ps)).Nodup → (∀ s ∈ q, s ∈ S) → coL ps (l ++ q) < 0 → l ++ q ≠ [] → (srch ps S q.length l).isSome = true := by
  intro q
  induction q with
  | nil =>
    intro l a b h1 h2 h3 h4 h5 h6
    simp only [List.append_nil] at *
    have hab : b = a := h2
    rw [List.length_nil, srch, if_pos]
    · rfl
    · obtain ⟨t, ht⟩ : ∃ t, l.getLast? = some t := by
        cases e : l.getLast? with
        | none => exact absurd (List.getLast?_eq_none_iff.1 e) h6
        | some t => exact ⟨t, rfl⟩
      obtain ⟨u, hu⟩ : ∃ t, l.head? = some t := by
        cases e : l.head? with
        | none => exact absurd (List.head?_eq_none_iff.1 e) h6
        | some t => exact ⟨t, rfl⟩
      simp only [gainB, closB, ht, hu, Option.getD_some, Bool.and_eq_true, decide_eq_true_eq]
      exact ⟨by rw [chain_last h1 ht, chain_head h1 hu, hab], h5⟩
  | cons s q ih =>
    intro l a b h1 h2 h3 h4 h5 h6
    rw [List.length_cons, srch, List.findSome?_isSome_iff]
    refine ⟨s, h4 s (by simp), ?_⟩
    have hg : goesB ps l s = true := by
      cases hlast : l.getLast? with
      | none => simp [goesB, hlast]
      | some t =>
        simp only [goesB, hlast, Bool.and_eq_true, decide_eq_true_eq, Bool.not_eq_true']
        refine ⟨by rw [chain_last h1 hlast]; exact h2.2.1.symm, ?_⟩
        rw [used_no]
        intro e he
        rw [List.map_append, List.nodup_append] at h3
        exact h3.2.2 (stFr ps e) (List.mem_map.2 ⟨e, he, rfl⟩) (stFr ps s) (by simp)
    rw [if_pos hg]
    have e : l ++ [s] ++ q = l ++ s :: q := by simp
    refine ih (l ++ [s]) a (stTo ps s) (chain_append.2 ⟨b, h1, ⟨h2.1, h2.2.1, rfl⟩⟩) h2.2.2 (by rw [e]; exact h3) (fun t ht => h4 t (by simp [ht])) (by rw [e]; exact h5) (by simp)

theorem nodup_len6 : ∀ (n : Nat) (l : List Int), l.Nodup → (∀ x ∈ l, 0 ≤ x ∧ x < n) → l.length ≤ n := by
  intro n
  induction n with
  | zero =>
    intro l _ h
    cases l with
    | nil => simp
    | cons x l => have := h x (by simp); omega
  | succ n ih =>
    intro l hn h
    have h1 := ih (l.erase (n : Int)) (hn.erase _) (fun x hx => by
      have := (List.Nodup.mem_erase_iff hn).1 hx
      have h2 := h x this.2
      have := this.1
      omega)
    have := List.length_erase (a := (n : Int)) (l := l)
    split at this <;> omega
end

section
variable {n : Int} {ps : List Pp} {xs : List Int}

theorem stL_ends (hn : netOkB n ps = true) : ∀ s ∈ stL ps xs, stFr ps s ≠ stTo ps s := fun _ hs => (st_ends hn (stL_mem.1 hs).1).2.2
theorem stL_lt : ∀ s ∈ stL ps xs, s < 2 * ps.length := fun _ hs => (stL_mem.1 hs).1

theorem gain_ring {r : List Nat} (h : gainO n ps xs = some r) : holdsB n ps xs = true ∧ ringK ps (stL ps xs) r ∧ coL ps r < 0 ∧ 2 ≤ r.length ∧ (r.length : Int) ≤ n := by
  unfold gainO at h
  split at h
  · next hh =>
    obtain ⟨i, hi, hr⟩ := List.exists_of_findSome?_eq_some h
    have hi := List.mem_range.1 hi
    have := srch_sound stL_lt (i + 2) [] r hr (by simp) (by simp) ⟨0, 0, rfl⟩ (by simp)
    refine ⟨hh, this.1, this.2.1, ?_, ?_⟩
    · have := this.2.2; simp at this; omega
    · have := this.2.2; simp at this; omega
  · simp at h

theorem ring_two {r : List Nat} (hn : netOkB n ps = true) (h : ringK ps (stL ps xs) r) : 2 ≤ r.length := by
  obtain ⟨h1, h2, h3, a, h4⟩ := h
  match r, h1, h2, h4 with
  | [s], _, h2, h4 =>
    have := stL_ends hn s (h2 s (by simp))
    have e1 : stFr ps s = a := h4.2.1
    have e2 : stTo ps s = a := h4.2.2
    omega
  | _ :: _ :: _, _, _, _ => simp

theorem ring_most {r : List Nat} (hn : netOkB n ps = true) (h : ringK ps (stL ps xs) r) : (r.length : Int) ≤ n := by
  obtain ⟨h1, h2, h3, a, h4⟩ := h
  have hb := netOk_parts hn
  have := nodup_len6 n.toNat (r.map (stFr ps)) h3 (by
    intro x hx
    obtain ⟨e, he, rfl⟩ := List.mem_map.1 hx
    have := (st_ends hn (stL_lt e (h2 e he))).1
    omega)
  rw [List.length_map] at this
  omega

/-- no ring gains if none is found -/
theorem gain_none (hh : holdsB n ps xs = true) (h : gainO n ps xs = none) {r : List Nat} (hr : ringK ps (stL ps xs) r) : 0 ≤ coL ps r := by
  refine Classical.byContradiction fun hneg => ?_
  have hn := holds_net hh
  have h2 := ring_two hn hr
  have h3 := ring_most hn hr
  have hb := netOk_parts hn
  unfold gainO at h
  rw [if_pos hh, List.findSome?_eq_none_iff] at h
  have := h (r.length - 2) (by rw [List.mem_range]; omega)
  obtain ⟨h5, h6, h7, a, h8⟩ := hr
  have h9 := srch_complete (ps := ps) (S := stL ps xs) r [] a a rfl h8 (by simpa using h7) h6 (by simp; omega) (by simpa using h5)
  rw [show r.length - 2 + 2 = r.length by omega] at this
  rw [this] at h9
  simp at h9

theorem ring_apart {r : List Nat} (hr : ringK ps (stL ps xs) r) (hc : coL ps r < 0) : r.Pairwise fun s t => s / 2 ≠ t / 2 := by
  obtain ⟨h1, h2, h3, a, h4⟩ := hr
  rw [List.pairwise_iff_forall_sublist]
  intro s t hst he
  obtain ⟨r1, r2, rfl, hs, ht⟩ := List.cons_sublist_iff.1 hst
  obtain ⟨l1, l2, rfl⟩ := List.append_of_mem hs
  have ht : t ∈ r2 := by simpa using ht
  obtain ⟨l3, l4, rfl⟩ := List.append_of_mem ht
  have hs2 := stL_lt s (h2 s (by simp))
  have ht2 := stL_lt t (h2 t (by simp))
  simp only [List.append_assoc, List.cons_append] at h1 h2 h3 h4 hc
  obtain ⟨c1, g1, g2, g3, g4⟩ := chain_append.1 h4
  rw [← List.append_assoc] at g4
  obtain ⟨c2, g5, g6, g7, g8⟩ := chain_append.1 g4
  subst g3
  subst g7
  have hne : s ≠ t := by
    rintro rfl
    rw [List.map_append, List.nodup_append] at h3
    have := h3.2.1
    rw [List.map_cons, List.nodup_cons] at this
    exact this.1 (by simp)
  have hk : s / 2 < ps.length := by omega
  have hend : stFr ps t = stTo ps s ∧ stTo ps t = stFr ps s ∧ stCo ps t = -stCo ps s := by
    unfold stFr stTo stCo
    rw [← he]
    rcases Nat.mod_two_eq_zero_or_one s with e0 | e0 <;> rcases Nat.mod_two_eq_zero_or_one t with e1 | e1
    · omega
    · simp [e0, e1]
    · simp [e0, e1]
    · omega
  obtain ⟨e1, e2, e3⟩ := hend
  have hmap : (l1.map (stFr ps) ++ stFr ps s :: (l2 ++ l3).map (stFr ps) ++ stFr ps t :: l4.map (stFr ps)).Nodup := by
    simpa using h3
  have hl23 : l2 ++ l3 = [] := by
    cases hq : l2 ++ l3 with
    | nil => rfl
    | cons u q =>
      rw [hq] at g5 hmap
      have : stFr ps u = stTo ps s := g5.2.1
      rw [List.nodup_append] at hmap
      exact absurd (by rw [this, e1] : stFr ps u = stFr ps t) (hmap.2.2 (stFr ps u) (by simp) (stFr ps t) (by simp))
  have hl4 : l4 = [] := by
    cases hq : l4 with
    | nil => rfl
    | cons u q =>
      rw [hq] at g8 hmap
      have : stFr ps u = stTo ps t := g8.2.1
      rw [List.nodup_append] at hmap
      exact absurd (by rw [this, e2] : stFr ps s = stFr ps u) (hmap.2.2 (stFr ps s) (by simp) (stFr ps u) (by simp))
  have hl1 : l1 = [] := by
    cases hq : l1 with
    | nil => rfl
    | cons u q =>
      rw [hq] at g1 hmap
      rw [hl4] at g8
      have h8 : stTo ps t = a := g8
      have : stFr ps u = a := g1.2.1
      rw [List.append_assoc, List.nodup_append] at hmap
      exact absurd (by rw [this, ← h8, e2] : stFr ps u = stFr ps s) (hmap.2.2 (stFr ps u) (by simp) (stFr ps s) (by simp))
  subst hl1
  subst hl4
  rw [List.append_eq_nil_iff] at hl23
  obtain ⟨rfl, rfl⟩ := hl23
  simp [coL] at hc
  omega
end

end Go.Proofs.Ytphbmlephldaaaa
