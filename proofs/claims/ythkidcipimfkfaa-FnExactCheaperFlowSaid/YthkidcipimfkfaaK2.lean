/- Plain facts, chapter 6: rings of steps that gain, as the program and as the model seek them. -/
import Derived.Test.YthkidcipimfkfaaMG
import Derived.Test.YthkidcipimfkfaaK1
namespace Go.Proofs.Ythkidcipimfkfaa
open Go.RowKit

/-- the cost of a step -/
def stCo (ps : List Pp) (s : Nat) : Int := if s % 2 = 1 then -(ps.getD (s / 2) zeroPp).co else (ps.getD (s / 2) zeroPp).co
def coL (ps : List Pp) (l : List Nat) : Int := (l.map (stCo ps)).sum

theorem coL_nil (ps : List Pp) : coL ps [] = 0 := rfl
theorem coL_cons (ps : List Pp) (s : Nat) (l : List Nat) : coL ps (s :: l) = stCo ps s + coL ps l := by simp [coL]
theorem coL_append (ps : List Pp) (l q : List Nat) : coL ps (l ++ q) = coL ps l + coL ps q := by simp [coL]
theorem coL_snoc (ps : List Pp) (l : List Nat) (s : Nat) : coL ps (l ++ [s]) = coL ps l + stCo ps s := by simp [coL]

theorem stCo_bd {ps : List Pp} (hc : ∀ p ∈ ps, -9 ≤ p.co ∧ p.co ≤ 9) {s : Nat} (hs : s < 2 * ps.length) : -9 ≤ stCo ps s ∧ stCo ps s ≤ 9 := by
  have hk : s / 2 < ps.length := by omega
  have h := hc _ (List.getElem_mem hk)
  unfold stCo
  simp only [List.getD, List.getElem?_eq_getElem hk, Option.getD_some]
  split <;> omega

theorem coL_bd {ps : List Pp} (hc : ∀ p ∈ ps, -9 ≤ p.co ∧ p.co ≤ 9) {l : List Nat} (hl : ∀ s ∈ l, s < 2 * ps.length) : -(9 * (l.length : Int)) ≤ coL ps l ∧ coL ps l ≤ 9 * (l.length : Int) := by
  induction l with
  | nil => simp [coL]
  | cons s l ih =>
    have h1 := ih (fun t ht => hl t (by simp [ht]))
    have h2 := stCo_bd hc (hl s (by simp))
    rw [coL_cons]
    simp only [List.length_cons]
    omega

/-- whether a step may go on begun ones: no step at all, or it begins where the last one leads and where none begins -/
def usedB (ps : List Pp) (l : List Nat) (v : Int) : Bool := l.any fun e => decide (stFr ps e = v)
def goesB (ps : List Pp) (l : List Nat) (s : Nat) : Bool := match l.getLast? with
  | none => true
  | some t => decide (stTo ps t = stFr ps s) && !usedB ps l (stFr ps s)
def closB (ps : List Pp) (l : List Nat) : Bool := decide (stTo ps (l.getLast?.getD 0) = stFr ps (l.head?.getD 0))
def gainB (ps : List Pp) (l : List Nat) : Bool := closB ps l && decide (coL ps l < 0)

def srch (ps : List Pp) (S : List Nat) : Nat → List Nat → Option (List Nat)
  | 0, l => if gainB ps l = true then some l else none
  | m + 1, l => S.findSome? fun s => if goesB ps l s = true then srch ps S m (l ++ [s]) else none

/-- the model's test ahead of a step -/
def againB (ps : List Pp) (l : List Nat) (s : Nat) (last : Bool) : Bool := match l.getLast? with
  | none => false
  | some t => if stTo ps t = stFr ps s then
      match l.findIdx? fun e => decide (stFr ps e = stTo ps s) with
      | none => false
      | some k => !last || decide (0 < k)
    else true

def srchM (ps : List Pp) (S : List Nat) : Nat → List Nat → Option (List Nat)
  | 0, l => if gainB ps l = true then some l else none
  | m + 1, l => S.findSome? fun s => if againB ps l s (decide (m = 0)) = true then none else srchM ps S m (l ++ [s])

theorem findSome_congr {α β : Type} {f g : α → Option β} {l : List α} (h : ∀ x ∈ l, f x = g x) : l.findSome? f = l.findSome? g := by
  induction l with
  | nil => rfl
  | cons a l ih =>
    simp only [List.findSome?_cons, h a (by simp)]
    rw [ih fun x hx => h x (by simp [hx])]

theorem findSome_none {α β : Type} {f : α → Option β} {l : List α} (h : ∀ x ∈ l, f x = none) : l.findSome? f = none := by
  rw [List.findSome?_eq_none_iff]; exact h

theorem findSome_take {α β : Type} {f : α → Option β} {l : List α} {k : Nat} (hk : k < l.length) (h : (l.take k).findSome? f = none) (h1 : f l[k] = none) : (l.take (k + 1)).findSome? f = none := by
  rw [List.take_succ_eq_append_getElem hk, List.findSome?_append, h]
  simp [h1]

theorem findSome_hit {α β : Type} {f : α → Option β} {l : List α} {k : Nat} {y : β} (hk : k < l.length) (h : (l.take k).findSome? f = none) (h1 : f l[k] = some y) : l.findSome? f = some y := by
  have e : l.findSome? f = (l.take k ++ l.drop k).findSome? f := by rw [List.take_append_drop]
  rw [e, List.findSome?_append, h, List.drop_eq_getElem_cons hk, List.findSome?_cons, h1]
  rfl

def invB (ps : List Pp) (l : List Nat) : Prop := ∀ t, l.getLast? = some t → ∀ e ∈ l, stFr ps e ≠ stTo ps t

theorem used_no {ps : List Pp} {l : List Nat} {v : Int} : usedB ps l v = false ↔ ∀ e ∈ l, stFr ps e ≠ v := by
  simp [usedB]

theorem srch_eq {ps : List Pp} {S : List Nat} (hS : ∀ s ∈ S, stFr ps s ≠ stTo ps s) : ∀ (m : Nat) (l : List Nat), (m = 0 ∨ invB ps l) → srchM ps S m l = srch ps S m l := by
  intro m
  induction m with
  | zero => intro l _; rfl
  | succ m ih =>
    intro l hl
    have hl : invB ps l := by rcases hl with h | h; · omega
                              · exact h
    rw [srchM, srch]
    refine findSome_congr fun s hs => ?_
    have hne := hS s hs
    cases hlast : l.getLast? with
    | none =>
      have e : l = [] := List.getLast?_eq_none_iff.1 hlast
      subst e
      have ha : againB ps [] s (decide (m = 0)) = false := rfl
      have hg : goesB ps [] s = true := rfl
      rw [if_neg (by rw [ha]; simp), if_pos hg]
      refine ih _ (.inr ?_)
      intro t ht e he
      simp at ht he
      subst ht; subst he
      exact hne
    | some t =>
      have hin := hl t hlast
      by_cases ht : stTo ps t = stFr ps s
      · have hu : usedB ps l (stFr ps s) = false := used_no.2 fun e he => by rw [← ht]; exact hin e he
        have hg : goesB ps l s = true := by simp [goesB, hlast, ht, hu]
        rw [if_pos hg]
        cases hf : l.findIdx? (fun e => decide (stFr ps e = stTo ps s)) with
        | none =>
          have ha : againB ps l s (decide (m = 0)) = false := by simp [againB, hlast, ht, hf]
          rw [if_neg (by simp [ha])]
          refine ih _ (.inr ?_)
          intro t' ht' e he
          rw [List.getLast?_concat] at ht'
          injection ht' with ht'
          subst ht'
          rcases List.mem_append.1 he with he | he
          · have := List.findIdx?_eq_none_iff.1 hf e he
            simpa using this
          · simp at he; subst he; exact hne
        | some k =>
          obtain ⟨hk, hk1, hk2⟩ := List.findIdx?_eq_some_iff_getElem.1 hf
          simp only [decide_eq_true_eq] at hk1
          by_cases hm : m = 0
          · subst hm
            by_cases h0 : k = 0
            · have ha : againB ps l s (decide (0 = 0)) = false := by simp [againB, hlast, ht, hf, h0]
              rw [if_neg (by simp at ha; simp [ha])]
              exact ih _ (.inl rfl)
            · have ha : againB ps l s (decide (0 = 0)) = true := by simp [againB, hlast, ht, hf]; omega
              rw [if_pos (by simpa using ha), srch]
              have h00 := hk2 0 (by omega)
              have hl0 : 0 < l.length := by omega
              rw [if_neg]
              simp only [gainB, closB, Bool.and_eq_true, decide_eq_true_eq, List.getLast?_concat, Option.getD_some]
              have hh : (l ++ [s]).head? = some l[0] := by
                rw [List.head?_eq_getElem?, List.getElem?_append_left hl0, List.getElem?_eq_getElem hl0]
              rw [hh]
              simp only [Option.getD_some]
              simp only [decide_eq_true_eq] at h00
              intro h
              exact h00 h.1.symm
          · have ha : againB ps l s (decide (m = 0)) = true := by simp [againB, hlast, ht, hf, hm]
            rw [if_pos ha]
            obtain ⟨m', rfl⟩ : ∃ m', m = m' + 1 := ⟨m - 1, by omega⟩
            rw [srch]
            symm
            refine findSome_none fun s' _ => ?_
            rw [if_neg]
            simp only [goesB, List.getLast?_concat, Bool.and_eq_true, decide_eq_true_eq, Bool.not_eq_true']
            rintro ⟨h1, h2⟩
            have := used_no.1 h2 l[k] (by simp)
            rw [hk1] at this
            exact this h1
      · have ha : againB ps l s (decide (m = 0)) = true := by simp [againB, hlast, ht]
        have hg : goesB ps l s = false := by simp [goesB, hlast, ht]
        rw [if_pos ha, if_neg (by simp [hg])]

theorem srchM_eq {ps : List Pp} {S : List Nat} (hS : ∀ s ∈ S, stFr ps s ≠ stTo ps s) (m : Nat) : srchM ps S m [] = srch ps S m [] := srch_eq hS m [] (.inr (by intro t ht; simp at ht))

/-- what GainOf answers -/
def gainO (n : Int) (ps : List Pp) (xs : List Int) : Option (List Nat) := if holdsB n ps xs = true then (List.range (n.toNat - 1)).findSome? fun i => srch ps (stL ps xs) (i + 2) [] else none
def gainsB (n : Int) (ps : List Pp) (xs : List Int) : Bool := (gainO n ps xs).isSome
def gainR (n : Int) (ps : List Pp) (xs : List Int) : List Nat := (gainO n ps xs).getD []
def gainI (n : Int) (ps : List Pp) (xs : List Int) : List Int := (gainR n ps xs).map fun s : Nat => (s : Int)

end Go.Proofs.Ythkidcipimfkfaa
