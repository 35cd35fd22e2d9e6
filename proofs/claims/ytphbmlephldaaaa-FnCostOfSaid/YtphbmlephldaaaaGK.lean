/- Plain facts. -/
import Derived.Test.YtphbmlephldaaaaMG
/- Plain facts, chapter 6: costs. -/
namespace Go.Proofs.Ytphbmlephldaaaa
open Go.RowKit

/-- what an amount in a pipe costs -/
def costT (p : Pp) (x : Int) : Int := x * p.co

def costS (ps : List Pp) (xs : List Int) : Int := ((ps.zip xs).map fun q => costT q.1 q.2).sum

theorem costT_bd {p : Pp} {x : Int} (h0 : 0 ≤ x) (h1 : x ≤ 40) (h2 : -9 ≤ p.co) (h3 : p.co ≤ 9) : -360 ≤ costT p x ∧ costT p x ≤ 360 := by
  unfold costT
  have a1 : x * p.co ≤ x * 9 := Int.mul_le_mul_of_nonneg_left h3 h0
  have a2 : x * (-9) ≤ x * p.co := Int.mul_le_mul_of_nonneg_left h2 h0
  omega

theorem costS_snoc (ps : List Pp) (xs : List Int) (k : Nat) (hp : k < ps.length) (hx : k < xs.length) :
    costS (ps.take (k + 1)) (xs.take (k + 1)) = costS (ps.take k) (xs.take k) + costT ps[k] xs[k] := by
  unfold costS
  rw [List.take_succ_eq_append_getElem hp, List.take_succ_eq_append_getElem hx, List.zip_append (by simp; omega)]
  simp

theorem costS_cons (p : Pp) (ps : List Pp) (x : Int) (xs : List Int) : costS (p :: ps) (x :: xs) = costT p x + costS ps xs := by simp [costS]

theorem costS_bd (ps : List Pp) (xs : List Int) (h : ∀ x ∈ xs, 0 ≤ x ∧ x ≤ 40) (hc : ∀ p ∈ ps, -9 ≤ p.co ∧ p.co ≤ 9) : -(360 * (ps.length : Int)) ≤ costS ps xs ∧ costS ps xs ≤ 360 * (ps.length : Int) := by
  induction ps generalizing xs with
  | nil => simp [costS]
  | cons p ps ih =>
    cases xs with
    | nil => simp [costS]; omega
    | cons x xs =>
      have h1 := ih xs (fun y hy => h y (by simp [hy])) (fun q hq => hc q (by simp [hq]))
      have h2 := costT_bd (p := p) (h x (by simp)).1 (h x (by simp)).2 (hc p (by simp)).1 (hc p (by simp)).2
      rw [costS_cons]
      simp only [List.length_cons]
      omega

theorem net_costs {n : Int} {ps : List Pp} (h : netOkB n ps = true) : ∀ p ∈ ps, -9 ≤ p.co ∧ p.co ≤ 9 := by
  intro p hp
  have := pipeOk_parts ((netOk_parts h).2.2.2 p hp)
  omega

theorem costS_bd7 {n : Int} {ps : List Pp} {xs : List Int} (h : flowOkB n ps xs = true) (k : Nat) : -2520 ≤ costS (ps.take k) (xs.take k) ∧ costS (ps.take k) (xs.take k) ≤ 2520 := by
  obtain ⟨h1, h2, h3⟩ := flowOk_parts h
  have h7 := (netOk_parts h1).2.2.1
  have hb := costS_bd (ps.take k) (xs.take k) (fun x hx => h3 x (List.mem_of_mem_take hx)) (fun p hp => net_costs h1 p (List.mem_of_mem_take hp))
  have hl : (ps.take k).length ≤ 7 := by rw [List.length_take]; omega
  omega

/-- what CostOf answers -/
def costR (n : Int) (ps : List Pp) (xs : List Int) : Int × Bool := if flowOkB n ps xs = true then (costS ps xs, true) else (0, false)

theorem costR_yes {n : Int} {ps : List Pp} {xs : List Int} (h : flowOkB n ps xs = true) : costR n ps xs = (costS ps xs, true) := by simp [costR, h]
theorem costR_no {n : Int} {ps : List Pp} {xs : List Int} (h : flowOkB n ps xs = false) : costR n ps xs = (0, false) := by simp [costR, h]

theorem costS_turn (ps : List Pp) (xs : List Int) : costS (ps.map turnP) xs = costS ps xs := by
  induction ps generalizing xs with
  | nil => rfl
  | cons p ps ih => cases xs with
    | nil => simp [costS]
    | cons x xs => rw [List.map_cons, costS_cons, costS_cons, ih]; rfl

theorem costS_zero (ps : List Pp) (n : Nat) : costS ps (List.replicate n 0) = 0 := by
  induction ps generalizing n with
  | nil => simp [costS]
  | cons p ps ih => cases n with
    | zero => simp [costS]
    | succ n => rw [List.replicate_succ, costS_cons, ih]; simp [costT]

theorem costS_add (ps : List Pp) (xs ys : List Int) (h : xs.length = ys.length) : costS ps (addAll xs ys) = costS ps xs + costS ps ys := by
  induction ps generalizing xs ys with
  | nil => simp [costS]
  | cons p ps ih =>
    cases xs with
    | nil => cases ys with
      | nil => simp [costS, addAll]
      | cons y ys => simp at h
    | cons x xs => cases ys with
      | nil => simp at h
      | cons y ys =>
        have e : addAll (x :: xs) (y :: ys) = (x + y) :: addAll xs ys := by simp [addAll]
        rw [e, costS_cons, costS_cons, costS_cons, ih xs ys (by simpa using h)]
        unfold costT
        rw [Int.add_mul]
        omega

end Go.Proofs.Ytphbmlephldaaaa

/- Plain facts, chapter 6: rings of steps that gain, as the program and as the model seek them. -/
namespace Go.Proofs.Ytphbmlephldaaaa
open Go.RowKit

/-- the cost of a step -/
def stCo (ps : List Pp) (s : Nat) : Int := if s % 2 = 1 then -(ps.getD (s / 2) zeroPp).co else (ps.getD (s / 2) zeroPp).co
def coL (ps : List Pp) (l : List Nat) : Int := (l.map (stCo ps)).sum

theorem coL_nil (ps : List Pp) : coL ps [] = 0 := rfl
theorem coL_cons (ps : List Pp) (s : Nat) (l : List Nat) : coL ps (s :: l) = stCo ps s + coL ps l := by simp [coL]
theorem coL_append (ps : List Pp) (l q : List Nat) : coL ps (l ++ q) = coL ps l + coL ps q := by simp [coL]
theorem coL_snoc (ps : List Pp) (l : List Nat) (s : Nat) : coL ps (l ++ [s]) = coL ps l + stCo ps s := by simp [coL]

theorem stCo_bd {ps : List Pp} (hc : ∀ p ∈ ps, -9 ≤ p.co ∧ p.co ≤ 9) {s : Nat} (hs : s < 2 * ps.length) : -9 ≤ stCo ps s ∧ stCo ps s ≤ 9 := by
  have hk : s / 2 < ps.length := by omega
  have h := hc _ (List.getElem_mem hk)
  unfold stCo
  simp only [List.getD, List.getElem?_eq_getElem hk, Option.getD_some]
  split <;> omega

theorem coL_bd {ps : List Pp} (hc : ∀ p ∈ ps, -9 ≤ p.co ∧ p.co ≤ 9) {l : List Nat} (hl : ∀ s ∈ l, s < 2 * ps.length) : -(9 * (l.length : Int)) ≤ coL ps l ∧ coL ps l ≤ 9 * (l.length : Int) := by
  induction l with
  | nil => simp [coL]
  | cons s l ih =>
    have h1 := ih (fun t ht => hl t (by simp [ht]))
    have h2 := stCo_bd hc (hl s (by simp))
    rw [coL_cons]
    simp only [List.length_cons]
    omega

/-- whether a step may go on begun ones: no step at all, or it begins where the last one leads and where none begins -/
def usedB (ps : List Pp) (l : List Nat) (v : Int) : Bool := l.any fun e => decide (stFr ps e = v)
def goesB (ps : List Pp) (l : List Nat) (s : Nat) : Bool := match l.getLast? with
  | none => true
  | some t => decide (stTo ps t = stFr ps s) && !usedB ps l (stFr ps s)
def closB (ps : List Pp) (l : List Nat) : Bool := decide (stTo ps (l.getLast?.getD 0) = stFr ps (l.head?.getD 0))
def gainB (ps : List Pp) (l : List Nat) : Bool := closB ps l && decide (coL ps l < 0)

def srch (ps : List Pp) (S : List Nat) : Nat → List Nat → Option (List Nat)
  | 0, l => if gainB ps l = true then some l else none
  | m + 1, l => S.findSome? fun s => if goesB ps l s = true then srch ps S m (l ++ [s]) else none

/-- the model's test ahead of a step -/
def againB (ps : List Pp) (l : List Nat) (s : Nat) (last : Bool) : Bool := match l.getLast? with
  | none => false
  | some t => if stTo ps t = stFr ps s then
      match l.findIdx? fun e => decide (stFr ps e = stTo ps s) with
      | none => false
      | some k => !last || decide (0 < k)
    else true

def srchM (ps : List Pp) (S : List Nat) : Nat → List Nat → Option (List Nat)
  | 0, l => if gainB ps l = true then some l else none
  | m + 1, l => S.findSome? fun s => if againB ps l s (decide (m = 0)) = true then none else srchM ps S m (l ++ [s])

theorem findSome_congr {α β : Type} {f g : α → Option β} {l : List α} (h : ∀ x ∈ l, f x = g x) : l.findSome? f = l.findSome? g := by
  induction l with
  | nil => rfl
  | cons a l ih =>
    simp only [List.findSome?_cons, h a (by simp)]
    rw [ih fun x hx => h x (by simp [hx])]

theorem findSome_none {α β : Type} {f : α → Option β} {l : List α} (h : ∀ x ∈ l, f x = none) : l.findSome? f = none := by
  rw [List.findSome?_eq_none_iff]; exact h

theorem findSome_take {α β : Type} {f : α → Option β} {l : List α} {k : Nat} (hk : k < l.length) (h : (l.take k).findSome? f = none) (h1 : f l[k] = none) : (l.take (k + 1)).findSome? f = none := by
  rw [List.take_succ_eq_append_getElem hk, List.findSome?_append, h]
  simp [h1]

theorem findSome_hit {α β : Type} {f : α → Option β} {l : List α} {k : Nat} {y : β} (hk : k < l.length) (h : (l.take k).findSome? f = none) (h1 : f l[k] = some y) : l.findSome? f = some y := by
  have e : l.findSome? f = (l.take k ++ l.drop k).findSome? f := by rw [List.take_append_drop]
  rw [e, List.findSome?_append, h, List.drop_eq_getElem_cons hk, List.findSome?_cons, h1]
  rfl

def invB (ps : List Pp) (l : List Nat) : Prop := ∀ t, l.getLast? = some t → ∀ e ∈ l, stFr ps e ≠ stTo ps t

theorem used_no {ps : List Pp} {l : List Nat} {v : Int} : usedB ps l v = false ↔ ∀ e ∈ l, stFr ps e ≠ v := by
  simp [usedB]

theorem srch_eq {ps : List Pp} {S : List Nat} (hS : ∀ s ∈ S, stFr ps s ≠ stTo ps s) : ∀ (m : Nat) (l : List Nat), (m = 0 ∨ invB ps l) → srchM ps S m l = srch ps S m l := by
  intro m
  induction m with
  | zero => intro l _; rfl
  | succ m ih =>
    intro l hl
    have hl : invB ps l := by rcases hl with h | h; · omega
                              · exact h
    rw [srchM, srch]
    refine findSome_congr fun s hs => ?_
    have hne := hS s hs
    cases hlast : l.getLast? with
    | none =>
      have e : l = [] := List.getLast?_eq_none_iff.1 hlast
      subst e
      have ha : againB ps [] s (decide (m = 0)) = false := rfl
      have hg : goesB ps [] s = true := rfl
      rw [if_neg (by rw [ha]; simp), if_pos hg]
      refine ih _ (.inr ?_)
      intro t ht e he
      simp at ht he
      subst ht; subst he
      exact hne
    | some t =>
      have hin := hl t hlast
      by_cases ht : stTo ps t = stFr ps s
      · have hu : usedB ps l (stFr ps s) = false := used_no.2 fun e he => by rw [← ht]; exact hin e he
        have hg : goesB ps l s = true := by simp [goesB, hlast, ht, hu]
        rw [if_pos hg]
        cases hf : l.findIdx? (fun e => decide (stFr ps e = stTo ps s)) with
        | none =>
          have ha : againB ps l s (decide (m = 0)) = false := by simp [againB, hlast, ht, hf]
          rw [if_neg (by simp [ha])]
          refine ih _ (.inr ?_)
          intro t' ht' e he
          rw [List.getLast?_concat] at ht'
          injection ht' with ht'
          subst ht'
          rcases List.mem_append.1 he with he | he
          · have := List.findIdx?_eq_none_iff.1 hf e he
            simpa using this
          · simp at he; subst he; exact hne
        | some k =>
          obtain ⟨hk, hk1, hk2⟩ := List.findIdx?_eq_some_iff_getElem.1 hf
          simp only [decide_eq_true_eq] at hk1
          by_cases hm : m = 0
          · subst hm
            by_cases h0 : k = 0
            · have ha : againB ps l s (decide (0 = 0)) = false := by simp [againB, hlast, ht, hf, h0]
              rw [if_neg (by simp at ha; simp [ha])]
              exact ih _ (.inl rfl)
            · have ha : againB ps l s (decide (0 = 0)) = true := by simp [againB, hlast, ht, hf]; omega
              rw [if_pos (by simpa using ha), srch]
              have h00 := hk2 0 (by omega)
              have hl0 : 0 < l.length := by omega
              rw [if_neg]
              simp only [gainB, closB, Bool.and_eq_true, decide_eq_true_eq, List.getLast?_concat, Option.getD_some]
              have hh : (l ++ [s]).head? = some l[0] := by
                rw [List.head?_eq_getElem?, List.getElem?_append_left hl0, List.getElem?_eq_getElem hl0]
              rw [hh]
              simp only [Option.getD_some]
              simp only [decide_eq_true_eq] at h00
              intro h
              exact h00 h.1.symm
          · have ha : againB ps l s (decide (m = 0)) = true := by simp [againB, hlast, ht, hf, hm]
            rw [if_pos ha]
            obtain ⟨m', rfl⟩ : ∃ m', m = m' + 1 := ⟨m - 1, by omega⟩
            rw [srch]
            symm
            refine findSome_none fun s' _ => ?_
            rw [if_neg]
            simp only [goesB, List.getLast?_concat, Bool.and_eq_true, decide_eq_true_eq, Bool.not_eq_true']
            rintro ⟨h1, h2⟩
            have := used_no.1 h2 l[k] (by simp)
            rw [hk1] at this
            exact this h1
      · have ha : againB ps l s (decide (m = 0)) = true := by simp [againB, hlast, ht]
        have hg : goesB ps l s = false := by simp [goesB, hlast, ht]
        rw [if_pos ha, if_neg (by simp [hg])]

theorem srchM_eq {ps : List Pp} {S : List Nat} (hS : ∀ s ∈ S, stFr ps s ≠ stTo ps s) (m : Nat) : srchM ps S m [] = srch ps S m [] := srch_eq hS m [] (.inr (by intro t ht; simp at ht))

/-- what GainOf answers -/
def gainO (n : Int) (ps : List Pp) (xs : List Int) : Option (List Nat) := if holdsB n ps xs = true then (List.range (n.toNat - 1)).findSome? fun i => srch ps (stL ps xs) (i + 2) [] else none
def gainsB (n : Int) (ps : List Pp) (xs : List Int) : Bool := (gainO n ps xs).isSome
def gainR (n : Int) (ps : List Pp) (xs : List Int) : List Nat := (gainO n ps xs).getD []
def gainI (n : Int) (ps : List Pp) (xs : List Int) : List Int := (gainR n ps xs).map fun s : Nat => (s : Int)

end Go.Proofs.Ytphbmlephldaaaa

/- Plain facts, chapter 6: rings that gain are found, just if there is one; pushes round them. -/
namespace Go.Proofs.Ytphbmlephldaaaa
open Go.RowKit

section
variable {ps : List Pp} {S : List Nat} {a b c : Int}

theorem chain_head {l : List Nat} {s : Nat} (h : chain ps a b l) (hs : l.head? = some s) : stFr ps s = a := by
  cases l with
  | nil => simp at hs
  | cons t l => simp at hs; subst hs; exact h.2.1

theorem chain_last {l : List Nat} {s : Nat} (h : chain ps a b l) (hs : l.getLast? = some s) : stTo ps s = b := by
  induction l generalizing a with
  | nil => simp at hs
  | cons t l ih =>
    cases l with
    | nil => simp at hs; subst hs; exact h.2.2
    | cons u l => exact ih h.2.2 (by simpa using hs)

theorem chain_append {l q : List Nat} : chain ps a b (l ++ q) ↔ ∃ c, chain ps a c l ∧ chain ps c b q := by
  induction l generalizing a with
  | nil => simp [chain]
  | cons t l ih =>
    simp only [List.cons_append, chain, ih]
    constructor
    · rintro ⟨h1, h2, c, h3, h4⟩; exact ⟨c, ⟨h1, h2, h3⟩, h4⟩
    · rintro ⟨c, ⟨h1, h2, h3⟩, h4⟩; exact ⟨h1, h2, c, h3, h4⟩

theorem chain_one {s : Nat} (hs : s < 2 * ps.length) : chain ps (stFr ps s) (stTo ps s) [s] := ⟨hs, rfl, rfl⟩

theorem chain_split {l : List Nat} (h : chain ps a b l) (hc : c ∈ l.map (stFr ps) ++ [b]) : ∃ l1 l2, l = l1 ++ l2 ∧ chain ps a c l1 ∧ chain ps c b l2 ∧ c ∉ l1.map (stFr ps) := by
  induction l generalizing a with
  | nil =>
    simp at hc
    subst hc
    exact ⟨[], [], rfl, h, rfl, by simp⟩
  | cons t l ih =>
    by_cases hac : a = c
    · subst hac
      exact ⟨[], t :: l, rfl, rfl, h, by simp⟩
    · have hta : stFr ps t = a := h.2.1
      have hc' : c ∈ l.map (stFr ps) ++ [b] := by
        simp only [List.map_cons, List.cons_append, List.mem_cons] at hc
        rcases hc with hc | hc
        · omega
        · exact hc
      obtain ⟨l1, l2, rfl, h1, h2, h3⟩ := ih h.2.2 hc'
      refine ⟨t :: l1, l2, rfl, ⟨h.1, hta, h1⟩, h2, ?_⟩
      simp only [List.map_cons, List.mem_cons, not_or]
      exact ⟨by omega, h3⟩

/-- a ring of steps -/
def ringK (ps : List Pp) (S : List Nat) (r : List Nat) : Prop := r ≠ [] ∧ (∀ s ∈ r, s ∈ S) ∧ (r.map (stFr ps)).Nodup ∧ ∃ a, chain ps a a r

theorem srch_sound (hS : ∀ s ∈ S, s < 2 * ps.length) : ∀ (m : Nat) (l r : List Nat), srch ps S m l = some r → (∀ s ∈ l, s ∈ S) → (l.map (stFr ps)).Nodup → (∃ a b, chain ps a b l) → 0 < m + l.length →
    ringK ps S r ∧ coL ps r < 0 ∧ r.length = m + l.length := by
  intro m
  induction m with
  | zero =>
    intro l r h h1 h2 h3 h4
    rw [srch] at h
    split at h
    · next hg =>
      injection h with h
      subst h
      simp only [gainB, closB, Bool.and_eq_true, decide_eq_true_eq] at hg
      have hne : l ≠ [] := by intro e; subst e; simp at h4
      refine ⟨⟨hne, h1, h2, ?_⟩, hg.2, by omega⟩
      obtain ⟨a, b, hc⟩ := h3
      obtain ⟨t, ht⟩ : ∃ t, l.getLast? = some t := by
        cases e : l.getLast? with
        | none => exact absurd (List.getLast?_eq_none_iff.1 e) hne
        | some t => exact ⟨t, rfl⟩
      obtain ⟨u, hu⟩ : ∃ t, l.head? = some t := by
        cases e : l.head? with
        | none => exact absurd (List.head?_eq_none_iff.1 e) hne
        | some t => exact ⟨t, rfl⟩
      rw [ht, hu] at hg
      simp only [Option.getD_some] at hg
      have e1 := chain_last hc ht
      have e2 := chain_head hc hu
      refine ⟨a, ?_⟩
      have : b = a := by omega
      rw [← this] at hc ⊢
      rw [this] at hc ⊢
      exact hc
    · simp at h
  | succ m ih =>
    intro l r h h1 h2 h3 h4
    rw [srch] at h
    obtain ⟨s, hs, hr⟩ := List.exists_of_findSome?_eq_some h
    split at hr
    · next hg =>
      have hin : ∀ t ∈ l ++ [s], t ∈ S := by
        intro t ht
        rcases List.mem_append.1 ht with ht | ht
        · exact h1 t ht
        · simp at ht; subst ht; exact hs
      have := ih (l ++ [s]) r hr hin ?_ ?_ (by simp; omega)
      · rw [List.length_append] at this
        refine ⟨this.1, this.2.1, ?_⟩
        have := this.2.2
        simp at this
        omega
      · rw [List.map_append, List.nodup_append]
        refine ⟨h2, by simp, ?_⟩
        intro x hx y hy
        simp at hy
        subst hy
        cases hlast : l.getLast? with
        | none => have e : l = [] := List.getLast?_eq_none_iff.1 hlast; subst e; simp at hx
        | some t =>
          simp only [goesB, hlast, Bool.and_eq_true, decide_eq_true_eq, Bool.not_eq_true'] at hg
          obtain ⟨e, he, rfl⟩ := List.mem_map.1 hx
          exact used_no.1 hg.2 e he
      · cases hlast : l.getLast? with
        | none => have e : l = [] := List.getLast?_eq_none_iff.1 hlast; subst e; exact ⟨_, _, chain_one (hS s hs)⟩
        | some t =>
          simp only [goesB, hlast, Bool.and_eq_true, decide_eq_true_eq, Bool.not_eq_true'] at hg
          obtain ⟨a, b, hc⟩ := h3
          have := chain_last hc hlast
          refine ⟨a, stTo ps s, chain_append.2 ⟨b, hc, ?_⟩⟩
          rw [← this, hg.1]
          exact chain_one (hS s hs)
    · simp at hr

theorem srch_complete : ∀ (q l : List Nat) (a b : Int), chain ps a b l → chain ps b a q → ((l ++ q).map (stFr ps)).Nodup → (∀ s ∈ q, s ∈ S) → coL ps (l ++ q) < 0 → l ++ q ≠ [] → (srch ps S q.length l).isSome = true := by
  intro q
  induction q with
  | nil =>
    intro l a b h1 h2 h3 h4 h5 h6
    simp only [List.append_nil] at *
    have hab : b = a := h2
    rw [List.length_nil, srch, if_pos]
    · rfl
    · obtain ⟨t, ht⟩ : ∃ t, l.getLast? = some t := by
        cases e : l.getLast? with
        | none => exact absurd (List.getLast?_eq_none_iff.1 e) h6
        | some t => exact ⟨t, rfl⟩
      obtain ⟨u, hu⟩ : ∃ t, l.head? = some t := by
        cases e : l.head? with
        | none => exact absurd (List.head?_eq_none_iff.1 e) h6
        | some t => exact ⟨t, rfl⟩
      simp only [gainB, closB, ht, hu, Option.getD_some, Bool.and_eq_true, decide_eq_true_eq]
      exact ⟨by rw [chain_last h1 ht, chain_head h1 hu, hab], h5⟩
  | cons s q ih =>
    intro l a b h1 h2 h3 h4 h5 h6
    rw [List.length_cons, srch, List.findSome?_isSome_iff]
    refine ⟨s, h4 s (by simp), ?_⟩
    have hg : goesB ps l s = true := by
      cases hlast : l.getLast? with
      | none => simp [goesB, hlast]
      | some t =>
        simp only [goesB, hlast, Bool.and_eq_true, decide_eq_true_eq, Bool.not_eq_true']
        refine ⟨by rw [chain_last h1 hlast]; exact h2.2.1.symm, ?_⟩
        rw [used_no]
        intro e he
        rw [List.map_append, List.nodup_append] at h3
        exact h3.2.2 (stFr ps e) (List.mem_map.2 ⟨e, he, rfl⟩) (stFr ps s) (by simp)
    rw [if_pos hg]
    have e : l ++ [s] ++ q = l ++ s :: q := by simp
    refine ih (l ++ [s]) a (stTo ps s) (chain_append.2 ⟨b, h1, ⟨h2.1, h2.2.1, rfl⟩⟩) h2.2.2 (by rw [e]; exact h3) (fun t ht => h4 t (by simp [ht])) (by rw [e]; exact h5) (by simp)

theorem nodup_len6 : ∀ (n : Nat) (l : List Int), l.Nodup → (∀ x ∈ l, 0 ≤ x ∧ x < n) → l.length ≤ n := by
  intro n
  induction n with
  | zero =>
    intro l _ h
    cases l with
    | nil => simp
    | cons x l => have := h x (by simp); omega
  | succ n ih =>
    intro l hn h
    have h1 := ih (l.erase (n : Int)) (hn.erase _) (fun x hx => by
      have := (List.Nodup.mem_erase_iff hn).1 hx
      have h2 := h x this.2
      have := this.1
      omega)
    have := List.length_erase (a := (n : Int)) (l := l)
    split at this <;> omega
end

section
variable {n : Int} {ps : List Pp} {xs : List Int}

theorem stL_ends (hn : netOkB n ps = true) : ∀ s ∈ stL ps xs, stFr ps s ≠ stTo ps s := fun _ hs => (st_ends hn (stL_mem.1 hs).1).2.2
theorem stL_lt : ∀ s ∈ stL ps xs, s < 2 * ps.length := fun _ hs => (stL_mem.1 hs).1

theorem gain_ring {r : List Nat} (h : gainO n ps xs = some r) : holdsB n ps xs = true ∧ ringK ps (stL ps xs) r ∧ coL ps r < 0 ∧ 2 ≤ r.length ∧ (r.length : Int) ≤ n := by
  unfold gainO at h
  split at h
  · next hh =>
    obtain ⟨i, hi, hr⟩ := List.exists_of_findSome?_eq_some h
    have hi := List.mem_range.1 hi
    have := srch_sound stL_lt (i + 2) [] r hr (by simp) (by simp) ⟨0, 0, rfl⟩ (by simp)
    refine ⟨hh, this.1, this.2.1, ?_, ?_⟩
    · have := this.2.2; simp at this; omega
    · have := this.2.2; simp at this; omega
  · simp at h

theorem ring_two {r : List Nat} (hn : netOkB n ps = true) (h : ringK ps (stL ps xs) r) : 2 ≤ r.length := by
  obtain ⟨h1, h2, h3, a, h4⟩ := h
  match r, h1, h2, h4 with
  | [s], _, h2, h4 =>
    have := stL_ends hn s (h2 s (by simp))
    have e1 : stFr ps s = a := h4.2.1
    have e2 : stTo ps s = a := h4.2.2
    omega
  | _ :: _ :: _, _, _, _ => simp

theorem ring_most {r : List Nat} (hn : netOkB n ps = true) (h : ringK ps (stL ps xs) r) : (r.length : Int) ≤ n := by
  obtain ⟨h1, h2, h3, a, h4⟩ := h
  have hb := netOk_parts hn
  have := nodup_len6 n.toNat (r.map (stFr ps)) h3 (by
    intro x hx
    obtain ⟨e, he, rfl⟩ := List.mem_map.1 hx
    have := (st_ends hn (stL_lt e (h2 e he))).1
    omega)
  rw [List.length_map] at this
  omega

/-- no ring gains if none is found -/
theorem gain_none (hh : holdsB n ps xs = true) (h : gainO n ps xs = none) {r : List Nat} (hr : ringK ps (stL ps xs) r) : 0 ≤ coL ps r := by
  refine Classical.byContradiction fun hneg => ?_
  have hn := holds_net hh
  have h2 := ring_two hn hr
  have h3 := ring_most hn hr
  have hb := netOk_parts hn
  unfold gainO at h
  rw [if_pos hh, List.findSome?_eq_none_iff] at h
  have := h (r.length - 2) (by rw [List.mem_range]; omega)
  obtain ⟨h5, h6, h7, a, h8⟩ := hr
  have h9 := srch_complete (ps := ps) (S := stL ps xs) r [] a a rfl h8 (by simpa using h7) h6 (by simp; omega) (by simpa using h5)
  rw [show r.length - 2 + 2 = r.length by omega] at this
  rw [this] at h9
  simp at h9

theorem ring_apart {r : List Nat} (hr : ringK ps (stL ps xs) r) (hc : coL ps r < 0) : r.Pairwise fun s t => s / 2 ≠ t / 2 := by
  obtain ⟨h1, h2, h3, a, h4⟩ := hr
  rw [List.pairwise_iff_forall_sublist]
  intro s t hst he
  obtain ⟨r1, r2, rfl, hs, ht⟩ := List.cons_sublist_iff.1 hst
  obtain ⟨l1, l2, rfl⟩ := List.append_of_mem hs
  have ht : t ∈ r2 := by simpa using ht
  obtain ⟨l3, l4, rfl⟩ := List.append_of_mem ht
  have hs2 := stL_lt s (h2 s (by simp))
  have ht2 := stL_lt t (h2 t (by simp))
  simp only [List.append_assoc, List.cons_append] at h1 h2 h3 h4 hc
  obtain ⟨c1, g1, g2, g3, g4⟩ := chain_append.1 h4
  rw [← List.append_assoc] at g4
  obtain ⟨c2, g5, g6, g7, g8⟩ := chain_append.1 g4
  subst g3
  subst g7
  have hne : s ≠ t := by
    rintro rfl
    rw [List.map_append, List.nodup_append] at h3
    have := h3.2.1
    rw [List.map_cons, List.nodup_cons] at this
    exact this.1 (by simp)
  have hk : s / 2 < ps.length := by omega
  have hend : stFr ps t = stTo ps s ∧ stTo ps t = stFr ps s ∧ stCo ps t = -stCo ps s := by
    unfold stFr stTo stCo
    rw [← he]
    rcases Nat.mod_two_eq_zero_or_one s with e0 | e0 <;> rcases Nat.mod_two_eq_zero_or_one t with e1 | e1
    · omega
    · simp [e0, e1]
    · simp [e0, e1]
    · omega
  obtain ⟨e1, e2, e3⟩ := hend
  have hmap : (l1.map (stFr ps) ++ stFr ps s :: (l2 ++ l3).map (stFr ps) ++ stFr ps t :: l4.map (stFr ps)).Nodup := by
    simpa using h3
  have hl23 : l2 ++ l3 = [] := by
    cases hq : l2 ++ l3 with
    | nil => rfl
    | cons u q =>
      rw [hq] at g5 hmap
      have : stFr ps u = stTo ps s := g5.2.1
      rw [List.nodup_append] at hmap
      exact absurd (by rw [this, e1] : stFr ps u = stFr ps t) (hmap.2.2 (stFr ps u) (by simp) (stFr ps t) (by simp))
  have hl4 : l4 = [] := by
    cases hq : l4 with
    | nil => rfl
    | cons u q =>
      rw [hq] at g8 hmap
      have : stFr ps u = stTo ps t := g8.2.1
      rw [List.nodup_append] at hmap
      exact absurd (by rw [this, e2] : stFr ps s = stFr ps u) (hmap.2.2 (stFr ps s) (by simp) (stFr ps u) (by simp))
  have hl1 : l1 = [] := by
    cases hq : l1 with
    | nil => rfl
    | cons u q =>
      rw [hq] at g1 hmap
      rw [hl4] at g8
      have h8 : stTo ps t = a := g8
      have : stFr ps u = a := g1.2.1
      rw [List.append_assoc, List.nodup_append] at hmap
      exact absurd (by rw [this, ← h8, e2] : stFr ps u = stFr ps s) (hmap.2.2 (stFr ps u) (by simp) (stFr ps s) (by simp))
  subst hl1
  subst hl4
  rw [List.append_eq_nil_iff] at hl23
  obtain ⟨rfl, rfl⟩ := hl23
  simp [coL] at hc
  omega
end

end Go.Proofs.Ytphbmlephldaaaa

/- Plain facts, chapter 6: pushes round rings that gain; the cheapest flow. -/
namespace Go.Proofs.Ytphbmlephldaaaa
open Go.RowKit

theorem costS_set (ps : List Pp) (xs : List Int) (k : Nat) (y : Int) (hk : k < ps.length) (hx : k < xs.length) : costS ps (xs.set k (xs.getD k 0 + y)) = costS ps xs + y * ps[k].co := by
  induction ps generalizing xs k with
  | nil => simp at hk
  | cons p ps ih =>
    cases xs with
    | nil => simp at hx
    | cons x xs =>
      cases k with
      | zero => simp [costS_cons, costT, Int.add_mul]; omega
      | succ k =>
        have := ih xs k (by simpa using hk) (by simpa using hx)
        simp only [List.set_cons_succ, costS_cons, List.getElem_cons_succ, List.getD_cons_succ]
        omega

section
variable {n : Int} {ps : List Pp} {xs : List Int}

theorem costS_push1 {d : Int} {s : Nat} (hl : xs.length = ps.length) (hs : s < 2 * ps.length) : costS ps (push1 d xs s) = costS ps xs + d * stCo ps s := by
  have hk : s / 2 < ps.length := by omega
  have e : ps.getD (s / 2) zeroPp = ps[s / 2] := by simp [List.getD, List.getElem?_eq_getElem hk]
  unfold push1 stCo
  rw [e]
  split
  · rw [Int.sub_eq_add_neg, costS_set _ _ _ _ hk (by omega), Int.neg_mul, Int.mul_neg]
  · rw [costS_set _ _ _ _ hk (by omega)]

theorem costS_pushL {d : Int} {l : List Nat} (hl : xs.length = ps.length) (hs : ∀ s ∈ l, s < 2 * ps.length) : costS ps (pushL d xs l) = costS ps xs + d * coL ps l := by
  induction l generalizing xs with
  | nil => simp [pushL, coL]
  | cons s l ih =>
    have h1 := ih (xs := push1 d xs s) (by rw [push1_len]; exact hl) (fun t ht => hs t (by simp [ht]))
    rw [costS_push1 hl (hs s (by simp))] at h1
    rw [coL_cons, Int.mul_add]
    have e : pushL d xs (s :: l) = pushL d (push1 d xs s) l := rfl
    rw [e, h1]
    omega

def gainA (n : Int) (ps : List Pp) (xs : List Int) : Int := roomL ps xs 4 (gainR n ps xs)
/-- what CheaperFlow answers -/
def cheapR (n : Int) (ps : List Pp) (xs : List Int) : List Int := if gainsB n ps xs = true then pushL (gainA n ps xs) xs (gainR n ps xs) else []

theorem gain_some (h : gainsB n ps xs = true) : gainO n ps xs = some (gainR n ps xs) := by
  unfold gainsB at h
  unfold gainR
  cases e : gainO n ps xs with
  | none => simp [e] at h
  | some r => rfl

theorem gains_holds (h : gainsB n ps xs = true) : holdsB n ps xs = true := (gain_ring (gain_some h)).1
theorem gains_no (h : holdsB n ps xs = false) : gainsB n ps xs = false := by simp [gainsB, gainO, h]
theorem gainR_no (h : gainsB n ps xs = false) : gainR n ps xs = [] := by
  unfold gainsB at h
  unfold gainR
  cases e : gainO n ps xs with
  | none => rfl
  | some r => simp [e] at h
theorem gainI_no (h : gainsB n ps xs = false) : gainI n ps xs = [] := by rw [gainI, gainR_no h]; rfl

theorem gainR_ok (h : gainsB n ps xs = true) : ringK ps (stL ps xs) (gainR n ps xs) ∧ coL ps (gainR n ps xs) < 0 ∧ 2 ≤ (gainR n ps xs).length ∧ ((gainR n ps xs).length : Int) ≤ n := (gain_ring (gain_some h)).2

theorem gainR_len (n : Int) (ps : List Pp) (xs : List Int) : (gainR n ps xs).length ≤ 5 := by
  by_cases h : gainsB n ps xs = true
  · have h1 := (gainR_ok h).2.2.2
    have h2 := netOk_parts (holds_net (gains_holds h))
    omega
  · rw [gainR_no (by simpa using h)]; simp

theorem gainI_len (n : Int) (ps : List Pp) (xs : List Int) : (gainI n ps xs).length ≤ 5 := by
  rw [gainI, List.length_map]; exact gainR_len n ps xs

theorem gainR_mem (h : gainsB n ps xs = true) : ∀ s ∈ gainR n ps xs, s < 2 * ps.length ∧ 0 < stRoom ps xs s := fun s hs => stL_mem.1 ((gainR_ok h).1.2.1 s hs)

theorem gainA_pos (h : gainsB n ps xs = true) : 1 ≤ gainA n ps xs ∧ gainA n ps xs ≤ 4 ∧ ∀ s ∈ gainR n ps xs, gainA n ps xs ≤ stRoom ps xs s := by
  obtain ⟨h1, h2, h3⟩ := roomL_le ps xs (gainR n ps xs) 4
  unfold gainA
  refine ⟨?_, h1, h2⟩
  rcases h3 with h3 | ⟨s, hs, h3⟩
  · omega
  · have := (gainR_mem h s hs).2; omega

theorem gainA40 (h : gainsB n ps xs = true) : roomL ps xs 40 (gainR n ps xs) = gainA n ps xs := by
  obtain ⟨h1, h2, h3⟩ := roomL_le ps xs (gainR n ps xs) 40
  obtain ⟨g1, g2, g3⟩ := roomL_le ps xs (gainR n ps xs) 4
  have hh := gains_holds h
  have hn := holds_net hh
  have hi := (holds_inB hn).1 hh
  have hl := (gainR_ok h).2.2.1
  unfold gainA
  obtain ⟨s, hs⟩ : ∃ s, s ∈ gainR n ps xs := List.exists_mem_of_length_pos (by omega)
  have q1 := h2 s hs
  have q2 := stRoom_le hn hi (gainR_mem h s hs).1
  apply Int.le_antisymm
  · rcases g3 with g3 | ⟨t, ht, g3⟩
    · omega
    · rw [g3]; exact h2 t ht
  · rcases h3 with h3 | ⟨t, ht, h3⟩
    · omega
    · rw [h3]; exact g2 t ht

theorem cheap_yes (h : gainsB n ps xs = true) : cheapR n ps xs = pushL (gainA n ps xs) xs (gainR n ps xs) := by rw [cheapR, if_pos h]
theorem cheap_no (h : gainsB n ps xs = false) : cheapR n ps xs = [] := by rw [cheapR, if_neg (by simp [h])]

theorem gain_facts (h : gainsB n ps xs = true) : ps.length ≤ 7 ∧ xs.length = ps.length ∧ 0 < xs.length ∧ (∀ x ∈ xs, 0 ≤ x ∧ x ≤ 40) ∧ (∀ p ∈ ps, 0 ≤ p.le ∧ p.le ≤ p.mo ∧ p.mo ≤ 4) ∧
    (∀ s ∈ gainR n ps xs, s < 2 * ps.length) ∧ (∀ k j, 0 ≤ (pushL (gainA n ps xs) xs ((gainR n ps xs).take k)).getD j 0 ∧ (pushL (gainA n ps xs) xs ((gainR n ps xs).take k)).getD j 0 ≤ 40) ∧ 0 ≤ gainA n ps xs ∧ gainA n ps xs ≤ 40 := by
  have hh := gains_holds h
  have hn := holds_net hh
  have hi := (holds_inB hn).1 hh
  have hr := net_rooms hn
  have hm := gainR_mem h
  obtain ⟨r1, r2, r3, r4⟩ := gainR_ok h
  have l5 := ring_apart r1 r2
  obtain ⟨m1, m2, m3⟩ := gainA_pos h
  have hlen := hi.1
  refine ⟨(netOk_parts hn).2.2.1, hlen, ?_, (flowOk_parts (holds_parts hh).1).2.2, hr, fun s hs => (hm s hs).1, fun k j => ?_, by omega, by omega⟩
  · obtain ⟨s, hs⟩ : ∃ s, s ∈ gainR n ps xs := List.exists_mem_of_length_pos (by omega)
    have := (hm s hs).1
    omega
  · have hk := pushL_inB (d := gainA n ps xs) (l := (gainR n ps xs).take k) (by omega) hi (fun s hs => ⟨(hm s (List.mem_of_mem_take hs)).1, m3 s (List.mem_of_mem_take hs)⟩) (l5.sublist (List.take_sublist _ _))
    by_cases hj : j < ps.length
    · have h1 := hk.2 j hj
      have h2 := hr ps[j] (List.getElem_mem hj)
      omega
    · have h1 := hk.1
      rw [List.getD_eq_getElem?_getD, List.getElem?_eq_none (by omega)]
      simp

theorem cheap_ok (h : gainsB n ps xs = true) : holdsB n ps (cheapR n ps xs) = true ∧ (∀ v, exc v ps (cheapR n ps xs) = exc v ps xs) ∧ costS ps (cheapR n ps xs) < costS ps xs := by
  have hh := gains_holds h
  have hn := holds_net hh
  have hi := (holds_inB hn).1 hh
  have hm := gainR_mem h
  obtain ⟨r1, r2, r3, r4⟩ := gainR_ok h
  have l5 := ring_apart r1 r2
  obtain ⟨m1, m2, m3⟩ := gainA_pos h
  obtain ⟨-, -, -, a, hc⟩ := r1
  rw [cheap_yes h]
  refine ⟨(holds_inB hn).2 (pushL_inB (by omega) hi (fun s hs => ⟨(hm s hs).1, m3 s hs⟩) l5), fun v => ?_, ?_⟩
  · rw [exc_pushL hn hi.1 hc]; split <;> omega
  · rw [costS_pushL hi.1 fun s hs => (hm s hs).1]
    have : gainA n ps xs * coL ps (gainR n ps xs) ≤ 1 * coL ps (gainR n ps xs) := Int.mul_le_mul_of_nonpos_right m1 (by omega)
    omega

theorem cheapR_len (n : Int) (ps : List Pp) (xs : List Int) : (cheapR n ps xs).length ≤ xs.length := by
  by_cases h : gainsB n ps xs = true
  · rw [cheap_yes h, pushL_len]; exact Nat.le_refl _
  · rw [cheap_no (by simpa using h)]; simp

/-- CheaperFlow again and again -/
def cheapN (n : Int) (ps : List Pp) : Nat → List Int → List Int
  | 0, xs => xs
  | k + 1, xs => if gainsB n ps xs = true then cheapN n ps k (cheapR n ps xs) else xs

def chpstR (n : Int) (ps : List Pp) (xs : List Int) : List Int := if holdsB n ps xs = true then cheapN n ps 5041 xs else []

theorem costS_bd7' (h : holdsB n ps xs = true) : -2520 ≤ costS ps xs ∧ costS ps xs ≤ 2520 := by
  have hf := (holds_parts h).1
  have := costS_bd7 hf 8
  have h7 := (netOk_parts (holds_net h)).2.2.1
  have hl := (flowOk_parts hf).2.1
  rwa [List.take_of_length_le (by omega), List.take_of_length_le (by omega)] at this

theorem cheapN_no (h : gainsB n ps xs = false) (k : Nat) : cheapN n ps k xs = xs := by
  cases k with
  | zero => rfl
  | succ k => rw [cheapN, if_neg (by simp [h])]

theorem cheapN_ok (k : Nat) : ∀ {xs : List Int}, holdsB n ps xs = true → holdsB n ps (cheapN n ps k xs) = true ∧ (∀ v, exc v ps (cheapN n ps k xs) = exc v ps xs) ∧ costS ps (cheapN n ps k xs) ≤ costS ps xs := by
  induction k with
  | zero => intro xs h; exact ⟨h, fun _ => rfl, Int.le_refl _⟩
  | succ k ih =>
    intro xs h
    rw [cheapN]
    split
    · next hg =>
      obtain ⟨h1, h2, h3⟩ := cheap_ok hg
      obtain ⟨g1, g2, g3⟩ := ih h1
      exact ⟨g1, fun v => (g2 v).trans (h2 v), by omega⟩
    · exact ⟨h, fun _ => rfl, Int.le_refl _⟩

theorem cheapN_end (k : Nat) : ∀ {xs : List Int}, holdsB n ps xs = true → costS ps xs + 2520 < k → gainsB n ps (cheapN n ps k xs) = false := by
  induction k with
  | zero => intro xs h hk; have := costS_bd7' h; omega
  | succ k ih =>
    intro xs h hk
    rw [cheapN]
    split
    · next hg =>
      obtain ⟨h1, h2, h3⟩ := cheap_ok hg
      exact ih h1 (by omega)
    · next hg => simpa using hg

theorem cheapN_stay (k : Nat) : ∀ {xs : List Int}, holdsB n ps xs = true → costS ps xs + 2520 < k → ∀ j, cheapN n ps (k + j) xs = cheapN n ps k xs := by
  induction k with
  | zero => intro xs h hk; have := costS_bd7' h; omega
  | succ k ih =>
    intro xs h hk j
    rw [show k + 1 + j = (k + j) + 1 by omega, cheapN, cheapN]
    split
    · next hg =>
      obtain ⟨h1, h2, h3⟩ := cheap_ok hg
      exact ih h1 (by omega) j
    · rfl

/-- one CheaperFlow ahead leads to the same -/
theorem chpst_step (h : gainsB n ps xs = true) : chpstR n ps (cheapR n ps xs) = chpstR n ps xs := by
  have hh := gains_holds h
  obtain ⟨h1, h2, h3⟩ := cheap_ok h
  rw [chpstR, if_pos h1, chpstR, if_pos hh]
  have e : cheapN n ps (5041 + 1) xs = cheapN n ps 5041 (cheapR n ps xs) := by rw [cheapN, if_pos h]
  rw [← e]
  exact cheapN_stay 5041 hh (by have := costS_bd7' hh; omega) 1
theorem chpst_end (hh : holdsB n ps xs = true) (h : gainsB n ps xs = false) : chpstR n ps xs = xs := by
  rw [chpstR, if_pos hh, cheapN_no h]
theorem chpst_ok (hh : holdsB n ps xs = true) : holdsB n ps (chpstR n ps xs) = true ∧ (∀ v, exc v ps (chpstR n ps xs) = exc v ps xs) ∧ gainsB n ps (chpstR n ps xs) = false := by
  rw [chpstR, if_pos hh]
  exact ⟨(cheapN_ok _ hh).1, (cheapN_ok _ hh).2.1, cheapN_end _ hh (by have := costS_bd7' hh; omega)⟩
theorem chpst_no (hh : holdsB n ps xs = false) : chpstR n ps xs = [] := by rw [chpstR, if_neg (by simp [hh])]

theorem chpst_len (n : Int) (ps : List Pp) (xs : List Int) : (chpstR n ps xs).length ≤ xs.length := by
  by_cases hh : holdsB n ps xs = true
  · have h1 := (flowOk_parts (holds_parts (chpst_ok hh).1).1).2.1
    have h2 := (flowOk_parts (holds_parts hh).1).2.1
    omega
  · rw [chpst_no (by simpa using hh)]; simp
end

theorem gain_last {ps : List Pp} {l : List Nat} {M : Nat} (hM : M < l.length) (h0 : 0 < l.length) (hl : l.length = M + 1) : gainB ps l = (decide (stTo ps l[M] = stFr ps l[0]) && decide (coL ps l < 0)) := by
  have e1 : l.getLast? = some l[M] := by rw [List.getLast?_eq_getElem?, List.getElem?_eq_getElem (by omega)]; congr 1; congr 1; omega
  have e2 : l.head? = some l[0] := by rw [List.head?_eq_getElem?, List.getElem?_eq_getElem h0]
  simp [gainB, closB, e1, e2]

theorem srch_zero (ps : List Pp) (S l : List Nat) : (srch ps S 0 l).isSome = gainB ps l ∧ ∀ q, srch ps S 0 l = some q → q = l := by
  rw [srch]
  split
  · next h => exact ⟨by rw [h]; rfl, fun q hq => by injection hq with hq; exact hq.symm⟩
  · next h => exact ⟨by simp at h; rw [h]; rfl, fun q hq => by simp at hq⟩

theorem srchM_zero (ps : List Pp) (S l : List Nat) : srchM ps S 0 l = if gainB ps l = true then some l else none := rfl
def stepM (ps : List Pp) (S : List Nat) (m : Nat) (l : List Nat) (s : Nat) : Option (List Nat) := if againB ps l s (decide (m = 0)) = true then none else srchM ps S m (l ++ [s])
theorem srchM_succ (ps : List Pp) (S : List Nat) (m : Nat) (l : List Nat) : srchM ps S (m + 1) l = S.findSome? (stepM ps S m l) := rfl
theorem srchM_len (ps : List Pp) (S : List Nat) : ∀ (m : Nat) (l q : List Nat), srchM ps S m l = some q → q.length = m + l.length := by
  intro m
  induction m with
  | zero =>
    intro l q h
    rw [srchM_zero] at h
    split at h
    · injection h with h; subst h; omega
    · cases h
  | succ m ih =>
    intro l q h
    rw [srchM_succ] at h
    obtain ⟨s, hs, hr⟩ := List.exists_of_findSome?_eq_some h
    unfold stepM at hr
    split at hr
    · cases hr
    · have := ih _ _ hr
      rw [List.length_append] at this
      simp at this
      omega

end Go.Proofs.Ytphbmlephldaaaa
