/- Terms, plain: marks, the tree that a row of marks is, what it carries, costs, its net; and the stack that reads it. -/
import Derived.Test.YtaohjhehlkeckaaB
namespace Go.Proofs.Ytaohjhehlkeckaa
open Go.RowKit

structure Mk where
  k : Int
  h : Int
  p : Int
  deriving DecidableEq

def Mk.cells (m : Mk) : List Value := [.int .i64 m.k, .int .i64 m.h, .int .i64 m.p]
abbrev Mk.val (m : Mk) : Value := .agg #[.int .i64 m.k, .int .i64 m.h, .int .i64 m.p]

inductive Tm where
  | pipe (h p : Int)
  | two (s : Bool) (a b : Tm)
  deriving DecidableEq

def kindI (s : Bool) : Int := if s then 2 else 1

def Tm.marks : Tm → List Mk
  | .pipe h p => [⟨0, h, p⟩]
  | .two s a b => a.marks ++ (b.marks ++ [⟨kindI s, 0, 0⟩])
def Tm.pipes : Tm → Nat
  | .pipe _ _ => 1
  | .two _ a b => a.pipes + b.pipes
def Tm.thens : Tm → Nat
  | .pipe _ _ => 0
  | .two s a b => a.thens + b.thens + (if s then 0 else 1)
def Tm.good : Tm → Prop
  | .pipe h p => (0 ≤ h ∧ h ≤ 4) ∧ 0 ≤ p ∧ p ≤ 9
  | .two _ a b => a.good ∧ b.good

theorem Tm.pipes_pos (T : Tm) : 1 ≤ T.pipes := by
  induction T with
  | pipe => simp [Tm.pipes]
  | two s a b iha ihb => simp [Tm.pipes]; omega
theorem Tm.marks_len (T : Tm) : T.marks.length + 1 = 2 * T.pipes := by
  induction T with
  | pipe => simp [Tm.marks, Tm.pipes]
  | two s a b iha ihb => simp [Tm.marks, Tm.pipes]; omega

/- the kind of a mark at which the program and the model look -/
def markB (m : Mk) : Bool := if m.k = 0 then decide ((0 ≤ m.h ∧ m.h ≤ 4) ∧ 0 ≤ m.p ∧ m.p ≤ 9) else if m.k = 1 ∨ m.k = 2 then decide (m.h = 0 ∧ m.p = 0) else false
def countK (k : Int) (t : List Mk) : Nat := (t.filter fun m => m.k == k).length

/- how many parts are there behind a mark; none if it may not be -/
def partStep (n : Nat) (m : Mk) : Option Nat := if markB m = false then none else if m.k = 0 then some (n + 1) else if n < 2 then none else some (n - 1)
def partsN : List Mk → Nat → Option Nat
  | [], n => some n
  | m :: t, n => (partStep n m).bind fun n' => partsN t n'
def termB (t : List Mk) : Bool := (partsN t 0 == some 1) && (decide (countK 0 t ≤ 7) && decide (countK 1 t ≤ 3))

def stepT (st : List Tm) (m : Mk) : List Tm :=
  if m.k = 0 then .pipe m.h m.p :: st
  else match st with
    | b :: a :: r => .two (m.k == 2) a b :: r
    | st => st
def runT (t : List Mk) (st : List Tm) : List Tm := t.foldl stepT st

theorem partsN_append (t u : List Mk) (n : Nat) : partsN (t ++ u) n = (partsN t n).bind fun n' => partsN u n' := by
  induction t generalizing n with
  | nil => simp [partsN]
  | cons m t ih =>
    simp only [List.cons_append, partsN]
    cases partStep n m with
    | none => simp
    | some n' => simp [ih]
theorem runT_append (t u : List Mk) (st : List Tm) : runT (t ++ u) st = runT u (runT t st) := by simp [runT]

theorem Tm.run (T : Tm) (hg : T.good) (st : List Tm) : runT T.marks st = T :: st := by
  induction T generalizing st with
  | pipe h p => simp [Tm.marks, runT, stepT]
  | two s a b iha ihb =>
    simp only [Tm.marks, runT_append, iha hg.1, ihb hg.2]
    cases s <;> simp [runT, stepT, kindI]
theorem Tm.parts (T : Tm) (hg : T.good) (n : Nat) : partsN T.marks n = some (n + 1) := by
  induction T generalizing n with
  | pipe h p =>
    have h1 : (0 ≤ h ∧ h ≤ 4) ∧ 0 ≤ p ∧ p ≤ 9 := hg
    simp [Tm.marks, partsN, partStep, markB, h1]
  | two s a b iha ihb =>
    simp only [Tm.marks, partsN_append, iha hg.1, ihb hg.2, Option.bind_some]
    cases s <;> simp [partsN, partStep, kindI, markB]

theorem countK_append (k : Int) (t u : List Mk) : countK k (t ++ u) = countK k t + countK k u := by simp [countK]
theorem Tm.count0 (T : Tm) : countK 0 T.marks = T.pipes := by
  induction T with
  | pipe => simp [Tm.marks, Tm.pipes, countK]
  | two s a b iha ihb => simp only [Tm.marks, Tm.pipes, countK_append, iha, ihb]; cases s <;> simp [countK, kindI]
theorem Tm.count1 (T : Tm) : countK 1 T.marks = T.thens := by
  induction T with
  | pipe => simp [Tm.marks, Tm.thens, countK]
  | two s a b iha ihb => simp only [Tm.marks, Tm.thens, countK_append, iha, ihb]; cases s <;> simp [countK, kindI] <;> omega

/- the stack of a row whose parts are counted: its parts' marks, one behind the other -/
def allMarks : List Tm → List Mk
  | [] => []
  | T :: st => allMarks st ++ T.marks
def allGood (st : List Tm) : Prop := ∀ T ∈ st, T.good

theorem stack_step {st : List Tm} {m : Mk} {n : Nat} (hg : allGood st) (hp : partStep st.length m = some n) : allGood (stepT st m) ∧ (stepT st m).length = n ∧ allMarks (stepT st m) = allMarks st ++ [m] := by
  unfold partStep at hp
  split at hp
  · cases hp
  rename_i hm
  have hm : markB m = true := by simpa using hm
  split at hp
  · rename_i hk
    injection hp with hp
    obtain ⟨k, h, p⟩ := m
    simp only at hk; subst hk
    have : (0 ≤ h ∧ h ≤ 4) ∧ 0 ≤ p ∧ p ≤ 9 := by simpa [markB] using hm
    refine ⟨?_, by simp [stepT, hp], by simp [stepT, allMarks, Tm.marks]⟩
    intro T hT
    simp [stepT] at hT
    rcases hT with rfl | hT
    · exact this
    · exact hg T hT
  · rename_i hk
    split at hp
    · cases hp
    rename_i hn
    injection hp with hp
    obtain ⟨k, h, p⟩ := m
    simp only at hk
    have hx : (k = 1 ∨ k = 2) ∧ h = 0 ∧ p = 0 := by
      unfold markB at hm
      simp only [hk, if_false] at hm
      split at hm
      · rename_i h1; exact ⟨h1, by simpa using hm⟩
      · cases hm
    obtain ⟨hk12, rfl, rfl⟩ := hx
    match st, hn with
    | b :: a :: r, _ =>
      refine ⟨?_, ?_, ?_⟩
      · intro T hT
        simp [stepT, hk] at hT
        rcases hT with rfl | hT
        · exact ⟨hg a (by simp), hg b (by simp)⟩
        · exact hg T (by simp [hT])
      · simp [stepT, hk]; simp at hp; omega
      · simp only [stepT, hk, if_false, allMarks, Tm.marks, List.append_assoc]
        rcases hk12 with rfl | rfl <;> simp [kindI]
    | [a], hn => simp at hn
    | [], hn => simp at hn

theorem stack_run {t : List Mk} {st : List Tm} {n : Nat} (hg : allGood st) (hp : partsN t st.length = some n) : allGood (runT t st) ∧ (runT t st).length = n ∧ allMarks (runT t st) = allMarks st ++ t := by
  induction t generalizing st n with
  | nil => simp [partsN] at hp; exact ⟨hg, hp, by simp [runT]⟩
  | cons m t ih =>
    simp only [partsN] at hp
    cases hs : partStep st.length m with
    | none => rw [hs] at hp; cases hp
    | some n' =>
      rw [hs] at hp
      obtain ⟨h1, h2, h3⟩ := stack_step hg hs
      obtain ⟨h4, h5, h6⟩ := ih (st := stepT st m) h1 (by rw [h2]; exact hp)
      exact ⟨h4, h5, by rw [show runT (m :: t) st = runT t (stepT st m) from rfl, h6, h3]; simp⟩

theorem termB_iff (t : List Mk) : termB t = true ↔ ∃ T : Tm, t = T.marks ∧ T.good ∧ T.pipes ≤ 7 ∧ T.thens ≤ 3 := by
  constructor
  · intro h
    simp [termB] at h
    obtain ⟨hp, h0, h1⟩ := h
    obtain ⟨hg, hl, hm⟩ := stack_run (st := []) (t := t) (n := 1) (by intro T hT; cases hT) hp
    match hr : runT t [] with
    | [T] =>
      rw [hr] at hm hg
      have ht : t = T.marks := by simpa [allMarks] using hm.symm
      refine ⟨T, ht, hg T (by simp), ?_, ?_⟩
      · rw [ht, Tm.count0] at h0; exact h0
      · rw [ht, Tm.count1] at h1; exact h1
    | [] => rw [hr] at hl; simp at hl
    | _ :: _ :: _ => rw [hr] at hl; simp at hl
  · rintro ⟨T, rfl, hg, h7, h3⟩
    simp [termB, T.parts hg, T.count0, T.count1, h7, h3]

theorem marks_inj {T U : Tm} (hg : T.good) (hu : U.good) (h : T.marks = U.marks) : T = U := by
  have h1 := T.run hg []
  rw [h, U.run hu []] at h1
  exact (List.cons.inj h1).1.symm

/- what a term carries, at what costs -/
def Tm.carry : Tm → Int
  | .pipe h _ => h
  | .two s a b => if s then a.carry + b.carry else min a.carry b.carry
def lowL : List Int → Int
  | [] => 0
  | [x] => x
  | x :: y :: r => min x (lowL (y :: r))
def waysL (a b : List Int) (n : Nat) : List Int := (List.range (min n (a.length - 1) + 1 - (n + 1 - b.length))).map fun i => a.getD (n + 1 - b.length + i) 0 + b.getD (n - (n + 1 - b.length + i)) 0
def besideL (a b : List Int) : List Int := (List.range (a.length + b.length - 1)).map fun n => lowL (waysL a b n)
def behindL (a b : List Int) : List Int := (List.range (min a.length b.length)).map fun n => a.getD n 0 + b.getD n 0
def pipeL (h p : Int) : List Int := (List.range (h.toNat + 1)).map fun k : Nat => (k : Int) * p
def Tm.costs : Tm → List Int
  | .pipe h p => pipeL h p
  | .two s a b => if s then besideL a.costs b.costs else behindL a.costs b.costs

theorem Tm.carry_bd (T : Tm) (hg : T.good) : 0 ≤ T.carry ∧ T.carry ≤ 4 * T.pipes := by
  induction T with
  | pipe h p => obtain ⟨h1, -⟩ := hg; simp [Tm.carry, Tm.pipes]; omega
  | two s a b iha ihb =>
    have h1 := iha hg.1; have h2 := ihb hg.2
    cases s <;> simp [Tm.carry, Tm.pipes] <;> omega
theorem Tm.costs_len (T : Tm) (hg : T.good) : (T.costs.length : Int) = T.carry + 1 := by
  induction T with
  | pipe h p => obtain ⟨h1, -⟩ := hg; simp [Tm.costs, Tm.carry, pipeL]; omega
  | two s a b iha ihb =>
    have h1 := iha hg.1; have h2 := ihb hg.2
    have h3 := a.carry_bd hg.1; have h4 := b.carry_bd hg.2
    cases s <;> simp [Tm.costs, Tm.carry, besideL, behindL] <;> omega

/- its net -/
def placeT : Tm → Int → Int → Int → List Pp
  | .pipe h p, f, t, _ => [⟨f, t, 0, h, p⟩]
  | .two s a b, f, t, n => if s then placeT a f t n ++ placeT b f t (n + a.thens) else placeT a f n (n + 1) ++ placeT b n t (n + 1 + a.thens)
def movedN (b e r x : Int) : Int := if x = 0 then b else if x = 1 then e else x + r
def movedP (b e r : Int) (p : Pp) : Pp := ⟨movedN b e r p.fr, movedN b e r p.to, p.le, p.mo, p.co⟩

theorem placeT_len (T : Tm) (f t n : Int) : (placeT T f t n).length = T.pipes := by
  induction T generalizing f t n with
  | pipe => simp [placeT, Tm.pipes]
  | two s a b iha ihb => cases s <;> simp [placeT, Tm.pipes, iha, ihb]
theorem placeT_moved (T : Tm) (b e r f t n : Int) (hn : 2 ≤ n) : (placeT T f t n).map (movedP b e r) = placeT T (movedN b e r f) (movedN b e r t) (n + r) := by
  induction T generalizing f t n with
  | pipe => simp [placeT, movedP]
  | two s u v iha ihb =>
    have h2 : movedN b e r n = n + r := by simp [movedN, show n ≠ 0 by omega, show n ≠ 1 by omega]
    cases s
    · simp only [placeT, Bool.false_eq_true, if_false, List.map_append]
      rw [iha _ _ _ (by omega), ihb _ _ _ (by omega), h2]
      congr 2 <;> omega
    · simp only [placeT, if_true, List.map_append]
      rw [iha _ _ _ (by omega), ihb _ _ _ (by omega)]
      congr 2 <;> omega

end Go.Proofs.Ytaohjhehlkeckaa
