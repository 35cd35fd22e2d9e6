/- Plain facts. -/
import Derived.Test.YtobbeofibkpbaaaGZ23
import Derived.Test.YtobbeofibkpbaaaMG
import Derived.Test.YtobbeofibkpbaaaGZ16
/- Terms, plain: marks, the tree that a row of marks is, what it carries, costs, its net; and the stack that reads it. -/
namespace Go.Proofs.Ytobbeofibkpbaaa
open Go.RowKit

structure Mk where
  k : Int
  h : Int
  p : Int
  deriving DecidableEq

def Mk.cells (m : Mk) : List Value := [.int .i64 m.k, .int .i64 m.h, .int .i64 m.p]
abbrev Mk.val (m : Mk) : Value := .agg #[.int .i64 m.k, .int .i64 m.h, .int .i64 m.p]

inductive Tm where
  | pipe (h p : Int)
  | two (s : Bool) (a b : Tm)
  deriving DecidableEq

def kindI (s : Bool) : Int := if s then 2 else 1

def Tm.marks : Tm → List Mk
  | .pipe h p => [⟨0, h, p⟩]
  | .two s a b => a.marks ++ (b.marks ++ [⟨kindI s, 0, 0⟩])
def Tm.pipes : Tm → Nat
  | .pipe _ _ => 1
  | .two _ a b => a.pipes + b.pipes
def Tm.thens : Tm → Nat
  | .pipe _ _ => 0
  | .two s a b => a.thens + b.thens + (if s then 0 else 1)
def Tm.good : Tm → Prop
  | .pipe h p => (0 ≤ h ∧ h ≤ 4) ∧ 0 ≤ p ∧ p ≤ 9
  | .two _ a b => a.good ∧ b.good

theorem Tm.pipes_pos (T : Tm) : 1 ≤ T.pipes := by
  induction T with
  | pipe => simp [Tm.pipes]
  | two s a b iha ihb => simp [Tm.pipes]; omega
theorem Tm.marks_len (T : Tm) : T.marks.length + 1 = 2 * T.pipes := by
  induction T with
  | pipe => simp [Tm.marks, Tm.pipes]
  | two s a b iha ihb => simp [Tm.marks, Tm.pipes]; omega

/- the kind of a mark at which the program and the model look -/
def markB (m : Mk) : Bool := if m.k = 0 then decide ((0 ≤ m.h ∧ m.h ≤ 4) ∧ 0 ≤ m.p ∧ m.p ≤ 9) else if m.k = 1 ∨ m.k = 2 then decide (m.h = 0 ∧ m.p = 0) else false
def countK (k : Int) (t : List Mk) : Nat := (t.filter fun m => m.k == k).length

/- how many parts are there behind a mark; none if it may not be -/
def partStep (n : Nat) (m : Mk) : Option Nat := if markB m = false then none else if m.k = 0 then some (n + 1) else if n < 2 then none else some (n - 1)
def partsN : List Mk → Nat → Option Nat
  | [], n => some n
  | m :: t, n => (partStep n m).bind fun n' => partsN t n'
def termB (t : List Mk) : Bool := (partsN t 0 == some 1) && (decide (countK 0 t ≤ 7) && decide (countK 1 t ≤ 3))

def stepT (st : List Tm) (m : Mk) : List Tm :=
  if m.k = 0 then .pipe m.h m.p :: st
  else match st with
    | b :: a :: r => .two (m.k == 2) a b :: r
    | st => st
def runT (t : List Mk) (st : List Tm) : List Tm := t.foldl stepT st

theorem partsN_append (t u : List Mk) (n : Nat) : partsN (t ++ u) n = (partsN t n).bind fun n' => partsN u n' := by
  induction t generalizing n with
  | nil => simp [partsN]
  | cons m t ih =>
    simp only [List.cons_append, partsN]
    cases partStep n m with
    | none => simp
    | some n' => simp [ih]
theorem runT_append (t u : List Mk) (st : List Tm) : runT (t ++ u) st = runT u (runT t st) := by simp [runT]

theorem Tm.run (T : Tm) (hg : T.good) (st : List Tm) : runT T.marks st = T :: st := by
  induction T generalizing st with
  | pipe h p => simp [Tm.marks, runT, stepT]
  | two s a b iha ihb =>
    simp only [Tm.marks, runT_append, iha hg.1, ihb hg.2]
    cases s <;> simp [runT, stepT, kindI]
theorem Tm.parts (T : Tm) (hg : T.good) (n : Nat) : partsN T.marks n = some (n + 1) := by
  induction T generalizing n with
  | pipe h p =>
    have h1 : (0 ≤ h ∧ h ≤ 4) ∧ 0 ≤ p ∧ p ≤ 9 := hg
    simp [Tm.marks, partsN, partStep, markB, h1]
  | two s a b iha ihb =>
    simp only [Tm.marks, partsN_append, iha hg.1, ihb hg.2, Option.bind_some]
    cases s <;> simp [partsN, partStep, kindI, markB]

theorem countK_append (k : Int) (t u : List Mk) : countK k (t ++ u) = countK k t + countK k u := by simp [countK]
theorem Tm.count0 (T : Tm) : countK 0 T.marks = T.pipes := by
  induction T with
  | pipe => simp [Tm.marks, Tm.pipes, countK]
  | two s a b iha ihb => simp only [Tm.marks, Tm.pipes, countK_append, iha, ihb]; cases s <;> simp [countK, kindI]
theorem Tm.count1 (T : Tm) : countK 1 T.marks = T.thens := by
  induction T with
  | pipe => simp [Tm.marks, Tm.thens, countK]
  | two s a b iha ihb => simp only [Tm.marks, Tm.thens, countK_append, iha, ihb]; cases s <;> simp [countK, kindI] <;> omega

/- the stack of a row whose parts are counted: its parts' marks, one behind the other -/
def allMarks : List Tm → List Mk
  | [] => []
  | T :: st => allMarks st ++ T.marks
def allGood (st : List Tm) : Prop := ∀ T ∈ st, T.good

theorem stack_step {st : List Tm} {m : Mk} {n : Nat} (hg : allGood st) (hp : partStep st.length m = some n) : allGood (stepT st m) ∧ (stepT st m).length = n ∧ allMarks (stepT st m) = allMarks st ++ [m] := by
  unfold partStep at hp
  split at hp
  · cases hp
  rename_i hm
  have hm : markB m = true := by simpa using hm
  split at hp
  · rename_i hk
    injection hp with hp
    obtain ⟨k, h, p⟩ := m
    simp only at hk; subst hk
    have : (0 ≤ h ∧ h ≤ 4) ∧ 0 ≤ p ∧ p ≤ 9 := by simpa [markB] using hm
    refine ⟨?_, by simp [stepT, hp], by simp [stepT, allMarks, Tm.marks]⟩
    intro T hT
    simp [stepT] at hT
    rcases hT with rfl | hT
    · exact this
    · exact hg T hT
  · rename_i hk
    split at hp
    · cases hp
    rename_i hn
    injection hp with hp
    obtain ⟨k, h, p⟩ := m
    simp only at hk
    have hx : (k = 1 ∨ k = 2) ∧ h = 0 ∧ p = 0 := by
      unfold markB at hm
      simp only [hk, if_false] at hm
      split at hm
      · rename_i h1; exact ⟨h1, by simpa using hm⟩
      · cases hm
    obtain ⟨hk12, rfl, rfl⟩ := hx
    match st, hn with
    | b :: a :: r, _ =>
      refine ⟨?_, ?_, ?_⟩
      · intro T hT
        simp [stepT, hk] at hT
        rcases hT with rfl | hT
        · exact ⟨hg a (by simp), hg b (by simp)⟩
        · exact hg T (by simp [hT])
      · simp [stepT, hk]; simp at hp; omega
      · simp only [stepT, hk, if_false, allMarks, Tm.marks, List.append_assoc]
        rcases hk12 with rfl | rfl <;> simp [kindI]
    | [a], hn => simp at hn
    | [], hn => simp at hn

theorem stack_run {t : List Mk} {st : List Tm} {n : Nat} (hg : allGood st) (hp : partsN t st.length = some n) : allGood (runT t st) ∧ (runT t st).length = n ∧ allMarks (runT t st) = allMarks st ++ t := by
  induction t generalizing st n with
  | nil => simp [partsN] at hp; exact ⟨hg, hp, by simp [runT]⟩
  | cons m t ih =>
    simp only [partsN] at hp
    cases hs : partStep st.length m with
    | none => rw [hs] at hp; cases hp
    | some n' =>
      rw [hs] at hp
      obtain ⟨h1, h2, h3⟩ := stack_step hg hs
      obtain ⟨h4, h5, h6⟩ := ih (st := stepT st m) h1 (by rw [h2]; exact hp)
      exact ⟨h4, h5, by rw [show runT (m :: t) st = runT t (stepT st m) from rfl, h6, h3]; simp⟩

theorem termB_iff (t : List Mk) : termB t = true ↔ ∃ T : Tm, t = T.marks ∧ T.good ∧ T.pipes ≤ 7 ∧ T.thens ≤ 3 := by
  constructor
  · intro h
    simp [termB] at h
    obtain ⟨hp, h0, h1⟩ := h
    obtain ⟨hg, hl, hm⟩ := stack_run (st := []) (t := t) (n := 1) (by intro T hT; cases hT) hp
    match hr : runT t [] with
    | [T] =>
      rw [hr] at hm hg
      have ht : t = T.marks := by simpa [allMarks] using hm.symm
      refine ⟨T, ht, hg T (by simp), ?_, ?_⟩
      · rw [ht, Tm.count0] at h0; exact h0
      · rw [ht, Tm.count1] at h1; exact h1
    | [] => rw [hr] at hl; simp at hl
    | _ :: _ :: _ => rw [hr] at hl; simp at hl
  · rintro ⟨T, rfl, hg, h7, h3⟩
    simp [termB, T.parts hg, T.count0, T.count1, h7, h3]

/- what a term carries, at what costs -/
def Tm.carry : Tm → Int
  | .pipe h _ => h
  | .two s a b => if s then a.carry + b.carry else min a.carry b.carry
def lowL : List Int → Int
  | [] => 0
  | [x] => x
  | x :: y :: r => min x (lowL (y :: r))
def waysL (a b : List Int) (n : Nat) : List Int := (List.range (min n (a.length - 1) + 1 - (n + 1 - b.length))).map fun i => a.getD (n + 1 - b.length + i) 0 + b.getD (n - (n + 1 - b.length + i)) 0
def besideL (a b : List Int) : List Int := (List.range (a.length + b.length - 1)).map fun n => lowL (waysL a b n)
def behindL (a b : List Int) : List Int := (List.range (min a.length b.length)).map fun n => a.getD n 0 + b.getD n 0
def pipeL (h p : Int) : List Int := (List.range (h.toNat + 1)).map fun k : Nat => (k : Int) * p
def Tm.costs : Tm → List Int
  | .pipe h p => pipeL h p
  | .two s a b => if s then besideL a.costs b.costs else behindL a.costs b.costs

theorem Tm.carry_bd (T : Tm) (hg : T.good) : 0 ≤ T.carry ∧ T.carry ≤ 4 * T.pipes := by
  induction T with
  | pipe h p => obtain ⟨h1, -⟩ := hg; simp [Tm.carry, Tm.pipes]; omega
  | two s a b iha ihb =>
    have h1 := iha hg.1; have h2 := ihb hg.2
    cases s <;> simp [Tm.carry, Tm.pipes] <;> omega
theorem Tm.costs_len (T : Tm) (hg : T.good) : (T.costs.length : Int) = T.carry + 1 := by
  induction T with
  | pipe h p => obtain ⟨h1, -⟩ := hg; simp [Tm.costs, Tm.carry, pipeL]; omega
  | two s a b iha ihb =>
    have h1 := iha hg.1; have h2 := ihb hg.2
    have h3 := a.carry_bd hg.1; have h4 := b.carry_bd hg.2
    cases s <;> simp [Tm.costs, Tm.carry, besideL, behindL] <;> omega

/- its net -/
def placeT : Tm → Int → Int → Int → List Pp
  | .pipe h p, f, t, _ => [⟨f, t, 0, h, p⟩]
  | .two s a b, f, t, n => if s then placeT a f t n ++ placeT b f t (n + a.thens) else placeT a f n (n + 1) ++ placeT b n t (n + 1 + a.thens)
def movedN (b e r x : Int) : Int := if x = 0 then b else if x = 1 then e else x + r
def movedP (b e r : Int) (p : Pp) : Pp := ⟨movedN b e r p.fr, movedN b e r p.to, p.le, p.mo, p.co⟩

theorem placeT_len (T : Tm) (f t n : Int) : (placeT T f t n).length = T.pipes := by
  induction T generalizing f t n with
  | pipe => simp [placeT, Tm.pipes]
  | two s a b iha ihb => cases s <;> simp [placeT, Tm.pipes, iha, ihb]
theorem placeT_moved (T : Tm) (b e r f t n : Int) (hn : 2 ≤ n) : (placeT T f t n).map (movedP b e r) = placeT T (movedN b e r f) (movedN b e r t) (n + r) := by
  induction T generalizing f t n with
  | pipe => simp [placeT, movedP]
  | two s u v iha ihb =>
    have h2 : movedN b e r n = n + r := by simp [movedN, show n ≠ 0 by omega, show n ≠ 1 by omega]
    cases s
    · simp only [placeT, Bool.false_eq_true, if_false, List.map_append]
      rw [iha _ _ _ (by omega), ihb _ _ _ (by omega), h2]
      congr 2 <;> omega
    · simp only [placeT, if_true, List.map_append]
      rw [iha _ _ _ (by omega), ihb _ _ _ (by omega)]
      congr 2 <;> omega

end Go.Proofs.Ytobbeofibkpbaaa

/- Words for memory: a row of marks; how it comes in, how it is made. -/
namespace Go.Proofs.Ytobbeofibkpbaaa
open Go.ChangeShapes Go.WideShapes Go.ChangeAt Go.RowKit Go.Deep Go.Joins

def Marks (w : World) (b : Nat) (v : Value) (ts : List Mk) : Prop :=
  w.ownsRow b 102 3 v ts.length (ts.flatMap Mk.cells) ∧ ts.length ≤ small

theorem Marks.keep {w w' : World} {b : Nat} {v : Value} {ts : List Mk} (h : Marks w b v ts) (hb : Below w.heap.size w w') : Marks w' b v ts :=
  ⟨own_keep h.1 (Nat.le_refl _) hb, h.2⟩
theorem Marks.mono {w : World} {b b' : Nat} {v : Value} {ts : List Mk} (h : Marks w b v ts) (hb : b' ≤ b) : Marks w b' v ts := ⟨own_mono h.1 hb, h.2⟩
theorem Marks.setLow {w : World} {b : Nat} {v : Value} {ts : List Mk} (h : Marks w b v ts) {a : Addr} {u : Value} (ha : a.block < b) : Marks (w.setCell a u) b v ts :=
  ⟨ownsRow_setCell_below h.1 ha u, h.2⟩
theorem mk_cells (ts : List Mk) (k : Nat) (hk : k < ts.length) (j : Nat) (hj : j < 3) : (ts.flatMap Mk.cells)[k * 3 + j]? = (ts[k].cells)[j]? := by
  induction ts generalizing k with
  | nil => simp at hk
  | cons p ps ih =>
    cases k with
    | zero =>
      rw [List.flatMap_cons, List.getElem?_append_left (by simp [Mk.cells]; omega)]
      simp
    | succ k =>
      rw [List.flatMap_cons, List.getElem?_append_right (by simp [Mk.cells]; omega)]
      have : (k + 1) * 3 + j - p.cells.length = k * 3 + j := by simp [Mk.cells]; omega
      rw [this, ih k (by simpa using hk)]
      simp
theorem mk_flat_len (ts : List Mk) : (ts.flatMap Mk.cells).length = ts.length * 3 := by
  induction ts with
  | nil => rfl
  | cons q qs ih => rw [List.flatMap_cons, List.length_append, ih]; simp [Mk.cells]; omega

theorem Marks.form {w : World} {b : Nat} {v : Value} {ts : List Mk} (h : Marks w b v ts) :
    ∃ A c, v = .slice A ts.length c ∧ ts.length ≤ c ∧ c ≤ maxLen ∧ ts.length ≤ 4194304 ∧ ∀ wr, Below w.heap.size w wr → ∀ k (hk : k < ts.length), ∃ g, A = some ⟨g, 0, none⟩ ∧ b ≤ g ∧ g < w.heap.size ∧
      wr.cell? ⟨g, k * 3, none⟩ = some (.int .i64 ts[k].k) ∧ wr.cell? ⟨g, k * 3 + 1, none⟩ = some (.int .i64 ts[k].h) ∧ wr.cell? ⟨g, k * 3 + 2, none⟩ = some (.int .i64 ts[k].p) := by
  obtain ⟨A, c, hv, h1, h2, h3⟩ := own_form h.1
  refine ⟨A, c, hv, h1, h2, h.2, fun wr hb k hk => ?_⟩
  have hc := mk_cells ts k hk
  obtain ⟨g, hA, hg, hg2, c0, _⟩ := h3 (k * 3 + 0) _ (hc 0 (by omega))
  have hx : ∀ j u, (ts[k].cells)[j]? = some u → j < 3 → wr.cell? ⟨g, k * 3 + j, none⟩ = some u := by
    intro j u hj h5
    obtain ⟨g1, hA1, _, hg3, c1, _⟩ := h3 (k * 3 + j) _ ((hc j h5).trans hj)
    rw [hA] at hA1
    injection hA1 with e1; injection e1 with e1; subst e1
    exact (hb.cell (p := ⟨g, k * 3 + j, none⟩) hg3).trans c1
  exact ⟨g, hA, hg, hg2, hx 0 _ rfl (by omega), hx 1 _ rfl (by omega), hx 2 _ rfl (by omega)⟩

theorem set3_list (qs : List Mk) (k : Nat) (hk : k < qs.length) (p : Mk) :
    ((((qs.flatMap Mk.cells).set (k * 3) (.int .i64 p.k)).set (k * 3 + 1) (.int .i64 p.h)).set (k * 3 + 2) (.int .i64 p.p)) = (qs.set k p).flatMap Mk.cells := by
  induction qs generalizing k with
  | nil => simp at hk
  | cons q qs ih =>
    cases k with
    | zero => simp [List.flatMap_cons, Mk.cells]
    | succ k =>
      have h := ih k (by simpa using hk)
      have e : (k + 1) * 3 = k * 3 + 3 := by omega
      rw [e, List.set_cons_succ, List.flatMap_cons, List.flatMap_cons, ← h]
      simp [Mk.cells]

section
variable {w : World} {b g n cap k : Nat} {e : TypeId} {qs : List Mk}
theorem own_set3 (h : w.ownsRow b e 3 (.slice (some ⟨g, 0, none⟩) n cap) n (qs.flatMap Mk.cells)) (hk : k < qs.length) (p : Mk) :
    (((w.setCell ⟨g, k * 3, none⟩ (.int .i64 p.k)).setCell ⟨g, k * 3 + 1, none⟩ (.int .i64 p.h)).setCell ⟨g, k * 3 + 2, none⟩ (.int .i64 p.p)).ownsRow b e 3 (.slice (some ⟨g, 0, none⟩) n cap) n ((qs.set k p).flatMap Mk.cells) := by
  rw [← set3_list qs k hk p]
  exact ((((h.stored _ _).1.stored _ _).1.stored _ _).1)
theorem own_cells3 (h : w.ownsRow b e 3 (.slice (some ⟨g, 0, none⟩) n cap) n (qs.flatMap Mk.cells)) (hk : k < qs.length) :
    g < w.heap.size ∧ (w.cell? ⟨g, k * 3, none⟩ = some (.int .i64 qs[k].k) ∧ w.cell? ⟨g, k * 3 + 1, none⟩ = some (.int .i64 qs[k].h) ∧ w.cell? ⟨g, k * 3 + 2, none⟩ = some (.int .i64 qs[k].p)) ∧
    ∀ j, w.frozen? ⟨g, j, none⟩ = false := by
  have hl : qs.length = n := by
    have := h.1
    have h5 := mk_flat_len qs
    omega
  have hc : ∀ j u, (qs[k].cells)[j]? = some u → j < 3 → w.cell? ⟨g, k * 3 + j, none⟩ = some u := by
    intro j u hj h5
    rw [h.cellAt (k * 3 + j) (by omega), mk_cells qs k hk j h5, hj]
  refine ⟨(h.lt g rfl).2, ⟨hc 0 _ rfl (by omega), hc 1 _ rfl (by omega), hc 2 _ rfl (by omega)⟩, fun j => h.frozenAt j⟩
theorem own_grow3 {xs : List Value} (h : w.ownsRow b e 3 (.slice (some ⟨g, 0, none⟩) n cap) n xs) (j0 j1 j2 : Nat) (u0 u1 u2 : Value) :
    w.grownBy (((w.setCell ⟨g, j0, none⟩ u0).setCell ⟨g, j1, none⟩ u1).setCell ⟨g, j2, none⟩ u2) (some g) := by
  have a0 := h.stored j0 u0
  have a1 := a0.1.stored j1 u1
  have a2 := a1.1.stored j2 u2
  exact (a0.2.trans a1.2).trans a2.2
end

theorem mark_info : (Try.prog.info? 102).map (fun i => (i.zero, i.size, i.bytes)) = some (some (.agg #[.int .i64 0, .int .i64 0, .int .i64 0]), 3, 24) := by kernel_rfl

/-- A row of marks that came in. -/
def ArgMarks (w : World) (v : Value) (ts : List Mk) : Prop :=
  ∃ (A : Option Addr) (c : Nat), v = .slice A ts.length c ∧ ts.length ≤ c ∧ c ≤ maxLen ∧ ∀ k (hk : k < ts.length), ∃ g o, A = some ⟨g, o, none⟩ ∧ g < w.heap.size ∧
    w.cell? ⟨g, o + k * 3, none⟩ = some (.int .i64 ts[k].k) ∧ w.cell? ⟨g, o + k * 3 + 1, none⟩ = some (.int .i64 ts[k].h) ∧ w.cell? ⟨g, o + k * 3 + 2, none⟩ = some (.int .i64 ts[k].p)

theorem Marks.arg {w : World} {b : Nat} {v : Value} {ts : List Mk} (h : Marks w b v ts) : ArgMarks w v ts := by
  obtain ⟨A, c, hv, h1, h2, -, hc⟩ := h.form
  refine ⟨A, c, hv, h1, h2, fun k hk => ?_⟩
  obtain ⟨g, hA, -, hg, c0, c1, c2⟩ := hc w (Below.refl _ _) k hk
  exact ⟨g, 0, hA, hg, by simpa using c0, by simpa using c1, by simpa using c2⟩
theorem ArgMarks.keep {w w' : World} {v : Value} {ts : List Mk} (h : ArgMarks w v ts) (hb : Below w.heap.size w w') : ArgMarks w' v ts := by
  obtain ⟨A, c, hv, h1, h2, hc⟩ := h
  refine ⟨A, c, hv, h1, h2, fun k hk => ?_⟩
  obtain ⟨g, o, hA, hg, c0, c1, c2⟩ := hc k hk
  exact ⟨g, o, hA, Nat.lt_of_lt_of_le hg hb.size, (hb.cell (p := ⟨g, _, none⟩) hg).trans c0, (hb.cell (p := ⟨g, _, none⟩) hg).trans c1, (hb.cell (p := ⟨g, _, none⟩) hg).trans c2⟩

section
variable {H : Type} {enc : TypeId × Value → H} {w : World} {base : Nat} {spare : Nat → Bool} {held : Bool} {r : Reach} {b0 : Nat}
end

end Go.Proofs.Ytobbeofibkpbaaa
