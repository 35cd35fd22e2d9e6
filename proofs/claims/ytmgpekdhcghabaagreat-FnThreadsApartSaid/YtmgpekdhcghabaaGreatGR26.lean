/- Plain facts. -/
import Derived.Test.YtmgpekdhcghabaaGreatRows
import Derived.WalkKit
import Derived.WalkSpells
import Derived.WalkLawsBesides
import Derived.Deep.QuietTactic
import Derived.BigQuiet
import Derived.Lib.Hide
import Derived.Laws.OwnMore
import Derived.Orders
/- Words for memory that all the walks use: a row of numbers, a row of pipes, a net; and small lemmas. -/
namespace Go.Proofs.YtmgpekdhcghabaaGreat
open Go.RowKit

structure Pp where
  fr : Int
  to : Int
  le : Int
  mo : Int
  co : Int
  deriving DecidableEq

def Pp.cells (p : Pp) : List Value := [.int .i64 p.fr, .int .i64 p.to, .int .i64 p.le, .int .i64 p.mo, .int .i64 p.co]
abbrev Pp.val (p : Pp) : Value := .agg #[.int .i64 p.fr, .int .i64 p.to, .int .i64 p.le, .int .i64 p.mo, .int .i64 p.co]

def small : Nat := 4194304
def Ints (w : World) (b : Nat) (v : Value) (xs : List Int) : Prop :=
  w.ownsRow b 3 1 v xs.length (xs.map (Value.int .i64)) ∧ xs.length ≤ small

def Pipes (w : World) (b : Nat) (v : Value) (ps : List Pp) : Prop :=
  w.ownsRow b 35 5 v ps.length (ps.flatMap Pp.cells) ∧ ps.length ≤ small

theorem ret_int {k : IntKind} {a b : Int} (h : a = b) : Ending.returned (.int k a) = .returned (.int k b) := by rw [h]
theorem ret_bool {a b : Bool} (h : a = b) : Ending.returned (.bool a) = .returned (.bool b) := by rw [h]
theorem of_not {b : Bool} (h : (!b) = false) : b = true := by simpa using h
theorem of_not_t {b : Bool} (h : (!b) = true) : b = false := by simpa using h

theorem bcell {W w1 : World} (hb : Below W.heap.size W w1) : (∀ b o, b < W.heap.size → w1.cell? ⟨b, o, none⟩ = W.cell? ⟨b, o, none⟩) ∧ (∀ b o, b < W.heap.size → w1.frozen? ⟨b, o, none⟩ = W.frozen? ⟨b, o, none⟩) ∧ W.heap.size ≤ w1.heap.size :=
  ⟨fun b o h => hb.cell (p := ⟨b, o, none⟩) h, fun b o h => hb.frozen (p := ⟨b, o, none⟩) h, hb.size⟩

theorem below_drewN {B : Nat} {a w : World} (h : Below B a w) (n : Nat) : Below B a (w.drewN n) := ⟨h.os, h.tape, h.output, h.size, h.block⟩

theorem own_keep {w w' : World} {B b n : Nat} {e : TypeId} {size : Nat} {v : Value} {xs : List Value} (h : w.ownsRow b e size v n xs) (hB : w.heap.size ≤ B) (hb : Below B w w') : w'.ownsRow b e size v n xs := by
  refine ⟨h.1, ?_⟩
  rcases h.2 with h0 | ⟨g, cap, cur, hv, hg, hh, r⟩
  · exact .inl h0
  · refine .inr ⟨g, cap, cur, hv, hg, ?_, r⟩
    have hlt : g < w.heap.size := by
      rcases Nat.lt_or_ge g w.heap.size with hlt | hge
      · exact hlt
      · rw [Array.getElem?_eq_none hge] at hh; cases hh
    rw [hb.block g (by omega)]; exact hh

theorem Ints.keep {w w' : World} {b : Nat} {v : Value} {xs : List Int} (h : Ints w b v xs) (hb : Below w.heap.size w w') : Ints w' b v xs :=
  ⟨own_keep h.1 (Nat.le_refl _) hb, h.2⟩
theorem Pipes.keep {w w' : World} {b : Nat} {v : Value} {ps : List Pp} (h : Pipes w b v ps) (hb : Below w.heap.size w w') : Pipes w' b v ps :=
  ⟨own_keep h.1 (Nat.le_refl _) hb, h.2⟩
theorem own_mono {w : World} {b b' n : Nat} {e : TypeId} {size : Nat} {v : Value} {xs : List Value} (h : w.ownsRow b e size v n xs) (hb : b' ≤ b) : w.ownsRow b' e size v n xs := by
  refine ⟨h.1, ?_⟩
  rcases h.2 with h0 | ⟨g, cap, cur, hv, hg, r⟩
  · exact .inl h0
  · exact .inr ⟨g, cap, cur, hv, by omega, r⟩
theorem Ints.mono {w : World} {b b' : Nat} {v : Value} {xs : List Int} (h : Ints w b v xs) (hb : b' ≤ b) : Ints w b' v xs := ⟨own_mono h.1 hb, h.2⟩
theorem Pipes.mono {w : World} {b b' : Nat} {v : Value} {ps : List Pp} (h : Pipes w b v ps) (hb : b' ≤ b) : Pipes w b' v ps := ⟨own_mono h.1 hb, h.2⟩

theorem Ints.setLow {w : World} {b : Nat} {v : Value} {xs : List Int} (h : Ints w b v xs) {a : Addr} {u : Value} (ha : a.block < b) : Ints (w.setCell a u) b v xs :=
  ⟨ownsRow_setCell_below h.1 ha u, h.2⟩
theorem Pipes.setLow {w : World} {b : Nat} {v : Value} {ps : List Pp} (h : Pipes w b v ps) {a : Addr} {u : Value} (ha : a.block < b) : Pipes (w.setCell a u) b v ps :=
  ⟨ownsRow_setCell_below h.1 ha u, h.2⟩

theorem own_form {w : World} {b n : Nat} {e : TypeId} {size : Nat} {v : Value} {xs : List Value} (h : w.ownsRow b e size v n xs) :
    ∃ A c, v = .slice A n c ∧ n ≤ c ∧ c ≤ maxLen ∧ ∀ k u, xs[k]? = some u → ∃ g, A = some ⟨g, 0, none⟩ ∧ b ≤ g ∧ g < w.heap.size ∧ w.cell? ⟨g, k, none⟩ = some u ∧ w.frozen? ⟨g, k, none⟩ = false := by
  rcases h.2 with ⟨rfl, rfl⟩ | ⟨g, cap, cur, rfl, hg, hh, h1, h2, h3, h4⟩
  · refine ⟨none, 0, rfl, Nat.le_refl _, by simp [maxLen], fun k u hk => ?_⟩
    have := h.1
    have hx : xs = [] := List.eq_nil_of_length_eq_zero (by simpa using this)
    subst hx; simp at hk
  · refine ⟨some ⟨g, 0, none⟩, cap, rfl, h1, h2, fun k u hk => ⟨g, rfl, hg, ?_, ?_, ?_⟩⟩
    · rcases Nat.lt_or_ge g w.heap.size with hlt | hge
      · exact hlt
      · rw [Array.getElem?_eq_none hge] at hh; cases hh
    · have hlen : k < n * size := by
        have := List.getElem?_eq_some_iff.1 hk
        obtain ⟨hk1, _⟩ := this
        rw [h.1] at hk1; exact hk1
      rw [cell_of_row w g k cur e (0, 0) hh, ← hk, ← h4]
      rw [List.getElem?_take]
      simp [hlen]
    · simp [World.frozen?, hh]

theorem Ints.form {w : World} {b : Nat} {v : Value} {xs : List Int} (h : Ints w b v xs) :
    ∃ A c, v = .slice A xs.length c ∧ xs.length ≤ c ∧ c ≤ maxLen ∧ xs.length ≤ 4194304 ∧ ∀ wr, Below w.heap.size w wr → ∀ k (hk : k < xs.length), ∃ g, A = some ⟨g, 0, none⟩ ∧ b ≤ g ∧ g < w.heap.size ∧ wr.cell? ⟨g, k, none⟩ = some (.int .i64 xs[k]) ∧ wr.frozen? ⟨g, k, none⟩ = false := by
  obtain ⟨A, c, hv, h1, h2, h3⟩ := own_form h.1
  refine ⟨A, c, hv, h1, h2, h.2, fun wr hb k hk => ?_⟩
  obtain ⟨g, hA, hg, hg2, c0, c1⟩ := h3 k _ (show (xs.map (Value.int .i64))[k]? = some (.int .i64 xs[k]) by simp [hk])
  exact ⟨g, hA, hg, hg2, (hb.cell (p := ⟨g, k, none⟩) hg2).trans c0, (hb.frozen (p := ⟨g, k, none⟩) hg2).trans c1⟩

theorem pp_cells (ps : List Pp) (k : Nat) (hk : k < ps.length) (j : Nat) (hj : j < 5) : (ps.flatMap Pp.cells)[k * 5 + j]? = (ps[k].cells)[j]? := by
  induction ps generalizing k with
  | nil => simp at hk
  | cons p ps ih =>
    cases k with
    | zero =>
      rw [List.flatMap_cons, List.getElem?_append_left (by simp [Pp.cells]; omega)]
      simp
    | succ k =>
      rw [List.flatMap_cons, List.getElem?_append_right (by simp [Pp.cells]; omega)]
      have : (k + 1) * 5 + j - p.cells.length = k * 5 + j := by simp [Pp.cells]; omega
      rw [this, ih k (by simpa using hk)]
      simp

theorem Pipes.form {w : World} {b : Nat} {v : Value} {ps : List Pp} (h : Pipes w b v ps) :
    ∃ A c, v = .slice A ps.length c ∧ ps.length ≤ c ∧ c ≤ maxLen ∧ ps.length ≤ 4194304 ∧ ∀ wr, Below w.heap.size w wr → ∀ k (hk : k < ps.length), ∃ g, A = some ⟨g, 0, none⟩ ∧ b ≤ g ∧ g < w.heap.size ∧
      wr.cell? ⟨g, k * 5, none⟩ = some (.int .i64 ps[k].fr) ∧ wr.cell? ⟨g, k * 5 + 1, none⟩ = some (.int .i64 ps[k].to) ∧ wr.cell? ⟨g, k * 5 + 2, none⟩ = some (.int .i64 ps[k].le) ∧
      wr.cell? ⟨g, k * 5 + 3, none⟩ = some (.int .i64 ps[k].mo) ∧ wr.cell? ⟨g, k * 5 + 4, none⟩ = some (.int .i64 ps[k].co) := by
  obtain ⟨A, c, hv, h1, h2, h3⟩ := own_form h.1
  refine ⟨A, c, hv, h1, h2, h.2, fun wr hb k hk => ?_⟩
  have hc := pp_cells ps k hk
  obtain ⟨g, hA, hg, hg2, c0, _⟩ := h3 (k * 5 + 0) _ (hc 0 (by omega))
  have hx : ∀ j u, (ps[k].cells)[j]? = some u → j < 5 → wr.cell? ⟨g, k * 5 + j, none⟩ = some u := by
    intro j u hj h5
    obtain ⟨g1, hA1, _, hg3, c1, _⟩ := h3 (k * 5 + j) _ ((hc j h5).trans hj)
    rw [hA] at hA1
    injection hA1 with e1; injection e1 with e1; subst e1
    exact (hb.cell (p := ⟨g, k * 5 + j, none⟩) hg3).trans c1
  exact ⟨g, hA, hg, hg2, hx 0 _ rfl (by omega), hx 1 _ rfl (by omega), hx 2 _ rfl (by omega), hx 3 _ rfl (by omega), hx 4 _ rfl (by omega)⟩

end Go.Proofs.YtmgpekdhcghabaaGreat

/- A region that draws its order, whose operations read what is old and whose callees make new memory alone: one walk in the order of the text. -/
namespace Go.Proofs.YtmgpekdhcghabaaGreat
open Go.RowKit

/-- a later world in which nothing old has changed -/
structure Bw (w : World) where
  v : World
  h : Below w.heap.size w v

instance (w : World) : Nonempty (Bw w) := ⟨⟨w, Below.refl _ _⟩⟩

theorem bw_cell {w : World} (p : Bw w) {b o : Nat} (h : b < w.heap.size) : p.v.cell? ⟨b, o, none⟩ = w.cell? ⟨b, o, none⟩ := p.h.cell (p := ⟨b, o, none⟩) h

theorem calls_bw {P : Program} {f : FuncId} {args : Array Value} {w : World} {p : Bw w} {v : Value}
    (h : Calls P f args p.v fun e w' => e = .returned v ∧ Below p.v.heap.size p.v w') : Calls P f args p.v fun e w'' => e = .returned v ∧ ∃ q : Bw w, w'' = q.v :=
  h.mono fun _ w' hh => ⟨hh.1, ⟨w', p.h.trans (hh.2.mono p.h.size)⟩, rfl⟩

theorem wp_region_bw {P : Program} {id : Nat} {Q : Exit → Act → World → Prop} {a : Act} {w : World} {l : List Oper} (hm : P.follows .mixedOrders = true) (hB : Region.lexB .any l.toArray = true)
    (h : wpQuiet P l.toArray (fun w' => ∃ p : Bw w, w' = p.v) (fun a' => ∀ w', (∃ p : Bw w, w' = p.v) → Q .normal a' w') l a) : (Code.region id l.toArray true).wp P Q a w :=
  wp_region_quiet (C := fun w' => ∃ p : Bw w, w' = p.v) hm hB ⟨⟨{ w with drawn := w.drawn + 1 }, ⟨rfl, rfl, rfl, Nat.le_refl _, fun _ _ => rfl⟩⟩, rfl⟩ (by simpa using h)

end Go.Proofs.YtmgpekdhcghabaaGreat

/- A region that draws its order: each operation is looked at by itself, whatever order the tape picks: what it needs of the operations that it waits for, and what it leaves. -/
namespace Go.Proofs.YtmgpekdhcghabaaGreat
open Go

/-- the operations that an operation waits for -/
def depsOf (o : Oper) : List Nat := (o.after.toList.filter (Region.binds .any ·)).map (·.on)
/-- the operations whose values it takes -/
def useOf (o : Oper) : List Nat := (o.after.toList.filter (fun e => Region.binds .any e && (decide (e.ground = .data) || decide (e.ground = .guard)))).map (·.on)
def usesAt (l : List Oper) (k : Nat) : List Nat := ((l[k]?).map useOf).getD []
def depsAt (l : List Oper) (k : Nat) : List Nat := ((l[k]?).map depsOf).getD []
def dstAt (l : List Oper) (k : Nat) : Option Tmp := (l[k]?).bind (·.dst)
/-- what is known of some operations' values -/
def allV (V : Nat → Value → (Nat → Value) → World → Prop) (u : Nat → Value) (w : World) : List Nat → Prop
  | [] => True
  | k :: l => V k (u k) u w ∧ allV V u w l
/-- the frame in which these operations' variables hold these values -/
def fillF (a0 : Act) (u : Nat → Value) : List (Nat × Tmp) → Act
  | [] => a0
  | (k, d) :: l => { fillF a0 u l with tmps := (fillF a0 u l).tmps.setIfInBounds d (u k) }
def fillEnd (a0 : Act) (u : Nat → Value) (D : List (Nat × Tmp)) (skip : Nat) (d : Option Tmp) : Act := (fillF a0 u D).put d (u skip)
/-- nothing takes its value -/
def finB (l : List Oper) (k : Nat) : Bool := !(List.range l.length).any fun j => (usesAt l j).contains k
def laterB (l : List Oper) : Nat → Nat → Nat → Bool
  | 0, _, _ => false
  | f + 1, i, k => (depsAt l k).any fun j => j == i || laterB l f i j
/-- it is wanted behind operation i, too -/
def heldB (l : List Oper) (i k : Nat) : Bool := finB l k || (List.range l.length).any fun j => j != i && (usesAt l j).contains k && !laterB l l.length j i
/-- what is known of k is wanted behind i, if k came first -/
def aliveB (l : List Oper) (i k : Nat) : Bool := heldB l i k && !laterB l l.length i k && k != i
/-- every variable is set once; what is waited for stands before; the operation 'skip' comes last of all -/
def flowB (l : List Oper) (skip : Nat) (D : List (Nat × Tmp)) : Bool :=
  ((List.range l.length).all fun i => (List.range l.length).all fun j => i == j || (dstAt l i).isNone || dstAt l i != dstAt l j) &&
  ((List.range l.length).all fun k => (depsAt l k).all fun j => decide (j < k)) &&
  (D.all fun p => decide (p.1 < l.length) && p.1 != skip && dstAt l p.1 == some p.2) &&
  ((List.range l.length).all fun k => k == skip || match dstAt l k with
    | none => true
    | some s => D.contains (k, s)) &&
  (decide (l.length ≤ skip) || (List.range l.length).all fun i => i == skip || laterB l l.length i skip)

section
variable {P : Program} {l : List Oper} {skip : Nat} {D : List (Nat × Tmp)} {a0 : Act} {u : Nat → Value}

theorem allV_mem {V : Nat → Value → (Nat → Value) → World → Prop} {w : World} : ∀ {L : List Nat}, (∀ k ∈ L, V k (u k) u w) → allV V u w L
  | [], _ => trivial
  | _ :: _, h => ⟨h _ (by simp), allV_mem fun k hk => h k (by simp [hk])⟩

theorem flow_parts (h : flowB l skip D = true) :
    (∀ i j s, i < l.length → j < l.length → dstAt l i = some s → dstAt l j = some s → i = j) ∧
    (∀ k j, k < l.length → j ∈ depsAt l k → j < k) ∧
    (∀ k s, (k, s) ∈ D ↔ k < l.length ∧ k ≠ skip ∧ dstAt l k = some s) ∧
    (skip < l.length → ∀ i, i < l.length → i ≠ skip → laterB l l.length i skip = true) := by
  simp only [flowB, Bool.and_eq_true, List.all_eq_true, List.mem_range, Bool.or_eq_true, beq_iff_eq, bne_iff_ne, ne_eq, decide_eq_true_eq] at h
  obtain ⟨⟨⟨⟨h1, h2⟩, h3⟩, h4⟩, h5⟩ := h
  refine ⟨fun i j s hi hj e1 e2 => ?_, fun k j hk hj => h2 k hk j hj, fun k s => ⟨fun hm => ?_, fun ⟨hk, hs, hd⟩ => ?_⟩, fun hs i hi hne => ?_⟩
  · rcases h1 i hi j hj with (h | h) | h
    · exact h
    · rw [e1] at h; simp at h
    · rw [e1, e2] at h; exact absurd rfl h
  · obtain ⟨⟨a, b⟩, c⟩ := h3 (k, s) hm
    exact ⟨a, b, c⟩
  · rcases h4 k hk with h | h
    · exact absurd h hs
    · rw [hd] at h; simpa using h
  · rcases h5 with h | h
    · omega
    · exact (h i hi).resolve_left hne

theorem uses_deps {k j : Nat} (h : j ∈ usesAt l k) : j ∈ depsAt l k := by
  unfold usesAt at h
  unfold depsAt
  cases hk : l[k]? with
  | none => rw [hk] at h; simp at h
  | some o =>
    rw [hk] at h
    simp only [Option.map_some, Option.getD_some, useOf, depsOf, List.mem_map, List.mem_filter, Bool.and_eq_true] at h ⊢
    obtain ⟨e, ⟨h1, h2, -⟩, h3⟩ := h
    exact ⟨e, ⟨h1, h2⟩, h3⟩

theorem fill_defers (D : List (Nat × Tmp)) : (fillF a0 u D).defers = a0.defers := by
  induction D with
  | nil => rfl
  | cons p D ih => exact ih
theorem fill_size (D : List (Nat × Tmp)) : (fillF a0 u D).tmps.size = a0.tmps.size := by
  induction D with
  | nil => rfl
  | cons p D ih => simp [fillF, ih]
theorem fill_none {s : Nat} (D : List (Nat × Tmp)) (h : ∀ k, (k, s) ∉ D) : (fillF a0 u D).tmps[s]? = a0.tmps[s]? := by
  induction D with
  | nil => rfl
  | cons p D ih =>
    obtain ⟨k, d⟩ := p
    have hd : d ≠ s := fun e => h k (by simp [e])
    simp only [fillF]
    rw [Array.getElem?_setIfInBounds_ne hd]
    exact ih fun k hk => h k (by simp [hk])
theorem fill_some {s k : Nat} (D : List (Nat × Tmp)) (hu : ∀ i, (i, s) ∈ D → i = k) (h : (k, s) ∈ D) (hs : s < a0.tmps.size) : (fillF a0 u D).tmps[s]? = some (u k) := by
  induction D with
  | nil => simp at h
  | cons p D ih =>
    obtain ⟨i, d⟩ := p
    simp only [fillF]
    by_cases hd : d = s
    · subst hd
      have := hu i (by simp)
      subst this
      simp [fill_size, hs]
    · rw [Array.getElem?_setIfInBounds_ne hd]
      refine ih (fun i hi => hu i (by simp [hi])) ?_
      rcases List.mem_cons.1 h with e | e
      · injection e with e1 e2
        exact absurd e2.symm hd
      · exact e

/-- the frame, slot by slot -/
def AtF (l : List Oper) (a0 : Act) (listed : Array Bool) (u : Nat → Value) (a : Act) : Prop :=
  a.defers = a0.defers ∧ a.tmps.size = a0.tmps.size ∧
  (∀ s, (∀ k, k < l.length → dstAt l k = some s → listed.getD k false = false) → a.tmps[s]? = a0.tmps[s]?) ∧
  ∀ k s, k < l.length → dstAt l k = some s → listed.getD k false = true → s < a0.tmps.size → a.tmps[s]? = some (u k)

theorem act_ext {a b : Act} (h : a.defers = b.defers) (h2 : ∀ s : Nat, a.tmps[s]? = b.tmps[s]?) : a = b := by
  obtain ⟨t, d⟩ := a
  obtain ⟨t', d'⟩ := b
  simp only at h h2
  subst h
  congr 1
  exact Array.ext_getElem? h2

def initU (l : List Oper) (a0 : Act) (listed : Array Bool) (u : Nat → Value) (k : Nat) : Value :=
  if listed.getD k false = true then u k else match dstAt l k with
    | some s => a0.tmps.getD s undef
    | none => undef

theorem at_fill {listed : Array Bool} {a : Act} (hB : flowB l skip D = true) (h : AtF l a0 listed u a) (hs : skip < l.length → listed.getD skip false = false) : a = fillF a0 (initU l a0 listed u) D := by
  obtain ⟨b1, -, b3, -⟩ := flow_parts hB
  obtain ⟨h1, h2, h3, h4⟩ := h
  refine act_ext (by rw [h1, fill_defers]) fun s => ?_
  by_cases hk : ∃ k, (k, s) ∈ D
  · obtain ⟨k, hk⟩ := hk
    obtain ⟨k1, k2, k3⟩ := (b3 k s).1 hk
    have hu : ∀ i, (i, s) ∈ D → i = k := fun i hi => by
      obtain ⟨i1, i2, i3⟩ := (b3 i s).1 hi
      exact b1 i k s i1 k1 i3 k3
    by_cases hlt : s < a0.tmps.size
    · rw [fill_some D hu hk hlt]
      by_cases hl : listed.getD k false = true
      · rw [h4 k s k1 k3 hl hlt, initU, if_pos hl]
      · rw [h3 s fun i hi hd => by rw [b1 i k s hi k1 hd k3]; simpa using hl, initU, if_neg hl, k3]
        simp [hlt]
    · rw [Array.getElem?_eq_none (by omega), Array.getElem?_eq_none (by rw [fill_size]; omega)]
  · rw [fill_none D fun k hk' => hk ⟨k, hk'⟩]
    refine h3 s fun k hk1 hd => ?_
    have hks : k = skip := by
      rcases Nat.decEq k skip with hne | he
      · exact absurd ⟨k, (b3 k s).2 ⟨hk1, hne, hd⟩⟩ hk
      · exact he
    subst hks
    exact hs hk1

theorem put_size (a : Act) (d : Option Tmp) (v : Value) : (a.put d v).tmps.size = a.tmps.size := by
  cases d <;> simp [Act.put]

theorem at_end {listed : Array Bool} {a : Act} (hB : flowB l skip D = true) (h : AtF l a0 listed u a) (hall : ∀ k, k < l.length → listed.getD k false = true) : a = fillEnd a0 u D skip (dstAt l skip) := by
  obtain ⟨b1, -, b3, -⟩ := flow_parts hB
  obtain ⟨h1, h2, h3, h4⟩ := h
  have hsk : ∀ d, dstAt l skip = some d → skip < l.length := fun d hd => by
    rcases Nat.lt_or_ge skip l.length with h | h
    · exact h
    · simp [dstAt, h] at hd
  have hd0 : (fillEnd a0 u D skip (dstAt l skip)).defers = a0.defers := by
    unfold fillEnd
    cases hd : dstAt l skip <;> simp [Act.put, fill_defers]
  have hz0 : (fillEnd a0 u D skip (dstAt l skip)).tmps.size = a0.tmps.size := by
    unfold fillEnd
    rw [put_size, fill_size]
  refine act_ext (by rw [h1, hd0]) fun s => ?_
  by_cases hlt : s < a0.tmps.size
  · by_cases hsd : dstAt l skip = some s
    · rw [h4 skip s (hsk s hsd) hsd (hall _ (hsk s hsd)) hlt]
      unfold fillEnd
      rw [hsd]
      simp [Act.put, fill_size, hlt]
    · have e : (fillEnd a0 u D skip (dstAt l skip)).tmps[s]? = (fillF a0 u D).tmps[s]? := by
        unfold fillEnd
        cases hd : dstAt l skip with
        | none => rfl
        | some d =>
          simp only [Act.put]
          rw [Array.getElem?_setIfInBounds_ne]
          intro e
          subst e
          exact hsd hd
      rw [e]
      by_cases hk : ∃ k, (k, s) ∈ D
      · obtain ⟨k, hk⟩ := hk
        obtain ⟨k1, k2, k3⟩ := (b3 k s).1 hk
        have hu : ∀ i, (i, s) ∈ D → i = k := fun i hi => by
          obtain ⟨i1, i2, i3⟩ := (b3 i s).1 hi
          exact b1 i k s i1 k1 i3 k3
        rw [fill_some D hu hk hlt, h4 k s k1 k3 (hall k k1) hlt]
      · rw [fill_none D fun k hk' => hk ⟨k, hk'⟩]
        refine h3 s fun k hk1 hd => ?_
        by_cases hks : k = skip
        · subst hks; exact absurd hd hsd
        · exact absurd ⟨k, (b3 k s).2 ⟨hk1, hks, hd⟩⟩ hk
  · rw [Array.getElem?_eq_none (by omega), Array.getElem?_eq_none (by omega)]

theorem getD_set_same {listed : Array Bool} {i : Nat} (d : Bool) (h : i < listed.size) : (listed.setIfInBounds i true).getD i d = true := by simp [h]

theorem at_put {listed : Array Bool} {a : Act} {i : Nat} {o : Oper} {v : Value} (hB : flowB l skip D = true) (h : AtF l a0 listed u a) (hi : l[i]? = some o) (hz : listed.size = l.length) :
    AtF l a0 (listed.setIfInBounds i true) (fun k => if k = i then v else u k) (a.put o.dst v) := by
  obtain ⟨b1, -, b3, -⟩ := flow_parts hB
  obtain ⟨h1, h2, h3, h4⟩ := h
  have hil : i < l.length := (List.getElem?_eq_some_iff.1 hi).1
  have hdi : dstAt l i = o.dst := by simp [dstAt, hi]
  refine ⟨by cases o.dst <;> simp [Act.put, h1], by rw [put_size, h2], fun s hs => ?_, fun k s hk hd hl hlt => ?_⟩
  · have hne : o.dst ≠ some s := fun e => by
      have := hs i hil (by rw [hdi, e])
      rw [getD_set_same false (by omega)] at this
      cases this
    have e : (a.put o.dst v).tmps[s]? = a.tmps[s]? := by
      cases hd : o.dst with
      | none => rfl
      | some d =>
        simp only [Act.put]
        rw [Array.getElem?_setIfInBounds_ne]
        intro e
        subst e
        exact hne hd
    rw [e]
    refine h3 s fun k hk hd => ?_
    have hki : k ≠ i := fun e => by subst e; exact hne (by rw [← hdi]; exact hd)
    have := hs k hk hd
    rwa [getD_set_ne false (Ne.symm hki)] at this
  · by_cases hki : k = i
    · subst hki
      dsimp only
      rw [if_pos rfl]
      rw [hdi] at hd
      rw [hd]
      simp [Act.put, h2, hlt]
    · dsimp only
      rw [if_neg hki]
      rw [getD_set_ne false (Ne.symm hki)] at hl
      have e : (a.put o.dst v).tmps[s]? = a.tmps[s]? := by
        cases hd' : o.dst with
        | none => rfl
        | some d =>
          simp only [Act.put]
          rw [Array.getElem?_setIfInBounds_ne]
          intro e
          subst e
          exact hki (b1 k i d hk hil hd (by rw [hdi]; exact hd'))
      rw [e]
      exact h4 k s hk hd hl hlt

/-- what is asked of one operation -/
def flowQ (V : Nat → Value → (Nat → Value) → World → Prop) (R : Nat → World → World → Prop) (C : World → Prop) (i : Nat) (d : Option Tmp) (u : Nat → Value) (a : Act) (w : World) : Exit → Act → World → Prop
  | .normal, a', w' => ∃ v, a' = a.put d v ∧ V i v u w' ∧ R i w w' ∧ C w'
  | _, _, _ => False

structure InvF (l : List Oper) (a0 : Act) (V : Nat → Value → (Nat → Value) → World → Prop) (u : Nat → Value) (listed : Array Bool) (a : Act) (w : World) : Prop where
  at' : AtF l a0 listed u a
  v : ∀ k j, j < l.length → listed.getD k false = true → listed.getD j false = false → k ∈ usesAt l j → V k (u k) u w
  fin : ∀ k, k < l.length → listed.getD k false = true → finB l k = true → V k (u k) u w
  cl : ∀ k j, k < l.length → listed.getD k false = true → j ∈ depsAt l k → listed.getD j false = true

theorem later_listed {listed : Array Bool} (hb : ∀ k j, k < l.length → j ∈ depsAt l k → j < k) (hc : ∀ k j, k < l.length → listed.getD k false = true → j ∈ depsAt l k → listed.getD j false = true) : ∀ (f i k : Nat), k < l.length → laterB l f i k = true → listed.getD k false = true → listed.getD i false = true := by
  intro f
  induction f with
  | zero => intro i k _ h _; simp [laterB] at h
  | succ f ih =>
    intro i k hk h hl
    simp only [laterB, List.any_eq_true, Bool.or_eq_true, beq_iff_eq] at h
    obtain ⟨j, hj, h⟩ := h
    rcases h with rfl | h
    · exact hc k _ hk hl hj
    · exact ih i j (by have := hb k j hk hj; omega) h (hc k j hk hl hj)

theorem later_lt (hb : ∀ k j, k < l.length → j ∈ depsAt l k → j < k) : ∀ (f i k : Nat), k < l.length → laterB l f i k = true → i < k := by
  intro f
  induction f with
  | zero => intro i k _ h; simp [laterB] at h
  | succ f ih =>
    intro i k hk h
    simp only [laterB, List.any_eq_true, Bool.or_eq_true, beq_iff_eq] at h
    obtain ⟨j, hj, h⟩ := h
    have hjk := hb k j hk hj
    rcases h with rfl | h
    · exact hjk
    · have := ih i j (by omega) h; omega

theorem deps_mem {k j : Nat} {o : Oper} (hk : l[k]? = some o) : j ∈ depsAt l k ↔ ∃ e ∈ o.after, Region.binds .any e = true ∧ e.on = j := by
  simp [depsAt, hk, depsOf, and_assoc]

theorem ready_none {listed : Array Bool} (hz : listed.size = l.length) (hb : ∀ k j, k < l.length → j ∈ depsAt l k → j < k) (h : Region.ready .any l.toArray listed = []) : ∀ k, k < l.length → listed.getD k false = true := by
  intro k
  induction k using Nat.strongRecOn with
  | ind k ih =>
    intro hk
    rcases hl : listed.getD k false with _ | _
    · exfalso
      have hmem : k ∈ Region.ready .any l.toArray listed := by
        refine mem_ready.2 ⟨?_, l[k], by simp [hk], fun e he hbd => ?_⟩
        · have : k < listed.size := by omega
          simpa [this] using hl
        · have hj := (deps_mem (l := l) (k := k) (j := e.on) (o := l[k]) (by simp [hk])).2 ⟨e, he, hbd, rfl⟩
          exact ih e.on (hb k _ hk hj) (by have := hb k _ hk hj; omega)
      rw [h] at hmem
      cases hmem
    · rfl

def leftN (n : Nat) (listed : Array Bool) : Nat := (List.range n).countP fun k => !listed.getD k false
theorem left_lt {n : Nat} {listed : Array Bool} {i : Nat} (hi : i < n) (hz : listed.size = n) (h : listed.getD i false = false) : leftN n (listed.setIfInBounds i true) < leftN n listed := by
  have key : ∀ L : List Nat, (∀ x ∈ L, x < n) → i ∈ L → L.countP (fun k => !(listed.setIfInBounds i true).getD k false) < L.countP (fun k => !listed.getD k false) := by
    intro L
    have mono : ∀ L : List Nat, (∀ x ∈ L, x < n) → L.countP (fun k => !(listed.setIfInBounds i true).getD k false) ≤ L.countP (fun k => !listed.getD k false) := by
      intro L hL
      refine List.countP_mono_left fun x hx hp => ?_
      by_cases e : x = i
      · subst e; simp at h ⊢; exact h
      · rw [getD_set_ne false (Ne.symm e)] at hp; exact hp
    induction L with
    | nil => intro _ h; cases h
    | cons x L ih =>
      intro hL hm
      by_cases e : x = i
      · subst e
        have e1 : (!(listed.setIfInBounds x true).getD x false) = false := by rw [getD_set_same false (by omega)]; rfl
        have e2 : (!listed.getD x false) = true := by rw [h]; rfl
        rw [List.countP_cons_of_neg (by rw [e1]; simp), List.countP_cons_of_pos (by rw [e2])]
        have := mono L fun y hy => hL y (by simp [hy])
        omega
      · have h1 := ih (fun y hy => hL y (by simp [hy])) (by rcases List.mem_cons.1 hm with h | h; exact absurd h.symm e; exact h)
        rw [List.countP_cons, List.countP_cons, getD_set_ne false (Ne.symm e)]
        omega
  exact key (List.range n) (fun x hx => List.mem_range.1 hx) (List.mem_range.2 hi)

theorem left_eq {listed : Array Bool} {i : Nat} (hs : i < listed.size) (h : listed.getD i false = false) : ∀ n, leftN n (listed.setIfInBounds i true) + (if i < n then 1 else 0) = leftN n listed := by
  intro n
  induction n with
  | zero => simp [leftN]
  | succ n ih =>
    unfold leftN at ih ⊢
    rw [List.range_succ, List.countP_append, List.countP_append, List.countP_singleton, List.countP_singleton]
    by_cases e : n = i
    · subst e
      rw [getD_set_same false hs, h]
      have e1 : (if n < n then 1 else 0 : Nat) = 0 := if_neg (by omega)
      have e2 : (if n < n + 1 then 1 else 0 : Nat) = 1 := if_pos (by omega)
      rw [e1] at ih
      rw [e2]
      simp only [Bool.not_true, Bool.not_false, Bool.false_eq_true, if_true, if_false]
      omega
    · rw [getD_set_ne false (Ne.symm e)]
      have e1 : (if i < n + 1 then 1 else 0 : Nat) = if i < n then 1 else 0 := by
        by_cases hi : i < n
        · rw [if_pos hi, if_pos (by omega)]
        · rw [if_neg hi, if_neg (by omega)]
      rw [e1]
      omega
/-- so many wait for it -/
def afterN (l : List Oper) (i : Nat) : Nat := (List.range l.length).countP fun k => laterB l l.length i k
/-- so many others do not come before it -/
def freeN (l : List Oper) (i : Nat) : Nat := (List.range l.length).countP fun k => k != i && !laterB l l.length k i

theorem wp_flowQ {Q : Exit → Act → World → Prop} {V : Nat → Value → (Nat → Value) → World → Prop} {R : Nat → World → World → Prop} {C : World → Prop} {i : Nat} {o : Oper} {a : Act} {w : World} {K : Act → World → Prop} (hi : l[i]? = some o)
    (h : wpList P l.toArray (flowQ V R C i o.dst u a w) [o] a w) (hK : ∀ v w', V i v u w' → R i w w' → C w' → K (a.put o.dst v) w') : wpOp P l.toArray Q i K a w := by
  unfold wpOp
  have hi' : l.toArray[i]? = some o := by simpa using hi
  simp only [hi']
  simp only [wpList] at h
  split
  · rename_i hw
    rw [if_pos hw] at h
    refine .inl ?_
    rcases h with h | ⟨-, a', w', h⟩
    · unfold Oper.wp at h ⊢
      generalize (execOp a.eval o).run P w = r at *
      have kk : ∀ (a1 : Act) (w1 : World), flowQ V R C i o.dst u a w .normal a1 w1 → K a1 w1 := by
        rintro a1 w1 ⟨v, rfl, h1, h2, h3⟩
        exact hK v w1 h1 h2 h3
      cases r with
      | ok n w1 =>
        cases n <;> simp only [Oper.upon] at h ⊢
        case value u' => exact kk _ _ h
        case skip => exact kk _ _ h
        case defer d => exact kk _ _ h
        case enter f args =>
          refine h.mono fun e w2 he => ?_
          cases e with
          | returned v => exact kk _ _ he
          | panicked c => exact he.elim
          | outgrown => obtain ⟨a3, w3, h3⟩ := he; exact h3.elim
        case row r args => exact h.mono fun v w2 he => kk _ _ he
      | halt x w1 =>
        cases x <;> simp only [Oper.upon] at h ⊢
        case panic v => exact h.elim
    · exact h.elim
  · rename_i hw
    rw [if_neg hw] at h
    obtain ⟨v, h0, h1, h2, h3⟩ := h
    rw [h0]
    exact hK v w h1 h2 h3

/-- **Each operation by itself serves every order.** -/
theorem flow_any {Q : Exit → Act → World → Prop} {V : Nat → Value → (Nat → Value) → World → Prop} {R : Nat → World → World → Prop} {C : Nat → World → Prop} (hB : flowB l skip D = true)
    (hst : ∀ i k, i < l.length → k < l.length → aliveB l i k = true → ∀ x u w w', R i w w' → V k x u w → V k x u w')
    (hloc : ∀ k, k < l.length → ∀ x u u' w, (∀ j ∈ usesAt l k, u j = u' j) → V k x u w → V k x u' w)
    (hop : ∀ i o, l[i]? = some o → ∀ (u : Nat → Value) (f : Nat) (w : World), C (f + 1) w → allV V u w (useOf o) → (afterN l i ≤ f ∧ f ≤ freeN l i) → wpList P l.toArray (flowQ V R (C f) i o.dst u (fillF a0 u D) w) [o] (fillF a0 u D) w)
    (hend : ∀ (u : Nat → Value) (f : Nat) (w : World), C f w → (∀ k, k < l.length → finB l k = true → V k (u k) u w) → Q .normal (fillEnd a0 u D skip (dstAt l skip)) w) :
    ∀ (f : Nat) (listed : Array Bool) (a : Act) (w : World) (u : Nat → Value), listed.size = l.length → leftN l.length listed = f → InvF l a0 V u listed a w → C f w → wpAny P .any l.toArray Q f listed a w := by
  obtain ⟨b1, b2, b3, b4⟩ := flow_parts hB
  intro f
  induction f with
  | zero =>
    intro listed a w u hz hn hI hC
    have hall : ∀ k, k < l.length → listed.getD k false = true := by
      intro k hk
      rcases hl : listed.getD k false with _ | _
      · have := left_lt hk hz hl; omega
      · rfl
    refine ⟨?_, ?_⟩
    · rcases hr : Region.ready .any l.toArray listed with _ | ⟨x, xs⟩
      · rfl
      · have hx : x ∈ Region.ready .any l.toArray listed := by rw [hr]; simp
        obtain ⟨h0, o, ho, -⟩ := mem_ready.1 hx
        have hxl : x < l.length := by
          have := (Array.getElem?_eq_some_iff.1 ho).1
          simpa using this
        have h1 := hall x hxl
        have hxs : x < listed.size := by omega
        simp [hxs] at h0 h1
        rw [h0] at h1
        cases h1
    · rw [at_end hB hI.at' hall]
      exact hend u 0 w hC fun k hk hf => hI.fin k hk (hall k hk) hf
  | succ f ih =>
    intro listed a w u hz hn hI hC
    refine ⟨fun hr => ?_, fun i hir => ?_⟩
    · have hall := ready_none hz b2 hr
      rw [at_end hB hI.at' hall]
      exact hend u _ w hC fun k hk hf => hI.fin k hk (hall k hk) hf
    · obtain ⟨h0, o, ho, hdep⟩ := mem_ready.1 hir
      have hi : l[i]? = some o := by simpa using ho
      have hil : i < l.length := (List.getElem?_eq_some_iff.1 hi).1
      have hiu : listed.getD i false = false := by
        have : i < listed.size := by omega
        simpa [this] using h0
      have hdl : ∀ j ∈ depsAt l i, listed.getD j false = true := fun j hj => by
        obtain ⟨e, he, hbd, rfl⟩ := (deps_mem hi).1 hj
        exact hdep e he hbd
      have hsk : skip < l.length → listed.getD skip false = false := fun hs => by
        by_cases e : i = skip
        · rw [← e]; exact hiu
        · rcases hl : listed.getD skip false with _ | _
          · rfl
          · have := later_listed b2 hI.cl l.length i skip hs (b4 hs i hil e) hl
            rw [hiu] at this
            cases this
      have ha := at_fill hB hI.at' hsk
      have hdo : usesAt l i = useOf o := by simp [usesAt, hi]
      have hV : allV V (initU l a0 listed u) w (useOf o) := allV_mem fun k hk => by
        have hl := hdl k (uses_deps (by rw [hdo]; exact hk))
        have hkl : k < l.length := by have := b2 i k hil (uses_deps (by rw [hdo]; exact hk)); omega
        have e : initU l a0 listed u k = u k := by rw [initU, if_pos hl]
        rw [e]
        exact hloc k hkl _ u _ w (fun j hj => by rw [initU, if_pos (hI.cl k j hkl hl (uses_deps hj))]) (hI.v k i hil hl hiu (by rw [hdo]; exact hk))
      rw [ha]
      have hone : leftN l.length (listed.setIfInBounds i true) = f := by
        have := left_eq (listed := listed) (i := i) (by omega) hiu l.length
        rw [if_pos hil] at this
        omega
      have hlast : afterN l i ≤ f ∧ f ≤ freeN l i := by
        rw [← hone]
        refine ⟨List.countP_mono_left fun k hk hp => ?_, List.countP_mono_left fun k hk hp => ?_⟩
        · have hkl := List.mem_range.1 hk
          rcases hk1 : (listed.setIfInBounds i true).getD k false with _ | _
          · rfl
          · exfalso
            by_cases e : k = i
            · subst e
              have := later_lt b2 l.length k k hil hp
              omega
            · rw [getD_set_ne false (Ne.symm e)] at hk1
              have := later_listed b2 hI.cl l.length i k hkl hp hk1
              rw [hiu] at this
              cases this
        · have hkl := List.mem_range.1 hk
          by_cases e : k = i
          · subst e
            rw [getD_set_same false (by omega)] at hp
            simp at hp
          · rw [getD_set_ne false (Ne.symm e)] at hp
            have hk1 : listed.getD k false = false := by simpa using hp
            rcases hL : laterB l l.length k i with _ | _
            · simp [e]
            · exfalso
              have : ∀ (f i : Nat), i < l.length → (∀ j ∈ depsAt l i, listed.getD j false = true) → laterB l f k i = true → listed.getD k false = true := by
                intro f i hi hd h
                cases f with
                | zero => simp [laterB] at h
                | succ f =>
                  simp only [laterB, List.any_eq_true, Bool.or_eq_true, beq_iff_eq] at h
                  obtain ⟨j, hj, h⟩ := h
                  rcases h with rfl | h
                  · exact hd _ hj
                  · exact later_listed b2 hI.cl f k j (by have := b2 i j hi hj; omega) h (hd j hj)
              have := this l.length i hil hdl hL
              rw [hk1] at this
              cases this
      refine wp_flowQ hi (hop i o hi _ f w hC hV hlast) fun v w' h1 h2 h3 => ?_
      have h1 : V i v (fun k => if k = i then v else u k) w' := hloc i hil _ _ _ w' (fun j hj => by
        have hji : j ≠ i := by have := b2 i j hil (uses_deps hj); omega
        rw [if_neg hji, initU, if_pos (hdl j (uses_deps hj))]) h1
      have hcl' : ∀ k j, k < l.length → (listed.setIfInBounds i true).getD k false = true → j ∈ depsAt l k → (listed.setIfInBounds i true).getD j false = true := by
        intro k j hk hkl hj
        by_cases hki : k = i
        · subst hki
          exact getD_set_true (hdl j hj)
        · rw [getD_set_ne false (Ne.symm hki)] at hkl
          exact getD_set_true (hI.cl k j hk hkl hj)
      rw [← ha]
      refine ih _ _ w' (fun k => if k = i then v else u k) (by simpa using hz) hone ⟨at_put hB hI.at' hi hz, fun k j hj hk hju hkj => ?_, fun k hk hkl hf => ?_, hcl'⟩ h3
      · by_cases hki : k = i
        · subst hki; simp only [if_true]; exact h1
        · (try dsimp only)
          rw [if_neg hki]
          rw [getD_set_ne false (Ne.symm hki)] at hk
          have hlj : laterB l l.length j i = false := by
            rcases hlj : laterB l l.length j i with _ | _
            · rfl
            · have := later_listed b2 hcl' l.length j i hil hlj (getD_set_same false (by omega))
              rw [hju] at this; cases this
          have hji : j ≠ i := fun e => by
            subst e
            rw [getD_set_same false (by omega)] at hju
            cases hju
          rw [getD_set_ne false (Ne.symm hji)] at hju
          have hkl : k < l.length := by have := b2 j k hj (uses_deps hkj); omega
          refine hloc k hkl _ u _ w' (fun j2 hj2 => ?_) (hst i k hil hkl ?_ _ u w w' h2 (hI.v k j hj hk hju hkj))
          · have hj3 := hI.cl k j2 hkl hk (uses_deps hj2)
            have hji2 : j2 ≠ i := fun e => by subst e; rw [hiu] at hj3; cases hj3
            rw [if_neg hji2]
          have hla : laterB l l.length i k = false := by
            rcases hla : laterB l l.length i k with _ | _
            · rfl
            · have := later_listed b2 hI.cl l.length i k hkl hla hk
              rw [hiu] at this; cases this
          simp only [aliveB, heldB, hla, Bool.or_eq_true, List.any_eq_true, List.mem_range, Bool.and_eq_true, bne_iff_ne, ne_eq, Bool.not_false, and_true]
          exact ⟨.inr ⟨j, hj, ⟨hji, by simpa using hkj⟩, by rw [hlj]; rfl⟩, hki⟩
      · by_cases hki : k = i
        · subst hki; simp only [if_true]; exact h1
        · (try dsimp only)
          rw [if_neg hki]
          rw [getD_set_ne false (Ne.symm hki)] at hkl
          refine hloc k hk _ u _ w' (fun j2 hj2 => ?_) (hst i k hil hk ?_ _ u w w' h2 (hI.fin k hk hkl hf))
          · have hj3 := hI.cl k j2 hk hkl (uses_deps hj2)
            have hji2 : j2 ≠ i := fun e => by subst e; rw [hiu] at hj3; cases hj3
            rw [if_neg hji2]
          have hla : laterB l l.length i k = false := by
            rcases hla : laterB l l.length i k with _ | _
            · rfl
            · have := later_listed b2 hI.cl l.length i k hk hla hkl
              rw [hiu] at this; cases this
          simp [aliveB, heldB, hf, hla, hki]

/-- one by one -/
def eachOp (p : Nat → Oper → Prop) : Nat → List Oper → Prop
  | _, [] => True
  | k, o :: l => p k o ∧ eachOp p (k + 1) l
theorem each_all {p : Nat → Oper → Prop} : ∀ {l : List Oper} {k : Nat}, eachOp p k l → ∀ i o, l[i]? = some o → p (k + i) o
  | [], _, _, i, o, hi => by simp at hi
  | x :: l, k, h, 0, o, hi => by
    have : x = o := by simpa using hi
    subst this
    exact h.1
  | x :: l, k, h, i + 1, o, hi => by
    have := each_all h.2 i o (by simpa using hi)
    rwa [show k + 1 + i = k + (i + 1) by omega] at this

theorem each_mono {p q : Nat → Oper → Prop} (hpq : ∀ k o, p k o → q k o) : ∀ {l : List Oper} {k : Nat}, eachOp p k l → eachOp q k l
  | [], _, _ => trivial
  | _ :: _, _, h => ⟨hpq _ _ h.1, each_mono hpq h.2⟩

theorem wp_region_flowL {id : Nat} {Q : Exit → Act → World → Prop} {w0 : World} (skip : Nat) (dk : Option Tmp) (D : List (Nat × Tmp)) (V : Nat → Value → (Nat → Value) → World → Prop) (R : Nat → World → World → Prop) (C : Nat → World → Prop) (hm : P.follows .mixedOrders = true) (hB : flowB l skip D = true) (hdk : dstAt l skip = dk)
    (hC : C l.length { w0 with drawn := w0.drawn + 1 })
    (hst : ∀ i k, i < l.length → k < l.length → aliveB l i k = true → ∀ x u w w', R i w w' → V k x u w → V k x u w')
    (hloc : ∀ k, k < l.length → ∀ x u u' w, (∀ j ∈ usesAt l k, u j = u' j) → V k x u w → V k x u' w)
    (hop : eachOp (fun i o => ∀ (u : Nat → Value) (f : Nat) (w : World), C (f + 1) w → allV V u w (useOf o) → (afterN l i ≤ f ∧ f ≤ freeN l i) → wpList P l.toArray (flowQ V R (C f) i o.dst u (fillF a0 u D) w) [o] (fillF a0 u D) w) 0 l)
    (hend : ∀ (u : Nat → Value) (f : Nat) (w : World), C f w → (∀ k, k < l.length → finB l k = true → V k (u k) u w) → Q .normal (fillEnd a0 u D skip dk) w) :
    (Code.region id l.toArray true).wp P Q a0 w0 := by
  subst hdk
  refine wp_region_any hm ?_
  have hsz : l.toArray.size = l.length := by simp
  rw [hsz]
  have hno : ∀ k, (Array.replicate l.length false).getD k false = false := fun k => by
    by_cases h : k < l.length <;> simp [h]
  refine flow_any hB hst hloc (fun i o hi => by have := each_all hop i o hi; rwa [Nat.zero_add] at this) hend _ _ _ _ (fun _ => undef) (by simp) ?_ ⟨⟨rfl, rfl, fun s _ => rfl, fun k s hk hd hl _ => ?_⟩, fun k j hj hk _ _ => ?_, fun k hk hl _ => ?_, fun k j hk hl _ => ?_⟩ hC
  · unfold leftN
    rw [List.countP_eq_length.2 (fun k _ => by rw [hno]; rfl), List.length_range]
  · rw [hno] at hl; cases hl
  · rw [hno] at hk; cases hk
  · rw [hno] at hl; cases hl
  · rw [hno] at hl; cases hl

theorem wp_region_flow {id : Nat} {Q : Exit → Act → World → Prop} {w0 : World} (skip : Nat) (dk : Option Tmp) (D : List (Nat × Tmp)) (V : Nat → Value → (Nat → Value) → World → Prop) (R : Nat → World → World → Prop) (C : Nat → World → Prop) (hm : P.follows .mixedOrders = true) (hB : flowB l skip D = true) (hdk : dstAt l skip = dk)
    (hC : C l.length { w0 with drawn := w0.drawn + 1 })
    (hst : ∀ i k, i < l.length → k < l.length → aliveB l i k = true → ∀ x u w w', R i w w' → V k x u w → V k x u w')
    (hloc : ∀ k, k < l.length → ∀ x u u' w, (∀ j ∈ usesAt l k, u j = u' j) → V k x u w → V k x u' w)
    (hop : eachOp (fun i o => ∀ (u : Nat → Value) (f : Nat) (w : World), C (f + 1) w → allV V u w (useOf o) → wpList P l.toArray (flowQ V R (C f) i o.dst u (fillF a0 u D) w) [o] (fillF a0 u D) w) 0 l)
    (hend : ∀ (u : Nat → Value) (f : Nat) (w : World), C f w → (∀ k, k < l.length → finB l k = true → V k (u k) u w) → Q .normal (fillEnd a0 u D skip dk) w) :
    (Code.region id l.toArray true).wp P Q a0 w0 :=
  wp_region_flowL skip dk D V R C hm hB hdk hC hst hloc (each_mono (fun _ _ h u f w hC hV _ => h u f w hC hV) hop) hend

end

end Go.Proofs.YtmgpekdhcghabaaGreat
