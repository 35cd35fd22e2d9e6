/- Parts of a term as they are drawn: a row of rows of marks, each with a pipe first. -/
import Derived.Test.YtobbeofibkpbaaaGZ10
import Derived.Test.YtobbeofibkpbaaaGZ39
import Derived.Test.YtobbeofibkpbaaaGZ8
namespace Go.Proofs.Ytobbeofibkpbaaa
open Go.ChangeShapes Go.WideShapes Go.ChangeAt Go.RowKit Go.Deep Go.Joins

theorem lit_own0 {w : World} {B g : Nat} {e size : Nat} (hb : B ≤ g) (h : w.heap[g]? = some (.cells #[] e (0, 0))) : w.ownsRow B e size (.slice (some ⟨g, 0, none⟩) 0 0) 0 [] :=
  ⟨by simp, .inr ⟨g, 0, #[], rfl, hb, h, Nat.le_refl _, by simp [maxLen], by simp, by simp⟩⟩
theorem marks_one {ts : List Mk} : ∀ u ∈ ts.flatMap Mk.cells, u.oneCell' = true := by
  intro u hu
  obtain ⟨m, -, hm⟩ := List.mem_flatMap.1 hu
  simp [Mk.cells] at hm
  rcases hm with rfl | rfl | rfl <;> rfl
theorem Marks.src {w : World} {b : Nat} {v : Value} {ts : List Mk} (h : Marks w b v ts) : SrcOk w 3 v ts.length (ts.flatMap Mk.cells) := own_src h.1 marks_one
theorem Marks.app {w : World} {b n : Nat} {v : Value} {ts us : List Mk} (h : w.ownsRow b 102 3 v n (ts.flatMap Mk.cells ++ us.flatMap Mk.cells)) (hn : n = ts.length + us.length) (hs : n ≤ small) : Marks w b v (ts ++ us) := by
  have e : (ts ++ us).length = n := by simp; omega
  exact ⟨by rw [e, List.flatMap_append]; exact h, by rw [e]; exact hs⟩
theorem marks_info2 : (Try.prog.info? 56).map (fun i => (i.zero, i.size, i.bytes)) = some (some (.slice none 0 0), 1, 24) := by kernel_rfl

/- a row whose headers lie in a block of their own type is not touched by an append to the headers -/
theorem Marks.oth {w w' : World} {b b2 n : Nat} {v u : Value} {xs : List Mk} {vs : List Value} (h : Marks w b v xs) (ho : w.ownsRow b2 56 1 u n vs) (hg : w.grownBy w' u.ownBlock) : Marks w' b v xs := by
  refine ⟨h.1.kept hg ?_, h.2⟩
  rcases h.1.2 with ⟨h0, -⟩ | ⟨g1, c1, cur1, h0, -, hh, -⟩
  · left; rw [h0]; rfl
  · right
    rcases ho.2 with ⟨h2, -⟩ | ⟨g2, c2, cur2, h2, -, hh2, -⟩
    · rw [h0, h2]; intro e; cases e
    · rw [h0, h2]
      intro e
      have e : g1 = g2 := by injection e
      subst e
      rw [hh] at hh2
      injection hh2 with e2
      injection e2 with _ e3 _
      exact absurd e3 (by decide)

/-- rows of marks, their headers in a row of its own -/
def StkM (w : World) (b : Nat) (v : Value) (n : Nat) (Ls : List (List Mk)) : Prop :=
  ∃ vs : List Value, vs.length = Ls.length ∧ Ls.length = n ∧ w.ownsRow b 56 1 v n vs ∧ ∀ k (h : k < Ls.length) (h' : k < vs.length), Marks w b vs[k] Ls[k]
theorem StkM.keep {w w' : World} {b n : Nat} {v : Value} {Ls : List (List Mk)} (h : StkM w b v n Ls) (hb : Below w.heap.size w w') : StkM w' b v n Ls := by
  obtain ⟨vs, h1, h2, h3, h4⟩ := h
  exact ⟨vs, h1, h2, own_keep h3 (Nat.le_refl _) hb, fun k hk hk' => (h4 k hk hk').keep hb⟩

/- each part begins with a pipe -/
def headP (L : List Mk) : Prop := ∃ m t, L = m :: t ∧ m.k = 0
def headsP (Ls : List (List Mk)) : Prop := ∀ L ∈ Ls, headP L
def lenS (Ls : List (List Mk)) : Nat := (Ls.map List.length).sum
theorem headP.app {L : List Mk} (h : headP L) (M : List Mk) : headP (L ++ M) := by
  obtain ⟨m, t, rfl, hm⟩ := h
  exact ⟨m, t ++ M, rfl, hm⟩
theorem lenS_append (As Bs : List (List Mk)) : lenS (As ++ Bs) = lenS As + lenS Bs := by simp [lenS]
theorem headsP.append {As Bs : List (List Mk)} (h : headsP As) (h' : headsP Bs) : headsP (As ++ Bs) := fun L hL => (List.mem_append.1 hL).elim (h L) (h' L)

/- what a join makes of the parts -/
def joinM (Ls : List (List Mk)) (k : Nat) (kd : Int) : List (List Mk) :=
  Ls.take k ++ [Ls.getD k [] ++ Ls.getD (k + 1) [] ++ [⟨kd, 0, 0⟩]] ++ Ls.drop (k + 2)
theorem join_parts {Ls : List (List Mk)} {k : Nat} (hk : k + 1 < Ls.length) : Ls = Ls.take k ++ (Ls.getD k [] :: Ls.getD (k + 1) [] :: Ls.drop (k + 2)) := by
  have h1 : Ls.drop k = Ls.getD k [] :: Ls.drop (k + 1) := by
    rw [List.drop_eq_getElem_cons (by omega : k < Ls.length)]
    simp [List.getD_eq_getElem?_getD, List.getElem?_eq_getElem (by omega : k < Ls.length)]
  have h2 : Ls.drop (k + 1) = Ls.getD (k + 1) [] :: Ls.drop (k + 2) := by
    rw [List.drop_eq_getElem_cons hk]
    simp [List.getD_eq_getElem?_getD, List.getElem?_eq_getElem hk]
  rw [← h2, ← h1, List.take_append_drop]
theorem join_lenS {Ls : List (List Mk)} {k : Nat} {kd : Int} (hk : k + 1 < Ls.length) : lenS (joinM Ls k kd) = lenS Ls + 1 := by
  have h := congrArg lenS (join_parts hk)
  rw [lenS_append] at h
  rw [h, joinM, lenS_append, lenS_append]
  simp [lenS]
  omega
theorem join_heads {Ls : List (List Mk)} {k : Nat} {kd : Int} (hk : k + 1 < Ls.length) (h : headsP Ls) : headsP (joinM Ls k kd) := by
  have hp := join_parts hk
  rw [hp] at h
  intro L hL
  simp only [joinM, List.mem_append, List.mem_singleton] at hL
  rcases hL with (hL | rfl) | hL
  · exact h L (by simp [hL])
  · rw [List.append_assoc]
    exact (h (Ls.getD k []) (by simp)).app _
  · exact h L (by simp [hL])
theorem len_le {Ls : List (List Mk)} {L : List Mk} (h : L ∈ Ls) : L.length ≤ lenS Ls := by
  induction Ls with
  | nil => cases h
  | cons M Ls ih =>
    rcases List.mem_cons.1 h with rfl | h
    · simp [lenS]
    · have := ih h; simp [lenS] at *; omega

theorem StkM.snoc {w w7 : World} {b n : Nat} {v u row : Value} {Ls : List (List Mk)} {L : List Mk} (vs : List Value) (h1 : vs.length = Ls.length) (h2 : Ls.length = n) (h3 : w.ownsRow b 56 1 v n vs)
    (h4 : ∀ k (h : k < Ls.length) (h' : k < vs.length), Marks w b vs[k] Ls[k]) (hr : Marks w b row L) (hg : w.grownBy w7 v.ownBlock) (ho : w7.ownsRow b 56 1 u (n + 1) (vs ++ [row])) : StkM w7 b u (n + 1) (Ls ++ [L]) := by
  refine ⟨_, by simp [h1], by simp [h2], ho, fun k hk hk' => ?_⟩
  by_cases hlt : k < Ls.length
  · have e1 : (vs ++ [row])[k] = vs[k]'(by omega) := List.getElem_append_left (by omega)
    have e2 : (Ls ++ [L])[k] = Ls[k] := List.getElem_append_left hlt
    rw [e1, e2]
    exact (h4 k hlt (by omega)).oth h3 hg
  · have hkl : k = Ls.length := by simp at hk; omega
    subst hkl
    have e1 : (vs ++ [row])[Ls.length] = row := by simp [← h1]
    have e2 : (Ls ++ [L])[Ls.length] = L := by simp
    rw [e1, e2]
    exact hr.oth h3 hg
/-- an append of many headers -/
theorem StkM.more {w w7 : World} {b n m : Nat} {v u : Value} {Ls Ms : List (List Mk)} (vs us : List Value) (h1 : vs.length = Ls.length) (h2 : Ls.length = n) (h3 : w.ownsRow b 56 1 v n vs)
    (h4 : ∀ k (h : k < Ls.length) (h' : k < vs.length), Marks w b vs[k] Ls[k]) (g1 : us.length = Ms.length) (g2 : Ms.length = m) (g4 : ∀ k (h : k < Ms.length) (h' : k < us.length), Marks w b us[k] Ms[k])
    (hg : w.grownBy w7 v.ownBlock) (ho : w7.ownsRow b 56 1 u (n + m) (vs ++ us)) : StkM w7 b u (n + m) (Ls ++ Ms) := by
  refine ⟨_, by simp [h1, g1], by simp [h2, g2], ho, fun k hk hk' => ?_⟩
  by_cases hlt : k < Ls.length
  · have e1 : (vs ++ us)[k] = vs[k]'(by omega) := List.getElem_append_left (by omega)
    have e2 : (Ls ++ Ms)[k] = Ls[k] := List.getElem_append_left hlt
    rw [e1, e2]
    exact (h4 k hlt (by omega)).oth h3 hg
  · have hk2 : k - Ls.length < Ms.length := by simp at hk; omega
    have e1 : (vs ++ us)[k] = us[k - Ls.length]'(by omega) := by
      rw [List.getElem_append_right (by omega)]
      simp [h1]
    have e2 : (Ls ++ Ms)[k] = Ms[k - Ls.length] := List.getElem_append_right (by omega)
    rw [e1, e2]
    exact (g4 _ hk2 (by omega)).oth h3 hg
/-- the first cell of a part is its first mark's kind -/
theorem head_cell {w : World} {b : Nat} {v : Value} {L : List Mk} (h : Marks w b v L) (hp : headP L) : ∀ q, v.ownBlock = some q → w.cell? ⟨q, 0, none⟩ = some (.int .i64 0) := by
  intro q hq
  obtain ⟨m, t, rfl, hm⟩ := hp
  obtain ⟨A, c, rfl, -, -, -, hc⟩ := h.form
  obtain ⟨g, hA, -, -, c0, -, -⟩ := hc w (Below.refl _ _) 0 (by simp)
  subst hA
  have e : g = q := by injection hq
  subst e
  simpa [hm] using c0

theorem Marks.grownR {w w' : World} {b rg : Nat} {v : Value} {ts : List Mk} (h : Marks w b v ts) (hg : w.grownBy w' (some rg)) (hr : rg < b) : Marks w' b v ts := by
  refine ⟨h.1.kept hg ?_, h.2⟩
  rcases h.1.2 with ⟨h0, -⟩ | ⟨g1, c1, cur1, h0, hb, hh, -⟩
  · left; rw [h0]; rfl
  · right
    rw [h0]
    intro e
    have e : g1 = rg := by injection e
    omega
theorem StkM.grownR {w w' : World} {b rg n : Nat} {v : Value} {Ls : List (List Mk)} (h : StkM w b v n Ls) (hg : w.grownBy w' (some rg)) (hr : rg < b) : StkM w' b v n Ls := by
  obtain ⟨vs, h1, h2, h3, h4⟩ := h
  refine ⟨vs, h1, h2, h3.kept hg ?_, fun k hk hk' => (h4 k hk hk').grownR hg hr⟩
  rcases h3.2 with ⟨h0, -⟩ | ⟨g1, c1, cur1, h0, hb, hh, -⟩
  · left; rw [h0]; rfl
  · right
    rw [h0]
    intro e
    have e : g1 = rg := by injection e
    omega
theorem StkM.form {w : World} {b n : Nat} {v : Value} {Ls : List (List Mk)} (h : StkM w b v n Ls) (hn : 0 < n) :
    ∃ g c, v = .slice (some ⟨g, 0, none⟩) n c ∧ n ≤ c ∧ c ≤ 2 ^ 63 - 1 ∧ b ≤ g ∧ g < w.heap.size ∧ ∀ k (hk : k < Ls.length), ∃ s, Marks w b s Ls[k] ∧ w.frozen? ⟨g, k, none⟩ = false ∧ ∀ wr, Below w.heap.size w wr → wr.cell? ⟨g, k, none⟩ = some s := by
  obtain ⟨vs, h1, h2, h3, h4⟩ := h
  obtain ⟨A, c, rfl, c1, c2, -⟩ := own_form h3
  obtain ⟨g, rfl, hg, hg2, -, -, hc⟩ := own_at h3 (by omega)
  refine ⟨g, c, rfl, c1, by unfold maxLen at c2; omega, hg, hg2, fun k hk => ⟨vs[k]'(by omega), h4 k hk (by omega), (hc k _ (List.getElem?_eq_getElem (by omega))).2, fun wr hb => (hb.cell (p := ⟨g, k, none⟩) hg2).trans (hc k _ (List.getElem?_eq_getElem (by omega))).1⟩⟩

theorem heads_one {w : World} {b : Nat} {vs : List Value} {Ls : List (List Mk)} (h1 : vs.length = Ls.length) (h4 : ∀ k (h : k < Ls.length) (h' : k < vs.length), Marks w b vs[k] Ls[k]) : ∀ u ∈ vs, u.oneCell' = true := by
  intro u hu
  obtain ⟨k, hk, rfl⟩ := List.getElem_of_mem hu
  obtain ⟨A, c, hv, -⟩ := (h4 k (by omega) hk).form
  rw [hv]; rfl
theorem part_src {w w' : World} {b g n c k : Nat} {e : TypeId} {vs : List Value} (h : w.ownsRow b e 1 (.slice (some ⟨g, 0, none⟩) n c) n vs) (hb : Below w.heap.size w w') (hn : 0 < n) (hk : k ≤ n) (h1 : ∀ u ∈ vs, u.oneCell' = true) (c' : Nat) :
    SrcOk w' 1 (.slice (some ⟨g, k, none⟩) (n - k) c') (n - k) (vs.drop k) := by
  have hl := h.1
  obtain ⟨g', hA, -, hg2, -, -, hc⟩ := own_at h (by omega)
  injection hA with hA
  injection hA with hA
  subst hA
  refine .inr ⟨⟨g, k, none⟩, c', rfl, by simp; omega, fun j u hj => ?_, fun u hu => h1 u (List.mem_of_mem_drop hu)⟩
  rw [add_nat]
  refine (hb.cell (p := ⟨g, k + j, none⟩) hg2).trans (hc (k + j) u ?_).1
  rw [List.getElem?_drop] at hj
  exact hj

end Go.Proofs.Ytobbeofibkpbaaa
