/- Contracts of the draws: a net in which some pipes have least amounts. -/
import Derived.Test.YtphbmlephldaaaaD2
import Derived.Test.YtphbmlephldaaaaD3
import Derived.Test.YtphbmlephldaaaaG1
import Derived.Test.YtphbmlephldaaaaGA
import Derived.Test.YtphbmlephldaaaaS1
import Derived.Deep.DeepCutAuto
namespace Go.Proofs.Ytphbmlephldaaaa
open Go.RowKit

/-- a row of some pipes -/
def PRow (wx : World) (B : Nat) (S : Value) (L : Nat) : Prop := ∃ qs : List Pp, qs.length = L ∧ wx.ownsRow B 33 5 S L (qs.flatMap Pp.cells) ∧ BdL qs
theorem PRow.grown {wx wy : World} {B rg L : Nat} {S : Value} (h : PRow wx B S L) (hg : wx.grownBy wy (some rg)) (hr : rg < B) : PRow wy B S L := by
  obtain ⟨qs, h1, h2, h3⟩ := h
  exact ⟨qs, h1, own_grow h2 hg (fun q hq => by injection hq with hq; omega), h3⟩
theorem PRow.keep {wx wy : World} {B L : Nat} {S : Value} (h : PRow wx B S L) (hb : Below wx.heap.size wx wy) : PRow wy B S L := by
  obtain ⟨qs, h1, h2, h3⟩ := h
  exact ⟨qs, h1, own_keep h2 (Nat.le_refl _) hb, h3⟩
theorem PRow.pipes {wx : World} {B L : Nat} {S : Value} (h : PRow wx B S L) (hL : L ≤ 8) : ∃ qs : List Pp, qs.length = L ∧ Pipes wx B S qs ∧ BdL qs := by
  obtain ⟨qs, h1, h2, h3⟩ := h
  exact ⟨qs, h1, ⟨by rw [h1]; exact h2, by unfold small; omega⟩, h3⟩
theorem PRow.form {wx : World} {B L : Nat} {S : Value} (h : PRow wx B S L) : ∃ A1 c1, S = .slice A1 L c1 ∧ L ≤ c1 ∧ c1 ≤ maxLen ∧ ∀ k, k < L → ∃ g y0 y1 y3 : Int, ∃ b : Nat, A1 = some ⟨b, 0, none⟩ ∧ B ≤ b ∧ b < wx.heap.size ∧ wx.cell? ⟨b, k * 5, none⟩ = some (.int .i64 y0) ∧ wx.cell? ⟨b, k * 5 + 1, none⟩ = some (.int .i64 y1) ∧ wx.cell? ⟨b, k * 5 + 2, none⟩ = some (.int .i64 g) ∧ wx.cell? ⟨b, k * 5 + 3, none⟩ = some (.int .i64 y3) ∧ wx.frozen? ⟨b, k * 5 + 2, none⟩ = false ∧ 0 ≤ y3 ∧ y3 ≤ 4 := by
  obtain ⟨qs, h1, h2, h3⟩ := h
  obtain ⟨A1, c1, rfl, e1, e2, -⟩ := own_form h2
  refine ⟨A1, c1, rfl, e1, e2, fun k hk => ?_⟩
  obtain ⟨A', c', e, e1', e2', hc⟩ := own_form h2
  injection e with x1 x2 x3
  subst x1
  have hql : k < qs.length := by omega
  obtain ⟨g, rfl, hb, hbl, -⟩ := hc (k * 5) _ (pp_cells qs k hql 0 (by omega))
  obtain ⟨-, ⟨c0, c1', c2, c3, -⟩, hf⟩ := own_cells5 h2 hql
  exact ⟨qs[k].le, qs[k].fr, qs[k].to, qs[k].mo, g, rfl, hb, hbl, c0, c1', c2, c3, hf _, (h3 _ (List.getElem_mem hql)).2.2.1, (h3 _ (List.getElem_mem hql)).2.2.2⟩
theorem PRow.set2 {wx : World} {B L k g c1 : Nat} (h : PRow wx B (.slice (some ⟨g, 0, none⟩) L c1) L) (hk : k < L) (y : Int) (y0 : 0 ≤ y) (y4 : y ≤ 4) : PRow (wx.setCell ⟨g, k * 5 + 2, none⟩ (.int .i64 y)) B (.slice (some ⟨g, 0, none⟩) L c1) L := by
  obtain ⟨qs, h1, h2, hbd⟩ := h
  have hql : k < qs.length := by omega
  refine ⟨qs.set k { qs[k] with le := y }, by simpa using h1, ?_, fun p hp => by
    rcases List.mem_or_eq_of_mem_set hp with hp | rfl
    · exact hbd p hp
    · exact ⟨y0, y4, (hbd _ (List.getElem_mem hql)).2.2.1, (hbd _ (List.getElem_mem hql)).2.2.2⟩⟩
  have h3 := (h2.stored (k * 5 + 2) (.int .i64 y)).1
  have e : (qs.flatMap Pp.cells).set (k * 5 + 2) (.int .i64 y) = (qs.set k { qs[k] with le := y }).flatMap Pp.cells := by
    clear h1 h2 h3 hbd
    induction qs generalizing k with
    | nil => simp at hql
    | cons q qs ih =>
      cases k with
      | zero => simp [List.flatMap_cons, Pp.cells]
      | succ k =>
        have hq : k < qs.length := by simpa using hql
        have h := ih (k := k) (by omega) hq
        have e : (k + 1) * 5 + 2 = (k * 5 + 2) + 5 := by omega
        rw [e, List.set_cons_succ, List.flatMap_cons, List.flatMap_cons]
        simp only [List.getElem_cons_succ]
        rw [← h]
        simp [Pp.cells]
  rw [e] at h3
  exact h3

/-- what l20Least's variables hold between its steps -/
structure LeastSt (w : World) (nb rg m c K : Nat) (A : Option Addr) (z : Int) (S : Value) (L : Nat) (wx : World) : Prop where
  row : PRow wx (w.heap.size + 1) S L
  net : Box2 wx nb (.int .i64 z) S
  res : Box2 wx w.heap.size (.int .i64 0) (.slice none 0 0)
  rd : Rd wx rg A m c K
  gr : w.grownBy wx (some rg)
  ne : ∀ q, S.ownBlock = some q → q ≠ nb
section
variable {w wx wy : World} {nb rg m c K : Nat} {A : Option Addr} {z : Int} {S : Value} {L : Nat}
theorem LeastSt.picked (h : LeastSt w nb rg m c K A z S L wx) (hrg : rg < w.heap.size) (hnb : w.heap.size < nb) (hg : wx.grownBy wy (some rg)) (hr : Rd wy rg A m c (K + 1)) : LeastSt w nb rg m c (K + 1) A z S L wy :=
  ⟨h.row.grown hg (by omega), h.net.grown hg (by simp; omega), h.res.grown hg (by simp; omega), hr, grow_more h.gr hg (fun q hq => .inr hq), h.ne⟩
theorem LeastSt.more (h : LeastSt w nb rg m c K A z S L wx) {K' : Nat} (hK : K ≤ K') : LeastSt w nb rg m c K' A z S L wx := ⟨h.row, h.net, h.res, h.rd.more hK, h.gr, h.ne⟩
theorem LeastSt.keep (h : LeastSt w nb rg m c K A z S L wx) (hb : Below wx.heap.size wx wy) : LeastSt w nb rg m c K A z S L wy :=
  ⟨h.row.keep hb, h.net.keep hb, h.res.keep hb, h.rd.keep hb, grow_below h.gr hb, h.ne⟩
theorem LeastSt.set2 {g k c1 : Nat} (h : LeastSt w nb rg m c K A z (.slice (some ⟨g, 0, none⟩) L c1) L wx) (hrg : rg < w.heap.size) (hk : k < L) (y : Int) (y0 : 0 ≤ y) (y4 : y ≤ 4) : LeastSt w nb rg m c K A z (.slice (some ⟨g, 0, none⟩) L c1) L (wx.setCell ⟨g, k * 5 + 2, none⟩ (.int .i64 y)) := by
  obtain ⟨qs, -, h2, -⟩ := id h.row
  have hg := (h2.lt g rfl).1
  exact ⟨h.row.set2 hk y y0 y4, h.net.far (h.ne g rfl) _, h.res.far (by simp; omega) _, h.rd.set (by simp; omega) _, grow_set h.gr (.inl (by simp; omega)) _, h.ne⟩
end

/-- what the operations yield that set a least amount -/
def lsV (nb g k L c1 : Nat) : Nat → Value → Prop
  | 0, x => x = .pointer (some ⟨nb, 1, none⟩)
  | 1, x => x = .slice (some ⟨g, 0, none⟩) L c1
  | 2, x => x = .int .i64 k
  | 3, x => x = .pointer (some ⟨nb, 1, none⟩)
  | 4, x => x = .slice (some ⟨g, 0, none⟩) L c1
  | 5, x => x = .int .i64 k
  | 6, x => x = .pointer (some ⟨g, k * 5, none⟩)
  | 7, x => x = .pointer (some ⟨g, k * 5 + 3, none⟩)
  | 8, x => ∃ y : Int, x = .int .i64 y ∧ 0 ≤ y ∧ y ≤ 4
  | 9, x => ∃ y : Int, x = .int .i64 y ∧ 0 ≤ y ∧ y ≤ 4
  | 10, x => x = .pointer (some ⟨g, k * 5, none⟩)
  | 11, x => x = .pointer (some ⟨g, k * 5 + 2, none⟩)
  | _, _ => True

/-- what the operations yield that append a pipe -/
def laV (w : World) (nb rg g k L c1 : Nat) (z : Int) : Nat → Value → World → Prop
  | 0, x, _ => x = .pointer (some ⟨nb, 1, none⟩)
  | 1, x, wx => x = .slice (some ⟨g, 0, none⟩) L c1 ∧ PRow wx (w.heap.size + 1) (.slice (some ⟨g, 0, none⟩) L c1) L
  | 2, x, _ => x = .pointer (some ⟨nb, 1, none⟩)
  | 3, x, wx => x = .slice (some ⟨g, 0, none⟩) L c1 ∧ PRow wx (w.heap.size + 1) (.slice (some ⟨g, 0, none⟩) L c1) L
  | 4, x, _ => x = .int .i64 k
  | 5, x, wx => x = .pointer (some ⟨g, k * 5, none⟩) ∧ PRow wx (w.heap.size + 1) (.slice (some ⟨g, 0, none⟩) L c1) L
  | 6, x, wx => x = .pointer (some ⟨g, k * 5 + 1, none⟩) ∧ PRow wx (w.heap.size + 1) (.slice (some ⟨g, 0, none⟩) L c1) L
  | 7, x, _ => ∃ y : Int, x = .int .i64 y
  | 8, x, _ => x = .pointer (some ⟨nb, 1, none⟩)
  | 9, x, wx => x = .slice (some ⟨g, 0, none⟩) L c1 ∧ PRow wx (w.heap.size + 1) (.slice (some ⟨g, 0, none⟩) L c1) L
  | 10, x, _ => x = .int .i64 k
  | 11, x, wx => x = .pointer (some ⟨g, k * 5, none⟩) ∧ PRow wx (w.heap.size + 1) (.slice (some ⟨g, 0, none⟩) L c1) L
  | 12, x, wx => x = .pointer (some ⟨g, k * 5, none⟩) ∧ PRow wx (w.heap.size + 1) (.slice (some ⟨g, 0, none⟩) L c1) L
  | 13, x, _ => ∃ y : Int, x = .int .i64 y
  | 14, x, _ => x = .pointer (some ⟨rg, 0, none⟩)
  | 15, x, _ => ∃ y : Int, x = .int .i64 y ∧ 0 ≤ y ∧ y < 4
  | 16, x, _ => x = .pointer (some ⟨rg, 0, none⟩)
  | 17, x, _ => ∃ y : Int, x = .int .i64 y ∧ 0 ≤ y ∧ y < 5
  | 18, x, _ => ∃ y : Int, x = .int .i64 y
  | 19, x, _ => ∃ p : Pp, x = .agg #[.int .i64 p.fr, .int .i64 p.to, .int .i64 p.le, .int .i64 p.mo, .int .i64 p.co] ∧ bdP p
  | 20, x, wx => ∃ (h : Nat) (p : Pp), x = .slice (some ⟨h, 0, none⟩) 1 1 ∧ rg < h ∧ wx.heap[h]? = some (.cells #[.int .i64 p.fr, .int .i64 p.to, .int .i64 p.le, .int .i64 p.mo, .int .i64 p.co] 33) ∧ bdP p
  | 21, x, wx => PRow wx (w.heap.size + 1) x (L + 1) ∧ ∀ q, x.ownBlock = some q → q ≠ nb
  | 22, x, _ => x = .pointer (some ⟨nb, 1, none⟩)
  | 23, _, wx => ∃ S, PRow wx (w.heap.size + 1) S (L + 1) ∧ Box2 wx nb (.int .i64 z) S ∧ ∀ q, S.ownBlock = some q → q ≠ nb
  | _, _, _ => True
def laR (rg g : Nat) : Nat → World → World → Prop
  | 21, wx, wy => wx.grownBy wy (some g)
  | 23, _, _ => True
  | _, wx, wy => wx.grownBy wy (some rg)
/-- what is known of the world while they run -/
def laC (w : World) (nb rg m c K : Nat) (A : Option Addr) (z : Int) (S : Value) (L : Nat) (f : Nat) (wx : World) : Prop :=
  f ≤ 24 ∧ Rd wx rg A m c (K + (24 - f)) ∧ w.grownBy wx (some rg) ∧ Box2 wx w.heap.size (.int .i64 0) (.slice none 0 0) ∧ nb < wx.heap.size ∧ (1 ≤ f → Box2 wx nb (.int .i64 z) S) ∧ (3 ≤ f → PRow wx (w.heap.size + 1) S L)

end Go.Proofs.Ytphbmlephldaaaa
