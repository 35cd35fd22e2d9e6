/- Plain facts. -/
import Derived.Test.YtangnecgnclobaaGE9
import Derived.Test.YtangnecgnclobaaV4
import Derived.Deep.AppendLies
import Derived.Test.YtangnecgnclobaaGE19
import Derived.Test.YtangnecgnclobaaGE14
import Derived.Test.YtangnecgnclobaaGE1
import Derived.Test.YtangnecgnclobaaS1
import Derived.Deep.DeepCutAuto
/- Appending a row, whatever it is, nothing too. -/
namespace Go.Proofs.Ytangnecgnclobaa
open Go.RowKit

/-- a row that is appended: its cells -/
def SrcOk (w : World) (size : Nat) (x : Value) (m : Nat) (news : List Value) : Prop :=
  (x = .slice none 0 0 ∧ m = 0 ∧ news = []) ∨ ∃ ad c, x = .slice (some ad) m c ∧ news.length = m * size ∧ (∀ j u, news[j]? = some u → w.cell? (ad.add j) = some u) ∧ ∀ u ∈ news, u.oneCell' = true

theorem run_append_src {P : Program} {w : World} (base : Nat) (t ty e : TypeId) (i : TypeInfo) (z : Value) (size bytes : Nat) (ht : P.underlying t = some (.slice e)) (hi : P.info? e = some i) (hz : i.zero = some z)
    (hsize : i.size = size) (hby : i.bytes = bytes) (hzs : z.cells.size = size) (hsz : 0 < size) (v x : Value) (n m : Nat) (xs news : List Value) (hown : w.ownsRow base e size v n xs) (hsrc : SrcOk w size x m news)
    (h63 : n + m ≤ maxLen) (hbytes : (n + m) * bytes ≤ 140737488355328) (hbase : base ≤ w.heap.size) :
    ∃ v' w', (Builtin.append_ #[t, t] ty #[v, x]).run P w = .ok v' w' ∧ w'.ownsRow base e size v' (n + m) (xs ++ news) ∧ w.grownBy w' v.ownBlock ∧ (v'.ownBlock = v.ownBlock ∨ v'.ownBlock = some w.heap.size) := by
  rcases hsrc with ⟨rfl, rfl, rfl⟩ | ⟨ad, c, rfl, hl, hn, h1⟩
  · exact ⟨v, w, run_append_owned_none w base t ty e i size ht hi v n xs hown, by simpa using hown, World.grownBy.refl w _, .inl rfl⟩
  · obtain ⟨v', w', hr, h2, h3, -, h5⟩ := run_append_own_at (P := P) w base t ty e i z size bytes ht hi hz hsize hby hzs hsz v n xs hown ad m c news hl hn h1 h63 hbytes hbase
    exact ⟨v', w', hr, h2, h3, h5⟩

theorem wp_append_src {P : Program} {w : World} {o : Oper} {a : Act} {K : Act → World → Prop} {Q : Exit → Act → World → Prop} (s x : Operand) (t : TypeId)
    (ho : o.op = .call { callee := .builtin .append, args := #[s, x], argTypes := #[t, t] })
    (base : Nat) (e : TypeId) (i : TypeInfo) (z : Value) (size bytes : Nat) (ht : P.underlying t = some (.slice e)) (hi : P.info? e = some i) (hz : i.zero = some z)
    (hsize : i.size = size) (hby : i.bytes = bytes) (hzs : z.cells.size = size) (hsz : 0 < size) (v u : Value) (n m : Nat) (xs news : List Value) (hs : a.eval s = v) (hx : a.eval x = u) (hown : w.ownsRow base e size v n xs) (hsrc : SrcOk w size u m news)
    (h63 : n + m ≤ maxLen) (hbytes : (n + m) * bytes ≤ 140737488355328) (hbase : base ≤ w.heap.size)
    (h : ∀ v' w', w'.ownsRow base e size v' (n + m) (xs ++ news) → w.grownBy w' v.ownBlock → (v'.ownBlock = v.ownBlock ∨ v'.ownBlock = some w.heap.size) → K (a.put o.dst v') w') : o.wp P a w K Q := by
  obtain ⟨v', w', hr, h2, h3, h4⟩ := run_append_src (P := P) base t o.type e i z size bytes ht hi hz hsize hby hzs hsz v u n m xs news hown hsrc h63 hbytes hbase
  unfold Oper.wp execOp
  simp only [ho, resolve, invoke, builtin, Sem.run_bind, Sem.run_pure, Result.andThen_ok, List.map_toArray, List.map_cons, List.map_nil, hs, hx, hr]
  exact h v' w' h2 h3 h4

theorem wpList_append_src {P : Program} {w : World} {ops : Array Oper} {rest : List Oper} {o : Oper} {a : Act} {Q : Exit → Act → World → Prop} (hgd : o.guard = none) (s x : Operand) (t : TypeId)
    (ho : o.op = .call { callee := .builtin .append, args := #[s, x], argTypes := #[t, t] })
    (base : Nat) (e : TypeId) (i : TypeInfo) (z : Value) (size bytes : Nat) (ht : P.underlying t = some (.slice e)) (hi : P.info? e = some i) (hz : i.zero = some z)
    (hsize : i.size = size) (hby : i.bytes = bytes) (hzs : z.cells.size = size) (hsz : 0 < size) (v u : Value) (n m : Nat) (xs news : List Value) (hs : a.eval s = v) (hx : a.eval x = u) (hown : w.ownsRow base e size v n xs) (hsrc : SrcOk w size u m news)
    (h63 : n + m ≤ maxLen) (hbytes : (n + m) * bytes ≤ 140737488355328) (hbase : base ≤ w.heap.size)
    (h : ∀ v' w', w'.ownsRow base e size v' (n + m) (xs ++ news) → w.grownBy w' v.ownBlock → (v'.ownBlock = v.ownBlock ∨ v'.ownBlock = some w.heap.size) → wpList P ops Q rest (a.put o.dst v') w') : wpList P ops Q (o :: rest) a w :=
  wpList_plain hgd fun _ hK => wp_append_src s x t ho base e i z size bytes ht hi hz hsize hby hzs hsz v u n m xs news hs hx hown hsrc h63 hbytes hbase fun v' w' h2 h3 h4 => hK _ _ (h v' w' h2 h3 h4)

theorem add_nat (g o j : Nat) : (⟨g, o, none⟩ : Addr).add j = ⟨g, o + j, none⟩ := by
  unfold Addr.add
  split
  · next h => subst h; rfl
  · rfl
theorem own_src {w : World} {b e size n : Nat} {v : Value} {xs : List Value} (h : w.ownsRow b e size v n xs) (h1 : ∀ u ∈ xs, u.oneCell' = true) : SrcOk w size v n xs := by
  rcases h.2 with ⟨rfl, rfl⟩ | ⟨g, cap, cur, rfl, hb, hh, r1, r2, r3, r4⟩
  · exact .inl ⟨rfl, rfl, List.eq_nil_of_length_eq_zero (by simpa using h.1)⟩
  · refine .inr ⟨⟨g, 0, none⟩, cap, rfl, h.1, fun j u hj => ?_, h1⟩
    obtain ⟨A1, c1, hv, -, -, hc⟩ := own_form h
    obtain ⟨g', e1, -, -, c0, -⟩ := hc j u hj
    injection hv with e2
    rw [← e2] at e1
    injection e1 with e1
    injection e1 with e1
    subst e1
    rw [add_nat, Nat.zero_add]
    exact c0
theorem Ints.src {w : World} {b : Nat} {v : Value} {xs : List Int} (h : Ints w b v xs) : SrcOk w 1 v xs.length (xs.map (Value.int .i64)) :=
  own_src h.1 fun u hu => by obtain ⟨y, -, rfl⟩ := List.mem_map.1 hu; rfl
theorem Pipes.src {w : World} {b : Nat} {v : Value} {ps : List Pp} (h : Pipes w b v ps) : SrcOk w 5 v ps.length (ps.flatMap Pp.cells) :=
  own_src h.1 fun u hu => by
    obtain ⟨p, -, hp⟩ := List.mem_flatMap.1 hu
    simp only [Pp.cells, List.mem_cons, List.not_mem_nil, or_false] at hp
    rcases hp with rfl | rfl | rfl | rfl | rfl <;> rfl
theorem lit_src {w : World} {g size m c : Nat} {cs : Array Value} {t : TypeId} {fr : Nat × Nat} (hg : w.heap[g]? = some (.cells cs t fr)) (hs : cs.size = m * size) (h1 : ∀ u ∈ cs.toList, u.oneCell' = true) : SrcOk w size (.slice (some ⟨g, 0, none⟩) m c) m cs.toList :=
  .inr ⟨⟨g, 0, none⟩, c, rfl, by simpa using hs, World.news_of_block hg, h1⟩

theorem heap_lt {w : World} {g : Nat} {o : Obj} (h : w.heap[g]? = some o) : g < w.heap.size := by
  rcases Nat.lt_or_ge g w.heap.size with h1 | h1
  · exact h1
  · rw [Array.getElem?_eq_none h1] at h; cases h
theorem heap_keep {w w' : World} {g : Nat} {o : Obj} (h : w.heap[g]? = some o) (hb : Below w.heap.size w w') : w'.heap[g]? = some o := (hb.block g (heap_lt h)).trans h
theorem heap_grown {w w' : World} {g : Nat} {o : Obj} {row : Option Nat} (h : w.heap[g]? = some o) (hg : w.grownBy w' row) (hne : some g ≠ row) : w'.heap[g]? = some o := (hg.block g (heap_lt h) hne).trans h
theorem heap_cell {w : World} {g j : Nat} {cs : Array Value} {t : TypeId} {fr : Nat × Nat} {v : Value} (h : w.heap[g]? = some (.cells cs t fr)) (hv : cs[j]? = some v) : w.cell? ⟨g, j, none⟩ = some v := by
  rw [cell_of_row w g j cs t fr h, hv]
theorem heap_set {w : World} {g j : Nat} {cs : Array Value} {t : TypeId} {fr : Nat × Nat} (v : Value) (h : w.heap[g]? = some (.cells cs t fr)) : (w.setCell ⟨g, j, none⟩ v).heap[g]? = some (.cells (cs.setIfInBounds j v) t fr) := by
  simp [World.setCell, Array.getElem?_modify, h]
theorem grown_set (w : World) (g j : Nat) (v : Value) : w.grownBy (w.setCell ⟨g, j, none⟩ v) (some g) :=
  ⟨rfl, rfl, rfl, by simp, fun k _ hk => Below.heap_setCell _ _ _ k (fun e => hk (by rw [e]))⟩
theorem pipes_snoc {w : World} {b : Nat} {v : Value} {ps : List Pp} {q : Pp} (h : w.ownsRow b 37 5 v (ps.length + 1) (ps.flatMap Pp.cells ++ q.cells)) (hs : ps.length + 1 ≤ small) : Pipes w b v (ps ++ [q]) := by
  have e : (ps ++ [q]).length = ps.length + 1 := by simp
  refine ⟨?_, by rw [e]; exact hs⟩
  rw [e, List.flatMap_append]
  simpa using h
theorem ints_snoc {w : World} {b : Nat} {v : Value} {xs : List Int} {x : Int} (h : w.ownsRow b 3 1 v (xs.length + 1) (xs.map (Value.int .i64) ++ [.int .i64 x])) (hs : xs.length + 1 ≤ small) : Ints w b v (xs ++ [x]) := by
  have e : (xs ++ [x]).length = xs.length + 1 := by simp
  refine ⟨?_, by rw [e]; exact hs⟩
  rw [e, List.map_append]
  simpa using h
theorem heap_frozen {w : World} {g j : Nat} {cs : Array Value} {t : TypeId} (h : w.heap[g]? = some (.cells cs t (0, 0))) : w.frozen? ⟨g, j, none⟩ = false := by simp [World.frozen?, h]
theorem own_ne {w : World} {b e size n g : Nat} {v : Value} {xs : List Value} {cur : Array Value} {t : TypeId} {fr : Nat × Nat} (ho : w.ownsRow b e size v n xs) (hh : w.heap[g]? = some (.cells cur t fr)) (hne : t ≠ e) : ∀ q, v.ownBlock = some q → g ≠ q := by
  intro q hq e1
  subst e1
  rcases ho.2 with ⟨h0, -⟩ | ⟨g1, c1, cur1, h0, -, hh1, -⟩
  · rw [h0] at hq; cases hq
  · rw [h0] at hq
    have hq : g1 = g := by injection hq
    subst hq
    rw [hh] at hh1
    injection hh1 with e2
    injection e2 with _ e3 _
    exact hne e3
/-- a row stays where a block of another type turns -/
theorem own_type {w w' : World} {b e size n g : Nat} {v : Value} {xs : List Value} {cur : Array Value} {t : TypeId} {fr : Nat × Nat} (ho : w.ownsRow b e size v n xs) (hg : w.grownBy w' (some g)) (hh : w.heap[g]? = some (.cells cur t fr)) (hne : t ≠ e) : w'.ownsRow b e size v n xs := by
  refine ho.kept hg ?_
  rcases ho.2 with ⟨h0, -⟩ | ⟨g1, c1, cur1, h0, -, hh1, -⟩
  · left; rw [h0]; rfl
  · right
    rw [h0]
    intro e1
    have e1 : g1 = g := by injection e1
    subst e1
    rw [hh] at hh1
    injection hh1 with e2
    injection e2 with _ e3 _
    exact hne e3

end Go.Proofs.Ytangnecgnclobaa

/- Contracts of the draws: a net in which some pipes have least amounts. -/
namespace Go.Proofs.Ytangnecgnclobaa
open Go.RowKit

/-- a row of some pipes -/
def PRow (wx : World) (B : Nat) (S : Value) (L : Nat) : Prop := ∃ qs : List Pp, qs.length = L ∧ wx.ownsRow B 37 5 S L (qs.flatMap Pp.cells) ∧ BdL qs
theorem PRow.grown {wx wy : World} {B rg L : Nat} {S : Value} (h : PRow wx B S L) (hg : wx.grownBy wy (some rg)) (hr : rg < B) : PRow wy B S L := by
  obtain ⟨qs, h1, h2, h3⟩ := h
  exact ⟨qs, h1, own_grow h2 hg (fun q hq => by injection hq with hq; omega), h3⟩
theorem PRow.keep {wx wy : World} {B L : Nat} {S : Value} (h : PRow wx B S L) (hb : Below wx.heap.size wx wy) : PRow wy B S L := by
  obtain ⟨qs, h1, h2, h3⟩ := h
  exact ⟨qs, h1, own_keep h2 (Nat.le_refl _) hb, h3⟩
theorem PRow.pipes {wx : World} {B L : Nat} {S : Value} (h : PRow wx B S L) (hL : L ≤ 8) : ∃ qs : List Pp, qs.length = L ∧ Pipes wx B S qs ∧ BdL qs := by
  obtain ⟨qs, h1, h2, h3⟩ := h
  exact ⟨qs, h1, ⟨by rw [h1]; exact h2, by unfold small; omega⟩, h3⟩
theorem PRow.form {wx : World} {B L : Nat} {S : Value} (h : PRow wx B S L) : ∃ A1 c1, S = .slice A1 L c1 ∧ L ≤ c1 ∧ c1 ≤ maxLen ∧ ∀ k, k < L → ∃ g y0 y1 y3 : Int, ∃ b : Nat, A1 = some ⟨b, 0, none⟩ ∧ B ≤ b ∧ b < wx.heap.size ∧ wx.cell? ⟨b, k * 5, none⟩ = some (.int .i64 y0) ∧ wx.cell? ⟨b, k * 5 + 1, none⟩ = some (.int .i64 y1) ∧ wx.cell? ⟨b, k * 5 + 2, none⟩ = some (.int .i64 g) ∧ wx.cell? ⟨b, k * 5 + 3, none⟩ = some (.int .i64 y3) ∧ wx.frozen? ⟨b, k * 5 + 2, none⟩ = false ∧ 0 ≤ y3 ∧ y3 ≤ 4 := by
  obtain ⟨qs, h1, h2, h3⟩ := h
  obtain ⟨A1, c1, rfl, e1, e2, -⟩ := own_form h2
  refine ⟨A1, c1, rfl, e1, e2, fun k hk => ?_⟩
  obtain ⟨A', c', e, e1', e2', hc⟩ := own_form h2
  injection e with x1 x2 x3
  subst x1
  have hql : k < qs.length := by omega
  obtain ⟨g, rfl, hb, hbl, -⟩ := hc (k * 5) _ (pp_cells qs k hql 0 (by omega))
  obtain ⟨-, ⟨c0, c1', c2, c3, -⟩, hf⟩ := own_cells5 h2 hql
  exact ⟨qs[k].le, qs[k].fr, qs[k].to, qs[k].mo, g, rfl, hb, hbl, c0, c1', c2, c3, hf _, (h3 _ (List.getElem_mem hql)).2.2.1, (h3 _ (List.getElem_mem hql)).2.2.2⟩
theorem PRow.set2 {wx : World} {B L k g c1 : Nat} (h : PRow wx B (.slice (some ⟨g, 0, none⟩) L c1) L) (hk : k < L) (y : Int) (y0 : 0 ≤ y) (y4 : y ≤ 4) : PRow (wx.setCell ⟨g, k * 5 + 2, none⟩ (.int .i64 y)) B (.slice (some ⟨g, 0, none⟩) L c1) L := by
  obtain ⟨qs, h1, h2, hbd⟩ := h
  have hql : k < qs.length := by omega
  refine ⟨qs.set k { qs[k] with le := y }, by simpa using h1, ?_, fun p hp => by
    rcases List.mem_or_eq_of_mem_set hp with hp | rfl
    · exact hbd p hp
    · exact ⟨y0, y4, (hbd _ (List.getElem_mem hql)).2.2.1, (hbd _ (List.getElem_mem hql)).2.2.2⟩⟩
  have h3 := (h2.stored (k * 5 + 2) (.int .i64 y)).1
  have e : (qs.flatMap Pp.cells).set (k * 5 + 2) (.int .i64 y) = (qs.set k { qs[k] with le := y }).flatMap Pp.cells := by
    clear h1 h2 h3 hbd
    induction qs generalizing k with
    | nil => simp at hql
    | cons q qs ih =>
      cases k with
      | zero => simp [List.flatMap_cons, Pp.cells]
      | succ k =>
        have hq : k < qs.length := by simpa using hql
        have h := ih (k := k) (by omega) hq
        have e : (k + 1) * 5 + 2 = (k * 5 + 2) + 5 := by omega
        rw [e, List.set_cons_succ, List.flatMap_cons, List.flatMap_cons]
        simp only [List.getElem_cons_succ]
        rw [← h]
        simp [Pp.cells]
  rw [e] at h3
  exact h3

/-- what l20Least's variables hold between its steps -/
structure LeastSt (w : World) (nb rg m c K : Nat) (A : Option Addr) (z : Int) (S : Value) (L : Nat) (wx : World) : Prop where
  row : PRow wx (w.heap.size + 1) S L
  net : Box2 wx nb (.int .i64 z) S
  res : Box2 wx w.heap.size (.int .i64 0) (.slice none 0 0)
  rd : Rd wx rg A m c K
  gr : w.grownBy wx (some rg)
  ne : ∀ q, S.ownBlock = some q → q ≠ nb
section
variable {w wx wy : World} {nb rg m c K : Nat} {A : Option Addr} {z : Int} {S : Value} {L : Nat}
theorem LeastSt.picked (h : LeastSt w nb rg m c K A z S L wx) (hrg : rg < w.heap.size) (hnb : w.heap.size < nb) (hg : wx.grownBy wy (some rg)) (hr : Rd wy rg A m c (K + 1)) : LeastSt w nb rg m c (K + 1) A z S L wy :=
  ⟨h.row.grown hg (by omega), h.net.grown hg (by simp; omega), h.res.grown hg (by simp; omega), hr, grow_more h.gr hg (fun q hq => .inr hq), h.ne⟩
theorem LeastSt.more (h : LeastSt w nb rg m c K A z S L wx) {K' : Nat} (hK : K ≤ K') : LeastSt w nb rg m c K' A z S L wx := ⟨h.row, h.net, h.res, h.rd.more hK, h.gr, h.ne⟩
theorem LeastSt.keep (h : LeastSt w nb rg m c K A z S L wx) (hb : Below wx.heap.size wx wy) : LeastSt w nb rg m c K A z S L wy :=
  ⟨h.row.keep hb, h.net.keep hb, h.res.keep hb, h.rd.keep hb, grow_below h.gr hb, h.ne⟩
theorem LeastSt.set2 {g k c1 : Nat} (h : LeastSt w nb rg m c K A z (.slice (some ⟨g, 0, none⟩) L c1) L wx) (hrg : rg < w.heap.size) (hk : k < L) (y : Int) (y0 : 0 ≤ y) (y4 : y ≤ 4) : LeastSt w nb rg m c K A z (.slice (some ⟨g, 0, none⟩) L c1) L (wx.setCell ⟨g, k * 5 + 2, none⟩ (.int .i64 y)) := by
  obtain ⟨qs, -, h2, -⟩ := id h.row
  have hg := (h2.lt g rfl).1
  exact ⟨h.row.set2 hk y y0 y4, h.net.far (h.ne g rfl) _, h.res.far (by simp; omega) _, h.rd.set (by simp; omega) _, grow_set h.gr (.inl (by simp; omega)) _, h.ne⟩
end

/-- what the operations yield that set a least amount -/
def lsV (nb g k L c1 : Nat) : Nat → Value → Prop
  | 0, x => x = .pointer (some ⟨nb, 1, none⟩)
  | 1, x => x = .slice (some ⟨g, 0, none⟩) L c1
  | 2, x => x = .int .i64 k
  | 3, x => x = .pointer (some ⟨nb, 1, none⟩)
  | 4, x => x = .slice (some ⟨g, 0, none⟩) L c1
  | 5, x => x = .int .i64 k
  | 6, x => x = .pointer (some ⟨g, k * 5, none⟩)
  | 7, x => x = .pointer (some ⟨g, k * 5 + 3, none⟩)
  | 8, x => ∃ y : Int, x = .int .i64 y ∧ 0 ≤ y ∧ y ≤ 4
  | 9, x => ∃ y : Int, x = .int .i64 y ∧ 0 ≤ y ∧ y ≤ 4
  | 10, x => x = .pointer (some ⟨g, k * 5, none⟩)
  | 11, x => x = .pointer (some ⟨g, k * 5 + 2, none⟩)
  | _, _ => True

/-- what the operations yield that append a pipe -/
def laV (w : World) (nb rg g k L c1 : Nat) (z : Int) : Nat → Value → World → Prop
  | 0, x, _ => x = .pointer (some ⟨nb, 1, none⟩)
  | 1, x, wx => x = .slice (some ⟨g, 0, none⟩) L c1 ∧ PRow wx (w.heap.size + 1) (.slice (some ⟨g, 0, none⟩) L c1) L
  | 2, x, _ => x = .pointer (some ⟨nb, 1, none⟩)
  | 3, x, wx => x = .slice (some ⟨g, 0, none⟩) L c1 ∧ PRow wx (w.heap.size + 1) (.slice (some ⟨g, 0, none⟩) L c1) L
  | 4, x, _ => x = .int .i64 k
  | 5, x, wx => x = .pointer (some ⟨g, k * 5, none⟩) ∧ PRow wx (w.heap.size + 1) (.slice (some ⟨g, 0, none⟩) L c1) L
  | 6, x, wx => x = .pointer (some ⟨g, k * 5 + 1, none⟩) ∧ PRow wx (w.heap.size + 1) (.slice (some ⟨g, 0, none⟩) L c1) L
  | 7, x, _ => ∃ y : Int, x = .int .i64 y
  | 8, x, _ => x = .pointer (some ⟨nb, 1, none⟩)
  | 9, x, wx => x = .slice (some ⟨g, 0, none⟩) L c1 ∧ PRow wx (w.heap.size + 1) (.slice (some ⟨g, 0, none⟩) L c1) L
  | 10, x, _ => x = .int .i64 k
  | 11, x, wx => x = .pointer (some ⟨g, k * 5, none⟩) ∧ PRow wx (w.heap.size + 1) (.slice (some ⟨g, 0, none⟩) L c1) L
  | 12, x, wx => x = .pointer (some ⟨g, k * 5, none⟩) ∧ PRow wx (w.heap.size + 1) (.slice (some ⟨g, 0, none⟩) L c1) L
  | 13, x, _ => ∃ y : Int, x = .int .i64 y
  | 14, x, _ => x = .pointer (some ⟨rg, 0, none⟩)
  | 15, x, _ => ∃ y : Int, x = .int .i64 y ∧ 0 ≤ y ∧ y < 4
  | 16, x, _ => x = .pointer (some ⟨rg, 0, none⟩)
  | 17, x, _ => ∃ y : Int, x = .int .i64 y ∧ 0 ≤ y ∧ y < 5
  | 18, x, _ => ∃ y : Int, x = .int .i64 y
  | 19, x, _ => ∃ p : Pp, x = .agg #[.int .i64 p.fr, .int .i64 p.to, .int .i64 p.le, .int .i64 p.mo, .int .i64 p.co] ∧ bdP p
  | 20, x, wx => ∃ (h : Nat) (p : Pp), x = .slice (some ⟨h, 0, none⟩) 1 1 ∧ rg < h ∧ wx.heap[h]? = some (.cells #[.int .i64 p.fr, .int .i64 p.to, .int .i64 p.le, .int .i64 p.mo, .int .i64 p.co] 37) ∧ bdP p
  | 21, x, wx => PRow wx (w.heap.size + 1) x (L + 1) ∧ ∀ q, x.ownBlock = some q → q ≠ nb
  | 22, x, _ => x = .pointer (some ⟨nb, 1, none⟩)
  | 23, _, wx => ∃ S, PRow wx (w.heap.size + 1) S (L + 1) ∧ Box2 wx nb (.int .i64 z) S ∧ ∀ q, S.ownBlock = some q → q ≠ nb
  | _, _, _ => True
def laR (rg g : Nat) : Nat → World → World → Prop
  | 21, wx, wy => wx.grownBy wy (some g)
  | 23, _, _ => True
  | _, wx, wy => wx.grownBy wy (some rg)
/-- what is known of the world while they run -/
def laC (w : World) (nb rg m c K : Nat) (A : Option Addr) (z : Int) (S : Value) (L : Nat) (f : Nat) (wx : World) : Prop :=
  f ≤ 24 ∧ Rd wx rg A m c (K + (24 - f)) ∧ w.grownBy wx (some rg) ∧ Box2 wx w.heap.size (.int .i64 0) (.slice none 0 0) ∧ nb < wx.heap.size ∧ (1 ≤ f → Box2 wx nb (.int .i64 z) S) ∧ (3 ≤ f → PRow wx (w.heap.size + 1) S L)

end Go.Proofs.Ytangnecgnclobaa
