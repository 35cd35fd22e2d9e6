/- Appending a row, whatever it is, nothing too. -/
import Derived.Test.YtabkhpeoeihmmaaRD
import Derived.Test.YtabkhpeoeihmmaaV4
import Derived.Deep.AppendLies
namespace Go.Proofs.Ytabkhpeoeihmmaa
open Go.RowKit

/-- a row that is appended: its cells -/
def SrcOk (w : World) (size : Nat) (x : Value) (m : Nat) (news : List Value) : Prop :=
  (x = .slice none 0 0 ∧ m = 0 ∧ news = []) ∨ ∃ ad c, x = .slice (some ad) m c ∧ news.length = m * size ∧ (∀ j u, news[j]? = some u → w.cell? (ad.add j) = some u) ∧ ∀ u ∈ news, u.oneCell' = true

theorem run_append_src {P : Program} {w : World} (base : Nat) (t ty e : TypeId) (i : TypeInfo) (z : Value) (size bytes : Nat) (ht : P.underlying t = some (.slice e)) (hi : P.info? e = some i) (hz : i.zero = some z)
    (hsize : i.size = size) (hby : i.bytes = bytes) (hzs : z.cells.size = size) (hsz : 0 < size) (v x : Value) (n m : Nat) (xs news : List Value) (hown : w.ownsRow base e size v n xs) (hsrc : SrcOk w size x m news)
    (h63 : n + m ≤ maxLen) (hbytes : (n + m) * bytes ≤ 140737488355328) (hbase : base ≤ w.heap.size) :
    ∃ v' w', (Builtin.append_ #[t, t] ty #[v, x]).run P w = .ok v' w' ∧ w'.ownsRow base e size v' (n + m) (xs ++ news) ∧ w.grownBy w' v.ownBlock ∧ (v'.ownBlock = v.ownBlock ∨ v'.ownBlock = some w.heap.size) := by
  rcases hsrc with ⟨rfl, rfl, rfl⟩ | ⟨ad, c, rfl, hl, hn, h1⟩
  · exact ⟨v, w, run_append_owned_none w base t ty e i size ht hi v n xs hown, by simpa using hown, World.grownBy.refl w _, .inl rfl⟩
  · obtain ⟨v', w', hr, h2, h3, -, h5⟩ := run_append_own_at (P := P) w base t ty e i z size bytes ht hi hz hsize hby hzs hsz v n xs hown ad m c news hl hn h1 h63 hbytes hbase
    exact ⟨v', w', hr, h2, h3, h5⟩

theorem wp_append_src {P : Program} {w : World} {o : Oper} {a : Act} {K : Act → World → Prop} {Q : Exit → Act → World → Prop} (s x : Operand) (t : TypeId)
    (ho : o.op = .call { callee := .builtin .append, args := #[s, x], argTypes := #[t, t] })
    (base : Nat) (e : TypeId) (i : TypeInfo) (z : Value) (size bytes : Nat) (ht : P.underlying t = some (.slice e)) (hi : P.info? e = some i) (hz : i.zero = some z)
    (hsize : i.size = size) (hby : i.bytes = bytes) (hzs : z.cells.size = size) (hsz : 0 < size) (v u : Value) (n m : Nat) (xs news : List Value) (hs : a.eval s = v) (hx : a.eval x = u) (hown : w.ownsRow base e size v n xs) (hsrc : SrcOk w size u m news)
    (h63 : n + m ≤ maxLen) (hbytes : (n + m) * bytes ≤ 140737488355328) (hbase : base ≤ w.heap.size)
    (h : ∀ v' w', w'.ownsRow base e size v' (n + m) (xs ++ news) → w.grownBy w' v.ownBlock → (v'.ownBlock = v.ownBlock ∨ v'.ownBlock = some w.heap.size) → K (a.put o.dst v') w') : o.wp P a w K Q := by
  obtain ⟨v', w', hr, h2, h3, h4⟩ := run_append_src (P := P) base t o.type e i z size bytes ht hi hz hsize hby hzs hsz v u n m xs news hown hsrc h63 hbytes hbase
  unfold Oper.wp execOp
  simp only [ho, resolve, invoke, builtin, Sem.run_bind, Sem.run_pure, Result.andThen_ok, List.map_toArray, List.map_cons, List.map_nil, hs, hx, hr]
  exact h v' w' h2 h3 h4

theorem wpList_append_src {P : Program} {w : World} {ops : Array Oper} {rest : List Oper} {o : Oper} {a : Act} {Q : Exit → Act → World → Prop} (hgd : o.guard = none) (s x : Operand) (t : TypeId)
    (ho : o.op = .call { callee := .builtin .append, args := #[s, x], argTypes := #[t, t] })
    (base : Nat) (e : TypeId) (i : TypeInfo) (z : Value) (size bytes : Nat) (ht : P.underlying t = some (.slice e)) (hi : P.info? e = some i) (hz : i.zero = some z)
    (hsize : i.size = size) (hby : i.bytes = bytes) (hzs : z.cells.size = size) (hsz : 0 < size) (v u : Value) (n m : Nat) (xs news : List Value) (hs : a.eval s = v) (hx : a.eval x = u) (hown : w.ownsRow base e size v n xs) (hsrc : SrcOk w size u m news)
    (h63 : n + m ≤ maxLen) (hbytes : (n + m) * bytes ≤ 140737488355328) (hbase : base ≤ w.heap.size)
    (h : ∀ v' w', w'.ownsRow base e size v' (n + m) (xs ++ news) → w.grownBy w' v.ownBlock → (v'.ownBlock = v.ownBlock ∨ v'.ownBlock = some w.heap.size) → wpList P ops Q rest (a.put o.dst v') w') : wpList P ops Q (o :: rest) a w :=
  wpList_plain hgd fun _ hK => wp_append_src s x t ho base e i z size bytes ht hi hz hsize hby hzs hsz v u n m xs news hs hx hown hsrc h63 hbytes hbase fun v' w' h2 h3 h4 => hK _ _ (h v' w' h2 h3 h4)

theorem add_nat (g o j : Nat) : (⟨g, o, none⟩ : Addr).add j = ⟨g, o + j, none⟩ := by
  unfold Addr.add
  split
  · next h => subst h; rfl
  · rfl
theorem own_src {w : World} {b e size n : Nat} {v : Value} {xs : List Value} (h : w.ownsRow b e size v n xs) (h1 : ∀ u ∈ xs, u.oneCell' = true) : SrcOk w size v n xs := by
  rcases h.2 with ⟨rfl, rfl⟩ | ⟨g, cap, cur, rfl, hb, hh, r1, r2, r3, r4⟩
  · exact .inl ⟨rfl, rfl, List.eq_nil_of_length_eq_zero (by simpa using h.1)⟩
  · refine .inr ⟨⟨g, 0, none⟩, cap, rfl, h.1, fun j u hj => ?_, h1⟩
    obtain ⟨A1, c1, hv, -, -, hc⟩ := own_form h
    obtain ⟨g', e1, -, -, c0, -⟩ := hc j u hj
    injection hv with e2
    rw [← e2] at e1
    injection e1 with e1
    injection e1 with e1
    subst e1
    rw [add_nat, Nat.zero_add]
    exact c0
theorem Ints.src {w : World} {b : Nat} {v : Value} {xs : List Int} (h : Ints w b v xs) : SrcOk w 1 v xs.length (xs.map (Value.int .i64)) :=
  own_src h.1 fun u hu => by obtain ⟨y, -, rfl⟩ := List.mem_map.1 hu; rfl
theorem Pipes.src {w : World} {b : Nat} {v : Value} {ps : List Pp} (h : Pipes w b v ps) : SrcOk w 5 v ps.length (ps.flatMap Pp.cells) :=
  own_src h.1 fun u hu => by
    obtain ⟨p, -, hp⟩ := List.mem_flatMap.1 hu
    simp only [Pp.cells, List.mem_cons, List.not_mem_nil, or_false] at hp
    rcases hp with rfl | rfl | rfl | rfl | rfl <;> rfl
theorem lit_src {w : World} {g size m c : Nat} {cs : Array Value} {t : TypeId} {fr : Nat × Nat} (hg : w.heap[g]? = some (.cells cs t fr)) (hs : cs.size = m * size) (h1 : ∀ u ∈ cs.toList, u.oneCell' = true) : SrcOk w size (.slice (some ⟨g, 0, none⟩) m c) m cs.toList :=
  .inr ⟨⟨g, 0, none⟩, c, rfl, by simpa using hs, World.news_of_block hg, h1⟩

theorem heap_lt {w : World} {g : Nat} {o : Obj} (h : w.heap[g]? = some o) : g < w.heap.size := by
  rcases Nat.lt_or_ge g w.heap.size with h1 | h1
  · exact h1
  · rw [Array.getElem?_eq_none h1] at h; cases h
theorem heap_keep {w w' : World} {g : Nat} {o : Obj} (h : w.heap[g]? = some o) (hb : Below w.heap.size w w') : w'.heap[g]? = some o := (hb.block g (heap_lt h)).trans h
theorem heap_grown {w w' : World} {g : Nat} {o : Obj} {row : Option Nat} (h : w.heap[g]? = some o) (hg : w.grownBy w' row) (hne : some g ≠ row) : w'.heap[g]? = some o := (hg.block g (heap_lt h) hne).trans h
theorem heap_cell {w : World} {g j : Nat} {cs : Array Value} {t : TypeId} {fr : Nat × Nat} {v : Value} (h : w.heap[g]? = some (.cells cs t fr)) (hv : cs[j]? = some v) : w.cell? ⟨g, j, none⟩ = some v := by
  rw [cell_of_row w g j cs t fr h, hv]
theorem heap_set {w : World} {g j : Nat} {cs : Array Value} {t : TypeId} {fr : Nat × Nat} (v : Value) (h : w.heap[g]? = some (.cells cs t fr)) : (w.setCell ⟨g, j, none⟩ v).heap[g]? = some (.cells (cs.setIfInBounds j v) t fr) := by
  simp [World.setCell, Array.getElem?_modify, h]
theorem grown_set (w : World) (g j : Nat) (v : Value) : w.grownBy (w.setCell ⟨g, j, none⟩ v) (some g) :=
  ⟨rfl, rfl, rfl, by simp, fun k _ hk => Below.heap_setCell _ _ _ k (fun e => hk (by rw [e]))⟩
theorem pipes_snoc {w : World} {b : Nat} {v : Value} {ps : List Pp} {q : Pp} (h : w.ownsRow b 80 5 v (ps.length + 1) (ps.flatMap Pp.cells ++ q.cells)) (hs : ps.length + 1 ≤ small) : Pipes w b v (ps ++ [q]) := by
  have e : (ps ++ [q]).length = ps.length + 1 := by simp
  refine ⟨?_, by rw [e]; exact hs⟩
  rw [e, List.flatMap_append]
  simpa using h
theorem ints_snoc {w : World} {b : Nat} {v : Value} {xs : List Int} {x : Int} (h : w.ownsRow b 3 1 v (xs.length + 1) (xs.map (Value.int .i64) ++ [.int .i64 x])) (hs : xs.length + 1 ≤ small) : Ints w b v (xs ++ [x]) := by
  have e : (xs ++ [x]).length = xs.length + 1 := by simp
  refine ⟨?_, by rw [e]; exact hs⟩
  rw [e, List.map_append]
  simpa using h
theorem heap_frozen {w : World} {g j : Nat} {cs : Array Value} {t : TypeId} (h : w.heap[g]? = some (.cells cs t (0, 0))) : w.frozen? ⟨g, j, none⟩ = false := by simp [World.frozen?, h]
theorem own_ne {w : World} {b e size n g : Nat} {v : Value} {xs : List Value} {cur : Array Value} {t : TypeId} {fr : Nat × Nat} (ho : w.ownsRow b e size v n xs) (hh : w.heap[g]? = some (.cells cur t fr)) (hne : t ≠ e) : ∀ q, v.ownBlock = some q → g ≠ q := by
  intro q hq e1
  subst e1
  rcases ho.2 with ⟨h0, -⟩ | ⟨g1, c1, cur1, h0, -, hh1, -⟩
  · rw [h0] at hq; cases hq
  · rw [h0] at hq
    have hq : g1 = g := by injection hq
    subst hq
    rw [hh] at hh1
    injection hh1 with e2
    injection e2 with _ e3 _
    exact hne e3
/-- a row stays where a block of another type turns -/
theorem own_type {w w' : World} {b e size n g : Nat} {v : Value} {xs : List Value} {cur : Array Value} {t : TypeId} {fr : Nat × Nat} (ho : w.ownsRow b e size v n xs) (hg : w.grownBy w' (some g)) (hh : w.heap[g]? = some (.cells cur t fr)) (hne : t ≠ e) : w'.ownsRow b e size v n xs := by
  refine ho.kept hg ?_
  rcases ho.2 with ⟨h0, -⟩ | ⟨g1, c1, cur1, h0, -, hh1, -⟩
  · left; rw [h0]; rfl
  · right
    rw [h0]
    intro e1
    have e1 : g1 = g := by injection e1
    subst e1
    rw [hh] at hh1
    injection hh1 with e2
    injection e2 with _ e3 _
    exact hne e3

end Go.Proofs.Ytabkhpeoeihmmaa
