/- Words for memory: a row of marks; how it comes in, how it is made. -/
import Derived.Test.YtaohjhehlkeckaaHA
import Derived.Test.YtaohjhehlkeckaaMG
import Derived.Test.YtaohjhehlkeckaaP
namespace Go.Proofs.Ytaohjhehlkeckaa
open Go.ChangeShapes Go.WideShapes Go.ChangeAt Go.RowKit Go.Deep Go.Joins

def Marks (w : World) (b : Nat) (v : Value) (ts : List Mk) : Prop :=
  w.ownsRow b 33 3 v ts.length (ts.flatMap Mk.cells) ∧ ts.length ≤ small

theorem Marks.keep {w w' : World} {b : Nat} {v : Value} {ts : List Mk} (h : Marks w b v ts) (hb : Below w.heap.size w w') : Marks w' b v ts :=
  ⟨own_keep h.1 (Nat.le_refl _) hb, h.2⟩
theorem Marks.mono {w : World} {b b' : Nat} {v : Value} {ts : List Mk} (h : Marks w b v ts) (hb : b' ≤ b) : Marks w b' v ts := ⟨own_mono h.1 hb, h.2⟩
theorem Marks.setLow {w : World} {b : Nat} {v : Value} {ts : List Mk} (h : Marks w b v ts) {a : Addr} {u : Value} (ha : a.block < b) : Marks (w.setCell a u) b v ts :=
  ⟨ownsRow_setCell_below h.1 ha u, h.2⟩
theorem Marks_nil (w : World) (b : Nat) : Marks w b (.slice none 0 0) [] := ⟨World.ownsRow_nil w b _ 3, Nat.zero_le _⟩

theorem mk_cells (ts : List Mk) (k : Nat) (hk : k < ts.length) (j : Nat) (hj : j < 3) : (ts.flatMap Mk.cells)[k * 3 + j]? = (ts[k].cells)[j]? := by
  induction ts generalizing k with
  | nil => simp at hk
  | cons p ps ih =>
    cases k with
    | zero =>
      rw [List.flatMap_cons, List.getElem?_append_left (by simp [Mk.cells]; omega)]
      simp
    | succ k =>
      rw [List.flatMap_cons, List.getElem?_append_right (by simp [Mk.cells]; omega)]
      have : (k + 1) * 3 + j - p.cells.length = k * 3 + j := by simp [Mk.cells]; omega
      rw [this, ih k (by simpa using hk)]
      simp
theorem mk_flat_len (ts : List Mk) : (ts.flatMap Mk.cells).length = ts.length * 3 := by
  induction ts with
  | nil => rfl
  | cons q qs ih => rw [List.flatMap_cons, List.length_append, ih]; simp [Mk.cells]; omega

theorem Marks.form {w : World} {b : Nat} {v : Value} {ts : List Mk} (h : Marks w b v ts) :
    ∃ A c, v = .slice A ts.length c ∧ ts.length ≤ c ∧ c ≤ maxLen ∧ ts.length ≤ 4194304 ∧ ∀ wr, Below w.heap.size w wr → ∀ k (hk : k < ts.length), ∃ g, A = some ⟨g, 0, none⟩ ∧ b ≤ g ∧ g < w.heap.size ∧
      wr.cell? ⟨g, k * 3, none⟩ = some (.int .i64 ts[k].k) ∧ wr.cell? ⟨g, k * 3 + 1, none⟩ = some (.int .i64 ts[k].h) ∧ wr.cell? ⟨g, k * 3 + 2, none⟩ = some (.int .i64 ts[k].p) := by
  obtain ⟨A, c, hv, h1, h2, h3⟩ := own_form h.1
  refine ⟨A, c, hv, h1, h2, h.2, fun wr hb k hk => ?_⟩
  have hc := mk_cells ts k hk
  obtain ⟨g, hA, hg, hg2, c0, _⟩ := h3 (k * 3 + 0) _ (hc 0 (by omega))
  have hx : ∀ j u, (ts[k].cells)[j]? = some u → j < 3 → wr.cell? ⟨g, k * 3 + j, none⟩ = some u := by
    intro j u hj h5
    obtain ⟨g1, hA1, _, hg3, c1, _⟩ := h3 (k * 3 + j) _ ((hc j h5).trans hj)
    rw [hA] at hA1
    injection hA1 with e1; injection e1 with e1; subst e1
    exact (hb.cell (p := ⟨g, k * 3 + j, none⟩) hg3).trans c1
  exact ⟨g, hA, hg, hg2, hx 0 _ rfl (by omega), hx 1 _ rfl (by omega), hx 2 _ rfl (by omega)⟩

theorem set3_list (qs : List Mk) (k : Nat) (hk : k < qs.length) (p : Mk) :
    ((((qs.flatMap Mk.cells).set (k * 3) (.int .i64 p.k)).set (k * 3 + 1) (.int .i64 p.h)).set (k * 3 + 2) (.int .i64 p.p)) = (qs.set k p).flatMap Mk.cells := by
  induction qs generalizing k with
  | nil => simp at hk
  | cons q qs ih =>
    cases k with
    | zero => simp [List.flatMap_cons, Mk.cells]
    | succ k =>
      have h := ih k (by simpa using hk)
      have e : (k + 1) * 3 = k * 3 + 3 := by omega
      rw [e, List.set_cons_succ, List.flatMap_cons, List.flatMap_cons, ← h]
      simp [Mk.cells]

section
variable {w : World} {b g n cap k : Nat} {e : TypeId} {qs : List Mk}
theorem own_set3 (h : w.ownsRow b e 3 (.slice (some ⟨g, 0, none⟩) n cap) n (qs.flatMap Mk.cells)) (hk : k < qs.length) (p : Mk) :
    (((w.setCell ⟨g, k * 3, none⟩ (.int .i64 p.k)).setCell ⟨g, k * 3 + 1, none⟩ (.int .i64 p.h)).setCell ⟨g, k * 3 + 2, none⟩ (.int .i64 p.p)).ownsRow b e 3 (.slice (some ⟨g, 0, none⟩) n cap) n ((qs.set k p).flatMap Mk.cells) := by
  rw [← set3_list qs k hk p]
  exact ((((h.stored _ _).1.stored _ _).1.stored _ _).1)
theorem own_cells3 (h : w.ownsRow b e 3 (.slice (some ⟨g, 0, none⟩) n cap) n (qs.flatMap Mk.cells)) (hk : k < qs.length) :
    g < w.heap.size ∧ (w.cell? ⟨g, k * 3, none⟩ = some (.int .i64 qs[k].k) ∧ w.cell? ⟨g, k * 3 + 1, none⟩ = some (.int .i64 qs[k].h) ∧ w.cell? ⟨g, k * 3 + 2, none⟩ = some (.int .i64 qs[k].p)) ∧
    ∀ j, w.frozen? ⟨g, j, none⟩ = false := by
  have hl : qs.length = n := by
    have := h.1
    have h5 := mk_flat_len qs
    omega
  have hc : ∀ j u, (qs[k].cells)[j]? = some u → j < 3 → w.cell? ⟨g, k * 3 + j, none⟩ = some u := by
    intro j u hj h5
    rw [h.cellAt (k * 3 + j) (by omega), mk_cells qs k hk j h5, hj]
  refine ⟨(h.lt g rfl).2, ⟨hc 0 _ rfl (by omega), hc 1 _ rfl (by omega), hc 2 _ rfl (by omega)⟩, fun j => h.frozenAt j⟩
theorem own_grow3 {xs : List Value} (h : w.ownsRow b e 3 (.slice (some ⟨g, 0, none⟩) n cap) n xs) (j0 j1 j2 : Nat) (u0 u1 u2 : Value) :
    w.grownBy (((w.setCell ⟨g, j0, none⟩ u0).setCell ⟨g, j1, none⟩ u1).setCell ⟨g, j2, none⟩ u2) (some g) := by
  have a0 := h.stored j0 u0
  have a1 := a0.1.stored j1 u1
  have a2 := a1.1.stored j2 u2
  exact (a0.2.trans a1.2).trans a2.2
end

theorem mark_info : (Try.prog.info? 33).map (fun i => (i.zero, i.size, i.bytes)) = some (some (.agg #[.int .i64 0, .int .i64 0, .int .i64 0]), 3, 24) := by kernel_rfl

theorem run_make_marks {n : Nat} (hn : n ≤ 4194304) (w : World) :
    (Instr.makeSlice 23 (.int .i64 (n : Int)) (.int .i64 (n : Int))).run Try.prog w = .ok (.slice (some ⟨w.heap.size, 0, none⟩) n n) (w.alloc (.cells (madeCells #[.int .i64 0, .int .i64 0, .int .i64 0] (n * 3)) 33)) := by
  obtain ⟨i0, hi, hz0, hz1, hz2⟩ := info_parts mark_info
  have h := run_make (P := Try.prog) w 23 33 i0 _ Try.underlying23 hi hz0 .i64 .i64 n n (by omega) (by omega) (by rw [hz2]; omega) (by omega)
  simp only [Int.toNat_natCast, hz1] at h
  exact h

def zeroMk : Mk := ⟨0, 0, 0⟩

theorem made_marks (w : World) (n : Nat) (e : TypeId) (b : Nat) (hb : b ≤ w.heap.size) (hn : n ≤ 4194304) :
    (w.alloc (.cells (madeCells #[.int .i64 0, .int .i64 0, .int .i64 0] (n * 3)) e)).ownsRow b e 3 (.slice (some ⟨w.heap.size, 0, none⟩) n n) n ((List.replicate n zeroMk).flatMap Mk.cells) := by
  have hs : (madeCells #[.int .i64 0, .int .i64 0, .int .i64 0] (n * 3) : Array Value).size = n * 3 := by simp [madeCells]
  have h := World.ownsRow_lit (e := e) (base := b) (size := 3) w (madeCells #[.int .i64 0, .int .i64 0, .int .i64 0] (n * 3)) n hb (by unfold maxLen; omega) hs
  have e2 : (madeCells #[.int .i64 0, .int .i64 0, .int .i64 0] (n * 3) : Array Value).toList = (List.replicate n zeroMk).flatMap Mk.cells := by
    apply List.ext_getElem?
    intro i
    by_cases hi : i < n * 3
    · have hq : i / 3 < (List.replicate n zeroMk).length := by simp; omega
      have h5 := mk_cells (List.replicate n zeroMk) (i / 3) hq (i % 3) (by omega)
      have ei : i / 3 * 3 + i % 3 = i := by omega
      rw [ei] at h5
      rw [h5]
      have hm : i % 3 < 3 := Nat.mod_lt _ (by omega)
      simp only [madeCells, List.getElem_replicate, zeroMk, Mk.cells]
      generalize hr : i % 3 = r at *
      simp [hi, hr]
      match r, hm with
      | 0, _ => rfl
      | 1, _ => rfl
      | 2, _ => rfl
    · rw [List.getElem?_eq_none (by simp [hs]; omega), List.getElem?_eq_none (by rw [mk_flat_len]; simp; omega)]
  rw [e2] at h
  exact h

/-- A row of marks that came in. -/
def ArgMarks (w : World) (v : Value) (ts : List Mk) : Prop :=
  ∃ (A : Option Addr) (c : Nat), v = .slice A ts.length c ∧ ts.length ≤ c ∧ c ≤ maxLen ∧ ∀ k (hk : k < ts.length), ∃ g o, A = some ⟨g, o, none⟩ ∧ g < w.heap.size ∧
    w.cell? ⟨g, o + k * 3, none⟩ = some (.int .i64 ts[k].k) ∧ w.cell? ⟨g, o + k * 3 + 1, none⟩ = some (.int .i64 ts[k].h) ∧ w.cell? ⟨g, o + k * 3 + 2, none⟩ = some (.int .i64 ts[k].p)

theorem Marks.arg {w : World} {b : Nat} {v : Value} {ts : List Mk} (h : Marks w b v ts) : ArgMarks w v ts := by
  obtain ⟨A, c, hv, h1, h2, -, hc⟩ := h.form
  refine ⟨A, c, hv, h1, h2, fun k hk => ?_⟩
  obtain ⟨g, hA, -, hg, c0, c1, c2⟩ := hc w (Below.refl _ _) k hk
  exact ⟨g, 0, hA, hg, by simpa using c0, by simpa using c1, by simpa using c2⟩
theorem ArgMarks.keep {w w' : World} {v : Value} {ts : List Mk} (h : ArgMarks w v ts) (hb : Below w.heap.size w w') : ArgMarks w' v ts := by
  obtain ⟨A, c, hv, h1, h2, hc⟩ := h
  refine ⟨A, c, hv, h1, h2, fun k hk => ?_⟩
  obtain ⟨g, o, hA, hg, c0, c1, c2⟩ := hc k hk
  exact ⟨g, o, hA, Nat.lt_of_lt_of_le hg hb.size, (hb.cell (p := ⟨g, _, none⟩) hg).trans c0, (hb.cell (p := ⟨g, _, none⟩) hg).trans c1, (hb.cell (p := ⟨g, _, none⟩) hg).trans c2⟩

section
variable {H : Type} {enc : TypeId × Value → H} {w : World} {base : Nat} {spare : Nat → Bool} {held : Bool} {r : Reach} {b0 : Nat}
theorem three_of {P : Program} {t ti : TypeId} {f0 f1 f2 : Field} {cs : List Value} {fuel : Nat} {x : DataW H × List MemPlace} (hs : P.underlying t = some (.struct #[f0, f1, f2]))
    (hone : oneCellFields P #[f0, f1, f2] = true) (hC : P.cellsOf t = 3) (hi : P.underlying ti = some (.int .i64))
    (t0 : f0.type = ti) (t1 : f1.type = ti) (t2 : f2.type = ti)
    (h : DataW.trod enc P w base spare held fuel t cs = some x) : ∃ p : Mk, cs = p.cells := by
  obtain ⟨xs, n, _, _, hl, hxl, hf⟩ := DataW.trod_struct hs h
  rw [hC] at hl
  have key : ∀ (i : Nat) (f : Field), (#[f0, f1, f2] : Array Field)[i]? = some f → f.type = ti → ∃ z : Int, (cs.drop i).take 1 = [.int .i64 z] := by
    intro i f hf1 hft
    obtain ⟨ho, hk⟩ := hone_of hone i f hf1
    have h1 := hf i f hf1
    have hlt : i < xs.length := by rw [hxl]; exact (Array.getElem?_eq_some_iff.1 hf1).1
    rw [ho, hk, hft, List.getElem?_eq_getElem hlt] at h1
    obtain ⟨z, hz, _⟩ := DataW.trod_int hi h1
    exact ⟨z, hz⟩
  obtain ⟨z0, h0⟩ := key 0 f0 rfl t0
  obtain ⟨z1, h1⟩ := key 1 f1 rfl t1
  obtain ⟨z2, h2⟩ := key 2 f2 rfl t2
  match cs, hl with
  | [c0, c1, c2], _ =>
    simp at h0 h1 h2
    exact ⟨⟨z0, z1, z2⟩, by simp [Mk.cells, h0, h1, h2]⟩

end

end Go.Proofs.Ytaohjhehlkeckaa
