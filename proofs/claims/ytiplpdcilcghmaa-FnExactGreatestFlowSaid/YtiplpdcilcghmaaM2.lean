/- Plain facts, chapter 1, and what make gives. -/
import Derived.Test.YtiplpdcilcghmaaM1
import Derived.StillTailTactics
namespace Go.Proofs.Ytiplpdcilcghmaa
open Go.RowKit

theorem beq_len (a b : Nat) : ((a : Int) == (b : Int)) = decide (a = b) := by rw [Bool.eq_iff_iff, beq_iff_eq, decide_eq_true_eq]; omega

theorem excT_to {node : Int} {p : Pp} {x : Int} (h : node = p.to) : excT node p x = x := by simp [excT, h]
theorem excT_fr {node : Int} {p : Pp} {x : Int} (h : node ≠ p.to) (h1 : node = p.fr) : excT node p x = -x := by simp only [excT, if_neg h, if_pos h1]
theorem excT_no {node : Int} {p : Pp} {x : Int} (h : node ≠ p.to) (h1 : node ≠ p.fr) : excT node p x = 0 := by simp only [excT, if_neg h, if_neg h1]

def excAt (n : Int) (ps : List Pp) (xs : List Int) (node : Int) : Int × Bool :=
  if flowOkB n ps xs = true ∧ withinB node 0 (n - 1) = true then (exc node ps xs, true) else (0, false)

theorem ret_ib {a a' : Int} {b b' : Bool} (h : (a, b) = (a', b')) : Ending.returned (.tuple #[.int .i64 a, .bool b]) = .returned (.tuple #[.int .i64 a', .bool b']) := by
  injection h with h1 h2; rw [h1, h2]

theorem zip_at {ps : List Pp} {xs : List Int} {k : Nat} (h : k < ps.length) (h' : k < xs.length) : (ps.zip xs)[k]'(by simp; omega) = (ps[k], xs[k]) := by simp

theorem int_info : (Try.prog.info? 3).map (fun i => (i.zero, i.size, i.bytes)) = some (some (.int .i64 0), 1, 8) := by kernel_rfl

theorem ret_vb {v : Value} {b b' : Bool} (h : b = b') : Ending.returned (.tuple #[v, .bool b]) = .returned (.tuple #[v, .bool b']) := by rw [h]

theorem flow_len2 {n : Int} {ps : List Pp} {xs ys : List Int} (h : flowOkB n ps xs = true) (h' : flowOkB n ps ys = true) : xs.length = ys.length :=
  (flowOk_parts h).2.1.trans (flowOk_parts h').2.1.symm

theorem run_make_ints {n : Nat} (hn : n ≤ 4194304) (w : World) :
    (Instr.makeSlice 25 (.int .i64 (n : Int)) (.int .i64 (n : Int))).run Try.prog w = .ok (.slice (some ⟨w.heap.size, 0, none⟩) n n) (w.alloc (.cells (madeCells #[.int .i64 0] n) 3)) := by
  obtain ⟨i0, hi, hz0, hz1, hz2⟩ := info_parts int_info
  have h := run_make (P := Try.prog) w 25 3 i0 (.int .i64 0) Try.underlying25 hi hz0 .i64 .i64 n n (by omega) (by omega) (by rw [hz2]; omega) (by omega)
  simp only [Int.toNat_natCast, hz1, Nat.mul_one] at h
  exact h

theorem pipe_info : (Try.prog.info? 71).map (fun i => (i.zero, i.size, i.bytes)) = some (some (.agg #[.int .i64 0, .int .i64 0, .int .i64 0, .int .i64 0, .int .i64 0]), 5, 40) := by kernel_rfl

theorem run_make_pipes {n : Nat} (hn : n ≤ 4194304) (w : World) :
    (Instr.makeSlice 29 (.int .i64 (n : Int)) (.int .i64 (n : Int))).run Try.prog w = .ok (.slice (some ⟨w.heap.size, 0, none⟩) n n) (w.alloc (.cells (madeCells #[.int .i64 0, .int .i64 0, .int .i64 0, .int .i64 0, .int .i64 0] (n * 5)) 71)) := by
  obtain ⟨i0, hi, hz0, hz1, hz2⟩ := info_parts pipe_info
  have h := run_make (P := Try.prog) w 29 71 i0 _ Try.underlying29 hi hz0 .i64 .i64 n n (by omega) (by omega) (by rw [hz2]; omega) (by omega)
  simp only [Int.toNat_natCast, hz1] at h
  exact h

theorem set5_list (qs : List Pp) (k : Nat) (hk : k < qs.length) (p : Pp) :
    (((((qs.flatMap Pp.cells).set (k * 5) (.int .i64 p.fr)).set (k * 5 + 1) (.int .i64 p.to)).set (k * 5 + 2) (.int .i64 p.le)).set (k * 5 + 3) (.int .i64 p.mo)).set (k * 5 + 4) (.int .i64 p.co) = (qs.set k p).flatMap Pp.cells := by
  induction qs generalizing k with
  | nil => simp at hk
  | cons q qs ih =>
    cases k with
    | zero => simp [List.flatMap_cons, Pp.cells]
    | succ k =>
      have h := ih k (by simpa using hk)
      have e : (k + 1) * 5 = k * 5 + 5 := by omega
      rw [e, List.set_cons_succ, List.flatMap_cons, List.flatMap_cons, ← h]
      simp [Pp.cells]

section
variable {w : World} {b g n cap k : Nat} {e : TypeId} {qs : List Pp}
theorem own_set5 (h : w.ownsRow b e 5 (.slice (some ⟨g, 0, none⟩) n cap) n (qs.flatMap Pp.cells)) (hk : k < qs.length) (p : Pp) :
    (((((w.setCell ⟨g, k * 5, none⟩ (.int .i64 p.fr)).setCell ⟨g, k * 5 + 1, none⟩ (.int .i64 p.to)).setCell ⟨g, k * 5 + 2, none⟩ (.int .i64 p.le)).setCell ⟨g, k * 5 + 3, none⟩ (.int .i64 p.mo)).setCell ⟨g, k * 5 + 4, none⟩ (.int .i64 p.co)).ownsRow b e 5 (.slice (some ⟨g, 0, none⟩) n cap) n ((qs.set k p).flatMap Pp.cells) := by
  rw [← set5_list qs k hk p]
  exact ((((((h.stored _ _).1.stored _ _).1.stored _ _).1.stored _ _).1.stored _ _).1)
theorem own_cells5 (h : w.ownsRow b e 5 (.slice (some ⟨g, 0, none⟩) n cap) n (qs.flatMap Pp.cells)) (hk : k < qs.length) :
    g < w.heap.size ∧ (w.cell? ⟨g, k * 5, none⟩ = some (.int .i64 qs[k].fr) ∧ w.cell? ⟨g, k * 5 + 1, none⟩ = some (.int .i64 qs[k].to) ∧ w.cell? ⟨g, k * 5 + 2, none⟩ = some (.int .i64 qs[k].le) ∧
      w.cell? ⟨g, k * 5 + 3, none⟩ = some (.int .i64 qs[k].mo) ∧ w.cell? ⟨g, k * 5 + 4, none⟩ = some (.int .i64 qs[k].co)) ∧
    ∀ j, w.frozen? ⟨g, j, none⟩ = false := by
  have hl : qs.length = n := by
    have := h.1
    have h5 : (qs.flatMap Pp.cells).length = qs.length * 5 := by
      clear this h hk
      induction qs with
      | nil => rfl
      | cons q qs ih => rw [List.flatMap_cons, List.length_append, ih]; simp [Pp.cells]; omega
    omega
  have hc : ∀ j u, (qs[k].cells)[j]? = some u → j < 5 → w.cell? ⟨g, k * 5 + j, none⟩ = some u := by
    intro j u hj h5
    rw [h.cellAt (k * 5 + j) (by omega), pp_cells qs k hk j h5, hj]
  refine ⟨(h.lt g rfl).2, ⟨hc 0 _ rfl (by omega), hc 1 _ rfl (by omega), hc 2 _ rfl (by omega), hc 3 _ rfl (by omega), hc 4 _ rfl (by omega)⟩, fun j => h.frozenAt j⟩
end

theorem flat_len (qs : List Pp) : (qs.flatMap Pp.cells).length = qs.length * 5 := by
  induction qs with
  | nil => rfl
  | cons q qs ih => rw [List.flatMap_cons, List.length_append, ih]; simp [Pp.cells]; omega

def zeroPp : Pp := ⟨0, 0, 0, 0, 0⟩

theorem made_pipes (w : World) (n : Nat) (e : TypeId) (b : Nat) (hb : b ≤ w.heap.size) (hn : n ≤ 4194304) :
    (w.alloc (.cells (madeCells #[.int .i64 0, .int .i64 0, .int .i64 0, .int .i64 0, .int .i64 0] (n * 5)) e)).ownsRow b e 5 (.slice (some ⟨w.heap.size, 0, none⟩) n n) n ((List.replicate n zeroPp).flatMap Pp.cells) := by
  have hs : (madeCells #[.int .i64 0, .int .i64 0, .int .i64 0, .int .i64 0, .int .i64 0] (n * 5) : Array Value).size = n * 5 := by simp [madeCells]
  have h := World.ownsRow_lit (e := e) (base := b) (size := 5) w (madeCells #[.int .i64 0, .int .i64 0, .int .i64 0, .int .i64 0, .int .i64 0] (n * 5)) n hb (by unfold maxLen; omega) hs
  have e2 : (madeCells #[.int .i64 0, .int .i64 0, .int .i64 0, .int .i64 0, .int .i64 0] (n * 5) : Array Value).toList = (List.replicate n zeroPp).flatMap Pp.cells := by
    apply List.ext_getElem?
    intro i
    by_cases hi : i < n * 5
    · have hq : i / 5 < (List.replicate n zeroPp).length := by simp; omega
      have h5 := pp_cells (List.replicate n zeroPp) (i / 5) hq (i % 5) (by omega)
      have ei : i / 5 * 5 + i % 5 = i := by omega
      rw [ei] at h5
      rw [h5]
      have hm : i % 5 < 5 := Nat.mod_lt _ (by omega)
      simp only [madeCells, List.getElem_replicate, zeroPp, Pp.cells]
      generalize hr : i % 5 = r at *
      simp [hi, hr]
      match r, hm with
      | 0, _ => rfl
      | 1, _ => rfl
      | 2, _ => rfl
      | 3, _ => rfl
      | 4, _ => rfl
    · rw [List.getElem?_eq_none (by simp [hs]; omega), List.getElem?_eq_none (by rw [flat_len]; simp; omega)]
  rw [e2] at h
  exact h

theorem made_ints (w : World) (n : Nat) (e : TypeId) (b : Nat) (hb : b ≤ w.heap.size) (hn : n ≤ 4194304) :
    (w.alloc (.cells (madeCells #[.int .i64 0] n) e)).ownsRow b e 1 (.slice (some ⟨w.heap.size, 0, none⟩) n n) n ((List.replicate n (0 : Int)).map (Value.int .i64)) := by
  have h := World.ownsRow_lit (e := e) (base := b) (size := 1) w (madeCells #[.int .i64 0] n) n hb (by unfold maxLen; omega) (by simp [madeCells])
  rw [toList_madeCells_one] at h
  simpa using h

def turnP (p : Pp) : Pp := ⟨p.to, p.fr, p.le, p.mo, p.co⟩
def turnN (n : Int) (ps : List Pp) : Int := if netOkB n ps = true then n else 0
def turnL (n : Int) (ps : List Pp) : List Pp := if netOkB n ps = true then ps.map turnP else []
theorem Pipes_nil (w : World) (b : Nat) : Pipes w b (.slice none 0 0) [] := ⟨World.ownsRow_nil w b _ 5, Nat.zero_le _⟩
theorem turn_no {n : Int} {ps : List Pp} (h : netOkB n ps = false) : turnN n ps = 0 ∧ turnL n ps = [] := by simp [turnN, turnL, h]
theorem turn_yes {n : Int} {ps : List Pp} (h : netOkB n ps = true) : turnN n ps = n ∧ turnL n ps = ps.map turnP := by simp [turnN, turnL, h]

end Go.Proofs.Ytiplpdcilcghmaa
