/- Plain facts. -/
import Derived.Test.YtmgpekdhcghabaaGreatGR26
import Derived.StillTailTactics
/- Plain facts on nets and flows, chapter 1. -/
namespace Go.Proofs.YtmgpekdhcghabaaGreat
open Go.RowKit

def withinB (n l m : Int) : Bool := decide (l ≤ n) && decide (n ≤ m)

def pipeOkB (n a b c d e : Int) : Bool := withinB a 0 (n - 1) && withinB b 0 (n - 1) && decide (a ≠ b) && decide (0 ≤ c) && decide (c ≤ d) && decide (d ≤ 4) && withinB e (-9) 9

def netOkB (n : Int) (ps : List Pp) : Bool := withinB n 2 5 && decide (ps.length ≤ 7) && ps.all fun p => pipeOkB n p.fr p.to p.le p.mo p.co

theorem all_take {α : Type} {f : α → Bool} {xs : List α} {k : Nat} (hk : k < xs.length) (h : ∀ p ∈ xs.take k, f p = true)
    (h1 : f xs[k] = true) : ∀ p ∈ xs.take (k + 1), f p = true := by
  intro p hp
  rw [List.take_succ_eq_append_getElem hk] at hp
  rcases List.mem_append.1 hp with hp | hp
  · exact h p hp
  · simp at hp; rw [hp]; exact h1

theorem all_whole {α : Type} {f : α → Bool} {xs : List α} {k : Nat} (hk : ¬ k < xs.length) (h : ∀ p ∈ xs.take k, f p = true) : xs.all f = true := by
  rw [List.take_of_length_le (by omega)] at h
  simpa using h

theorem all_no {α : Type} {f : α → Bool} {xs : List α} {k : Nat} (hk : k < xs.length) (h : (!f xs[k]) = true) : xs.all f = false := by
  rw [Bool.eq_false_iff]
  intro ha
  rw [List.all_eq_true] at ha
  have := ha _ (List.getElem_mem hk)
  rw [this] at h
  simp at h

def flowOkB (n : Int) (ps : List Pp) (xs : List Int) : Bool := netOkB n ps && decide (xs.length = ps.length) && xs.all fun x => withinB x 0 40

theorem netOk_parts {n : Int} {ps : List Pp} (h : netOkB n ps = true) : 2 ≤ n ∧ n ≤ 5 ∧ ps.length ≤ 7 ∧ ∀ p ∈ ps, pipeOkB n p.fr p.to p.le p.mo p.co = true := by
  simp only [netOkB, withinB, Bool.and_eq_true, decide_eq_true_eq, List.all_eq_true] at h
  exact ⟨h.1.1.1, h.1.1.2, h.1.2, h.2⟩

theorem flowOk_parts {n : Int} {ps : List Pp} {xs : List Int} (h : flowOkB n ps xs = true) : netOkB n ps = true ∧ xs.length = ps.length ∧ ∀ x ∈ xs, 0 ≤ x ∧ x ≤ 40 := by
  simp only [flowOkB, withinB, Bool.and_eq_true, decide_eq_true_eq, List.all_eq_true] at h
  exact ⟨h.1.1, h.1.2, h.2⟩

theorem pipeOk_parts {n a b c d e : Int} (h : pipeOkB n a b c d e = true) : 0 ≤ a ∧ a < n ∧ 0 ≤ b ∧ b < n ∧ a ≠ b ∧ 0 ≤ c ∧ c ≤ d ∧ d ≤ 4 ∧ -9 ≤ e ∧ e ≤ 9 := by
  simp only [pipeOkB, withinB, Bool.and_eq_true, decide_eq_true_eq] at h
  omega

/-- what an amount in a pipe adds to the excess of a node -/
def excT (node : Int) (p : Pp) (x : Int) : Int := if node = p.to then x else if node = p.fr then -x else 0

def exc (node : Int) (ps : List Pp) (xs : List Int) : Int := ((ps.zip xs).map fun q => excT node q.1 q.2).sum

theorem excT_bd {node : Int} {p : Pp} {x : Int} (h0 : 0 ≤ x) (h1 : x ≤ 40) : -40 ≤ excT node p x ∧ excT node p x ≤ 40 := by
  unfold excT; repeat' split
  all_goals omega

theorem exc_snoc (node : Int) (ps : List Pp) (xs : List Int) (k : Nat) (hp : k < ps.length) (hx : k < xs.length) :
    exc node (ps.take (k + 1)) (xs.take (k + 1)) = exc node (ps.take k) (xs.take k) + excT node ps[k] xs[k] := by
  unfold exc
  rw [List.take_succ_eq_append_getElem hp, List.take_succ_eq_append_getElem hx, List.zip_append (by simp; omega)]
  simp

theorem exc_bd (node : Int) (ps : List Pp) (xs : List Int) (h : ∀ x ∈ xs, 0 ≤ x ∧ x ≤ 40) : -(40 * (ps.length : Int)) ≤ exc node ps xs ∧ exc node ps xs ≤ 40 * (ps.length : Int) := by
  induction ps generalizing xs with
  | nil => simp [exc]
  | cons p ps ih =>
    cases xs with
    | nil => simp [exc]; omega
    | cons x xs =>
      have h1 := ih xs (fun y hy => h y (by simp [hy]))
      have h2 := excT_bd (node := node) (p := p) (h x (by simp)).1 (h x (by simp)).2
      have e : exc node (p :: ps) (x :: xs) = excT node p x + exc node ps xs := by simp [exc]
      rw [e]
      simp only [List.length_cons]
      omega

def balB (n : Int) (ps : List Pp) (xs : List Int) : Bool := flowOkB n ps xs && (List.range n.toNat).all fun k => exc (k : Int) ps xs == 0

def holdsB (n : Int) (ps : List Pp) (xs : List Int) : Bool := flowOkB n ps xs && (ps.zip xs).all fun q => withinB q.2 q.1.le q.1.mo

theorem set_take {α : Type} {zs ss : List α} {k : Nat} {v : α} (hk : k < zs.length) (h : zs.take k = ss.take k) (hv : ss[k]? = some v) : (zs.set k v).take (k + 1) = ss.take (k + 1) := by
  have hs : k < ss.length := (List.getElem?_eq_some_iff.1 hv).1
  have hse : ss[k] = v := (List.getElem?_eq_some_iff.1 hv).2
  rw [List.take_succ_eq_append_getElem (by simpa using hk), List.take_succ_eq_append_getElem hs, List.take_set_of_le (Nat.le_refl _), h]
  simp [hse]

theorem Ints_nil (w : World) (b : Nat) : Ints w b (.slice none 0 0) [] := ⟨World.ownsRow_nil w b _ 1, Nat.zero_le _⟩

end Go.Proofs.YtmgpekdhcghabaaGreat

/- Plain facts, chapter 1, and what make gives. -/
namespace Go.Proofs.YtmgpekdhcghabaaGreat
open Go.RowKit

theorem beq_len (a b : Nat) : ((a : Int) == (b : Int)) = decide (a = b) := by rw [Bool.eq_iff_iff, beq_iff_eq, decide_eq_true_eq]; omega

theorem excT_to {node : Int} {p : Pp} {x : Int} (h : node = p.to) : excT node p x = x := by simp [excT, h]
theorem excT_fr {node : Int} {p : Pp} {x : Int} (h : node ≠ p.to) (h1 : node = p.fr) : excT node p x = -x := by simp only [excT, if_neg h, if_pos h1]
theorem excT_no {node : Int} {p : Pp} {x : Int} (h : node ≠ p.to) (h1 : node ≠ p.fr) : excT node p x = 0 := by simp only [excT, if_neg h, if_neg h1]

theorem ret_ib {a a' : Int} {b b' : Bool} (h : (a, b) = (a', b')) : Ending.returned (.tuple #[.int .i64 a, .bool b]) = .returned (.tuple #[.int .i64 a', .bool b']) := by
  injection h with h1 h2; rw [h1, h2]

theorem zip_at {ps : List Pp} {xs : List Int} {k : Nat} (h : k < ps.length) (h' : k < xs.length) : (ps.zip xs)[k]'(by simp; omega) = (ps[k], xs[k]) := by simp

theorem int_info : (Tryz.prog.info? 3).map (fun i => (i.zero, i.size, i.bytes)) = some (some (.int .i64 0), 1, 8) := by kernel_rfl

theorem ret_vb {v : Value} {b b' : Bool} (h : b = b') : Ending.returned (.tuple #[v, .bool b]) = .returned (.tuple #[v, .bool b']) := by rw [h]

theorem run_make_ints {n : Nat} (hn : n ≤ 4194304) (w : World) :
    (Instr.makeSlice 30 (.int .i64 (n : Int)) (.int .i64 (n : Int))).run Tryz.prog w = .ok (.slice (some ⟨w.heap.size, 0, none⟩) n n) (w.alloc (.cells (madeCells #[.int .i64 0] n) 3)) := by
  obtain ⟨i0, hi, hz0, hz1, hz2⟩ := info_parts int_info
  have h := run_make (P := Tryz.prog) w 30 3 i0 (.int .i64 0) Tryz.underlying30 hi hz0 .i64 .i64 n n (by omega) (by omega) (by rw [hz2]; omega) (by omega)
  simp only [Int.toNat_natCast, hz1, Nat.mul_one] at h
  exact h

theorem pipe_info : (Tryz.prog.info? 35).map (fun i => (i.zero, i.size, i.bytes)) = some (some (.agg #[.int .i64 0, .int .i64 0, .int .i64 0, .int .i64 0, .int .i64 0]), 5, 40) := by kernel_rfl

theorem run_make_pipes {n : Nat} (hn : n ≤ 4194304) (w : World) :
    (Instr.makeSlice 23 (.int .i64 (n : Int)) (.int .i64 (n : Int))).run Tryz.prog w = .ok (.slice (some ⟨w.heap.size, 0, none⟩) n n) (w.alloc (.cells (madeCells #[.int .i64 0, .int .i64 0, .int .i64 0, .int .i64 0, .int .i64 0] (n * 5)) 35)) := by
  obtain ⟨i0, hi, hz0, hz1, hz2⟩ := info_parts pipe_info
  have h := run_make (P := Tryz.prog) w 23 35 i0 _ Tryz.underlying23 hi hz0 .i64 .i64 n n (by omega) (by omega) (by rw [hz2]; omega) (by omega)
  simp only [Int.toNat_natCast, hz1] at h
  exact h

theorem set5_list (qs : List Pp) (k : Nat) (hk : k < qs.length) (p : Pp) :
    (((((qs.flatMap Pp.cells).set (k * 5) (.int .i64 p.fr)).set (k * 5 + 1) (.int .i64 p.to)).set (k * 5 + 2) (.int .i64 p.le)).set (k * 5 + 3) (.int .i64 p.mo)).set (k * 5 + 4) (.int .i64 p.co) = (qs.set k p).flatMap Pp.cells := by
  induction qs generalizing k with
  | nil => simp at hk
  | cons q qs ih =>
    cases k with
    | zero => simp [List.flatMap_cons, Pp.cells]
    | succ k =>
      have h := ih k (by simpa using hk)
      have e : (k + 1) * 5 = k * 5 + 5 := by omega
      rw [e, List.set_cons_succ, List.flatMap_cons, List.flatMap_cons, ← h]
      simp [Pp.cells]

section
variable {w : World} {b g n cap k : Nat} {e : TypeId} {qs : List Pp}
theorem own_set5 (h : w.ownsRow b e 5 (.slice (some ⟨g, 0, none⟩) n cap) n (qs.flatMap Pp.cells)) (hk : k < qs.length) (p : Pp) :
    (((((w.setCell ⟨g, k * 5, none⟩ (.int .i64 p.fr)).setCell ⟨g, k * 5 + 1, none⟩ (.int .i64 p.to)).setCell ⟨g, k * 5 + 2, none⟩ (.int .i64 p.le)).setCell ⟨g, k * 5 + 3, none⟩ (.int .i64 p.mo)).setCell ⟨g, k * 5 + 4, none⟩ (.int .i64 p.co)).ownsRow b e 5 (.slice (some ⟨g, 0, none⟩) n cap) n ((qs.set k p).flatMap Pp.cells) := by
  rw [← set5_list qs k hk p]
  exact ((((((h.stored _ _).1.stored _ _).1.stored _ _).1.stored _ _).1.stored _ _).1)
theorem own_cells5 (h : w.ownsRow b e 5 (.slice (some ⟨g, 0, none⟩) n cap) n (qs.flatMap Pp.cells)) (hk : k < qs.length) :
    g < w.heap.size ∧ (w.cell? ⟨g, k * 5, none⟩ = some (.int .i64 qs[k].fr) ∧ w.cell? ⟨g, k * 5 + 1, none⟩ = some (.int .i64 qs[k].to) ∧ w.cell? ⟨g, k * 5 + 2, none⟩ = some (.int .i64 qs[k].le) ∧
      w.cell? ⟨g, k * 5 + 3, none⟩ = some (.int .i64 qs[k].mo) ∧ w.cell? ⟨g, k * 5 + 4, none⟩ = some (.int .i64 qs[k].co)) ∧
    ∀ j, w.frozen? ⟨g, j, none⟩ = false := by
  have hl : qs.length = n := by
    have := h.1
    have h5 : (qs.flatMap Pp.cells).length = qs.length * 5 := by
      clear this h hk
      induction qs with
      | nil => rfl
      | cons q qs ih => rw [List.flatMap_cons, List.length_append, ih]; simp [Pp.cells]; omega
    omega
  have hc : ∀ j u, (qs[k].cells)[j]? = some u → j < 5 → w.cell? ⟨g, k * 5 + j, none⟩ = some u := by
    intro j u hj h5
    rw [h.cellAt (k * 5 + j) (by omega), pp_cells qs k hk j h5, hj]
  refine ⟨(h.lt g rfl).2, ⟨hc 0 _ rfl (by omega), hc 1 _ rfl (by omega), hc 2 _ rfl (by omega), hc 3 _ rfl (by omega), hc 4 _ rfl (by omega)⟩, fun j => h.frozenAt j⟩
end

theorem flat_len (qs : List Pp) : (qs.flatMap Pp.cells).length = qs.length * 5 := by
  induction qs with
  | nil => rfl
  | cons q qs ih => rw [List.flatMap_cons, List.length_append, ih]; simp [Pp.cells]; omega

def zeroPp : Pp := ⟨0, 0, 0, 0, 0⟩

theorem made_pipes (w : World) (n : Nat) (e : TypeId) (b : Nat) (hb : b ≤ w.heap.size) (hn : n ≤ 4194304) :
    (w.alloc (.cells (madeCells #[.int .i64 0, .int .i64 0, .int .i64 0, .int .i64 0, .int .i64 0] (n * 5)) e)).ownsRow b e 5 (.slice (some ⟨w.heap.size, 0, none⟩) n n) n ((List.replicate n zeroPp).flatMap Pp.cells) := by
  have hs : (madeCells #[.int .i64 0, .int .i64 0, .int .i64 0, .int .i64 0, .int .i64 0] (n * 5) : Array Value).size = n * 5 := by simp [madeCells]
  have h := World.ownsRow_lit (e := e) (base := b) (size := 5) w (madeCells #[.int .i64 0, .int .i64 0, .int .i64 0, .int .i64 0, .int .i64 0] (n * 5)) n hb (by unfold maxLen; omega) hs
  have e2 : (madeCells #[.int .i64 0, .int .i64 0, .int .i64 0, .int .i64 0, .int .i64 0] (n * 5) : Array Value).toList = (List.replicate n zeroPp).flatMap Pp.cells := by
    apply List.ext_getElem?
    intro i
    by_cases hi : i < n * 5
    · have hq : i / 5 < (List.replicate n zeroPp).length := by simp; omega
      have h5 := pp_cells (List.replicate n zeroPp) (i / 5) hq (i % 5) (by omega)
      have ei : i / 5 * 5 + i % 5 = i := by omega
      rw [ei] at h5
      rw [h5]
      have hm : i % 5 < 5 := Nat.mod_lt _ (by omega)
      simp only [madeCells, List.getElem_replicate, zeroPp, Pp.cells]
      generalize hr : i % 5 = r at *
      simp [hi, hr]
      match r, hm with
      | 0, _ => rfl
      | 1, _ => rfl
      | 2, _ => rfl
      | 3, _ => rfl
      | 4, _ => rfl
    · rw [List.getElem?_eq_none (by simp [hs]; omega), List.getElem?_eq_none (by rw [flat_len]; simp; omega)]
  rw [e2] at h
  exact h

theorem made_ints (w : World) (n : Nat) (e : TypeId) (b : Nat) (hb : b ≤ w.heap.size) (hn : n ≤ 4194304) :
    (w.alloc (.cells (madeCells #[.int .i64 0] n) e)).ownsRow b e 1 (.slice (some ⟨w.heap.size, 0, none⟩) n n) n ((List.replicate n (0 : Int)).map (Value.int .i64)) := by
  have h := World.ownsRow_lit (e := e) (base := b) (size := 1) w (madeCells #[.int .i64 0] n) n hb (by unfold maxLen; omega) (by simp [madeCells])
  rw [toList_madeCells_one] at h
  simpa using h

theorem Pipes_nil (w : World) (b : Nat) : Pipes w b (.slice none 0 0) [] := ⟨World.ownsRow_nil w b _ 5, Nat.zero_le _⟩
end Go.Proofs.YtmgpekdhcghabaaGreat

/- Plain facts on sides of a net, what goes over a cut, rooms and least rooms, chapter 2. -/
namespace Go.Proofs.YtmgpekdhcghabaaGreat
open Go.RowKit

theorem beq_dec (x y : Int) : (x == y) = decide (x = y) := by rw [Bool.eq_iff_iff]; simp
theorem bne_dec (x y : Int) : (x != y) = !decide (x = y) := by rw [Bool.eq_iff_iff]; simp

/-- is a node of the side -/
def bitB (s k : Int) : Bool := decide (s / 2 ^ k.toNat % 2 = 1)
def partsB (s a b : Int) : Bool := bitB s a && !bitB s b
def sideB (n : Int) (ps : List Pp) (s : Int) : Bool := netOkB n ps && withinB s 0 (2 ^ n.toNat - 1)

theorem cases5 {k : Int} (h0 : 0 ≤ k) (h1 : k ≤ 4) : k = 0 ∨ k = 1 ∨ k = 2 ∨ k = 3 ∨ k = 4 := by omega

theorem bit_not {s k : Int} (h0 : 0 ≤ k) (h1 : k ≤ 4) : bitB (-1 - s) k = !bitB s k := by
  rw [Bool.eq_iff_iff]
  rcases cases5 h0 h1 with rfl | rfl | rfl | rfl | rfl <;> simp [bitB] <;> omega

theorem parts_not {s a b : Int} (h0 : 0 ≤ a) (h1 : a ≤ 4) (h2 : 0 ≤ b) (h3 : b ≤ 4) : partsB (-1 - s) a b = partsB s b a := by
  rw [partsB, partsB, bit_not h0 h1, bit_not h2 h3, Bool.not_not, Bool.and_comm]

theorem parts_one {s a b : Int} (h : partsB s a b = true) : partsB s b a = false := by
  simp only [partsB, Bool.and_eq_true, Bool.not_eq_true'] at h
  simp [partsB, h.1, h.2]

/-- what an amount over a cut adds -/
def acT (s : Int) (p : Pp) (o b : Int) : Int := if partsB s p.fr p.to = true then o else if partsB s p.to p.fr = true then -b else 0
def room (s : Int) (ps : List Pp) : Int := (ps.map fun p => acT s p p.mo p.le).sum
def across (s : Int) (ps : List Pp) (xs : List Int) : Int := ((ps.zip xs).map fun q => acT s q.1 q.2 q.2).sum

theorem acT_out {s : Int} {p : Pp} {o b : Int} (h : partsB s p.fr p.to = true) : acT s p o b = o := by rw [acT, if_pos h]
theorem acT_back {s : Int} {p : Pp} {o b : Int} (h : partsB s p.fr p.to = false) (h1 : partsB s p.to p.fr = true) : acT s p o b = -b := by rw [acT, if_neg (by simp [h]), if_pos h1]
theorem acT_no {s : Int} {p : Pp} {o b : Int} (h : partsB s p.fr p.to = false) (h1 : partsB s p.to p.fr = false) : acT s p o b = 0 := by rw [acT, if_neg (by simp [h]), if_neg (by simp [h1])]

theorem acT_bd {s : Int} {p : Pp} {o b m : Int} (h0 : 0 ≤ o) (h1 : o ≤ m) (h2 : 0 ≤ b) (h3 : b ≤ m) : -m ≤ acT s p o b ∧ acT s p o b ≤ m := by
  unfold acT; repeat' split
  all_goals omega

theorem room_snoc (s : Int) (ps : List Pp) (k : Nat) (hp : k < ps.length) : room s (ps.take (k + 1)) = room s (ps.take k) + acT s ps[k] ps[k].mo ps[k].le := by
  unfold room
  rw [List.take_succ_eq_append_getElem hp, List.map_append, List.sum_append]
  simp only [List.map_cons, List.map_nil, List.sum_cons, List.sum_nil, Int.add_zero]

theorem room_bd (s : Int) (ps : List Pp) (h : ∀ p ∈ ps, 0 ≤ p.le ∧ p.le ≤ p.mo ∧ p.mo ≤ 4) : -(4 * (ps.length : Int)) ≤ room s ps ∧ room s ps ≤ 4 * (ps.length : Int) := by
  induction ps with
  | nil => simp [room]
  | cons p ps ih =>
    have h1 := ih (fun y hy => h y (by simp [hy]))
    have hp := h p (by simp)
    have h2 := acT_bd (s := s) (p := p) (o := p.mo) (b := p.le) (m := 4) (by omega) (by omega) (by omega) (by omega)
    have e : room s (p :: ps) = acT s p p.mo p.le + room s ps := by simp [room]
    rw [e]
    simp only [List.length_cons]
    omega

theorem net_rooms {n : Int} {ps : List Pp} (h : netOkB n ps = true) : ∀ p ∈ ps, 0 ≤ p.le ∧ p.le ≤ p.mo ∧ p.mo ≤ 4 := fun p hp => by
  have := pipeOk_parts ((netOk_parts h).2.2.2 p hp)
  omega

theorem net_ends {n : Int} {ps : List Pp} (h : netOkB n ps = true) : ∀ p ∈ ps, 0 ≤ p.fr ∧ p.fr ≤ 4 ∧ 0 ≤ p.to ∧ p.to ≤ 4 := fun p hp => by
  have h1 := pipeOk_parts ((netOk_parts h).2.2.2 p hp)
  have h2 := netOk_parts h
  omega

/-- the numbers below a count that fit, in ascending order -/
def numW (c : Nat) (f : Nat → Bool) : List Int := ((List.range c).filter f).map fun i : Nat => (i : Int)

theorem numW_yes {c : Nat} {f : Nat → Bool} (h : f c = true) : numW (c + 1) f = numW c f ++ [(c : Int)] := by
  simp [numW, List.range_succ, List.filter_append, h]
theorem numW_no {c : Nat} {f : Nat → Bool} (h : f c = false) : numW (c + 1) f = numW c f := by
  simp [numW, List.range_succ, List.filter_append, h]
theorem numW_len (c : Nat) (f : Nat → Bool) : (numW c f).length ≤ c := by
  simp only [numW, List.length_map]
  exact Nat.le_trans (List.length_filter_le _ _) (by simp)
theorem numW_mem {c : Nat} {f : Nat → Bool} {x : Int} : x ∈ numW c f ↔ ∃ i : Nat, i < c ∧ f i = true ∧ x = (i : Int) := by
  simp only [numW, List.mem_map, List.mem_filter, List.mem_range]
  constructor
  · rintro ⟨i, ⟨h1, h2⟩, rfl⟩; exact ⟨i, h1, h2, rfl⟩
  · rintro ⟨i, h1, h2, rfl⟩; exact ⟨i, ⟨h1, h2⟩, rfl⟩

def endsB (n : Int) (ps : List Pp) (a b : Int) : Bool := netOkB n ps && withinB a 0 (n - 1) && withinB b 0 (n - 1) && decide (a ≠ b)
theorem ends_parts {n : Int} {ps : List Pp} {a b : Int} (h : endsB n ps a b = true) : netOkB n ps = true ∧ 0 ≤ a ∧ a < n ∧ 0 ≤ b ∧ b < n ∧ a ≠ b := by
  simp only [endsB, withinB, Bool.and_eq_true, decide_eq_true_eq] at h
  obtain ⟨⟨⟨h1, h2, h3⟩, h4, h5⟩, h6⟩ := h
  exact ⟨h1, h2, by omega, h4, by omega, h6⟩

def sidesL (n a b : Int) : List Int := numW (2 ^ n.toNat) fun s => partsB s a b
def minL (ps : List Pp) (x : Int) (l : List Int) : Int := l.foldl (fun m s => min m (room s ps)) x
/-- the least room between two nodes -/
def leastI (n : Int) (ps : List Pp) (a b : Int) : Int := minL ps (room (2 ^ a.toNat) ps) (sidesL n a b)
def leastR (n : Int) (ps : List Pp) (a b : Int) : Int × Bool := if endsB n ps a b = true then (leastI n ps a b, true) else (0, false)
def narrowL (n : Int) (ps : List Pp) (a b : Int) : List Int :=
  if endsB n ps a b = true then numW (2 ^ n.toNat) fun s => partsB s a b && decide (room s ps = leastI n ps a b) else []
def leavingL (n : Int) (ps : List Pp) (s : Int) : List Int :=
  if sideB n ps s = true then numW ps.length fun k => ps[k]?.any fun p => partsB s p.fr p.to else []

def leavF (s : Int) (ps : List Pp) (k : Nat) : Bool := ps[k]?.any fun p => partsB s p.fr p.to
theorem leavF_at {s : Int} {ps : List Pp} {k : Nat} (hk : k < ps.length) : leavF s ps k = partsB s ps[k].fr ps[k].to := by
  rw [leavF, List.getElem?_eq_getElem hk]; rfl

theorem leaving_yes {n : Int} {ps : List Pp} {s : Int} (h : sideB n ps s = true) : leavingL n ps s = numW ps.length (leavF s ps) := by rw [leavingL, if_pos h]; rfl
theorem minL_le (ps : List Pp) (l : List Int) : ∀ x, minL ps x l ≤ x ∧ (∀ s ∈ l, minL ps x l ≤ room s ps) ∧ (minL ps x l = x ∨ ∃ s ∈ l, minL ps x l = room s ps) := by
  induction l with
  | nil => intro x; simp [minL]
  | cons t l ih =>
    intro x
    obtain ⟨h1, h2, h3⟩ := ih (min x (room t ps))
    have e : minL ps x (t :: l) = minL ps (min x (room t ps)) l := rfl
    rw [e]
    refine ⟨by omega, ?_, ?_⟩
    · intro s hs
      rcases List.mem_cons.1 hs with rfl | hs
      · omega
      · exact h2 s hs
    · rcases h3 with h3 | ⟨s, hs, h3⟩
      · rcases Int.le_total x (room t ps) with hx | hx
        · left; omega
        · right; exact ⟨t, by simp, by omega⟩
      · right; exact ⟨s, by simp [hs], h3⟩

theorem minL_snoc (ps : List Pp) (x : Int) (l : List Int) (k : Nat) (hk : k < l.length) : minL ps x (l.take (k + 1)) = min (minL ps x (l.take k)) (room l[k] ps) := by
  rw [List.take_succ_eq_append_getElem hk, minL, List.foldl_append]
  rfl

/-- one node alone is a side with it, and without another one -/
theorem one_side {n a b : Int} (h0 : 0 ≤ a) (h1 : a < n) (h2 : 0 ≤ b) (h3 : b < n) (h4 : n ≤ 5) (hab : a ≠ b) : (2 ^ a.toNat : Int) ∈ sidesL n a b := by
  rw [sidesL, numW_mem]
  refine ⟨2 ^ a.toNat, Nat.pow_lt_pow_right (by omega) (by omega), ?_, by simp⟩
  rcases cases5 h0 (by omega) with rfl | rfl | rfl | rfl | rfl <;> rcases cases5 h2 (by omega) with rfl | rfl | rfl | rfl | rfl <;>
    first | (exfalso; exact hab rfl) | decide

theorem sides_ne {n a b : Int} (h0 : 0 ≤ a) (h1 : a < n) (h2 : 0 ≤ b) (h3 : b < n) (h4 : n ≤ 5) (hab : a ≠ b) : 0 < (sidesL n a b).length :=
  List.length_pos_of_mem (one_side h0 h1 h2 h3 h4 hab)

theorem sides_len (n a b : Int) (h : n ≤ 5) : (sidesL n a b).length ≤ 32 := by
  refine Nat.le_trans (numW_len _ _) ?_
  exact Nat.le_trans (Nat.pow_le_pow_right (by omega) (show n.toNat ≤ 5 by omega)) (by decide)

theorem sides_in (n a b : Int) (h : n ≤ 5) : ∀ k (hk : k < (sidesL n a b).length), 0 ≤ (sidesL n a b)[k] ∧ (sidesL n a b)[k] ≤ 31 := by
  intro k hk
  obtain ⟨i, hi, _, hx⟩ := numW_mem.1 (List.getElem_mem hk)
  have hp : 2 ^ n.toNat ≤ 32 := Nat.le_trans (Nat.pow_le_pow_right (by omega) (show n.toNat ≤ 5 by omega)) (by decide)
  have hx' : (sidesL n a b)[k] = (i : Int) := hx
  omega

/-- from the first one on, or from any one on, it is the same least room -/
theorem least_first {n : Int} {ps : List Pp} {a b : Int} (h : endsB n ps a b = true) (h5 : n ≤ 5) (hl : 0 < (sidesL n a b).length) :
    minL ps (room (sidesL n a b)[0] ps) ((sidesL n a b).drop 1) = leastI n ps a b := by
  obtain ⟨_, h0, h1, h2, h3, hab⟩ := ends_parts h
  have hone := one_side h0 h1 h2 h3 h5 hab
  unfold leastI
  generalize sidesL n a b = l at *
  cases l with
  | nil => simp at hl
  | cons t l =>
    obtain ⟨a1, a2, a3⟩ := minL_le ps (List.drop 1 (t :: l)) (room (t :: l)[0] ps)
    obtain ⟨b1, b2, b3⟩ := minL_le ps (t :: l) (room (2 ^ a.toNat) ps)
    simp only [List.drop_succ_cons, List.drop_zero, List.getElem_cons_zero] at *
    have c1 : ∀ s ∈ t :: l, minL ps (room t ps) l ≤ room s ps := by
      intro s hs
      rcases List.mem_cons.1 hs with rfl | hs
      · exact a1
      · exact a2 s hs
    have c2 := c1 _ hone
    apply Int.le_antisymm
    · rcases b3 with b3 | ⟨s, hs, b3⟩
      · rw [b3]; exact c2
      · rw [b3]; exact c1 s hs
    · rcases a3 with a3 | ⟨s, hs, a3⟩
      · rw [a3]; exact b2 t (by simp)
      · rw [a3]; exact b2 s (by simp [hs])

end Go.Proofs.YtmgpekdhcghabaaGreat

/- Plain facts for the promises of chapters 1 and 2: sums over nodes, turned nets, sides and what lacks to them. -/
namespace Go.Proofs.YtmgpekdhcghabaaGreat
open Go.RowKit

/-! ### sums over nodes -/
def nodeSum (n : Nat) (f : Nat → Int) : Int := ((List.range n).map f).sum
theorem nodeSum_succ (n : Nat) (f : Nat → Int) : nodeSum (n + 1) f = nodeSum n f + f n := by simp [nodeSum, List.range_succ]
theorem nodeSum_add (n : Nat) (f g : Nat → Int) : nodeSum n (fun k => f k + g k) = nodeSum n f + nodeSum n g := by
  induction n with
  | zero => rfl
  | succ n ih => rw [nodeSum_succ, nodeSum_succ, nodeSum_succ, ih]; omega
theorem nodeSum_zero (n : Nat) (f : Nat → Int) (h : ∀ k, k < n → f k = 0) : nodeSum n f = 0 := by
  induction n with
  | zero => rfl
  | succ n ih => rw [nodeSum_succ, ih (fun k hk => h k (by omega)), h n (by omega)]; rfl
theorem nodeSum_congr {n : Nat} {f g : Nat → Int} (h : ∀ k, k < n → f k = g k) : nodeSum n f = nodeSum n g := by
  induction n with
  | zero => rfl
  | succ n ih => rw [nodeSum_succ, nodeSum_succ, ih (fun k hk => h k (by omega)), h n (by omega)]
theorem nodeSum_one (n : Nat) (a x : Int) : nodeSum n (fun k => if (k : Int) = a then x else 0) = if 0 ≤ a ∧ a < n then x else 0 := by
  induction n with
  | zero => rw [if_neg (by omega)]; rfl
  | succ n ih =>
    rw [nodeSum_succ, ih]
    split <;> split <;> split <;> omega

theorem excT_two {k : Int} {p : Pp} {x : Int} (h : p.fr ≠ p.to) : excT k p x = (if k = p.to then x else 0) + (if k = p.fr then -x else 0) := by
  unfold excT
  split <;> split <;> (try split) <;> omega

theorem exc_cons (k : Int) (p : Pp) (ps : List Pp) (x : Int) (xs : List Int) : exc k (p :: ps) (x :: xs) = excT k p x + exc k ps xs := by simp [exc]
theorem exc_nil1 (k : Int) (xs : List Int) : exc k [] xs = 0 := by simp [exc]
theorem exc_nil2 (k : Int) (ps : List Pp) : exc k ps [] = 0 := by simp [exc]

/-- two different nodes of so many -/
def endsIn (n : Int) (p : Pp) : Prop := 0 ≤ p.fr ∧ p.fr < n ∧ 0 ≤ p.to ∧ p.to < n ∧ p.fr ≠ p.to
theorem net_endsIn {n : Int} {ps : List Pp} (h : netOkB n ps = true) : ∀ p ∈ ps, endsIn n p := fun p hp => by
  have h1 := pipeOk_parts ((netOk_parts h).2.2.2 p hp)
  exact ⟨h1.1, h1.2.1, h1.2.2.1, h1.2.2.2.1, h1.2.2.2.2.1⟩

theorem exc_sum0 (n : Nat) (ps : List Pp) (xs : List Int) (h : ∀ p ∈ ps, endsIn n p) : nodeSum n (fun k => exc k ps xs) = 0 := by
  induction ps generalizing xs with
  | nil => exact nodeSum_zero _ _ fun k _ => exc_nil1 _ _
  | cons p ps ih =>
    cases xs with
    | nil => exact nodeSum_zero _ _ fun k _ => exc_nil2 _ _
    | cons x xs =>
      obtain ⟨h0, h1, h2, h3, h4⟩ := h p (by simp)
      have e : nodeSum n (fun k => exc k (p :: ps) (x :: xs)) = nodeSum n (fun k => ((if (k : Int) = p.to then x else 0) + (if (k : Int) = p.fr then -x else 0)) + exc k ps xs) :=
        nodeSum_congr fun k _ => by rw [exc_cons, excT_two h4]
      rw [e, nodeSum_add, nodeSum_add, nodeSum_one, nodeSum_one, ih xs (fun q hq => h q (by simp [hq])), if_pos ⟨h2, h3⟩, if_pos ⟨h0, h1⟩]
      omega

theorem exc_sum {n : Int} {ps : List Pp} (xs : List Int) (h : netOkB n ps = true) : nodeSum n.toNat (fun k => exc k ps xs) = 0 := by
  have hn := (netOk_parts h).1
  have e : ((n.toNat : Nat) : Int) = n := Int.toNat_of_nonneg (by omega)
  exact exc_sum0 _ _ _ (by rw [e]; exact net_endsIn h)

theorem pipeOk_iff {n a b c d e : Int} : pipeOkB n a b c d e = true ↔ (0 ≤ a ∧ a < n ∧ 0 ≤ b ∧ b < n ∧ a ≠ b ∧ 0 ≤ c ∧ c ≤ d ∧ d ≤ 4 ∧ -9 ≤ e ∧ e ≤ 9) := by
  refine ⟨pipeOk_parts, ?_⟩
  rintro ⟨h1, h2, h3, h4, h5, h6, h7, h8, h9, h10⟩
  have h2' : a ≤ n - 1 := by omega
  have h4' : b ≤ n - 1 := by omega
  simp [pipeOkB, withinB, h1, h2', h3, h4', h5, h6, h7, h8, h9, h10]
theorem across_cons (s : Int) (p : Pp) (ps : List Pp) (x : Int) (xs : List Int) : across s (p :: ps) (x :: xs) = acT s p x x + across s ps xs := by simp [across]
theorem across_nil1 (s : Int) (xs : List Int) : across s [] xs = 0 := by simp [across]
theorem across_nil2 (s : Int) (ps : List Pp) : across s ps [] = 0 := by simp [across]
theorem room_cons (s : Int) (p : Pp) (ps : List Pp) : room s (p :: ps) = acT s p p.mo p.le + room s ps := by simp [room]

/-- the sum of the excess of all nodes of a side -/
def sideExc (n : Nat) (s : Int) (ps : List Pp) (xs : List Int) : Int := nodeSum n fun k => if bitB s k = true then exc k ps xs else 0
theorem across_exc {n : Int} {s : Int} {ps : List Pp} (xs : List Int) (h : netOkB n ps = true) : across s ps xs + sideExc n.toNat s ps xs = 0 := by
  have he := net_endsIn h
  have hn : ((n.toNat : Nat) : Int) = n := Int.toNat_of_nonneg (by have := netOk_parts h; omega)
  clear h
  rw [← hn] at he
  unfold sideExc
  induction ps generalizing xs with
  | nil => rw [across_nil1, nodeSum_zero _ _ (fun k _ => by rw [exc_nil1]; simp)]; rfl
  | cons p ps ih =>
    cases xs with
    | nil => rw [across_nil2, nodeSum_zero _ _ (fun k _ => by rw [exc_nil2]; simp)]; rfl
    | cons x xs =>
      obtain ⟨h0, h1, h2, h3, h4⟩ := he p (by simp)
      have i := ih xs (fun q hq => he q (by simp [hq]))
      have e : nodeSum n.toNat (fun k => if bitB s k = true then exc k (p :: ps) (x :: xs) else 0) = nodeSum n.toNat (fun k => ((if (k : Int) = p.to then (if bitB s p.to = true then x else 0) else 0) + (if (k : Int) = p.fr then (if bitB s p.fr = true then -x else 0) else 0)) + (if bitB s k = true then exc k ps xs else 0)) :=
        nodeSum_congr fun k _ => by
          rw [exc_cons, excT_two h4]
          by_cases e1 : (k : Int) = p.to
          · have e2 : ¬ (k : Int) = p.fr := by omega
            simp only [e1, if_true, if_neg (show ¬ p.to = p.fr by omega)]
            split <;> omega
          · by_cases e2 : (k : Int) = p.fr
            · simp only [e2, if_true, if_neg h4]
              split <;> omega
            · simp only [if_neg e1, if_neg e2]
              split <;> omega
      rw [e, nodeSum_add, nodeSum_add, nodeSum_one, nodeSum_one, if_pos (show 0 ≤ p.to ∧ p.to < ((n.toNat : Nat) : Int) from ⟨h2, h3⟩), if_pos (show 0 ≤ p.fr ∧ p.fr < ((n.toNat : Nat) : Int) from ⟨h0, h1⟩), across_cons, acT, partsB, partsB]
      cases bitB s p.fr <;> cases bitB s p.to <;> simp <;> omega

theorem holds_parts {n : Int} {ps : List Pp} {xs : List Int} (h : holdsB n ps xs = true) : flowOkB n ps xs = true ∧ ((ps.zip xs).all fun q => withinB q.2 q.1.le q.1.mo) = true ∧ xs.length = ps.length := by
  simp only [holdsB, Bool.and_eq_true] at h
  exact ⟨h.1, h.2, (flowOk_parts h.1).2.1⟩

end Go.Proofs.YtmgpekdhcghabaaGreat

/- Plain facts for the promises of chapter 2: rooms of both and of the common side, turned nets' rooms, least rooms, narrowest sides. -/
namespace Go.Proofs.YtmgpekdhcghabaaGreat
open Go.RowKit

section
variable {n s t k : Int}
theorem bit_zero (k : Int) : bitB 0 k = false := by simp [bitB]
/-! ### least rooms -/
theorem pow_cast (n : Nat) : ((2 ^ n : Nat) : Int) = 2 ^ n := by simp
theorem least_le {ps : List Pp} {a b : Int} (h0 : 0 ≤ s) (h1 : s ≤ 2 ^ n.toNat - 1) (hp : partsB s a b = true) : leastI n ps a b ≤ room s ps := by
  refine (minL_le ps (sidesL n a b) (room (2 ^ a.toNat) ps)).2.1 s ?_
  rw [sidesL, numW_mem]
  have := pow_cast n.toNat
  exact ⟨s.toNat, by omega, by rw [Int.toNat_of_nonneg h0]; exact hp, by omega⟩
theorem least_at {ps : List Pp} {a b : Int} (h : endsB n ps a b = true) : ∃ s, 0 ≤ s ∧ s ≤ 2 ^ n.toNat - 1 ∧ partsB s a b = true ∧ leastI n ps a b = room s ps := by
  obtain ⟨hok, a0, a1, b0, b1, hab⟩ := ends_parts h
  have hn := netOk_parts hok
  have hone := one_side a0 a1 b0 b1 hn.2.1 hab
  have key : ∀ s ∈ sidesL n a b, 0 ≤ s ∧ s ≤ 2 ^ n.toNat - 1 ∧ partsB s a b = true := by
    intro s hs
    rw [sidesL, numW_mem] at hs
    obtain ⟨i, hi, hf, rfl⟩ := hs
    have := pow_cast n.toNat
    exact ⟨by omega, by omega, hf⟩
  rcases (minL_le ps (sidesL n a b) (room (2 ^ a.toNat) ps)).2.2 with e | ⟨s, hs, e⟩
  · obtain ⟨k0, k1, k2⟩ := key _ hone
    exact ⟨_, k0, k1, k2, e⟩
  · obtain ⟨k0, k1, k2⟩ := key _ hs
    exact ⟨_, k0, k1, k2, e⟩
theorem side_of {ps : List Pp} (h : netOkB n ps = true) (h0 : 0 ≤ s) (h1 : s ≤ 2 ^ n.toNat - 1) : sideB n ps s = true := by
  simp [sideB, h, withinB, h0, h1]
/-! ### narrowest sides -/
theorem narrow_mem {ps : List Pp} {a b : Int} (h : endsB n ps a b = true) {x : Int} : x ∈ narrowL n ps a b ↔ 0 ≤ x ∧ x ≤ 2 ^ n.toNat - 1 ∧ partsB x a b = true ∧ room x ps = leastI n ps a b := by
  have e := pow_cast n.toNat
  rw [narrowL, if_pos h, numW_mem]
  constructor
  · rintro ⟨i, hi, hf, rfl⟩
    simp only [Bool.and_eq_true, decide_eq_true_eq] at hf
    exact ⟨by omega, by omega, hf.1, hf.2⟩
  · rintro ⟨h0, h1, h2, h3⟩
    refine ⟨x.toNat, by omega, ?_, by omega⟩
    rw [Int.toNat_of_nonneg h0]
    simp [h2, h3]
theorem narrow_some {ps : List Pp} {a b : Int} (h : endsB n ps a b = true) : 0 < (narrowL n ps a b).length := by
  obtain ⟨s, s0, s1, hp, e⟩ := least_at h
  exact List.length_pos_of_mem ((narrow_mem h).2 ⟨s0, s1, hp, e.symm⟩)
end

end Go.Proofs.YtmgpekdhcghabaaGreat

/- Plain facts for the promises of chapter 1: how the answers of a node read; bounds of sums. -/
namespace Go.Proofs.YtmgpekdhcghabaaGreat
open Go.RowKit

theorem exc_bd7 {n : Int} {ps : List Pp} {xs : List Int} (h : flowOkB n ps xs = true) (k : Int) : -280 ≤ exc k ps xs ∧ exc k ps xs ≤ 280 := by
  obtain ⟨h1, h2, h3⟩ := flowOk_parts h
  have := exc_bd k ps xs h3
  have := (netOk_parts h1).2.2.1
  omega
theorem shr_bitB {i : Int} (h : 0 ≤ i) (k : Nat) : ((i / 2 ^ k).tmod 2 == 1) = bitB i (k : Int) := by
  rw [Int.tmod_eq_emod_of_nonneg (Int.ediv_nonneg h (Int.le_of_lt (Int.pow_pos (by omega)))), beq_dec, bitB, Int.toNat_natCast]

end Go.Proofs.YtmgpekdhcghabaaGreat

/- Plain facts for the laws of chapter 2: how answers read, shifts. -/
namespace Go.Proofs.YtmgpekdhcghabaaGreat
open Go.RowKit

theorem shl_in5 {k : Int} (h0 : 0 ≤ k) (h1 : k ≤ 5) : IntKind.i64.wrap (2 ^ k.toNat) = 2 ^ k.toNat ∧ wrap64 (2 ^ k.toNat) = 2 ^ k.toNat ∧ (1 : Int) ≤ 2 ^ k.toNat ∧ (2 : Int) ^ k.toNat ≤ 32 := by
  have : k = 0 ∨ k = 1 ∨ k = 2 ∨ k = 3 ∨ k = 4 ∨ k = 5 := by omega
  rcases this with rfl | rfl | rfl | rfl | rfl | rfl <;> decide +kernel
theorem narrow_none {n : Int} {ps : List Pp} {a b : Int} (h : endsB n ps a b = false) : narrowL n ps a b = [] := by simp [narrowL, h]
end Go.Proofs.YtmgpekdhcghabaaGreat

/- Plain facts, chapter 3: free nets. -/
namespace Go.Proofs.YtmgpekdhcghabaaGreat
open Go.RowKit

def freeB (n : Int) (ps : List Pp) : Bool := netOkB n ps && ps.all fun p => decide (p.le = 0)
theorem free_zero {n : Int} {ps : List Pp} (h : netOkB n ps = true) : holdsB n ps (List.replicate ps.length 0) = freeB n ps := by
  have hr := net_rooms h
  have hf : flowOkB n ps (List.replicate ps.length 0) = true := by simp [flowOkB, h, withinB]
  rw [holdsB, freeB, hf, h, Bool.true_and, Bool.true_and]
  clear h hf
  induction ps with
  | nil => rfl
  | cons p ps ih =>
    have hp := hr p (by simp)
    rw [List.length_cons, List.replicate_succ, List.zip_cons_cons, List.all_cons, List.all_cons, ih (fun q hq => hr q (by simp [hq]))]
    congr 1
    rw [Bool.eq_iff_iff]
    simp only [withinB, Bool.and_eq_true, decide_eq_true_eq]
    omega

end Go.Proofs.YtmgpekdhcghabaaGreat

/- Plain facts, chapter 3: steps along pipes and back. -/
namespace Go.Proofs.YtmgpekdhcghabaaGreat
open Go.RowKit

/-- from where to where a step leads, and how much more may go along it -/
def stFr (ps : List Pp) (s : Nat) : Int := if s % 2 = 1 then (ps.getD (s / 2) zeroPp).to else (ps.getD (s / 2) zeroPp).fr
def stTo (ps : List Pp) (s : Nat) : Int := if s % 2 = 1 then (ps.getD (s / 2) zeroPp).fr else (ps.getD (s / 2) zeroPp).to
def stRoom (ps : List Pp) (xs : List Int) (s : Nat) : Int := if s % 2 = 1 then xs.getD (s / 2) 0 - (ps.getD (s / 2) zeroPp).le else (ps.getD (s / 2) zeroPp).mo - xs.getD (s / 2) 0

section
variable {ps : List Pp} {xs : List Int} {s k : Nat}
theorem st_odd (h : s % 2 = 1) (hk : s / 2 = k) (hl : k < ps.length) (hx : k < xs.length) : stFr ps s = ps[k].to ∧ stTo ps s = ps[k].fr ∧ stRoom ps xs s = xs[k] - ps[k].le := by
  subst hk
  simp [stFr, stTo, stRoom, h, List.getD, List.getElem?_eq_getElem hl, List.getElem?_eq_getElem hx]
theorem st_even (h : s % 2 = 0) (hk : s / 2 = k) (hl : k < ps.length) (hx : k < xs.length) : stFr ps s = ps[k].fr ∧ stTo ps s = ps[k].to ∧ stRoom ps xs s = ps[k].mo - xs[k] := by
  subst hk
  simp [stFr, stTo, stRoom, h, List.getD, List.getElem?_eq_getElem hl, List.getElem?_eq_getElem hx]
end

def openF (ps : List Pp) (xs : List Int) (s : Nat) : Bool := decide (0 < stRoom ps xs s)
/-- the steps that may be made, in the order of their numbers -/
def openL (ps : List Pp) (xs : List Int) : List Int := numW (2 * ps.length) (openF ps xs)

end Go.Proofs.YtmgpekdhcghabaaGreat

/- Plain facts, chapter 3: in how few steps one comes from node to node, over any row of edges. -/
namespace Go.Proofs.YtmgpekdhcghabaaGreat
open Go.RowKit

/-- in at most so many edges one comes from one node to another one -/
def inK (E : List (Int × Int)) : Nat → Int → Int → Bool
  | 0, v, c => decide (v = c)
  | k + 1, v, c => inK E k v c || E.any fun e => decide (e.1 = v) && inK E k e.2 c

section
variable {E : List (Int × Int)} {n : Nat} {c v : Int}

theorem inK_succ {k : Nat} : inK E (k + 1) v c = true ↔ inK E k v c = true ∨ ∃ e ∈ E, e.1 = v ∧ inK E k e.2 c = true := by
  simp [inK]
theorem inK_up {k : Nat} (h : inK E k v c = true) : inK E (k + 1) v c = true := inK_succ.2 (.inl h)
theorem inK_mono {k j : Nat} (hkj : k ≤ j) (h : inK E k v c = true) : inK E j v c = true := by
  obtain ⟨d, rfl⟩ : ∃ d, j = k + d := ⟨j - k, by omega⟩
  clear hkj
  induction d with
  | zero => exact h
  | succ d ih => exact inK_up ih
theorem inK_self (k : Nat) : inK E k c c = true := inK_mono (Nat.zero_le k) (by simp [inK])
theorem inK_trans {i j : Nat} {a b d : Int} (h1 : inK E i a b = true) (h2 : inK E j b d = true) : inK E (i + j) a d = true := by
  induction i generalizing a with
  | zero =>
    have : a = b := by simpa [inK] using h1
    subst this; simpa using h2
  | succ i ih =>
    have e : i + 1 + j = i + j + 1 := by omega
    rw [e]
    rcases inK_succ.1 h1 with h | ⟨x, hx, rfl, h⟩
    · exact inK_up (ih h)
    · exact inK_succ.2 (.inr ⟨x, hx, rfl, ih h⟩)
theorem inK_edge {e : Int × Int} (he : e ∈ E) : inK E 1 e.1 e.2 = true := inK_succ.2 (.inr ⟨e, he, rfl, by simp [inK]⟩)
theorem inK_snoc {k : Nat} {e : Int × Int} (h : inK E k v e.1 = true) (he : e ∈ E) : inK E (k + 1) v e.2 = true := inK_trans h (inK_edge he)
/-- all edges lie among so many nodes -/
def edgesIn (n : Nat) (E : List (Int × Int)) : Prop := ∀ e ∈ E, (0 ≤ e.1 ∧ e.1 < n) ∧ (0 ≤ e.2 ∧ e.2 < n)

theorem inK_in {k : Nat} (hE : edgesIn n E) (hc : 0 ≤ c ∧ c < n) (h : inK E k v c = true) : 0 ≤ v ∧ v < n := by
  cases k with
  | zero =>
    have : v = c := by simpa [inK] using h
    subst this; exact hc
  | succ k =>
    induction k with
    | zero =>
      rcases inK_succ.1 h with h | ⟨e, he, rfl, h⟩
      · have : v = c := by simpa [inK] using h
        subst this; exact hc
      · exact (hE e he).1
    | succ k ih =>
      rcases inK_succ.1 h with h | ⟨e, he, rfl, h⟩
      · exact ih h
      · exact (hE e he).1

theorem countP_lt {α : Type} {p q : α → Bool} {l : List α} (h : ∀ x ∈ l, p x = true → q x = true) {y : α} (hy : y ∈ l) (h1 : p y = false) (h2 : q y = true) : l.countP p < l.countP q := by
  induction l with
  | nil => simp at hy
  | cons a l ih =>
    have hm : l.countP p ≤ l.countP q := List.countP_mono_left fun x hx => h x (by simp [hx])
    rw [List.countP_cons, List.countP_cons]
    rcases List.mem_cons.1 hy with rfl | hy
    · simp [h1, h2]; omega
    · have := ih (fun x hx => h x (by simp [hx])) hy
      have ha := h a (by simp)
      by_cases hp : p a = true
      · simp [hp, ha hp]; omega
      · simp [hp]; omega

theorem inK_stable {k : Nat} (h : ∀ v, inK E (k + 1) v c = true → inK E k v c = true) (m : Nat) (v : Int) (hv : inK E (k + m) v c = true) : inK E k v c = true := by
  induction m generalizing v with
  | zero => exact hv
  | succ m ih =>
    have e : k + (m + 1) = k + m + 1 := by omega
    rw [e] at hv
    rcases inK_succ.1 hv with hv | ⟨x, hx, hxv, hg⟩
    · exact ih v hv
    · exact h _ (inK_succ.2 (.inr ⟨x, hx, hxv, ih _ hg⟩))

theorem inK_grow (hc : 0 ≤ c ∧ c < n) (hE : edgesIn n E) (k : Nat) : k + 1 ≤ (List.range n).countP (fun v : Nat => inK E k v c) ∨ ∀ v, inK E (k + 1) v c = true → inK E k v c = true := by
  induction k with
  | zero =>
    left
    have : 0 < (List.range n).countP (fun v : Nat => inK E 0 v c) := List.countP_pos_iff.2 ⟨c.toNat, by simp; omega, by simp [inK]; omega⟩
    omega
  | succ k ih =>
    rcases ih with ih | ih
    · by_cases hs : ∀ v, inK E (k + 1) v c = true → inK E k v c = true
      · right
        intro v hv
        exact inK_up (inK_stable hs 2 v hv)
      · left
        have : ∃ v, inK E (k + 1) v c = true ∧ inK E k v c = false := by
          apply Classical.byContradiction
          intro hn
          apply hs
          intro v hv
          apply Classical.byContradiction
          intro h2
          exact hn ⟨v, hv, by simpa using h2⟩
        obtain ⟨v, h1, h2⟩ := this
        have hin := inK_in hE hc h1
        have hv : ((v.toNat : Nat) : Int) = v := by omega
        have := countP_lt (p := fun v : Nat => inK E k v c) (q := fun v : Nat => inK E (k + 1) v c) (l := List.range n) (fun x _ hx => inK_up hx) (y := v.toNat) (by simp; omega) (by simp only [hv]; exact h2) (by simp only [hv]; exact h1)
        omega
    · right
      intro v hv
      exact inK_up (inK_stable ih 2 v hv)

theorem inK_all (hc : 0 ≤ c ∧ c < n) (hE : edgesIn n E) {m : Nat} (h : inK E m v c = true) : inK E (n - 1) v c = true := by
  have hst : ∀ v, inK E (n - 1 + 1) v c = true → inK E (n - 1) v c = true := by
    rcases inK_grow hc hE (n - 1) with hg | hg
    · intro v hv
      have hin := inK_in hE hc hv
      have hlen : (List.range n).countP (fun v : Nat => inK E (n - 1) v c) = (List.range n).length := by
        have := List.countP_le_length (p := fun v : Nat => inK E (n - 1) v c) (l := List.range n)
        simp at this ⊢; omega
      have := List.countP_eq_length.1 hlen v.toNat (by simp; omega)
      have hv' : ((v.toNat : Nat) : Int) = v := by omega
      simpa [hv'] using this
    · exact hg
  by_cases hm : m ≤ n - 1
  · exact inK_mono hm h
  · have e : m = n - 1 + (m - (n - 1)) := by omega
    rw [e] at h
    exact inK_stable hst _ _ h

/-- how few edges lead there; the number of nodes if there is no way -/
def dst (E : List (Int × Int)) (n : Nat) (v c : Int) : Nat := ((List.range n).find? fun k => inK E k v c).getD n

theorem dst_le_n : dst E n v c ≤ n := by
  unfold dst
  cases h : (List.range n).find? fun k => inK E k v c with
  | none => simp
  | some k => have := List.mem_of_find?_eq_some h; simp at this; simp; omega
theorem dst_le {k : Nat} (hk : k < n) : dst E n v c ≤ k ↔ inK E k v c = true := by
  unfold dst
  cases h : (List.range n).find? fun k => inK E k v c with
  | none =>
    have := List.find?_eq_none.1 h k (by simpa using hk)
    simp; constructor
    · omega
    · intro h2; exact absurd h2 this
  | some j =>
    have h1 := List.find?_some h
    have hj : ∀ i, i < j → inK E i v c = false := by
      obtain ⟨-, -, h3⟩ := List.find?_range_eq_some.1 h
      intro i hi
      simpa using h3 i hi
    simp
    constructor
    · intro hjk; exact inK_mono hjk h1
    · intro h2
      apply Nat.le_of_not_lt
      intro hlt
      rw [hj k hlt] at h2; cases h2
theorem dst_at (h : dst E n v c < n) : inK E (dst E n v c) v c = true := (dst_le h).1 (Nat.le_refl _)
theorem dst_self (hn : 0 < n) : dst E n c c = 0 := Nat.le_zero.1 ((dst_le hn).2 (inK_self 0))
theorem dst_zero (hn : 0 < n) (h : dst E n v c = 0) : v = c := by
  have := (dst_le (E := E) (v := v) (c := c) hn).1 (by omega)
  simpa [inK] using this
theorem dst_edge {e : Int × Int} (he : e ∈ E) : dst E n e.1 c ≤ dst E n e.2 c + 1 := by
  by_cases h : dst E n e.2 c + 1 < n
  · exact (dst_le h).2 (inK_succ.2 (.inr ⟨e, he, rfl, dst_at (by omega)⟩))
  · have := dst_le_n (E := E) (n := n) (v := e.1) (c := c)
    omega
/-- from a node that is not the end itself some edge leads nearer -/
theorem dst_step {k : Nat} (h : dst E n v c = k + 1) (hk : k + 1 < n) : ∃ e ∈ E, e.1 = v ∧ dst E n e.2 c = k := by
  have h1 := (dst_le (E := E) (v := v) (c := c) hk).1 (by omega)
  have h0 : inK E k v c = false := by
    apply Classical.byContradiction
    intro hx
    have := (dst_le (E := E) (v := v) (c := c) (show k < n by omega)).2 (by simpa using hx)
    omega
  rcases inK_succ.1 h1 with h2 | ⟨e, he, rfl, h2⟩
  · rw [h0] at h2; cases h2
  · refine ⟨e, he, rfl, ?_⟩
    have a1 := (dst_le (E := E) (v := e.2) (c := c) (show k < n by omega)).2 h2
    have a2 := dst_edge (n := n) (c := c) he
    omega

/-- the program's rounds -/
def relax1 (L : List Int) (e : Int × Int) : List Int := L.set e.1.toNat (min (L.getD e.1.toNat 0) (L.getD e.2.toNat 0 + 1))
def relaxes (L : List Int) (E : List (Int × Int)) : List Int := E.foldl relax1 L
def leftR (E : List (Int × Int)) (L : List Int) : Nat → List Int
  | 0 => L
  | r + 1 => relaxes (leftR E L r) E
def left0 (n : Nat) (c : Int) : List Int := (List.replicate n (n : Int)).set c.toNat 0

def soundL (E : List (Int × Int)) (n : Nat) (c : Int) (L : List Int) : Prop := L.length = n ∧ ∀ v : Nat, v < n → (dst E n v c : Int) ≤ L.getD v 0 ∧ L.getD v 0 ≤ n

theorem getD_set {α : Type} (L : List α) (i j : Nat) (x d : α) (hi : i < L.length) : (L.set i x).getD j d = if i = j then x else L.getD j d := by
  simp only [List.getD_eq_getElem?_getD, List.getElem?_set]
  split
  · rename_i h; subst h; simp
  · rfl

theorem relax1_sound {L : List Int} {e : Int × Int} (hE : edgesIn n E) (he : e ∈ E) (h : soundL E n c L) : soundL E n c (relax1 L e) ∧ ∀ v : Nat, v < n → (relax1 L e).getD v 0 ≤ L.getD v 0 := by
  obtain ⟨hl, hs⟩ := h
  obtain ⟨⟨a0, a1⟩, b0, b1⟩ := hE e he
  have h1 : e.1.toNat < L.length := by omega
  have hd := dst_edge (n := n) (c := c) he
  have g1 := hs e.1.toNat (by omega)
  have g2 := hs e.2.toNat (by omega)
  have ea : ((e.1.toNat : Nat) : Int) = e.1 := by omega
  have eb : ((e.2.toNat : Nat) : Int) = e.2 := by omega
  rw [ea] at g1
  rw [eb] at g2
  refine ⟨⟨by simp [relax1, hl], fun v hv => ?_⟩, fun v hv => ?_⟩
  · have gv := hs v hv
    rw [relax1, getD_set _ _ _ _ _ h1]
    split
    · rename_i h; subst h
      rw [ea] at gv ⊢
      omega
    · exact gv
  · rw [relax1, getD_set _ _ _ _ _ h1]
    split
    · rename_i h; subst h; omega
    · exact Int.le_refl _

theorem relaxes_sound {L : List Int} {F : List (Int × Int)} (hE : edgesIn n E) (hF : ∀ e ∈ F, e ∈ E) (h : soundL E n c L) :
    soundL E n c (relaxes L F) ∧ (∀ v : Nat, v < n → (relaxes L F).getD v 0 ≤ L.getD v 0) ∧ ∀ e ∈ F, (relaxes L F).getD e.1.toNat 0 ≤ L.getD e.2.toNat 0 + 1 := by
  induction F generalizing L with
  | nil => exact ⟨h, fun _ _ => Int.le_refl _, by simp⟩
  | cons f F ih =>
    obtain ⟨s1, d1⟩ := relax1_sound hE (hF f (by simp)) h
    obtain ⟨s2, d2, c2⟩ := ih (fun e he => hF e (by simp [he])) s1
    have e0 : relaxes L (f :: F) = relaxes (relax1 L f) F := rfl
    rw [e0]
    refine ⟨s2, fun v hv => Int.le_trans (d2 v hv) (d1 v hv), ?_⟩
    intro e he
    rcases List.mem_cons.1 he with rfl | he
    · obtain ⟨⟨a0, a1⟩, b0, b1⟩ := hE e (hF e (by simp))
      have := d2 e.1.toNat (by omega)
      have h1 : e.1.toNat < L.length := by have := h.1; omega
      have h2 : (relax1 L e).getD e.1.toNat 0 ≤ L.getD e.2.toNat 0 + 1 := by
        rw [relax1, getD_set _ _ _ _ _ h1, if_pos rfl]; omega
      omega
    · obtain ⟨⟨a0, a1⟩, b0, b1⟩ := hE e (hF e (by simp [he]))
      have := c2 e he
      have := d1 e.2.toNat (by omega)
      omega

theorem left0_sound (hc : 0 ≤ c ∧ c < n) : soundL E n c (left0 n c) := by
  refine ⟨by simp [left0], fun v hv => ?_⟩
  rw [left0, getD_set _ _ _ _ _ (by simp; omega)]
  have hle := dst_le_n (E := E) (n := n) (v := v) (c := c)
  split
  · rename_i h; subst h
    have e : ((c.toNat : Nat) : Int) = c := by omega
    rw [e, dst_self (by omega)]; omega
  · simp only [List.getD_eq_getElem?_getD, List.getElem?_replicate, if_pos hv, Option.getD_some]; omega

theorem leftR_sound (hE : edgesIn n E) (hc : 0 ≤ c ∧ c < n) (r : Nat) : soundL E n c (leftR E (left0 n c) r) ∧ ∀ v : Nat, v < n → ∀ k, k ≤ r → inK E k v c = true → (leftR E (left0 n c) r).getD v 0 ≤ k := by
  induction r with
  | zero =>
    refine ⟨left0_sound hc, fun v hv k hk hin => ?_⟩
    have : k = 0 := by omega
    subst this
    have hvc : (v : Int) = c := by simpa [inK] using hin
    have : c.toNat = v := by omega
    rw [leftR, left0, getD_set _ _ _ _ _ (by simp; omega), if_pos this]
    simp
  | succ r ih =>
    obtain ⟨s1, c1⟩ := ih
    obtain ⟨s2, d2, e2⟩ := relaxes_sound hE (fun e he => he) s1
    refine ⟨s2, fun v hv k hk hin => ?_⟩
    have hd := d2 v hv
    rw [leftR]
    by_cases hkr : k ≤ r
    · have := c1 v hv k hkr hin
      omega
    · have : k = r + 1 := by omega
      subst this
      rcases inK_succ.1 hin with h | ⟨e, he, hev, h⟩
      · have := c1 v hv r (Nat.le_refl _) h
        omega
      · obtain ⟨⟨a0, a1⟩, b0, b1⟩ := hE e he
        have h1 := c1 e.2.toNat (by omega) r (Nat.le_refl _) (by
          have eb : ((e.2.toNat : Nat) : Int) = e.2 := by omega
          rw [eb]; exact h)
        have h2 := e2 e he
        have : e.1.toNat = v := by omega
        rw [this] at h2
        omega

def dstL (E : List (Int × Int)) (n : Nat) (c : Int) : List Int := (List.range n).map fun v : Nat => (dst E n v c : Int)
theorem dstL_len : (dstL E n c).length = n := by simp [dstL]
theorem dstL_at {v : Nat} (hv : v < n) : (dstL E n c).getD v 0 = (dst E n v c : Int) := by
  simp [dstL, List.getD_eq_getElem?_getD, hv]

theorem ext_getD {L M : List Int} (h : L.length = M.length) (h1 : ∀ v, v < L.length → L.getD v 0 = M.getD v 0) : L = M := by
  apply List.ext_getElem h
  intro i h2 h3
  have := h1 i h2
  simpa [List.getD_eq_getElem?_getD, List.getElem?_eq_getElem h2, List.getElem?_eq_getElem h3] using this

theorem leftR_dst (hE : edgesIn n E) (hc : 0 ≤ c ∧ c < n) : leftR E (left0 n c) (n - 1) = dstL E n c := by
  obtain ⟨⟨s1, s2⟩, s3⟩ := leftR_sound hE hc (n - 1)
  refine ext_getD (by rw [s1, dstL_len]) (fun v hv => ?_)
  rw [s1] at hv
  rw [dstL_at hv]
  obtain ⟨a1, a2⟩ := s2 v hv
  by_cases h : dst E n v c < n
  · have := s3 v hv (dst E n v c) (by omega) (dst_at h)
    omega
  · omega

/-- the model's rounds -/
def far1 (r : Nat) (L : List Int) (e : Int × Int) : List Int := if L.getD e.2.toNat 0 = r ∧ L.getD e.1.toNat 0 < 0 then L.set e.1.toNat (r + 1) else L
def fars (r : Nat) (L : List Int) (E : List (Int × Int)) : List Int := E.foldl (far1 r) L
def farR (E : List (Int × Int)) (L : List Int) : Nat → List Int
  | 0 => L
  | r + 1 => fars r (farR E L r) E
def far0 (n : Nat) (c : Int) : List Int := (List.replicate n (-1 : Int)).set c.toNat 0
/-- how few edges lead there; -1 if there is no way -/
def farD (E : List (Int × Int)) (n : Nat) (v c : Int) : Int := if dst E n v c < n then (dst E n v c : Int) else -1
def farL (E : List (Int × Int)) (n : Nat) (c : Int) : List Int := (List.range n).map fun v : Nat => farD E n v c

def farOk (E : List (Int × Int)) (n : Nat) (c : Int) (r : Nat) (F : List (Int × Int)) (L : List Int) : Prop :=
  L.length = n ∧ ∀ v : Nat, v < n → L.getD v 0 = if inK E r v c = true then (dst E n v c : Int) else if ∃ e ∈ F, e.1 = v ∧ inK E r e.2 c = true then (r : Int) + 1 else -1

theorem far1_ok {r : Nat} {F : List (Int × Int)} {L : List Int} {e : Int × Int} (hr : r < n) (hE : edgesIn n E) (he : e ∈ E) (h : farOk E n c r F L) : farOk E n c r (F ++ [e]) (far1 r L e) := by
  obtain ⟨hl, hs⟩ := h
  obtain ⟨⟨a0, a1⟩, b0, b1⟩ := hE e he
  have ea : ((e.1.toNat : Nat) : Int) = e.1 := by omega
  have eb : ((e.2.toNat : Nat) : Int) = e.2 := by omega
  have g1 := hs e.1.toNat (by omega)
  have g2 := hs e.2.toNat (by omega)
  rw [ea] at g1
  rw [eb] at g2
  have h1 : e.1.toNat < L.length := by omega
  refine ⟨by unfold far1; split <;> simp [hl], fun v hv => ?_⟩
  have gv := hs v hv
  have hex : (∃ x ∈ F ++ [e], x.1 = (v : Int) ∧ inK E r x.2 c = true) ↔ (∃ x ∈ F, x.1 = (v : Int) ∧ inK E r x.2 c = true) ∨ (e.1 = (v : Int) ∧ inK E r e.2 c = true) := by
    constructor
    · rintro ⟨x, hx, h⟩
      rcases List.mem_append.1 hx with hx | hx
      · exact .inl ⟨x, hx, h⟩
      · simp at hx; subst hx; exact .inr h
    · rintro (⟨x, hx, h⟩ | h)
      · exact ⟨x, by simp [hx], h⟩
      · exact ⟨e, by simp, h⟩
  by_cases hv1 : e.1 = (v : Int)
  · have hvn : e.1.toNat = v := by omega
    by_cases hin : inK E r v c = true
    · rw [if_pos hin]
      rw [if_pos hin] at gv
      have hneg : ¬ L.getD e.1.toNat 0 < 0 := by rw [hvn, gv]; omega
      rw [far1, if_neg (by intro hh; exact hneg hh.2)]
      exact gv
    · rw [if_neg hin] at gv ⊢
      by_cases hin2 : inK E r e.2 c = true
      · rw [if_pos (hex.2 (.inr ⟨hv1, hin2⟩))]
        have hd : dst E n e.2 c = r := by
          have d1 := (dst_le (E := E) (v := e.2) (c := c) hr).2 hin2
          have d2 : ¬ dst E n e.1 c ≤ r := by rw [dst_le hr, hv1]; exact hin
          have d3 := dst_edge (n := n) (c := c) he
          omega
        rw [if_pos hin2, hd] at g2
        unfold far1
        by_cases hx : ∃ x ∈ F, x.1 = (v : Int) ∧ inK E r x.2 c = true
        · rw [if_pos hx] at gv
          rw [if_neg (by rw [hvn, gv]; omega)]
          exact gv
        · rw [if_neg hx] at gv
          rw [if_pos (by rw [hvn, gv, g2]; simp), getD_set _ _ _ _ _ h1, if_pos hvn]
      · have hx : (∃ x ∈ F ++ [e], x.1 = (v : Int) ∧ inK E r x.2 c = true) ↔ ∃ x ∈ F, x.1 = (v : Int) ∧ inK E r x.2 c = true := by
          rw [hex]; constructor
          · rintro (h | h)
            · exact h
            · exact absurd h.2 hin2
          · exact .inl
        have hne : L.getD e.2.toNat 0 ≠ r := by
          rw [g2, if_neg hin2]; split <;> omega
        rw [far1, if_neg (fun hh => hne hh.1)]
        simp only [hx]
        exact gv
  · have hvn : e.1.toNat ≠ v := by omega
    have hx : (∃ x ∈ F ++ [e], x.1 = (v : Int) ∧ inK E r x.2 c = true) ↔ ∃ x ∈ F, x.1 = (v : Int) ∧ inK E r x.2 c = true := by
      rw [hex]; constructor
      · rintro (h | h)
        · exact h
        · exact absurd h.1 hv1
      · exact .inl
    simp only [hx]
    rw [← gv]
    unfold far1
    split
    · rw [getD_set _ _ _ _ _ h1, if_neg hvn]
    · rfl

theorem fars_ok {r : Nat} {F G : List (Int × Int)} {L : List Int} (hr : r < n) (hE : edgesIn n E) (hG : ∀ e ∈ G, e ∈ E) (h : farOk E n c r F L) : farOk E n c r (F ++ G) (fars r L G) := by
  induction G generalizing F L with
  | nil => simpa [fars] using h
  | cons e G ih =>
    have h1 := far1_ok hr hE (hG e (by simp)) h
    have h2 := ih (fun x hx => hG x (by simp [hx])) h1
    rw [List.append_assoc] at h2
    exact h2

theorem farR_ok (hE : edgesIn n E) (hc : 0 ≤ c ∧ c < n) (r : Nat) (hr : r ≤ n) : (farR E (far0 n c) r).length = n ∧ ∀ v : Nat, v < n → (farR E (far0 n c) r).getD v 0 = if inK E r v c = true then (dst E n v c : Int) else -1 := by
  induction r with
  | zero =>
    refine ⟨by simp [farR, far0], fun v hv => ?_⟩
    rw [farR, far0, getD_set _ _ _ _ _ (by simp; omega)]
    by_cases h : (v : Int) = c
    · subst h
      have : (inK E 0 (v : Int) (v : Int)) = true := inK_self 0
      rw [if_pos this, dst_self (by omega)]; simp
    · have h1 : inK E 0 v c = false := by simp [inK, h]
      rw [if_neg (by omega), h1]
      simp [List.getD_eq_getElem?_getD, hv]
  | succ r ih =>
    obtain ⟨hl, hs⟩ := ih (by omega)
    have h0 : farOk E n c r [] (farR E (far0 n c) r) := ⟨hl, fun v hv => by rw [hs v hv]; simp⟩
    obtain ⟨h1, h2⟩ := fars_ok (by omega) hE (fun e he => he) h0
    refine ⟨h1, fun v hv => ?_⟩
    rw [farR, h2 v hv, List.nil_append]
    by_cases hin : inK E r v c = true
    · rw [if_pos hin, if_pos (inK_up hin)]
    · rw [if_neg hin]
      by_cases hx : ∃ e ∈ E, e.1 = (v : Int) ∧ inK E r e.2 c = true
      · have hin2 : inK E (r + 1) v c = true := inK_succ.2 (.inr hx)
        rw [if_pos hx, if_pos hin2]
        have d1 : ¬ dst E n v c ≤ r := by rw [dst_le (by omega)]; exact hin
        have d2 := (dst_le (E := E) (v := v) (c := c) (show n - 1 < n by omega)).2 (inK_all hc hE hin2)
        have d3 := (dst_le (E := E) (v := v) (c := c) (show r + 1 < n by omega)).2 hin2
        omega
      · have hin2 : ¬ inK E (r + 1) v c = true := by
          rw [inK_succ]; rintro (h | h)
          · exact hin h
          · exact hx h
        rw [if_neg hx, if_neg hin2]

theorem farR_dst (hE : edgesIn n E) (hc : 0 ≤ c ∧ c < n) : farR E (far0 n c) n = farL E n c := by
  obtain ⟨s1, s2⟩ := farR_ok hE hc n (Nat.le_refl _)
  refine ext_getD (by rw [s1]; simp [farL]) (fun v hv => ?_)
  rw [s1] at hv
  rw [s2 v hv]
  have e : (farL E n c).getD v 0 = farD E n v c := by simp [farL, List.getD_eq_getElem?_getD, hv]
  rw [e, farD]
  by_cases h : inK E n v c = true
  · rw [if_pos h]
    have := (dst_le (E := E) (v := v) (c := c) (show n - 1 < n by omega)).2 (inK_all hc hE h)
    rw [if_pos (by omega)]
  · rw [if_neg h, if_neg]
    intro hlt
    exact h (inK_mono (by omega) (dst_at hlt))

/-- what is reached: a row of nodes grown by rounds -/
theorem inK_iff (hc : 0 ≤ c ∧ c < n) (hE : edgesIn n E) : dst E n v c < n ↔ ∃ m, inK E m v c = true :=
  ⟨fun h => ⟨_, dst_at h⟩, fun ⟨m, h⟩ => by
    have := (dst_le (E := E) (v := v) (c := c) (show n - 1 < n by omega)).2 (inK_all hc hE h)
    omega⟩
end

end Go.Proofs.YtmgpekdhcghabaaGreat

/- Plain facts, chapter 3: ways of open steps, pushes along them, greatest flows. -/
namespace Go.Proofs.YtmgpekdhcghabaaGreat
open Go.RowKit

def stE (ps : List Pp) (s : Nat) : Int × Int := (stFr ps s, stTo ps s)
def stL (ps : List Pp) (xs : List Int) : List Nat := (List.range (2 * ps.length)).filter (openF ps xs)
def edgL (ps : List Pp) (xs : List Int) : List (Int × Int) := (stL ps xs).map (stE ps)
theorem openL_eq (ps : List Pp) (xs : List Int) : openL ps xs = (stL ps xs).map fun s : Nat => (s : Int) := rfl

theorem stL_mem {ps : List Pp} {xs : List Int} {s : Nat} : s ∈ stL ps xs ↔ s < 2 * ps.length ∧ 0 < stRoom ps xs s := by
  simp [stL, openF]

/-- the two ends of a step are those of its pipe -/
theorem st_cases (ps : List Pp) (s : Nat) (h : s < 2 * ps.length) : ∃ (k : Nat) (hk : k < ps.length), s / 2 = k ∧ ((s % 2 = 1 ∧ stFr ps s = ps[k].to ∧ stTo ps s = ps[k].fr ∧ ∀ xs : List Int, stRoom ps xs s = xs.getD k 0 - ps[k].le) ∨
    (s % 2 = 0 ∧ stFr ps s = ps[k].fr ∧ stTo ps s = ps[k].to ∧ ∀ xs : List Int, stRoom ps xs s = ps[k].mo - xs.getD k 0)) := by
  refine ⟨s / 2, by omega, rfl, ?_⟩
  have hk : s / 2 < ps.length := by omega
  rcases (show s % 2 = 1 ∨ s % 2 = 0 by omega) with hm | hm
  · left
    refine ⟨hm, ?_, ?_, fun xs => ?_⟩ <;> simp [stFr, stTo, stRoom, hm, List.getD_eq_getElem?_getD, List.getElem?_eq_getElem hk]
  · right
    refine ⟨hm, ?_, ?_, fun xs => ?_⟩ <;> simp [stFr, stTo, stRoom, hm, List.getD_eq_getElem?_getD, List.getElem?_eq_getElem hk]

theorem st_ends {n : Int} {ps : List Pp} (h : netOkB n ps = true) {s : Nat} (hs : s < 2 * ps.length) : (0 ≤ stFr ps s ∧ stFr ps s < n) ∧ (0 ≤ stTo ps s ∧ stTo ps s < n) ∧ stFr ps s ≠ stTo ps s := by
  obtain ⟨k, hk, -, h1⟩ := st_cases ps s hs
  have he := net_endsIn h ps[k] (List.getElem_mem hk)
  unfold endsIn at he
  rcases h1 with ⟨-, e1, e2, -⟩ | ⟨-, e1, e2, -⟩ <;> rw [e1, e2] <;> omega

theorem edg_in {n : Int} {ps : List Pp} (h : netOkB n ps = true) (xs : List Int) : edgesIn n.toNat (edgL ps xs) := by
  have h2 := netOk_parts h
  intro e he
  obtain ⟨s, hs, rfl⟩ := List.mem_map.1 he
  have := st_ends h (stL_mem.1 hs).1
  simp only [stE]
  omega
theorem edg_mem {ps : List Pp} {xs : List Int} {e : Int × Int} : e ∈ edgL ps xs ↔ ∃ s, s < 2 * ps.length ∧ 0 < stRoom ps xs s ∧ stFr ps s = e.1 ∧ stTo ps s = e.2 := by
  simp only [edgL, List.mem_map, stL_mem, stE]
  constructor
  · rintro ⟨s, ⟨h1, h2⟩, rfl⟩; exact ⟨s, h1, h2, rfl, rfl⟩
  · rintro ⟨s, h1, h2, h3, h4⟩; exact ⟨s, ⟨h1, h2⟩, by rw [h3, h4]⟩

/-- how few steps lead from one node to another one -/
abbrev dis (n : Int) (ps : List Pp) (xs : List Int) (a b : Int) : Nat := dst (edgL ps xs) n.toNat a b

/-- the first step from a node that leads to where so few are left -/
def nextS (n : Int) (ps : List Pp) (xs : List Int) (c : Int) (k : Nat) (v : Int) : Option Nat := (stL ps xs).find? fun s => decide (stFr ps s = v) && decide (dis n ps xs (stTo ps s) c = k)
def wayL (n : Int) (ps : List Pp) (xs : List Int) (c : Int) : Nat → Int → List Nat
  | 0, _ => []
  | k + 1, v => match nextS n ps xs c k v with
    | some s => s :: wayL n ps xs c k (stTo ps s)
    | none => []

section
variable {n : Int} {ps : List Pp} {xs : List Int} {a b c v : Int}

theorem nextS_some {k : Nat} {s : Nat} (h : nextS n ps xs c k v = some s) : s < 2 * ps.length ∧ 0 < stRoom ps xs s ∧ stFr ps s = v ∧ dis n ps xs (stTo ps s) c = k := by
  have h1 := List.mem_of_find?_eq_some h
  have h2 := List.find?_some h
  simp only [Bool.and_eq_true, decide_eq_true_eq] at h2
  exact ⟨(stL_mem.1 h1).1, (stL_mem.1 h1).2, h2.1, h2.2⟩
theorem nextS_is {k : Nat} (h : dis n ps xs v c = k + 1) (hk : k + 1 < n.toNat) : ∃ s, nextS n ps xs c k v = some s := by
  obtain ⟨e, he, h1, h2⟩ := dst_step h hk
  obtain ⟨s, hs, rfl⟩ := List.mem_map.1 he
  cases hf : nextS n ps xs c k v with
  | some s => exact ⟨s, rfl⟩
  | none =>
    have := List.find?_eq_none.1 hf s hs
    simp only [stE] at h1 h2
    simp [h1, h2] at this

/-- steps one behind the other, from one node to another one -/
def chain (ps : List Pp) : Int → Int → List Nat → Prop
  | v, c, [] => v = c
  | v, c, s :: l => s < 2 * ps.length ∧ stFr ps s = v ∧ chain ps (stTo ps s) c l

theorem wayL_ok {k : Nat} (hk : k < n.toNat) (h : dis n ps xs v c = k) : (wayL n ps xs c k v).length = k ∧ chain ps v c (wayL n ps xs c k v) ∧
    (∀ s ∈ wayL n ps xs c k v, s < 2 * ps.length ∧ 0 < stRoom ps xs s ∧ dis n ps xs (stFr ps s) c = dis n ps xs (stTo ps s) c + 1 ∧ dis n ps xs (stFr ps s) c ≤ k) := by
  induction k generalizing v with
  | zero => exact ⟨rfl, dst_zero (by omega) h, by simp [wayL]⟩
  | succ k ih =>
    obtain ⟨s, hs⟩ := nextS_is h hk
    obtain ⟨h1, h2, h3, h4⟩ := nextS_some hs
    obtain ⟨i1, i2, i3⟩ := ih (v := stTo ps s) (by omega) h4
    have e : wayL n ps xs c (k + 1) v = s :: wayL n ps xs c k (stTo ps s) := by rw [wayL, hs]
    rw [e]
    refine ⟨by simp [i1], ⟨h1, h3, i2⟩, ?_⟩
    intro t ht
    rcases List.mem_cons.1 ht with rfl | ht
    · rw [h3, h4, h]; exact ⟨h1, h2, rfl, Nat.le_refl _⟩
    · obtain ⟨j1, j2, j3, j4⟩ := i3 t ht
      exact ⟨j1, j2, j3, by omega⟩

theorem wayL_apart {k : Nat} (hk : k < n.toNat) (h : dis n ps xs v c = k) : (wayL n ps xs c k v).Pairwise fun s t => s / 2 ≠ t / 2 := by
  induction k generalizing v with
  | zero => simp [wayL]
  | succ k ih =>
    obtain ⟨s, hs⟩ := nextS_is h hk
    obtain ⟨h1, h2, h3, h4⟩ := nextS_some hs
    have e : wayL n ps xs c (k + 1) v = s :: wayL n ps xs c k (stTo ps s) := by rw [wayL, hs]
    rw [e, List.pairwise_cons]
    refine ⟨?_, ih (by omega) h4⟩
    intro t ht heq
    obtain ⟨-, -, i3⟩ := wayL_ok (show k < n.toNat by omega) h4
    obtain ⟨j1, j2, j3, j4⟩ := i3 t ht
    obtain ⟨p, hp, e1, q1⟩ := st_cases ps s h1
    obtain ⟨p', hp', e2, q2⟩ := st_cases ps t j1
    have : p = p' := by omega
    subst this
    rw [h3] at q1
    rcases q1 with ⟨-, a1, a2, -⟩ | ⟨-, a1, a2, -⟩ <;> rcases q2 with ⟨-, b1, b2, -⟩ | ⟨-, b1, b2, -⟩ <;> rw [b1, b2, ← a1, ← a2] at j3 <;> rw [b1] at j4
    · rw [← a1] at j4; omega
    · omega
    · omega
    · rw [← a1] at j4; omega

/-- one push along a step; along many -/
def push1 (a : Int) (xs : List Int) (s : Nat) : List Int := if s % 2 = 1 then xs.set (s / 2) (xs.getD (s / 2) 0 - a) else xs.set (s / 2) (xs.getD (s / 2) 0 + a)
def pushL (a : Int) (xs : List Int) (l : List Nat) : List Int := l.foldl (push1 a) xs
def roomL (ps : List Pp) (xs : List Int) (r : Int) (l : List Nat) : Int := l.foldl (fun r s => min r (stRoom ps xs s)) r

theorem push1_len (a : Int) (xs : List Int) (s : Nat) : (push1 a xs s).length = xs.length := by unfold push1; split <;> simp
theorem roomL_le (ps : List Pp) (xs : List Int) (l : List Nat) : ∀ r, roomL ps xs r l ≤ r ∧ (∀ s ∈ l, roomL ps xs r l ≤ stRoom ps xs s) ∧ (roomL ps xs r l = r ∨ ∃ s ∈ l, roomL ps xs r l = stRoom ps xs s) := by
  induction l with
  | nil => intro r; simp [roomL]
  | cons t l ih =>
    intro r
    obtain ⟨h1, h2, h3⟩ := ih (min r (stRoom ps xs t))
    have e : roomL ps xs r (t :: l) = roomL ps xs (min r (stRoom ps xs t)) l := rfl
    rw [e]
    refine ⟨by omega, ?_, ?_⟩
    · intro s hs
      rcases List.mem_cons.1 hs with rfl | hs
      · omega
      · exact h2 s hs
    · rcases h3 with h3 | ⟨s, hs, h3⟩
      · rcases Int.le_total r (stRoom ps xs t) with hx | hx
        · left; omega
        · right; exact ⟨t, by simp, by omega⟩
      · right; exact ⟨s, by simp [hs], h3⟩

/-- all pipes hold it -/
def inB (ps : List Pp) (xs : List Int) : Prop := xs.length = ps.length ∧ ∀ (j : Nat) (h : j < ps.length), ps[j].le ≤ xs.getD j 0 ∧ xs.getD j 0 ≤ ps[j].mo

theorem holds_inB (hn : netOkB n ps = true) : holdsB n ps xs = true ↔ inB ps xs := by
  constructor
  · intro h
    obtain ⟨h1, h2, h3⟩ := holds_parts h
    refine ⟨h3, fun j hj => ?_⟩
    have hz : j < (ps.zip xs).length := by simp; omega
    have := List.all_eq_true.1 h2 _ (List.getElem_mem hz)
    simp only [List.getElem_zip, withinB, Bool.and_eq_true, decide_eq_true_eq] at this
    simpa [List.getD_eq_getElem?_getD, List.getElem?_eq_getElem (show j < xs.length by omega)] using this
  · rintro ⟨h3, h⟩
    have hr := net_rooms hn
    have hz : ∀ (j : Nat) (hj : j < ps.length) (hj' : j < xs.length), ps[j].le ≤ xs[j] ∧ xs[j] ≤ ps[j].mo := fun j hj hj' => by
      have := h j hj
      simpa [List.getD_eq_getElem?_getD, List.getElem?_eq_getElem hj'] using this
    have h1 : flowOkB n ps xs = true := by
      simp only [flowOkB, hn, h3, Bool.true_and, decide_true, List.all_eq_true]
      intro x hx
      obtain ⟨j, hj, rfl⟩ := List.getElem_of_mem hx
      have a1 := hz j (by omega) hj
      have a2 := hr ps[j] (List.getElem_mem (by omega))
      simp only [withinB, Bool.and_eq_true, decide_eq_true_eq]; omega
    rw [holdsB, h1, Bool.true_and, List.all_eq_true]
    intro q hq
    obtain ⟨j, hj, rfl⟩ := List.getElem_of_mem hq
    simp at hj
    have a1 := hz j (by omega) (by omega)
    simp only [List.getElem_zip, withinB, Bool.and_eq_true, decide_eq_true_eq]
    exact a1

theorem holds_net (h : holdsB n ps xs = true) : netOkB n ps = true := (flowOk_parts (holds_parts h).1).1

theorem stRoom_le (hn : netOkB n ps = true) (h : inB ps xs) {s : Nat} (hs : s < 2 * ps.length) : 0 ≤ stRoom ps xs s ∧ stRoom ps xs s ≤ 4 := by
  obtain ⟨k, hk, -, h1⟩ := st_cases ps s hs
  have hr := net_rooms hn ps[k] (List.getElem_mem hk)
  have hb := h.2 k hk
  rcases h1 with ⟨-, -, -, e⟩ | ⟨-, -, -, e⟩ <;> rw [e] <;> omega

theorem push1_inB {d : Int} {s : Nat} (h : inB ps xs) (hs : s < 2 * ps.length) (h0 : 0 ≤ d) (h1 : d ≤ stRoom ps xs s) : inB ps (push1 d xs s) := by
  obtain ⟨k, hk, hks, hc⟩ := st_cases ps s hs
  refine ⟨by rw [push1_len, h.1], fun j hj => ?_⟩
  have hx : s / 2 < xs.length := by rw [h.1]; omega
  have hb := h.2 j hj
  have hbk := h.2 k hk
  rcases hc with ⟨hm, -, -, e⟩ | ⟨hm, -, -, e⟩ <;> rw [e] at h1 <;> unfold push1
  · rw [if_pos hm, getD_set _ _ _ _ _ hx]
    split
    · rename_i hh; have : k = j := by omega
      subst this; rw [hks]; omega
    · exact hb
  · rw [if_neg (by omega), getD_set _ _ _ _ _ hx]
    split
    · rename_i hh; have : k = j := by omega
      subst this; rw [hks]; omega
    · exact hb
theorem push1_room {d : Int} {s t : Nat} (hl : xs.length = ps.length) (hs : s < 2 * ps.length) (hne : s / 2 ≠ t / 2) : stRoom ps (push1 d xs s) t = stRoom ps xs t := by
  have hx : s / 2 < xs.length := by omega
  have hg : (push1 d xs s).getD (t / 2) 0 = xs.getD (t / 2) 0 := by
    unfold push1
    split <;> rw [getD_set _ _ _ _ _ hx, if_neg hne]
  unfold stRoom
  rw [hg]
theorem pushL_inB {d : Int} {l : List Nat} (h0 : 0 ≤ d) (h : inB ps xs) (hl : ∀ s ∈ l, s < 2 * ps.length ∧ d ≤ stRoom ps xs s) (hp : l.Pairwise fun s t => s / 2 ≠ t / 2) : inB ps (pushL d xs l) := by
  induction l generalizing xs with
  | nil => exact h
  | cons s l ih =>
    have h1 := hl s (by simp)
    have h2 := push1_inB h h1.1 h0 h1.2
    rw [List.pairwise_cons] at hp
    exact ih h2 (fun t ht => ⟨(hl t (by simp [ht])).1, by rw [push1_room h.1 h1.1 (hp.1 t ht)]; exact (hl t (by simp [ht])).2⟩) hp.2

theorem excT_add (v : Int) (p : Pp) (x y : Int) : excT v p (x + y) = excT v p x + excT v p y := by unfold excT; repeat' split
                                                                                                   all_goals omega
theorem exc_set (v : Int) (ps : List Pp) (xs : List Int) (k : Nat) (y : Int) (hk : k < ps.length) (hx : k < xs.length) : exc v ps (xs.set k (xs.getD k 0 + y)) = exc v ps xs + excT v ps[k] y := by
  induction ps generalizing xs k with
  | nil => simp at hk
  | cons p ps ih =>
    cases xs with
    | nil => simp at hx
    | cons x xs =>
      cases k with
      | zero => simp [exc_cons, excT_add]; omega
      | succ k =>
        have := ih xs k (by simpa using hk) (by simpa using hx)
        simp only [List.set_cons_succ, exc_cons, List.getElem_cons_succ, List.getD_cons_succ]
        omega
theorem exc_push1 {d : Int} {s : Nat} (hn : netOkB n ps = true) (hl : xs.length = ps.length) (hs : s < 2 * ps.length) : exc v ps (push1 d xs s) = exc v ps xs + (if v = stTo ps s then d else 0) - (if v = stFr ps s then d else 0) := by
  obtain ⟨k, hk, hks, hc⟩ := st_cases ps s hs
  have he := net_endsIn hn ps[k] (List.getElem_mem hk)
  unfold endsIn at he
  rcases hc with ⟨hm, e1, e2, -⟩ | ⟨hm, e1, e2, -⟩ <;> unfold push1
  · rw [if_pos hm, hks, Int.sub_eq_add_neg, exc_set _ _ _ _ _ hk (by omega), e1, e2]
    unfold excT
    repeat' split
    all_goals omega
  · rw [if_neg (by omega), hks, exc_set _ _ _ _ _ hk (by omega), e1, e2]
    unfold excT
    repeat' split
    all_goals omega
theorem exc_pushL {d : Int} {l : List Nat} (hn : netOkB n ps = true) (hl : xs.length = ps.length) (hc : chain ps a b l) : exc v ps (pushL d xs l) = exc v ps xs + (if v = b then d else 0) - (if v = a then d else 0) := by
  induction l generalizing xs a with
  | nil =>
    have : a = b := hc
    subst this
    have e : pushL d xs [] = xs := rfl
    rw [e]; omega
  | cons s l ih =>
    obtain ⟨h1, h2, h3⟩ := hc
    have i1 := ih (xs := push1 d xs s) (by rw [push1_len, hl]) h3
    have i2 := exc_push1 (v := v) (d := d) hn hl h1
    have e : pushL d xs (s :: l) = pushL d (push1 d xs s) l := rfl
    rw [e, i1, i2, h2]
    omega

/-- is there a way; the way; how much may go along it; the flow behind the push -/
def wayB (n : Int) (ps : List Pp) (xs : List Int) (a b : Int) : Bool := holdsB n ps xs && endsB n ps a b && decide (dis n ps xs a b < n.toNat)
def wayR (n : Int) (ps : List Pp) (xs : List Int) (a b : Int) : List Nat := if wayB n ps xs a b = true then wayL n ps xs b (dis n ps xs a b) a else []
def wayI (n : Int) (ps : List Pp) (xs : List Int) (a b : Int) : List Int := (wayR n ps xs a b).map fun s : Nat => (s : Int)
def amtR (n : Int) (ps : List Pp) (xs : List Int) (a b : Int) : Int := roomL ps xs 4 (wayR n ps xs a b)
def pushR (n : Int) (ps : List Pp) (xs : List Int) (a b : Int) : List Int := if wayB n ps xs a b = true then pushL (amtR n ps xs a b) xs (wayR n ps xs a b) else []

theorem wayB_parts (h : wayB n ps xs a b = true) : holdsB n ps xs = true ∧ endsB n ps a b = true ∧ dis n ps xs a b < n.toNat := by
  simp only [wayB, Bool.and_eq_true, decide_eq_true_eq] at h
  exact ⟨h.1.1, h.1.2, h.2⟩
theorem wayR_ok (h : wayB n ps xs a b = true) : (wayR n ps xs a b).length = dis n ps xs a b ∧ 0 < dis n ps xs a b ∧ chain ps a b (wayR n ps xs a b) ∧
    (∀ s ∈ wayR n ps xs a b, s < 2 * ps.length ∧ 0 < stRoom ps xs s) ∧ (wayR n ps xs a b).Pairwise (fun s t => s / 2 ≠ t / 2) := by
  obtain ⟨h1, h2, h3⟩ := wayB_parts h
  obtain ⟨-, -, -, -, -, hab⟩ := ends_parts h2
  rw [wayR, if_pos h]
  obtain ⟨a1, a2, a3⟩ := wayL_ok h3 rfl
  refine ⟨a1, ?_, a2, fun s hs => ⟨(a3 s hs).1, (a3 s hs).2.1⟩, wayL_apart h3 rfl⟩
  apply Nat.pos_of_ne_zero
  intro h0
  exact hab (dst_zero (by omega) h0)
theorem wayR_no (h : wayB n ps xs a b = false) : wayR n ps xs a b = [] := by rw [wayR, if_neg (by simp [h])]
theorem amtR_pos (h : wayB n ps xs a b = true) : 1 ≤ amtR n ps xs a b ∧ amtR n ps xs a b ≤ 4 ∧ (∀ s ∈ wayR n ps xs a b, amtR n ps xs a b ≤ stRoom ps xs s) := by
  obtain ⟨h1, h2, h3⟩ := roomL_le ps xs (wayR n ps xs a b) 4
  obtain ⟨-, -, -, h4, -⟩ := wayR_ok h
  refine ⟨?_, h1, h2⟩
  unfold amtR
  rcases h3 with h3 | ⟨s, hs, h3⟩
  · omega
  · have := (h4 s hs).2; omega
/-- from forty on, or from four on, it is the same room -/
theorem room40 (h : wayB n ps xs a b = true) : roomL ps xs 40 (wayR n ps xs a b) = amtR n ps xs a b := by
  obtain ⟨h1, h2, h3⟩ := roomL_le ps xs (wayR n ps xs a b) 40
  obtain ⟨g1, g2, g3⟩ := roomL_le ps xs (wayR n ps xs a b) 4
  obtain ⟨l1, l2, -, l4, -⟩ := wayR_ok h
  have hh := (wayB_parts h).1
  have hn := holds_net hh
  have hi := (holds_inB hn).1 hh
  unfold amtR
  obtain ⟨s, hs⟩ : ∃ s, s ∈ wayR n ps xs a b := List.exists_mem_of_length_pos (by omega)
  have q1 := h2 s hs
  have q2 := stRoom_le hn hi (l4 s hs).1
  apply Int.le_antisymm
  · rcases g3 with g3 | ⟨t, ht, g3⟩
    · omega
    · rw [g3]; exact h2 t ht
  · rcases h3 with h3 | ⟨t, ht, h3⟩
    · omega
    · rw [h3]; exact g2 t ht

theorem push_ok (h : wayB n ps xs a b = true) : holdsB n ps (pushR n ps xs a b) = true ∧ ∀ v, exc v ps (pushR n ps xs a b) = exc v ps xs + (if v = b then amtR n ps xs a b else 0) - (if v = a then amtR n ps xs a b else 0) := by
  have hh := (wayB_parts h).1
  have hn := holds_net hh
  have hi := (holds_inB hn).1 hh
  obtain ⟨l1, l2, l3, l4, l5⟩ := wayR_ok h
  obtain ⟨m1, m2, m3⟩ := amtR_pos h
  rw [pushR, if_pos h]
  exact ⟨(holds_inB hn).2 (pushL_inB (by omega) hi (fun s hs => ⟨(l4 s hs).1, m3 s hs⟩) l5), fun v => exc_pushL hn hi.1 l3⟩
theorem push_to (h : wayB n ps xs a b = true) : exc b ps (pushR n ps xs a b) = exc b ps xs + amtR n ps xs a b := by
  obtain ⟨-, -, -, -, -, hab⟩ := ends_parts (wayB_parts h).2.1
  rw [(push_ok h).2 b, if_pos rfl, if_neg (by intro hh; exact hab hh.symm)]; omega

/-- pushed on so often, as long as there is a way -/
def pushN (n : Int) (ps : List Pp) (a b : Int) : Nat → List Int → List Int
  | 0, xs => xs
  | k + 1, xs => if wayB n ps xs a b = true then pushN n ps a b k (pushR n ps xs a b) else xs

theorem pushN_no {xs : List Int} (h : wayB n ps xs a b = false) (k : Nat) : pushN n ps a b k xs = xs := by
  cases k with
  | zero => rfl
  | succ k => rw [pushN, if_neg (by simp [h])]
theorem pushN_holds {xs : List Int} (h : holdsB n ps xs = true) (k : Nat) : holdsB n ps (pushN n ps a b k xs) = true := by
  induction k generalizing xs with
  | zero => exact h
  | succ k ih =>
    rw [pushN]
    split
    · rename_i hw; exact ih (push_ok hw).1
    · exact h
theorem pushN_exc {xs : List Int} (k : Nat) (v : Int) (h1 : v ≠ a) (h2 : v ≠ b) : exc v ps (pushN n ps a b k xs) = exc v ps xs := by
  induction k generalizing xs with
  | zero => rfl
  | succ k ih =>
    rw [pushN]
    split
    · rename_i hw
      rw [ih, (push_ok hw).2 v, if_neg h2, if_neg h1]; omega
    · rfl

/-- two flows that all pipes hold differ in the excess of a node by at most as much as all pipes hold -/
theorem exc_gap (v : Int) (ps : List Pp) (xs ys : List Int) (h : inB ps xs) (h' : inB ps ys) (hr : ∀ p ∈ ps, 0 ≤ p.le ∧ p.le ≤ p.mo ∧ p.mo ≤ 4) : exc v ps ys ≤ exc v ps xs + 4 * (ps.length : Int) := by
  induction ps generalizing xs ys with
  | nil => simp [exc]
  | cons p ps ih =>
    obtain ⟨l1, h1⟩ := h
    obtain ⟨l2, h2⟩ := h'
    cases xs with
    | nil => simp at l1
    | cons x xs =>
      cases ys with
      | nil => simp at l2
      | cons y ys =>
        have i := ih xs ys ⟨by simpa using l1, fun j hj => by have := h1 (j + 1) (by simpa using hj); simpa using this⟩ ⟨by simpa using l2, fun j hj => by have := h2 (j + 1) (by simpa using hj); simpa using this⟩ (fun q hq => hr q (by simp [hq]))
        have a1 := h1 0 (by simp)
        have a2 := h2 0 (by simp)
        have a3 := hr p (by simp)
        simp at a1 a2
        rw [exc_cons, exc_cons]
        have : excT v p y ≤ excT v p x + 4 := by unfold excT; repeat' split
                                                 all_goals omega
        simp only [List.length_cons]
        omega
theorem exc_gap28 {ys : List Int} (h : holdsB n ps xs = true) (h' : holdsB n ps ys = true) (v : Int) : exc v ps ys ≤ exc v ps xs + 28 := by
  have hn := holds_net h
  have := exc_gap v ps xs ys ((holds_inB hn).1 h) ((holds_inB hn).1 h') (net_rooms hn)
  have := (netOk_parts hn).2.2.1
  omega

/-- after 28 pushes there is no way left -/
theorem pushN_end {xs ys : List Int} (hy : holdsB n ps ys = true) (h : holdsB n ps xs = true) (k : Nat) (hk : exc b ps ys + 28 ≤ exc b ps xs + k) : wayB n ps (pushN n ps a b k xs) a b = false := by
  induction k generalizing xs with
  | zero =>
    rw [pushN]
    apply Classical.byContradiction
    intro hw
    have hw' : wayB n ps xs a b = true := by simpa using hw
    have p1 := push_ok hw'
    have p2 := push_to hw'
    have p3 := amtR_pos hw'
    have p4 := exc_gap28 hy p1.1 b
    omega
  | succ k ih =>
    rw [pushN]
    split
    · rename_i hw
      have p1 := push_ok hw
      have p2 := push_to hw
      have p3 := amtR_pos hw
      exact ih p1.1 (by omega)
    · rename_i hw; simpa using hw
def zeros (ps : List Pp) : List Int := List.replicate ps.length 0
theorem free_holds (h : freeB n ps = true) : holdsB n ps (zeros ps) = true := by
  have hn : netOkB n ps = true := by simp only [freeB, Bool.and_eq_true] at h; exact h.1
  rw [zeros, free_zero hn, h]
theorem exc_zeros (v : Int) (ps : List Pp) : exc v ps (zeros ps) = 0 := by
  unfold zeros
  induction ps with
  | nil => rfl
  | cons p ps ih =>
    rw [List.length_cons, List.replicate_succ, exc_cons, ih]
    have : excT v p 0 = 0 := by unfold excT; repeat' split
                                all_goals rfl
    omega

def greatB (n : Int) (ps : List Pp) (a b : Int) : Bool := freeB n ps && endsB n ps a b
def greatF (n : Int) (ps : List Pp) (a b : Int) : List Int := if greatB n ps a b = true then pushN n ps a b 28 (zeros ps) else []
theorem great_parts (h : greatB n ps a b = true) : freeB n ps = true ∧ endsB n ps a b = true := by simpa [greatB] using h
theorem great_yes (h : greatB n ps a b = true) : greatF n ps a b = pushN n ps a b 28 (zeros ps) := by rw [greatF, if_pos h]
theorem great_no (h : greatB n ps a b = false) : greatF n ps a b = [] := by rw [greatF, if_neg (by simp [h])]
theorem great_holds (h : greatB n ps a b = true) : holdsB n ps (greatF n ps a b) = true := by
  rw [great_yes h]; exact pushN_holds (free_holds (great_parts h).1) _
theorem great_exc (h : greatB n ps a b = true) (v : Int) (h1 : v ≠ a) (h2 : v ≠ b) : exc v ps (greatF n ps a b) = 0 := by
  rw [great_yes h, pushN_exc _ _ h1 h2, exc_zeros]
theorem great_end (h : greatB n ps a b = true) : wayB n ps (greatF n ps a b) a b = false := by
  rw [great_yes h]
  exact pushN_end (free_holds (great_parts h).1) (free_holds (great_parts h).1) 28 (by omega)
def greatV (n : Int) (ps : List Pp) (a b : Int) : Int := if greatB n ps a b = true then exc b ps (greatF n ps a b) else -1
end

end Go.Proofs.YtmgpekdhcghabaaGreat

/- Plain facts, chapter 3: the reached side; a greatest flow fills a narrowest cut. -/
namespace Go.Proofs.YtmgpekdhcghabaaGreat
open Go.RowKit

/-- the side of all nodes that fit -/
def sideOf (f : Nat → Bool) : Nat → Int
  | 0 => 0
  | k + 1 => sideOf f k + if f k = true then 2 ^ k else 0

theorem sideOf_in (f : Nat → Bool) (k : Nat) : 0 ≤ sideOf f k ∧ sideOf f k ≤ 2 ^ k - 1 := by
  induction k with
  | zero => simp [sideOf]
  | succ k ih =>
    have h2 : (2 : Int) ^ (k + 1) = 2 * 2 ^ k := by rw [Int.pow_succ]; omega
    have hp : (0 : Int) < 2 ^ k := Int.pow_pos (by omega)
    rw [sideOf, h2]
    split <;> omega
theorem nat5 {k : Nat} (h : k ≤ 4) : k = 0 ∨ k = 1 ∨ k = 2 ∨ k = 3 ∨ k = 4 := by omega
theorem bit_high {s : Int} {k v : Nat} (h0 : 0 ≤ s) (h1 : s ≤ 2 ^ k - 1) (hk : k ≤ 4) (hv : v ≤ 4) : bitB (s + 2 ^ k) (v : Int) = (bitB s (v : Int) || decide (v = k)) ∧ (k ≤ v → bitB s (v : Int) = false) := by
  have : ∀ (k v : Fin 5) (s : Fin 16), s.val + 1 ≤ 2 ^ k.val → bitB ((s.val : Int) + 2 ^ k.val) (v.val : Int) = (bitB (s.val : Int) (v.val : Int) || decide (v.val = k.val)) ∧ (k.val ≤ v.val → bitB (s.val : Int) (v.val : Int) = false) := by decide +kernel
  have hp : (2 : Int) ^ k ≤ 16 := by rcases nat5 hk with rfl | rfl | rfl | rfl | rfl <;> decide
  have h2 := this ⟨k, by omega⟩ ⟨v, by omega⟩ ⟨s.toNat, by omega⟩
  have e : ((s.toNat : Nat) : Int) = s := by omega
  simp only [e] at h2
  exact h2 (by have h3 : ((2 ^ k : Nat) : Int) = 2 ^ k := by simp
               omega)
theorem sideOf_bit (f : Nat → Bool) {k v : Nat} (hk : k ≤ 5) (hv : v ≤ 4) : bitB (sideOf f k) (v : Int) = (decide (v < k) && f v) := by
  induction k with
  | zero => simp [sideOf, bit_zero]
  | succ k ih =>
    have hi := ih (by omega)
    obtain ⟨h0, h1⟩ := sideOf_in f k
    obtain ⟨h2, h3⟩ := bit_high h0 h1 (show k ≤ 4 by omega) hv
    rw [sideOf]
    by_cases hf : f k = true
    · rw [if_pos hf, h2, hi, Bool.eq_iff_iff]
      simp only [Bool.or_eq_true, Bool.and_eq_true, decide_eq_true_eq]
      constructor
      · rintro (⟨a1, a2⟩ | rfl)
        · exact ⟨by omega, a2⟩
        · exact ⟨by omega, hf⟩
      · rintro ⟨a1, a2⟩
        by_cases hvk : v = k
        · exact .inr hvk
        · exact .inl ⟨by omega, a2⟩
    · rw [if_neg hf, Int.add_zero, hi, Bool.eq_iff_iff]
      simp only [Bool.and_eq_true, decide_eq_true_eq]
      constructor
      · rintro ⟨a1, a2⟩; exact ⟨by omega, a2⟩
      · rintro ⟨a1, a2⟩
        refine ⟨?_, a2⟩
        apply Classical.byContradiction
        intro hh
        have : v = k := by omega
        subst this; exact hf a2
section
variable {n : Int} {ps : List Pp} {xs : List Int} {a b c v : Int}

def reachF (n : Int) (ps : List Pp) (xs : List Int) (a : Int) (v : Nat) : Bool := decide (dis n ps xs a (v : Int) < n.toNat)
def reachI (n : Int) (ps : List Pp) (xs : List Int) (a : Int) : Int := sideOf (reachF n ps xs a) n.toNat
def reachB (n : Int) (ps : List Pp) (xs : List Int) (a : Int) : Bool := holdsB n ps xs && withinB a 0 (n - 1)
theorem reach_parts (h : reachB n ps xs a = true) : holdsB n ps xs = true ∧ netOkB n ps = true ∧ 2 ≤ n ∧ n ≤ 5 ∧ 0 ≤ a ∧ a < n := by
  simp only [reachB, withinB, Bool.and_eq_true, decide_eq_true_eq] at h
  have h1 := holds_net h.1
  have h2 := netOk_parts h1
  exact ⟨h.1, h1, by omega, by omega, by omega, by omega⟩
theorem reach_in (n : Int) (ps : List Pp) (xs : List Int) (a : Int) : 0 ≤ reachI n ps xs a ∧ reachI n ps xs a ≤ 2 ^ n.toNat - 1 := sideOf_in _ _
theorem reach_bit (h : reachB n ps xs a = true) {v : Int} (h0 : 0 ≤ v) (h1 : v < n) : bitB (reachI n ps xs a) v = true ↔ ∃ m, inK (edgL ps xs) m a v = true := by
  obtain ⟨hh, hn, n2, n5, a0, a1⟩ := reach_parts h
  have e : ((v.toNat : Nat) : Int) = v := by omega
  have hs := sideOf_bit (reachF n ps xs a) (k := n.toNat) (v := v.toNat) (by omega) (by omega)
  rw [e] at hs
  rw [reachI, hs, ← inK_iff (n := n.toNat) (by omega) (edg_in hn xs)]
  simp only [reachF, e, Bool.and_eq_true, decide_eq_true_eq]
  exact ⟨fun hx => hx.2, fun hx => ⟨by omega, hx⟩⟩
theorem reach_self (h : reachB n ps xs a = true) : bitB (reachI n ps xs a) a = true := by
  obtain ⟨hh, hn, n2, n5, a0, a1⟩ := reach_parts h
  exact (reach_bit h a0 a1).2 ⟨0, inK_self 0⟩
/-- no open step leads out of it -/
theorem reach_closed (h : reachB n ps xs a = true) {s : Nat} (hs : s < 2 * ps.length) (hr : 0 < stRoom ps xs s) (hf : bitB (reachI n ps xs a) (stFr ps s) = true) : bitB (reachI n ps xs a) (stTo ps s) = true := by
  obtain ⟨hh, hn, n2, n5, a0, a1⟩ := reach_parts h
  obtain ⟨e1, e2, -⟩ := st_ends hn hs
  obtain ⟨m, hm⟩ := (reach_bit h e1.1 e1.2).1 hf
  exact (reach_bit h e2.1 e2.2).2 ⟨m + 1, inK_snoc (e := (stFr ps s, stTo ps s)) hm (edg_mem.2 ⟨s, hs, hr, rfl, rfl⟩)⟩
theorem sum_eq_all {ps : List Pp} {xs : List Int} (s : Int) (h : inB ps xs) : across s ps xs ≤ room s ps ∧ (across s ps xs = room s ps ↔ ∀ (j : Nat) (hj : j < ps.length), (partsB s ps[j].fr ps[j].to = true → xs.getD j 0 = ps[j].mo) ∧ (partsB s ps[j].to ps[j].fr = true → xs.getD j 0 = ps[j].le)) := by
  induction ps generalizing xs with
  | nil => simp [across_nil1, room]
  | cons p ps ih =>
    obtain ⟨hl, hb⟩ := h
    cases xs with
    | nil => simp at hl
    | cons x xs =>
      obtain ⟨i1, i2⟩ := ih (xs := xs) ⟨by simpa using hl, fun j hj => by have := hb (j + 1) (by simpa using hj); simpa using this⟩
      have b0 := hb 0 (by simp)
      simp at b0
      rw [across_cons, room_cons]
      have key : acT s p x x ≤ acT s p p.mo p.le ∧ (acT s p x x = acT s p p.mo p.le ↔ (partsB s p.fr p.to = true → x = p.mo) ∧ (partsB s p.to p.fr = true → x = p.le)) := by
        by_cases h1 : partsB s p.fr p.to = true
        · have h2 := parts_one h1
          rw [acT_out h1, acT_out h1]
          simp [h1, h2]; omega
        · have h1' : partsB s p.fr p.to = false := by simpa using h1
          by_cases h2 : partsB s p.to p.fr = true
          · rw [acT_back h1' h2, acT_back h1' h2]
            simp [h1', h2]; omega
          · have h2' : partsB s p.to p.fr = false := by simpa using h2
            rw [acT_no h1' h2', acT_no h1' h2']
            simp [h1', h2']
      refine ⟨by omega, ?_⟩
      constructor
      · intro he j hj
        cases j with
        | zero =>
          have := key.2.1 (by omega)
          simpa using this
        | succ j =>
          have := i2.1 (by omega) j (by simpa using hj)
          simpa using this
      · intro hall
        have k1 := key.2.2 (by have := hall 0 (by simp); simpa using this)
        have k2 := i2.2 (fun j hj => by have := hall (j + 1) (by simpa using hj); simpa using this)
        omega

/-- a cut is filled exactly if no open step leads over it -/
theorem full_iff (h : inB ps xs) (s : Int) : across s ps xs = room s ps ↔ ∀ t, t < 2 * ps.length → 0 < stRoom ps xs t → bitB s (stFr ps t) = true → bitB s (stTo ps t) = true := by
  rw [(sum_eq_all s h).2]
  constructor
  · intro hall t ht hr hf
    obtain ⟨k, hk, -, hc⟩ := st_cases ps t ht
    apply Classical.byContradiction
    intro hto
    have hk1 := hall k hk
    have hb := h.2 k hk
    rcases hc with ⟨-, e1, e2, e3⟩ | ⟨-, e1, e2, e3⟩ <;> rw [e1] at hf <;> rw [e2] at hto <;> rw [e3 xs] at hr
    · have := hk1.2 (by simp [partsB, hf]; simpa using hto)
      omega
    · have := hk1.1 (by simp [partsB, hf]; simpa using hto)
      omega
  · intro hcl j hj
    have hb := h.2 j hj
    have c1 := hcl (2 * j) (by omega)
    have c2 := hcl (2 * j + 1) (by omega)
    obtain ⟨k, hk, ek, hc⟩ := st_cases ps (2 * j) (by omega)
    obtain ⟨k', hk', ek', hc'⟩ := st_cases ps (2 * j + 1) (by omega)
    have : k = j := by omega
    subst this
    have : k' = k := by omega
    subst this
    obtain ⟨-, e1, e2, e3⟩ := hc.resolve_left (fun hh => by omega)
    obtain ⟨-, f1, f2, f3⟩ := hc'.resolve_right (fun hh => by omega)
    rw [e1, e2, e3] at c1
    rw [f1, f2, f3] at c2
    simp only [partsB, Bool.and_eq_true, Bool.not_eq_true']
    constructor
    · rintro ⟨p1, p2⟩
      apply Classical.byContradiction
      intro hne
      have := c1 (by omega) p1
      rw [p2] at this; cases this
    · rintro ⟨p1, p2⟩
      apply Classical.byContradiction
      intro hne
      have := c2 (by omega) p1
      rw [p2] at this; cases this

theorem nodeSum_only (n : Nat) (f : Nat → Int) (a : Nat) (ha : a < n) (h : ∀ k, k < n → k ≠ a → f k = 0) : nodeSum n f = f a := by
  have h1 : nodeSum n f = nodeSum n (fun k => if (k : Int) = (a : Int) then f a else 0) := nodeSum_congr fun k hk => by
    split
    · rename_i hh; have : k = a := by omega
      subst this; rfl
    · rename_i hh; exact h k hk (by omega)
  rw [h1, nodeSum_one, if_pos (by omega)]
theorem nodeSum_two (n : Nat) (f : Nat → Int) (a b : Nat) (ha : a < n) (hb : b < n) (hab : a ≠ b) (h : ∀ k, k < n → k ≠ a → k ≠ b → f k = 0) : nodeSum n f = f a + f b := by
  have h1 : nodeSum n f = nodeSum n (fun k => (if (k : Int) = (a : Int) then f a else 0) + (if (k : Int) = (b : Int) then f b else 0)) := nodeSum_congr fun k hk => by
    by_cases h1 : k = a
    · subst h1; rw [if_pos rfl, if_neg (by omega)]; omega
    · by_cases h2 : k = b
      · subst h2; rw [if_neg (by omega), if_pos rfl]; omega
      · rw [if_neg (by omega), if_neg (by omega), h k hk h1 h2]; omega
  rw [h1, nodeSum_add, nodeSum_one, nodeSum_one, if_pos (by omega), if_pos (by omega)]

/-- no node but two has an excess -/
def onlyTwo (n : Int) (ps : List Pp) (xs : List Int) (a b : Int) : Prop := ∀ v : Int, 0 ≤ v → v < n → v ≠ a → v ≠ b → exc v ps xs = 0

theorem two_exc (he : endsB n ps a b = true) (h : onlyTwo n ps xs a b) : exc a ps xs = -exc b ps xs := by
  obtain ⟨hn, a0, a1, b0, b1, hab⟩ := ends_parts he
  have ea : ((a.toNat : Nat) : Int) = a := by omega
  have eb : ((b.toNat : Nat) : Int) = b := by omega
  have h1 := exc_sum xs hn
  rw [nodeSum_two n.toNat _ a.toNat b.toNat (by omega) (by omega) (by omega) (fun k hk h2 h3 => h k (by omega) (by omega) (by omega) (by omega)), ea, eb] at h1
  omega
theorem two_across (he : endsB n ps a b = true) (h : onlyTwo n ps xs a b) {s : Int} (hp : partsB s a b = true) : across s ps xs = exc b ps xs := by
  obtain ⟨hn, a0, a1, b0, b1, hab⟩ := ends_parts he
  have ea : ((a.toNat : Nat) : Int) = a := by omega
  have eb : ((b.toNat : Nat) : Int) = b := by omega
  simp only [partsB, Bool.and_eq_true, Bool.not_eq_true'] at hp
  have h1 := across_exc (s := s) xs hn
  rw [sideExc, nodeSum_only n.toNat _ a.toNat (by omega) (fun k hk hka => by
    by_cases hkb : k = b.toNat
    · subst hkb; simp only [eb]; rw [hp.2]; rfl
    · have := h k (by omega) (by omega) (by omega) (by omega)
      rw [this]; simp), ea, hp.1] at h1
  have := two_exc he h
  simp at h1
  omega

theorem le_cut (he : endsB n ps a b = true) (hh : holdsB n ps xs = true) (h : onlyTwo n ps xs a b) : exc b ps xs ≤ leastI n ps a b := by
  obtain ⟨s, s0, s1, hp, e⟩ := least_at he
  rw [e, ← two_across he h hp]
  exact (sum_eq_all s ((holds_inB (ends_parts he).1).1 hh)).1

/-- with no way on, the reached side is a narrowest one, and filled -/
theorem end_cut (he : endsB n ps a b = true) (hh : holdsB n ps xs = true) (h : onlyTwo n ps xs a b) (hw : wayB n ps xs a b = false) :
    reachB n ps xs a = true ∧ partsB (reachI n ps xs a) a b = true ∧ across (reachI n ps xs a) ps xs = room (reachI n ps xs a) ps ∧ room (reachI n ps xs a) ps = leastI n ps a b ∧ exc b ps xs = leastI n ps a b := by
  obtain ⟨hn, a0, a1, b0, b1, hab⟩ := ends_parts he
  have hr : reachB n ps xs a = true := by simp [reachB, hh, withinB]; omega
  have hi := (holds_inB hn).1 hh
  have hnb : bitB (reachI n ps xs a) b = false := by
    apply Classical.byContradiction
    intro hx
    have := (reach_bit hr b0 b1).1 (by simpa using hx)
    rw [← inK_iff (n := n.toNat) (by omega) (edg_in hn xs)] at this
    simp [wayB, hh, he, dis] at hw
    omega
  have hp : partsB (reachI n ps xs a) a b = true := by simp [partsB, reach_self hr, hnb]
  have hf : across (reachI n ps xs a) ps xs = room (reachI n ps xs a) ps := (full_iff hi _).2 fun t ht hr1 hf => reach_closed hr ht hr1 hf
  have h1 := two_across he h hp
  have h2 := le_cut he hh h
  have h3 := least_le (ps := ps) (reach_in n ps xs a).1 (reach_in n ps xs a).2 hp
  exact ⟨hr, hp, hf, by omega, by omega⟩

theorem great_only (h : greatB n ps a b = true) : onlyTwo n ps (greatF n ps a b) a b := fun v _ _ h1 h2 => great_exc h v h1 h2
theorem great_cut (h : greatB n ps a b = true) : greatV n ps a b = leastI n ps a b := by
  rw [greatV, if_pos h]
  exact (end_cut (great_parts h).2 (great_holds h) (great_only h) (great_end h)).2.2.2.2
end

end Go.Proofs.YtmgpekdhcghabaaGreat

/- Plain facts, chapter 3: how long the answers are. -/
namespace Go.Proofs.YtmgpekdhcghabaaGreat
open Go.RowKit

end Go.Proofs.YtmgpekdhcghabaaGreat
