/- Plain facts, chapter 3: ways of open steps, pushes along them, greatest flows. -/
import Derived.Test.YtiplpdcilcghmaaMA
import Derived.Test.YtiplpdcilcghmaaM7
namespace Go.Proofs.Ytiplpdcilcghmaa
open Go.RowKit

def stE (ps : List Pp) (s : Nat) : Int × Int := (stFr ps s, stTo ps s)
def stL (ps : List Pp) (xs : List Int) : List Nat := (List.range (2 * ps.length)).filter (openF ps xs)
def edgL (ps : List Pp) (xs : List Int) : List (Int × Int) := (stL ps xs).map (stE ps)
theorem openL_eq (ps : List Pp) (xs : List Int) : openL ps xs = (stL ps xs).map fun s : Nat => (s : Int) := rfl

theorem stL_mem {ps : List Pp} {xs : List Int} {s : Nat} : s ∈ stL ps xs ↔ s < 2 * ps.length ∧ 0 < stRoom ps xs s := by
  simp [stL, openF]

/-- the two ends of a step are those of its pipe -/
theorem st_cases (ps : List Pp) (s : Nat) (h : s < 2 * ps.length) : ∃ (k : Nat) (hk : k < ps.length), s / 2 = k ∧ ((s % 2 = 1 ∧ stFr ps s = ps[k].to ∧ stTo ps s = ps[k].fr ∧ ∀ xs : List Int, stRoom ps xs s = xs.getD k 0 - ps[k].le) ∨
    (s % 2 = 0 ∧ stFr ps s = ps[k].fr ∧ stTo ps s = ps[k].to ∧ ∀ xs : List Int, stRoom ps xs s = ps[k].mo - xs.getD k 0)) := by
  refine ⟨s / 2, by omega, rfl, ?_⟩
  have hk : s / 2 < ps.length := by omega
  rcases (show s % 2 = 1 ∨ s % 2 = 0 by omega) with hm | hm
  · left
    refine ⟨hm, ?_, ?_, fun xs => ?_⟩ <;> simp [stFr, stTo, stRoom, hm, List.getD_eq_getElem?_getD, List.getElem?_eq_getElem hk]
  · right
    refine ⟨hm, ?_, ?_, fun xs => ?_⟩ <;> simp [stFr, stTo, stRoom, hm, List.getD_eq_getElem?_getD, List.getElem?_eq_getElem hk]

theorem st_ends {n : Int} {ps : List Pp} (h : netOkB n ps = true) {s : Nat} (hs : s < 2 * ps.length) : (0 ≤ stFr ps s ∧ stFr ps s < n) ∧ (0 ≤ stTo ps s ∧ stTo ps s < n) ∧ stFr ps s ≠ stTo ps s := by
  obtain ⟨k, hk, -, h1⟩ := st_cases ps s hs
  have he := net_endsIn h ps[k] (List.getElem_mem hk)
  unfold endsIn at he
  rcases h1 with ⟨-, e1, e2, -⟩ | ⟨-, e1, e2, -⟩ <;> rw [e1, e2] <;> omega

theorem edg_in {n : Int} {ps : List Pp} (h : netOkB n ps = true) (xs : List Int) : edgesIn n.toNat (edgL ps xs) := by
  have h2 := netOk_parts h
  intro e he
  obtain ⟨s, hs, rfl⟩ := List.mem_map.1 he
  have := st_ends h (stL_mem.1 hs).1
  simp only [stE]
  omega
theorem edg_mem {ps : List Pp} {xs : List Int} {e : Int × Int} : e ∈ edgL ps xs ↔ ∃ s, s < 2 * ps.length ∧ 0 < stRoom ps xs s ∧ stFr ps s = e.1 ∧ stTo ps s = e.2 := by
  simp only [edgL, List.mem_map, stL_mem, stE]
  constructor
  · rintro ⟨s, ⟨h1, h2⟩, rfl⟩; exact ⟨s, h1, h2, rfl, rfl⟩
  · rintro ⟨s, h1, h2, h3, h4⟩; exact ⟨s, ⟨h1, h2⟩, by rw [h3, h4]⟩

/-- how few steps lead from one node to another one -/
abbrev dis (n : Int) (ps : List Pp) (xs : List Int) (a b : Int) : Nat := dst (edgL ps xs) n.toNat a b

/-- the first step from a node that leads to where so few are left -/
def nextS (n : Int) (ps : List Pp) (xs : List Int) (c : Int) (k : Nat) (v : Int) : Option Nat := (stL ps xs).find? fun s => decide (stFr ps s = v) && decide (dis n ps xs (stTo ps s) c = k)
def wayL (n : Int) (ps : List Pp) (xs : List Int) (c : Int) : Nat → Int → List Nat
  | 0, _ => []
  | k + 1, v => match nextS n ps xs c k v with
    | some s => s :: wayL n ps xs c k (stTo ps s)
    | none => []

section
variable {n : Int} {ps : List Pp} {xs : List Int} {a b c v : Int}

theorem nextS_some {k : Nat} {s : Nat} (h : nextS n ps xs c k v = some s) : s < 2 * ps.length ∧ 0 < stRoom ps xs s ∧ stFr ps s = v ∧ dis n ps xs (stTo ps s) c = k := by
  have h1 := List.mem_of_find?_eq_some h
  have h2 := List.find?_some h
  simp only [Bool.and_eq_true, decide_eq_true_eq] at h2
  exact ⟨(stL_mem.1 h1).1, (stL_mem.1 h1).2, h2.1, h2.2⟩
theorem nextS_is {k : Nat} (h : dis n ps xs v c = k + 1) (hk : k + 1 < n.toNat) : ∃ s, nextS n ps xs c k v = some s := by
  obtain ⟨e, he, h1, h2⟩ := dst_step h hk
  obtain ⟨s, hs, rfl⟩ := List.mem_map.1 he
  cases hf : nextS n ps xs c k v with
  | some s => exact ⟨s, rfl⟩
  | none =>
    have := List.find?_eq_none.1 hf s hs
    simp only [stE] at h1 h2
    simp [h1, h2] at this

/-- steps one behind the other, from one node to another one -/
def chain (ps : List Pp) : Int → Int → List Nat → Prop
  | v, c, [] => v = c
  | v, c, s :: l => s < 2 * ps.length ∧ stFr ps s = v ∧ chain ps (stTo ps s) c l

theorem wayL_ok {k : Nat} (hk : k < n.toNat) (h : dis n ps xs v c = k) : (wayL n ps xs c k v).length = k ∧ chain ps v c (wayL n ps xs c k v) ∧
    (∀ s ∈ wayL n ps xs c k v, s < 2 * ps.length ∧ 0 < stRoom ps xs s ∧ dis n ps xs (stFr ps s) c = dis n ps xs (stTo ps s) c + 1 ∧ dis n ps xs (stFr ps s) c ≤ k) := by
  induction k generalizing v with
  | zero => exact ⟨rfl, dst_zero (by omega) h, by simp [wayL]⟩
  | succ k ih =>
    obtain ⟨s, hs⟩ := nextS_is h hk
    obtain ⟨h1, h2, h3, h4⟩ := nextS_some hs
    obtain ⟨i1, i2, i3⟩ := ih (v := stTo ps s) (by omega) h4
    have e : wayL n ps xs c (k + 1) v = s :: wayL n ps xs c k (stTo ps s) := by rw [wayL, hs]
    rw [e]
    refine ⟨by simp [i1], ⟨h1, h3, i2⟩, ?_⟩
    intro t ht
    rcases List.mem_cons.1 ht with rfl | ht
    · rw [h3, h4, h]; exact ⟨h1, h2, rfl, Nat.le_refl _⟩
    · obtain ⟨j1, j2, j3, j4⟩ := i3 t ht
      exact ⟨j1, j2, j3, by omega⟩

theorem wayL_apart {k : Nat} (hk : k < n.toNat) (h : dis n ps xs v c = k) : (wayL n ps xs c k v).Pairwise fun s t => s / 2 ≠ t / 2 := by
  induction k generalizing v with
  | zero => simp [wayL]
  | succ k ih =>
    obtain ⟨s, hs⟩ := nextS_is h hk
    obtain ⟨h1, h2, h3, h4⟩ := nextS_some hs
    have e : wayL n ps xs c (k + 1) v = s :: wayL n ps xs c k (stTo ps s) := by rw [wayL, hs]
    rw [e, List.pairwise_cons]
    refine ⟨?_, ih (by omega) h4⟩
    intro t ht heq
    obtain ⟨-, -, i3⟩ := wayL_ok (show k < n.toNat by omega) h4
    obtain ⟨j1, j2, j3, j4⟩ := i3 t ht
    obtain ⟨p, hp, e1, q1⟩ := st_cases ps s h1
    obtain ⟨p', hp', e2, q2⟩ := st_cases ps t j1
    have : p = p' := by omega
    subst this
    rw [h3] at q1
    rcases q1 with ⟨-, a1, a2, -⟩ | ⟨-, a1, a2, -⟩ <;> rcases q2 with ⟨-, b1, b2, -⟩ | ⟨-, b1, b2, -⟩ <;> rw [b1, b2, ← a1, ← a2] at j3 <;> rw [b1] at j4
    · rw [← a1] at j4; omega
    · omega
    · omega
    · rw [← a1] at j4; omega

/-- one push along a step; along many -/
def push1 (a : Int) (xs : List Int) (s : Nat) : List Int := if s % 2 = 1 then xs.set (s / 2) (xs.getD (s / 2) 0 - a) else xs.set (s / 2) (xs.getD (s / 2) 0 + a)
def pushL (a : Int) (xs : List Int) (l : List Nat) : List Int := l.foldl (push1 a) xs
def roomL (ps : List Pp) (xs : List Int) (r : Int) (l : List Nat) : Int := l.foldl (fun r s => min r (stRoom ps xs s)) r

theorem push1_len (a : Int) (xs : List Int) (s : Nat) : (push1 a xs s).length = xs.length := by unfold push1; split <;> simp
theorem pushL_len (a : Int) (xs : List Int) (l : List Nat) : (pushL a xs l).length = xs.length := by
  induction l generalizing xs with
  | nil => rfl
  | cons s l ih => exact (ih (push1 a xs s)).trans (push1_len a xs s)

theorem roomL_le (ps : List Pp) (xs : List Int) (l : List Nat) : ∀ r, roomL ps xs r l ≤ r ∧ (∀ s ∈ l, roomL ps xs r l ≤ stRoom ps xs s) ∧ (roomL ps xs r l = r ∨ ∃ s ∈ l, roomL ps xs r l = stRoom ps xs s) := by
  induction l with
  | nil => intro r; simp [roomL]
  | cons t l ih =>
    intro r
    obtain ⟨h1, h2, h3⟩ := ih (min r (stRoom ps xs t))
    have e : roomL ps xs r (t :: l) = roomL ps xs (min r (stRoom ps xs t)) l := rfl
    rw [e]
    refine ⟨by omega, ?_, ?_⟩
    · intro s hs
      rcases List.mem_cons.1 hs with rfl | hs
      · omega
      · exact h2 s hs
    · rcases h3 with h3 | ⟨s, hs, h3⟩
      · rcases Int.le_total r (stRoom ps xs t) with hx | hx
        · left; omega
        · right; exact ⟨t, by simp, by omega⟩
      · right; exact ⟨s, by simp [hs], h3⟩

/-- all pipes hold it -/
def inB (ps : List Pp) (xs : List Int) : Prop := xs.length = ps.length ∧ ∀ (j : Nat) (h : j < ps.length), ps[j].le ≤ xs.getD j 0 ∧ xs.getD j 0 ≤ ps[j].mo

theorem holds_inB (hn : netOkB n ps = true) : holdsB n ps xs = true ↔ inB ps xs := by
  constructor
  · intro h
    obtain ⟨h1, h2, h3⟩ := holds_parts h
    refine ⟨h3, fun j hj => ?_⟩
    have hz : j < (ps.zip xs).length := by simp; omega
    have := List.all_eq_true.1 h2 _ (List.getElem_mem hz)
    simp only [List.getElem_zip, withinB, Bool.and_eq_true, decide_eq_true_eq] at this
    simpa [List.getD_eq_getElem?_getD, List.getElem?_eq_getElem (show j < xs.length by omega)] using this
  · rintro ⟨h3, h⟩
    have hr := net_rooms hn
    have hz : ∀ (j : Nat) (hj : j < ps.length) (hj' : j < xs.length), ps[j].le ≤ xs[j] ∧ xs[j] ≤ ps[j].mo := fun j hj hj' => by
      have := h j hj
      simpa [List.getD_eq_getElem?_getD, List.getElem?_eq_getElem hj'] using this
    have h1 : flowOkB n ps xs = true := by
      simp only [flowOkB, hn, h3, Bool.true_and, decide_true, List.all_eq_true]
      intro x hx
      obtain ⟨j, hj, rfl⟩ := List.getElem_of_mem hx
      have a1 := hz j (by omega) hj
      have a2 := hr ps[j] (List.getElem_mem (by omega))
      simp only [withinB, Bool.and_eq_true, decide_eq_true_eq]; omega
    rw [holdsB, h1, Bool.true_and, List.all_eq_true]
    intro q hq
    obtain ⟨j, hj, rfl⟩ := List.getElem_of_mem hq
    simp at hj
    have a1 := hz j (by omega) (by omega)
    simp only [List.getElem_zip, withinB, Bool.and_eq_true, decide_eq_true_eq]
    exact a1

theorem holds_net (h : holdsB n ps xs = true) : netOkB n ps = true := (flowOk_parts (holds_parts h).1).1

theorem stRoom_le (hn : netOkB n ps = true) (h : inB ps xs) {s : Nat} (hs : s < 2 * ps.length) : 0 ≤ stRoom ps xs s ∧ stRoom ps xs s ≤ 4 := by
  obtain ⟨k, hk, -, h1⟩ := st_cases ps s hs
  have hr := net_rooms hn ps[k] (List.getElem_mem hk)
  have hb := h.2 k hk
  rcases h1 with ⟨-, -, -, e⟩ | ⟨-, -, -, e⟩ <;> rw [e] <;> omega

theorem push1_inB {d : Int} {s : Nat} (h : inB ps xs) (hs : s < 2 * ps.length) (h0 : 0 ≤ d) (h1 : d ≤ stRoom ps xs s) : inB ps (push1 d xs s) := by
  obtain ⟨k, hk, hks, hc⟩ := st_cases ps s hs
  refine ⟨by rw [push1_len, h.1], fun j hj => ?_⟩
  have hx : s / 2 < xs.length := by rw [h.1]; omega
  have hb := h.2 j hj
  have hbk := h.2 k hk
  rcases hc with ⟨hm, -, -, e⟩ | ⟨hm, -, -, e⟩ <;> rw [e] at h1 <;> unfold push1
  · rw [if_pos hm, getD_set _ _ _ _ _ hx]
    split
    · rename_i hh; have : k = j := by omega
      subst this; rw [hks]; omega
    · exact hb
  · rw [if_neg (by omega), getD_set _ _ _ _ _ hx]
    split
    · rename_i hh; have : k = j := by omega
      subst this; rw [hks]; omega
    · exact hb
theorem push1_room {d : Int} {s t : Nat} (hl : xs.length = ps.length) (hs : s < 2 * ps.length) (hne : s / 2 ≠ t / 2) : stRoom ps (push1 d xs s) t = stRoom ps xs t := by
  have hx : s / 2 < xs.length := by omega
  have hg : (push1 d xs s).getD (t / 2) 0 = xs.getD (t / 2) 0 := by
    unfold push1
    split <;> rw [getD_set _ _ _ _ _ hx, if_neg hne]
  unfold stRoom
  rw [hg]
theorem pushL_inB {d : Int} {l : List Nat} (h0 : 0 ≤ d) (h : inB ps xs) (hl : ∀ s ∈ l, s < 2 * ps.length ∧ d ≤ stRoom ps xs s) (hp : l.Pairwise fun s t => s / 2 ≠ t / 2) : inB ps (pushL d xs l) := by
  induction l generalizing xs with
  | nil => exact h
  | cons s l ih =>
    have h1 := hl s (by simp)
    have h2 := push1_inB h h1.1 h0 h1.2
    rw [List.pairwise_cons] at hp
    exact ih h2 (fun t ht => ⟨(hl t (by simp [ht])).1, by rw [push1_room h.1 h1.1 (hp.1 t ht)]; exact (hl t (by simp [ht])).2⟩) hp.2

theorem excT_add (v : Int) (p : Pp) (x y : Int) : excT v p (x + y) = excT v p x + excT v p y := by unfold excT; repeat' split
                                                                                                   all_goals omega
theorem exc_set (v : Int) (ps : List Pp) (xs : List Int) (k : Nat) (y : Int) (hk : k < ps.length) (hx : k < xs.length) : exc v ps (xs.set k (xs.getD k 0 + y)) = exc v ps xs + excT v ps[k] y := by
  induction ps generalizing xs k with
  | nil => simp at hk
  | cons p ps ih =>
    cases xs with
    | nil => simp at hx
    | cons x xs =>
      cases k with
      | zero => simp [exc_cons, excT_add]; omega
      | succ k =>
        have := ih xs k (by simpa using hk) (by simpa using hx)
        simp only [List.set_cons_succ, exc_cons, List.getElem_cons_succ, List.getD_cons_succ]
        omega
theorem exc_push1 {d : Int} {s : Nat} (hn : netOkB n ps = true) (hl : xs.length = ps.length) (hs : s < 2 * ps.length) : exc v ps (push1 d xs s) = exc v ps xs + (if v = stTo ps s then d else 0) - (if v = stFr ps s then d else 0) := by
  obtain ⟨k, hk, hks, hc⟩ := st_cases ps s hs
  have he := net_endsIn hn ps[k] (List.getElem_mem hk)
  unfold endsIn at he
  rcases hc with ⟨hm, e1, e2, -⟩ | ⟨hm, e1, e2, -⟩ <;> unfold push1
  · rw [if_pos hm, hks, Int.sub_eq_add_neg, exc_set _ _ _ _ _ hk (by omega), e1, e2]
    unfold excT
    repeat' split
    all_goals omega
  · rw [if_neg (by omega), hks, exc_set _ _ _ _ _ hk (by omega), e1, e2]
    unfold excT
    repeat' split
    all_goals omega
theorem exc_pushL {d : Int} {l : List Nat} (hn : netOkB n ps = true) (hl : xs.length = ps.length) (hc : chain ps a b l) : exc v ps (pushL d xs l) = exc v ps xs + (if v = b then d else 0) - (if v = a then d else 0) := by
  induction l generalizing xs a with
  | nil =>
    have : a = b := hc
    subst this
    have e : pushL d xs [] = xs := rfl
    rw [e]; omega
  | cons s l ih =>
    obtain ⟨h1, h2, h3⟩ := hc
    have i1 := ih (xs := push1 d xs s) (by rw [push1_len, hl]) h3
    have i2 := exc_push1 (v := v) (d := d) hn hl h1
    have e : pushL d xs (s :: l) = pushL d (push1 d xs s) l := rfl
    rw [e, i1, i2, h2]
    omega

/-- is there a way; the way; how much may go along it; the flow behind the push -/
def wayB (n : Int) (ps : List Pp) (xs : List Int) (a b : Int) : Bool := holdsB n ps xs && endsB n ps a b && decide (dis n ps xs a b < n.toNat)
def wayR (n : Int) (ps : List Pp) (xs : List Int) (a b : Int) : List Nat := if wayB n ps xs a b = true then wayL n ps xs b (dis n ps xs a b) a else []
def wayI (n : Int) (ps : List Pp) (xs : List Int) (a b : Int) : List Int := (wayR n ps xs a b).map fun s : Nat => (s : Int)
def amtR (n : Int) (ps : List Pp) (xs : List Int) (a b : Int) : Int := roomL ps xs 4 (wayR n ps xs a b)
def pushR (n : Int) (ps : List Pp) (xs : List Int) (a b : Int) : List Int := if wayB n ps xs a b = true then pushL (amtR n ps xs a b) xs (wayR n ps xs a b) else []

theorem wayB_parts (h : wayB n ps xs a b = true) : holdsB n ps xs = true ∧ endsB n ps a b = true ∧ dis n ps xs a b < n.toNat := by
  simp only [wayB, Bool.and_eq_true, decide_eq_true_eq] at h
  exact ⟨h.1.1, h.1.2, h.2⟩
theorem wayR_ok (h : wayB n ps xs a b = true) : (wayR n ps xs a b).length = dis n ps xs a b ∧ 0 < dis n ps xs a b ∧ chain ps a b (wayR n ps xs a b) ∧
    (∀ s ∈ wayR n ps xs a b, s < 2 * ps.length ∧ 0 < stRoom ps xs s) ∧ (wayR n ps xs a b).Pairwise (fun s t => s / 2 ≠ t / 2) := by
  obtain ⟨h1, h2, h3⟩ := wayB_parts h
  obtain ⟨-, -, -, -, -, hab⟩ := ends_parts h2
  rw [wayR, if_pos h]
  obtain ⟨a1, a2, a3⟩ := wayL_ok h3 rfl
  refine ⟨a1, ?_, a2, fun s hs => ⟨(a3 s hs).1, (a3 s hs).2.1⟩, wayL_apart h3 rfl⟩
  apply Nat.pos_of_ne_zero
  intro h0
  exact hab (dst_zero (by omega) h0)
theorem wayR_no (h : wayB n ps xs a b = false) : wayR n ps xs a b = [] := by rw [wayR, if_neg (by simp [h])]
theorem wayR_len (n : Int) (ps : List Pp) (xs : List Int) (a b : Int) : (wayR n ps xs a b).length ≤ 5 := by
  by_cases h : wayB n ps xs a b = true
  · have h1 := (wayR_ok h).1
    obtain ⟨-, h2, h3⟩ := wayB_parts h
    have := netOk_parts (ends_parts h2).1
    omega
  · rw [wayR_no (by simpa using h)]; simp
theorem amtR_pos (h : wayB n ps xs a b = true) : 1 ≤ amtR n ps xs a b ∧ amtR n ps xs a b ≤ 4 ∧ (∀ s ∈ wayR n ps xs a b, amtR n ps xs a b ≤ stRoom ps xs s) := by
  obtain ⟨h1, h2, h3⟩ := roomL_le ps xs (wayR n ps xs a b) 4
  obtain ⟨-, -, -, h4, -⟩ := wayR_ok h
  refine ⟨?_, h1, h2⟩
  unfold amtR
  rcases h3 with h3 | ⟨s, hs, h3⟩
  · omega
  · have := (h4 s hs).2; omega
/-- from forty on, or from four on, it is the same room -/
theorem room40 (h : wayB n ps xs a b = true) : roomL ps xs 40 (wayR n ps xs a b) = amtR n ps xs a b := by
  obtain ⟨h1, h2, h3⟩ := roomL_le ps xs (wayR n ps xs a b) 40
  obtain ⟨g1, g2, g3⟩ := roomL_le ps xs (wayR n ps xs a b) 4
  obtain ⟨l1, l2, -, l4, -⟩ := wayR_ok h
  have hh := (wayB_parts h).1
  have hn := holds_net hh
  have hi := (holds_inB hn).1 hh
  unfold amtR
  obtain ⟨s, hs⟩ : ∃ s, s ∈ wayR n ps xs a b := List.exists_mem_of_length_pos (by omega)
  have q1 := h2 s hs
  have q2 := stRoom_le hn hi (l4 s hs).1
  apply Int.le_antisymm
  · rcases g3 with g3 | ⟨t, ht, g3⟩
    · omega
    · rw [g3]; exact h2 t ht
  · rcases h3 with h3 | ⟨t, ht, h3⟩
    · omega
    · rw [h3]; exact g2 t ht

theorem push_ok (h : wayB n ps xs a b = true) : holdsB n ps (pushR n ps xs a b) = true ∧ ∀ v, exc v ps (pushR n ps xs a b) = exc v ps xs + (if v = b then amtR n ps xs a b else 0) - (if v = a then amtR n ps xs a b else 0) := by
  have hh := (wayB_parts h).1
  have hn := holds_net hh
  have hi := (holds_inB hn).1 hh
  obtain ⟨l1, l2, l3, l4, l5⟩ := wayR_ok h
  obtain ⟨m1, m2, m3⟩ := amtR_pos h
  rw [pushR, if_pos h]
  exact ⟨(holds_inB hn).2 (pushL_inB (by omega) hi (fun s hs => ⟨(l4 s hs).1, m3 s hs⟩) l5), fun v => exc_pushL hn hi.1 l3⟩
theorem push_to (h : wayB n ps xs a b = true) : exc b ps (pushR n ps xs a b) = exc b ps xs + amtR n ps xs a b := by
  obtain ⟨-, -, -, -, -, hab⟩ := ends_parts (wayB_parts h).2.1
  rw [(push_ok h).2 b, if_pos rfl, if_neg (by intro hh; exact hab hh.symm)]; omega

/-- pushed on so often, as long as there is a way -/
def pushN (n : Int) (ps : List Pp) (a b : Int) : Nat → List Int → List Int
  | 0, xs => xs
  | k + 1, xs => if wayB n ps xs a b = true then pushN n ps a b k (pushR n ps xs a b) else xs

theorem pushN_no {xs : List Int} (h : wayB n ps xs a b = false) (k : Nat) : pushN n ps a b k xs = xs := by
  cases k with
  | zero => rfl
  | succ k => rw [pushN, if_neg (by simp [h])]
theorem pushN_holds {xs : List Int} (h : holdsB n ps xs = true) (k : Nat) : holdsB n ps (pushN n ps a b k xs) = true := by
  induction k generalizing xs with
  | zero => exact h
  | succ k ih =>
    rw [pushN]
    split
    · rename_i hw; exact ih (push_ok hw).1
    · exact h
theorem pushN_exc {xs : List Int} (k : Nat) (v : Int) (h1 : v ≠ a) (h2 : v ≠ b) : exc v ps (pushN n ps a b k xs) = exc v ps xs := by
  induction k generalizing xs with
  | zero => rfl
  | succ k ih =>
    rw [pushN]
    split
    · rename_i hw
      rw [ih, (push_ok hw).2 v, if_neg h2, if_neg h1]; omega
    · rfl

/-- two flows that all pipes hold differ in the excess of a node by at most as much as all pipes hold -/
theorem exc_gap (v : Int) (ps : List Pp) (xs ys : List Int) (h : inB ps xs) (h' : inB ps ys) (hr : ∀ p ∈ ps, 0 ≤ p.le ∧ p.le ≤ p.mo ∧ p.mo ≤ 4) : exc v ps ys ≤ exc v ps xs + 4 * (ps.length : Int) := by
  induction ps generalizing xs ys with
  | nil => simp [exc]
  | cons p ps ih =>
    obtain ⟨l1, h1⟩ := h
    obtain ⟨l2, h2⟩ := h'
    cases xs with
    | nil => simp at l1
    | cons x xs =>
      cases ys with
      | nil => simp at l2
      | cons y ys =>
        have i := ih xs ys ⟨by simpa using l1, fun j hj => by have := h1 (j + 1) (by simpa using hj); simpa using this⟩ ⟨by simpa using l2, fun j hj => by have := h2 (j + 1) (by simpa using hj); simpa using this⟩ (fun q hq => hr q (by simp [hq]))
        have a1 := h1 0 (by simp)
        have a2 := h2 0 (by simp)
        have a3 := hr p (by simp)
        simp at a1 a2
        rw [exc_cons, exc_cons]
        have : excT v p y ≤ excT v p x + 4 := by unfold excT; repeat' split
                                                 all_goals omega
        simp only [List.length_cons]
        omega
theorem exc_gap28 {ys : List Int} (h : holdsB n ps xs = true) (h' : holdsB n ps ys = true) (v : Int) : exc v ps ys ≤ exc v ps xs + 28 := by
  have hn := holds_net h
  have := exc_gap v ps xs ys ((holds_inB hn).1 h) ((holds_inB hn).1 h') (net_rooms hn)
  have := (netOk_parts hn).2.2.1
  omega

/-- after 28 pushes there is no way left -/
theorem pushN_end {xs ys : List Int} (hy : holdsB n ps ys = true) (h : holdsB n ps xs = true) (k : Nat) (hk : exc b ps ys + 28 ≤ exc b ps xs + k) : wayB n ps (pushN n ps a b k xs) a b = false := by
  induction k generalizing xs with
  | zero =>
    rw [pushN]
    apply Classical.byContradiction
    intro hw
    have hw' : wayB n ps xs a b = true := by simpa using hw
    have p1 := push_ok hw'
    have p2 := push_to hw'
    have p3 := amtR_pos hw'
    have p4 := exc_gap28 hy p1.1 b
    omega
  | succ k ih =>
    rw [pushN]
    split
    · rename_i hw
      have p1 := push_ok hw
      have p2 := push_to hw
      have p3 := amtR_pos hw
      exact ih p1.1 (by omega)
    · rename_i hw; simpa using hw
theorem pushN_stay {xs ys : List Int} (hy : holdsB n ps ys = true) (h : holdsB n ps xs = true) (k : Nat) (hk : exc b ps ys + 28 ≤ exc b ps xs + k) (j : Nat) : pushN n ps a b (k + j) xs = pushN n ps a b k xs := by
  induction k generalizing xs with
  | zero =>
    have := pushN_end (a := a) (b := b) hy h 0 hk
    rw [pushN] at this
    rw [pushN_no this, pushN_no this]
  | succ k ih =>
    have e : k + 1 + j = k + j + 1 := by omega
    rw [e, pushN, pushN]
    split
    · rename_i hw
      have p1 := push_ok hw
      have p2 := push_to hw
      have p3 := amtR_pos hw
      exact ih p1.1 (by omega)
    · rfl

def zeros (ps : List Pp) : List Int := List.replicate ps.length 0
theorem free_holds (h : freeB n ps = true) : holdsB n ps (zeros ps) = true := by
  have hn : netOkB n ps = true := by simp only [freeB, Bool.and_eq_true] at h; exact h.1
  rw [zeros, free_zero hn, h]
theorem exc_zeros (v : Int) (ps : List Pp) : exc v ps (zeros ps) = 0 := by
  unfold zeros
  induction ps with
  | nil => rfl
  | cons p ps ih =>
    rw [List.length_cons, List.replicate_succ, exc_cons, ih]
    have : excT v p 0 = 0 := by unfold excT; repeat' split
                                all_goals rfl
    omega

def greatB (n : Int) (ps : List Pp) (a b : Int) : Bool := freeB n ps && endsB n ps a b
def greatF (n : Int) (ps : List Pp) (a b : Int) : List Int := if greatB n ps a b = true then pushN n ps a b 28 (zeros ps) else []
theorem great_parts (h : greatB n ps a b = true) : freeB n ps = true ∧ endsB n ps a b = true := by simpa [greatB] using h
theorem great_yes (h : greatB n ps a b = true) : greatF n ps a b = pushN n ps a b 28 (zeros ps) := by rw [greatF, if_pos h]
theorem great_no (h : greatB n ps a b = false) : greatF n ps a b = [] := by rw [greatF, if_neg (by simp [h])]
theorem great_holds (h : greatB n ps a b = true) : holdsB n ps (greatF n ps a b) = true := by
  rw [great_yes h]; exact pushN_holds (free_holds (great_parts h).1) _
theorem great_exc (h : greatB n ps a b = true) (v : Int) (h1 : v ≠ a) (h2 : v ≠ b) : exc v ps (greatF n ps a b) = 0 := by
  rw [great_yes h, pushN_exc _ _ h1 h2, exc_zeros]
theorem great_end (h : greatB n ps a b = true) : wayB n ps (greatF n ps a b) a b = false := by
  rw [great_yes h]
  exact pushN_end (free_holds (great_parts h).1) (free_holds (great_parts h).1) 28 (by omega)
def greatV (n : Int) (ps : List Pp) (a b : Int) : Int := if greatB n ps a b = true then exc b ps (greatF n ps a b) else -1
end

end Go.Proofs.Ytiplpdcilcghmaa
