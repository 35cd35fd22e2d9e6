/- Plain facts on sides of a net, what goes over a cut, rooms and least rooms, chapter 2. -/
import Derived.Test.YtiplpdcilcghmaaM2
namespace Go.Proofs.Ytiplpdcilcghmaa
open Go.RowKit

theorem beq_dec (x y : Int) : (x == y) = decide (x = y) := by rw [Bool.eq_iff_iff]; simp
theorem bne_dec (x y : Int) : (x != y) = !decide (x = y) := by rw [Bool.eq_iff_iff]; simp

/-- is a node of the side -/
def bitB (s k : Int) : Bool := decide (s / 2 ^ k.toNat % 2 = 1)
def partsB (s a b : Int) : Bool := bitB s a && !bitB s b
def sideB (n : Int) (ps : List Pp) (s : Int) : Bool := netOkB n ps && withinB s 0 (2 ^ n.toNat - 1)

theorem cases5 {k : Int} (h0 : 0 ≤ k) (h1 : k ≤ 4) : k = 0 ∨ k = 1 ∨ k = 2 ∨ k = 3 ∨ k = 4 := by omega

theorem bit_not {s k : Int} (h0 : 0 ≤ k) (h1 : k ≤ 4) : bitB (-1 - s) k = !bitB s k := by
  rw [Bool.eq_iff_iff]
  rcases cases5 h0 h1 with rfl | rfl | rfl | rfl | rfl <;> simp [bitB] <;> omega

theorem parts_not {s a b : Int} (h0 : 0 ≤ a) (h1 : a ≤ 4) (h2 : 0 ≤ b) (h3 : b ≤ 4) : partsB (-1 - s) a b = partsB s b a := by
  rw [partsB, partsB, bit_not h0 h1, bit_not h2 h3, Bool.not_not, Bool.and_comm]

theorem parts_one {s a b : Int} (h : partsB s a b = true) : partsB s b a = false := by
  simp only [partsB, Bool.and_eq_true, Bool.not_eq_true'] at h
  simp [partsB, h.1, h.2]

/-- what an amount over a cut adds -/
def acT (s : Int) (p : Pp) (o b : Int) : Int := if partsB s p.fr p.to = true then o else if partsB s p.to p.fr = true then -b else 0
def room (s : Int) (ps : List Pp) : Int := (ps.map fun p => acT s p p.mo p.le).sum
def across (s : Int) (ps : List Pp) (xs : List Int) : Int := ((ps.zip xs).map fun q => acT s q.1 q.2 q.2).sum

def roomAt (n : Int) (ps : List Pp) (s : Int) : Int × Bool := if sideB n ps s = true then (room s ps, true) else (0, false)
def acrossAt (n : Int) (ps : List Pp) (xs : List Int) (s : Int) : Int × Bool := if flowOkB n ps xs = true ∧ sideB n ps s = true then (across s ps xs, true) else (0, false)
theorem acT_out {s : Int} {p : Pp} {o b : Int} (h : partsB s p.fr p.to = true) : acT s p o b = o := by rw [acT, if_pos h]
theorem acT_back {s : Int} {p : Pp} {o b : Int} (h : partsB s p.fr p.to = false) (h1 : partsB s p.to p.fr = true) : acT s p o b = -b := by rw [acT, if_neg (by simp [h]), if_pos h1]
theorem acT_no {s : Int} {p : Pp} {o b : Int} (h : partsB s p.fr p.to = false) (h1 : partsB s p.to p.fr = false) : acT s p o b = 0 := by rw [acT, if_neg (by simp [h]), if_neg (by simp [h1])]

theorem acT_bd {s : Int} {p : Pp} {o b m : Int} (h0 : 0 ≤ o) (h1 : o ≤ m) (h2 : 0 ≤ b) (h3 : b ≤ m) : -m ≤ acT s p o b ∧ acT s p o b ≤ m := by
  unfold acT; repeat' split
  all_goals omega

theorem room_snoc (s : Int) (ps : List Pp) (k : Nat) (hp : k < ps.length) : room s (ps.take (k + 1)) = room s (ps.take k) + acT s ps[k] ps[k].mo ps[k].le := by
  unfold room
  rw [List.take_succ_eq_append_getElem hp, List.map_append, List.sum_append]
  simp only [List.map_cons, List.map_nil, List.sum_cons, List.sum_nil, Int.add_zero]

theorem room_bd (s : Int) (ps : List Pp) (h : ∀ p ∈ ps, 0 ≤ p.le ∧ p.le ≤ p.mo ∧ p.mo ≤ 4) : -(4 * (ps.length : Int)) ≤ room s ps ∧ room s ps ≤ 4 * (ps.length : Int) := by
  induction ps with
  | nil => simp [room]
  | cons p ps ih =>
    have h1 := ih (fun y hy => h y (by simp [hy]))
    have hp := h p (by simp)
    have h2 := acT_bd (s := s) (p := p) (o := p.mo) (b := p.le) (m := 4) (by omega) (by omega) (by omega) (by omega)
    have e : room s (p :: ps) = acT s p p.mo p.le + room s ps := by simp [room]
    rw [e]
    simp only [List.length_cons]
    omega

theorem across_snoc (s : Int) (ps : List Pp) (xs : List Int) (k : Nat) (hp : k < ps.length) (hx : k < xs.length) :
    across s (ps.take (k + 1)) (xs.take (k + 1)) = across s (ps.take k) (xs.take k) + acT s ps[k] xs[k] xs[k] := by
  unfold across
  rw [List.take_succ_eq_append_getElem hp, List.take_succ_eq_append_getElem hx, List.zip_append (by simp; omega)]
  simp

theorem across_bd (s : Int) (ps : List Pp) (xs : List Int) (h : ∀ x ∈ xs, 0 ≤ x ∧ x ≤ 40) : -(40 * (ps.length : Int)) ≤ across s ps xs ∧ across s ps xs ≤ 40 * (ps.length : Int) := by
  induction ps generalizing xs with
  | nil => simp [across]
  | cons p ps ih =>
    cases xs with
    | nil => simp [across]; omega
    | cons x xs =>
      have h1 := ih xs (fun y hy => h y (by simp [hy]))
      have hx := h x (by simp)
      have h2 := acT_bd (s := s) (p := p) (o := x) (b := x) (m := 40) hx.1 hx.2 hx.1 hx.2
      have e : across s (p :: ps) (x :: xs) = acT s p x x + across s ps xs := by simp [across]
      rw [e]
      simp only [List.length_cons]
      omega

theorem net_rooms {n : Int} {ps : List Pp} (h : netOkB n ps = true) : ∀ p ∈ ps, 0 ≤ p.le ∧ p.le ≤ p.mo ∧ p.mo ≤ 4 := fun p hp => by
  have := pipeOk_parts ((netOk_parts h).2.2.2 p hp)
  omega

theorem net_ends {n : Int} {ps : List Pp} (h : netOkB n ps = true) : ∀ p ∈ ps, 0 ≤ p.fr ∧ p.fr ≤ 4 ∧ 0 ≤ p.to ∧ p.to ≤ 4 := fun p hp => by
  have h1 := pipeOk_parts ((netOk_parts h).2.2.2 p hp)
  have h2 := netOk_parts h
  omega

/-- the numbers below a count that fit, in ascending order -/
def numW (c : Nat) (f : Nat → Bool) : List Int := ((List.range c).filter f).map fun i : Nat => (i : Int)

theorem numW_yes {c : Nat} {f : Nat → Bool} (h : f c = true) : numW (c + 1) f = numW c f ++ [(c : Int)] := by
  simp [numW, List.range_succ, List.filter_append, h]
theorem numW_no {c : Nat} {f : Nat → Bool} (h : f c = false) : numW (c + 1) f = numW c f := by
  simp [numW, List.range_succ, List.filter_append, h]
theorem numW_len (c : Nat) (f : Nat → Bool) : (numW c f).length ≤ c := by
  simp only [numW, List.length_map]
  exact Nat.le_trans (List.length_filter_le _ _) (by simp)
theorem numW_mem {c : Nat} {f : Nat → Bool} {x : Int} : x ∈ numW c f ↔ ∃ i : Nat, i < c ∧ f i = true ∧ x = (i : Int) := by
  simp only [numW, List.mem_map, List.mem_filter, List.mem_range]
  constructor
  · rintro ⟨i, ⟨h1, h2⟩, rfl⟩; exact ⟨i, h1, h2, rfl⟩
  · rintro ⟨i, h1, h2, rfl⟩; exact ⟨i, ⟨h1, h2⟩, rfl⟩

def endsB (n : Int) (ps : List Pp) (a b : Int) : Bool := netOkB n ps && withinB a 0 (n - 1) && withinB b 0 (n - 1) && decide (a ≠ b)
theorem ends_parts {n : Int} {ps : List Pp} {a b : Int} (h : endsB n ps a b = true) : netOkB n ps = true ∧ 0 ≤ a ∧ a < n ∧ 0 ≤ b ∧ b < n ∧ a ≠ b := by
  simp only [endsB, withinB, Bool.and_eq_true, decide_eq_true_eq] at h
  obtain ⟨⟨⟨h1, h2, h3⟩, h4, h5⟩, h6⟩ := h
  exact ⟨h1, h2, by omega, h4, by omega, h6⟩

def sidesL (n a b : Int) : List Int := numW (2 ^ n.toNat) fun s => partsB s a b
def minL (ps : List Pp) (x : Int) (l : List Int) : Int := l.foldl (fun m s => min m (room s ps)) x
/-- the least room between two nodes -/
def leastI (n : Int) (ps : List Pp) (a b : Int) : Int := minL ps (room (2 ^ a.toNat) ps) (sidesL n a b)
def leastR (n : Int) (ps : List Pp) (a b : Int) : Int × Bool := if endsB n ps a b = true then (leastI n ps a b, true) else (0, false)
def narrowL (n : Int) (ps : List Pp) (a b : Int) : List Int :=
  if endsB n ps a b = true then numW (2 ^ n.toNat) fun s => partsB s a b && decide (room s ps = leastI n ps a b) else []
def leavingL (n : Int) (ps : List Pp) (s : Int) : List Int :=
  if sideB n ps s = true then numW ps.length fun k => ps[k]?.any fun p => partsB s p.fr p.to else []

def leavF (s : Int) (ps : List Pp) (k : Nat) : Bool := ps[k]?.any fun p => partsB s p.fr p.to
theorem leavF_at {s : Int} {ps : List Pp} {k : Nat} (hk : k < ps.length) : leavF s ps k = partsB s ps[k].fr ps[k].to := by
  rw [leavF, List.getElem?_eq_getElem hk]; rfl

theorem leavingL_len (n : Int) (ps : List Pp) (s : Int) : (leavingL n ps s).length ≤ ps.length := by
  unfold leavingL; split
  · exact numW_len _ _
  · simp
theorem narrowL_len (n : Int) (ps : List Pp) (a b : Int) : (narrowL n ps a b).length ≤ 32 := by
  unfold narrowL; split
  · rename_i h
    have h5 := (netOk_parts (ends_parts h).1).2.1
    exact Nat.le_trans (numW_len _ _) (Nat.le_trans (Nat.pow_le_pow_right (by omega) (show n.toNat ≤ 5 by omega)) (by decide))
  · simp
theorem leaving_yes {n : Int} {ps : List Pp} {s : Int} (h : sideB n ps s = true) : leavingL n ps s = numW ps.length (leavF s ps) := by rw [leavingL, if_pos h]; rfl
theorem leaving_no {n : Int} {ps : List Pp} {s : Int} (h : sideB n ps s = false) : leavingL n ps s = [] := by rw [leavingL, if_neg (by simp [h])]

theorem minL_le (ps : List Pp) (l : List Int) : ∀ x, minL ps x l ≤ x ∧ (∀ s ∈ l, minL ps x l ≤ room s ps) ∧ (minL ps x l = x ∨ ∃ s ∈ l, minL ps x l = room s ps) := by
  induction l with
  | nil => intro x; simp [minL]
  | cons t l ih =>
    intro x
    obtain ⟨h1, h2, h3⟩ := ih (min x (room t ps))
    have e : minL ps x (t :: l) = minL ps (min x (room t ps)) l := rfl
    rw [e]
    refine ⟨by omega, ?_, ?_⟩
    · intro s hs
      rcases List.mem_cons.1 hs with rfl | hs
      · omega
      · exact h2 s hs
    · rcases h3 with h3 | ⟨s, hs, h3⟩
      · rcases Int.le_total x (room t ps) with hx | hx
        · left; omega
        · right; exact ⟨t, by simp, by omega⟩
      · right; exact ⟨s, by simp [hs], h3⟩

theorem minL_snoc (ps : List Pp) (x : Int) (l : List Int) (k : Nat) (hk : k < l.length) : minL ps x (l.take (k + 1)) = min (minL ps x (l.take k)) (room l[k] ps) := by
  rw [List.take_succ_eq_append_getElem hk, minL, List.foldl_append]
  rfl

theorem pow_toNat (n : Int) : ((2 ^ n.toNat : Nat) : Int) = 2 ^ n.toNat := by simp

/-- one node alone is a side with it, and without another one -/
theorem one_side {n a b : Int} (h0 : 0 ≤ a) (h1 : a < n) (h2 : 0 ≤ b) (h3 : b < n) (h4 : n ≤ 5) (hab : a ≠ b) : (2 ^ a.toNat : Int) ∈ sidesL n a b := by
  rw [sidesL, numW_mem]
  refine ⟨2 ^ a.toNat, Nat.pow_lt_pow_right (by omega) (by omega), ?_, by simp⟩
  rcases cases5 h0 (by omega) with rfl | rfl | rfl | rfl | rfl <;> rcases cases5 h2 (by omega) with rfl | rfl | rfl | rfl | rfl <;>
    first | (exfalso; exact hab rfl) | decide

theorem sides_ne {n a b : Int} (h0 : 0 ≤ a) (h1 : a < n) (h2 : 0 ≤ b) (h3 : b < n) (h4 : n ≤ 5) (hab : a ≠ b) : 0 < (sidesL n a b).length :=
  List.length_pos_of_mem (one_side h0 h1 h2 h3 h4 hab)

theorem sides_len (n a b : Int) (h : n ≤ 5) : (sidesL n a b).length ≤ 32 := by
  refine Nat.le_trans (numW_len _ _) ?_
  exact Nat.le_trans (Nat.pow_le_pow_right (by omega) (show n.toNat ≤ 5 by omega)) (by decide)

theorem sides_in (n a b : Int) (h : n ≤ 5) : ∀ k (hk : k < (sidesL n a b).length), 0 ≤ (sidesL n a b)[k] ∧ (sidesL n a b)[k] ≤ 31 := by
  intro k hk
  obtain ⟨i, hi, _, hx⟩ := numW_mem.1 (List.getElem_mem hk)
  have hp : 2 ^ n.toNat ≤ 32 := Nat.le_trans (Nat.pow_le_pow_right (by omega) (show n.toNat ≤ 5 by omega)) (by decide)
  have hx' : (sidesL n a b)[k] = (i : Int) := hx
  omega

/-- from the first one on, or from any one on, it is the same least room -/
theorem least_first {n : Int} {ps : List Pp} {a b : Int} (h : endsB n ps a b = true) (h5 : n ≤ 5) (hl : 0 < (sidesL n a b).length) :
    minL ps (room (sidesL n a b)[0] ps) ((sidesL n a b).drop 1) = leastI n ps a b := by
  obtain ⟨_, h0, h1, h2, h3, hab⟩ := ends_parts h
  have hone := one_side h0 h1 h2 h3 h5 hab
  unfold leastI
  generalize sidesL n a b = l at *
  cases l with
  | nil => simp at hl
  | cons t l =>
    obtain ⟨a1, a2, a3⟩ := minL_le ps (List.drop 1 (t :: l)) (room (t :: l)[0] ps)
    obtain ⟨b1, b2, b3⟩ := minL_le ps (t :: l) (room (2 ^ a.toNat) ps)
    simp only [List.drop_succ_cons, List.drop_zero, List.getElem_cons_zero] at *
    have c1 : ∀ s ∈ t :: l, minL ps (room t ps) l ≤ room s ps := by
      intro s hs
      rcases List.mem_cons.1 hs with rfl | hs
      · exact a1
      · exact a2 s hs
    have c2 := c1 _ hone
    apply Int.le_antisymm
    · rcases b3 with b3 | ⟨s, hs, b3⟩
      · rw [b3]; exact c2
      · rw [b3]; exact c1 s hs
    · rcases a3 with a3 | ⟨s, hs, a3⟩
      · rw [a3]; exact b2 t (by simp)
      · rw [a3]; exact b2 s (by simp [hs])

end Go.Proofs.Ytiplpdcilcghmaa
