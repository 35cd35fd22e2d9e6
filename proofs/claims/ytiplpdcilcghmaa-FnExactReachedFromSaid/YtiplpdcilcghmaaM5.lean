/- Plain facts for the promises of chapter 2: rooms of both and of the common side, turned nets' rooms, least rooms, narrowest sides. -/
import Derived.Test.YtiplpdcilcghmaaM4
namespace Go.Proofs.Ytiplpdcilcghmaa
open Go.RowKit

theorem or_bit : ∀ (s t : Fin 32) (k : Fin 5), bitB (bits .or .i64 (s.val : Int) (t.val : Int)) (k.val : Int) = (bitB (s.val : Int) (k.val : Int) || bitB (t.val : Int) (k.val : Int)) := by decide +kernel
theorem and_bit : ∀ (s t : Fin 32) (k : Fin 5), bitB (bits .and .i64 (s.val : Int) (t.val : Int)) (k.val : Int) = (bitB (s.val : Int) (k.val : Int) && bitB (t.val : Int) (k.val : Int)) := by decide +kernel
theorem or_in : ∀ (n : Fin 6) (s t : Fin 32), s.val < 2 ^ n.val → t.val < 2 ^ n.val → 0 ≤ bits .or .i64 (s.val : Int) (t.val : Int) ∧ bits .or .i64 (s.val : Int) (t.val : Int) ≤ 2 ^ n.val - 1 := by decide +kernel
theorem and_in : ∀ (n : Fin 6) (s t : Fin 32), s.val < 2 ^ n.val → t.val < 2 ^ n.val → 0 ≤ bits .and .i64 (s.val : Int) (t.val : Int) ∧ bits .and .i64 (s.val : Int) (t.val : Int) ≤ 2 ^ n.val - 1 := by decide +kernel

section
variable {n s t k : Int}
theorem or_bit' (s0 : 0 ≤ s) (s1 : s ≤ 31) (t0 : 0 ≤ t) (t1 : t ≤ 31) (k0 : 0 ≤ k) (k1 : k ≤ 4) : bitB (bits .or .i64 s t) k = (bitB s k || bitB t k) := by
  have h := or_bit ⟨s.toNat, by omega⟩ ⟨t.toNat, by omega⟩ ⟨k.toNat, by omega⟩
  simpa only [Int.toNat_of_nonneg s0, Int.toNat_of_nonneg t0, Int.toNat_of_nonneg k0] using h
theorem and_bit' (s0 : 0 ≤ s) (s1 : s ≤ 31) (t0 : 0 ≤ t) (t1 : t ≤ 31) (k0 : 0 ≤ k) (k1 : k ≤ 4) : bitB (bits .and .i64 s t) k = (bitB s k && bitB t k) := by
  have h := and_bit ⟨s.toNat, by omega⟩ ⟨t.toNat, by omega⟩ ⟨k.toNat, by omega⟩
  simpa only [Int.toNat_of_nonneg s0, Int.toNat_of_nonneg t0, Int.toNat_of_nonneg k0] using h
theorem or_in' (n0 : 0 ≤ n) (n5 : n ≤ 5) (s0 : 0 ≤ s) (s1 : s ≤ 2 ^ n.toNat - 1) (t0 : 0 ≤ t) (t1 : t ≤ 2 ^ n.toNat - 1) : 0 ≤ bits .or .i64 s t ∧ bits .or .i64 s t ≤ 2 ^ n.toNat - 1 := by
  have hp := pow_le5 n5
  have e := pow_toNat n
  have h := or_in ⟨n.toNat, by omega⟩ ⟨s.toNat, by omega⟩ ⟨t.toNat, by omega⟩ (by simp only; omega) (by simp only; omega)
  simpa only [Int.toNat_of_nonneg s0, Int.toNat_of_nonneg t0] using h
theorem and_in' (n0 : 0 ≤ n) (n5 : n ≤ 5) (s0 : 0 ≤ s) (s1 : s ≤ 2 ^ n.toNat - 1) (t0 : 0 ≤ t) (t1 : t ≤ 2 ^ n.toNat - 1) : 0 ≤ bits .and .i64 s t ∧ bits .and .i64 s t ≤ 2 ^ n.toNat - 1 := by
  have hp := pow_le5 n5
  have e := pow_toNat n
  have h := and_in ⟨n.toNat, by omega⟩ ⟨s.toNat, by omega⟩ ⟨t.toNat, by omega⟩ (by simp only; omega) (by simp only; omega)
  simpa only [Int.toNat_of_nonneg s0, Int.toNat_of_nonneg t0] using h

theorem room_two {ps : List Pp} (s0 : 0 ≤ s) (s1 : s ≤ 31) (t0 : 0 ≤ t) (t1 : t ≤ 31) (h : netOkB n ps = true) : room (bits .or .i64 s t) ps + room (bits .and .i64 s t) ps ≤ room s ps + room t ps := by
  have he := net_ends h
  have hr := net_rooms h
  clear h
  induction ps with
  | nil => simp [room]
  | cons p ps ih =>
    have i := ih (fun q hq => he q (by simp [hq])) (fun q hq => hr q (by simp [hq]))
    obtain ⟨a0, a1, b0, b1⟩ := he p (by simp)
    obtain ⟨l0, l1, _⟩ := hr p (by simp)
    rw [room_cons, room_cons, room_cons, room_cons]
    have : acT (bits .or .i64 s t) p p.mo p.le + acT (bits .and .i64 s t) p p.mo p.le ≤ acT s p p.mo p.le + acT t p p.mo p.le := by
      simp only [acT, partsB, or_bit' s0 s1 t0 t1 a0 a1, or_bit' s0 s1 t0 t1 b0 b1, and_bit' s0 s1 t0 t1 a0 a1, and_bit' s0 s1 t0 t1 b0 b1]
      rcases Bool.eq_false_or_eq_true (bitB s p.fr) with h1 | h1 <;> rcases Bool.eq_false_or_eq_true (bitB s p.to) with h2 | h2 <;> rcases Bool.eq_false_or_eq_true (bitB t p.fr) with h3 | h3 <;> rcases Bool.eq_false_or_eq_true (bitB t p.to) with h4 | h4 <;>
        simp [h1, h2, h3, h4] <;> omega
    omega

theorem bit_zero (k : Int) : bitB 0 k = false := by simp [bitB]
theorem parts_zero (a b : Int) : partsB 0 a b = false := by simp [partsB, bit_zero]
theorem room_zero (ps : List Pp) : room 0 ps = 0 := by
  induction ps with
  | nil => rfl
  | cons p ps ih => rw [room_cons, ih, acT_no (parts_zero _ _) (parts_zero _ _)]; rfl

theorem room_lack {ps : List Pp} (h : sideB n ps s = true) : room (lack n s) ps = room s (ps.map turnP) := by
  obtain ⟨hok, n0, n5, s0, s1⟩ := side_all h
  have he := net_endsIn hok
  clear h hok
  induction ps with
  | nil => rfl
  | cons p ps ih =>
    rw [List.map_cons, room_cons, room_cons, ih (fun q hq => he q (by simp [hq])), acT_lack n0 n5 s0 s1 (he p (by simp))]
    rfl
theorem room_all {ps : List Pp} (h : netOkB n ps = true) : room (2 ^ n.toNat - 1) ps = 0 := by
  have hs : sideB n ps 0 = true := by
    simp only [sideB, h, withinB, Bool.true_and, Bool.and_eq_true, decide_eq_true_eq]
    have : (0 : Int) < 2 ^ n.toNat := Int.pow_pos (by omega)
    omega
  have e := room_lack hs
  rw [room_zero] at e
  rw [← e, lack]
  congr 1
  omega
theorem side_turn {ps : List Pp} : sideB n (ps.map turnP) s = sideB n ps s := by simp only [sideB, netOk_turn]
theorem ends_turn {ps : List Pp} {a b : Int} : endsB n (ps.map turnP) b a = endsB n ps a b := by
  simp only [endsB, netOk_turn]
  rw [Bool.eq_iff_iff]
  simp only [Bool.and_eq_true, decide_eq_true_eq]
  constructor <;> (rintro ⟨⟨⟨h1, h2⟩, h3⟩, h4⟩; exact ⟨⟨⟨h1, h3⟩, h2⟩, fun e => h4 e.symm⟩)

/-! ### leaving pipes -/
theorem leav_turn {ps : List Pp} (h : sideB n ps s = true) (k : Nat) : leavF s (ps.map turnP) k = leavF (lack n s) ps k := by
  obtain ⟨hok, n0, n5, s0, s1⟩ := side_all h
  have he := net_endsIn hok
  unfold leavF
  rw [List.getElem?_map]
  by_cases hk : k < ps.length
  · rw [List.getElem?_eq_getElem hk]
    obtain ⟨a0, a1, b0, b1, _⟩ := he _ (List.getElem_mem hk)
    simp only [Option.map_some, Option.any_some, turnP, parts_lack n0 n5 s0 s1 a0 a1 b0 b1]
  · rw [List.getElem?_eq_none (by omega)]; rfl
theorem leaving_turn (ps : List Pp) : leavingL n (ps.map turnP) s = leavingL n ps (lack n s) := by
  by_cases h : sideB n ps s = true
  · rw [leaving_yes (by rw [side_turn]; exact h), leaving_yes (by rw [side_lack]; exact h), List.length_map]
    have : leavF s (ps.map turnP) = leavF (lack n s) ps := funext fun k => leav_turn h k
    rw [this]
  · have h' : sideB n ps s = false := by simpa using h
    rw [leaving_no (by rw [side_turn]; exact h'), leaving_no (by rw [side_lack]; exact h')]
theorem leaving_apart {ps : List Pp} (h : sideB n ps s = true) : ∀ x ∈ leavingL n ps s, x ∉ leavingL n ps (lack n s) := by
  intro x h1 h2
  rw [leaving_yes h, numW_mem] at h1
  rw [leaving_yes (by rw [side_lack]; exact h), numW_mem] at h2
  obtain ⟨i, hi, f1, rfl⟩ := h1
  obtain ⟨j, hj, f2, e⟩ := h2
  obtain rfl : i = j := by omega
  obtain ⟨hok, n0, n5, s0, s1⟩ := side_all h
  obtain ⟨a0, a1, b0, b1, _⟩ := net_endsIn hok _ (List.getElem_mem hi)
  rw [leavF_at hi] at f1
  rw [leavF_at hi, parts_lack n0 n5 s0 s1 a0 a1 b0 b1, parts_one f1] at f2
  cases f2

/-- in ascending order -/
def ascB (xs : List Int) : Bool := (List.range (xs.length - 1)).all fun k => decide (xs.getD k 0 < xs.getD (k + 1) 0)
theorem numW_lt (c : Nat) (f : Nat → Bool) : ∀ x ∈ numW c f, x < (c : Int) := fun x hx => by
  obtain ⟨i, hi, _, rfl⟩ := numW_mem.1 hx; omega
theorem numW_pair (c : Nat) (f : Nat → Bool) : (numW c f).Pairwise (· < ·) := by
  unfold numW
  rw [List.pairwise_map]
  exact List.Pairwise.imp (fun h => by omega) (List.Pairwise.filter _ List.pairwise_lt_range)
theorem asc_of {xs : List Int} (h : xs.Pairwise (· < ·)) : ∀ k (hk : k + 1 < xs.length), xs[k] < xs[k + 1] := fun k hk =>
  List.pairwise_iff_getElem.1 h k (k + 1) (by omega) hk (by omega)
theorem leaving_asc (n s : Int) (ps : List Pp) : (leavingL n ps s).Pairwise (· < ·) := by
  unfold leavingL; split
  · exact numW_pair _ _
  · exact List.Pairwise.nil
theorem narrow_asc (n a b : Int) (ps : List Pp) : (narrowL n ps a b).Pairwise (· < ·) := by
  unfold narrowL; split
  · exact numW_pair _ _
  · exact List.Pairwise.nil

/-! ### least rooms -/
theorem pow_cast (n : Nat) : ((2 ^ n : Nat) : Int) = 2 ^ n := by simp
theorem least_le {ps : List Pp} {a b : Int} (h0 : 0 ≤ s) (h1 : s ≤ 2 ^ n.toNat - 1) (hp : partsB s a b = true) : leastI n ps a b ≤ room s ps := by
  refine (minL_le ps (sidesL n a b) (room (2 ^ a.toNat) ps)).2.1 s ?_
  rw [sidesL, numW_mem]
  have := pow_cast n.toNat
  exact ⟨s.toNat, by omega, by rw [Int.toNat_of_nonneg h0]; exact hp, by omega⟩
theorem least_at {ps : List Pp} {a b : Int} (h : endsB n ps a b = true) : ∃ s, 0 ≤ s ∧ s ≤ 2 ^ n.toNat - 1 ∧ partsB s a b = true ∧ leastI n ps a b = room s ps := by
  obtain ⟨hok, a0, a1, b0, b1, hab⟩ := ends_parts h
  have hn := netOk_parts hok
  have hone := one_side a0 a1 b0 b1 hn.2.1 hab
  have key : ∀ s ∈ sidesL n a b, 0 ≤ s ∧ s ≤ 2 ^ n.toNat - 1 ∧ partsB s a b = true := by
    intro s hs
    rw [sidesL, numW_mem] at hs
    obtain ⟨i, hi, hf, rfl⟩ := hs
    have := pow_cast n.toNat
    exact ⟨by omega, by omega, hf⟩
  rcases (minL_le ps (sidesL n a b) (room (2 ^ a.toNat) ps)).2.2 with e | ⟨s, hs, e⟩
  · obtain ⟨k0, k1, k2⟩ := key _ hone
    exact ⟨_, k0, k1, k2, e⟩
  · obtain ⟨k0, k1, k2⟩ := key _ hs
    exact ⟨_, k0, k1, k2, e⟩
theorem side_of {ps : List Pp} (h : netOkB n ps = true) (h0 : 0 ≤ s) (h1 : s ≤ 2 ^ n.toNat - 1) : sideB n ps s = true := by
  simp [sideB, h, withinB, h0, h1]
theorem least_turn_le {ps : List Pp} {a b : Int} (h : endsB n ps a b = true) : leastI n (ps.map turnP) b a ≤ leastI n ps a b := by
  obtain ⟨s, s0, s1, hp, e⟩ := least_at h
  obtain ⟨hok, a0, a1, b0, b1, hab⟩ := ends_parts h
  have hn := netOk_parts hok
  have hs := side_of hok s0 s1
  have hl := side_all (n := n) (ps := ps) (s := lack n s) (by rw [side_lack]; exact hs)
  have e2 := room_lack (n := n) (ps := ps) (s := lack n s) (by rw [side_lack]; exact hs)
  have e3 : lack n (lack n s) = s := by unfold lack; omega
  rw [e3] at e2
  rw [e, e2]
  exact least_le hl.2.2.2.1 hl.2.2.2.2 (by rw [parts_lack (by omega) hn.2.1 s0 s1 b0 b1 a0 a1]; exact hp)
theorem least_turn {ps : List Pp} {a b : Int} (h : endsB n ps a b = true) : leastI n (ps.map turnP) b a = leastI n ps a b := by
  refine Int.le_antisymm (least_turn_le h) ?_
  have := least_turn_le (n := n) (ps := ps.map turnP) (a := b) (b := a) (by rw [ends_turn]; exact h)
  rwa [turn_turn] at this
theorem leastR_turn (ps : List Pp) (a b : Int) : leastR n (ps.map turnP) b a = leastR n ps a b := by
  unfold leastR
  rw [ends_turn]
  split
  · rename_i h; rw [least_turn h]
  · rfl
theorem one_parts {a b : Int} (a0 : 0 ≤ a) (a1 : a ≤ 4) (b0 : 0 ≤ b) (b1 : b ≤ 4) (hab : a ≠ b) : partsB (2 ^ a.toNat) a b = true := by
  rcases cases5 a0 a1 with rfl | rfl | rfl | rfl | rfl <;> rcases cases5 b0 b1 with rfl | rfl | rfl | rfl | rfl <;>
    first | (exfalso; exact hab rfl) | decide
theorem pow_side {a : Int} (a0 : 0 ≤ a) (a1 : a < n) : (0 : Int) ≤ 2 ^ a.toNat ∧ (2 : Int) ^ a.toNat ≤ 2 ^ n.toNat - 1 := by
  have h1 : 2 ^ a.toNat < 2 ^ n.toNat := Nat.pow_lt_pow_right (by omega) (by omega)
  have h2 : ((2 ^ a.toNat : Nat) : Int) < ((2 ^ n.toNat : Nat) : Int) := Int.ofNat_lt.2 h1
  rw [pow_cast, pow_cast] at h2
  have h3 : (0 : Int) < 2 ^ a.toNat := Int.pow_pos (by omega)
  omega
theorem least_one (ps : List Pp) (a b : Int) : leastI n ps a b ≤ room (2 ^ a.toNat) ps := (minL_le ps (sidesL n a b) (room (2 ^ a.toNat) ps)).1
theorem least_all {ps : List Pp} {a b : Int} (h : endsB n ps a b = true) : leastI n ps a b ≤ room (lack n (2 ^ b.toNat)) ps := by
  obtain ⟨hok, a0, a1, b0, b1, hab⟩ := ends_parts h
  have hn := netOk_parts hok
  obtain ⟨p0, p1⟩ := pow_side b0 b1
  refine least_le (by unfold lack; omega) (by unfold lack; omega) ?_
  rw [parts_lack (by omega) hn.2.1 p0 p1 a0 a1 b0 b1]
  exact one_parts b0 (by omega) a0 (by omega) (Ne.symm hab)

/-! ### narrowest sides -/
theorem narrow_mem {ps : List Pp} {a b : Int} (h : endsB n ps a b = true) {x : Int} : x ∈ narrowL n ps a b ↔ 0 ≤ x ∧ x ≤ 2 ^ n.toNat - 1 ∧ partsB x a b = true ∧ room x ps = leastI n ps a b := by
  have e := pow_cast n.toNat
  rw [narrowL, if_pos h, numW_mem]
  constructor
  · rintro ⟨i, hi, hf, rfl⟩
    simp only [Bool.and_eq_true, decide_eq_true_eq] at hf
    exact ⟨by omega, by omega, hf.1, hf.2⟩
  · rintro ⟨h0, h1, h2, h3⟩
    refine ⟨x.toNat, by omega, ?_, by omega⟩
    rw [Int.toNat_of_nonneg h0]
    simp [h2, h3]
theorem narrow_some {ps : List Pp} {a b : Int} (h : endsB n ps a b = true) : 0 < (narrowL n ps a b).length := by
  obtain ⟨s, s0, s1, hp, e⟩ := least_at h
  exact List.length_pos_of_mem ((narrow_mem h).2 ⟨s0, s1, hp, e.symm⟩)
theorem narrow_two {ps : List Pp} {a b : Int} (h : endsB n ps a b = true) {x y : Int} (hx : x ∈ narrowL n ps a b) (hy : y ∈ narrowL n ps a b) :
    bits .or .i64 x y ∈ narrowL n ps a b ∧ bits .and .i64 x y ∈ narrowL n ps a b := by
  obtain ⟨x0, x1, xp, xr⟩ := (narrow_mem h).1 hx
  obtain ⟨y0, y1, yp, yr⟩ := (narrow_mem h).1 hy
  obtain ⟨hok, a0, a1, b0, b1, hab⟩ := ends_parts h
  have hn := netOk_parts hok
  have hp := pow_le5 hn.2.1
  have o := or_in' (by omega) hn.2.1 x0 x1 y0 y1
  have d := and_in' (by omega) hn.2.1 x0 x1 y0 y1
  have po : partsB (bits .or .i64 x y) a b = true := by
    simp only [partsB, Bool.and_eq_true, Bool.not_eq_true'] at *
    rw [or_bit' x0 (by omega) y0 (by omega) a0 (by omega), or_bit' x0 (by omega) y0 (by omega) b0 (by omega)]
    simp [xp, yp]
  have pd : partsB (bits .and .i64 x y) a b = true := by
    simp only [partsB, Bool.and_eq_true, Bool.not_eq_true'] at *
    rw [and_bit' x0 (by omega) y0 (by omega) a0 (by omega), and_bit' x0 (by omega) y0 (by omega) b0 (by omega)]
    simp [xp, yp]
  have h1 := least_le (ps := ps) o.1 o.2 po
  have h2 := least_le (ps := ps) d.1 d.2 pd
  have h3 := room_two x0 (by omega) y0 (by omega) hok
  exact ⟨(narrow_mem h).2 ⟨o.1, o.2, po, by omega⟩, (narrow_mem h).2 ⟨d.1, d.2, pd, by omega⟩⟩

theorem numW_rev (c : Nat) (f g : Nat → Bool) (h : ∀ i, i < c → g (c - 1 - i) = f i) : numW c g = (numW c f).reverse.map fun x => (c : Int) - 1 - x := by
  have e1 : List.range c = ((List.range c).map fun i => c - 1 - i).reverse := by
    apply List.ext_getElem
    · simp
    · intro i h1 h2
      simp at h1
      rw [List.getElem_reverse]
      simp
      omega
  unfold numW
  rw [e1, List.filter_reverse, List.filter_map]
  have e2 : (List.range c).filter (g ∘ fun i => c - 1 - i) = (List.range c).filter f := List.filter_congr fun i hi => h i (by simpa using hi)
  rw [e2, List.map_reverse, List.map_map]
  rw [show ((List.range c).map fun i => c - 1 - i).reverse = List.range c from e1.symm]
  rw [← List.map_reverse, ← List.map_reverse, List.map_map]
  apply List.map_congr_left
  intro i hi
  rw [List.mem_reverse, List.mem_filter, List.mem_range] at hi
  simp only [Function.comp]
  omega
theorem narrow_turn (ps : List Pp) (a b : Int) : narrowL n (ps.map turnP) b a = (narrowL n ps a b).reverse.map fun x => (2 ^ n.toNat : Int) - 1 - x := by
  by_cases h : endsB n ps a b = true
  · obtain ⟨hok, a0, a1, b0, b1, hab⟩ := ends_parts h
    have hn := netOk_parts hok
    rw [narrowL, narrowL, if_pos (by rw [ends_turn]; exact h), if_pos h, least_turn h]
    have e := pow_cast n.toNat
    rw [← e]
    apply numW_rev
    intro i hi
    have hp : 0 < 2 ^ n.toNat := Nat.two_pow_pos _
    have e3 : ((2 ^ n.toNat - 1 - i : Nat) : Int) = lack n i := by unfold lack; omega
    have hs : sideB n ps (i : Int) = true := side_of hok (by omega) (by omega)
    have hs2 : sideB n ps (lack n i) = true := by rw [side_lack]; exact hs
    have e4 := room_lack hs2
    have e5 : lack n (lack n i) = (i : Int) := by unfold lack; omega
    rw [e5] at e4
    rw [e3, parts_lack (by omega) hn.2.1 (by omega) (by omega) b0 b1 a0 a1, ← e4]
  · rw [narrowL, narrowL, if_neg (by rw [ends_turn]; exact h), if_neg h]; rfl
theorem narrow_turn_at (ps : List Pp) (a b : Int) : (narrowL n (ps.map turnP) b a).length = (narrowL n ps a b).length ∧
    ∀ k (hk : k < (narrowL n ps a b).length) (hk' : (narrowL n ps a b).length - 1 - k < (narrowL n (ps.map turnP) b a).length), (narrowL n ps a b)[k] + (narrowL n (ps.map turnP) b a)[(narrowL n ps a b).length - 1 - k] = 2 ^ n.toNat - 1 := by
  have e := narrow_turn (n := n) ps a b
  refine ⟨by rw [e]; simp, fun k hk hk' => ?_⟩
  simp only [e, List.getElem_map, List.getElem_reverse]
  have : (narrowL n ps a b).length - 1 - ((narrowL n ps a b).length - 1 - k) = k := by omega
  simp only [this]
  omega
end

end Go.Proofs.Ytiplpdcilcghmaa
