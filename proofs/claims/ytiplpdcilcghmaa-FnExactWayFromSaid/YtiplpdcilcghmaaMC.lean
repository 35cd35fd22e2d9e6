/- Plain facts, chapter 3: the reached side; a greatest flow fills a narrowest cut. -/
import Derived.Test.YtiplpdcilcghmaaMB
namespace Go.Proofs.Ytiplpdcilcghmaa
open Go.RowKit

/-- the side of all nodes that fit -/
def sideOf (f : Nat → Bool) : Nat → Int
  | 0 => 0
  | k + 1 => sideOf f k + if f k = true then 2 ^ k else 0

theorem sideOf_in (f : Nat → Bool) (k : Nat) : 0 ≤ sideOf f k ∧ sideOf f k ≤ 2 ^ k - 1 := by
  induction k with
  | zero => simp [sideOf]
  | succ k ih =>
    have h2 : (2 : Int) ^ (k + 1) = 2 * 2 ^ k := by rw [Int.pow_succ]; omega
    have hp : (0 : Int) < 2 ^ k := Int.pow_pos (by omega)
    rw [sideOf, h2]
    split <;> omega
theorem nat5 {k : Nat} (h : k ≤ 4) : k = 0 ∨ k = 1 ∨ k = 2 ∨ k = 3 ∨ k = 4 := by omega
theorem bit_high {s : Int} {k v : Nat} (h0 : 0 ≤ s) (h1 : s ≤ 2 ^ k - 1) (hk : k ≤ 4) (hv : v ≤ 4) : bitB (s + 2 ^ k) (v : Int) = (bitB s (v : Int) || decide (v = k)) ∧ (k ≤ v → bitB s (v : Int) = false) := by
  have : ∀ (k v : Fin 5) (s : Fin 16), s.val + 1 ≤ 2 ^ k.val → bitB ((s.val : Int) + 2 ^ k.val) (v.val : Int) = (bitB (s.val : Int) (v.val : Int) || decide (v.val = k.val)) ∧ (k.val ≤ v.val → bitB (s.val : Int) (v.val : Int) = false) := by decide +kernel
  have hp : (2 : Int) ^ k ≤ 16 := by rcases nat5 hk with rfl | rfl | rfl | rfl | rfl <;> decide
  have h2 := this ⟨k, by omega⟩ ⟨v, by omega⟩ ⟨s.toNat, by omega⟩
  have e : ((s.toNat : Nat) : Int) = s := by omega
  simp only [e] at h2
  exact h2 (by have h3 : ((2 ^ k : Nat) : Int) = 2 ^ k := by simp
               omega)
theorem sideOf_bit (f : Nat → Bool) {k v : Nat} (hk : k ≤ 5) (hv : v ≤ 4) : bitB (sideOf f k) (v : Int) = (decide (v < k) && f v) := by
  induction k with
  | zero => simp [sideOf, bit_zero]
  | succ k ih =>
    have hi := ih (by omega)
    obtain ⟨h0, h1⟩ := sideOf_in f k
    obtain ⟨h2, h3⟩ := bit_high h0 h1 (show k ≤ 4 by omega) hv
    rw [sideOf]
    by_cases hf : f k = true
    · rw [if_pos hf, h2, hi, Bool.eq_iff_iff]
      simp only [Bool.or_eq_true, Bool.and_eq_true, decide_eq_true_eq]
      constructor
      · rintro (⟨a1, a2⟩ | rfl)
        · exact ⟨by omega, a2⟩
        · exact ⟨by omega, hf⟩
      · rintro ⟨a1, a2⟩
        by_cases hvk : v = k
        · exact .inr hvk
        · exact .inl ⟨by omega, a2⟩
    · rw [if_neg hf, Int.add_zero, hi, Bool.eq_iff_iff]
      simp only [Bool.and_eq_true, decide_eq_true_eq]
      constructor
      · rintro ⟨a1, a2⟩; exact ⟨by omega, a2⟩
      · rintro ⟨a1, a2⟩
        refine ⟨?_, a2⟩
        apply Classical.byContradiction
        intro hh
        have : v = k := by omega
        subst this; exact hf a2
/-- a side is told by its nodes -/
theorem side_ext {s t : Int} {n : Nat} (hn : n ≤ 5) (s0 : 0 ≤ s) (s1 : s ≤ 2 ^ n - 1) (t0 : 0 ≤ t) (t1 : t ≤ 2 ^ n - 1) (h : ∀ v : Nat, v < n → bitB s (v : Int) = bitB t (v : Int)) : s = t := by
  have key : ∀ (n : Fin 6) (s t : Fin 32), s.val < 2 ^ n.val → t.val < 2 ^ n.val → (∀ v : Fin 5, v.val < n.val → bitB (s.val : Int) (v.val : Int) = bitB (t.val : Int) (v.val : Int)) → s.val = t.val := by decide +kernel
  have hp : ((2 ^ n : Nat) : Int) = 2 ^ n := by simp
  have h5 : (2 : Nat) ^ n ≤ 32 := Nat.le_trans (Nat.pow_le_pow_right (by omega) hn) (by decide)
  have es : ((s.toNat : Nat) : Int) = s := by omega
  have et : ((t.toNat : Nat) : Int) = t := by omega
  have := key ⟨n, by omega⟩ ⟨s.toNat, by omega⟩ ⟨t.toNat, by omega⟩ (by simp; omega) (by simp; omega) (fun v hv => by
    simp only [es, et]; exact h v.val hv)
  simp at this
  omega
theorem or_pow {s : Int} {k : Nat} (h0 : 0 ≤ s) (h1 : s ≤ 2 ^ k - 1) (hk : k ≤ 4) : bits .or .i64 s (2 ^ k) = s + 2 ^ k := by
  have key : ∀ (k : Fin 5) (s : Fin 16), s.val < 2 ^ k.val → bits .or .i64 (s.val : Int) (2 ^ k.val) = (s.val : Int) + 2 ^ k.val := by decide +kernel
  have hp : ((2 ^ k : Nat) : Int) = 2 ^ k := by simp
  have h5 : (2 : Nat) ^ k ≤ 16 := Nat.le_trans (Nat.pow_le_pow_right (by omega) hk) (by decide)
  have es : ((s.toNat : Nat) : Int) = s := by omega
  have := key ⟨k, by omega⟩ ⟨s.toNat, by omega⟩ (by simp; omega)
  simpa only [es] using this
theorem pow_bit {k v : Nat} (hk : k ≤ 4) (hv : v ≤ 4) : bitB (2 ^ k) (v : Int) = decide (v = k) := by
  have key : ∀ (k v : Fin 5), bitB (2 ^ k.val) (v.val : Int) = decide (v.val = k.val) := by decide +kernel
  exact key ⟨k, by omega⟩ ⟨v, by omega⟩

section
variable {n : Int} {ps : List Pp} {xs : List Int} {a b c v : Int}

def reachF (n : Int) (ps : List Pp) (xs : List Int) (a : Int) (v : Nat) : Bool := decide (dis n ps xs a (v : Int) < n.toNat)
def reachI (n : Int) (ps : List Pp) (xs : List Int) (a : Int) : Int := sideOf (reachF n ps xs a) n.toNat
def reachB (n : Int) (ps : List Pp) (xs : List Int) (a : Int) : Bool := holdsB n ps xs && withinB a 0 (n - 1)
def reachS (n : Int) (ps : List Pp) (xs : List Int) (a : Int) : Int := if reachB n ps xs a = true then reachI n ps xs a else -1
theorem reach_parts (h : reachB n ps xs a = true) : holdsB n ps xs = true ∧ netOkB n ps = true ∧ 2 ≤ n ∧ n ≤ 5 ∧ 0 ≤ a ∧ a < n := by
  simp only [reachB, withinB, Bool.and_eq_true, decide_eq_true_eq] at h
  have h1 := holds_net h.1
  have h2 := netOk_parts h1
  exact ⟨h.1, h1, by omega, by omega, by omega, by omega⟩
theorem reach_yes (h : reachB n ps xs a = true) : reachS n ps xs a = reachI n ps xs a := by rw [reachS, if_pos h]
theorem reach_no (h : reachB n ps xs a = false) : reachS n ps xs a = -1 := by rw [reachS, if_neg (by simp [h])]

theorem reach_in (n : Int) (ps : List Pp) (xs : List Int) (a : Int) : 0 ≤ reachI n ps xs a ∧ reachI n ps xs a ≤ 2 ^ n.toNat - 1 := sideOf_in _ _
theorem reach_bit (h : reachB n ps xs a = true) {v : Int} (h0 : 0 ≤ v) (h1 : v < n) : bitB (reachI n ps xs a) v = true ↔ ∃ m, inK (edgL ps xs) m a v = true := by
  obtain ⟨hh, hn, n2, n5, a0, a1⟩ := reach_parts h
  have e : ((v.toNat : Nat) : Int) = v := by omega
  have hs := sideOf_bit (reachF n ps xs a) (k := n.toNat) (v := v.toNat) (by omega) (by omega)
  rw [e] at hs
  rw [reachI, hs, ← inK_iff (n := n.toNat) (by omega) (edg_in hn xs)]
  simp only [reachF, e, Bool.and_eq_true, decide_eq_true_eq]
  exact ⟨fun hx => hx.2, fun hx => ⟨by omega, hx⟩⟩
theorem reach_self (h : reachB n ps xs a = true) : bitB (reachI n ps xs a) a = true := by
  obtain ⟨hh, hn, n2, n5, a0, a1⟩ := reach_parts h
  exact (reach_bit h a0 a1).2 ⟨0, inK_self 0⟩
/-- no open step leads out of it -/
theorem reach_closed (h : reachB n ps xs a = true) {s : Nat} (hs : s < 2 * ps.length) (hr : 0 < stRoom ps xs s) (hf : bitB (reachI n ps xs a) (stFr ps s) = true) : bitB (reachI n ps xs a) (stTo ps s) = true := by
  obtain ⟨hh, hn, n2, n5, a0, a1⟩ := reach_parts h
  obtain ⟨e1, e2, -⟩ := st_ends hn hs
  obtain ⟨m, hm⟩ := (reach_bit h e1.1 e1.2).1 hf
  exact (reach_bit h e2.1 e2.2).2 ⟨m + 1, inK_snoc (e := (stFr ps s, stTo ps s)) hm (edg_mem.2 ⟨s, hs, hr, rfl, rfl⟩)⟩
/-- it lies within each side with the node out of which no open step leads -/
theorem reach_least (h : reachB n ps xs a = true) {t : Int} (ha : bitB t a = true) (hc : ∀ s, s < 2 * ps.length → 0 < stRoom ps xs s → bitB t (stFr ps s) = true → bitB t (stTo ps s) = true) {v : Int} (h0 : 0 ≤ v) (h1 : v < n) (hv : bitB (reachI n ps xs a) v = true) : bitB t v = true := by
  obtain ⟨m, hm⟩ := (reach_bit h h0 h1).1 hv
  clear hv
  induction m generalizing v with
  | zero =>
    have : a = v := by simpa [inK] using hm
    subst this; exact ha
  | succ m ih =>
    rcases inK_last hm with hm | ⟨e, he, hev, hm⟩
    · exact ih h0 h1 hm
    · obtain ⟨hh, hn, n2, n5, a0, a1⟩ := reach_parts h
      obtain ⟨s, hs, hr, hf, ht⟩ := edg_mem.1 he
      obtain ⟨e1, e2, -⟩ := st_ends hn hs
      have := ih (v := e.1) (by omega) (by omega) hm
      rw [← hev, ← ht]
      exact hc s hs hr (by rw [hf]; exact this)

theorem sum_eq_all {ps : List Pp} {xs : List Int} (s : Int) (h : inB ps xs) : across s ps xs ≤ room s ps ∧ (across s ps xs = room s ps ↔ ∀ (j : Nat) (hj : j < ps.length), (partsB s ps[j].fr ps[j].to = true → xs.getD j 0 = ps[j].mo) ∧ (partsB s ps[j].to ps[j].fr = true → xs.getD j 0 = ps[j].le)) := by
  induction ps generalizing xs with
  | nil => simp [across_nil1, room]
  | cons p ps ih =>
    obtain ⟨hl, hb⟩ := h
    cases xs with
    | nil => simp at hl
    | cons x xs =>
      obtain ⟨i1, i2⟩ := ih (xs := xs) ⟨by simpa using hl, fun j hj => by have := hb (j + 1) (by simpa using hj); simpa using this⟩
      have b0 := hb 0 (by simp)
      simp at b0
      rw [across_cons, room_cons]
      have key : acT s p x x ≤ acT s p p.mo p.le ∧ (acT s p x x = acT s p p.mo p.le ↔ (partsB s p.fr p.to = true → x = p.mo) ∧ (partsB s p.to p.fr = true → x = p.le)) := by
        by_cases h1 : partsB s p.fr p.to = true
        · have h2 := parts_one h1
          rw [acT_out h1, acT_out h1]
          simp [h1, h2]; omega
        · have h1' : partsB s p.fr p.to = false := by simpa using h1
          by_cases h2 : partsB s p.to p.fr = true
          · rw [acT_back h1' h2, acT_back h1' h2]
            simp [h1', h2]; omega
          · have h2' : partsB s p.to p.fr = false := by simpa using h2
            rw [acT_no h1' h2', acT_no h1' h2']
            simp [h1', h2']
      refine ⟨by omega, ?_⟩
      constructor
      · intro he j hj
        cases j with
        | zero =>
          have := key.2.1 (by omega)
          simpa using this
        | succ j =>
          have := i2.1 (by omega) j (by simpa using hj)
          simpa using this
      · intro hall
        have k1 := key.2.2 (by have := hall 0 (by simp); simpa using this)
        have k2 := i2.2 (fun j hj => by have := hall (j + 1) (by simpa using hj); simpa using this)
        omega

/-- a cut is filled exactly if no open step leads over it -/
theorem full_iff (h : inB ps xs) (s : Int) : across s ps xs = room s ps ↔ ∀ t, t < 2 * ps.length → 0 < stRoom ps xs t → bitB s (stFr ps t) = true → bitB s (stTo ps t) = true := by
  rw [(sum_eq_all s h).2]
  constructor
  · intro hall t ht hr hf
    obtain ⟨k, hk, -, hc⟩ := st_cases ps t ht
    apply Classical.byContradiction
    intro hto
    have hk1 := hall k hk
    have hb := h.2 k hk
    rcases hc with ⟨-, e1, e2, e3⟩ | ⟨-, e1, e2, e3⟩ <;> rw [e1] at hf <;> rw [e2] at hto <;> rw [e3 xs] at hr
    · have := hk1.2 (by simp [partsB, hf]; simpa using hto)
      omega
    · have := hk1.1 (by simp [partsB, hf]; simpa using hto)
      omega
  · intro hcl j hj
    have hb := h.2 j hj
    have c1 := hcl (2 * j) (by omega)
    have c2 := hcl (2 * j + 1) (by omega)
    obtain ⟨k, hk, ek, hc⟩ := st_cases ps (2 * j) (by omega)
    obtain ⟨k', hk', ek', hc'⟩ := st_cases ps (2 * j + 1) (by omega)
    have : k = j := by omega
    subst this
    have : k' = k := by omega
    subst this
    obtain ⟨-, e1, e2, e3⟩ := hc.resolve_left (fun hh => by omega)
    obtain ⟨-, f1, f2, f3⟩ := hc'.resolve_right (fun hh => by omega)
    rw [e1, e2, e3] at c1
    rw [f1, f2, f3] at c2
    simp only [partsB, Bool.and_eq_true, Bool.not_eq_true']
    constructor
    · rintro ⟨p1, p2⟩
      apply Classical.byContradiction
      intro hne
      have := c1 (by omega) p1
      rw [p2] at this; cases this
    · rintro ⟨p1, p2⟩
      apply Classical.byContradiction
      intro hne
      have := c2 (by omega) p1
      rw [p2] at this; cases this

theorem nodeSum_only (n : Nat) (f : Nat → Int) (a : Nat) (ha : a < n) (h : ∀ k, k < n → k ≠ a → f k = 0) : nodeSum n f = f a := by
  have h1 : nodeSum n f = nodeSum n (fun k => if (k : Int) = (a : Int) then f a else 0) := nodeSum_congr fun k hk => by
    split
    · rename_i hh; have : k = a := by omega
      subst this; rfl
    · rename_i hh; exact h k hk (by omega)
  rw [h1, nodeSum_one, if_pos (by omega)]
theorem nodeSum_two (n : Nat) (f : Nat → Int) (a b : Nat) (ha : a < n) (hb : b < n) (hab : a ≠ b) (h : ∀ k, k < n → k ≠ a → k ≠ b → f k = 0) : nodeSum n f = f a + f b := by
  have h1 : nodeSum n f = nodeSum n (fun k => (if (k : Int) = (a : Int) then f a else 0) + (if (k : Int) = (b : Int) then f b else 0)) := nodeSum_congr fun k hk => by
    by_cases h1 : k = a
    · subst h1; rw [if_pos rfl, if_neg (by omega)]; omega
    · by_cases h2 : k = b
      · subst h2; rw [if_neg (by omega), if_pos rfl]; omega
      · rw [if_neg (by omega), if_neg (by omega), h k hk h1 h2]; omega
  rw [h1, nodeSum_add, nodeSum_one, nodeSum_one, if_pos (by omega), if_pos (by omega)]

/-- no node but two has an excess -/
def onlyTwo (n : Int) (ps : List Pp) (xs : List Int) (a b : Int) : Prop := ∀ v : Int, 0 ≤ v → v < n → v ≠ a → v ≠ b → exc v ps xs = 0

theorem two_exc (he : endsB n ps a b = true) (h : onlyTwo n ps xs a b) : exc a ps xs = -exc b ps xs := by
  obtain ⟨hn, a0, a1, b0, b1, hab⟩ := ends_parts he
  have ea : ((a.toNat : Nat) : Int) = a := by omega
  have eb : ((b.toNat : Nat) : Int) = b := by omega
  have h1 := exc_sum xs hn
  rw [nodeSum_two n.toNat _ a.toNat b.toNat (by omega) (by omega) (by omega) (fun k hk h2 h3 => h k (by omega) (by omega) (by omega) (by omega)), ea, eb] at h1
  omega
theorem two_across (he : endsB n ps a b = true) (h : onlyTwo n ps xs a b) {s : Int} (hp : partsB s a b = true) : across s ps xs = exc b ps xs := by
  obtain ⟨hn, a0, a1, b0, b1, hab⟩ := ends_parts he
  have ea : ((a.toNat : Nat) : Int) = a := by omega
  have eb : ((b.toNat : Nat) : Int) = b := by omega
  simp only [partsB, Bool.and_eq_true, Bool.not_eq_true'] at hp
  have h1 := across_exc (s := s) xs hn
  rw [sideExc, nodeSum_only n.toNat _ a.toNat (by omega) (fun k hk hka => by
    by_cases hkb : k = b.toNat
    · subst hkb; simp only [eb]; rw [hp.2]; rfl
    · have := h k (by omega) (by omega) (by omega) (by omega)
      rw [this]; simp), ea, hp.1] at h1
  have := two_exc he h
  simp at h1
  omega

theorem le_cut (he : endsB n ps a b = true) (hh : holdsB n ps xs = true) (h : onlyTwo n ps xs a b) : exc b ps xs ≤ leastI n ps a b := by
  obtain ⟨s, s0, s1, hp, e⟩ := least_at he
  rw [e, ← two_across he h hp]
  exact (sum_eq_all s ((holds_inB (ends_parts he).1).1 hh)).1

/-- with no way on, the reached side is a narrowest one, and filled -/
theorem end_cut (he : endsB n ps a b = true) (hh : holdsB n ps xs = true) (h : onlyTwo n ps xs a b) (hw : wayB n ps xs a b = false) :
    reachB n ps xs a = true ∧ partsB (reachI n ps xs a) a b = true ∧ across (reachI n ps xs a) ps xs = room (reachI n ps xs a) ps ∧ room (reachI n ps xs a) ps = leastI n ps a b ∧ exc b ps xs = leastI n ps a b := by
  obtain ⟨hn, a0, a1, b0, b1, hab⟩ := ends_parts he
  have hr : reachB n ps xs a = true := by simp [reachB, hh, withinB]; omega
  have hi := (holds_inB hn).1 hh
  have hnb : bitB (reachI n ps xs a) b = false := by
    apply Classical.byContradiction
    intro hx
    have := (reach_bit hr b0 b1).1 (by simpa using hx)
    rw [← inK_iff (n := n.toNat) (by omega) (edg_in hn xs)] at this
    simp [wayB, hh, he, dis] at hw
    omega
  have hp : partsB (reachI n ps xs a) a b = true := by simp [partsB, reach_self hr, hnb]
  have hf : across (reachI n ps xs a) ps xs = room (reachI n ps xs a) ps := (full_iff hi _).2 fun t ht hr1 hf => reach_closed hr ht hr1 hf
  have h1 := two_across he h hp
  have h2 := le_cut he hh h
  have h3 := least_le (ps := ps) (reach_in n ps xs a).1 (reach_in n ps xs a).2 hp
  exact ⟨hr, hp, hf, by omega, by omega⟩

theorem great_only (h : greatB n ps a b = true) : onlyTwo n ps (greatF n ps a b) a b := fun v _ _ h1 h2 => great_exc h v h1 h2
theorem great_cut (h : greatB n ps a b = true) : greatV n ps a b = leastI n ps a b := by
  rw [greatV, if_pos h]
  exact (end_cut (great_parts h).2 (great_holds h) (great_only h) (great_end h)).2.2.2.2
/-- the reached side is the least of all narrowest ones -/
theorem reach_narrow (he : endsB n ps a b = true) (hh : holdsB n ps xs = true) (h : onlyTwo n ps xs a b) (hw : wayB n ps xs a b = false) :
    reachI n ps xs a ∈ narrowL n ps a b ∧ ∀ t ∈ narrowL n ps a b, bits .and .i64 t (reachI n ps xs a) = reachI n ps xs a := by
  obtain ⟨hr, hp, hf, hm, hb⟩ := end_cut he hh h hw
  obtain ⟨hn, a0, a1, b0, b1, hab⟩ := ends_parts he
  obtain ⟨r0, r1⟩ := reach_in n ps xs a
  have hn5 := netOk_parts hn
  refine ⟨(narrow_mem he).2 ⟨r0, r1, hp, hm⟩, fun t ht => ?_⟩
  obtain ⟨t0, t1, t2, t3⟩ := (narrow_mem he).1 ht
  have hi := (holds_inB hn).1 hh
  have hft : across t ps xs = room t ps := by rw [two_across he h t2, t3, hb]
  have hcl := (full_iff hi t).1 hft
  have hta : bitB t a = true := by simp only [partsB, Bool.and_eq_true] at t2; exact t2.1
  have h5 := pow_le5 (n := n) (by omega)
  obtain ⟨q0, q1⟩ := and_in' (n := n) (by omega) (by omega) t0 t1 r0 r1
  refine side_ext (n := n.toNat) (by omega) q0 q1 r0 r1 (fun v hv => ?_)
  rw [and_bit' t0 (by omega) r0 (by omega) (by omega) (by omega)]
  by_cases hb : bitB (reachI n ps xs a) (v : Int) = true
  · rw [hb, reach_least hr hta hcl (by omega) (by omega) hb]; rfl
  · have : bitB (reachI n ps xs a) (v : Int) = false := by simpa using hb
    rw [this, Bool.and_false]
/-- from each reached node no more is reached -/
theorem reach_trans (h : reachB n ps xs a = true) {k v : Int} (hk : bitB (reachI n ps xs a) k = true) (k0 : 0 ≤ k) (k1 : k < n) (v0 : 0 ≤ v) (v1 : v < n) (hv : bitB (reachI n ps xs k) v = true) : bitB (reachI n ps xs a) v = true := by
  obtain ⟨hh, hn, n2, n5, a0, a1⟩ := reach_parts h
  have h' : reachB n ps xs k = true := by simp [reachB, hh, withinB]; omega
  exact reach_least h' hk (fun s hs hr hf => reach_closed h hs hr hf) v0 v1 hv

/-- one pipe may hold one more -/
def moreP (p : Pp) : Pp := ⟨p.fr, p.to, p.le, p.mo + 1, p.co⟩
theorem room_more (s : Int) (p : Pp) (ps : List Pp) : room s (p :: ps) ≤ room s (moreP p :: ps) ∧ room s (moreP p :: ps) ≤ room s (p :: ps) + 1 := by
  rw [room_cons, room_cons]
  unfold acT moreP
  dsimp only
  repeat' split
  all_goals omega
theorem least_more {p : Pp} (he : endsB n (p :: ps) a b = true) (he' : endsB n (moreP p :: ps) a b = true) : leastI n (moreP p :: ps) a b = leastI n (p :: ps) a b ∨ leastI n (moreP p :: ps) a b = leastI n (p :: ps) a b + 1 := by
  obtain ⟨s, s0, s1, hp, e⟩ := least_at he
  obtain ⟨t, t0, t1, hp', e'⟩ := least_at he'
  have h1 := least_le (ps := moreP p :: ps) s0 s1 hp
  have h2 := least_le (ps := p :: ps) t0 t1 hp'
  have r1 := room_more s p ps
  have r2 := room_more t p ps
  omega
end

end Go.Proofs.Ytiplpdcilcghmaa
