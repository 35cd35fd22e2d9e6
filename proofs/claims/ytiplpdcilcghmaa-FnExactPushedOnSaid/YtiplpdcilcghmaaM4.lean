/- Plain facts for the promises of chapters 1 and 2: sums over nodes, turned nets, sides and what lacks to them. -/
import Derived.Test.YtiplpdcilcghmaaM3
namespace Go.Proofs.Ytiplpdcilcghmaa
open Go.RowKit

/-! ### sums over nodes -/
def nodeSum (n : Nat) (f : Nat → Int) : Int := ((List.range n).map f).sum
theorem nodeSum_succ (n : Nat) (f : Nat → Int) : nodeSum (n + 1) f = nodeSum n f + f n := by simp [nodeSum, List.range_succ]
theorem nodeSum_nil (f : Nat → Int) : nodeSum 0 f = 0 := rfl
theorem nodeSum_add (n : Nat) (f g : Nat → Int) : nodeSum n (fun k => f k + g k) = nodeSum n f + nodeSum n g := by
  induction n with
  | zero => rfl
  | succ n ih => rw [nodeSum_succ, nodeSum_succ, nodeSum_succ, ih]; omega
theorem nodeSum_zero (n : Nat) (f : Nat → Int) (h : ∀ k, k < n → f k = 0) : nodeSum n f = 0 := by
  induction n with
  | zero => rfl
  | succ n ih => rw [nodeSum_succ, ih (fun k hk => h k (by omega)), h n (by omega)]; rfl
theorem nodeSum_congr {n : Nat} {f g : Nat → Int} (h : ∀ k, k < n → f k = g k) : nodeSum n f = nodeSum n g := by
  induction n with
  | zero => rfl
  | succ n ih => rw [nodeSum_succ, nodeSum_succ, ih (fun k hk => h k (by omega)), h n (by omega)]
theorem nodeSum_one (n : Nat) (a x : Int) : nodeSum n (fun k => if (k : Int) = a then x else 0) = if 0 ≤ a ∧ a < n then x else 0 := by
  induction n with
  | zero => rw [if_neg (by omega)]; rfl
  | succ n ih =>
    rw [nodeSum_succ, ih]
    split <;> split <;> split <;> omega

theorem excT_two {k : Int} {p : Pp} {x : Int} (h : p.fr ≠ p.to) : excT k p x = (if k = p.to then x else 0) + (if k = p.fr then -x else 0) := by
  unfold excT
  split <;> split <;> (try split) <;> omega

theorem exc_cons (k : Int) (p : Pp) (ps : List Pp) (x : Int) (xs : List Int) : exc k (p :: ps) (x :: xs) = excT k p x + exc k ps xs := by simp [exc]
theorem exc_nil1 (k : Int) (xs : List Int) : exc k [] xs = 0 := by simp [exc]
theorem exc_nil2 (k : Int) (ps : List Pp) : exc k ps [] = 0 := by simp [exc]

/-- two different nodes of so many -/
def endsIn (n : Int) (p : Pp) : Prop := 0 ≤ p.fr ∧ p.fr < n ∧ 0 ≤ p.to ∧ p.to < n ∧ p.fr ≠ p.to
theorem net_endsIn {n : Int} {ps : List Pp} (h : netOkB n ps = true) : ∀ p ∈ ps, endsIn n p := fun p hp => by
  have h1 := pipeOk_parts ((netOk_parts h).2.2.2 p hp)
  exact ⟨h1.1, h1.2.1, h1.2.2.1, h1.2.2.2.1, h1.2.2.2.2.1⟩

theorem exc_sum0 (n : Nat) (ps : List Pp) (xs : List Int) (h : ∀ p ∈ ps, endsIn n p) : nodeSum n (fun k => exc k ps xs) = 0 := by
  induction ps generalizing xs with
  | nil => exact nodeSum_zero _ _ fun k _ => exc_nil1 _ _
  | cons p ps ih =>
    cases xs with
    | nil => exact nodeSum_zero _ _ fun k _ => exc_nil2 _ _
    | cons x xs =>
      obtain ⟨h0, h1, h2, h3, h4⟩ := h p (by simp)
      have e : nodeSum n (fun k => exc k (p :: ps) (x :: xs)) = nodeSum n (fun k => ((if (k : Int) = p.to then x else 0) + (if (k : Int) = p.fr then -x else 0)) + exc k ps xs) :=
        nodeSum_congr fun k _ => by rw [exc_cons, excT_two h4]
      rw [e, nodeSum_add, nodeSum_add, nodeSum_one, nodeSum_one, ih xs (fun q hq => h q (by simp [hq])), if_pos ⟨h2, h3⟩, if_pos ⟨h0, h1⟩]
      omega

theorem exc_sum {n : Int} {ps : List Pp} (xs : List Int) (h : netOkB n ps = true) : nodeSum n.toNat (fun k => exc k ps xs) = 0 := by
  have hn := (netOk_parts h).1
  have e : ((n.toNat : Nat) : Int) = n := Int.toNat_of_nonneg (by omega)
  exact exc_sum0 _ _ _ (by rw [e]; exact net_endsIn h)

/-! ### turned nets -/
theorem excT_turn {k : Int} {p : Pp} {x : Int} (h : p.fr ≠ p.to) : excT k (turnP p) x = -excT k p x := by
  rw [excT_two h, excT_two (p := turnP p) (by simp only [turnP]; omega)]
  simp only [turnP]
  by_cases e1 : k = p.to
  · have e2 : ¬ k = p.fr := by omega
    simp only [if_pos e1, if_neg e2]; omega
  · by_cases e2 : k = p.fr
    · simp only [if_neg e1, if_pos e2]; omega
    · simp only [if_neg e1, if_neg e2]; omega

theorem exc_turn0 (k : Int) (ps : List Pp) (xs : List Int) (h : ∀ p ∈ ps, p.fr ≠ p.to) : exc k (ps.map turnP) xs = -exc k ps xs := by
  induction ps generalizing xs with
  | nil => simp [exc_nil1]
  | cons p ps ih =>
    cases xs with
    | nil => simp [exc_nil2]
    | cons x xs =>
      rw [List.map_cons, exc_cons, exc_cons, ih xs (fun q hq => h q (by simp [hq])), excT_turn (h p (by simp))]
      omega
theorem exc_turn {n : Int} (k : Int) {ps : List Pp} (xs : List Int) (h : netOkB n ps = true) : exc k (ps.map turnP) xs = -exc k ps xs :=
  exc_turn0 k ps xs fun p hp => (net_endsIn h p hp).2.2.2.2

theorem pipeOk_iff {n a b c d e : Int} : pipeOkB n a b c d e = true ↔ (0 ≤ a ∧ a < n ∧ 0 ≤ b ∧ b < n ∧ a ≠ b ∧ 0 ≤ c ∧ c ≤ d ∧ d ≤ 4 ∧ -9 ≤ e ∧ e ≤ 9) := by
  refine ⟨pipeOk_parts, ?_⟩
  rintro ⟨h1, h2, h3, h4, h5, h6, h7, h8, h9, h10⟩
  have h2' : a ≤ n - 1 := by omega
  have h4' : b ≤ n - 1 := by omega
  simp [pipeOkB, withinB, h1, h2', h3, h4', h5, h6, h7, h8, h9, h10]
theorem pipeOk_turn (n : Int) (p : Pp) : pipeOkB n (turnP p).fr (turnP p).to (turnP p).le (turnP p).mo (turnP p).co = pipeOkB n p.fr p.to p.le p.mo p.co := by
  rw [Bool.eq_iff_iff]
  rw [pipeOk_iff, pipeOk_iff]
  simp only [turnP]
  refine ⟨fun h => ?_, fun h => ?_⟩ <;> omega
theorem netOk_turn (n : Int) (ps : List Pp) : netOkB n (ps.map turnP) = netOkB n ps := by
  simp only [netOkB, List.length_map, List.all_map]
  congr 1
  congr 1
  funext p
  exact pipeOk_turn n p
theorem turn_len (ps : List Pp) : (ps.map turnP).length = ps.length := List.length_map _
theorem flowOk_turn (n : Int) (ps : List Pp) (xs : List Int) : flowOkB n (ps.map turnP) xs = flowOkB n ps xs := by
  simp only [flowOkB, netOk_turn, List.length_map]
theorem turn_turn (ps : List Pp) : (ps.map turnP).map turnP = ps := by
  rw [List.map_map]
  have e : turnP ∘ turnP = id := by funext p; rfl
  rw [e, List.map_id]
theorem all_zip_turn (ps : List Pp) (xs : List Int) : (((ps.map turnP).zip xs).all fun q => withinB q.2 q.1.le q.1.mo) = ((ps.zip xs).all fun q => withinB q.2 q.1.le q.1.mo) := by
  induction ps generalizing xs with
  | nil => simp
  | cons p ps ih => cases xs with
    | nil => simp
    | cons x xs => simp only [List.map_cons, List.zip_cons_cons, List.all_cons, ih]; rfl
theorem holds_turn (n : Int) (ps : List Pp) (xs : List Int) : holdsB n (ps.map turnP) xs = holdsB n ps xs := by
  simp only [holdsB, flowOk_turn, all_zip_turn]
theorem bal_turn {n : Int} {ps : List Pp} (xs : List Int) (h : netOkB n ps = true) : balB n (ps.map turnP) xs = balB n ps xs := by
  rw [balB, balB, flowOk_turn]
  congr 1
  congr 1
  funext k
  rw [exc_turn (k : Int) xs h, Bool.eq_iff_iff]
  simp only [beq_iff_eq]
  omega

/-- balanced: it is enough to look at all nodes but the last one -/
theorem bal_but {n : Int} {ps : List Pp} {xs : List Int} (h : flowOkB n ps xs = true) : balB n ps xs = ((List.range (n.toNat - 1)).all fun k => exc (k : Int) ps xs == 0) := by
  have hn := (netOk_parts (flowOk_parts h).1)
  obtain ⟨m, hm⟩ : ∃ m, n.toNat = m + 1 := ⟨n.toNat - 1, by omega⟩
  have hs := exc_sum xs (flowOk_parts h).1
  rw [balB, h, hm, Nat.add_sub_cancel, Bool.true_and, List.range_succ, List.all_append]
  rw [hm, nodeSum_succ] at hs
  cases hb : (List.range m).all fun k => exc (k : Int) ps xs == 0 with
  | false => rfl
  | true =>
    rw [List.all_eq_true] at hb
    have h0 : nodeSum m (fun k => exc k ps xs) = 0 := nodeSum_zero _ _ fun k hk => by simpa using hb k (by simpa using hk)
    have h1 : exc (m : Int) ps xs = 0 := by omega
    simp [h1]

theorem holds_map (n : Int) (ps : List Pp) (f : Pp → Int) (h : netOkB n ps = true) (hf : ∀ p ∈ ps, p.le ≤ f p ∧ f p ≤ p.mo) : holdsB n ps (ps.map f) = true := by
  have hr := net_rooms h
  have h1 : flowOkB n ps (ps.map f) = true := by
    simp only [flowOkB, h, List.length_map, decide_true, Bool.true_and, List.all_eq_true, withinB, Bool.and_eq_true, decide_eq_true_eq]
    intro x hx
    obtain ⟨p, hp, rfl⟩ := List.mem_map.1 hx
    have := hr p hp
    have := hf p hp
    omega
  rw [holdsB, h1, Bool.true_and]
  clear h h1 hr
  induction ps with
  | nil => rfl
  | cons p ps ih =>
    rw [List.map_cons, List.zip_cons_cons, List.all_cons, ih (fun q hq => hf q (by simp [hq]))]
    have := hf p (by simp)
    simp [withinB, this]
theorem holds_least {n : Int} {ps : List Pp} (h : netOkB n ps = true) : holdsB n ps (ps.map Pp.le) = true :=
  holds_map n ps _ h fun p hp => by have := net_rooms h p hp; omega
theorem holds_most {n : Int} {ps : List Pp} (h : netOkB n ps = true) : holdsB n ps (ps.map Pp.mo) = true :=
  holds_map n ps _ h fun p hp => by have := net_rooms h p hp; omega

/-! ### two flows -/
theorem addAll_comm (xs ys : List Int) : addAll xs ys = addAll ys xs := by
  induction xs generalizing ys with
  | nil => simp [addAll]
  | cons x xs ih => cases ys with
    | nil => simp [addAll]
    | cons y ys => have := ih ys; simp only [addAll, List.zip_cons_cons, List.map_cons] at *; rw [this, Int.add_comm]
theorem both_comm (n : Int) (ps : List Pp) (xs ys : List Int) : bothB n ps xs ys = bothB n ps ys xs := by
  simp only [bothB, addAll_comm xs ys]
  rw [Bool.and_comm (flowOkB n ps xs)]
theorem bothR_comm (n : Int) (ps : List Pp) (xs ys : List Int) : bothR n ps xs ys = bothR n ps ys xs := by
  simp only [bothR, both_comm n ps xs ys, addAll_comm xs ys]
theorem exc_add (k : Int) (ps : List Pp) (xs ys : List Int) (h : xs.length = ps.length) (h' : ys.length = ps.length) : exc k ps (addAll xs ys) = exc k ps xs + exc k ps ys := by
  induction ps generalizing xs ys with
  | nil => simp [exc_nil1]
  | cons p ps ih =>
    match xs, ys, h, h' with
    | x :: xs, y :: ys, h, h' =>
      have e : addAll (x :: xs) (y :: ys) = (x + y) :: addAll xs ys := rfl
      rw [e, exc_cons, exc_cons, exc_cons, ih xs ys (by simpa using h) (by simpa using h')]
      have e2 : excT k p (x + y) = excT k p x + excT k p y := by
        unfold excT
        repeat' split
        all_goals omega
      omega
theorem bal_add {n : Int} {ps : List Pp} {xs ys : List Int} (h : bothB n ps xs ys = true) (h1 : balB n ps xs = true) (h2 : balB n ps ys = true) : balB n ps (addAll xs ys) = true := by
  simp only [bothB, Bool.and_eq_true] at h
  simp only [balB, Bool.and_eq_true, List.all_eq_true, List.mem_range, beq_iff_eq] at *
  refine ⟨h.2, fun k hk => ?_⟩
  rw [exc_add _ _ _ _ (flowOk_parts h.1.1).2.1 (flowOk_parts h.1.2).2.1, h1.2 k hk, h2.2 k hk]
  rfl

/-! ### sides -/
/-- what lacks to a side -/
def lack (n : Int) (s : Int) : Int := 2 ^ n.toNat - 1 - s
theorem bit_lack : ∀ (n : Fin 6) (s : Fin 32) (k : Fin 5), k.val < n.val → s.val < 2 ^ n.val → bitB (lack (n.val : Int) (s.val : Int)) (k.val : Int) = !bitB (s.val : Int) (k.val : Int) := by decide +kernel
theorem pow_le5 {n : Int} (h : n ≤ 5) : (2 : Int) ^ n.toNat ≤ 32 := by
  have h1 : 2 ^ n.toNat ≤ 2 ^ 5 := Nat.pow_le_pow_right (by omega) (show n.toNat ≤ 5 by omega)
  have := pow_toNat n
  omega
theorem bit_lack' {n s k : Int} (hn0 : 0 ≤ n) (hn : n ≤ 5) (h0 : 0 ≤ s) (h1 : s ≤ 2 ^ n.toNat - 1) (k0 : 0 ≤ k) (k1 : k < n) : bitB (lack n s) k = !bitB s k := by
  have hp := pow_le5 hn
  have e := pow_toNat n
  have h := bit_lack ⟨n.toNat, by omega⟩ ⟨s.toNat, by omega⟩ ⟨k.toNat, by omega⟩ (by simp; omega) (by simp only; omega)
  simp only [Int.toNat_of_nonneg hn0, Int.toNat_of_nonneg h0, Int.toNat_of_nonneg k0] at h
  exact h
theorem parts_lack {n s a b : Int} (hn0 : 0 ≤ n) (hn : n ≤ 5) (h0 : 0 ≤ s) (h1 : s ≤ 2 ^ n.toNat - 1) (a0 : 0 ≤ a) (a1 : a < n) (b0 : 0 ≤ b) (b1 : b < n) : partsB (lack n s) a b = partsB s b a := by
  rw [partsB, partsB, bit_lack' hn0 hn h0 h1 a0 a1, bit_lack' hn0 hn h0 h1 b0 b1, Bool.not_not, Bool.and_comm]
theorem side_all {n s : Int} {ps : List Pp} (h : sideB n ps s = true) : netOkB n ps = true ∧ 0 ≤ n ∧ n ≤ 5 ∧ 0 ≤ s ∧ s ≤ 2 ^ n.toNat - 1 := by
  simp only [sideB, withinB, Bool.and_eq_true, decide_eq_true_eq] at h
  have := netOk_parts h.1
  exact ⟨h.1, by omega, by omega, h.2.1, h.2.2⟩
theorem side_lack {n s : Int} {ps : List Pp} : sideB n ps (lack n s) = sideB n ps s := by
  have h : withinB (lack n s) 0 (2 ^ n.toNat - 1) = withinB s 0 (2 ^ n.toNat - 1) := by
    rw [Bool.eq_iff_iff]
    simp only [withinB, Bool.and_eq_true, decide_eq_true_eq]
    unfold lack
    refine ⟨fun h => ⟨?_, ?_⟩, fun h => ⟨?_, ?_⟩⟩ <;> omega
  simp only [sideB, h]

theorem acT_lack {n s o b : Int} {p : Pp} (hn0 : 0 ≤ n) (hn : n ≤ 5) (h0 : 0 ≤ s) (h1 : s ≤ 2 ^ n.toNat - 1) (hp : endsIn n p) : acT (lack n s) p o b = if partsB s p.to p.fr = true then o else if partsB s p.fr p.to = true then -b else 0 := by
  obtain ⟨a0, a1, b0, b1, _⟩ := hp
  rw [acT, parts_lack hn0 hn h0 h1 a0 a1 b0 b1, parts_lack hn0 hn h0 h1 b0 b1 a0 a1]

theorem across_cons (s : Int) (p : Pp) (ps : List Pp) (x : Int) (xs : List Int) : across s (p :: ps) (x :: xs) = acT s p x x + across s ps xs := by simp [across]
theorem across_nil1 (s : Int) (xs : List Int) : across s [] xs = 0 := by simp [across]
theorem across_nil2 (s : Int) (ps : List Pp) : across s ps [] = 0 := by simp [across]
theorem room_cons (s : Int) (p : Pp) (ps : List Pp) : room s (p :: ps) = acT s p p.mo p.le + room s ps := by simp [room]

theorem across_lack {n s : Int} {ps : List Pp} (xs : List Int) (h : sideB n ps s = true) : across (lack n s) ps xs = -across s ps xs := by
  obtain ⟨hok, n0, n5, s0, s1⟩ := side_all h
  have he := net_endsIn hok
  clear h hok
  induction ps generalizing xs with
  | nil => simp [across_nil1]
  | cons p ps ih =>
    cases xs with
    | nil => simp [across_nil2]
    | cons x xs =>
      rw [across_cons, across_cons, ih xs (fun q hq => he q (by simp [hq])), acT_lack n0 n5 s0 s1 (he p (by simp)), acT]
      by_cases h1 : partsB s p.fr p.to = true
      · have h2 := parts_one h1
        simp [h1, h2]; omega
      · by_cases h2 : partsB s p.to p.fr = true
        · simp [h1, h2]; omega
        · simp [h1, h2]

/-- the sum of the excess of all nodes of a side -/
def sideExc (n : Nat) (s : Int) (ps : List Pp) (xs : List Int) : Int := nodeSum n fun k => if bitB s k = true then exc k ps xs else 0
theorem across_exc {n : Int} {s : Int} {ps : List Pp} (xs : List Int) (h : netOkB n ps = true) : across s ps xs + sideExc n.toNat s ps xs = 0 := by
  have he := net_endsIn h
  have hn : ((n.toNat : Nat) : Int) = n := Int.toNat_of_nonneg (by have := netOk_parts h; omega)
  clear h
  rw [← hn] at he
  unfold sideExc
  induction ps generalizing xs with
  | nil => rw [across_nil1, nodeSum_zero _ _ (fun k _ => by rw [exc_nil1]; simp)]; rfl
  | cons p ps ih =>
    cases xs with
    | nil => rw [across_nil2, nodeSum_zero _ _ (fun k _ => by rw [exc_nil2]; simp)]; rfl
    | cons x xs =>
      obtain ⟨h0, h1, h2, h3, h4⟩ := he p (by simp)
      have i := ih xs (fun q hq => he q (by simp [hq]))
      have e : nodeSum n.toNat (fun k => if bitB s k = true then exc k (p :: ps) (x :: xs) else 0) = nodeSum n.toNat (fun k => ((if (k : Int) = p.to then (if bitB s p.to = true then x else 0) else 0) + (if (k : Int) = p.fr then (if bitB s p.fr = true then -x else 0) else 0)) + (if bitB s k = true then exc k ps xs else 0)) :=
        nodeSum_congr fun k _ => by
          rw [exc_cons, excT_two h4]
          by_cases e1 : (k : Int) = p.to
          · have e2 : ¬ (k : Int) = p.fr := by omega
            simp only [e1, if_true, if_neg (show ¬ p.to = p.fr by omega)]
            split <;> omega
          · by_cases e2 : (k : Int) = p.fr
            · simp only [e2, if_true, if_neg h4]
              split <;> omega
            · simp only [if_neg e1, if_neg e2]
              split <;> omega
      rw [e, nodeSum_add, nodeSum_add, nodeSum_one, nodeSum_one, if_pos (show 0 ≤ p.to ∧ p.to < ((n.toNat : Nat) : Int) from ⟨h2, h3⟩), if_pos (show 0 ≤ p.fr ∧ p.fr < ((n.toNat : Nat) : Int) from ⟨h0, h1⟩), across_cons, acT, partsB, partsB]
      cases bitB s p.fr <;> cases bitB s p.to <;> simp <;> omega

theorem across_room {s : Int} {ps : List Pp} {xs : List Int} (h : ((ps.zip xs).all fun q => withinB q.2 q.1.le q.1.mo) = true) (hl : xs.length = ps.length) : across s ps xs ≤ room s ps := by
  induction ps generalizing xs with
  | nil => simp [across_nil1, room]
  | cons p ps ih =>
    match xs, hl with
    | x :: xs, hl =>
      rw [List.zip_cons_cons, List.all_cons, Bool.and_eq_true] at h
      have i := ih h.2 (by simpa using hl)
      have hw : p.le ≤ x ∧ x ≤ p.mo := by simpa [withinB] using h.1
      rw [across_cons, room_cons]
      have : acT s p x x ≤ acT s p p.mo p.le := by
        unfold acT
        repeat' split
        all_goals omega
      omega
theorem holds_parts {n : Int} {ps : List Pp} {xs : List Int} (h : holdsB n ps xs = true) : flowOkB n ps xs = true ∧ ((ps.zip xs).all fun q => withinB q.2 q.1.le q.1.mo) = true ∧ xs.length = ps.length := by
  simp only [holdsB, Bool.and_eq_true] at h
  exact ⟨h.1, h.2, (flowOk_parts h.1).2.1⟩

end Go.Proofs.Ytiplpdcilcghmaa
