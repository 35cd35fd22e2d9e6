/- Plain facts, chapter 7: the signs of the ring that a pipe has with the tree. -/
import Derived.Test.YtphbmlephldaaaaJ1
namespace Go.Proofs.Ytphbmlephldaaaa
open Go.RowKit

theorem exc_mul (v : Int) (ps : List Pp) (xs : List Int) (c : Int) : exc v ps (xs.map fun x => x * c) = exc v ps xs * c := by
  induction ps generalizing xs with
  | nil => simp [exc_nil1]
  | cons p ps ih =>
    cases xs with
    | nil => simp [exc_nil2]
    | cons x xs =>
      rw [List.map_cons, exc_cons, exc_cons, ih, Int.add_mul]
      have : excT v p (x * c) = excT v p x * c := by
        unfold excT
        repeat' split
        · rfl
        · rw [Int.neg_mul]
        · simp
      rw [this]

theorem addAll_getD {a b : List Int} (h : a.length = b.length) (j : Nat) : (addAll a b).getD j 0 = a.getD j 0 + b.getD j 0 := by
  rcases Nat.lt_or_ge j a.length with hj | hj
  · have := addAll_at hj (show j < b.length by omega)
    simp only [List.getD_eq_getElem?_getD, this, List.getElem?_eq_getElem hj, List.getElem?_eq_getElem (show j < b.length by omega), Option.getD_some]
  · have hl := addAll_len h
    simp only [List.getD_eq_getElem?_getD, List.getElem?_eq_none hj, List.getElem?_eq_none (show b.length ≤ j by omega), List.getElem?_eq_none (show (addAll a b).length ≤ j by omega), Option.getD_none]
    rfl
theorem mul_getD (a : List Int) (c : Int) (j : Nat) : (a.map fun x => x * c).getD j 0 = a.getD j 0 * c := by
  rcases Nat.lt_or_ge j a.length with hj | hj
  · simp [List.getD_eq_getElem?_getD, hj]
  · simp [List.getD_eq_getElem?_getD, List.getElem?_eq_none hj]

section
variable {n : Nat} {ps : List Pp} {z z1 z2 : List Int}
/-- amounts that differ in the tree alone, and whose excesses are the same, are the same -/
theorem tree_one (hE : ∀ p ∈ ps, endsIn n p) (h1 : z1.length = ps.length) (h2 : z2.length = ps.length) (hx : ∀ v : Nat, v < n → exc v ps z1 = exc v ps z2)
    (hs : ∀ j, j < ps.length → treeF n ps j = false → z1.getD j 0 = z2.getD j 0) : z1 = z2 := by
  have hl : (z2.map fun x => x * -1).length = ps.length := by simpa using h2
  have hd : ∀ j, (addAll z1 (z2.map fun x => x * -1)).getD j 0 = z1.getD j 0 - z2.getD j 0 := fun j => by
    rw [addAll_getD (by omega), mul_getD]; omega
  have hn := tree_none (z := addAll z1 (z2.map fun x => x * -1)) hE (by rw [addAll_len (by omega)]; omega) (fun v hv => by
    rw [exc_add _ _ _ _ h1 hl, exc_mul, hx v hv]; omega) ps.length (Nat.le_refl _) (fun j hj hne => ⟨hj, by
      rw [hd] at hne
      cases ht : treeF n ps j with
      | true => rfl
      | false => exact absurd (by have := hs j hj ht; omega) hne⟩)
  refine ext_getD (by omega) fun j hj => ?_
  have := hn j (by omega)
  rw [hd] at this
  omega

/-- the signs of a ring: 1 for the pipe itself, nothing outside of the tree, and no excess -/
def ringS (n : Nat) (ps : List Pp) (k : Nat) (z : List Int) : Prop :=
  z.length = ps.length ∧ z.getD k 0 = 1 ∧ (∀ j, j < ps.length → j ≠ k → treeF n ps j = false → z.getD j 0 = 0) ∧ ∀ v : Nat, v < n → exc v ps z = 0

theorem ringS_one {k : Nat} (hE : ∀ p ∈ ps, endsIn n p) (h1 : ringS n ps k z1) (h2 : ringS n ps k z2) : z1 = z2 := by
  obtain ⟨a1, a2, a3, a4⟩ := h1
  obtain ⟨b1, b2, b3, b4⟩ := h2
  refine tree_one hE a1 b1 (fun v hv => by rw [a4 v hv, b4 v hv]) fun j hj ht => ?_
  by_cases hjk : j = k
  · rw [hjk, a2, b2]
  · rw [a3 j hj hjk ht, b3 j hj hjk ht]

theorem push1_getD {a : Int} {xs : List Int} {s j : Nat} (h : s / 2 ≠ j) : (push1 a xs s).getD j 0 = xs.getD j 0 := by
  unfold push1
  split <;> simp [List.getD_eq_getElem?_getD, h]
theorem pushL_getD {a : Int} {l : List Nat} {j : Nat} (h : ∀ s ∈ l, s / 2 ≠ j) (xs : List Int) : (pushL a xs l).getD j 0 = xs.getD j 0 := by
  induction l generalizing xs with
  | nil => rfl
  | cons s l ih =>
    have e : pushL a xs (s :: l) = pushL a (push1 a xs s) l := rfl
    rw [e, ih (fun t ht => h t (by simp [ht])), push1_getD (h s (by simp))]

theorem zeros_getD (ps : List Pp) (j : Nat) : (zeros ps).getD j 0 = 0 := by
  unfold zeros
  rcases Nat.lt_or_ge j ps.length with h | h
  · simp [List.getD_eq_getElem?_getD, h]
  · simp [List.getD_eq_getElem?_getD, h]
theorem zeros_len (ps : List Pp) : (zeros ps).length = ps.length := by simp [zeros]

/-- a pipe, pushed along a walk in the tree from where it leads to where it begins -/
theorem walk_ring {N : Int} {k : Nat} {l : List Nat} (hok : netOkB N ps = true) (hk : k < ps.length) (ht : treeF n ps k = false) (hc : chain ps (ps.getD k zeroPp).to (ps.getD k zeroPp).fr l)
    (hl : ∀ s ∈ l, treeF n ps (s / 2) = true) : ringS n ps k ((pushL 1 (zeros ps) l).set k 1) := by
  have hne : ∀ s ∈ l, s / 2 ≠ k := fun s hs h => by
    have := hl s hs
    rw [h, ht] at this; cases this
  have hz : (pushL 1 (zeros ps) l).getD k 0 = 0 := by rw [pushL_getD hne, zeros_getD]
  have hpl : (pushL 1 (zeros ps) l).length = ps.length := by rw [pushL_len, zeros_len]
  have hends := net_endsIn hok ps[k] (List.getElem_mem hk)
  have hg : ps.getD k zeroPp = ps[k] := by simp [List.getD_eq_getElem?_getD, hk]
  refine ⟨by rw [List.length_set, hpl], by rw [getD_set _ _ _ _ _ (by omega), if_pos rfl], fun j hj hjk htj => ?_, fun v hv => ?_⟩
  · rw [getD_set _ _ _ _ _ (by omega), if_neg (fun h => hjk h.symm), pushL_getD (fun s hs h => by
      have := hl s hs
      rw [h, htj] at this; cases this), zeros_getD]
  · have e : (pushL 1 (zeros ps) l).set k 1 = (pushL 1 (zeros ps) l).set k ((pushL 1 (zeros ps) l).getD k 0 + 1) := by rw [hz]; rfl
    rw [e, exc_set _ _ _ _ _ hk (by omega), exc_pushL hok (zeros_len ps) hc, exc_zeros, hg]
    obtain ⟨h0, h1, h2, h3, h4⟩ := hends
    unfold excT
    repeat' split
    all_goals omega
theorem walk_ring' {N : Int} {k : Nat} {l : List Nat} (hok : netOkB N ps = true) (hk : k < ps.length) (ht : treeF n ps k = false) (hc : chain ps (ps.getD k zeroPp).to (ps.getD k zeroPp).fr l)
    (hl : ∀ s ∈ l, treeF n ps (s / 2) = true) : ringS n ps k (pushL 1 ((zeros ps).set k 1) l) := by
  have hne : ∀ s ∈ l, s / 2 ≠ k := fun s hs h => by
    have := hl s hs
    rw [h, ht] at this; cases this
  have hzl : ((zeros ps).set k 1).length = ps.length := by rw [List.length_set, zeros_len]
  have hends := net_endsIn hok ps[k] (List.getElem_mem hk)
  have hg : ps.getD k zeroPp = ps[k] := by simp [List.getD_eq_getElem?_getD, hk]
  refine ⟨by rw [pushL_len, hzl], by rw [pushL_getD hne, getD_set _ _ _ _ _ (by rw [zeros_len]; exact hk), if_pos rfl], fun j hj hjk htj => ?_, fun v hv => ?_⟩
  · rw [pushL_getD (fun s hs h => by
      have := hl s hs
      rw [h, htj] at this; cases this), getD_set _ _ _ _ _ (by rw [zeros_len]; exact hk), if_neg (fun h => hjk h.symm), zeros_getD]
  · have e : (zeros ps).set k 1 = (zeros ps).set k ((zeros ps).getD k 0 + 1) := by rw [zeros_getD]; rfl
    rw [exc_pushL hok hzl hc, e, exc_set _ _ _ _ _ hk (by rw [zeros_len]; exact hk), exc_zeros, hg]
    obtain ⟨h0, h1, h2, h3, h4⟩ := hends
    unfold excT
    repeat' split
    all_goals omega

/-- signs set along a way that has no pipe twice are pushes -/
def signSet (xs : List Int) (s : Nat) : List Int := xs.set (s / 2) (1 - ((s % 2 : Nat) : Int) * 2)
theorem sets_push {l : List Nat} {xs : List Int} (hp : l.Pairwise fun s t => s / 2 ≠ t / 2) (hz : ∀ s ∈ l, xs.getD (s / 2) 0 = 0) : l.foldl signSet xs = pushL 1 xs l := by
  induction l generalizing xs with
  | nil => rfl
  | cons s l ih =>
    rw [List.pairwise_cons] at hp
    have h0 := hz s (by simp)
    have e : signSet xs s = push1 1 xs s := by
      unfold signSet push1
      rw [h0]
      rcases (show s % 2 = 1 ∨ s % 2 = 0 by omega) with h | h <;> rw [h] <;> simp
    rw [List.foldl_cons, e, show pushL 1 xs (s :: l) = pushL 1 (push1 1 xs s) l from rfl]
    exact ih hp.2 fun t ht => by rw [push1_getD (hp.1 t ht)]; exact hz t (by simp [ht])
theorem sets_bd {l : List Nat} {xs : List Int} (h : ∀ x ∈ xs, -1 ≤ x ∧ x ≤ 1) : ∀ x ∈ l.foldl signSet xs, -1 ≤ x ∧ x ≤ 1 := by
  induction l generalizing xs with
  | nil => exact h
  | cons s l ih =>
    refine ih fun x hx => ?_
    rcases List.mem_or_eq_of_mem_set hx with hx | rfl
    · exact h x hx
    · omega
end

/-! ### the way in the tree -/
def freeQ (ps : List Pp) (T : List Int) : List Pp := T.map fun t => ⟨(ps.getD t.toNat zeroPp).fr, (ps.getD t.toNat zeroPp).to, 0, 2, 0⟩
def halfQ (T : List Int) : List Int := List.replicate T.length 1
def liftS (T : List Int) (s : Nat) : Nat := 2 * (T.getD (s / 2) 0).toNat + s % 2

section
variable {n : Int} {ps : List Pp} {k : Nat}
theorem tree_mem {m : Nat} {t : Int} (h : t ∈ treeL m ps) : ∃ i : Nat, i < ps.length ∧ treeF m ps i = true ∧ t = (i : Int) := numW_mem.1 h
theorem tree_at {m i : Nat} (hi : i < (treeL m ps).length) : ∃ j : Nat, j < ps.length ∧ treeF m ps j = true ∧ (treeL m ps)[i] = (j : Int) ∧ (treeL m ps).getD i 0 = (j : Int) := by
  obtain ⟨j, h1, h2, h3⟩ := tree_mem (List.getElem_mem hi)
  exact ⟨j, h1, h2, h3, by rw [List.getD_eq_getElem?_getD, List.getElem?_eq_getElem hi]; exact h3⟩
theorem tree_len7 (h : netOkB n ps = true) : (treeL n.toNat ps).length ≤ 7 := by
  have := numW_len ps.length (treeF n.toNat ps)
  have h2 := netOk_parts h
  unfold treeL; omega
theorem freeQ_at {T : List Int} {i : Nat} (hi : i < T.length) : (freeQ ps T).getD i zeroPp = ⟨(ps.getD (T[i]).toNat zeroPp).fr, (ps.getD (T[i]).toNat zeroPp).to, 0, 2, 0⟩ := by
  simp [freeQ, List.getD_eq_getElem?_getD, hi]
theorem freeQ_len (T : List Int) : (freeQ ps T).length = T.length := by simp [freeQ]
theorem toNat_n (h : netOkB n ps = true) : ((n.toNat : Nat) : Int) = n := by
  have := netOk_parts h
  omega
theorem net_ends' (h : netOkB n ps = true) : ∀ p ∈ ps, endsIn n.toNat p := by rw [toNat_n h]; exact net_endsIn h

theorem freeQ_ok (h : netOkB n ps = true) : netOkB n (freeQ ps (treeL n.toNat ps)) = true := by
  obtain ⟨h1, h2, h3, -⟩ := netOk_parts h
  have h7 := tree_len7 h
  simp only [netOkB, withinB, Bool.and_eq_true, decide_eq_true_eq, List.all_eq_true]
  refine ⟨⟨⟨h1, h2⟩, by rw [freeQ_len]; exact h7⟩, fun q hq => ?_⟩
  obtain ⟨t, ht, rfl⟩ := List.mem_map.1 hq
  obtain ⟨i, hi, -, rfl⟩ := tree_mem ht
  obtain ⟨a0, a1, b0, b1, ab⟩ := getD_ends (net_ends' h) hi
  have hn := toNat_n h
  simp only [pipeOkB, withinB, Bool.and_eq_true, decide_eq_true_eq, Int.toNat_natCast]
  omega
theorem halfQ_holds (h : netOkB n ps = true) : holdsB n (freeQ ps (treeL n.toNat ps)) (halfQ (treeL n.toNat ps)) = true := by
  rw [holds_inB (freeQ_ok h)]
  refine ⟨by rw [freeQ_len]; simp [halfQ], fun j hj => ?_⟩
  have hj' : j < (treeL n.toNat ps).length := by rwa [freeQ_len] at hj
  simp [freeQ, halfQ, List.getD_eq_getElem?_getD, hj']

theorem treeQ_edge {m j : Nat} (hj : j < ps.length) (ht : treeF m ps j = true) (b : Bool) :
    (if b = true then ((ps.getD j zeroPp).fr, (ps.getD j zeroPp).to) else ((ps.getD j zeroPp).to, (ps.getD j zeroPp).fr)) ∈ edgL (freeQ ps (treeL m ps)) (halfQ (treeL m ps)) := by
  have hm : ((j : Nat) : Int) ∈ treeL m ps := numW_mem.2 ⟨j, hj, ht, rfl⟩
  obtain ⟨i, hi, he⟩ := List.getElem_of_mem hm
  have hq := freeQ_at (ps := ps) hi
  rw [he, Int.toNat_natCast] at hq
  have hl := freeQ_len (ps := ps) (treeL m ps)
  rw [edg_mem]
  have hh : (halfQ (treeL m ps)).getD i 0 = 1 := by simp [halfQ, hi]
  cases b with
  | true => refine ⟨2 * i, by omega, ?_, ?_, ?_⟩ <;> simp [stRoom, stFr, stTo, show 2 * i % 2 = 0 by omega, show 2 * i / 2 = i by omega, hq, hh, -List.getD_eq_getElem?_getD]
  | false => refine ⟨2 * i + 1, by omega, ?_, ?_, ?_⟩ <;> simp [stRoom, stFr, stTo, show (2 * i + 1) % 2 = 1 by omega, show (2 * i + 1) / 2 = i by omega, hq, hh, -List.getD_eq_getElem?_getD]

/-- within a piece there is a way in the tree -/
theorem treeQ_way (h : netOkB n ps = true) (hk : k < ps.length) :
    wayB n (freeQ ps (treeL n.toNat ps)) (halfQ (treeL n.toNat ps)) (ps.getD k zeroPp).to (ps.getD k zeroPp).fr = true := by
  have hn := toNat_n h
  have hE := net_ends' h
  obtain ⟨a0, a1, b0, b1, ab⟩ := getD_ends hE hk
  rw [wayB, halfQ_holds h, Bool.true_and]
  have he : endsB n (freeQ ps (treeL n.toNat ps)) (ps.getD k zeroPp).to (ps.getD k zeroPp).fr = true := by
    simp only [endsB, freeQ_ok h, withinB, Bool.true_and, Bool.and_eq_true, decide_eq_true_eq]
    omega
  rw [he, Bool.true_and, decide_eq_true_eq, inK_iff ⟨a0, by omega⟩ (edg_in (freeQ_ok h) _)]
  have hS := piece_same (k := ps.length) (fun v : Int => ∃ m, inK (edgL (freeQ ps (treeL n.toNat ps)) (halfQ (treeL n.toNat ps))) m v (ps.getD k zeroPp).fr = true) hE (Nat.le_refl _) fun j hj htj => by
    have e1 := treeQ_edge hj htj true
    have e2 := treeQ_edge hj htj false
    simp only [if_true, Bool.false_eq_true, if_false] at e1 e2
    apply propext
    constructor
    · rintro ⟨m, hm⟩; exact ⟨m + 1, inK_succ.2 (.inr ⟨_, e2, rfl, hm⟩)⟩
    · rintro ⟨m, hm⟩; exact ⟨m + 1, inK_succ.2 (.inr ⟨_, e1, rfl, hm⟩)⟩
  have hj := lab_joined (k := ps.length) hE hk (Nat.le_refl _)
  have s1 := hS _ a0 a1
  have s2 := hS _ b0 b1
  rw [hj] at s1
  rw [s1] at s2
  exact s2.mp ⟨0, inK_self 0⟩

theorem liftS_step {m s : Nat} (hs : s < 2 * (freeQ ps (treeL m ps)).length) : liftS (treeL m ps) s < 2 * ps.length ∧ stFr (freeQ ps (treeL m ps)) s = stFr ps (liftS (treeL m ps) s) ∧
    stTo (freeQ ps (treeL m ps)) s = stTo ps (liftS (treeL m ps) s) ∧ treeF m ps (liftS (treeL m ps) s / 2) = true ∧ liftS (treeL m ps) s % 2 = s % 2 ∧ (treeL m ps).getD (s / 2) 0 = ((liftS (treeL m ps) s / 2 : Nat) : Int) := by
  rw [freeQ_len] at hs
  have hi : s / 2 < (treeL m ps).length := by omega
  obtain ⟨j, hj, htj, e1, e2⟩ := tree_at hi
  have hl : liftS (treeL m ps) s = 2 * j + s % 2 := by rw [liftS, e2, Int.toNat_natCast]
  have hq := freeQ_at (ps := ps) hi
  rw [e1, Int.toNat_natCast] at hq
  have hm : (2 * j + s % 2) % 2 = s % 2 := by omega
  have hd : (2 * j + s % 2) / 2 = j := by omega
  rw [hl, hd, hm]
  refine ⟨by omega, ?_, ?_, htj, rfl, e2⟩
  · unfold stFr; rw [hq, hm, hd]
  · unfold stTo; rw [hq, hm, hd]
theorem lift_chain {m : Nat} {a b : Int} {l : List Nat} (hc : chain (freeQ ps (treeL m ps)) a b l) : chain ps a b (l.map (liftS (treeL m ps))) ∧ ∀ s ∈ l.map (liftS (treeL m ps)), treeF m ps (s / 2) = true := by
  induction l generalizing a with
  | nil => exact ⟨hc, by simp⟩
  | cons s l ih =>
    obtain ⟨h1, h2, h3⟩ := hc
    obtain ⟨l1, l2, l3, l4, -⟩ := liftS_step h1
    obtain ⟨i1, i2⟩ := ih h3
    refine ⟨⟨l1, by rw [← l2]; exact h2, by rw [← l3]; exact i1⟩, fun t ht => ?_⟩
    rcases List.mem_cons.1 ht with rfl | ht
    · exact l4
    · exact i2 t ht
theorem tree_inj {m i j : Nat} (hi : i < (treeL m ps).length) (hj : j < (treeL m ps).length) (h : (treeL m ps).getD i 0 = (treeL m ps).getD j 0) : i = j := by
  have hp : (treeL m ps).Pairwise (· < ·) := numW_pair _ _
  rw [List.getD_eq_getElem?_getD, List.getD_eq_getElem?_getD, List.getElem?_eq_getElem hi, List.getElem?_eq_getElem hj] at h
  simp only [Option.getD_some] at h
  rcases Nat.lt_trichotomy i j with h1 | h1 | h1
  · have := List.pairwise_iff_getElem.1 hp i j hi hj h1; omega
  · exact h1
  · have := List.pairwise_iff_getElem.1 hp j i hj hi h1; omega
theorem lift_apart {m : Nat} {l : List Nat} (hl : ∀ s ∈ l, s < 2 * (freeQ ps (treeL m ps)).length) (hp : l.Pairwise fun s t => s / 2 ≠ t / 2) : (l.map (liftS (treeL m ps))).Pairwise fun s t => s / 2 ≠ t / 2 := by
  rw [List.pairwise_map]
  refine List.Pairwise.imp_of_mem ?_ hp
  intro s t hs ht hne he
  obtain ⟨-, -, -, -, -, s5⟩ := liftS_step (hl s hs)
  obtain ⟨-, -, -, -, -, t5⟩ := liftS_step (hl t ht)
  have h1 := hl s hs
  have h2 := hl t ht
  rw [freeQ_len] at h1 h2
  exact hne (tree_inj (ps := ps) (m := m) (by omega) (by omega) (by rw [s5, t5, he]))

/-- the signs as the given model sets them: along the way in the tree -/
def signsM (n : Int) (ps : List Pp) (k : Nat) : List Int := ((wayR n (freeQ ps (treeL n.toNat ps)) (halfQ (treeL n.toNat ps)) (ps.getD k zeroPp).to (ps.getD k zeroPp).fr).map (liftS (treeL n.toNat ps))).foldl signSet ((zeros ps).set k 1)
theorem signsM_ring (h : netOkB n ps = true) (hk : k < ps.length) (ht : treeF n.toNat ps k = false) : ringS n.toNat ps k (signsM n ps k) ∧ ∀ x ∈ signsM n ps k, -1 ≤ x ∧ x ≤ 1 := by
  obtain ⟨-, -, w3, w4, w5⟩ := wayR_ok (treeQ_way h hk)
  obtain ⟨c1, c2⟩ := lift_chain w3
  refine ⟨?_, sets_bd fun x hx => ?_⟩
  · rw [signsM, sets_push (lift_apart (fun s hs => (w4 s hs).1) w5) fun s hs => ?_]
    · exact walk_ring' h hk ht c1 c2
    · have h2 := c2 s hs
      rw [getD_set _ _ _ _ _ (by rw [zeros_len]; exact hk), if_neg (fun he => by rw [← he, ht] at h2; cases h2), zeros_getD]
  · rcases List.mem_or_eq_of_mem_set hx with hx | rfl
    · unfold zeros at hx
      have := List.eq_of_mem_replicate hx
      omega
    · omega

/-- is this a pipe with a ring; its signs -/
def signB (n : Int) (ps : List Pp) (k : Int) : Bool := netOkB n ps && withinB k 0 ((ps.length : Int) - 1) && !treeF n.toNat ps k.toNat
def signsR (n : Int) (ps : List Pp) (k : Int) : List Int := if signB n ps k = true then signsM n ps k.toNat else []
theorem sign_parts {k : Int} (h : signB n ps k = true) : netOkB n ps = true ∧ 0 ≤ k ∧ k < ps.length ∧ treeF n.toNat ps k.toNat = false := by
  simp only [signB, withinB, Bool.and_eq_true, decide_eq_true_eq, Bool.not_eq_true'] at h
  obtain ⟨⟨h1, h2, h3⟩, h4⟩ := h
  exact ⟨h1, h2, by omega, h4⟩
theorem signsR_ring {k : Int} (h : signB n ps k = true) : ringS n.toNat ps k.toNat (signsR n ps k) ∧ ∀ x ∈ signsR n ps k, -1 ≤ x ∧ x ≤ 1 := by
  obtain ⟨h1, h2, h3, h4⟩ := sign_parts h
  rw [signsR, if_pos h]
  exact signsM_ring h1 (by omega) h4
theorem signsR_is {k : Int} {z : List Int} (h : signB n ps k = true) (hz : ringS n.toNat ps k.toNat z) : z = signsR n ps k :=
  ringS_one (net_ends' (sign_parts h).1) hz (signsR_ring h).1
theorem signsR_no {k : Int} (h : signB n ps k = false) : signsR n ps k = [] := by rw [signsR, if_neg (by simp [h])]
theorem signsR_len (n : Int) (ps : List Pp) (k : Int) (h : netOkB n ps = true) : (signsR n ps k).length ≤ 7 := by
  cases hb : signB n ps k with
  | false => rw [signsR_no hb]; simp
  | true =>
    rw [(signsR_ring hb).1.1]
    exact (netOk_parts h).2.2.1
end

end Go.Proofs.Ytphbmlephldaaaa
