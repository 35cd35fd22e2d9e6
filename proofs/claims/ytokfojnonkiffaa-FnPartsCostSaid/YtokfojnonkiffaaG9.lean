/- Plain facts. -/
import Derived.Test.YtokfojnonkiffaaN1
import Derived.Test.YtokfojnonkiffaaS6
import Derived.Test.YtokfojnonkiffaaSJ
import Derived.Test.YtokfojnonkiffaaRD
import Derived.Test.YtokfojnonkiffaaD0
import Derived.Test.YtokfojnonkiffaaN2
/- Contracts of the functions of chapter 4 in the model: RingOk and ThreadOk. -/
namespace Go.Proofs.Ytokfojnonkiffaa
open Go.RowKit

theorem tmod_len {k m : Nat} : ((k : Int) + 1).tmod (m : Int) = (((k + 1) % m : Nat) : Int) := by
  rw [show (k : Int) + 1 = ((k + 1 : Nat) : Int) by omega]
  rw [Int.tmod_eq_emod_of_nonneg (Int.natCast_nonneg _)]
  rfl

end Go.Proofs.Ytokfojnonkiffaa

/- Contracts of the functions of chapter 4 in the model: ThreadOk. -/
namespace Go.Proofs.Ytokfojnonkiffaa
open Go.RowKit

/-- the node that one is at -/
def atN (ps : List Pp) (xs : List Int) (a : Int) : Nat → Int
  | 0 => a
  | j + 1 => toI ps (xs.getD j 0)

section
variable {n a b : Int} {ps : List Pp} {xs : List Int}
theorem nodes_last (h1 : 1 ≤ xs.length) : (nodesI ps xs).getD xs.length 0 = atN ps xs a xs.length := by
  have := nodes_succ (ps := ps) (xs := xs) (j := xs.length - 1) (by omega)
  rw [show xs.length - 1 + 1 = xs.length by omega] at this
  rw [this]
  obtain ⟨m, hm⟩ : ∃ m, xs.length = m + 1 := ⟨xs.length - 1, by omega⟩
  rw [hm]
  rfl

theorem thread_alt (he : endsB n ps a b = true) (h1 : 1 ≤ xs.length) (h5 : xs.length ≤ 5) (hp : placesB ps xs = true) :
    threadB n ps xs a b = true ↔ (∀ j, j < xs.length → frI ps (xs.getD j 0) = atN ps xs a j) ∧ (a :: xs.map (toI ps)).Nodup ∧ atN ps xs a xs.length = b := by
  have hw : walkB n ps xs = linkB ps xs := by simp [walkB, (ends_parts he).1, withinB, hp]; omega
  rw [threadB, hw, he]
  simp only [Bool.and_eq_true, decide_eq_true_eq, true_and]
  rw [nodes_last (a := a) h1, link_iff]
  constructor
  · rintro ⟨⟨⟨hl, h0⟩, hb⟩, hn⟩
    refine ⟨fun j hj => ?_, ?_, hb⟩
    · rcases j with _ | j
      · exact h0
      · exact hl j hj
    · rw [nodesI, h0] at hn; exact hn
  · rintro ⟨hl, hn, hb⟩
    have h0 := hl 0 (by omega)
    refine ⟨⟨⟨fun j hj => hl (j + 1) hj, h0⟩, hb⟩, ?_⟩
    rw [nodesI, h0]; exact hn

theorem thread_no (h : ¬ ((∀ j, j < xs.length → frI ps (xs.getD j 0) = atN ps xs a j) ∧ (a :: xs.map (toI ps)).Nodup)) (he : endsB n ps a b = true) (h1 : 1 ≤ xs.length) (h5 : xs.length ≤ 5) : threadB n ps xs a b = false := by
  rw [Bool.eq_false_iff]
  intro ht
  by_cases hp : placesB ps xs = true
  · have := (thread_alt he h1 h5 hp).1 ht
    exact h ⟨this.1, this.2.1⟩
  · simp [threadB, walk_no3 (n := n) (show placesB ps xs = false by simpa using hp)] at ht
end

end Go.Proofs.Ytokfojnonkiffaa

/- Plain facts of chapter 4: an amount of 1 in each pipe of a walk. -/
namespace Go.Proofs.Ytokfojnonkiffaa
open Go.RowKit

/-- the steps of a walk: along each pipe -/
def stepsI (xs : List Int) : List Nat := xs.map fun x => 2 * x.toNat
def onesL (ps : List Pp) (xs : List Int) : List Int := takenL ps.length [1 :: xs]

section
variable {n a b : Int} {ps : List Pp} {xs : List Int}

theorem push1_even (d : Int) (o : List Int) (k : Nat) : push1 d o (2 * k) = o.set k (o.getD k 0 + d) := by
  rw [push1, if_neg (by omega), show 2 * k / 2 = k by omega]

theorem getD_setI (o : List Int) (k i : Nat) (y : Int) : (o.set k y).getD i 0 = if k = i ∧ i < o.length then y else o.getD i 0 := by
  simp only [List.getD_eq_getElem?_getD, List.getElem?_set]
  by_cases h : k = i
  · subst h
    by_cases hl : k < o.length <;> simp [hl]
  · simp [h]

theorem takes_push (xs : List Int) : ∀ (o : List Int) (B : Int), (∀ x ∈ xs, 0 ≤ x ∧ x < (ps.length : Int)) → o.length = ps.length → (∀ i, 0 ≤ o.getD i 0 ∧ o.getD i 0 ≤ B) → B + xs.length ≤ 40 →
    xs.foldl (take1 ps.length 1) o = pushL 1 o (stepsI xs) ∧ ∀ i, 0 ≤ (pushL 1 o (stepsI xs)).getD i 0 ∧ (pushL 1 o (stepsI xs)).getD i 0 ≤ B + xs.length := by
  induction xs with
  | nil =>
    intro o B _ _ hb _
    refine ⟨rfl, fun i => ?_⟩
    have := hb i
    have e : pushL 1 o (stepsI []) = o := rfl
    rw [e]
    simp only [List.length_nil]
    omega
  | cons x xs ih =>
    intro o B hx hl hb hB
    obtain ⟨x0, x1⟩ := hx x (by simp)
    obtain ⟨k, rfl⟩ : ∃ k : Nat, x = (k : Int) := ⟨x.toNat, by omega⟩
    have hk := hb k
    simp only [List.length_cons] at hB
    have e1 : take1 ps.length 1 o (k : Int) = o.set k (o.getD k 0 + 1) := by
      rw [take1, if_pos ⟨x0, x1⟩, Int.toNat_natCast]
      congr 1
      unfold wrap64
      omega
    have e2 : pushL 1 o (stepsI ((k : Int) :: xs)) = pushL 1 (o.set k (o.getD k 0 + 1)) (stepsI xs) := by
      rw [stepsI, List.map_cons, Int.toNat_natCast, pushL, List.foldl_cons, push1_even]
      rfl
    have hb2 : ∀ i, 0 ≤ (o.set k (o.getD k 0 + 1)).getD i 0 ∧ (o.set k (o.getD k 0 + 1)).getD i 0 ≤ B + 1 := by
      intro i
      rw [getD_setI]
      have := hb i
      split <;> omega
    obtain ⟨i1, i2⟩ := ih (o.set k (o.getD k 0 + 1)) (B + 1) (fun y hy => hx y (by simp [hy])) (by simpa using hl) hb2 (by omega)
    refine ⟨by rw [List.foldl_cons, e1, i1, e2], fun i => ?_⟩
    rw [e2]
    have := i2 i
    simp only [List.length_cons]
    omega

theorem place_all (h : placesB ps xs = true) : ∀ x ∈ xs, 0 ≤ x ∧ x < (ps.length : Int) := by
  intro x hx
  have := List.all_eq_true.1 h x hx
  simp only [withinB, Bool.and_eq_true, decide_eq_true_eq] at this
  omega

theorem ones_push (h : placesB ps xs = true) (h5 : xs.length ≤ 5) : onesL ps xs = pushL 1 (List.replicate ps.length 0) (stepsI xs) ∧ ∀ i, 0 ≤ (onesL ps xs).getD i 0 ∧ (onesL ps xs).getD i 0 ≤ 5 := by
  obtain ⟨e, hb⟩ := takes_push (ps := ps) xs (List.replicate ps.length 0) 0 (place_all h) (by simp) (fun i => by
    have : (List.replicate ps.length (0 : Int)).getD i 0 = 0 := by
      simp only [List.getD_eq_getElem?_getD, List.getElem?_replicate]; split <;> rfl
    omega) (by omega)
  have e2 : onesL ps xs = xs.foldl (take1 ps.length 1) (List.replicate ps.length 0) := rfl
  rw [e2, e]
  exact ⟨rfl, fun i => by have := hb i; omega⟩

theorem ones_flow (hn : netOkB n ps = true) (h : placesB ps xs = true) (h5 : xs.length ≤ 5) : flowOkB n ps (onesL ps xs) = true := by
  have hl : (onesL ps xs).length = ps.length := takenL_len _ _
  have hb := (ones_push h h5).2
  simp only [flowOkB, Bool.and_eq_true, decide_eq_true_eq, List.all_eq_true]
  refine ⟨⟨hn, hl⟩, fun x hx => ?_⟩
  obtain ⟨i, hi, rfl⟩ := List.getElem_of_mem hx
  have := hb i
  rw [getD_at hi] at this
  simp only [withinB, Bool.and_eq_true, decide_eq_true_eq]
  omega

theorem chain_of (xs : List Int) : ∀ (a : Int), (∀ x ∈ xs, 0 ≤ x ∧ x < (ps.length : Int)) → (∀ j, j < xs.length → frI ps (xs.getD j 0) = atN ps xs a j) → chain ps a (atN ps xs a xs.length) (stepsI xs) := by
  induction xs with
  | nil => intro a _ _; rfl
  | cons x xs ih =>
    intro a hx hl
    obtain ⟨x0, x1⟩ := hx x (by simp)
    obtain ⟨k, rfl⟩ : ∃ k : Nat, x = (k : Int) := ⟨x.toNat, by omega⟩
    have hk : k < ps.length := by omega
    have h0 := hl 0 (by simp)
    have e0 : ((k : Int) :: xs).getD 0 0 = (k : Int) := rfl
    rw [e0, frI_at hk] at h0
    have hat : ∀ j, atN ps ((k : Int) :: xs) a (j + 1) = atN ps xs ps[k].to j := by
      intro j
      rcases j with _ | j
      · show toI ps (((k : Int) :: xs).getD 0 0) = ps[k].to
        rw [e0, toI_at hk]
      · rfl
    have := ih ps[k].to (fun y hy => hx y (by simp [hy])) (fun j hj => by
      have := hl (j + 1) (by simp; omega)
      rw [hat] at this
      exact this)
    have es : stepsI ((k : Int) :: xs) = (2 * k) :: stepsI xs := by simp [stepsI]
    have st1 : stFr ps (2 * k) = ps[k].fr := by simp [stFr, List.getD_eq_getElem?_getD, hk]
    have st2 : stTo ps (2 * k) = ps[k].to := by simp [stTo, List.getD_eq_getElem?_getD, hk]
    rw [es, List.length_cons, hat]
    exact ⟨by omega, by rw [st1]; exact h0, by rw [st2]; exact this⟩

/-- a thread carries 1 from its one end to the other one -/
theorem thread_exc (v : Int) (h : threadB n ps xs a b = true) : flowOkB n ps (onesL ps xs) = true ∧ exc v ps (onesL ps xs) = (if v = b then 1 else 0) - (if v = a then 1 else 0) := by
  have h' := h
  simp only [threadB, Bool.and_eq_true] at h'
  obtain ⟨⟨⟨⟨he, hw⟩, -⟩, -⟩, -⟩ := h'
  obtain ⟨hn, h1, h5, hp, -⟩ := walk_parts hw
  obtain ⟨hl, -, hb⟩ := (thread_alt he h1 h5 hp).1 h
  refine ⟨ones_flow hn hp h5, ?_⟩
  have hc := chain_of xs a (place_all hp) hl
  rw [hb] at hc
  rw [(ones_push hp h5).1, exc_pushL hn (by simp) hc]
  have hz : exc v ps (List.replicate ps.length 0) = 0 := by
    have := exc_zeros v ps
    rwa [show zeros ps = List.replicate ps.length 0 by first | rfl | simp [zeros, List.map_const']] at this
  rw [hz]
  omega
end

end Go.Proofs.Ytokfojnonkiffaa
