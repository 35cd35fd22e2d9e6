/- Plain facts of chapter 5: single pushes from excess to lack. -/
import Derived.Test.YtphbmlephldaaaaC4
namespace Go.Proofs.Ytphbmlephldaaaa
open Go.RowKit

theorem roomL_min (ps : List Pp) (xs : List Int) (l : List Nat) : ∀ a b, roomL ps xs (min a b) l = min a (roomL ps xs b l) := by
  induction l with
  | nil => intro a b; rfl
  | cons s l ih =>
    intro a b
    show roomL ps xs (min (min a b) (stRoom ps xs s)) l = min a (roomL ps xs (min b (stRoom ps xs s)) l)
    rw [← ih]
    congr 1
    omega

section
variable {n : Int} {ps : List Pp} {xs : List Int}
theorem roomBig {a b : Int} (h : wayB n ps xs a b = true) : roomL ps xs 1000 (wayR n ps xs a b) = amtR n ps xs a b := by
  obtain ⟨h1, h2, h3⟩ := roomL_le ps xs (wayR n ps xs a b) 1000
  obtain ⟨g1, g2, g3⟩ := roomL_le ps xs (wayR n ps xs a b) 4
  obtain ⟨l1, l2, -, l4, -⟩ := wayR_ok h
  have hh := (wayB_parts h).1
  have hn := holds_net hh
  have hi := (holds_inB hn).1 hh
  unfold amtR
  obtain ⟨s, hs⟩ : ∃ s, s ∈ wayR n ps xs a b := List.exists_mem_of_length_pos (by omega)
  have q1 := h2 s hs
  have q2 := stRoom_le hn hi (l4 s hs).1
  apply Int.le_antisymm
  · rcases g3 with g3 | ⟨t, ht, g3⟩
    · omega
    · rw [g3]; exact h2 t ht
  · rcases h3 with h3 | ⟨t, ht, h3⟩
    · omega
    · rw [h3]; exact g2 t ht

theorem roomAmt {f t : Int} (h : wayB n ps xs f t = true) (h1 : exc f ps xs ≤ 1000) : roomL ps xs (min (exc f ps xs) (-exc t ps xs)) (wayR n ps xs f t) = amtC n ps xs f t := by
  have e : min (exc f ps xs) (-exc t ps xs) = min (min (exc f ps xs) (-exc t ps xs)) 1000 := by omega
  rw [e, roomL_min, roomBig h, amtC]
  omega

/-- a push from a later excess, the earlier ones being stuck, leads to the same end -/
theorem circF_push {f t : Nat} (hh : holdsB n ps xs = true) (hf : f < n.toNat) (h1 : 0 < exc (f : Int) ps xs) (ht : t < n.toNat) (h2 : exc (t : Int) ps xs < 0) (hw : wayB n ps xs f t = true)
    (hfirst : ∀ f' : Nat, f' < f → 0 < exc (f' : Int) ps xs → ∀ v : Nat, v < n.toNat → exc (v : Int) ps xs < 0 → wayB n ps xs f' v = false) (htf : ∀ v : Nat, v < t → exc (v : Int) ps xs < 0 → wayB n ps xs f v = false) :
    circF n ps (pushC n ps xs f t) = circF n ps xs := by
  have hp := pushC_ok hf h1 h2 hw
  have hfl := (holds_parts hh).1
  cases he : excessO n ps xs with
  | none =>
    have := (bal_iff hfl).1 (excess_none hfl he) f (by omega)
    omega
  | some f0 =>
    obtain ⟨e1, e2, e3⟩ := excess_some he
    by_cases hff : f0 = f
    · subst hff
      have hl : lackO n ps xs f0 = some t := by
        rw [lackO, List.find?_eq_some_iff_getElem]
        refine ⟨by simp [lackF, h2, hw], t, by simpa using ht, by simp, fun j hj => ?_⟩
        rw [List.getElem_range]
        by_cases hjx : exc (j : Int) ps xs < 0
        · simp [lackF, htf j hj hjx]
        · simp [lackF, hjx]
      have hnx : nextC n ps xs = some (pushC n ps xs f0 t) := by rw [nextC, he]; simp only [hl]
      exact (circF_step hh hnx).symm
    · have hlt : f0 < f := by
        apply Classical.byContradiction
        intro hge
        exact e3 f (by omega) h1
      obtain ⟨s, -, -, hs⟩ := stuck hh e1 e2 (hfirst f0 hlt e2)
      rw [circF_block hs hh, circF_block hs hp.2.2.1]

/-- no push is left: what comes of it is told by whether it is balanced -/
theorem circF_end (hh : holdsB n ps xs = true) (h : ∀ f : Nat, f < n.toNat → 0 < exc (f : Int) ps xs → ∀ v : Nat, v < n.toNat → exc (v : Int) ps xs < 0 → wayB n ps xs f v = false) : circF n ps xs = if balB n ps xs = true then some xs else none := by
  by_cases hb : balB n ps xs = true
  · rw [if_pos hb, circF_bal hb]
  · rw [if_neg hb]
    have hfl := (holds_parts hh).1
    cases he : excessO n ps xs with
    | none => exact absurd (excess_none hfl he) hb
    | some f =>
      obtain ⟨e1, e2, e3⟩ := excess_some he
      obtain ⟨s, -, -, hs⟩ := stuck hh e1 e2 (h f e1 e2)
      exact circF_block hs hh

theorem pushC_facts {f t : Nat} (hf : f < n.toNat) (h1 : 0 < exc (f : Int) ps xs) (h2 : exc (t : Int) ps xs < 0) (hw : wayB n ps xs f t = true) :
    (∀ k j, 0 ≤ (pushL (amtC n ps xs f t) xs ((wayR n ps xs f t).take k)).getD j 0 ∧ (pushL (amtC n ps xs f t) xs ((wayR n ps xs f t).take k)).getD j 0 ≤ 40) ∧ 0 ≤ amtC n ps xs f t ∧ amtC n ps xs f t ≤ 40 := by
  have hh := (wayB_parts hw).1
  have hn := holds_net hh
  have hi := (holds_inB hn).1 hh
  have hr := net_rooms hn
  obtain ⟨l1, l2, l3, l4, l5⟩ := wayR_ok hw
  obtain ⟨m1, m2, m3⟩ := amtR_pos hw
  obtain ⟨a1, a2, -⟩ := pushC_ok hf h1 h2 hw
  refine ⟨fun k j => ?_, by omega, by omega⟩
  have hk := pushL_inB (d := amtC n ps xs f t) (l := (wayR n ps xs f t).take k) (by omega) hi (fun s hs => ⟨(l4 s (List.mem_of_mem_take hs)).1, Int.le_trans a2 (m3 s (List.mem_of_mem_take hs))⟩) (l5.sublist (List.take_sublist _ _))
  by_cases hj : j < ps.length
  · have h1 := hk.2 j hj
    have h2 := hr ps[j] (List.getElem_mem hj)
    omega
  · have h1 := hk.1
    rw [List.getD_eq_getElem?_getD, List.getElem?_eq_none (by omega)]
    simp
end

section
variable {n : Int} {ps : List Pp} {xs : List Int}

def plusF (ps : List Pp) (xs : List Int) (v : Nat) : Bool := decide (0 < exc (v : Int) ps xs)
def lessF (ps : List Pp) (xs : List Int) (v : Nat) : Bool := decide (exc (v : Int) ps xs < 0)
theorem excessO_eq (n : Int) (ps : List Pp) (xs : List Int) : excessO n ps xs = (List.range n.toNat).find? (plusF ps xs) := rfl
theorem lackO_eq (n : Int) (ps : List Pp) (xs : List Int) (f : Nat) : lackO n ps xs f = ((List.range n.toNat).filter (lessF ps xs)).find? fun v : Nat => wayB n ps xs f v := by
  rw [List.find?_filter, lackO]
  congr 1
  funext v
  simp [lackF, lessF]
theorem next_none {f : Nat} (h : excessO n ps xs = some f) (h1 : lackO n ps xs f = none) : nextC n ps xs = none := by rw [nextC, h]; simp only [h1]
theorem next_is {f t : Nat} (h : excessO n ps xs = some f) (h1 : lackO n ps xs f = some t) : nextC n ps xs = some (pushC n ps xs f t) := by rw [nextC, h]; simp only [h1]
end

end Go.Proofs.Ytphbmlephldaaaa
