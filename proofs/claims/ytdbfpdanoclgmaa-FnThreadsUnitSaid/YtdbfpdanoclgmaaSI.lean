/- Contracts of the functions of chapter 3 in the model: WayFrom, PushedOn, GreatestFlow, GreatestValue. -/
import Derived.Test.YtdbfpdanoclgmaaSH
import Derived.Test.YtdbfpdanoclgmaaGR15
import Derived.Test.YtdbfpdanoclgmaaGR24
import Derived.Test.YtdbfpdanoclgmaaGR13
import Derived.Test.YtdbfpdanoclgmaaMG
namespace Go.Proofs.Ytdbfpdanoclgmaa
open Go.RowKit

theorem sret_vb {v : Value} {b b' : Bool} (h : b = b') : Ending.returned (.tuple #[v, .bool b]) = .returned (.tuple #[v, .bool b']) := by rw [h]
theorem sway_no1 {n : Int} {ps : List Pp} {xs : List Int} {a b : Int} (h : holdsB n ps xs = false) : wayB n ps xs a b = false := by simp [wayB, h]
theorem sway_no2 {n : Int} {ps : List Pp} {xs : List Int} {a b : Int} (h : endsB n ps a b = false) : wayB n ps xs a b = false := by simp [wayB, h]
theorem swayI_no {n : Int} {ps : List Pp} {xs : List Int} {a b : Int} (h : wayB n ps xs a b = false) : wayI n ps xs a b = [] := by rw [wayI, wayR_no h]; rfl
/-- the way that the model finds is the way; there is none exactly if it is empty -/
theorem rest_way {n : Int} {ps : List Pp} {xs : List Int} {a b : Int} (h1 : holdsB n ps xs = true) (h2 : endsB n ps a b = true) : restL n ps xs b a = wayR n ps xs a b ∧ decide (0 < (restL n ps xs b a).length) = wayB n ps xs a b := by
  have e : wayB n ps xs a b = decide (dis n ps xs a b < n.toNat) := by simp [wayB, h1, h2]
  have e1 : restL n ps xs b a = wayR n ps xs a b := by
    rw [restL, wayR, e]; simp
  refine ⟨e1, ?_⟩
  rw [e1]
  by_cases hw : wayB n ps xs a b = true
  · obtain ⟨l1, l2, -⟩ := wayR_ok hw
    rw [hw, l1]; simpa using l2
  · have hw' : wayB n ps xs a b = false := by simpa using hw
    rw [hw', wayR_no hw']; rfl

theorem Ints_empty2 (w : World) (b : Nat) {g : Nat} (hb : b ≤ w.heap.size) (hg : g = w.heap.size) : Ints (w.alloc (.cells #[] 3)) b (.slice (some ⟨g, 0, none⟩) 0 0) [] := by
  subst hg
  exact ⟨World.ownsRow_lit (e := 3) (base := b) (size := 1) w #[] 0 hb (by simp [maxLen]) rfl, Nat.zero_le _⟩

/-- what the contracts of a push ask for -/
theorem spush_facts {n : Int} {ps : List Pp} {xs : List Int} {a b : Int} (h : wayB n ps xs a b = true) : ps.length ≤ 7 ∧ xs.length = ps.length ∧ 0 < xs.length ∧ (∀ x ∈ xs, 0 ≤ x ∧ x ≤ 40) ∧ (∀ p ∈ ps, 0 ≤ p.le ∧ p.le ≤ p.mo ∧ p.mo ≤ 4) ∧
    (∀ s ∈ wayR n ps xs a b, s < 2 * ps.length) ∧ (∀ k j, 0 ≤ (pushL (amtR n ps xs a b) xs ((wayR n ps xs a b).take k)).getD j 0 ∧ (pushL (amtR n ps xs a b) xs ((wayR n ps xs a b).take k)).getD j 0 ≤ 40) ∧ 0 ≤ amtR n ps xs a b ∧ amtR n ps xs a b ≤ 40 := by
  have hh := (wayB_parts h).1
  have hn := holds_net hh
  have hi := (holds_inB hn).1 hh
  have hr := net_rooms hn
  obtain ⟨l1, l2, l3, l4, l5⟩ := wayR_ok h
  obtain ⟨m1, m2, m3⟩ := amtR_pos h
  have hlen := hi.1
  refine ⟨(netOk_parts hn).2.2.1, hlen, ?_, (flowOk_parts (holds_parts hh).1).2.2, hr, fun s hs => (l4 s hs).1, fun k j => ?_, by omega, by omega⟩
  · obtain ⟨s, hs⟩ : ∃ s, s ∈ wayR n ps xs a b := List.exists_mem_of_length_pos (by omega)
    have := (l4 s hs).1
    omega
  · have hk := pushL_inB (d := amtR n ps xs a b) (l := (wayR n ps xs a b).take k) (by omega) hi (fun s hs => ⟨(l4 s (List.mem_of_mem_take hs)).1, m3 s (List.mem_of_mem_take hs)⟩) (l5.sublist (List.take_sublist _ _))
    by_cases hj : j < ps.length
    · have h1 := hk.2 j hj
      have h2 := hr ps[j] (List.getElem_mem hj)
      omega
    · have h1 := hk.1
      rw [List.getD_eq_getElem?_getD, List.getElem?_eq_none (by omega)]
      simp
theorem spushR_yes {n : Int} {ps : List Pp} {xs : List Int} {a b : Int} (h : wayB n ps xs a b = true) : pushR n ps xs a b = pushL (amtR n ps xs a b) xs (wayR n ps xs a b) := by rw [pushR, if_pos h]
theorem spushR_no {n : Int} {ps : List Pp} {xs : List Int} {a b : Int} (h : wayB n ps xs a b = false) : pushR n ps xs a b = [] := by rw [pushR, if_neg (by simp [h])]

theorem Ints.uniq' {w : World} {b : Nat} {v : Value} {xs ys : List Int} (h : Ints w b v xs) (h' : Ints w b v ys) : xs = ys := by
  obtain ⟨A, c, rfl, -, -, -, hc⟩ := h.form
  obtain ⟨A', c', e, -, -, -, hc'⟩ := h'.form
  simp only [Value.slice.injEq] at e
  obtain ⟨rfl, hl, rfl⟩ := e
  apply List.ext_getElem hl
  intro i h1 h2
  obtain ⟨g, e1, _, _, c0, _⟩ := hc w (Below.refl _ _) i h1
  obtain ⟨g', e1', _, _, c0', _⟩ := hc' w (Below.refl _ _) i h2
  rw [e1] at e1'
  injection e1' with e1'
  injection e1' with e1'
  subst e1'
  rw [c0] at c0'
  injection c0' with c0'
  injection c0' with _ c0'

theorem swrap_pow {k : Nat} (hk : k ≤ 4) : wrap64 (2 ^ k) = 2 ^ k ∧ IntKind.i64.wrap (2 ^ k) = 2 ^ k := ⟨(shl_in5 (k := (k : Int)) (by omega) (by omega)).2.1, (shl_in5 (k := (k : Int)) (by omega) (by omega)).1⟩

end Go.Proofs.Ytdbfpdanoclgmaa
