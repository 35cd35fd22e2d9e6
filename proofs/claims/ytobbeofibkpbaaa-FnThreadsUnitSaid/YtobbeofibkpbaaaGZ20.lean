/- Plain facts. -/
import Derived.Test.YtobbeofibkpbaaaT6
import Derived.Test.YtobbeofibkpbaaaGZ2
import Derived.Test.YtobbeofibkpbaaaGZ39
import Derived.Test.YtobbeofibkpbaaaV9
/- Plain facts of chapter 4: what rings are made of. -/
namespace Go.Proofs.Ytobbeofibkpbaaa
open Go.RowKit

theorem rings_each {n : Int} {ps : List Pp} (hr : ∀ p ∈ ps, 0 ≤ p.fr ∧ p.fr < n ∧ 0 ≤ p.to ∧ p.to < n) (hn : n ≤ 5) : ∀ (f : Nat) (xs : List Int), xs.length = ps.length → (∀ i, 0 ≤ xs.getD i 0 ∧ xs.getD i 0 ≤ 40) → ∀ L ∈ ringsP ps f xs, 2 ≤ L.length ∧ L.length ≤ 7 := by
  intro f
  induction f with
  | zero => intro xs _ _ L hL; simp [ringsP] at hL
  | succ f ih =>
    intro xs hl hb L hL
    rcases hk : firstP xs with _ | k
    · rw [ringsP, hk] at hL; simp at hL
    · rw [rings_on hk] at hL
      obtain ⟨h1, h2, -⟩ := range_find.1 hk
      obtain ⟨hend, hne, hnd, hop⟩ := ring_parts (k := k) hr hn (by omega) (of_decide_eq_true h2)
      rcases List.mem_cons.1 hL with rfl | hL
      · have h3 := List.length_pos_iff.2 hne
        have h4 : (ringP ps xs k).length ≤ 6 := by
          unfold ringP
          rw [List.length_drop]
          have := hend.2.2.2
          omega
        simp only [List.length_cons, natsI, List.length_map]
        omega
      · obtain ⟨-, -, h5, -⟩ := ring_less hl hb hne hnd hop
        exact ih _ (by rw [less_len]; exact hl) (fun i => by have := h5 i; have := hb i; omega) L hL
end Go.Proofs.Ytobbeofibkpbaaa

/- PartsOf, as its exact law calls it. -/
namespace Go.Proofs.Ytobbeofibkpbaaa
open Go.RowKit

theorem parts_rows {n a b : Int} {ps : List Pp} : ∀ (f : Nat) (left : Int) (xs : List Int), PartSt n ps xs a b left → 0 ≤ left → ∀ L ∈ partsP ps a b f left xs, 2 ≤ L.length ∧ L.length ≤ 7 := by
  intro f
  induction f with
  | zero => intro left xs _ _ L hL; simp [partsP] at hL
  | succ f ih =>
    intro left xs hst h0 L hL
    obtain ⟨hn, hlen, -⟩ := flowOk_parts hst.flow
    obtain ⟨n2, n5, -, hpo⟩ := netOk_parts hn
    by_cases hl : 0 < left
    · rw [parts_on hl] at hL
      obtain ⟨sne, -, -, s6, -, -, sL0, sst, -⟩ := hst.step hl
      rcases List.mem_cons.1 hL with rfl | hL
      · have h3 := List.length_pos_iff.2 sne
        simp only [List.length_cons, natsI, List.length_map]
        omega
      · exact ih _ _ sst sL0 L hL
    · rw [parts_off hl] at hL
      exact rings_each (fun p hp => by obtain ⟨p0, p1, p2, p3, -⟩ := pipeOk_parts (hpo p hp); exact ⟨p0, p1, p2, p3⟩) n5 8 xs hlen (flow_getD hst.flow) L hL
theorem parts_few {a b : Int} {ps : List Pp} : ∀ (f : Nat) (left : Int) (xs : List Int), (partsP ps a b f left xs).length ≤ f + 8 := by
  intro f
  induction f with
  | zero => intro left xs; simp [partsP]
  | succ f ih =>
    intro left xs
    by_cases hl : 0 < left
    · rw [parts_on hl, List.length_cons]
      have := ih (partL ps xs a b left) (lessP (partD ps xs a b left) xs (partP ps xs a b))
      omega
    · rw [parts_off hl]
      have := rings_few8 (ps := ps) 8 xs
      unfold ringsL
      omega
theorem partsR_each {n a b : Int} {ps : List Pp} {xs : List Int} : ∀ L ∈ partsR n ps xs a b, 2 ≤ L.length ∧ L.length ≤ 7 := by
  intro L hL
  by_cases h : partsOkB n ps xs a b = true
  · rw [parts_yes h] at hL
    obtain ⟨h1, h2⟩ := PartSt.of h
    exact parts_rows 10 _ _ h1 h2 L hL
  · rw [parts_no (by simpa using h)] at hL; simp at hL
theorem partsR_few {n a b : Int} {ps : List Pp} {xs : List Int} : (partsR n ps xs a b).length ≤ 18 := by
  by_cases h : partsOkB n ps xs a b = true
  · rw [parts_yes h]; exact parts_few 10 _ _
  · rw [parts_no (by simpa using h)]; simp
end Go.Proofs.Ytobbeofibkpbaaa
