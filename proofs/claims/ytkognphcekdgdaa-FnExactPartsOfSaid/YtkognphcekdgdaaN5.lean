/- Plain facts of chapter 4: what rings are made of. -/
import Derived.Test.YtkognphcekdgdaaT6
namespace Go.Proofs.Ytkognphcekdgdaa
open Go.RowKit

theorem rings_each {n : Int} {ps : List Pp} (hr : ∀ p ∈ ps, 0 ≤ p.fr ∧ p.fr < n ∧ 0 ≤ p.to ∧ p.to < n) (hn : n ≤ 5) : ∀ (f : Nat) (xs : List Int), xs.length = ps.length → (∀ i, 0 ≤ xs.getD i 0 ∧ xs.getD i 0 ≤ 40) → ∀ L ∈ ringsP ps f xs, 2 ≤ L.length ∧ L.length ≤ 7 := by
  intro f
  induction f with
  | zero => intro xs _ _ L hL; simp [ringsP] at hL
  | succ f ih =>
    intro xs hl hb L hL
    rcases hk : firstP xs with _ | k
    · rw [ringsP, hk] at hL; simp at hL
    · rw [rings_on hk] at hL
      obtain ⟨h1, h2, -⟩ := range_find.1 hk
      obtain ⟨hend, hne, hnd, hop⟩ := ring_parts (k := k) hr hn (by omega) (of_decide_eq_true h2)
      rcases List.mem_cons.1 hL with rfl | hL
      · have h3 := List.length_pos_iff.2 hne
        have h4 : (ringP ps xs k).length ≤ 6 := by
          unfold ringP
          rw [List.length_drop]
          have := hend.2.2.2
          omega
        simp only [List.length_cons, natsI, List.length_map]
        omega
      · obtain ⟨-, -, h5, -⟩ := ring_less hl hb hne hnd hop
        exact ih _ (by rw [less_len]; exact hl) (fun i => by have := h5 i; have := hb i; omega) L hL
theorem ringsR_each {n : Int} {ps : List Pp} {xs : List Int} : ∀ L ∈ ringsR n ps xs, 2 ≤ L.length ∧ L.length ≤ 7 := by
  intro L hL
  unfold ringsR at hL
  split at hL
  · rename_i hb
    have hfl := bal_flow hb
    obtain ⟨hn, hlen, -⟩ := flowOk_parts hfl
    obtain ⟨n2, n5, -, hpo⟩ := netOk_parts hn
    exact rings_each (fun p hp => by obtain ⟨p0, p1, p2, p3, -⟩ := pipeOk_parts (hpo p hp); exact ⟨p0, p1, p2, p3⟩) n5 8 xs hlen (flow_getD hfl) L hL
  · simp at hL
theorem rings_few {ps : List Pp} : ∀ (f : Nat) (xs : List Int), (ringsP ps f xs).length ≤ f := by
  intro f
  induction f with
  | zero => intro xs; simp [ringsP]
  | succ f ih =>
    intro xs
    rcases hk : firstP xs with _ | k
    · rw [ringsP, hk]; simp
    · rw [rings_on hk]
      have := ih (lessP (leastP xs (ringP ps xs k)) xs (ringP ps xs k))
      simp; omega
theorem ringsR_few {n : Int} {ps : List Pp} {xs : List Int} : (ringsR n ps xs).length ≤ 8 := by
  unfold ringsR
  split
  · exact rings_few 8 xs
  · simp

end Go.Proofs.Ytkognphcekdgdaa
