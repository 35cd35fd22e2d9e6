/- Plain facts of chapter 5: a flow with a pipe back is balanced, and the rings with this pipe. -/
import Derived.Test.YtlaeckjfjleplaaNB
import Derived.Test.YtlaeckjfjleplaaC2
namespace Go.Proofs.Ytlaeckjfjleplaa
open Go.RowKit

section
variable {n a b : Int} {ps : List Pp} {xs : List Int}
/-- what the rows with pipe m amount to -/
def sumM (m : Nat) (Ls : List (List Int)) : Int := (Ls.map fun L => if (m : Int) ∈ L.drop 1 then L.getD 0 0 else 0).sum
theorem sumM_cons {m : Nat} {L : List Int} {Ls : List (List Int)} : sumM m (L :: Ls) = (if (m : Int) ∈ L.drop 1 then L.getD 0 0 else 0) + sumM m Ls := by simp [sumM]
theorem nats_mem {l : List Nat} {m : Nat} : (m : Int) ∈ natsI l ↔ m ∈ l := by
  show (m : Int) ∈ l.map (fun s : Nat => (s : Int)) ↔ m ∈ l
  rw [List.mem_map]
  exact ⟨fun ⟨a, h, e⟩ => by have e1 : a = m := by omega
                             rw [← e1]; exact h, fun h => ⟨m, h, rfl⟩⟩
theorem sumM_bd {m : Nat} : ∀ {Ls : List (List Int)}, (∀ L ∈ Ls, 0 ≤ L.getD 0 0 ∧ L.getD 0 0 ≤ 40) → 0 ≤ sumM m Ls ∧ sumM m Ls ≤ 40 * (Ls.length : Int)
  | [], _ => by simp [sumM]
  | L :: Ls, h => by
    have ih := sumM_bd (m := m) (Ls := Ls) fun L hL => h L (by simp [hL])
    have h1 := h L (by simp)
    rw [sumM_cons]
    simp only [List.length_cons]
    split <;> omega
theorem sumM_snoc {m : Nat} {Ls : List (List Int)} {k : Nat} (hk : k < Ls.length) : sumM m (Ls.take (k + 1)) = sumM m (Ls.take k) + if (m : Int) ∈ Ls[k].drop 1 then Ls[k].getD 0 0 else 0 := by
  unfold sumM
  rw [List.take_succ_eq_append_getElem hk, List.map_append, List.sum_append]
  simp

theorem rings_at : ∀ (f : Nat) (xs : List Int), balB n ps xs = true → posN xs ≤ f → ∀ i, sumM i (ringsP ps f xs) = xs.getD i 0 := by
  intro f
  induction f with
  | zero =>
    intro xs hbal hp i
    have hxb := flow_getD (bal_flow hbal)
    have hz : firstP xs = none := by
      rcases hk : firstP xs with _ | k
      · rfl
      · obtain ⟨h1, h2, -⟩ := range_find.1 hk
        have := pos_some h1 (of_decide_eq_true h2)
        omega
    rw [pos_zero (fun i => (hxb i).1) hz i]
    simp [ringsP, sumM]
  | succ f ih =>
    intro xs hbal hp i
    have hfl := bal_flow hbal
    have hxb := flow_getD hfl
    obtain ⟨hn, hlen, -⟩ := flowOk_parts hfl
    obtain ⟨n2, n5, -, hpo⟩ := netOk_parts hn
    rcases hk : firstP xs with _ | k
    · rw [ringsP, hk, pos_zero (fun i => (hxb i).1) hk i]; simp [sumM]
    · obtain ⟨h1, h2, -⟩ := range_find.1 hk
      have hx := of_decide_eq_true h2
      have hkl : k < ps.length := by omega
      obtain ⟨-, hne, hnd, hop⟩ := ring_parts (n := n) (fun p hp => by obtain ⟨p0, p1, p2, p3, -⟩ := pipeOk_parts (hpo p hp); exact ⟨p0, p1, p2, p3⟩) n5 hkl hx
      obtain ⟨l1, l2, l3, l4⟩ := ring_less hlen hxb hne hnd hop
      have hbal' := bal_less hbal hkl hx
      have hat := less_at (leastP xs (ringP ps xs k)) (ringP ps xs k) xs hnd (fun q hq => by rw [hlen]; exact (hop q hq).1)
      rw [rings_on hk, sumM_cons, ih _ hbal' (by omega) i, hat i]
      simp only [List.drop_succ_cons, List.drop_zero, List.getD_cons_zero, nats_mem]
      split <;> omega

theorem exc_app {v : Int} {q : Pp} {x : Int} (h : xs.length = ps.length) : exc v (ps ++ [q]) (xs ++ [x]) = exc v ps xs + excT v q x := by
  unfold exc
  rw [List.zip_append h.symm, List.map_append, List.sum_append]
  simp

theorem close_bal {q : Pp} (h : partsOkB n ps xs a b = true) (hw : netOkB n (ps ++ [q]) = true) (hf : q.fr = b) (ht : q.to = a) (hn : exc b ps xs ≤ 40) : balB n (ps ++ [q]) (xs ++ [exc b ps xs]) = true := by
  obtain ⟨hst, h0⟩ := PartSt.of h
  have ha := two_exc hst.ends hst.two
  obtain ⟨-, a0, a1, b0, b1, hab⟩ := ends_parts hst.ends
  obtain ⟨hnn, hlen, hall⟩ := flowOk_parts hst.flow
  have hfl : flowOkB n (ps ++ [q]) (xs ++ [exc b ps xs]) = true := by
    have h := hst.flow
    simp only [flowOkB, Bool.and_eq_true, decide_eq_true_eq, List.all_append, List.length_append, List.length_cons, List.length_nil, List.all_cons, List.all_nil] at h ⊢
    refine ⟨⟨hw, by omega⟩, h.2, ?_⟩
    simp [withinB]
    omega
  simp only [balB, Bool.and_eq_true, List.all_eq_true, beq_iff_eq]
  refine ⟨hfl, fun k hk => ?_⟩
  have hk := List.mem_range.1 hk
  rw [exc_app hlen, excT, ht, hf]
  by_cases h1 : (k : Int) = a
  · rw [if_pos h1, h1, ha]; omega
  · rw [if_neg h1]
    by_cases h2 : (k : Int) = b
    · rw [if_pos h2, h2]; omega
    · rw [if_neg h2, hst.two _ (by omega) (by omega) h1 h2]; omega
end

end Go.Proofs.Ytlaeckjfjleplaa
