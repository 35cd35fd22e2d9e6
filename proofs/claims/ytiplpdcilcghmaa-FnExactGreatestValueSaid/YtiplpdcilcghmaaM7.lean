/- Plain facts for the laws of chapter 2: how answers read, shifts. -/
import Derived.Test.YtiplpdcilcghmaaM6
namespace Go.Proofs.Ytiplpdcilcghmaa
open Go.RowKit

theorem shl_in5 {k : Int} (h0 : 0 ≤ k) (h1 : k ≤ 5) : IntKind.i64.wrap (2 ^ k.toNat) = 2 ^ k.toNat ∧ wrap64 (2 ^ k.toNat) = 2 ^ k.toNat ∧ (1 : Int) ≤ 2 ^ k.toNat ∧ (2 : Int) ^ k.toNat ≤ 32 := by
  have : k = 0 ∨ k = 1 ∨ k = 2 ∨ k = 3 ∨ k = 4 ∨ k = 5 := by omega
  rcases this with rfl | rfl | rfl | rfl | rfl | rfl <;> decide +kernel
theorem acr_yes {n : Int} {ps : List Pp} {xs : List Int} {s : Int} (h : flowOkB n ps xs = true) (h1 : sideB n ps s = true) : (acrossAt n ps xs s).1 = across s ps xs ∧ (acrossAt n ps xs s).2 = true := by simp [acrossAt, h, h1]
theorem room_yes {n : Int} {ps : List Pp} {s : Int} (h1 : sideB n ps s = true) : (roomAt n ps s).1 = room s ps ∧ (roomAt n ps s).2 = true := by simp [roomAt, h1]
theorem room_no' {n : Int} {ps : List Pp} {s : Int} (h1 : sideB n ps s = false) : (roomAt n ps s).1 = 0 ∧ (roomAt n ps s).2 = false := by simp [roomAt, h1]
theorem leastR_one {n : Int} {ps : List Pp} {a b : Int} (h : endsB n ps a b = true) : (leastR n ps a b).1 = leastI n ps a b ∧ (leastR n ps a b).2 = true := by simp [leastR, h]
theorem leastR_none {n : Int} {ps : List Pp} {a b : Int} (h : endsB n ps a b = false) : (leastR n ps a b).1 = 0 ∧ (leastR n ps a b).2 = false := by simp [leastR, h]
theorem narrow_none {n : Int} {ps : List Pp} {a b : Int} (h : endsB n ps a b = false) : narrowL n ps a b = [] := by simp [narrowL, h]
theorem room_bd7 {n s : Int} {ps : List Pp} (h : netOkB n ps = true) : -28 ≤ room s ps ∧ room s ps ≤ 28 := by
  have h1 := room_bd s ps (net_rooms h)
  have h2 := (netOk_parts h).2.2.1
  omega

theorem least_facts {n i j : Int} {ps : List Pp} (he : endsB n ps i j = true) : sideB n ps (2 ^ i.toNat) = true ∧ sideB n ps (2 ^ n.toNat - 1 - 2 ^ j.toNat) = true ∧
    decide (leastI n ps i j ≤ room (2 ^ i.toNat) ps) = true ∧ decide (leastI n ps i j ≤ room (2 ^ n.toNat - 1 - 2 ^ j.toNat) ps) = true := by
  obtain ⟨hok, i0, i1, j0, j1, hij⟩ := ends_parts he
  obtain ⟨pi0, pi1⟩ := pow_side i0 i1
  obtain ⟨pj0, pj1⟩ := pow_side j0 j1
  have h2 := least_all he
  refine ⟨side_of hok pi0 pi1, ?_, decide_eq_true (least_one ps i j), decide_eq_true h2⟩
  have h3 := side_lack (n := n) (ps := ps) (s := 2 ^ j.toNat)
  rw [side_of hok pj0 pj1] at h3
  exact h3

theorem narrow_in {n i j : Int} {ps : List Pp} {x : Int} (h : x ∈ narrowL n ps i j) : endsB n ps i j = true ∧ 0 ≤ x ∧ x ≤ 31 ∧ x ≤ 2 ^ n.toNat - 1 := by
  by_cases he : endsB n ps i j = true
  · obtain ⟨h0, h1, -, -⟩ := (narrow_mem he).1 h
    have hp := pow_le5 (netOk_parts (ends_parts he).1).2.1
    exact ⟨he, h0, by omega, h1⟩
  · rw [narrow_none (by simpa using he)] at h
    cases h
theorem narrow_both (n i j : Int) (ps : List Pp) : (narrowL (turnN n ps) (turnL n ps) j i).length = (narrowL n ps i j).length ∧
    ∀ k (hk : k < (narrowL n ps i j).length) (hk' : (narrowL n ps i j).length - 1 - k < (narrowL (turnN n ps) (turnL n ps) j i).length), (narrowL n ps i j)[k] + (narrowL (turnN n ps) (turnL n ps) j i)[(narrowL n ps i j).length - 1 - k] = 2 ^ n.toNat - 1 := by
  by_cases hok : netOkB n ps = true
  · obtain ⟨t1, t2⟩ := turn_yes hok
    simp only [t1, t2]
    exact narrow_turn_at ps i j
  · have hok' : netOkB n ps = false := by simpa using hok
    obtain ⟨t1, t2⟩ := turn_no hok'
    have h1 : narrowL n ps i j = [] := narrow_none (by simp [endsB, hok'])
    have h2 : narrowL (turnN n ps) (turnL n ps) j i = [] := narrow_none (by rw [t1, t2]; rfl)
    refine ⟨by rw [h1, h2], fun k hk => ?_⟩
    rw [h1] at hk
    exact absurd hk (by simp)

end Go.Proofs.Ytiplpdcilcghmaa
