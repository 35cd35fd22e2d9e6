/- Contracts of the functions of chapter 2 in the model: SideOk, how a pipe leads. -/
import Derived.Test.YtialdelfmmdfjaaSF
import Derived.Test.YtialdelfmmdfjaaMG
import Derived.IntWalk
namespace Go.Proofs.Ytialdelfmmdfjaa
open Go.RowKit

theorem side_n' {n : Int} {ps : List Pp} (h : netOkB n ps = true) : n = 2 ∨ n = 3 ∨ n = 4 ∨ n = 5 := by have := netOk_parts h; omega

def bitI (s k : Int) : Int := s / 2 ^ k.toNat % 2
/-- how a pipe leads: 1 from the side to the others, -1 back, else 0 -/
def overI (s : Int) (p : Pp) : Int := bitI s p.fr - bitI s p.to

theorem bitI_01 (s k : Int) : 0 ≤ bitI s k ∧ bitI s k ≤ 1 := by unfold bitI; generalize s / 2 ^ k.toNat = x; omega
theorem bitI_B (s k : Int) : bitB s k = decide (bitI s k = 1) := rfl

theorem over_out {s : Int} {p : Pp} (h : partsB s p.fr p.to = true) : overI s p = 1 := by
  have h1 := bitI_01 s p.fr
  have h2 := bitI_01 s p.to
  simp only [partsB, bitI_B, Bool.and_eq_true, Bool.not_eq_true', decide_eq_true_eq, decide_eq_false_iff_not] at h
  unfold overI; omega
theorem over_back {s : Int} {p : Pp} (h : partsB s p.to p.fr = true) : overI s p = -1 := by
  have h1 := bitI_01 s p.fr
  have h2 := bitI_01 s p.to
  simp only [partsB, bitI_B, Bool.and_eq_true, Bool.not_eq_true', decide_eq_true_eq, decide_eq_false_iff_not] at h
  unfold overI; omega
theorem over_no {s : Int} {p : Pp} (h : partsB s p.fr p.to = false) (h' : partsB s p.to p.fr = false) : overI s p = 0 := by
  have h1 := bitI_01 s p.fr
  have h2 := bitI_01 s p.to
  simp only [partsB, bitI_B, Bool.and_eq_false_iff, Bool.not_eq_false', decide_eq_true_eq, decide_eq_false_iff_not] at h h'
  unfold overI; omega

theorem shr_bit {s k : Int} (h4 : 0 ≤ s) : (s / 2 ^ k.toNat).tmod 2 = bitI s k := by
  rw [Int.tmod_eq_emod_of_nonneg (Int.ediv_nonneg h4 (Int.le_of_lt (Int.pow_pos (by decide)))), bitI]

end Go.Proofs.Ytialdelfmmdfjaa
