/- Plain facts. -/
import Derived.Test.YtlaeckjfjleplaaS6
import Derived.Deep.RegionHeld3
import Derived.Deep.AppendLies
import Derived.Test.YtlaeckjfjleplaaD0
/- Contracts of the functions of chapter 2 in the model: AcrossOf. -/
namespace Go.Proofs.Ytlaeckjfjleplaa
open Go.RowKit


theorem over_acT (s : Int) (p : Pp) (o b : Int) : overI s p = 1 ∧ acT s p o b = o ∨ overI s p = -1 ∧ acT s p o b = -b ∨ overI s p = 0 ∧ acT s p o b = 0 := by
  by_cases h : partsB s p.fr p.to = true
  · exact .inl ⟨over_out h, acT_out h⟩
  · have h' : partsB s p.fr p.to = false := by simpa using h
    by_cases h1 : partsB s p.to p.fr = true
    · exact .inr (.inl ⟨over_back h1, acT_back h' h1⟩)
    · have h1' : partsB s p.to p.fr = false := by simpa using h1
      exact .inr (.inr ⟨over_no h' h1', acT_no h' h1'⟩)

theorem int_eq' {a b : Int} (h : a = b) : Value.int .i64 a = .int .i64 b := by rw [h]

end Go.Proofs.Ytlaeckjfjleplaa

/- Contracts of the functions of chapter 2 in the model: RoomOf, LeavingOf. -/
namespace Go.Proofs.Ytlaeckjfjleplaa
open Go.RowKit

theorem side_pos {n s : Int} {ps : List Pp} (h : sideB n ps s = true) : netOkB n ps = true ∧ 0 ≤ s := by
  simp only [sideB, withinB, Bool.and_eq_true, decide_eq_true_eq] at h
  exact ⟨h.1, h.2.1⟩

end Go.Proofs.Ytlaeckjfjleplaa

/- Contracts of the functions of chapter 2 in the model: LeavingOf. -/
namespace Go.Proofs.Ytlaeckjfjleplaa
open Go.RowKit

theorem Ints_empty' (w : World) (b : Nat) (g : Nat) (hb : b ≤ w.heap.size) (hg : g = w.heap.size) : Ints (w.alloc (.cells #[] 3)) b (.slice (some ⟨g, 0, none⟩) 0 0) [] := by
  subst hg
  exact ⟨World.ownsRow_lit (e := 3) (base := b) (size := 1) w #[] 0 hb (by simp [maxLen]) rfl, Nat.zero_le _⟩

end Go.Proofs.Ytlaeckjfjleplaa

/- Contracts of the functions of chapter 2 in the model: LeastRoom. -/
namespace Go.Proofs.Ytlaeckjfjleplaa
open Go.RowKit

theorem leastR_yes' {n : Int} {ps : List Pp} {a b : Int} (h : endsB n ps a b = true) : leastR n ps a b = (leastI n ps a b, true) := by rw [leastR, if_pos h]
theorem leastR_no' {n : Int} {ps : List Pp} {a b : Int} (h : endsB n ps a b = false) : leastR n ps a b = (0, false) := by rw [leastR, if_neg (by simp [h])]

theorem shl_in {k : Int} (h0 : 0 ≤ k) (h1 : k ≤ 5) : IntKind.i64.wrap (2 ^ k.toNat) = 2 ^ k.toNat := by
  have h : k = 0 ∨ k = 1 ∨ k = 2 ∨ k = 3 ∨ k = 4 ∨ k = 5 := by omega
  rcases h with rfl | rfl | rfl | rfl | rfl | rfl <;> decide

theorem minL_add (ps : List Pp) (x : Int) (l : List Int) (t : Int) : minL ps x (l ++ [t]) = min (minL ps x l) (room t ps) := by
  rw [minL, List.foldl_append]; rfl

def betwF' (a b : Int) (k : Nat) : Bool := partsB (k : Int) a b

theorem bits_of (k : Nat) (a b : Int) :
    (((k : Int) / 2 ^ a.toNat).tmod 2 == 1) = decide (bitI k a = 1) ∧ (((k : Int) / 2 ^ b.toNat).tmod 2 == 0) = decide (bitI k b = 0) ∧ betwF' a b k = (decide (bitI k a = 1) && decide (bitI k b = 0)) := by
  rw [shr_bit (Int.natCast_nonneg k), shr_bit (Int.natCast_nonneg k)]
  refine ⟨beq_dec _ _, beq_dec _ _, ?_⟩
  have h2 := bitI_01 (k : Int) b
  rw [betwF', partsB, bitI_B, bitI_B]
  congr 1
  rw [Bool.eq_iff_iff]
  simp only [Bool.not_eq_true', decide_eq_false_iff_not, decide_eq_true_eq]
  omega

theorem betw_yes {k : Nat} {a b : Int} (h1 : ((k : Int) / 2 ^ a.toNat).tmod 2 = 1) (h2 : (((k : Int) / 2 ^ b.toNat).tmod 2 == 0) = true) : betwF' a b k = true := by
  obtain ⟨x1, x2, x3⟩ := bits_of k a b
  rw [x3, ← x1, ← x2, h2, h1]; rfl
theorem betw_no {k : Nat} {a b : Int} (h2 : (((k : Int) / 2 ^ b.toNat).tmod 2 == 0) = false) : betwF' a b k = false := by
  obtain ⟨x1, x2, x3⟩ := bits_of k a b
  rw [x3, ← x2, h2, Bool.and_false]
theorem betw_no' {k : Nat} {a b : Int} (h1 : ¬ ((k : Int) / 2 ^ a.toNat).tmod 2 = 1) : betwF' a b k = false := by
  obtain ⟨x1, x2, x3⟩ := bits_of k a b
  rw [x3, ← x1, beq_dec, decide_eq_false h1, Bool.false_and]

theorem min_if' (a b : Int) : (if b < a then b else a) = min a b := by split <;> omega

end Go.Proofs.Ytlaeckjfjleplaa
