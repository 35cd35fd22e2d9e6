/- Contracts of the functions of chapter 2 in the model: AcrossOf. -/
import Derived.Test.YtpknhieiifjblaaS6
import Derived.Deep.RegionHeld3
namespace Go.Proofs.Ytpknhieiifjblaa
open Go.RowKit


theorem over_acT (s : Int) (p : Pp) (o b : Int) : overI s p = 1 ∧ acT s p o b = o ∨ overI s p = -1 ∧ acT s p o b = -b ∨ overI s p = 0 ∧ acT s p o b = 0 := by
  by_cases h : partsB s p.fr p.to = true
  · exact .inl ⟨over_out h, acT_out h⟩
  · have h' : partsB s p.fr p.to = false := by simpa using h
    by_cases h1 : partsB s p.to p.fr = true
    · exact .inr (.inl ⟨over_back h1, acT_back h' h1⟩)
    · have h1' : partsB s p.to p.fr = false := by simpa using h1
      exact .inr (.inr ⟨over_no h' h1', acT_no h' h1'⟩)

theorem int_eq' {a b : Int} (h : a = b) : Value.int .i64 a = .int .i64 b := by rw [h]

end Go.Proofs.Ytpknhieiifjblaa
