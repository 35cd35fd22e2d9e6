/- Contracts of the functions of chapter 2 in the model: AcrossOf. -/
import Derived.Test.YtlebamdgcfhdaaaS6
import Derived.Deep.RegionHeld3
namespace Go.Proofs.Ytlebamdgcfhdaaa
open Go.RowKit


theorem over_at (s r : Int) (p : Pp) (w : World) (h0 : 0 ≤ p.fr ∧ p.fr ≤ 4 ∧ 0 ≤ p.to ∧ p.to ≤ 4) (h4 : 0 ≤ s) (hr : overI s p = r) :
    Calls Try.prog 74 #[.agg #[.int .i64 p.fr, .int .i64 p.to, .int .i64 p.le, .int .i64 p.mo, .int .i64 p.co], .int .i64 s] w fun e w' => e = .returned (.int .i64 r) ∧ Below w.heap.size w w' :=
  (over_any s p w h0 h4).mono fun _ _ h => ⟨by rw [h.1, hr], h.2⟩

theorem over_acT (s : Int) (p : Pp) (o b : Int) : overI s p = 1 ∧ acT s p o b = o ∨ overI s p = -1 ∧ acT s p o b = -b ∨ overI s p = 0 ∧ acT s p o b = 0 := by
  by_cases h : partsB s p.fr p.to = true
  · exact .inl ⟨over_out h, acT_out h⟩
  · have h' : partsB s p.fr p.to = false := by simpa using h
    by_cases h1 : partsB s p.to p.fr = true
    · exact .inr (.inl ⟨over_back h1, acT_back h' h1⟩)
    · have h1' : partsB s p.to p.fr = false := by simpa using h1
      exact .inr (.inr ⟨over_no h' h1', acT_no h' h1'⟩)

theorem int_eq' {a b : Int} (h : a = b) : Value.int .i64 a = .int .i64 b := by rw [h]

end Go.Proofs.Ytlebamdgcfhdaaa
