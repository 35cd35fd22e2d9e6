/- Plain facts of chapter 4: in a balanced flow a walk goes on until it closes. -/
import Derived.Test.YtkognphcekdgdaaT6
namespace Go.Proofs.Ytkognphcekdgdaa
open Go.RowKit

theorem exc_ge (v : Int) : ∀ (ps : List Pp) (xs : List Int), xs.length = ps.length → (∀ i, 0 ≤ xs.getD i 0) → (∀ i, i < ps.length → (ps.getD i zeroPp).fr = v → xs.getD i 0 = 0) → 0 ≤ exc v ps xs ∧ ∀ k, k < ps.length → (ps.getD k zeroPp).to = v → xs.getD k 0 ≤ exc v ps xs := by
  intro ps
  induction ps with
  | nil => intro xs _ _ _; rw [exc_nil1]; exact ⟨Int.le_refl _, fun k hk => absurd hk (by simp)⟩
  | cons p ps ih =>
    intro xs hl h0 hf
    cases xs with
    | nil => simp at hl
    | cons x xs =>
      have hx : 0 ≤ x := h0 0
      have hfx : p.fr = v → x = 0 := fun e => hf 0 (by simp) e
      obtain ⟨i1, i2⟩ := ih xs (by simpa using hl) (fun i => h0 (i + 1)) (fun i hi e => hf (i + 1) (by simp; omega) e)
      rw [exc_cons]
      have hT : 0 ≤ excT v p x ∧ (p.to = v → x ≤ excT v p x) := by
        unfold excT
        by_cases h1 : p.fr = v
        · have := hfx h1
          subst this
          constructor
          · repeat' split
            all_goals omega
          · intro _
            repeat' split
            all_goals omega
        · have h1' : ¬ v = p.fr := fun e => h1 e.symm
          constructor
          · repeat' split
            all_goals omega
          · intro h2
            repeat' split
            all_goals omega
      refine ⟨by omega, fun k hk hk2 => ?_⟩
      rcases k with _ | k
      · have := hT.2 hk2
        show x ≤ _
        omega
      · have := i2 k (by simpa using hk) hk2
        show xs.getD k 0 ≤ _
        omega

theorem bal_next {n : Int} {ps : List Pp} {xs : List Int} {v : Int} (h : balB n ps xs = true) (v0 : 0 ≤ v) (v1 : v < n) (hin : ∃ k, k < ps.length ∧ (ps.getD k zeroPp).to = v ∧ 0 < xs.getD k 0) : ∃ q, nextP ps xs v = some q := by
  have hfl := bal_flow h
  obtain ⟨hn, hlen, -⟩ := flowOk_parts hfl
  rcases hq : nextP ps xs v with _ | q
  · exfalso
    have hno := range_none.1 hq
    have hxb := flow_getD hfl
    obtain ⟨k, hk, hk2, hk3⟩ := hin
    have h0 : exc v ps xs = 0 := by
      simp only [balB, Bool.and_eq_true, List.all_eq_true, beq_iff_eq] at h
      have := h.2 v.toNat (List.mem_range.2 (by omega))
      rwa [show ((v.toNat : Nat) : Int) = v by omega] at this
    obtain ⟨-, h2⟩ := exc_ge v ps xs hlen (fun i => (hxb i).1) (fun i hi e => by
      have := hno i hi
      simp only [openP, Bool.and_eq_false_iff, decide_eq_false_iff_not] at this
      have hb := hxb i
      rcases this with h | h
      · exact absurd e h
      · omega)
    have := h2 k hk hk2
    omega
  · exact ⟨q, rfl⟩

end Go.Proofs.Ytkognphcekdgdaa
