/- PartsOf, as its exact law calls it. -/
import Derived.Test.YtkognphcekdgdaaO1
import Derived.Test.YtkognphcekdgdaaT7
import Derived.Test.YtkognphcekdgdaaV9
import Derived.Test.YtkognphcekdgdaaN5
namespace Go.Proofs.Ytkognphcekdgdaa
open Go.RowKit

theorem parts_rows {n a b : Int} {ps : List Pp} : ∀ (f : Nat) (left : Int) (xs : List Int), PartSt n ps xs a b left → 0 ≤ left → ∀ L ∈ partsP ps a b f left xs, 2 ≤ L.length ∧ L.length ≤ 7 := by
  intro f
  induction f with
  | zero => intro left xs _ _ L hL; simp [partsP] at hL
  | succ f ih =>
    intro left xs hst h0 L hL
    obtain ⟨hn, hlen, -⟩ := flowOk_parts hst.flow
    obtain ⟨n2, n5, -, hpo⟩ := netOk_parts hn
    by_cases hl : 0 < left
    · rw [parts_on hl] at hL
      obtain ⟨sne, -, -, s6, -, -, sL0, sst, -⟩ := hst.step hl
      rcases List.mem_cons.1 hL with rfl | hL
      · have h3 := List.length_pos_iff.2 sne
        simp only [List.length_cons, natsI, List.length_map]
        omega
      · exact ih _ _ sst sL0 L hL
    · rw [parts_off hl] at hL
      exact rings_each (fun p hp => by obtain ⟨p0, p1, p2, p3, -⟩ := pipeOk_parts (hpo p hp); exact ⟨p0, p1, p2, p3⟩) n5 8 xs hlen (flow_getD hst.flow) L hL
theorem parts_few {a b : Int} {ps : List Pp} : ∀ (f : Nat) (left : Int) (xs : List Int), (partsP ps a b f left xs).length ≤ f + 8 := by
  intro f
  induction f with
  | zero => intro left xs; simp [partsP]
  | succ f ih =>
    intro left xs
    by_cases hl : 0 < left
    · rw [parts_on hl, List.length_cons]
      have := ih (partL ps xs a b left) (lessP (partD ps xs a b left) xs (partP ps xs a b))
      omega
    · rw [parts_off hl]
      have := rings_few8 (ps := ps) 8 xs
      unfold ringsL
      omega
theorem partsR_each {n a b : Int} {ps : List Pp} {xs : List Int} : ∀ L ∈ partsR n ps xs a b, 2 ≤ L.length ∧ L.length ≤ 7 := by
  intro L hL
  by_cases h : partsOkB n ps xs a b = true
  · rw [parts_yes h] at hL
    obtain ⟨h1, h2⟩ := PartSt.of h
    exact parts_rows 10 _ _ h1 h2 L hL
  · rw [parts_no (by simpa using h)] at hL; simp at hL
theorem partsR_few {n a b : Int} {ps : List Pp} {xs : List Int} : (partsR n ps xs a b).length ≤ 18 := by
  by_cases h : partsOkB n ps xs a b = true
  · rw [parts_yes h]; exact parts_few 10 _ _
  · rw [parts_no (by simpa using h)]; simp
theorem partsR_off (n : Int) (ps : List Pp) (xs : List Int) (a b : Int) : off (partsR n ps xs a b) (partsR n ps xs a b).length ≤ 1000000 := by
  have h := off_bd (Ls := partsR n ps xs a b) (B := 7) (fun L hL => (partsR_each L hL).2)
  have := partsR_few (n := n) (ps := ps) (xs := xs) (a := a) (b := b)
  omega
theorem parts_ex (n i j : Int) (v u : Value) (ps : List Pp) (xs : List Int) (b b' : Nat) (w : World) (hp : Pipes w b v ps) (hx : Ints w b' u xs) :
    Calls Try.prog 22 #[.agg #[.int .i64 n, v], u, .int .i64 i, .int .i64 j] w fun e w' => ∃ r, e = .returned (.tuple #[r, .bool (partsOkB n ps xs i j)]) ∧ RowsM w' w.heap.size w'.heap.size r (partsR n ps xs i j) ∧ Below w.heap.size w w' := by
  refine (partsTop_any n i j v u ps xs b b' w hp hx).mono ?_
  rintro e w' ⟨r, rfl, h, hb⟩
  exact ⟨r, rfl, h.toM, hb⟩
theorem specParts_ex (n i j : Int) (v u : Value) (ps : List Pp) (xs : List Int) (b b' : Nat) (w : World) (hp : Pipes w b v ps) (hx : Ints w b' u xs) :
    Calls Try.prog 21 #[.agg #[.int .i64 n, v], u, .int .i64 i, .int .i64 j] w fun e w' => ∃ r, e = .returned (.tuple #[r, .bool (partsOkB n ps xs i j)]) ∧ RowsB w' w.heap.size w'.heap.size r (partsR n ps xs i j) ∧ Below w.heap.size w w' := by
  refine (specPartsTop_any n i j v u ps xs b b' w hp hx).mono ?_
  rintro e w' ⟨g, cap, rfl, h, hb⟩
  exact ⟨_, rfl, h.toB, hb⟩

end Go.Proofs.Ytkognphcekdgdaa
