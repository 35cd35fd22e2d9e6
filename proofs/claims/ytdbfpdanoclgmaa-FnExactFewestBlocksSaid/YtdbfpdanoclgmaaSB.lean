/- Contracts of the functions of chapter 2 in the model: NarrowestOf. -/
import Derived.Test.YtdbfpdanoclgmaaSB1
import Derived.Test.YtdbfpdanoclgmaaSB2
namespace Go.Proofs.Ytdbfpdanoclgmaa
open Go.RowKit

set_option maxHeartbeats 1000000 in
set_option maxRecDepth 20000 in
theorem specNarrow_no (n i j : Int) (v : Value) (ps : List Pp) (b : Nat) (w : World) (hp : Pipes w b v ps) (he : ¬ endsB n ps i j = true) :
    Calls Try.prog 47 #[.agg #[.int .i64 n, v], .int .i64 i, .int .i64 j] w fun e w' => ∃ r, e = .returned r ∧ Ints w' w.heap.size r (narrowL n ps i j) ∧ Below w.heap.size w w' := by
  have hp0 := hp
  obtain ⟨A, c, rfl, -, -, -, -⟩ := hp.form
  have he' : endsB n ps i j = false := by simpa using he
  have Hr := Lib.hid (leastR_no' he')
  have Hn := Lib.hid (narrow_no' he')
  clear he he'
  go_enter Try.func47, Try.ntmps47
  go_wp2_with fail
  refine (specLeastRoom_any n i j _ ps b _ (hp0.keep (by (repeat (first | (with_reducible assumption) | (with_reducible exact Below.refl _ _) | ((with_reducible refine Below.alloc ?_ ?hsz _); (case hsz => (first | omega | (simp; done) | (simp; omega) | (simp at *; omega)))) | ((with_reducible refine Below.setCell ?_ ?hsz _); (case hsz => (first | omega | (simp; done) | (simp; omega) | (simp at *; omega)))) | (with_reducible refine Below.drew ?_) | (with_reducible refine below_drewN ?_ _) | ((with_reducible refine Below.trans ?_ (Below.mono (by with_reducible assumption) ?hsz)); (case hsz => (first | omega | (simp; done) | (simp; omega) | (simp at *; omega))))))))).mono ?_
  rintro e w1 ⟨rfl, hb1⟩
  rw [Hr.out]
  have hown1 : Ints w1 w.heap.size (.slice (some ⟨w.heap.size + 1, 0, none⟩) 0 0) [] := (Ints_empty' _ _ _ (by simp) (by simp)).keep hb1
  have hbw1 : Below w.heap.size w w1 := by (repeat (first | (with_reducible assumption) | (with_reducible exact Below.refl _ _) | ((with_reducible refine Below.alloc ?_ ?hsz _); (case hsz => (first | omega | (simp; done) | (simp; omega) | (simp at *; omega)))) | ((with_reducible refine Below.setCell ?_ ?hsz _); (case hsz => (first | omega | (simp; done) | (simp; omega) | (simp at *; omega)))) | (with_reducible refine Below.drew ?_) | (with_reducible refine below_drewN ?_ _) | ((with_reducible refine Below.trans ?_ (Below.mono (by with_reducible assumption) ?hsz)); (case hsz => (first | omega | (simp; done) | (simp; omega) | (simp at *; omega))))))
  go_wp2
  go_loopw [10, 7] (fun t o wr => t = .int .i64 0 ∧ o = .slice (some ⟨w.heap.size + 1, 0, none⟩) 0 0 ∧ Below w1.heap.size w1 wr) (fun _ _ _ => 0)
  case atStart => exact ⟨rfl, rfl, Below.refl _ _⟩
  case round =>
    obtain ⟨rfl, rfl, hb⟩ := hrel
    go_wp2
    go_ret
    exact ⟨_, rfl, by rw [Hn.out]; exact hown1.keep hb, hbw1.trans (hb.mono hbw1.size)⟩

theorem specNarrowestOf_any (n i j : Int) (v : Value) (ps : List Pp) (b : Nat) (w : World) (hp : Pipes w b v ps) :
    Calls Try.prog 47 #[.agg #[.int .i64 n, v], .int .i64 i, .int .i64 j] w fun e w' => ∃ r, e = .returned r ∧ Ints w' w.heap.size r (narrowL n ps i j) ∧ Below w.heap.size w w' := by
  by_cases he : endsB n ps i j = true
  · rcases side_n' (ends_parts he).1 with rfl | rfl | rfl | rfl
    · exact specNarrow_2 i j v ps b w hp he
    · exact specNarrow_3 i j v ps b w hp he
    · exact specNarrow_4 i j v ps b w hp he
    · exact specNarrow_5 i j v ps b w hp he
  · exact specNarrow_no n i j v ps b w hp he

end Go.Proofs.Ytdbfpdanoclgmaa
