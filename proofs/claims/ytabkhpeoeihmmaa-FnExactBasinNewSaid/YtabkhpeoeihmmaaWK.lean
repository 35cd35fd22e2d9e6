/- Contracts of the functions of chapter 3 in the program: GreatestValue, ReachedFrom. -/
import Derived.Test.YtabkhpeoeihmmaaWJ
import Derived.Test.YtabkhpeoeihmmaaW2
import Derived.Test.YtabkhpeoeihmmaaR
namespace Go.Proofs.Ytabkhpeoeihmmaa
open Go.RowKit

set_option maxHeartbeats 2000000 in
set_option maxRecDepth 20000 in
theorem greatestValue_any (n i j : Int) (v : Value) (ps : List Pp) (b : Nat) (w : World) (hp : Pipes w b v ps) :
    Calls Try.prog 46 #[.agg #[.int .i64 n, v], .int .i64 i, .int .i64 j] w fun e w' => e = .returned (.int .i64 (greatV n ps i j)) ∧ Below w.heap.size w w' := by
  have hp0 := hp
  obtain ⟨A, c, rfl, -, -, -, -⟩ := hp.form
  have bx0 := Box2.new w (.int .i64 n) (.slice A ps.length c) 33
  go_enter Try.func46, Try.ntmps46
  go_wp2_with fail
  with_reducible refine (greatestFlow_any n i j _ ps b _ (hp0.keep (by (repeat (first | (with_reducible assumption) | (with_reducible exact Below.refl _ _) | ((with_reducible refine Below.alloc ?_ ?hsz _); (case hsz => (first | omega | (simp; done) | (simp; omega) | (simp at *; omega)))) | ((with_reducible refine Below.setCell ?_ ?hsz _); (case hsz => (first | omega | (simp; done) | (simp; omega) | (simp at *; omega)))) | (with_reducible refine Below.drew ?_) | (with_reducible refine below_drewN ?_ _) | ((with_reducible refine Below.trans ?_ (Below.mono (by with_reducible assumption) ?hsz)); (case hsz => (first | omega | (simp; done) | (simp; omega) | (simp at *; omega))))))))).mono ?_
  rintro e w1 ⟨r, rfl, hr, hb1⟩
  have bx1 := bx0.keep hb1
  have hB1 : Below w.heap.size w w1 := by (repeat (first | (with_reducible assumption) | (with_reducible exact Below.refl _ _) | ((with_reducible refine Below.alloc ?_ ?hsz _); (case hsz => (first | omega | (simp; done) | (simp; omega) | (simp at *; omega)))) | ((with_reducible refine Below.setCell ?_ ?hsz _); (case hsz => (first | omega | (simp; done) | (simp; omega) | (simp at *; omega)))) | (with_reducible refine Below.drew ?_) | (with_reducible refine below_drewN ?_ _) | ((with_reducible refine Below.trans ?_ (Below.mono (by with_reducible assumption) ?hsz)); (case hsz => (first | omega | (simp; done) | (simp; omega) | (simp at *; omega))))))
  clear bx0 hb1
  obtain ⟨bs, d0, d1, -, -⟩ := id bx1
  by_cases hg : greatB n ps i j = true
  · rw [hg]
    have Hv : Hid (greatV n ps i j = exc j ps (greatF n ps i j)) := Lib.hid (by rw [greatV, if_pos hg])
    have Hf := Lib.hid (holds_parts (great_holds hg)).1
    clear hg
    go_wp2_with fail
    with_reducible refine (excessOf_any j n _ _ ps _ b _ _ (hp0.keep hB1) hr Hf.out).mono ?_
    rintro e w2 ⟨rfl, hb2⟩
    go_wp2
    go_ret
    exact ⟨ret_int Hv.out.symm, by (repeat (first | (with_reducible assumption) | (with_reducible exact Below.refl _ _) | ((with_reducible refine Below.alloc ?_ ?hsz _); (case hsz => (first | omega | (simp; done) | (simp; omega) | (simp at *; omega)))) | ((with_reducible refine Below.setCell ?_ ?hsz _); (case hsz => (first | omega | (simp; done) | (simp; omega) | (simp at *; omega)))) | (with_reducible refine Below.drew ?_) | (with_reducible refine below_drewN ?_ _) | ((with_reducible refine Below.trans ?_ (Below.mono (by with_reducible assumption) ?hsz)); (case hsz => (first | omega | (simp; done) | (simp; omega) | (simp at *; omega))))))⟩
  · have hg' : greatB n ps i j = false := by simpa using hg
    rw [hg']
    have Hv : Hid (greatV n ps i j = -1) := Lib.hid (by rw [greatV, if_neg hg])
    clear hg hg'
    go_wp2
    go_ret
    exact ⟨ret_int Hv.out.symm, by (repeat (first | (with_reducible assumption) | (with_reducible exact Below.refl _ _) | ((with_reducible refine Below.alloc ?_ ?hsz _); (case hsz => (first | omega | (simp; done) | (simp; omega) | (simp at *; omega)))) | ((with_reducible refine Below.setCell ?_ ?hsz _); (case hsz => (first | omega | (simp; done) | (simp; omega) | (simp at *; omega)))) | (with_reducible refine Below.drew ?_) | (with_reducible refine below_drewN ?_ _) | ((with_reducible refine Below.trans ?_ (Below.mono (by with_reducible assumption) ?hsz)); (case hsz => (first | omega | (simp; done) | (simp; omega) | (simp at *; omega))))))⟩

theorem wrap_pow {k : Nat} (hk : k ≤ 4) : wrap64 (2 ^ k) = 2 ^ k := (shl_in5 (k := (k : Int)) (by omega) (by omega)).2.1
theorem reach_no1 {n : Int} {ps : List Pp} {xs : List Int} {a : Int} (h : holdsB n ps xs = false) : reachS n ps xs a = -1 := by rw [reachS, if_neg (by simp [reachB, h])]
theorem reach_no2 {n : Int} {ps : List Pp} {xs : List Int} {a : Int} (h : withinB a 0 (n - 1) = false) : reachS n ps xs a = -1 := by rw [reachS, if_neg (by simp [reachB, h])]

end Go.Proofs.Ytabkhpeoeihmmaa
