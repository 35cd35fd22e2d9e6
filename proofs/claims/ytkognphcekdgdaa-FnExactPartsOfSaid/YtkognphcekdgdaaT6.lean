/- Contracts of the functions of chapter 4 in the model: RingsOf. -/
import Derived.Test.YtkognphcekdgdaaT5
import Derived.Test.YtkognphcekdgdaaS3
namespace Go.Proofs.Ytkognphcekdgdaa
open Go.RowKit

def ringsR (n : Int) (ps : List Pp) (xs : List Int) : List (List Int) := if balB n ps xs = true then ringsL ps xs else []

theorem flow_getD {n : Int} {ps : List Pp} {xs : List Int} (h : flowOkB n ps xs = true) (i : Nat) : 0 ≤ xs.getD i 0 ∧ xs.getD i 0 ≤ 40 := by
  obtain ⟨-, -, hb⟩ := flowOk_parts h
  by_cases hi : i < xs.length
  · rw [getD_at hi]; exact hb _ (List.getElem_mem hi)
  · have : xs.getD i 0 = 0 := by simp [List.getD_eq_getElem?_getD, show xs.length ≤ i by omega]
    omega
theorem bal_flow {n : Int} {ps : List Pp} {xs : List Int} (h : balB n ps xs = true) : flowOkB n ps xs = true := by
  simp only [balB, Bool.and_eq_true] at h; exact h.1

set_option maxHeartbeats 1000000 in
set_option maxRecDepth 20000 in
theorem specRingsOf_any (n : Int) (v u : Value) (ps : List Pp) (xs : List Int) (b b' : Nat) (w : World) (hp : Pipes w b v ps) (hx : Ints w b' u xs) :
    Calls Try.prog 10 #[.agg #[.int .i64 n, v], u] w fun e w' => ∃ g cap : Nat, e = .returned (.slice (some ⟨g, 0, none⟩) (ringsR n ps xs).length cap) ∧ OwnRows w' w.heap.size g cap (ringsR n ps xs) ∧ Below w.heap.size w w' := by
  have hp0 := hp
  have hx0 := hx
  obtain ⟨A, c, rfl, -, -, -, -⟩ := hp.form
  obtain ⟨A0, c0, rfl, -, -, -, -⟩ := hx.form
  have bx0 := Box2.new w (.int .i64 n) (.slice A ps.length c) 31
  go_enter Try.func10, Try.ntmps10
  go_wp2_with fail
  refine (specBalancedOk_any n _ _ ps xs b b' _ (hp0.keep (by (repeat (first | (with_reducible assumption) | (with_reducible exact Below.refl _ _) | ((with_reducible refine Below.alloc ?_ ?hsz _); (case hsz => (first | omega | (simp; done) | (simp; omega) | (simp at *; omega)))) | ((with_reducible refine Below.setCell ?_ ?hsz _); (case hsz => (first | omega | (simp; done) | (simp; omega) | (simp at *; omega)))) | (with_reducible refine Below.drew ?_) | (with_reducible refine below_drewN ?_ _) | ((with_reducible refine Below.trans ?_ (Below.mono (by with_reducible assumption) ?hsz)); (case hsz => (first | omega | (simp; done) | (simp; omega) | (simp at *; omega)))))))) (hx0.keep (by (repeat (first | (with_reducible assumption) | (with_reducible exact Below.refl _ _) | ((with_reducible refine Below.alloc ?_ ?hsz _); (case hsz => (first | omega | (simp; done) | (simp; omega) | (simp at *; omega)))) | ((with_reducible refine Below.setCell ?_ ?hsz _); (case hsz => (first | omega | (simp; done) | (simp; omega) | (simp at *; omega)))) | (with_reducible refine Below.drew ?_) | (with_reducible refine below_drewN ?_ _) | ((with_reducible refine Below.trans ?_ (Below.mono (by with_reducible assumption) ?hsz)); (case hsz => (first | omega | (simp; done) | (simp; omega) | (simp at *; omega))))))))).mono ?_
  rintro e w1 ⟨rfl, hb1⟩
  have bx1 := bx0.keep hb1
  have hB1 : Below w.heap.size w w1 := by (repeat (first | (with_reducible assumption) | (with_reducible exact Below.refl _ _) | ((with_reducible refine Below.alloc ?_ ?hsz _); (case hsz => (first | omega | (simp; done) | (simp; omega) | (simp at *; omega)))) | ((with_reducible refine Below.setCell ?_ ?hsz _); (case hsz => (first | omega | (simp; done) | (simp; omega) | (simp at *; omega)))) | (with_reducible refine Below.drew ?_) | (with_reducible refine below_drewN ?_ _) | ((with_reducible refine Below.trans ?_ (Below.mono (by with_reducible assumption) ?hsz)); (case hsz => (first | omega | (simp; done) | (simp; omega) | (simp at *; omega))))))
  obtain ⟨bs, d0, d1, -, -⟩ := id bx1
  clear bx0 hb1
  by_cases hb : balB n ps xs = true
  · have hfl := bal_flow hb
    have Hr := Lib.hid (show ringsR n ps xs = ringsL ps xs by rw [ringsR, if_pos hb])
    rw [hb]
    go_wp2_with fail
    refine (l4Rings_any n _ _ ps xs b b' _ (hp0.keep hB1) (hx0.keep hB1) (flowOk_parts hfl).2.1 (flowOk_parts hfl).1 (flow_getD hfl)).mono ?_
    rintro e w2 ⟨g, cap, rfl, hO, hb2⟩
    obtain ⟨N, hN⟩ : ∃ N, (ringsL ps xs).length = N := ⟨_, rfl⟩
    have HN := Lib.hid hN
    rw [hN]
    clear hN
    go_wp2
    go_ret
    obtain ⟨vs, v1, v2, v3, v4⟩ := hO
    exact ⟨g, cap, by rw [Hr.out, HN.out]; rfl, by rw [Hr.out]; exact ⟨vs, v1, own_mono v2 (by have := hB1.size; omega), v3, fun k hk hk' => (v4 k hk hk').mono (by have := hB1.size; omega)⟩, by (repeat (first | (with_reducible assumption) | (with_reducible exact Below.refl _ _) | ((with_reducible refine Below.alloc ?_ ?hsz _); (case hsz => (first | omega | (simp; done) | (simp; omega) | (simp at *; omega)))) | ((with_reducible refine Below.setCell ?_ ?hsz _); (case hsz => (first | omega | (simp; done) | (simp; omega) | (simp at *; omega)))) | (with_reducible refine Below.drew ?_) | (with_reducible refine below_drewN ?_ _) | ((with_reducible refine Below.trans ?_ (Below.mono (by with_reducible assumption) ?hsz)); (case hsz => (first | omega | (simp; done) | (simp; omega) | (simp at *; omega))))))⟩
  · have hb' : balB n ps xs = false := by simpa using hb
    have Hr := Lib.hid (show ringsR n ps xs = [] by rw [ringsR, if_neg hb])
    have hlit := World.ownsRow_lit (e := 25) (base := w.heap.size) (size := 1) w1 #[] 0 (by have := hB1.size; omega) (by simp [maxLen]) rfl
    rw [hb']
    go_wp2
    go_ret
    exact ⟨w1.heap.size, 0, by rw [Hr.out]; rfl, by rw [Hr.out]; exact ⟨[], rfl, hlit, by simp [small], fun k hk => absurd hk (by simp)⟩, by (repeat (first | (with_reducible assumption) | (with_reducible exact Below.refl _ _) | ((with_reducible refine Below.alloc ?_ ?hsz _); (case hsz => (first | omega | (simp; done) | (simp; omega) | (simp at *; omega)))) | ((with_reducible refine Below.setCell ?_ ?hsz _); (case hsz => (first | omega | (simp; done) | (simp; omega) | (simp at *; omega)))) | (with_reducible refine Below.drew ?_) | (with_reducible refine below_drewN ?_ _) | ((with_reducible refine Below.trans ?_ (Below.mono (by with_reducible assumption) ?hsz)); (case hsz => (first | omega | (simp; done) | (simp; omega) | (simp at *; omega))))))⟩

end Go.Proofs.Ytkognphcekdgdaa
