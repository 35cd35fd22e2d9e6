/- Plain facts. -/
import Derived.Test.YtabkhpeoeihmmaaKC
import Derived.Laws.StructEq
/- What the laws of promises call: equality of nets. -/
namespace Go.Proofs.Ytabkhpeoeihmmaa
open Go.RowKit

theorem eqPipes_run (p q : Pp) (w : World) : (Op.equalIn 10000 80 (.agg #[.int .i64 p.fr, .int .i64 p.to, .int .i64 p.le, .int .i64 p.mo, .int .i64 p.co]) (.agg #[.int .i64 q.fr, .int .i64 q.to, .int .i64 q.le, .int .i64 q.mo, .int .i64 q.co])).run Try.prog w = .ok (eqPp p q) w := by
  have hS : Try.prog.underlying 80 = some (.struct (Try.prog.fieldsOf 80)) := by kernel_rfl
  have u3 := Try.underlying3
  have a3 := Try.isAgg3
  have z3 := Try.sizeOf3
  rw [show (10000 : Nat) = 9999 + 1 from rfl, run_equalIn_agg w 9999 80 _ _ hS (by kernel_rfl)]
  simp only [Program.fieldsOf, Try.underlying80]
  go_simp
  obtain ⟨a, b, c, d, e⟩ := p
  obtain ⟨a', b', c', d', e'⟩ := q
  simp only [eqPp]
  by_cases h1 : a = a' <;> by_cases h2 : b = b' <;> by_cases h3 : c = c' <;> by_cases h4 : d = d' <;> by_cases h5 : e = e' <;> simp [h1, h2, h3, h4, h5]

end Go.Proofs.Ytabkhpeoeihmmaa

/- What chapter 12's laws call: sameBasin. -/
namespace Go.Proofs.Ytabkhpeoeihmmaa
open Go.RowKit

theorem bel_cell7 {W wx : World} (h : RowKit.Below W.heap.size W wx) {b o : Nat} (hb : b < W.heap.size) : wx.cell? ⟨b, o, none⟩ = W.cell? ⟨b, o, none⟩ := h.cell (p := ⟨b, o, none⟩) hb

set_option maxHeartbeats 1000000 in
set_option maxRecDepth 20000 in
theorem sameBasin_any (u t u2 t2 : Value) (xs ys : List Int) (b1 b2 b3 b4 : Nat) (w : World) (h1 : Ints w b1 u xs) (h2 : Ints w b2 t ys) (h3 : Ints w b3 u2 xs) (h4 : Ints w b4 t2 ys) :
    Calls Try.prog 38 #[.agg #[u, t], .agg #[u2, t2]] w fun e w' => e = .returned (.bool true) ∧ Below w.heap.size w w' := by
  have h10 := h1
  have h20 := h2
  have h30 := h3
  have h40 := h4
  obtain ⟨A1, c1, rfl, -, -, -, -⟩ := h1.form
  obtain ⟨A2, c2, rfl, -, -, -, -⟩ := h2.form
  obtain ⟨A3, c3, rfl, -, -, -, -⟩ := h3.form
  obtain ⟨A4, c4, rfl, -, -, -, -⟩ := h4.form
  clear h1 h2 h3 h4
  have hd : ∀ (q : Decidable (xs = xs)), @decide (xs = xs) q = true := fun _ => decide_eq_true rfl
  have hd2 : ∀ (q : Decidable (ys = ys)), @decide (ys = ys) q = true := fun _ => decide_eq_true rfl
  generalize hm1 : xs.length = m1 at *
  generalize hm2 : ys.length = m2 at *
  clear hm1 hm2
  obtain ⟨w0, hw0⟩ : ∃ W, W = (w.alloc (.cells #[.slice A1 m1 c1, .slice A2 m2 c2] 35)).alloc (.cells #[.slice A3 m1 c3, .slice A4 m2 c4] 35) := ⟨_, rfl⟩
  have hB0 : Below w.heap.size w w0 := by rw [hw0]; (repeat (first | (with_reducible assumption) | (with_reducible exact Below.refl _ _) | ((with_reducible refine Below.alloc ?_ ?hsz _); (case hsz => (first | omega | (simp; done) | (simp; omega) | (simp at *; omega)))) | ((with_reducible refine Below.setCell ?_ ?hsz _); (case hsz => (first | omega | (simp; done) | (simp; omega) | (simp at *; omega)))) | (with_reducible refine Below.drew ?_) | (with_reducible refine below_drewN ?_ _) | ((with_reducible refine Below.trans ?_ (Below.mono (by with_reducible assumption) ?hsz)); (case hsz => (first | omega | (simp; done) | (simp; omega) | (simp at *; omega))))))
  have hz0 : w.heap.size + 2 ≤ w0.heap.size := by rw [hw0]; simp
  have s0 : w.heap.size < w0.heap.size := by omega
  have s1 : w.heap.size + 1 < w0.heap.size := by omega
  have d1 : w0.cell? ⟨w.heap.size, 1, none⟩ = some (.slice A2 m2 c2) := by rw [hw0]; go_simp
  have d3 : w0.cell? ⟨w.heap.size + 1, 1, none⟩ = some (.slice A4 m2 c4) := by rw [hw0]; go_simp
  go_enter Try.func38, Try.ntmps38
  go_wp2_with fail
  rw [← hw0]
  clear hw0
  refine (sameInts_any _ _ xs xs b1 b3 _ (h10.keep hB0) (h30.keep hB0)).mono ?_
  rintro e w1 ⟨rfl, hb1⟩
  (try rw [hd])
  have hB1 := hB0.trans (hb1.mono (by omega))
  have e1 := (bel_cell7 hb1 s0).trans d1
  have e3 := (bel_cell7 hb1 s1).trans d3
  clear d1 d3 hd
  go_wp2_with fail
  refine (sameInts_any _ _ ys ys b2 b4 _ (h20.keep hB1) (h40.keep hB1)).mono ?_
  rintro e w2 ⟨rfl, hb2⟩
  (try rw [hd2])
  have hz1 := hB1.size
  go_wp2
  go_ret
  exact ⟨rfl, hB1.trans (hb2.mono hz1)⟩

end Go.Proofs.Ytabkhpeoeihmmaa
