/- Contracts of what the exact laws of chapter 12 call: eqBasin, markBasin, heldBasin. -/
import Derived.Test.YtabkhpeoeihmmaaE3
import Derived.Test.YtabkhpeoeihmmaaE4
import Derived.Test.YtabkhpeoeihmmaaE2
import Derived.Test.YtabkhpeoeihmmaaCF
import Derived.Deep.AppendLies
namespace Go.Proofs.Ytabkhpeoeihmmaa
open Go.RowKit

theorem bnew_bd (n : Int) (ps : List Pp) (a b : Int) : (bnewX n ps a b).length ≤ 7 ∧ (bnewH n ps a b).length ≤ 7 := by
  by_cases h : greatB n ps a b = true
  · obtain ⟨hn, n2, n5, -⟩ := net_of_great h
    have := (netOk_parts hn).2.2.1
    obtain ⟨e1, e2⟩ := bnew_yes h
    rw [e1, e2, newX_len, newH_len]
    omega
  · obtain ⟨e1, e2⟩ := bnew_no (by simpa using h)
    rw [e1, e2]; simp
theorem bel_cellB {W wx : World} (h : RowKit.Below W.heap.size W wx) {b o : Nat} (hb : b < W.heap.size) : wx.cell? ⟨b, o, none⟩ = W.cell? ⟨b, o, none⟩ := h.cell (p := ⟨b, o, none⟩) hb
theorem ap_of {u t : Value} (hap : ∀ x y, u.ownBlock = some x → t.ownBlock = some y → x ≠ y) : t.ownBlock = none ∨ t.ownBlock ≠ u.ownBlock := by
  cases ht : t.ownBlock with
  | none => exact .inl rfl
  | some y =>
    right
    intro e
    exact hap y y e.symm ht rfl

set_option maxHeartbeats 1000000 in
set_option maxRecDepth 20000 in
theorem eqBasin_any (u t u2 t2 : Value) (xs ys : List Int) (b1 b2 b3 b4 : Nat) (w : World) (h1 : Ints w b1 u xs) (h2 : Ints w b2 t ys) (h3 : Ints w b3 u2 xs) (h4 : Ints w b4 t2 ys) :
    Calls Try.prog 22 #[.agg #[u, t], .agg #[u2, t2]] w fun e w' => e = .returned (.bool true) ∧ Below w.heap.size w w' := by
  have h10 := h1
  have h20 := h2
  have h30 := h3
  have h40 := h4
  obtain ⟨A1, c1, rfl, -, -, -, -⟩ := h1.form
  obtain ⟨A2, c2, rfl, -, -, -, -⟩ := h2.form
  obtain ⟨A3, c3, rfl, -, -, -, -⟩ := h3.form
  obtain ⟨A4, c4, rfl, -, -, -, -⟩ := h4.form
  clear h1 h2 h3 h4
  have hd : ∀ (q : Decidable (xs = xs)), @decide (xs = xs) q = true := fun _ => decide_eq_true rfl
  have hd2 : ∀ (q : Decidable (ys = ys)), @decide (ys = ys) q = true := fun _ => decide_eq_true rfl
  generalize hm1 : xs.length = m1 at *
  generalize hm2 : ys.length = m2 at *
  clear hm1 hm2
  obtain ⟨w0, hw0⟩ : ∃ W, W = (w.alloc (.cells #[.slice A1 m1 c1, .slice A2 m2 c2] 35)).alloc (.cells #[.slice A3 m1 c3, .slice A4 m2 c4] 35) := ⟨_, rfl⟩
  have hB0 : Below w.heap.size w w0 := by rw [hw0]; (repeat (first | (with_reducible assumption) | (with_reducible exact Below.refl _ _) | ((with_reducible refine Below.alloc ?_ ?hsz _); (case hsz => (first | omega | (simp; done) | (simp; omega) | (simp at *; omega)))) | ((with_reducible refine Below.setCell ?_ ?hsz _); (case hsz => (first | omega | (simp; done) | (simp; omega) | (simp at *; omega)))) | (with_reducible refine Below.drew ?_) | (with_reducible refine below_drewN ?_ _) | ((with_reducible refine Below.trans ?_ (Below.mono (by with_reducible assumption) ?hsz)); (case hsz => (first | omega | (simp; done) | (simp; omega) | (simp at *; omega))))))
  have hz0 : w.heap.size + 2 ≤ w0.heap.size := by rw [hw0]; simp
  have s0 : w.heap.size < w0.heap.size := by omega
  have s1 : w.heap.size + 1 < w0.heap.size := by omega
  have d1 : w0.cell? ⟨w.heap.size, 1, none⟩ = some (.slice A2 m2 c2) := by rw [hw0]; go_simp
  have d3 : w0.cell? ⟨w.heap.size + 1, 1, none⟩ = some (.slice A4 m2 c4) := by rw [hw0]; go_simp
  go_enter Try.func22, Try.ntmps22
  go_wp2_with fail
  rw [← hw0]
  clear hw0
  refine (eqIntS_any _ _ xs xs b1 b3 _ (h10.keep hB0) (h30.keep hB0)).mono ?_
  rintro e w1 ⟨rfl, hb1⟩
  (try rw [hd])
  have hB1 := hB0.trans (hb1.mono (by omega))
  have e1 := (bel_cellB hb1 s0).trans d1
  have e3 := (bel_cellB hb1 s1).trans d3
  clear d1 d3 hd
  go_wp2_with fail
  refine (eqIntS_any _ _ ys ys b2 b4 _ (h20.keep hB1) (h40.keep hB1)).mono ?_
  rintro e w2 ⟨rfl, hb2⟩
  (try rw [hd2])
  have hz1 := hB1.size
  go_wp2
  go_ret
  exact ⟨rfl, hB1.trans (hb2.mono hz1)⟩

set_option maxHeartbeats 1000000 in
set_option maxRecDepth 20000 in
theorem markBasin_any (u t : Value) (xs ys : List Int) (m : Int) (b b2 : Nat) (w : World) (hx : Ints w b u xs) (hy : Ints w b2 t ys) (hap : ∀ x y, u.ownBlock = some x → t.ownBlock = some y → x ≠ y) (h0 : 0 ≤ m) (h1 : m + xs.length ≤ 1000000000) :
    Calls Try.prog 26 #[.agg #[u, t], .int .i64 m] w fun e w' => e = .returned (.int .i64 (m + xs.length + ys.length)) ∧ ∃ wm, w.grownBy wm u.ownBlock ∧ wm.grownBy w' t.ownBlock ∧ Ints wm b u (upFrom m xs.length) ∧ Ints wm b2 t ys ∧ Ints w' b u (upFrom m xs.length) ∧ Ints w' b2 t (upFrom (m + xs.length) ys.length) := by
  have hx0 := hx
  have hy0 := hy
  have hap1 := ap_of hap
  have hap2 := ap_of (fun y x hy hx => (hap x y hx hy).symm)
  obtain ⟨A1, c1, rfl, -, -, -, -⟩ := hx.form
  obtain ⟨A2, c2, rfl, -, -, -, -⟩ := hy.form
  obtain ⟨w0, hw0⟩ : ∃ W, W = w.alloc (.cells #[.slice A1 xs.length c1, .slice A2 ys.length c2] 35) := ⟨_, rfl⟩
  have hB0 : Below w.heap.size w w0 := by rw [hw0]; (repeat (first | (with_reducible assumption) | (with_reducible exact Below.refl _ _) | ((with_reducible refine Below.alloc ?_ ?hsz _); (case hsz => (first | omega | (simp; done) | (simp; omega) | (simp at *; omega)))) | ((with_reducible refine Below.setCell ?_ ?hsz _); (case hsz => (first | omega | (simp; done) | (simp; omega) | (simp at *; omega)))) | (with_reducible refine Below.drew ?_) | (with_reducible refine below_drewN ?_ _) | ((with_reducible refine Below.trans ?_ (Below.mono (by with_reducible assumption) ?hsz)); (case hsz => (first | omega | (simp; done) | (simp; omega) | (simp at *; omega))))))
  have s0 : w.heap.size < w0.heap.size := by rw [hw0]; simp
  have d1 : w0.cell? ⟨w.heap.size, 1, none⟩ = some (.slice A2 ys.length c2) := by rw [hw0]; go_simp
  have hgr0 : ∀ r, w.grownBy w0 r := fun r => ⟨hB0.os, hB0.tape, hB0.output, hB0.size, fun i hi _ => hB0.block i hi⟩
  have hne : some w.heap.size ≠ (Value.slice A1 xs.length c1).ownBlock := fun e => by
    have := (hx.1.lt _ e.symm).2
    omega
  go_enter Try.func26, Try.ntmps26
  go_wp2_with fail
  rw [← hw0]
  clear hw0
  refine (markIntS_any _ xs m b _ (hx0.keep hB0) h0 (by omega)).mono ?_
  rintro e w1 ⟨rfl, hx1, hg1⟩
  have hy1 : Ints w1 b2 _ ys := ⟨(hy0.keep hB0).1.kept hg1 hap1, hy0.2⟩
  have e1 := (hg1.cell_far ⟨w.heap.size, 1, none⟩ s0 hne).trans d1
  clear d1
  go_wp2_with fail
  refine (markIntS_any _ ys (m + xs.length) b2 _ hy1 (by omega) (by omega)).mono ?_
  rintro e w2 ⟨rfl, hy2, hg2⟩
  have hx2 : Ints w2 b _ (upFrom m xs.length) := ⟨hx1.1.kept hg2 hap2, hx1.2⟩
  have HF := Lib.hid (And.intro hx1 (And.intro hy1 (And.intro hx2 hy2)))
  clear hx1 hy1 hx2 hy2
  go_wp2
  go_ret
  exact ⟨rfl, w1, (hgr0 _).trans hg1, hg2, HF.out.1, HF.out.2.1, HF.out.2.2.1, HF.out.2.2.2⟩

set_option maxHeartbeats 1000000 in
set_option maxRecDepth 20000 in
theorem heldBasin_any (u t : Value) (k l : Nat) (m : Int) (b b2 : Nat) (w : World) (hx : Ints w b u (upFrom m k)) (hy : Ints w b2 t (upFrom (m + k) l)) (h0 : 0 ≤ m) (h1 : m + k + l ≤ 1000000000) :
    Calls Try.prog 27 #[.agg #[u, t], .int .i64 m] w fun e w' => e = .returned (.int .i64 (m + k + l)) ∧ Below w.heap.size w w' := by
  have hx0 := hx
  have hy0 := hy
  obtain ⟨A1, c1, rfl, -, -, -, -⟩ := hx.form
  obtain ⟨A2, c2, rfl, -, -, -, -⟩ := hy.form
  have hlt1 : ¬ (m + (k : Int)) < 0 := by omega
  have hlt2 : ¬ (m + (k : Int) + (l : Int)) < 0 := by omega
  go_enter Try.func27, Try.ntmps27
  go_wp2_with fail
  refine (heldIntS_any _ k m b _ (hx0.keep (by (repeat (first | (with_reducible assumption) | (with_reducible exact Below.refl _ _) | ((with_reducible refine Below.alloc ?_ ?hsz _); (case hsz => (first | omega | (simp; done) | (simp; omega) | (simp at *; omega)))) | ((with_reducible refine Below.setCell ?_ ?hsz _); (case hsz => (first | omega | (simp; done) | (simp; omega) | (simp at *; omega)))) | (with_reducible refine Below.drew ?_) | (with_reducible refine below_drewN ?_ _) | ((with_reducible refine Below.trans ?_ (Below.mono (by with_reducible assumption) ?hsz)); (case hsz => (first | omega | (simp; done) | (simp; omega) | (simp at *; omega)))))))) h0 (by omega)).mono ?_
  rintro e w1 ⟨rfl, rfl⟩
  go_wp2_with fail
  refine (heldIntS_any _ l (m + k) b2 _ (hy0.keep (by (repeat (first | (with_reducible assumption) | (with_reducible exact Below.refl _ _) | ((with_reducible refine Below.alloc ?_ ?hsz _); (case hsz => (first | omega | (simp; done) | (simp; omega) | (simp at *; omega)))) | ((with_reducible refine Below.setCell ?_ ?hsz _); (case hsz => (first | omega | (simp; done) | (simp; omega) | (simp at *; omega)))) | (with_reducible refine Below.drew ?_) | (with_reducible refine below_drewN ?_ _) | ((with_reducible refine Below.trans ?_ (Below.mono (by with_reducible assumption) ?hsz)); (case hsz => (first | omega | (simp; done) | (simp; omega) | (simp at *; omega)))))))) (by omega) (by omega)).mono ?_
  rintro e w2 ⟨rfl, rfl⟩
  go_wp2
  go_ret
  exact ⟨rfl, by (repeat (first | (with_reducible assumption) | (with_reducible exact Below.refl _ _) | ((with_reducible refine Below.alloc ?_ ?hsz _); (case hsz => (first | omega | (simp; done) | (simp; omega) | (simp at *; omega)))) | ((with_reducible refine Below.setCell ?_ ?hsz _); (case hsz => (first | omega | (simp; done) | (simp; omega) | (simp at *; omega)))) | (with_reducible refine Below.drew ?_) | (with_reducible refine below_drewN ?_ _) | ((with_reducible refine Below.trans ?_ (Below.mono (by with_reducible assumption) ?hsz)); (case hsz => (first | omega | (simp; done) | (simp; omega) | (simp at *; omega))))))⟩

end Go.Proofs.Ytabkhpeoeihmmaa
