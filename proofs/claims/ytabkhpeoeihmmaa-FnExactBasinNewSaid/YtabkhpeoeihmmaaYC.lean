/- Contracts of the functions of chapter 12 in the program: a hill, and how one is made. -/
import Derived.Test.YtabkhpeoeihmmaaF3
import Derived.Test.YtabkhpeoeihmmaaF4
import Derived.Test.YtabkhpeoeihmmaaRW
import Derived.Test.YtabkhpeoeihmmaaR
import Derived.Test.YtabkhpeoeihmmaaCF
namespace Go.Proofs.Ytabkhpeoeihmmaa
open Go.RowKit

/-- a variable of six cells: the flow, the heights, the net, the ends -/
def Hill (w : World) (g : Nat) (u t : Value) (n : Int) (v : Value) (i j : Int) : Prop :=
  (∃ cs, w.heap[g]? = some (.cells cs 83 (0, 0))) ∧ w.cell? ⟨g, 0, none⟩ = some u ∧ w.cell? ⟨g, 1, none⟩ = some t ∧ w.cell? ⟨g, 2, none⟩ = some (.int .i64 n) ∧ w.cell? ⟨g, 3, none⟩ = some v ∧ w.cell? ⟨g, 4, none⟩ = some (.int .i64 i) ∧ w.cell? ⟨g, 5, none⟩ = some (.int .i64 j)

section
variable {w w' : World} {g : Nat} {u t v : Value} {n i j : Int}
theorem Hill.lt (h : Hill w g u t n v i j) : g < w.heap.size := by obtain ⟨⟨cs, h⟩, -⟩ := h; exact heap_lt h
theorem Hill.keep (h : Hill w g u t n v i j) (hb : Below w.heap.size w w') : Hill w' g u t n v i j := by
  have hg := h.lt
  obtain ⟨⟨cs, h⟩, c0, c1, c2, c3, c4, c5⟩ := h
  exact ⟨⟨cs, heap_keep h hb⟩, (bel_cell hb hg).trans c0, (bel_cell hb hg).trans c1, (bel_cell hb hg).trans c2, (bel_cell hb hg).trans c3, (bel_cell hb hg).trans c4, (bel_cell hb hg).trans c5⟩
theorem Hill.new (w : World) (u t v : Value) (n i j : Int) : Hill (w.alloc (.cells #[u, t, .int .i64 n, v, .int .i64 i, .int .i64 j] 83)) w.heap.size u t n v i j := by
  refine ⟨⟨_, heap_alloc_new _ _⟩, ?_, ?_, ?_, ?_, ?_, ?_⟩ <;> simp
end

theorem ints_off12 {w : World} {b : Nat} {v : Value} {xs : List Int} {p : Addr} (h : Ints w b v xs) (hp : v.ownBlock ≠ some p.block) (u : Value) : Ints (w.setCell p u) b v xs := ⟨ownsRow_setCell_other h.1 hp _, h.2⟩
theorem ints_in {w : World} {b : Nat} {v : Value} {xs : List Int} (h : Ints w b v xs) : ∀ q, v.ownBlock = some q → b ≤ q ∧ q < w.heap.size := fun q hq => h.1.lt q hq

/-- what is known while a basin is copied: both rows, both together, its variable, whether it is stored -/
structure HSt (W : World) (xs hs : List Int) (a2 a5 a6 a7 a8 : Value) (w : World) : Prop where
  b : Below W.heap.size W w
  r2 : a2 = undef ∨ Ints w W.heap.size a2 xs
  r5 : a5 = undef ∨ Ints w W.heap.size a5 hs
  ap : ∀ x y, a2.ownBlock = some x → a5.ownBlock = some y → x ≠ y
  s6 : a6 = undef ∨ (a6 = .agg #[a2, a5] ∧ a2 ≠ undef ∧ a5 ≠ undef)
  s7 : a7 = undef ∨ ∃ q, a7 = .pointer (some ⟨q, 0, none⟩) ∧ W.heap.size ≤ q ∧ (a8 = undef → ∃ x y, w.heap[q]? = some (.cells #[x, y] 35 (0, 0)))
  s8 : a8 = .bool true → a2 ≠ undef ∧ a5 ≠ undef ∧ a6 ≠ undef ∧ ∃ q, a7 = .pointer (some ⟨q, 0, none⟩) ∧ w.heap[q]? = some (.cells #[a2, a5] 35 (0, 0))

section
variable {W w w' : World} {xs hs : List Int} {a2 a5 a6 a7 a8 : Value}
theorem HSt.start (h : Below W.heap.size W w) : HSt W xs hs undef undef undef undef undef w :=
  ⟨h, .inl rfl, .inl rfl, fun x _ hx => (by cases (show (none : Option Nat) = some x from hx)), .inl rfl, .inl rfl, fun e => (by cases e)⟩
theorem HSt.keep (h : HSt W xs hs a2 a5 a6 a7 a8 w) (hb : Below w.heap.size w w') : HSt W xs hs a2 a5 a6 a7 a8 w' :=
  ⟨h.b.trans (hb.mono h.b.size), h.r2.imp id (·.keep hb), h.r5.imp id (·.keep hb), h.ap, h.s6, by
    rcases h.s7 with q | ⟨q, h1, h2, h3⟩
    · exact .inl q
    · refine .inr ⟨q, h1, h2, fun e => ?_⟩
      obtain ⟨x, y, hh⟩ := h3 e
      exact ⟨x, y, heap_keep hh hb⟩, fun e => by
    obtain ⟨h1, h2, h3, q, h4, h5⟩ := h.s8 e
    exact ⟨h1, h2, h3, q, h4, heap_keep h5 hb⟩⟩
theorem HSt.new2 (h : HSt W xs hs undef a5 a6 a7 a8 w) (hb : Below w.heap.size w w') {r : Value} (hr : Ints w' w.heap.size r xs) : HSt W xs hs r a5 a6 a7 a8 w' := by
  have k := h.keep hb
  refine ⟨k.b, .inr (hr.mono h.b.size), k.r5, fun x y hx hy => ?_, ?_, k.s7, fun e => absurd rfl (k.s8 e).1⟩
  · have h1 := (ints_in hr x hx).1
    rcases h.r5 with q | q
    · subst q; cases (show (none : Option Nat) = some y from hy)
    · have := (ints_in q y hy).2
      omega
  · rcases h.s6 with q | ⟨-, q, -⟩
    · exact .inl q
    · exact absurd rfl q
theorem HSt.new5 (h : HSt W xs hs a2 undef a6 a7 a8 w) (hb : Below w.heap.size w w') {r : Value} (hr : Ints w' w.heap.size r hs) : HSt W xs hs a2 r a6 a7 a8 w' := by
  have k := h.keep hb
  refine ⟨k.b, k.r2, .inr (hr.mono h.b.size), fun x y hx hy => ?_, ?_, k.s7, fun e => absurd rfl (k.s8 e).2.1⟩
  · have h1 := (ints_in hr y hy).1
    rcases h.r2 with q | q
    · subst q; cases (show (none : Option Nat) = some x from hx)
    · have := (ints_in q x hx).2
      omega
  · rcases h.s6 with q | ⟨-, -, q⟩
    · exact .inl q
    · exact absurd rfl q
theorem HSt.new6 (h : HSt W xs hs a2 a5 undef a7 a8 w) (h2 : a2 ≠ undef) (h5 : a5 ≠ undef) : HSt W xs hs a2 a5 (.agg #[a2, a5]) a7 a8 w :=
  ⟨h.b, h.r2, h.r5, h.ap, .inr ⟨rfl, h2, h5⟩, h.s7, fun e => absurd rfl (h.s8 e).2.2.1⟩
theorem HSt.new7 (h : HSt W xs hs a2 a5 a6 undef a8 w) (x y : Value) : HSt W xs hs a2 a5 a6 (.pointer (some ⟨w.heap.size, 0, none⟩)) a8 (w.alloc (.cells #[x, y] 35)) := by
  have k := h.keep ((Below.refl w.heap.size w).alloc (Nat.le_refl _) (.cells #[x, y] 35))
  refine ⟨k.b, k.r2, k.r5, k.ap, k.s6, .inr ⟨_, rfl, h.b.size, fun _ => ⟨x, y, heap_alloc_new _ _⟩⟩, fun e => ?_⟩
  obtain ⟨-, -, -, q, h4, -⟩ := h.s8 e
  cases h4
theorem HSt.new8 {q : Nat} (h : HSt W xs hs a2 a5 a6 a7 undef w) (e7 : a7 = .pointer (some ⟨q, 0, none⟩)) (h6 : a6 ≠ undef) : HSt W xs hs a2 a5 a6 a7 (.bool true) ((w.setCell ⟨q, 0, none⟩ a2).setCell ⟨q, 1, none⟩ a5) := by
  obtain ⟨hq, x, y, hh⟩ : W.heap.size ≤ q ∧ ∃ x y, w.heap[q]? = some (.cells #[x, y] 35 (0, 0)) := by
    rcases h.s7 with k | ⟨q', k1, k2, k3⟩
    · rw [k] at e7; cases e7
    · rw [k1] at e7; injection e7 with e7; injection e7 with e7; injection e7 with e7; subst e7; exact ⟨k2, k3 rfl⟩
  obtain ⟨-, n2, n5⟩ : a6 = .agg #[a2, a5] ∧ a2 ≠ undef ∧ a5 ≠ undef := by
    rcases h.s6 with k | k
    · exact absurd k h6
    · exact k
  have far : ∀ {r : Value} {zs : List Int}, Ints w W.heap.size r zs → Ints ((w.setCell ⟨q, 0, none⟩ a2).setCell ⟨q, 1, none⟩ a5) W.heap.size r zs := fun {r zs} hr => by
    have hne := own_ne hr.1 hh (by decide)
    exact ints_off12 (ints_off12 hr (fun e => hne q e rfl) _) (fun e => hne q e rfl) _
  refine ⟨(h.b.setCell (p := ⟨q, 0, none⟩) hq _).setCell (p := ⟨q, 1, none⟩) hq _, h.r2.imp id far, h.r5.imp id far, h.ap, h.s6, .inr ⟨q, e7, hq, fun e => by cases e⟩, fun _ => ⟨n2, n5, h6, q, e7, heap_set (j := 1) a5 (heap_set (j := 0) a2 hh)⟩⟩
end

/-- what the operations yield -/
def hoV (g : Nat) (U T : Value) : Nat → Value → Prop
  | 0, x => x = .pointer (some ⟨g, 0, none⟩)
  | 1, x => x = U
  | 2, x => ∃ A n c, x = .slice A n c
  | 3, x => x = .pointer (some ⟨g, 1, none⟩)
  | 4, x => x = T
  | 5, x => ∃ A n c, x = .slice A n c
  | 6, x => ∃ A n c B m d, x = .agg #[.slice A n c, .slice B m d]
  | 7, x => ∃ q, x = .pointer (some ⟨q, 0, none⟩)
  | 8, x => x = .bool true
  | _, _ => True

set_option maxHeartbeats 4000000 in
set_option maxRecDepth 20000 in
theorem hillOf_any (n i j : Int) (v u t : Value) (ps : List Pp) (xs hs : List Int) (b b1 b2 : Nat) (w : World) (hp : Pipes w b v ps) (hx : Ints w b1 u xs) (ht : Ints w b2 t hs) (lx : xs.length ≤ 1048576) (lh : hs.length ≤ 1048576) :
    Calls Try.prog 61 #[.agg #[.int .i64 n, v], .int .i64 i, .int .i64 j, .agg #[u, t]] w fun e w' => ∃ g r1 r2, e = .returned (.pointer (some ⟨g, 0, none⟩)) ∧ w.heap.size ≤ g ∧ Hill w' g r1 r2 n v i j ∧ Ints w' w.heap.size r1 xs ∧ Ints w' w.heap.size r2 hs ∧ (∀ x y, r1.ownBlock = some x → r2.ownBlock = some y → x ≠ y) ∧ Below w.heap.size w w' := by
  have hx0 := hx
  have ht0 := ht
  obtain ⟨A, c, rfl, -, -, -, -⟩ := hp.form
  obtain ⟨A1, c1, rfl, -, -, -, -⟩ := hx.form
  obtain ⟨A2, c2, rfl, -, -, -, -⟩ := ht.form
  obtain ⟨w1, hw1⟩ : ∃ W, W = (w.alloc (.cells #[.int .i64 n, .slice A ps.length c] 33)).alloc (.cells #[.slice A1 xs.length c1, .slice A2 hs.length c2] 35) := ⟨_, rfl⟩
  have hb1 : Below w.heap.size w w1 := by rw [hw1]; (repeat (first | (with_reducible assumption) | (with_reducible exact Below.refl _ _) | ((with_reducible refine Below.alloc ?_ ?hsz _); (case hsz => (first | omega | (simp; done) | (simp; omega) | (simp at *; omega)))) | ((with_reducible refine Below.setCell ?_ ?hsz _); (case hsz => (first | omega | (simp; done) | (simp; omega) | (simp at *; omega)))) | (with_reducible refine Below.drew ?_) | (with_reducible refine below_drewN ?_ _) | ((with_reducible refine Below.trans ?_ (Below.mono (by with_reducible assumption) ?hsz)); (case hsz => (first | omega | (simp; done) | (simp; omega) | (simp at *; omega))))))
  have hz1 : w.heap.size + 2 ≤ w1.heap.size := by rw [hw1]; simp
  have bs0 : w.heap.size < w1.heap.size := by omega
  have bs : w.heap.size + 1 < w1.heap.size := by omega
  have q0 : w1.cell? ⟨w.heap.size, 0, none⟩ = some (.int .i64 n) := by rw [hw1]; go_simp
  have q1 : w1.cell? ⟨w.heap.size, 1, none⟩ = some (.slice A ps.length c) := by rw [hw1]; go_simp
  have d0 : w1.cell? ⟨w.heap.size + 1, 0, none⟩ = some (.slice A1 xs.length c1) := by rw [hw1]; go_simp
  have d1 : w1.cell? ⟨w.heap.size + 1, 1, none⟩ = some (.slice A2 hs.length c2) := by rw [hw1]; go_simp
  go_enter Try.func61, Try.ntmps61
  go_wp2_with fail
  rw [← hw1]
  clear hw1
  refine wp_region_flowG 9 none [(0, 10), (1, 11), (2, 12), (3, 13), (4, 14), (5, 15), (6, 16), (7, 9)] (fun j x _ _ => hoV (w.heap.size + 1) (.slice A1 xs.length c1) (.slice A2 hs.length c2) j x) (fun _ _ _ => True) (fun _ a wx => HSt w1 xs hs (a 2) (a 5) (a 6) (a 7) (a 8) wx) (by kernel_rfl) (by kernel_rfl) rfl
    (HSt.start ⟨rfl, rfl, rfl, Nat.le_refl _, fun _ _ => rfl⟩) ?_ ?_ ?_ ?_
  · exact fun _ _ _ _ _ _ _ _ _ _ h => h
  · exact fun _ _ _ _ _ _ _ h => h
  · simp only [eachOp, fillF, List.setIfInBounds_toArray, List.set_cons_succ, List.set_cons_zero]
    refine ⟨?_, ?_, ?_, ?_, ?_, ?_, ?_, ?_, ?_, trivial⟩ <;> intro u uu f wx hC hun hl hd <;> (try simp [allV, useOf, Region.binds] at hd) <;> intro _
    · go_wp2
      exact ⟨_, rfl, rfl, trivial, hC⟩
    · rw [show u 0 = _ from hd]
      have e0 := (bel_cell hC.b bs).trans d0
      go_wp2
      exact ⟨_, rfl, rfl, trivial, hC⟩
    · rw [show u 1 = _ from hd]
      have hBx := hb1.trans (hC.b.mono (by omega))
      go_wp2_with fail
      refine (cloneInts_any _ xs b1 wx (hx0.keep hBx) lx).mono ?_
      rintro e w4 ⟨r, rfl, hr, hb4⟩
      have hC' : HSt w1 xs hs r (uu 5) (uu 6) (uu 7) (uu 8) w4 := by
        have hC2 := hC
        rw [hun] at hC2
        exact hC2.new2 hb4 hr
      obtain ⟨A4, c4, rfl, -, -, -, -⟩ := hr.form
      clear hr
      go_wp2
      exact ⟨_, rfl, ⟨_, _, _, rfl⟩, trivial, hC'⟩
    · go_wp2
      exact ⟨_, rfl, rfl, trivial, hC⟩
    · rw [show u 3 = _ from hd]
      have e0 := (bel_cell hC.b bs).trans d1
      go_wp2
      exact ⟨_, rfl, rfl, trivial, hC⟩
    · rw [show u 4 = _ from hd]
      have hBx := hb1.trans (hC.b.mono (by omega))
      go_wp2_with fail
      refine (cloneInts_any _ hs b2 wx (ht0.keep hBx) lh).mono ?_
      rintro e w4 ⟨r, rfl, hr, hb4⟩
      have hC' : HSt w1 xs hs (uu 2) r (uu 6) (uu 7) (uu 8) w4 := by
        have hC2 := hC
        rw [hun] at hC2
        exact hC2.new5 hb4 hr
      obtain ⟨A4, c4, rfl, -, -, -, -⟩ := hr.form
      clear hr
      go_wp2
      exact ⟨_, rfl, ⟨_, _, _, rfl⟩, trivial, hC'⟩
    · obtain ⟨⟨x1, x2, x3, hd1⟩, y1, y2, y3, hd2⟩ := hd
      have hl2 := hl 2 (by decide)
      have hl5 := hl 5 (by decide)
      have hC' : HSt w1 xs hs (uu 2) (uu 5) (.agg #[uu 2, uu 5]) (uu 7) (uu 8) wx := by
        have hC2 := hC
        rw [hun] at hC2
        exact hC2.new6 (by rw [← hl2, hd1]; exact fun e => by cases e) (by rw [← hl5, hd2]; exact fun e => by cases e)
      rw [← hl2, ← hl5, show Value.agg #[u 2, u 5] = .agg #[.slice x1 x2 x3, .slice y1 y2 y3] by rw [hd1, hd2]] at hC'
      go_wp2
      refine ⟨_, rfl, ⟨_, _, _, _, _, _, rfl⟩, trivial, ?_⟩
      simp only [← hl2, ← hl5]
      exact hC'
    · have hC' := (show HSt w1 xs hs (uu 2) (uu 5) (uu 6) undef (uu 8) wx by have hC2 := hC; rw [hun] at hC2; exact hC2).new7 (.slice none 0 0) (.slice none 0 0)
      go_wp2
      exact ⟨_, rfl, ⟨_, rfl⟩, trivial, hC'⟩
    · obtain ⟨⟨q, hd2⟩, x1, x2, x3, y1, y2, y3, hd1⟩ := hd
      have hl6 := hl 6 (by decide)
      have hl7 := hl 7 (by decide)
      have e7 : uu 7 = .pointer (some ⟨q, 0, none⟩) := by rw [← hl7, hd2]
      have e6 : uu 6 = .agg #[.slice x1 x2 x3, .slice y1 y2 y3] := by rw [← hl6, hd1]
      have n6 : uu 6 ≠ undef := by rw [e6]; exact fun e => by cases e
      have hC2 : HSt w1 xs hs (uu 2) (uu 5) (uu 6) (uu 7) undef wx := by have hC2 := hC; rw [hun] at hC2; exact hC2
      obtain ⟨ey, ez⟩ : uu 2 = .slice x1 x2 x3 ∧ uu 5 = .slice y1 y2 y3 := by
        rcases hC.s6 with k | ⟨k, -, -⟩
        · exact absurd k n6
        · rw [e6] at k
          simp only [Value.agg.injEq, Array.mk.injEq, List.cons.injEq, and_true] at k
          exact ⟨k.1.symm, k.2.symm⟩
      have hC' : HSt w1 xs hs (uu 2) (uu 5) (uu 6) (uu 7) (.bool true) ((wx.setCell ⟨q, 0, none⟩ (.slice x1 x2 x3)).setCell ⟨q, 1, none⟩ (.slice y1 y2 y3)) := by
        have := hC2.new8 e7 n6
        rw [ey, ez] at this ⊢
        exact this
      obtain ⟨x0, y0, hh⟩ : ∃ x y, wx.heap[q]? = some (.cells #[x, y] 35 (0, 0)) := by
        rcases hC2.s7 with k | ⟨q', k1, k2, k3⟩
        · rw [k] at e7; cases e7
        · rw [k1] at e7; injection e7 with e7; injection e7 with e7; injection e7 with e7; subst e7; exact k3 rfl
      have j0 := heap_cell (j := 0) hh rfl
      have j1 := heap_cell (j := 1) hh rfl
      have f0 := heap_frozen (j := 0) hh
      have f1 := heap_frozen (j := 1) hh
      rw [show u 6 = _ from hd1, show u 7 = _ from hd2]
      have HC' := Lib.hid hC'
      clear hC hC2 hC' e6 e7 n6 ey ez hl6 hl7 hl hd1 hd2 hun hh
      go_wp2
      exact ⟨.bool true, rfl, rfl, trivial, HC'.out⟩
  · intro uu f wx hC hfin
    obtain ⟨n2, n5, n6, q, e7, hhq⟩ := hC.s8 (hfin 8 (by decide) (by decide))
    have k0 := heap_cell (j := 0) hhq rfl
    have k1 := heap_cell (j := 1) hhq rfl
    have hr2 : Ints wx w1.heap.size (uu 2) xs := by
      rcases hC.r2 with k | k
      · exact absurd k n2
      · exact k
    have hr5 : Ints wx w1.heap.size (uu 5) hs := by
      rcases hC.r5 with k | k
      · exact absurd k n5
      · exact k
    have hap := hC.ap
    have hB := hb1.trans (hC.b.mono (by omega))
    have hq0 := (bel_cell hC.b bs0).trans q0
    have hq1 := (bel_cell hC.b bs0).trans q1
    have hzx := hC.b.size
    simp only [fillEnd, fillF, Act.put, List.setIfInBounds_toArray, List.set_cons_succ, List.set_cons_zero]
    rw [e7]
    generalize uu 2 = r2 at *
    generalize uu 5 = r5 at *
    obtain ⟨A4, c4, rfl, -, -, -, -⟩ := hr2.form
    obtain ⟨A5, c5, rfl, -, -, -, -⟩ := hr5.form
    clear hfin hC n2 n5 n6 e7 hhq
    have HF := Lib.hid (And.intro hr2 (And.intro hr5 hap))
    clear hr2 hr5 hap
    go_wp2
    go_ret
    refine ⟨_, _, _, rfl, ?_, Hill.new _ _ _ _ _ _ _, (HF.out.1.keep (by (repeat (first | (with_reducible assumption) | (with_reducible exact Below.refl _ _) | ((with_reducible refine Below.alloc ?_ ?hsz _); (case hsz => (first | omega | (simp; done) | (simp; omega) | (simp at *; omega)))) | ((with_reducible refine Below.setCell ?_ ?hsz _); (case hsz => (first | omega | (simp; done) | (simp; omega) | (simp at *; omega)))) | (with_reducible refine Below.drew ?_) | (with_reducible refine below_drewN ?_ _) | ((with_reducible refine Below.trans ?_ (Below.mono (by with_reducible assumption) ?hsz)); (case hsz => (first | omega | (simp; done) | (simp; omega) | (simp at *; omega)))))))).mono (by omega), (HF.out.2.1.keep (by (repeat (first | (with_reducible assumption) | (with_reducible exact Below.refl _ _) | ((with_reducible refine Below.alloc ?_ ?hsz _); (case hsz => (first | omega | (simp; done) | (simp; omega) | (simp at *; omega)))) | ((with_reducible refine Below.setCell ?_ ?hsz _); (case hsz => (first | omega | (simp; done) | (simp; omega) | (simp at *; omega)))) | (with_reducible refine Below.drew ?_) | (with_reducible refine below_drewN ?_ _) | ((with_reducible refine Below.trans ?_ (Below.mono (by with_reducible assumption) ?hsz)); (case hsz => (first | omega | (simp; done) | (simp; omega) | (simp at *; omega)))))))).mono (by omega), HF.out.2.2, by (repeat (first | (with_reducible assumption) | (with_reducible exact Below.refl _ _) | ((with_reducible refine Below.alloc ?_ ?hsz _); (case hsz => (first | omega | (simp; done) | (simp; omega) | (simp at *; omega)))) | ((with_reducible refine Below.setCell ?_ ?hsz _); (case hsz => (first | omega | (simp; done) | (simp; omega) | (simp at *; omega)))) | (with_reducible refine Below.drew ?_) | (with_reducible refine below_drewN ?_ _) | ((with_reducible refine Below.trans ?_ (Below.mono (by with_reducible assumption) ?hsz)); (case hsz => (first | omega | (simp; done) | (simp; omega) | (simp at *; omega))))))⟩
    have := hB.size
    omega

end Go.Proofs.Ytabkhpeoeihmmaa
