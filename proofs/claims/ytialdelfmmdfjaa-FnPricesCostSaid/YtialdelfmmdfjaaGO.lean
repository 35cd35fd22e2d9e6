/- Plain facts. -/
import Derived.Test.YtialdelfmmdfjaaDI
import Derived.Test.YtialdelfmmdfjaaGI
import Derived.Test.YtialdelfmmdfjaaGM
import Derived.Test.YtialdelfmmdfjaaGN
import Derived.Test.YtialdelfmmdfjaaGA
/- Contracts of the draws of chapter 6 that go on from a flow that pipes may hold: DrawPricesFor. -/
namespace Go.Proofs.Ytialdelfmmdfjaa
open Go.RowKit

set_option maxHeartbeats 2000000 in
set_option maxRecDepth 20000 in
theorem drawPricesFor_any (v : Value) (n : Nat) (w : World) (h : ArgBytes w v n) : Calls Try.prog 29 #[v] w (DrawnFlow w) := by
  have bx0 := Box2.new w (.int .i64 0) (.slice none 0 0) 25
  go_enter Try.func29, Try.ntmps29
  go_wp2_with fail
  refine (l20Open_any v n _ (h.keep (by (repeat (first | (with_reducible assumption) | (with_reducible exact Below.refl _ _) | ((with_reducible refine Below.alloc ?_ ?hsz _); (case hsz => (first | omega | (simp; done) | (simp; omega) | (simp at *; omega)))) | ((with_reducible refine Below.setCell ?_ ?hsz _); (case hsz => (first | omega | (simp; done) | (simp; omega) | (simp at *; omega)))) | (with_reducible refine Below.drew ?_) | (with_reducible refine below_drewN ?_ _) | ((with_reducible refine Below.trans ?_ (Below.mono (by with_reducible assumption) ?hsz)); (case hsz => (first | omega | (simp; done) | (simp; omega) | (simp at *; omega))))))))).mono ?_
  rintro e w1 ⟨A, m, c, rfl, hr1, hb1, hz1⟩
  have bx1 := bx0.keep (hb1.mono (by simp))
  rw [World.size_alloc] at hr1 hz1
  have hgo : Below w.heap.size w w1 := by (repeat (first | (with_reducible assumption) | (with_reducible exact Below.refl _ _) | ((with_reducible refine Below.alloc ?_ ?hsz _); (case hsz => (first | omega | (simp; done) | (simp; omega) | (simp at *; omega)))) | ((with_reducible refine Below.setCell ?_ ?hsz _); (case hsz => (first | omega | (simp; done) | (simp; omega) | (simp at *; omega)))) | (with_reducible refine Below.drew ?_) | (with_reducible refine below_drewN ?_ _) | ((with_reducible refine Below.trans ?_ (Below.mono (by with_reducible assumption) ?hsz)); (case hsz => (first | omega | (simp; done) | (simp; omega) | (simp at *; omega))))))
  go_wp2_with fail
  with_reducible refine (l20Held_any (w.heap.size + 1) m c 0 A _ hr1 (by omega)).mono ?_
  rintro e w2 ⟨z, ps, u, xs, t, rfl, hp2, hx2, hr2, hg2, hl8, hzl, hzh⟩
  have bx2 := bx1.grown hg2 (by simp)
  have hs2 := hg2.size
  have hb2 : Below w.heap.size w w2 := hgo.trans (below_grow hg2 (by omega) (fun q hq => by injection hq with hq; omega))
  obtain ⟨PA, pc, rfl, hc1, hc2, hsm, -⟩ := hp2.form
  obtain ⟨XA, xc, rfl, hc1', hc2', hsm', -⟩ := hx2.form
  unfold maxLen at hc2 hc2'
  obtain ⟨bs, b0, b1, b2, b3⟩ := id bx2
  have nb0 := Box2.new w2 (.int .i64 z) (.slice PA ps.length pc) 25
  have hbA : Below w2.heap.size w2 (w2.alloc (.cells #[.int .i64 z, .slice PA ps.length pc] 25)) := by (repeat (first | (with_reducible assumption) | (with_reducible exact Below.refl _ _) | ((with_reducible refine Below.alloc ?_ ?hsz _); (case hsz => (first | omega | (simp; done) | (simp; omega) | (simp at *; omega)))) | ((with_reducible refine Below.setCell ?_ ?hsz _); (case hsz => (first | omega | (simp; done) | (simp; omega) | (simp at *; omega)))) | (with_reducible refine Below.drew ?_) | (with_reducible refine below_drewN ?_ _) | ((with_reducible refine Below.trans ?_ (Below.mono (by with_reducible assumption) ?hsz)); (case hsz => (first | omega | (simp; done) | (simp; omega) | (simp at *; omega))))))
  have hrd3 := hr2.alloc' (.cells #[.int .i64 z, .slice PA ps.length pc] 25)
  obtain ⟨w3, hw3⟩ : ∃ W, W = w2.alloc (.cells #[.int .i64 z, .slice PA ps.length pc] 25) := ⟨_, rfl⟩
  rw [← hw3] at nb0 hbA hrd3
  have hz3 : w2.heap.size < w3.heap.size := by rw [hw3]; simp
  have hp3 := hp2.keep hbA
  have hx3 := hx2.keep hbA
  have bx3 := bx2.keep hbA
  have hb3 : Below w.heap.size w w3 := hb2.trans (hbA.mono hb2.size)
  go_wp2_with fail
  rw [← hw3]
  clear hw3
  with_reducible refine (specCheapest_any z _ _ ps xs _ _ _ hp3 hx3).mono ?_
  rintro e w4 ⟨r4, rfl, hr4, hb4⟩
  have nb4 := nb0.keep hb4
  have bx4 := bx3.keep hb4
  have hp4 := hp3.keep hb4
  have hx4 := hx3.keep hb4
  have hrd4 := hrd3.keep hb4
  have hb4' : Below w.heap.size w w4 := hb3.trans (hb4.mono hb3.size)
  have hz4 := hb4.size
  have hs2' : w.heap.size + 1 < w2.heap.size := hr2.1
  obtain ⟨A4, c4, rfl, hc41, hc42, -, -⟩ := hr4.form
  unfold maxLen at hc42
  have hl4 := chpst_len z ps xs
  clear nb0 bx3 hp3 hx3 hrd3 hb3 hb4 hp2 hx2 bx2 hr2 hg2 bs b0 b1 b2 b3
  obtain ⟨bs, b0, b1, b2, b3⟩ := id bx4
  obtain ⟨ns, n0, n1, n2, n3⟩ := id nb4
  have HP := Lib.hid (And.intro hp4 (And.intro hx4 hr4))
  generalize chpstR z ps xs = ys at *
  clear hp4 hx4 hr4
  have e21 : w2.heap.size ≠ w.heap.size + 1 := by omega
  have e20 : w2.heap.size ≠ w.heap.size := by omega
  cases hh : holdsB z ps xs
  · go_wp2
    refine bodyPost_ret (v := .tuple #[.agg #[.int .i64 z, .slice PA ps.length pc], .slice XA xs.length xc]) (by simp [results, Try.results29, go_sem, b0, b1]) rfl ⟨z, ps, _, xs, _, rfl, ?_, ?_, ?_, hl8, hzl, hzh⟩
    · exact ((HP.out.1.mono (b' := w.heap.size + 1) (by omega)).setLow (by simp)).setLow (by simp) |>.mono (by omega)
    · exact ((HP.out.2.1.mono (b' := w.heap.size + 1) (by omega)).setLow (by simp)).setLow (by simp) |>.mono (by omega)
    · (repeat (first | (with_reducible assumption) | (with_reducible exact Below.refl _ _) | ((with_reducible refine Below.alloc ?_ ?hsz _); (case hsz => (first | omega | (simp; done) | (simp; omega) | (simp at *; omega)))) | ((with_reducible refine Below.setCell ?_ ?hsz _); (case hsz => (first | omega | (simp; done) | (simp; omega) | (simp at *; omega)))) | (with_reducible refine Below.drew ?_) | (with_reducible refine below_drewN ?_ _) | ((with_reducible refine Below.trans ?_ (Below.mono (by with_reducible assumption) ?hsz)); (case hsz => (first | omega | (simp; done) | (simp; omega) | (simp at *; omega))))))
  · go_wp2_with fail
    refine (pick_any 2 (w.heap.size + 1) m c _ A _ hrd4 (by omega) (by omega) (by omega)).mono ?_
    rintro e w5 ⟨x5, rfl, x50, x51, hrd5, hg5, hz5⟩
    have nb5 := nb4.grown hg5 (by simp; omega)
    have bx5 := bx4.grown hg5 (by simp)
    have HP5 := Lib.hid (And.intro (HP.out.1.grown hg5 (by omega)) (And.intro (HP.out.2.1.grown hg5 (by omega)) (HP.out.2.2.grown hg5 (by omega))))
    have hb5 : Below w.heap.size w w5 := hb4'.trans (below_grow hg5 (by omega) (fun q hq => by injection hq with hq; omega))
    clear nb4 bx4 HP hrd4 hg5 hrd5 bs b0 b1 b2 b3 ns n0 n1 n2 n3
    obtain ⟨bs, b0, b1, b2, b3⟩ := id bx5
    obtain ⟨ns, n0, n1, n2, n3⟩ := id nb5
    by_cases hx0 : x5 = 0
    · subst hx0
      go_wp2
      refine bodyPost_ret (v := .tuple #[.agg #[.int .i64 z, .slice PA ps.length pc], .slice A4 ys.length c4]) (by simp [results, Try.results29, go_sem, b0, b1]) rfl ⟨z, ps, _, ys, _, rfl, ?_, ?_, ?_, hl8, hzl, hzh⟩
      · exact ((HP5.out.1.mono (b' := w.heap.size + 1) (by omega)).setLow (by simp)).setLow (by simp) |>.mono (by omega)
      · exact ((HP5.out.2.2.mono (b' := w.heap.size + 1) (by omega)).setLow (by simp)).setLow (by simp) |>.mono (by omega)
      · (repeat (first | (with_reducible assumption) | (with_reducible exact Below.refl _ _) | ((with_reducible refine Below.alloc ?_ ?hsz _); (case hsz => (first | omega | (simp; done) | (simp; omega) | (simp at *; omega)))) | ((with_reducible refine Below.setCell ?_ ?hsz _); (case hsz => (first | omega | (simp; done) | (simp; omega) | (simp at *; omega)))) | (with_reducible refine Below.drew ?_) | (with_reducible refine below_drewN ?_ _) | ((with_reducible refine Below.trans ?_ (Below.mono (by with_reducible assumption) ?hsz)); (case hsz => (first | omega | (simp; done) | (simp; omega) | (simp at *; omega))))))
    · have hxb : (x5 == 0) = false := by simpa using hx0
      go_wp2
      refine bodyPost_ret (v := .tuple #[.agg #[.int .i64 z, .slice PA ps.length pc], .slice XA xs.length xc]) (by simp [results, Try.results29, go_sem, b0, b1]) rfl ⟨z, ps, _, xs, _, rfl, ?_, ?_, ?_, hl8, hzl, hzh⟩
      · exact ((HP5.out.1.mono (b' := w.heap.size + 1) (by omega)).setLow (by simp)).setLow (by simp) |>.mono (by omega)
      · exact ((HP5.out.2.1.mono (b' := w.heap.size + 1) (by omega)).setLow (by simp)).setLow (by simp) |>.mono (by omega)
      · (repeat (first | (with_reducible assumption) | (with_reducible exact Below.refl _ _) | ((with_reducible refine Below.alloc ?_ ?hsz _); (case hsz => (first | omega | (simp; done) | (simp; omega) | (simp at *; omega)))) | ((with_reducible refine Below.setCell ?_ ?hsz _); (case hsz => (first | omega | (simp; done) | (simp; omega) | (simp at *; omega)))) | (with_reducible refine Below.drew ?_) | (with_reducible refine below_drewN ?_ _) | ((with_reducible refine Below.trans ?_ (Below.mono (by with_reducible assumption) ?hsz)); (case hsz => (first | omega | (simp; done) | (simp; omega) | (simp at *; omega))))))

end Go.Proofs.Ytialdelfmmdfjaa

/- Contracts of the draws of chapter 6: DrawPricesOk. -/
namespace Go.Proofs.Ytialdelfmmdfjaa
open Go.RowKit

/-- prices that are not large -/
def bndP (P : List Int) : Prop := ∀ v, -700 ≤ P.getD v 0 ∧ P.getD v 0 ≤ 10
theorem bndP_snoc {P : List Int} {x : Int} (h : bndP P) (hx : -700 ≤ x ∧ x ≤ 10) : bndP (P ++ [x]) := by
  intro v
  rcases Nat.lt_trichotomy v P.length with hv | hv | hv
  · have := h v
    simpa [List.getD_eq_getElem?_getD, List.getElem?_append_left hv] using this
  · subst hv
    simpa [List.getD_eq_getElem?_getD] using hx
  · have : (P ++ [x]).getD v 0 = 0 := by rw [List.getD_eq_getElem?_getD, List.getElem?_eq_none (by simp; omega)]; rfl
    rw [this]; omega
theorem bndP_set {P : List Int} {x : Int} {j : Nat} (h : bndP P) (hx : -700 ≤ x ∧ x ≤ 10) : bndP (P.set j x) := by
  intro v
  have := h v
  rw [List.getD_eq_getElem?_getD, List.getElem?_set]
  by_cases hj : j = v
  · subst hj
    by_cases hl : j < P.length
    · simp [hl, hx]
    · simp [hl]
  · rw [if_neg hj, ← List.getD_eq_getElem?_getD]; exact this
theorem own_undr {w w' : World} {B b n : Nat} {e : TypeId} {size : Nat} {v : Value} {xs : List Value} (h : w.ownsRow b e size v n xs) (hB : ∀ q, v.ownBlock = some q → q < B) (hb : Below B w w') : w'.ownsRow b e size v n xs := by
  refine ⟨h.1, ?_⟩
  rcases h.2 with h0 | ⟨g, cap, cur, hv, hg, hh, r⟩
  · exact .inl h0
  · exact .inr ⟨g, cap, cur, hv, hg, by rw [hb.block g (hB g (by rw [hv]; rfl))]; exact hh, r⟩
/-- what a draw of a net, a flow and prices leaves -/
def DrawnPrices (w : World) (e : Ending) (w' : World) : Prop :=
  ∃ (z : Int) (ps : List Pp) (u : Value) (xs : List Int) (t : Value) (P : List Int) (r : Value), e = .returned (.tuple #[.agg #[.int .i64 z, u], t, r]) ∧ Pipes w' w.heap.size u ps ∧ Ints w' w.heap.size t xs ∧ Ints w' w.heap.size r P ∧ bndP P ∧ P.length ≤ 7 ∧ Below w.heap.size w w' ∧ ps.length ≤ 8 ∧ 1 ≤ z ∧ z ≤ 6

/-- what the operations yield -/
def dlV (rg nb k : Nat) (z : Int) : Nat → Value → Prop
  | 0, x => x = .int .i64 (k : Int)
  | 1, x => x = .pointer (some ⟨nb, 0, none⟩)
  | 2, x => x = .int .i64 z
  | 3, x => x = .pointer (some ⟨rg, 0, none⟩)
  | 4, x => ∃ y : Int, x = .int .i64 y ∧ 0 ≤ y ∧ y ≤ 19
  | 5, x => ∃ y : Int, x = .int .i64 y ∧ 0 ≤ y ∧ y ≤ 1
  | 6, x => ∃ y : Int, x = .int .i64 y ∧ z ≤ y ∧ y ≤ z + 1
  | 7, x => ∃ b : Bool, x = .bool b ∧ (b = true → (k : Int) ≤ z)
  | _, _ => True

set_option maxHeartbeats 16000000 in
set_option maxRecDepth 20000 in
theorem drawPricesOk_any (v : Value) (n : Nat) (w : World) (h : ArgBytes w v n) : Calls Try.prog 27 #[v] w (DrawnPrices w) := by
  have bx0 := Box2.new w (.int .i64 0) (.slice none 0 0) 25
  obtain ⟨j0, hj0, hy0, hy1, hy2⟩ := info_parts int_info
  go_enter Try.func27, Try.ntmps27
  go_wp2_with fail
  refine (l20Open_any v n _ (h.keep (by (repeat (first | (with_reducible assumption) | (with_reducible exact Below.refl _ _) | ((with_reducible refine Below.alloc ?_ ?hsz _); (case hsz => (first | omega | (simp; done) | (simp; omega) | (simp at *; omega)))) | ((with_reducible refine Below.setCell ?_ ?hsz _); (case hsz => (first | omega | (simp; done) | (simp; omega) | (simp at *; omega)))) | (with_reducible refine Below.drew ?_) | (with_reducible refine below_drewN ?_ _) | ((with_reducible refine Below.trans ?_ (Below.mono (by with_reducible assumption) ?hsz)); (case hsz => (first | omega | (simp; done) | (simp; omega) | (simp at *; omega))))))))).mono ?_
  rintro e w1 ⟨A, m, c, rfl, hr1, hb1, hz1⟩
  have bx1 := bx0.keep (hb1.mono (by simp))
  rw [World.size_alloc] at hr1 hz1
  have hgo : Below w.heap.size w w1 := by (repeat (first | (with_reducible assumption) | (with_reducible exact Below.refl _ _) | ((with_reducible refine Below.alloc ?_ ?hsz _); (case hsz => (first | omega | (simp; done) | (simp; omega) | (simp at *; omega)))) | ((with_reducible refine Below.setCell ?_ ?hsz _); (case hsz => (first | omega | (simp; done) | (simp; omega) | (simp at *; omega)))) | (with_reducible refine Below.drew ?_) | (with_reducible refine below_drewN ?_ _) | ((with_reducible refine Below.trans ?_ (Below.mono (by with_reducible assumption) ?hsz)); (case hsz => (first | omega | (simp; done) | (simp; omega) | (simp at *; omega))))))
  go_wp2_with fail
  with_reducible refine (l20Held_any (w.heap.size + 1) m c 0 A _ hr1 (by omega)).mono ?_
  rintro e w2 ⟨z, ps, u, xs, t, rfl, hp2, hx2, hr2, hg2, hl8, hzl, hzh⟩
  have bx2 := bx1.grown hg2 (by simp)
  have hs2 := hg2.size
  have hb2 : Below w.heap.size w w2 := hgo.trans (below_grow hg2 (by omega) (fun q hq => by injection hq with hq; omega))
  obtain ⟨PA, pc, rfl, hc1, hc2, hsm, -⟩ := hp2.form
  obtain ⟨XA, xc, rfl, hc1', hc2', hsm', -⟩ := hx2.form
  unfold maxLen at hc2 hc2'
  obtain ⟨bs, b0, b1, b2, b3⟩ := id bx2
  have nb0 := Box2.new w2 (.int .i64 z) (.slice PA ps.length pc) 25
  have hbA : Below w2.heap.size w2 (w2.alloc (.cells #[.int .i64 z, .slice PA ps.length pc] 25)) := by (repeat (first | (with_reducible assumption) | (with_reducible exact Below.refl _ _) | ((with_reducible refine Below.alloc ?_ ?hsz _); (case hsz => (first | omega | (simp; done) | (simp; omega) | (simp at *; omega)))) | ((with_reducible refine Below.setCell ?_ ?hsz _); (case hsz => (first | omega | (simp; done) | (simp; omega) | (simp at *; omega)))) | (with_reducible refine Below.drew ?_) | (with_reducible refine below_drewN ?_ _) | ((with_reducible refine Below.trans ?_ (Below.mono (by with_reducible assumption) ?hsz)); (case hsz => (first | omega | (simp; done) | (simp; omega) | (simp at *; omega))))))
  have hrd3 := hr2.alloc' (.cells #[.int .i64 z, .slice PA ps.length pc] 25)
  obtain ⟨w3, hw3⟩ : ∃ W, W = w2.alloc (.cells #[.int .i64 z, .slice PA ps.length pc] 25) := ⟨_, rfl⟩
  rw [← hw3] at nb0 hbA hrd3
  have hz3 : w2.heap.size < w3.heap.size := by rw [hw3]; simp
  have hp3 := hp2.keep hbA
  have hx3 := hx2.keep hbA
  have bx3 := bx2.keep hbA
  have hb3 : Below w.heap.size w w3 := hb2.trans (hbA.mono hb2.size)
  go_wp2_with fail
  rw [← hw3]
  clear hw3
  with_reducible refine (specCheapest_any z _ _ ps xs _ _ _ hp3 hx3).mono ?_
  rintro e w4 ⟨r4, rfl, hr4, hb4⟩
  have nb4 := nb0.keep hb4
  have bx4 := bx3.keep hb4
  have hp4 := hp3.keep hb4
  have hx4 := hx3.keep hb4
  have hrd4 := hrd3.keep hb4
  have hb4' : Below w.heap.size w w4 := hb3.trans (hb4.mono hb3.size)
  have hz4 := hb4.size
  have hs2' : w.heap.size + 1 < w2.heap.size := hr2.1
  obtain ⟨A4, c4, rfl, hc41, hc42, -, -⟩ := hr4.form
  unfold maxLen at hc42
  have hl4 := chpst_len z ps xs
  clear nb0 bx3 hp3 hx3 hrd3 hb3 hb4 hp2 hx2 bx2 hr2 hg2 bs b0 b1 b2 b3
  obtain ⟨bs, b0, b1, b2, b3⟩ := id bx4
  obtain ⟨ns, n0, n1, n2, n3⟩ := id nb4
  have HP := Lib.hid (And.intro hp4 (And.intro hx4 hr4))
  generalize chpstR z ps xs = ys at *
  clear hp4 hx4 hr4
  have e21 : w2.heap.size ≠ w.heap.size + 1 := by omega
  have e20 : w2.heap.size ≠ w.heap.size := by omega
  cases hh : holdsB z ps xs
  · have HQ4 := Lib.hid (And.intro HP.out.1 HP.out.2.1)
    clear HP
    have hR0 : Row (w4.alloc (.cells #[] 3)) w4.heap.size w4.heap.size 0 0 [] :=
      ⟨World.ownsRow_lit (e := 3) (base := w4.heap.size) (size := 1) w4 #[] 0 (Nat.le_refl _) (by simp [maxLen]) rfl, by simp [small]⟩
    have hrQ := hrd4.alloc' (.cells #[] 3)
    have nbQ := nb4.keep ((Below.refl _ _).alloc (Nat.le_refl _) (.cells #[] 3))
    have bxQ := bx4.keep ((Below.refl _ _).alloc (Nat.le_refl _) (.cells #[] 3))
    have hgQ : w4.grownBy (w4.alloc (.cells #[] 3)) (some (w.heap.size + 1)) := grow_alloc (grow_refl _ _) _
    obtain ⟨K, hK⟩ : ∃ K, K = 0 + 2000 := ⟨_, rfl⟩
    have hK5 : K ≤ 3000 := by omega
    rw [← hK] at hrQ
    have hw42 : w2.heap.size < w4.heap.size := nb4.1
    have hw41 : w.heap.size + 1 < w2.heap.size := hs2'
    clear hK
    go_wp2
    go_loopw [13, 12] (fun a b wr => ∃ (k g1 c1 : Nat) (hs : List Int), k ≤ 7 ∧ a = .int .i64 (k : Int) ∧ b = .slice (some ⟨g1, 0, none⟩) k c1 ∧ Row wr w4.heap.size g1 k c1 hs ∧ bndP hs ∧ Rd wr (w.heap.size + 1) A m c (K + 20 * k) ∧ Box2 wr w2.heap.size (.int .i64 z) (.slice PA ps.length pc) ∧ Box2 wr w.heap.size (.int .i64 0) (.slice none 0 0) ∧ w4.grownBy wr (some (w.heap.size + 1))) (fun a _ _ => 7 - (intOf a).toNat)
    case atStart => exact ⟨0, w4.heap.size, 0, [], by omega, rfl, rfl, hR0, fun v => (by show -700 ≤ ([] : List Int).getD v 0 ∧ ([] : List Int).getD v 0 ≤ 10; simp), hrQ, nbQ, bxQ, hgQ⟩
    case round =>
      clear hR0 hrQ nbQ bxQ hgQ
      obtain ⟨k, g1, c1, hs, hk, rfl, rfl, hR, hbd, hr, nbx, bx, hg⟩ := hrel
      have HBD := Lib.hid hbd
      have hszQ := hg.size
      clear hbd
      go_wp2_with fail
      refine wp_region_flow 8 none [(0, 59), (1, 60), (2, 61), (3, 62), (4, 63), (5, 64), (6, 65), (7, 66)] (fun j x _ _ => dlV (w.heap.size + 1) w2.heap.size k z j x) (fun _ wx wy => wx.grownBy wy (some (w.heap.size + 1))) (fun f wx => f ≤ 8 ∧ wr.grownBy wx (some (w.heap.size + 1)) ∧ Rd wx (w.heap.size + 1) A m c (K + 20 * k + (8 - f)) ∧ Box2 wx w2.heap.size (.int .i64 z) (.slice PA ps.length pc)) (by kernel_rfl) (by kernel_rfl) rfl ⟨Nat.le_refl _, grow_drew (grow_refl _ _), (hr.drew).more (by omega), nbx.keep (Below.drew (Below.refl _ _))⟩ ?_ ?_ ?_ ?_
      · exact fun _ _ _ _ _ _ _ _ _ _ h => h
      · exact fun _ _ _ _ _ _ _ h => h
      · simp (maxSteps := 4000000) only [eachOp, fillF, List.setIfInBounds_toArray, List.set_cons_succ, List.set_cons_zero]
        refine ⟨?_, ?_, ?_, ?_, ?_, ?_, ?_, ?_, trivial⟩ <;> intro u f wx hC hd <;> (try simp [allV, useOf, Region.binds] at hd)
        · obtain ⟨hf8, hgw, hrd, hbx⟩ := hC
          go_wp2
          exact ⟨_, rfl, rfl, grow_refl _ _, ⟨by omega, hgw, hrd.more (by omega), hbx⟩⟩
        · obtain ⟨hf8, hgw, hrd, hbx⟩ := hC
          go_wp2
          exact ⟨_, rfl, rfl, grow_refl _ _, ⟨by omega, hgw, hrd.more (by omega), hbx⟩⟩
        · rw [show u 1 = _ from (by first | exact hd | exact hd.1 | exact hd.2 | exact hd.2.1 | exact hd.2.2 | exact hd.2.2.1 | exact hd.2.2.2 | exact hd.2.2.2.1 | exact hd.2.2.2.2)]
          obtain ⟨hf8, hgw, hrd, hbx⟩ := hC
          obtain ⟨xs1, e0, e1, e2, e3⟩ := id hbx
          go_wp2
          exact ⟨_, rfl, rfl, grow_refl _ _, ⟨by omega, hgw, hrd.more (by omega), hbx⟩⟩
        · obtain ⟨hf8, hgw, hrd, hbx⟩ := hC
          go_wp2
          exact ⟨_, rfl, rfl, grow_refl _ _, ⟨by omega, hgw, hrd.more (by omega), hbx⟩⟩
        · rw [show u 3 = _ from (by first | exact hd | exact hd.1 | exact hd.2 | exact hd.2.1 | exact hd.2.2 | exact hd.2.2.1 | exact hd.2.2.2 | exact hd.2.2.2.1 | exact hd.2.2.2.2)]
          obtain ⟨hf8, hgw, hrd, hbx⟩ := hC
          go_wp2_with fail
          refine (pick_any 20 (w.heap.size + 1) m c _ A _ hrd (by omega) (by omega) (by omega)).mono ?_
          rintro e wy ⟨y, rfl, y0, y1, hry, hgy, hzy⟩
          go_wp2
          exact ⟨_, rfl, ⟨y, rfl, by omega, by omega⟩, hgy, ⟨by omega, grow_more hgw hgy (fun q hq => .inr hq), hry.more (by omega), hbx.grown hgy (by intro e; injection e with e; omega)⟩⟩
        · obtain ⟨hf8, hgw, hrd, hbx⟩ := hC
          obtain ⟨y, h4, y0, y1⟩ : ∃ y : Int, u 4 = .int .i64 y ∧ 0 ≤ y ∧ y ≤ 19 := (by first | exact hd | exact hd.1 | exact hd.2)
          rw [h4]
          have ht : y.tdiv 19 = y / 19 := Int.tdiv_eq_ediv_of_nonneg y0
          have hw : IntKind.i64.wrap (y / 19) = y / 19 := IntWalk.i64_in _ (by omega)
          go_wp2
          exact ⟨_, rfl, ⟨_, rfl, by omega, by omega⟩, grow_refl _ _, ⟨by omega, hgw, hrd.more (by omega), hbx⟩⟩
        · rw [show u 2 = _ from (by first | exact hd | exact hd.1 | exact hd.2 | exact hd.2.1 | exact hd.2.2 | exact hd.2.2.1 | exact hd.2.2.2 | exact hd.2.2.2.1 | exact hd.2.2.2.2)]
          obtain ⟨hf8, hgw, hrd, hbx⟩ := hC
          obtain ⟨y, h5, y0, y1⟩ : ∃ y : Int, u 5 = .int .i64 y ∧ 0 ≤ y ∧ y ≤ 1 := (by first | exact hd | exact hd.1 | exact hd.2)
          rw [h5]
          have hw : IntKind.i64.wrap (z + y) = z + y := IntWalk.i64_in _ (by omega)
          have hw2 : RowKit.wrap64 (z + y) = z + y := IntWalk.wrap64_in _ (by omega)
          go_wp2
          exact ⟨_, rfl, ⟨_, rfl, by omega, by omega⟩, grow_refl _ _, ⟨by omega, hgw, hrd.more (by omega), hbx⟩⟩
        · rw [show u 0 = _ from (by first | exact hd | exact hd.1 | exact hd.2 | exact hd.2.1 | exact hd.2.2 | exact hd.2.2.1 | exact hd.2.2.2 | exact hd.2.2.2.1 | exact hd.2.2.2.2)]
          obtain ⟨hf8, hgw, hrd, hbx⟩ := hC
          obtain ⟨y, h6, y0, y1⟩ : ∃ y : Int, u 6 = .int .i64 y ∧ z ≤ y ∧ y ≤ z + 1 := (by first | exact hd | exact hd.1 | exact hd.2)
          rw [h6]
          go_wp2
          exact ⟨_, rfl, ⟨_, rfl, fun h => by simp at h; omega⟩, grow_refl _ _, ⟨by omega, hgw, hrd.more (by omega), hbx⟩⟩
      · intro u f wx hC hfin
        simp only [fillEnd, fillF, Act.put, List.setIfInBounds_toArray, List.set_cons_succ, List.set_cons_zero]
        obtain ⟨hf8, hgw, hrd, hbx⟩ := hC
        obtain ⟨bb, hbb, hbk⟩ : ∃ b : Bool, u 7 = .bool b ∧ (b = true → (k : Int) ≤ z) := hfin 7 (by decide) (by decide)
        rw [hbb]
        have hg3 := grow_more hg hgw (fun q hq => .inr hq)
        have hR3 := hR.grown hgw (by have := hR.lt; intro e; injection e with e; omega)
        have bx3 := bx.grown hgw (by simp)
        have hr3 : Rd wx (w.heap.size + 1) A m c (K + 20 * k + 8) := hrd.more (by omega)
        have hgl := hR3.lt
        have hsz := hgw.size
        clear hfin hrd hgw hR hr bx hg nbx
        obtain ⟨bs, b0, b1, b2, b3⟩ := id bx3
        obtain ⟨ns, n0, n1, n2, n3⟩ := id hbx
        cases bb with
        | true =>
          have hkz := hbk rfl
          go_wp2_with fail
          refine (pick_any 9 (w.heap.size + 1) m c (K + 20 * k + 8) A _ hr3 (by omega) (by omega) (by omega)).mono ?_
          rintro e wk ⟨xk, rfl, xk0, xk1, hrk, hgk, hzk⟩
          have hRk := hR3.grown hgk (by intro e; injection e with e; omega)
          have bxk := bx3.grown hgk (by simp)
          have nbk := hbx.grown hgk (by simp; omega)
          have hgwk := grow_more hg3 hgk (fun q hq => .inr hq)
          have hs4 := hgwk.size
          have hs5 := hgk.size
          clear hR3 hr3 bx3 hbx hg3 hgk bs b0 b1 b2 b3 ns n0 n1 n2 n3
          have hown := hRk.1
          have hcap := hRk.capd
          unfold maxLen at hcap
          have hrow : ∀ q, (Value.slice (some ⟨g1, 0, none⟩) k c1).ownBlock = some q → w4.heap.size ≤ q := fun q hq => (hown.lt q hq).1
          clear hzk
          go_wp2_with (first
            | (at_builtin
               go_must (refine wpList_append_lies _ rfl _ _ 26 rfl w4.heap.size 3 j0 _ 1 8 Try.underlying26 hj0 hy0 hy1 hy2 rfl (by omega) _ k _ rfl (hown.alloc _) ⟨wk.heap.size, 0, none⟩ 1 1 [.int .i64 (xk - 4)] rfl rfl (World.news_of_block (cs := #[.int .i64 (xk - 4)]) (t := 3) (fr := (0, 0)) (heap_alloc_new _ _)) (by simp [Value.oneCell']) (by omega) (by unfold maxLen; omega) (by omega) (by (first | omega | (simp; done) | (simp; omega) | (simp at *; omega))) _ rfl ?_)
               intro g2 k2 w7 hown7 hgr7 hat7 hlt7))
          have bx7 := (bxk.keep ((Below.refl _ _).alloc (Nat.le_refl _) _)).grown hgr7 (by intro h; have := hrow _ h.symm; omega)
          have nb7 := (nbk.keep ((Below.refl _ _).alloc (Nat.le_refl _) _)).grown hgr7 (by intro h; have := hrow _ h.symm; omega)
          have hr7 := (hrk.alloc' (.cells #[.int .i64 (xk - 4)] 3)).low (below_grow hgr7 (by simp; omega) (fun q hq => by have := hrow q hq; omega))
          have hg7 : w4.grownBy w7 (some (w.heap.size + 1)) := grow_more (grow_alloc hgwk _) hgr7 (fun q hq => .inl (hrow q hq))
          have hR8 : Row w7 w4.heap.size g2 (k + 1) k2 (hs ++ [xk - 4]) := ⟨by rw [List.map_append]; exact hown7, by unfold small; omega⟩
          clear hown7 hgr7 hat7 hlt7 bxk nbk hown hrow hRk hrk hgwk
          go_wp2
          go_roundw
          case rel => exact ⟨k + 1, g2, k2, _, by omega, by go_num, rfl, hR8, bndP_snoc HBD.out (by omega), hr7.more (by omega), nb7, bx7, hg7⟩
          case measure => simp [intOf]; omega
        | false =>
          have HPX := Lib.hid (And.intro (HQ4.out.1.grown hg3 (by omega)) (And.intro (HQ4.out.2.grown hg3 (by omega)) hR3.ints))
          have hb3' : Below w.heap.size w wx := hb4'.trans (below_grow hg3 (by omega) (fun q hq => by injection hq with hq; omega))
          have hln := hR3.len
          go_wp2
          refine bodyPost_ret (v := .tuple #[.agg #[.int .i64 z, .slice PA ps.length pc], .slice XA xs.length xc, .slice (some ⟨g1, 0, none⟩) k c1]) (by simp [results, Try.results27, go_sem, b0, b1]) rfl ⟨z, ps, _, xs, _, hs, _, rfl, ?_, ?_, ?_, HBD.out, by omega, ?_, hl8, hzl, hzh⟩
          · exact ((HPX.out.1.mono (b' := w.heap.size + 1) (by omega)).setLow (by simp)).setLow (by simp) |>.mono (by omega)
          · exact ((HPX.out.2.1.mono (b' := w.heap.size + 1) (by omega)).setLow (by simp)).setLow (by simp) |>.mono (by omega)
          · exact ((HPX.out.2.2.mono (b' := w.heap.size + 1) (by omega)).setLow (by simp)).setLow (by simp) |>.mono (by omega)
          · (repeat (first | (with_reducible assumption) | (with_reducible exact Below.refl _ _) | ((with_reducible refine Below.alloc ?_ ?hsz _); (case hsz => (first | omega | (simp; done) | (simp; omega) | (simp at *; omega)))) | ((with_reducible refine Below.setCell ?_ ?hsz _); (case hsz => (first | omega | (simp; done) | (simp; omega) | (simp at *; omega)))) | (with_reducible refine Below.drew ?_) | (with_reducible refine below_drewN ?_ _) | ((with_reducible refine Below.trans ?_ (Below.mono (by with_reducible assumption) ?hsz)); (case hsz => (first | omega | (simp; done) | (simp; omega) | (simp at *; omega))))))

  · go_wp2_with fail
    refine (pick_any 2 (w.heap.size + 1) m c _ A _ hrd4 (by omega) (by omega) (by omega)).mono ?_
    rintro e w5 ⟨x5, rfl, x50, x51, hrd5, hg5, hz5⟩
    have nb5 := nb4.grown hg5 (by simp; omega)
    have bx5 := bx4.grown hg5 (by simp)
    have HP5 := Lib.hid (And.intro (HP.out.1.grown hg5 (by omega)) (And.intro (HP.out.2.1.grown hg5 (by omega)) (HP.out.2.2.grown hg5 (by omega))))
    have hb5 : Below w.heap.size w w5 := hb4'.trans (below_grow hg5 (by omega) (fun q hq => by injection hq with hq; omega))
    clear nb4 bx4 HP hrd4 hg5 bs b0 b1 b2 b3 ns n0 n1 n2 n3
    obtain ⟨bs, b0, b1, b2, b3⟩ := id bx5
    obtain ⟨ns, n0, n1, n2, n3⟩ := id nb5
    by_cases hx0 : x5 = 0
    · subst hx0
      go_wp2_with fail
      refine (specPricesFor_any z _ _ ps ys _ _ _ HP5.out.1 HP5.out.2.2).mono ?_
      rintro e w6 ⟨r6, rfl, hr6, hb6⟩
      have nb6 := nb5.keep hb6
      have bx6 := bx5.keep hb6
      have HP6 := Lib.hid (And.intro (HP5.out.1.keep hb6) (HP5.out.2.2.keep hb6))
      have hrd6 := hrd5.keep hb6
      have hb6' : Below w.heap.size w w6 := hb5.trans (hb6.mono hb5.size)
      have hz6 := hb6.size
      have hbd : bndP (priceR z ps ys) := fun v => by have := price_small z ps ys v; omega
      have hl5 := priceR_len z ps ys
      have HOB := Lib.hid (And.intro (fun q hq => (HP5.out.1.1.lt q hq).2) (fun q hq => (HP5.out.2.2.1.lt q hq).2))
      generalize pricedB z ps ys = pb at *
      generalize priceR z ps ys = Q at *
      have HBD := Lib.hid hbd
      have hw5 : w2.heap.size < w5.heap.size := nb5.1
      clear nb5 bx5 HP5 hrd5 hb6 hbd bs b0 b1 b2 b3 ns n0 n1 n2 n3
      obtain ⟨bs, b0, b1, b2, b3⟩ := id bx6
      obtain ⟨ns, n0, n1, n2, n3⟩ := id nb6
      by_cases hQ0 : Q.length = 0
      · obtain ⟨AQ, cQ, rfl, -, -, -, -⟩ := hr6.form
        have HQ := Lib.hid hr6
        rw [hQ0] at HQ ⊢
        clear hr6
        go_wp2_with fail
        refine (odd_any 4 (w.heap.size + 1) m c _ A _ hrd6 (by omega) (by omega) (by omega)).mono ?_
        rintro e w7 ⟨ob, rfl, hrd7, hg7, hz7⟩
        have bx7 := bx6.grown hg7 (by simp)
        have nb7 := nb6.grown hg7 (by simp; omega)
        have HP7 := Lib.hid (And.intro (HP6.out.1.grown hg7 (by omega)) (And.intro (HP6.out.2.grown hg7 (by omega)) (HQ.out.grown hg7 (by omega))))
        have hb7 : Below w.heap.size w w7 := hb6'.trans (below_grow hg7 (by omega) (fun q hq => by injection hq with hq; omega))
        clear bx6 nb6 HP6 hrd6 hg7 bs b0 b1 b2 b3 ns n0 n1 n2 n3
        obtain ⟨bs, b0, b1, b2, b3⟩ := id bx7
        obtain ⟨ns, n0, n1, n2, n3⟩ := id nb7
        cases ob
        all_goals
          go_wp2
          refine bodyPost_ret (v := .tuple #[.agg #[.int .i64 z, .slice PA ps.length pc], .slice A4 ys.length c4, .slice AQ 0 cQ]) (by simp [results, Try.results27, go_sem, b0, b1]) rfl ⟨z, ps, _, ys, _, Q, _, rfl, ?_, ?_, ?_, HBD.out, by omega, ?_, hl8, hzl, hzh⟩
          · exact ((HP7.out.1.mono (b' := w.heap.size + 1) (by omega)).setLow (by simp)).setLow (by simp) |>.mono (by omega)
          · exact ((HP7.out.2.1.mono (b' := w.heap.size + 1) (by omega)).setLow (by simp)).setLow (by simp) |>.mono (by omega)
          · exact ((HP7.out.2.2.mono (b' := w.heap.size + 1) (by omega)).setLow (by simp)).setLow (by simp) |>.mono (by omega)
          · (repeat (first | (with_reducible assumption) | (with_reducible exact Below.refl _ _) | ((with_reducible refine Below.alloc ?_ ?hsz _); (case hsz => (first | omega | (simp; done) | (simp; omega) | (simp at *; omega)))) | ((with_reducible refine Below.setCell ?_ ?hsz _); (case hsz => (first | omega | (simp; done) | (simp; omega) | (simp at *; omega)))) | (with_reducible refine Below.drew ?_) | (with_reducible refine below_drewN ?_ _) | ((with_reducible refine Below.trans ?_ (Below.mono (by with_reducible assumption) ?hsz)); (case hsz => (first | omega | (simp; done) | (simp; omega) | (simp at *; omega))))))
      · obtain ⟨gq, cq, rfl, hR6⟩ := hr6.row (by omega)
        obtain ⟨LQ, hLQ⟩ : ∃ L, Q.length = L := ⟨_, rfl⟩
        rw [hLQ] at hR6 hQ0 hl5 ⊢
        have HLQ := Lib.hid hLQ
        have hgq := hR6.lt
        clear hr6 hLQ
        go_wp2_with fail
        refine (odd_any 4 (w.heap.size + 1) m c _ A _ hrd6 (by omega) (by omega) (by omega)).mono ?_
        rintro e w7 ⟨ob, rfl, hrd7, hg7, hz7⟩
        have bx7 := bx6.grown hg7 (by simp)
        have nb7 := nb6.grown hg7 (by simp; omega)
        have hR7 := hR6.grown hg7 (by intro e; injection e with e; omega)
        have HP7 := Lib.hid (And.intro (HP6.out.1.grown hg7 (by omega)) (HP6.out.2.grown hg7 (by omega)))
        have hb7 : Below w.heap.size w w7 := hb6'.trans (below_grow hg7 (by omega) (fun q hq => by injection hq with hq; omega))
        have hs7 := hg7.size
        clear bx6 nb6 HP6 hrd6 hR6 hg7 bs b0 b1 b2 b3 ns n0 n1 n2 n3
        obtain ⟨bs, b0, b1, b2, b3⟩ := id bx7
        obtain ⟨ns, n0, n1, n2, n3⟩ := id nb7
        cases ob with
        | false =>
          have HR7 := Lib.hid hR7.ints
          go_wp2
          refine bodyPost_ret (v := .tuple #[.agg #[.int .i64 z, .slice PA ps.length pc], .slice A4 ys.length c4, .slice (some ⟨gq, 0, none⟩) LQ cq]) (by simp [results, Try.results27, go_sem, b0, b1]) rfl ⟨z, ps, _, ys, _, Q, _, rfl, ?_, ?_, ?_, HBD.out, by have := HLQ.out; omega, ?_, hl8, hzl, hzh⟩
          · exact ((HP7.out.1.mono (b' := w.heap.size + 1) (by omega)).setLow (by simp)).setLow (by simp) |>.mono (by omega)
          · exact ((HP7.out.2.mono (b' := w.heap.size + 1) (by omega)).setLow (by simp)).setLow (by simp) |>.mono (by omega)
          · exact ((HR7.out.mono (b' := w.heap.size + 1) (by omega)).setLow (by simp)).setLow (by simp) |>.mono (by omega)
          · (repeat (first | (with_reducible assumption) | (with_reducible exact Below.refl _ _) | ((with_reducible refine Below.alloc ?_ ?hsz _); (case hsz => (first | omega | (simp; done) | (simp; omega) | (simp at *; omega)))) | ((with_reducible refine Below.setCell ?_ ?hsz _); (case hsz => (first | omega | (simp; done) | (simp; omega) | (simp at *; omega)))) | (with_reducible refine Below.drew ?_) | (with_reducible refine below_drewN ?_ _) | ((with_reducible refine Below.trans ?_ (Below.mono (by with_reducible assumption) ?hsz)); (case hsz => (first | omega | (simp; done) | (simp; omega) | (simp at *; omega))))))
        | true =>
          have hLpos : 0 < LQ := by omega
          have hdl : decide (0 < (LQ : Int)) = true := decide_eq_true (by omega)
          go_wp2_with fail
          refine (pick_any LQ (w.heap.size + 1) m c _ A _ hrd7 (by omega) (by omega) (by omega)).mono ?_
          rintro e w8 ⟨x8, rfl, x80, x81, hrd8, hg8, hz8⟩
          have hR8 := hR7.grown hg8 (by intro e; injection e with e; omega)
          have bx8 := bx7.grown hg8 (by simp)
          have nb8 := nb7.grown hg8 (by simp; omega)
          have HP8 := Lib.hid (And.intro (HP7.out.1.grown hg8 (by omega)) (HP7.out.2.grown hg8 (by omega)))
          have hb8 : Below w.heap.size w w8 := hb7.trans (below_grow hg8 (by omega) (fun q hq => by injection hq with hq; omega))
          have hs8 := hg8.size
          clear bx7 nb7 HP7 hrd7 hR7 hg8 bs b0 b1 b2 b3 ns n0 n1 n2 n3
          obtain ⟨bs, b0, b1, b2, b3⟩ := id bx8
          obtain ⟨ns, n0, n1, n2, n3⟩ := id nb8
          go_wp2_with fail
          refine (pick_any 9 (w.heap.size + 1) m c _ A _ hrd8 (by omega) (by omega) (by omega)).mono ?_
          rintro e w9 ⟨x9, rfl, x90, x91, hrd9, hg9, hz9⟩
          have hR9 := hR8.grown hg9 (by intro e; injection e with e; omega)
          have bx9 := bx8.grown hg9 (by simp)
          have nb9 := nb8.grown hg9 (by simp; omega)
          have HP9 := Lib.hid (And.intro (HP8.out.1.grown hg9 (by omega)) (HP8.out.2.grown hg9 (by omega)))
          have hb9 : Below w.heap.size w w9 := hb8.trans (below_grow hg9 (by omega) (fun q hq => by injection hq with hq; omega))
          have hs9 := hg9.size
          clear bx8 nb8 HP8 hrd8 hR8 hg9 hrd9 bs b0 b1 b2 b3 ns n0 n1 n2 n3
          obtain ⟨j, rfl⟩ := Int.eq_ofNat_of_zero_le x80
          have hjL : j < LQ := by omega
          obtain ⟨y0, y1⟩ := hR9.at' j hjL
          have hcap9 := hR9.capd
          unfold maxLen at hcap9
          have hgl9 := hR9.lt.2
          have hw9 : IntKind.i64.wrap (x9 - 4) = x9 - 4 := IntWalk.i64_in _ (by omega)
          have hset := hR9.set j (x9 - 4)
          have hgs : w9.grownBy (w9.setCell ⟨gq, j, none⟩ (.int .i64 (x9 - 4))) (some gq) := grown_set w9 gq j _
          have bxA := bx9.grown hgs (by intro e; injection e with e; omega)
          have nbA := nb9.grown hgs (by intro e; injection e with e; omega)
          have hbs : Below w5.heap.size w9 (w9.setCell ⟨gq, j, none⟩ (.int .i64 (x9 - 4))) := (Below.refl _ _).setCell hgq.1 _
          have hpA : Pipes (w9.setCell ⟨gq, j, none⟩ (.int .i64 (x9 - 4))) _ _ ps := ⟨own_undr HP9.out.1.1 HOB.out.1 hbs, HP9.out.1.2⟩
          have hyA : Ints (w9.setCell ⟨gq, j, none⟩ (.int .i64 (x9 - 4))) _ _ ys := ⟨own_undr HP9.out.2.1 HOB.out.2 hbs, HP9.out.2.2⟩
          have HPA := Lib.hid (And.intro hpA (And.intro hyA hset.ints))
          have hbA : Below w.heap.size w (w9.setCell ⟨gq, j, none⟩ (.int .i64 (x9 - 4))) := hb9.setCell (show w.heap.size ≤ gq by omega) _
          have HBN := Lib.hid (show bndP (Q.set j (x9 - 4)) from bndP_set HBD.out (by omega))
          clear hpA hyA hset hbs hgs
          go_upto_region 8 with fail
          generalize World.setCell w9 ⟨gq, j, none⟩ (.int .i64 (x9 - 4)) = wA at *
          obtain ⟨asz, a0, a1, a2, a3⟩ := id bxA
          obtain ⟨ms, m0, m1, m2, m3⟩ := id nbA

          have hzA : w2.heap.size < wA.heap.size := nbA.1
          go_wp2
          refine bodyPost_ret (v := .tuple #[.agg #[.int .i64 z, .slice PA ps.length pc], .slice A4 ys.length c4, .slice (some ⟨gq, 0, none⟩) LQ cq]) (by simp [results, Try.results27, go_sem, a0, a1]) rfl ⟨z, ps, _, ys, _, Q.set j (x9 - 4), _, rfl, ?_, ?_, ?_, HBN.out, by have := HLQ.out; simp; omega, ?_, hl8, hzl, hzh⟩
          · exact ((HPA.out.1.mono (b' := w.heap.size + 1) (by omega)).setLow (by simp)).setLow (by simp) |>.mono (by omega)
          · exact ((HPA.out.2.1.mono (b' := w.heap.size + 1) (by omega)).setLow (by simp)).setLow (by simp) |>.mono (by omega)
          · exact ((HPA.out.2.2.mono (b' := w.heap.size + 1) (by omega)).setLow (by simp)).setLow (by simp) |>.mono (by omega)
          · (repeat (first | (with_reducible assumption) | (with_reducible exact Below.refl _ _) | ((with_reducible refine Below.alloc ?_ ?hsz _); (case hsz => (first | omega | (simp; done) | (simp; omega) | (simp at *; omega)))) | ((with_reducible refine Below.setCell ?_ ?hsz _); (case hsz => (first | omega | (simp; done) | (simp; omega) | (simp at *; omega)))) | (with_reducible refine Below.drew ?_) | (with_reducible refine below_drewN ?_ _) | ((with_reducible refine Below.trans ?_ (Below.mono (by with_reducible assumption) ?hsz)); (case hsz => (first | omega | (simp; done) | (simp; omega) | (simp at *; omega))))))
    · have hxb : (x5 == 0) = false := by simpa using hx0
      have HQ5 := Lib.hid (And.intro HP5.out.1 HP5.out.2.1)
      clear HP5 hz5
      have hR0 : Row (w5.alloc (.cells #[] 3)) w5.heap.size w5.heap.size 0 0 [] :=
        ⟨World.ownsRow_lit (e := 3) (base := w5.heap.size) (size := 1) w5 #[] 0 (Nat.le_refl _) (by simp [maxLen]) rfl, by simp [small]⟩
      have hrQ := hrd5.alloc' (.cells #[] 3)
      have nbQ := nb5.keep ((Below.refl _ _).alloc (Nat.le_refl _) (.cells #[] 3))
      have bxQ := bx5.keep ((Below.refl _ _).alloc (Nat.le_refl _) (.cells #[] 3))
      have hgQ : w5.grownBy (w5.alloc (.cells #[] 3)) (some (w.heap.size + 1)) := grow_alloc (grow_refl _ _) _
      obtain ⟨K, hK⟩ : ∃ K, K = 0 + 2000 + 1 := ⟨_, rfl⟩
      have hK5 : K ≤ 3000 := by omega
      rw [← hK] at hrQ
      have hw52 : w2.heap.size < w5.heap.size := nb5.1
      have hw51 : w.heap.size + 1 < w2.heap.size := hs2'
      clear hK
      go_wp2
      go_loopw [13, 12] (fun a b wr => ∃ (k g1 c1 : Nat) (hs : List Int), k ≤ 7 ∧ a = .int .i64 (k : Int) ∧ b = .slice (some ⟨g1, 0, none⟩) k c1 ∧ Row wr w5.heap.size g1 k c1 hs ∧ bndP hs ∧ Rd wr (w.heap.size + 1) A m c (K + 20 * k) ∧ Box2 wr w2.heap.size (.int .i64 z) (.slice PA ps.length pc) ∧ Box2 wr w.heap.size (.int .i64 0) (.slice none 0 0) ∧ w5.grownBy wr (some (w.heap.size + 1))) (fun a _ _ => 7 - (intOf a).toNat)
      case atStart => exact ⟨0, w5.heap.size, 0, [], by omega, rfl, rfl, hR0, fun v => (by show -700 ≤ ([] : List Int).getD v 0 ∧ ([] : List Int).getD v 0 ≤ 10; simp), hrQ, nbQ, bxQ, hgQ⟩
      case round =>
        clear hR0 hrQ nbQ bxQ hgQ
        obtain ⟨k, g1, c1, hs, hk, rfl, rfl, hR, hbd, hr, nbx, bx, hg⟩ := hrel
        have HBD := Lib.hid hbd
        have hszQ := hg.size
        clear hbd
        go_wp2_with fail
        refine wp_region_flow 8 none [(0, 59), (1, 60), (2, 61), (3, 62), (4, 63), (5, 64), (6, 65), (7, 66)] (fun j x _ _ => dlV (w.heap.size + 1) w2.heap.size k z j x) (fun _ wx wy => wx.grownBy wy (some (w.heap.size + 1))) (fun f wx => f ≤ 8 ∧ wr.grownBy wx (some (w.heap.size + 1)) ∧ Rd wx (w.heap.size + 1) A m c (K + 20 * k + (8 - f)) ∧ Box2 wx w2.heap.size (.int .i64 z) (.slice PA ps.length pc)) (by kernel_rfl) (by kernel_rfl) rfl ⟨Nat.le_refl _, grow_drew (grow_refl _ _), (hr.drew).more (by omega), nbx.keep (Below.drew (Below.refl _ _))⟩ ?_ ?_ ?_ ?_
        · exact fun _ _ _ _ _ _ _ _ _ _ h => h
        · exact fun _ _ _ _ _ _ _ h => h
        · simp (maxSteps := 4000000) only [eachOp, fillF, List.setIfInBounds_toArray, List.set_cons_succ, List.set_cons_zero]
          refine ⟨?_, ?_, ?_, ?_, ?_, ?_, ?_, ?_, trivial⟩ <;> intro u f wx hC hd <;> (try simp [allV, useOf, Region.binds] at hd)
          · obtain ⟨hf8, hgw, hrd, hbx⟩ := hC
            go_wp2
            exact ⟨_, rfl, rfl, grow_refl _ _, ⟨by omega, hgw, hrd.more (by omega), hbx⟩⟩
          · obtain ⟨hf8, hgw, hrd, hbx⟩ := hC
            go_wp2
            exact ⟨_, rfl, rfl, grow_refl _ _, ⟨by omega, hgw, hrd.more (by omega), hbx⟩⟩
          · rw [show u 1 = _ from (by first | exact hd | exact hd.1 | exact hd.2 | exact hd.2.1 | exact hd.2.2 | exact hd.2.2.1 | exact hd.2.2.2 | exact hd.2.2.2.1 | exact hd.2.2.2.2)]
            obtain ⟨hf8, hgw, hrd, hbx⟩ := hC
            obtain ⟨xs1, e0, e1, e2, e3⟩ := id hbx
            go_wp2
            exact ⟨_, rfl, rfl, grow_refl _ _, ⟨by omega, hgw, hrd.more (by omega), hbx⟩⟩
          · obtain ⟨hf8, hgw, hrd, hbx⟩ := hC
            go_wp2
            exact ⟨_, rfl, rfl, grow_refl _ _, ⟨by omega, hgw, hrd.more (by omega), hbx⟩⟩
          · rw [show u 3 = _ from (by first | exact hd | exact hd.1 | exact hd.2 | exact hd.2.1 | exact hd.2.2 | exact hd.2.2.1 | exact hd.2.2.2 | exact hd.2.2.2.1 | exact hd.2.2.2.2)]
            obtain ⟨hf8, hgw, hrd, hbx⟩ := hC
            go_wp2_with fail
            refine (pick_any 20 (w.heap.size + 1) m c _ A _ hrd (by omega) (by omega) (by omega)).mono ?_
            rintro e wy ⟨y, rfl, y0, y1, hry, hgy, hzy⟩
            go_wp2
            exact ⟨_, rfl, ⟨y, rfl, by omega, by omega⟩, hgy, ⟨by omega, grow_more hgw hgy (fun q hq => .inr hq), hry.more (by omega), hbx.grown hgy (by intro e; injection e with e; omega)⟩⟩
          · obtain ⟨hf8, hgw, hrd, hbx⟩ := hC
            obtain ⟨y, h4, y0, y1⟩ : ∃ y : Int, u 4 = .int .i64 y ∧ 0 ≤ y ∧ y ≤ 19 := (by first | exact hd | exact hd.1 | exact hd.2)
            rw [h4]
            have ht : y.tdiv 19 = y / 19 := Int.tdiv_eq_ediv_of_nonneg y0
            have hw : IntKind.i64.wrap (y / 19) = y / 19 := IntWalk.i64_in _ (by omega)
            go_wp2
            exact ⟨_, rfl, ⟨_, rfl, by omega, by omega⟩, grow_refl _ _, ⟨by omega, hgw, hrd.more (by omega), hbx⟩⟩
          · rw [show u 2 = _ from (by first | exact hd | exact hd.1 | exact hd.2 | exact hd.2.1 | exact hd.2.2 | exact hd.2.2.1 | exact hd.2.2.2 | exact hd.2.2.2.1 | exact hd.2.2.2.2)]
            obtain ⟨hf8, hgw, hrd, hbx⟩ := hC
            obtain ⟨y, h5, y0, y1⟩ : ∃ y : Int, u 5 = .int .i64 y ∧ 0 ≤ y ∧ y ≤ 1 := (by first | exact hd | exact hd.1 | exact hd.2)
            rw [h5]
            have hw : IntKind.i64.wrap (z + y) = z + y := IntWalk.i64_in _ (by omega)
            have hw2 : RowKit.wrap64 (z + y) = z + y := IntWalk.wrap64_in _ (by omega)
            go_wp2
            exact ⟨_, rfl, ⟨_, rfl, by omega, by omega⟩, grow_refl _ _, ⟨by omega, hgw, hrd.more (by omega), hbx⟩⟩
          · rw [show u 0 = _ from (by first | exact hd | exact hd.1 | exact hd.2 | exact hd.2.1 | exact hd.2.2 | exact hd.2.2.1 | exact hd.2.2.2 | exact hd.2.2.2.1 | exact hd.2.2.2.2)]
            obtain ⟨hf8, hgw, hrd, hbx⟩ := hC
            obtain ⟨y, h6, y0, y1⟩ : ∃ y : Int, u 6 = .int .i64 y ∧ z ≤ y ∧ y ≤ z + 1 := (by first | exact hd | exact hd.1 | exact hd.2)
            rw [h6]
            go_wp2
            exact ⟨_, rfl, ⟨_, rfl, fun h => by simp at h; omega⟩, grow_refl _ _, ⟨by omega, hgw, hrd.more (by omega), hbx⟩⟩
        · intro u f wx hC hfin
          simp only [fillEnd, fillF, Act.put, List.setIfInBounds_toArray, List.set_cons_succ, List.set_cons_zero]
          obtain ⟨hf8, hgw, hrd, hbx⟩ := hC
          obtain ⟨bb, hbb, hbk⟩ : ∃ b : Bool, u 7 = .bool b ∧ (b = true → (k : Int) ≤ z) := hfin 7 (by decide) (by decide)
          rw [hbb]
          have hg3 := grow_more hg hgw (fun q hq => .inr hq)
          have hR3 := hR.grown hgw (by have := hR.lt; intro e; injection e with e; omega)
          have bx3 := bx.grown hgw (by simp)
          have hr3 : Rd wx (w.heap.size + 1) A m c (K + 20 * k + 8) := hrd.more (by omega)
          have hgl := hR3.lt
          have hsz := hgw.size
          clear hfin hrd hgw hR hr bx hg nbx
          obtain ⟨bs, b0, b1, b2, b3⟩ := id bx3
          obtain ⟨ns, n0, n1, n2, n3⟩ := id hbx
          cases bb with
          | true =>
            have hkz := hbk rfl
            go_wp2_with fail
            refine (pick_any 9 (w.heap.size + 1) m c (K + 20 * k + 8) A _ hr3 (by omega) (by omega) (by omega)).mono ?_
            rintro e wk ⟨xk, rfl, xk0, xk1, hrk, hgk, hzk⟩
            have hRk := hR3.grown hgk (by intro e; injection e with e; omega)
            have bxk := bx3.grown hgk (by simp)
            have nbk := hbx.grown hgk (by simp; omega)
            have hgwk := grow_more hg3 hgk (fun q hq => .inr hq)
            have hs4 := hgwk.size
            have hs5 := hgk.size
            clear hR3 hr3 bx3 hbx hg3 hgk bs b0 b1 b2 b3 ns n0 n1 n2 n3
            have hown := hRk.1
            have hcap := hRk.capd
            unfold maxLen at hcap
            have hrow : ∀ q, (Value.slice (some ⟨g1, 0, none⟩) k c1).ownBlock = some q → w5.heap.size ≤ q := fun q hq => (hown.lt q hq).1
            clear hzk
            go_wp2_with (first
              | (at_builtin
                 go_must (refine wpList_append_lies _ rfl _ _ 26 rfl w5.heap.size 3 j0 _ 1 8 Try.underlying26 hj0 hy0 hy1 hy2 rfl (by omega) _ k _ rfl (hown.alloc _) ⟨wk.heap.size, 0, none⟩ 1 1 [.int .i64 (xk - 4)] rfl rfl (World.news_of_block (cs := #[.int .i64 (xk - 4)]) (t := 3) (fr := (0, 0)) (heap_alloc_new _ _)) (by simp [Value.oneCell']) (by omega) (by unfold maxLen; omega) (by omega) (by (first | omega | (simp; done) | (simp; omega) | (simp at *; omega))) _ rfl ?_)
                 intro g2 k2 w7 hown7 hgr7 hat7 hlt7))
            have bx7 := (bxk.keep ((Below.refl _ _).alloc (Nat.le_refl _) _)).grown hgr7 (by intro h; have := hrow _ h.symm; omega)
            have nb7 := (nbk.keep ((Below.refl _ _).alloc (Nat.le_refl _) _)).grown hgr7 (by intro h; have := hrow _ h.symm; omega)
            have hr7 := (hrk.alloc' (.cells #[.int .i64 (xk - 4)] 3)).low (below_grow hgr7 (by simp; omega) (fun q hq => by have := hrow q hq; omega))
            have hg7 : w5.grownBy w7 (some (w.heap.size + 1)) := grow_more (grow_alloc hgwk _) hgr7 (fun q hq => .inl (hrow q hq))
            have hR8 : Row w7 w5.heap.size g2 (k + 1) k2 (hs ++ [xk - 4]) := ⟨by rw [List.map_append]; exact hown7, by unfold small; omega⟩
            clear hown7 hgr7 hat7 hlt7 bxk nbk hown hrow hRk hrk hgwk
            go_wp2
            go_roundw
            case rel => exact ⟨k + 1, g2, k2, _, by omega, by go_num, rfl, hR8, bndP_snoc HBD.out (by omega), hr7.more (by omega), nb7, bx7, hg7⟩
            case measure => simp [intOf]; omega
          | false =>
            have HPX := Lib.hid (And.intro (HQ5.out.1.grown hg3 (by omega)) (And.intro (HQ5.out.2.grown hg3 (by omega)) hR3.ints))
            have hb3' : Below w.heap.size w wx := hb5.trans (below_grow hg3 (by omega) (fun q hq => by injection hq with hq; omega))
            have hln := hR3.len
            go_wp2
            refine bodyPost_ret (v := .tuple #[.agg #[.int .i64 z, .slice PA ps.length pc], .slice XA xs.length xc, .slice (some ⟨g1, 0, none⟩) k c1]) (by simp [results, Try.results27, go_sem, b0, b1]) rfl ⟨z, ps, _, xs, _, hs, _, rfl, ?_, ?_, ?_, HBD.out, by omega, ?_, hl8, hzl, hzh⟩
            · exact ((HPX.out.1.mono (b' := w.heap.size + 1) (by omega)).setLow (by simp)).setLow (by simp) |>.mono (by omega)
            · exact ((HPX.out.2.1.mono (b' := w.heap.size + 1) (by omega)).setLow (by simp)).setLow (by simp) |>.mono (by omega)
            · exact ((HPX.out.2.2.mono (b' := w.heap.size + 1) (by omega)).setLow (by simp)).setLow (by simp) |>.mono (by omega)
            · (repeat (first | (with_reducible assumption) | (with_reducible exact Below.refl _ _) | ((with_reducible refine Below.alloc ?_ ?hsz _); (case hsz => (first | omega | (simp; done) | (simp; omega) | (simp at *; omega)))) | ((with_reducible refine Below.setCell ?_ ?hsz _); (case hsz => (first | omega | (simp; done) | (simp; omega) | (simp at *; omega)))) | (with_reducible refine Below.drew ?_) | (with_reducible refine below_drewN ?_ _) | ((with_reducible refine Below.trans ?_ (Below.mono (by with_reducible assumption) ?hsz)); (case hsz => (first | omega | (simp; done) | (simp; omega) | (simp at *; omega))))))

end Go.Proofs.Ytialdelfmmdfjaa
