/- Contracts of the laws' draws of chapter 7. -/
import Derived.Test.YtmeicnhlehdboaaD7
import Derived.Test.YtmeicnhlehdboaaDO
import Derived.Test.YtmeicnhlehdboaaF1
import Derived.Test.YtmeicnhlehdboaaRW
namespace Go.Proofs.Ytmeicnhlehdboaa
open Go.RowKit

set_option maxHeartbeats 1000000 in
set_option maxRecDepth 20000 in
theorem drawTreePipes_any (v : Value) (n : Nat) (w : World) (h : ArgBytes w v n) : Calls Try.prog 10 #[v] w (DrawnNet w) := by
  have bx0 := Box2.new w (.int .i64 0) (.slice none 0 0) 25
  go_enter Try.func10, Try.ntmps10
  go_wp2_with fail
  refine (l20Open_any v n _ (h.keep (by (repeat (first | (with_reducible assumption) | (with_reducible exact Below.refl _ _) | ((with_reducible refine Below.alloc ?_ ?hsz _); (case hsz => (first | omega | (simp; done) | (simp; omega) | (simp at *; omega)))) | ((with_reducible refine Below.setCell ?_ ?hsz _); (case hsz => (first | omega | (simp; done) | (simp; omega) | (simp at *; omega)))) | (with_reducible refine Below.drew ?_) | (with_reducible refine below_drewN ?_ _) | ((with_reducible refine Below.trans ?_ (Below.mono (by with_reducible assumption) ?hsz)); (case hsz => (first | omega | (simp; done) | (simp; omega) | (simp at *; omega))))))))).mono ?_
  rintro e w1 ⟨A, m, c, rfl, hr1, hb1, hz1⟩
  have bx1 := bx0.keep (hb1.mono (by simp))
  rw [World.size_alloc] at hr1 hz1
  have hgo : Below w.heap.size w w1 := by (repeat (first | (with_reducible assumption) | (with_reducible exact Below.refl _ _) | ((with_reducible refine Below.alloc ?_ ?hsz _); (case hsz => (first | omega | (simp; done) | (simp; omega) | (simp at *; omega)))) | ((with_reducible refine Below.setCell ?_ ?hsz _); (case hsz => (first | omega | (simp; done) | (simp; omega) | (simp at *; omega)))) | (with_reducible refine Below.drew ?_) | (with_reducible refine below_drewN ?_ _) | ((with_reducible refine Below.trans ?_ (Below.mono (by with_reducible assumption) ?hsz)); (case hsz => (first | omega | (simp; done) | (simp; omega) | (simp at *; omega))))))
  go_wp2_with fail
  with_reducible refine (l20Net_any 9 (w.heap.size + 1) m c 0 A _ hr1 (by omega) (by omega) (by omega)).mono ?_
  rintro e w2 ⟨z, ps, u, rfl, hp2, hr2, hg2, hl8, hzl, hzh⟩
  have bx2 := bx1.grown hg2 (by simp)
  have hs2 := hg2.size
  have hb2 : Below w.heap.size w w2 := hgo.trans (below_grow hg2 (by omega) (fun q hq => by injection hq with hq; omega))
  obtain ⟨PA, pc, rfl, hc1, hc2, hsm, -⟩ := hp2.form
  unfold maxLen at hc2
  obtain ⟨bs, b0, b1, b2, b3⟩ := id bx2
  go_wp2
  refine bodyPost_ret (v := .agg #[.int .i64 z, .slice PA ps.length pc]) (by simp [results, Try.results10, go_sem, b0, b1]) rfl ⟨z, ps, _, rfl, ?_, ?_, hl8, hzl, hzh⟩
  · refine Pipes.mono (b := w1.heap.size) ?_ (by omega)
    (repeat (first | (with_reducible assumption) | ((with_reducible refine Pipes.setLow ?_ ?hsz); (case hsz => (first | omega | (simp; done) | (simp; omega) | (simp at *; omega)))) | (with_reducible refine Pipes.alloc' ?_ _) | (with_reducible refine Pipes.drew' ?_) | (with_reducible refine Pipes.drewN' ?_ _) | ((with_reducible refine Pipes.keep ?_ (by with_reducible assumption)))))
  · (repeat (first | (with_reducible assumption) | (with_reducible exact Below.refl _ _) | ((with_reducible refine Below.alloc ?_ ?hsz _); (case hsz => (first | omega | (simp; done) | (simp; omega) | (simp at *; omega)))) | ((with_reducible refine Below.setCell ?_ ?hsz _); (case hsz => (first | omega | (simp; done) | (simp; omega) | (simp at *; omega)))) | (with_reducible refine Below.drew ?_) | (with_reducible refine below_drewN ?_ _) | ((with_reducible refine Below.trans ?_ (Below.mono (by with_reducible assumption) ?hsz)); (case hsz => (first | omega | (simp; done) | (simp; omega) | (simp at *; omega))))))

set_option maxHeartbeats 1000000 in
set_option maxRecDepth 20000 in
theorem drawPiecesOf_any (v : Value) (n : Nat) (w : World) (h : ArgBytes w v n) : Calls Try.prog 20 #[v] w (DrawnNet w) := by
  have bx0 := Box2.new w (.int .i64 0) (.slice none 0 0) 25
  go_enter Try.func20, Try.ntmps20
  go_wp2_with fail
  refine (l20Open_any v n _ (h.keep (by (repeat (first | (with_reducible assumption) | (with_reducible exact Below.refl _ _) | ((with_reducible refine Below.alloc ?_ ?hsz _); (case hsz => (first | omega | (simp; done) | (simp; omega) | (simp at *; omega)))) | ((with_reducible refine Below.setCell ?_ ?hsz _); (case hsz => (first | omega | (simp; done) | (simp; omega) | (simp at *; omega)))) | (with_reducible refine Below.drew ?_) | (with_reducible refine below_drewN ?_ _) | ((with_reducible refine Below.trans ?_ (Below.mono (by with_reducible assumption) ?hsz)); (case hsz => (first | omega | (simp; done) | (simp; omega) | (simp at *; omega))))))))).mono ?_
  rintro e w1 ⟨A, m, c, rfl, hr1, hb1, hz1⟩
  have bx1 := bx0.keep (hb1.mono (by simp))
  rw [World.size_alloc] at hr1 hz1
  have hgo : Below w.heap.size w w1 := by (repeat (first | (with_reducible assumption) | (with_reducible exact Below.refl _ _) | ((with_reducible refine Below.alloc ?_ ?hsz _); (case hsz => (first | omega | (simp; done) | (simp; omega) | (simp at *; omega)))) | ((with_reducible refine Below.setCell ?_ ?hsz _); (case hsz => (first | omega | (simp; done) | (simp; omega) | (simp at *; omega)))) | (with_reducible refine Below.drew ?_) | (with_reducible refine below_drewN ?_ _) | ((with_reducible refine Below.trans ?_ (Below.mono (by with_reducible assumption) ?hsz)); (case hsz => (first | omega | (simp; done) | (simp; omega) | (simp at *; omega))))))
  go_wp2_with fail
  with_reducible refine (l20Net_any 9 (w.heap.size + 1) m c 0 A _ hr1 (by omega) (by omega) (by omega)).mono ?_
  rintro e w2 ⟨z, ps, u, rfl, hp2, hr2, hg2, hl8, hzl, hzh⟩
  have bx2 := bx1.grown hg2 (by simp)
  have hs2 := hg2.size
  have hb2 : Below w.heap.size w w2 := hgo.trans (below_grow hg2 (by omega) (fun q hq => by injection hq with hq; omega))
  obtain ⟨PA, pc, rfl, hc1, hc2, hsm, -⟩ := hp2.form
  unfold maxLen at hc2
  obtain ⟨bs, b0, b1, b2, b3⟩ := id bx2
  go_wp2
  refine bodyPost_ret (v := .agg #[.int .i64 z, .slice PA ps.length pc]) (by simp [results, Try.results20, go_sem, b0, b1]) rfl ⟨z, ps, _, rfl, ?_, ?_, hl8, hzl, hzh⟩
  · refine Pipes.mono (b := w1.heap.size) ?_ (by omega)
    (repeat (first | (with_reducible assumption) | ((with_reducible refine Pipes.setLow ?_ ?hsz); (case hsz => (first | omega | (simp; done) | (simp; omega) | (simp at *; omega)))) | (with_reducible refine Pipes.alloc' ?_ _) | (with_reducible refine Pipes.drew' ?_) | (with_reducible refine Pipes.drewN' ?_ _) | ((with_reducible refine Pipes.keep ?_ (by with_reducible assumption)))))
  · (repeat (first | (with_reducible assumption) | (with_reducible exact Below.refl _ _) | ((with_reducible refine Below.alloc ?_ ?hsz _); (case hsz => (first | omega | (simp; done) | (simp; omega) | (simp at *; omega)))) | ((with_reducible refine Below.setCell ?_ ?hsz _); (case hsz => (first | omega | (simp; done) | (simp; omega) | (simp at *; omega)))) | (with_reducible refine Below.drew ?_) | (with_reducible refine below_drewN ?_ _) | ((with_reducible refine Below.trans ?_ (Below.mono (by with_reducible assumption) ?hsz)); (case hsz => (first | omega | (simp; done) | (simp; omega) | (simp at *; omega))))))

/-- what is known of the world while a net and more are returned -/
structure ZSt (w : World) (rg m c K nb b : Nat) (A : Option Addr) (z : Int) (S : Value) (ps : List Pp) (F f : Nat) (wx : World) : Prop where
  fl : f ≤ F
  be : Below w.heap.size w wx
  rd : Rd wx rg A m c (K + (F - f) * 50)
  pi : Pipes wx b S ps
  nb : Box2 wx nb (.int .i64 z) S
  r2 : Box2 wx w.heap.size (.int .i64 0) (.slice none 0 0) ∨ Box2 wx w.heap.size (.int .i64 z) S

section
variable {w wx wy : World} {rg m c K nb b F f : Nat} {A : Option Addr} {z : Int} {S : Value} {ps : List Pp}
theorem ZSt.more (h : ZSt w rg m c K nb b A z S ps F (f + 1) wx) : ZSt w rg m c K nb b A z S ps F f wx :=
  ⟨Nat.le_of_succ_le h.fl, h.be, h.rd.more (by omega), h.pi, h.nb, h.r2⟩
theorem ZSt.picked (h : ZSt w rg m c K nb b A z S ps F (f + 1) wx) (hrg : rg = w.heap.size + 1) (hnb : rg < nb) (hb : rg < b) (hg : wx.grownBy wy (some rg)) (hr : Rd wy rg A m c (K + (F - (f + 1)) * 50 + 40)) : ZSt w rg m c K nb b A z S ps F f wy := by
  have hf := h.fl
  refine ⟨by omega, h.be.trans (below_grow (B := w.heap.size) hg h.be.size (fun q hq => by injection hq with hq; omega)), hr.more (by omega), h.pi.grown hg hb, h.nb.grown hg (by simp; omega), ?_⟩
  rcases h.r2 with q | q
  · exact .inl (q.grown hg (by simp; omega))
  · exact .inr (q.grown hg (by simp; omega))
theorem ZSt.set2 (h : ZSt w rg m c K nb b A z S ps F (f + 1) wx) (hA : lowA A m w.heap.size) (hrg : rg = w.heap.size + 1) (hnb : rg < nb) (hb : rg < b) :
    ZSt w rg m c K nb b A z S ps F f ((wx.setCell ⟨w.heap.size, 0, none⟩ (.int .i64 z)).setCell ⟨w.heap.size, 1, none⟩ S) := by
  have g1 : wx.grownBy (wx.setCell ⟨w.heap.size, 0, none⟩ (.int .i64 z)) (some w.heap.size) := grow_set (p := ⟨w.heap.size, 0, none⟩) (grow_refl wx _) (Or.inr rfl) _
  have hg : wx.grownBy ((wx.setCell ⟨w.heap.size, 0, none⟩ (.int .i64 z)).setCell ⟨w.heap.size, 1, none⟩ S) (some w.heap.size) := grow_set (p := ⟨w.heap.size, 1, none⟩) g1 (Or.inr rfl) S
  generalize hX : (wx.setCell ⟨w.heap.size, 0, none⟩ (.int .i64 z)).setCell ⟨w.heap.size, 1, none⟩ S = wz at hg ⊢
  have hb2 : Below w.heap.size w wz := by subst hX; exact (h.be.setCell (Nat.le_refl _) _).setCell (Nat.le_refl _) _
  have hb3 : Box2 wz w.heap.size (.int .i64 z) S := by
    subst hX
    rcases h.r2 with q | q
    · exact (q.set0 _).set1 _
    · exact (q.set0 _).set1 _
  exact ⟨Nat.le_of_succ_le h.fl, hb2, (h.rd.other hA hg (by omega) (Nat.le_refl _)).more (by omega), h.pi.grown hg (by omega), h.nb.grown hg (by simp; omega), .inr hb3⟩
end

/-- what the operations yield -/
def rsZ (rg nb L : Nat) (z : Int) (S : Value) : Nat → Value → Prop
  | 0, x => x = .agg #[.int .i64 z, S]
  | 1, x => x = .pointer (some ⟨rg, 0, none⟩)
  | 2, x => x = .pointer (some ⟨nb, 1, none⟩)
  | 3, x => x = S
  | 4, x => x = .int .i64 (L : Int)
  | 5, x => x = .int .i64 ((L : Int) + 1)
  | 6, x => ∃ y : Int, x = .int .i64 y ∧ 0 ≤ y ∧ y ≤ 8
  | 7, x => x = .pointer (some ⟨rg, 0, none⟩)
  | 8, x => ∃ y : Int, x = .int .i64 y ∧ 0 ≤ y ∧ y < 40
  | 9, x => ∃ y : Int, x = .int .i64 y ∧ 0 ≤ y ∧ y ≤ 1
  | 10, x => ∃ y : Int, x = .int .i64 y
  | 12, x => ∃ y : Int, x = .int .i64 y
  | _, _ => True
set_option maxHeartbeats 4000000 in
set_option maxRecDepth 20000 in
theorem drawRingSigns_any (v : Value) (n : Nat) (w : World) (h : ArgBytes w v n) : Calls Try.prog 31 #[v] w fun e w' => ∃ (z : Int) (ps : List Pp) (u : Value) (i : Int), e = .returned (.tuple #[.agg #[.int .i64 z, u], .int .i64 i]) ∧ Pipes w' w.heap.size u ps ∧ Below w.heap.size w w' ∧ ps.length ≤ 8 := by
  obtain ⟨A, c, rfl, hc1, hc2, hcell⟩ := id h
  have hlow : ∀ m, m ≤ n → lowA A m w.heap.size := fun m hm k hk => by
    obtain ⟨g, o, x, hA, hg, -⟩ := hcell k (by omega)
    exact ⟨g, o, hA, hg⟩
  have HLOW := Lib.hid hlow
  clear hlow hcell
  have bx0 := Box2.new w (.int .i64 0) (.slice none 0 0) 25
  go_enter Try.func31, Try.ntmps31
  go_wp2_with fail
  refine (l20Open_same A c n _ (h.keep (by (repeat (first | (with_reducible assumption) | (with_reducible exact Below.refl _ _) | ((with_reducible refine Below.alloc ?_ ?hsz _); (case hsz => (first | omega | (simp; done) | (simp; omega) | (simp at *; omega)))) | ((with_reducible refine Below.setCell ?_ ?hsz _); (case hsz => (first | omega | (simp; done) | (simp; omega) | (simp at *; omega)))) | (with_reducible refine Below.drew ?_) | (with_reducible refine below_drewN ?_ _) | ((with_reducible refine Below.trans ?_ (Below.mono (by with_reducible assumption) ?hsz)); (case hsz => (first | omega | (simp; done) | (simp; omega) | (simp at *; omega))))))))).mono ?_
  rintro e w1 ⟨m, rfl, hr1, hmn, hb1, hz1⟩
  have bx1 := bx0.keep (hb1.mono (by simp))
  rw [World.size_alloc] at hr1 hz1
  have hgo : Below w.heap.size w w1 := by (repeat (first | (with_reducible assumption) | (with_reducible exact Below.refl _ _) | ((with_reducible refine Below.alloc ?_ ?hsz _); (case hsz => (first | omega | (simp; done) | (simp; omega) | (simp at *; omega)))) | ((with_reducible refine Below.setCell ?_ ?hsz _); (case hsz => (first | omega | (simp; done) | (simp; omega) | (simp at *; omega)))) | (with_reducible refine Below.drew ?_) | (with_reducible refine below_drewN ?_ _) | ((with_reducible refine Below.trans ?_ (Below.mono (by with_reducible assumption) ?hsz)); (case hsz => (first | omega | (simp; done) | (simp; omega) | (simp at *; omega))))))
  clear bx0 hb1 hc1 hc2 h
  go_wp2_with fail
  with_reducible refine (l20Net_any 12 (w.heap.size + 1) m c 0 A _ hr1 (by omega) (by omega) (by omega)).mono ?_
  rintro e w2 ⟨z, ps, u, rfl, hp2, hr2, hg2, hl8, hzl, hzh⟩
  have bx2 := bx1.grown hg2 (by simp)
  have hs2 := hg2.size
  have hb2 : Below w.heap.size w w2 := hgo.trans (below_grow hg2 (by omega) (fun q hq => by injection hq with hq; omega))
  obtain ⟨PA, pc, rfl, hc1, hc2, hsm, -⟩ := hp2.form
  unfold maxLen at hc2
  have nb2 : Box2 (w2.alloc (.cells #[.int .i64 z, .slice PA ps.length pc] 25)) w2.heap.size (.int .i64 z) (.slice PA ps.length pc) := Box2.new _ _ _ _
  have bx3 := bx2.keep ((Below.refl _ _).alloc (Nat.le_refl _) (.cells #[.int .i64 z, .slice PA ps.length pc] 25))
  have hp3 := hp2.alloc' (.cells #[.int .i64 z, .slice PA ps.length pc] 25)
  have hr3 := hr2.alloc' (.cells #[.int .i64 z, .slice PA ps.length pc] 25)
  have hb3 := hb2.alloc hb2.size (.cells #[.int .i64 z, .slice PA ps.length pc] 25)
  have hrn : w.heap.size + 1 < w2.heap.size := by omega
  have hrb : w.heap.size + 1 < w1.heap.size := by omega
  have HA := Lib.hid (HLOW.out m hmn)
  clear HLOW bx1 hg2 hr1 hr2 hp2 bx2 hb2 hs2 hgo hz1
  go_wp2_with fail
  generalize hW : World.alloc w2 _ = w3 at *
  have st3 : ZSt w (w.heap.size + 1) m c (0 + 100) w2.heap.size w1.heap.size A z (.slice PA ps.length pc) ps 13 13 { w3 with drawn := w3.drawn + 1 } :=
    ⟨Nat.le_refl _, ⟨hb3.os, hb3.tape, hb3.output, hb3.size, hb3.block⟩, (hr3.drew).more (by omega), hp3, nb2, .inl bx3⟩
  clear hW hb3 hr3 hp3 nb2 bx3
  generalize hnb : w2.heap.size = nb at *
  generalize hbb : w1.heap.size = bb at *
  clear hnb hbb
  refine wp_region_flow 13 none [(0, 10), (1, 11), (2, 12), (3, 13), (4, 14), (5, 15), (6, 16), (7, 17), (8, 18), (9, 19), (10, 20), (12, 3)] (fun j x _ _ => rsZ (w.heap.size + 1) nb ps.length z (.slice PA ps.length pc) j x) (fun _ _ _ => True) (fun f wx => ZSt w (w.heap.size + 1) m c (0 + 100) nb bb A z (.slice PA ps.length pc) ps 13 f wx) (by kernel_rfl) (by kernel_rfl) rfl st3 ?_ ?_ ?_ ?_
  · exact fun _ _ _ _ _ _ _ _ _ _ h => h
  · exact fun _ _ _ _ _ _ _ h => h
  · simp (maxSteps := 4000000) only [eachOp, fillF, List.setIfInBounds_toArray, List.set_cons_succ, List.set_cons_zero]
    refine ⟨?_, ?_, ?_, ?_, ?_, ?_, ?_, ?_, ?_, ?_, ?_, ?_, ?_, trivial⟩ <;> intro u f wx hC hd <;> (try simp [allV, useOf, Region.binds] at hd)
    · obtain ⟨nx, n0, n1, n2, n3⟩ := id hC.nb
      go_wp2
      exact ⟨_, rfl, rfl, trivial, hC.more⟩
    · go_wp2
      exact ⟨_, rfl, rfl, trivial, hC.more⟩
    · go_wp2
      exact ⟨_, rfl, rfl, trivial, hC.more⟩
    · rw [show u 2 = _ from (by first | exact hd | exact hd.1 | exact hd.2 | exact hd.2.1 | exact hd.2.2 | exact hd.2.2.1 | exact hd.2.2.2 | exact hd.2.2.2.1 | exact hd.2.2.2.2)]
      obtain ⟨nx, n0, n1, n2, n3⟩ := id hC.nb
      go_wp2
      exact ⟨_, rfl, rfl, trivial, hC.more⟩
    · rw [show u 3 = _ from (by first | exact hd | exact hd.1 | exact hd.2 | exact hd.2.1 | exact hd.2.2 | exact hd.2.2.1 | exact hd.2.2.2 | exact hd.2.2.2.1 | exact hd.2.2.2.2)]
      go_wp2
      exact ⟨_, rfl, rfl, trivial, hC.more⟩
    · rw [show u 4 = _ from (by first | exact hd | exact hd.1 | exact hd.2 | exact hd.2.1 | exact hd.2.2 | exact hd.2.2.1 | exact hd.2.2.2 | exact hd.2.2.2.1 | exact hd.2.2.2.2)]
      go_wp2
      exact ⟨_, rfl, rfl, trivial, hC.more⟩
    · rw [show u 1 = _ from (by first | exact hd | exact hd.1 | exact hd.2 | exact hd.2.1 | exact hd.2.2 | exact hd.2.2.1 | exact hd.2.2.2 | exact hd.2.2.2.1 | exact hd.2.2.2.2), show u 5 = _ from (by first | exact hd | exact hd.1 | exact hd.2 | exact hd.2.1 | exact hd.2.2 | exact hd.2.2.1 | exact hd.2.2.2 | exact hd.2.2.2.1 | exact hd.2.2.2.2)]
      go_wp2_with fail
      refine (pick_any ((ps.length : Int) + 1) (w.heap.size + 1) m c _ A _ hC.rd (by omega) (by omega) (by omega)).mono ?_
      rintro e w5 ⟨x, rfl, x0, x1, hr5, hg5, hz5⟩
      have hC5 := hC.picked rfl hrn hrb hg5 (hr5.more (by omega))
      clear hC hr5 hg5 hz5
      go_wp2
      exact ⟨_, rfl, ⟨x, rfl, x0, by omega⟩, trivial, hC5⟩
    · go_wp2
      exact ⟨_, rfl, rfl, trivial, hC.more⟩
    · rw [show u 7 = _ from (by first | exact hd | exact hd.1 | exact hd.2 | exact hd.2.1 | exact hd.2.2 | exact hd.2.2.1 | exact hd.2.2.2 | exact hd.2.2.2.1 | exact hd.2.2.2.2)]
      go_wp2_with fail
      refine (pick_any 40 (w.heap.size + 1) m c _ A _ hC.rd (by omega) (by omega) (by omega)).mono ?_
      rintro e w5 ⟨x, rfl, x0, x1, hr5, hg5, hz5⟩
      have hC5 := hC.picked rfl hrn hrb hg5 (hr5.more (by omega))
      clear hC hr5 hg5 hz5
      go_wp2
      exact ⟨_, rfl, ⟨x, rfl, x0, x1⟩, trivial, hC5⟩
    · obtain ⟨x, h8, x0, x1⟩ : ∃ y : Int, u 8 = .int .i64 y ∧ 0 ≤ y ∧ y < 40 := hd
      rw [h8]
      have ht : x.tdiv 39 = x / 39 := Int.tdiv_eq_ediv_of_nonneg x0
      have hw : IntKind.i64.wrap (x / 39) = x / 39 := IntWalk.i64_in _ (by omega)
      go_wp2
      exact ⟨_, rfl, ⟨_, rfl, by omega, by omega⟩, trivial, hC.more⟩
    · obtain ⟨⟨x, h6, x0, x1⟩, y, h9, y0, y1⟩ : (∃ y : Int, u 6 = .int .i64 y ∧ 0 ≤ y ∧ y ≤ 8) ∧ ∃ y : Int, u 9 = .int .i64 y ∧ 0 ≤ y ∧ y ≤ 1 := hd
      rw [h6, h9]
      go_wp2
      exact ⟨_, rfl, ⟨_, rfl⟩, trivial, hC.more⟩
    · rw [show u 0 = _ from (by first | exact hd | exact hd.1 | exact hd.2 | exact hd.2.1 | exact hd.2.2 | exact hd.2.2.1 | exact hd.2.2.2 | exact hd.2.2.2.1 | exact hd.2.2.2.2)]
      have HS := Lib.hid (hC.set2 HA.out rfl hrn hrb)
      rcases hC.r2 with r | r
      all_goals
        obtain ⟨e0, e1, e2, e3, e4⟩ := id r
        clear r hC
        go_wp2
        exact ⟨undef, rfl, trivial, trivial, HS.out⟩
    · obtain ⟨x, h10⟩ : ∃ y : Int, u 10 = .int .i64 y := hd
      rw [h10]
      go_wp2
      exact ⟨_, rfl, ⟨_, rfl⟩, trivial, hC.more⟩
  · intro u f wx hC hfin
    simp only [fillEnd, fillF, Act.put, List.setIfInBounds_toArray, List.set_cons_succ, List.set_cons_zero]
    obtain ⟨iv, h12⟩ : ∃ y : Int, u 12 = .int .i64 y := hfin 12 (by decide) (by decide)
    rw [h12]
    have HPI := Lib.hid (And.intro (hC.pi.mono (b' := w.heap.size) (by omega)) hC.be)
    rcases hC.r2 with r | r
    · obtain ⟨r0, r1, r2, r3, r4⟩ := r
      clear hC
      go_wp2
      refine bodyPost_ret (v := .tuple #[.agg #[.int .i64 0, .slice none 0 0], .int .i64 iv]) (by simp [results, Try.results31, go_sem, r1, r2]) rfl ⟨0, [], _, iv, rfl, Pipes_nil _ _, HPI.out.2, by simp⟩
    · obtain ⟨r0, r1, r2, r3, r4⟩ := r
      clear hC
      go_wp2
      refine bodyPost_ret (v := .tuple #[.agg #[.int .i64 z, .slice PA ps.length pc], .int .i64 iv]) (by simp [results, Try.results31, go_sem, r1, r2]) rfl ⟨z, ps, _, iv, rfl, HPI.out.1, HPI.out.2, hl8⟩

set_option maxHeartbeats 4000000 in
set_option maxRecDepth 20000 in
theorem l20Heights_any (z : Int) (rg m c K L pc : Nat) (A PA : Option Addr) (w : World) (h : Rd w rg A m c K) (hK : K ≤ 50000) (hz : z ≤ 6) :
    Calls Try.prog 51 #[.pointer (some ⟨rg, 0, none⟩), .agg #[.int .i64 z, .slice PA L pc]] w fun e w' => ∃ (r : Value) (hs : List Int), e = .returned r ∧ Ints w' w.heap.size r hs ∧ Rd w' rg A m c (K + 30) ∧ w.grownBy w' (some rg) ∧ hs.length ≤ 7 := by
  have hrg := h.1
  obtain ⟨j0, hj0, hy0, hy1, hy2⟩ := info_parts int_info
  have bx0 := (Box2.new w (.int .i64 z) (.slice PA L pc) 25).keep ((Below.refl _ _).alloc (Nat.le_refl _) (.cells #[] 3))
  have hR0 : Row ((w.alloc (.cells #[.int .i64 z, .slice PA L pc] 25)).alloc (.cells #[] 3)) (w.heap.size + 1) (w.heap.size + 1) 0 0 [] := by
    have h := World.ownsRow_lit (e := 3) (base := w.heap.size + 1) (size := 1) (w.alloc (.cells #[.int .i64 z, .slice PA L pc] 25)) #[] 0 (by simp) (by simp [maxLen]) rfl
    rw [World.size_alloc] at h
    exact ⟨h, by simp [small]⟩
  have hr0 := (h.alloc' (.cells #[.int .i64 z, .slice PA L pc] 25)).alloc' (.cells #[] 3)
  have hg0 : w.grownBy ((w.alloc (.cells #[.int .i64 z, .slice PA L pc] 25)).alloc (.cells #[] 3)) (some rg) := grow_alloc (grow_alloc (grow_refl w _) _) _
  clear h
  go_enter Try.func51, Try.ntmps51
  go_wp2
  go_loopw [6, 5] (fun a b wr => ∃ (k g1 c1 : Nat) (hs : List Int), k ≤ 6 ∧ a = .int .i64 (k : Int) ∧ b = .slice (some ⟨g1, 0, none⟩) k c1 ∧ Row wr (w.heap.size + 1) g1 k c1 hs ∧ Rd wr rg A m c (K + 2 * k) ∧ Box2 wr w.heap.size (.int .i64 z) (.slice PA L pc) ∧ w.grownBy wr (some rg)) (fun a _ _ => 6 - (intOf a).toNat)
  case atStart => exact ⟨0, w.heap.size + 1, 0, [], by omega, rfl, rfl, hR0, hr0, bx0, hg0⟩
  case round =>
    clear hR0 hr0 bx0 hg0
    obtain ⟨k, g1, c1, hs, hk, rfl, rfl, hR, hr, bx, hg⟩ := hrel
    obtain ⟨bs, d0, d1, f0, f1⟩ := id bx
    have hgl := hR.lt
    by_cases hlt : (k : Int) < z
    · go_wp2_with fail
      refine (pick_any 13 rg m c (K + 2 * k) A _ hr (by omega) (by omega) (by omega)).mono ?_
      rintro e w3 ⟨x3, rfl, x30, x31, hr3, hg3, hz3⟩
      have hR3 := hR.grown hg3 (by intro e; injection e with e; omega)
      have bx3 := bx.grown hg3 (by simp; omega)
      have hgw3 := grow_more hg hg3 (fun q hq => .inr hq)
      clear hR hr bx hg hg3 bs d0 d1 f0 f1
      obtain ⟨bs, d0, d1, f0, f1⟩ := id bx3
      go_wp2_with fail
      refine (pick_any 60 rg m c (K + 2 * k + 1) A _ hr3 (by omega) (by omega) (by omega)).mono ?_
      rintro e w4 ⟨x4, rfl, x40, x41, hr4, hg4, hz4⟩
      have hR4 := hR3.grown hg4 (by intro e; injection e with e; omega)
      have bx4 := bx3.grown hg4 (by simp; omega)
      have hgw4 := grow_more hgw3 hg4 (fun q hq => .inr hq)
      clear hR3 hr3 bx3 hgw3 hg4 bs d0 d1 f0 f1
      obtain ⟨bs, d0, d1, f0, f1⟩ := id bx4
      have ht : x4.tdiv 59 = x4 / 59 := Int.tdiv_eq_ediv_of_nonneg x40
      have hq0 : 0 ≤ x4 / 59 := by omega
      have hq1 : x4 / 59 ≤ 1 := by omega
      have hw1 := IntWalk.i64_in (x4 / 59) (by omega)
      generalize x4 / 59 = y at *
      have hw2 := IntWalk.i64_in (y * 40) (by omega)
      have hw3 := IntWalk.wrap64_in (y * 40) (by omega)
      have hown := hR4.1
      have hcap := hR4.capd
      unfold maxLen at hcap
      have hrow : ∀ q, (Value.slice (some ⟨g1, 0, none⟩) k c1).ownBlock = some q → w.heap.size + 1 ≤ q := fun q hq => (hown.lt q hq).1
      have hs4 := hgw4.size
      clear hz3 hz4
      go_wp2_with (first
        | (at_builtin
           go_must (refine wpList_append_lies _ rfl _ _ 27 rfl (w.heap.size + 1) 3 j0 _ 1 8 Try.underlying27 hj0 hy0 hy1 hy2 rfl (by omega) _ k _ rfl (hown.alloc _) ⟨w4.heap.size, 0, none⟩ 1 1 [.int .i64 (x3 - 6 + y * 40)] rfl rfl (World.news_of_block (cs := #[.int .i64 (x3 - 6 + y * 40)]) (t := 3) (fr := (0, 0)) (heap_alloc_new _ _)) (by simp [Value.oneCell']) (by omega) (by unfold maxLen; omega) (by omega) (by have := hR4.lt; simp; omega) _ rfl ?_)
           intro g2 k2 w7 hown7 hgr7 hat7 hlt7))
      have bx7 := (bx4.keep ((Below.refl _ _).alloc (Nat.le_refl _) _)).grown hgr7 (by intro h; have := hrow _ h.symm; omega)
      have hr7 := (hr4.alloc' (.cells #[.int .i64 (x3 - 6 + y * 40)] 3)).low (below_grow hgr7 (by simp; omega) (fun q hq => by have := hrow q hq; omega))
      have hg7 : w.grownBy w7 (some rg) := grow_more (grow_alloc hgw4 _) hgr7 (fun q hq => .inl (by have := hrow q hq; omega))
      have hR8 : Row w7 (w.heap.size + 1) g2 (k + 1) k2 (hs ++ [x3 - 6 + y * 40]) := ⟨by rw [List.map_append]; exact hown7, by unfold small; omega⟩
      clear hown7 hgr7 hat7 hlt7 bx4 hown hrow hR4 hr4 hgw4 ht
      go_wp2
      go_roundw
      case rel => exact ⟨k + 1, g2, k2, _, by omega, by go_num, rfl, hR8, hr7.more (by omega), bx7, hg7⟩
      case measure => simp [intOf]; omega
    · go_wp2_with fail
      refine (odd_any 20 rg m c (K + 2 * k) A _ hr (by omega) (by omega) (by omega)).mono ?_
      rintro e w3 ⟨ob, rfl, hr3, hg3, hz3⟩
      have hR3 := hR.grown hg3 (by intro e; injection e with e; omega)
      have hgw3 := grow_more hg hg3 (fun q hq => .inr hq)
      have hln := hR3.len
      cases ob with
      | false =>
        go_wp2
        go_ret
        exact ⟨_, hs, rfl, hR3.ints.mono (by omega), hr3.more (by omega), hgw3, by omega⟩
      | true =>
        have hown := hR3.1
        have hcap := hR3.capd
        unfold maxLen at hcap
        have hrow : ∀ q, (Value.slice (some ⟨g1, 0, none⟩) k c1).ownBlock = some q → w.heap.size + 1 ≤ q := fun q hq => (hown.lt q hq).1
        have hs4 := hgw3.size
        clear hz3
        go_wp2_with (first
          | (at_builtin
             go_must (refine wpList_append_lies _ rfl _ _ 27 rfl (w.heap.size + 1) 3 j0 _ 1 8 Try.underlying27 hj0 hy0 hy1 hy2 rfl (by omega) _ k _ rfl (hown.alloc _) ⟨w3.heap.size, 0, none⟩ 1 1 [.int .i64 0] rfl rfl (World.news_of_block (cs := #[.int .i64 0]) (t := 3) (fr := (0, 0)) (heap_alloc_new _ _)) (by simp [Value.oneCell']) (by omega) (by unfold maxLen; omega) (by omega) (by have := hR3.lt; simp; omega) _ rfl ?_)
             intro g2 k2 w7 hown7 hgr7 hat7 hlt7))
        have hr7 := (hr3.alloc' (.cells #[.int .i64 0] 3)).low (below_grow hgr7 (by simp; omega) (fun q hq => by have := hrow q hq; omega))
        have hg7 : w.grownBy w7 (some rg) := grow_more (grow_alloc hgw3 _) hgr7 (fun q hq => .inl (by have := hrow q hq; omega))
        have hR8 : Row w7 (w.heap.size + 1) g2 (k + 1) k2 (hs ++ [0]) := ⟨by rw [List.map_append]; exact hown7, by unfold small; omega⟩
        clear hown7 hgr7 hat7 hlt7 hown hrow hR3 hr3 hgw3
        go_wp2
        go_ret
        exact ⟨_, hs ++ [0], rfl, hR8.ints.mono (by omega), hr7.more (by omega), hg7, by rw [List.length_append]; simp; omega⟩

/-- what the operations yield -/
def teZ (rg B : Nat) (z : Int) (S : Value) : Nat → Value → World → Prop
  | 0, x, _ => x = .agg #[.int .i64 z, S]
  | 1, x, _ => x = .pointer (some ⟨rg, 0, none⟩)
  | 2, x, _ => x = .agg #[.int .i64 z, S]
  | 3, x, w => ∃ hs, Ints w B x hs
  | 5, x, w => ∃ hs, Ints w B x hs
  | _, _, _ => True
theorem teZ_keep {rg B C : Nat} {z : Int} {S x : Value} {k' : Nat} {w w' : World} (hCB : C + 2 ≤ B) (hR : ∃ q, q ≤ C + 1 ∧ w.grownBy w' (some q)) (h : teZ rg B z S k' x w) : teZ rg B z S k' x w' := by
  revert h
  unfold teZ
  split <;> intro h <;> first
    | exact h
    | (obtain ⟨hs, h1⟩ := h
       obtain ⟨q, hq, hg⟩ := hR
       exact ⟨hs, h1.1.kept hg (.inr (fun e => by have := (h1.1.lt q e).1; omega)), h1.2⟩)
theorem zset_grown (wx : World) (g : Nat) (z : Int) (S : Value) : wx.grownBy ((wx.setCell ⟨g, 0, none⟩ (.int .i64 z)).setCell ⟨g, 1, none⟩ S) (some g) :=
  grow_set (p := ⟨g, 1, none⟩) (grow_set (p := ⟨g, 0, none⟩) (grow_refl wx _) (Or.inr rfl) _) (Or.inr rfl) S

set_option maxHeartbeats 4000000 in
set_option maxRecDepth 20000 in
theorem drawTensionOf_any (v : Value) (n : Nat) (w : World) (h : ArgBytes w v n) : Calls Try.prog 24 #[v] w fun e w' => ∃ (z : Int) (ps : List Pp) (u : Value) (hs : List Int) (t : Value), e = .returned (.tuple #[.agg #[.int .i64 z, u], t]) ∧ Pipes w' w.heap.size u ps ∧ Ints w' w.heap.size t hs ∧ Below w.heap.size w w' ∧ ps.length ≤ 8 := by
  obtain ⟨A, c, rfl, hc1, hc2, hcell⟩ := id h
  have hlow : ∀ m, m ≤ n → lowA A m w.heap.size := fun m hm k hk => by
    obtain ⟨g, o, x, hA, hg, -⟩ := hcell k (by omega)
    exact ⟨g, o, hA, hg⟩
  have HLOW := Lib.hid hlow
  clear hlow hcell
  have bx0 := Box2.new w (.int .i64 0) (.slice none 0 0) 25
  go_enter Try.func24, Try.ntmps24
  go_wp2_with fail
  refine (l20Open_same A c n _ (h.keep (by (repeat (first | (with_reducible assumption) | (with_reducible exact Below.refl _ _) | ((with_reducible refine Below.alloc ?_ ?hsz _); (case hsz => (first | omega | (simp; done) | (simp; omega) | (simp at *; omega)))) | ((with_reducible refine Below.setCell ?_ ?hsz _); (case hsz => (first | omega | (simp; done) | (simp; omega) | (simp at *; omega)))) | (with_reducible refine Below.drew ?_) | (with_reducible refine below_drewN ?_ _) | ((with_reducible refine Below.trans ?_ (Below.mono (by with_reducible assumption) ?hsz)); (case hsz => (first | omega | (simp; done) | (simp; omega) | (simp at *; omega))))))))).mono ?_
  rintro e w1 ⟨m, rfl, hr1, hmn, hb1, hz1⟩
  have bx1 := bx0.keep (hb1.mono (by simp))
  rw [World.size_alloc] at hr1 hz1
  have hgo : Below w.heap.size w w1 := by (repeat (first | (with_reducible assumption) | (with_reducible exact Below.refl _ _) | ((with_reducible refine Below.alloc ?_ ?hsz _); (case hsz => (first | omega | (simp; done) | (simp; omega) | (simp at *; omega)))) | ((with_reducible refine Below.setCell ?_ ?hsz _); (case hsz => (first | omega | (simp; done) | (simp; omega) | (simp at *; omega)))) | (with_reducible refine Below.drew ?_) | (with_reducible refine below_drewN ?_ _) | ((with_reducible refine Below.trans ?_ (Below.mono (by with_reducible assumption) ?hsz)); (case hsz => (first | omega | (simp; done) | (simp; omega) | (simp at *; omega))))))
  clear bx0 hb1 hc1 hc2 h
  go_wp2_with fail
  with_reducible refine (l20Net_any 12 (w.heap.size + 1) m c 0 A _ hr1 (by omega) (by omega) (by omega)).mono ?_
  rintro e w2 ⟨z, ps, u, rfl, hp2, hr2, hg2, hl8, hzl, hzh⟩
  have bx2 := bx1.grown hg2 (by simp)
  have hs2 := hg2.size
  have hb2 : Below w.heap.size w w2 := hgo.trans (below_grow hg2 (by omega) (fun q hq => by injection hq with hq; omega))
  obtain ⟨PA, pc, rfl, hc1, hc2, hsm, -⟩ := hp2.form
  unfold maxLen at hc2
  have nb2 : Box2 (w2.alloc (.cells #[.int .i64 z, .slice PA ps.length pc] 25)) w2.heap.size (.int .i64 z) (.slice PA ps.length pc) := Box2.new _ _ _ _
  have bx3 := bx2.keep ((Below.refl _ _).alloc (Nat.le_refl _) (.cells #[.int .i64 z, .slice PA ps.length pc] 25))
  have hp3 := hp2.alloc' (.cells #[.int .i64 z, .slice PA ps.length pc] 25)
  have hr3 := hr2.alloc' (.cells #[.int .i64 z, .slice PA ps.length pc] 25)
  have hb3 := hb2.alloc hb2.size (.cells #[.int .i64 z, .slice PA ps.length pc] 25)
  have hrn : w.heap.size + 1 < w2.heap.size := by omega
  have hrb : w.heap.size + 1 < w1.heap.size := by omega
  have HA := Lib.hid (HLOW.out m hmn)
  clear HLOW bx1 hg2 hr1 hr2 hp2 bx2 hb2 hs2 hgo hz1
  go_wp2_with fail
  generalize hW : World.alloc w2 _ = w3 at *
  have st3 : ZSt w (w.heap.size + 1) m c (0 + 100) w2.heap.size w1.heap.size A z (.slice PA ps.length pc) ps 6 6 { w3 with drawn := w3.drawn + 1 } :=
    ⟨Nat.le_refl _, ⟨hb3.os, hb3.tape, hb3.output, hb3.size, hb3.block⟩, (hr3.drew).more (by omega), hp3, nb2, .inl bx3⟩
  clear hW hb3 hr3 hp3 nb2 bx3
  generalize hnb : w2.heap.size = nb at *
  generalize hbb : w1.heap.size = bb at *
  clear hnb hbb
  refine wp_region_flow 6 none [(0, 10), (1, 11), (2, 12), (3, 13), (5, 3)] (fun j x _ wx => teZ (w.heap.size + 1) (w.heap.size + 2) z (.slice PA ps.length pc) j x wx) (fun _ wa wb => ∃ q, q ≤ w.heap.size + 1 ∧ wa.grownBy wb (some q)) (fun f wx => ZSt w (w.heap.size + 1) m c (0 + 100) nb bb A z (.slice PA ps.length pc) ps 6 f wx) (by kernel_rfl) (by kernel_rfl) rfl st3 ?_ ?_ ?_ ?_
  · exact fun _ k _ _ _ x _ wa wb hR h => teZ_keep (k' := k) (Nat.le_refl _) hR h
  · exact fun _ _ _ _ _ _ _ h => h
  · simp (maxSteps := 4000000) only [eachOp, fillF, List.setIfInBounds_toArray, List.set_cons_succ, List.set_cons_zero]
    refine ⟨?_, ?_, ?_, ?_, ?_, ?_, trivial⟩ <;> intro u f wx hC hd <;> (try simp [allV, useOf, Region.binds] at hd)
    · obtain ⟨nx, n0, n1, n2, n3⟩ := id hC.nb
      go_wp2
      exact ⟨_, rfl, rfl, ⟨w.heap.size, by omega, grow_refl _ _⟩, hC.more⟩
    · go_wp2
      exact ⟨_, rfl, rfl, ⟨w.heap.size, by omega, grow_refl _ _⟩, hC.more⟩
    · obtain ⟨nx, n0, n1, n2, n3⟩ := id hC.nb
      go_wp2
      exact ⟨_, rfl, rfl, ⟨w.heap.size, by omega, grow_refl _ _⟩, hC.more⟩
    · rw [show u 1 = _ from (by first | exact hd | exact hd.1 | exact hd.2 | exact hd.2.1 | exact hd.2.2 | exact hd.2.2.1 | exact hd.2.2.2 | exact hd.2.2.2.1 | exact hd.2.2.2.2), show u 2 = _ from (by first | exact hd | exact hd.1 | exact hd.2 | exact hd.2.1 | exact hd.2.2 | exact hd.2.2.1 | exact hd.2.2.2 | exact hd.2.2.2.1 | exact hd.2.2.2.2)]
      go_wp2_with fail
      refine (l20Heights_any z (w.heap.size + 1) m c _ _ _ A _ _ hC.rd (by omega) hzh).mono ?_
      rintro e w5 ⟨r5, hs5, rfl, hi5, hr5, hg5, -⟩
      have hC5 := hC.picked rfl hrn hrb hg5 (hr5.more (by omega))
      have hbe := hC.be.size
      have hnl := hC.nb.1
      clear hC hr5
      go_wp2
      exact ⟨_, rfl, ⟨hs5, hi5.mono (by omega)⟩, ⟨w.heap.size + 1, Nat.le_refl _, hg5⟩, hC5⟩
    · rw [show u 0 = _ from (by first | exact hd | exact hd.1 | exact hd.2 | exact hd.2.1 | exact hd.2.2 | exact hd.2.2.1 | exact hd.2.2.2 | exact hd.2.2.2.1 | exact hd.2.2.2.2)]
      have HS := Lib.hid (hC.set2 HA.out rfl hrn hrb)
      have HG := Lib.hid (zset_grown wx w.heap.size z (.slice PA ps.length pc))
      rcases hC.r2 with r | r
      all_goals
        obtain ⟨e0, e1, e2, e3, e4⟩ := id r
        clear r hC
        go_wp2
        exact ⟨undef, rfl, trivial, ⟨w.heap.size, by omega, HG.out⟩, HS.out⟩
      
    · have h3 : ∃ hs, Ints wx (w.heap.size + 2) (u 3) hs := hd
      go_wp2
      exact ⟨_, rfl, h3, ⟨w.heap.size, by omega, grow_refl _ _⟩, hC.more⟩
  · intro u f wx hC hfin
    simp only [fillEnd, fillF, Act.put, List.setIfInBounds_toArray, List.set_cons_succ, List.set_cons_zero]
    obtain ⟨hs, h5⟩ : ∃ hs, Ints wx (w.heap.size + 2) (u 5) hs := hfin 5 (by decide) (by decide)
    obtain ⟨HA5, hc5, ev, -, -, -, -⟩ := h5.form
    rw [ev]
    have HPI := Lib.hid (And.intro (hC.pi.mono (b' := w.heap.size) (by omega)) (And.intro hC.be (h5.mono (b' := w.heap.size) (by omega))))
    rcases hC.r2 with r | r
    · obtain ⟨r0, r1, r2, r3, r4⟩ := r
      clear hC
      go_wp2
      refine bodyPost_ret (v := .tuple #[.agg #[.int .i64 0, .slice none 0 0], .slice HA5 hs.length hc5]) (by simp [results, Try.results24, go_sem, r1, r2]) rfl ⟨0, [], _, hs, _, rfl, Pipes_nil _ _, by have := HPI.out.2.2; rw [ev] at this; exact this, HPI.out.2.1, by simp⟩
    · obtain ⟨r0, r1, r2, r3, r4⟩ := r
      clear hC
      go_wp2
      refine bodyPost_ret (v := .tuple #[.agg #[.int .i64 z, .slice PA ps.length pc], .slice HA5 hs.length hc5]) (by simp [results, Try.results24, go_sem, r1, r2]) rfl ⟨z, ps, _, hs, _, rfl, HPI.out.1, by have := HPI.out.2.2; rw [ev] at this; exact this, HPI.out.2.1, hl8⟩

end Go.Proofs.Ytmeicnhlehdboaa
