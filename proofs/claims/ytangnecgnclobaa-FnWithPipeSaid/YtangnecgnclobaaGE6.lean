/- Plain facts. -/
import Derived.Test.YtangnecgnclobaaGE19
import Derived.Test.YtangnecgnclobaaGE18
/- Readers whose bytes lie in older blocks. -/
namespace Go.Proofs.Ytangnecgnclobaa
open Go.RowKit

/-- the bytes that a reader reads lie in older blocks than B -/
def lowA (A : Option Addr) (m B : Nat) : Prop := ∀ k, k < m → ∃ g o, A = some ⟨g, o, none⟩ ∧ g < B

theorem Rd.other {w w' : World} {rg m c K B q : Nat} {A : Option Addr} (h : Rd w rg A m c K) (hA : lowA A m B) (hg : w.grownBy w' (some q)) (hq : q ≠ rg) (hB : B ≤ q) : Rd w' rg A m c K := by
  obtain ⟨h1, h2, h3, ⟨p, h4, h5⟩, h6, h7, h8, h9⟩ := h
  have hne : some rg ≠ some q := fun e => hq (by injection e with e; exact e.symm)
  refine ⟨Nat.lt_of_lt_of_le h1 hg.size, (hg.cell_far ⟨rg, _, none⟩ h1 hne).trans h2, (hg.frozen_far ⟨rg, _, none⟩ h1 hne).trans h3, ⟨p, (hg.cell_far ⟨rg, _, none⟩ h1 hne).trans h4, h5⟩, h6, h7, h8, fun k hk => ?_⟩
  obtain ⟨g, o, x, hA', hgl, hc, hx⟩ := h9 k hk
  obtain ⟨g2, o2, e2, hg2⟩ := hA k hk
  rw [hA'] at e2
  injection e2 with e2
  injection e2 with e2
  subst e2
  have hne2 : some g ≠ some q := fun e => by
    injection e with e
    omega
  exact ⟨g, o, x, hA', hgl, (hg.cell_far ⟨g, _, none⟩ (Nat.lt_trans hgl h1) hne2).trans hc, hx⟩

theorem l20Open_same (A : Option Addr) (c n : Nat) (w : World) (h : ArgBytes w (.slice A n c) n) :
    Calls Try.prog 40 #[.slice A n c] w fun e w' => ∃ m, e = .returned (.pointer (some ⟨w.heap.size, 0, none⟩)) ∧ Rd w' w.heap.size A m c 0 ∧ m ≤ n ∧ Below w.heap.size w w' ∧ w'.heap.size = w.heap.size + 1 := by
  obtain ⟨A', c', e', hc1, hc2, hcell⟩ := id h
  injection e' with e1 e2 e3
  subst e1
  subst e3
  clear e2
  unfold maxLen at hc2
  by_cases hn : 2000 < n
  · go_enter Try.func40, Try.ntmps40
    go_wp2
    go_ret
    refine ⟨2000, rfl, ⟨by simp, by simp, by simp, ⟨0, by simp, Nat.le_refl _⟩, by omega, by unfold maxLen; omega, Nat.le_refl _, fun k hk => ?_⟩, by omega, by (repeat (first | (with_reducible assumption) | (with_reducible exact Below.refl _ _) | ((with_reducible refine Below.alloc ?_ ?hsz _); (case hsz => (first | omega | (simp; done) | (simp; omega) | (simp at *; omega)))) | ((with_reducible refine Below.setCell ?_ ?hsz _); (case hsz => (first | omega | (simp; done) | (simp; omega) | (simp at *; omega)))) | (with_reducible refine Below.drew ?_) | (with_reducible refine below_drewN ?_ _) | ((with_reducible refine Below.trans ?_ (Below.mono (by with_reducible assumption) ?hsz)); (case hsz => (first | omega | (simp; done) | (simp; omega) | (simp at *; omega)))))), by simp⟩
    obtain ⟨g, o, x, hA, hg, hc, hx⟩ := hcell k (by omega)
    exact ⟨g, o, x, hA, hg, (World.cell?_alloc_lt _ _ _ hg).trans hc, hx⟩
  · go_enter Try.func40, Try.ntmps40
    go_wp2
    go_ret
    refine ⟨n, rfl, ⟨by simp, by simp, by simp, ⟨0, by simp, Nat.le_refl _⟩, by omega, by unfold maxLen; omega, by omega, fun k hk => ?_⟩, Nat.le_refl _, by (repeat (first | (with_reducible assumption) | (with_reducible exact Below.refl _ _) | ((with_reducible refine Below.alloc ?_ ?hsz _); (case hsz => (first | omega | (simp; done) | (simp; omega) | (simp at *; omega)))) | ((with_reducible refine Below.setCell ?_ ?hsz _); (case hsz => (first | omega | (simp; done) | (simp; omega) | (simp at *; omega)))) | (with_reducible refine Below.drew ?_) | (with_reducible refine below_drewN ?_ _) | ((with_reducible refine Below.trans ?_ (Below.mono (by with_reducible assumption) ?hsz)); (case hsz => (first | omega | (simp; done) | (simp; omega) | (simp at *; omega)))))), by simp⟩
    obtain ⟨g, o, x, hA, hg, hc, hx⟩ := hcell k (by omega)
    exact ⟨g, o, x, hA, hg, (World.cell?_alloc_lt _ _ _ hg).trans hc, hx⟩

end Go.Proofs.Ytangnecgnclobaa

/- Contract of the draw of WithPipe: a net and a further pipe. -/
namespace Go.Proofs.Ytangnecgnclobaa
open Go.RowKit

/-- what the operations of the further pipe yield -/
def wdV (nv : Value) (rg : Nat) (M a : Int) : Nat → Value → Prop
  | 0, y => y = nv
  | 1, y => y = .int .i64 a
  | 2, y => y = .int .i64 a
  | 3, y => y = .pointer (some ⟨rg, 0, none⟩)
  | 4, y => y = .int .i64 M
  | 5, y => ∃ x : Int, y = .int .i64 x ∧ 0 ≤ x ∧ x < M
  | 6, y => ∃ x : Int, y = .int .i64 x ∧ 0 ≤ x ∧ x ≤ 12
  | 7, y => y = .int .i64 M
  | 8, y => ∃ x : Int, y = .int .i64 x
  | 9, y => y = .pointer (some ⟨rg, 0, none⟩)
  | 10, y => ∃ x : Int, y = .int .i64 x ∧ 0 ≤ x ∧ x < 5
  | 11, y => y = .pointer (some ⟨rg, 0, none⟩)
  | 12, y => ∃ x : Int, y = .int .i64 x ∧ 0 ≤ x ∧ x < 30
  | 13, y => ∃ x : Int, y = .int .i64 x
  | 14, y => ∃ x : Int, y = .int .i64 x
  | 15, y => y = .pointer (some ⟨rg, 0, none⟩)
  | 16, y => ∃ x : Int, y = .int .i64 x
  | 17, y => ∃ q : Pp, y = .agg #[.int .i64 q.fr, .int .i64 q.to, .int .i64 q.le, .int .i64 q.mo, .int .i64 q.co]
  | _, _ => True

/-- what is known of the world -/
structure WdSt (w : World) (rg m c K nb b : Nat) (A : Option Addr) (z : Int) (S : Value) (ps : List Pp) (f : Nat) (wx : World) : Prop where
  fl : f ≤ 20
  be : Below w.heap.size w wx
  rd : Rd wx rg A m c (K + (20 - f))
  pi : Pipes wx b S ps
  nb : Box2 wx nb (.int .i64 z) S
  r2 : Box2 wx w.heap.size (.int .i64 0) (.slice none 0 0) ∨ Box2 wx w.heap.size (.int .i64 z) S
  r3 : ∃ q : Pp, Box5 wx (w.heap.size + 1) q

theorem WdSt.more {w wx : World} {rg m c K nb b f : Nat} {A : Option Addr} {z : Int} {S : Value} {ps : List Pp} (h : WdSt w rg m c K nb b A z S ps (f + 1) wx) : WdSt w rg m c K nb b A z S ps f wx :=
  ⟨Nat.le_of_succ_le h.fl, h.be, h.rd.more (by omega), h.pi, h.nb, h.r2, h.r3⟩

theorem WdSt.picked {w wx wy : World} {rg m c K nb b f : Nat} {A : Option Addr} {z : Int} {S : Value} {ps : List Pp} (h : WdSt w rg m c K nb b A z S ps (f + 1) wx) (hrg : rg = w.heap.size + 2) (hnb : rg < nb) (hb : rg < b) (hg : wx.grownBy wy (some rg)) (hr : Rd wy rg A m c (K + (20 - (f + 1)) + 1)) : WdSt w rg m c K nb b A z S ps f wy := by
  have hf := h.fl
  refine ⟨by omega, h.be.trans (below_grow (B := w.heap.size) hg h.be.size (fun q hq => by injection hq with hq; omega)), hr.more (by omega), h.pi.grown hg hb, h.nb.grown hg (by simp; omega), ?_, ?_⟩
  · rcases h.r2 with q | q
    · exact .inl (q.grown hg (by simp; omega))
    · exact .inr (q.grown hg (by simp; omega))
  · obtain ⟨q, hq⟩ := h.r3
    exact ⟨q, hq.grown hg (by simp; omega)⟩

theorem WdSt.set2 {w wx : World} {rg m c K nb b f : Nat} {A : Option Addr} {z : Int} {S : Value} {ps : List Pp} (h : WdSt w rg m c K nb b A z S ps (f + 1) wx) (hA : lowA A m w.heap.size) (hrg : rg = w.heap.size + 2) (hnb : rg < nb) (hb : rg < b) : WdSt w rg m c K nb b A z S ps f ((wx.setCell ⟨w.heap.size, 0, none⟩ (.int .i64 z)).setCell ⟨w.heap.size, 1, none⟩ S) := by
  have g1 : wx.grownBy (wx.setCell ⟨w.heap.size, 0, none⟩ (.int .i64 z)) (some w.heap.size) := grow_set (p := ⟨w.heap.size, 0, none⟩) (grow_refl wx _) (Or.inr rfl) _
  have hg : wx.grownBy ((wx.setCell ⟨w.heap.size, 0, none⟩ (.int .i64 z)).setCell ⟨w.heap.size, 1, none⟩ S) (some w.heap.size) := grow_set (p := ⟨w.heap.size, 1, none⟩) g1 (Or.inr rfl) S
  generalize hX : (wx.setCell ⟨w.heap.size, 0, none⟩ (.int .i64 z)).setCell ⟨w.heap.size, 1, none⟩ S = wz at hg ⊢
  have hb2 : Below w.heap.size w wz := by subst hX; exact (h.be.setCell (Nat.le_refl _) _).setCell (Nat.le_refl _) _
  have hb3 : Box2 wz w.heap.size (.int .i64 z) S := by
    subst hX
    rcases h.r2 with q | q
    · exact (q.set0 _).set1 _
    · exact (q.set0 _).set1 _
  refine ⟨Nat.le_of_succ_le h.fl, hb2, (h.rd.other hA hg (by omega) (Nat.le_refl _)).more (by omega), h.pi.grown hg (by omega), h.nb.grown hg (by simp; omega), .inr hb3, ?_⟩
  obtain ⟨q, hq⟩ := h.r3
  exact ⟨q, hq.grown hg (by simp)⟩

theorem WdSt.set5 {w wx : World} {rg m c K nb b f : Nat} {A : Option Addr} {z : Int} {S : Value} {ps : List Pp} (h : WdSt w rg m c K nb b A z S ps (f + 1) wx) (hA : lowA A m w.heap.size) (hrg : rg = w.heap.size + 2) (hnb : rg < nb) (hb : rg < b) (x0 x1 x2 x3 x4 : Int) :
    WdSt w rg m c K nb b A z S ps f (((((wx.setCell ⟨w.heap.size + 1, 0, none⟩ (.int .i64 x0)).setCell ⟨w.heap.size + 1, 1, none⟩ (.int .i64 x1)).setCell ⟨w.heap.size + 1, 2, none⟩ (.int .i64 x2)).setCell ⟨w.heap.size + 1, 3, none⟩ (.int .i64 x3)).setCell ⟨w.heap.size + 1, 4, none⟩ (.int .i64 x4)) := by
  have g1 : wx.grownBy (wx.setCell ⟨w.heap.size + 1, 0, none⟩ (.int .i64 x0)) (some (w.heap.size + 1)) := grow_set (p := ⟨w.heap.size + 1, 0, none⟩) (grow_refl wx _) (Or.inr rfl) _
  have g2 := grow_set (p := ⟨w.heap.size + 1, 1, none⟩) g1 (Or.inr rfl) (.int .i64 x1)
  have g3 := grow_set (p := ⟨w.heap.size + 1, 2, none⟩) g2 (Or.inr rfl) (.int .i64 x2)
  have g4 := grow_set (p := ⟨w.heap.size + 1, 3, none⟩) g3 (Or.inr rfl) (.int .i64 x3)
  have hg := grow_set (p := ⟨w.heap.size + 1, 4, none⟩) g4 (Or.inr rfl) (.int .i64 x4)
  have hb2 : Below w.heap.size w (((((wx.setCell ⟨w.heap.size + 1, 0, none⟩ (.int .i64 x0)).setCell ⟨w.heap.size + 1, 1, none⟩ (.int .i64 x1)).setCell ⟨w.heap.size + 1, 2, none⟩ (.int .i64 x2)).setCell ⟨w.heap.size + 1, 3, none⟩ (.int .i64 x3)).setCell ⟨w.heap.size + 1, 4, none⟩ (.int .i64 x4)) :=
    ((((h.be.setCell (Nat.le_succ _) _).setCell (Nat.le_succ _) _).setCell (Nat.le_succ _) _).setCell (Nat.le_succ _) _).setCell (Nat.le_succ _) _
  have hb3 : Box5 (((((wx.setCell ⟨w.heap.size + 1, 0, none⟩ (.int .i64 x0)).setCell ⟨w.heap.size + 1, 1, none⟩ (.int .i64 x1)).setCell ⟨w.heap.size + 1, 2, none⟩ (.int .i64 x2)).setCell ⟨w.heap.size + 1, 3, none⟩ (.int .i64 x3)).setCell ⟨w.heap.size + 1, 4, none⟩ (.int .i64 x4)) (w.heap.size + 1) ⟨x0, x1, x2, x3, x4⟩ := by
    obtain ⟨q, q0, q1, q2, q3, q4, q5, q6⟩ := h.r3
    exact Box5.of_sets x0 x1 x2 x3 x4 q0 q1 q2 q3 q4 q5 q6
  generalize ((((wx.setCell ⟨w.heap.size + 1, 0, none⟩ (.int .i64 x0)).setCell ⟨w.heap.size + 1, 1, none⟩ (.int .i64 x1)).setCell ⟨w.heap.size + 1, 2, none⟩ (.int .i64 x2)).setCell ⟨w.heap.size + 1, 3, none⟩ (.int .i64 x3)).setCell ⟨w.heap.size + 1, 4, none⟩ (.int .i64 x4) = wz at hg hb2 hb3 ⊢
  refine ⟨Nat.le_of_succ_le h.fl, hb2, (h.rd.other hA hg (by omega) (Nat.le_succ _)).more (by omega), h.pi.grown hg (by omega), h.nb.grown hg (by simp; omega), ?_, _, hb3⟩
  rcases h.r2 with q | q
  · exact .inl (q.grown hg (by simp))
  · exact .inr (q.grown hg (by simp))

set_option maxHeartbeats 4000000 in
set_option maxRecDepth 20000 in
theorem drawWithPipe_any (v : Value) (n : Nat) (w : World) (h : ArgBytes w v n) : Calls Try.prog 31 #[v] w fun e w' => ∃ (z : Int) (ps : List Pp) (u : Value) (q : Pp), e = .returned (.tuple #[.agg #[.int .i64 z, u], .agg #[.int .i64 q.fr, .int .i64 q.to, .int .i64 q.le, .int .i64 q.mo, .int .i64 q.co]]) ∧ Pipes w' w.heap.size u ps ∧ Below w.heap.size w w' ∧ ps.length ≤ 8 := by
  obtain ⟨A, c, rfl, hc1, hc2, hcell⟩ := id h
  have hlow : ∀ m, m ≤ n → lowA A m w.heap.size := fun m hm k hk => by
    obtain ⟨g, o, x, hA, hg, -⟩ := hcell k (by omega)
    exact ⟨g, o, hA, hg⟩
  have HLOW := Lib.hid hlow
  clear hlow hcell
  have bx0 := Box2.new w (.int .i64 0) (.slice none 0 0) 32
  have px0 : Box5 ((w.alloc (.cells #[.int .i64 0, .slice none 0 0] 32)).alloc (.cells #[.int .i64 0, .int .i64 0, .int .i64 0, .int .i64 0, .int .i64 0] 37)) (w.heap.size + 1) ⟨0, 0, 0, 0, 0⟩ := Box5.new _ _ _ _ _ _ _ (by simp)
  have bx0' := bx0.keep ((Below.refl _ _).alloc (Nat.le_refl _) (.cells #[.int .i64 0, .int .i64 0, .int .i64 0, .int .i64 0, .int .i64 0] 37))
  go_enter Try.func31, Try.ntmps31
  go_wp2_with fail
  refine (l20Open_same A c n _ (h.keep (by (repeat (first | (with_reducible assumption) | (with_reducible exact Below.refl _ _) | ((with_reducible refine Below.alloc ?_ ?hsz _); (case hsz => (first | omega | (simp; done) | (simp; omega) | (simp at *; omega)))) | ((with_reducible refine Below.setCell ?_ ?hsz _); (case hsz => (first | omega | (simp; done) | (simp; omega) | (simp at *; omega)))) | (with_reducible refine Below.drew ?_) | (with_reducible refine below_drewN ?_ _) | ((with_reducible refine Below.trans ?_ (Below.mono (by with_reducible assumption) ?hsz)); (case hsz => (first | omega | (simp; done) | (simp; omega) | (simp at *; omega))))))))).mono ?_
  rintro e w1 ⟨m, rfl, hr1, hmn, hb1, hz1⟩
  have bx1 := bx0'.keep hb1
  have px1 := px0.grown (grow_below (grow_refl _ none) hb1) (by simp)
  rw [World.size_alloc, World.size_alloc] at hr1 hz1
  have hgo : Below w.heap.size w w1 := by (repeat (first | (with_reducible assumption) | (with_reducible exact Below.refl _ _) | ((with_reducible refine Below.alloc ?_ ?hsz _); (case hsz => (first | omega | (simp; done) | (simp; omega) | (simp at *; omega)))) | ((with_reducible refine Below.setCell ?_ ?hsz _); (case hsz => (first | omega | (simp; done) | (simp; omega) | (simp at *; omega)))) | (with_reducible refine Below.drew ?_) | (with_reducible refine below_drewN ?_ _) | ((with_reducible refine Below.trans ?_ (Below.mono (by with_reducible assumption) ?hsz)); (case hsz => (first | omega | (simp; done) | (simp; omega) | (simp at *; omega))))))
  clear bx0 bx0' px0 hb1 hc1 hc2 h
  go_wp2_with fail
  refine (l20Least_any 12 (w.heap.size + 1 + 1) m c 0 A _ hr1 (by omega) (by omega) (by omega)).mono ?_
  rintro e w2 ⟨z, ps, u, rfl, hp2, hr2, hg2, hl8, hzl, hzh⟩
  have bx2 := bx1.grown hg2 (by simp; omega)
  have px2 := px1.grown hg2 (by simp)
  have hs2 := hg2.size
  have hb2 : Below w.heap.size w w2 := hgo.trans (below_grow hg2 (by omega) (fun q hq => by injection hq with hq; omega))
  obtain ⟨PA, pc, rfl, -, hc2, -, -⟩ := hp2.form
  unfold maxLen at hc2
  have nb2 : Box2 (w2.alloc (.cells #[.int .i64 z, .slice PA ps.length pc] 32)) w2.heap.size (.int .i64 z) (.slice PA ps.length pc) := Box2.new _ _ _ _
  have bx3 := bx2.keep ((Below.refl _ _).alloc (Nat.le_refl _) (.cells #[.int .i64 z, .slice PA ps.length pc] 32))
  have px3 := px2.grown (grow_alloc (grow_refl _ none) (.cells #[.int .i64 z, .slice PA ps.length pc] 32)) (by simp)
  have hp3 := hp2.alloc' (.cells #[.int .i64 z, .slice PA ps.length pc] 32)
  have hr3 := hr2.alloc' (.cells #[.int .i64 z, .slice PA ps.length pc] 32)
  have hb3 := hb2.alloc hb2.size (.cells #[.int .i64 z, .slice PA ps.length pc] 32)
  have hrn : w.heap.size + 1 + 1 < w2.heap.size := by omega
  have hrb : w.heap.size + 1 + 1 < w1.heap.size := by omega
  clear bx1 px1 hg2 hr1 hr2 hp2 bx2 px2 hb2 hs2 hgo hz1
  obtain ⟨ns, n0, n1, n2, n3⟩ := id nb2
  generalize hL : ps.length = L at *
  have HLL := Lib.hid hL
  clear hL
  go_upto_region 3 with fail
  go_cut [6] (fun t wx => ∃ M : Int, t = .int .i64 M ∧ 2 ≤ M ∧ M ≤ 6 ∧ wx = w2.alloc (.cells #[.int .i64 z, .slice PA L pc] 32))
  case first =>
    by_cases hm : 2 ≤ z
    all_goals
      go_wp2_with fail
      go_meet
      refine ⟨_, rfl, ?_, ?_, rfl⟩ <;> omega
  case rest =>
    obtain ⟨M, rfl, hM1, hM2, rfl⟩ := hcut
    generalize hW : w2.alloc (.cells #[.int .i64 z, .slice PA L pc] 32) = w3 at *
    clear hW ns n0 n1 n2 n3
    go_wp2_with fail
    refine (pick_any M (w.heap.size + 1 + 1) m c (0 + 400) A _ hr3 (by omega) (by omega) (by omega)).mono ?_
    rintro e w4 ⟨a, rfl, a0, a1, hr4, hg4, hz4⟩
    replace hg4 : w3.grownBy { w4 with drawn := w4.drawn + 1 } (some (w.heap.size + 1 + 1)) := grow_drew hg4
    replace hr4 : Rd { w4 with drawn := w4.drawn + 1 } (w.heap.size + 1 + 1) A m c (0 + 400 + 1) := hr4.drew
    have st4 : WdSt w (w.heap.size + 1 + 1) m c (0 + 400 + 1) w2.heap.size w1.heap.size A z (.slice PA L pc) ps 20 { w4 with drawn := w4.drawn + 1 } :=
      ⟨Nat.le_refl _, hb3.trans (below_grow hg4 (by have := hb3.size; omega) (fun q hq => by injection hq with hq; omega)), hr4.more (by omega), hp3.grown hg4 (by omega), nb2.grown hg4 (by simp; omega), .inl (bx3.grown hg4 (by simp; omega)), _, px3.grown hg4 (by simp)⟩
    have hA := HLOW.out m hmn
    have HA := Lib.hid hA
    clear hA HLOW hr3 hr4 hg4 hz4 bx3 px3 nb2 hp3 hb3
    generalize hnb : w2.heap.size = nb at *
    generalize hbb : w1.heap.size = bb at *
    clear hnb hbb
    go_wp2_with fail
    refine wp_region_flow 20 none [(0, 18), (1, 19), (2, 20), (3, 21), (4, 22), (5, 23), (6, 24), (7, 25), (8, 26), (9, 27), (10, 28), (11, 29), (12, 30), (13, 31), (14, 32), (15, 33), (16, 34), (17, 35)]
      (fun j x _ _ => wdV (.agg #[.int .i64 z, .slice PA L pc]) (w.heap.size + 1 + 1) M a j x) (fun _ _ _ => True) (fun f wx => WdSt w (w.heap.size + 1 + 1) m c (0 + 400 + 1) nb bb A z (.slice PA L pc) ps f wx) (by kernel_rfl) (by kernel_rfl) rfl st4 ?_ ?_ ?_ ?_
    · exact fun _ _ _ _ _ _ _ _ _ _ h => h
    · exact fun _ _ _ _ _ _ _ h => h
    · clear st4
      simp (maxSteps := 4000000) only [eachOp, fillF, List.setIfInBounds_toArray, List.set_cons_succ, List.set_cons_zero]
      refine ⟨?_, ?_, ?_, ?_, ?_, ?_, ?_, ?_, ?_, ?_, ?_, ?_, ?_, ?_, ?_, ?_, ?_, ?_, ?_, ?_, trivial⟩ <;> intro u f wx hC hd <;> (try simp [allV, useOf, Region.binds] at hd)
      · obtain ⟨nx, n0, n1, n2, n3⟩ := id hC.nb
        go_wp2
        exact ⟨_, rfl, rfl, trivial, hC.more⟩
      · go_wp2
        exact ⟨_, rfl, rfl, trivial, hC.more⟩
      · go_wp2
        exact ⟨_, rfl, rfl, trivial, hC.more⟩
      · go_wp2
        exact ⟨_, rfl, rfl, trivial, hC.more⟩
      · go_wp2
        exact ⟨_, rfl, rfl, trivial, hC.more⟩
      · rw [show u 3 = _ from hd.1, show u 4 = _ from hd.2]
        go_wp2_with fail
        refine (pick_any M (w.heap.size + 1 + 1) m c _ A _ hC.rd (by omega) (by omega) (by omega)).mono ?_
        rintro e w5 ⟨x, rfl, x0, x1, hr5, hg5, hz5⟩
        have hC5 := hC.picked rfl hrn hrb hg5 hr5
        clear hC hr5 hg5 hz5
        go_wp2
        exact ⟨_, rfl, ⟨x, rfl, x0, x1⟩, trivial, hC5⟩
      · obtain ⟨h2, x, h5, x0, x1⟩ : u 2 = .int .i64 a ∧ ∃ x : Int, u 5 = .int .i64 x ∧ 0 ≤ x ∧ x < M := hd
        rw [h2, h5]
        have hw : IntKind.i64.wrap (a + x) = a + x := IntWalk.i64_in _ (by omega)
        have hw' : wrap64 (a + x) = a + x := IntWalk.wrap64_in _ (by omega)
        go_wp2
        exact ⟨_, rfl, ⟨_, rfl, by omega, by omega⟩, trivial, hC.more⟩
      · go_wp2
        exact ⟨_, rfl, rfl, trivial, hC.more⟩
      · obtain ⟨⟨x, h6, x0, x1⟩, h7⟩ : (∃ x : Int, u 6 = .int .i64 x ∧ 0 ≤ x ∧ x ≤ 12) ∧ u 7 = .int .i64 M := hd
        rw [h6, h7]
        have hC' := hC.more
        clear hC h6 h7
        rcases (by omega : M = 2 ∨ M = 3 ∨ M = 4 ∨ M = 5 ∨ M = 6) with rfl | rfl | rfl | rfl | rfl
        all_goals
          go_wp2
          exact ⟨_, rfl, ⟨_, rfl⟩, trivial, hC'⟩
      · go_wp2
        exact ⟨_, rfl, rfl, trivial, hC.more⟩
      · rw [show u 9 = _ from hd]
        go_wp2_with fail
        refine (pick_any 5 (w.heap.size + 1 + 1) m c _ A _ hC.rd (by omega) (by omega) (by omega)).mono ?_
        rintro e w5 ⟨x, rfl, x0, x1, hr5, hg5, hz5⟩
        have hC5 := hC.picked rfl hrn hrb hg5 hr5
        clear hC hr5 hg5 hz5
        go_wp2
        exact ⟨_, rfl, ⟨x, rfl, x0, x1⟩, trivial, hC5⟩
      · go_wp2
        exact ⟨_, rfl, rfl, trivial, hC.more⟩
      · rw [show u 11 = _ from hd]
        go_wp2_with fail
        refine (pick_any 30 (w.heap.size + 1 + 1) m c _ A _ hC.rd (by omega) (by omega) (by omega)).mono ?_
        rintro e w5 ⟨x, rfl, x0, x1, hr5, hg5, hz5⟩
        have hC5 := hC.picked rfl hrn hrb hg5 hr5
        clear hC hr5 hg5 hz5
        go_wp2
        exact ⟨_, rfl, ⟨x, rfl, x0, x1⟩, trivial, hC5⟩
      · obtain ⟨x, h12, x0, x1⟩ : ∃ x : Int, u 12 = .int .i64 x ∧ 0 ≤ x ∧ x < 30 := hd
        rw [h12]
        go_wp2
        exact ⟨_, rfl, ⟨_, rfl⟩, trivial, hC.more⟩
      · obtain ⟨⟨x, h10, x0, x1⟩, y, h13⟩ : (∃ x : Int, u 10 = .int .i64 x ∧ 0 ≤ x ∧ x < 5) ∧ ∃ y : Int, u 13 = .int .i64 y := hd
        rw [h10, h13]
        go_wp2
        exact ⟨_, rfl, ⟨_, rfl⟩, trivial, hC.more⟩
      · go_wp2
        exact ⟨_, rfl, rfl, trivial, hC.more⟩
      · rw [show u 15 = _ from hd]
        go_wp2_with fail
        refine (pick_any 5 (w.heap.size + 1 + 1) m c _ A _ hC.rd (by omega) (by omega) (by omega)).mono ?_
        rintro e w5 ⟨x, rfl, x0, x1, hr5, hg5, hz5⟩
        have hC5 := hC.picked rfl hrn hrb hg5 hr5
        clear hC hr5 hg5 hz5
        go_wp2
        exact ⟨_, rfl, ⟨x, rfl⟩, trivial, hC5⟩
      · obtain ⟨h1, ⟨x, h8⟩, ⟨y, h14⟩, z', h16⟩ : u 1 = .int .i64 a ∧ (∃ x : Int, u 8 = .int .i64 x) ∧ (∃ x : Int, u 14 = .int .i64 x) ∧ ∃ x : Int, u 16 = .int .i64 x := hd
        rw [h1, h8, h14, h16]
        go_wp2
        exact ⟨_, rfl, ⟨⟨a, x, 0, y, z'⟩, rfl⟩, trivial, hC.more⟩
      · have h0 : u 0 = .agg #[.int .i64 z, .slice PA L pc] := hd
        rw [h0]
        have hS := hC.set2 HA.out rfl hrn hrb
        have HS := Lib.hid hS
        rcases hC.r2 with r | r
        all_goals
          obtain ⟨e0, e1, e2, e3, e4⟩ := id r
          clear r hS hC
          go_wp2
          exact ⟨undef, rfl, trivial, trivial, HS.out⟩
      · obtain ⟨q, h17⟩ : ∃ q : Pp, u 17 = .agg #[.int .i64 q.fr, .int .i64 q.to, .int .i64 q.le, .int .i64 q.mo, .int .i64 q.co] := hd
        rw [h17]
        have hS := hC.set5 HA.out rfl hrn hrb q.fr q.to q.le q.mo q.co
        have HS := Lib.hid hS
        obtain ⟨q', e0, e1, e2, e3, e4, e5, e6⟩ := id hC.r3
        have f0 := e6 0
        have f1 := e6 1
        have f2 := e6 2
        have f3 := e6 3
        have f4 := e6 4
        clear e6 hS hC
        go_wp2
        exact ⟨undef, rfl, trivial, trivial, HS.out⟩
    · intro u f wx hC hfin
      simp only [fillEnd, fillF, Act.put, List.setIfInBounds_toArray, List.set_cons_succ, List.set_cons_zero]
      clear hfin
      obtain ⟨q, e0, e1, e2, e3, e4, e5, -⟩ := id hC.r3
      have hPI := hC.pi.mono (b' := w.heap.size) (by omega)
      have HPI := Lib.hid (And.intro hPI hC.be)
      clear hPI
      rcases hC.r2 with r | r
      · obtain ⟨r0, r1, r2, r3, r4⟩ := r
        clear hC
        go_wp2
        refine bodyPost_ret (v := .tuple #[.agg #[.int .i64 0, .slice none 0 0], .agg #[.int .i64 q.fr, .int .i64 q.to, .int .i64 q.le, .int .i64 q.mo, .int .i64 q.co]]) (by simp [results, Try.results31, go_sem, r1, r2, e1, e2, e3, e4, e5]) rfl ⟨0, [], _, q, rfl, Pipes_nil _ _, HPI.out.2, by simp⟩
      · obtain ⟨r0, r1, r2, r3, r4⟩ := r
        clear hC
        go_wp2
        refine bodyPost_ret (v := .tuple #[.agg #[.int .i64 z, .slice PA L pc], .agg #[.int .i64 q.fr, .int .i64 q.to, .int .i64 q.le, .int .i64 q.mo, .int .i64 q.co]]) (by simp [results, Try.results31, go_sem, r1, r2, e1, e2, e3, e4, e5]) rfl ⟨z, ps, _, q, rfl, HPI.out.1, HPI.out.2, by rw [HLL.out]; exact hl8⟩

end Go.Proofs.Ytangnecgnclobaa
