/- Contract of l20Held: a net and a flow that its pipes mostly hold (chapter 6's draws). -/
import Derived.Test.YtialdelfmmdfjaaGC
import Derived.Test.YtialdelfmmdfjaaGY
import Derived.Test.YtialdelfmmdfjaaGQ
import Derived.Test.YtialdelfmmdfjaaGA
import Derived.Test.YtialdelfmmdfjaaZ4
import Derived.Deep.AppendLies
namespace Go.Proofs.Ytialdelfmmdfjaa
open Go.RowKit

structure HZ (w : World) (rg m c K nb : Nat) (A : Option Addr) (z : Int) (S : Value) (ps : List Pp) (wx : World) : Prop where
  gr : w.grownBy wx (some rg)
  rd : Rd wx rg A m c K
  pi : Pipes wx (w.heap.size + 1) S ps
  nb : Box2 wx nb (.int .i64 z) S
  r2 : Box2 wx w.heap.size (.int .i64 0) (.slice none 0 0)
section
variable {w wx wy : World} {rg m c K K' nb : Nat} {A : Option Addr} {z : Int} {S : Value} {ps : List Pp}
theorem HZ.keep (h : HZ w rg m c K nb A z S ps wx) (hb : Below wx.heap.size wx wy) : HZ w rg m c K nb A z S ps wy :=
  ⟨grow_below h.gr hb, h.rd.keep hb, h.pi.keep hb, h.nb.keep hb, h.r2.keep hb⟩
theorem HZ.le (h : HZ w rg m c K nb A z S ps wx) (hK : K ≤ K') : HZ w rg m c K' nb A z S ps wx := ⟨h.gr, h.rd.more hK, h.pi, h.nb, h.r2⟩
theorem HZ.over (h : HZ w rg m c K nb A z S ps wx) (hg : wx.grownBy wy (some rg)) (hr : Rd wy rg A m c K') (hrg : rg < w.heap.size) (hnb : w.heap.size < nb) : HZ w rg m c K' nb A z S ps wy :=
  ⟨grow_more h.gr hg (fun q hq => .inr hq), hr, h.pi.grown hg (by omega), h.nb.grown hg (by simp; omega), h.r2.grown hg (by simp; omega)⟩
theorem HZ.out (h : HZ w rg m c K nb A z S ps wx) (hrg : rg < w.heap.size) :
    Pipes ((wx.setCell ⟨w.heap.size, 0, none⟩ (.int .i64 z)).setCell ⟨w.heap.size, 1, none⟩ S) w.heap.size S ps ∧ Rd ((wx.setCell ⟨w.heap.size, 0, none⟩ (.int .i64 z)).setCell ⟨w.heap.size, 1, none⟩ S) rg A m c K ∧
    w.grownBy ((wx.setCell ⟨w.heap.size, 0, none⟩ (.int .i64 z)).setCell ⟨w.heap.size, 1, none⟩ S) (some rg) ∧ Box2 ((wx.setCell ⟨w.heap.size, 0, none⟩ (.int .i64 z)).setCell ⟨w.heap.size, 1, none⟩ S) w.heap.size (.int .i64 z) S ∧
    wx.grownBy ((wx.setCell ⟨w.heap.size, 0, none⟩ (.int .i64 z)).setCell ⟨w.heap.size, 1, none⟩ S) (some w.heap.size) := by
  have hg := zset_grown wx w.heap.size z S
  exact ⟨(h.pi.grown hg (by omega)).mono (by omega), h.rd.low (((Below.refl (rg + 1) wx).setCell (by simp; omega) _).setCell (by simp; omega) _), grow_set (p := ⟨w.heap.size, 1, none⟩) (grow_set (p := ⟨w.heap.size, 0, none⟩) h.gr (.inl (Nat.le_refl _)) _) (.inl (Nat.le_refl _)) _, (h.r2.set0 _).set1 _, hg⟩
end

/-- what the operations yield -/
def heV (rg pv g1 k c1 B B' : Nat) (p : Pp) (xs : List Int) : Nat → Value → World → Prop
  | 0, x, _ => x = .slice (some ⟨g1, 0, none⟩) k c1
  | 1, x, _ => x = .pointer (some ⟨pv, 2, none⟩)
  | 2, x, _ => x = .int .i64 p.le
  | 3, x, _ => x = .pointer (some ⟨rg, 0, none⟩)
  | 4, x, _ => x = .pointer (some ⟨pv, 3, none⟩)
  | 5, x, _ => x = .int .i64 p.mo
  | 6, x, _ => x = .pointer (some ⟨pv, 2, none⟩)
  | 7, x, _ => x = .int .i64 p.le
  | 8, x, _ => x = .int .i64 (p.mo - p.le)
  | 9, x, _ => ∃ y : Int, x = .int .i64 y ∧ 0 ≤ y ∧ y ≤ 4
  | 10, x, _ => ∃ y : Int, x = .int .i64 y ∧ 1 ≤ y ∧ y ≤ 5
  | 11, x, _ => ∃ y : Int, x = .int .i64 y ∧ 0 ≤ y ∧ y ≤ 4
  | 12, x, _ => ∃ y : Int, x = .int .i64 y ∧ 0 ≤ y ∧ y ≤ 8
  | 13, x, _ => x = .pointer (some ⟨rg, 0, none⟩)
  | 14, x, _ => ∃ y : Int, x = .int .i64 y ∧ 0 ≤ y ∧ y ≤ 59
  | 15, x, _ => ∃ y : Int, x = .int .i64 y ∧ 0 ≤ y ∧ y ≤ 1
  | 16, x, _ => ∃ y : Int, x = .int .i64 y ∧ 0 ≤ y ∧ y ≤ 5
  | 17, x, _ => ∃ y : Int, x = .int .i64 y ∧ 0 ≤ y ∧ y ≤ 13
  | 18, x, w => ∃ (gl : Nat) (y : Int), x = .slice (some ⟨gl, 0, none⟩) 1 1 ∧ B ≤ gl ∧ w.heap[gl]? = some (.cells #[.int .i64 y] 3 (0, 0))
  | 19, x, w => ∃ (g2 k2 : Nat) (y : Int), x = .slice (some ⟨g2, 0, none⟩) (k + 1) k2 ∧ Row w B' g2 (k + 1) k2 (xs ++ [y])
  | 20, x, w => ∃ (g2 k2 : Nat) (y : Int), x = .slice (some ⟨g2, 0, none⟩) (k + 1) k2 ∧ Row w B' g2 (k + 1) k2 (xs ++ [y])
  | _, _, _ => True
theorem heV_keep {rg pv g1 k c1 B B' : Nat} {p : Pp} {xs : List Int} {x : Value} {k' : Nat} {w w' : World} (hrg : rg < B') (hBB : B' ≤ B) (hb : w.grownBy w' (some rg)) (h : heV rg pv g1 k c1 B B' p xs k' x w) : heV rg pv g1 k c1 B B' p xs k' x w' := by
  revert h
  unfold heV
  split <;> intro h <;> first
    | exact h
    | (obtain ⟨gl, y, h1, h2, h3⟩ := h
       exact ⟨gl, y, h1, h2, heap_grown h3 hb (by simp; omega)⟩)
    | (obtain ⟨g2, k2, y, h1, h2⟩ := h
       exact ⟨g2, k2, y, h1, h2.grown hb (by have := h2.lt; intro e; injection e with e; omega)⟩)
def heR (rg : Nat) : Nat → World → World → Prop
  | 19, _, _ => True
  | _, w, w' => w.grownBy w' (some rg)
/-- what is known of the world, so many operations ahead of the end -/
def heC (W0 W7 : World) (rg m c K g1 k c1 pv : Nat) (A : Option Addr) (p : Pp) (xs : List Int) (f : Nat) (wx : World) : Prop :=
  f ≤ 21 ∧ W0.grownBy wx (some rg) ∧ Rd wx rg A m c (K + (21 - f)) ∧ Box5 wx pv p ∧ W7.heap.size ≤ wx.heap.size ∧ (2 ≤ f → Row wx W0.heap.size g1 k c1 xs)
section
variable {W0 W7 wx wy : World} {rg m c K g1 k c1 pv f : Nat} {A : Option Addr} {p : Pp} {xs : List Int}
theorem heC.step (h : heC W0 W7 rg m c K g1 k c1 pv A p xs (f + 1) wx) : heC W0 W7 rg m c K g1 k c1 pv A p xs f wx :=
  ⟨by have := h.1; omega, h.2.1, h.2.2.1.more (by have := h.1; omega), h.2.2.2.1, h.2.2.2.2.1, fun hf => h.2.2.2.2.2 (by omega)⟩
theorem heC.made (h : heC W0 W7 rg m c K g1 k c1 pv A p xs f wx) (o : Obj) : heC W0 W7 rg m c K g1 k c1 pv A p xs f (wx.alloc o) := by
  have hb : Below wx.heap.size wx (wx.alloc o) := (Below.refl _ _).alloc (Nat.le_refl _) o
  exact ⟨h.1, grow_alloc h.2.1 _, h.2.2.1.alloc' o, h.2.2.2.1.grown (grow_alloc (grow_refl wx none) o) (by simp), by have := h.2.2.2.2.1; have := hb.size; omega, fun hf => (h.2.2.2.2.2 hf).keep hb⟩
theorem heC.picked (h : heC W0 W7 rg m c K g1 k c1 pv A p xs (f + 1) wx) (hrg : rg < W0.heap.size) (hpv : W0.heap.size ≤ pv) (hg : wx.grownBy wy (some rg)) (hr : Rd wy rg A m c (K + (21 - f))) : heC W0 W7 rg m c K g1 k c1 pv A p xs f wy :=
  ⟨by have := h.1; omega, grow_more h.2.1 hg (fun q hq => .inr hq), hr, h.2.2.2.1.grown hg (by intro e; injection e with e; omega), by have := h.2.2.2.2.1; have := hg.size; omega,
   fun hf => (h.2.2.2.2.2 (by omega)).grown hg (by have := (h.2.2.2.2.2 (by omega)).lt; intro e; injection e with e; omega)⟩
theorem heC.rowed {row : Option Nat} (h : heC W0 W7 rg m c K g1 k c1 pv A p xs (f + 1) wx) (hrg : rg < W0.heap.size) (hpg : some pv ≠ row) (hrow : ∀ q, row = some q → W0.heap.size ≤ q) (hg : wx.grownBy wy row) (hf : f < 2) : heC W0 W7 rg m c K g1 k c1 pv A p xs f wy :=
  ⟨by have := h.1; omega, grow_more h.2.1 hg (fun q hq => .inl (hrow q hq)), (h.2.2.1.low (below_grow hg (by have := h.2.2.1.1; omega) (fun q hq => by have := hrow q hq; omega))).more (by have := h.1; omega), h.2.2.2.1.grown hg hpg, by have := h.2.2.2.2.1; have := hg.size; omega, fun h2 => by omega⟩
end

set_option maxRecDepth 20000 in
set_option maxHeartbeats 8000000 in
set_option maxRecDepth 20000 in
theorem l20Held_any (rg m c K : Nat) (A : Option Addr) (w : World) (h : Rd w rg A m c K) (hK : K ≤ 40000) :
    Calls Try.prog 31 #[.pointer (some ⟨rg, 0, none⟩)] w (Flowed w rg A m c (K + 2000)) := by
  have hrg := h.1
  obtain ⟨i0, hi0, hz0, hz1, hz2⟩ := info_parts int_info
  have bx0 := Box2.new w (.int .i64 0) (.slice none 0 0) 25
  have h0 := h.alloc' (.cells #[.int .i64 0, .slice none 0 0] 25)
  clear h
  go_enter Try.func31, Try.ntmps31
  go_wp2_with fail
  refine (l20Least_bd 14 rg m c K A _ h0 (by omega) (by omega) (by omega)).mono ?_
  rintro e w2 ⟨z, ps, v, rfl, hp2, hr2, hg2, hl8, hzl, hzh, hbd⟩
  rw [World.size_alloc] at hp2
  have bx2 := bx0.grown hg2 (by simp; omega)
  have hgw2 : w.grownBy w2 (some rg) := grow_more (grow_alloc (grow_refl w _) _) hg2 (fun q hq => .inr hq)
  have hs2 := hg2.size
  rw [World.size_alloc] at hs2
  clear hg2 bx0 h0
  obtain ⟨PA, pc, rfl, hc1, hc2, hsm, hce⟩ := hp2.form
  unfold maxLen at hc2
  have nb3 : Box2 (w2.alloc (.cells #[.int .i64 z, .slice PA ps.length pc] 25)) w2.heap.size (.int .i64 z) (.slice PA ps.length pc) := Box2.new _ _ _ _
  have hnbw : w.heap.size < w2.heap.size := by omega
  obtain ⟨ns, n0, n1, n2, n3⟩ := id nb3
  have st3 : HZ w rg m c (K + 400) w2.heap.size A z (.slice PA ps.length pc) ps (w2.alloc (.cells #[.int .i64 z, .slice PA ps.length pc] 25)) :=
    ⟨grow_alloc hgw2 _, hr2.alloc' _, hp2.alloc' _, nb3, bx2.keep ((Below.refl _ _).alloc (Nat.le_refl _) _)⟩
  have hg3 : w2.grownBy (w2.alloc (.cells #[.int .i64 z, .slice PA ps.length pc] 25)) (some rg) := grow_alloc (grow_refl w2 _) _
  have HBD := Lib.hid hbd
  clear hr2 nb3 hbd
  go_upto_region 2 with fail
  go_cut [19] (fun t wx => ∃ b : Bool, t = .bool b ∧ (b = true → 5 < ps.length) ∧ HZ w rg m c (K + 420) w2.heap.size A z (.slice PA ps.length pc) ps wx ∧ w2.grownBy wx (some rg))
  case first =>
    by_cases h5 : 5 < ps.length
    · go_wp2_with fail
      refine (pick_any 4 rg m c _ A _ st3.rd (by omega) (by omega) (by omega)).mono ?_
      rintro e w4 ⟨x, rfl, x0, x1, hr4, hg4, hz4⟩
      have st4 := (st3.over hg4 hr4 hrg hnbw).le (K' := K + 420) (by omega)
      have hgg : w2.grownBy w4 (some rg) := grow_more hg3 hg4 (fun q hq => .inr hq)
      clear n0 n1 n2 n3 ns hz4
      go_wp2_with fail
      go_meet
      exact ⟨_, rfl, fun _ => h5, st4, hgg⟩
    · go_wp2_with fail
      go_meet
      exact ⟨_, rfl, fun h => absurd h (by simp), st3.le (by omega), hg3⟩
  case rest =>
  obtain ⟨b, rfl, hb5, st4, hgg⟩ := hcut
  clear st3 hg3 n0 n1 n2 n3 ns
  obtain ⟨ns, n0, n1, n2, n3⟩ := id st4.nb
  go_upto_if 19 with fail
  go_cut [19] (fun _ wx => ∃ (A1 : Option Addr) (L : Nat) (qs : List Pp), HZ w rg m c (K + 500) w2.heap.size A z (.slice A1 L pc) qs wx ∧ L = qs.length ∧ BdL qs ∧ L ≤ 8)
  case first =>
    cases b with
    | true =>
      have h5 := hb5 rfl
      obtain ⟨gp, rfl, -⟩ := hce w2 (Below.refl _ _) 0 (by omega)
      have HT : Hid (HZ w rg m c (K + 500) w2.heap.size A z (.slice (some ⟨gp, 0, none⟩) 5 pc) (ps.take 5) (wc.setCell ⟨w2.heap.size, 1, none⟩ (.slice (some ⟨gp, 0, none⟩) 5 pc))) := by
        refine Lib.hid ?_
        have hg5 : w2.grownBy (wc.setCell ⟨w2.heap.size, 1, none⟩ (.slice (some ⟨gp, 0, none⟩) 5 pc)) (some rg) := grow_set (p := ⟨w2.heap.size, 1, none⟩) hgg (.inl (Nat.le_refl _)) _
        exact ⟨grow_more hgw2 hg5 (fun q hq => .inr hq), (st4.rd.low ((Below.refl (rg + 1) wc).setCell (by simp; omega) _)).more (by omega), (hp2.take (by omega) (by omega)).grown hg5 (by omega), st4.nb.set1 _, bx2.grown hg5 (by simp; omega)⟩
      clear st4 hgg hgw2 hp2 bx2 hce hb5
      go_wp2_with fail
      go_meet
      exact ⟨_, 5, ps.take 5, HT.out, by simp; omega, fun p hp => HBD.out p (List.mem_of_mem_take hp), by omega⟩
    | false =>
      clear hb5
      go_wp2_with fail
      go_meet
      exact ⟨_, _, ps, st4.le (by omega), rfl, HBD.out, hl8⟩
  case rest =>
    obtain ⟨A1, L, qs, st, hql, hbq, hL8⟩ := hcut
    clear st4 hgg hb5 hce hp2 bx2 hgw2 HBD n0 n1 n2 n3 ns hc1 hl8 hsm
    have HQL := Lib.hid hql
    have HBQ := Lib.hid hbq
    clear hql hbq
    generalize w2.heap.size = nb at *
    obtain ⟨ns, n0, n1, n2, n3⟩ := id st.nb
    go_wp2_with fail
    refine (specCirc_any z _ qs _ _ st.pi).mono ?_
    rintro e w4 ⟨r, rfl, hx4, hb4⟩
    have st4 := st.keep hb4
    have hw4 := st.rd.1
    obtain ⟨XA, xc, rfl, hxk1, hxk2, -, -⟩ := hx4.form
    unfold maxLen at hxk2
    clear n0 n1 n2 n3 ns hb4
    obtain ⟨ns, n0, n1, n2, n3⟩ := id st4.nb
    have hbs0 := st.gr.size
    have hbs1 := st.nb.1
    cases hcb : circB z qs with
    | false =>
      clear hcb st
      go_wp2_with fail
      have st5 := st4.le (K' := K + 600) (by omega)
      clear st4
      generalize w4 = W5 at *
      have hrw : rg < W5.heap.size := st5.rd.1
      have hnbs : nb < W5.heap.size := st5.nb.1
      have hR0 : Row (W5.alloc (.cells #[] 3)) W5.heap.size W5.heap.size 0 0 [] :=
        ⟨World.ownsRow_lit (e := 3) (base := W5.heap.size) (size := 1) W5 #[] 0 (Nat.le_refl _) (by simp [maxLen]) rfl, by simp [small]⟩
      have hC00 : PZ W5 rg m c (K + 600) W5.heap.size 0 0 A [] (W5.alloc (.cells #[] 3)) :=
        ⟨grow_alloc (grow_refl W5 _) _, st5.rd.alloc' _, hR0⟩
      clear hR0
      go_wp2
      go_loopw [7, 5] (fun a b wr => ∃ (k g1 c1 : Nat) (xs : List Int), k ≤ L ∧ a = .int .i64 (k : Int) ∧ b = .slice (some ⟨g1, 0, none⟩) k c1 ∧ PZ W5 rg m c (K + 600 + 30 * k) g1 k c1 A xs wr) (fun a _ _ => L - (intOf a).toNat)
      case atStart => exact ⟨0, W5.heap.size, 0, [], by omega, rfl, rfl, hC00⟩
      case round =>
        clear hC00 n0 n1 n2 n3 ns
        obtain ⟨k, g1, c1, xs, hk, rfl, rfl, hC⟩ := hrel
        have stx := st5.over hC.gr hC.rd hrg hnbw
        obtain ⟨ns, n0, n1, n2, n3⟩ := id stx.nb
        have hpr := stx.pi
        by_cases hlt : k < L
        · have hltq : k < qs.length := by have := HQL.out; omega
          obtain ⟨PA', pc', ev, hl1, hl2, hl3, hce⟩ := hpr.form
          injection ev with ev1 ev2 ev3
          subst ev1
          subst ev3
          clear ev2 hpr
          obtain ⟨gp, rfl, hgb, hgl, k0, k1, k2, k3, k4⟩ := hce wr (Below.refl _ _) k hltq
          obtain ⟨q1, q2, q3, q4⟩ := HBQ.out _ (List.getElem_mem hltq)
          generalize qs[k] = p at *
          have hpv := hC.gr.size
          have b5 : Box5 (wr.alloc (.cells #[.int .i64 p.fr, .int .i64 p.to, .int .i64 p.le, .int .i64 p.mo, .int .i64 p.co] 35)) wr.heap.size p := Box5.new wr _ _ _ _ _ _ rfl
          have hpg : some wr.heap.size ≠ (Value.slice (some ⟨g1, 0, none⟩) k c1).ownBlock := by
            have := hC.ro.lt
            intro e
            have e' : wr.heap.size = g1 := Option.some.inj e
            omega
          have hk8 : k ≤ 8 := by omega
          have hK3 : K + 600 + 30 * k ≤ 60000 := by omega
          have hC1 := hC.made (.cells #[.int .i64 p.fr, .int .i64 p.to, .int .i64 p.le, .int .i64 p.mo, .int .i64 p.co] 35)
          have hB57 : W5.heap.size ≤ (wr.alloc (.cells #[.int .i64 p.fr, .int .i64 p.to, .int .i64 p.le, .int .i64 p.mo, .int .i64 p.co] 35)).heap.size := by simp; omega
          have hgr1 := hC.ro.lt
          clear hce stx hC
          go_wp2_with fail
          generalize hW : World.alloc wr _ = W7 at *
          obtain ⟨KK, hKK⟩ : ∃ KK, KK = K + 600 + 30 * k := ⟨_, rfl⟩
          rw [← hKK] at hC1 hK3
          have HKK := Lib.hid hKK
          clear hKK
          have hC0 : heC W5 W7 rg m c KK g1 k c1 wr.heap.size A p xs 21 { W7 with drawn := W7.drawn + 1 } :=
            ⟨Nat.le_refl _, grow_drew hC1.gr, hC1.rd.drew.more (by omega), b5, Nat.le_refl _, fun _ => hC1.ro⟩
          generalize wr.heap.size = pv at *
          clear hC1 b5 hW n0 n1 n2 n3 ns k0 k1 k2 k3 k4
          refine wp_region_flowL 20 (some 5) [(0, 50), (1, 51), (2, 52), (3, 53), (4, 54), (5, 55), (6, 56), (7, 57), (8, 58), (9, 59), (10, 60), (11, 61), (12, 62), (13, 63), (14, 64), (15, 65), (16, 66), (17, 67), (18, 68), (19, 69)] (fun j x _ wx => heV rg pv g1 k c1 W7.heap.size W5.heap.size p xs j x wx) (heR rg) (fun f wx => heC W5 W7 rg m c KK g1 k c1 pv A p xs f wx) (by kernel_rfl) (by kernel_rfl) rfl hC0 ?_ ?_ ?_ ?_
          · intro i j hi hj hal x u wa wb hR hV
            have hj' : j < 21 := hj
            by_cases n19 : i = 19
            · subst n19
              clear hC0
              rcases j with _ | _ | _ | _ | _ | _ | _ | _ | _ | _ | _ | _ | _ | _ | _ | _ | _ | _ | _ | _ | _ | j
              all_goals first | exact hV | (exfalso; revert hal; decide) | (exfalso; omega)
            · have hbb : wa.grownBy wb (some rg) := by
                unfold heR at hR
                split at hR
                · exact absurd rfl n19
                · exact hR
              exact heV_keep hrw hB57 hbb hV
          · exact fun _ _ _ _ _ _ _ h => h
          · simp (maxSteps := 4000000) only [eachOp, fillF, List.setIfInBounds_toArray, List.set_cons_succ, List.set_cons_zero]
            refine ⟨?_, ?_, ?_, ?_, ?_, ?_, ?_, ?_, ?_, ?_, ?_, ?_, ?_, ?_, ?_, ?_, ?_, ?_, ?_, ?_, ?_, trivial⟩ <;> intro u f wx hC hd hf <;> (try simp [allV, useOf, Region.binds] at hd)
            · clear hf
              go_wp2
              exact ⟨_, rfl, rfl, grow_refl _ _, hC.step⟩
            · clear hf
              go_wp2
              exact ⟨_, rfl, rfl, grow_refl _ _, hC.step⟩
            · rw [show u 1 = _ from (by first | exact hd | exact hd.1 | exact hd.2 | exact hd.2.1 | exact hd.2.2 | exact hd.2.2.1 | exact hd.2.2.2 | exact hd.2.2.2.1 | exact hd.2.2.2.2)]
              clear hf
              obtain ⟨p0, e0, e1, e2, e3, e4, e5⟩ := hC.2.2.2.1
              go_wp2
              exact ⟨_, rfl, rfl, grow_refl _ _, hC.step⟩
            · clear hf
              go_wp2
              exact ⟨_, rfl, rfl, grow_refl _ _, hC.step⟩
            · clear hf
              go_wp2
              exact ⟨_, rfl, rfl, grow_refl _ _, hC.step⟩
            · rw [show u 4 = _ from (by first | exact hd | exact hd.1 | exact hd.2 | exact hd.2.1 | exact hd.2.2 | exact hd.2.2.1 | exact hd.2.2.2 | exact hd.2.2.2.1 | exact hd.2.2.2.2)]
              clear hf
              obtain ⟨p0, e0, e1, e2, e3, e4, e5⟩ := hC.2.2.2.1
              go_wp2
              exact ⟨_, rfl, rfl, grow_refl _ _, hC.step⟩
            · clear hf
              go_wp2
              exact ⟨_, rfl, rfl, grow_refl _ _, hC.step⟩
            · rw [show u 6 = _ from (by first | exact hd | exact hd.1 | exact hd.2 | exact hd.2.1 | exact hd.2.2 | exact hd.2.2.1 | exact hd.2.2.2 | exact hd.2.2.2.1 | exact hd.2.2.2.2)]
              clear hf
              obtain ⟨p0, e0, e1, e2, e3, e4, e5⟩ := hC.2.2.2.1
              go_wp2
              exact ⟨_, rfl, rfl, grow_refl _ _, hC.step⟩
            · rw [show u 5 = _ from (by first | exact hd | exact hd.1 | exact hd.2 | exact hd.2.1 | exact hd.2.2 | exact hd.2.2.1 | exact hd.2.2.2 | exact hd.2.2.2.1 | exact hd.2.2.2.2), show u 7 = _ from (by first | exact hd | exact hd.1 | exact hd.2 | exact hd.2.1 | exact hd.2.2 | exact hd.2.2.1 | exact hd.2.2.2 | exact hd.2.2.2.1 | exact hd.2.2.2.2)]
              clear hf
              have hw : IntKind.i64.wrap (p.mo - p.le) = p.mo - p.le := IntWalk.i64_in _ (by omega)
              go_wp2
              exact ⟨_, rfl, rfl, grow_refl _ _, hC.step⟩
            · rw [show u 8 = _ from (by first | exact hd | exact hd.1 | exact hd.2 | exact hd.2.1 | exact hd.2.2 | exact hd.2.2.1 | exact hd.2.2.2 | exact hd.2.2.2.1 | exact hd.2.2.2.2)]
              clear hf
              by_cases hm : (0 : Int) ≤ p.mo - p.le
              all_goals
                go_wp2
                exact ⟨_, rfl, ⟨_, rfl, by omega, by omega⟩, grow_refl _ _, hC.step⟩
              
            · clear hf
              obtain ⟨y, h9, y0, y1⟩ : ∃ y : Int, u 9 = .int .i64 y ∧ 0 ≤ y ∧ y ≤ 4 := (by first | exact hd | exact hd.1 | exact hd.2)
              rw [h9]
              have hw : IntKind.i64.wrap (y + 1) = y + 1 := IntWalk.i64_in _ (by omega)
              go_wp2
              exact ⟨_, rfl, ⟨_, rfl, by omega, by omega⟩, grow_refl _ _, hC.step⟩
            · rw [show u 3 = _ from (by first | exact hd | exact hd.1 | exact hd.2 | exact hd.2.1 | exact hd.2.2 | exact hd.2.2.1 | exact hd.2.2.2 | exact hd.2.2.2.1 | exact hd.2.2.2.2)]
              clear hf
              obtain ⟨n, h10, n0, n1⟩ : ∃ y : Int, u 10 = .int .i64 y ∧ 1 ≤ y ∧ y ≤ 5 := (by first | exact hd | exact hd.1 | exact hd.2)
              rw [h10]
              have hf21 := hC.1
              go_wp2_with fail
              refine (pick_any n rg m c _ A _ hC.2.2.1 (by omega) (by omega) (by omega)).mono ?_
              rintro e wy ⟨y, rfl, y0, y1, hry, hgy, hzy⟩
              have hC' := hC.picked hrw hpv hgy (hry.more (by omega))
              clear hC hry hzy
              go_wp2
              exact ⟨_, rfl, ⟨y, rfl, by omega, by omega⟩, hgy, hC'⟩
            · rw [show u 2 = _ from (by first | exact hd | exact hd.1 | exact hd.2 | exact hd.2.1 | exact hd.2.2 | exact hd.2.2.1 | exact hd.2.2.2 | exact hd.2.2.2.1 | exact hd.2.2.2.2)]
              clear hf
              obtain ⟨y, h11, y0, y1⟩ : ∃ y : Int, u 11 = .int .i64 y ∧ 0 ≤ y ∧ y ≤ 4 := (by first | exact hd | exact hd.1 | exact hd.2)
              rw [h11]
              have hw : IntKind.i64.wrap (p.le + y) = p.le + y := IntWalk.i64_in _ (by omega)
              go_wp2
              exact ⟨_, rfl, ⟨_, rfl, by omega, by omega⟩, grow_refl _ _, hC.step⟩
            · clear hf
              go_wp2
              exact ⟨_, rfl, rfl, grow_refl _ _, hC.step⟩
            · rw [show u 13 = _ from (by first | exact hd | exact hd.1 | exact hd.2 | exact hd.2.1 | exact hd.2.2 | exact hd.2.2.1 | exact hd.2.2.2 | exact hd.2.2.2.1 | exact hd.2.2.2.2)]
              clear hf
              have hf21 := hC.1
              go_wp2_with fail
              refine (pick_any 60 rg m c _ A _ hC.2.2.1 (by omega) (by omega) (by omega)).mono ?_
              rintro e wy ⟨y, rfl, y0, y1, hry, hgy, hzy⟩
              have hC' := hC.picked hrw hpv hgy (hry.more (by omega))
              clear hC hry hzy
              go_wp2
              exact ⟨_, rfl, ⟨y, rfl, by omega, by omega⟩, hgy, hC'⟩
            · clear hf
              obtain ⟨y, h14, y0, y1⟩ : ∃ y : Int, u 14 = .int .i64 y ∧ 0 ≤ y ∧ y ≤ 59 := (by first | exact hd | exact hd.1 | exact hd.2)
              rw [h14]
              have ht : y.tdiv 59 = y / 59 := Int.tdiv_eq_ediv_of_nonneg y0
              have hw : IntKind.i64.wrap (y / 59) = y / 59 := IntWalk.i64_in _ (by omega)
              go_wp2
              exact ⟨_, rfl, ⟨_, rfl, by omega, by omega⟩, grow_refl _ _, hC.step⟩
            · clear hf
              obtain ⟨y, h15, y0, y1⟩ : ∃ y : Int, u 15 = .int .i64 y ∧ 0 ≤ y ∧ y ≤ 1 := (by first | exact hd | exact hd.1 | exact hd.2)
              rw [h15]
              have hw : IntKind.i64.wrap (y * 5) = y * 5 := IntWalk.i64_in _ (by omega)
              have hw2 : RowKit.wrap64 (y * 5) = y * 5 := IntWalk.wrap64_in _ (by omega)
              go_wp2
              exact ⟨_, rfl, ⟨_, rfl, by omega, by omega⟩, grow_refl _ _, hC.step⟩
            · clear hf
              obtain ⟨a, h12, a0, a1⟩ : ∃ y : Int, u 12 = .int .i64 y ∧ 0 ≤ y ∧ y ≤ 8 := (by first | exact hd | exact hd.1 | exact hd.2)
              obtain ⟨b, h16, b0, b1⟩ : ∃ y : Int, u 16 = .int .i64 y ∧ 0 ≤ y ∧ y ≤ 5 := (by first | exact hd | exact hd.1 | exact hd.2)
              rw [h12, h16]
              have hw : IntKind.i64.wrap (a + b) = a + b := IntWalk.i64_in _ (by omega)
              go_wp2
              exact ⟨_, rfl, ⟨_, rfl, by omega, by omega⟩, grow_refl _ _, hC.step⟩
            · clear hf
              obtain ⟨y, h17, y0, y1⟩ : ∃ y : Int, u 17 = .int .i64 y ∧ 0 ≤ y ∧ y ≤ 13 := (by first | exact hd | exact hd.1 | exact hd.2)
              rw [h17]
              have hsz := hC.2.2.2.2.1
              go_wp2
              exact ⟨_, rfl, ⟨wx.heap.size, y, rfl, hsz, heap_alloc_new _ _⟩, grow_alloc (grow_refl _ _) _, hC.step.made _⟩
            · rw [show u 0 = _ from (by first | exact hd | exact hd.1 | exact hd.2 | exact hd.2.1 | exact hd.2.2 | exact hd.2.2.1 | exact hd.2.2.2 | exact hd.2.2.2.1 | exact hd.2.2.2.2)]
              have hf1 : 1 ≤ f := Nat.le_trans (by decide) hf.1
              have hf2 : f ≤ 1 := Nat.le_trans hf.2 (by decide)
              clear hf
              have hR := hC.2.2.2.2.2 (by omega)
              have h0 : u 0 = .slice (some ⟨g1, 0, none⟩) k c1 := (by first | exact hd.1 | exact hd.2)
              obtain ⟨gl, y, h18, hgl, hhl⟩ : ∃ (gl : Nat) (y : Int), u 18 = .slice (some ⟨gl, 0, none⟩) 1 1 ∧ W7.heap.size ≤ gl ∧ wx.heap[gl]? = some (.cells #[.int .i64 y] 3 (0, 0)) := (by first | exact hd.1 | exact hd.2)
              rw [h18]
              have hown := hR.1
              have hcap := hR.capd
              unfold maxLen at hcap
              refine wpList_append_lies _ rfl _ _ 26 rfl W5.heap.size 3 i0 _ 1 8 Try.underlying26 hi0 hz0 hz1 hz2 rfl (by omega) _ k _ rfl hown ⟨gl, 0, none⟩ 1 1 [.int .i64 y] rfl rfl (World.news_of_block hhl) (by simp [Value.oneCell']) (by omega) (by unfold maxLen; omega) (by omega) (by have := hR.lt; omega) _ rfl ?_
              intro g2 k2 w7 hown7 hgr7 hat7 hlt7
              refine wpList_nil ⟨_, rfl, ⟨g2, k2, y, rfl, by rw [List.map_append]; exact hown7, by unfold small; omega⟩, trivial, hC.rowed hrw hpg (fun q hq => (hown.lt q hq).1) hgr7 (by omega)⟩
            · clear hf
              obtain ⟨g2, k2, y, h19, hR2⟩ : ∃ (g2 k2 : Nat) (y : Int), u 19 = .slice (some ⟨g2, 0, none⟩) (k + 1) k2 ∧ Row wx W5.heap.size g2 (k + 1) k2 (xs ++ [y]) := hd
              rw [h19]
              go_wp2
              exact ⟨_, rfl, ⟨g2, k2, y, rfl, hR2⟩, grow_refl _ _, hC.step⟩
          · intro u f wx hC hfin
            simp only [fillEnd, fillF, Act.put, List.setIfInBounds_toArray, List.set_cons_succ, List.set_cons_zero]
            obtain ⟨g2, k2, y, h20, hR2⟩ : ∃ (g2 k2 : Nat) (y : Int), u 20 = .slice (some ⟨g2, 0, none⟩) (k + 1) k2 ∧ Row wx W5.heap.size g2 (k + 1) k2 (xs ++ [y]) := hfin 20 (by decide) (by decide)
            rw [h20]
            have hgr := hC.2.1
            have hrd := hC.2.2.1
            clear hC
            go_wp2
            go_roundw
            case rel => exact ⟨k + 1, g2, k2, _, by omega, by go_num, rfl, hgr, hrd.more (by have := HKK.out; omega), hR2⟩
            case measure => simp [intOf]; omega
        · replace hC := hC
          have HO := Lib.hid (stx.out hrg)
          have HI := Lib.hid ((hC.ro.ints).grown HO.out.2.2.2.2 (by omega))
          have HS1 : Hid (nb ≠ w.heap.size) := Lib.hid (by omega)
          clear n0 n1 n2 n3 ns
          obtain ⟨ns, n0, n1, n2, n3⟩ := id stx.nb
          obtain ⟨bs, b0, b1, b2, b3⟩ := id stx.r2
          clear stx hC
          go_wp2
          generalize World.setCell (World.setCell wr ⟨w.heap.size, 0, none⟩ (.int .i64 z)) ⟨w.heap.size, 1, none⟩ (.slice A1 L pc) = wy at *
          obtain ⟨q0, q1, q2, q3, q4⟩ := HO.out.2.2.2.1
          exact bodyPost_ret (v := .tuple #[.agg #[.int .i64 z, .slice A1 L pc], .slice (some ⟨g1, 0, none⟩) k c1]) (by simp [results, Try.results31, go_sem, q1, q2]) rfl ⟨z, qs, _, xs, _, rfl, HO.out.1, HI.out.mono (by omega), HO.out.2.1.more (by omega), HO.out.2.2.1, by have := HQL.out; omega, hzl, hzh⟩
    | true =>
      clear hcb
      go_wp2_with fail
      refine (pick_any 2 rg m c _ A _ st4.rd (by omega) (by omega) (by omega)).mono ?_
      rintro e w5 ⟨x, rfl, x0, x1, hr5, hg5, hz5⟩
      have st5 := (st4.over hg5 hr5 hrg hnbw).le (K' := K + 600) (by omega)
      have hx5 := hx4.grown hg5 hw4
      clear n0 n1 n2 n3 ns st st4 hr5 hg5 hz5 hx4
      obtain ⟨ns, n0, n1, n2, n3⟩ := id st5.nb
      by_cases hx0 : x = 0
      · subst hx0
        obtain ⟨xs, hxs⟩ : ∃ xs, circL z qs = xs := ⟨_, rfl⟩
        rw [hxs] at hx5 hxk1 ⊢
        clear hxs
        have stx := st5
        clear st5
        clear n0 n1 n2 n3 ns
        have HO := Lib.hid (stx.out hrg)
        have HI := Lib.hid ((hx5).grown HO.out.2.2.2.2 (by omega))
        have HS1 : Hid (nb ≠ w.heap.size) := Lib.hid (by omega)
        obtain ⟨ns, n0, n1, n2, n3⟩ := id stx.nb
        obtain ⟨bs, b0, b1, b2, b3⟩ := id stx.r2
        clear stx hx5
        go_wp2
        generalize World.setCell (World.setCell w5 ⟨w.heap.size, 0, none⟩ (.int .i64 z)) ⟨w.heap.size, 1, none⟩ (.slice A1 L pc) = wy at *
        obtain ⟨q0, q1, q2, q3, q4⟩ := HO.out.2.2.2.1
        exact bodyPost_ret (v := .tuple #[.agg #[.int .i64 z, .slice A1 L pc], .slice XA xs.length xc]) (by simp [results, Try.results31, go_sem, q1, q2]) rfl ⟨z, qs, _, xs, _, rfl, HO.out.1, HI.out.mono (by omega), HO.out.2.1.more (by omega), HO.out.2.2.1, by have := HQL.out; omega, hzl, hzh⟩
      · have hxe : (x == 0) = false := by rw [beq_eq_false_iff_ne]; exact hx0
        clear hx5
        go_wp2_with fail
        generalize w5 = W5 at *
        have hrw : rg < W5.heap.size := st5.rd.1
        have hnbs : nb < W5.heap.size := st5.nb.1
        have hR0 : Row (W5.alloc (.cells #[] 3)) W5.heap.size W5.heap.size 0 0 [] :=
          ⟨World.ownsRow_lit (e := 3) (base := W5.heap.size) (size := 1) W5 #[] 0 (Nat.le_refl _) (by simp [maxLen]) rfl, by simp [small]⟩
        have hC00 : PZ W5 rg m c (K + 600) W5.heap.size 0 0 A [] (W5.alloc (.cells #[] 3)) :=
          ⟨grow_alloc (grow_refl W5 _) _, st5.rd.alloc' _, hR0⟩
        clear hR0
        go_wp2
        go_loopw [7, 5] (fun a b wr => ∃ (k g1 c1 : Nat) (xs : List Int), k ≤ L ∧ a = .int .i64 (k : Int) ∧ b = .slice (some ⟨g1, 0, none⟩) k c1 ∧ PZ W5 rg m c (K + 600 + 30 * k) g1 k c1 A xs wr) (fun a _ _ => L - (intOf a).toNat)
        case atStart => exact ⟨0, W5.heap.size, 0, [], by omega, rfl, rfl, hC00⟩
        case round =>
          clear hC00 n0 n1 n2 n3 ns
          obtain ⟨k, g1, c1, xs, hk, rfl, rfl, hC⟩ := hrel
          have stx := st5.over hC.gr hC.rd hrg hnbw
          obtain ⟨ns, n0, n1, n2, n3⟩ := id stx.nb
          have hpr := stx.pi
          by_cases hlt : k < L
          · have hltq : k < qs.length := by have := HQL.out; omega
            obtain ⟨PA', pc', ev, hl1, hl2, hl3, hce⟩ := hpr.form
            injection ev with ev1 ev2 ev3
            subst ev1
            subst ev3
            clear ev2 hpr
            obtain ⟨gp, rfl, hgb, hgl, k0, k1, k2, k3, k4⟩ := hce wr (Below.refl _ _) k hltq
            obtain ⟨q1, q2, q3, q4⟩ := HBQ.out _ (List.getElem_mem hltq)
            generalize qs[k] = p at *
            have hpv := hC.gr.size
            have b5 : Box5 (wr.alloc (.cells #[.int .i64 p.fr, .int .i64 p.to, .int .i64 p.le, .int .i64 p.mo, .int .i64 p.co] 35)) wr.heap.size p := Box5.new wr _ _ _ _ _ _ rfl
            have hpg : some wr.heap.size ≠ (Value.slice (some ⟨g1, 0, none⟩) k c1).ownBlock := by
              have := hC.ro.lt
              intro e
              have e' : wr.heap.size = g1 := Option.some.inj e
              omega
            have hk8 : k ≤ 8 := by omega
            have hK3 : K + 600 + 30 * k ≤ 60000 := by omega
            have hC1 := hC.made (.cells #[.int .i64 p.fr, .int .i64 p.to, .int .i64 p.le, .int .i64 p.mo, .int .i64 p.co] 35)
            have hB57 : W5.heap.size ≤ (wr.alloc (.cells #[.int .i64 p.fr, .int .i64 p.to, .int .i64 p.le, .int .i64 p.mo, .int .i64 p.co] 35)).heap.size := by simp; omega
            have hgr1 := hC.ro.lt
            clear hce stx hC
            go_wp2_with fail
            generalize hW : World.alloc wr _ = W7 at *
            obtain ⟨KK, hKK⟩ : ∃ KK, KK = K + 600 + 30 * k := ⟨_, rfl⟩
            rw [← hKK] at hC1 hK3
            have HKK := Lib.hid hKK
            clear hKK
            have hC0 : heC W5 W7 rg m c KK g1 k c1 wr.heap.size A p xs 21 { W7 with drawn := W7.drawn + 1 } :=
              ⟨Nat.le_refl _, grow_drew hC1.gr, hC1.rd.drew.more (by omega), b5, Nat.le_refl _, fun _ => hC1.ro⟩
            generalize wr.heap.size = pv at *
            clear hC1 b5 hW n0 n1 n2 n3 ns k0 k1 k2 k3 k4
            refine wp_region_flowL 20 (some 5) [(0, 50), (1, 51), (2, 52), (3, 53), (4, 54), (5, 55), (6, 56), (7, 57), (8, 58), (9, 59), (10, 60), (11, 61), (12, 62), (13, 63), (14, 64), (15, 65), (16, 66), (17, 67), (18, 68), (19, 69)] (fun j x _ wx => heV rg pv g1 k c1 W7.heap.size W5.heap.size p xs j x wx) (heR rg) (fun f wx => heC W5 W7 rg m c KK g1 k c1 pv A p xs f wx) (by kernel_rfl) (by kernel_rfl) rfl hC0 ?_ ?_ ?_ ?_
            · intro i j hi hj hal x u wa wb hR hV
              have hj' : j < 21 := hj
              by_cases n19 : i = 19
              · subst n19
                clear hC0
                rcases j with _ | _ | _ | _ | _ | _ | _ | _ | _ | _ | _ | _ | _ | _ | _ | _ | _ | _ | _ | _ | _ | j
                all_goals first | exact hV | (exfalso; revert hal; decide) | (exfalso; omega)
              · have hbb : wa.grownBy wb (some rg) := by
                  unfold heR at hR
                  split at hR
                  · exact absurd rfl n19
                  · exact hR
                exact heV_keep hrw hB57 hbb hV
            · exact fun _ _ _ _ _ _ _ h => h
            · simp (maxSteps := 4000000) only [eachOp, fillF, List.setIfInBounds_toArray, List.set_cons_succ, List.set_cons_zero]
              refine ⟨?_, ?_, ?_, ?_, ?_, ?_, ?_, ?_, ?_, ?_, ?_, ?_, ?_, ?_, ?_, ?_, ?_, ?_, ?_, ?_, ?_, trivial⟩ <;> intro u f wx hC hd hf <;> (try simp [allV, useOf, Region.binds] at hd)
              · clear hf
                go_wp2
                exact ⟨_, rfl, rfl, grow_refl _ _, hC.step⟩
              · clear hf
                go_wp2
                exact ⟨_, rfl, rfl, grow_refl _ _, hC.step⟩
              · rw [show u 1 = _ from (by first | exact hd | exact hd.1 | exact hd.2 | exact hd.2.1 | exact hd.2.2 | exact hd.2.2.1 | exact hd.2.2.2 | exact hd.2.2.2.1 | exact hd.2.2.2.2)]
                clear hf
                obtain ⟨p0, e0, e1, e2, e3, e4, e5⟩ := hC.2.2.2.1
                go_wp2
                exact ⟨_, rfl, rfl, grow_refl _ _, hC.step⟩
              · clear hf
                go_wp2
                exact ⟨_, rfl, rfl, grow_refl _ _, hC.step⟩
              · clear hf
                go_wp2
                exact ⟨_, rfl, rfl, grow_refl _ _, hC.step⟩
              · rw [show u 4 = _ from (by first | exact hd | exact hd.1 | exact hd.2 | exact hd.2.1 | exact hd.2.2 | exact hd.2.2.1 | exact hd.2.2.2 | exact hd.2.2.2.1 | exact hd.2.2.2.2)]
                clear hf
                obtain ⟨p0, e0, e1, e2, e3, e4, e5⟩ := hC.2.2.2.1
                go_wp2
                exact ⟨_, rfl, rfl, grow_refl _ _, hC.step⟩
              · clear hf
                go_wp2
                exact ⟨_, rfl, rfl, grow_refl _ _, hC.step⟩
              · rw [show u 6 = _ from (by first | exact hd | exact hd.1 | exact hd.2 | exact hd.2.1 | exact hd.2.2 | exact hd.2.2.1 | exact hd.2.2.2 | exact hd.2.2.2.1 | exact hd.2.2.2.2)]
                clear hf
                obtain ⟨p0, e0, e1, e2, e3, e4, e5⟩ := hC.2.2.2.1
                go_wp2
                exact ⟨_, rfl, rfl, grow_refl _ _, hC.step⟩
              · rw [show u 5 = _ from (by first | exact hd | exact hd.1 | exact hd.2 | exact hd.2.1 | exact hd.2.2 | exact hd.2.2.1 | exact hd.2.2.2 | exact hd.2.2.2.1 | exact hd.2.2.2.2), show u 7 = _ from (by first | exact hd | exact hd.1 | exact hd.2 | exact hd.2.1 | exact hd.2.2 | exact hd.2.2.1 | exact hd.2.2.2 | exact hd.2.2.2.1 | exact hd.2.2.2.2)]
                clear hf
                have hw : IntKind.i64.wrap (p.mo - p.le) = p.mo - p.le := IntWalk.i64_in _ (by omega)
                go_wp2
                exact ⟨_, rfl, rfl, grow_refl _ _, hC.step⟩
              · rw [show u 8 = _ from (by first | exact hd | exact hd.1 | exact hd.2 | exact hd.2.1 | exact hd.2.2 | exact hd.2.2.1 | exact hd.2.2.2 | exact hd.2.2.2.1 | exact hd.2.2.2.2)]
                clear hf
                by_cases hm : (0 : Int) ≤ p.mo - p.le
                all_goals
                  go_wp2
                  exact ⟨_, rfl, ⟨_, rfl, by omega, by omega⟩, grow_refl _ _, hC.step⟩
                
              · clear hf
                obtain ⟨y, h9, y0, y1⟩ : ∃ y : Int, u 9 = .int .i64 y ∧ 0 ≤ y ∧ y ≤ 4 := (by first | exact hd | exact hd.1 | exact hd.2)
                rw [h9]
                have hw : IntKind.i64.wrap (y + 1) = y + 1 := IntWalk.i64_in _ (by omega)
                go_wp2
                exact ⟨_, rfl, ⟨_, rfl, by omega, by omega⟩, grow_refl _ _, hC.step⟩
              · rw [show u 3 = _ from (by first | exact hd | exact hd.1 | exact hd.2 | exact hd.2.1 | exact hd.2.2 | exact hd.2.2.1 | exact hd.2.2.2 | exact hd.2.2.2.1 | exact hd.2.2.2.2)]
                clear hf
                obtain ⟨n, h10, n0, n1⟩ : ∃ y : Int, u 10 = .int .i64 y ∧ 1 ≤ y ∧ y ≤ 5 := (by first | exact hd | exact hd.1 | exact hd.2)
                rw [h10]
                have hf21 := hC.1
                go_wp2_with fail
                refine (pick_any n rg m c _ A _ hC.2.2.1 (by omega) (by omega) (by omega)).mono ?_
                rintro e wy ⟨y, rfl, y0, y1, hry, hgy, hzy⟩
                have hC' := hC.picked hrw hpv hgy (hry.more (by omega))
                clear hC hry hzy
                go_wp2
                exact ⟨_, rfl, ⟨y, rfl, by omega, by omega⟩, hgy, hC'⟩
              · rw [show u 2 = _ from (by first | exact hd | exact hd.1 | exact hd.2 | exact hd.2.1 | exact hd.2.2 | exact hd.2.2.1 | exact hd.2.2.2 | exact hd.2.2.2.1 | exact hd.2.2.2.2)]
                clear hf
                obtain ⟨y, h11, y0, y1⟩ : ∃ y : Int, u 11 = .int .i64 y ∧ 0 ≤ y ∧ y ≤ 4 := (by first | exact hd | exact hd.1 | exact hd.2)
                rw [h11]
                have hw : IntKind.i64.wrap (p.le + y) = p.le + y := IntWalk.i64_in _ (by omega)
                go_wp2
                exact ⟨_, rfl, ⟨_, rfl, by omega, by omega⟩, grow_refl _ _, hC.step⟩
              · clear hf
                go_wp2
                exact ⟨_, rfl, rfl, grow_refl _ _, hC.step⟩
              · rw [show u 13 = _ from (by first | exact hd | exact hd.1 | exact hd.2 | exact hd.2.1 | exact hd.2.2 | exact hd.2.2.1 | exact hd.2.2.2 | exact hd.2.2.2.1 | exact hd.2.2.2.2)]
                clear hf
                have hf21 := hC.1
                go_wp2_with fail
                refine (pick_any 60 rg m c _ A _ hC.2.2.1 (by omega) (by omega) (by omega)).mono ?_
                rintro e wy ⟨y, rfl, y0, y1, hry, hgy, hzy⟩
                have hC' := hC.picked hrw hpv hgy (hry.more (by omega))
                clear hC hry hzy
                go_wp2
                exact ⟨_, rfl, ⟨y, rfl, by omega, by omega⟩, hgy, hC'⟩
              · clear hf
                obtain ⟨y, h14, y0, y1⟩ : ∃ y : Int, u 14 = .int .i64 y ∧ 0 ≤ y ∧ y ≤ 59 := (by first | exact hd | exact hd.1 | exact hd.2)
                rw [h14]
                have ht : y.tdiv 59 = y / 59 := Int.tdiv_eq_ediv_of_nonneg y0
                have hw : IntKind.i64.wrap (y / 59) = y / 59 := IntWalk.i64_in _ (by omega)
                go_wp2
                exact ⟨_, rfl, ⟨_, rfl, by omega, by omega⟩, grow_refl _ _, hC.step⟩
              · clear hf
                obtain ⟨y, h15, y0, y1⟩ : ∃ y : Int, u 15 = .int .i64 y ∧ 0 ≤ y ∧ y ≤ 1 := (by first | exact hd | exact hd.1 | exact hd.2)
                rw [h15]
                have hw : IntKind.i64.wrap (y * 5) = y * 5 := IntWalk.i64_in _ (by omega)
                have hw2 : RowKit.wrap64 (y * 5) = y * 5 := IntWalk.wrap64_in _ (by omega)
                go_wp2
                exact ⟨_, rfl, ⟨_, rfl, by omega, by omega⟩, grow_refl _ _, hC.step⟩
              · clear hf
                obtain ⟨a, h12, a0, a1⟩ : ∃ y : Int, u 12 = .int .i64 y ∧ 0 ≤ y ∧ y ≤ 8 := (by first | exact hd | exact hd.1 | exact hd.2)
                obtain ⟨b, h16, b0, b1⟩ : ∃ y : Int, u 16 = .int .i64 y ∧ 0 ≤ y ∧ y ≤ 5 := (by first | exact hd | exact hd.1 | exact hd.2)
                rw [h12, h16]
                have hw : IntKind.i64.wrap (a + b) = a + b := IntWalk.i64_in _ (by omega)
                go_wp2
                exact ⟨_, rfl, ⟨_, rfl, by omega, by omega⟩, grow_refl _ _, hC.step⟩
              · clear hf
                obtain ⟨y, h17, y0, y1⟩ : ∃ y : Int, u 17 = .int .i64 y ∧ 0 ≤ y ∧ y ≤ 13 := (by first | exact hd | exact hd.1 | exact hd.2)
                rw [h17]
                have hsz := hC.2.2.2.2.1
                go_wp2
                exact ⟨_, rfl, ⟨wx.heap.size, y, rfl, hsz, heap_alloc_new _ _⟩, grow_alloc (grow_refl _ _) _, hC.step.made _⟩
              · rw [show u 0 = _ from (by first | exact hd | exact hd.1 | exact hd.2 | exact hd.2.1 | exact hd.2.2 | exact hd.2.2.1 | exact hd.2.2.2 | exact hd.2.2.2.1 | exact hd.2.2.2.2)]
                have hf1 : 1 ≤ f := Nat.le_trans (by decide) hf.1
                have hf2 : f ≤ 1 := Nat.le_trans hf.2 (by decide)
                clear hf
                have hR := hC.2.2.2.2.2 (by omega)
                have h0 : u 0 = .slice (some ⟨g1, 0, none⟩) k c1 := (by first | exact hd.1 | exact hd.2)
                obtain ⟨gl, y, h18, hgl, hhl⟩ : ∃ (gl : Nat) (y : Int), u 18 = .slice (some ⟨gl, 0, none⟩) 1 1 ∧ W7.heap.size ≤ gl ∧ wx.heap[gl]? = some (.cells #[.int .i64 y] 3 (0, 0)) := (by first | exact hd.1 | exact hd.2)
                rw [h18]
                have hown := hR.1
                have hcap := hR.capd
                unfold maxLen at hcap
                refine wpList_append_lies _ rfl _ _ 26 rfl W5.heap.size 3 i0 _ 1 8 Try.underlying26 hi0 hz0 hz1 hz2 rfl (by omega) _ k _ rfl hown ⟨gl, 0, none⟩ 1 1 [.int .i64 y] rfl rfl (World.news_of_block hhl) (by simp [Value.oneCell']) (by omega) (by unfold maxLen; omega) (by omega) (by have := hR.lt; omega) _ rfl ?_
                intro g2 k2 w7 hown7 hgr7 hat7 hlt7
                refine wpList_nil ⟨_, rfl, ⟨g2, k2, y, rfl, by rw [List.map_append]; exact hown7, by unfold small; omega⟩, trivial, hC.rowed hrw hpg (fun q hq => (hown.lt q hq).1) hgr7 (by omega)⟩
              · clear hf
                obtain ⟨g2, k2, y, h19, hR2⟩ : ∃ (g2 k2 : Nat) (y : Int), u 19 = .slice (some ⟨g2, 0, none⟩) (k + 1) k2 ∧ Row wx W5.heap.size g2 (k + 1) k2 (xs ++ [y]) := hd
                rw [h19]
                go_wp2
                exact ⟨_, rfl, ⟨g2, k2, y, rfl, hR2⟩, grow_refl _ _, hC.step⟩
            · intro u f wx hC hfin
              simp only [fillEnd, fillF, Act.put, List.setIfInBounds_toArray, List.set_cons_succ, List.set_cons_zero]
              obtain ⟨g2, k2, y, h20, hR2⟩ : ∃ (g2 k2 : Nat) (y : Int), u 20 = .slice (some ⟨g2, 0, none⟩) (k + 1) k2 ∧ Row wx W5.heap.size g2 (k + 1) k2 (xs ++ [y]) := hfin 20 (by decide) (by decide)
              rw [h20]
              have hgr := hC.2.1
              have hrd := hC.2.2.1
              clear hC
              go_wp2
              go_roundw
              case rel => exact ⟨k + 1, g2, k2, _, by omega, by go_num, rfl, hgr, hrd.more (by have := HKK.out; omega), hR2⟩
              case measure => simp [intOf]; omega
          · replace hC := hC
            have HO := Lib.hid (stx.out hrg)
            have HI := Lib.hid ((hC.ro.ints).grown HO.out.2.2.2.2 (by omega))
            have HS1 : Hid (nb ≠ w.heap.size) := Lib.hid (by omega)
            clear n0 n1 n2 n3 ns
            obtain ⟨ns, n0, n1, n2, n3⟩ := id stx.nb
            obtain ⟨bs, b0, b1, b2, b3⟩ := id stx.r2
            clear stx hC
            go_wp2
            generalize World.setCell (World.setCell wr ⟨w.heap.size, 0, none⟩ (.int .i64 z)) ⟨w.heap.size, 1, none⟩ (.slice A1 L pc) = wy at *
            obtain ⟨q0, q1, q2, q3, q4⟩ := HO.out.2.2.2.1
            exact bodyPost_ret (v := .tuple #[.agg #[.int .i64 z, .slice A1 L pc], .slice (some ⟨g1, 0, none⟩) k c1]) (by simp [results, Try.results31, go_sem, q1, q2]) rfl ⟨z, qs, _, xs, _, rfl, HO.out.1, HI.out.mono (by omega), HO.out.2.1.more (by omega), HO.out.2.2.1, by have := HQL.out; omega, hzl, hzh⟩

end Go.Proofs.Ytialdelfmmdfjaa
