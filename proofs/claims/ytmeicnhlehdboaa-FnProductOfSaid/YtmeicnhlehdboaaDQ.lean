/- Contract of the draw of products (chapter 7). -/
import Derived.Test.YtmeicnhlehdboaaD5
import Derived.Test.YtmeicnhlehdboaaDZ
import Derived.Test.YtmeicnhlehdboaaX2
import Derived.Deep.AppendLies
namespace Go.Proofs.Ytmeicnhlehdboaa
open Go.RowKit

theorem ZSt.below {w wx wy : World} {rg m c K nb b F f : Nat} {A : Option Addr} {z : Int} {S : Value} {ps : List Pp} (h : ZSt w rg m c K nb b A z S ps F (f + 1) wx) (hb : Below wx.heap.size wx wy) : ZSt w rg m c K nb b A z S ps F f wy := by
  have h' := h.more
  refine ⟨h'.fl, h'.be.trans (hb.mono h'.be.size), h'.rd.keep hb, h'.pi.keep hb, h'.nb.keep hb, ?_⟩
  rcases h'.r2 with q | q
  · exact .inl (q.keep hb)
  · exact .inr (q.keep hb)

/-- what is known while the row is drawn -/
structure PZ (W0 : World) (rg m c K g1 k c1 : Nat) (A : Option Addr) (hs : List Int) (wx : World) : Prop where
  gr : W0.grownBy wx (some rg)
  rd : Rd wx rg A m c K
  ro : Row wx W0.heap.size g1 k c1 hs
section
variable {W0 wx wy : World} {rg m c K K' g1 k c1 : Nat} {A : Option Addr} {hs : List Int}
theorem PZ.le (h : PZ W0 rg m c K g1 k c1 A hs wx) (hK : K ≤ K') : PZ W0 rg m c K' g1 k c1 A hs wx := ⟨h.gr, h.rd.more hK, h.ro⟩
theorem PZ.grown (h : PZ W0 rg m c K g1 k c1 A hs wx) (hrg : rg < W0.heap.size) (hr : Rd wy rg A m c K') (hg : wx.grownBy wy (some rg)) : PZ W0 rg m c K' g1 k c1 A hs wy :=
  ⟨grow_more h.gr hg (fun q hq => .inr hq), hr, h.ro.grown hg (by have := h.ro.lt; intro e; injection e with e; omega)⟩
theorem PZ.made (h : PZ W0 rg m c K g1 k c1 A hs wx) (o : Obj) : PZ W0 rg m c K g1 k c1 A hs (wx.alloc o) :=
  ⟨grow_alloc h.gr _, h.rd.alloc' o, h.ro.keep ((Below.refl _ _).alloc (Nat.le_refl _) o)⟩
theorem PZ.rowed {g2 k2 : Nat} {row : Option Nat} {hs2 : List Int} (h : PZ W0 rg m c K g1 k c1 A hs wx) (hrg : rg < W0.heap.size) (hrow : ∀ q, row = some q → W0.heap.size ≤ q) (hg : wx.grownBy wy row) (hR : Row wy W0.heap.size g2 (k + 1) k2 hs2) : PZ W0 rg m c K g2 (k + 1) k2 A hs2 wy :=
  ⟨grow_more h.gr hg (fun q hq => .inl (hrow q hq)), h.rd.low (below_grow hg (by have := h.rd.1; omega) (fun q hq => by have := hrow q hq; omega)), hR⟩
end

/-- what the operations yield -/
def prZ (rg B : Nat) (z : Int) (S F : Value) : Nat → Value → World → Prop
  | 0, x, _ => x = .agg #[.int .i64 z, S]
  | 1, x, _ => x = F
  | 2, x, _ => x = .agg #[.int .i64 z, S]
  | 3, x, _ => x = .pointer (some ⟨rg, 0, none⟩)
  | 4, x, _ => x = .agg #[.int .i64 z, S]
  | 5, x, w => ∃ hs, Ints w B x hs
  | 6, x, w => ∃ hs, Ints w B x hs
  | 8, x, _ => x = F
  | 9, x, w => ∃ hs, Ints w B x hs
  | _, _, _ => True
theorem prZ_keep {rg B C : Nat} {z : Int} {S F x : Value} {k' : Nat} {w w' : World} (hCB : C + 2 ≤ B) (hR : ∃ q, q ≤ C + 1 ∧ w.grownBy w' (some q)) (h : prZ rg B z S F k' x w) : prZ rg B z S F k' x w' := by
  revert h
  unfold prZ
  split <;> intro h <;> first
    | exact h
    | (obtain ⟨hs, h1⟩ := h
       obtain ⟨q, hq, hg⟩ := hR
       exact ⟨hs, h1.1.kept hg (.inr (fun e => by have := (h1.1.lt q e).1; omega)), h1.2⟩)

/-- what the operations yield -/
def pbZ (rg nb k L : Nat) (S : Value) : Nat → Value → Prop
  | 0, x => x = .int .i64 (k : Int)
  | 1, x => x = .pointer (some ⟨nb, 1, none⟩)
  | 2, x => x = S
  | 3, x => x = .int .i64 (L : Int)
  | 4, x => x = .pointer (some ⟨rg, 0, none⟩)
  | 5, x => ∃ y : Int, x = .int .i64 y ∧ 0 ≤ y ∧ y < 20
  | 6, x => ∃ y : Int, x = .int .i64 y ∧ 0 ≤ y ∧ y ≤ 1
  | 7, x => ∃ y : Int, x = .int .i64 y ∧ y ≤ (L : Int) + 1
  | 8, x => ∃ b : Bool, x = .bool b ∧ (b = true → (k : Int) < (L : Int) + 1)
  | _, _ => True

set_option maxHeartbeats 4000000 in
set_option maxRecDepth 20000 in
theorem drawProductOf_any (v : Value) (n : Nat) (w : World) (h : ArgBytes w v n) : Calls Try.prog 28 #[v] w fun e w' => ∃ (z : Int) (ps : List Pp) (u : Value) (xs : List Int) (f : Value) (ys : List Int) (t : Value), e = .returned (.tuple #[.agg #[.int .i64 z, u], f, t]) ∧ Pipes w' w.heap.size u ps ∧ Ints w' w.heap.size f xs ∧ Ints w' w.heap.size t ys ∧ Below w.heap.size w w' ∧ ps.length ≤ 8 := by
  obtain ⟨A, c, rfl, hc1, hc2, hcell⟩ := id h
  have hlow : ∀ m, m ≤ n → lowA A m w.heap.size := fun m hm k hk => by
    obtain ⟨g, o, x, hA, hg, -⟩ := hcell k (by omega)
    exact ⟨g, o, hA, hg⟩
  have HLOW := Lib.hid hlow
  clear hlow hcell
  have bx0 := Box2.new w (.int .i64 0) (.slice none 0 0) 25
  go_enter Try.func28, Try.ntmps28
  go_wp2_with fail
  refine (l20Open_same A c n _ (h.keep (by (repeat (first | (with_reducible assumption) | (with_reducible exact Below.refl _ _) | ((with_reducible refine Below.alloc ?_ ?hsz _); (case hsz => (first | omega | (simp; done) | (simp; omega) | (simp at *; omega)))) | ((with_reducible refine Below.setCell ?_ ?hsz _); (case hsz => (first | omega | (simp; done) | (simp; omega) | (simp at *; omega)))) | (with_reducible refine Below.drew ?_) | (with_reducible refine below_drewN ?_ _) | ((with_reducible refine Below.trans ?_ (Below.mono (by with_reducible assumption) ?hsz)); (case hsz => (first | omega | (simp; done) | (simp; omega) | (simp at *; omega))))))))).mono ?_
  rintro e w1 ⟨m, rfl, hr1, hmn, hb1, hz1⟩
  have bx1 := bx0.keep (hb1.mono (by simp))
  rw [World.size_alloc] at hr1 hz1
  have hgo : Below w.heap.size w w1 := by (repeat (first | (with_reducible assumption) | (with_reducible exact Below.refl _ _) | ((with_reducible refine Below.alloc ?_ ?hsz _); (case hsz => (first | omega | (simp; done) | (simp; omega) | (simp at *; omega)))) | ((with_reducible refine Below.setCell ?_ ?hsz _); (case hsz => (first | omega | (simp; done) | (simp; omega) | (simp at *; omega)))) | (with_reducible refine Below.drew ?_) | (with_reducible refine below_drewN ?_ _) | ((with_reducible refine Below.trans ?_ (Below.mono (by with_reducible assumption) ?hsz)); (case hsz => (first | omega | (simp; done) | (simp; omega) | (simp at *; omega))))))
  clear bx0 hb1 hc1 hc2 h
  go_wp2_with fail
  with_reducible refine (l20Flow_any 14 (w.heap.size + 1) m c 0 A _ hr1 (by omega) (by omega) (by omega)).mono ?_
  rintro e w2 ⟨z, ps, u, xs, t, rfl, hp2, hx2, hr2, hg2, hl8, hzl, hzh⟩
  have bx2 := bx1.grown hg2 (by simp)
  have hs2 := hg2.size
  have hb2 : Below w.heap.size w w2 := hgo.trans (below_grow hg2 (by omega) (fun q hq => by injection hq with hq; omega))
  obtain ⟨PA, pc, rfl, hc1, hc2, hsm, -⟩ := hp2.form
  obtain ⟨XA, xc, rfl, hc1', hc2', hsm', -⟩ := hx2.form
  unfold maxLen at hc2 hc2'
  have nb2 : Box2 (w2.alloc (.cells #[.int .i64 z, .slice PA ps.length pc] 25)) w2.heap.size (.int .i64 z) (.slice PA ps.length pc) := Box2.new _ _ _ _
  have bx3 := bx2.keep ((Below.refl _ _).alloc (Nat.le_refl _) (.cells #[.int .i64 z, .slice PA ps.length pc] 25))
  have hp3 := hp2.alloc' (.cells #[.int .i64 z, .slice PA ps.length pc] 25)
  have hx3 := hx2.keep ((Below.refl _ _).alloc (Nat.le_refl _) (.cells #[.int .i64 z, .slice PA ps.length pc] 25))
  have hr3 := hr2.alloc' (.cells #[.int .i64 z, .slice PA ps.length pc] 25)
  have hb3 := hb2.alloc hb2.size (.cells #[.int .i64 z, .slice PA ps.length pc] 25)
  have hrn : w.heap.size + 1 < w2.heap.size := by omega
  have hrb : w.heap.size + 1 < w1.heap.size := by omega
  have hbn : w1.heap.size ≤ w2.heap.size := by omega
  have HA := Lib.hid (HLOW.out m hmn)
  clear HLOW bx1 hg2 hr1 hr2 hp2 hx2 bx2 hb2 hs2 hgo hz1
  go_wp2_with fail
  generalize hW : World.alloc w2 _ = w3 at *
  have hsz3 : w3.heap.size = w2.heap.size + 1 := by rw [← hW]; simp
  generalize hnb : w2.heap.size = nb at *
  generalize hbb : w1.heap.size = bb at *
  clear hnb hbb hW
  refine (pick_any 2 (w.heap.size + 1) m c _ A _ hr3 (by omega) (by omega) (by omega)).mono ?_
  rintro e w4 ⟨x4, rfl, x40, x41, hr4, hg4, hz4⟩
  have hb4 := hb3.trans (below_grow (B := w.heap.size) hg4 hb3.size (fun q hq => by injection hq with hq; omega))
  have hp4 := hp3.grown hg4 hrb
  have hx4 := hx3.grown hg4 hrb
  have nb4 := nb2.grown hg4 (by simp; omega)
  have bx4 := bx3.grown hg4 (by simp)
  have hsz4 : w4.heap.size = nb + 1 := by omega
  clear hr3 hb3 hp3 hx3 nb2 bx3 hg4 hz4 hsz3
  by_cases h40 : x4 = 0
  · subst h40
    go_wp2
    have st3 : ZSt w (w.heap.size + 1) m c (0 + 500) nb bb A z (.slice PA ps.length pc) ps 10 10 { w4 with drawn := w4.drawn + 1 } :=
      ⟨Nat.le_refl _, ⟨hb4.os, hb4.tape, hb4.output, hb4.size, hb4.block⟩, (hr4.drew).more (by omega), hp4, nb4, .inl bx4⟩
    replace hx3 : Ints { w4 with drawn := w4.drawn + 1 } bb (.slice XA xs.length xc) xs := hx4
    clear hb4 hp4 hx4 hr4 nb4 bx4 hsz4
    refine wp_region_flow 10 none [(0, 20), (1, 21), (2, 22), (3, 23), (4, 24), (5, 25), (6, 26), (8, 3), (9, 4)] (fun j x _ wx => prZ (w.heap.size + 1) (w.heap.size + 2) z (.slice PA ps.length pc) (.slice XA xs.length xc) j x wx) (fun _ wa wb => ∃ q, q ≤ w.heap.size + 1 ∧ wa.grownBy wb (some q)) (fun f wx => ZSt w (w.heap.size + 1) m c (0 + 500) nb bb A z (.slice PA ps.length pc) ps 10 f wx ∧ Ints wx bb (.slice XA xs.length xc) xs) (by kernel_rfl) (by kernel_rfl) rfl ⟨st3, hx3⟩ ?_ ?_ ?_ ?_
    · exact fun _ k _ _ _ x _ wa wb hR h => prZ_keep (k' := k) (Nat.le_refl _) hR h
    · exact fun _ _ _ _ _ _ _ h => h
    · simp (maxSteps := 4000000) only [eachOp, fillF, List.setIfInBounds_toArray, List.set_cons_succ, List.set_cons_zero]
      refine ⟨?_, ?_, ?_, ?_, ?_, ?_, ?_, ?_, ?_, ?_, trivial⟩ <;> intro u f wx hC hd <;> (try simp [allV, useOf, Region.binds] at hd)
      · obtain ⟨nx, n0, n1, n2, n3⟩ := id hC.1.nb
        go_wp2
        exact ⟨_, rfl, rfl, ⟨w.heap.size, by omega, grow_refl _ _⟩, hC.1.more, hC.2⟩
      · go_wp2
        exact ⟨_, rfl, rfl, ⟨w.heap.size, by omega, grow_refl _ _⟩, hC.1.more, hC.2⟩
      · obtain ⟨nx, n0, n1, n2, n3⟩ := id hC.1.nb
        go_wp2
        exact ⟨_, rfl, rfl, ⟨w.heap.size, by omega, grow_refl _ _⟩, hC.1.more, hC.2⟩
      · go_wp2
        exact ⟨_, rfl, rfl, ⟨w.heap.size, by omega, grow_refl _ _⟩, hC.1.more, hC.2⟩
      · obtain ⟨nx, n0, n1, n2, n3⟩ := id hC.1.nb
        go_wp2
        exact ⟨_, rfl, rfl, ⟨w.heap.size, by omega, grow_refl _ _⟩, hC.1.more, hC.2⟩
      · rw [show u 3 = _ from (by first | exact hd | exact hd.1 | exact hd.2 | exact hd.2.1 | exact hd.2.2 | exact hd.2.2.1 | exact hd.2.2.2 | exact hd.2.2.2.1 | exact hd.2.2.2.2), show u 4 = _ from (by first | exact hd | exact hd.1 | exact hd.2 | exact hd.2.1 | exact hd.2.2 | exact hd.2.2.1 | exact hd.2.2.2 | exact hd.2.2.2.1 | exact hd.2.2.2.2)]
        go_wp2_with fail
        refine (l20Heights_any z (w.heap.size + 1) m c _ _ _ A _ _ hC.1.rd (by omega) hzh).mono ?_
        rintro e w5 ⟨r5, hs5, rfl, hi5, hr5, hg5, -⟩
        have hC5 := hC.1.picked rfl hrn hrb hg5 (hr5.more (by omega))
        have hF5 := hC.2.grown hg5 hrb
        have hbe := hC.1.be.size
        have hnl := hC.1.nb.1
        clear hC hr5
        go_wp2
        exact ⟨_, rfl, ⟨hs5, hi5.mono (by omega)⟩, ⟨w.heap.size + 1, Nat.le_refl _, hg5⟩, hC5, hF5⟩
      · rw [show u 2 = _ from (by first | exact hd | exact hd.1 | exact hd.2 | exact hd.2.1 | exact hd.2.2 | exact hd.2.2.1 | exact hd.2.2.2 | exact hd.2.2.2.1 | exact hd.2.2.2.2)]
        obtain ⟨hs, h5⟩ : ∃ hs, Ints wx (w.heap.size + 2) (u 5) hs := (by first | exact hd.1 | exact hd.2)
        obtain ⟨HA5, hc5, ev, -, -, -, -⟩ := h5.form
        rw [ev] at h5 ⊢
        go_wp2_with fail
        refine (specTension_any z _ _ ps hs _ _ _ hC.1.pi h5).mono ?_
        rintro e w5 ⟨r5, rfl, hi5, hn5⟩
        have hC5 := hC.1.below hn5
        have hF5 := hC.2.keep hn5
        have hbe := hC.1.be.size
        have hnl := hC.1.nb.1
        have hgw : wx.grownBy w5 (some w.heap.size) := grow_below (grow_refl wx _) hn5
        clear hC hn5
        go_wp2
        exact ⟨_, rfl, ⟨_, hi5.mono (by omega)⟩, ⟨w.heap.size, by omega, hgw⟩, hC5, hF5⟩
      · rw [show u 0 = _ from (by first | exact hd | exact hd.1 | exact hd.2 | exact hd.2.1 | exact hd.2.2 | exact hd.2.2.1 | exact hd.2.2.2 | exact hd.2.2.2.1 | exact hd.2.2.2.2)]
        have HS := Lib.hid (hC.1.set2 HA.out rfl hrn hrb)
        have HG := Lib.hid (zset_grown wx w.heap.size z (.slice PA ps.length pc))
        have HFX := Lib.hid (hC.2.grown HG.out (by omega))
        rcases hC.1.r2 with r | r
        all_goals
          obtain ⟨e0, e1, e2, e3, e4⟩ := id r
          clear r hC
          go_wp2
          exact ⟨undef, rfl, trivial, ⟨w.heap.size, by omega, HG.out⟩, HS.out, HFX.out⟩
        
      · rw [show u 1 = _ from (by first | exact hd | exact hd.1 | exact hd.2 | exact hd.2.1 | exact hd.2.2 | exact hd.2.2.1 | exact hd.2.2.2 | exact hd.2.2.2.1 | exact hd.2.2.2.2)]
        go_wp2
        exact ⟨_, rfl, rfl, ⟨w.heap.size, by omega, grow_refl _ _⟩, hC.1.more, hC.2⟩
      · have h6 : ∃ hs, Ints wx (w.heap.size + 2) (u 6) hs := hd
        go_wp2
        exact ⟨_, rfl, h6, ⟨w.heap.size, by omega, grow_refl _ _⟩, hC.1.more, hC.2⟩
    · intro u f wx hC hfin
      simp only [fillEnd, fillF, Act.put, List.setIfInBounds_toArray, List.set_cons_succ, List.set_cons_zero]
      have h8 : u 8 = .slice XA xs.length xc := hfin 8 (by decide) (by decide)
      obtain ⟨hs, h9⟩ : ∃ hs, Ints wx (w.heap.size + 2) (u 9) hs := hfin 9 (by decide) (by decide)
      obtain ⟨HA9, hc9, ev, -, -, -, -⟩ := h9.form
      rw [h8, ev]
      have HPI := Lib.hid (And.intro (hC.1.pi.mono (b' := w.heap.size) (by omega)) (And.intro (hC.2.mono (b' := w.heap.size) (by omega)) (And.intro hC.1.be (h9.mono (b' := w.heap.size) (by omega)))))
      rcases hC.1.r2 with r | r
      · obtain ⟨r0, r1, r2, r3, r4⟩ := r
        clear hC
        go_wp2
        refine bodyPost_ret (v := .tuple #[.agg #[.int .i64 0, .slice none 0 0], .slice XA xs.length xc, .slice HA9 hs.length hc9]) (by simp [results, Try.results28, go_sem, r1, r2]) rfl ⟨0, [], _, xs, _, hs, _, rfl, Pipes_nil _ _, HPI.out.2.1, by have := HPI.out.2.2.2; rw [ev] at this; exact this, HPI.out.2.2.1, by simp⟩
      · obtain ⟨r0, r1, r2, r3, r4⟩ := r
        clear hC
        go_wp2
        refine bodyPost_ret (v := .tuple #[.agg #[.int .i64 z, .slice PA ps.length pc], .slice XA xs.length xc, .slice HA9 hs.length hc9]) (by simp [results, Try.results28, go_sem, r1, r2]) rfl ⟨z, ps, _, xs, _, hs, _, rfl, HPI.out.1, HPI.out.2.1, by have := HPI.out.2.2.2; rw [ev] at this; exact this, HPI.out.2.2.1, hl8⟩
  · have hx0 : (x4 == 0) = false := by rw [beq_eq_false_iff_ne]; exact h40
    have hrw : w.heap.size + 1 < w4.heap.size := by omega
    have hR0 : Row (w4.alloc (.cells #[] 3)) w4.heap.size w4.heap.size 0 0 [] :=
      ⟨World.ownsRow_lit (e := 3) (base := w4.heap.size) (size := 1) w4 #[] 0 (Nat.le_refl _) (by simp [maxLen]) rfl, by simp [small]⟩
    have hC00 : PZ w4 (w.heap.size + 1) m c 500 w4.heap.size 0 0 A [] (w4.alloc (.cells #[] 3)) :=
      ⟨grow_alloc (grow_refl w4 _) _, (hr4.more (by omega)).alloc' _, hR0⟩
    clear hr4 hR0 h40
    go_wp2
    go_loopw [9, 8] (fun a b wr => ∃ (k g1 c1 : Nat) (hs : List Int), k ≤ 9 ∧ a = .int .i64 (k : Int) ∧ b = .slice (some ⟨g1, 0, none⟩) k c1 ∧ PZ w4 (w.heap.size + 1) m c (500 + 20 * k) g1 k c1 A hs wr) (fun a _ _ => 10 - (intOf a).toNat)
    case atStart => exact ⟨0, w4.heap.size, 0, [], by omega, rfl, by rw [hsz4], hC00⟩
    case round =>
      clear hC00
      obtain ⟨k, g1, c1, hs, hk, rfl, rfl, hC⟩ := hrel
      have hC0 : PZ w4 (w.heap.size + 1) m c (500 + 20 * k + (9 - 9)) g1 k c1 A hs { wr with drawn := wr.drawn + 1 } ∧ 9 ≤ 9 :=
        ⟨⟨grow_drew hC.gr, hC.rd.drew, hC.ro⟩, Nat.le_refl _⟩
      clear hC
      obtain ⟨K, hK⟩ : ∃ K, K = 500 + 20 * k := ⟨_, rfl⟩
      rw [← hK] at hC0
      go_wp2
      refine wp_region_flow 9 none [(0, 28), (1, 29), (2, 30), (3, 31), (4, 32), (5, 33), (6, 34), (7, 35), (8, 36)] (fun j x _ _ => pbZ (w.heap.size + 1) nb k ps.length (.slice PA ps.length pc) j x) (fun _ _ _ => True) (fun f wx => PZ w4 (w.heap.size + 1) m c (K + (9 - f)) g1 k c1 A hs wx ∧ f ≤ 9) (by kernel_rfl) (by kernel_rfl) rfl hC0 ?_ ?_ ?_ ?_
      · exact fun _ _ _ _ _ _ _ _ _ _ h => h
      · exact fun _ _ _ _ _ _ _ h => h
      · simp (maxSteps := 4000000) only [eachOp, fillF, List.setIfInBounds_toArray, List.set_cons_succ, List.set_cons_zero]
        refine ⟨?_, ?_, ?_, ?_, ?_, ?_, ?_, ?_, ?_, trivial⟩ <;> intro u f wx hC hd <;> (try simp [allV, useOf, Region.binds] at hd)
        · go_wp2
          exact ⟨_, rfl, rfl, trivial, hC.1.le (by omega), by omega⟩
        · obtain ⟨nx, n0, n1, n2, n3⟩ := nb4.grown hC.1.gr (by simp; omega)
          go_wp2
          exact ⟨_, rfl, rfl, trivial, hC.1.le (by omega), by omega⟩
        · rw [show u 1 = _ from (by first | exact hd | exact hd.1 | exact hd.2 | exact hd.2.1 | exact hd.2.2 | exact hd.2.2.1 | exact hd.2.2.2 | exact hd.2.2.2.1 | exact hd.2.2.2.2)]
          obtain ⟨nx, n0, n1, n2, n3⟩ := nb4.grown hC.1.gr (by simp; omega)
          go_wp2
          exact ⟨_, rfl, rfl, trivial, hC.1.le (by omega), by omega⟩
        · rw [show u 2 = _ from (by first | exact hd | exact hd.1 | exact hd.2 | exact hd.2.1 | exact hd.2.2 | exact hd.2.2.1 | exact hd.2.2.2 | exact hd.2.2.2.1 | exact hd.2.2.2.2)]
          go_wp2
          exact ⟨_, rfl, rfl, trivial, hC.1.le (by omega), by omega⟩
        · go_wp2
          exact ⟨_, rfl, rfl, trivial, hC.1.le (by omega), by omega⟩
        · rw [show u 4 = _ from (by first | exact hd | exact hd.1 | exact hd.2 | exact hd.2.1 | exact hd.2.2 | exact hd.2.2.1 | exact hd.2.2.2 | exact hd.2.2.2.1 | exact hd.2.2.2.2)]
          go_wp2_with fail
          refine (pick_any 20 (w.heap.size + 1) m c _ A _ hC.1.rd (by omega) (by omega) (by omega)).mono ?_
          rintro e w5 ⟨x, rfl, x0, x1, hr5, hg5, hz5⟩
          have hf9 := hC.2
          have hC5 := hC.1.grown hrw (hr5.more (K' := K + (9 - f)) (by omega)) hg5
          clear hC hr5 hg5 hz5
          go_wp2
          exact ⟨_, rfl, ⟨x, rfl, x0, x1⟩, trivial, hC5, by omega⟩
        · obtain ⟨x, h5, x0, x1⟩ : ∃ y : Int, u 5 = .int .i64 y ∧ 0 ≤ y ∧ y < 20 := hd
          rw [h5]
          have ht : x.tdiv 19 = x / 19 := Int.tdiv_eq_ediv_of_nonneg x0
          have hw : IntKind.i64.wrap (x / 19) = x / 19 := IntWalk.i64_in _ (by omega)
          go_wp2
          exact ⟨_, rfl, ⟨_, rfl, by omega, by omega⟩, trivial, hC.1.le (by omega), by omega⟩
        · rw [show u 3 = _ from (by first | exact hd | exact hd.1 | exact hd.2 | exact hd.2.1 | exact hd.2.2 | exact hd.2.2.1 | exact hd.2.2.2 | exact hd.2.2.2.1 | exact hd.2.2.2.2)]
          obtain ⟨y, h6, y0, y1⟩ : ∃ y : Int, u 6 = .int .i64 y ∧ 0 ≤ y ∧ y ≤ 1 := (by first | exact hd.1 | exact hd.2)
          rw [h6]
          have hw : IntKind.i64.wrap ((ps.length : Int) + y) = (ps.length : Int) + y := IntWalk.i64_in _ (by omega)
          go_wp2
          exact ⟨_, rfl, ⟨_, rfl, by omega⟩, trivial, hC.1.le (by omega), by omega⟩
        · rw [show u 0 = _ from (by first | exact hd | exact hd.1 | exact hd.2 | exact hd.2.1 | exact hd.2.2 | exact hd.2.2.1 | exact hd.2.2.2 | exact hd.2.2.2.1 | exact hd.2.2.2.2)]
          obtain ⟨y, h7, y1⟩ : ∃ y : Int, u 7 = .int .i64 y ∧ y ≤ (ps.length : Int) + 1 := (by first | exact hd.1 | exact hd.2)
          rw [h7]
          go_wp2
          exact ⟨_, rfl, ⟨_, rfl, fun h => by have := of_decide_eq_true h; omega⟩, trivial, hC.1.le (by omega), by omega⟩
      · intro u f wx hC hfin
        simp only [fillEnd, fillF, Act.put, List.setIfInBounds_toArray, List.set_cons_succ, List.set_cons_zero]
        obtain ⟨b, h8, hb8⟩ : ∃ b : Bool, u 8 = .bool b ∧ (b = true → (k : Int) < (ps.length : Int) + 1) := hfin 8 (by decide) (by decide)
        rw [h8]
        cases b with
        | true =>
          have hk8 : k ≤ ps.length := by have := hb8 rfl; omega
          clear hb8
          go_wp2_with fail
          replace hC := hC.1
          refine (pick_any 9 (w.heap.size + 1) m c (K + 9) A _ (hC.rd.more (by omega)) (by omega) (by omega) (by omega)).mono ?_
          rintro e w5 ⟨x3, rfl, x30, x31, hr3, hg3, hz3⟩
          have hC3 := hC.grown hrw hr3 hg3
          clear hC hr3 hg3 hz3
          go_wp2_with fail
          refine (pick_any 40 (w.heap.size + 1) m c (K + 10) A _ (hC3.rd.more (by omega)) (by omega) (by omega) (by omega)).mono ?_
          rintro e w6 ⟨x4, rfl, x40, x41, hr4, hg4, hz4⟩
          have hC4 := hC3.grown hrw (hr4.more (K' := K + 12) (by omega)) hg4
          clear hC3 hr4 hg4 hz4
          have ht : x4.tdiv 39 = x4 / 39 := Int.tdiv_eq_ediv_of_nonneg x40
          have hq0 : 0 ≤ x4 / 39 := by omega
          have hq1 : x4 / 39 ≤ 1 := by omega
          have hw1 := IntWalk.i64_in (x4 / 39) (by omega)
          generalize x4 / 39 = y at *
          have hw2 := IntWalk.i64_in (y * 90) (by omega)
          have hw3 := IntWalk.wrap64_in (y * 90) (by omega)
          have hown := hC4.ro.1
          have hcap := hC4.ro.capd
          unfold maxLen at hcap
          have hrow : ∀ q, (Value.slice (some ⟨g1, 0, none⟩) k c1).ownBlock = some q → w4.heap.size ≤ q := fun q hq => (hown.lt q hq).1
          have hs4 := hC4.gr.size
          obtain ⟨i0, hi0, hz0, hz1, hz2⟩ := info_parts int_info
          go_wp2_with (first
            | (at_builtin
               go_must (refine wpList_append_lies _ rfl _ _ 27 rfl w4.heap.size 3 i0 _ 1 8 Try.underlying27 hi0 hz0 hz1 hz2 rfl (by omega) _ k _ rfl (hown.alloc _) ⟨w6.heap.size, 0, none⟩ 1 1 [.int .i64 (x3 - 4 + y * 90)] rfl rfl (World.news_of_block (cs := #[.int .i64 (x3 - 4 + y * 90)]) (t := 3) (fr := (0, 0)) (heap_alloc_new _ _)) (by simp [Value.oneCell']) (by omega) (by unfold maxLen; omega) (by omega) (by have := hC4.ro.lt; simp; omega) _ rfl ?_)
               intro g2 k2 w7 hown7 hgr7 hat7 hlt7))
          have hR8 : Row w7 w4.heap.size g2 (k + 1) k2 (hs ++ [x3 - 4 + y * 90]) := ⟨by rw [List.map_append]; exact hown7, by unfold small; omega⟩
          have hC8 := (hC4.made _).rowed hrw hrow hgr7 hR8
          clear hown7 hgr7 hat7 hlt7 hC4 hown hrow ht
          go_wp2
          go_roundw
          case rel => exact ⟨k + 1, g2, k2, _, by omega, by go_num, rfl, hC8.le (by omega)⟩
          case measure => simp [intOf]; omega
        | false =>
          clear hb8
          replace hC := hC.1
          obtain ⟨nx, n0, n1, n2, n3⟩ := nb4.grown hC.gr (by simp; omega)
          have hr2 := bx4.grown hC.gr (by simp)
          obtain ⟨r0, r1, r2, r3, r4⟩ := id hr2
          have hbe : Below w.heap.size w wx := hb4.trans (below_grow (B := w.heap.size) hC.gr hb4.size (fun q hq => by injection hq with hq; omega))
          have HSB : Hid (Below w.heap.size w ((wx.setCell ⟨w.heap.size, 0, none⟩ (.int .i64 z)).setCell ⟨w.heap.size, 1, none⟩ (.slice PA ps.length pc))) := Lib.hid ((hbe.setCell (Nat.le_refl _) _).setCell (Nat.le_refl _) _)
          have HG := Lib.hid (zset_grown wx w.heap.size z (.slice PA ps.length pc))
          have HP2 := Lib.hid (((hp4.grown hC.gr hrb).grown HG.out (by omega)).mono (b' := w.heap.size) (by omega))
          have HF2 := Lib.hid (((hx4.grown hC.gr hrb).grown HG.out (by omega)).mono (b' := w.heap.size) (by omega))
          have HR2 := Lib.hid ((hC.ro.ints.grown HG.out (by omega)).mono (b' := w.heap.size) (by omega))
          have HX2 := Lib.hid ((hr2.set0 (.int .i64 z)).set1 (.slice PA ps.length pc))
          clear hC hr2 hbe
          go_wp2
          generalize (wx.setCell ⟨w.heap.size, 0, none⟩ (.int .i64 z)).setCell ⟨w.heap.size, 1, none⟩ (.slice PA ps.length pc) = wy at *
          obtain ⟨q0, q1, q2, q3, q4⟩ := HX2.out
          refine bodyPost_ret (v := .tuple #[.agg #[.int .i64 z, .slice PA ps.length pc], .slice XA xs.length xc, .slice (some ⟨g1, 0, none⟩) k c1]) (by simp [results, Try.results28, go_sem, q1, q2]) rfl ⟨z, ps, _, xs, _, hs, _, rfl, HP2.out, HF2.out, HR2.out, HSB.out, hl8⟩

end Go.Proofs.Ytmeicnhlehdboaa
