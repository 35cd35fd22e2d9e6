/- Plain facts. -/
import Derived.Test.YtabkhpeoeihmmaaKA
import Derived.Test.YtabkhpeoeihmmaaWK
/- Contracts of the functions of chapter 12 in the program: BasinNew. -/
namespace Go.Proofs.Ytabkhpeoeihmmaa
open Go.RowKit

/-- what the operations yield -/
def bnV (g : Nat) (T : Value) (L N : Nat) : Nat → Value → Prop
  | 0, x => x = .pointer (some ⟨g, 1, none⟩)
  | 1, x => x = T
  | 2, x => x = .int .i64 (L : Int)
  | 3, x => ∃ q, x = .slice (some ⟨q, 0, none⟩) L L
  | 4, x => x = .pointer (some ⟨g, 0, none⟩)
  | 5, x => x = .int .i64 (N : Int)
  | 6, x => ∃ q, x = .slice (some ⟨q, 0, none⟩) N N
  | 7, x => ∃ p q, x = .agg #[.slice (some ⟨p, 0, none⟩) L L, .slice (some ⟨q, 0, none⟩) N N]
  | 8, x => ∃ q, x = .pointer (some ⟨q, 0, none⟩)
  | 9, x => x = .bool true
  | _, _ => True

theorem newX_snoc {ps : List Pp} {a : Int} {zs : List Int} {k : Nat} (hk : k < ps.length) (hz : zs.take k = (newX ps a).take k) (hl : zs.length = ps.length) : (zs.set k (newT a ps[k])).take (k + 1) = (newX ps a).take (k + 1) :=
  set_take (by omega) hz (by rw [newX, List.getElem?_map, List.getElem?_eq_getElem hk]; rfl)
theorem newX_same {ps : List Pp} {a : Int} {zs : List Int} {k : Nat} (hk : k < ps.length) (hz : zs.take k = (newX ps a).take k) (hl : zs.length = ps.length) (hd : zs.getD k 0 = 0) (hf : ps[k].fr ≠ a) : zs.take (k + 1) = (newX ps a).take (k + 1) := by
  have e : zs.set k (newT a ps[k]) = zs := by
    have h0 : newT a ps[k] = 0 := by simp [newT, hf]
    rw [h0]
    apply List.ext_getElem (by simp)
    intro q h1 h2
    rw [List.getElem_set]
    split
    · rename_i e; subst e
      rw [List.getD_eq_getElem?_getD, List.getElem?_eq_getElem h2] at hd
      exact hd.symm
    · rfl
  rw [← e]
  exact newX_snoc hk hz hl

set_option maxHeartbeats 4000000 in
set_option maxRecDepth 20000 in
theorem basinNew_any (n i j : Int) (v : Value) (ps : List Pp) (b : Nat) (w : World) (hp : Pipes w b v ps) :
    Calls Try.prog 24 #[.agg #[.int .i64 n, v], .int .i64 i, .int .i64 j] w fun e w' => ∃ r1 r2, e = .returned (.tuple #[.agg #[r1, r2], .bool (greatB n ps i j)]) ∧ Ints w' w.heap.size r1 (bnewX n ps i j) ∧ Ints w' w.heap.size r2 (bnewH n ps i j) ∧ (∀ x y, r1.ownBlock = some x → r2.ownBlock = some y → x ≠ y) ∧ Below w.heap.size w w' := by
  have hp0 := hp
  obtain ⟨A, c, rfl, hc1, hc2, hsm, hcell⟩ := hp.form
  unfold maxLen at hc2
  obtain ⟨w0, hw0⟩ : ∃ W, W = (w.alloc (.cells #[.int .i64 n, .slice A ps.length c] 33)).alloc (.cells #[.slice none 0 0, .slice none 0 0] 35) := ⟨_, rfl⟩
  have hB0 : Below w.heap.size w w0 := by rw [hw0]; (repeat (first | (with_reducible assumption) | (with_reducible exact Below.refl _ _) | ((with_reducible refine Below.alloc ?_ ?hsz _); (case hsz => (first | omega | (simp; done) | (simp; omega) | (simp at *; omega)))) | ((with_reducible refine Below.setCell ?_ ?hsz _); (case hsz => (first | omega | (simp; done) | (simp; omega) | (simp at *; omega)))) | (with_reducible refine Below.drew ?_) | (with_reducible refine below_drewN ?_ _) | ((with_reducible refine Below.trans ?_ (Below.mono (by with_reducible assumption) ?hsz)); (case hsz => (first | omega | (simp; done) | (simp; omega) | (simp at *; omega))))))
  have hz0 : w.heap.size + 2 ≤ w0.heap.size := by rw [hw0]; simp
  have s0 : w.heap.size < w0.heap.size := by omega
  have s1 : w.heap.size + 1 < w0.heap.size := by omega
  have d0 : w0.cell? ⟨w.heap.size, 0, none⟩ = some (.int .i64 n) := by rw [hw0]; go_simp
  have d1 : w0.cell? ⟨w.heap.size, 1, none⟩ = some (.slice A ps.length c) := by rw [hw0]; go_simp
  have hh0 : w0.heap[w.heap.size + 1]? = some (.cells #[.slice none 0 0, .slice none 0 0] 35 (0, 0)) := by
    rw [hw0]
    have := heap_alloc_new (w.alloc (.cells #[.int .i64 n, .slice A ps.length c] 33)) (.cells #[.slice none 0 0, .slice none 0 0] 35 (0, 0))
    rw [World.size_alloc] at this
    exact this
  go_enter Try.func24, Try.ntmps24
  go_wp2_with fail
  rw [← hw0]
  clear hw0
  refine (freeEndsOk_any n i j _ ps b _ (hp0.keep hB0)).mono ?_
  rintro e w1 ⟨rfl, hb1⟩
  have hB1 := hB0.trans (hb1.mono (by omega))
  have hz1 := hb1.size
  have e0 := (bel_cell hb1 s0).trans d0
  have e1 := (bel_cell hb1 s0).trans d1
  have hh1 := heap_keep hh0 hb1
  have p0 : w.heap.size < w1.heap.size := by omega
  have p1 : w.heap.size + 1 < w1.heap.size := by omega
  clear d0 d1 hh0 s0 s1
  by_cases hg : greatB n ps i j = true
  · rw [hg]
    obtain ⟨hn, n2, n5, i0, i1, j0, j1, -⟩ := net_of_great hg
    have hl7 := (netOk_parts hn).2.2.1
    have HG := Lib.hid hg
    obtain ⟨N, rfl⟩ : ∃ N : Nat, n = (N : Int) := ⟨n.toNat, by omega⟩
    obtain ⟨I, rfl⟩ : ∃ I : Nat, i = (I : Int) := ⟨i.toNat, by omega⟩
    have hmk := fun W => run_make_ints (n := ps.length) hsm W
    have hmk2 := fun W => run_make_ints (n := N) (by omega) W
    have hNs : N ≤ 4194304 := by omega
    clear hg hn
    go_wp2_with fail
    refine wp_region_flowG 10 none [(0, 17), (1, 18), (2, 19), (3, 20), (4, 21), (5, 22), (6, 23), (7, 24), (8, 8)] (fun j x _ _ => bnV w.heap.size (.slice A ps.length c) ps.length N j x) (fun _ _ _ => True) (fun _ a wx => HSt w1 (List.replicate ps.length 0) (List.replicate N 0) (a 3) (a 6) (a 7) (a 8) (a 9) wx) (by kernel_rfl) (by kernel_rfl) rfl
      (HSt.start ⟨rfl, rfl, rfl, Nat.le_refl _, fun _ _ => rfl⟩) ?_ ?_ ?_ ?_
    · exact fun _ _ _ _ _ _ _ _ _ _ h => h
    · exact fun _ _ _ _ _ _ _ h => h
    · simp only [eachOp, fillF, List.setIfInBounds_toArray, List.set_cons_succ, List.set_cons_zero]
      refine ⟨?_, ?_, ?_, ?_, ?_, ?_, ?_, ?_, ?_, ?_, trivial⟩ <;> intro u uu f wx hC hun hl hd <;> (try simp [allV, useOf, Region.binds] at hd) <;> intro _
      · go_wp2
        exact ⟨_, rfl, rfl, trivial, hC⟩
      · rw [show u 0 = _ from hd]
        have k1 := (bel_cell hC.b p0).trans e1
        go_wp2
        exact ⟨_, rfl, rfl, trivial, hC⟩
      · rw [show u 1 = _ from hd]
        go_wp2
        exact ⟨_, rfl, rfl, trivial, hC⟩
      · rw [show u 2 = _ from hd]
        have hC' : HSt w1 (List.replicate ps.length 0) (List.replicate N 0) (.slice (some ⟨wx.heap.size, 0, none⟩) ps.length ps.length) (uu 6) (uu 7) (uu 8) (uu 9) (wx.alloc (.cells (madeCells #[.int .i64 0] ps.length) 3)) := by
          have hC2 := hC
          rw [hun] at hC2
          exact hC2.new2 ((Below.refl _ _).alloc (Nat.le_refl _) _) (Ints_made wx (n := ps.length) (b := wx.heap.size) (g := wx.heap.size) (Nat.le_refl _) hsm rfl)
        go_wp2
        exact ⟨_, rfl, ⟨_, rfl⟩, trivial, hC'⟩
      · go_wp2
        exact ⟨_, rfl, rfl, trivial, hC⟩
      · rw [show u 4 = _ from hd]
        have k0 := (bel_cell hC.b p0).trans e0
        go_wp2
        exact ⟨_, rfl, rfl, trivial, hC⟩
      · rw [show u 5 = _ from hd]
        have hC' : HSt w1 (List.replicate ps.length 0) (List.replicate N 0) (uu 3) (.slice (some ⟨wx.heap.size, 0, none⟩) N N) (uu 7) (uu 8) (uu 9) (wx.alloc (.cells (madeCells #[.int .i64 0] N) 3)) := by
          have hC2 := hC
          rw [hun] at hC2
          exact hC2.new5 ((Below.refl _ _).alloc (Nat.le_refl _) _) (Ints_made wx (n := N) (b := wx.heap.size) (g := wx.heap.size) (Nat.le_refl _) hNs rfl)
        go_wp2
        exact ⟨_, rfl, ⟨_, rfl⟩, trivial, hC'⟩
      · obtain ⟨⟨x1, hd1⟩, y1, hd2⟩ := hd
        have hl3 := hl 3 (by decide)
        have hl6 := hl 6 (by decide)
        have hC' : HSt w1 (List.replicate ps.length 0) (List.replicate N 0) (uu 3) (uu 6) (.agg #[uu 3, uu 6]) (uu 8) (uu 9) wx := by
          have hC2 := hC
          rw [hun] at hC2
          exact hC2.new6 (by rw [← hl3, hd1]; exact fun e => by cases e) (by rw [← hl6, hd2]; exact fun e => by cases e)
        rw [← hl3, ← hl6, show Value.agg #[u 3, u 6] = .agg #[.slice (some ⟨x1, 0, none⟩) ps.length ps.length, .slice (some ⟨y1, 0, none⟩) N N] by rw [hd1, hd2]] at hC'
        go_wp2
        refine ⟨_, rfl, ⟨_, _, rfl⟩, trivial, ?_⟩
        simp only [← hl3, ← hl6]
        exact hC'
      · have hC' := (show HSt w1 (List.replicate ps.length 0) (List.replicate N 0) (uu 3) (uu 6) (uu 7) undef (uu 9) wx by have hC2 := hC; rw [hun] at hC2; exact hC2).new7 (.slice none 0 0) (.slice none 0 0)
        go_wp2
        exact ⟨_, rfl, ⟨_, rfl⟩, trivial, hC'⟩
      · obtain ⟨⟨q, hd2⟩, x1, y1, hd1⟩ := hd
        have hl7 := hl 7 (by decide)
        have hl8 := hl 8 (by decide)
        have e7 : uu 8 = .pointer (some ⟨q, 0, none⟩) := by rw [← hl8, hd2]
        have e6 : uu 7 = .agg #[.slice (some ⟨x1, 0, none⟩) ps.length ps.length, .slice (some ⟨y1, 0, none⟩) N N] := by rw [← hl7, hd1]
        have n6 : uu 7 ≠ undef := by rw [e6]; exact fun e => by cases e
        have hC2 : HSt w1 (List.replicate ps.length 0) (List.replicate N 0) (uu 3) (uu 6) (uu 7) (uu 8) undef wx := by have hC2 := hC; rw [hun] at hC2; exact hC2
        obtain ⟨ey, ez⟩ : uu 3 = .slice (some ⟨x1, 0, none⟩) ps.length ps.length ∧ uu 6 = .slice (some ⟨y1, 0, none⟩) N N := by
          rcases hC.s6 with k | ⟨k, -, -⟩
          · exact absurd k n6
          · rw [e6] at k
            simp only [Value.agg.injEq, Array.mk.injEq, List.cons.injEq, and_true] at k
            exact ⟨k.1.symm, k.2.symm⟩
        have hC' : HSt w1 (List.replicate ps.length 0) (List.replicate N 0) (uu 3) (uu 6) (uu 7) (uu 8) (.bool true) ((wx.setCell ⟨q, 0, none⟩ (.slice (some ⟨x1, 0, none⟩) ps.length ps.length)).setCell ⟨q, 1, none⟩ (.slice (some ⟨y1, 0, none⟩) N N)) := by
          have := hC2.new8 e7 n6
          rw [ey, ez] at this ⊢
          exact this
        obtain ⟨x0, y0, hh⟩ : ∃ x y, wx.heap[q]? = some (.cells #[x, y] 35 (0, 0)) := by
          rcases hC2.s7 with k | ⟨q', k1, k2, k3⟩
          · rw [k] at e7; cases e7
          · rw [k1] at e7; injection e7 with e7; injection e7 with e7; injection e7 with e7; subst e7; exact k3 rfl
        have j0 := heap_cell (j := 0) hh rfl
        have j1 := heap_cell (j := 1) hh rfl
        have f0 := heap_frozen (j := 0) hh
        have f1 := heap_frozen (j := 1) hh
        rw [show u 7 = _ from hd1, show u 8 = _ from hd2]
        have HC' := Lib.hid hC'
        clear hC hC2 hC' e6 e7 n6 ey ez hl7 hl8 hl hd1 hd2 hun hh
        go_wp2
        exact ⟨.bool true, rfl, rfl, trivial, HC'.out⟩
    · intro uu f wx hC hfin
      obtain ⟨n2', n5', n6, q, e7, hhq⟩ := hC.s8 (hfin 9 (by decide) (by decide))
      have hr2 : Ints wx w1.heap.size (uu 3) (List.replicate ps.length 0) := by
        rcases hC.r2 with k | k
        · exact absurd k n2'
        · exact k
      have hr5 : Ints wx w1.heap.size (uu 6) (List.replicate N 0) := by
        rcases hC.r5 with k | k
        · exact absurd k n5'
        · exact k
      have hap := hC.ap
      have hqB : w1.heap.size ≤ q := by
        rcases hC.s7 with k | ⟨q', k1, k2, -⟩
        · rw [k] at e7; cases e7
        · rw [k1] at e7; injection e7 with e7; injection e7 with e7; injection e7 with e7; omega
      have hBx := hC.b
      simp only [fillEnd, fillF, Act.put, List.setIfInBounds_toArray, List.set_cons_succ, List.set_cons_zero]
      rw [e7]
      generalize uu 3 = U at *
      generalize uu 6 = T at *
      clear hfin hC n2' n5' n6 e7
      obtain ⟨A4, c4, rfl, -, hc4, -, -⟩ := hr2.form
      obtain ⟨A5, c5, rfl, -, -, -, -⟩ := hr5.form
      have lr2 : (List.replicate ps.length (0 : Int)).length = ps.length := by simp
      have lr5 : (List.replicate N (0 : Int)).length = N := by simp
      obtain ⟨gh, c5', hv, hRh⟩ := hr5.row (by rw [lr5]; omega)
      injection hv with x1 x2 x3
      subst x1
      subst x3
      (try rw [lr2] at hr2)
      (try rw [lr2] at hc4)
      (try rw [lr2] at hap)
      (try rw [lr2] at hhq)
      (try rw [lr5] at hap)
      (try rw [lr5] at hhq)
      (try rw [lr5] at hRh)
      rw [lr2, lr5]
      unfold maxLen at hc4
      have kx0 := (bel_cell hBx p0).trans e0
      have kx1 := (bel_cell hBx p0).trans e1
      have hhx := heap_keep hh1 hBx
      have hBwx := hB1.trans (hBx.mono (by omega))
      have hzx := hBx.size
      clear hr5
      go_wp2
      go_loopw [28] (fun i wr => ∃ (k : Nat) (zs : List Int), k ≤ ps.length ∧ i = .int .i64 k ∧ zs.length = ps.length ∧ zs.take k = (newX ps I).take k ∧ (∀ m, k ≤ m → zs.getD m 0 = 0) ∧ Ints wr w1.heap.size (.slice A4 ps.length c4) zs ∧
          Row wr w1.heap.size gh N c5 (List.replicate N 0) ∧ wr.heap[q]? = some (.cells #[.slice A4 ps.length c4, .slice (some ⟨gh, 0, none⟩) N c5] 35 (0, 0)) ∧ Below w1.heap.size w1 wr) (fun i _ => ps.length - (intOf i).toNat)
      case atStart => exact ⟨0, List.replicate ps.length 0, by omega, rfl, lr2, rfl, fun m _ => by rw [List.getD_eq_getElem?_getD, List.getElem?_replicate]; split <;> rfl, hr2, hRh, hhq, hBx⟩
      case round =>
        obtain ⟨k, zs, hk, rfl, hzl, hzk, hz00, hI, hR, hh, hb⟩ := hrel
        have hbz := hb.size
        have hBwr := hB1.trans (hb.mono (by omega))
        have HZ := Lib.hid (And.intro hzl (And.intro hzk hz00))
        by_cases hlt : k < ps.length
        · obtain ⟨g, rfl, hg1, hg2, y0, y1, y2, y3, y4⟩ := hcell wr hBwr k hlt
          have hhg : wr.heap[w.heap.size]? = wr.heap[w.heap.size]? := rfl
          have m0 := heap_cell (j := 0) hh rfl
          have m1 := heap_cell (j := 1) hh rfl
          have hqr := heap_lt hh
          obtain ⟨g4, c4', hv4, hR4⟩ := hI.row (by omega)
          rw [hzl] at hv4 hR4
          injection hv4 with x1 x2 x3
          subst x1
          subst x3
          obtain ⟨z0, zf⟩ := hR4.at' k hlt
          obtain ⟨g4a, g4b⟩ := hR4.lt
          have hq4 : q ≠ g4 := own_ne hR4.1 hh (by decide) g4 rfl
          have hqh : q ≠ gh := own_ne hR.1 hh (by decide) gh rfl
          have h4h : g4 ≠ gh := hap g4 gh rfl rfl
          have hgr : g < wr.heap.size := by omega
          by_cases hfr : ps[k].fr = (I : Int)
          · have hbq : (ps[k].fr == (I : Int)) = true := by simp [hfr]
            have HN := Lib.hid (show (zs.set k ps[k].mo).take (k + 1) = (newX ps I).take (k + 1) ∧ (∀ m, k + 1 ≤ m → (zs.set k ps[k].mo).getD m 0 = 0) by
              refine ⟨?_, fun m hm => ?_⟩
              · have := newX_snoc (a := (I : Int)) hlt hzk hzl
                rw [show newT (I : Int) ps[k] = ps[k].mo by simp [newT, hfr]] at this
                exact this
              · rw [getD_set _ _ _ _ _ (by omega), if_neg (by omega)]
                exact hz00 m (by omega))
            have HR9 := Lib.hid (And.intro (hR4.set k ps[k].mo) (And.intro (hR.far (a := ⟨g4, k, none⟩) h4h (.int .i64 ps[k].mo)) (And.intro ((Below.heap_setCell wr ⟨g4, k, none⟩ (.int .i64 ps[k].mo) q hq4).trans hh) (hb.setCell (p := ⟨g4, k, none⟩) g4a (.int .i64 ps[k].mo)))))
            have hold : ∃ old, zs.getD k 0 = old := ⟨_, rfl⟩
            generalize zs.getD k 0 = old at *
            clear hR4 hR hh hI hzk hz00 hfr hRh hhq hr2 hold
            go_wp2
            go_roundw
            case rel => exact ⟨k + 1, zs.set k ps[k].mo, by omega, by go_num, by rw [List.length_set]; exact HZ.out.1, HN.out.1, HN.out.2, HR9.out.1.ints.keep (by (repeat (first | (with_reducible assumption) | (with_reducible exact Below.refl _ _) | ((with_reducible refine Below.alloc ?_ ?hsz _); (case hsz => (first | omega | (simp; done) | (simp; omega) | (simp at *; omega)))) | ((with_reducible refine Below.setCell ?_ ?hsz _); (case hsz => (first | omega | (simp; done) | (simp; omega) | (simp at *; omega)))) | (with_reducible refine Below.drew ?_) | (with_reducible refine below_drewN ?_ _) | ((with_reducible refine Below.trans ?_ (Below.mono (by with_reducible assumption) ?hsz)); (case hsz => (first | omega | (simp; done) | (simp; omega) | (simp at *; omega))))))), HR9.out.2.1.keep (by (repeat (first | (with_reducible assumption) | (with_reducible exact Below.refl _ _) | ((with_reducible refine Below.alloc ?_ ?hsz _); (case hsz => (first | omega | (simp; done) | (simp; omega) | (simp at *; omega)))) | ((with_reducible refine Below.setCell ?_ ?hsz _); (case hsz => (first | omega | (simp; done) | (simp; omega) | (simp at *; omega)))) | (with_reducible refine Below.drew ?_) | (with_reducible refine below_drewN ?_ _) | ((with_reducible refine Below.trans ?_ (Below.mono (by with_reducible assumption) ?hsz)); (case hsz => (first | omega | (simp; done) | (simp; omega) | (simp at *; omega))))))), heap_keep HR9.out.2.2.1 (by (repeat (first | (with_reducible assumption) | (with_reducible exact Below.refl _ _) | ((with_reducible refine Below.alloc ?_ ?hsz _); (case hsz => (first | omega | (simp; done) | (simp; omega) | (simp at *; omega)))) | ((with_reducible refine Below.setCell ?_ ?hsz _); (case hsz => (first | omega | (simp; done) | (simp; omega) | (simp at *; omega)))) | (with_reducible refine Below.drew ?_) | (with_reducible refine below_drewN ?_ _) | ((with_reducible refine Below.trans ?_ (Below.mono (by with_reducible assumption) ?hsz)); (case hsz => (first | omega | (simp; done) | (simp; omega) | (simp at *; omega))))))), HR9.out.2.2.2.trans ((Below.refl _ _).alloc (by (first | omega | (simp; done) | (simp; omega) | (simp at *; omega))) _)⟩
            case measure => simp [intOf]; omega
          · have hbq : (ps[k].fr == (I : Int)) = false := by simp [hfr]
            have HN := Lib.hid (newX_same (a := (I : Int)) hlt hzk hzl (hz00 k (Nat.le_refl _)) hfr)
            have HI := Lib.hid hI
            have HR9 := Lib.hid (And.intro hR hh)
            clear hR4 hR hh hI hzk hz00 hfr hRh hhq hr2
            go_wp2
            go_roundw
            case rel => exact ⟨k + 1, zs, by omega, by go_num, HZ.out.1, HN.out, fun m hm => HZ.out.2.2 m (by omega), HI.out.keep (by (repeat (first | (with_reducible assumption) | (with_reducible exact Below.refl _ _) | ((with_reducible refine Below.alloc ?_ ?hsz _); (case hsz => (first | omega | (simp; done) | (simp; omega) | (simp at *; omega)))) | ((with_reducible refine Below.setCell ?_ ?hsz _); (case hsz => (first | omega | (simp; done) | (simp; omega) | (simp at *; omega)))) | (with_reducible refine Below.drew ?_) | (with_reducible refine below_drewN ?_ _) | ((with_reducible refine Below.trans ?_ (Below.mono (by with_reducible assumption) ?hsz)); (case hsz => (first | omega | (simp; done) | (simp; omega) | (simp at *; omega))))))), HR9.out.1.keep (by (repeat (first | (with_reducible assumption) | (with_reducible exact Below.refl _ _) | ((with_reducible refine Below.alloc ?_ ?hsz _); (case hsz => (first | omega | (simp; done) | (simp; omega) | (simp at *; omega)))) | ((with_reducible refine Below.setCell ?_ ?hsz _); (case hsz => (first | omega | (simp; done) | (simp; omega) | (simp at *; omega)))) | (with_reducible refine Below.drew ?_) | (with_reducible refine below_drewN ?_ _) | ((with_reducible refine Below.trans ?_ (Below.mono (by with_reducible assumption) ?hsz)); (case hsz => (first | omega | (simp; done) | (simp; omega) | (simp at *; omega))))))), heap_keep HR9.out.2 (by (repeat (first | (with_reducible assumption) | (with_reducible exact Below.refl _ _) | ((with_reducible refine Below.alloc ?_ ?hsz _); (case hsz => (first | omega | (simp; done) | (simp; omega) | (simp at *; omega)))) | ((with_reducible refine Below.setCell ?_ ?hsz _); (case hsz => (first | omega | (simp; done) | (simp; omega) | (simp at *; omega)))) | (with_reducible refine Below.drew ?_) | (with_reducible refine below_drewN ?_ _) | ((with_reducible refine Below.trans ?_ (Below.mono (by with_reducible assumption) ?hsz)); (case hsz => (first | omega | (simp; done) | (simp; omega) | (simp at *; omega))))))), by (repeat (first | (with_reducible assumption) | (with_reducible exact Below.refl _ _) | ((with_reducible refine Below.alloc ?_ ?hsz _); (case hsz => (first | omega | (simp; done) | (simp; omega) | (simp at *; omega)))) | ((with_reducible refine Below.setCell ?_ ?hsz _); (case hsz => (first | omega | (simp; done) | (simp; omega) | (simp at *; omega)))) | (with_reducible refine Below.drew ?_) | (with_reducible refine below_drewN ?_ _) | ((with_reducible refine Below.trans ?_ (Below.mono (by with_reducible assumption) ?hsz)); (case hsz => (first | omega | (simp; done) | (simp; omega) | (simp at *; omega))))))⟩
            case measure => simp [intOf]; omega
        · have hk2 : k = ps.length := by omega
          have hz : zs = newX ps I := by
            rw [hk2, List.take_of_length_le (by omega), List.take_of_length_le (by rw [newX_len]; exact Nat.le_refl _)] at hzk
            exact hzk
          subst hz
          subst hk2
          have m0 := heap_cell (j := 0) hh rfl
          have m1 := heap_cell (j := 1) hh rfl
          have hqr := heap_lt hh
          obtain ⟨z0, zf⟩ := hR.at' I (by omega)
          obtain ⟨gha, ghb⟩ := hR.lt
          obtain ⟨hcc1, hcc2⟩ := hR.capd
          unfold maxLen at hcc2
          have hqh : q ≠ gh := own_ne hR.1 hh (by decide) gh rfl
          have b0 := (bel_cell hb p0).trans e0
          have hhr := heap_keep hh1 hb
          have v0 := heap_cell (j := 0) hhr rfl
          have v1 := heap_cell (j := 1) hhr rfl
          have f0 := heap_frozen (j := 0) hhr
          have f1 := heap_frozen (j := 1) hhr
          have hIN : I < N := by omega
          have hgv : gh ≠ w.heap.size + 1 := by omega
          have hqv : q ≠ w.heap.size + 1 := by omega
          obtain ⟨W1, hW1⟩ : ∃ W, W = ((wr.setCell ⟨gh, I, none⟩ (.int .i64 (N : Int))).setCell ⟨w.heap.size + 1, 0, none⟩ (.slice A4 ps.length c4)).setCell ⟨w.heap.size + 1, 1, none⟩ (.slice (some ⟨gh, 0, none⟩) N c5) := ⟨_, rfl⟩
          have r0 : W1.cell? ⟨w.heap.size + 1, 0, none⟩ = some (.slice A4 ps.length c4) := by
            rw [hW1]
            exact (World.cell?_setCell_other _ _ _ _ (by intro h; injection h with h1 h2; cases h2)).trans (World.cell?_setCell_same _ _ _ ((World.cell?_setCell_other _ _ _ _ (by intro h; injection h with h1 h2; omega)).trans v0))
          have r1 : W1.cell? ⟨w.heap.size + 1, 1, none⟩ = some (.slice (some ⟨gh, 0, none⟩) N c5) := by
            rw [hW1]
            exact World.cell?_setCell_same _ _ _ ((World.cell?_setCell_other _ _ _ _ (by intro h; injection h with h1 h2; cases h2)).trans ((World.cell?_setCell_other _ _ _ _ (by intro h; injection h with h1 h2; omega)).trans v1))
          have HF : Hid (Ints W1 w.heap.size (.slice A4 ps.length c4) (bnewX N ps I j) ∧ Ints W1 w.heap.size (.slice (some ⟨gh, 0, none⟩) N c5) (bnewH N ps I j) ∧ (∀ x y, (Value.slice A4 ps.length c4).ownBlock = some x → (Value.slice (some ⟨gh, 0, none⟩) N c5).ownBlock = some y → x ≠ y) ∧ Below w.heap.size w W1) := Lib.hid (by
            obtain ⟨eX, eH⟩ := bnew_yes HG.out
            have eH2 : newH (N : Int) (I : Int) = (List.replicate N 0).set I (N : Int) := by simp [newH]
            rw [eX, eH, eH2, hW1]
            refine ⟨?_, ?_, hap, ?_⟩
            · exact ((((ints_off12 hI (p := ⟨gh, I, none⟩) (fun e => hap gh gh e rfl rfl) _).setLow (a := ⟨w.heap.size + 1, 0, none⟩) (by show w.heap.size + 1 < w1.heap.size; omega)).setLow (a := ⟨w.heap.size + 1, 1, none⟩) (by show w.heap.size + 1 < w1.heap.size; omega)).mono (by omega))
            · have h9 := (hR.set I (N : Int)).ints
              exact (((h9.setLow (a := ⟨w.heap.size + 1, 0, none⟩) (by show w.heap.size + 1 < w1.heap.size; omega)).setLow (a := ⟨w.heap.size + 1, 1, none⟩) (by show w.heap.size + 1 < w1.heap.size; omega)).mono (by omega))
            · exact (((hBwr.setCell (p := ⟨gh, I, none⟩) (by show w.heap.size ≤ gh; omega) _).setCell (p := ⟨w.heap.size + 1, 0, none⟩) (by show w.heap.size ≤ w.heap.size + 1; omega) _).setCell (p := ⟨w.heap.size + 1, 1, none⟩) (by show w.heap.size ≤ w.heap.size + 1; omega) _))
          generalize (List.replicate N (0 : Int)).getD I 0 = old at *
          clear hR hh hI hzk hz00 hRh hhq hr2 hhr hap e0 e1 hh1
          go_wp2
          rw [← hW1]
          refine bodyPost_ret (v := .tuple #[.agg #[.slice A4 ps.length c4, .slice (some ⟨gh, 0, none⟩) N c5], .bool true]) (by simp [results, Try.results24, go_sem, r0, r1]) rfl ⟨_, _, ret_vb' HG.out.symm, HF.out.1, HF.out.2.1, HF.out.2.2.1, HF.out.2.2.2⟩
  · have hg' : greatB n ps i j = false := by simpa using hg
    rw [hg']
    have HE := Lib.hid (bnew_no hg')
    have HG' := Lib.hid hg'
    have v0 := heap_cell (j := 0) hh1 rfl
    have v1 := heap_cell (j := 1) hh1 rfl
    have f0 := heap_frozen (j := 0) hh1
    have f1 := heap_frozen (j := 1) hh1
    clear hg hg'
    obtain ⟨W1, hW1⟩ : ∃ W, W = (w1.setCell ⟨w.heap.size + 1, 0, none⟩ (.slice none 0 0)).setCell ⟨w.heap.size + 1, 1, none⟩ (.slice none 0 0) := ⟨_, rfl⟩
    have r0 : W1.cell? ⟨w.heap.size + 1, 0, none⟩ = some (.slice none 0 0) := by
      rw [hW1]
      exact (World.cell?_setCell_other _ _ _ _ (by intro h; injection h with h1 h2; cases h2)).trans (World.cell?_setCell_same _ _ _ v0)
    have r1 : W1.cell? ⟨w.heap.size + 1, 1, none⟩ = some (.slice none 0 0) := by
      rw [hW1]
      exact World.cell?_setCell_same _ _ _ ((World.cell?_setCell_other _ _ _ _ (by intro h; injection h with h1 h2; cases h2)).trans v1)
    have hBW : Below w.heap.size w W1 := by
      rw [hW1]
      exact (hB1.setCell (p := ⟨w.heap.size + 1, 0, none⟩) (by show w.heap.size ≤ w.heap.size + 1; omega) _).setCell (p := ⟨w.heap.size + 1, 1, none⟩) (by show w.heap.size ≤ w.heap.size + 1; omega) _
    go_wp2
    rw [← hW1]
    refine bodyPost_ret (v := .tuple #[.agg #[.slice none 0 0, .slice none 0 0], .bool false]) (by simp [results, Try.results24, go_sem, r0, r1]) rfl ⟨.slice none 0 0, .slice none 0 0, ret_vb' HG'.out.symm, ?_, ?_, fun x _ hx => (by cases (show (none : Option Nat) = some x from hx)), hBW⟩
    · rw [HE.out.1]; exact Ints_nil _ _
    · rw [HE.out.2]; exact Ints_nil _ _

end Go.Proofs.Ytabkhpeoeihmmaa

/- Contracts of the functions of chapter 12 in the program: BasinRun, BasinStep, SpilledOf. -/
namespace Go.Proofs.Ytabkhpeoeihmmaa
open Go.RowKit

def maxT (xs : List Int) : Nat → Int
  | 0 => xs.getD 0 0
  | k + 1 => max (maxT xs k) (xs.getD (k + 1) 0)
theorem maxT_le {xs : List Int} {M : Int} (h : ∀ k, k < xs.length → xs.getD k 0 ≤ M) (k : Nat) (hk : k < xs.length) : maxT xs k ≤ M := by
  induction k with
  | zero => exact h 0 hk
  | succ k ih =>
    have h1 := ih (by omega)
    have h2 := h (k + 1) hk
    unfold maxT
    omega

set_option maxHeartbeats 1000000 in
set_option maxRecDepth 20000 in
theorem maxInts_any (v : Value) (xs : List Int) (b : Nat) (w : World) (hx : Ints w b v xs) (h0 : 0 < xs.length) :
    Calls Try.prog 72 #[v] w fun e w' => e = .returned (.int .i64 (maxT xs (xs.length - 1))) ∧ Below w.heap.size w w' := by
  obtain ⟨g, c, rfl, hR⟩ := hx.row h0
  obtain ⟨L, hL⟩ : ∃ L, xs.length = L := ⟨_, rfl⟩
  rw [hL] at hR h0 ⊢
  obtain ⟨hc1, hc2⟩ := hR.capd
  unfold maxLen at hc2
  obtain ⟨hg1, hg2⟩ := hR.lt
  have hcell : ∀ k, k < L → w.cell? ⟨g, k, none⟩ = some (.int .i64 (xs.getD k 0)) := fun k hk => (hR.at' k hk).1
  have f0 := hcell 0 h0
  have H1 : Hid (maxT xs 0 = xs.getD 0 0) := Lib.hid rfl
  have HS : Hid (∀ k, maxT xs (k + 1) = max (maxT xs k) (xs.getD (k + 1) 0)) := Lib.hid fun k => rfl
  have HC := Lib.hid hcell
  clear hL hcell hx hR
  generalize xs.getD 0 0 = x0 at *
  go_enter Try.func72, Try.ntmps72
  go_wp2
  go_loopw [4, 3] (fun i m wr => ∃ k : Nat, k + 1 ≤ L ∧ i = .int .i64 ((k + 1 : Nat) : Int) ∧ m = .int .i64 (maxT xs k) ∧ Below w.heap.size w wr) (fun i _ _ => L - (intOf i).toNat)
  case atStart => exact ⟨0, by omega, rfl, by rw [H1.out], by (repeat (first | (with_reducible assumption) | (with_reducible exact Below.refl _ _) | ((with_reducible refine Below.alloc ?_ ?hsz _); (case hsz => (first | omega | (simp; done) | (simp; omega) | (simp at *; omega)))) | ((with_reducible refine Below.setCell ?_ ?hsz _); (case hsz => (first | omega | (simp; done) | (simp; omega) | (simp at *; omega)))) | (with_reducible refine Below.drew ?_) | (with_reducible refine below_drewN ?_ _) | ((with_reducible refine Below.trans ?_ (Below.mono (by with_reducible assumption) ?hsz)); (case hsz => (first | omega | (simp; done) | (simp; omega) | (simp at *; omega))))))⟩
  case round =>
    obtain ⟨k, hk, rfl, rfl, hb⟩ := hrel
    by_cases hlt : k + 1 < L
    · have c0 := (bel_cell hb hg2).trans (HC.out (k + 1) hlt)
      have hgr : g < wr.heap.size := by have := hb.size; omega
      have HSk := Lib.hid (HS.out k)
      clear f0
      generalize xs.getD (k + 1) 0 = x at *
      generalize maxT xs k = m at *
      by_cases hmx : x ≤ m
      all_goals
        go_wp2
        go_roundw
        case rel => exact ⟨k + 1, by omega, by go_num, by rw [HSk.out]; congr 1; omega, by (repeat (first | (with_reducible assumption) | (with_reducible exact Below.refl _ _) | ((with_reducible refine Below.alloc ?_ ?hsz _); (case hsz => (first | omega | (simp; done) | (simp; omega) | (simp at *; omega)))) | ((with_reducible refine Below.setCell ?_ ?hsz _); (case hsz => (first | omega | (simp; done) | (simp; omega) | (simp at *; omega)))) | (with_reducible refine Below.drew ?_) | (with_reducible refine below_drewN ?_ _) | ((with_reducible refine Below.trans ?_ (Below.mono (by with_reducible assumption) ?hsz)); (case hsz => (first | omega | (simp; done) | (simp; omega) | (simp at *; omega))))))⟩
        case measure => simp [intOf] <;> omega
    · have hk2 : k = L - 1 := by omega
      subst hk2
      go_wp2
      go_ret
      exact ⟨rfl, by (repeat (first | (with_reducible assumption) | (with_reducible exact Below.refl _ _) | ((with_reducible refine Below.alloc ?_ ?hsz _); (case hsz => (first | omega | (simp; done) | (simp; omega) | (simp at *; omega)))) | ((with_reducible refine Below.setCell ?_ ?hsz _); (case hsz => (first | omega | (simp; done) | (simp; omega) | (simp at *; omega)))) | (with_reducible refine Below.drew ?_) | (with_reducible refine below_drewN ?_ _) | ((with_reducible refine Below.trans ?_ (Below.mono (by with_reducible assumption) ?hsz)); (case hsz => (first | omega | (simp; done) | (simp; omega) | (simp at *; omega))))))⟩

end Go.Proofs.Ytabkhpeoeihmmaa

/- Contracts of the functions of chapter 12 in the program: BasinRun, SpilledOf. -/
namespace Go.Proofs.Ytabkhpeoeihmmaa
open Go.RowKit

theorem low_max {n : Int} {ys : List Int} (h : lowB n ys) (hl : 0 < ys.length) : maxT ys (ys.length - 1) < 2 * n := by
  have := maxT_le (M := 2 * n - 1) (fun k hk => h k hk) (ys.length - 1) (by omega)
  omega

set_option maxHeartbeats 4000000 in
set_option maxRecDepth 20000 in
theorem basinRun_any (n i j : Int) (v : Value) (ps : List Pp) (b : Nat) (w : World) (hp : Pipes w b v ps) :
    Calls Try.prog 31 #[.agg #[.int .i64 n, v], .int .i64 i, .int .i64 j] w fun e w' => ∃ r1 r2, e = .returned (.tuple #[.agg #[r1, r2], .int .i64 (runC n ps i j)]) ∧ Ints w' w.heap.size r1 (runX n ps i j) ∧ Ints w' w.heap.size r2 (runH n ps i j) ∧ (∀ x y, r1.ownBlock = some x → r2.ownBlock = some y → x ≠ y) ∧ Below w.heap.size w w' := by
  have hp0 := hp
  obtain ⟨A, c, rfl, hc1, hc2, hsm, -⟩ := hp.form
  unfold maxLen at hc2
  obtain ⟨w0, hw0⟩ : ∃ W, W = (w.alloc (.cells #[.int .i64 n, .slice A ps.length c] 33)).alloc (.cells #[.slice none 0 0, .slice none 0 0] 35) := ⟨_, rfl⟩
  have hB0 : Below w.heap.size w w0 := by rw [hw0]; (repeat (first | (with_reducible assumption) | (with_reducible exact Below.refl _ _) | ((with_reducible refine Below.alloc ?_ ?hsz _); (case hsz => (first | omega | (simp; done) | (simp; omega) | (simp at *; omega)))) | ((with_reducible refine Below.setCell ?_ ?hsz _); (case hsz => (first | omega | (simp; done) | (simp; omega) | (simp at *; omega)))) | (with_reducible refine Below.drew ?_) | (with_reducible refine below_drewN ?_ _) | ((with_reducible refine Below.trans ?_ (Below.mono (by with_reducible assumption) ?hsz)); (case hsz => (first | omega | (simp; done) | (simp; omega) | (simp at *; omega))))))
  have hz0 : w.heap.size + 2 ≤ w0.heap.size := by rw [hw0]; simp
  have s0 : w.heap.size < w0.heap.size := by omega
  have s1 : w.heap.size + 1 < w0.heap.size := by omega
  have d0 : w0.cell? ⟨w.heap.size, 0, none⟩ = some (.int .i64 n) := by rw [hw0]; go_simp
  have d1 : w0.cell? ⟨w.heap.size, 1, none⟩ = some (.slice A ps.length c) := by rw [hw0]; go_simp
  have hh0 : w0.heap[w.heap.size + 1]? = some (.cells #[.slice none 0 0, .slice none 0 0] 35 (0, 0)) := by
    rw [hw0]
    have := heap_alloc_new (w.alloc (.cells #[.int .i64 n, .slice A ps.length c] 33)) (.cells #[.slice none 0 0, .slice none 0 0] 35 (0, 0))
    rw [World.size_alloc] at this
    exact this
  go_enter Try.func31, Try.ntmps31
  go_wp2_with fail
  rw [← hw0]
  clear hw0
  refine (basinNew_any n i j _ ps b _ (hp0.keep hB0)).mono ?_
  rintro e w1 ⟨r1, r2, rfl, hr1, hr2, hap, hb1⟩
  have hB1 := hB0.trans (hb1.mono (by omega))
  have hz1 := hb1.size
  have e0 := (bel_cell hb1 s0).trans d0
  have e1 := (bel_cell hb1 s0).trans d1
  have hh1 := heap_keep hh0 hb1
  have p0 : w.heap.size < w1.heap.size := by omega
  have p1 : w.heap.size + 1 < w1.heap.size := by omega
  clear d0 d1 hh0 s0 s1 hb1
  by_cases hg : greatB n ps i j = true
  · rw [hg]
    obtain ⟨hn, n2, n5, i0, i1, j0, j1, -⟩ := net_of_great hg
    obtain ⟨N, rfl⟩ : ∃ N : Nat, n = (N : Int) := ⟨n.toNat, by omega⟩
    obtain ⟨eX, eH⟩ := bnew_yes hg
    rw [eX] at hr1
    rw [eH] at hr2
    have hl1 : (newX ps i).length = ps.length := newX_len ps i
    have hl2 : (newH N i).length = N := by rw [newH_len]; simp
    have HL := Lib.hid (And.intro hl1 hl2)
    have hrun := run_yes hg
    have hnb := new_bas hg
    have hmu := (mu_bd hnb.1).2
    have HG := Lib.hid (And.intro hg (And.intro hrun (And.intro hnb hmu)))
    have hr10 := hr1
    have hr20 := hr2
    obtain ⟨A1, c1, rfl, -, -, -, -⟩ := hr1.form
    obtain ⟨A2, c2, rfl, -, -, -, -⟩ := hr2.form
    rw [hl1, hl2]
    rw [hl1] at hr10
    rw [hl2] at hr20
    have hl7 := (netOk_parts hn).2.2.1
    clear hg hn hrun hnb hmu eX eH hr1 hr2 hap hl1 hl2
    obtain ⟨w2, hw2⟩ : ∃ W, W = w1.alloc (.cells #[.slice A1 ps.length c1, .slice A2 N c2] 35) := ⟨_, rfl⟩
    have hb2 : Below w1.heap.size w1 w2 := by rw [hw2]; (repeat (first | (with_reducible assumption) | (with_reducible exact Below.refl _ _) | ((with_reducible refine Below.alloc ?_ ?hsz _); (case hsz => (first | omega | (simp; done) | (simp; omega) | (simp at *; omega)))) | ((with_reducible refine Below.setCell ?_ ?hsz _); (case hsz => (first | omega | (simp; done) | (simp; omega) | (simp at *; omega)))) | (with_reducible refine Below.drew ?_) | (with_reducible refine below_drewN ?_ _) | ((with_reducible refine Below.trans ?_ (Below.mono (by with_reducible assumption) ?hsz)); (case hsz => (first | omega | (simp; done) | (simp; omega) | (simp at *; omega))))))
    have hz2 : w1.heap.size < w2.heap.size := by rw [hw2]; simp
    have hB2 := hB1.trans (hb2.mono (by omega))
    have k0 := (bel_cell hb2 p0).trans e0
    have k1 := (bel_cell hb2 p0).trans e1
    have hh2 := heap_keep hh1 hb2
    have p2 : w.heap.size < w2.heap.size := by omega
    have p3 : w.heap.size + 1 < w2.heap.size := by omega
    have m0 : w2.cell? ⟨w1.heap.size, 0, none⟩ = some (.slice A1 ps.length c1) := by rw [hw2]; go_simp
    have m1 : w2.cell? ⟨w1.heap.size, 1, none⟩ = some (.slice A2 N c2) := by rw [hw2]; go_simp
    have hx2 := hr10.keep hb2
    have ht2 := hr20.keep hb2
    go_wp2_with fail
    rw [← hw2]
    clear hw2 hr10 hr20 hb2 hh1
    refine (by
      have h9 := hillOf_any (N : Int) i j _ (.slice A1 ps.length c1) (.slice A2 N c2) ps (newX ps i) (newH N i) b _ _ w2 (hp0.keep hB2) hx2 ht2 (by rw [HL.out.1]; omega) (by rw [HL.out.2]; omega)
      exact h9 : Calls Try.prog 61 #[.agg #[.int .i64 (N : Int), .slice A ps.length c], .int .i64 i, .int .i64 j, .agg #[.slice A1 ps.length c1, .slice A2 N c2]] w2 _).mono ?_
    rintro e w3 ⟨g, u3, t3, rfl, hg3, hH, hr3, ht3, hap3, hb3⟩
    have hB3 := hB2.trans (hb3.mono (by omega))
    have hz3 := hb3.size
    have hO : HillOk w3 w2.heap.size g N i j ps (newX ps i) (newH N i) := ⟨u3, t3, _, b, hH, hp0.keep hB3, hr3, ht3, hap3⟩
    have k0' := (bel_cell hb3 p2).trans k0
    have hh3 := heap_keep hh2 hb3
    clear hH hr3 ht3 hap3 m0 m1 k0 k1 hh2 hx2 ht2 hb3 e0 e1
    have hw64 : IntKind.i64.wrap (2 * (N : Int)) = 2 * (N : Int) := IntWalk.i64_in _ (by omega)
    go_wp2
    go_loopw [11] (fun q wr => ∃ (xs ys : List Int) (k cnt : Nat), q = .int .i64 cnt ∧ HillOk wr w2.heap.size g N i j ps xs ys ∧ basB N ps i j xs ys = true ∧ lowB N ys ∧ cnt + k = 30001 ∧ muI N ps xs ys < k ∧ (runN N ps i j k (xs, ys)).1 = (basRun N ps i j).1 ∧ cnt + (runN N ps i j k (xs, ys)).2 = (basRun N ps i j).2 ∧ Below w2.heap.size w3 wr) (fun q _ => 30001 - (intOf q).toNat)
    case atStart => exact ⟨newX ps i, newH N i, 30001, 0, rfl, hO, HG.out.2.2.1.1, HG.out.2.2.1.2, rfl, by have := HG.out.2.2.2; omega, rfl, by rw [Nat.zero_add]; rfl, Below.refl _ _⟩
    case round =>
      obtain ⟨xs, ys, k, cnt, rfl, hOr, hbas, hlow, hck, hmuk, hF, hC, hb⟩ := hrel
      have hbz := hb.size
      have hgr := hOr.lt
      have hy := hgt_of (bas_parts hbas).2.2.2.1
      have hyl : 0 < ys.length := by have := hy.1; omega
      have hmx := low_max hlow hyl
      have HB := Lib.hid (And.intro hbas (And.intro hlow (And.intro hF (And.intro hC hmuk))))
      have hOr0 := hOr
      obtain ⟨u4, t4, v4, b4, hH4, hp4, hx4, ht4, hap4⟩ := hOr
      obtain ⟨-, y0, y1, -, -, -, -⟩ := id hH4
      have b0 := (hb.cell (p := ⟨w.heap.size, 0, none⟩) p2).trans k0'
      have HM : Hid (∀ W, Below wr.heap.size wr W → Calls Try.prog 72 #[t4] W fun e w' => e = .returned (.int .i64 (maxT ys (ys.length - 1))) ∧ Below W.heap.size W w') := Lib.hid fun W hW => maxInts_any _ ys _ _ (ht4.keep hW) hyl
      have ht40 := ht4
      obtain ⟨A4, c4, rfl, -, -, -, -⟩ := ht4.form
      obtain ⟨A5, c5, rfl, -, -, -, -⟩ := hx4.form
      have HX := Lib.hid (And.intro hx4 (And.intro ht40 hap4))
      generalize maxT ys (ys.length - 1) = M at *
      have hdec : decide (M < 2 * (N : Int)) = true := by simpa using hmx
      obtain ⟨m4, hm4⟩ : ∃ m, ys.length = m := ⟨_, rfl⟩
      obtain ⟨m5, hm5⟩ : ∃ m, xs.length = m := ⟨_, rfl⟩
      rw [hm4] at HM HX y1
      rw [hm5] at HX y0
      have HMM := Lib.hid (And.intro hm4 hm5)
      clear hbas hlow hF hC hmuk hy hyl hmx hx4 ht4 ht40 hap4 hm4 hm5 hp4 hH4
      go_wp2_with fail
      by_cases haf : anyFull N i j ps xs = true
      · have HA := Lib.hid haf
        obtain ⟨k', rfl⟩ : ∃ k', k = k' + 1 := ⟨k - 1, by have := (mu_bd HB.out.1).1; have := HB.out.2.2.2.2; omega⟩
        have hst := runN_step k' (q := (xs, ys)) haf
        have HR : Hid (basB N ps i j (stepR N ps i j (xs, ys)).1 (stepR N ps i j (xs, ys)).2 = true ∧ lowB N (stepR N ps i j (xs, ys)).2 ∧ muI N ps (stepR N ps i j (xs, ys)).1 (stepR N ps i j (xs, ys)).2 < (k' : Int) ∧ (runN N ps i j k' (stepR N ps i j (xs, ys))).1 = (basRun N ps i j).1 ∧ cnt + 1 + (runN N ps i j k' (stepR N ps i j (xs, ys))).2 = (basRun N ps i j).2) := Lib.hid (by
          obtain ⟨h1, h2, h3, h4, h5⟩ := HB.out
          have hm := stepR_mu (q := (xs, ys)) h1 haf
          refine ⟨stepR_bas (q := (xs, ys)) h1, stepR_low (q := (xs, ys)) h1 h2, by simp only at hm; omega, by rw [← h3, hst.1], by rw [← h4, hst.2]; omega⟩)
        clear haf hst
        go_region_held3 (fun w' => w'.cell? ⟨g, 1, none⟩ = some (.slice A4 m4 c4) ∧ w'.cell? ⟨w.heap.size, 0, none⟩ = some (.int .i64 (N : Int)))
          (first | exact ⟨q71, q70⟩ | exact ⟨q61, q60⟩ | exact ⟨cdrew12 y1, cdrew12 b0⟩)
          (first
            | (go_at_call 72; (refine (HM.out _ (by (repeat (first | (with_reducible assumption) | (with_reducible exact Below.refl _ _) | ((with_reducible refine Below.alloc ?_ ?hsz _); (case hsz => (first | omega | (simp; done) | (simp; omega) | (simp at *; omega)))) | ((with_reducible refine Below.setCell ?_ ?hsz _); (case hsz => (first | omega | (simp; done) | (simp; omega) | (simp at *; omega)))) | (with_reducible refine Below.drew ?_) | (with_reducible refine below_drewN ?_ _) | ((with_reducible refine Below.trans ?_ (Below.mono (by with_reducible assumption) ?hsz)); (case hsz => (first | omega | (simp; done) | (simp; omega) | (simp at *; omega)))))))).mono ?_); rintro e w6 ⟨rfl, hb6⟩; have hz6 : wr.heap.size ≤ w6.heap.size := hb6.size; have q61 := ckeep12 hb6 (by (first | omega | (simp; done) | (simp; omega) | (simp at *; omega))) (cdrew12 y1); have q60 := ckeep12 hb6 (by (first | omega | (simp; done) | (simp; omega) | (simp at *; omega))) (cdrew12 b0))
            | (go_at_call 71; (refine (hillStep_any _ (show HillOk w6 w2.heap.size g N i j ps xs ys from hOr0.keep (by (repeat (first | (with_reducible assumption) | (with_reducible exact Below.refl _ _) | ((with_reducible refine Below.alloc ?_ ?hsz _); (case hsz => (first | omega | (simp; done) | (simp; omega) | (simp at *; omega)))) | ((with_reducible refine Below.setCell ?_ ?hsz _); (case hsz => (first | omega | (simp; done) | (simp; omega) | (simp at *; omega)))) | (with_reducible refine Below.drew ?_) | (with_reducible refine below_drewN ?_ _) | ((with_reducible refine Below.trans ?_ (Below.mono (by with_reducible assumption) ?hsz)); (case hsz => (first | omega | (simp; done) | (simp; omega) | (simp at *; omega)))))))) hg3 HB.out.1).mono ?_); rintro e w7 ⟨rfl, hO7, hb7, hc7⟩; rw [HA.out]; have q71 := hc7 _ q61; have q70 := (hb7.cell (p := ⟨w.heap.size, 0, none⟩) p2).trans q60))
        have hb9 : Below w2.heap.size w3 w7 := (hb.trans ((show Below wr.heap.size wr w6 by (repeat (first | (with_reducible assumption) | (with_reducible exact Below.refl _ _) | ((with_reducible refine Below.alloc ?_ ?hsz _); (case hsz => (first | omega | (simp; done) | (simp; omega) | (simp at *; omega)))) | ((with_reducible refine Below.setCell ?_ ?hsz _); (case hsz => (first | omega | (simp; done) | (simp; omega) | (simp at *; omega)))) | (with_reducible refine Below.drew ?_) | (with_reducible refine below_drewN ?_ _) | ((with_reducible refine Below.trans ?_ (Below.mono (by with_reducible assumption) ?hsz)); (case hsz => (first | omega | (simp; done) | (simp; omega) | (simp at *; omega))))))).mono (by omega))).trans hb7
        go_wp2
        go_roundw
        case rel => exact ⟨_, _, k', cnt + 1, by go_num, hO7, HR.out.1, HR.out.2.1, by omega, HR.out.2.2.1, HR.out.2.2.2.1, HR.out.2.2.2.2, hb9⟩
        case measure => simp [intOf]; omega
      · have haf' : anyFull N i j ps xs = false := by simpa using haf
        have HA := Lib.hid haf'
        have hst : stepR N ps i j (xs, ys) = (xs, ys) := by
          have : fullL N i j ps xs = [] := by simpa [anyFull] using haf'
          exact (stepR_nil this).1
        have hno := runN_no k (q := (xs, ys)) haf'
        have HR : Hid (xs = runX N ps i j ∧ ys = runH N ps i j ∧ (cnt : Int) = runC N ps i j) := Lib.hid (by
          obtain ⟨h1, h2, h3, h4, h5⟩ := HB.out
          rw [hno] at h3 h4
          obtain ⟨g1, g2, g3⟩ := HG.out.2.1
          rw [g1, g2, g3, ← h3, ← h4]
          exact ⟨rfl, rfl, rfl⟩)
        have HST := Lib.hid hst
        clear haf haf' hst hno
        go_region_held3 (fun w' => w'.cell? ⟨g, 1, none⟩ = some (.slice A4 m4 c4) ∧ w'.cell? ⟨w.heap.size, 0, none⟩ = some (.int .i64 (N : Int)))
          (first | exact ⟨q71, q70⟩ | exact ⟨q61, q60⟩ | exact ⟨cdrew12 y1, cdrew12 b0⟩)
          (first
            | (go_at_call 72; (refine (HM.out _ (by (repeat (first | (with_reducible assumption) | (with_reducible exact Below.refl _ _) | ((with_reducible refine Below.alloc ?_ ?hsz _); (case hsz => (first | omega | (simp; done) | (simp; omega) | (simp at *; omega)))) | ((with_reducible refine Below.setCell ?_ ?hsz _); (case hsz => (first | omega | (simp; done) | (simp; omega) | (simp at *; omega)))) | (with_reducible refine Below.drew ?_) | (with_reducible refine below_drewN ?_ _) | ((with_reducible refine Below.trans ?_ (Below.mono (by with_reducible assumption) ?hsz)); (case hsz => (first | omega | (simp; done) | (simp; omega) | (simp at *; omega)))))))).mono ?_); rintro e w6 ⟨rfl, hb6⟩; have hz6 : wr.heap.size ≤ w6.heap.size := hb6.size; have q61 := ckeep12 hb6 (by (first | omega | (simp; done) | (simp; omega) | (simp at *; omega))) (cdrew12 y1); have q60 := ckeep12 hb6 (by (first | omega | (simp; done) | (simp; omega) | (simp at *; omega))) (cdrew12 b0))
            | (go_at_call 71; (refine (hillStep_any _ (show HillOk w6 w2.heap.size g N i j ps xs ys from hOr0.keep (by (repeat (first | (with_reducible assumption) | (with_reducible exact Below.refl _ _) | ((with_reducible refine Below.alloc ?_ ?hsz _); (case hsz => (first | omega | (simp; done) | (simp; omega) | (simp at *; omega)))) | ((with_reducible refine Below.setCell ?_ ?hsz _); (case hsz => (first | omega | (simp; done) | (simp; omega) | (simp at *; omega)))) | (with_reducible refine Below.drew ?_) | (with_reducible refine below_drewN ?_ _) | ((with_reducible refine Below.trans ?_ (Below.mono (by with_reducible assumption) ?hsz)); (case hsz => (first | omega | (simp; done) | (simp; omega) | (simp at *; omega)))))))) hg3 HB.out.1).mono ?_); rintro e w7 ⟨rfl, hO7, hb7, hc7⟩; rw [HA.out]; rw [HST.out] at hO7; have q71 := hc7 _ q61; have q70 := (hb7.cell (p := ⟨w.heap.size, 0, none⟩) p2).trans q60))
        have hb9 : Below w2.heap.size w3 w7 := (hb.trans ((show Below wr.heap.size wr w6 by (repeat (first | (with_reducible assumption) | (with_reducible exact Below.refl _ _) | ((with_reducible refine Below.alloc ?_ ?hsz _); (case hsz => (first | omega | (simp; done) | (simp; omega) | (simp at *; omega)))) | ((with_reducible refine Below.setCell ?_ ?hsz _); (case hsz => (first | omega | (simp; done) | (simp; omega) | (simp at *; omega)))) | (with_reducible refine Below.drew ?_) | (with_reducible refine below_drewN ?_ _) | ((with_reducible refine Below.trans ?_ (Below.mono (by with_reducible assumption) ?hsz)); (case hsz => (first | omega | (simp; done) | (simp; omega) | (simp at *; omega))))))).mono (by omega))).trans hb7
        have hb99 : Below w.heap.size w w7 := hB3.trans (hb9.mono (by omega))
        have hz7 := hb9.size
        have hh7 := (hb9.block (w.heap.size + 1) p3).trans hh3
        obtain ⟨u7, t7, v7, b7, hH7, -, hx7, ht7, hap7⟩ := hO7
        obtain ⟨-, z0, z1, -, -, -, -⟩ := id hH7
        obtain rfl : t7 = .slice A4 m4 c4 := by have e := z1.symm.trans q71; injection e
        clear q61 y1
        obtain ⟨A7, c7, rfl, -, -, -, -⟩ := hx7.form
        have v0 := heap_cell (j := 0) hh7 rfl
        have v1 := heap_cell (j := 1) hh7 rfl
        have f0 := heap_frozen (j := 0) hh7
        have f1 := heap_frozen (j := 1) hh7
        obtain ⟨m7, hm7⟩ : ∃ m, xs.length = m := ⟨_, rfl⟩
        rw [hm7] at hx7 hap7 z0
        have hgv : g ≠ w.heap.size + 1 := by omega
        obtain ⟨W1, hW1⟩ : ∃ W, W = (w7.setCell ⟨w.heap.size + 1, 0, none⟩ (.slice A7 m7 c7)).setCell ⟨w.heap.size + 1, 1, none⟩ (.slice A4 m4 c4) := ⟨_, rfl⟩
        have r0 : W1.cell? ⟨w.heap.size + 1, 0, none⟩ = some (.slice A7 m7 c7) := by
          rw [hW1]
          exact (World.cell?_setCell_other _ _ _ _ (by intro h; injection h with h1 h2; cases h2)).trans (World.cell?_setCell_same _ _ _ v0)
        have r1 : W1.cell? ⟨w.heap.size + 1, 1, none⟩ = some (.slice A4 m4 c4) := by
          rw [hW1]
          exact World.cell?_setCell_same _ _ _ ((World.cell?_setCell_other _ _ _ _ (by intro h; injection h with h1 h2; cases h2)).trans v1)
        have HF : Hid (Ints W1 w.heap.size (.slice A7 m7 c7) (runX N ps i j) ∧ Ints W1 w.heap.size (.slice A4 m4 c4) (runH N ps i j) ∧ (∀ x y, (Value.slice A7 m7 c7).ownBlock = some x → (Value.slice A4 m4 c4).ownBlock = some y → x ≠ y) ∧ Below w.heap.size w W1) := Lib.hid (by
          rw [← HR.out.1, ← HR.out.2.1, hW1]
          refine ⟨((hx7.setLow (a := ⟨w.heap.size + 1, 0, none⟩) p3).setLow (a := ⟨w.heap.size + 1, 1, none⟩) p3).mono (by omega), ((ht7.setLow (a := ⟨w.heap.size + 1, 0, none⟩) p3).setLow (a := ⟨w.heap.size + 1, 1, none⟩) p3).mono (by omega), hap7, ?_⟩
          exact (hb99.setCell (p := ⟨w.heap.size + 1, 0, none⟩) (by show w.heap.size ≤ w.heap.size + 1; omega) _).setCell (p := ⟨w.heap.size + 1, 1, none⟩) (by show w.heap.size ≤ w.heap.size + 1; omega) _)
        clear hx7 ht7 hap7 hm7 hH7 hh7
        rw [hW1] at r0 r1 HF
        go_wp2
        refine bodyPost_ret (v := .tuple #[.agg #[.slice A7 m7 c7, .slice A4 m4 c4], .int .i64 (cnt : Int)]) (by simp [results, Try.results31, go_sem, r0, r1]) rfl ⟨_, _, by rw [← HR.out.2.2], HF.out.1, HF.out.2.1, HF.out.2.2.1, HF.out.2.2.2⟩
  · have hg' : greatB n ps i j = false := by simpa using hg
    rw [hg']
    obtain ⟨eX, eH⟩ := bnew_no hg'
    have HE := Lib.hid (run_no hg')
    rw [eX] at hr1
    rw [eH] at hr2
    obtain ⟨A1, c1, rfl, -, -, -, -⟩ := hr1.form
    obtain ⟨A2, c2, rfl, -, -, -, -⟩ := hr2.form
    clear hg hg' eX eH hr1 hr2 hap
    have v0 := heap_cell (j := 0) hh1 rfl
    have v1 := heap_cell (j := 1) hh1 rfl
    have f0 := heap_frozen (j := 0) hh1
    have f1 := heap_frozen (j := 1) hh1
    obtain ⟨W2, hW2⟩ : ∃ W, W = (w1.setCell ⟨w.heap.size + 1, 0, none⟩ (.slice none 0 0)).setCell ⟨w.heap.size + 1, 1, none⟩ (.slice none 0 0) := ⟨_, rfl⟩
    have hzW2 : W2.heap.size = w1.heap.size := by rw [hW2]; simp
    obtain ⟨W1, hW1⟩ : ∃ W, W = W2.alloc (.cells #[.slice A1 0 c1, .slice A2 0 c2] 35) := ⟨_, rfl⟩
    have r0 : W1.cell? ⟨w.heap.size + 1, 0, none⟩ = some (.slice none 0 0) := by
      rw [hW1]
      refine (World.cell?_alloc_lt _ _ _ (by rw [hzW2]; exact p1)).trans ?_
      rw [hW2]
      exact (World.cell?_setCell_other _ _ _ _ (by intro h; injection h with h1 h2; cases h2)).trans (World.cell?_setCell_same _ _ _ v0)
    have r1 : W1.cell? ⟨w.heap.size + 1, 1, none⟩ = some (.slice none 0 0) := by
      rw [hW1]
      refine (World.cell?_alloc_lt _ _ _ (by rw [hzW2]; exact p1)).trans ?_
      rw [hW2]
      exact World.cell?_setCell_same _ _ _ ((World.cell?_setCell_other _ _ _ _ (by intro h; injection h with h1 h2; cases h2)).trans v1)
    have hBW : Below w.heap.size w W1 := by
      rw [hW1]
      refine Below.alloc ?_ (by rw [hzW2]; omega) _
      rw [hW2]
      exact (hB1.setCell (p := ⟨w.heap.size + 1, 0, none⟩) (by show w.heap.size ≤ w.heap.size + 1; omega) _).setCell (p := ⟨w.heap.size + 1, 1, none⟩) (by show w.heap.size ≤ w.heap.size + 1; omega) _
    rw [hW2] at hW1
    clear hW2 hzW2
    go_wp2
    rw [← hW1]
    refine bodyPost_ret (v := .tuple #[.agg #[.slice none 0 0, .slice none 0 0], .int .i64 (-1)]) (by simp [results, Try.results31, go_sem, r0, r1]) rfl ⟨.slice none 0 0, .slice none 0 0, by rw [HE.out.2.2], ?_, ?_, fun x _ hx => (by cases (show (none : Option Nat) = some x from hx)), hBW⟩
    · rw [HE.out.1]; exact Ints_nil _ _
    · rw [HE.out.2.1]; exact Ints_nil _ _

end Go.Proofs.Ytabkhpeoeihmmaa
