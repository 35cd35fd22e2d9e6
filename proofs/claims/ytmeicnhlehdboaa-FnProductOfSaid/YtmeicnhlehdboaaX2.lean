/- Contracts of the functions of chapter 7 in the model: pieces, tensions, products. -/
import Derived.Test.YtmeicnhlehdboaaX1
import Derived.Test.YtmeicnhlehdboaaJ3
import Derived.Test.YtmeicnhlehdboaaF1
import Derived.StillTailTactics
namespace Go.Proofs.Ytmeicnhlehdboaa
open Go.RowKit

/-- what the operations yield -/
def spV7 (N nb m c B : Nat) (A : Option Addr) (T : List Int) : Nat → Value → World → Prop
  | 0, x, _ => x = .pointer (some ⟨nb, 0, none⟩)
  | 1, x, _ => x = .int .i64 (N : Int)
  | 2, x, _ => x = .agg #[.int .i64 (N : Int), .slice A m c]
  | 3, x, w => Ints w B x T
  | 4, x, _ => x = .int .i64 (T.length : Int)
  | 5, x, _ => x = .int .i64 ((N : Int) - (T.length : Int))
  | 6, x, _ => x = .int .i64 ((N : Int) - (T.length : Int))
  | _, _, _ => True
theorem spV7_keep {N nb m c B : Nat} {A : Option Addr} {T : List Int} {x : Value} {k' : Nat} {w w' : World} (hb : Below w.heap.size w w') (h : spV7 N nb m c B A T k' x w) : spV7 N nb m c B A T k' x w' := by
  revert h
  unfold spV7
  split <;> intro h <;> first | exact h | exact h.keep hb

set_option maxHeartbeats 1000000 in
set_option maxRecDepth 20000 in
theorem specPieces_any (n : Int) (v : Value) (ps : List Pp) (b : Nat) (w : World) (hp : Pipes w b v ps) :
    Calls Try.prog 21 #[.agg #[.int .i64 n, v]] w fun e w' => e = .returned (.int .i64 (piecesI n ps)) ∧ Below w.heap.size w w' := by
  have hp0 := hp
  obtain ⟨A, c, rfl, -, -, -, -⟩ := hp.form
  have bx0 := Box2.new w (.int .i64 n) (.slice A ps.length c) 25
  cases hok : netOkB n ps with
  | true =>
    obtain ⟨n2, n5, hl7, -⟩ := netOk_parts hok
    obtain ⟨N, rfl⟩ := Int.eq_ofNat_of_zero_le (show 0 ≤ n by omega)
    have hE : ∀ p ∈ ps, endsIn (N : Int) p := net_endsIn hok
    have hfew := tree_few hE
    have Ht : Hid (treeR (N : Int) ps = treeL N ps ∧ piecesI (N : Int) ps = (N : Int) - ((treeL N ps).length : Int)) := Lib.hid ⟨by rw [treeR, if_pos hok, Int.toNat_natCast], by rw [piecesI, if_pos hok, Int.toNat_natCast]⟩
    clear hE
    go_enter Try.func21, Try.ntmps21
    go_wp2_with fail
    refine (specNetOk_any _ _ ps b _ (hp0.keep (by (repeat (first | (with_reducible assumption) | (with_reducible exact Below.refl _ _) | ((with_reducible refine Below.alloc ?_ ?hsz _); (case hsz => (first | omega | (simp; done) | (simp; omega) | (simp at *; omega)))) | ((with_reducible refine Below.setCell ?_ ?hsz _); (case hsz => (first | omega | (simp; done) | (simp; omega) | (simp at *; omega)))) | (with_reducible refine Below.drew ?_) | (with_reducible refine below_drewN ?_ _) | ((with_reducible refine Below.trans ?_ (Below.mono (by with_reducible assumption) ?hsz)); (case hsz => (first | omega | (simp; done) | (simp; omega) | (simp at *; omega))))))))).mono ?_
    rintro e w1 ⟨rfl, hb1⟩
    have bx1 := bx0.keep hb1
    have hB1 : Below w.heap.size w w1 := by (repeat (first | (with_reducible assumption) | (with_reducible exact Below.refl _ _) | ((with_reducible refine Below.alloc ?_ ?hsz _); (case hsz => (first | omega | (simp; done) | (simp; omega) | (simp at *; omega)))) | ((with_reducible refine Below.setCell ?_ ?hsz _); (case hsz => (first | omega | (simp; done) | (simp; omega) | (simp at *; omega)))) | (with_reducible refine Below.drew ?_) | (with_reducible refine below_drewN ?_ _) | ((with_reducible refine Below.trans ?_ (Below.mono (by with_reducible assumption) ?hsz)); (case hsz => (first | omega | (simp; done) | (simp; omega) | (simp at *; omega))))))
    rw [hok]
    clear bx0 hb1 hok
    obtain ⟨bs, d0, d1, -, -⟩ := id bx1
    go_wp2_with fail
    have hN5 : N ≤ 5 := by omega
    have hp1 := hp0.keep hB1
    have hC0 : Below w1.heap.size w1 { w1 with drawn := w1.drawn + 1 } := ⟨rfl, rfl, rfl, Nat.le_refl _, fun _ _ => rfl⟩
    refine wp_region_flow 7 none [(0, 6), (1, 7), (2, 8), (3, 9), (4, 10), (5, 11), (6, 2)] (fun j x _ wx => spV7 N w.heap.size ps.length c w1.heap.size A (treeL N ps) j x wx) (fun _ wa wb => Below wa.heap.size wa wb) (fun _ wx => Below w1.heap.size w1 wx) (by kernel_rfl) (by kernel_rfl) rfl hC0 ?_ ?_ ?_ ?_
    · exact fun _ k _ _ _ x _ wa wb hR h => spV7_keep (k' := k) hR h
    · exact fun _ _ _ _ _ _ _ h => h
    · simp only [eachOp, fillF, List.setIfInBounds_toArray, List.set_cons_succ, List.set_cons_zero]
      refine ⟨?_, ?_, ?_, ?_, ?_, ?_, ?_, trivial⟩ <;> intro u f wx hC hd <;> (try simp [allV, useOf, Region.binds] at hd)
      · go_wp2
        exact ⟨_, rfl, rfl, Below.refl _ _, hC⟩
      · rw [show u 0 = _ from (by first | exact hd | exact hd.1 | exact hd.2 | exact hd.2.1 | exact hd.2.2 | exact hd.2.2.1 | exact hd.2.2.2 | exact hd.2.2.2.1 | exact hd.2.2.2.2)]
        have e0 := (bel_cell hC (by omega)).trans d0
        have e1 := (bel_cell hC (by omega)).trans d1
        go_wp2
        exact ⟨_, rfl, rfl, Below.refl _ _, hC⟩
      · have e0 := (bel_cell hC (by omega)).trans d0
        have e1 := (bel_cell hC (by omega)).trans d1
        go_wp2
        exact ⟨_, rfl, rfl, Below.refl _ _, hC⟩
      · rw [show u 2 = _ from (by first | exact hd | exact hd.1 | exact hd.2 | exact hd.2.1 | exact hd.2.2 | exact hd.2.2.1 | exact hd.2.2.2 | exact hd.2.2.2.1 | exact hd.2.2.2.2)]
        go_wp2_with fail
        refine (specTree_any (N : Int) _ ps b wx (hp1.keep hC)).mono ?_
        rintro e wy ⟨r, rfl, hr, hby⟩
        rw [Ht.out.1] at hr
        go_wp2
        exact ⟨_, rfl, hr.mono hC.size, hby, hC.trans (hby.mono hC.size)⟩
      · have hT : Ints wx w1.heap.size (u 3) (treeL N ps) := hd
        obtain ⟨A2, c2, ev, -, -, -, -⟩ := hT.form
        rw [ev]
        go_wp2
        exact ⟨_, rfl, rfl, Below.refl _ _, hC⟩
      · rw [show u 1 = _ from (by first | exact hd | exact hd.1 | exact hd.2 | exact hd.2.1 | exact hd.2.2 | exact hd.2.2.1 | exact hd.2.2.2 | exact hd.2.2.2.1 | exact hd.2.2.2.2), show u 4 = _ from (by first | exact hd | exact hd.1 | exact hd.2 | exact hd.2.1 | exact hd.2.2 | exact hd.2.2.1 | exact hd.2.2.2 | exact hd.2.2.2.1 | exact hd.2.2.2.2)]
        go_wp2
        exact ⟨_, rfl, rfl, Below.refl _ _, hC⟩
      · rw [show u 5 = _ from (by first | exact hd | exact hd.1 | exact hd.2 | exact hd.2.1 | exact hd.2.2 | exact hd.2.2.1 | exact hd.2.2.2 | exact hd.2.2.2.1 | exact hd.2.2.2.2)]
        go_wp2
        exact ⟨_, rfl, rfl, Below.refl _ _, hC⟩
    · intro u f wx hC hfin
      simp only [fillEnd, fillF, Act.put, List.setIfInBounds_toArray, List.set_cons_succ, List.set_cons_zero]
      rw [show u 6 = _ from hfin 6 (by decide) (by decide)]
      go_wp2
      go_ret
      exact ⟨ret_int Ht.out.2.symm, hB1.trans (hC.mono hB1.size)⟩
  | false =>
    have Ht : Hid (piecesI n ps = -1) := Lib.hid (by rw [piecesI, if_neg (by simp [hok])])
    go_enter Try.func21, Try.ntmps21
    go_wp2_with fail
    refine (specNetOk_any _ _ ps b _ (hp0.keep (by (repeat (first | (with_reducible assumption) | (with_reducible exact Below.refl _ _) | ((with_reducible refine Below.alloc ?_ ?hsz _); (case hsz => (first | omega | (simp; done) | (simp; omega) | (simp at *; omega)))) | ((with_reducible refine Below.setCell ?_ ?hsz _); (case hsz => (first | omega | (simp; done) | (simp; omega) | (simp at *; omega)))) | (with_reducible refine Below.drew ?_) | (with_reducible refine below_drewN ?_ _) | ((with_reducible refine Below.trans ?_ (Below.mono (by with_reducible assumption) ?hsz)); (case hsz => (first | omega | (simp; done) | (simp; omega) | (simp at *; omega))))))))).mono ?_
    rintro e w1 ⟨rfl, hb1⟩
    rw [hok]
    go_wp2
    go_ret
    exact ⟨ret_int Ht.out.symm, by (repeat (first | (with_reducible assumption) | (with_reducible exact Below.refl _ _) | ((with_reducible refine Below.alloc ?_ ?hsz _); (case hsz => (first | omega | (simp; done) | (simp; omega) | (simp at *; omega)))) | ((with_reducible refine Below.setCell ?_ ?hsz _); (case hsz => (first | omega | (simp; done) | (simp; omega) | (simp at *; omega)))) | (with_reducible refine Below.drew ?_) | (with_reducible refine below_drewN ?_ _) | ((with_reducible refine Below.trans ?_ (Below.mono (by with_reducible assumption) ?hsz)); (case hsz => (first | omega | (simp; done) | (simp; omega) | (simp at *; omega))))))⟩

theorem rowB_no {xs : List Int} {cnt l m : Int} {k : Nat} (hk : k < xs.length) (h : withinB xs[k] l m = false) : rowB xs cnt l m = false := by
  rw [rowB, all_no hk (by simp [h]), Bool.and_false]

/-- what the operations yield -/
def tnV (nb g c c' g' H g1 k c1 a e B : Nat) (xa xe : Int) (M : Nat) (L : List Int) : Nat → Value → World → Prop
  | 0, x, _ => x = .slice (some ⟨g1, 0, none⟩) k c1
  | 1, x, _ => x = .slice (some ⟨g', 0, none⟩) H c'
  | 2, x, _ => x = .pointer (some ⟨nb, 1, none⟩)
  | 3, x, _ => x = (.slice (some ⟨g, 0, none⟩) M c)
  | 4, x, _ => x = .int .i64 (k : Int)
  | 5, x, _ => x = .pointer (some ⟨g, k * 5, none⟩)
  | 6, x, _ => x = .pointer (some ⟨g, k * 5 + 1, none⟩)
  | 7, x, _ => x = .int .i64 (e : Int)
  | 8, x, _ => x = .pointer (some ⟨g', e, none⟩)
  | 9, x, _ => x = .int .i64 xe
  | 10, x, _ => x = .slice (some ⟨g', 0, none⟩) H c'
  | 11, x, _ => x = .pointer (some ⟨nb, 1, none⟩)
  | 12, x, _ => x = (.slice (some ⟨g, 0, none⟩) M c)
  | 13, x, _ => x = .int .i64 (k : Int)
  | 14, x, _ => x = .pointer (some ⟨g, k * 5, none⟩)
  | 15, x, _ => x = .pointer (some ⟨g, k * 5, none⟩)
  | 16, x, _ => x = .int .i64 (a : Int)
  | 17, x, _ => x = .pointer (some ⟨g', a, none⟩)
  | 18, x, _ => x = .int .i64 xa
  | 19, x, _ => x = .int .i64 (xe - xa)
  | 20, x, w => ∃ gl, x = .slice (some ⟨gl, 0, none⟩) 1 1 ∧ B ≤ gl ∧ w.heap[gl]? = some (.cells #[.int .i64 (xe - xa)] 3 (0, 0))
  | 21, x, w => ∃ g2 k2, x = .slice (some ⟨g2, 0, none⟩) (k + 1) k2 ∧ Row w (nb + 1) g2 (k + 1) k2 (L ++ [xe - xa])
  | 22, x, w => ∃ g2 k2, x = .slice (some ⟨g2, 0, none⟩) (k + 1) k2 ∧ Row w (nb + 1) g2 (k + 1) k2 (L ++ [xe - xa])
  | _, _, _ => True
theorem tnV_keep {nb g c c' g' H g1 k c1 a e B : Nat} {xa xe : Int} {M : Nat} {L : List Int} {x : Value} {k' : Nat} {w w' : World} (hb : Below w.heap.size w w') (h : tnV nb g c c' g' H g1 k c1 a e B xa xe M L k' x w) : tnV nb g c c' g' H g1 k c1 a e B xa xe M L k' x w' := by
  revert h
  unfold tnV
  split <;> intro h <;> first
    | exact h
    | (obtain ⟨gl, h1, h2, h3⟩ := h
       have hgl : gl < _ := (Array.getElem?_eq_some_iff.1 h3).1
       exact ⟨gl, h1, h2, (hb.block gl hgl).trans h3⟩)
    | (obtain ⟨g2, k2, h1, h2⟩ := h; exact ⟨g2, k2, h1, h2.keep hb⟩)
def tnR : Nat → World → World → Prop
  | 21, _, _ => True
  | _, w, w' => Below w.heap.size w w'
/-- what is known of the world, so many operations ahead of the end -/
def tnC (w wr : World) (u0 u1 : Value) (g1 k c1 : Nat) (L : List Int) (f : Nat) (wx : World) : Prop :=
  Below w.heap.size w wx ∧ Box2 wx w.heap.size u0 u1 ∧ (2 ≤ f → Row wx (w.heap.size + 1) g1 k c1 L ∧ Below wr.heap.size wr wx)
section
variable {w wr wx : World} {u0 u1 : Value} {g1 k c1 f : Nat} {L : List Int}
theorem tnC.step (h : tnC w wr u0 u1 g1 k c1 L (f + 1) wx) : tnC w wr u0 u1 g1 k c1 L f wx := ⟨h.1, h.2.1, fun hf => h.2.2 (by omega)⟩
theorem tnC.made (h : tnC w wr u0 u1 g1 k c1 L f wx) (o : Obj) : tnC w wr u0 u1 g1 k c1 L f (wx.alloc o) :=
  ⟨h.1.trans ((Below.refl _ _).alloc h.1.size _), h.2.1.keep ((Below.refl _ _).alloc (Nat.le_refl _) _), fun hf => ⟨(h.2.2 hf).1.keep ((Below.refl _ _).alloc (Nat.le_refl _) _), (h.2.2 hf).2.trans ((Below.refl _ _).alloc (h.2.2 hf).2.size _)⟩⟩
end

set_option maxHeartbeats 4000000 in
set_option maxRecDepth 20000 in
theorem specTension_any (n : Int) (v u : Value) (ps : List Pp) (hs : List Int) (b b' : Nat) (w : World) (hp : Pipes w b v ps) (hx : Ints w b' u hs) :
    Calls Try.prog 26 #[.agg #[.int .i64 n, v], u] w fun e w' => ∃ r, e = .returned r ∧ Ints w' w.heap.size r (tensR n ps hs) ∧ Below w.heap.size w w' := by
  have hp0 := hp
  have hx0 := hx
  obtain ⟨A, c, rfl, hc1, hc2, hsm, hcell⟩ := hp.form
  obtain ⟨A', c', rfl, hc1', hc2', hsm', hcell'⟩ := hx.form
  unfold maxLen at hc2 hc2'
  have bx0 := (Box2.new w (.int .i64 n) (.slice A ps.length c) 25).keep ((Below.refl _ _).alloc (Nat.le_refl _) (.cells #[] 3))
  have hR0 := row_empty7 (w.alloc (.cells #[.int .i64 n, .slice A ps.length c] 25)) (b := w.heap.size + 1) (by simp)
  rw [World.size_alloc] at hR0
  have hno : tensB n ps hs = false → tensR n ps hs = [] := fun h => by rw [tensR, if_neg (by simp [h])]
  have Hno := Lib.hid hno
  have HR0 := Lib.hid hR0
  clear hno hR0
  cases hok : netOkB n ps with
  | false =>
    have Hb : Hid (tensR n ps hs = []) := Lib.hid (Hno.out (by simp [tensB, hok]))
    go_enter Try.func26, Try.ntmps26
    go_wp2_with fail
    refine (specNetOk_any _ _ ps b _ (hp0.keep (by (repeat (first | (with_reducible assumption) | (with_reducible exact Below.refl _ _) | ((with_reducible refine Below.alloc ?_ ?hsz _); (case hsz => (first | omega | (simp; done) | (simp; omega) | (simp at *; omega)))) | ((with_reducible refine Below.setCell ?_ ?hsz _); (case hsz => (first | omega | (simp; done) | (simp; omega) | (simp at *; omega)))) | (with_reducible refine Below.drew ?_) | (with_reducible refine below_drewN ?_ _) | ((with_reducible refine Below.trans ?_ (Below.mono (by with_reducible assumption) ?hsz)); (case hsz => (first | omega | (simp; done) | (simp; omega) | (simp at *; omega))))))))).mono ?_
    rintro e w1 ⟨rfl, hb1⟩
    have hR1 := HR0.out.keep hb1
    rw [hok]
    go_wp2
    go_ret
    exact ⟨_, rfl, by rw [Hb.out]; exact hR1.ints.mono (by omega), by (repeat (first | (with_reducible assumption) | (with_reducible exact Below.refl _ _) | ((with_reducible refine Below.alloc ?_ ?hsz _); (case hsz => (first | omega | (simp; done) | (simp; omega) | (simp at *; omega)))) | ((with_reducible refine Below.setCell ?_ ?hsz _); (case hsz => (first | omega | (simp; done) | (simp; omega) | (simp at *; omega)))) | (with_reducible refine Below.drew ?_) | (with_reducible refine below_drewN ?_ _) | ((with_reducible refine Below.trans ?_ (Below.mono (by with_reducible assumption) ?hsz)); (case hsz => (first | omega | (simp; done) | (simp; omega) | (simp at *; omega))))))⟩
  | true =>
    obtain ⟨n2, n5, hl7, -⟩ := netOk_parts hok
    obtain ⟨N, rfl⟩ := Int.eq_ofNat_of_zero_le (show 0 ≤ n by omega)
    have HK := Lib.hid hok
    by_cases hln : hs.length = N
    · have hln1 : ((hs.length : Int) != (N : Int)) = false := by simp [hln]
      have HLN := Lib.hid hln
      have HE := Lib.hid (show ∀ p ∈ ps, endsIn (N : Int) p from net_endsIn hok)
      have hN5 : N ≤ 5 := by omega
      obtain ⟨i0, hi0, hz0, hz1, hz2⟩ := info_parts int_info
      clear n2 n5
      go_enter Try.func26, Try.ntmps26
      go_wp2_with fail
      refine (specNetOk_any _ _ ps b _ (hp0.keep (by (repeat (first | (with_reducible assumption) | (with_reducible exact Below.refl _ _) | ((with_reducible refine Below.alloc ?_ ?hsz _); (case hsz => (first | omega | (simp; done) | (simp; omega) | (simp at *; omega)))) | ((with_reducible refine Below.setCell ?_ ?hsz _); (case hsz => (first | omega | (simp; done) | (simp; omega) | (simp at *; omega)))) | (with_reducible refine Below.drew ?_) | (with_reducible refine below_drewN ?_ _) | ((with_reducible refine Below.trans ?_ (Below.mono (by with_reducible assumption) ?hsz)); (case hsz => (first | omega | (simp; done) | (simp; omega) | (simp at *; omega))))))))).mono ?_
      rintro e w1 ⟨rfl, hb1⟩
      have hR1 := HR0.out.keep hb1
      have bx1 := bx0.keep hb1
      have hB1 : Below w.heap.size w w1 := by (repeat (first | (with_reducible assumption) | (with_reducible exact Below.refl _ _) | ((with_reducible refine Below.alloc ?_ ?hsz _); (case hsz => (first | omega | (simp; done) | (simp; omega) | (simp at *; omega)))) | ((with_reducible refine Below.setCell ?_ ?hsz _); (case hsz => (first | omega | (simp; done) | (simp; omega) | (simp at *; omega)))) | (with_reducible refine Below.drew ?_) | (with_reducible refine below_drewN ?_ _) | ((with_reducible refine Below.trans ?_ (Below.mono (by with_reducible assumption) ?hsz)); (case hsz => (first | omega | (simp; done) | (simp; omega) | (simp at *; omega))))))
      rw [hok]
      clear bx0 hb1 HR0 hok hln
      obtain ⟨bs, d0, d1, -, -⟩ := id bx1
      go_wp2
      go_loopw [6] (fun i wr => ∃ k : Nat, k ≤ hs.length ∧ i = .int .i64 (k : Int) ∧ (∀ x ∈ hs.take k, withinB x (-40) 40 = true) ∧ Row wr (w.heap.size + 1) (w.heap.size + 1) 0 0 [] ∧ Box2 wr w.heap.size (.int .i64 (N : Int)) (.slice A ps.length c) ∧ Below w.heap.size w wr) (fun i _ => hs.length - (intOf i).toNat)
      case atStart => exact ⟨0, by omega, rfl, by simp, hR1, bx1, hB1⟩
      case round =>
        clear bx1 hB1 hR1 d0 d1 bs
        obtain ⟨k, hk, rfl, hall, hR, bx, hb⟩ := hrel
        have Hall := Lib.hid hall
        clear hall
        have hzb := hb.size
        obtain ⟨bs, d0, d1, -, -⟩ := id bx
        by_cases hlt : k < hs.length
        · obtain ⟨g, rfl, hg1, hg2, cx, -⟩ := hcell' wr hb k hlt
          cases hin : withinB hs[k] (-40) 40 with
          | true =>
            have Hn := Lib.hid (all_take (f := fun x : Int => withinB x (-40) 40) hlt Hall.out hin)
            go_wp2_with fail
            refine (l1In_any hs[k] (-40) 40 _).mono ?_
            rintro e w2 ⟨rfl, rfl⟩
            rw [hin]
            go_wp2
            go_roundw
            case rel => exact ⟨k + 1, by omega, by go_num, Hn.out, hR, bx, hb⟩
            case measure => simp [intOf]; omega
          | false =>
            have Hb : Hid (tensR (N : Int) ps hs = []) := Lib.hid (Hno.out (by rw [tensB, rowB_no hlt hin, Bool.and_false]))
            go_wp2_with fail
            refine (l1In_any hs[k] (-40) 40 _).mono ?_
            rintro e w2 ⟨rfl, rfl⟩
            rw [hin]
            go_wp2
            go_ret
            exact ⟨_, rfl, by rw [Hb.out]; exact hR.ints.mono (by omega), hb⟩
        · have hallw := all_whole (f := fun x : Int => withinB x (-40) 40) hlt Hall.out
          have Hb : Hid (tensR (N : Int) ps hs = tensL (lab hs) ps) := Lib.hid (by rw [tensR, if_pos (by simp [tensB, HK.out, rowB, HLN.out, hallw])])
          have HBD : Hid (∀ x ∈ hs, -40 ≤ x ∧ x ≤ 40) := Lib.hid fun x hx => by
            have := List.all_eq_true.1 hallw x hx
            simpa [withinB] using this
          clear hallw Hall
          have HR0 := Lib.hid hR
          clear hR
          go_wp2
          clear hlt hk
          go_loopw [7, 5] (fun i t wr => ∃ k g1 c1 : Nat, k ≤ ps.length ∧ i = .int .i64 (k : Int) ∧ t = .slice (some ⟨g1, 0, none⟩) k c1 ∧ Row wr (w.heap.size + 1) g1 k c1 ((tensL (lab hs) ps).take k) ∧ Box2 wr w.heap.size (.int .i64 (N : Int)) (.slice A ps.length c) ∧ Below w.heap.size w wr) (fun i _ _ => ps.length - (intOf i).toNat)
          case atStart => exact ⟨0, w.heap.size + 1, 0, by omega, rfl, rfl, HR0.out, bx, hb⟩
          case round =>
            clear bx hb hzb bs d0 d1 HR0
            obtain ⟨k, g1, c1, hk, rfl, rfl, hR, bx, hb⟩ := hrel
            have hzb := hb.size
            obtain ⟨bs, d0, d1, -, -⟩ := id bx
            by_cases hkp : k < ps.length
            · obtain ⟨g, rfl, hg1, hg2, q0, q1, q2, q3, q4⟩ := hcell wr hb k hkp
              obtain ⟨a0, a1, b0, b1, -⟩ := HE.out ps[k] (List.getElem_mem hkp)
              have HT1 : Hid ((tensL (lab hs) ps).take (k + 1) = (tensL (lab hs) ps).take k ++ [lab hs ps[k].to - lab hs ps[k].fr]) := Lib.hid (by
                rw [List.take_succ_eq_append_getElem (by rw [tensL_len]; exact hkp)]
                simp [tensL])
              obtain ⟨a, ha⟩ : ∃ a : Nat, ps[k].fr = (a : Int) := ⟨ps[k].fr.toNat, by omega⟩
              obtain ⟨e, he⟩ : ∃ e : Nat, ps[k].to = (e : Int) := ⟨ps[k].to.toNat, by omega⟩
              rw [ha] at a0 a1 q0 HT1
              rw [he] at b0 b1 q1 HT1
              have haN : a < hs.length := by have := HLN.out; omega
              have heN : e < hs.length := by have := HLN.out; omega
              obtain ⟨g', hA', hg1', hg2', x0, -⟩ := hcell' wr hb a haN
              obtain ⟨g'', hA'', -, -, x1, -⟩ := hcell' wr hb e heN
              rw [hA'] at hA''
              injection hA'' with hA''
              injection hA'' with hA''
              subst hA''
              subst hA'
              have l0 : lab hs (a : Int) = hs[a] := by simp [lab, List.getD_eq_getElem?_getD, haN]
              have l1 : lab hs (e : Int) = hs[e] := by simp [lab, List.getD_eq_getElem?_getD, heN]
              have r0 := HBD.out _ (List.getElem_mem haN)
              have r1 := HBD.out _ (List.getElem_mem heN)
              rw [l0, l1] at HT1
              obtain ⟨xa, hxa⟩ : ∃ x, hs[a] = x := ⟨_, rfl⟩
              obtain ⟨xe, hxe⟩ : ∃ x, hs[e] = x := ⟨_, rfl⟩
              rw [hxa] at x0 HT1 r0
              rw [hxe] at x1 HT1 r1
              obtain ⟨r00, r01⟩ := r0
              obtain ⟨r10, r11⟩ := r1
              have haL : (a : Int) < (hs.length : Int) := by omega
              have heL : (e : Int) < (hs.length : Int) := by omega
              have hgr : g < wr.heap.size := by omega
              have hgr' : g' < wr.heap.size := by omega
              have hkL : (k : Int) < (ps.length : Int) := by omega
              have hown := hR.1
              have hcap := hR.capd
              unfold maxLen at hcap
              have hrow : ∀ q, (Value.slice (some ⟨g1, 0, none⟩) k c1).ownBlock = some q → w.heap.size + 1 ≤ q := fun q hq => (hown.lt q hq).1
              clear ha he l0 l1 hxa hxe a1 b1
              obtain ⟨LT, hLT⟩ : ∃ LT, (tensL (lab hs) ps).take k = LT := ⟨_, rfl⟩
              have HLT := Lib.hid hLT
              rw [hLT] at hR
              have hk7 : k ≤ 7 := by omega
              have hC0 : tnC w wr (.int .i64 (N : Int)) (.slice (some ⟨g, 0, none⟩) ps.length c) g1 k c1 LT 23 { wr with drawn := wr.drawn + 1 } :=
                ⟨⟨hb.os, hb.tape, hb.output, hb.size, hb.block⟩, bx, fun _ => ⟨hR, rfl, rfl, rfl, Nat.le_refl _, fun _ _ => rfl⟩⟩
              clear hown hrow hcap hLT d0
              go_wp2
              refine wp_region_flowL 22 (some 5) [(0, 40), (1, 41), (2, 42), (3, 43), (4, 44), (5, 45), (6, 46), (7, 47), (8, 48), (9, 49), (10, 50), (11, 51), (12, 52), (13, 53), (14, 54), (15, 55), (16, 56), (17, 57), (18, 58), (19, 59), (20, 60), (21, 61)] (fun j x _ wx => tnV w.heap.size g c c' g' hs.length g1 k c1 a e wr.heap.size xa xe ps.length LT j x wx) (tnR) (fun f wx => tnC w wr (.int .i64 (N : Int)) (.slice (some ⟨g, 0, none⟩) ps.length c) g1 k c1 LT f wx) (by kernel_rfl) (by kernel_rfl) rfl hC0 ?_ ?_ ?_ ?_
              · intro i j hi hj hal x u wa wb hR hV
                have hj' : j < 23 := hj
                by_cases n21 : i = 21
                · subst n21
                  clear hC0
                  rcases j with _ | _ | _ | _ | _ | _ | _ | _ | _ | _ | _ | _ | _ | _ | _ | _ | _ | _ | _ | _ | _ | _ | _ | j
                  all_goals first | exact hV | (exfalso; revert hal; decide) | (exfalso; omega)
                · have hbb : Below wa.heap.size wa wb := by
                    unfold tnR at hR
                    split at hR
                    · exact absurd rfl n21
                    · exact hR
                  exact tnV_keep hbb hV
              · exact fun _ _ _ _ _ _ _ h => h
              · simp (maxSteps := 4000000) only [eachOp, fillF, List.setIfInBounds_toArray, List.set_cons_succ, List.set_cons_zero]
                refine ⟨?_, ?_, ?_, ?_, ?_, ?_, ?_, ?_, ?_, ?_, ?_, ?_, ?_, ?_, ?_, ?_, ?_, ?_, ?_, ?_, ?_, ?_, ?_, trivial⟩ <;> intro u f wx hC hd hf <;> (try simp [allV, useOf, Region.binds] at hd)
                · clear hf
                  go_wp2
                  exact ⟨_, rfl, rfl, Below.refl _ _, hC.step⟩
                · clear hf
                  go_wp2
                  exact ⟨_, rfl, rfl, Below.refl _ _, hC.step⟩
                · clear hf
                  go_wp2
                  exact ⟨_, rfl, rfl, Below.refl _ _, hC.step⟩
                · rw [show u 2 = _ from (by first | exact hd | exact hd.1 | exact hd.2 | exact hd.2.1 | exact hd.2.2 | exact hd.2.2.1 | exact hd.2.2.2 | exact hd.2.2.2.1 | exact hd.2.2.2.2)]
                  have hf2 : 2 ≤ f := Nat.le_trans (by decide) hf.1
                  clear hf
                  obtain ⟨hR, hBw⟩ := hC.2.2 (by omega)
                  have e0 := (bel_cell hBw (by omega)).trans d1
                  go_wp2
                  exact ⟨_, rfl, rfl, Below.refl _ _, hC.step⟩
                · clear hf
                  go_wp2
                  exact ⟨_, rfl, rfl, Below.refl _ _, hC.step⟩
                · rw [show u 3 = _ from (by first | exact hd | exact hd.1 | exact hd.2 | exact hd.2.1 | exact hd.2.2 | exact hd.2.2.1 | exact hd.2.2.2 | exact hd.2.2.2.1 | exact hd.2.2.2.2), show u 4 = _ from (by first | exact hd | exact hd.1 | exact hd.2 | exact hd.2.1 | exact hd.2.2 | exact hd.2.2.1 | exact hd.2.2.2 | exact hd.2.2.2.1 | exact hd.2.2.2.2)]
                  clear hf
                  go_wp2
                  exact ⟨_, rfl, rfl, Below.refl _ _, hC.step⟩
                · rw [show u 5 = _ from (by first | exact hd | exact hd.1 | exact hd.2 | exact hd.2.1 | exact hd.2.2 | exact hd.2.2.1 | exact hd.2.2.2 | exact hd.2.2.2.1 | exact hd.2.2.2.2)]
                  clear hf
                  go_wp2
                  exact ⟨_, rfl, rfl, Below.refl _ _, hC.step⟩
                · rw [show u 6 = _ from (by first | exact hd | exact hd.1 | exact hd.2 | exact hd.2.1 | exact hd.2.2 | exact hd.2.2.1 | exact hd.2.2.2 | exact hd.2.2.2.1 | exact hd.2.2.2.2)]
                  have hf2 : 2 ≤ f := Nat.le_trans (by decide) hf.1
                  clear hf
                  obtain ⟨hR, hBw⟩ := hC.2.2 (by omega)
                  have e0 := (bel_cell hBw (by omega)).trans q1
                  go_wp2
                  exact ⟨_, rfl, rfl, Below.refl _ _, hC.step⟩
                · rw [show u 1 = _ from (by first | exact hd | exact hd.1 | exact hd.2 | exact hd.2.1 | exact hd.2.2 | exact hd.2.2.1 | exact hd.2.2.2 | exact hd.2.2.2.1 | exact hd.2.2.2.2), show u 7 = _ from (by first | exact hd | exact hd.1 | exact hd.2 | exact hd.2.1 | exact hd.2.2 | exact hd.2.2.1 | exact hd.2.2.2 | exact hd.2.2.2.1 | exact hd.2.2.2.2)]
                  clear hf
                  go_wp2
                  exact ⟨_, rfl, rfl, Below.refl _ _, hC.step⟩
                · rw [show u 8 = _ from (by first | exact hd | exact hd.1 | exact hd.2 | exact hd.2.1 | exact hd.2.2 | exact hd.2.2.1 | exact hd.2.2.2 | exact hd.2.2.2.1 | exact hd.2.2.2.2)]
                  have hf2 : 2 ≤ f := Nat.le_trans (by decide) hf.1
                  clear hf
                  obtain ⟨hR, hBw⟩ := hC.2.2 (by omega)
                  have e0 := (bel_cell hBw (by omega)).trans x1
                  go_wp2
                  exact ⟨_, rfl, rfl, Below.refl _ _, hC.step⟩
                · clear hf
                  go_wp2
                  exact ⟨_, rfl, rfl, Below.refl _ _, hC.step⟩
                · clear hf
                  go_wp2
                  exact ⟨_, rfl, rfl, Below.refl _ _, hC.step⟩
                · rw [show u 11 = _ from (by first | exact hd | exact hd.1 | exact hd.2 | exact hd.2.1 | exact hd.2.2 | exact hd.2.2.1 | exact hd.2.2.2 | exact hd.2.2.2.1 | exact hd.2.2.2.2)]
                  have hf2 : 2 ≤ f := Nat.le_trans (by decide) hf.1
                  clear hf
                  obtain ⟨hR, hBw⟩ := hC.2.2 (by omega)
                  have e0 := (bel_cell hBw (by omega)).trans d1
                  go_wp2
                  exact ⟨_, rfl, rfl, Below.refl _ _, hC.step⟩
                · clear hf
                  go_wp2
                  exact ⟨_, rfl, rfl, Below.refl _ _, hC.step⟩
                · rw [show u 12 = _ from (by first | exact hd | exact hd.1 | exact hd.2 | exact hd.2.1 | exact hd.2.2 | exact hd.2.2.1 | exact hd.2.2.2 | exact hd.2.2.2.1 | exact hd.2.2.2.2), show u 13 = _ from (by first | exact hd | exact hd.1 | exact hd.2 | exact hd.2.1 | exact hd.2.2 | exact hd.2.2.1 | exact hd.2.2.2 | exact hd.2.2.2.1 | exact hd.2.2.2.2)]
                  clear hf
                  go_wp2
                  exact ⟨_, rfl, rfl, Below.refl _ _, hC.step⟩
                · rw [show u 14 = _ from (by first | exact hd | exact hd.1 | exact hd.2 | exact hd.2.1 | exact hd.2.2 | exact hd.2.2.1 | exact hd.2.2.2 | exact hd.2.2.2.1 | exact hd.2.2.2.2)]
                  clear hf
                  go_wp2
                  exact ⟨_, rfl, rfl, Below.refl _ _, hC.step⟩
                · rw [show u 15 = _ from (by first | exact hd | exact hd.1 | exact hd.2 | exact hd.2.1 | exact hd.2.2 | exact hd.2.2.1 | exact hd.2.2.2 | exact hd.2.2.2.1 | exact hd.2.2.2.2)]
                  have hf2 : 2 ≤ f := Nat.le_trans (by decide) hf.1
                  clear hf
                  obtain ⟨hR, hBw⟩ := hC.2.2 (by omega)
                  have e0 := (bel_cell hBw (by omega)).trans q0
                  go_wp2
                  exact ⟨_, rfl, rfl, Below.refl _ _, hC.step⟩
                · rw [show u 10 = _ from (by first | exact hd | exact hd.1 | exact hd.2 | exact hd.2.1 | exact hd.2.2 | exact hd.2.2.1 | exact hd.2.2.2 | exact hd.2.2.2.1 | exact hd.2.2.2.2), show u 16 = _ from (by first | exact hd | exact hd.1 | exact hd.2 | exact hd.2.1 | exact hd.2.2 | exact hd.2.2.1 | exact hd.2.2.2 | exact hd.2.2.2.1 | exact hd.2.2.2.2)]
                  clear hf
                  go_wp2
                  exact ⟨_, rfl, rfl, Below.refl _ _, hC.step⟩
                · rw [show u 17 = _ from (by first | exact hd | exact hd.1 | exact hd.2 | exact hd.2.1 | exact hd.2.2 | exact hd.2.2.1 | exact hd.2.2.2 | exact hd.2.2.2.1 | exact hd.2.2.2.2)]
                  have hf2 : 2 ≤ f := Nat.le_trans (by decide) hf.1
                  clear hf
                  obtain ⟨hR, hBw⟩ := hC.2.2 (by omega)
                  have e0 := (bel_cell hBw (by omega)).trans x0
                  go_wp2
                  exact ⟨_, rfl, rfl, Below.refl _ _, hC.step⟩
                · rw [show u 9 = _ from (by first | exact hd | exact hd.1 | exact hd.2 | exact hd.2.1 | exact hd.2.2 | exact hd.2.2.1 | exact hd.2.2.2 | exact hd.2.2.2.1 | exact hd.2.2.2.2), show u 18 = _ from (by first | exact hd | exact hd.1 | exact hd.2 | exact hd.2.1 | exact hd.2.2 | exact hd.2.2.1 | exact hd.2.2.2 | exact hd.2.2.2.1 | exact hd.2.2.2.2)]
                  clear hf
                  go_wp2
                  exact ⟨_, rfl, rfl, Below.refl _ _, hC.step⟩
                · rw [show u 19 = _ from (by first | exact hd | exact hd.1 | exact hd.2 | exact hd.2.1 | exact hd.2.2 | exact hd.2.2.1 | exact hd.2.2.2 | exact hd.2.2.2.1 | exact hd.2.2.2.2)]
                  have hf2 : 2 ≤ f := Nat.le_trans (by decide) hf.1
                  obtain ⟨hR, hBw⟩ := hC.2.2 (by omega)
                  have hszw := hBw.size
                  go_wp2
                  exact ⟨_, rfl, ⟨wx.heap.size, rfl, hszw, heap_alloc_new _ _⟩, (Below.refl _ _).alloc (Nat.le_refl _) _, hC.step.made _⟩
                · rw [show u 0 = _ from (by first | exact hd | exact hd.1 | exact hd.2 | exact hd.2.1 | exact hd.2.2 | exact hd.2.2.1 | exact hd.2.2.2 | exact hd.2.2.2.1 | exact hd.2.2.2.2)]
                  have hf1 : 1 ≤ f := Nat.le_trans (by decide) hf.1
                  have hf2 : f ≤ 1 := Nat.le_trans hf.2 (by decide)
                  clear hf
                  obtain ⟨hR, hBw⟩ := hC.2.2 (by omega)
                  have h0 : u 0 = .slice (some ⟨g1, 0, none⟩) k c1 := (by first | exact hd.1 | exact hd.2)
                  obtain ⟨gl, h20, hgl, hhl⟩ : ∃ gl, u 20 = .slice (some ⟨gl, 0, none⟩) 1 1 ∧ wr.heap.size ≤ gl ∧ wx.heap[gl]? = some (.cells #[.int .i64 (xe - xa)] 3 (0, 0)) := (by first | exact hd.1 | exact hd.2)
                  rw [h20]
                  have hown := hR.1
                  have hbx := hC.1
                  have hbb := hC.2.1
                  refine wpList_append_lies _ rfl _ _ 27 rfl (w.heap.size + 1) 3 i0 _ 1 8 Try.underlying27 hi0 hz0 hz1 hz2 rfl (by omega) _ k _ rfl hown ⟨gl, 0, none⟩ 1 1 [.int .i64 (xe - xa)] rfl rfl (World.news_of_block hhl) (by simp [Value.oneCell']) (by omega) (by unfold maxLen; omega) (by omega) (by have := hbb.1; omega) _ rfl ?_
                  intro g2 k2 w7 hown7 hgr7 hat7 hlt7
                  refine wpList_nil ⟨_, rfl, ⟨g2, k2, rfl, by rw [List.map_append]; exact hown7, by unfold small; omega⟩, trivial, Below.grown hbx hgr7 hbx.size (fun q hq => by have := (hown.lt q hq).1; omega), hbb.grown hgr7 (by intro h; have := (hown.lt _ h.symm).1; omega), fun h => absurd h (by omega)⟩
                · clear hf
                  obtain ⟨g2, k2, h21, hR2⟩ : ∃ g2 k2, u 21 = .slice (some ⟨g2, 0, none⟩) (k + 1) k2 ∧ Row wx (w.heap.size + 1) g2 (k + 1) k2 (LT ++ [xe - xa]) := hd
                  rw [h21]
                  go_wp2
                  exact ⟨_, rfl, ⟨g2, k2, rfl, hR2⟩, Below.refl _ _, hC.step⟩
              · intro u f wx hC hfin
                simp only [fillEnd, fillF, Act.put, List.setIfInBounds_toArray, List.set_cons_succ, List.set_cons_zero]
                obtain ⟨g2, k2, h22, hR2⟩ : ∃ g2 k2, u 22 = .slice (some ⟨g2, 0, none⟩) (k + 1) k2 ∧ Row wx (w.heap.size + 1) g2 (k + 1) k2 (LT ++ [xe - xa]) := hfin 22 (by decide) (by decide)
                rw [h22]
                have hbx := hC.1
                have hbb := hC.2.1
                go_wp2
                go_roundw
                case rel => exact ⟨k + 1, g2, k2, by omega, by go_num, rfl, by rw [HT1.out, HLT.out]; exact hR2, hbb, hbx⟩
                case measure => simp [intOf]; omega
            · have hk2 : k = ps.length := by omega
              subst hk2
              rw [List.take_of_length_le (by rw [tensL_len]; exact Nat.le_refl _)] at hR
              go_wp2
              go_ret
              exact ⟨_, rfl, by rw [Hb.out]; exact hR.ints.mono (by omega), hb⟩
    · have hln1 : ((hs.length : Int) != (N : Int)) = true := by rw [bne_iff_ne]; omega
      have Hb : Hid (tensR (N : Int) ps hs = []) := Lib.hid (Hno.out (by
        have : ¬ (hs.length : Int) = (N : Int) := by omega
        simp [tensB, rowB, this]))
      clear hln n2 n5
      go_enter Try.func26, Try.ntmps26
      go_wp2_with fail
      refine (specNetOk_any _ _ ps b _ (hp0.keep (by (repeat (first | (with_reducible assumption) | (with_reducible exact Below.refl _ _) | ((with_reducible refine Below.alloc ?_ ?hsz _); (case hsz => (first | omega | (simp; done) | (simp; omega) | (simp at *; omega)))) | ((with_reducible refine Below.setCell ?_ ?hsz _); (case hsz => (first | omega | (simp; done) | (simp; omega) | (simp at *; omega)))) | (with_reducible refine Below.drew ?_) | (with_reducible refine below_drewN ?_ _) | ((with_reducible refine Below.trans ?_ (Below.mono (by with_reducible assumption) ?hsz)); (case hsz => (first | omega | (simp; done) | (simp; omega) | (simp at *; omega))))))))).mono ?_
      rintro e w1 ⟨rfl, hb1⟩
      have hR1 := HR0.out.keep hb1
      have bx1 := bx0.keep hb1
      have hB1 : Below w.heap.size w w1 := by (repeat (first | (with_reducible assumption) | (with_reducible exact Below.refl _ _) | ((with_reducible refine Below.alloc ?_ ?hsz _); (case hsz => (first | omega | (simp; done) | (simp; omega) | (simp at *; omega)))) | ((with_reducible refine Below.setCell ?_ ?hsz _); (case hsz => (first | omega | (simp; done) | (simp; omega) | (simp at *; omega)))) | (with_reducible refine Below.drew ?_) | (with_reducible refine below_drewN ?_ _) | ((with_reducible refine Below.trans ?_ (Below.mono (by with_reducible assumption) ?hsz)); (case hsz => (first | omega | (simp; done) | (simp; omega) | (simp at *; omega))))))
      rw [hok]
      clear bx0 hb1 HR0 hok
      obtain ⟨bs, d0, d1, -, -⟩ := id bx1
      go_wp2
      go_ret
      exact ⟨_, rfl, by rw [Hb.out]; exact hR1.ints.mono (by omega), hB1⟩

end Go.Proofs.Ytmeicnhlehdboaa
