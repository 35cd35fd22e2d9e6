/- Contracts of the functions of chapter 7 in the model: pieces, tensions, products. -/
import Derived.Test.YtphbmlephldaaaaX1
import Derived.Test.YtphbmlephldaaaaJ3
import Derived.Test.YtphbmlephldaaaaGA
import Derived.StillTailTactics
namespace Go.Proofs.Ytphbmlephldaaaa
open Go.RowKit

/-- what the operations yield -/
def spV7 (N nb m c B : Nat) (A : Option Addr) (T : List Int) : Nat → Value → World → Prop
  | 0, x, _ => x = .pointer (some ⟨nb, 0, none⟩)
  | 1, x, _ => x = .int .i64 (N : Int)
  | 2, x, _ => x = .agg #[.int .i64 (N : Int), .slice A m c]
  | 3, x, w => Ints w B x T
  | 4, x, _ => x = .int .i64 (T.length : Int)
  | 5, x, _ => x = .int .i64 ((N : Int) - (T.length : Int))
  | 6, x, _ => x = .int .i64 ((N : Int) - (T.length : Int))
  | _, _, _ => True
theorem spV7_keep {N nb m c B : Nat} {A : Option Addr} {T : List Int} {x : Value} {k' : Nat} {w w' : World} (hb : Below w.heap.size w w') (h : spV7 N nb m c B A T k' x w) : spV7 N nb m c B A T k' x w' := by
  revert h
  unfold spV7
  split <;> intro h <;> first | exact h | exact h.keep hb

set_option maxHeartbeats 1000000 in
set_option maxRecDepth 20000 in
theorem specPieces_any (n : Int) (v : Value) (ps : List Pp) (b : Nat) (w : World) (hp : Pipes w b v ps) :
    Calls Try.prog 31 #[.agg #[.int .i64 n, v]] w fun e w' => e = .returned (.int .i64 (piecesI n ps)) ∧ Below w.heap.size w w' := by
  have hp0 := hp
  obtain ⟨A, c, rfl, -, -, -, -⟩ := hp.form
  have bx0 := Box2.new w (.int .i64 n) (.slice A ps.length c) 25
  cases hok : netOkB n ps with
  | true =>
    obtain ⟨n2, n5, hl7, -⟩ := netOk_parts hok
    obtain ⟨N, rfl⟩ := Int.eq_ofNat_of_zero_le (show 0 ≤ n by omega)
    have hE : ∀ p ∈ ps, endsIn (N : Int) p := net_endsIn hok
    have hfew := tree_few hE
    have Ht : Hid (treeR (N : Int) ps = treeL N ps ∧ piecesI (N : Int) ps = (N : Int) - ((treeL N ps).length : Int)) := Lib.hid ⟨by rw [treeR, if_pos hok, Int.toNat_natCast], by rw [piecesI, if_pos hok, Int.toNat_natCast]⟩
    clear hE
    go_enter Try.func31, Try.ntmps31
    go_wp2_with fail
    refine (specNetOk_any _ _ ps b _ (hp0.keep (by (repeat (first | (with_reducible assumption) | (with_reducible exact Below.refl _ _) | ((with_reducible refine Below.alloc ?_ ?hsz _); (case hsz => (first | omega | (simp; done) | (simp; omega) | (simp at *; omega)))) | ((with_reducible refine Below.setCell ?_ ?hsz _); (case hsz => (first | omega | (simp; done) | (simp; omega) | (simp at *; omega)))) | (with_reducible refine Below.drew ?_) | (with_reducible refine below_drewN ?_ _) | ((with_reducible refine Below.trans ?_ (Below.mono (by with_reducible assumption) ?hsz)); (case hsz => (first | omega | (simp; done) | (simp; omega) | (simp at *; omega))))))))).mono ?_
    rintro e w1 ⟨rfl, hb1⟩
    have bx1 := bx0.keep hb1
    have hB1 : Below w.heap.size w w1 := by (repeat (first | (with_reducible assumption) | (with_reducible exact Below.refl _ _) | ((with_reducible refine Below.alloc ?_ ?hsz _); (case hsz => (first | omega | (simp; done) | (simp; omega) | (simp at *; omega)))) | ((with_reducible refine Below.setCell ?_ ?hsz _); (case hsz => (first | omega | (simp; done) | (simp; omega) | (simp at *; omega)))) | (with_reducible refine Below.drew ?_) | (with_reducible refine below_drewN ?_ _) | ((with_reducible refine Below.trans ?_ (Below.mono (by with_reducible assumption) ?hsz)); (case hsz => (first | omega | (simp; done) | (simp; omega) | (simp at *; omega))))))
    rw [hok]
    clear bx0 hb1 hok
    obtain ⟨bs, d0, d1, -, -⟩ := id bx1
    go_wp2_with fail
    have hN5 : N ≤ 5 := by omega
    have hp1 := hp0.keep hB1
    have hC0 : Below w1.heap.size w1 { w1 with drawn := w1.drawn + 1 } := ⟨rfl, rfl, rfl, Nat.le_refl _, fun _ _ => rfl⟩
    refine wp_region_flow 7 none [(0, 6), (1, 7), (2, 8), (3, 9), (4, 10), (5, 11), (6, 2)] (fun j x _ wx => spV7 N w.heap.size ps.length c w1.heap.size A (treeL N ps) j x wx) (fun _ wa wb => Below wa.heap.size wa wb) (fun _ wx => Below w1.heap.size w1 wx) (by kernel_rfl) (by kernel_rfl) rfl hC0 ?_ ?_ ?_ ?_
    · exact fun _ k _ _ _ x _ wa wb hR h => spV7_keep (k' := k) hR h
    · exact fun _ _ _ _ _ _ _ h => h
    · simp only [eachOp, fillF, List.setIfInBounds_toArray, List.set_cons_succ, List.set_cons_zero]
      refine ⟨?_, ?_, ?_, ?_, ?_, ?_, ?_, trivial⟩ <;> intro u f wx hC hd <;> (try simp [allV, useOf, Region.binds] at hd)
      · go_wp2
        exact ⟨_, rfl, rfl, Below.refl _ _, hC⟩
      · rw [show u 0 = _ from (by first | exact hd | exact hd.1 | exact hd.2 | exact hd.2.1 | exact hd.2.2 | exact hd.2.2.1 | exact hd.2.2.2 | exact hd.2.2.2.1 | exact hd.2.2.2.2)]
        have e0 := (bel_cell hC (by omega)).trans d0
        have e1 := (bel_cell hC (by omega)).trans d1
        go_wp2
        exact ⟨_, rfl, rfl, Below.refl _ _, hC⟩
      · have e0 := (bel_cell hC (by omega)).trans d0
        have e1 := (bel_cell hC (by omega)).trans d1
        go_wp2
        exact ⟨_, rfl, rfl, Below.refl _ _, hC⟩
      · rw [show u 2 = _ from (by first | exact hd | exact hd.1 | exact hd.2 | exact hd.2.1 | exact hd.2.2 | exact hd.2.2.1 | exact hd.2.2.2 | exact hd.2.2.2.1 | exact hd.2.2.2.2)]
        go_wp2_with fail
        refine (specTree_any (N : Int) _ ps b wx (hp1.keep hC)).mono ?_
        rintro e wy ⟨r, rfl, hr, hby⟩
        rw [Ht.out.1] at hr
        go_wp2
        exact ⟨_, rfl, hr.mono hC.size, hby, hC.trans (hby.mono hC.size)⟩
      · have hT : Ints wx w1.heap.size (u 3) (treeL N ps) := hd
        obtain ⟨A2, c2, ev, -, -, -, -⟩ := hT.form
        rw [ev]
        go_wp2
        exact ⟨_, rfl, rfl, Below.refl _ _, hC⟩
      · rw [show u 1 = _ from (by first | exact hd | exact hd.1 | exact hd.2 | exact hd.2.1 | exact hd.2.2 | exact hd.2.2.1 | exact hd.2.2.2 | exact hd.2.2.2.1 | exact hd.2.2.2.2), show u 4 = _ from (by first | exact hd | exact hd.1 | exact hd.2 | exact hd.2.1 | exact hd.2.2 | exact hd.2.2.1 | exact hd.2.2.2 | exact hd.2.2.2.1 | exact hd.2.2.2.2)]
        go_wp2
        exact ⟨_, rfl, rfl, Below.refl _ _, hC⟩
      · rw [show u 5 = _ from (by first | exact hd | exact hd.1 | exact hd.2 | exact hd.2.1 | exact hd.2.2 | exact hd.2.2.1 | exact hd.2.2.2 | exact hd.2.2.2.1 | exact hd.2.2.2.2)]
        go_wp2
        exact ⟨_, rfl, rfl, Below.refl _ _, hC⟩
    · intro u f wx hC hfin
      simp only [fillEnd, fillF, Act.put, List.setIfInBounds_toArray, List.set_cons_succ, List.set_cons_zero]
      rw [show u 6 = _ from hfin 6 (by decide) (by decide)]
      go_wp2
      go_ret
      exact ⟨ret_int Ht.out.2.symm, hB1.trans (hC.mono hB1.size)⟩
  | false =>
    have Ht : Hid (piecesI n ps = -1) := Lib.hid (by rw [piecesI, if_neg (by simp [hok])])
    go_enter Try.func31, Try.ntmps31
    go_wp2_with fail
    refine (specNetOk_any _ _ ps b _ (hp0.keep (by (repeat (first | (with_reducible assumption) | (with_reducible exact Below.refl _ _) | ((with_reducible refine Below.alloc ?_ ?hsz _); (case hsz => (first | omega | (simp; done) | (simp; omega) | (simp at *; omega)))) | ((with_reducible refine Below.setCell ?_ ?hsz _); (case hsz => (first | omega | (simp; done) | (simp; omega) | (simp at *; omega)))) | (with_reducible refine Below.drew ?_) | (with_reducible refine below_drewN ?_ _) | ((with_reducible refine Below.trans ?_ (Below.mono (by with_reducible assumption) ?hsz)); (case hsz => (first | omega | (simp; done) | (simp; omega) | (simp at *; omega))))))))).mono ?_
    rintro e w1 ⟨rfl, hb1⟩
    rw [hok]
    go_wp2
    go_ret
    exact ⟨ret_int Ht.out.symm, by (repeat (first | (with_reducible assumption) | (with_reducible exact Below.refl _ _) | ((with_reducible refine Below.alloc ?_ ?hsz _); (case hsz => (first | omega | (simp; done) | (simp; omega) | (simp at *; omega)))) | ((with_reducible refine Below.setCell ?_ ?hsz _); (case hsz => (first | omega | (simp; done) | (simp; omega) | (simp at *; omega)))) | (with_reducible refine Below.drew ?_) | (with_reducible refine below_drewN ?_ _) | ((with_reducible refine Below.trans ?_ (Below.mono (by with_reducible assumption) ?hsz)); (case hsz => (first | omega | (simp; done) | (simp; omega) | (simp at *; omega))))))⟩

theorem rowB_no {xs : List Int} {cnt l m : Int} {k : Nat} (hk : k < xs.length) (h : withinB xs[k] l m = false) : rowB xs cnt l m = false := by
  rw [rowB, all_no hk (by simp [h]), Bool.and_false]

/-- what the operations yield -/
def tnV (nb g c c' g' H g1 k c1 a e B : Nat) (xa xe : Int) (M : Nat) (L : List Int) : Nat → Value → World → Prop
  | 0, x, _ => x = .slice (some ⟨g1, 0, none⟩) k c1
  | 1, x, _ => x = .slice (some ⟨g', 0, none⟩) H c'
  | 2, x, _ => x = .pointer (some ⟨nb, 1, none⟩)
  | 3, x, _ => x = (.slice (some ⟨g, 0, none⟩) M c)
  | 4, x, _ => x = .int .i64 (k : Int)
  | 5, x, _ => x = .pointer (some ⟨g, k * 5, none⟩)
  | 6, x, _ => x = .pointer (some ⟨g, k * 5 + 1, none⟩)
  | 7, x, _ => x = .int .i64 (e : Int)
  | 8, x, _ => x = .pointer (some ⟨g', e, none⟩)
  | 9, x, _ => x = .int .i64 xe
  | 10, x, _ => x = .slice (some ⟨g', 0, none⟩) H c'
  | 11, x, _ => x = .pointer (some ⟨nb, 1, none⟩)
  | 12, x, _ => x = (.slice (some ⟨g, 0, none⟩) M c)
  | 13, x, _ => x = .int .i64 (k : Int)
  | 14, x, _ => x = .pointer (some ⟨g, k * 5, none⟩)
  | 15, x, _ => x = .pointer (some ⟨g, k * 5, none⟩)
  | 16, x, _ => x = .int .i64 (a : Int)
  | 17, x, _ => x = .pointer (some ⟨g', a, none⟩)
  | 18, x, _ => x = .int .i64 xa
  | 19, x, _ => x = .int .i64 (xe - xa)
  | 20, x, w => ∃ gl, x = .slice (some ⟨gl, 0, none⟩) 1 1 ∧ B ≤ gl ∧ w.heap[gl]? = some (.cells #[.int .i64 (xe - xa)] 3 (0, 0))
  | 21, x, w => ∃ g2 k2, x = .slice (some ⟨g2, 0, none⟩) (k + 1) k2 ∧ Row w (nb + 1) g2 (k + 1) k2 (L ++ [xe - xa])
  | 22, x, w => ∃ g2 k2, x = .slice (some ⟨g2, 0, none⟩) (k + 1) k2 ∧ Row w (nb + 1) g2 (k + 1) k2 (L ++ [xe - xa])
  | _, _, _ => True
theorem tnV_keep {nb g c c' g' H g1 k c1 a e B : Nat} {xa xe : Int} {M : Nat} {L : List Int} {x : Value} {k' : Nat} {w w' : World} (hb : Below w.heap.size w w') (h : tnV nb g c c' g' H g1 k c1 a e B xa xe M L k' x w) : tnV nb g c c' g' H g1 k c1 a e B xa xe M L k' x w' := by
  revert h
  unfold tnV
  split <;> intro h <;> first
    | exact h
    | (obtain ⟨gl, h1, h2, h3⟩ := h
       have hgl : gl < _ := (Array.getElem?_eq_some_iff.1 h3).1
       exact ⟨gl, h1, h2, (hb.block gl hgl).trans h3⟩)
    | (obtain ⟨g2, k2, h1, h2⟩ := h; exact ⟨g2, k2, h1, h2.keep hb⟩)
def tnR : Nat → World → World → Prop
  | 21, _, _ => True
  | _, w, w' => Below w.heap.size w w'
/-- what is known of the world, so many operations ahead of the end -/
def tnC (w wr : World) (u0 u1 : Value) (g1 k c1 : Nat) (L : List Int) (f : Nat) (wx : World) : Prop :=
  Below w.heap.size w wx ∧ Box2 wx w.heap.size u0 u1 ∧ (2 ≤ f → Row wx (w.heap.size + 1) g1 k c1 L ∧ Below wr.heap.size wr wx)
section
variable {w wr wx : World} {u0 u1 : Value} {g1 k c1 f : Nat} {L : List Int}
theorem tnC.step (h : tnC w wr u0 u1 g1 k c1 L (f + 1) wx) : tnC w wr u0 u1 g1 k c1 L f wx := ⟨h.1, h.2.1, fun hf => h.2.2 (by omega)⟩
theorem tnC.made (h : tnC w wr u0 u1 g1 k c1 L f wx) (o : Obj) : tnC w wr u0 u1 g1 k c1 L f (wx.alloc o) :=
  ⟨h.1.trans ((Below.refl _ _).alloc h.1.size _), h.2.1.keep ((Below.refl _ _).alloc (Nat.le_refl _) _), fun hf => ⟨(h.2.2 hf).1.keep ((Below.refl _ _).alloc (Nat.le_refl _) _), (h.2.2 hf).2.trans ((Below.refl _ _).alloc (h.2.2 hf).2.size _)⟩⟩
end

end Go.Proofs.Ytphbmlephldaaaa
