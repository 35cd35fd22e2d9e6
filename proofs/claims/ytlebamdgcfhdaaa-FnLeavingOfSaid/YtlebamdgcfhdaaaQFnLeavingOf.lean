/- FnLeavingOf: for every code the law holds: the program's LeavingOf answers as the model; pipes that leave a side and those that leave the others are different ones; and of the turned net it is those that leave the others. No condition. -/
import Derived.Test.YtlebamdgcfhdaaaL2
import Derived.Test.YtlebamdgcfhdaaaL3
import Derived.Test.YtlebamdgcfhdaaaD8
import Derived.Test.YtlebamdgcfhdaaaMG
import Derived.Test.YtlebamdgcfhdaaaW5
import Derived.Test.YtlebamdgcfhdaaaW9
import Derived.Test.YtlebamdgcfhdaaaS9
namespace Go.Proofs.Ytlebamdgcfhdaaa.lawLeavingOf
open Go.ChangeShapes Go.WideShapes Go.ChangeAt Go.RowKit Go.Deep Go.Joins

set_option maxRecDepth 20000 in
set_option maxHeartbeats 2000000 in
set_option maxRecDepth 20000 in
theorem walk (v : Value) (n : Nat) (w : World) (h : ArgBytes w v n) :
    Calls Try.prog 8 #[v] w fun e w' => e = .returned (.bool true) ∧ Below w.heap.size w w' := by
  obtain ⟨A, c, rfl, hc1, hc2, -⟩ := id h
  unfold maxLen at hc2
  by_cases hbig : 1048576 < n
  · go_enter Try.func8, Try.ntmps8
    go_wp2
    go_ret
    exact ⟨rfl, by (repeat (first | (with_reducible assumption) | (with_reducible exact Below.refl _ _) | ((with_reducible refine Below.alloc ?_ ?hsz _); (case hsz => (first | omega | (simp; done) | (simp; omega) | (simp at *; omega)))) | ((with_reducible refine Below.setCell ?_ ?hsz _); (case hsz => (first | omega | (simp; done) | (simp; omega) | (simp at *; omega)))) | (with_reducible refine Below.drew ?_) | (with_reducible refine below_drewN ?_ _) | ((with_reducible refine Below.trans ?_ (Below.mono (by with_reducible assumption) ?hsz)); (case hsz => (first | omega | (simp; done) | (simp; omega) | (simp at *; omega))))))⟩
  go_enter Try.func8, Try.ntmps8
  go_wp2_with fail
  with_reducible refine (drawLeavingOf_any _ n _ (h.keep (by (repeat (first | (with_reducible assumption) | (with_reducible exact Below.refl _ _) | ((with_reducible refine Below.alloc ?_ ?hsz _); (case hsz => (first | omega | (simp; done) | (simp; omega) | (simp at *; omega)))) | ((with_reducible refine Below.setCell ?_ ?hsz _); (case hsz => (first | omega | (simp; done) | (simp; omega) | (simp at *; omega)))) | (with_reducible refine Below.drew ?_) | (with_reducible refine below_drewN ?_ _) | ((with_reducible refine Below.trans ?_ (Below.mono (by with_reducible assumption) ?hsz)); (case hsz => (first | omega | (simp; done) | (simp; omega) | (simp at *; omega))))))))).mono ?_
  rintro e w1 ⟨z, ps, u, i, rfl, hp, hb1, hl8, hz1, hz6⟩
  have hBw1 : Below w.heap.size w w1 := by (repeat (first | (with_reducible assumption) | (with_reducible exact Below.refl _ _) | ((with_reducible refine Below.alloc ?_ ?hsz _); (case hsz => (first | omega | (simp; done) | (simp; omega) | (simp at *; omega)))) | ((with_reducible refine Below.setCell ?_ ?hsz _); (case hsz => (first | omega | (simp; done) | (simp; omega) | (simp at *; omega)))) | (with_reducible refine Below.drew ?_) | (with_reducible refine below_drewN ?_ _) | ((with_reducible refine Below.trans ?_ (Below.mono (by with_reducible assumption) ?hsz)); (case hsz => (first | omega | (simp; done) | (simp; omega) | (simp at *; omega))))))
  clear h hc1 hc2 hbig
  obtain ⟨A1, c1, rfl, hk1, hk2, hsm, -⟩ := hp.form
  unfold maxLen at hk2
  have bx1 : Box2 (w1.alloc (.cells #[.int .i64 z, .slice A1 ps.length c1] 28)) w1.heap.size (.int .i64 z) (.slice A1 ps.length c1) := Box2.new _ _ _ _
  have hB1 : Below w1.heap.size w1 (w1.alloc (.cells #[.int .i64 z, .slice A1 ps.length c1] 28)) := by (repeat (first | (with_reducible assumption) | (with_reducible exact Below.refl _ _) | ((with_reducible refine Below.alloc ?_ ?hsz _); (case hsz => (first | omega | (simp; done) | (simp; omega) | (simp at *; omega)))) | ((with_reducible refine Below.setCell ?_ ?hsz _); (case hsz => (first | omega | (simp; done) | (simp; omega) | (simp at *; omega)))) | (with_reducible refine Below.drew ?_) | (with_reducible refine below_drewN ?_ _) | ((with_reducible refine Below.trans ?_ (Below.mono (by with_reducible assumption) ?hsz)); (case hsz => (first | omega | (simp; done) | (simp; omega) | (simp at *; omega))))))
  go_wp2_with fail
  with_reducible refine (leavingOf_any z i _ ps _ _ (hp.keep hB1)).mono ?_
  rintro e w2 ⟨sA, rfl, hL2, hnn⟩
  have bx2 := (bx1).keep hnn
  have hB2 : Below w1.heap.size w1 w2 := by (repeat (first | (with_reducible assumption) | (with_reducible exact Below.refl _ _) | ((with_reducible refine Below.alloc ?_ ?hsz _); (case hsz => (first | omega | (simp; done) | (simp; omega) | (simp at *; omega)))) | ((with_reducible refine Below.setCell ?_ ?hsz _); (case hsz => (first | omega | (simp; done) | (simp; omega) | (simp at *; omega)))) | (with_reducible refine Below.drew ?_) | (with_reducible refine below_drewN ?_ _) | ((with_reducible refine Below.trans ?_ (Below.mono (by with_reducible assumption) ?hsz)); (case hsz => (first | omega | (simp; done) | (simp; omega) | (simp at *; omega))))))
  have hbl := hnn
  clear hnn
  (try clear d0 d1 g0 g1)
  obtain ⟨bs, d0, d1, g0, g1⟩ := id bx2
  clear hbl
  go_wp2_with fail
  with_reducible refine (specLeavingOf_any z i _ ps _ _ (hp.keep hB2)).mono ?_
  rintro e w3 ⟨sM, rfl, hM3, hnn⟩
  have bx3 := (bx2).keep hnn
  have hB3 : Below w1.heap.size w1 w3 := by (repeat (first | (with_reducible assumption) | (with_reducible exact Below.refl _ _) | ((with_reducible refine Below.alloc ?_ ?hsz _); (case hsz => (first | omega | (simp; done) | (simp; omega) | (simp at *; omega)))) | ((with_reducible refine Below.setCell ?_ ?hsz _); (case hsz => (first | omega | (simp; done) | (simp; omega) | (simp at *; omega)))) | (with_reducible refine Below.drew ?_) | (with_reducible refine below_drewN ?_ _) | ((with_reducible refine Below.trans ?_ (Below.mono (by with_reducible assumption) ?hsz)); (case hsz => (first | omega | (simp; done) | (simp; omega) | (simp at *; omega))))))
  have hbl := hnn
  clear hnn
  (try clear d0 d1 g0 g1)
  obtain ⟨bs, d0, d1, g0, g1⟩ := id bx3
  have hL3 := hL2.keep hbl
  clear hbl hL2
  go_wp2_with fail
  with_reducible refine (sameInts_any _ _ (leavingL z ps i) (leavingL z ps i) _ _ _ hL3 hM3).mono ?_
  rintro e w4 ⟨rfl, hnn⟩
  have bx4 := (bx3).keep hnn
  have hB4 : Below w1.heap.size w1 w4 := by (repeat (first | (with_reducible assumption) | (with_reducible exact Below.refl _ _) | ((with_reducible refine Below.alloc ?_ ?hsz _); (case hsz => (first | omega | (simp; done) | (simp; omega) | (simp at *; omega)))) | ((with_reducible refine Below.setCell ?_ ?hsz _); (case hsz => (first | omega | (simp; done) | (simp; omega) | (simp at *; omega)))) | (with_reducible refine Below.drew ?_) | (with_reducible refine below_drewN ?_ _) | ((with_reducible refine Below.trans ?_ (Below.mono (by with_reducible assumption) ?hsz)); (case hsz => (first | omega | (simp; done) | (simp; omega) | (simp at *; omega))))))
  have hb4 := ((Below.refl w3.heap.size w3)).trans (hnn.mono ((Below.refl w3.heap.size w3)).size)
  clear hnn
  (try clear d0 d1 g0 g1)
  obtain ⟨bs, d0, d1, g0, g1⟩ := id bx4
  have hL4 := hL3.keep hb4
  clear hM3 hL3 hb4
  have hdec : decide (leavingL z ps i = leavingL z ps i) = true := by simp
  rw [hdec]
  clear hdec
  go_wp2_with fail
  with_reducible refine (specSideOk_any z i _ ps _ _ (hp.keep hB4)).mono ?_
  rintro e w5 ⟨rfl, hnn⟩
  have bx5 := (bx4).keep hnn
  have hB5 : Below w1.heap.size w1 w5 := by (repeat (first | (with_reducible assumption) | (with_reducible exact Below.refl _ _) | ((with_reducible refine Below.alloc ?_ ?hsz _); (case hsz => (first | omega | (simp; done) | (simp; omega) | (simp at *; omega)))) | ((with_reducible refine Below.setCell ?_ ?hsz _); (case hsz => (first | omega | (simp; done) | (simp; omega) | (simp at *; omega)))) | (with_reducible refine Below.drew ?_) | (with_reducible refine below_drewN ?_ _) | ((with_reducible refine Below.trans ?_ (Below.mono (by with_reducible assumption) ?hsz)); (case hsz => (first | omega | (simp; done) | (simp; omega) | (simp at *; omega))))))
  have hb5 := ((Below.refl w4.heap.size w4)).trans (hnn.mono ((Below.refl w4.heap.size w4)).size)
  clear hnn
  (try clear d0 d1 g0 g1)
  obtain ⟨bs, d0, d1, g0, g1⟩ := id bx5
  have hL5 := hL4.keep hb5
  clear hL4 hb5
  by_cases hs : sideB z ps i = true
  · obtain ⟨hok, z0, z5, i0, i1⟩ := side_all hs
    have hn := netOk_parts hok
    have HT := Lib.hid (leaving_turn (n := z) (s := i) ps)
    have Hap := Lib.hid (leaving_apart hs)
    have Has := Lib.hid (leaving_asc z i ps)
    have hp5 := pow_le5 z5
    have i31 : i ≤ 31 := by omega
    have hs5 := hB5.size
    clear hp5 i1
    rcases (show z = 2 ∨ z = 3 ∨ z = 4 ∨ z = 5 by omega) with rfl | rfl | rfl | rfl
    · have Hwr := Lib.hid (show IntKind.i64.wrap (IntKind.i64.wrap (IntKind.i64.wrap 4 - 1) - i) = 3 - i by simp only [IntKind.wrap_i64]; omega)
      go_wp2_with fail
      go_region_held3 (fun w' => w'.cell? ⟨w1.heap.size, 0, none⟩ = some (.int .i64 2) ∧ w'.cell? ⟨w1.heap.size, 1, none⟩ = some (.slice A1 ps.length c1))
        ((go_split_ands; (refine ⟨?_, ?_⟩ <;> first | (with_reducible assumption) | (with_reducible refine cell_drew ?_; with_reducible assumption) | (refine cell_keep ?_ (by with_reducible assumption); with_reducible assumption))))
        ((go_at_call 35; (with_reducible refine (leavingOf_any 2 _ _ ps _ _ (hp.keep (by (repeat (first | (with_reducible assumption) | (with_reducible exact Below.refl _ _) | ((with_reducible refine Below.alloc ?_ ?hsz _); (case hsz => (first | omega | (simp; done) | (simp; omega) | (simp at *; omega)))) | ((with_reducible refine Below.setCell ?_ ?hsz _); (case hsz => (first | omega | (simp; done) | (simp; omega) | (simp at *; omega)))) | (with_reducible refine Below.drew ?_) | (with_reducible refine below_drewN ?_ _) | ((with_reducible refine Below.trans ?_ (Below.mono (by with_reducible assumption) ?hsz)); (case hsz => (first | omega | (simp; done) | (simp; omega) | (simp at *; omega))))))))).mono ?_); rintro e w6 ⟨sO, rfl, hO6, hb6⟩; have hz6' := hb6.size))
      rw [Hwr.out] at hO6
      clear hs
      have hW : Below w5.heap.size w5 w6 := by (repeat (first | (with_reducible assumption) | (with_reducible exact Below.refl _ _) | ((with_reducible refine Below.alloc ?_ ?hsz _); (case hsz => (first | omega | (simp; done) | (simp; omega) | (simp at *; omega)))) | ((with_reducible refine Below.setCell ?_ ?hsz _); (case hsz => (first | omega | (simp; done) | (simp; omega) | (simp at *; omega)))) | (with_reducible refine Below.drew ?_) | (with_reducible refine below_drewN ?_ _) | ((with_reducible refine Below.trans ?_ (Below.mono (by with_reducible assumption) ?hsz)); (case hsz => (first | omega | (simp; done) | (simp; omega) | (simp at *; omega))))))
      have bx6 := bx5.keep hW
      have hB6 : Below w1.heap.size w1 w6 := hB5.trans (hW.mono hB5.size)
      have hL6 := hL5.keep hW
      clear hW hb6 hL5 d0 d1 g0 g1 hz6'
      obtain ⟨bs, d0, d1, g0, g1⟩ := id bx6
      have hap : ∀ x ∈ leavingL 2 ps i, x ∉ leavingL 2 ps (3 - i) := Hap.out
      have ht : leavingL 2 (ps.map turnP) i = leavingL 2 ps (3 - i) := HT.out
      obtain ⟨LA, lc, rfl, a1, a2, a3, -⟩ := hL6.form
      unfold maxLen at a2
      have has := Has.out
      generalize leavingL 2 ps i = xs at *
      generalize leavingL 2 ps (3 - i) = ys at *
      have Hap2 := Lib.hid hap
      have Ht2 := Lib.hid ht
      have Has2 := Lib.hid has
      clear hap ht has Hap HT Has
      go_wp2_with fail
      go_loopw [7] (fun t wr => ∃ k : Nat, k ≤ xs.length ∧ t = .int .i64 k ∧ Box2 wr w1.heap.size (.int .i64 2) (.slice A1 ps.length c1) ∧ Below w1.heap.size w1 wr ∧ Below w6.heap.size w6 wr) (fun t _ => xs.length - (intOf t).toNat)
      case atStart => exact ⟨0, by omega, rfl, bx6, hB6, Below.refl _ _⟩
      case round =>
        obtain ⟨k, hk, rfl, bx, hB, hb6⟩ := hrel
        clear d0 d1 g0 g1
        obtain ⟨bs, d0, d1, g0, g1⟩ := id bx
        by_cases hlt : k < xs.length
        · obtain ⟨ga, rfl, ga1, ga2, ca, -⟩ := (hL6.keep hb6).at' k hlt
          have hno : decide (xs[k] ∈ ys) = false := decide_eq_false (Hap2.out _ (List.getElem_mem hlt))
          go_wp2_with fail
          with_reducible refine (hasInt_any _ ys xs[k] _ _ (hO6.keep hb6)).mono ?_
          rintro e w7 ⟨rfl, hnn⟩
          have bx7 := (bx).keep hnn
          have hB7 : Below w1.heap.size w1 w7 := by (repeat (first | (with_reducible assumption) | (with_reducible exact Below.refl _ _) | ((with_reducible refine Below.alloc ?_ ?hsz _); (case hsz => (first | omega | (simp; done) | (simp; omega) | (simp at *; omega)))) | ((with_reducible refine Below.setCell ?_ ?hsz _); (case hsz => (first | omega | (simp; done) | (simp; omega) | (simp at *; omega)))) | (with_reducible refine Below.drew ?_) | (with_reducible refine below_drewN ?_ _) | ((with_reducible refine Below.trans ?_ (Below.mono (by with_reducible assumption) ?hsz)); (case hsz => (first | omega | (simp; done) | (simp; omega) | (simp at *; omega))))))
          have hb7 := (hb6).trans (hnn.mono (hb6).size)
          clear hnn
          (try clear d0 d1 g0 g1)
          obtain ⟨bs, d0, d1, g0, g1⟩ := id bx7
          rw [hno]
          go_wp2
          go_roundw
          case rel => exact ⟨k + 1, by omega, by go_num, bx7, hB7, hb7⟩
          case measure => simp [intOf]; omega
        · go_wp2_with fail
          with_reducible refine (ascend_any _ xs _ _ (hL6.keep hb6) Has2.out).mono ?_
          rintro e w7 ⟨rfl, hnn⟩
          have bx7 := (bx).keep hnn
          have hB7 : Below w1.heap.size w1 w7 := by (repeat (first | (with_reducible assumption) | (with_reducible exact Below.refl _ _) | ((with_reducible refine Below.alloc ?_ ?hsz _); (case hsz => (first | omega | (simp; done) | (simp; omega) | (simp at *; omega)))) | ((with_reducible refine Below.setCell ?_ ?hsz _); (case hsz => (first | omega | (simp; done) | (simp; omega) | (simp at *; omega)))) | (with_reducible refine Below.drew ?_) | (with_reducible refine below_drewN ?_ _) | ((with_reducible refine Below.trans ?_ (Below.mono (by with_reducible assumption) ?hsz)); (case hsz => (first | omega | (simp; done) | (simp; omega) | (simp at *; omega))))))
          have hb7 := (hb6).trans (hnn.mono (hb6).size)
          clear hnn
          (try clear d0 d1 g0 g1)
          obtain ⟨bs, d0, d1, g0, g1⟩ := id bx7
          have hok' := hok
          go_wp2_with fail
          with_reducible refine (turned_any 2 _ ps _ _ (hp.keep hB7)).mono ?_
          rintro e w8 ⟨sT, rfl, hq8, hnn⟩
          rw [(turn_yes hok).2] at hq8
          rw [(turn_yes hok).1]
          have bx8 := bx7.keep hnn
          have hB8 : Below w1.heap.size w1 w8 := by (repeat (first | (with_reducible assumption) | (with_reducible exact Below.refl _ _) | ((with_reducible refine Below.alloc ?_ ?hsz _); (case hsz => (first | omega | (simp; done) | (simp; omega) | (simp at *; omega)))) | ((with_reducible refine Below.setCell ?_ ?hsz _); (case hsz => (first | omega | (simp; done) | (simp; omega) | (simp at *; omega)))) | (with_reducible refine Below.drew ?_) | (with_reducible refine below_drewN ?_ _) | ((with_reducible refine Below.trans ?_ (Below.mono (by with_reducible assumption) ?hsz)); (case hsz => (first | omega | (simp; done) | (simp; omega) | (simp at *; omega))))))
          have hb8 := hb7.trans (hnn.mono hb7.size)
          clear hnn d0 d1 g0 g1
          obtain ⟨bs, d0, d1, g0, g1⟩ := id bx8
          go_wp2_with fail
          with_reducible refine (leavingOf_any 2 i _ (ps.map turnP) _ _ hq8).mono ?_
          rintro e w9 ⟨sU, rfl, hU9, hnn⟩
          rw [Ht2.out] at hU9
          have bx9 := bx8.keep hnn
          have hB9 : Below w1.heap.size w1 w9 := by (repeat (first | (with_reducible assumption) | (with_reducible exact Below.refl _ _) | ((with_reducible refine Below.alloc ?_ ?hsz _); (case hsz => (first | omega | (simp; done) | (simp; omega) | (simp at *; omega)))) | ((with_reducible refine Below.setCell ?_ ?hsz _); (case hsz => (first | omega | (simp; done) | (simp; omega) | (simp at *; omega)))) | (with_reducible refine Below.drew ?_) | (with_reducible refine below_drewN ?_ _) | ((with_reducible refine Below.trans ?_ (Below.mono (by with_reducible assumption) ?hsz)); (case hsz => (first | omega | (simp; done) | (simp; omega) | (simp at *; omega))))))
          have hb9 := hb8.trans (hnn.mono hb8.size)
          clear hnn d0 d1 g0 g1
          obtain ⟨bs, d0, d1, g0, g1⟩ := id bx9
          go_wp2_with fail
          with_reducible refine (sameInts_any _ _ ys ys _ _ _ hU9 (hO6.keep hb9)).mono ?_
          rintro e w10 ⟨rfl, hnn⟩
          have bx10 := (bx9).keep hnn
          have hB10 : Below w1.heap.size w1 w10 := by (repeat (first | (with_reducible assumption) | (with_reducible exact Below.refl _ _) | ((with_reducible refine Below.alloc ?_ ?hsz _); (case hsz => (first | omega | (simp; done) | (simp; omega) | (simp at *; omega)))) | ((with_reducible refine Below.setCell ?_ ?hsz _); (case hsz => (first | omega | (simp; done) | (simp; omega) | (simp at *; omega)))) | (with_reducible refine Below.drew ?_) | (with_reducible refine below_drewN ?_ _) | ((with_reducible refine Below.trans ?_ (Below.mono (by with_reducible assumption) ?hsz)); (case hsz => (first | omega | (simp; done) | (simp; omega) | (simp at *; omega))))))
          clear hnn
          (try clear d0 d1 g0 g1)
          obtain ⟨bs, d0, d1, g0, g1⟩ := id bx10
          have hdec : decide (ys = ys) = true := by simp
          rw [hdec]
          clear hdec
          go_wp2_with fail
          with_reducible refine (alive_any _).mono ?_
          rintro e w11 ⟨rfl, hnn⟩
          have bx11 := (bx10).keep hnn
          have hB11 : Below w1.heap.size w1 w11 := by (repeat (first | (with_reducible assumption) | (with_reducible exact Below.refl _ _) | ((with_reducible refine Below.alloc ?_ ?hsz _); (case hsz => (first | omega | (simp; done) | (simp; omega) | (simp at *; omega)))) | ((with_reducible refine Below.setCell ?_ ?hsz _); (case hsz => (first | omega | (simp; done) | (simp; omega) | (simp at *; omega)))) | (with_reducible refine Below.drew ?_) | (with_reducible refine below_drewN ?_ _) | ((with_reducible refine Below.trans ?_ (Below.mono (by with_reducible assumption) ?hsz)); (case hsz => (first | omega | (simp; done) | (simp; omega) | (simp at *; omega))))))
          clear hnn
          (try clear d0 d1 g0 g1)
          obtain ⟨bs, d0, d1, g0, g1⟩ := id bx11
          go_wp2
          (go_ret; exact ⟨rfl, hBw1.trans (Below.mono (by with_reducible assumption) hBw1.size)⟩)
    · have Hwr := Lib.hid (show IntKind.i64.wrap (IntKind.i64.wrap (IntKind.i64.wrap 8 - 1) - i) = 7 - i by simp only [IntKind.wrap_i64]; omega)
      go_wp2_with fail
      go_region_held3 (fun w' => w'.cell? ⟨w1.heap.size, 0, none⟩ = some (.int .i64 3) ∧ w'.cell? ⟨w1.heap.size, 1, none⟩ = some (.slice A1 ps.length c1))
        ((go_split_ands; (refine ⟨?_, ?_⟩ <;> first | (with_reducible assumption) | (with_reducible refine cell_drew ?_; with_reducible assumption) | (refine cell_keep ?_ (by with_reducible assumption); with_reducible assumption))))
        ((go_at_call 35; (with_reducible refine (leavingOf_any 3 _ _ ps _ _ (hp.keep (by (repeat (first | (with_reducible assumption) | (with_reducible exact Below.refl _ _) | ((with_reducible refine Below.alloc ?_ ?hsz _); (case hsz => (first | omega | (simp; done) | (simp; omega) | (simp at *; omega)))) | ((with_reducible refine Below.setCell ?_ ?hsz _); (case hsz => (first | omega | (simp; done) | (simp; omega) | (simp at *; omega)))) | (with_reducible refine Below.drew ?_) | (with_reducible refine below_drewN ?_ _) | ((with_reducible refine Below.trans ?_ (Below.mono (by with_reducible assumption) ?hsz)); (case hsz => (first | omega | (simp; done) | (simp; omega) | (simp at *; omega))))))))).mono ?_); rintro e w6 ⟨sO, rfl, hO6, hb6⟩; have hz6' := hb6.size))
      rw [Hwr.out] at hO6
      clear hs
      have hW : Below w5.heap.size w5 w6 := by (repeat (first | (with_reducible assumption) | (with_reducible exact Below.refl _ _) | ((with_reducible refine Below.alloc ?_ ?hsz _); (case hsz => (first | omega | (simp; done) | (simp; omega) | (simp at *; omega)))) | ((with_reducible refine Below.setCell ?_ ?hsz _); (case hsz => (first | omega | (simp; done) | (simp; omega) | (simp at *; omega)))) | (with_reducible refine Below.drew ?_) | (with_reducible refine below_drewN ?_ _) | ((with_reducible refine Below.trans ?_ (Below.mono (by with_reducible assumption) ?hsz)); (case hsz => (first | omega | (simp; done) | (simp; omega) | (simp at *; omega))))))
      have bx6 := bx5.keep hW
      have hB6 : Below w1.heap.size w1 w6 := hB5.trans (hW.mono hB5.size)
      have hL6 := hL5.keep hW
      clear hW hb6 hL5 d0 d1 g0 g1 hz6'
      obtain ⟨bs, d0, d1, g0, g1⟩ := id bx6
      have hap : ∀ x ∈ leavingL 3 ps i, x ∉ leavingL 3 ps (7 - i) := Hap.out
      have ht : leavingL 3 (ps.map turnP) i = leavingL 3 ps (7 - i) := HT.out
      obtain ⟨LA, lc, rfl, a1, a2, a3, -⟩ := hL6.form
      unfold maxLen at a2
      have has := Has.out
      generalize leavingL 3 ps i = xs at *
      generalize leavingL 3 ps (7 - i) = ys at *
      have Hap2 := Lib.hid hap
      have Ht2 := Lib.hid ht
      have Has2 := Lib.hid has
      clear hap ht has Hap HT Has
      go_wp2_with fail
      go_loopw [7] (fun t wr => ∃ k : Nat, k ≤ xs.length ∧ t = .int .i64 k ∧ Box2 wr w1.heap.size (.int .i64 3) (.slice A1 ps.length c1) ∧ Below w1.heap.size w1 wr ∧ Below w6.heap.size w6 wr) (fun t _ => xs.length - (intOf t).toNat)
      case atStart => exact ⟨0, by omega, rfl, bx6, hB6, Below.refl _ _⟩
      case round =>
        obtain ⟨k, hk, rfl, bx, hB, hb6⟩ := hrel
        clear d0 d1 g0 g1
        obtain ⟨bs, d0, d1, g0, g1⟩ := id bx
        by_cases hlt : k < xs.length
        · obtain ⟨ga, rfl, ga1, ga2, ca, -⟩ := (hL6.keep hb6).at' k hlt
          have hno : decide (xs[k] ∈ ys) = false := decide_eq_false (Hap2.out _ (List.getElem_mem hlt))
          go_wp2_with fail
          with_reducible refine (hasInt_any _ ys xs[k] _ _ (hO6.keep hb6)).mono ?_
          rintro e w7 ⟨rfl, hnn⟩
          have bx7 := (bx).keep hnn
          have hB7 : Below w1.heap.size w1 w7 := by (repeat (first | (with_reducible assumption) | (with_reducible exact Below.refl _ _) | ((with_reducible refine Below.alloc ?_ ?hsz _); (case hsz => (first | omega | (simp; done) | (simp; omega) | (simp at *; omega)))) | ((with_reducible refine Below.setCell ?_ ?hsz _); (case hsz => (first | omega | (simp; done) | (simp; omega) | (simp at *; omega)))) | (with_reducible refine Below.drew ?_) | (with_reducible refine below_drewN ?_ _) | ((with_reducible refine Below.trans ?_ (Below.mono (by with_reducible assumption) ?hsz)); (case hsz => (first | omega | (simp; done) | (simp; omega) | (simp at *; omega))))))
          have hb7 := (hb6).trans (hnn.mono (hb6).size)
          clear hnn
          (try clear d0 d1 g0 g1)
          obtain ⟨bs, d0, d1, g0, g1⟩ := id bx7
          rw [hno]
          go_wp2
          go_roundw
          case rel => exact ⟨k + 1, by omega, by go_num, bx7, hB7, hb7⟩
          case measure => simp [intOf]; omega
        · go_wp2_with fail
          with_reducible refine (ascend_any _ xs _ _ (hL6.keep hb6) Has2.out).mono ?_
          rintro e w7 ⟨rfl, hnn⟩
          have bx7 := (bx).keep hnn
          have hB7 : Below w1.heap.size w1 w7 := by (repeat (first | (with_reducible assumption) | (with_reducible exact Below.refl _ _) | ((with_reducible refine Below.alloc ?_ ?hsz _); (case hsz => (first | omega | (simp; done) | (simp; omega) | (simp at *; omega)))) | ((with_reducible refine Below.setCell ?_ ?hsz _); (case hsz => (first | omega | (simp; done) | (simp; omega) | (simp at *; omega)))) | (with_reducible refine Below.drew ?_) | (with_reducible refine below_drewN ?_ _) | ((with_reducible refine Below.trans ?_ (Below.mono (by with_reducible assumption) ?hsz)); (case hsz => (first | omega | (simp; done) | (simp; omega) | (simp at *; omega))))))
          have hb7 := (hb6).trans (hnn.mono (hb6).size)
          clear hnn
          (try clear d0 d1 g0 g1)
          obtain ⟨bs, d0, d1, g0, g1⟩ := id bx7
          have hok' := hok
          go_wp2_with fail
          with_reducible refine (turned_any 3 _ ps _ _ (hp.keep hB7)).mono ?_
          rintro e w8 ⟨sT, rfl, hq8, hnn⟩
          rw [(turn_yes hok).2] at hq8
          rw [(turn_yes hok).1]
          have bx8 := bx7.keep hnn
          have hB8 : Below w1.heap.size w1 w8 := by (repeat (first | (with_reducible assumption) | (with_reducible exact Below.refl _ _) | ((with_reducible refine Below.alloc ?_ ?hsz _); (case hsz => (first | omega | (simp; done) | (simp; omega) | (simp at *; omega)))) | ((with_reducible refine Below.setCell ?_ ?hsz _); (case hsz => (first | omega | (simp; done) | (simp; omega) | (simp at *; omega)))) | (with_reducible refine Below.drew ?_) | (with_reducible refine below_drewN ?_ _) | ((with_reducible refine Below.trans ?_ (Below.mono (by with_reducible assumption) ?hsz)); (case hsz => (first | omega | (simp; done) | (simp; omega) | (simp at *; omega))))))
          have hb8 := hb7.trans (hnn.mono hb7.size)
          clear hnn d0 d1 g0 g1
          obtain ⟨bs, d0, d1, g0, g1⟩ := id bx8
          go_wp2_with fail
          with_reducible refine (leavingOf_any 3 i _ (ps.map turnP) _ _ hq8).mono ?_
          rintro e w9 ⟨sU, rfl, hU9, hnn⟩
          rw [Ht2.out] at hU9
          have bx9 := bx8.keep hnn
          have hB9 : Below w1.heap.size w1 w9 := by (repeat (first | (with_reducible assumption) | (with_reducible exact Below.refl _ _) | ((with_reducible refine Below.alloc ?_ ?hsz _); (case hsz => (first | omega | (simp; done) | (simp; omega) | (simp at *; omega)))) | ((with_reducible refine Below.setCell ?_ ?hsz _); (case hsz => (first | omega | (simp; done) | (simp; omega) | (simp at *; omega)))) | (with_reducible refine Below.drew ?_) | (with_reducible refine below_drewN ?_ _) | ((with_reducible refine Below.trans ?_ (Below.mono (by with_reducible assumption) ?hsz)); (case hsz => (first | omega | (simp; done) | (simp; omega) | (simp at *; omega))))))
          have hb9 := hb8.trans (hnn.mono hb8.size)
          clear hnn d0 d1 g0 g1
          obtain ⟨bs, d0, d1, g0, g1⟩ := id bx9
          go_wp2_with fail
          with_reducible refine (sameInts_any _ _ ys ys _ _ _ hU9 (hO6.keep hb9)).mono ?_
          rintro e w10 ⟨rfl, hnn⟩
          have bx10 := (bx9).keep hnn
          have hB10 : Below w1.heap.size w1 w10 := by (repeat (first | (with_reducible assumption) | (with_reducible exact Below.refl _ _) | ((with_reducible refine Below.alloc ?_ ?hsz _); (case hsz => (first | omega | (simp; done) | (simp; omega) | (simp at *; omega)))) | ((with_reducible refine Below.setCell ?_ ?hsz _); (case hsz => (first | omega | (simp; done) | (simp; omega) | (simp at *; omega)))) | (with_reducible refine Below.drew ?_) | (with_reducible refine below_drewN ?_ _) | ((with_reducible refine Below.trans ?_ (Below.mono (by with_reducible assumption) ?hsz)); (case hsz => (first | omega | (simp; done) | (simp; omega) | (simp at *; omega))))))
          clear hnn
          (try clear d0 d1 g0 g1)
          obtain ⟨bs, d0, d1, g0, g1⟩ := id bx10
          have hdec : decide (ys = ys) = true := by simp
          rw [hdec]
          clear hdec
          go_wp2_with fail
          with_reducible refine (alive_any _).mono ?_
          rintro e w11 ⟨rfl, hnn⟩
          have bx11 := (bx10).keep hnn
          have hB11 : Below w1.heap.size w1 w11 := by (repeat (first | (with_reducible assumption) | (with_reducible exact Below.refl _ _) | ((with_reducible refine Below.alloc ?_ ?hsz _); (case hsz => (first | omega | (simp; done) | (simp; omega) | (simp at *; omega)))) | ((with_reducible refine Below.setCell ?_ ?hsz _); (case hsz => (first | omega | (simp; done) | (simp; omega) | (simp at *; omega)))) | (with_reducible refine Below.drew ?_) | (with_reducible refine below_drewN ?_ _) | ((with_reducible refine Below.trans ?_ (Below.mono (by with_reducible assumption) ?hsz)); (case hsz => (first | omega | (simp; done) | (simp; omega) | (simp at *; omega))))))
          clear hnn
          (try clear d0 d1 g0 g1)
          obtain ⟨bs, d0, d1, g0, g1⟩ := id bx11
          go_wp2
          (go_ret; exact ⟨rfl, hBw1.trans (Below.mono (by with_reducible assumption) hBw1.size)⟩)
    · have Hwr := Lib.hid (show IntKind.i64.wrap (IntKind.i64.wrap (IntKind.i64.wrap 16 - 1) - i) = 15 - i by simp only [IntKind.wrap_i64]; omega)
      go_wp2_with fail
      go_region_held3 (fun w' => w'.cell? ⟨w1.heap.size, 0, none⟩ = some (.int .i64 4) ∧ w'.cell? ⟨w1.heap.size, 1, none⟩ = some (.slice A1 ps.length c1))
        ((go_split_ands; (refine ⟨?_, ?_⟩ <;> first | (with_reducible assumption) | (with_reducible refine cell_drew ?_; with_reducible assumption) | (refine cell_keep ?_ (by with_reducible assumption); with_reducible assumption))))
        ((go_at_call 35; (with_reducible refine (leavingOf_any 4 _ _ ps _ _ (hp.keep (by (repeat (first | (with_reducible assumption) | (with_reducible exact Below.refl _ _) | ((with_reducible refine Below.alloc ?_ ?hsz _); (case hsz => (first | omega | (simp; done) | (simp; omega) | (simp at *; omega)))) | ((with_reducible refine Below.setCell ?_ ?hsz _); (case hsz => (first | omega | (simp; done) | (simp; omega) | (simp at *; omega)))) | (with_reducible refine Below.drew ?_) | (with_reducible refine below_drewN ?_ _) | ((with_reducible refine Below.trans ?_ (Below.mono (by with_reducible assumption) ?hsz)); (case hsz => (first | omega | (simp; done) | (simp; omega) | (simp at *; omega))))))))).mono ?_); rintro e w6 ⟨sO, rfl, hO6, hb6⟩; have hz6' := hb6.size))
      rw [Hwr.out] at hO6
      clear hs
      have hW : Below w5.heap.size w5 w6 := by (repeat (first | (with_reducible assumption) | (with_reducible exact Below.refl _ _) | ((with_reducible refine Below.alloc ?_ ?hsz _); (case hsz => (first | omega | (simp; done) | (simp; omega) | (simp at *; omega)))) | ((with_reducible refine Below.setCell ?_ ?hsz _); (case hsz => (first | omega | (simp; done) | (simp; omega) | (simp at *; omega)))) | (with_reducible refine Below.drew ?_) | (with_reducible refine below_drewN ?_ _) | ((with_reducible refine Below.trans ?_ (Below.mono (by with_reducible assumption) ?hsz)); (case hsz => (first | omega | (simp; done) | (simp; omega) | (simp at *; omega))))))
      have bx6 := bx5.keep hW
      have hB6 : Below w1.heap.size w1 w6 := hB5.trans (hW.mono hB5.size)
      have hL6 := hL5.keep hW
      clear hW hb6 hL5 d0 d1 g0 g1 hz6'
      obtain ⟨bs, d0, d1, g0, g1⟩ := id bx6
      have hap : ∀ x ∈ leavingL 4 ps i, x ∉ leavingL 4 ps (15 - i) := Hap.out
      have ht : leavingL 4 (ps.map turnP) i = leavingL 4 ps (15 - i) := HT.out
      obtain ⟨LA, lc, rfl, a1, a2, a3, -⟩ := hL6.form
      unfold maxLen at a2
      have has := Has.out
      generalize leavingL 4 ps i = xs at *
      generalize leavingL 4 ps (15 - i) = ys at *
      have Hap2 := Lib.hid hap
      have Ht2 := Lib.hid ht
      have Has2 := Lib.hid has
      clear hap ht has Hap HT Has
      go_wp2_with fail
      go_loopw [7] (fun t wr => ∃ k : Nat, k ≤ xs.length ∧ t = .int .i64 k ∧ Box2 wr w1.heap.size (.int .i64 4) (.slice A1 ps.length c1) ∧ Below w1.heap.size w1 wr ∧ Below w6.heap.size w6 wr) (fun t _ => xs.length - (intOf t).toNat)
      case atStart => exact ⟨0, by omega, rfl, bx6, hB6, Below.refl _ _⟩
      case round =>
        obtain ⟨k, hk, rfl, bx, hB, hb6⟩ := hrel
        clear d0 d1 g0 g1
        obtain ⟨bs, d0, d1, g0, g1⟩ := id bx
        by_cases hlt : k < xs.length
        · obtain ⟨ga, rfl, ga1, ga2, ca, -⟩ := (hL6.keep hb6).at' k hlt
          have hno : decide (xs[k] ∈ ys) = false := decide_eq_false (Hap2.out _ (List.getElem_mem hlt))
          go_wp2_with fail
          with_reducible refine (hasInt_any _ ys xs[k] _ _ (hO6.keep hb6)).mono ?_
          rintro e w7 ⟨rfl, hnn⟩
          have bx7 := (bx).keep hnn
          have hB7 : Below w1.heap.size w1 w7 := by (repeat (first | (with_reducible assumption) | (with_reducible exact Below.refl _ _) | ((with_reducible refine Below.alloc ?_ ?hsz _); (case hsz => (first | omega | (simp; done) | (simp; omega) | (simp at *; omega)))) | ((with_reducible refine Below.setCell ?_ ?hsz _); (case hsz => (first | omega | (simp; done) | (simp; omega) | (simp at *; omega)))) | (with_reducible refine Below.drew ?_) | (with_reducible refine below_drewN ?_ _) | ((with_reducible refine Below.trans ?_ (Below.mono (by with_reducible assumption) ?hsz)); (case hsz => (first | omega | (simp; done) | (simp; omega) | (simp at *; omega))))))
          have hb7 := (hb6).trans (hnn.mono (hb6).size)
          clear hnn
          (try clear d0 d1 g0 g1)
          obtain ⟨bs, d0, d1, g0, g1⟩ := id bx7
          rw [hno]
          go_wp2
          go_roundw
          case rel => exact ⟨k + 1, by omega, by go_num, bx7, hB7, hb7⟩
          case measure => simp [intOf]; omega
        · go_wp2_with fail
          with_reducible refine (ascend_any _ xs _ _ (hL6.keep hb6) Has2.out).mono ?_
          rintro e w7 ⟨rfl, hnn⟩
          have bx7 := (bx).keep hnn
          have hB7 : Below w1.heap.size w1 w7 := by (repeat (first | (with_reducible assumption) | (with_reducible exact Below.refl _ _) | ((with_reducible refine Below.alloc ?_ ?hsz _); (case hsz => (first | omega | (simp; done) | (simp; omega) | (simp at *; omega)))) | ((with_reducible refine Below.setCell ?_ ?hsz _); (case hsz => (first | omega | (simp; done) | (simp; omega) | (simp at *; omega)))) | (with_reducible refine Below.drew ?_) | (with_reducible refine below_drewN ?_ _) | ((with_reducible refine Below.trans ?_ (Below.mono (by with_reducible assumption) ?hsz)); (case hsz => (first | omega | (simp; done) | (simp; omega) | (simp at *; omega))))))
          have hb7 := (hb6).trans (hnn.mono (hb6).size)
          clear hnn
          (try clear d0 d1 g0 g1)
          obtain ⟨bs, d0, d1, g0, g1⟩ := id bx7
          have hok' := hok
          go_wp2_with fail
          with_reducible refine (turned_any 4 _ ps _ _ (hp.keep hB7)).mono ?_
          rintro e w8 ⟨sT, rfl, hq8, hnn⟩
          rw [(turn_yes hok).2] at hq8
          rw [(turn_yes hok).1]
          have bx8 := bx7.keep hnn
          have hB8 : Below w1.heap.size w1 w8 := by (repeat (first | (with_reducible assumption) | (with_reducible exact Below.refl _ _) | ((with_reducible refine Below.alloc ?_ ?hsz _); (case hsz => (first | omega | (simp; done) | (simp; omega) | (simp at *; omega)))) | ((with_reducible refine Below.setCell ?_ ?hsz _); (case hsz => (first | omega | (simp; done) | (simp; omega) | (simp at *; omega)))) | (with_reducible refine Below.drew ?_) | (with_reducible refine below_drewN ?_ _) | ((with_reducible refine Below.trans ?_ (Below.mono (by with_reducible assumption) ?hsz)); (case hsz => (first | omega | (simp; done) | (simp; omega) | (simp at *; omega))))))
          have hb8 := hb7.trans (hnn.mono hb7.size)
          clear hnn d0 d1 g0 g1
          obtain ⟨bs, d0, d1, g0, g1⟩ := id bx8
          go_wp2_with fail
          with_reducible refine (leavingOf_any 4 i _ (ps.map turnP) _ _ hq8).mono ?_
          rintro e w9 ⟨sU, rfl, hU9, hnn⟩
          rw [Ht2.out] at hU9
          have bx9 := bx8.keep hnn
          have hB9 : Below w1.heap.size w1 w9 := by (repeat (first | (with_reducible assumption) | (with_reducible exact Below.refl _ _) | ((with_reducible refine Below.alloc ?_ ?hsz _); (case hsz => (first | omega | (simp; done) | (simp; omega) | (simp at *; omega)))) | ((with_reducible refine Below.setCell ?_ ?hsz _); (case hsz => (first | omega | (simp; done) | (simp; omega) | (simp at *; omega)))) | (with_reducible refine Below.drew ?_) | (with_reducible refine below_drewN ?_ _) | ((with_reducible refine Below.trans ?_ (Below.mono (by with_reducible assumption) ?hsz)); (case hsz => (first | omega | (simp; done) | (simp; omega) | (simp at *; omega))))))
          have hb9 := hb8.trans (hnn.mono hb8.size)
          clear hnn d0 d1 g0 g1
          obtain ⟨bs, d0, d1, g0, g1⟩ := id bx9
          go_wp2_with fail
          with_reducible refine (sameInts_any _ _ ys ys _ _ _ hU9 (hO6.keep hb9)).mono ?_
          rintro e w10 ⟨rfl, hnn⟩
          have bx10 := (bx9).keep hnn
          have hB10 : Below w1.heap.size w1 w10 := by (repeat (first | (with_reducible assumption) | (with_reducible exact Below.refl _ _) | ((with_reducible refine Below.alloc ?_ ?hsz _); (case hsz => (first | omega | (simp; done) | (simp; omega) | (simp at *; omega)))) | ((with_reducible refine Below.setCell ?_ ?hsz _); (case hsz => (first | omega | (simp; done) | (simp; omega) | (simp at *; omega)))) | (with_reducible refine Below.drew ?_) | (with_reducible refine below_drewN ?_ _) | ((with_reducible refine Below.trans ?_ (Below.mono (by with_reducible assumption) ?hsz)); (case hsz => (first | omega | (simp; done) | (simp; omega) | (simp at *; omega))))))
          clear hnn
          (try clear d0 d1 g0 g1)
          obtain ⟨bs, d0, d1, g0, g1⟩ := id bx10
          have hdec : decide (ys = ys) = true := by simp
          rw [hdec]
          clear hdec
          go_wp2_with fail
          with_reducible refine (alive_any _).mono ?_
          rintro e w11 ⟨rfl, hnn⟩
          have bx11 := (bx10).keep hnn
          have hB11 : Below w1.heap.size w1 w11 := by (repeat (first | (with_reducible assumption) | (with_reducible exact Below.refl _ _) | ((with_reducible refine Below.alloc ?_ ?hsz _); (case hsz => (first | omega | (simp; done) | (simp; omega) | (simp at *; omega)))) | ((with_reducible refine Below.setCell ?_ ?hsz _); (case hsz => (first | omega | (simp; done) | (simp; omega) | (simp at *; omega)))) | (with_reducible refine Below.drew ?_) | (with_reducible refine below_drewN ?_ _) | ((with_reducible refine Below.trans ?_ (Below.mono (by with_reducible assumption) ?hsz)); (case hsz => (first | omega | (simp; done) | (simp; omega) | (simp at *; omega))))))
          clear hnn
          (try clear d0 d1 g0 g1)
          obtain ⟨bs, d0, d1, g0, g1⟩ := id bx11
          go_wp2
          (go_ret; exact ⟨rfl, hBw1.trans (Below.mono (by with_reducible assumption) hBw1.size)⟩)
    · have Hwr := Lib.hid (show IntKind.i64.wrap (IntKind.i64.wrap (IntKind.i64.wrap 32 - 1) - i) = 31 - i by simp only [IntKind.wrap_i64]; omega)
      go_wp2_with fail
      go_region_held3 (fun w' => w'.cell? ⟨w1.heap.size, 0, none⟩ = some (.int .i64 5) ∧ w'.cell? ⟨w1.heap.size, 1, none⟩ = some (.slice A1 ps.length c1))
        ((go_split_ands; (refine ⟨?_, ?_⟩ <;> first | (with_reducible assumption) | (with_reducible refine cell_drew ?_; with_reducible assumption) | (refine cell_keep ?_ (by with_reducible assumption); with_reducible assumption))))
        ((go_at_call 35; (with_reducible refine (leavingOf_any 5 _ _ ps _ _ (hp.keep (by (repeat (first | (with_reducible assumption) | (with_reducible exact Below.refl _ _) | ((with_reducible refine Below.alloc ?_ ?hsz _); (case hsz => (first | omega | (simp; done) | (simp; omega) | (simp at *; omega)))) | ((with_reducible refine Below.setCell ?_ ?hsz _); (case hsz => (first | omega | (simp; done) | (simp; omega) | (simp at *; omega)))) | (with_reducible refine Below.drew ?_) | (with_reducible refine below_drewN ?_ _) | ((with_reducible refine Below.trans ?_ (Below.mono (by with_reducible assumption) ?hsz)); (case hsz => (first | omega | (simp; done) | (simp; omega) | (simp at *; omega))))))))).mono ?_); rintro e w6 ⟨sO, rfl, hO6, hb6⟩; have hz6' := hb6.size))
      rw [Hwr.out] at hO6
      clear hs
      have hW : Below w5.heap.size w5 w6 := by (repeat (first | (with_reducible assumption) | (with_reducible exact Below.refl _ _) | ((with_reducible refine Below.alloc ?_ ?hsz _); (case hsz => (first | omega | (simp; done) | (simp; omega) | (simp at *; omega)))) | ((with_reducible refine Below.setCell ?_ ?hsz _); (case hsz => (first | omega | (simp; done) | (simp; omega) | (simp at *; omega)))) | (with_reducible refine Below.drew ?_) | (with_reducible refine below_drewN ?_ _) | ((with_reducible refine Below.trans ?_ (Below.mono (by with_reducible assumption) ?hsz)); (case hsz => (first | omega | (simp; done) | (simp; omega) | (simp at *; omega))))))
      have bx6 := bx5.keep hW
      have hB6 : Below w1.heap.size w1 w6 := hB5.trans (hW.mono hB5.size)
      have hL6 := hL5.keep hW
      clear hW hb6 hL5 d0 d1 g0 g1 hz6'
      obtain ⟨bs, d0, d1, g0, g1⟩ := id bx6
      have hap : ∀ x ∈ leavingL 5 ps i, x ∉ leavingL 5 ps (31 - i) := Hap.out
      have ht : leavingL 5 (ps.map turnP) i = leavingL 5 ps (31 - i) := HT.out
      obtain ⟨LA, lc, rfl, a1, a2, a3, -⟩ := hL6.form
      unfold maxLen at a2
      have has := Has.out
      generalize leavingL 5 ps i = xs at *
      generalize leavingL 5 ps (31 - i) = ys at *
      have Hap2 := Lib.hid hap
      have Ht2 := Lib.hid ht
      have Has2 := Lib.hid has
      clear hap ht has Hap HT Has
      go_wp2_with fail
      go_loopw [7] (fun t wr => ∃ k : Nat, k ≤ xs.length ∧ t = .int .i64 k ∧ Box2 wr w1.heap.size (.int .i64 5) (.slice A1 ps.length c1) ∧ Below w1.heap.size w1 wr ∧ Below w6.heap.size w6 wr) (fun t _ => xs.length - (intOf t).toNat)
      case atStart => exact ⟨0, by omega, rfl, bx6, hB6, Below.refl _ _⟩
      case round =>
        obtain ⟨k, hk, rfl, bx, hB, hb6⟩ := hrel
        clear d0 d1 g0 g1
        obtain ⟨bs, d0, d1, g0, g1⟩ := id bx
        by_cases hlt : k < xs.length
        · obtain ⟨ga, rfl, ga1, ga2, ca, -⟩ := (hL6.keep hb6).at' k hlt
          have hno : decide (xs[k] ∈ ys) = false := decide_eq_false (Hap2.out _ (List.getElem_mem hlt))
          go_wp2_with fail
          with_reducible refine (hasInt_any _ ys xs[k] _ _ (hO6.keep hb6)).mono ?_
          rintro e w7 ⟨rfl, hnn⟩
          have bx7 := (bx).keep hnn
          have hB7 : Below w1.heap.size w1 w7 := by (repeat (first | (with_reducible assumption) | (with_reducible exact Below.refl _ _) | ((with_reducible refine Below.alloc ?_ ?hsz _); (case hsz => (first | omega | (simp; done) | (simp; omega) | (simp at *; omega)))) | ((with_reducible refine Below.setCell ?_ ?hsz _); (case hsz => (first | omega | (simp; done) | (simp; omega) | (simp at *; omega)))) | (with_reducible refine Below.drew ?_) | (with_reducible refine below_drewN ?_ _) | ((with_reducible refine Below.trans ?_ (Below.mono (by with_reducible assumption) ?hsz)); (case hsz => (first | omega | (simp; done) | (simp; omega) | (simp at *; omega))))))
          have hb7 := (hb6).trans (hnn.mono (hb6).size)
          clear hnn
          (try clear d0 d1 g0 g1)
          obtain ⟨bs, d0, d1, g0, g1⟩ := id bx7
          rw [hno]
          go_wp2
          go_roundw
          case rel => exact ⟨k + 1, by omega, by go_num, bx7, hB7, hb7⟩
          case measure => simp [intOf]; omega
        · go_wp2_with fail
          with_reducible refine (ascend_any _ xs _ _ (hL6.keep hb6) Has2.out).mono ?_
          rintro e w7 ⟨rfl, hnn⟩
          have bx7 := (bx).keep hnn
          have hB7 : Below w1.heap.size w1 w7 := by (repeat (first | (with_reducible assumption) | (with_reducible exact Below.refl _ _) | ((with_reducible refine Below.alloc ?_ ?hsz _); (case hsz => (first | omega | (simp; done) | (simp; omega) | (simp at *; omega)))) | ((with_reducible refine Below.setCell ?_ ?hsz _); (case hsz => (first | omega | (simp; done) | (simp; omega) | (simp at *; omega)))) | (with_reducible refine Below.drew ?_) | (with_reducible refine below_drewN ?_ _) | ((with_reducible refine Below.trans ?_ (Below.mono (by with_reducible assumption) ?hsz)); (case hsz => (first | omega | (simp; done) | (simp; omega) | (simp at *; omega))))))
          have hb7 := (hb6).trans (hnn.mono (hb6).size)
          clear hnn
          (try clear d0 d1 g0 g1)
          obtain ⟨bs, d0, d1, g0, g1⟩ := id bx7
          have hok' := hok
          go_wp2_with fail
          with_reducible refine (turned_any 5 _ ps _ _ (hp.keep hB7)).mono ?_
          rintro e w8 ⟨sT, rfl, hq8, hnn⟩
          rw [(turn_yes hok).2] at hq8
          rw [(turn_yes hok).1]
          have bx8 := bx7.keep hnn
          have hB8 : Below w1.heap.size w1 w8 := by (repeat (first | (with_reducible assumption) | (with_reducible exact Below.refl _ _) | ((with_reducible refine Below.alloc ?_ ?hsz _); (case hsz => (first | omega | (simp; done) | (simp; omega) | (simp at *; omega)))) | ((with_reducible refine Below.setCell ?_ ?hsz _); (case hsz => (first | omega | (simp; done) | (simp; omega) | (simp at *; omega)))) | (with_reducible refine Below.drew ?_) | (with_reducible refine below_drewN ?_ _) | ((with_reducible refine Below.trans ?_ (Below.mono (by with_reducible assumption) ?hsz)); (case hsz => (first | omega | (simp; done) | (simp; omega) | (simp at *; omega))))))
          have hb8 := hb7.trans (hnn.mono hb7.size)
          clear hnn d0 d1 g0 g1
          obtain ⟨bs, d0, d1, g0, g1⟩ := id bx8
          go_wp2_with fail
          with_reducible refine (leavingOf_any 5 i _ (ps.map turnP) _ _ hq8).mono ?_
          rintro e w9 ⟨sU, rfl, hU9, hnn⟩
          rw [Ht2.out] at hU9
          have bx9 := bx8.keep hnn
          have hB9 : Below w1.heap.size w1 w9 := by (repeat (first | (with_reducible assumption) | (with_reducible exact Below.refl _ _) | ((with_reducible refine Below.alloc ?_ ?hsz _); (case hsz => (first | omega | (simp; done) | (simp; omega) | (simp at *; omega)))) | ((with_reducible refine Below.setCell ?_ ?hsz _); (case hsz => (first | omega | (simp; done) | (simp; omega) | (simp at *; omega)))) | (with_reducible refine Below.drew ?_) | (with_reducible refine below_drewN ?_ _) | ((with_reducible refine Below.trans ?_ (Below.mono (by with_reducible assumption) ?hsz)); (case hsz => (first | omega | (simp; done) | (simp; omega) | (simp at *; omega))))))
          have hb9 := hb8.trans (hnn.mono hb8.size)
          clear hnn d0 d1 g0 g1
          obtain ⟨bs, d0, d1, g0, g1⟩ := id bx9
          go_wp2_with fail
          with_reducible refine (sameInts_any _ _ ys ys _ _ _ hU9 (hO6.keep hb9)).mono ?_
          rintro e w10 ⟨rfl, hnn⟩
          have bx10 := (bx9).keep hnn
          have hB10 : Below w1.heap.size w1 w10 := by (repeat (first | (with_reducible assumption) | (with_reducible exact Below.refl _ _) | ((with_reducible refine Below.alloc ?_ ?hsz _); (case hsz => (first | omega | (simp; done) | (simp; omega) | (simp at *; omega)))) | ((with_reducible refine Below.setCell ?_ ?hsz _); (case hsz => (first | omega | (simp; done) | (simp; omega) | (simp at *; omega)))) | (with_reducible refine Below.drew ?_) | (with_reducible refine below_drewN ?_ _) | ((with_reducible refine Below.trans ?_ (Below.mono (by with_reducible assumption) ?hsz)); (case hsz => (first | omega | (simp; done) | (simp; omega) | (simp at *; omega))))))
          clear hnn
          (try clear d0 d1 g0 g1)
          obtain ⟨bs, d0, d1, g0, g1⟩ := id bx10
          have hdec : decide (ys = ys) = true := by simp
          rw [hdec]
          clear hdec
          go_wp2_with fail
          with_reducible refine (alive_any _).mono ?_
          rintro e w11 ⟨rfl, hnn⟩
          have bx11 := (bx10).keep hnn
          have hB11 : Below w1.heap.size w1 w11 := by (repeat (first | (with_reducible assumption) | (with_reducible exact Below.refl _ _) | ((with_reducible refine Below.alloc ?_ ?hsz _); (case hsz => (first | omega | (simp; done) | (simp; omega) | (simp at *; omega)))) | ((with_reducible refine Below.setCell ?_ ?hsz _); (case hsz => (first | omega | (simp; done) | (simp; omega) | (simp at *; omega)))) | (with_reducible refine Below.drew ?_) | (with_reducible refine below_drewN ?_ _) | ((with_reducible refine Below.trans ?_ (Below.mono (by with_reducible assumption) ?hsz)); (case hsz => (first | omega | (simp; done) | (simp; omega) | (simp at *; omega))))))
          clear hnn
          (try clear d0 d1 g0 g1)
          obtain ⟨bs, d0, d1, g0, g1⟩ := id bx11
          go_wp2
          (go_ret; exact ⟨rfl, hBw1.trans (Below.mono (by with_reducible assumption) hBw1.size)⟩)
  · have hs' : sideB z ps i = false := by simpa using hs
    rw [leaving_no hs'] at hL5
    obtain ⟨LA, lc, rfl, -, -, -, -⟩ := hL5.form
    go_wp2_with fail
    with_reducible refine (alive_any _).mono ?_
    rintro e w6 ⟨rfl, hnn⟩
    have bx6 := (bx5).keep hnn
    have hB6 : Below w1.heap.size w1 w6 := by (repeat (first | (with_reducible assumption) | (with_reducible exact Below.refl _ _) | ((with_reducible refine Below.alloc ?_ ?hsz _); (case hsz => (first | omega | (simp; done) | (simp; omega) | (simp at *; omega)))) | ((with_reducible refine Below.setCell ?_ ?hsz _); (case hsz => (first | omega | (simp; done) | (simp; omega) | (simp at *; omega)))) | (with_reducible refine Below.drew ?_) | (with_reducible refine below_drewN ?_ _) | ((with_reducible refine Below.trans ?_ (Below.mono (by with_reducible assumption) ?hsz)); (case hsz => (first | omega | (simp; done) | (simp; omega) | (simp at *; omega))))))
    clear hnn
    (try clear d0 d1 g0 g1)
    obtain ⟨bs, d0, d1, g0, g1⟩ := id bx6
    go_wp2
    (go_ret; exact ⟨rfl, hBw1.trans (Below.mono (by with_reducible assumption) hBw1.size)⟩)

set_option maxRecDepth 100000 in
theorem contract (H : Type) (enc : TypeId × Value → H) (W : World) (base : Nat) (args : Array Value) (ds gs : List (DataW H)) (before : List MemPlace)
    (hval : ∀ (j : Nat) t v, Try.f8.params[j]? = some t → args[j]? = some v → Value.okWide Try.prog W .any base t v)
    (hW : DataW.Whole enc Try.prog Try.f8.params.toList Rows.fnLeavingOfSpec.vars false W args.toList ds gs before) :
    Calls Try.prog 8 args W fun e W' => ∃ v, e = .returned v ∧ Rows.fnLeavingOfSpec.post enc Try.prog Try.f8 false true false false W args v W' := by
  have hW' := hW
  obtain ⟨p, q, hA0, hV, rfl, hfz, hnd⟩ := hW
  have hA : DataW.TrodAll enc Try.prog W 0 (fun _ => true) true Try.f8.params.toList args.toList ds p := hA0
  rw [Try.params8] at hA hval
  obtain ⟨u0, us0, d0, ds0, p0, q0, hargs, rfl, rfl, g0, k0⟩ := trodAll_cons hA
  obtain ⟨rfl, rfl, rfl⟩ := trodAll_nil k0
  obtain rfl : args = #[u0] := by cases args; simp_all
  obtain ⟨rfl, rfl⟩ := trodVars_none hV
  obtain ⟨m0, e0⟩ := g0
  obtain ⟨s0, l0, f0, hh0⟩ := open_arg_bytes e0
  have f0' := one_of_cells Try.underlying34 (hval 0 _ _ rfl rfl) f0
  subst f0'
  refine (walk _ l0 W hh0).mono fun e W' ⟨he, hb⟩ => ?_
  subst he
  exact ⟨_, rfl, law_post Try.kids Try.full (by rw [Try.params8]; decide) rfl rfl Try.underlying4 hW' rfl rfl rfl hb⟩

set_option maxRecDepth 100000 in
theorem lifted (os : Os) (started : os.Started) (H : Type) (enc : TypeId × Value → H) :
    ReturnsInHanded {} Try.checked os 8 .any (Rows.fnLeavingOfSpec.pre6 enc Try.prog Try.f8 Rows.fnLeavingOfRow.domain false) (Rows.fnLeavingOfSpec.post enc Try.prog Try.f8 false true false false) := by
  refine returnsInHanded_of_change (C := Try.checked) Try.own started (by kernel_rfl) Try.func8
    (ChangeSpec.witness6 (enc := enc) (C := Try.checked) false ⟨#[], #[.slice none 0 0], []⟩ 8 (by kernel_rfl) (by kernel_rfl) (by kernel_rfl) (by kernel_rfl)) ?_
  intro W base args ds gs before hval0 hW _ _
  exact contract H enc W base args ds gs before hval0 hW

theorem proved : Rows.FnLeavingOfSaid :=
  OpenClaim.holds_of_wide 8 Try.f8 rfl rfl rfl rfl rfl rfl rfl ⟨rfl, rfl, rfl, rfl, rfl⟩ rfl rfl rfl rfl rfl (by kernel_rfl) Try.func8 (by kernel_rfl)
    (of_decide_eq_true (by kernel_rfl)) (by unfold Func.isWrapper; first | (rw [if_pos (by decide +kernel)]; kernel_rfl) | (rw [if_neg (by decide +kernel)]; exact ⟨rfl, rfl⟩))
    (fun os started H enc _ => lifted os started H enc)

end Go.Proofs.Ytlebamdgcfhdaaa.lawLeavingOf
