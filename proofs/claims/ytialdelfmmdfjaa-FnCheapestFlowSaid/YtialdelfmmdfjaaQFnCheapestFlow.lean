/- FnCheapestFlow: for every code the law holds: the program's CheapestFlow answers as its model; no ring gains in it, and it has prices that are right; all pipes hold it; and of at most 4 pipes no flow that all pipes hold with the same excesses costs less. No condition. -/
import Derived.Test.YtialdelfmmdfjaaL2
import Derived.Test.YtialdelfmmdfjaaGC
import Derived.Test.YtialdelfmmdfjaaDI
import Derived.Test.YtialdelfmmdfjaaK8
import Derived.Test.YtialdelfmmdfjaaGH
import Derived.Test.YtialdelfmmdfjaaGI
import Derived.Test.YtialdelfmmdfjaaMG
namespace Go.Proofs.Ytialdelfmmdfjaa.lawCheapestFlow
open Go.ChangeShapes Go.WideShapes Go.ChangeAt Go.RowKit Go.Deep Go.Joins

set_option maxRecDepth 20000 in
set_option maxHeartbeats 16000000 in
set_option maxRecDepth 20000 in
theorem walk (v : Value) (n : Nat) (w : World) (h : ArgBytes w v n) :
    Calls Try.prog 5 #[v] w fun e w' => e = .returned (.bool true) ∧ Below w.heap.size w w' := by
  obtain ⟨A, c, rfl, hc1, hc2, -⟩ := id h
  unfold maxLen at hc2
  by_cases hbig : 1048576 < n
  · go_enter Try.func5, Try.ntmps5
    go_wp2
    go_ret
    exact ⟨rfl, by (repeat (first | (with_reducible assumption) | (with_reducible exact Below.refl _ _) | ((with_reducible refine Below.alloc ?_ ?hsz _); (case hsz => (first | omega | (simp; done) | (simp; omega) | (simp at *; omega)))) | ((with_reducible refine Below.setCell ?_ ?hsz _); (case hsz => (first | omega | (simp; done) | (simp; omega) | (simp at *; omega)))) | (with_reducible refine Below.drew ?_) | (with_reducible refine below_drewN ?_ _) | ((with_reducible refine Below.trans ?_ (Below.mono (by with_reducible assumption) ?hsz)); (case hsz => (first | omega | (simp; done) | (simp; omega) | (simp at *; omega))))))⟩
  go_enter Try.func5, Try.ntmps5
  go_wp2_with fail
  with_reducible refine (drawCheapestFlow_any _ n _ (h.keep (by (repeat (first | (with_reducible assumption) | (with_reducible exact Below.refl _ _) | ((with_reducible refine Below.alloc ?_ ?hsz _); (case hsz => (first | omega | (simp; done) | (simp; omega) | (simp at *; omega)))) | ((with_reducible refine Below.setCell ?_ ?hsz _); (case hsz => (first | omega | (simp; done) | (simp; omega) | (simp at *; omega)))) | (with_reducible refine Below.drew ?_) | (with_reducible refine below_drewN ?_ _) | ((with_reducible refine Below.trans ?_ (Below.mono (by with_reducible assumption) ?hsz)); (case hsz => (first | omega | (simp; done) | (simp; omega) | (simp at *; omega))))))))).mono ?_
  rintro e w1 ⟨z, ps, u, xs, t, rfl, hp, hx, hb1, hl8, hz1, hz6⟩
  have hBw1 : Below w.heap.size w w1 := by (repeat (first | (with_reducible assumption) | (with_reducible exact Below.refl _ _) | ((with_reducible refine Below.alloc ?_ ?hsz _); (case hsz => (first | omega | (simp; done) | (simp; omega) | (simp at *; omega)))) | ((with_reducible refine Below.setCell ?_ ?hsz _); (case hsz => (first | omega | (simp; done) | (simp; omega) | (simp at *; omega)))) | (with_reducible refine Below.drew ?_) | (with_reducible refine below_drewN ?_ _) | ((with_reducible refine Below.trans ?_ (Below.mono (by with_reducible assumption) ?hsz)); (case hsz => (first | omega | (simp; done) | (simp; omega) | (simp at *; omega))))))
  clear h hc1 hc2 hbig
  obtain ⟨A1, c1, rfl, hk1, hk2, hsm, -⟩ := hp.form
  unfold maxLen at hk2
  have bx1 : Box2 (w1.alloc (.cells #[.int .i64 z, .slice A1 ps.length c1] 25)) w1.heap.size (.int .i64 z) (.slice A1 ps.length c1) := Box2.new _ _ _ _
  have hB1 : Below w1.heap.size w1 (w1.alloc (.cells #[.int .i64 z, .slice A1 ps.length c1] 25)) := by (repeat (first | (with_reducible assumption) | (with_reducible exact Below.refl _ _) | ((with_reducible refine Below.alloc ?_ ?hsz _); (case hsz => (first | omega | (simp; done) | (simp; omega) | (simp at *; omega)))) | ((with_reducible refine Below.setCell ?_ ?hsz _); (case hsz => (first | omega | (simp; done) | (simp; omega) | (simp at *; omega)))) | (with_reducible refine Below.drew ?_) | (with_reducible refine below_drewN ?_ _) | ((with_reducible refine Below.trans ?_ (Below.mono (by with_reducible assumption) ?hsz)); (case hsz => (first | omega | (simp; done) | (simp; omega) | (simp at *; omega))))))
  obtain ⟨cn, hcn⟩ : ∃ cn, cn = c1 := ⟨_, rfl⟩
  subst hcn
  obtain ⟨j0, hj0, hy0, hy1, hy2⟩ := info_parts int_info
  go_wp2_with fail
  with_reducible refine (cheapest_any z _ _ ps xs _ _ _ (hp.keep hB1) (hx.keep hB1)).mono ?_
  rintro e w2 ⟨r2, rfl, hr2, hnn⟩
  have bx2 := bx1.keep hnn
  have hB2 : Below w1.heap.size w1 w2 := by (repeat (first | (with_reducible assumption) | (with_reducible exact Below.refl _ _) | ((with_reducible refine Below.alloc ?_ ?hsz _); (case hsz => (first | omega | (simp; done) | (simp; omega) | (simp at *; omega)))) | ((with_reducible refine Below.setCell ?_ ?hsz _); (case hsz => (first | omega | (simp; done) | (simp; omega) | (simp at *; omega)))) | (with_reducible refine Below.drew ?_) | (with_reducible refine below_drewN ?_ _) | ((with_reducible refine Below.trans ?_ (Below.mono (by with_reducible assumption) ?hsz)); (case hsz => (first | omega | (simp; done) | (simp; omega) | (simp at *; omega))))))
  clear hnn
  obtain ⟨bs, d0, d1, g0, g1⟩ := id bx2
  go_wp2_with fail
  with_reducible refine (specCheapest_any z _ _ ps xs _ _ _ (hp.keep hB2) (hx.keep hB2)).mono ?_
  rintro e w3 ⟨r3, rfl, hr3, hnn⟩
  have bx3 := bx2.keep hnn
  have hB3 : Below w1.heap.size w1 w3 := by (repeat (first | (with_reducible assumption) | (with_reducible exact Below.refl _ _) | ((with_reducible refine Below.alloc ?_ ?hsz _); (case hsz => (first | omega | (simp; done) | (simp; omega) | (simp at *; omega)))) | ((with_reducible refine Below.setCell ?_ ?hsz _); (case hsz => (first | omega | (simp; done) | (simp; omega) | (simp at *; omega)))) | (with_reducible refine Below.drew ?_) | (with_reducible refine below_drewN ?_ _) | ((with_reducible refine Below.trans ?_ (Below.mono (by with_reducible assumption) ?hsz)); (case hsz => (first | omega | (simp; done) | (simp; omega) | (simp at *; omega))))))
  have hr23 := hr2.keep hnn
  clear hnn hr2 d0 d1 g0 g1
  obtain ⟨bs, d0, d1, g0, g1⟩ := id bx3
  obtain ⟨A2, c2, rfl, q1, q2, q3, -⟩ := hr23.form
  obtain ⟨A3, c3, rfl, -, -, -, -⟩ := hr3.form
  unfold maxLen at q2
  go_wp2_with fail
  with_reducible refine (sameInts_any _ _ (chpstR z ps xs) (chpstR z ps xs) _ _ _ hr23 hr3).mono ?_
  rintro e w4 ⟨rfl, hnn⟩
  have bx4 := bx3.keep hnn
  have hr24 := hr23.keep hnn
  have hB4 : Below w1.heap.size w1 w4 := by (repeat (first | (with_reducible assumption) | (with_reducible exact Below.refl _ _) | ((with_reducible refine Below.alloc ?_ ?hsz _); (case hsz => (first | omega | (simp; done) | (simp; omega) | (simp at *; omega)))) | ((with_reducible refine Below.setCell ?_ ?hsz _); (case hsz => (first | omega | (simp; done) | (simp; omega) | (simp at *; omega)))) | (with_reducible refine Below.drew ?_) | (with_reducible refine below_drewN ?_ _) | ((with_reducible refine Below.trans ?_ (Below.mono (by with_reducible assumption) ?hsz)); (case hsz => (first | omega | (simp; done) | (simp; omega) | (simp at *; omega))))))
  clear hnn d0 d1 g0 g1 hr23 hr3
  obtain ⟨bs, d0, d1, g0, g1⟩ := id bx4
  have hdec : decide (chpstR z ps xs = chpstR z ps xs) = true := by simp
  rw [hdec]
  clear hdec
  cases hh : holdsB z ps xs
  · have h0 : (chpstR z ps xs).length = 0 := by rw [chpst_no hh]; rfl
    rw [h0]
    go_wp2_with fail
    with_reducible refine (alive_any _).mono ?_
    rintro e w6 ⟨rfl, hnn⟩
    have bx6 := (bx4).keep hnn
    have hB6 : Below w1.heap.size w1 w6 := by (repeat (first | (with_reducible assumption) | (with_reducible exact Below.refl _ _) | ((with_reducible refine Below.alloc ?_ ?hsz _); (case hsz => (first | omega | (simp; done) | (simp; omega) | (simp at *; omega)))) | ((with_reducible refine Below.setCell ?_ ?hsz _); (case hsz => (first | omega | (simp; done) | (simp; omega) | (simp at *; omega)))) | (with_reducible refine Below.drew ?_) | (with_reducible refine below_drewN ?_ _) | ((with_reducible refine Below.trans ?_ (Below.mono (by with_reducible assumption) ?hsz)); (case hsz => (first | omega | (simp; done) | (simp; omega) | (simp at *; omega))))))
    clear hnn
    (try clear d0 d1 g0 g1)
    obtain ⟨bs, d0, d1, g0, g1⟩ := id bx6
    go_wp2
    (go_ret; exact ⟨rfl, hBw1.trans (Below.mono (by with_reducible assumption) hBw1.size)⟩)
  · obtain ⟨hY1, hY2, hY3⟩ := chpst_ok hh
    have hn := holds_net hh
    obtain ⟨n2, n5, hl7, hpo⟩ := netOk_parts hn
    have hfx := (holds_parts hh).1
    have hpY : pricedB z ps (chpstR z ps xs) = true := by simp [pricedB, hY1, hY3]
    have hpr := priced_right hpY
    have hQs : smallP (priceR z ps (chpstR z ps xs)) := fun v => by have := price_small z ps (chpstR z ps xs) v; omega
    have hcY := costR_yes (holds_parts hY1).1
    have HH := Lib.hid (And.intro hY1 (And.intro hY2 (And.intro hfx (And.intro hpr (And.intro hQs hcY)))))
    have HG := Lib.hid (And.intro hY3 hpY)
    clear hY1 hY2 hY3 hn hpo hfx hpY hpr hQs hcY hh
    generalize hYe : chpstR z ps xs = Y at *
    clear hYe
    obtain ⟨LY, hLY⟩ : ∃ L, Y.length = L := ⟨_, rfl⟩
    rw [hLY] at q1 q3 hr24 ⊢
    clear hLY
    go_wp2_with fail
    with_reducible refine (gainOf_any z _ _ ps Y _ _ _ (hp.keep hB4) hr24).mono ?_
    rintro e w5 ⟨r5, rfl, hr5, hnn⟩
    have bx5 := bx4.keep hnn
    have hB5 : Below w1.heap.size w1 w5 := hB4.trans (hnn.mono hB4.size)
    have hr25 := hr24.keep hnn
    rw [HG.out.1]
    obtain ⟨A5, c5, rfl, -, -, -, -⟩ := hr5.form
    obtain ⟨L5, hL5⟩ : ∃ L, (gainI z ps Y).length = L := ⟨_, rfl⟩
    rw [hL5]
    clear hL5 hr5 hnn d0 d1 g0 g1 bs bx4 hr24
    obtain ⟨bs, d0, d1, g0, g1⟩ := id bx5
    go_wp2_with fail
    with_reducible refine (pricesFor_any z _ _ ps Y _ _ _ (hp.keep hB5) hr25).mono ?_
    rintro e w6 ⟨r6, rfl, hr6, hnn⟩
    have bx6 := bx5.keep hnn
    have hB6 : Below w1.heap.size w1 w6 := hB5.trans (hnn.mono hB5.size)
    have hr26 := hr25.keep hnn
    rw [HG.out.2]
    clear hnn d0 d1 g0 g1 bs bx5 hr25
    obtain ⟨bs, d0, d1, g0, g1⟩ := id bx6
    obtain ⟨A6, c6, rfl, -, -, -, -⟩ := hr6.form
    generalize hQ : priceR z ps Y = Q at *
    clear hQ
    obtain ⟨LQ, hLQ⟩ : ∃ L, Q.length = L := ⟨_, rfl⟩
    rw [hLQ] at hr6 ⊢
    clear hLQ
    go_wp2_with fail
    with_reducible refine (costOf_any z _ _ ps Y _ _ _ (hp.keep hB6) hr26).mono ?_
    rintro e w7 ⟨rfl, hnn⟩
    have bx7 := bx6.keep hnn
    have hB7 : Below w1.heap.size w1 w7 := hB6.trans (hnn.mono hB6.size)
    have hr27 := hr26.keep hnn
    have hq7 := hr6.keep hnn
    rw [HH.out.2.2.2.2.2]
    clear hnn d0 d1 g0 g1 bs bx6 hr26 hr6
    obtain ⟨bs, d0, d1, g0, g1⟩ := id bx7
    go_wp2_with fail
    with_reducible refine (pricesOk_any z _ _ _ ps Y Q _ _ _ _ (hp.keep hB7) hr27 hq7 HH.out.2.2.2.2.1).mono ?_
    rintro e w8 ⟨rfl, hnn⟩
    have bx8 := bx7.keep hnn
    have hB8 : Below w1.heap.size w1 w8 := hB7.trans (hnn.mono hB7.size)
    have hr28 := hr27.keep hnn
    rw [HH.out.2.2.2.1]
    clear hnn d0 d1 g0 g1 bs bx7 hr27 hq7
    obtain ⟨bs, d0, d1, g0, g1⟩ := id bx8
    have HR8 := Lib.hid hr28
    have HLC := Lib.hid (fun ys (hy : holdsB z ps ys = true) he => least_cost (n := z) (ps := ps) (xs := Y) (ys := ys) (P := Q) HH.out.2.2.2.1 hy he)
    clear hr28
    generalize hC : costS ps Y = C at *
    clear hC
    go_wp2_with fail
    go_loopw [16, 15] (fun a b wr => ∃ k A : Nat, k ≤ ps.length ∧ a = .int .i64 (k : Int) ∧ b = .int .i64 (A : Int) ∧ A ≤ 5 ^ k ∧ Box2 wr w1.heap.size (.int .i64 z) (.slice A1 ps.length cn) ∧ Below w1.heap.size w1 wr ∧ Below w8.heap.size w8 wr) (fun a _ _ => ps.length - (intOf a).toNat)
    case atStart => exact ⟨0, 1, by omega, rfl, rfl, by omega, bx8, hB8, Below.refl _ _⟩
    case round =>
      obtain ⟨k, A, hk, rfl, rfl, hA, bx, hB, hb8⟩ := hrel
      clear d0 d1 g0 g1 bs bx8
      obtain ⟨bs, d0, d1, g0, g1⟩ := id bx
      have hA7 : A ≤ 78125 := Nat.le_trans hA (Nat.le_trans (Nat.pow_le_pow_right (by omega) (show k ≤ 7 by omega)) (by decide))
      have HA := Lib.hid (show A * 5 ≤ 5 ^ (k + 1) by rw [Nat.pow_succ]; omega)
      clear hA
      by_cases hlt : k < ps.length
      · have hw1 : IntKind.i64.wrap ((A : Int) * 5) = ((A * 5 : Nat) : Int) := by rw [IntWalk.i64_in _ (by omega)]; omega
        have hw2 : RowKit.wrap64 ((A : Int) * 5) = ((A * 5 : Nat) : Int) := by rw [IntWalk.wrap64_in _ (by omega)]; omega
        go_wp2
        go_roundw
        case rel => exact ⟨k + 1, A * 5, by omega, by go_num, by first | rfl | exact congrArg (Value.int .i64) (by omega), HA.out, bx, hB, hb8⟩
        case measure => simp [intOf]; omega
      · have hfin : decide (k < ps.length) = false := decide_eq_false hlt
        have hfin2 : decide ((k : Int) < ps.length) = false := decide_eq_false (by omega)
        clear hlt HA hk
        go_wp2
        clear hfin hfin2
        go_loopw [17] (fun a wr => ∃ m : Nat, m ≤ A ∧ a = .int .i64 (m : Int) ∧ Box2 wr w1.heap.size (.int .i64 z) (.slice A1 ps.length cn) ∧ Below w1.heap.size w1 wr ∧ Below w8.heap.size w8 wr) (fun a _ => A - (intOf a).toNat)
        case atStart => exact ⟨0, by omega, rfl, bx, hB, hb8⟩
        case round =>
          obtain ⟨m, hm, rfl, bx, hB, hb8⟩ := hrel
          clear d0 d1 g0 g1 bs
          obtain ⟨bs, d0, d1, g0, g1⟩ := id bx
          obtain ⟨W9, hW9⟩ : ∃ W, W = wr := ⟨_, rfl⟩
          subst hW9
          have hz9 := hB.size
          have hw19 : w1.heap.size < W9.heap.size := bx.1
          by_cases hgo : m < A ∧ ps.length ≤ 4
          · obtain ⟨hmA, h4⟩ := hgo
            have hR0 : Row (W9.alloc (.cells #[] 3)) W9.heap.size W9.heap.size 0 0 [] :=
              ⟨World.ownsRow_lit (e := 3) (base := W9.heap.size) (size := 1) W9 #[] 0 (Nat.le_refl _) (by simp [maxLen]) rfl, by simp [small]⟩
            have hd4 : decide ((ps.length : Int) ≤ 4) = true := decide_eq_true (by omega)
            have hd5 : decide (ps.length ≤ 4) = true := decide_eq_true (by omega)
            clear h4
            go_wp2
            clear hd4 hd5
            go_loopw [20, 18, 19] (fun a b c wr => ∃ (k g1 c1 : Nat) (ys : List Int) (q : Int), k ≤ ps.length ∧ a = .int .i64 (k : Int) ∧ b = .slice (some ⟨g1, 0, none⟩) k c1 ∧ c = .int .i64 q ∧ 0 ≤ q ∧ q ≤ 78125 ∧ Row wr W9.heap.size g1 k c1 ys ∧ Below W9.heap.size W9 wr) (fun a _ _ _ => ps.length - (intOf a).toNat)
            case atStart => exact ⟨0, W9.heap.size, 0, [], (m : Int), by omega, rfl, rfl, rfl, by omega, by omega, hR0, by (repeat (first | (with_reducible assumption) | (with_reducible exact Below.refl _ _) | ((with_reducible refine Below.alloc ?_ ?hsz _); (case hsz => (first | omega | (simp; done) | (simp; omega) | (simp at *; omega)))) | ((with_reducible refine Below.setCell ?_ ?hsz _); (case hsz => (first | omega | (simp; done) | (simp; omega) | (simp at *; omega)))) | (with_reducible refine Below.drew ?_) | (with_reducible refine below_drewN ?_ _) | ((with_reducible refine Below.trans ?_ (Below.mono (by with_reducible assumption) ?hsz)); (case hsz => (first | omega | (simp; done) | (simp; omega) | (simp at *; omega))))))⟩
            case round =>
              obtain ⟨k, gr, cr, ys, q, hk, rfl, rfl, rfl, hq0, hq1, hR, hb9⟩ := hrel
              clear hR0 d0 d1 g0 g1 bs
              have bx9 := bx.keep hb9
              obtain ⟨bs, d0, d1, g0, g1⟩ := id bx9
              have hgl := hR.lt
              have hzr := hb9.size
              by_cases hltk : k < ps.length
              · have hown := hR.1
                have hcap := hR.capd
                unfold maxLen at hcap
                have hrow : ∀ q, (Value.slice (some ⟨gr, 0, none⟩) k cr).ownBlock = some q → W9.heap.size ≤ q := fun q hq => (hown.lt q hq).1
                have ht : q.tdiv 5 = q / 5 := Int.tdiv_eq_ediv_of_nonneg hq0
                have hm5 : q.tmod 5 = q % 5 := Int.tmod_eq_emod_of_nonneg hq0
                have hw1 : IntKind.i64.wrap (q / 5) = q / 5 := IntWalk.i64_in _ (by omega)
                have hw2 : IntKind.i64.wrap (q % 5) = q % 5 := IntWalk.i64_in _ (by omega)
                go_wp2_with (first
                  | (at_builtin
                     go_must (refine wpList_append_lies _ rfl _ _ 26 rfl W9.heap.size 3 j0 _ 1 8 Try.underlying26 hj0 hy0 hy1 hy2 rfl (by omega) _ k _ rfl (hown.alloc _) ⟨wr.heap.size, 0, none⟩ 1 1 [.int .i64 (q % 5)] rfl rfl (World.news_of_block (cs := #[.int .i64 (q % 5)]) (t := 3) (fr := (0, 0)) (heap_alloc_new _ _)) (by simp [Value.oneCell']) (by omega) (by unfold maxLen; omega) (by omega) (by (first | omega | (simp; done) | (simp; omega) | (simp at *; omega))) _ rfl ?_)
                     intro g2 k2 w7' hown7 hgr7 hat7 hlt7))
                have hb97 : Below W9.heap.size W9 w7' := Below.grown (w := wr.alloc (.cells #[.int .i64 (q % 5)] 3)) (by (repeat (first | (with_reducible assumption) | (with_reducible exact Below.refl _ _) | ((with_reducible refine Below.alloc ?_ ?hsz _); (case hsz => (first | omega | (simp; done) | (simp; omega) | (simp at *; omega)))) | ((with_reducible refine Below.setCell ?_ ?hsz _); (case hsz => (first | omega | (simp; done) | (simp; omega) | (simp at *; omega)))) | (with_reducible refine Below.drew ?_) | (with_reducible refine below_drewN ?_ _) | ((with_reducible refine Below.trans ?_ (Below.mono (by with_reducible assumption) ?hsz)); (case hsz => (first | omega | (simp; done) | (simp; omega) | (simp at *; omega))))))) hgr7 (by (first | omega | (simp; done) | (simp; omega) | (simp at *; omega))) hrow
                have hR8 : Row w7' W9.heap.size g2 (k + 1) k2 (ys ++ [q % 5]) := ⟨by rw [List.map_append]; exact hown7, by unfold small; omega⟩
                clear hown7 hgr7 hat7 hlt7 hown hrow hR
                go_roundw
                case rel => exact ⟨k + 1, g2, k2, _, q / 5, by omega, by go_num, rfl, rfl, by omega, by omega, hR8, hb97⟩
                case measure => simp [intOf]; omega
              · have HRI := Lib.hid hR.ints
                have hfin : decide (k < ps.length) = false := decide_eq_false hltk
                have hfin2 : decide ((k : Int) < ps.length) = false := decide_eq_false (by omega)
                clear hltk hR
                have hBr : Below w1.heap.size w1 wr := hB.trans (hb9.mono hz9)
                go_wp2_with fail
                clear hfin hfin2
                with_reducible refine (specHoldsOk_any z _ _ ps ys _ _ _ (hp.keep hBr) HRI.out).mono ?_
                rintro e wa ⟨rfl, hnn⟩
                have bxa := bx9.keep hnn
                have hBa : Below w1.heap.size w1 wa := hBr.trans (hnn.mono hBr.size)
                have hb9a : Below W9.heap.size W9 wa := hb9.trans (hnn.mono hb9.size)
                have HRA := Lib.hid (HRI.out.keep hnn)
                clear hnn d0 d1 g0 g1 bs bx9 HRI
                obtain ⟨bs, d0, d1, g0, g1⟩ := id bxa
                cases hhy : holdsB z ps ys
                · go_wp2
                  go_roundw
                  case rel => exact ⟨m + 1, by omega, by go_num, bxa, hBa, hb8.trans (hb9a.mono hb8.size)⟩
                  case measure => simp [intOf]; omega
                · have hfy := (holds_parts hhy).1
                  have hcy := costR_yes hfy
                  have HY := Lib.hid (And.intro hfy (And.intro hcy hhy))
                  clear hfy hcy hhy
                  go_wp2
                  go_loopw [22, 21] (fun a b wr => ∃ (j : Nat) (sm : Bool), (j : Int) ≤ z ∧ a = .int .i64 (j : Int) ∧ b = .bool sm ∧ (sm = true → ∀ v : Nat, v < j → exc (v : Int) ps Y = exc (v : Int) ps ys) ∧ Box2 wr w1.heap.size (.int .i64 z) (.slice A1 ps.length cn) ∧ Below w1.heap.size w1 wr ∧ Below wa.heap.size wa wr) (fun a _ _ => z.toNat - (intOf a).toNat)
                  case atStart => exact ⟨0, true, by omega, rfl, rfl, fun _ v hv => absurd hv (by omega), bxa, hBa, Below.refl _ _⟩
                  case round =>
                    obtain ⟨j, sm, hj, rfl, rfl, hsm, bx0, hB0, hba⟩ := hrel
                    clear d0 d1 g0 g1 bs bxa
                    obtain ⟨bs, d0, d1, g0, g1⟩ := id bx0
                    have HS := Lib.hid hsm
                    clear hsm
                    have hgoOn : (sm = true ∧ (j : Int) < z) ∨ ¬ (sm = true ∧ (j : Int) < z) := Classical.em _
                    rcases hgoOn with ⟨rfl, hjz⟩ | hno
                    · obtain ⟨e1, e2⟩ := excAt_yes (k := (j : Int)) HH.out.2.2.1 (by omega) hjz
                      obtain ⟨e3, e4⟩ := excAt_yes (k := (j : Int)) HY.out.1 (by omega) hjz
                      go_wp2_with fail
                      with_reducible refine (specExcessAt_any (j : Int) z _ _ ps xs _ _ _ (hp.keep hB0) (hx.keep hB0)).mono ?_
                      rintro e wb ⟨rfl, hnn⟩
                      have bxb := bx0.keep hnn
                      have hBb : Below w1.heap.size w1 wb := hB0.trans (hnn.mono hB0.size)
                      have hbab := hba.trans (hnn.mono hba.size)
                      clear hnn d0 d1 g0 g1 bs bx0
                      obtain ⟨bs, d0, d1, g0, g1⟩ := id bxb
                      rw [e1, e2]
                      clear e1 e2
                      go_wp2_with fail
                      with_reducible refine (specExcessAt_any (j : Int) z _ _ ps ys _ _ _ (hp.keep hBb) (HRA.out.keep hbab)).mono ?_
                      rintro e wc ⟨rfl, hnn⟩
                      have bxc := bxb.keep hnn
                      have hBc : Below w1.heap.size w1 wc := hBb.trans (hnn.mono hBb.size)
                      have hbac := hbab.trans (hnn.mono hbab.size)
                      clear hnn d0 d1 g0 g1 bs bxb
                      obtain ⟨bs, d0, d1, g0, g1⟩ := id bxc
                      rw [e3, e4]
                      clear e3 e4
                      have HE := Lib.hid (HH.out.2.1 (j : Int))
                      obtain ⟨ea, hea⟩ : ∃ ea, exc (j : Int) ps xs = ea := ⟨_, rfl⟩
                      obtain ⟨eb, heb⟩ : ∃ eb, exc (j : Int) ps ys = eb := ⟨_, rfl⟩
                      rw [hea, heb]
                      have HE2 := Lib.hid (And.intro hea heb)
                      clear hea heb
                      go_wp2
                      go_roundw
                      case rel => exact ⟨j + 1, (ea == eb), by omega, by go_num, rfl, fun h v hv => by
                        by_cases hvj : v < j
                        · exact HS.out (by first | rfl | trivial) v hvj
                        · have hvj : v = j := by omega
                          subst hvj
                          rw [HE.out, HE2.out.1, HE2.out.2]
                          simpa using h, bxc, hBc, hbac⟩
                      case measure => simp [intOf]; omega
                    · have hexit : sm = false ∨ (sm = true ∧ z ≤ (j : Int)) := by
                        cases sm
                        · exact .inl rfl
                        · exact .inr ⟨rfl, by have := hno; simp at this; omega⟩
                      clear hno
                      rcases hexit with rfl | ⟨rfl, hjz⟩
                      · have hsp : ((j : Int) < z) ∨ z ≤ (j : Int) := by omega
                        rcases hsp with hsp | hsp
                        all_goals
                          go_wp2_with fail
                          with_reducible refine (costOf_any z _ _ ps ys _ _ _ (hp.keep hB0) (HRA.out.keep hba)).mono ?_
                          rintro e wb ⟨rfl, hnn⟩
                          have bxb := bx0.keep hnn
                          have hBb : Below w1.heap.size w1 wb := hB0.trans (hnn.mono hB0.size)
                          have hbab := hba.trans (hnn.mono hba.size)
                          clear hnn d0 d1 g0 g1 bs bx0
                          obtain ⟨bs, d0, d1, g0, g1⟩ := id bxb
                          rw [HY.out.2.1]
                          generalize costS ps ys = cy at *
                          go_wp2
                          go_roundw
                          case rel => exact ⟨m + 1, by omega, by go_num, bxb, hBb, hb8.trans ((hb9a.trans (hbab.mono hb9a.size)).mono hb8.size)⟩
                          case measure => simp [intOf]; omega
                      · have hle := HLC.out ys HY.out.2.2 (fun v hv => HS.out (by first | rfl | trivial) v (by omega))
                        go_wp2_with fail
                        with_reducible refine (costOf_any z _ _ ps ys _ _ _ (hp.keep hB0) (HRA.out.keep hba)).mono ?_
                        rintro e wb ⟨rfl, hnn⟩
                        have bxb := bx0.keep hnn
                        have hBb : Below w1.heap.size w1 wb := hB0.trans (hnn.mono hB0.size)
                        have hbab := hba.trans (hnn.mono hba.size)
                        clear hnn d0 d1 g0 g1 bs bx0
                        obtain ⟨bs, d0, d1, g0, g1⟩ := id bxb
                        rw [HY.out.2.1]
                        generalize costS ps ys = cy at *
                        have hnl : decide (cy < C) = false := decide_eq_false (by omega)
                        go_wp2
                        go_roundw
                        case rel => exact ⟨m + 1, by omega, by go_num, bxb, hBb, hb8.trans ((hb9a.trans (hbab.mono hb9a.size)).mono hb8.size)⟩
                        case measure => simp [intOf]; omega
          · have hend : (A : Int) ≤ m ∨ ((m : Int) < A ∧ 4 < (ps.length : Int)) := by omega
            clear hgo
            rcases hend with hend | ⟨hend, hend2⟩
            all_goals
              go_wp2_with fail
              with_reducible refine (holdsOk_any z _ _ ps Y _ _ _ (hp.keep hB) (HR8.out.keep hb8)).mono ?_
              rintro e wz ⟨rfl, hnn⟩
              have hBz : Below w1.heap.size w1 wz := hB.trans (hnn.mono hB.size)
              rw [HH.out.1]
              go_wp2
              (go_ret; exact ⟨rfl, hBw1.trans (Below.mono (by with_reducible assumption) hBw1.size)⟩)

set_option maxRecDepth 100000 in
theorem contract (H : Type) (enc : TypeId × Value → H) (W : World) (base : Nat) (args : Array Value) (ds gs : List (DataW H)) (before : List MemPlace)
    (hval : ∀ (j : Nat) t v, Try.f5.params[j]? = some t → args[j]? = some v → Value.okWide Try.prog W .any base t v)
    (hW : DataW.Whole enc Try.prog Try.f5.params.toList Rows.fnCheapestFlowSpec.vars false W args.toList ds gs before) :
    Calls Try.prog 5 args W fun e W' => ∃ v, e = .returned v ∧ Rows.fnCheapestFlowSpec.post enc Try.prog Try.f5 false true false false W args v W' := by
  have hW' := hW
  obtain ⟨p, q, hA0, hV, rfl, hfz, hnd⟩ := hW
  have hA : DataW.TrodAll enc Try.prog W 0 (fun _ => true) true Try.f5.params.toList args.toList ds p := hA0
  rw [Try.params5] at hA hval
  obtain ⟨u0, us0, d0, ds0, p0, q0, hargs, rfl, rfl, g0, k0⟩ := trodAll_cons hA
  obtain ⟨rfl, rfl, rfl⟩ := trodAll_nil k0
  obtain rfl : args = #[u0] := by cases args; simp_all
  obtain ⟨rfl, rfl⟩ := trodVars_none hV
  obtain ⟨m0, e0⟩ := g0
  obtain ⟨s0, l0, f0, hh0⟩ := open_arg_bytes e0
  have f0' := one_of_cells Try.underlying22 (hval 0 _ _ rfl rfl) f0
  subst f0'
  refine (walk _ l0 W hh0).mono fun e W' ⟨he, hb⟩ => ?_
  subst he
  exact ⟨_, rfl, law_post Try.kids Try.full (by rw [Try.params5]; decide) rfl rfl Try.underlying4 hW' rfl rfl rfl hb⟩

set_option maxRecDepth 100000 in
theorem lifted (os : Os) (started : os.Started) (H : Type) (enc : TypeId × Value → H) :
    ReturnsInHanded {} Try.checked os 5 .any (Rows.fnCheapestFlowSpec.pre6 enc Try.prog Try.f5 Rows.fnCheapestFlowRow.domain false) (Rows.fnCheapestFlowSpec.post enc Try.prog Try.f5 false true false false) := by
  refine returnsInHanded_of_change (C := Try.checked) Try.own started (by kernel_rfl) Try.func5
    (ChangeSpec.witness6 (enc := enc) (C := Try.checked) false ⟨#[], #[.slice none 0 0], []⟩ 8 (by kernel_rfl) (by kernel_rfl) (by kernel_rfl) (by kernel_rfl)) ?_
  intro W base args ds gs before hval0 hW _ _
  exact contract H enc W base args ds gs before hval0 hW

theorem proved : Rows.FnCheapestFlowSaid :=
  OpenClaim.holds_of_wide 5 Try.f5 rfl rfl rfl rfl rfl rfl rfl ⟨rfl, rfl, rfl, rfl, rfl⟩ rfl rfl rfl rfl rfl (by kernel_rfl) Try.func5 (by kernel_rfl)
    (of_decide_eq_true (by kernel_rfl)) (by unfold Func.isWrapper; first | (rw [if_pos (by decide +kernel)]; kernel_rfl) | (rw [if_neg (by decide +kernel)]; exact ⟨rfl, rfl⟩))
    (fun os started H enc _ => lifted os started H enc)

end Go.Proofs.Ytialdelfmmdfjaa.lawCheapestFlow
