/- FnGreatestFlow: for every code the law holds: the program's greatest flow is the model's; all pipes hold it, no node but both has an excess, there is no way on, and the reached side is the least of all narrowest ones, over which its room flows. No condition. -/
import Derived.Test.YtobbeofibkpbaaaGZ56
import Derived.Test.YtobbeofibkpbaaaL3
import Derived.Test.YtobbeofibkpbaaaGZ12
import Derived.Test.YtobbeofibkpbaaaGZ26
import Derived.Test.YtobbeofibkpbaaaGZ57
import Derived.Test.YtobbeofibkpbaaaWB
import Derived.Test.YtobbeofibkpbaaaW8
import Derived.Test.YtobbeofibkpbaaaGZ3
import Derived.Test.YtobbeofibkpbaaaMG
namespace Go.Proofs.Ytobbeofibkpbaaa.lawGreatestFlow
open Go.ChangeShapes Go.WideShapes Go.ChangeAt Go.RowKit Go.Deep Go.Joins

theorem facts {n : Int} {ps : List Pp} {a b : Int} (h : greatB n ps a b = true) :
    ∃ F g : _, greatF n ps a b = F ∧ flowOkB n ps F = true ∧ holdsB n ps F = true ∧ onlyTwo n ps F a b ∧ wayB n ps F a b = false ∧ reachS n ps F a = g ∧ (acrossAt n ps F g).1 = room g ps ∧ (acrossAt n ps F g).2 = true ∧ (roomAt n ps g).1 = room g ps ∧ (roomAt n ps g).2 = true ∧ g ∈ narrowL n ps a b ∧ ∀ t ∈ narrowL n ps a b, bits .and .i64 t g = g := by
  have he := (great_parts h).2
  have hh := great_holds h
  have ho := great_only h
  have hw := great_end h
  obtain ⟨c1, c2, c3, c4, c5⟩ := end_cut he hh ho hw
  obtain ⟨m1, m2⟩ := reach_narrow he hh ho hw
  obtain ⟨r0, r1⟩ := reach_in n ps (greatF n ps a b) a
  have hs : sideB n ps (reachI n ps (greatF n ps a b) a) = true := by simp [sideB, holds_net hh, withinB, r0, r1]
  have hfl := (holds_parts hh).1
  refine ⟨_, _, rfl, hfl, hh, ho, hw, reach_yes c1, ?_, ?_, (room_yes hs).1, (room_yes hs).2, m1, m2⟩
  · rw [acrossAt, if_pos ⟨hfl, hs⟩]; exact c3
  · rw [acrossAt, if_pos ⟨hfl, hs⟩]

set_option maxHeartbeats 4000000 in
set_option maxRecDepth 20000 in
theorem walk (v : Value) (n : Nat) (w : World) (h : ArgBytes w v n) :
    Calls Try.prog 3 #[v] w fun e w' => e = .returned (.bool true) ∧ Below w.heap.size w w' := by
  obtain ⟨A, c, rfl, hc1, hc2, -⟩ := id h
  unfold maxLen at hc2
  by_cases hbig : 1048576 < n
  · go_enter Try.func3, Try.ntmps3
    go_wp2
    go_ret
    exact ⟨rfl, by (repeat (first | (with_reducible assumption) | (with_reducible exact Below.refl _ _) | ((with_reducible refine Below.alloc ?_ ?hsz _); (case hsz => (first | omega | (simp; done) | (simp; omega) | (simp at *; omega)))) | ((with_reducible refine Below.setCell ?_ ?hsz _); (case hsz => (first | omega | (simp; done) | (simp; omega) | (simp at *; omega)))) | (with_reducible refine Below.drew ?_) | (with_reducible refine below_drewN ?_ _) | ((with_reducible refine Below.trans ?_ (Below.mono (by with_reducible assumption) ?hsz)); (case hsz => (first | omega | (simp; done) | (simp; omega) | (simp at *; omega))))))⟩
  go_enter Try.func3, Try.ntmps3
  go_wp2_with fail
  with_reducible refine (drawGreatestFlow_any _ n _ (h.keep (by (repeat (first | (with_reducible assumption) | (with_reducible exact Below.refl _ _) | ((with_reducible refine Below.alloc ?_ ?hsz _); (case hsz => (first | omega | (simp; done) | (simp; omega) | (simp at *; omega)))) | ((with_reducible refine Below.setCell ?_ ?hsz _); (case hsz => (first | omega | (simp; done) | (simp; omega) | (simp at *; omega)))) | (with_reducible refine Below.drew ?_) | (with_reducible refine below_drewN ?_ _) | ((with_reducible refine Below.trans ?_ (Below.mono (by with_reducible assumption) ?hsz)); (case hsz => (first | omega | (simp; done) | (simp; omega) | (simp at *; omega))))))))).mono ?_
  rintro e w1 ⟨z, ps, u, i, j, rfl, hp, hb1, hl8, hz1, hz6, hi0, hj0, hiz⟩
  have hBw1 : Below w.heap.size w w1 := by (repeat (first | (with_reducible assumption) | (with_reducible exact Below.refl _ _) | ((with_reducible refine Below.alloc ?_ ?hsz _); (case hsz => (first | omega | (simp; done) | (simp; omega) | (simp at *; omega)))) | ((with_reducible refine Below.setCell ?_ ?hsz _); (case hsz => (first | omega | (simp; done) | (simp; omega) | (simp at *; omega)))) | (with_reducible refine Below.drew ?_) | (with_reducible refine below_drewN ?_ _) | ((with_reducible refine Below.trans ?_ (Below.mono (by with_reducible assumption) ?hsz)); (case hsz => (first | omega | (simp; done) | (simp; omega) | (simp at *; omega))))))
  clear h hc1 hc2 hbig
  obtain ⟨A1, c1, rfl, hk1, hk2, hsm, -⟩ := hp.form
  unfold maxLen at hk2
  have bx1 : Box2 (w1.alloc (.cells #[.int .i64 z, .slice A1 ps.length c1] 25)) w1.heap.size (.int .i64 z) (.slice A1 ps.length c1) := Box2.new _ _ _ _
  have hB1 : Below w1.heap.size w1 (w1.alloc (.cells #[.int .i64 z, .slice A1 ps.length c1] 25)) := by (repeat (first | (with_reducible assumption) | (with_reducible exact Below.refl _ _) | ((with_reducible refine Below.alloc ?_ ?hsz _); (case hsz => (first | omega | (simp; done) | (simp; omega) | (simp at *; omega)))) | ((with_reducible refine Below.setCell ?_ ?hsz _); (case hsz => (first | omega | (simp; done) | (simp; omega) | (simp at *; omega)))) | (with_reducible refine Below.drew ?_) | (with_reducible refine below_drewN ?_ _) | ((with_reducible refine Below.trans ?_ (Below.mono (by with_reducible assumption) ?hsz)); (case hsz => (first | omega | (simp; done) | (simp; omega) | (simp at *; omega))))))
  go_wp2_with fail
  with_reducible refine (greatestFlow_any z i j _ ps _ _ (hp.keep hB1)).mono ?_
  rintro e w2 ⟨r2, rfl, hr2, hnn⟩
  have bx2 := bx1.keep hnn
  have hB2 : Below w1.heap.size w1 w2 := by (repeat (first | (with_reducible assumption) | (with_reducible exact Below.refl _ _) | ((with_reducible refine Below.alloc ?_ ?hsz _); (case hsz => (first | omega | (simp; done) | (simp; omega) | (simp at *; omega)))) | ((with_reducible refine Below.setCell ?_ ?hsz _); (case hsz => (first | omega | (simp; done) | (simp; omega) | (simp at *; omega)))) | (with_reducible refine Below.drew ?_) | (with_reducible refine below_drewN ?_ _) | ((with_reducible refine Below.trans ?_ (Below.mono (by with_reducible assumption) ?hsz)); (case hsz => (first | omega | (simp; done) | (simp; omega) | (simp at *; omega))))))
  clear hnn
  obtain ⟨bs, d0, d1, g0, g1⟩ := id bx2
  go_wp2_with fail
  with_reducible refine (specGreatestFlow_any z i j _ ps _ _ (hp.keep hB2)).mono ?_
  rintro e w3 ⟨r3, rfl, hr3, hnn⟩
  have bx3 := bx2.keep hnn
  have hB3 : Below w1.heap.size w1 w3 := by (repeat (first | (with_reducible assumption) | (with_reducible exact Below.refl _ _) | ((with_reducible refine Below.alloc ?_ ?hsz _); (case hsz => (first | omega | (simp; done) | (simp; omega) | (simp at *; omega)))) | ((with_reducible refine Below.setCell ?_ ?hsz _); (case hsz => (first | omega | (simp; done) | (simp; omega) | (simp at *; omega)))) | (with_reducible refine Below.drew ?_) | (with_reducible refine below_drewN ?_ _) | ((with_reducible refine Below.trans ?_ (Below.mono (by with_reducible assumption) ?hsz)); (case hsz => (first | omega | (simp; done) | (simp; omega) | (simp at *; omega))))))
  have hr23 := hr2.keep hnn
  clear hnn hr2 d0 d1 g0 g1
  obtain ⟨bs, d0, d1, g0, g1⟩ := id bx3
  have hwl := greatF_len z ps i j
  obtain ⟨M, hM⟩ : ∃ M, (greatF z ps i j).length = M := ⟨_, rfl⟩
  obtain ⟨A2, c2, rfl, q1, q2, q3, -⟩ := hr23.form
  obtain ⟨A3, c3, rfl, -, -, -, -⟩ := hr3.form
  unfold maxLen at q2
  rw [hM] at hr23 hr3 q1 hwl ⊢
  have HM := Lib.hid hM
  clear hM
  go_wp2_with fail
  with_reducible refine (sameInts_any _ _ (greatF z ps i j) (greatF z ps i j) _ _ _ hr23 hr3).mono ?_
  rintro e w4 ⟨rfl, hnn⟩
  have bx4 := bx3.keep hnn
  have hr24 := hr23.keep hnn
  have hB4 : Below w1.heap.size w1 w4 := by (repeat (first | (with_reducible assumption) | (with_reducible exact Below.refl _ _) | ((with_reducible refine Below.alloc ?_ ?hsz _); (case hsz => (first | omega | (simp; done) | (simp; omega) | (simp at *; omega)))) | ((with_reducible refine Below.setCell ?_ ?hsz _); (case hsz => (first | omega | (simp; done) | (simp; omega) | (simp at *; omega)))) | (with_reducible refine Below.drew ?_) | (with_reducible refine below_drewN ?_ _) | ((with_reducible refine Below.trans ?_ (Below.mono (by with_reducible assumption) ?hsz)); (case hsz => (first | omega | (simp; done) | (simp; omega) | (simp at *; omega))))))
  clear hnn d0 d1 g0 g1 hr23 hr3
  obtain ⟨bs, d0, d1, g0, g1⟩ := id bx4
  have hdec : decide (greatF z ps i j = greatF z ps i j) = true := by simp
  rw [hdec]
  clear hdec
  by_cases hg : greatB z ps i j = true
  · obtain ⟨F, g, hF, f1, f2, f3, f4, f5, f6, f7, f8, f9, f10, f11⟩ := facts hg
    obtain ⟨hok, i0, i1, j0, j1, hij⟩ := ends_parts (great_parts hg).2
    have hn5 := (netOk_parts hok).2.1
    rw [hF] at hr24
    rw [hg]
    have HF := Lib.hid (And.intro f1 f3)
    have HN := Lib.hid (And.intro f10 f11)
    have HA := Lib.hid (And.intro (And.intro f4 f5) (And.intro (And.intro f6 f7) (And.intro f8 f9)))
    clear hg hok hF f1 f3 f4 f5 f6 f7 f8 f9 f10 f11 HM
    obtain ⟨N, rfl⟩ : ∃ N : Nat, z = (N : Int) := ⟨z.toNat, by omega⟩
    have hij' := Lib.hid hij
    clear hij
    go_wp2_with fail
    go_loopw [10] (fun t wr => ∃ k : Nat, k ≤ N ∧ t = .int .i64 k ∧ Box2 wr w1.heap.size (.int .i64 (N : Int)) (.slice A1 ps.length c1) ∧ Below w1.heap.size w1 wr ∧ Below w4.heap.size w4 wr) (fun t _ => N - (intOf t).toNat)
    case atStart => exact ⟨0, by omega, rfl, bx4, hB4, Below.refl _ _⟩
    case round =>
      clear bs d0 d1 g0 g1 bx4
      obtain ⟨k, hk, rfl, bx, hB, hb4⟩ := hrel
      obtain ⟨bs, d0, d1, g0, g1⟩ := id bx
      have hs4 := hb4.size
      by_cases hlt : k < N
      · obtain ⟨e1, e2⟩ := excAt_yes (k := (k : Int)) HF.out.1 (by omega) (by omega)
        go_wp2_with fail
        with_reducible refine (excessAt_any (k : Int) (N : Int) _ _ ps F _ _ _ (hp.keep hB) (hr24.keep hb4)).mono ?_
        rintro e w5 ⟨rfl, hnn⟩
        have bx5 := bx.keep hnn
        have hB5 : Below w1.heap.size w1 w5 := by (repeat (first | (with_reducible assumption) | (with_reducible exact Below.refl _ _) | ((with_reducible refine Below.alloc ?_ ?hsz _); (case hsz => (first | omega | (simp; done) | (simp; omega) | (simp at *; omega)))) | ((with_reducible refine Below.setCell ?_ ?hsz _); (case hsz => (first | omega | (simp; done) | (simp; omega) | (simp at *; omega)))) | (with_reducible refine Below.drew ?_) | (with_reducible refine below_drewN ?_ _) | ((with_reducible refine Below.trans ?_ (Below.mono (by with_reducible assumption) ?hsz)); (case hsz => (first | omega | (simp; done) | (simp; omega) | (simp at *; omega))))))
        have hb5 := hb4.trans (hnn.mono hb4.size)
        clear hnn d0 d1 g0 g1
        obtain ⟨bs, d0, d1, g0, g1⟩ := id bx5
        rw [e1, e2]
        clear e1 e2
        by_cases hki : (k : Int) = i
        · have hkb : ((k : Int) != i) = false := by simpa using hki
          clear hki
          go_wp2
          go_roundw
          case rel => exact ⟨k + 1, by omega, by go_num, bx5, hB5, hb5⟩
          case measure => simp [intOf]; omega
        · have hkb : ((k : Int) != i) = true := by simpa using hki
          by_cases hkj : (k : Int) = j
          · have hkb2 : ((k : Int) != j) = false := by simpa using hkj
            clear hki hkj
            go_wp2
            go_roundw
            case rel => exact ⟨k + 1, by omega, by go_num, bx5, hB5, hb5⟩
            case measure => simp [intOf]; omega
          · have hkb2 : ((k : Int) != j) = true := by simpa using hkj
            rw [HF.out.2 (k : Int) (by omega) (by omega) hki hkj]
            clear hki hkj
            go_wp2
            go_roundw
            case rel => exact ⟨k + 1, by omega, by go_num, bx5, hB5, hb5⟩
            case measure => simp [intOf]; omega
      · go_wp2_with fail
        with_reducible refine (wayFrom_any (N : Int) i j _ _ ps F _ _ _ (hp.keep hB) (hr24.keep hb4)).mono ?_
        rintro e w5 ⟨rX, rfl, -, hnn⟩
        have bx5 := bx.keep hnn
        have hB5 : Below w1.heap.size w1 w5 := by (repeat (first | (with_reducible assumption) | (with_reducible exact Below.refl _ _) | ((with_reducible refine Below.alloc ?_ ?hsz _); (case hsz => (first | omega | (simp; done) | (simp; omega) | (simp at *; omega)))) | ((with_reducible refine Below.setCell ?_ ?hsz _); (case hsz => (first | omega | (simp; done) | (simp; omega) | (simp at *; omega)))) | (with_reducible refine Below.drew ?_) | (with_reducible refine below_drewN ?_ _) | ((with_reducible refine Below.trans ?_ (Below.mono (by with_reducible assumption) ?hsz)); (case hsz => (first | omega | (simp; done) | (simp; omega) | (simp at *; omega))))))
        have hb5 := hb4.trans (hnn.mono hb4.size)
        clear hnn d0 d1 g0 g1
        obtain ⟨bs, d0, d1, g0, g1⟩ := id bx5
        rw [HA.out.1.1]
        go_wp2_with fail
        with_reducible refine (reachedFrom_any (N : Int) i _ _ ps F _ _ _ (hp.keep hB5) (hr24.keep hb5)).mono ?_
        rintro e w6 ⟨rfl, hnn⟩
        have bx6 := bx5.keep hnn
        have hB6 : Below w1.heap.size w1 w6 := by (repeat (first | (with_reducible assumption) | (with_reducible exact Below.refl _ _) | ((with_reducible refine Below.alloc ?_ ?hsz _); (case hsz => (first | omega | (simp; done) | (simp; omega) | (simp at *; omega)))) | ((with_reducible refine Below.setCell ?_ ?hsz _); (case hsz => (first | omega | (simp; done) | (simp; omega) | (simp at *; omega)))) | (with_reducible refine Below.drew ?_) | (with_reducible refine below_drewN ?_ _) | ((with_reducible refine Below.trans ?_ (Below.mono (by with_reducible assumption) ?hsz)); (case hsz => (first | omega | (simp; done) | (simp; omega) | (simp at *; omega))))))
        have hb6 := hb5.trans (hnn.mono hb5.size)
        clear hnn d0 d1 g0 g1
        obtain ⟨bs, d0, d1, g0, g1⟩ := id bx6
        rw [HA.out.1.2]
        go_wp2_with fail
        with_reducible refine (narrowestOf_any (N : Int) i j _ ps _ _ (hp.keep hB6)).mono ?_
        rintro e w7 ⟨rL, rfl, hL, hnn⟩
        have bx7 := (bx6).keep hnn
        have hB7 : Below w1.heap.size w1 w7 := by (repeat (first | (with_reducible assumption) | (with_reducible exact Below.refl _ _) | ((with_reducible refine Below.alloc ?_ ?hsz _); (case hsz => (first | omega | (simp; done) | (simp; omega) | (simp at *; omega)))) | ((with_reducible refine Below.setCell ?_ ?hsz _); (case hsz => (first | omega | (simp; done) | (simp; omega) | (simp at *; omega)))) | (with_reducible refine Below.drew ?_) | (with_reducible refine below_drewN ?_ _) | ((with_reducible refine Below.trans ?_ (Below.mono (by with_reducible assumption) ?hsz)); (case hsz => (first | omega | (simp; done) | (simp; omega) | (simp at *; omega))))))
        have hbl := hnn
        clear hnn
        (try clear d0 d1 g0 g1)
        obtain ⟨bs, d0, d1, g0, g1⟩ := id bx7
        have hb7 := hb6.trans (hbl.mono hb6.size)
        have hLl := narrowL_len (N : Int) ps i j
        obtain ⟨ML, hML⟩ : ∃ ML, (narrowL (N : Int) ps i j).length = ML := ⟨_, rfl⟩
        obtain ⟨AL, cL, rfl, l1, l2, l3, -⟩ := hL.form
        unfold maxLen at l2
        rw [hML] at hL l1 hLl ⊢
        have HML := Lib.hid hML
        clear hML hbl
        go_wp2_with fail
        with_reducible refine (acrossOf_any (N : Int) g _ _ ps F _ _ _ (hp.keep hB7) (hr24.keep hb7)).mono ?_
        rintro e w8 ⟨rfl, hnn⟩
        have bx8 := bx7.keep hnn
        have hL8 := hL.keep hnn
        have hB8 : Below w1.heap.size w1 w8 := by (repeat (first | (with_reducible assumption) | (with_reducible exact Below.refl _ _) | ((with_reducible refine Below.alloc ?_ ?hsz _); (case hsz => (first | omega | (simp; done) | (simp; omega) | (simp at *; omega)))) | ((with_reducible refine Below.setCell ?_ ?hsz _); (case hsz => (first | omega | (simp; done) | (simp; omega) | (simp at *; omega)))) | (with_reducible refine Below.drew ?_) | (with_reducible refine below_drewN ?_ _) | ((with_reducible refine Below.trans ?_ (Below.mono (by with_reducible assumption) ?hsz)); (case hsz => (first | omega | (simp; done) | (simp; omega) | (simp at *; omega))))))
        have hb8 := hb7.trans (hnn.mono hb7.size)
        clear hnn d0 d1 g0 g1 hL
        obtain ⟨bs, d0, d1, g0, g1⟩ := id bx8
        rw [HA.out.2.1.1, HA.out.2.1.2]
        go_wp2_with fail
        with_reducible refine (roomOfTop_any (N : Int) g _ ps _ _ (hp.keep hB8)).mono ?_
        rintro e w9 ⟨rfl, hnn⟩
        have bx9 := bx8.keep hnn
        have hL9 := hL8.keep hnn
        have hB9 : Below w1.heap.size w1 w9 := by (repeat (first | (with_reducible assumption) | (with_reducible exact Below.refl _ _) | ((with_reducible refine Below.alloc ?_ ?hsz _); (case hsz => (first | omega | (simp; done) | (simp; omega) | (simp at *; omega)))) | ((with_reducible refine Below.setCell ?_ ?hsz _); (case hsz => (first | omega | (simp; done) | (simp; omega) | (simp at *; omega)))) | (with_reducible refine Below.drew ?_) | (with_reducible refine below_drewN ?_ _) | ((with_reducible refine Below.trans ?_ (Below.mono (by with_reducible assumption) ?hsz)); (case hsz => (first | omega | (simp; done) | (simp; omega) | (simp at *; omega))))))
        have hb9 := hb8.trans (hnn.mono hb8.size)
        clear hnn d0 d1 g0 g1 hL8
        obtain ⟨bs, d0, d1, g0, g1⟩ := id bx9
        rw [HA.out.2.2.1, HA.out.2.2.2]
        generalize room g ps = R at *
        go_wp2_with fail
        go_loopw [21] (fun t ws => ∃ k : Nat, k ≤ ML ∧ t = .int .i64 k ∧ Box2 ws w1.heap.size (.int .i64 (N : Int)) (.slice A1 ps.length c1) ∧ Below w1.heap.size w1 ws ∧ Below w9.heap.size w9 ws) (fun t _ => ML - (intOf t).toNat)
        case atStart => exact ⟨0, by omega, rfl, bx9, hB9, Below.refl _ _⟩
        case round =>
          clear bs d0 d1 g0 g1 bx9
          obtain ⟨q, hq, rfl, bx, hB, hb9'⟩ := hrel
          obtain ⟨bs, d0, d1, g0, g1⟩ := id bx
          have hs9 := hb9'.size
          by_cases hlq : q < ML
          · have hqk : q < (narrowL (N : Int) ps i j).length := by rw [HML.out]; exact hlq
            obtain ⟨gl, rfl, gl1, gl2, cl, -⟩ := hL9.cellAt hb9' q hqk
            have hand := HN.out.2 _ (List.getElem_mem hqk)
            generalize (narrowL (N : Int) ps i j)[q] = x at *
            go_wp2
            go_roundw
            case rel => exact ⟨q + 1, by omega, by go_num, bx, hB, hb9'⟩
            case measure => simp [intOf]; omega
          · have hin : decide (g ∈ narrowL (N : Int) ps i j) = true := decide_eq_true HN.out.1
            have hb4' := hb9.trans (hb9'.mono hb9.size)
            go_wp2_with fail
            with_reducible refine (holdsOk_any (N : Int) _ _ ps F _ _ _ (hp.keep hB) (hr24.keep hb4')).mono ?_
            rintro e w10 ⟨rfl, hnn⟩
            have bx10 := bx.keep hnn
            have hB10 : Below w1.heap.size w1 w10 := by (repeat (first | (with_reducible assumption) | (with_reducible exact Below.refl _ _) | ((with_reducible refine Below.alloc ?_ ?hsz _); (case hsz => (first | omega | (simp; done) | (simp; omega) | (simp at *; omega)))) | ((with_reducible refine Below.setCell ?_ ?hsz _); (case hsz => (first | omega | (simp; done) | (simp; omega) | (simp at *; omega)))) | (with_reducible refine Below.drew ?_) | (with_reducible refine below_drewN ?_ _) | ((with_reducible refine Below.trans ?_ (Below.mono (by with_reducible assumption) ?hsz)); (case hsz => (first | omega | (simp; done) | (simp; omega) | (simp at *; omega))))))
            have hb10 := hb9'.trans (hnn.mono hb9'.size)
            clear hnn d0 d1 g0 g1
            obtain ⟨bs, d0, d1, g0, g1⟩ := id bx10
            rw [f2]
            go_wp2_with fail
            with_reducible refine (hasInt_any _ (narrowL (N : Int) ps i j) g _ _ (hL9.keep hb10)).mono ?_
            rintro e w11 ⟨rfl, hnn⟩
            have bx11 := bx10.keep hnn
            have hB11 : Below w1.heap.size w1 w11 := by (repeat (first | (with_reducible assumption) | (with_reducible exact Below.refl _ _) | ((with_reducible refine Below.alloc ?_ ?hsz _); (case hsz => (first | omega | (simp; done) | (simp; omega) | (simp at *; omega)))) | ((with_reducible refine Below.setCell ?_ ?hsz _); (case hsz => (first | omega | (simp; done) | (simp; omega) | (simp at *; omega)))) | (with_reducible refine Below.drew ?_) | (with_reducible refine below_drewN ?_ _) | ((with_reducible refine Below.trans ?_ (Below.mono (by with_reducible assumption) ?hsz)); (case hsz => (first | omega | (simp; done) | (simp; omega) | (simp at *; omega))))))
            clear hnn d0 d1 g0 g1
            obtain ⟨bs, d0, d1, g0, g1⟩ := id bx11
            rw [hin]
            go_wp2
            (go_ret; exact ⟨rfl, hBw1.trans (Below.mono (by with_reducible assumption) hBw1.size)⟩)
  · have hg' : greatB z ps i j = false := by simpa using hg
    have h0 : M = 0 := by have := HM.out; rw [great_no hg'] at this; simpa using this.symm
    subst h0
    rw [hg']
    go_wp2_with fail
    with_reducible refine (alive_any _).mono ?_
    rintro e w6 ⟨rfl, hnn⟩
    have bx6 := (bx4).keep hnn
    have hB6 : Below w1.heap.size w1 w6 := by (repeat (first | (with_reducible assumption) | (with_reducible exact Below.refl _ _) | ((with_reducible refine Below.alloc ?_ ?hsz _); (case hsz => (first | omega | (simp; done) | (simp; omega) | (simp at *; omega)))) | ((with_reducible refine Below.setCell ?_ ?hsz _); (case hsz => (first | omega | (simp; done) | (simp; omega) | (simp at *; omega)))) | (with_reducible refine Below.drew ?_) | (with_reducible refine below_drewN ?_ _) | ((with_reducible refine Below.trans ?_ (Below.mono (by with_reducible assumption) ?hsz)); (case hsz => (first | omega | (simp; done) | (simp; omega) | (simp at *; omega))))))
    clear hnn
    (try clear d0 d1 g0 g1)
    obtain ⟨bs, d0, d1, g0, g1⟩ := id bx6
    go_wp2
    (go_ret; exact ⟨rfl, hBw1.trans (Below.mono (by with_reducible assumption) hBw1.size)⟩)

set_option maxRecDepth 100000 in
theorem contract (H : Type) (enc : TypeId × Value → H) (W : World) (base : Nat) (args : Array Value) (ds gs : List (DataW H)) (before : List MemPlace)
    (hval : ∀ (j : Nat) t v, Try.f3.params[j]? = some t → args[j]? = some v → Value.okWide Try.prog W .any base t v)
    (hW : DataW.Whole enc Try.prog Try.f3.params.toList Rows.fnGreatestFlowSpec.vars false W args.toList ds gs before) :
    Calls Try.prog 3 args W fun e W' => ∃ v, e = .returned v ∧ Rows.fnGreatestFlowSpec.post enc Try.prog Try.f3 false true false false W args v W' := by
  have hW' := hW
  obtain ⟨p, q, hA0, hV, rfl, hfz, hnd⟩ := hW
  have hA : DataW.TrodAll enc Try.prog W 0 (fun _ => true) true Try.f3.params.toList args.toList ds p := hA0
  rw [Try.params3] at hA hval
  obtain ⟨u0, us0, d0, ds0, p0, q0, hargs, rfl, rfl, g0, k0⟩ := trodAll_cons hA
  obtain ⟨rfl, rfl, rfl⟩ := trodAll_nil k0
  obtain rfl : args = #[u0] := by cases args; simp_all
  obtain ⟨rfl, rfl⟩ := trodVars_none hV
  obtain ⟨m0, e0⟩ := g0
  obtain ⟨s0, l0, f0, hh0⟩ := open_arg_bytes e0
  have f0' := one_of_cells Try.underlying22 (hval 0 _ _ rfl rfl) f0
  subst f0'
  refine (walk _ l0 W hh0).mono fun e W' ⟨he, hb⟩ => ?_
  subst he
  exact ⟨_, rfl, law_post Try.kids Try.full (by rw [Try.params3]; decide) rfl rfl Try.underlying4 hW' rfl rfl rfl hb⟩

set_option maxRecDepth 100000 in
theorem lifted (os : Os) (started : os.Started) (H : Type) (enc : TypeId × Value → H) :
    ReturnsInHanded {} Try.checked os 3 .any (Rows.fnGreatestFlowSpec.pre6 enc Try.prog Try.f3 Rows.fnGreatestFlowRow.domain false) (Rows.fnGreatestFlowSpec.post enc Try.prog Try.f3 false true false false) := by
  refine returnsInHanded_of_change (C := Try.checked) Try.own started (by kernel_rfl) Try.func3
    (ChangeSpec.witness6 (enc := enc) (C := Try.checked) false ⟨#[], #[.slice none 0 0], []⟩ 8 (by kernel_rfl) (by kernel_rfl) (by kernel_rfl) (by kernel_rfl)) ?_
  intro W base args ds gs before hval0 hW _ _
  exact contract H enc W base args ds gs before hval0 hW

theorem proved : Rows.FnGreatestFlowSaid :=
  OpenClaim.holds_of_wide 3 Try.f3 rfl rfl rfl rfl rfl rfl rfl ⟨rfl, rfl, rfl, rfl, rfl⟩ rfl rfl rfl rfl rfl (by kernel_rfl) Try.func3 (by kernel_rfl)
    (of_decide_eq_true (by kernel_rfl)) (by unfold Func.isWrapper; first | (rw [if_pos (by decide +kernel)]; kernel_rfl) | (rw [if_neg (by decide +kernel)]; exact ⟨rfl, rfl⟩))
    (fun os started H enc _ => lifted os started H enc)

end Go.Proofs.Ytobbeofibkpbaaa.lawGreatestFlow
