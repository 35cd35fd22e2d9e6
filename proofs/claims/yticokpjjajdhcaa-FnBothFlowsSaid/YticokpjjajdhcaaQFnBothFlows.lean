/- FnBothFlows: for every code the law holds: the program's BothFlows answers as the model; the excess of each node is the sum of both; exchanged it is the same; balanced flows together are balanced. No condition. -/
import Derived.Test.YticokpjjajdhcaaL2
import Derived.Test.YticokpjjajdhcaaMG
import Derived.Test.YticokpjjajdhcaaW3
import Derived.Test.YticokpjjajdhcaaW4
import Derived.Test.YticokpjjajdhcaaS4
namespace Go.Proofs.Yticokpjjajdhcaa.lawBothFlows
open Go.ChangeShapes Go.WideShapes Go.ChangeAt Go.RowKit Go.Deep Go.Joins

theorem excAt_add {n : Int} {ps : List Pp} {xs ys : List Int} {k : Int} (h : bothB n ps xs ys = true) (h0 : 0 ≤ k) (h1 : k < n) :
    ((excAt n ps xs k).2 = true ∧ (excAt n ps ys k).2 = true ∧ (excAt n ps (addAll xs ys) k).2 = true) ∧ (excAt n ps xs k).1 = exc k ps xs ∧ (excAt n ps ys k).1 = exc k ps ys ∧ (excAt n ps (addAll xs ys) k).1 = exc k ps xs + exc k ps ys := by
  simp only [bothB, Bool.and_eq_true] at h
  have a := excAt_yes h.1.1 h0 h1
  have b := excAt_yes h.1.2 h0 h1
  have c := excAt_yes h.2 h0 h1
  rw [exc_add k ps xs ys (flowOk_parts h.1.1).2.1 (flowOk_parts h.1.2).2.1] at c
  exact ⟨⟨a.2, b.2, c.2⟩, a.1, b.1, c.1⟩

set_option maxRecDepth 20000 in
set_option maxHeartbeats 2000000 in
set_option maxRecDepth 20000 in
theorem walk (v : Value) (n : Nat) (w : World) (h : ArgBytes w v n) :
    Calls Try.prog 7 #[v] w fun e w' => e = .returned (.bool true) ∧ Below w.heap.size w w' := by
  obtain ⟨A, c, rfl, hc1, hc2, -⟩ := id h
  unfold maxLen at hc2
  by_cases hbig : 1048576 < n
  · go_enter Try.func7, Try.ntmps7
    go_wp2
    go_ret
    exact ⟨rfl, by (repeat (first | (with_reducible assumption) | (with_reducible exact Below.refl _ _) | ((with_reducible refine Below.alloc ?_ ?hsz _); (case hsz => (first | omega | (simp; done) | (simp; omega) | (simp at *; omega)))) | ((with_reducible refine Below.setCell ?_ ?hsz _); (case hsz => (first | omega | (simp; done) | (simp; omega) | (simp at *; omega)))) | (with_reducible refine Below.drew ?_) | (with_reducible refine below_drewN ?_ _) | ((with_reducible refine Below.trans ?_ (Below.mono (by with_reducible assumption) ?hsz)); (case hsz => (first | omega | (simp; done) | (simp; omega) | (simp at *; omega))))))⟩
  go_enter Try.func7, Try.ntmps7
  go_wp2_with fail
  with_reducible refine (drawBothFlows_any _ n _ (h.keep (by (repeat (first | (with_reducible assumption) | (with_reducible exact Below.refl _ _) | ((with_reducible refine Below.alloc ?_ ?hsz _); (case hsz => (first | omega | (simp; done) | (simp; omega) | (simp at *; omega)))) | ((with_reducible refine Below.setCell ?_ ?hsz _); (case hsz => (first | omega | (simp; done) | (simp; omega) | (simp at *; omega)))) | (with_reducible refine Below.drew ?_) | (with_reducible refine below_drewN ?_ _) | ((with_reducible refine Below.trans ?_ (Below.mono (by with_reducible assumption) ?hsz)); (case hsz => (first | omega | (simp; done) | (simp; omega) | (simp at *; omega))))))))).mono ?_
  rintro e w1 ⟨z, ps, u, xs, t, ys, r, rfl, hp, hx, hy, hb1, hl8, hz1, hz6⟩
  have hBw1 : Below w.heap.size w w1 := by (repeat (first | (with_reducible assumption) | (with_reducible exact Below.refl _ _) | ((with_reducible refine Below.alloc ?_ ?hsz _); (case hsz => (first | omega | (simp; done) | (simp; omega) | (simp at *; omega)))) | ((with_reducible refine Below.setCell ?_ ?hsz _); (case hsz => (first | omega | (simp; done) | (simp; omega) | (simp at *; omega)))) | (with_reducible refine Below.drew ?_) | (with_reducible refine below_drewN ?_ _) | ((with_reducible refine Below.trans ?_ (Below.mono (by with_reducible assumption) ?hsz)); (case hsz => (first | omega | (simp; done) | (simp; omega) | (simp at *; omega))))))
  clear h hc1 hc2 hbig
  obtain ⟨A1, c1, rfl, hk1, hk2, hsm, -⟩ := hp.form
  unfold maxLen at hk2
  have bx1 : Box2 (w1.alloc (.cells #[.int .i64 z, .slice A1 ps.length c1] 25)) w1.heap.size (.int .i64 z) (.slice A1 ps.length c1) := Box2.new _ _ _ _
  have hB1 : Below w1.heap.size w1 (w1.alloc (.cells #[.int .i64 z, .slice A1 ps.length c1] 25)) := by (repeat (first | (with_reducible assumption) | (with_reducible exact Below.refl _ _) | ((with_reducible refine Below.alloc ?_ ?hsz _); (case hsz => (first | omega | (simp; done) | (simp; omega) | (simp at *; omega)))) | ((with_reducible refine Below.setCell ?_ ?hsz _); (case hsz => (first | omega | (simp; done) | (simp; omega) | (simp at *; omega)))) | (with_reducible refine Below.drew ?_) | (with_reducible refine below_drewN ?_ _) | ((with_reducible refine Below.trans ?_ (Below.mono (by with_reducible assumption) ?hsz)); (case hsz => (first | omega | (simp; done) | (simp; omega) | (simp at *; omega))))))
  go_wp2_with fail
  with_reducible refine (bothFlows_any z _ _ _ ps xs ys _ _ _ _ (hp.keep hB1) (hx.keep hB1) (hy.keep hB1)).mono ?_
  rintro e w2 ⟨s2, rfl, hs2, hnn⟩
  have bx2 := bx1.keep hnn
  have hB2 : Below w1.heap.size w1 w2 := by (repeat (first | (with_reducible assumption) | (with_reducible exact Below.refl _ _) | ((with_reducible refine Below.alloc ?_ ?hsz _); (case hsz => (first | omega | (simp; done) | (simp; omega) | (simp at *; omega)))) | ((with_reducible refine Below.setCell ?_ ?hsz _); (case hsz => (first | omega | (simp; done) | (simp; omega) | (simp at *; omega)))) | (with_reducible refine Below.drew ?_) | (with_reducible refine below_drewN ?_ _) | ((with_reducible refine Below.trans ?_ (Below.mono (by with_reducible assumption) ?hsz)); (case hsz => (first | omega | (simp; done) | (simp; omega) | (simp at *; omega))))))
  clear hnn
  obtain ⟨bs, d0, d1, g0, g1⟩ := id bx2
  go_wp2_with fail
  with_reducible refine (specBothFlows_any z _ _ _ ps xs ys _ _ _ _ (hp.keep hB2) (hx.keep hB2) (hy.keep hB2)).mono ?_
  rintro e w3 ⟨s3, rfl, hs3, hnn⟩
  have bx3 := bx2.keep hnn
  have hs23 := hs2.keep hnn
  have hB3 : Below w1.heap.size w1 w3 := by (repeat (first | (with_reducible assumption) | (with_reducible exact Below.refl _ _) | ((with_reducible refine Below.alloc ?_ ?hsz _); (case hsz => (first | omega | (simp; done) | (simp; omega) | (simp at *; omega)))) | ((with_reducible refine Below.setCell ?_ ?hsz _); (case hsz => (first | omega | (simp; done) | (simp; omega) | (simp at *; omega)))) | (with_reducible refine Below.drew ?_) | (with_reducible refine below_drewN ?_ _) | ((with_reducible refine Below.trans ?_ (Below.mono (by with_reducible assumption) ?hsz)); (case hsz => (first | omega | (simp; done) | (simp; omega) | (simp at *; omega))))))
  clear hnn d0 d1 g0 g1
  obtain ⟨bs, d0, d1, g0, g1⟩ := id bx3
  go_wp2_with fail
  with_reducible refine (sameInts_any _ _ (bothR z ps xs ys) (bothR z ps xs ys) _ _ _ hs23 hs3).mono ?_
  rintro e w4 ⟨rfl, hnn⟩
  have bx4 := bx3.keep hnn
  have hs24 := hs23.keep hnn
  have hB4 : Below w1.heap.size w1 w4 := by (repeat (first | (with_reducible assumption) | (with_reducible exact Below.refl _ _) | ((with_reducible refine Below.alloc ?_ ?hsz _); (case hsz => (first | omega | (simp; done) | (simp; omega) | (simp at *; omega)))) | ((with_reducible refine Below.setCell ?_ ?hsz _); (case hsz => (first | omega | (simp; done) | (simp; omega) | (simp at *; omega)))) | (with_reducible refine Below.drew ?_) | (with_reducible refine below_drewN ?_ _) | ((with_reducible refine Below.trans ?_ (Below.mono (by with_reducible assumption) ?hsz)); (case hsz => (first | omega | (simp; done) | (simp; omega) | (simp at *; omega))))))
  clear hnn d0 d1 g0 g1 hs23 hs3 hs2
  obtain ⟨bs, d0, d1, g0, g1⟩ := id bx4
  have hdec : decide (bothR z ps xs ys = bothR z ps xs ys) = true := by simp
  rw [hdec]
  clear hdec
  by_cases hok : bothB z ps xs ys = true
  · have HK := Lib.hid hok
    have hR : bothR z ps xs ys = addAll xs ys := by simp [bothR, hok]
    have HR := Lib.hid hR
    have hnok : netOkB z ps = true := by
      simp only [bothB, Bool.and_eq_true] at hok
      exact (flowOk_parts hok.1.1).1
    have hn := netOk_parts hnok
    clear hR
    have hpar := hok
    simp only [bothB, Bool.and_eq_true] at hpar
    obtain ⟨⟨hf1, hf2⟩, hf3⟩ := hpar
    have HF1 := Lib.hid hf1
    have HF2 := Lib.hid hf2
    clear hf1 hf2 hf3
    have hxr := hs24
    rw [HR.out] at hxr
    clear hs24
    have hrw : bothB z ps ys xs = true := by rw [both_comm]; exact hok
    have hrR : bothR z ps ys xs = addAll xs ys := by rw [bothR_comm]; exact HR.out
    have HrR := Lib.hid hrR
    clear hrR
    go_wp2_with fail
    go_loopw [10] (fun i wr => ∃ k : Nat, (k : Int) ≤ z ∧ i = .int .i64 k ∧ Box2 wr w1.heap.size (.int .i64 z) (.slice A1 ps.length c1) ∧ Below w1.heap.size w1 wr ∧ Below w4.heap.size w4 wr) (fun i _ => z.toNat - (intOf i).toNat)
    case atStart => exact ⟨0, by omega, rfl, bx4, hB4, Below.refl _ _⟩
    case round =>
      obtain ⟨k, hk, rfl, bx, hB, hb4⟩ := hrel
      clear d0 d1 g0 g1
      obtain ⟨bs, d0, d1, g0, g1⟩ := id bx
      have hs4 := hb4.size
      by_cases hlt : (k : Int) < z
      · obtain ⟨⟨q1, q2, q3⟩, v1, v2, v3⟩ := excAt_add HK.out (Int.natCast_nonneg k) hlt
        obtain ⟨y1, y2⟩ := exc_bd7 HF1.out (k : Int)
        obtain ⟨y3, y4⟩ := exc_bd7 HF2.out (k : Int)
        go_wp2_with fail
        with_reducible refine (excessAt_any k z _ _ ps xs _ _ _ (hp.keep hB) (hx.keep hB)).mono ?_
        rintro e w5 ⟨rfl, hnn⟩
        have bx5 := (bx).keep hnn
        have hB5 : Below w1.heap.size w1 w5 := by (repeat (first | (with_reducible assumption) | (with_reducible exact Below.refl _ _) | ((with_reducible refine Below.alloc ?_ ?hsz _); (case hsz => (first | omega | (simp; done) | (simp; omega) | (simp at *; omega)))) | ((with_reducible refine Below.setCell ?_ ?hsz _); (case hsz => (first | omega | (simp; done) | (simp; omega) | (simp at *; omega)))) | (with_reducible refine Below.drew ?_) | (with_reducible refine below_drewN ?_ _) | ((with_reducible refine Below.trans ?_ (Below.mono (by with_reducible assumption) ?hsz)); (case hsz => (first | omega | (simp; done) | (simp; omega) | (simp at *; omega))))))
        have hb5 := (hb4).trans (hnn.mono (hb4).size)
        clear hnn
        (try clear d0 d1 g0 g1)
        obtain ⟨bs, d0, d1, g0, g1⟩ := id bx5
        go_wp2_with fail
        with_reducible refine (excessAt_any k z _ _ ps ys _ _ _ (hp.keep hB5) (hy.keep hB5)).mono ?_
        rintro e w6 ⟨rfl, hnn⟩
        have bx6 := (bx5).keep hnn
        have hB6 : Below w1.heap.size w1 w6 := by (repeat (first | (with_reducible assumption) | (with_reducible exact Below.refl _ _) | ((with_reducible refine Below.alloc ?_ ?hsz _); (case hsz => (first | omega | (simp; done) | (simp; omega) | (simp at *; omega)))) | ((with_reducible refine Below.setCell ?_ ?hsz _); (case hsz => (first | omega | (simp; done) | (simp; omega) | (simp at *; omega)))) | (with_reducible refine Below.drew ?_) | (with_reducible refine below_drewN ?_ _) | ((with_reducible refine Below.trans ?_ (Below.mono (by with_reducible assumption) ?hsz)); (case hsz => (first | omega | (simp; done) | (simp; omega) | (simp at *; omega))))))
        have hb6 := (hb5).trans (hnn.mono (hb5).size)
        clear hnn
        (try clear d0 d1 g0 g1)
        obtain ⟨bs, d0, d1, g0, g1⟩ := id bx6
        go_wp2_with fail
        with_reducible refine (excessAt_any k z _ _ ps (addAll xs ys) _ _ _ (hp.keep hB6) (hxr.keep hb6)).mono ?_
        rintro e w7 ⟨rfl, hnn⟩
        have bx7 := (bx6).keep hnn
        have hB7 : Below w1.heap.size w1 w7 := by (repeat (first | (with_reducible assumption) | (with_reducible exact Below.refl _ _) | ((with_reducible refine Below.alloc ?_ ?hsz _); (case hsz => (first | omega | (simp; done) | (simp; omega) | (simp at *; omega)))) | ((with_reducible refine Below.setCell ?_ ?hsz _); (case hsz => (first | omega | (simp; done) | (simp; omega) | (simp at *; omega)))) | (with_reducible refine Below.drew ?_) | (with_reducible refine below_drewN ?_ _) | ((with_reducible refine Below.trans ?_ (Below.mono (by with_reducible assumption) ?hsz)); (case hsz => (first | omega | (simp; done) | (simp; omega) | (simp at *; omega))))))
        have hb7 := (hb6).trans (hnn.mono (hb6).size)
        clear hnn
        (try clear d0 d1 g0 g1)
        obtain ⟨bs, d0, d1, g0, g1⟩ := id bx7
        go_wp2
        go_roundw
        case rel => exact ⟨k + 1, by omega, by go_num, bx7, hB7, hb7⟩
        case measure => simp [intOf]; omega
      · obtain rfl : k = z.toNat := by omega
        go_wp2_with fail
        with_reducible refine (bothFlows_any z _ _ _ ps ys xs _ _ _ _ (hp.keep hB) (hy.keep hB) (hx.keep hB)).mono ?_
        rintro e w5 ⟨s5, rfl, hs5, hnn⟩
        have bx5 := bx.keep hnn
        have hB5 : Below w1.heap.size w1 w5 := by (repeat (first | (with_reducible assumption) | (with_reducible exact Below.refl _ _) | ((with_reducible refine Below.alloc ?_ ?hsz _); (case hsz => (first | omega | (simp; done) | (simp; omega) | (simp at *; omega)))) | ((with_reducible refine Below.setCell ?_ ?hsz _); (case hsz => (first | omega | (simp; done) | (simp; omega) | (simp at *; omega)))) | (with_reducible refine Below.drew ?_) | (with_reducible refine below_drewN ?_ _) | ((with_reducible refine Below.trans ?_ (Below.mono (by with_reducible assumption) ?hsz)); (case hsz => (first | omega | (simp; done) | (simp; omega) | (simp at *; omega))))))
        have hb5 := hb4.trans (hnn.mono hb4.size)
        rw [HrR.out] at hs5
        rw [hrw]
        clear hnn d0 d1 g0 g1
        obtain ⟨bs, d0, d1, g0, g1⟩ := id bx5
        go_wp2_with fail
        with_reducible refine (sameInts_any _ _ (addAll xs ys) (addAll xs ys) _ _ _ hs5 (hxr.keep hb5)).mono ?_
        rintro e w6 ⟨rfl, hnn⟩
        have bx6 := bx5.keep hnn
        have hB6 : Below w1.heap.size w1 w6 := by (repeat (first | (with_reducible assumption) | (with_reducible exact Below.refl _ _) | ((with_reducible refine Below.alloc ?_ ?hsz _); (case hsz => (first | omega | (simp; done) | (simp; omega) | (simp at *; omega)))) | ((with_reducible refine Below.setCell ?_ ?hsz _); (case hsz => (first | omega | (simp; done) | (simp; omega) | (simp at *; omega)))) | (with_reducible refine Below.drew ?_) | (with_reducible refine below_drewN ?_ _) | ((with_reducible refine Below.trans ?_ (Below.mono (by with_reducible assumption) ?hsz)); (case hsz => (first | omega | (simp; done) | (simp; omega) | (simp at *; omega))))))
        have hb6 := hb5.trans (hnn.mono hb5.size)
        clear hnn d0 d1 g0 g1
        obtain ⟨bs, d0, d1, g0, g1⟩ := id bx6
        have hdec : decide (addAll xs ys = addAll xs ys) = true := by simp
        rw [hdec]
        clear hdec
        go_wp2_with fail
        with_reducible refine (balancedOk_any z _ _ ps xs _ _ _ (hp.keep hB6) (hx.keep hB6)).mono ?_
        rintro e w7 ⟨rfl, hnn⟩
        have bx7 := (bx6).keep hnn
        have hB7 : Below w1.heap.size w1 w7 := by (repeat (first | (with_reducible assumption) | (with_reducible exact Below.refl _ _) | ((with_reducible refine Below.alloc ?_ ?hsz _); (case hsz => (first | omega | (simp; done) | (simp; omega) | (simp at *; omega)))) | ((with_reducible refine Below.setCell ?_ ?hsz _); (case hsz => (first | omega | (simp; done) | (simp; omega) | (simp at *; omega)))) | (with_reducible refine Below.drew ?_) | (with_reducible refine below_drewN ?_ _) | ((with_reducible refine Below.trans ?_ (Below.mono (by with_reducible assumption) ?hsz)); (case hsz => (first | omega | (simp; done) | (simp; omega) | (simp at *; omega))))))
        have hb7 := (hb6).trans (hnn.mono (hb6).size)
        clear hnn
        (try clear d0 d1 g0 g1)
        obtain ⟨bs, d0, d1, g0, g1⟩ := id bx7
        have hadd := fun a b => bal_add HK.out a b
        generalize balB z ps xs = ba at *
        cases ba with
        | false =>
          go_wp2
          (go_ret; exact ⟨rfl, hBw1.trans (Below.mono (by with_reducible assumption) hBw1.size)⟩)
        | true =>
          go_wp2_with fail
          with_reducible refine (balancedOk_any z _ _ ps ys _ _ _ (hp.keep hB7) (hy.keep hB7)).mono ?_
          rintro e w8 ⟨rfl, hnn⟩
          have bx8 := (bx7).keep hnn
          have hB8 : Below w1.heap.size w1 w8 := by (repeat (first | (with_reducible assumption) | (with_reducible exact Below.refl _ _) | ((with_reducible refine Below.alloc ?_ ?hsz _); (case hsz => (first | omega | (simp; done) | (simp; omega) | (simp at *; omega)))) | ((with_reducible refine Below.setCell ?_ ?hsz _); (case hsz => (first | omega | (simp; done) | (simp; omega) | (simp at *; omega)))) | (with_reducible refine Below.drew ?_) | (with_reducible refine below_drewN ?_ _) | ((with_reducible refine Below.trans ?_ (Below.mono (by with_reducible assumption) ?hsz)); (case hsz => (first | omega | (simp; done) | (simp; omega) | (simp at *; omega))))))
          have hb8 := (hb7).trans (hnn.mono (hb7).size)
          clear hnn
          (try clear d0 d1 g0 g1)
          obtain ⟨bs, d0, d1, g0, g1⟩ := id bx8
          generalize balB z ps ys = bb at *
          cases bb with
          | false =>
            go_wp2
            (go_ret; exact ⟨rfl, hBw1.trans (Below.mono (by with_reducible assumption) hBw1.size)⟩)
          | true =>
            have hadd' := hadd (by simp) (by simp)
            clear hadd
            go_wp2_with fail
            with_reducible refine (balancedOk_any z _ _ ps (addAll xs ys) _ _ _ (hp.keep hB8) (hxr.keep hb8)).mono ?_
            rintro e w9 ⟨rfl, hnn⟩
            have bx9 := (bx8).keep hnn
            have hB9 : Below w1.heap.size w1 w9 := by (repeat (first | (with_reducible assumption) | (with_reducible exact Below.refl _ _) | ((with_reducible refine Below.alloc ?_ ?hsz _); (case hsz => (first | omega | (simp; done) | (simp; omega) | (simp at *; omega)))) | ((with_reducible refine Below.setCell ?_ ?hsz _); (case hsz => (first | omega | (simp; done) | (simp; omega) | (simp at *; omega)))) | (with_reducible refine Below.drew ?_) | (with_reducible refine below_drewN ?_ _) | ((with_reducible refine Below.trans ?_ (Below.mono (by with_reducible assumption) ?hsz)); (case hsz => (first | omega | (simp; done) | (simp; omega) | (simp at *; omega))))))
            have hb9 := (hb8).trans (hnn.mono (hb8).size)
            clear hnn
            (try clear d0 d1 g0 g1)
            obtain ⟨bs, d0, d1, g0, g1⟩ := id bx9
            go_wp2
            (go_ret; exact ⟨rfl, hBw1.trans (Below.mono (by with_reducible assumption) hBw1.size)⟩)
  · have hok' : bothB z ps xs ys = false := by simpa using hok
    have hR : bothR z ps xs ys = [] := by simp [bothR, hok']
    rw [hR] at hs24
    obtain ⟨A2, c2, rfl, -, -, -, -⟩ := hs24.form
    go_wp2_with fail
    with_reducible refine (alive_any _).mono ?_
    rintro e w5 ⟨rfl, hnn⟩
    have bx5 := (bx4).keep hnn
    have hB5 : Below w1.heap.size w1 w5 := by (repeat (first | (with_reducible assumption) | (with_reducible exact Below.refl _ _) | ((with_reducible refine Below.alloc ?_ ?hsz _); (case hsz => (first | omega | (simp; done) | (simp; omega) | (simp at *; omega)))) | ((with_reducible refine Below.setCell ?_ ?hsz _); (case hsz => (first | omega | (simp; done) | (simp; omega) | (simp at *; omega)))) | (with_reducible refine Below.drew ?_) | (with_reducible refine below_drewN ?_ _) | ((with_reducible refine Below.trans ?_ (Below.mono (by with_reducible assumption) ?hsz)); (case hsz => (first | omega | (simp; done) | (simp; omega) | (simp at *; omega))))))
    clear hnn
    (try clear d0 d1 g0 g1)
    obtain ⟨bs, d0, d1, g0, g1⟩ := id bx5
    go_wp2
    (go_ret; exact ⟨rfl, hBw1.trans (Below.mono (by with_reducible assumption) hBw1.size)⟩)

set_option maxRecDepth 100000 in
theorem contract (H : Type) (enc : TypeId × Value → H) (W : World) (base : Nat) (args : Array Value) (ds gs : List (DataW H)) (before : List MemPlace)
    (hval : ∀ (j : Nat) t v, Try.f7.params[j]? = some t → args[j]? = some v → Value.okWide Try.prog W .any base t v)
    (hW : DataW.Whole enc Try.prog Try.f7.params.toList Rows.fnBothFlowsSpec.vars false W args.toList ds gs before) :
    Calls Try.prog 7 args W fun e W' => ∃ v, e = .returned v ∧ Rows.fnBothFlowsSpec.post enc Try.prog Try.f7 false true false false W args v W' := by
  have hW' := hW
  obtain ⟨p, q, hA0, hV, rfl, hfz, hnd⟩ := hW
  have hA : DataW.TrodAll enc Try.prog W 0 (fun _ => true) true Try.f7.params.toList args.toList ds p := hA0
  rw [Try.params7] at hA hval
  obtain ⟨u0, us0, d0, ds0, p0, q0, hargs, rfl, rfl, g0, k0⟩ := trodAll_cons hA
  obtain ⟨rfl, rfl, rfl⟩ := trodAll_nil k0
  obtain rfl : args = #[u0] := by cases args; simp_all
  obtain ⟨rfl, rfl⟩ := trodVars_none hV
  obtain ⟨m0, e0⟩ := g0
  obtain ⟨s0, l0, f0, hh0⟩ := open_arg_bytes e0
  have f0' := one_of_cells Try.underlying22 (hval 0 _ _ rfl rfl) f0
  subst f0'
  refine (walk _ l0 W hh0).mono fun e W' ⟨he, hb⟩ => ?_
  subst he
  exact ⟨_, rfl, law_post Try.kids Try.full (by rw [Try.params7]; decide) rfl rfl Try.underlying4 hW' rfl rfl rfl hb⟩

set_option maxRecDepth 100000 in
theorem lifted (os : Os) (started : os.Started) (H : Type) (enc : TypeId × Value → H) :
    ReturnsInHanded {} Try.checked os 7 .any (Rows.fnBothFlowsSpec.pre6 enc Try.prog Try.f7 Rows.fnBothFlowsRow.domain false) (Rows.fnBothFlowsSpec.post enc Try.prog Try.f7 false true false false) := by
  refine returnsInHanded_of_change (C := Try.checked) Try.own started (by kernel_rfl) Try.func7
    (ChangeSpec.witness6 (enc := enc) (C := Try.checked) false ⟨#[], #[.slice none 0 0], []⟩ 8 (by kernel_rfl) (by kernel_rfl) (by kernel_rfl) (by kernel_rfl)) ?_
  intro W base args ds gs before hval0 hW _ _
  exact contract H enc W base args ds gs before hval0 hW

theorem proved : Rows.FnBothFlowsSaid :=
  OpenClaim.holds_of_wide 7 Try.f7 rfl rfl rfl rfl rfl rfl rfl ⟨rfl, rfl, rfl, rfl, rfl⟩ rfl rfl rfl rfl rfl (by kernel_rfl) Try.func7 (by kernel_rfl)
    (of_decide_eq_true (by kernel_rfl)) (by unfold Func.isWrapper; first | (rw [if_pos (by decide +kernel)]; kernel_rfl) | (rw [if_neg (by decide +kernel)]; exact ⟨rfl, rfl⟩))
    (fun os started H enc _ => lifted os started H enc)

end Go.Proofs.Yticokpjjajdhcaa.lawBothFlows
