/- FnRingsTell: for every code the law holds: a balanced flow is, pipe by pipe, the sum of the program's RingSigns of all pipes that are not of the tree, each times the amount of that pipe. No condition. -/
import Derived.Test.YtmeicnhlehdboaaL1
import Derived.Test.YtmeicnhlehdboaaJ6
import Derived.Test.YtmeicnhlehdboaaDR
import Derived.Test.YtmeicnhlehdboaaU5
import Derived.Test.YtmeicnhlehdboaaS3
namespace Go.Proofs.Ytmeicnhlehdboaa.lawRingsTell
open Go.ChangeShapes Go.WideShapes Go.ChangeAt Go.RowKit Go.Deep Go.Joins

set_option maxHeartbeats 4000000 in
set_option maxRecDepth 20000 in
theorem walk (v : Value) (n : Nat) (w : World) (h : ArgBytes w v n) :
    Calls Try.prog 8 #[v] w fun e w' => e = .returned (.bool true) ∧ Below w.heap.size w w' := by
  obtain ⟨A, c, rfl, hc1, hc2, -⟩ := id h
  unfold maxLen at hc2
  by_cases hbig : 1048576 < n
  · go_enter Try.func8, Try.ntmps8
    go_wp2
    go_ret
    exact ⟨rfl, by (repeat (first | (with_reducible assumption) | (with_reducible exact Below.refl _ _) | ((with_reducible refine Below.alloc ?_ ?hsz _); (case hsz => (first | omega | (simp; done) | (simp; omega) | (simp at *; omega)))) | ((with_reducible refine Below.setCell ?_ ?hsz _); (case hsz => (first | omega | (simp; done) | (simp; omega) | (simp at *; omega)))) | (with_reducible refine Below.drew ?_) | (with_reducible refine below_drewN ?_ _) | ((with_reducible refine Below.trans ?_ (Below.mono (by with_reducible assumption) ?hsz)); (case hsz => (first | omega | (simp; done) | (simp; omega) | (simp at *; omega))))))⟩
  go_enter Try.func8, Try.ntmps8
  go_wp2_with fail
  with_reducible refine (drawRingsOf_any _ n _ (h.keep (by (repeat (first | (with_reducible assumption) | (with_reducible exact Below.refl _ _) | ((with_reducible refine Below.alloc ?_ ?hsz _); (case hsz => (first | omega | (simp; done) | (simp; omega) | (simp at *; omega)))) | ((with_reducible refine Below.setCell ?_ ?hsz _); (case hsz => (first | omega | (simp; done) | (simp; omega) | (simp at *; omega)))) | (with_reducible refine Below.drew ?_) | (with_reducible refine below_drewN ?_ _) | ((with_reducible refine Below.trans ?_ (Below.mono (by with_reducible assumption) ?hsz)); (case hsz => (first | omega | (simp; done) | (simp; omega) | (simp at *; omega))))))))).mono ?_
  rintro e w1 ⟨z, ps, u, xs, t, rfl, hp, hx, hb1, hl8, hz1, hz6⟩
  have hBw1 : Below w.heap.size w w1 := by (repeat (first | (with_reducible assumption) | (with_reducible exact Below.refl _ _) | ((with_reducible refine Below.alloc ?_ ?hsz _); (case hsz => (first | omega | (simp; done) | (simp; omega) | (simp at *; omega)))) | ((with_reducible refine Below.setCell ?_ ?hsz _); (case hsz => (first | omega | (simp; done) | (simp; omega) | (simp at *; omega)))) | (with_reducible refine Below.drew ?_) | (with_reducible refine below_drewN ?_ _) | ((with_reducible refine Below.trans ?_ (Below.mono (by with_reducible assumption) ?hsz)); (case hsz => (first | omega | (simp; done) | (simp; omega) | (simp at *; omega))))))
  clear h hc1 hc2 hbig
  obtain ⟨A1, c1, rfl, hk1, hk2, hsm, -⟩ := hp.form
  unfold maxLen at hk2
  have bx1 : Box2 (w1.alloc (.cells #[.int .i64 z, .slice A1 ps.length c1] 25)) w1.heap.size (.int .i64 z) (.slice A1 ps.length c1) := Box2.new _ _ _ _
  have hB1 : Below w1.heap.size w1 (w1.alloc (.cells #[.int .i64 z, .slice A1 ps.length c1] 25)) := by (repeat (first | (with_reducible assumption) | (with_reducible exact Below.refl _ _) | ((with_reducible refine Below.alloc ?_ ?hsz _); (case hsz => (first | omega | (simp; done) | (simp; omega) | (simp at *; omega)))) | ((with_reducible refine Below.setCell ?_ ?hsz _); (case hsz => (first | omega | (simp; done) | (simp; omega) | (simp at *; omega)))) | (with_reducible refine Below.drew ?_) | (with_reducible refine below_drewN ?_ _) | ((with_reducible refine Below.trans ?_ (Below.mono (by with_reducible assumption) ?hsz)); (case hsz => (first | omega | (simp; done) | (simp; omega) | (simp at *; omega))))))
  obtain ⟨AX, cX, rfl, xk1, xk2, xk3, xcell⟩ := hx.form
  unfold maxLen at xk2
  obtain ⟨bs, d0, d1, g0, g1⟩ := id bx1
  go_wp2_with fail
  with_reducible refine (specBalancedOk_any z _ _ ps xs _ _ _ (hp.keep hB1) (hx.keep hB1)).mono ?_
  rintro e w2 ⟨rfl, hnn⟩
  have bx2 := (bx1).keep hnn
  have hB2 : Below w1.heap.size w1 w2 := by (repeat (first | (with_reducible assumption) | (with_reducible exact Below.refl _ _) | ((with_reducible refine Below.alloc ?_ ?hsz _); (case hsz => (first | omega | (simp; done) | (simp; omega) | (simp at *; omega)))) | ((with_reducible refine Below.setCell ?_ ?hsz _); (case hsz => (first | omega | (simp; done) | (simp; omega) | (simp at *; omega)))) | (with_reducible refine Below.drew ?_) | (with_reducible refine below_drewN ?_ _) | ((with_reducible refine Below.trans ?_ (Below.mono (by with_reducible assumption) ?hsz)); (case hsz => (first | omega | (simp; done) | (simp; omega) | (simp at *; omega))))))
  clear hnn
  (try clear d0 d1 g0 g1)
  obtain ⟨bs, d0, d1, g0, g1⟩ := id bx2
  cases hbal : balB z ps xs with
  | false =>
    go_wp2_with fail
    with_reducible refine (alive_any _).mono ?_
    rintro e w3 ⟨rfl, hnn⟩
    have bx3 := (bx2).keep hnn
    have hB3 : Below w1.heap.size w1 w3 := by (repeat (first | (with_reducible assumption) | (with_reducible exact Below.refl _ _) | ((with_reducible refine Below.alloc ?_ ?hsz _); (case hsz => (first | omega | (simp; done) | (simp; omega) | (simp at *; omega)))) | ((with_reducible refine Below.setCell ?_ ?hsz _); (case hsz => (first | omega | (simp; done) | (simp; omega) | (simp at *; omega)))) | (with_reducible refine Below.drew ?_) | (with_reducible refine below_drewN ?_ _) | ((with_reducible refine Below.trans ?_ (Below.mono (by with_reducible assumption) ?hsz)); (case hsz => (first | omega | (simp; done) | (simp; omega) | (simp at *; omega))))))
    clear hnn
    (try clear d0 d1 g0 g1)
    obtain ⟨bs, d0, d1, g0, g1⟩ := id bx3
    go_wp2
    (go_ret; exact ⟨rfl, hBw1.trans (Below.mono (by with_reducible assumption) hBw1.size)⟩)
  | true =>
    have HT := Lib.hid (tell_all hbal)
    have hf := (Bool.and_eq_true _ _ ▸ hbal : flowOkB z ps xs = true ∧ _).1
    obtain ⟨hn, hlen, hall⟩ := flowOk_parts hf
    obtain ⟨n2, n5, h7, -⟩ := netOk_parts hn
    have HF := Lib.hid (And.intro hn (And.intro hlen hall))
    have hx7 : xs.length ≤ 7 := by omega
    have HM := Lib.hid (Ints_made w2 (n := xs.length) (b := w2.heap.size) (g := w2.heap.size) (Nat.le_refl _) (by omega) rfl)
    have hmk := fun V => run_make_ints (n := xs.length) (by omega) V
    have hRm : Row (w2.alloc (.cells (madeCells #[.int .i64 0] xs.length) 3)) w2.heap.size w2.heap.size xs.length xs.length (tellL z ps xs 0) := by
      have h0 := own_made7 w2 (N := xs.length) (by omega)
      rw [hlen] at h0 ⊢
      exact h0
    have HRm := Lib.hid hRm
    have bx3 := bx2.keep ((Below.refl w2.heap.size w2).alloc (Nat.le_refl _) (.cells (madeCells #[.int .i64 0] xs.length) 3))
    have hB3 : Below w1.heap.size w1 (w2.alloc (.cells (madeCells #[.int .i64 0] xs.length) 3)) := by (repeat (first | (with_reducible assumption) | (with_reducible exact Below.refl _ _) | ((with_reducible refine Below.alloc ?_ ?hsz _); (case hsz => (first | omega | (simp; done) | (simp; omega) | (simp at *; omega)))) | ((with_reducible refine Below.setCell ?_ ?hsz _); (case hsz => (first | omega | (simp; done) | (simp; omega) | (simp at *; omega)))) | (with_reducible refine Below.drew ?_) | (with_reducible refine below_drewN ?_ _) | ((with_reducible refine Below.trans ?_ (Below.mono (by with_reducible assumption) ?hsz)); (case hsz => (first | omega | (simp; done) | (simp; omega) | (simp at *; omega))))))
    have HZ : Hid (w1.heap.size < w2.heap.size) := Lib.hid (by have := bx2.1; omega)
    clear hbal hf hn hlen hall hRm HM
    go_wp2
    go_loopw [6] (fun i wr => ∃ k : Nat, k ≤ xs.length ∧ i = .int .i64 (k : Int) ∧ Row wr w2.heap.size w2.heap.size xs.length xs.length (tellL z ps xs k) ∧ Box2 wr w1.heap.size (.int .i64 z) (.slice A1 ps.length c1) ∧ Below w1.heap.size w1 wr ∧ Below w2.heap.size w2 wr) (fun i _ => xs.length - (intOf i).toNat)
    case atStart => exact ⟨0, by omega, rfl, HRm.out, bx3, hB3, by (repeat (first | (with_reducible assumption) | (with_reducible exact Below.refl _ _) | ((with_reducible refine Below.alloc ?_ ?hsz _); (case hsz => (first | omega | (simp; done) | (simp; omega) | (simp at *; omega)))) | ((with_reducible refine Below.setCell ?_ ?hsz _); (case hsz => (first | omega | (simp; done) | (simp; omega) | (simp at *; omega)))) | (with_reducible refine Below.drew ?_) | (with_reducible refine below_drewN ?_ _) | ((with_reducible refine Below.trans ?_ (Below.mono (by with_reducible assumption) ?hsz)); (case hsz => (first | omega | (simp; done) | (simp; omega) | (simp at *; omega))))))⟩
    case round =>
      clear HRm bx3 hB3 bx2 hB2 d0 d1 g0 g1 bs
      obtain ⟨k, hk, rfl, hR, bx, hB, hC⟩ := hrel
      obtain ⟨bs, d0, d1, g0, g1⟩ := id bx
      by_cases hlt : k < xs.length
      · have hkp : k < ps.length := by have := HF.out.2.1; omega
        have hgR := hR.lt.2
        go_wp2_with fail
        with_reducible refine (ringSigns_any z (k : Int) _ ps _ _ (hp.keep hB)).mono ?_
        rintro e w4 ⟨r4, rfl, hr4, hnn⟩
        have bx4 := bx.keep hnn
        have hB4 : Below w1.heap.size w1 w4 := by (repeat (first | (with_reducible assumption) | (with_reducible exact Below.refl _ _) | ((with_reducible refine Below.alloc ?_ ?hsz _); (case hsz => (first | omega | (simp; done) | (simp; omega) | (simp at *; omega)))) | ((with_reducible refine Below.setCell ?_ ?hsz _); (case hsz => (first | omega | (simp; done) | (simp; omega) | (simp at *; omega)))) | (with_reducible refine Below.drew ?_) | (with_reducible refine below_drewN ?_ _) | ((with_reducible refine Below.trans ?_ (Below.mono (by with_reducible assumption) ?hsz)); (case hsz => (first | omega | (simp; done) | (simp; omega) | (simp at *; omega))))))
        have hC4 : Below w2.heap.size w2 w4 := hC.trans (hnn.mono hC.size)
        have hR4 := hR.keep hnn
        clear hnn bx hB hC hR d0 d1 g0 g1 bs
        obtain ⟨bs, d0, d1, g0, g1⟩ := id bx4
        obtain ⟨A4, c4, rfl, k41, k42, -, cell4⟩ := hr4.form
        unfold maxLen at k42
        cases hsb : signB z ps (k : Int) with
        | false =>
          have Hno := Lib.hid (tellL_no (xs := xs) hsb)
          obtain ⟨L4, hL4⟩ : ∃ L4, (signsR z ps (k : Int)).length = L4 := ⟨_, rfl⟩
          rw [hL4] at k41 ⊢
          clear hr4 hL4 cell4
          go_wp2
          go_loopw [9] (fun i wr => i = .int .i64 0 ∧ w4 = wr) (fun _ _ => 0)
          case atStart => exact ⟨rfl, rfl⟩
          case round =>
            obtain ⟨rfl, hw⟩ := hrel
            subst hw
            go_wp2
            go_roundw
            case rel => exact ⟨k + 1, by omega, by go_num, by rw [Hno.out]; exact hR4, bx4, hB4, hC4⟩
            case measure => simp [intOf]; omega
        | true =>
          have Hyes := Lib.hid (tellL_yes (xs := xs) hsb)
          have Hsg := Lib.hid (signsR_ring hsb).2
          have Hxs := HF.out.2.2
          have HB := Lib.hid (fun j => tellL_bd (n := z) (ps := ps) HF.out.2.2 k j)
          have hlS := signsR_lenE hsb
          have HX := Lib.hid (xs_bd HF.out.2.2 k)
          have HL : Hid (ps.length = xs.length) := Lib.hid HF.out.2.1.symm
          have hlT : (tellL z ps xs k).length = xs.length := by rw [tellL_len]; exact HL.out
          rw [HL.out] at hlS Hyes
          obtain ⟨sg, hsg⟩ : ∃ sg, signsR z ps (k : Int) = sg := ⟨_, rfl⟩
          rw [hsg] at hr4 k41 cell4 hlS Hyes Hsg ⊢
          rw [hlS] at k41 ⊢
          have hneq : ((xs.length : Int) != (xs.length : Int)) = false := by simp
          obtain ⟨X, hX⟩ : ∃ X, tellL z ps xs k = X := ⟨_, rfl⟩
          rw [hX] at hR4 Hyes HB hlT
          have HLS := Lib.hid (And.intro hlS hlT)
          have HCX := Lib.hid xcell
          have hr4' : Ints w4 (w2.heap.size + 1) (.slice A4 sg.length c4) sg := hr4.mono (Nat.succ_le_of_lt hgR)
          clear hsg hX hlS hlT Hxs cell4 hr4
          go_wp2
          go_loopw [9] (fun i wr => ∃ j : Nat, j ≤ xs.length ∧ i = .int .i64 (j : Int) ∧ Row wr w2.heap.size w2.heap.size xs.length xs.length (addTo X sg (xs.getD k 0) j) ∧ Box2 wr w1.heap.size (.int .i64 z) (.slice A1 ps.length c1) ∧ Below w1.heap.size w1 wr ∧ Below w2.heap.size w2 wr ∧ Ints wr (w2.heap.size + 1) (.slice A4 xs.length c4) sg) (fun i _ => xs.length - (intOf i).toNat)
          case atStart => exact ⟨0, by omega, rfl, hR4, bx4, hB4, hC4, by have := hr4'; rw [HLS.out.1] at this; exact this⟩
          case round =>
            clear hR4 bx4 hB4 hC4 d0 d1 g0 g1 bs hr4'
            obtain ⟨j, hj, rfl, hR, bx, hB, hC, hS⟩ := hrel
            obtain ⟨bs, d0, d1, g0, g1⟩ := id bx
            by_cases hjl : j < xs.length
            · have hjs : j < sg.length := by rw [HLS.out.1]; exact hjl
              obtain ⟨gs, es, -, hgs2, cs, -⟩ := hS.cellAt (Below.refl _ _) j hjs
              subst es
              obtain ⟨gx, ex, -, hgx2, cx, -⟩ := HCX.out wr hB k hlt
              subst ex
              obtain ⟨y0, y1⟩ := hR.at' j hjl
              have hy : (addTo X sg (xs.getD k 0) j).getD j 0 = X.getD j 0 := by rw [addTo_getD _ _ _ _ _ (by rw [HLS.out.2]; omega), if_neg (by omega)]
              have hyb := HB.out j
              have hsb1 := Hsg.out sg[j] (List.getElem_mem hjs)
              have hxb1 := HF.out.2.2 _ (List.getElem_mem hlt)
              have hgj : sg.getD j 0 = sg[j] := by rw [List.getD_eq_getElem?_getD, List.getElem?_eq_getElem hjs]; rfl
              have hgk : xs.getD k 0 = xs[k] := by rw [List.getD_eq_getElem?_getD, List.getElem?_eq_getElem hlt]; rfl
              have Hn : Hid (addTo X sg (xs.getD k 0) (j + 1) = (addTo X sg (xs.getD k 0) j).set j (X.getD j 0 + sg[j] * xs[k])) := Lib.hid (by rw [addTo, hy, hgj, hgk])
              have hmb := sx_bd hsb1 hxb1
              rw [hy] at y0
              obtain ⟨Y, hY⟩ : ∃ Y, addTo X sg (xs.getD k 0) j = Y := ⟨_, rfl⟩
              rw [hY] at hR Hn
              generalize X.getD j 0 = yv at *
              generalize sg[j] = sv at *
              generalize xs[k] = xv at *
              obtain ⟨m1, m2⟩ := hmb
              obtain ⟨n1, n2'⟩ := hyb
              have n3 : -300 ≤ yv := by omega
              have n4 : yv ≤ 300 := by omega
              have h1 := IntWalk.i64_in (sv * xv) (by omega)
              have h2 := IntWalk.wrap64_in (sv * xv) (by omega)
              have HR := Lib.hid (hR.set j (yv + sv * xv))
              have hglr := hR.lt.2
              have hgxr : gx < wr.heap.size := by have := hB.size; omega
              have hjL : (j : Int) < (xs.length : Int) := by omega
              have hkL : (k : Int) < (xs.length : Int) := by omega
              have hgs : gs ≠ w2.heap.size := by
                intro e
                have := (hS.1.lt gs rfl).1
                omega
              have hB2s : w1.heap.size < w2.heap.size := HZ.out
              have hS' : Ints (wr.setCell ⟨w2.heap.size, j, none⟩ (.int .i64 (yv + sv * xv))) (w2.heap.size + 1) (.slice (some ⟨gs, 0, none⟩) xs.length c4) sg := hS.setLow (by simp)
              have bx' := bx.far (p := ⟨w2.heap.size, j, none⟩) (by simp; omega) (.int .i64 (yv + sv * xv))
              clear hy hsb1 hxb1 hgj hgk hY n1 n2'
              go_wp2
              go_region
              go_wp2
              go_roundw
              case rel => exact ⟨j + 1, by omega, by go_num, by rw [Hn.out]; exact HR.out.keep (by (repeat (first | (with_reducible assumption) | (with_reducible exact Below.refl _ _) | ((with_reducible refine Below.alloc ?_ ?hsz _); (case hsz => (first | omega | (simp; done) | (simp; omega) | (simp at *; omega)))) | ((with_reducible refine Below.setCell ?_ ?hsz _); (case hsz => (first | omega | (simp; done) | (simp; omega) | (simp at *; omega)))) | (with_reducible refine Below.drew ?_) | (with_reducible refine below_drewN ?_ _) | ((with_reducible refine Below.trans ?_ (Below.mono (by with_reducible assumption) ?hsz)); (case hsz => (first | omega | (simp; done) | (simp; omega) | (simp at *; omega))))))), bx'.keep (by (repeat (first | (with_reducible assumption) | (with_reducible exact Below.refl _ _) | ((with_reducible refine Below.alloc ?_ ?hsz _); (case hsz => (first | omega | (simp; done) | (simp; omega) | (simp at *; omega)))) | ((with_reducible refine Below.setCell ?_ ?hsz _); (case hsz => (first | omega | (simp; done) | (simp; omega) | (simp at *; omega)))) | (with_reducible refine Below.drew ?_) | (with_reducible refine below_drewN ?_ _) | ((with_reducible refine Below.trans ?_ (Below.mono (by with_reducible assumption) ?hsz)); (case hsz => (first | omega | (simp; done) | (simp; omega) | (simp at *; omega))))))), by (repeat (first | (with_reducible assumption) | (with_reducible exact Below.refl _ _) | ((with_reducible refine Below.alloc ?_ ?hsz _); (case hsz => (first | omega | (simp; done) | (simp; omega) | (simp at *; omega)))) | ((with_reducible refine Below.setCell ?_ ?hsz _); (case hsz => (first | omega | (simp; done) | (simp; omega) | (simp at *; omega)))) | (with_reducible refine Below.drew ?_) | (with_reducible refine below_drewN ?_ _) | ((with_reducible refine Below.trans ?_ (Below.mono (by with_reducible assumption) ?hsz)); (case hsz => (first | omega | (simp; done) | (simp; omega) | (simp at *; omega)))))), by (repeat (first | (with_reducible assumption) | (with_reducible exact Below.refl _ _) | ((with_reducible refine Below.alloc ?_ ?hsz _); (case hsz => (first | omega | (simp; done) | (simp; omega) | (simp at *; omega)))) | ((with_reducible refine Below.setCell ?_ ?hsz _); (case hsz => (first | omega | (simp; done) | (simp; omega) | (simp at *; omega)))) | (with_reducible refine Below.drew ?_) | (with_reducible refine below_drewN ?_ _) | ((with_reducible refine Below.trans ?_ (Below.mono (by with_reducible assumption) ?hsz)); (case hsz => (first | omega | (simp; done) | (simp; omega) | (simp at *; omega)))))), hS'.keep (by (repeat (first | (with_reducible assumption) | (with_reducible exact Below.refl _ _) | ((with_reducible refine Below.alloc ?_ ?hsz _); (case hsz => (first | omega | (simp; done) | (simp; omega) | (simp at *; omega)))) | ((with_reducible refine Below.setCell ?_ ?hsz _); (case hsz => (first | omega | (simp; done) | (simp; omega) | (simp at *; omega)))) | (with_reducible refine Below.drew ?_) | (with_reducible refine below_drewN ?_ _) | ((with_reducible refine Below.trans ?_ (Below.mono (by with_reducible assumption) ?hsz)); (case hsz => (first | omega | (simp; done) | (simp; omega) | (simp at *; omega)))))))⟩
              case measure => simp [intOf]; omega
            · have hjj : j = xs.length := by omega
              rw [hjj, ← Hyes.out] at hR
              clear hS
              go_wp2
              go_roundw
              case rel => exact ⟨k + 1, by omega, by go_num, hR, bx, hB, hC⟩
              case measure => simp [intOf]; omega
      · have hkk : k = xs.length := by omega
        have hR' : Row wr w2.heap.size w2.heap.size xs.length xs.length xs := by
          have h1 := HT.out
          rw [← HF.out.2.1] at h1
          rw [hkk, h1] at hR
          exact hR
        clear hR
        go_wp2_with fail
        with_reducible refine (alive_any _).mono ?_
        rintro e w5 ⟨rfl, hnn⟩
        have hB5 : Below w1.heap.size w1 w5 := by (repeat (first | (with_reducible assumption) | (with_reducible exact Below.refl _ _) | ((with_reducible refine Below.alloc ?_ ?hsz _); (case hsz => (first | omega | (simp; done) | (simp; omega) | (simp at *; omega)))) | ((with_reducible refine Below.setCell ?_ ?hsz _); (case hsz => (first | omega | (simp; done) | (simp; omega) | (simp at *; omega)))) | (with_reducible refine Below.drew ?_) | (with_reducible refine below_drewN ?_ _) | ((with_reducible refine Below.trans ?_ (Below.mono (by with_reducible assumption) ?hsz)); (case hsz => (first | omega | (simp; done) | (simp; omega) | (simp at *; omega))))))
        have hR5 := hR'.keep hnn
        have hz5 := hB5.size
        clear hnn
        go_wp2_with fail
        with_reducible refine (sameInts_any _ _ xs xs _ _ _ hR5.ints (hx.keep hB5)).mono ?_
        rintro e w6 ⟨rfl, hnn⟩
        have hB6 : Below w1.heap.size w1 w6 := by (repeat (first | (with_reducible assumption) | (with_reducible exact Below.refl _ _) | ((with_reducible refine Below.alloc ?_ ?hsz _); (case hsz => (first | omega | (simp; done) | (simp; omega) | (simp at *; omega)))) | ((with_reducible refine Below.setCell ?_ ?hsz _); (case hsz => (first | omega | (simp; done) | (simp; omega) | (simp at *; omega)))) | (with_reducible refine Below.drew ?_) | (with_reducible refine below_drewN ?_ _) | ((with_reducible refine Below.trans ?_ (Below.mono (by with_reducible assumption) ?hsz)); (case hsz => (first | omega | (simp; done) | (simp; omega) | (simp at *; omega))))))
        have hdec : decide (xs = xs) = true := by simp
        rw [hdec]
        go_wp2
        (go_ret; exact ⟨rfl, hBw1.trans (Below.mono (by with_reducible assumption) hBw1.size)⟩)

set_option maxRecDepth 100000 in
theorem contract (H : Type) (enc : TypeId × Value → H) (W : World) (base : Nat) (args : Array Value) (ds gs : List (DataW H)) (before : List MemPlace)
    (hval : ∀ (j : Nat) t v, Try.f8.params[j]? = some t → args[j]? = some v → Value.okWide Try.prog W .any base t v)
    (hW : DataW.Whole enc Try.prog Try.f8.params.toList Rows.fnRingsTellSpec.vars false W args.toList ds gs before) :
    Calls Try.prog 8 args W fun e W' => ∃ v, e = .returned v ∧ Rows.fnRingsTellSpec.post enc Try.prog Try.f8 false true false false W args v W' := by
  have hW' := hW
  obtain ⟨p, q, hA0, hV, rfl, hfz, hnd⟩ := hW
  have hA : DataW.TrodAll enc Try.prog W 0 (fun _ => true) true Try.f8.params.toList args.toList ds p := hA0
  rw [Try.params8] at hA hval
  obtain ⟨u0, us0, d0, ds0, p0, q0, hargs, rfl, rfl, g0, k0⟩ := trodAll_cons hA
  obtain ⟨rfl, rfl, rfl⟩ := trodAll_nil k0
  obtain rfl : args = #[u0] := by cases args; simp_all
  obtain ⟨rfl, rfl⟩ := trodVars_none hV
  obtain ⟨m0, e0⟩ := g0
  obtain ⟨s0, l0, f0, hh0⟩ := open_arg_bytes e0
  have f0' := one_of_cells Try.underlying22 (hval 0 _ _ rfl rfl) f0
  subst f0'
  refine (walk _ l0 W hh0).mono fun e W' ⟨he, hb⟩ => ?_
  subst he
  exact ⟨_, rfl, law_post Try.kids Try.full (by rw [Try.params8]; decide) rfl rfl Try.underlying4 hW' rfl rfl rfl hb⟩

set_option maxRecDepth 100000 in
theorem lifted (os : Os) (started : os.Started) (H : Type) (enc : TypeId × Value → H) :
    ReturnsInHanded {} Try.checked os 8 .any (Rows.fnRingsTellSpec.pre6 enc Try.prog Try.f8 Rows.fnRingsTellRow.domain false) (Rows.fnRingsTellSpec.post enc Try.prog Try.f8 false true false false) := by
  refine returnsInHanded_of_change (C := Try.checked) Try.own started (by kernel_rfl) Try.func8
    (ChangeSpec.witness6 (enc := enc) (C := Try.checked) false ⟨#[], #[.slice none 0 0], []⟩ 8 (by kernel_rfl) (by kernel_rfl) (by kernel_rfl) (by kernel_rfl)) ?_
  intro W base args ds gs before hval0 hW _ _
  exact contract H enc W base args ds gs before hval0 hW

theorem proved : Rows.FnRingsTellSaid :=
  OpenClaim.holds_of_wide 8 Try.f8 rfl rfl rfl rfl rfl rfl rfl ⟨rfl, rfl, rfl, rfl, rfl⟩ rfl rfl rfl rfl rfl (by kernel_rfl) Try.func8 (by kernel_rfl)
    (of_decide_eq_true (by kernel_rfl)) (by unfold Func.isWrapper; first | (rw [if_pos (by decide +kernel)]; kernel_rfl) | (rw [if_neg (by decide +kernel)]; exact ⟨rfl, rfl⟩))
    (fun os started H enc _ => lifted os started H enc)

end Go.Proofs.Ytmeicnhlehdboaa.lawRingsTell
