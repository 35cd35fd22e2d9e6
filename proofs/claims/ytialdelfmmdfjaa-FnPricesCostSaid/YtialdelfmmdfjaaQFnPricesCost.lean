/- FnPricesCost: for every code the law holds: with prices that are right, the cost of the flow is the sum of the excesses of nodes, each times the price, and, over all pipes, of the cost and the price where it begins less the price to which it leads, times Most if that is less than 0, and else times Least. No condition. -/
import Derived.Test.YtialdelfmmdfjaaL2
import Derived.Test.YtialdelfmmdfjaaGC
import Derived.Test.YtialdelfmmdfjaaGO
import Derived.Test.YtialdelfmmdfjaaGN
import Derived.Test.YtialdelfmmdfjaaK6
import Derived.Test.YtialdelfmmdfjaaGH
import Derived.Test.YtialdelfmmdfjaaMG
namespace Go.Proofs.Ytialdelfmmdfjaa.lawPricesCost
open Go.ChangeShapes Go.WideShapes Go.ChangeAt Go.RowKit Go.Deep Go.Joins

set_option maxRecDepth 20000 in
set_option maxHeartbeats 8000000 in
set_option maxRecDepth 20000 in
theorem walk (v : Value) (n : Nat) (w : World) (h : ArgBytes w v n) :
    Calls Try.prog 8 #[v] w fun e w' => e = .returned (.bool true) ∧ Below w.heap.size w w' := by
  obtain ⟨A, c, rfl, hc1, hc2, -⟩ := id h
  unfold maxLen at hc2
  by_cases hbig : 1048576 < n
  · go_enter Try.func8, Try.ntmps8
    go_wp2
    go_ret
    exact ⟨rfl, by (repeat (first | (with_reducible assumption) | (with_reducible exact Below.refl _ _) | ((with_reducible refine Below.alloc ?_ ?hsz _); (case hsz => (first | omega | (simp; done) | (simp; omega) | (simp at *; omega)))) | ((with_reducible refine Below.setCell ?_ ?hsz _); (case hsz => (first | omega | (simp; done) | (simp; omega) | (simp at *; omega)))) | (with_reducible refine Below.drew ?_) | (with_reducible refine below_drewN ?_ _) | ((with_reducible refine Below.trans ?_ (Below.mono (by with_reducible assumption) ?hsz)); (case hsz => (first | omega | (simp; done) | (simp; omega) | (simp at *; omega))))))⟩
  go_enter Try.func8, Try.ntmps8
  go_wp2_with fail
  with_reducible refine (drawPricesOk_any _ n _ (h.keep (by (repeat (first | (with_reducible assumption) | (with_reducible exact Below.refl _ _) | ((with_reducible refine Below.alloc ?_ ?hsz _); (case hsz => (first | omega | (simp; done) | (simp; omega) | (simp at *; omega)))) | ((with_reducible refine Below.setCell ?_ ?hsz _); (case hsz => (first | omega | (simp; done) | (simp; omega) | (simp at *; omega)))) | (with_reducible refine Below.drew ?_) | (with_reducible refine below_drewN ?_ _) | ((with_reducible refine Below.trans ?_ (Below.mono (by with_reducible assumption) ?hsz)); (case hsz => (first | omega | (simp; done) | (simp; omega) | (simp at *; omega))))))))).mono ?_
  rintro e w1 ⟨z, ps, u, xs, t, P, r, rfl, hp, hx, hP, hbd, hP7, hb1, hl8, hz1, hz6⟩
  have hBw1 : Below w.heap.size w w1 := by (repeat (first | (with_reducible assumption) | (with_reducible exact Below.refl _ _) | ((with_reducible refine Below.alloc ?_ ?hsz _); (case hsz => (first | omega | (simp; done) | (simp; omega) | (simp at *; omega)))) | ((with_reducible refine Below.setCell ?_ ?hsz _); (case hsz => (first | omega | (simp; done) | (simp; omega) | (simp at *; omega)))) | (with_reducible refine Below.drew ?_) | (with_reducible refine below_drewN ?_ _) | ((with_reducible refine Below.trans ?_ (Below.mono (by with_reducible assumption) ?hsz)); (case hsz => (first | omega | (simp; done) | (simp; omega) | (simp at *; omega))))))
  clear h hc1 hc2 hbig
  obtain ⟨A1, c1, rfl, hk1, hk2, hsm, -⟩ := hp.form
  unfold maxLen at hk2
  have bx1 : Box2 (w1.alloc (.cells #[.int .i64 z, .slice A1 ps.length c1] 25)) w1.heap.size (.int .i64 z) (.slice A1 ps.length c1) := Box2.new _ _ _ _
  have hB1 : Below w1.heap.size w1 (w1.alloc (.cells #[.int .i64 z, .slice A1 ps.length c1] 25)) := by (repeat (first | (with_reducible assumption) | (with_reducible exact Below.refl _ _) | ((with_reducible refine Below.alloc ?_ ?hsz _); (case hsz => (first | omega | (simp; done) | (simp; omega) | (simp at *; omega)))) | ((with_reducible refine Below.setCell ?_ ?hsz _); (case hsz => (first | omega | (simp; done) | (simp; omega) | (simp at *; omega)))) | (with_reducible refine Below.drew ?_) | (with_reducible refine below_drewN ?_ _) | ((with_reducible refine Below.trans ?_ (Below.mono (by with_reducible assumption) ?hsz)); (case hsz => (first | omega | (simp; done) | (simp; omega) | (simp at *; omega))))))
  obtain ⟨cn, hcn⟩ : ∃ cn, cn = c1 := ⟨_, rfl⟩
  subst hcn
  have hsm : smallP P := fun v => by have := hbd v; omega
  obtain ⟨AP, cP, rfl, hcP, hcP2, -, hcellP⟩ := hP.form
  unfold maxLen at hcP2
  go_wp2_with fail
  with_reducible refine (pricesOk_any z _ _ _ ps xs P _ _ _ _ (hp.keep hB1) (hx.keep hB1) (hP.keep hB1) hsm).mono ?_
  rintro e w2 ⟨rfl, hnn⟩
  have bx2 := bx1.keep hnn
  have hB2 : Below w1.heap.size w1 w2 := by (repeat (first | (with_reducible assumption) | (with_reducible exact Below.refl _ _) | ((with_reducible refine Below.alloc ?_ ?hsz _); (case hsz => (first | omega | (simp; done) | (simp; omega) | (simp at *; omega)))) | ((with_reducible refine Below.setCell ?_ ?hsz _); (case hsz => (first | omega | (simp; done) | (simp; omega) | (simp at *; omega)))) | (with_reducible refine Below.drew ?_) | (with_reducible refine below_drewN ?_ _) | ((with_reducible refine Below.trans ?_ (Below.mono (by with_reducible assumption) ?hsz)); (case hsz => (first | omega | (simp; done) | (simp; omega) | (simp at *; omega))))))
  clear hnn
  obtain ⟨bs, d0, d1, g0, g1⟩ := id bx2
  cases hpb : pricesB z ps xs P
  · go_wp2_with fail
    with_reducible refine (alive_any _).mono ?_
    rintro e w3 ⟨rfl, hnn⟩
    have bx3 := (bx2).keep hnn
    have hB3 : Below w1.heap.size w1 w3 := by (repeat (first | (with_reducible assumption) | (with_reducible exact Below.refl _ _) | ((with_reducible refine Below.alloc ?_ ?hsz _); (case hsz => (first | omega | (simp; done) | (simp; omega) | (simp at *; omega)))) | ((with_reducible refine Below.setCell ?_ ?hsz _); (case hsz => (first | omega | (simp; done) | (simp; omega) | (simp at *; omega)))) | (with_reducible refine Below.drew ?_) | (with_reducible refine below_drewN ?_ _) | ((with_reducible refine Below.trans ?_ (Below.mono (by with_reducible assumption) ?hsz)); (case hsz => (first | omega | (simp; done) | (simp; omega) | (simp at *; omega))))))
    clear hnn
    (try clear d0 d1 g0 g1)
    obtain ⟨bs, d0, d1, g0, g1⟩ := id bx3
    go_wp2
    (go_ret; exact ⟨rfl, hBw1.trans (Below.mono (by with_reducible assumption) hBw1.size)⟩)
  · go_wp2_with fail
    with_reducible refine (specPricesOk_any z _ _ _ ps xs P _ _ _ _ (hp.keep hB2) (hx.keep hB2) (hP.keep hB2) hsm).mono ?_
    rintro e w3 ⟨rfl, hnn⟩
    have bx3 := bx2.keep hnn
    have hB3 : Below w1.heap.size w1 w3 := by (repeat (first | (with_reducible assumption) | (with_reducible exact Below.refl _ _) | ((with_reducible refine Below.alloc ?_ ?hsz _); (case hsz => (first | omega | (simp; done) | (simp; omega) | (simp at *; omega)))) | ((with_reducible refine Below.setCell ?_ ?hsz _); (case hsz => (first | omega | (simp; done) | (simp; omega) | (simp at *; omega)))) | (with_reducible refine Below.drew ?_) | (with_reducible refine below_drewN ?_ _) | ((with_reducible refine Below.trans ?_ (Below.mono (by with_reducible assumption) ?hsz)); (case hsz => (first | omega | (simp; done) | (simp; omega) | (simp at *; omega))))))
    clear hnn bx2 d0 d1 g0 g1 bs
    obtain ⟨bs, d0, d1, g0, g1⟩ := id bx3
    have hcp := cost_prices hpb
    obtain ⟨hh, hPn, -⟩ := prices_parts hpb
    have hn := holds_net hh
    obtain ⟨n2, n5, hl7, hpo⟩ := netOk_parts hn
    obtain ⟨hf, hall, hlx⟩ := holds_parts hh
    have hcR := costR_yes hf
    have hpc : ∀ p ∈ ps, (-9 ≤ p.co ∧ p.co ≤ 9) ∧ 0 ≤ p.le ∧ p.le ≤ p.mo ∧ p.mo ≤ 4 := fun p hp => ⟨net_costs hn p hp, net_rooms hn p hp⟩
    have hVb := fun k => sumV_bd hf hsm k
    have hWb := fun k => sumW_bd (ps := ps.take k) hsm (fun p hp => hpc p (List.mem_of_mem_take hp))
    rw [hpb]
    have HF := Lib.hid (And.intro hf (And.intro hpo (And.intro hpc (And.intro hcp (And.intro hcR hPn)))))
    have HVB := Lib.hid hVb
    have HWB := Lib.hid hWb
    have HCP := Lib.hid hcellP
    have HSM := Lib.hid hsm
    obtain ⟨LP, hLP⟩ : ∃ L, P.length = L := ⟨_, rfl⟩
    have hLz1 : (LP : Int) ≤ z := by omega
    have hLz2 : z ≤ (LP : Int) := by omega
    have HLP := Lib.hid hLP
    rw [hLP] at hcP hP7 ⊢
    clear hcp hh hPn hn hpo hf hall hlx hcR hpc hVb hWb hcellP hsm hLP hpb hbd
    go_wp2
    go_loopw [7, 6] (fun a b wr => ∃ k : Nat, k ≤ LP ∧ a = .int .i64 (k : Int) ∧ b = .int .i64 (sumV ps xs P k) ∧ Box2 wr w1.heap.size (.int .i64 z) (.slice A1 ps.length cn) ∧ Below w1.heap.size w1 wr) (fun a _ _ => LP - (intOf a).toNat)
    case atStart => exact ⟨0, by omega, rfl, by rw [sumV_zero], bx3, hB3⟩
    case round =>
      obtain ⟨k, hk, rfl, rfl, bx, hB⟩ := hrel
      clear bx3 d0 d1 g0 g1 bs
      obtain ⟨bs, d0, d1, g0, g1⟩ := id bx
      have hzr := hB.size
      have hV := HVB.out k
      by_cases hlt : k < LP
      · have hkz : (k : Int) < z := by omega
        obtain ⟨e1, e2⟩ := excAt_yes (k := (k : Int)) HF.out.1 (by omega) hkz
        have hV1 := HVB.out (k + 1)
        have hsn := sumV_succ ps xs P k
        have hkP : k < P.length := by have := HLP.out; omega
        have hxx : P[k] = P.getD k 0 := by simp [List.getD_eq_getElem?_getD, hkP]
        have hmb := mul_bnd (A := 280) (B := 1000) (exc_bd7 HF.out.1 (k : Int)) (HSM.out k)
        rw [hsn] at hV1
        have HS := Lib.hid hsn
        generalize hea : exc (k : Int) ps xs = ea at *
        go_wp2_with fail
        with_reducible refine (excessAt_any (k : Int) z _ _ ps xs _ _ _ (hp.keep hB) (hx.keep hB)).mono ?_
        rintro e w5 ⟨rfl, hnn⟩
        have bx5 := bx.keep hnn
        have hB5 : Below w1.heap.size w1 w5 := hB.trans (hnn.mono hB.size)
        obtain ⟨gP, rfl, -, hgP, cx, -⟩ := HCP.out w5 hB5 k hkP
        rw [hxx] at cx
        have hgPr : gP < w5.heap.size := by have := hB5.size; omega
        clear hnn d0 d1 g0 g1 bs bx hea hsn hxx
        obtain ⟨bs, d0, d1, g0, g1⟩ := id bx5
        rw [e1, e2]
        clear e1 e2
        generalize P.getD k 0 = pk at *
        generalize sumV ps xs P k = S at *
        have hw1 : IntKind.i64.wrap (ea * pk) = ea * pk := IntWalk.i64_in _ (by omega)
        have hw2 : RowKit.wrap64 (ea * pk) = ea * pk := IntWalk.wrap64_in _ (by omega)
        have hw3 : IntKind.i64.wrap (S + ea * pk) = S + ea * pk := IntWalk.i64_in _ (by omega)
        have hw4 : RowKit.wrap64 (S + ea * pk) = S + ea * pk := IntWalk.wrap64_in _ (by omega)
        clear hV hV1 hmb
        go_wp2
        go_roundw
        case rel => exact ⟨k + 1, by omega, by go_num, by rw [HS.out], bx5, hB5⟩
        case measure => simp [intOf]; omega
      · have hkL : k = LP := by omega
        subst hkL
        have HV := Lib.hid (show sumV ps xs P k = sumV ps xs P z.toNat by congr 1; omega)
        clear hlt
        go_wp2
        go_loopw [10, 6] (fun a b wr => ∃ q : Nat, q ≤ ps.length ∧ a = .int .i64 (q : Int) ∧ b = .int .i64 (sumV ps xs P k + sumW P (ps.take q)) ∧ Box2 wr w1.heap.size (.int .i64 z) (.slice A1 ps.length cn) ∧ Below w1.heap.size w1 wr) (fun a _ _ => ps.length - (intOf a).toNat)
        case atStart => exact ⟨0, by omega, rfl, by simp [sumW], bx, hB⟩
        case round =>
          obtain ⟨q, hq, rfl, rfl, bx, hB⟩ := hrel
          clear d0 d1 g0 g1 bs
          obtain ⟨bs, d0, d1, g0, g1⟩ := id bx
          have hzr := hB.size
          by_cases hltq : q < ps.length
          · obtain ⟨gp, rfl, -, hgp, k0, k1, k2, k3, k4⟩ := hp.cellAt hB q hltq
            have hgpr : gp < wr.heap.size := by omega
            obtain ⟨f0, f1, t0, t1, -⟩ := pipeOk_parts (HF.out.2.1 _ (List.getElem_mem hltq))
            obtain ⟨c1, c2, c3, c4⟩ := HF.out.2.2.1 _ (List.getElem_mem hltq)
            obtain ⟨lb1, lb2⟩ := lowT_bd HSM.out c1 c2 c3 c4
            have hW := HWB.out q
            have hW1 := HWB.out (q + 1)
            have hsn := sumW_snoc P ps q hltq
            rw [hsn] at hW1
            have hq7 : (ps.take q).length ≤ 8 := by rw [List.length_take]; omega
            have hq8 : (ps.take (q + 1)).length ≤ 8 := by rw [List.length_take]; omega
            obtain ⟨f, hf⟩ : ∃ f : Nat, ps[q].fr = (f : Int) := ⟨ps[q].fr.toNat, by omega⟩
            obtain ⟨t, ht⟩ : ∃ t : Nat, ps[q].to = (t : Int) := ⟨ps[q].to.toNat, by omega⟩
            have hfk : f < k := by omega
            have htk : t < k := by omega
            have hfP : f < P.length := by have := HLP.out; omega
            have htP : t < P.length := by have := HLP.out; omega
            obtain ⟨gP, rfl, -, hgP, cf, -⟩ := HCP.out wr hB f hfP
            obtain ⟨gP', hgP', -, -, ct, -⟩ := HCP.out wr hB t htP
            injection hgP' with e1
            injection e1 with e1
            subst e1
            have hgPr : gP < wr.heap.size := by omega
            have e2 : P[f] = P.getD f 0 := by simp [List.getD_eq_getElem?_getD, hfP]
            have e3 : P[t] = P.getD t 0 := by simp [List.getD_eq_getElem?_getD, htP]
            rw [e2] at cf
            rw [e3] at ct
            have hlft : lftP P ps[q] = ps[q].co + P.getD f 0 - P.getD t 0 := by rw [lftP, hf, ht]; rfl
            have hlow : lowT P ps[q] = if lftP P ps[q] < 0 then lftP P ps[q] * ps[q].mo else lftP P ps[q] * ps[q].le := rfl
            have hbf := HSM.out f
            have hbt := HSM.out t
            rw [hf] at k0
            rw [ht] at k1
            have HS := Lib.hid hsn
            rw [hlft] at lb1 hlow
            clear e2 e3 f0 f1 t0 t1 hf ht hfP htP hsn hlft
            generalize P.getD f 0 = pf at *
            generalize P.getD t 0 = pt at *
            generalize ps[q].le = le at *
            generalize ps[q].mo = mo at *
            generalize ps[q].co = co at *
            generalize lowT P ps[q] = lw at *
            generalize hSV : sumV ps xs P k = SV at *
            generalize sumW P (ps.take q) = SW at *
            have hw1 : IntKind.i64.wrap (co + pf) = co + pf := IntWalk.i64_in _ (by omega)
            have hw2 : RowKit.wrap64 (co + pf) = co + pf := IntWalk.wrap64_in _ (by omega)
            have hw3 : IntKind.i64.wrap (co + pf - pt) = co + pf - pt := IntWalk.i64_in _ (by omega)
            have hw4 : RowKit.wrap64 (co + pf - pt) = co + pf - pt := IntWalk.wrap64_in _ (by omega)
            by_cases hneg : co + pf - pt < 0
            · rw [if_pos hneg] at hlow
              subst hlow
              have hdn : decide (co + pf - pt < 0) = true := decide_eq_true hneg
              have hw5 : IntKind.i64.wrap ((co + pf - pt) * mo) = (co + pf - pt) * mo := IntWalk.i64_in _ (by omega)
              have hw6 : RowKit.wrap64 ((co + pf - pt) * mo) = (co + pf - pt) * mo := IntWalk.wrap64_in _ (by omega)
              have hw7 : IntKind.i64.wrap (SV + SW + (co + pf - pt) * mo) = SV + SW + (co + pf - pt) * mo := IntWalk.i64_in _ (by omega)
              have hw8 : RowKit.wrap64 (SV + SW + (co + pf - pt) * mo) = SV + SW + (co + pf - pt) * mo := IntWalk.wrap64_in _ (by omega)
              clear lb2 hW hW1 hV
              go_wp2
              go_quiet (fail)
              go_wp2
              go_roundw
              case rel => exact ⟨q + 1, by omega, by go_num, by rw [HS.out, Int.add_assoc], bx.keep (by (repeat (first | (with_reducible assumption) | (with_reducible exact Below.refl _ _) | ((with_reducible refine Below.alloc ?_ ?hsz _); (case hsz => (first | omega | (simp; done) | (simp; omega) | (simp at *; omega)))) | ((with_reducible refine Below.setCell ?_ ?hsz _); (case hsz => (first | omega | (simp; done) | (simp; omega) | (simp at *; omega)))) | (with_reducible refine Below.drew ?_) | (with_reducible refine below_drewN ?_ _) | ((with_reducible refine Below.trans ?_ (Below.mono (by with_reducible assumption) ?hsz)); (case hsz => (first | omega | (simp; done) | (simp; omega) | (simp at *; omega))))))), hB.trans (Below.mono (by (repeat (first | (with_reducible assumption) | (with_reducible exact Below.refl _ _) | ((with_reducible refine Below.alloc ?_ ?hsz _); (case hsz => (first | omega | (simp; done) | (simp; omega) | (simp at *; omega)))) | ((with_reducible refine Below.setCell ?_ ?hsz _); (case hsz => (first | omega | (simp; done) | (simp; omega) | (simp at *; omega)))) | (with_reducible refine Below.drew ?_) | (with_reducible refine below_drewN ?_ _) | ((with_reducible refine Below.trans ?_ (Below.mono (by with_reducible assumption) ?hsz)); (case hsz => (first | omega | (simp; done) | (simp; omega) | (simp at *; omega))))))) hzr)⟩
              case measure => simp [intOf] <;> omega
            · rw [if_neg hneg] at hlow
              subst hlow
              have hdn : decide (co + pf - pt < 0) = false := decide_eq_false hneg
              have hw5 : IntKind.i64.wrap ((co + pf - pt) * le) = (co + pf - pt) * le := IntWalk.i64_in _ (by omega)
              have hw6 : RowKit.wrap64 ((co + pf - pt) * le) = (co + pf - pt) * le := IntWalk.wrap64_in _ (by omega)
              have hw7 : IntKind.i64.wrap (SV + SW + (co + pf - pt) * le) = SV + SW + (co + pf - pt) * le := IntWalk.i64_in _ (by omega)
              have hw8 : RowKit.wrap64 (SV + SW + (co + pf - pt) * le) = SV + SW + (co + pf - pt) * le := IntWalk.wrap64_in _ (by omega)
              clear lb2 hW hW1 hV hneg
              go_wp2
              go_quiet (fail)
              go_wp2
              go_roundw
              case rel => exact ⟨q + 1, by omega, by go_num, by rw [HS.out, Int.add_assoc], bx.keep (by (repeat (first | (with_reducible assumption) | (with_reducible exact Below.refl _ _) | ((with_reducible refine Below.alloc ?_ ?hsz _); (case hsz => (first | omega | (simp; done) | (simp; omega) | (simp at *; omega)))) | ((with_reducible refine Below.setCell ?_ ?hsz _); (case hsz => (first | omega | (simp; done) | (simp; omega) | (simp at *; omega)))) | (with_reducible refine Below.drew ?_) | (with_reducible refine below_drewN ?_ _) | ((with_reducible refine Below.trans ?_ (Below.mono (by with_reducible assumption) ?hsz)); (case hsz => (first | omega | (simp; done) | (simp; omega) | (simp at *; omega))))))), hB.trans (Below.mono (by (repeat (first | (with_reducible assumption) | (with_reducible exact Below.refl _ _) | ((with_reducible refine Below.alloc ?_ ?hsz _); (case hsz => (first | omega | (simp; done) | (simp; omega) | (simp at *; omega)))) | ((with_reducible refine Below.setCell ?_ ?hsz _); (case hsz => (first | omega | (simp; done) | (simp; omega) | (simp at *; omega)))) | (with_reducible refine Below.drew ?_) | (with_reducible refine below_drewN ?_ _) | ((with_reducible refine Below.trans ?_ (Below.mono (by with_reducible assumption) ?hsz)); (case hsz => (first | omega | (simp; done) | (simp; omega) | (simp at *; omega))))))) hzr)⟩
              case measure => simp [intOf] <;> omega
          · have hqL : q = ps.length := by omega
            have htot : sumV ps xs P k + sumW P (ps.take q) = costS ps xs := by rw [HF.out.2.2.2.1, HV.out, hqL, List.take_length]
            rw [htot]
            clear htot hqL
            go_wp2_with fail
            with_reducible refine (costOf_any z _ _ ps xs _ _ _ (hp.keep hB) (hx.keep hB)).mono ?_
            rintro e w6 ⟨rfl, hnn⟩
            have bx6 := bx.keep hnn
            have hB6 : Below w1.heap.size w1 w6 := hB.trans (hnn.mono hB.size)
            clear hnn d0 d1 g0 g1 bs bx
            obtain ⟨bs, d0, d1, g0, g1⟩ := id bx6
            rw [HF.out.2.2.2.2.1]
            generalize costS ps xs = C at *
            go_wp2_with fail
            with_reducible refine (alive_any _).mono ?_
            rintro e w7 ⟨rfl, hnn⟩
            have bx7 := (bx6).keep hnn
            have hB7 : Below w1.heap.size w1 w7 := by (repeat (first | (with_reducible assumption) | (with_reducible exact Below.refl _ _) | ((with_reducible refine Below.alloc ?_ ?hsz _); (case hsz => (first | omega | (simp; done) | (simp; omega) | (simp at *; omega)))) | ((with_reducible refine Below.setCell ?_ ?hsz _); (case hsz => (first | omega | (simp; done) | (simp; omega) | (simp at *; omega)))) | (with_reducible refine Below.drew ?_) | (with_reducible refine below_drewN ?_ _) | ((with_reducible refine Below.trans ?_ (Below.mono (by with_reducible assumption) ?hsz)); (case hsz => (first | omega | (simp; done) | (simp; omega) | (simp at *; omega))))))
            clear hnn
            (try clear d0 d1 g0 g1)
            obtain ⟨bs, d0, d1, g0, g1⟩ := id bx7
            go_wp2
            (go_ret; exact ⟨rfl, hBw1.trans (Below.mono (by with_reducible assumption) hBw1.size)⟩)

set_option maxRecDepth 100000 in
theorem contract (H : Type) (enc : TypeId × Value → H) (W : World) (base : Nat) (args : Array Value) (ds gs : List (DataW H)) (before : List MemPlace)
    (hval : ∀ (j : Nat) t v, Try.f8.params[j]? = some t → args[j]? = some v → Value.okWide Try.prog W .any base t v)
    (hW : DataW.Whole enc Try.prog Try.f8.params.toList Rows.fnPricesCostSpec.vars false W args.toList ds gs before) :
    Calls Try.prog 8 args W fun e W' => ∃ v, e = .returned v ∧ Rows.fnPricesCostSpec.post enc Try.prog Try.f8 false true false false W args v W' := by
  have hW' := hW
  obtain ⟨p, q, hA0, hV, rfl, hfz, hnd⟩ := hW
  have hA : DataW.TrodAll enc Try.prog W 0 (fun _ => true) true Try.f8.params.toList args.toList ds p := hA0
  rw [Try.params8] at hA hval
  obtain ⟨u0, us0, d0, ds0, p0, q0, hargs, rfl, rfl, g0, k0⟩ := trodAll_cons hA
  obtain ⟨rfl, rfl, rfl⟩ := trodAll_nil k0
  obtain rfl : args = #[u0] := by cases args; simp_all
  obtain ⟨rfl, rfl⟩ := trodVars_none hV
  obtain ⟨m0, e0⟩ := g0
  obtain ⟨s0, l0, f0, hh0⟩ := open_arg_bytes e0
  have f0' := one_of_cells Try.underlying22 (hval 0 _ _ rfl rfl) f0
  subst f0'
  refine (walk _ l0 W hh0).mono fun e W' ⟨he, hb⟩ => ?_
  subst he
  exact ⟨_, rfl, law_post Try.kids Try.full (by rw [Try.params8]; decide) rfl rfl Try.underlying4 hW' rfl rfl rfl hb⟩

set_option maxRecDepth 100000 in
theorem lifted (os : Os) (started : os.Started) (H : Type) (enc : TypeId × Value → H) :
    ReturnsInHanded {} Try.checked os 8 .any (Rows.fnPricesCostSpec.pre6 enc Try.prog Try.f8 Rows.fnPricesCostRow.domain false) (Rows.fnPricesCostSpec.post enc Try.prog Try.f8 false true false false) := by
  refine returnsInHanded_of_change (C := Try.checked) Try.own started (by kernel_rfl) Try.func8
    (ChangeSpec.witness6 (enc := enc) (C := Try.checked) false ⟨#[], #[.slice none 0 0], []⟩ 8 (by kernel_rfl) (by kernel_rfl) (by kernel_rfl) (by kernel_rfl)) ?_
  intro W base args ds gs before hval0 hW _ _
  exact contract H enc W base args ds gs before hval0 hW

theorem proved : Rows.FnPricesCostSaid :=
  OpenClaim.holds_of_wide 8 Try.f8 rfl rfl rfl rfl rfl rfl rfl ⟨rfl, rfl, rfl, rfl, rfl⟩ rfl rfl rfl rfl rfl (by kernel_rfl) Try.func8 (by kernel_rfl)
    (of_decide_eq_true (by kernel_rfl)) (by unfold Func.isWrapper; first | (rw [if_pos (by decide +kernel)]; kernel_rfl) | (rw [if_neg (by decide +kernel)]; exact ⟨rfl, rfl⟩))
    (fun os started H enc _ => lifted os started H enc)

end Go.Proofs.Ytialdelfmmdfjaa.lawPricesCost
