/- FnPricesOk: for every code the law holds: the program's PricesOk answers as its model; with each price one more it holds exactly if it does; if it holds, no ring gains, and each pipe that is neither full nor at its least amount costs just the difference of the prices. No condition. -/
import Derived.Test.YtialdelfmmdfjaaL2
import Derived.Test.YtialdelfmmdfjaaGC
import Derived.Test.YtialdelfmmdfjaaGO
import Derived.Test.YtialdelfmmdfjaaGN
import Derived.Test.YtialdelfmmdfjaaGM
import Derived.Test.YtialdelfmmdfjaaGH
import Derived.Test.YtialdelfmmdfjaaMG
namespace Go.Proofs.Ytialdelfmmdfjaa.lawPricesOk
open Go.ChangeShapes Go.WideShapes Go.ChangeAt Go.RowKit Go.Deep Go.Joins

theorem up_take (P : List Int) (k : Nat) (hk : k < P.length) : (P.map fun x => x + 1).take (k + 1) = (P.map fun x => x + 1).take k ++ [P.getD k 0 + 1] := by
  rw [List.take_succ_eq_append_getElem (by simpa using hk)]
  simp [List.getD_eq_getElem?_getD, hk]
theorem small_of {P : List Int} (h : bndP P) : smallP P ∧ smallP (P.map fun x => x + 1) := by
  refine ⟨fun v => by have := h v; omega, fun v => ?_⟩
  by_cases hv : v < P.length
  · rw [getD_up P v hv]; have := h v; omega
  · rw [List.getD_eq_getElem?_getD, List.getElem?_eq_none (by simp; omega)]; simp

set_option maxRecDepth 20000 in
set_option maxHeartbeats 8000000 in
set_option maxRecDepth 20000 in
theorem walk (v : Value) (n : Nat) (w : World) (h : ArgBytes w v n) :
    Calls Try.prog 6 #[v] w fun e w' => e = .returned (.bool true) ∧ Below w.heap.size w w' := by
  obtain ⟨A, c, rfl, hc1, hc2, -⟩ := id h
  unfold maxLen at hc2
  by_cases hbig : 1048576 < n
  · go_enter Try.func6, Try.ntmps6
    go_wp2
    go_ret
    exact ⟨rfl, by (repeat (first | (with_reducible assumption) | (with_reducible exact Below.refl _ _) | ((with_reducible refine Below.alloc ?_ ?hsz _); (case hsz => (first | omega | (simp; done) | (simp; omega) | (simp at *; omega)))) | ((with_reducible refine Below.setCell ?_ ?hsz _); (case hsz => (first | omega | (simp; done) | (simp; omega) | (simp at *; omega)))) | (with_reducible refine Below.drew ?_) | (with_reducible refine below_drewN ?_ _) | ((with_reducible refine Below.trans ?_ (Below.mono (by with_reducible assumption) ?hsz)); (case hsz => (first | omega | (simp; done) | (simp; omega) | (simp at *; omega))))))⟩
  go_enter Try.func6, Try.ntmps6
  go_wp2_with fail
  with_reducible refine (drawPricesOk_any _ n _ (h.keep (by (repeat (first | (with_reducible assumption) | (with_reducible exact Below.refl _ _) | ((with_reducible refine Below.alloc ?_ ?hsz _); (case hsz => (first | omega | (simp; done) | (simp; omega) | (simp at *; omega)))) | ((with_reducible refine Below.setCell ?_ ?hsz _); (case hsz => (first | omega | (simp; done) | (simp; omega) | (simp at *; omega)))) | (with_reducible refine Below.drew ?_) | (with_reducible refine below_drewN ?_ _) | ((with_reducible refine Below.trans ?_ (Below.mono (by with_reducible assumption) ?hsz)); (case hsz => (first | omega | (simp; done) | (simp; omega) | (simp at *; omega))))))))).mono ?_
  rintro e w1 ⟨z, ps, u, xs, t, P, r, rfl, hp, hx, hP, hbd, hP7, hb1, hl8, hz1, hz6⟩
  have hBw1 : Below w.heap.size w w1 := by (repeat (first | (with_reducible assumption) | (with_reducible exact Below.refl _ _) | ((with_reducible refine Below.alloc ?_ ?hsz _); (case hsz => (first | omega | (simp; done) | (simp; omega) | (simp at *; omega)))) | ((with_reducible refine Below.setCell ?_ ?hsz _); (case hsz => (first | omega | (simp; done) | (simp; omega) | (simp at *; omega)))) | (with_reducible refine Below.drew ?_) | (with_reducible refine below_drewN ?_ _) | ((with_reducible refine Below.trans ?_ (Below.mono (by with_reducible assumption) ?hsz)); (case hsz => (first | omega | (simp; done) | (simp; omega) | (simp at *; omega))))))
  clear h hc1 hc2 hbig
  obtain ⟨A1, c1, rfl, hk1, hk2, hsm, -⟩ := hp.form
  unfold maxLen at hk2
  have bx1 : Box2 (w1.alloc (.cells #[.int .i64 z, .slice A1 ps.length c1] 25)) w1.heap.size (.int .i64 z) (.slice A1 ps.length c1) := Box2.new _ _ _ _
  have hB1 : Below w1.heap.size w1 (w1.alloc (.cells #[.int .i64 z, .slice A1 ps.length c1] 25)) := by (repeat (first | (with_reducible assumption) | (with_reducible exact Below.refl _ _) | ((with_reducible refine Below.alloc ?_ ?hsz _); (case hsz => (first | omega | (simp; done) | (simp; omega) | (simp at *; omega)))) | ((with_reducible refine Below.setCell ?_ ?hsz _); (case hsz => (first | omega | (simp; done) | (simp; omega) | (simp at *; omega)))) | (with_reducible refine Below.drew ?_) | (with_reducible refine below_drewN ?_ _) | ((with_reducible refine Below.trans ?_ (Below.mono (by with_reducible assumption) ?hsz)); (case hsz => (first | omega | (simp; done) | (simp; omega) | (simp at *; omega))))))
  obtain ⟨hsm, hsm2⟩ := small_of hbd
  obtain ⟨cn, hcn⟩ : ∃ cn, cn = c1 := ⟨_, rfl⟩
  subst hcn
  obtain ⟨j0, hj0, hy0, hy1, hy2⟩ := info_parts int_info
  obtain ⟨AX, cX, rfl, hcX, hcX2, hsX, hcellX⟩ := hx.form
  unfold maxLen at hcX2
  have HCX := Lib.hid hcellX
  clear hcellX
  obtain ⟨AP, cP, rfl, hcP, hcP2, -, hcellP⟩ := hP.form
  unfold maxLen at hcP2
  go_wp2_with fail
  with_reducible refine (pricesOk_any z _ _ _ ps xs P _ _ _ _ (hp.keep hB1) (hx.keep hB1) (hP.keep hB1) hsm).mono ?_
  rintro e w2 ⟨rfl, hnn⟩
  have bx2 := bx1.keep hnn
  have hB2 : Below w1.heap.size w1 w2 := by (repeat (first | (with_reducible assumption) | (with_reducible exact Below.refl _ _) | ((with_reducible refine Below.alloc ?_ ?hsz _); (case hsz => (first | omega | (simp; done) | (simp; omega) | (simp at *; omega)))) | ((with_reducible refine Below.setCell ?_ ?hsz _); (case hsz => (first | omega | (simp; done) | (simp; omega) | (simp at *; omega)))) | (with_reducible refine Below.drew ?_) | (with_reducible refine below_drewN ?_ _) | ((with_reducible refine Below.trans ?_ (Below.mono (by with_reducible assumption) ?hsz)); (case hsz => (first | omega | (simp; done) | (simp; omega) | (simp at *; omega))))))
  clear hnn
  obtain ⟨bs, d0, d1, g0, g1⟩ := id bx2
  go_wp2_with fail
  with_reducible refine (specPricesOk_any z _ _ _ ps xs P _ _ _ _ (hp.keep hB2) (hx.keep hB2) (hP.keep hB2) hsm).mono ?_
  rintro e w3 ⟨rfl, hnn⟩
  have bx3 := bx2.keep hnn
  have hB3 : Below w1.heap.size w1 w3 := by (repeat (first | (with_reducible assumption) | (with_reducible exact Below.refl _ _) | ((with_reducible refine Below.alloc ?_ ?hsz _); (case hsz => (first | omega | (simp; done) | (simp; omega) | (simp at *; omega)))) | ((with_reducible refine Below.setCell ?_ ?hsz _); (case hsz => (first | omega | (simp; done) | (simp; omega) | (simp at *; omega)))) | (with_reducible refine Below.drew ?_) | (with_reducible refine below_drewN ?_ _) | ((with_reducible refine Below.trans ?_ (Below.mono (by with_reducible assumption) ?hsz)); (case hsz => (first | omega | (simp; done) | (simp; omega) | (simp at *; omega))))))
  clear hnn bx2 d0 d1 g0 g1 bs
  obtain ⟨bs, d0, d1, g0, g1''⟩ := id bx3
  obtain ⟨LP, hLP⟩ : ∃ L, P.length = L := ⟨_, rfl⟩
  have hP' := hP
  rw [hLP] at hP' hcP hP7 ⊢
  have HLP := Lib.hid hLP
  have HCP := Lib.hid hcellP
  clear hcellP
  have HUP := Lib.hid (prices_up z ps xs P)
  have HSM := Lib.hid hsm2
  have HPO := Lib.hid (And.intro (fun h => prices_gain (n := z) (ps := ps) (xs := xs) (P := P) h) (fun h => prices_parts (n := z) (ps := ps) (xs := xs) (P := P) h))
  have HBT := Lib.hid (fun (h : pricesB z ps xs P = true) k hk h1 h2 => prices_between (n := z) (ps := ps) (xs := xs) (P := P) h (k := k) hk h1 h2)
  have HBP := Lib.hid hbd
  clear hLP hsm hsm2 hbd
  generalize hpb : pricesB z ps xs P = pb at *
  clear hpb
  have hR0 : ∀ W : World, Row (W.alloc (.cells #[] 3)) W.heap.size W.heap.size 0 0 [] := fun W =>
    ⟨World.ownsRow_lit (e := 3) (base := W.heap.size) (size := 1) W #[] 0 (Nat.le_refl _) (by simp [maxLen]) rfl, by simp [small]⟩
  have HR0 := Lib.hid hR0
  clear hR0
  have bx3' := bx3
  go_wp2
  go_loopw [8, 7] (fun a b wr => ∃ (k g1 c1 : Nat), k ≤ LP ∧ a = .int .i64 (k : Int) ∧ b = .slice (some ⟨g1, 0, none⟩) k c1 ∧ Row wr w3.heap.size g1 k c1 ((P.map fun x => x + 1).take k) ∧ Box2 wr w1.heap.size (.int .i64 z) (.slice A1 ps.length cn) ∧ Below w1.heap.size w1 wr ∧ Below w3.heap.size w3 wr) (fun a _ _ => LP - (intOf a).toNat)
  case atStart => exact ⟨0, w3.heap.size, 0, by omega, rfl, rfl, HR0.out w3, bx3.keep (by (repeat (first | (with_reducible assumption) | (with_reducible exact Below.refl _ _) | ((with_reducible refine Below.alloc ?_ ?hsz _); (case hsz => (first | omega | (simp; done) | (simp; omega) | (simp at *; omega)))) | ((with_reducible refine Below.setCell ?_ ?hsz _); (case hsz => (first | omega | (simp; done) | (simp; omega) | (simp at *; omega)))) | (with_reducible refine Below.drew ?_) | (with_reducible refine below_drewN ?_ _) | ((with_reducible refine Below.trans ?_ (Below.mono (by with_reducible assumption) ?hsz)); (case hsz => (first | omega | (simp; done) | (simp; omega) | (simp at *; omega))))))), hB3.trans (Below.mono (by (repeat (first | (with_reducible assumption) | (with_reducible exact Below.refl _ _) | ((with_reducible refine Below.alloc ?_ ?hsz _); (case hsz => (first | omega | (simp; done) | (simp; omega) | (simp at *; omega)))) | ((with_reducible refine Below.setCell ?_ ?hsz _); (case hsz => (first | omega | (simp; done) | (simp; omega) | (simp at *; omega)))) | (with_reducible refine Below.drew ?_) | (with_reducible refine below_drewN ?_ _) | ((with_reducible refine Below.trans ?_ (Below.mono (by with_reducible assumption) ?hsz)); (case hsz => (first | omega | (simp; done) | (simp; omega) | (simp at *; omega))))))) hB3.size), by (repeat (first | (with_reducible assumption) | (with_reducible exact Below.refl _ _) | ((with_reducible refine Below.alloc ?_ ?hsz _); (case hsz => (first | omega | (simp; done) | (simp; omega) | (simp at *; omega)))) | ((with_reducible refine Below.setCell ?_ ?hsz _); (case hsz => (first | omega | (simp; done) | (simp; omega) | (simp at *; omega)))) | (with_reducible refine Below.drew ?_) | (with_reducible refine below_drewN ?_ _) | ((with_reducible refine Below.trans ?_ (Below.mono (by with_reducible assumption) ?hsz)); (case hsz => (first | omega | (simp; done) | (simp; omega) | (simp at *; omega))))))⟩
  case round =>
    obtain ⟨k, g1, c1, hk, rfl, rfl, hR, bx, hB, hB3r⟩ := hrel
    clear bx3 d0 d1 g0 g1'' bs HR0
    obtain ⟨bs, d0, d1, g0, g1'⟩ := id bx
    have hgl := hR.lt
    have hzr := hB.size
    have hz3 := hB3r.size
    by_cases hlt : k < LP
    · have hltP : k < P.length := by have := HLP.out; omega
      obtain ⟨gP, rfl, -, hgP, cx, -⟩ := HCP.out wr hB k hltP
      have hgPr : gP < wr.heap.size := by omega
      have hxx : P[k] = P.getD k 0 := by simp [List.getD_eq_getElem?_getD, hltP]
      rw [hxx] at cx
      have hbx := HBP.out k
      have HT := Lib.hid (up_take P k hltP)
      clear hxx
      generalize P.getD k 0 = x at *
      have hw1 : IntKind.i64.wrap (x + 1) = x + 1 := IntWalk.i64_in _ (by omega)
      have hw2 : RowKit.wrap64 (x + 1) = x + 1 := IntWalk.wrap64_in _ (by omega)
      have hown := hR.1
      have hcap := hR.capd
      unfold maxLen at hcap
      have hrow : ∀ q, (Value.slice (some ⟨g1, 0, none⟩) k c1).ownBlock = some q → w3.heap.size ≤ q := fun q hq => (hown.lt q hq).1
      go_wp2_with (first
        | (at_builtin
           go_must (refine wpList_append_lies _ rfl _ _ 26 rfl w3.heap.size 3 j0 _ 1 8 Try.underlying26 hj0 hy0 hy1 hy2 rfl (by omega) _ k _ rfl (hown.alloc _) ⟨wr.heap.size, 0, none⟩ 1 1 [.int .i64 (x + 1)] rfl rfl (World.news_of_block (cs := #[.int .i64 (x + 1)]) (t := 3) (fr := (0, 0)) (heap_alloc_new _ _)) (by simp [Value.oneCell']) (by omega) (by unfold maxLen; omega) (by omega) (by (first | omega | (simp; done) | (simp; omega) | (simp at *; omega))) _ rfl ?_)
           intro g2 k2 w7 hown7 hgr7 hat7 hlt7))
      have hb37 : Below w3.heap.size w3 w7 := Below.grown (w := wr.alloc (.cells #[.int .i64 (x + 1)] 3)) (by (repeat (first | (with_reducible assumption) | (with_reducible exact Below.refl _ _) | ((with_reducible refine Below.alloc ?_ ?hsz _); (case hsz => (first | omega | (simp; done) | (simp; omega) | (simp at *; omega)))) | ((with_reducible refine Below.setCell ?_ ?hsz _); (case hsz => (first | omega | (simp; done) | (simp; omega) | (simp at *; omega)))) | (with_reducible refine Below.drew ?_) | (with_reducible refine below_drewN ?_ _) | ((with_reducible refine Below.trans ?_ (Below.mono (by with_reducible assumption) ?hsz)); (case hsz => (first | omega | (simp; done) | (simp; omega) | (simp at *; omega))))))) hgr7 (by (first | omega | (simp; done) | (simp; omega) | (simp at *; omega))) hrow
      have hb17 : Below w1.heap.size w1 w7 := hB3.trans (hb37.mono hB3.size)
      have bx7 := bx3'.keep hb37
      have hR8 : Row w7 w3.heap.size g2 (k + 1) k2 ((P.map fun x => x + 1).take (k + 1)) := ⟨by rw [HT.out, List.map_append]; exact hown7, by unfold small; omega⟩
      clear hown7 hgr7 hat7 hlt7 hown hrow hR bx
      go_wp2
      go_roundw
      case rel => exact ⟨k + 1, g2, k2, by omega, by go_num, rfl, hR8, bx7, hb17, hb37⟩
      case measure => simp [intOf]; omega
    · have hk2 : k = LP := by omega
      subst hk2
      rw [List.take_of_length_le (by simp; have := HLP.out; omega)] at hR
      have HRI := Lib.hid hR.ints
      clear hR
      go_wp2_with fail
      with_reducible refine (gainOf_any z _ _ ps xs _ _ _ (hp.keep hB) (hx.keep hB)).mono ?_
      rintro e w5 ⟨r5, rfl, hr5, hnn⟩
      have bx5 := bx.keep hnn
      have hB5 : Below w1.heap.size w1 w5 := hB.trans (hnn.mono hB.size)
      have HRI5 := Lib.hid (HRI.out.keep hnn)
      clear hnn d0 d1 g0 g1' bs bx HRI
      obtain ⟨bs, d0, d1, g0, g1'⟩ := id bx5
      obtain ⟨A5, c5, rfl, -, -, -, -⟩ := hr5.form
      obtain ⟨L5, hL5⟩ : ∃ L, (gainI z ps xs).length = L := ⟨_, rfl⟩
      rw [hL5]
      clear hL5 hr5
      cases pb with
      | false =>
        generalize gainsB z ps xs = gb at *
        go_wp2_with fail
        go_loopw [11] (fun t wr => t = .int .i64 0 ∧ Box2 wr w1.heap.size (.int .i64 z) (.slice A1 ps.length cn) ∧ Below w1.heap.size w1 wr ∧ Below w5.heap.size w5 wr) (fun _ _ => 0)
        case atStart => exact ⟨rfl, bx5, hB5, Below.refl _ _⟩
        case round =>
          obtain ⟨rfl, bx, hB, hb5⟩ := hrel
          clear d0 d1 g0 g1' bs bx5
          obtain ⟨bs, d0, d1, g0, g1'⟩ := id bx
          go_wp2_with fail
          with_reducible refine (pricesOk_any z _ _ _ ps xs (P.map fun x => x + 1) _ _ _ _ (hp.keep hB) (hx.keep hB) (HRI5.out.keep hb5) HSM.out).mono ?_
          rintro e w6 ⟨rfl, hnn⟩
          have bx6 := bx.keep hnn
          have hB6 : Below w1.heap.size w1 w6 := hB.trans (hnn.mono hB.size)
          clear hnn d0 d1 g0 g1' bs bx
          obtain ⟨bs, d0, d1, g0, g1'⟩ := id bx6
          rw [HUP.out]
          go_wp2_with fail
          with_reducible refine (alive_any _).mono ?_
          rintro e w7 ⟨rfl, hnn⟩
          have bx7 := (bx6).keep hnn
          have hB7 : Below w1.heap.size w1 w7 := by (repeat (first | (with_reducible assumption) | (with_reducible exact Below.refl _ _) | ((with_reducible refine Below.alloc ?_ ?hsz _); (case hsz => (first | omega | (simp; done) | (simp; omega) | (simp at *; omega)))) | ((with_reducible refine Below.setCell ?_ ?hsz _); (case hsz => (first | omega | (simp; done) | (simp; omega) | (simp at *; omega)))) | (with_reducible refine Below.drew ?_) | (with_reducible refine below_drewN ?_ _) | ((with_reducible refine Below.trans ?_ (Below.mono (by with_reducible assumption) ?hsz)); (case hsz => (first | omega | (simp; done) | (simp; omega) | (simp at *; omega))))))
          clear hnn
          (try clear d0 d1 g0 g1)
          obtain ⟨bs, d0, d1, g0, g1⟩ := id bx7
          go_wp2
          (go_ret; exact ⟨rfl, hBw1.trans (Below.mono (by with_reducible assumption) hBw1.size)⟩)
      | true =>
        have hg0 := HPO.out.1 rfl
        obtain ⟨hh, hPn, -⟩ := HPO.out.2 rfl
        have hlx := (holds_parts hh).2.2
        have hn := holds_net hh
        have hnp := (netOk_parts hn).2.2.2
        have HN := Lib.hid (And.intro hnp (And.intro hPn hlx))
        have hlx1 : xs.length ≤ ps.length := by omega
        have hlx2 : ps.length ≤ xs.length := by omega
        have hkz : (k : Int) = z := by have := HLP.out; omega
        have hk5 : z ≤ 5 := (netOk_parts hn).2.1
        rw [hg0]
        clear hg0 hh hPn hlx hn hnp
        have HKZ := Lib.hid hkz
        clear hkz
        go_wp2_with fail
        go_loopw [11] (fun t wr => ∃ q : Nat, q ≤ xs.length ∧ t = .int .i64 (q : Int) ∧ Box2 wr w1.heap.size (.int .i64 z) (.slice A1 ps.length cn) ∧ Below w1.heap.size w1 wr ∧ Below w5.heap.size w5 wr) (fun t _ => xs.length - (intOf t).toNat)
        case atStart => exact ⟨0, by omega, rfl, bx5, hB5, Below.refl _ _⟩
        case round =>
          obtain ⟨q, hq, rfl, bx, hB, hb5⟩ := hrel
          clear d0 d1 g0 g1' bs bx5
          obtain ⟨bs, d0, d1, g0, g1'⟩ := id bx
          have hzr := hB.size
          by_cases hlt : q < xs.length
          · have hltp : q < ps.length := by omega
            obtain ⟨gp, rfl, -, hgp, k0, k1, k2, k3, k4⟩ := hp.cellAt hB q hltp
            obtain ⟨gx, rfl, -, hgx, cx, -⟩ := HCX.out wr hB q hlt
            have hgpr : gp < wr.heap.size := by omega
            have hgxr : gx < wr.heap.size := by omega
            have hxx : xs[q] = xs.getD q 0 := by simp [List.getD_eq_getElem?_getD, hlt]
            rw [hxx] at cx
            obtain ⟨f0, f1, t0, t1, -⟩ := pipeOk_parts (HN.out.1 _ (List.getElem_mem hltp))
            obtain ⟨f, hf⟩ : ∃ f : Nat, ps[q].fr = (f : Int) := ⟨ps[q].fr.toNat, by omega⟩
            obtain ⟨t, ht⟩ : ∃ t : Nat, ps[q].to = (t : Int) := ⟨ps[q].to.toNat, by omega⟩
            have hfP : f < P.length := by have := HN.out.2.1; omega
            have htP : t < P.length := by have := HN.out.2.1; omega
            have hfk : f < k := by have := HLP.out; omega
            have htk : t < k := by have := HLP.out; omega
            obtain ⟨gP, rfl, -, hgP, cf, -⟩ := HCP.out wr hB f hfP
            obtain ⟨gP', hgP', -, -, ct, -⟩ := HCP.out wr hB t htP
            injection hgP' with e1
            injection e1 with e1
            subst e1
            have hgPr : gP < wr.heap.size := by omega
            have e2 : P[f] = P.getD f 0 := by simp [List.getD_eq_getElem?_getD, hfP]
            have e3 : P[t] = P.getD t 0 := by simp [List.getD_eq_getElem?_getD, htP]
            rw [e2] at cf
            rw [e3] at ct
            have hbf := HBP.out f
            have hbt := HBP.out t
            have HB := Lib.hid (fun h1 h2 => by have := HBT.out (by first | rfl | trivial) q hltp h1 h2; rw [hf, ht, Int.toNat_natCast, Int.toNat_natCast] at this; exact this)
            rw [hf] at k0
            rw [ht] at k1
            have hxeq := hxx
            clear hxx hxeq e2 e3 f0 f1 t0 t1 hf ht hfP htP
            generalize P.getD f 0 = pf at *
            generalize P.getD t 0 = pt at *
            generalize xs.getD q 0 = x at *
            generalize ps[q].le = le at *
            generalize ps[q].mo = mo at *
            generalize ps[q].co = co at *
            have hw1 : IntKind.i64.wrap (pt - pf) = pt - pf := IntWalk.i64_in _ (by omega)
            have hw2 : RowKit.wrap64 (pt - pf) = pt - pf := IntWalk.wrap64_in _ (by omega)
            by_cases h1 : le < x
            · have hd1 : decide (le < x) = true := decide_eq_true h1
              by_cases h2 : x < mo
              · have hd2 : decide (x < mo) = true := decide_eq_true h2
                have hne : ((pt - pf) != co) = false := by rw [bne_eq_false_iff_eq]; exact HB.out h1 h2
                clear h1 h2
                go_wp2
                go_quiet (fail)
                go_wp2
                go_roundw
                case rel => exact ⟨q + 1, by omega, by go_num, bx.keep (by (repeat (first | (with_reducible assumption) | (with_reducible exact Below.refl _ _) | ((with_reducible refine Below.alloc ?_ ?hsz _); (case hsz => (first | omega | (simp; done) | (simp; omega) | (simp at *; omega)))) | ((with_reducible refine Below.setCell ?_ ?hsz _); (case hsz => (first | omega | (simp; done) | (simp; omega) | (simp at *; omega)))) | (with_reducible refine Below.drew ?_) | (with_reducible refine below_drewN ?_ _) | ((with_reducible refine Below.trans ?_ (Below.mono (by with_reducible assumption) ?hsz)); (case hsz => (first | omega | (simp; done) | (simp; omega) | (simp at *; omega))))))), hB.trans (Below.mono (by (repeat (first | (with_reducible assumption) | (with_reducible exact Below.refl _ _) | ((with_reducible refine Below.alloc ?_ ?hsz _); (case hsz => (first | omega | (simp; done) | (simp; omega) | (simp at *; omega)))) | ((with_reducible refine Below.setCell ?_ ?hsz _); (case hsz => (first | omega | (simp; done) | (simp; omega) | (simp at *; omega)))) | (with_reducible refine Below.drew ?_) | (with_reducible refine below_drewN ?_ _) | ((with_reducible refine Below.trans ?_ (Below.mono (by with_reducible assumption) ?hsz)); (case hsz => (first | omega | (simp; done) | (simp; omega) | (simp at *; omega))))))) hzr), hb5.trans (Below.mono (by (repeat (first | (with_reducible assumption) | (with_reducible exact Below.refl _ _) | ((with_reducible refine Below.alloc ?_ ?hsz _); (case hsz => (first | omega | (simp; done) | (simp; omega) | (simp at *; omega)))) | ((with_reducible refine Below.setCell ?_ ?hsz _); (case hsz => (first | omega | (simp; done) | (simp; omega) | (simp at *; omega)))) | (with_reducible refine Below.drew ?_) | (with_reducible refine below_drewN ?_ _) | ((with_reducible refine Below.trans ?_ (Below.mono (by with_reducible assumption) ?hsz)); (case hsz => (first | omega | (simp; done) | (simp; omega) | (simp at *; omega))))))) hb5.size)⟩
                case measure => simp [intOf] <;> omega
              · have hd2 : decide (x < mo) = false := decide_eq_false h2
                clear h1 h2
                go_wp2
                go_quiet (fail)
                go_wp2
                go_roundw
                case rel => exact ⟨q + 1, by omega, by go_num, bx.keep (by (repeat (first | (with_reducible assumption) | (with_reducible exact Below.refl _ _) | ((with_reducible refine Below.alloc ?_ ?hsz _); (case hsz => (first | omega | (simp; done) | (simp; omega) | (simp at *; omega)))) | ((with_reducible refine Below.setCell ?_ ?hsz _); (case hsz => (first | omega | (simp; done) | (simp; omega) | (simp at *; omega)))) | (with_reducible refine Below.drew ?_) | (with_reducible refine below_drewN ?_ _) | ((with_reducible refine Below.trans ?_ (Below.mono (by with_reducible assumption) ?hsz)); (case hsz => (first | omega | (simp; done) | (simp; omega) | (simp at *; omega))))))), hB.trans (Below.mono (by (repeat (first | (with_reducible assumption) | (with_reducible exact Below.refl _ _) | ((with_reducible refine Below.alloc ?_ ?hsz _); (case hsz => (first | omega | (simp; done) | (simp; omega) | (simp at *; omega)))) | ((with_reducible refine Below.setCell ?_ ?hsz _); (case hsz => (first | omega | (simp; done) | (simp; omega) | (simp at *; omega)))) | (with_reducible refine Below.drew ?_) | (with_reducible refine below_drewN ?_ _) | ((with_reducible refine Below.trans ?_ (Below.mono (by with_reducible assumption) ?hsz)); (case hsz => (first | omega | (simp; done) | (simp; omega) | (simp at *; omega))))))) hzr), hb5.trans (Below.mono (by (repeat (first | (with_reducible assumption) | (with_reducible exact Below.refl _ _) | ((with_reducible refine Below.alloc ?_ ?hsz _); (case hsz => (first | omega | (simp; done) | (simp; omega) | (simp at *; omega)))) | ((with_reducible refine Below.setCell ?_ ?hsz _); (case hsz => (first | omega | (simp; done) | (simp; omega) | (simp at *; omega)))) | (with_reducible refine Below.drew ?_) | (with_reducible refine below_drewN ?_ _) | ((with_reducible refine Below.trans ?_ (Below.mono (by with_reducible assumption) ?hsz)); (case hsz => (first | omega | (simp; done) | (simp; omega) | (simp at *; omega))))))) hb5.size)⟩
                case measure => simp [intOf] <;> omega
            · have hd1 : decide (le < x) = false := decide_eq_false h1
              clear h1
              go_wp2
              go_quiet (fail)
              go_wp2
              go_roundw
              case rel => exact ⟨q + 1, by omega, by go_num, bx.keep (by (repeat (first | (with_reducible assumption) | (with_reducible exact Below.refl _ _) | ((with_reducible refine Below.alloc ?_ ?hsz _); (case hsz => (first | omega | (simp; done) | (simp; omega) | (simp at *; omega)))) | ((with_reducible refine Below.setCell ?_ ?hsz _); (case hsz => (first | omega | (simp; done) | (simp; omega) | (simp at *; omega)))) | (with_reducible refine Below.drew ?_) | (with_reducible refine below_drewN ?_ _) | ((with_reducible refine Below.trans ?_ (Below.mono (by with_reducible assumption) ?hsz)); (case hsz => (first | omega | (simp; done) | (simp; omega) | (simp at *; omega))))))), hB.trans (Below.mono (by (repeat (first | (with_reducible assumption) | (with_reducible exact Below.refl _ _) | ((with_reducible refine Below.alloc ?_ ?hsz _); (case hsz => (first | omega | (simp; done) | (simp; omega) | (simp at *; omega)))) | ((with_reducible refine Below.setCell ?_ ?hsz _); (case hsz => (first | omega | (simp; done) | (simp; omega) | (simp at *; omega)))) | (with_reducible refine Below.drew ?_) | (with_reducible refine below_drewN ?_ _) | ((with_reducible refine Below.trans ?_ (Below.mono (by with_reducible assumption) ?hsz)); (case hsz => (first | omega | (simp; done) | (simp; omega) | (simp at *; omega))))))) hzr), hb5.trans (Below.mono (by (repeat (first | (with_reducible assumption) | (with_reducible exact Below.refl _ _) | ((with_reducible refine Below.alloc ?_ ?hsz _); (case hsz => (first | omega | (simp; done) | (simp; omega) | (simp at *; omega)))) | ((with_reducible refine Below.setCell ?_ ?hsz _); (case hsz => (first | omega | (simp; done) | (simp; omega) | (simp at *; omega)))) | (with_reducible refine Below.drew ?_) | (with_reducible refine below_drewN ?_ _) | ((with_reducible refine Below.trans ?_ (Below.mono (by with_reducible assumption) ?hsz)); (case hsz => (first | omega | (simp; done) | (simp; omega) | (simp at *; omega))))))) hb5.size)⟩
              case measure => simp [intOf] <;> omega
          · go_wp2_with fail
            with_reducible refine (pricesOk_any z _ _ _ ps xs (P.map fun x => x + 1) _ _ _ _ (hp.keep hB) (hx.keep hB) (HRI5.out.keep hb5) HSM.out).mono ?_
            rintro e w6 ⟨rfl, hnn⟩
            have bx6 := bx.keep hnn
            have hB6 : Below w1.heap.size w1 w6 := hB.trans (hnn.mono hB.size)
            clear hnn d0 d1 g0 g1' bs bx
            obtain ⟨bs, d0, d1, g0, g1'⟩ := id bx6
            rw [HUP.out]
            go_wp2_with fail
            with_reducible refine (alive_any _).mono ?_
            rintro e w7 ⟨rfl, hnn⟩
            have bx7 := (bx6).keep hnn
            have hB7 : Below w1.heap.size w1 w7 := by (repeat (first | (with_reducible assumption) | (with_reducible exact Below.refl _ _) | ((with_reducible refine Below.alloc ?_ ?hsz _); (case hsz => (first | omega | (simp; done) | (simp; omega) | (simp at *; omega)))) | ((with_reducible refine Below.setCell ?_ ?hsz _); (case hsz => (first | omega | (simp; done) | (simp; omega) | (simp at *; omega)))) | (with_reducible refine Below.drew ?_) | (with_reducible refine below_drewN ?_ _) | ((with_reducible refine Below.trans ?_ (Below.mono (by with_reducible assumption) ?hsz)); (case hsz => (first | omega | (simp; done) | (simp; omega) | (simp at *; omega))))))
            clear hnn
            (try clear d0 d1 g0 g1)
            obtain ⟨bs, d0, d1, g0, g1⟩ := id bx7
            go_wp2
            (go_ret; exact ⟨rfl, hBw1.trans (Below.mono (by with_reducible assumption) hBw1.size)⟩)

set_option maxRecDepth 100000 in
theorem contract (H : Type) (enc : TypeId × Value → H) (W : World) (base : Nat) (args : Array Value) (ds gs : List (DataW H)) (before : List MemPlace)
    (hval : ∀ (j : Nat) t v, Try.f6.params[j]? = some t → args[j]? = some v → Value.okWide Try.prog W .any base t v)
    (hW : DataW.Whole enc Try.prog Try.f6.params.toList Rows.fnPricesOkSpec.vars false W args.toList ds gs before) :
    Calls Try.prog 6 args W fun e W' => ∃ v, e = .returned v ∧ Rows.fnPricesOkSpec.post enc Try.prog Try.f6 false true false false W args v W' := by
  have hW' := hW
  obtain ⟨p, q, hA0, hV, rfl, hfz, hnd⟩ := hW
  have hA : DataW.TrodAll enc Try.prog W 0 (fun _ => true) true Try.f6.params.toList args.toList ds p := hA0
  rw [Try.params6] at hA hval
  obtain ⟨u0, us0, d0, ds0, p0, q0, hargs, rfl, rfl, g0, k0⟩ := trodAll_cons hA
  obtain ⟨rfl, rfl, rfl⟩ := trodAll_nil k0
  obtain rfl : args = #[u0] := by cases args; simp_all
  obtain ⟨rfl, rfl⟩ := trodVars_none hV
  obtain ⟨m0, e0⟩ := g0
  obtain ⟨s0, l0, f0, hh0⟩ := open_arg_bytes e0
  have f0' := one_of_cells Try.underlying22 (hval 0 _ _ rfl rfl) f0
  subst f0'
  refine (walk _ l0 W hh0).mono fun e W' ⟨he, hb⟩ => ?_
  subst he
  exact ⟨_, rfl, law_post Try.kids Try.full (by rw [Try.params6]; decide) rfl rfl Try.underlying4 hW' rfl rfl rfl hb⟩

set_option maxRecDepth 100000 in
theorem lifted (os : Os) (started : os.Started) (H : Type) (enc : TypeId × Value → H) :
    ReturnsInHanded {} Try.checked os 6 .any (Rows.fnPricesOkSpec.pre6 enc Try.prog Try.f6 Rows.fnPricesOkRow.domain false) (Rows.fnPricesOkSpec.post enc Try.prog Try.f6 false true false false) := by
  refine returnsInHanded_of_change (C := Try.checked) Try.own started (by kernel_rfl) Try.func6
    (ChangeSpec.witness6 (enc := enc) (C := Try.checked) false ⟨#[], #[.slice none 0 0], []⟩ 8 (by kernel_rfl) (by kernel_rfl) (by kernel_rfl) (by kernel_rfl)) ?_
  intro W base args ds gs before hval0 hW _ _
  exact contract H enc W base args ds gs before hval0 hW

theorem proved : Rows.FnPricesOkSaid :=
  OpenClaim.holds_of_wide 6 Try.f6 rfl rfl rfl rfl rfl rfl rfl ⟨rfl, rfl, rfl, rfl, rfl⟩ rfl rfl rfl rfl rfl (by kernel_rfl) Try.func6 (by kernel_rfl)
    (of_decide_eq_true (by kernel_rfl)) (by unfold Func.isWrapper; first | (rw [if_pos (by decide +kernel)]; kernel_rfl) | (rw [if_neg (by decide +kernel)]; exact ⟨rfl, rfl⟩))
    (fun os started H enc _ => lifted os started H enc)

end Go.Proofs.Ytialdelfmmdfjaa.lawPricesOk
