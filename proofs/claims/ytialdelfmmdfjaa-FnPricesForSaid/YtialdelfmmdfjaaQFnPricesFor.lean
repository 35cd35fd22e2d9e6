/- FnPricesFor: for every code the law holds: the program's PricesFor answers as its model; then the prices are right, and some node has the price 0, and none is more. No condition. -/
import Derived.Test.YtialdelfmmdfjaaL2
import Derived.Test.YtialdelfmmdfjaaGC
import Derived.Test.YtialdelfmmdfjaaDK
import Derived.Test.YtialdelfmmdfjaaH5
import Derived.Test.YtialdelfmmdfjaaH6
import Derived.Test.YtialdelfmmdfjaaI5
import Derived.Test.YtialdelfmmdfjaaMG
namespace Go.Proofs.Ytialdelfmmdfjaa.lawPricesFor
open Go.ChangeShapes Go.WideShapes Go.ChangeAt Go.RowKit Go.Deep Go.Joins

theorem priced_ok {n : Int} {ps : List Pp} {xs : List Int} (h : pricedB n ps xs = true) : pricesB n ps xs (priceR n ps xs) = true ∧ smallP (priceR n ps xs) ∧ ((priceR n ps xs).length : Int) = n ∧ (∀ v, (priceR n ps xs).getD v 0 ≤ 0) ∧ ∃ v, v < (priceR n ps xs).length ∧ (priceR n ps xs).getD v 0 = 0 := by
  obtain ⟨hh, hg⟩ := priced_parts h
  have hn := holds_net hh
  obtain ⟨n2, n5, hl7, -⟩ := netOk_parts hn
  have hins := stL_ins hn xs
  have e : priceR n ps xs = prcN ps (stL ps xs) n.toNat n.toNat := by rw [priceR, if_pos h]
  have hr := price_right h
  have hlast := price_last h
  rw [← hlast] at hr
  have hlen : (priceR n ps xs).length = n.toNat := by rw [e, prcN_len]
  have hs14 : (stL ps xs).length ≤ 14 := by have := stL_len ps xs; omega
  obtain ⟨t1, v, t2, t3⟩ := prc_top hins (r := n.toNat) hr (by omega)
  refine ⟨?_, ?_, by rw [hlen]; omega, by rw [e]; exact t1, v, by rw [hlen]; exact t2, by rw [e]; exact t3⟩
  · rw [prices_yes hh (by rw [hlen]; omega), Bool.not_eq_true', List.any_eq_false]
    intro s hs
    have := hr s hs
    rw [e, badP]
    intro hb
    have := of_decide_eq_true hb
    omega
  · intro v
    have := prcN_bd (ps := ps) (S := stL ps xs) hins (net_costs hn) n.toNat v
    rw [e]
    rcases this with h1 | h1
    · omega
    · omega

/-- the most of the first prices -/
def mostL : List Int → Int
  | [] => 0
  | [x] => x
  | x :: y :: r => max x (mostL (y :: r))
theorem mostL_snoc : ∀ {l : List Int} {x : Int}, l ≠ [] → mostL (l ++ [x]) = max (mostL l) x
  | [y], x, _ => by simp [mostL]
  | y :: z :: r, x, _ => by
    have ih := mostL_snoc (l := z :: r) (x := x) (by simp)
    have e : (y :: z :: r) ++ [x] = y :: z :: (r ++ [x]) := rfl
    have e2 : (z :: r) ++ [x] = z :: (r ++ [x]) := rfl
    rw [e, mostL, ← e2, ih, mostL]
    omega
theorem mostL_zero {l : List Int} (h : ∀ v, l.getD v 0 ≤ 0) (h0 : ∃ v, v < l.length ∧ l.getD v 0 = 0) : mostL l = 0 := by
  induction l with
  | nil => rfl
  | cons x r ih =>
    match r, ih with
    | [], _ =>
      obtain ⟨v, h1, h2⟩ := h0
      have : v = 0 := by simp at h1; exact h1
      subst this
      simpa [mostL] using h2
    | y :: r, ih =>
      have hx : x ≤ 0 := by have := h 0; simpa using this
      have hr : ∀ v, (y :: r).getD v 0 ≤ 0 := fun v => by have := h (v + 1); simpa using this
      have hle : mostL (y :: r) ≤ 0 := by
        clear ih h0 h
        generalize y :: r = l at *
        induction l with
        | nil => simp [mostL]
        | cons a l ih =>
          match l, ih with
          | [], _ => have := hr 0; simpa [mostL] using this
          | b :: l, ih =>
            have h1 := ih (fun v => by have := hr (v + 1); simpa using this)
            have h2 : a ≤ 0 := by have := hr 0; simpa using this
            simp only [mostL] at h1 ⊢; omega
      obtain ⟨v, h1, h2⟩ := h0
      simp only [mostL]
      cases v with
      | zero => have : x = 0 := by simpa using h2
                omega
      | succ v =>
        have := ih hr ⟨v, by simpa using h1, by simpa using h2⟩
        omega

set_option maxRecDepth 20000 in
set_option maxHeartbeats 4000000 in
set_option maxRecDepth 20000 in
theorem walk (v : Value) (n : Nat) (w : World) (h : ArgBytes w v n) :
    Calls Try.prog 7 #[v] w fun e w' => e = .returned (.bool true) ∧ Below w.heap.size w w' := by
  obtain ⟨A, c, rfl, hc1, hc2, -⟩ := id h
  unfold maxLen at hc2
  by_cases hbig : 1048576 < n
  · go_enter Try.func7, Try.ntmps7
    go_wp2
    go_ret
    exact ⟨rfl, by (repeat (first | (with_reducible assumption) | (with_reducible exact Below.refl _ _) | ((with_reducible refine Below.alloc ?_ ?hsz _); (case hsz => (first | omega | (simp; done) | (simp; omega) | (simp at *; omega)))) | ((with_reducible refine Below.setCell ?_ ?hsz _); (case hsz => (first | omega | (simp; done) | (simp; omega) | (simp at *; omega)))) | (with_reducible refine Below.drew ?_) | (with_reducible refine below_drewN ?_ _) | ((with_reducible refine Below.trans ?_ (Below.mono (by with_reducible assumption) ?hsz)); (case hsz => (first | omega | (simp; done) | (simp; omega) | (simp at *; omega))))))⟩
  go_enter Try.func7, Try.ntmps7
  go_wp2_with fail
  with_reducible refine (drawPricesFor_any _ n _ (h.keep (by (repeat (first | (with_reducible assumption) | (with_reducible exact Below.refl _ _) | ((with_reducible refine Below.alloc ?_ ?hsz _); (case hsz => (first | omega | (simp; done) | (simp; omega) | (simp at *; omega)))) | ((with_reducible refine Below.setCell ?_ ?hsz _); (case hsz => (first | omega | (simp; done) | (simp; omega) | (simp at *; omega)))) | (with_reducible refine Below.drew ?_) | (with_reducible refine below_drewN ?_ _) | ((with_reducible refine Below.trans ?_ (Below.mono (by with_reducible assumption) ?hsz)); (case hsz => (first | omega | (simp; done) | (simp; omega) | (simp at *; omega))))))))).mono ?_
  rintro e w1 ⟨z, ps, u, xs, t, rfl, hp, hx, hb1, hl8, hz1, hz6⟩
  have hBw1 : Below w.heap.size w w1 := by (repeat (first | (with_reducible assumption) | (with_reducible exact Below.refl _ _) | ((with_reducible refine Below.alloc ?_ ?hsz _); (case hsz => (first | omega | (simp; done) | (simp; omega) | (simp at *; omega)))) | ((with_reducible refine Below.setCell ?_ ?hsz _); (case hsz => (first | omega | (simp; done) | (simp; omega) | (simp at *; omega)))) | (with_reducible refine Below.drew ?_) | (with_reducible refine below_drewN ?_ _) | ((with_reducible refine Below.trans ?_ (Below.mono (by with_reducible assumption) ?hsz)); (case hsz => (first | omega | (simp; done) | (simp; omega) | (simp at *; omega))))))
  clear h hc1 hc2 hbig
  obtain ⟨A1, c1, rfl, hk1, hk2, hsm, -⟩ := hp.form
  unfold maxLen at hk2
  have bx1 : Box2 (w1.alloc (.cells #[.int .i64 z, .slice A1 ps.length c1] 25)) w1.heap.size (.int .i64 z) (.slice A1 ps.length c1) := Box2.new _ _ _ _
  have hB1 : Below w1.heap.size w1 (w1.alloc (.cells #[.int .i64 z, .slice A1 ps.length c1] 25)) := by (repeat (first | (with_reducible assumption) | (with_reducible exact Below.refl _ _) | ((with_reducible refine Below.alloc ?_ ?hsz _); (case hsz => (first | omega | (simp; done) | (simp; omega) | (simp at *; omega)))) | ((with_reducible refine Below.setCell ?_ ?hsz _); (case hsz => (first | omega | (simp; done) | (simp; omega) | (simp at *; omega)))) | (with_reducible refine Below.drew ?_) | (with_reducible refine below_drewN ?_ _) | ((with_reducible refine Below.trans ?_ (Below.mono (by with_reducible assumption) ?hsz)); (case hsz => (first | omega | (simp; done) | (simp; omega) | (simp at *; omega))))))
  go_wp2_with fail
  with_reducible refine (pricesFor_any z _ _ ps xs _ _ _ (hp.keep hB1) (hx.keep hB1)).mono ?_
  rintro e w2 ⟨r2, rfl, hr2, hnn⟩
  have bx2 := bx1.keep hnn
  have hB2 : Below w1.heap.size w1 w2 := by (repeat (first | (with_reducible assumption) | (with_reducible exact Below.refl _ _) | ((with_reducible refine Below.alloc ?_ ?hsz _); (case hsz => (first | omega | (simp; done) | (simp; omega) | (simp at *; omega)))) | ((with_reducible refine Below.setCell ?_ ?hsz _); (case hsz => (first | omega | (simp; done) | (simp; omega) | (simp at *; omega)))) | (with_reducible refine Below.drew ?_) | (with_reducible refine below_drewN ?_ _) | ((with_reducible refine Below.trans ?_ (Below.mono (by with_reducible assumption) ?hsz)); (case hsz => (first | omega | (simp; done) | (simp; omega) | (simp at *; omega))))))
  clear hnn
  obtain ⟨bs, d0, d1, g0, g1⟩ := id bx2
  go_wp2_with fail
  with_reducible refine (specPricesFor_any z _ _ ps xs _ _ _ (hp.keep hB2) (hx.keep hB2)).mono ?_
  rintro e w3 ⟨r3, rfl, hr3, hnn⟩
  have bx3 := bx2.keep hnn
  have hB3 : Below w1.heap.size w1 w3 := by (repeat (first | (with_reducible assumption) | (with_reducible exact Below.refl _ _) | ((with_reducible refine Below.alloc ?_ ?hsz _); (case hsz => (first | omega | (simp; done) | (simp; omega) | (simp at *; omega)))) | ((with_reducible refine Below.setCell ?_ ?hsz _); (case hsz => (first | omega | (simp; done) | (simp; omega) | (simp at *; omega)))) | (with_reducible refine Below.drew ?_) | (with_reducible refine below_drewN ?_ _) | ((with_reducible refine Below.trans ?_ (Below.mono (by with_reducible assumption) ?hsz)); (case hsz => (first | omega | (simp; done) | (simp; omega) | (simp at *; omega))))))
  have hr23 := hr2.keep hnn
  clear hnn hr2 d0 d1 g0 g1
  obtain ⟨bs, d0, d1, g0, g1⟩ := id bx3
  obtain ⟨A2, c2, rfl, q1, q2, q3, -⟩ := hr23.form
  obtain ⟨A3, c3, rfl, -, -, -, -⟩ := hr3.form
  unfold maxLen at q2
  go_wp2_with fail
  with_reducible refine (sameInts_any _ _ (priceR z ps xs) (priceR z ps xs) _ _ _ hr23 hr3).mono ?_
  rintro e w4 ⟨rfl, hnn⟩
  have bx4 := bx3.keep hnn
  have hr24 := hr23.keep hnn
  have hB4 : Below w1.heap.size w1 w4 := by (repeat (first | (with_reducible assumption) | (with_reducible exact Below.refl _ _) | ((with_reducible refine Below.alloc ?_ ?hsz _); (case hsz => (first | omega | (simp; done) | (simp; omega) | (simp at *; omega)))) | ((with_reducible refine Below.setCell ?_ ?hsz _); (case hsz => (first | omega | (simp; done) | (simp; omega) | (simp at *; omega)))) | (with_reducible refine Below.drew ?_) | (with_reducible refine below_drewN ?_ _) | ((with_reducible refine Below.trans ?_ (Below.mono (by with_reducible assumption) ?hsz)); (case hsz => (first | omega | (simp; done) | (simp; omega) | (simp at *; omega))))))
  clear hnn d0 d1 g0 g1 hr23 hr3
  obtain ⟨bs, d0, d1, g0, g1⟩ := id bx4
  have hdec : decide (priceR z ps xs = priceR z ps xs) = true := by simp
  rw [hdec]
  clear hdec
  by_cases hw : pricedB z ps xs = true
  · obtain ⟨o1, o2, o3, o4, o5⟩ := priced_ok hw
    have hn2 := (netOk_parts (holds_net (priced_parts hw).1)).1
    have hn5 := (netOk_parts (holds_net (priced_parts hw).1)).2.1
    have hmost := mostL_zero o4 o5
    rw [hw]
    generalize hY : priceR z ps xs = Y at *
    clear hY hw o4 o5
    obtain ⟨gp, cP, hgp, hR⟩ := hr24.row (by omega)
    injection hgp with e1 e2 e3
    subst e1
    subst e3
    clear e2
    obtain ⟨N, hN⟩ : ∃ N, Y.length = N := ⟨_, rfl⟩
    have hN0 : 0 < N := by omega
    rw [hN] at q1 q3 hR ⊢
    have hr25 := hr24
    rw [hN] at hr25
    have HH := Lib.hid (And.intro o1 (And.intro o2 (And.intro hmost (And.intro hN hr25))))
    have HM1 := Lib.hid (show Y.getD 0 0 = mostL (Y.take 1) by
      match Y, hN0, hN with
      | [], h, hh => simp at hh; omega
      | a :: l, _, _ => simp [mostL])
    clear o1 o2 o3 hmost hr24 hr25 hN
    have r0 := (hR.at' 0 hN0).1
    have HM2 := HM1
    generalize Y.getD 0 0 = y0 at r0 HM2
    have hgl := hR.lt.2
    go_wp2_with fail
    go_loopw [10, 9] (fun t m wr => ∃ k : Nat, k ≤ N ∧ t = .int .i64 k ∧ m = .int .i64 (mostL (Y.take (max k 1))) ∧ Box2 wr w1.heap.size (.int .i64 z) (.slice A1 ps.length c1) ∧ Below w1.heap.size w1 wr ∧ Below w4.heap.size w4 wr) (fun t _ _ => N - (intOf t).toNat)
    case atStart => exact ⟨0, by omega, rfl, by rw [HM2.out]; rfl, bx4, hB4, Below.refl _ _⟩
    case round =>
      obtain ⟨k, hk, rfl, rfl, bx, hB, hb4⟩ := hrel
      clear d0 d1 g0 g1 bs bx4
      obtain ⟨bs, d0, d1, g0, g1⟩ := id bx
      have hs4 := hb4.size
      by_cases hlt : k < N
      · have rk := (hb4.cell (p := ⟨gp, k, none⟩) hgl).trans (hR.at' k hlt).1
        have hgr : gp < wr.heap.size := by omega
        have hkY : k < Y.length := by have := HH.out.2.2.2.1; omega
        have hsn : mostL (Y.take (max (k + 1) 1)) = max (mostL (Y.take (max k 1))) (Y.getD k 0) := by
          by_cases hk0 : k = 0
          · subst hk0
            rw [HM1.out]; show mostL (Y.take 1) = max (mostL (Y.take 1)) (mostL (Y.take 1)); omega
          · rw [show max (k + 1) 1 = k + 1 by omega, show max k 1 = k by omega, List.take_succ_eq_append_getElem hkY, mostL_snoc (by intro e; have := congrArg List.length e; rw [List.length_take, List.length_nil] at this; omega)]
            simp [List.getD_eq_getElem?_getD, hkY]
        have HS := Lib.hid hsn
        clear hsn r0
        generalize Y.getD k 0 = yk at *
        generalize mostL (Y.take (max k 1)) = mk at *
        by_cases hmy : mk ≤ yk
        all_goals
          go_wp2
          go_roundw
          case rel => exact ⟨k + 1, by omega, by go_num, by rw [HS.out]; congr 1; omega, bx, hB, hb4⟩
          case measure => simp [intOf]; omega
      · have hk2 : k = N := by omega
        subst hk2
        have hm0 : mostL (Y.take (max k 1)) = 0 := by rw [show max k 1 = k by omega, List.take_of_length_le (by have := HH.out.2.2.2.1; omega)]; exact HH.out.2.2.1
        rw [hm0]
        clear hm0
        go_wp2_with fail
        with_reducible refine (pricesOk_any z _ _ _ ps xs Y _ _ _ _ (hp.keep hB) (hx.keep hB) (HH.out.2.2.2.2.keep hb4) HH.out.2.1).mono ?_
        rintro e w5 ⟨rfl, hnn⟩
        have bx5 := bx.keep hnn
        have hB5 : Below w1.heap.size w1 w5 := by (repeat (first | (with_reducible assumption) | (with_reducible exact Below.refl _ _) | ((with_reducible refine Below.alloc ?_ ?hsz _); (case hsz => (first | omega | (simp; done) | (simp; omega) | (simp at *; omega)))) | ((with_reducible refine Below.setCell ?_ ?hsz _); (case hsz => (first | omega | (simp; done) | (simp; omega) | (simp at *; omega)))) | (with_reducible refine Below.drew ?_) | (with_reducible refine below_drewN ?_ _) | ((with_reducible refine Below.trans ?_ (Below.mono (by with_reducible assumption) ?hsz)); (case hsz => (first | omega | (simp; done) | (simp; omega) | (simp at *; omega))))))
        clear hnn d0 d1 g0 g1
        obtain ⟨bs, d0, d1, g0, g1⟩ := id bx5
        rw [HH.out.1]
        go_wp2
        (go_ret; exact ⟨rfl, hBw1.trans (Below.mono (by with_reducible assumption) hBw1.size)⟩)
  · have hw' : pricedB z ps xs = false := by simpa using hw
    have h0 : (priceR z ps xs).length = 0 := by rw [priceR, if_neg hw]; rfl
    rw [hw', h0]
    go_wp2_with fail
    with_reducible refine (alive_any _).mono ?_
    rintro e w6 ⟨rfl, hnn⟩
    have bx6 := (bx4).keep hnn
    have hB6 : Below w1.heap.size w1 w6 := by (repeat (first | (with_reducible assumption) | (with_reducible exact Below.refl _ _) | ((with_reducible refine Below.alloc ?_ ?hsz _); (case hsz => (first | omega | (simp; done) | (simp; omega) | (simp at *; omega)))) | ((with_reducible refine Below.setCell ?_ ?hsz _); (case hsz => (first | omega | (simp; done) | (simp; omega) | (simp at *; omega)))) | (with_reducible refine Below.drew ?_) | (with_reducible refine below_drewN ?_ _) | ((with_reducible refine Below.trans ?_ (Below.mono (by with_reducible assumption) ?hsz)); (case hsz => (first | omega | (simp; done) | (simp; omega) | (simp at *; omega))))))
    clear hnn
    (try clear d0 d1 g0 g1)
    obtain ⟨bs, d0, d1, g0, g1⟩ := id bx6
    go_wp2
    (go_ret; exact ⟨rfl, hBw1.trans (Below.mono (by with_reducible assumption) hBw1.size)⟩)

set_option maxRecDepth 100000 in
theorem contract (H : Type) (enc : TypeId × Value → H) (W : World) (base : Nat) (args : Array Value) (ds gs : List (DataW H)) (before : List MemPlace)
    (hval : ∀ (j : Nat) t v, Try.f7.params[j]? = some t → args[j]? = some v → Value.okWide Try.prog W .any base t v)
    (hW : DataW.Whole enc Try.prog Try.f7.params.toList Rows.fnPricesForSpec.vars false W args.toList ds gs before) :
    Calls Try.prog 7 args W fun e W' => ∃ v, e = .returned v ∧ Rows.fnPricesForSpec.post enc Try.prog Try.f7 false true false false W args v W' := by
  have hW' := hW
  obtain ⟨p, q, hA0, hV, rfl, hfz, hnd⟩ := hW
  have hA : DataW.TrodAll enc Try.prog W 0 (fun _ => true) true Try.f7.params.toList args.toList ds p := hA0
  rw [Try.params7] at hA hval
  obtain ⟨u0, us0, d0, ds0, p0, q0, hargs, rfl, rfl, g0, k0⟩ := trodAll_cons hA
  obtain ⟨rfl, rfl, rfl⟩ := trodAll_nil k0
  obtain rfl : args = #[u0] := by cases args; simp_all
  obtain ⟨rfl, rfl⟩ := trodVars_none hV
  obtain ⟨m0, e0⟩ := g0
  obtain ⟨s0, l0, f0, hh0⟩ := open_arg_bytes e0
  have f0' := one_of_cells Try.underlying22 (hval 0 _ _ rfl rfl) f0
  subst f0'
  refine (walk _ l0 W hh0).mono fun e W' ⟨he, hb⟩ => ?_
  subst he
  exact ⟨_, rfl, law_post Try.kids Try.full (by rw [Try.params7]; decide) rfl rfl Try.underlying4 hW' rfl rfl rfl hb⟩

set_option maxRecDepth 100000 in
theorem lifted (os : Os) (started : os.Started) (H : Type) (enc : TypeId × Value → H) :
    ReturnsInHanded {} Try.checked os 7 .any (Rows.fnPricesForSpec.pre6 enc Try.prog Try.f7 Rows.fnPricesForRow.domain false) (Rows.fnPricesForSpec.post enc Try.prog Try.f7 false true false false) := by
  refine returnsInHanded_of_change (C := Try.checked) Try.own started (by kernel_rfl) Try.func7
    (ChangeSpec.witness6 (enc := enc) (C := Try.checked) false ⟨#[], #[.slice none 0 0], []⟩ 8 (by kernel_rfl) (by kernel_rfl) (by kernel_rfl) (by kernel_rfl)) ?_
  intro W base args ds gs before hval0 hW _ _
  exact contract H enc W base args ds gs before hval0 hW

theorem proved : Rows.FnPricesForSaid :=
  OpenClaim.holds_of_wide 7 Try.f7 rfl rfl rfl rfl rfl rfl rfl ⟨rfl, rfl, rfl, rfl, rfl⟩ rfl rfl rfl rfl rfl (by kernel_rfl) Try.func7 (by kernel_rfl)
    (of_decide_eq_true (by kernel_rfl)) (by unfold Func.isWrapper; first | (rw [if_pos (by decide +kernel)]; kernel_rfl) | (rw [if_neg (by decide +kernel)]; exact ⟨rfl, rfl⟩))
    (fun os started H enc _ => lifted os started H enc)

end Go.Proofs.Ytialdelfmmdfjaa.lawPricesFor
