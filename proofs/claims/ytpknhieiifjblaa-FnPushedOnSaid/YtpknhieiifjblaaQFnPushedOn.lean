/- FnPushedOn: for every code the law holds: the program pushes on as its model; then all pipes hold the flow, the excess of the second node is more than before, that of the first one less by as much, and that of all others the same. No condition. -/
import Derived.Test.YtpknhieiifjblaaL2
import Derived.Test.YtpknhieiifjblaaL1
import Derived.Test.YtpknhieiifjblaaDC
import Derived.Test.YtpknhieiifjblaaWJ
import Derived.Test.YtpknhieiifjblaaSI
import Derived.Test.YtpknhieiifjblaaMG
namespace Go.Proofs.Ytpknhieiifjblaa.lawPushedOn
open Go.ChangeShapes Go.WideShapes Go.ChangeAt Go.RowKit Go.Deep Go.Joins

set_option maxHeartbeats 4000000 in
set_option maxRecDepth 20000 in
theorem walk (v : Value) (n : Nat) (w : World) (h : ArgBytes w v n) :
    Calls Try.prog 6 #[v] w fun e w' => e = .returned (.bool true) ∧ Below w.heap.size w w' := by
  obtain ⟨A, c, rfl, hc1, hc2, -⟩ := id h
  unfold maxLen at hc2
  by_cases hbig : 1048576 < n
  · go_enter Try.func6, Try.ntmps6
    go_wp2
    go_ret
    exact ⟨rfl, by (repeat (first | (with_reducible assumption) | (with_reducible exact Below.refl _ _) | ((with_reducible refine Below.alloc ?_ ?hsz _); (case hsz => (first | omega | (simp; done) | (simp; omega) | (simp at *; omega)))) | ((with_reducible refine Below.setCell ?_ ?hsz _); (case hsz => (first | omega | (simp; done) | (simp; omega) | (simp at *; omega)))) | (with_reducible refine Below.drew ?_) | (with_reducible refine below_drewN ?_ _) | ((with_reducible refine Below.trans ?_ (Below.mono (by with_reducible assumption) ?hsz)); (case hsz => (first | omega | (simp; done) | (simp; omega) | (simp at *; omega))))))⟩
  go_enter Try.func6, Try.ntmps6
  go_wp2_with fail
  with_reducible refine (drawPushedOn_any _ n _ (h.keep (by (repeat (first | (with_reducible assumption) | (with_reducible exact Below.refl _ _) | ((with_reducible refine Below.alloc ?_ ?hsz _); (case hsz => (first | omega | (simp; done) | (simp; omega) | (simp at *; omega)))) | ((with_reducible refine Below.setCell ?_ ?hsz _); (case hsz => (first | omega | (simp; done) | (simp; omega) | (simp at *; omega)))) | (with_reducible refine Below.drew ?_) | (with_reducible refine below_drewN ?_ _) | ((with_reducible refine Below.trans ?_ (Below.mono (by with_reducible assumption) ?hsz)); (case hsz => (first | omega | (simp; done) | (simp; omega) | (simp at *; omega))))))))).mono ?_
  rintro e w1 ⟨z, ps, u, xs, t, i, j, rfl, hp, hx, hlen, hb1, hl8, hz1, hz6, hi0, hj0, hiz⟩
  have hBw1 : Below w.heap.size w w1 := by (repeat (first | (with_reducible assumption) | (with_reducible exact Below.refl _ _) | ((with_reducible refine Below.alloc ?_ ?hsz _); (case hsz => (first | omega | (simp; done) | (simp; omega) | (simp at *; omega)))) | ((with_reducible refine Below.setCell ?_ ?hsz _); (case hsz => (first | omega | (simp; done) | (simp; omega) | (simp at *; omega)))) | (with_reducible refine Below.drew ?_) | (with_reducible refine below_drewN ?_ _) | ((with_reducible refine Below.trans ?_ (Below.mono (by with_reducible assumption) ?hsz)); (case hsz => (first | omega | (simp; done) | (simp; omega) | (simp at *; omega))))))
  clear h hc1 hc2 hbig
  obtain ⟨A1, c1, rfl, hk1, hk2, hsm, -⟩ := hp.form
  unfold maxLen at hk2
  have bx1 : Box2 (w1.alloc (.cells #[.int .i64 z, .slice A1 ps.length c1] 25)) w1.heap.size (.int .i64 z) (.slice A1 ps.length c1) := Box2.new _ _ _ _
  have hB1 : Below w1.heap.size w1 (w1.alloc (.cells #[.int .i64 z, .slice A1 ps.length c1] 25)) := by (repeat (first | (with_reducible assumption) | (with_reducible exact Below.refl _ _) | ((with_reducible refine Below.alloc ?_ ?hsz _); (case hsz => (first | omega | (simp; done) | (simp; omega) | (simp at *; omega)))) | ((with_reducible refine Below.setCell ?_ ?hsz _); (case hsz => (first | omega | (simp; done) | (simp; omega) | (simp at *; omega)))) | (with_reducible refine Below.drew ?_) | (with_reducible refine below_drewN ?_ _) | ((with_reducible refine Below.trans ?_ (Below.mono (by with_reducible assumption) ?hsz)); (case hsz => (first | omega | (simp; done) | (simp; omega) | (simp at *; omega))))))
  go_wp2_with fail
  with_reducible refine (pushedOn_any z i j _ _ ps xs _ _ _ (hp.keep hB1) (hx.keep hB1)).mono ?_
  rintro e w2 ⟨r2, rfl, hr2, hnn⟩
  have bx2 := bx1.keep hnn
  have hB2 : Below w1.heap.size w1 w2 := by (repeat (first | (with_reducible assumption) | (with_reducible exact Below.refl _ _) | ((with_reducible refine Below.alloc ?_ ?hsz _); (case hsz => (first | omega | (simp; done) | (simp; omega) | (simp at *; omega)))) | ((with_reducible refine Below.setCell ?_ ?hsz _); (case hsz => (first | omega | (simp; done) | (simp; omega) | (simp at *; omega)))) | (with_reducible refine Below.drew ?_) | (with_reducible refine below_drewN ?_ _) | ((with_reducible refine Below.trans ?_ (Below.mono (by with_reducible assumption) ?hsz)); (case hsz => (first | omega | (simp; done) | (simp; omega) | (simp at *; omega))))))
  clear hnn
  obtain ⟨bs, d0, d1, g0, g1⟩ := id bx2
  go_wp2_with fail
  with_reducible refine (specPushedOn_any z i j _ _ ps xs _ _ _ (hp.keep hB2) (hx.keep hB2)).mono ?_
  rintro e w3 ⟨r3, rfl, hr3, hnn⟩
  have bx3 := bx2.keep hnn
  have hB3 : Below w1.heap.size w1 w3 := by (repeat (first | (with_reducible assumption) | (with_reducible exact Below.refl _ _) | ((with_reducible refine Below.alloc ?_ ?hsz _); (case hsz => (first | omega | (simp; done) | (simp; omega) | (simp at *; omega)))) | ((with_reducible refine Below.setCell ?_ ?hsz _); (case hsz => (first | omega | (simp; done) | (simp; omega) | (simp at *; omega)))) | (with_reducible refine Below.drew ?_) | (with_reducible refine below_drewN ?_ _) | ((with_reducible refine Below.trans ?_ (Below.mono (by with_reducible assumption) ?hsz)); (case hsz => (first | omega | (simp; done) | (simp; omega) | (simp at *; omega))))))
  have hr23 := hr2.keep hnn
  clear hnn hr2 d0 d1 g0 g1
  obtain ⟨bs, d0, d1, g0, g1⟩ := id bx3
  obtain ⟨A2, c2, rfl, q1, q2, q3, -⟩ := hr23.form
  obtain ⟨A3, c3, rfl, -, -, -, -⟩ := hr3.form
  unfold maxLen at q2
  go_wp2_with fail
  with_reducible refine (sameInts_any _ _ (pushR z ps xs i j) (pushR z ps xs i j) _ _ _ hr23 hr3).mono ?_
  rintro e w4 ⟨rfl, hnn⟩
  have bx4 := bx3.keep hnn
  have hr24 := hr23.keep hnn
  have hB4 : Below w1.heap.size w1 w4 := by (repeat (first | (with_reducible assumption) | (with_reducible exact Below.refl _ _) | ((with_reducible refine Below.alloc ?_ ?hsz _); (case hsz => (first | omega | (simp; done) | (simp; omega) | (simp at *; omega)))) | ((with_reducible refine Below.setCell ?_ ?hsz _); (case hsz => (first | omega | (simp; done) | (simp; omega) | (simp at *; omega)))) | (with_reducible refine Below.drew ?_) | (with_reducible refine below_drewN ?_ _) | ((with_reducible refine Below.trans ?_ (Below.mono (by with_reducible assumption) ?hsz)); (case hsz => (first | omega | (simp; done) | (simp; omega) | (simp at *; omega))))))
  clear hnn d0 d1 g0 g1 hr23 hr3
  obtain ⟨bs, d0, d1, g0, g1⟩ := id bx4
  have hdec : decide (pushR z ps xs i j = pushR z ps xs i j) = true := by simp
  rw [hdec]
  clear hdec
  by_cases hw : wayB z ps xs i j = true
  · obtain ⟨hh, he, -⟩ := wayB_parts hw
    obtain ⟨hok, i0, i1, j0, j1, hij⟩ := ends_parts he
    have hn := netOk_parts hok
    have hn5 := hn.2.1
    have p1 := push_ok hw
    have p3 := amtR_pos hw
    have hf2 := (holds_parts p1.1).1
    have hh2 := p1.1
    have HP := Lib.hid (And.intro (holds_parts hh).1 (And.intro p1.2 (And.intro p3.1 p3.2.1)))
    rw [hw]
    clear hn p1 p3 he hok hh hw
    generalize hY : pushR z ps xs i j = Y at *
    generalize hM : amtR z ps xs i j = M at *
    clear hY hM
    have HH := Lib.hid (And.intro hf2 hh2)
    clear hf2 hh2
    go_wp2_with fail
    go_loopw [11, 12, 13] (fun t11 t12 t13 wr => ∃ (k : Nat) (a b : Int), (k : Int) ≤ z ∧ t13 = .int .i64 k ∧ t11 = .int .i64 a ∧ t12 = .int .i64 b ∧ a = (if j < (k : Int) then M else 0) ∧ b = (if i < (k : Int) then M else 0) ∧ Box2 wr w1.heap.size (.int .i64 z) (.slice A1 ps.length c1) ∧ Below w1.heap.size w1 wr ∧ Below w4.heap.size w4 wr) (fun _ _ t _ => z.toNat - (intOf t).toNat)
    case atStart => exact ⟨0, 0, 0, by omega, rfl, rfl, rfl, by rw [if_neg (by omega)], by rw [if_neg (by omega)], bx4, hB4, Below.refl _ _⟩
    case round =>
      obtain ⟨k, a, b, hk, rfl, rfl, rfl, ha, hb, bx, hB, hb4⟩ := hrel
      clear d0 d1 g0 g1 bs bx4
      obtain ⟨bs, d0, d1, g0, g1⟩ := id bx
      have hs4 := hb4.size
      have Hab := Lib.hid (And.intro ha hb)
      clear ha hb
      by_cases hlt : (k : Int) < z
      · obtain ⟨e1, e2⟩ := excAt_yes (k := (k : Int)) HP.out.1 (by omega) hlt
        obtain ⟨e3, e4⟩ := excAt_yes (k := (k : Int)) HH.out.1 (by omega) hlt
        have E := HP.out.2.1 (k : Int)
        have b1 := exc_bd7 HP.out.1 (k : Int)
        have b2 := exc_bd7 HH.out.1 (k : Int)
        have m1 := HP.out.2.2
        generalize hea : exc (k : Int) ps xs = ea at *
        generalize heb : exc (k : Int) ps Y = eb at *
        have HE := Lib.hid (And.intro E (And.intro b1 (And.intro b2 (And.intro m1 Hab.out))))
        clear E b1 b2 m1 Hab hea heb
        go_wp2_with fail
        with_reducible refine (excessAt_any (k : Int) z _ _ ps xs _ _ _ (hp.keep hB) (hx.keep hB)).mono ?_
        rintro e w5 ⟨rfl, hnn⟩
        have bx5 := (bx).keep hnn
        have hB5 : Below w1.heap.size w1 w5 := by (repeat (first | (with_reducible assumption) | (with_reducible exact Below.refl _ _) | ((with_reducible refine Below.alloc ?_ ?hsz _); (case hsz => (first | omega | (simp; done) | (simp; omega) | (simp at *; omega)))) | ((with_reducible refine Below.setCell ?_ ?hsz _); (case hsz => (first | omega | (simp; done) | (simp; omega) | (simp at *; omega)))) | (with_reducible refine Below.drew ?_) | (with_reducible refine below_drewN ?_ _) | ((with_reducible refine Below.trans ?_ (Below.mono (by with_reducible assumption) ?hsz)); (case hsz => (first | omega | (simp; done) | (simp; omega) | (simp at *; omega))))))
        have hb5 := (hb4).trans (hnn.mono (hb4).size)
        clear hnn
        (try clear d0 d1 g0 g1)
        obtain ⟨bs, d0, d1, g0, g1⟩ := id bx5
        rw [e1, e2]
        clear e1 e2
        go_wp2_with fail
        with_reducible refine (excessAt_any (k : Int) z _ _ ps Y _ _ _ (hp.keep hB5) (hr24.keep hb5)).mono ?_
        rintro e w6 ⟨rfl, hnn⟩
        have bx6 := bx5.keep hnn
        have hB6 : Below w1.heap.size w1 w6 := by (repeat (first | (with_reducible assumption) | (with_reducible exact Below.refl _ _) | ((with_reducible refine Below.alloc ?_ ?hsz _); (case hsz => (first | omega | (simp; done) | (simp; omega) | (simp at *; omega)))) | ((with_reducible refine Below.setCell ?_ ?hsz _); (case hsz => (first | omega | (simp; done) | (simp; omega) | (simp at *; omega)))) | (with_reducible refine Below.drew ?_) | (with_reducible refine below_drewN ?_ _) | ((with_reducible refine Below.trans ?_ (Below.mono (by with_reducible assumption) ?hsz)); (case hsz => (first | omega | (simp; done) | (simp; omega) | (simp at *; omega))))))
        have hb6 := hb5.trans (hnn.mono hb5.size)
        clear hnn d0 d1 g0 g1
        obtain ⟨bs, d0, d1, g0, g1⟩ := id bx6
        rw [e3, e4]
        clear e3 e4
        by_cases hkj : (k : Int) = j
        · have hki : (k : Int) ≠ i := by omega
          have c1 : ((k : Int) != j) = false := by simpa using hkj
          have c2 : ((k : Int) == j) = true := by simpa using hkj
          have c3 : ((k : Int) != i) = true := by simpa using hki
          have c4 : ((k : Int) == i) = false := by simpa using hki
          have hv : wrap64 (eb - ea) = M := by
            obtain ⟨E, b1, b2, m1, -⟩ := HE.out
            rw [if_pos hkj, if_neg hki] at E
            unfold wrap64; omega
          have hv2 := Lib.hid hv
          have Hk := Lib.hid (And.intro hkj hki)
          clear hv hkj hki
          go_wp2
          go_roundw
          case rel => exact ⟨k + 1, M, b, by omega, by go_num, congrArg (Value.int .i64) hv2.out, rfl, by rw [if_pos (by have := Hk.out.1; omega)], by have h1 := HE.out.2.2.2.2.2; have h2 := Hk.out.2; rw [h1]; by_cases h : i < (k : Int) <;> simp [h] <;> omega, bx6, hB6, hb6⟩
          case measure => simp [intOf]; omega
        · have c1 : ((k : Int) != j) = true := by simpa using hkj
          have c2 : ((k : Int) == j) = false := by simpa using hkj
          by_cases hki : (k : Int) = i
          · have c3 : ((k : Int) != i) = false := by simpa using hki
            have c4 : ((k : Int) == i) = true := by simpa using hki
            have hv : wrap64 (ea - eb) = M := by
              obtain ⟨E, b1, b2, m1, -⟩ := HE.out
              rw [if_pos hki, if_neg hkj] at E
              unfold wrap64; omega
            have hv2 := Lib.hid hv
            have Hk := Lib.hid (And.intro hki hkj)
            clear hv hkj hki
            go_wp2
            go_roundw
            case rel => exact ⟨k + 1, a, M, by omega, by go_num, rfl, congrArg (Value.int .i64) hv2.out, by have h1 := HE.out.2.2.2.2.1; have h2 := Hk.out.2; rw [h1]; by_cases h : j < (k : Int) <;> simp [h] <;> omega, by rw [if_pos (by have := Hk.out.1; omega)], bx6, hB6, hb6⟩
            case measure => simp [intOf]; omega
          · have c3 : ((k : Int) != i) = true := by simpa using hki
            have c4 : ((k : Int) == i) = false := by simpa using hki
            have hee : eb = ea := by
              obtain ⟨E, -⟩ := HE.out
              rw [if_neg hki, if_neg hkj] at E
              omega
            subst hee
            have Hk := Lib.hid (And.intro hki hkj)
            clear hkj hki
            go_wp2
            go_roundw
            case rel => exact ⟨k + 1, a, b, by omega, by go_num, rfl, rfl, by have h1 := HE.out.2.2.2.2.1; have h2 := Hk.out.2; rw [h1]; by_cases h : j < (k : Int) <;> simp [h] <;> omega, by have h1 := HE.out.2.2.2.2.2; have h2 := Hk.out.1; rw [h1]; by_cases h : i < (k : Int) <;> simp [h] <;> omega, bx6, hB6, hb6⟩
            case measure => simp [intOf]; omega
      · have ha : a = M := by have := Hab.out.1; rw [if_pos (by omega)] at this; exact this
        have hb : b = M := by have := Hab.out.2; rw [if_pos (by omega)] at this; exact this
        have hM0 : 0 < M := by have := HP.out.2.2; omega
        subst ha
        subst hb
        clear Hab
        have hM1 : decide (0 < b) = true := decide_eq_true hM0
        go_wp2_with fail
        with_reducible refine (holdsOk_any z _ _ ps Y _ _ _ (hp.keep hB) (hr24.keep hb4)).mono ?_
        rintro e w5 ⟨rfl, hnn⟩
        have bx5 := bx.keep hnn
        have hB5 : Below w1.heap.size w1 w5 := by (repeat (first | (with_reducible assumption) | (with_reducible exact Below.refl _ _) | ((with_reducible refine Below.alloc ?_ ?hsz _); (case hsz => (first | omega | (simp; done) | (simp; omega) | (simp at *; omega)))) | ((with_reducible refine Below.setCell ?_ ?hsz _); (case hsz => (first | omega | (simp; done) | (simp; omega) | (simp at *; omega)))) | (with_reducible refine Below.drew ?_) | (with_reducible refine below_drewN ?_ _) | ((with_reducible refine Below.trans ?_ (Below.mono (by with_reducible assumption) ?hsz)); (case hsz => (first | omega | (simp; done) | (simp; omega) | (simp at *; omega))))))
        clear hnn d0 d1 g0 g1
        obtain ⟨bs, d0, d1, g0, g1⟩ := id bx5
        rw [HH.out.2]
        go_wp2
        (go_ret; exact ⟨rfl, hBw1.trans (Below.mono (by with_reducible assumption) hBw1.size)⟩)
  · have hw' : wayB z ps xs i j = false := by simpa using hw
    have h0 : (pushR z ps xs i j).length = 0 := by rw [pushR, if_neg hw]; rfl
    rw [hw', h0]
    go_wp2_with fail
    with_reducible refine (alive_any _).mono ?_
    rintro e w6 ⟨rfl, hnn⟩
    have bx6 := (bx4).keep hnn
    have hB6 : Below w1.heap.size w1 w6 := by (repeat (first | (with_reducible assumption) | (with_reducible exact Below.refl _ _) | ((with_reducible refine Below.alloc ?_ ?hsz _); (case hsz => (first | omega | (simp; done) | (simp; omega) | (simp at *; omega)))) | ((with_reducible refine Below.setCell ?_ ?hsz _); (case hsz => (first | omega | (simp; done) | (simp; omega) | (simp at *; omega)))) | (with_reducible refine Below.drew ?_) | (with_reducible refine below_drewN ?_ _) | ((with_reducible refine Below.trans ?_ (Below.mono (by with_reducible assumption) ?hsz)); (case hsz => (first | omega | (simp; done) | (simp; omega) | (simp at *; omega))))))
    clear hnn
    (try clear d0 d1 g0 g1)
    obtain ⟨bs, d0, d1, g0, g1⟩ := id bx6
    go_wp2
    (go_ret; exact ⟨rfl, hBw1.trans (Below.mono (by with_reducible assumption) hBw1.size)⟩)

set_option maxRecDepth 100000 in
theorem contract (H : Type) (enc : TypeId × Value → H) (W : World) (base : Nat) (args : Array Value) (ds gs : List (DataW H)) (before : List MemPlace)
    (hval : ∀ (j : Nat) t v, Try.f6.params[j]? = some t → args[j]? = some v → Value.okWide Try.prog W .any base t v)
    (hW : DataW.Whole enc Try.prog Try.f6.params.toList Rows.fnPushedOnSpec.vars false W args.toList ds gs before) :
    Calls Try.prog 6 args W fun e W' => ∃ v, e = .returned v ∧ Rows.fnPushedOnSpec.post enc Try.prog Try.f6 false true false false W args v W' := by
  have hW' := hW
  obtain ⟨p, q, hA0, hV, rfl, hfz, hnd⟩ := hW
  have hA : DataW.TrodAll enc Try.prog W 0 (fun _ => true) true Try.f6.params.toList args.toList ds p := hA0
  rw [Try.params6] at hA hval
  obtain ⟨u0, us0, d0, ds0, p0, q0, hargs, rfl, rfl, g0, k0⟩ := trodAll_cons hA
  obtain ⟨rfl, rfl, rfl⟩ := trodAll_nil k0
  obtain rfl : args = #[u0] := by cases args; simp_all
  obtain ⟨rfl, rfl⟩ := trodVars_none hV
  obtain ⟨m0, e0⟩ := g0
  obtain ⟨s0, l0, f0, hh0⟩ := open_arg_bytes e0
  have f0' := one_of_cells Try.underlying22 (hval 0 _ _ rfl rfl) f0
  subst f0'
  refine (walk _ l0 W hh0).mono fun e W' ⟨he, hb⟩ => ?_
  subst he
  exact ⟨_, rfl, law_post Try.kids Try.full (by rw [Try.params6]; decide) rfl rfl Try.underlying4 hW' rfl rfl rfl hb⟩

set_option maxRecDepth 100000 in
theorem lifted (os : Os) (started : os.Started) (H : Type) (enc : TypeId × Value → H) :
    ReturnsInHanded {} Try.checked os 6 .any (Rows.fnPushedOnSpec.pre6 enc Try.prog Try.f6 Rows.fnPushedOnRow.domain false) (Rows.fnPushedOnSpec.post enc Try.prog Try.f6 false true false false) := by
  refine returnsInHanded_of_change (C := Try.checked) Try.own started (by kernel_rfl) Try.func6
    (ChangeSpec.witness6 (enc := enc) (C := Try.checked) false ⟨#[], #[.slice none 0 0], []⟩ 8 (by kernel_rfl) (by kernel_rfl) (by kernel_rfl) (by kernel_rfl)) ?_
  intro W base args ds gs before hval0 hW _ _
  exact contract H enc W base args ds gs before hval0 hW

theorem proved : Rows.FnPushedOnSaid :=
  OpenClaim.holds_of_wide 6 Try.f6 rfl rfl rfl rfl rfl rfl rfl ⟨rfl, rfl, rfl, rfl, rfl⟩ rfl rfl rfl rfl rfl (by kernel_rfl) Try.func6 (by kernel_rfl)
    (of_decide_eq_true (by kernel_rfl)) (by unfold Func.isWrapper; first | (rw [if_pos (by decide +kernel)]; kernel_rfl) | (rw [if_neg (by decide +kernel)]; exact ⟨rfl, rfl⟩))
    (fun os started H enc _ => lifted os started H enc)

end Go.Proofs.Ytpknhieiifjblaa.lawPushedOn
