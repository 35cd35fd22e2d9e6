/- FnNoGreater: for every code the law holds: no flow that all pipes hold, in which no node but two has an excess, has more than the greatest value at the second one. No condition. -/
import Derived.Test.YtobbeofibkpbaaaGZ56
import Derived.Test.YtobbeofibkpbaaaGZ26
import Derived.Test.YtobbeofibkpbaaaGZ57
import Derived.Test.YtobbeofibkpbaaaGZ3
import Derived.Test.YtobbeofibkpbaaaMG
namespace Go.Proofs.Ytobbeofibkpbaaa.lawNoGreater
open Go.ChangeShapes Go.WideShapes Go.ChangeAt Go.RowKit Go.Deep Go.Joins

theorem ng_step {ps : List Pp} {xs : List Int} {i j : Int} {k : Nat} (h : ∀ v : Int, 0 ≤ v → v < k → v ≠ i → v ≠ j → exc v ps xs = 0) (hk : (k : Int) = i ∨ (k : Int) = j ∨ exc (k : Int) ps xs = 0) : ∀ v : Int, 0 ≤ v → v < ((k + 1 : Nat) : Int) → v ≠ i → v ≠ j → exc v ps xs = 0 := by
  intro v h0 h1 h2 h3
  by_cases hv : v = (k : Int)
  · subst hv
    rcases hk with hk | hk | hk
    · exact absurd hk h2
    · exact absurd hk h3
    · exact hk
  · exact h v h0 (by omega) h2 h3

set_option maxHeartbeats 4000000 in
set_option maxRecDepth 20000 in
theorem walk (v : Value) (n : Nat) (w : World) (h : ArgBytes w v n) :
    Calls Try.prog 7 #[v] w fun e w' => e = .returned (.bool true) ∧ Below w.heap.size w w' := by
  obtain ⟨A, c, rfl, hc1, hc2, -⟩ := id h
  unfold maxLen at hc2
  by_cases hbig : 1048576 < n
  · go_enter Try.func7, Try.ntmps7
    go_wp2
    go_ret
    exact ⟨rfl, by (repeat (first | (with_reducible assumption) | (with_reducible exact Below.refl _ _) | ((with_reducible refine Below.alloc ?_ ?hsz _); (case hsz => (first | omega | (simp; done) | (simp; omega) | (simp at *; omega)))) | ((with_reducible refine Below.setCell ?_ ?hsz _); (case hsz => (first | omega | (simp; done) | (simp; omega) | (simp at *; omega)))) | (with_reducible refine Below.drew ?_) | (with_reducible refine below_drewN ?_ _) | ((with_reducible refine Below.trans ?_ (Below.mono (by with_reducible assumption) ?hsz)); (case hsz => (first | omega | (simp; done) | (simp; omega) | (simp at *; omega))))))⟩
  go_enter Try.func7, Try.ntmps7
  go_wp2_with fail
  with_reducible refine (drawPushedOn_any _ n _ (h.keep (by (repeat (first | (with_reducible assumption) | (with_reducible exact Below.refl _ _) | ((with_reducible refine Below.alloc ?_ ?hsz _); (case hsz => (first | omega | (simp; done) | (simp; omega) | (simp at *; omega)))) | ((with_reducible refine Below.setCell ?_ ?hsz _); (case hsz => (first | omega | (simp; done) | (simp; omega) | (simp at *; omega)))) | (with_reducible refine Below.drew ?_) | (with_reducible refine below_drewN ?_ _) | ((with_reducible refine Below.trans ?_ (Below.mono (by with_reducible assumption) ?hsz)); (case hsz => (first | omega | (simp; done) | (simp; omega) | (simp at *; omega))))))))).mono ?_
  rintro e w1 ⟨z, ps, u, xs, t, i, j, rfl, hp, hx, hlen, hb1, hl8, hz1, hz6, hi0, hj0, hiz⟩
  have hBw1 : Below w.heap.size w w1 := by (repeat (first | (with_reducible assumption) | (with_reducible exact Below.refl _ _) | ((with_reducible refine Below.alloc ?_ ?hsz _); (case hsz => (first | omega | (simp; done) | (simp; omega) | (simp at *; omega)))) | ((with_reducible refine Below.setCell ?_ ?hsz _); (case hsz => (first | omega | (simp; done) | (simp; omega) | (simp at *; omega)))) | (with_reducible refine Below.drew ?_) | (with_reducible refine below_drewN ?_ _) | ((with_reducible refine Below.trans ?_ (Below.mono (by with_reducible assumption) ?hsz)); (case hsz => (first | omega | (simp; done) | (simp; omega) | (simp at *; omega))))))
  clear h hc1 hc2 hbig
  obtain ⟨A1, c1, rfl, hk1, hk2, hsm, -⟩ := hp.form
  unfold maxLen at hk2
  have bx1 : Box2 (w1.alloc (.cells #[.int .i64 z, .slice A1 ps.length c1] 25)) w1.heap.size (.int .i64 z) (.slice A1 ps.length c1) := Box2.new _ _ _ _
  have hB1 : Below w1.heap.size w1 (w1.alloc (.cells #[.int .i64 z, .slice A1 ps.length c1] 25)) := by (repeat (first | (with_reducible assumption) | (with_reducible exact Below.refl _ _) | ((with_reducible refine Below.alloc ?_ ?hsz _); (case hsz => (first | omega | (simp; done) | (simp; omega) | (simp at *; omega)))) | ((with_reducible refine Below.setCell ?_ ?hsz _); (case hsz => (first | omega | (simp; done) | (simp; omega) | (simp at *; omega)))) | (with_reducible refine Below.drew ?_) | (with_reducible refine below_drewN ?_ _) | ((with_reducible refine Below.trans ?_ (Below.mono (by with_reducible assumption) ?hsz)); (case hsz => (first | omega | (simp; done) | (simp; omega) | (simp at *; omega))))))
  go_wp2_with fail
  with_reducible refine (specHoldsOk_any z _ _ ps xs _ _ _ (hp.keep hB1) (hx.keep hB1)).mono ?_
  rintro e w2 ⟨rfl, hnn⟩
  have bx2 := (bx1).keep hnn
  have hB2 : Below w1.heap.size w1 w2 := by (repeat (first | (with_reducible assumption) | (with_reducible exact Below.refl _ _) | ((with_reducible refine Below.alloc ?_ ?hsz _); (case hsz => (first | omega | (simp; done) | (simp; omega) | (simp at *; omega)))) | ((with_reducible refine Below.setCell ?_ ?hsz _); (case hsz => (first | omega | (simp; done) | (simp; omega) | (simp at *; omega)))) | (with_reducible refine Below.drew ?_) | (with_reducible refine below_drewN ?_ _) | ((with_reducible refine Below.trans ?_ (Below.mono (by with_reducible assumption) ?hsz)); (case hsz => (first | omega | (simp; done) | (simp; omega) | (simp at *; omega))))))
  clear hnn
  (try clear d0 d1 g0 g1)
  obtain ⟨bs, d0, d1, g0, g1⟩ := id bx2
  by_cases hh : holdsB z ps xs = true
  · go_wp2_with fail
    with_reducible refine (specFreeOk_any z _ ps _ _ (hp.keep hB2)).mono ?_
    rintro e w3 ⟨rfl, hnn⟩
    have bx3 := (bx2).keep hnn
    have hB3 : Below w1.heap.size w1 w3 := by (repeat (first | (with_reducible assumption) | (with_reducible exact Below.refl _ _) | ((with_reducible refine Below.alloc ?_ ?hsz _); (case hsz => (first | omega | (simp; done) | (simp; omega) | (simp at *; omega)))) | ((with_reducible refine Below.setCell ?_ ?hsz _); (case hsz => (first | omega | (simp; done) | (simp; omega) | (simp at *; omega)))) | (with_reducible refine Below.drew ?_) | (with_reducible refine below_drewN ?_ _) | ((with_reducible refine Below.trans ?_ (Below.mono (by with_reducible assumption) ?hsz)); (case hsz => (first | omega | (simp; done) | (simp; omega) | (simp at *; omega))))))
    clear hnn
    (try clear d0 d1 g0 g1)
    obtain ⟨bs, d0, d1, g0, g1⟩ := id bx3
    by_cases hf : freeB z ps = true
    · by_cases hij : i = j
      · subst hij
        go_wp2_with fail
        with_reducible refine (alive_any _).mono ?_
        rintro e w4 ⟨rfl, hnn⟩
        have bx4 := (bx3).keep hnn
        have hB4 : Below w1.heap.size w1 w4 := by (repeat (first | (with_reducible assumption) | (with_reducible exact Below.refl _ _) | ((with_reducible refine Below.alloc ?_ ?hsz _); (case hsz => (first | omega | (simp; done) | (simp; omega) | (simp at *; omega)))) | ((with_reducible refine Below.setCell ?_ ?hsz _); (case hsz => (first | omega | (simp; done) | (simp; omega) | (simp at *; omega)))) | (with_reducible refine Below.drew ?_) | (with_reducible refine below_drewN ?_ _) | ((with_reducible refine Below.trans ?_ (Below.mono (by with_reducible assumption) ?hsz)); (case hsz => (first | omega | (simp; done) | (simp; omega) | (simp at *; omega))))))
        clear hnn
        (try clear d0 d1 g0 g1)
        obtain ⟨bs, d0, d1, g0, g1⟩ := id bx4
        go_wp2
        (go_ret; exact ⟨rfl, hBw1.trans (Below.mono (by with_reducible assumption) hBw1.size)⟩)
      · have hijb : (i == j) = false := by simpa using hij
        by_cases hjz : j < z
        · have hjd : decide (z ≤ j) = false := by simpa using hjz
          obtain ⟨n2, n5, hl7, -⟩ := netOk_parts (holds_net hh)
          have hiz' := hiz n2
          have HG : Hid (greatB z ps i j = true) := Lib.hid (by simp [greatB, hf, endsB, holds_net hh, withinB, hij]; omega)
          have HF := Lib.hid (And.intro (holds_parts hh).1 (And.intro hh hjz))
          obtain ⟨N, hN⟩ : ∃ N : Nat, z = (N : Int) := ⟨z.toNat, by omega⟩
          subst hN
          clear hij
          go_wp2_with fail
          go_loopw [7] (fun t7 wr => ∃ k : Nat, k ≤ N ∧ t7 = .int .i64 k ∧ (∀ v : Int, 0 ≤ v → v < k → v ≠ i → v ≠ j → exc v ps xs = 0) ∧ Box2 wr w1.heap.size (.int .i64 (N : Int)) (.slice A1 ps.length c1) ∧ Below w1.heap.size w1 wr) (fun t7 _ => N - (intOf t7).toNat)
          case atStart => exact ⟨0, by omega, rfl, fun v h0 h1 => absurd h1 (by omega), bx3, hB3⟩
          case round =>
            clear bs d0 d1 g0 g1 bx3 hB3
            obtain ⟨k, hk, rfl, hall, bx, hB⟩ := hrel
            have Hall := Lib.hid hall
            clear hall
            obtain ⟨bs, d0, d1, g0, g1⟩ := id bx
            by_cases hlt : k < N
            · obtain ⟨e1, e2⟩ := excAt_yes (k := (k : Int)) HF.out.1 (by omega) (by omega)
              go_wp2_with fail
              with_reducible refine (specExcessAt_any (k : Int) (N : Int) _ _ ps xs _ _ _ (hp.keep hB) (hx.keep hB)).mono ?_
              rintro e w5 ⟨rfl, hnn⟩
              have bx5 := (bx).keep hnn
              have hB5 : Below w1.heap.size w1 w5 := by (repeat (first | (with_reducible assumption) | (with_reducible exact Below.refl _ _) | ((with_reducible refine Below.alloc ?_ ?hsz _); (case hsz => (first | omega | (simp; done) | (simp; omega) | (simp at *; omega)))) | ((with_reducible refine Below.setCell ?_ ?hsz _); (case hsz => (first | omega | (simp; done) | (simp; omega) | (simp at *; omega)))) | (with_reducible refine Below.drew ?_) | (with_reducible refine below_drewN ?_ _) | ((with_reducible refine Below.trans ?_ (Below.mono (by with_reducible assumption) ?hsz)); (case hsz => (first | omega | (simp; done) | (simp; omega) | (simp at *; omega))))))
              clear hnn
              (try clear d0 d1 g0 g1)
              obtain ⟨bs, d0, d1, g0, g1⟩ := id bx5
              rw [e1, e2]
              clear e1 e2
              by_cases hki : (k : Int) = i
              · have hkb : ((k : Int) != i) = false := by simpa using hki
                have Hn := Lib.hid (ng_step Hall.out (.inl hki))
                clear hki
                go_wp2
                go_roundw
                case rel => exact ⟨k + 1, by omega, by go_num, Hn.out, bx5, hB5⟩
                case measure => simp [intOf]; omega
              · have hkb : ((k : Int) != i) = true := by simpa using hki
                by_cases hkj : (k : Int) = j
                · have hkb2 : ((k : Int) != j) = false := by simpa using hkj
                  have Hn := Lib.hid (ng_step (i := i) Hall.out (.inr (.inl hkj)))
                  clear hki hkj
                  go_wp2
                  go_roundw
                  case rel => exact ⟨k + 1, by omega, by go_num, Hn.out, bx5, hB5⟩
                  case measure => simp [intOf]; omega
                · have hkb2 : ((k : Int) != j) = true := by simpa using hkj
                  by_cases he0 : exc (k : Int) ps xs = 0
                  · have Hn := Lib.hid (ng_step (i := i) (j := j) Hall.out (.inr (.inr he0)))
                    rw [he0]
                    clear hki hkj he0
                    go_wp2
                    go_roundw
                    case rel => exact ⟨k + 1, by omega, by go_num, Hn.out, bx5, hB5⟩
                    case measure => simp [intOf]; omega
                  · have he0b : (exc (k : Int) ps xs != 0) = true := by simpa using he0
                    clear hki hkj he0
                    go_wp2_with fail
                    with_reducible refine (alive_any _).mono ?_
                    rintro e w6 ⟨rfl, hnn⟩
                    have bx6 := (bx5).keep hnn
                    have hB6 : Below w1.heap.size w1 w6 := by (repeat (first | (with_reducible assumption) | (with_reducible exact Below.refl _ _) | ((with_reducible refine Below.alloc ?_ ?hsz _); (case hsz => (first | omega | (simp; done) | (simp; omega) | (simp at *; omega)))) | ((with_reducible refine Below.setCell ?_ ?hsz _); (case hsz => (first | omega | (simp; done) | (simp; omega) | (simp at *; omega)))) | (with_reducible refine Below.drew ?_) | (with_reducible refine below_drewN ?_ _) | ((with_reducible refine Below.trans ?_ (Below.mono (by with_reducible assumption) ?hsz)); (case hsz => (first | omega | (simp; done) | (simp; omega) | (simp at *; omega))))))
                    clear hnn
                    (try clear d0 d1 g0 g1)
                    obtain ⟨bs, d0, d1, g0, g1⟩ := id bx6
                    go_wp2
                    (go_ret; exact ⟨rfl, hBw1.trans (Below.mono (by with_reducible assumption) hBw1.size)⟩)
            · have hall : onlyTwo (N : Int) ps xs i j := fun v h0 h1 h2 h3 => Hall.out v h0 (by omega) h2 h3
              go_wp2_with fail
              with_reducible refine (excessAt_any j (N : Int) _ _ ps xs _ _ _ (hp.keep hB) (hx.keep hB)).mono ?_
              rintro e w5 ⟨rfl, hnn⟩
              have bx5 := (bx).keep hnn
              have hB5 : Below w1.heap.size w1 w5 := by (repeat (first | (with_reducible assumption) | (with_reducible exact Below.refl _ _) | ((with_reducible refine Below.alloc ?_ ?hsz _); (case hsz => (first | omega | (simp; done) | (simp; omega) | (simp at *; omega)))) | ((with_reducible refine Below.setCell ?_ ?hsz _); (case hsz => (first | omega | (simp; done) | (simp; omega) | (simp at *; omega)))) | (with_reducible refine Below.drew ?_) | (with_reducible refine below_drewN ?_ _) | ((with_reducible refine Below.trans ?_ (Below.mono (by with_reducible assumption) ?hsz)); (case hsz => (first | omega | (simp; done) | (simp; omega) | (simp at *; omega))))))
              clear hnn
              (try clear d0 d1 g0 g1)
              obtain ⟨bs, d0, d1, g0, g1⟩ := id bx5
              obtain ⟨e1, e2⟩ := excAt_yes (HF.out.1) hj0 HF.out.2.2
              rw [e1, e2]
              have hle : decide (exc j ps xs ≤ greatV (N : Int) ps i j) = true := by
                rw [great_cut HG.out]
                exact decide_eq_true (le_cut (great_parts HG.out).2 HF.out.2.1 hall)
              have hle2 := hle
              clear e1 e2 hall
              go_wp2_with fail
              with_reducible refine (greatestValue_any (N : Int) i j _ ps _ _ (hp.keep hB5)).mono ?_
              rintro e w6 ⟨rfl, hnn⟩
              have bx6 := (bx5).keep hnn
              have hB6 : Below w1.heap.size w1 w6 := by (repeat (first | (with_reducible assumption) | (with_reducible exact Below.refl _ _) | ((with_reducible refine Below.alloc ?_ ?hsz _); (case hsz => (first | omega | (simp; done) | (simp; omega) | (simp at *; omega)))) | ((with_reducible refine Below.setCell ?_ ?hsz _); (case hsz => (first | omega | (simp; done) | (simp; omega) | (simp at *; omega)))) | (with_reducible refine Below.drew ?_) | (with_reducible refine below_drewN ?_ _) | ((with_reducible refine Below.trans ?_ (Below.mono (by with_reducible assumption) ?hsz)); (case hsz => (first | omega | (simp; done) | (simp; omega) | (simp at *; omega))))))
              clear hnn
              (try clear d0 d1 g0 g1)
              obtain ⟨bs, d0, d1, g0, g1⟩ := id bx6
              go_wp2
              (go_ret; exact ⟨rfl, hBw1.trans (Below.mono (by with_reducible assumption) hBw1.size)⟩)
        · have hjd : decide (z ≤ j) = true := by simpa using hjz
          go_wp2_with fail
          with_reducible refine (alive_any _).mono ?_
          rintro e w4 ⟨rfl, hnn⟩
          have bx4 := (bx3).keep hnn
          have hB4 : Below w1.heap.size w1 w4 := by (repeat (first | (with_reducible assumption) | (with_reducible exact Below.refl _ _) | ((with_reducible refine Below.alloc ?_ ?hsz _); (case hsz => (first | omega | (simp; done) | (simp; omega) | (simp at *; omega)))) | ((with_reducible refine Below.setCell ?_ ?hsz _); (case hsz => (first | omega | (simp; done) | (simp; omega) | (simp at *; omega)))) | (with_reducible refine Below.drew ?_) | (with_reducible refine below_drewN ?_ _) | ((with_reducible refine Below.trans ?_ (Below.mono (by with_reducible assumption) ?hsz)); (case hsz => (first | omega | (simp; done) | (simp; omega) | (simp at *; omega))))))
          clear hnn
          (try clear d0 d1 g0 g1)
          obtain ⟨bs, d0, d1, g0, g1⟩ := id bx4
          go_wp2
          (go_ret; exact ⟨rfl, hBw1.trans (Below.mono (by with_reducible assumption) hBw1.size)⟩)
    · have hf' : freeB z ps = false := by simpa using hf
      go_wp2_with fail
      with_reducible refine (alive_any _).mono ?_
      rintro e w4 ⟨rfl, hnn⟩
      have bx4 := (bx3).keep hnn
      have hB4 : Below w1.heap.size w1 w4 := by (repeat (first | (with_reducible assumption) | (with_reducible exact Below.refl _ _) | ((with_reducible refine Below.alloc ?_ ?hsz _); (case hsz => (first | omega | (simp; done) | (simp; omega) | (simp at *; omega)))) | ((with_reducible refine Below.setCell ?_ ?hsz _); (case hsz => (first | omega | (simp; done) | (simp; omega) | (simp at *; omega)))) | (with_reducible refine Below.drew ?_) | (with_reducible refine below_drewN ?_ _) | ((with_reducible refine Below.trans ?_ (Below.mono (by with_reducible assumption) ?hsz)); (case hsz => (first | omega | (simp; done) | (simp; omega) | (simp at *; omega))))))
      clear hnn
      (try clear d0 d1 g0 g1)
      obtain ⟨bs, d0, d1, g0, g1⟩ := id bx4
      go_wp2
      (go_ret; exact ⟨rfl, hBw1.trans (Below.mono (by with_reducible assumption) hBw1.size)⟩)
  · have hh' : holdsB z ps xs = false := by simpa using hh
    go_wp2_with fail
    with_reducible refine (alive_any _).mono ?_
    rintro e w4 ⟨rfl, hnn⟩
    have bx4 := (bx2).keep hnn
    have hB4 : Below w1.heap.size w1 w4 := by (repeat (first | (with_reducible assumption) | (with_reducible exact Below.refl _ _) | ((with_reducible refine Below.alloc ?_ ?hsz _); (case hsz => (first | omega | (simp; done) | (simp; omega) | (simp at *; omega)))) | ((with_reducible refine Below.setCell ?_ ?hsz _); (case hsz => (first | omega | (simp; done) | (simp; omega) | (simp at *; omega)))) | (with_reducible refine Below.drew ?_) | (with_reducible refine below_drewN ?_ _) | ((with_reducible refine Below.trans ?_ (Below.mono (by with_reducible assumption) ?hsz)); (case hsz => (first | omega | (simp; done) | (simp; omega) | (simp at *; omega))))))
    clear hnn
    (try clear d0 d1 g0 g1)
    obtain ⟨bs, d0, d1, g0, g1⟩ := id bx4
    go_wp2
    (go_ret; exact ⟨rfl, hBw1.trans (Below.mono (by with_reducible assumption) hBw1.size)⟩)

set_option maxRecDepth 100000 in
theorem contract (H : Type) (enc : TypeId × Value → H) (W : World) (base : Nat) (args : Array Value) (ds gs : List (DataW H)) (before : List MemPlace)
    (hval : ∀ (j : Nat) t v, Try.f7.params[j]? = some t → args[j]? = some v → Value.okWide Try.prog W .any base t v)
    (hW : DataW.Whole enc Try.prog Try.f7.params.toList Rows.fnNoGreaterSpec.vars false W args.toList ds gs before) :
    Calls Try.prog 7 args W fun e W' => ∃ v, e = .returned v ∧ Rows.fnNoGreaterSpec.post enc Try.prog Try.f7 false true false false W args v W' := by
  have hW' := hW
  obtain ⟨p, q, hA0, hV, rfl, hfz, hnd⟩ := hW
  have hA : DataW.TrodAll enc Try.prog W 0 (fun _ => true) true Try.f7.params.toList args.toList ds p := hA0
  rw [Try.params7] at hA hval
  obtain ⟨u0, us0, d0, ds0, p0, q0, hargs, rfl, rfl, g0, k0⟩ := trodAll_cons hA
  obtain ⟨rfl, rfl, rfl⟩ := trodAll_nil k0
  obtain rfl : args = #[u0] := by cases args; simp_all
  obtain ⟨rfl, rfl⟩ := trodVars_none hV
  obtain ⟨m0, e0⟩ := g0
  obtain ⟨s0, l0, f0, hh0⟩ := open_arg_bytes e0
  have f0' := one_of_cells Try.underlying22 (hval 0 _ _ rfl rfl) f0
  subst f0'
  refine (walk _ l0 W hh0).mono fun e W' ⟨he, hb⟩ => ?_
  subst he
  exact ⟨_, rfl, law_post Try.kids Try.full (by rw [Try.params7]; decide) rfl rfl Try.underlying4 hW' rfl rfl rfl hb⟩

set_option maxRecDepth 100000 in
theorem lifted (os : Os) (started : os.Started) (H : Type) (enc : TypeId × Value → H) :
    ReturnsInHanded {} Try.checked os 7 .any (Rows.fnNoGreaterSpec.pre6 enc Try.prog Try.f7 Rows.fnNoGreaterRow.domain false) (Rows.fnNoGreaterSpec.post enc Try.prog Try.f7 false true false false) := by
  refine returnsInHanded_of_change (C := Try.checked) Try.own started (by kernel_rfl) Try.func7
    (ChangeSpec.witness6 (enc := enc) (C := Try.checked) false ⟨#[], #[.slice none 0 0], []⟩ 8 (by kernel_rfl) (by kernel_rfl) (by kernel_rfl) (by kernel_rfl)) ?_
  intro W base args ds gs before hval0 hW _ _
  exact contract H enc W base args ds gs before hval0 hW

theorem proved : Rows.FnNoGreaterSaid :=
  OpenClaim.holds_of_wide 7 Try.f7 rfl rfl rfl rfl rfl rfl rfl ⟨rfl, rfl, rfl, rfl, rfl⟩ rfl rfl rfl rfl rfl (by kernel_rfl) Try.func7 (by kernel_rfl)
    (of_decide_eq_true (by kernel_rfl)) (by unfold Func.isWrapper; first | (rw [if_pos (by decide +kernel)]; kernel_rfl) | (rw [if_neg (by decide +kernel)]; exact ⟨rfl, rfl⟩))
    (fun os started H enc _ => lifted os started H enc)

end Go.Proofs.Ytobbeofibkpbaaa.lawNoGreater
