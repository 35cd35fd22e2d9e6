/- FnNeedsGreatest: for every code the law holds: so much as one node can give and another one needs is what flows at most from that to this. No condition. -/
import Derived.Test.YtobbeofibkpbaaaGZ56
import Derived.Test.YtobbeofibkpbaaaGZ26
import Derived.Test.YtobbeofibkpbaaaGZ57
import Derived.Test.YtobbeofibkpbaaaGZ1
import Derived.Test.YtobbeofibkpbaaaGZ31
namespace Go.Proofs.Ytobbeofibkpbaaa.lawNeedsGreatest
open Go.ChangeShapes Go.WideShapes Go.ChangeAt Go.RowKit Go.Deep Go.Joins

theorem vals {n a b : Int} {ps : List Pp} (h : greatB n ps a b = true) : ∃ G, greatV n ps a b = G ∧ 0 ≤ G ∧ G ≤ 28 := by
  obtain ⟨hf, he⟩ := great_parts h
  have hle := le_cut he (free_holds hf) (fun v _ _ _ _ => exc_zeros v ps)
  rw [exc_zeros] at hle
  obtain ⟨s, -, -, -, es⟩ := least_at he
  have hb := room_bd7 (s := s) (ends_parts he).1
  exact ⟨leastI n ps a b, great_cut h, hle, by omega⟩

set_option maxRecDepth 20000 in
set_option maxHeartbeats 2000000 in
set_option maxRecDepth 20000 in
theorem walk (v : Value) (n : Nat) (w : World) (h : ArgBytes w v n) :
    Calls Try.prog 10 #[v] w fun e w' => e = .returned (.bool true) ∧ Below w.heap.size w w' := by
  obtain ⟨A, c, rfl, hc1, hc2, -⟩ := id h
  unfold maxLen at hc2
  by_cases hbig : 1048576 < n
  · go_enter Try.func10, Try.ntmps10
    go_wp2
    go_ret
    exact ⟨rfl, by (repeat (first | (with_reducible assumption) | (with_reducible exact Below.refl _ _) | ((with_reducible refine Below.alloc ?_ ?hsz _); (case hsz => (first | omega | (simp; done) | (simp; omega) | (simp at *; omega)))) | ((with_reducible refine Below.setCell ?_ ?hsz _); (case hsz => (first | omega | (simp; done) | (simp; omega) | (simp at *; omega)))) | (with_reducible refine Below.drew ?_) | (with_reducible refine below_drewN ?_ _) | ((with_reducible refine Below.trans ?_ (Below.mono (by with_reducible assumption) ?hsz)); (case hsz => (first | omega | (simp; done) | (simp; omega) | (simp at *; omega))))))⟩
  go_enter Try.func10, Try.ntmps10
  go_wp2_with fail
  with_reducible refine (drawGreatestValue_any _ n _ (h.keep (by (repeat (first | (with_reducible assumption) | (with_reducible exact Below.refl _ _) | ((with_reducible refine Below.alloc ?_ ?hsz _); (case hsz => (first | omega | (simp; done) | (simp; omega) | (simp at *; omega)))) | ((with_reducible refine Below.setCell ?_ ?hsz _); (case hsz => (first | omega | (simp; done) | (simp; omega) | (simp at *; omega)))) | (with_reducible refine Below.drew ?_) | (with_reducible refine below_drewN ?_ _) | ((with_reducible refine Below.trans ?_ (Below.mono (by with_reducible assumption) ?hsz)); (case hsz => (first | omega | (simp; done) | (simp; omega) | (simp at *; omega))))))))).mono ?_
  rintro e w1 ⟨z, ps, u, i, j, rfl, hp, hb1, hl8, hz1, hz6, hi0, hj0, hiz⟩
  have hBw1 : Below w.heap.size w w1 := by (repeat (first | (with_reducible assumption) | (with_reducible exact Below.refl _ _) | ((with_reducible refine Below.alloc ?_ ?hsz _); (case hsz => (first | omega | (simp; done) | (simp; omega) | (simp at *; omega)))) | ((with_reducible refine Below.setCell ?_ ?hsz _); (case hsz => (first | omega | (simp; done) | (simp; omega) | (simp at *; omega)))) | (with_reducible refine Below.drew ?_) | (with_reducible refine below_drewN ?_ _) | ((with_reducible refine Below.trans ?_ (Below.mono (by with_reducible assumption) ?hsz)); (case hsz => (first | omega | (simp; done) | (simp; omega) | (simp at *; omega))))))
  clear h hc1 hc2 hbig
  obtain ⟨A1, c1, rfl, hk1, hk2, hsm, -⟩ := hp.form
  unfold maxLen at hk2
  have bx1 : Box2 (w1.alloc (.cells #[.int .i64 z, .slice A1 ps.length c1] 25)) w1.heap.size (.int .i64 z) (.slice A1 ps.length c1) := Box2.new _ _ _ _
  have hB1 : Below w1.heap.size w1 (w1.alloc (.cells #[.int .i64 z, .slice A1 ps.length c1] 25)) := by (repeat (first | (with_reducible assumption) | (with_reducible exact Below.refl _ _) | ((with_reducible refine Below.alloc ?_ ?hsz _); (case hsz => (first | omega | (simp; done) | (simp; omega) | (simp at *; omega)))) | ((with_reducible refine Below.setCell ?_ ?hsz _); (case hsz => (first | omega | (simp; done) | (simp; omega) | (simp at *; omega)))) | (with_reducible refine Below.drew ?_) | (with_reducible refine below_drewN ?_ _) | ((with_reducible refine Below.trans ?_ (Below.mono (by with_reducible assumption) ?hsz)); (case hsz => (first | omega | (simp; done) | (simp; omega) | (simp at *; omega))))))
  go_wp2_with fail
  with_reducible refine (greatestValue_any z i j _ ps _ _ (hp.keep hB1)).mono ?_
  rintro e w2 ⟨rfl, hnn⟩
  have bx2 := (bx1).keep hnn
  have hB2 : Below w1.heap.size w1 w2 := by (repeat (first | (with_reducible assumption) | (with_reducible exact Below.refl _ _) | ((with_reducible refine Below.alloc ?_ ?hsz _); (case hsz => (first | omega | (simp; done) | (simp; omega) | (simp at *; omega)))) | ((with_reducible refine Below.setCell ?_ ?hsz _); (case hsz => (first | omega | (simp; done) | (simp; omega) | (simp at *; omega)))) | (with_reducible refine Below.drew ?_) | (with_reducible refine below_drewN ?_ _) | ((with_reducible refine Below.trans ?_ (Below.mono (by with_reducible assumption) ?hsz)); (case hsz => (first | omega | (simp; done) | (simp; omega) | (simp at *; omega))))))
  clear hnn
  (try clear d0 d1 g0 g1)
  obtain ⟨bs, d0, d1, g0, g1⟩ := id bx2
  by_cases hg : greatB z ps i j = true
  · obtain ⟨hok, i0, i1, j0, j1, hij⟩ := ends_parts (great_parts hg).2
    obtain ⟨G, hG, G0, G1⟩ := vals hg
    obtain ⟨N, rfl⟩ := Int.eq_ofNat_of_zero_le (show 0 ≤ z by omega)
    obtain ⟨f, rfl⟩ := Int.eq_ofNat_of_zero_le i0
    obtain ⟨t, rfl⟩ := Int.eq_ofNat_of_zero_le j0
    have hf : f < N := by omega
    have ht : t < N := by omega
    have HNG : Hid (∀ m, 0 ≤ m → m ≤ 12 → feedB N ps (oneNeed N f t m) = decide (m ≤ G)) := Lib.hid fun m m0 m1 => by rw [need_great hg m0 m1, hG]
    have hN6 : N ≤ 6 := by omega
    rw [hG]
    clear hok hg hG hij hiz
    have hmk := fun W => run_make_ints (n := N) (by omega) W
    go_wp2_with fail
    go_loopw [7] (fun t7 wr => ∃ k : Nat, k ≤ 13 ∧ t7 = .int .i64 k ∧ Box2 wr w1.heap.size (.int .i64 N) (.slice A1 ps.length c1) ∧ Below w1.heap.size w1 wr) (fun t7 _ => 13 - (intOf t7).toNat)
    case atStart => exact ⟨0, by omega, rfl, bx2, hB2⟩
    case round =>
      clear bs d0 d1 g0 g1 bx2 hB2
      obtain ⟨k, hk, rfl, bx, hB⟩ := hrel
      obtain ⟨bs, d0, d1, g0, g1⟩ := id bx
      have hzB := hB.size
      by_cases hk12 : k ≤ 12
      · have hkd : decide ((k : Int) ≤ 12) = true := decide_eq_true (by omega)
        obtain ⟨wm, hwm⟩ : ∃ wm, wm = wr.alloc (.cells (madeCells #[.int .i64 0] N) 3) := ⟨_, rfl⟩
        have hR0 : Row wm wr.heap.size wr.heap.size N N (List.replicate N 0) := by
          rw [hwm]
          exact ⟨made_ints wr N 3 wr.heap.size (Nat.le_refl _) (by omega), by unfold small; omega⟩
        have hbm : Below wr.heap.size wr wm := by rw [hwm]; (repeat (first | (with_reducible assumption) | (with_reducible exact Below.refl _ _) | ((with_reducible refine Below.alloc ?_ ?hsz _); (case hsz => (first | omega | (simp; done) | (simp; omega) | (simp at *; omega)))) | ((with_reducible refine Below.setCell ?_ ?hsz _); (case hsz => (first | omega | (simp; done) | (simp; omega) | (simp at *; omega)))) | (with_reducible refine Below.drew ?_) | (with_reducible refine below_drewN ?_ _) | ((with_reducible refine Below.trans ?_ (Below.mono (by with_reducible assumption) ?hsz)); (case hsz => (first | omega | (simp; done) | (simp; omega) | (simp at *; omega))))))
        have bxm := bx.keep hbm
        have HWM := Lib.hid hwm
        have hzm := hR0.lt.2
        clear hwm d0 d1 g0 g1 bs
        obtain ⟨bs, d0, d1, g0, g1⟩ := id bx
        have y0 := (hR0.at' f hf).1
        have y1 := (hR0.at' f hf).2
        have hR1 := hR0.set f (-(k : Int))
        have y2 := (hR1.at' t ht).1
        have y3 := (hR1.at' t ht).2
        have hR2 := hR1.set t (k : Int)
        have hI := hR2.ints
        have hHN := HNG.out (k : Int) (by omega) (by omega)
        have hbw : Below wr.heap.size wr ((wm.setCell ⟨wr.heap.size, f, none⟩ (.int .i64 (-(k : Int)))).setCell ⟨wr.heap.size, t, none⟩ (.int .i64 k)) := by (repeat (first | (with_reducible assumption) | (with_reducible exact Below.refl _ _) | ((with_reducible refine Below.alloc ?_ ?hsz _); (case hsz => (first | omega | (simp; done) | (simp; omega) | (simp at *; omega)))) | ((with_reducible refine Below.setCell ?_ ?hsz _); (case hsz => (first | omega | (simp; done) | (simp; omega) | (simp at *; omega)))) | (with_reducible refine Below.drew ?_) | (with_reducible refine below_drewN ?_ _) | ((with_reducible refine Below.trans ?_ (Below.mono (by with_reducible assumption) ?hsz)); (case hsz => (first | omega | (simp; done) | (simp; omega) | (simp at *; omega))))))
        have hbx := bx.keep hbw
        obtain ⟨w5, hw5⟩ : ∃ w5, w5 = (wm.setCell ⟨wr.heap.size, f, none⟩ (.int .i64 (-(k : Int)))).setCell ⟨wr.heap.size, t, none⟩ (.int .i64 k) := ⟨_, rfl⟩
        rw [← hw5] at hI hbw hbx
        have HI := Lib.hid (And.intro hI (And.intro hbw hHN))
        have HX := Lib.hid (And.intro hw5 hbx)
        clear hw5 hbx
        obtain ⟨bb, hbb⟩ : ∃ bb, decide ((k : Int) ≤ G) = bb := ⟨_, rfl⟩
        rw [hbb] at HI
        generalize (List.replicate N (0 : Int)).getD f 0 = ya at *
        generalize ((List.replicate N (0 : Int)).set f (-(k : Int))).getD t 0 = yb at *
        clear hR0 hR1 hR2 hI hHN hbw HNG hbm
        go_upto_region 11 with fail
        rw [← HWM.out]
        clear HWM d0 d1 g0 g1 bs
        go_upto_region 13 with fail
        rw [← HX.out.1]
        obtain ⟨bs, d0, d1, g0, g1⟩ := id HX.out.2
        go_wp2_with fail
        refine (feedingOf_any N _ _ ps (oneNeed N f t k) _ _ _ (hp.keep (hB.trans (HI.out.2.1.mono hzB))) HI.out.1).mono ?_
        rintro e w6 ⟨r, rfl, hr, hnn⟩
        rw [HI.out.2.2]
        have hb6 := HI.out.2.1.trans (hnn.mono HI.out.2.1.size)
        have bx6 := bx.keep hb6
        have hB6 := hB.trans (hb6.mono hzB)
        clear y0 y1 y2 y3 hnn hr hb6 HI HX d0 d1 g0 g1 bs bx bxm hzm
        cases bb
        all_goals
          go_wp2
          go_roundw
          case rel => exact ⟨k + 1, by omega, by go_num, bx6, hB6⟩
          case measure => simp [intOf]; omega
      · have hkd : decide ((k : Int) ≤ 12) = false := decide_eq_false (by omega)
        clear hk12 HNG hmk
        go_wp2_with fail
        with_reducible refine (alive_any _).mono ?_
        rintro e w6 ⟨rfl, hnn⟩
        have bx6 := (bx).keep hnn
        have hB6 : Below w1.heap.size w1 w6 := by (repeat (first | (with_reducible assumption) | (with_reducible exact Below.refl _ _) | ((with_reducible refine Below.alloc ?_ ?hsz _); (case hsz => (first | omega | (simp; done) | (simp; omega) | (simp at *; omega)))) | ((with_reducible refine Below.setCell ?_ ?hsz _); (case hsz => (first | omega | (simp; done) | (simp; omega) | (simp at *; omega)))) | (with_reducible refine Below.drew ?_) | (with_reducible refine below_drewN ?_ _) | ((with_reducible refine Below.trans ?_ (Below.mono (by with_reducible assumption) ?hsz)); (case hsz => (first | omega | (simp; done) | (simp; omega) | (simp at *; omega))))))
        clear hnn
        (try clear d0 d1 g0 g1)
        obtain ⟨bs, d0, d1, g0, g1⟩ := id bx6
        go_wp2
        (go_ret; exact ⟨rfl, hBw1.trans (Below.mono (by with_reducible assumption) hBw1.size)⟩)
  · have hV : greatV z ps i j = -1 := by rw [greatV, if_neg hg]
    rw [hV]
    clear hV hg
    go_wp2_with fail
    with_reducible refine (alive_any _).mono ?_
    rintro e w3 ⟨rfl, hnn⟩
    have bx3 := (bx2).keep hnn
    have hB3 : Below w1.heap.size w1 w3 := by (repeat (first | (with_reducible assumption) | (with_reducible exact Below.refl _ _) | ((with_reducible refine Below.alloc ?_ ?hsz _); (case hsz => (first | omega | (simp; done) | (simp; omega) | (simp at *; omega)))) | ((with_reducible refine Below.setCell ?_ ?hsz _); (case hsz => (first | omega | (simp; done) | (simp; omega) | (simp at *; omega)))) | (with_reducible refine Below.drew ?_) | (with_reducible refine below_drewN ?_ _) | ((with_reducible refine Below.trans ?_ (Below.mono (by with_reducible assumption) ?hsz)); (case hsz => (first | omega | (simp; done) | (simp; omega) | (simp at *; omega))))))
    clear hnn
    (try clear d0 d1 g0 g1)
    obtain ⟨bs, d0, d1, g0, g1⟩ := id bx3
    go_wp2
    (go_ret; exact ⟨rfl, hBw1.trans (Below.mono (by with_reducible assumption) hBw1.size)⟩)

set_option maxRecDepth 100000 in
theorem contract (H : Type) (enc : TypeId × Value → H) (W : World) (base : Nat) (args : Array Value) (ds gs : List (DataW H)) (before : List MemPlace)
    (hval : ∀ (j : Nat) t v, Try.f10.params[j]? = some t → args[j]? = some v → Value.okWide Try.prog W .any base t v)
    (hW : DataW.Whole enc Try.prog Try.f10.params.toList Rows.fnNeedsGreatestSpec.vars false W args.toList ds gs before) :
    Calls Try.prog 10 args W fun e W' => ∃ v, e = .returned v ∧ Rows.fnNeedsGreatestSpec.post enc Try.prog Try.f10 false true false false W args v W' := by
  have hW' := hW
  obtain ⟨p, q, hA0, hV, rfl, hfz, hnd⟩ := hW
  have hA : DataW.TrodAll enc Try.prog W 0 (fun _ => true) true Try.f10.params.toList args.toList ds p := hA0
  rw [Try.params10] at hA hval
  obtain ⟨u0, us0, d0, ds0, p0, q0, hargs, rfl, rfl, g0, k0⟩ := trodAll_cons hA
  obtain ⟨rfl, rfl, rfl⟩ := trodAll_nil k0
  obtain rfl : args = #[u0] := by cases args; simp_all
  obtain ⟨rfl, rfl⟩ := trodVars_none hV
  obtain ⟨m0, e0⟩ := g0
  obtain ⟨s0, l0, f0, hh0⟩ := open_arg_bytes e0
  have f0' := one_of_cells Try.underlying22 (hval 0 _ _ rfl rfl) f0
  subst f0'
  refine (walk _ l0 W hh0).mono fun e W' ⟨he, hb⟩ => ?_
  subst he
  exact ⟨_, rfl, law_post Try.kids Try.full (by rw [Try.params10]; decide) rfl rfl Try.underlying4 hW' rfl rfl rfl hb⟩

set_option maxRecDepth 100000 in
theorem lifted (os : Os) (started : os.Started) (H : Type) (enc : TypeId × Value → H) :
    ReturnsInHanded {} Try.checked os 10 .any (Rows.fnNeedsGreatestSpec.pre6 enc Try.prog Try.f10 Rows.fnNeedsGreatestRow.domain false) (Rows.fnNeedsGreatestSpec.post enc Try.prog Try.f10 false true false false) := by
  refine returnsInHanded_of_change (C := Try.checked) Try.own started (by kernel_rfl) Try.func10
    (ChangeSpec.witness6 (enc := enc) (C := Try.checked) false ⟨#[], #[.slice none 0 0], []⟩ 8 (by kernel_rfl) (by kernel_rfl) (by kernel_rfl) (by kernel_rfl)) ?_
  intro W base args ds gs before hval0 hW _ _
  exact contract H enc W base args ds gs before hval0 hW

theorem proved : Rows.FnNeedsGreatestSaid :=
  OpenClaim.holds_of_wide 10 Try.f10 rfl rfl rfl rfl rfl rfl rfl ⟨rfl, rfl, rfl, rfl, rfl⟩ rfl rfl rfl rfl rfl (by kernel_rfl) Try.func10 (by kernel_rfl)
    (of_decide_eq_true (by kernel_rfl)) (by unfold Func.isWrapper; first | (rw [if_pos (by decide +kernel)]; kernel_rfl) | (rw [if_neg (by decide +kernel)]; exact ⟨rfl, rfl⟩))
    (fun os started H enc _ => lifted os started H enc)

end Go.Proofs.Ytobbeofibkpbaaa.lawNeedsGreatest
