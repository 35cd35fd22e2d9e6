/- FnCostOf: for every code the law holds: the program's CostOf answers as the model; of a flow and itself, added, it is twice as much; of the turned net the same; of empty pipes 0. No condition. -/
import Derived.Test.YtphbmlephldaaaaL2
import Derived.Test.YtphbmlephldaaaaMG
import Derived.Test.YtphbmlephldaaaaDW
import Derived.Test.YtphbmlephldaaaaH1
import Derived.Test.YtphbmlephldaaaaI1
import Derived.Test.YtphbmlephldaaaaW4
import Derived.Test.YtphbmlephldaaaaW5
import Derived.Test.YtphbmlephldaaaaRW
import Derived.Deep.DeepCutAuto
namespace Go.Proofs.Ytphbmlephldaaaa.lawCostOf
open Go.ChangeShapes Go.WideShapes Go.ChangeAt Go.RowKit Go.Deep Go.Joins

/-- what the operations of the cost of empty pipes yield -/
def mkV (B : Nat) (nv t : Value) (N : Nat) (zs : List Int) (c : Int) (o : Bool) : Nat → Value → (Nat → Value) → World → Prop
  | 0, x, _, _ => x = nv
  | 1, x, _, _ => x = t
  | 2, x, _, _ => x = .int .i64 N
  | 3, x, _, wx => Ints wx B x zs
  | 4, x, _, _ => x = .tuple #[.int .i64 c, .bool o]
  | 5, x, _, _ => x = .tuple #[.int .i64 c, .bool o]
  | 6, x, _, _ => x = .int .i64 c
  | 7, x, _, _ => x = .bool o
  | 8, x, _, _ => x = .int .i64 c
  | 9, x, _, _ => x = .bool o
  | _, _, _, _ => True

set_option maxRecDepth 20000 in
set_option maxHeartbeats 4000000 in
set_option maxRecDepth 20000 in
theorem walk (v : Value) (n : Nat) (w : World) (h : ArgBytes w v n) :
    Calls Try.prog 6 #[v] w fun e w' => e = .returned (.bool true) ∧ Below w.heap.size w w' := by
  obtain ⟨A, c, rfl, hc1, hc2, -⟩ := id h
  unfold maxLen at hc2
  by_cases hbig : 1048576 < n
  · go_enter Try.func6, Try.ntmps6
    go_wp2
    go_ret
    exact ⟨rfl, by (repeat (first | (with_reducible assumption) | (with_reducible exact Below.refl _ _) | ((with_reducible refine Below.alloc ?_ ?hsz _); (case hsz => (first | omega | (simp; done) | (simp; omega) | (simp at *; omega)))) | ((with_reducible refine Below.setCell ?_ ?hsz _); (case hsz => (first | omega | (simp; done) | (simp; omega) | (simp at *; omega)))) | (with_reducible refine Below.drew ?_) | (with_reducible refine below_drewN ?_ _) | ((with_reducible refine Below.trans ?_ (Below.mono (by with_reducible assumption) ?hsz)); (case hsz => (first | omega | (simp; done) | (simp; omega) | (simp at *; omega))))))⟩
  go_enter Try.func6, Try.ntmps6
  go_wp2_with fail
  with_reducible refine (drawCostOf_any _ n _ (h.keep (by (repeat (first | (with_reducible assumption) | (with_reducible exact Below.refl _ _) | ((with_reducible refine Below.alloc ?_ ?hsz _); (case hsz => (first | omega | (simp; done) | (simp; omega) | (simp at *; omega)))) | ((with_reducible refine Below.setCell ?_ ?hsz _); (case hsz => (first | omega | (simp; done) | (simp; omega) | (simp at *; omega)))) | (with_reducible refine Below.drew ?_) | (with_reducible refine below_drewN ?_ _) | ((with_reducible refine Below.trans ?_ (Below.mono (by with_reducible assumption) ?hsz)); (case hsz => (first | omega | (simp; done) | (simp; omega) | (simp at *; omega))))))))).mono ?_
  rintro e w1 ⟨z, ps, u, xs, t, rfl, hp, hx, hb1, hl8, hz1, hz6⟩
  have hBw1 : Below w.heap.size w w1 := by (repeat (first | (with_reducible assumption) | (with_reducible exact Below.refl _ _) | ((with_reducible refine Below.alloc ?_ ?hsz _); (case hsz => (first | omega | (simp; done) | (simp; omega) | (simp at *; omega)))) | ((with_reducible refine Below.setCell ?_ ?hsz _); (case hsz => (first | omega | (simp; done) | (simp; omega) | (simp at *; omega)))) | (with_reducible refine Below.drew ?_) | (with_reducible refine below_drewN ?_ _) | ((with_reducible refine Below.trans ?_ (Below.mono (by with_reducible assumption) ?hsz)); (case hsz => (first | omega | (simp; done) | (simp; omega) | (simp at *; omega))))))
  clear h hc1 hc2 hbig
  obtain ⟨A1, c1, rfl, hk1, hk2, hsm, -⟩ := hp.form
  unfold maxLen at hk2
  have bx1 : Box2 (w1.alloc (.cells #[.int .i64 z, .slice A1 ps.length c1] 25)) w1.heap.size (.int .i64 z) (.slice A1 ps.length c1) := Box2.new _ _ _ _
  have hB1 : Below w1.heap.size w1 (w1.alloc (.cells #[.int .i64 z, .slice A1 ps.length c1] 25)) := by (repeat (first | (with_reducible assumption) | (with_reducible exact Below.refl _ _) | ((with_reducible refine Below.alloc ?_ ?hsz _); (case hsz => (first | omega | (simp; done) | (simp; omega) | (simp at *; omega)))) | ((with_reducible refine Below.setCell ?_ ?hsz _); (case hsz => (first | omega | (simp; done) | (simp; omega) | (simp at *; omega)))) | (with_reducible refine Below.drew ?_) | (with_reducible refine below_drewN ?_ _) | ((with_reducible refine Below.trans ?_ (Below.mono (by with_reducible assumption) ?hsz)); (case hsz => (first | omega | (simp; done) | (simp; omega) | (simp at *; omega))))))
  go_wp2_with fail
  with_reducible refine (costOf_any z _ _ ps xs _ _ _ (hp.keep hB1) (hx.keep hB1)).mono ?_
  rintro e w2 ⟨rfl, hnn⟩
  have bx2 := (bx1).keep hnn
  have hB2 : Below w1.heap.size w1 w2 := by (repeat (first | (with_reducible assumption) | (with_reducible exact Below.refl _ _) | ((with_reducible refine Below.alloc ?_ ?hsz _); (case hsz => (first | omega | (simp; done) | (simp; omega) | (simp at *; omega)))) | ((with_reducible refine Below.setCell ?_ ?hsz _); (case hsz => (first | omega | (simp; done) | (simp; omega) | (simp at *; omega)))) | (with_reducible refine Below.drew ?_) | (with_reducible refine below_drewN ?_ _) | ((with_reducible refine Below.trans ?_ (Below.mono (by with_reducible assumption) ?hsz)); (case hsz => (first | omega | (simp; done) | (simp; omega) | (simp at *; omega))))))
  clear hnn
  (try clear d0 d1 g0 g1)
  obtain ⟨bs, d0, d1, g0, g1⟩ := id bx2
  go_wp2_with fail
  with_reducible refine (specCostOf_any z _ _ ps xs _ _ _ (hp.keep hB2) (hx.keep hB2)).mono ?_
  rintro e w3 ⟨rfl, hnn⟩
  have bx3 := (bx2).keep hnn
  have hB3 : Below w1.heap.size w1 w3 := by (repeat (first | (with_reducible assumption) | (with_reducible exact Below.refl _ _) | ((with_reducible refine Below.alloc ?_ ?hsz _); (case hsz => (first | omega | (simp; done) | (simp; omega) | (simp at *; omega)))) | ((with_reducible refine Below.setCell ?_ ?hsz _); (case hsz => (first | omega | (simp; done) | (simp; omega) | (simp at *; omega)))) | (with_reducible refine Below.drew ?_) | (with_reducible refine below_drewN ?_ _) | ((with_reducible refine Below.trans ?_ (Below.mono (by with_reducible assumption) ?hsz)); (case hsz => (first | omega | (simp; done) | (simp; omega) | (simp at *; omega))))))
  clear hnn
  (try clear d0 d1 g0 g1)
  obtain ⟨bs, d0, d1, g0, g1⟩ := id bx3
  by_cases hf : flowOkB z ps xs = true
  · obtain ⟨hok, hlen, hall⟩ := flowOk_parts hf
    have hc := costR_yes hf
    obtain ⟨C, hC⟩ : ∃ C, costS ps xs = C := ⟨_, rfl⟩
    have hbd := costS_bd7 hf 8
    have h7 := (netOk_parts hok).2.2.1
    rw [List.take_of_length_le (by omega), List.take_of_length_le (by omega), hC] at hbd
    obtain ⟨C1, C2⟩ := hbd
    rw [hc, hC]
    have HF := Lib.hid hf
    have Hdbl : Hid (bothB z ps xs xs = true → bothR z ps xs xs = addAll xs xs ∧ costR z ps (addAll xs xs) = (2 * C, true)) := Lib.hid fun hb => by
      refine ⟨by simp [bothR, hb], ?_⟩
      have hb' := hb
      simp only [bothB, Bool.and_eq_true] at hb'
      rw [costR_yes hb'.2, costS_add ps xs xs rfl, hC]
      congr 1; omega
    have Htn : Hid (costR z (ps.map turnP) xs = (C, true)) := Lib.hid (by rw [costR_yes (by rw [flowOk_turn]; exact hf), costS_turn, hC])
    have Hz : Hid (costR z ps (List.replicate xs.length 0) = (0, true)) := Lib.hid (by
      rw [costR_yes, costS_zero]
      simp only [flowOkB, Bool.and_eq_true, decide_eq_true_eq, List.length_replicate, List.all_replicate]
      refine ⟨⟨hok, hlen⟩, ?_⟩
      simp [withinB])
    have hxl : xs.length ≤ 7 := by omega
    clear hc hC hf hlen hall
    obtain ⟨At, ct, rfl, hct1, hct2, hctm, -⟩ := hx.form
    obtain ⟨X, hX⟩ : ∃ X, xs.length = X := ⟨_, rfl⟩
    have HX := Lib.hid hX
    rw [hX] at hxl hx ⊢
    clear hX hct1
    go_wp2_with fail
    with_reducible refine (bothFlows_any z _ _ _ ps xs xs _ _ _ _ (hp.keep hB3) (hx.keep hB3) (hx.keep hB3)).mono ?_
    rintro e w4 ⟨s4, rfl, hs4, hnn⟩
    have bx4 := bx3.keep hnn
    have hB4 : Below w1.heap.size w1 w4 := by (repeat (first | (with_reducible assumption) | (with_reducible exact Below.refl _ _) | ((with_reducible refine Below.alloc ?_ ?hsz _); (case hsz => (first | omega | (simp; done) | (simp; omega) | (simp at *; omega)))) | ((with_reducible refine Below.setCell ?_ ?hsz _); (case hsz => (first | omega | (simp; done) | (simp; omega) | (simp at *; omega)))) | (with_reducible refine Below.drew ?_) | (with_reducible refine below_drewN ?_ _) | ((with_reducible refine Below.trans ?_ (Below.mono (by with_reducible assumption) ?hsz)); (case hsz => (first | omega | (simp; done) | (simp; omega) | (simp at *; omega))))))
    clear hnn d0 d1 g0 g1
    obtain ⟨bs, d0, d1, g0, g1⟩ := id bx4
    obtain ⟨M, o1, hM, hmo⟩ : ∃ M o1, costR z ps (bothR z ps xs xs) = (M, o1) ∧ (bothB z ps xs xs = true → M = 2 * C ∧ o1 = true) := ⟨(costR z ps (bothR z ps xs xs)).1, (costR z ps (bothR z ps xs xs)).2, rfl, fun hb => by
      have := Hdbl.out hb
      rw [this.1, this.2]; exact ⟨rfl, rfl⟩⟩
    have HM := Lib.hid hM
    clear hM
    go_wp2_with fail
    with_reducible refine (costOf_any z _ _ ps (bothR z ps xs xs) _ _ _ (hp.keep hB4) hs4).mono ?_
    rintro e w5 ⟨rfl, hnn⟩
    rw [HM.out]
    have bx5 := bx4.keep hnn
    have hB5 : Below w1.heap.size w1 w5 := by (repeat (first | (with_reducible assumption) | (with_reducible exact Below.refl _ _) | ((with_reducible refine Below.alloc ?_ ?hsz _); (case hsz => (first | omega | (simp; done) | (simp; omega) | (simp at *; omega)))) | ((with_reducible refine Below.setCell ?_ ?hsz _); (case hsz => (first | omega | (simp; done) | (simp; omega) | (simp at *; omega)))) | (with_reducible refine Below.drew ?_) | (with_reducible refine below_drewN ?_ _) | ((with_reducible refine Below.trans ?_ (Below.mono (by with_reducible assumption) ?hsz)); (case hsz => (first | omega | (simp; done) | (simp; omega) | (simp at *; omega))))))
    clear hnn d0 d1 g0 g1
    obtain ⟨bs, d0, d1, g0, g1⟩ := id bx5
    go_wp2_with fail
    with_reducible refine (turned_any z _ ps _ _ (hp.keep hB5)).mono ?_
    rintro e w6 ⟨sT, rfl, hq6, hnn⟩
    rw [(turn_yes hok).2] at hq6
    rw [(turn_yes hok).1]
    have bx6 := (bx5).keep hnn
    have hB6 : Below w1.heap.size w1 w6 := by (repeat (first | (with_reducible assumption) | (with_reducible exact Below.refl _ _) | ((with_reducible refine Below.alloc ?_ ?hsz _); (case hsz => (first | omega | (simp; done) | (simp; omega) | (simp at *; omega)))) | ((with_reducible refine Below.setCell ?_ ?hsz _); (case hsz => (first | omega | (simp; done) | (simp; omega) | (simp at *; omega)))) | (with_reducible refine Below.drew ?_) | (with_reducible refine below_drewN ?_ _) | ((with_reducible refine Below.trans ?_ (Below.mono (by with_reducible assumption) ?hsz)); (case hsz => (first | omega | (simp; done) | (simp; omega) | (simp at *; omega))))))
    clear hnn
    (try clear d0 d1 g0 g1)
    obtain ⟨bs, d0, d1, g0, g1⟩ := id bx6
    go_wp2_with fail
    with_reducible refine (costOf_any z _ _ (ps.map turnP) xs _ _ _ hq6 (hx.keep hB6)).mono ?_
    rintro e w7 ⟨rfl, hnn⟩
    rw [Htn.out]
    have bx7 := bx6.keep hnn
    have hB7 : Below w1.heap.size w1 w7 := by (repeat (first | (with_reducible assumption) | (with_reducible exact Below.refl _ _) | ((with_reducible refine Below.alloc ?_ ?hsz _); (case hsz => (first | omega | (simp; done) | (simp; omega) | (simp at *; omega)))) | ((with_reducible refine Below.setCell ?_ ?hsz _); (case hsz => (first | omega | (simp; done) | (simp; omega) | (simp at *; omega)))) | (with_reducible refine Below.drew ?_) | (with_reducible refine below_drewN ?_ _) | ((with_reducible refine Below.trans ?_ (Below.mono (by with_reducible assumption) ?hsz)); (case hsz => (first | omega | (simp; done) | (simp; omega) | (simp at *; omega))))))
    clear hnn d0 d1 g0 g1
    obtain ⟨bs, d0, d1, g0, g1⟩ := id bx7
    have hmk := fun W => run_make_ints (n := X) (by omega) W
    have hz7 := hB7.size
    go_wp2_with fail
    refine wp_region_flow 10 none [(0, 73), (1, 74), (2, 75), (3, 76), (4, 77), (5, 72), (6, 78), (7, 79), (8, 15), (9, 16)] (mkV w7.heap.size (.agg #[.int .i64 z, .slice A1 ps.length c1]) (.slice At X ct) X (List.replicate X 0) 0 true) (fun _ wx wy => Below wx.heap.size wx wy) (fun _ wx => Below w7.heap.size w7 wx) (by kernel_rfl) (by kernel_rfl) rfl ⟨rfl, rfl, rfl, Nat.le_refl _, fun _ _ => rfl⟩ ?_ ?_ ?_ ?_
    · intro i j hi hj hal x u wx wy hR hV
      have hj' : j < 10 := hj
      rcases j with _ | _ | _ | _ | _ | _ | _ | _ | _ | _ | j
      all_goals first | exact hV | (exact Ints.keep hV hR) | (exfalso; omega)
    · intro j hj x u u' wx h hV
      have hj' : j < 10 := hj
      rcases j with _ | _ | _ | _ | _ | _ | _ | _ | _ | _ | j
      all_goals first | exact hV | (exfalso; omega)
    · simp only [eachOp, fillF, List.setIfInBounds_toArray, List.set_cons_succ, List.set_cons_zero]
      refine ⟨?_, ?_, ?_, ?_, ?_, ?_, ?_, ?_, ?_, ?_, trivial⟩ <;> intro u f wx hC hd <;> (try simp [allV, useOf, Region.binds] at hd)
      · have e0 := (bel_cell hC bs).trans d0
        have e1 := (bel_cell hC bs).trans d1
        go_wp2
        exact ⟨_, rfl, rfl, Below.refl _ _, hC⟩
      · go_wp2
        exact ⟨_, rfl, rfl, Below.refl _ _, hC⟩
      · rw [show u 1 = _ from hd]
        go_wp2
        exact ⟨_, rfl, rfl, Below.refl _ _, hC⟩
      · rw [show u 2 = _ from hd]
        go_wp2
        exact ⟨_, rfl, Ints_made _ hC.size (by omega) rfl, (Below.refl _ _).alloc (Nat.le_refl _) _, hC.alloc hC.size _⟩
      · obtain ⟨e0, e3⟩ : u 0 = .agg #[.int .i64 z, .slice A1 ps.length c1] ∧ Ints wx w7.heap.size (u 3) (List.replicate X 0) := hd
        rw [e0]
        go_wp2_with fail
        refine (costOf_any z _ _ ps (List.replicate X 0) _ _ _ (hp.keep (hB7.trans (hC.mono hz7))) e3).mono ?_
        rintro e wy ⟨rfl, hb9⟩
        rw [show costR z ps (List.replicate X 0) = (0, true) by rw [← HX.out]; exact Hz.out]
        go_wp2
        exact ⟨_, rfl, rfl, hb9, hC.trans (hb9.mono hC.size)⟩
      · rw [show u 4 = _ from hd]
        go_wp2
        exact ⟨_, rfl, rfl, Below.refl _ _, hC⟩
      · rw [show u 5 = _ from hd]
        go_wp2
        exact ⟨_, rfl, rfl, Below.refl _ _, hC⟩
      · rw [show u 5 = _ from hd]
        go_wp2
        exact ⟨_, rfl, rfl, Below.refl _ _, hC⟩
      · rw [show u 6 = _ from hd]
        go_wp2
        exact ⟨_, rfl, rfl, Below.refl _ _, hC⟩
      · rw [show u 7 = _ from hd]
        go_wp2
        exact ⟨_, rfl, rfl, Below.refl _ _, hC⟩
    · intro u f wx hC hfin
      simp only [fillEnd, fillF, Act.put, List.setIfInBounds_toArray, List.set_cons_succ, List.set_cons_zero]
      rw [show u 8 = _ from hfin 8 (by decide) (by decide), show u 9 = _ from hfin 9 (by decide) (by decide)]
      have hB8 := hB7.trans (hC.mono hz7)
      have hC2 : (C == C) = true := by simp
      have hfin2 := hBw1.trans (hB8.mono hBw1.size)
      by_cases hb : bothB z ps xs xs = true
      · obtain ⟨rfl, rfl⟩ := hmo hb
        rw [hb]
        go_wp2
        go_ret
        exact ⟨rfl, hfin2⟩
      · have hb' : bothB z ps xs xs = false := by simpa using hb
        rw [hb']
        clear hmo hb hb'
        go_wp2
        go_ret
        exact ⟨rfl, hfin2⟩
  · have hf' : flowOkB z ps xs = false := by simpa using hf
    rw [costR_no hf']
    clear hf hf'
    go_wp2_with fail
    with_reducible refine (alive_any _).mono ?_
    rintro e w4 ⟨rfl, hnn⟩
    have bx4 := (bx3).keep hnn
    have hB4 : Below w1.heap.size w1 w4 := by (repeat (first | (with_reducible assumption) | (with_reducible exact Below.refl _ _) | ((with_reducible refine Below.alloc ?_ ?hsz _); (case hsz => (first | omega | (simp; done) | (simp; omega) | (simp at *; omega)))) | ((with_reducible refine Below.setCell ?_ ?hsz _); (case hsz => (first | omega | (simp; done) | (simp; omega) | (simp at *; omega)))) | (with_reducible refine Below.drew ?_) | (with_reducible refine below_drewN ?_ _) | ((with_reducible refine Below.trans ?_ (Below.mono (by with_reducible assumption) ?hsz)); (case hsz => (first | omega | (simp; done) | (simp; omega) | (simp at *; omega))))))
    clear hnn
    (try clear d0 d1 g0 g1)
    obtain ⟨bs, d0, d1, g0, g1⟩ := id bx4
    go_wp2
    (go_ret; exact ⟨rfl, hBw1.trans (Below.mono (by with_reducible assumption) hBw1.size)⟩)

set_option maxRecDepth 100000 in
theorem contract (H : Type) (enc : TypeId × Value → H) (W : World) (base : Nat) (args : Array Value) (ds gs : List (DataW H)) (before : List MemPlace)
    (hval : ∀ (j : Nat) t v, Try.f6.params[j]? = some t → args[j]? = some v → Value.okWide Try.prog W .any base t v)
    (hW : DataW.Whole enc Try.prog Try.f6.params.toList Rows.fnCostOfSpec.vars false W args.toList ds gs before) :
    Calls Try.prog 6 args W fun e W' => ∃ v, e = .returned v ∧ Rows.fnCostOfSpec.post enc Try.prog Try.f6 false true false false W args v W' := by
  have hW' := hW
  obtain ⟨p, q, hA0, hV, rfl, hfz, hnd⟩ := hW
  have hA : DataW.TrodAll enc Try.prog W 0 (fun _ => true) true Try.f6.params.toList args.toList ds p := hA0
  rw [Try.params6] at hA hval
  obtain ⟨u0, us0, d0, ds0, p0, q0, hargs, rfl, rfl, g0, k0⟩ := trodAll_cons hA
  obtain ⟨rfl, rfl, rfl⟩ := trodAll_nil k0
  obtain rfl : args = #[u0] := by cases args; simp_all
  obtain ⟨rfl, rfl⟩ := trodVars_none hV
  obtain ⟨m0, e0⟩ := g0
  obtain ⟨s0, l0, f0, hh0⟩ := open_arg_bytes e0
  have f0' := one_of_cells Try.underlying22 (hval 0 _ _ rfl rfl) f0
  subst f0'
  refine (walk _ l0 W hh0).mono fun e W' ⟨he, hb⟩ => ?_
  subst he
  exact ⟨_, rfl, law_post Try.kids Try.full (by rw [Try.params6]; decide) rfl rfl Try.underlying4 hW' rfl rfl rfl hb⟩

set_option maxRecDepth 100000 in
theorem lifted (os : Os) (started : os.Started) (H : Type) (enc : TypeId × Value → H) :
    ReturnsInHanded {} Try.checked os 6 .any (Rows.fnCostOfSpec.pre6 enc Try.prog Try.f6 Rows.fnCostOfRow.domain false) (Rows.fnCostOfSpec.post enc Try.prog Try.f6 false true false false) := by
  refine returnsInHanded_of_change (C := Try.checked) Try.own started (by kernel_rfl) Try.func6
    (ChangeSpec.witness6 (enc := enc) (C := Try.checked) false ⟨#[], #[.slice none 0 0], []⟩ 8 (by kernel_rfl) (by kernel_rfl) (by kernel_rfl) (by kernel_rfl)) ?_
  intro W base args ds gs before hval0 hW _ _
  exact contract H enc W base args ds gs before hval0 hW

theorem proved : Rows.FnCostOfSaid :=
  OpenClaim.holds_of_wide 6 Try.f6 rfl rfl rfl rfl rfl rfl rfl ⟨rfl, rfl, rfl, rfl, rfl⟩ rfl rfl rfl rfl rfl (by kernel_rfl) Try.func6 (by kernel_rfl)
    (of_decide_eq_true (by kernel_rfl)) (by unfold Func.isWrapper; first | (rw [if_pos (by decide +kernel)]; kernel_rfl) | (rw [if_neg (by decide +kernel)]; exact ⟨rfl, rfl⟩))
    (fun os started H enc _ => lifted os started H enc)

end Go.Proofs.Ytphbmlephldaaaa.lawCostOf
