/- FnBasinNew: for every code the law holds: the new basin is the model's; it is a basin, and what has left the first node is the room of its side alone. No condition. -/
import Derived.Test.YtabkhpeoeihmmaaKC
import Derived.Test.YtabkhpeoeihmmaaKF
import Derived.Test.YtabkhpeoeihmmaaKD
import Derived.Test.YtabkhpeoeihmmaaKB
import Derived.Test.YtabkhpeoeihmmaaZH
import Derived.Test.YtabkhpeoeihmmaaW3
import Derived.Test.YtabkhpeoeihmmaaW8
import Derived.Test.YtabkhpeoeihmmaaMG
namespace Go.Proofs.Ytabkhpeoeihmmaa.lawBasinNew
open Go.ChangeShapes Go.WideShapes Go.ChangeAt Go.RowKit Go.Deep Go.Joins

theorem new_facts {n : Int} {ps : List Pp} {I : Nat} {b : Int} (h : greatB n ps I b = true) :
    (excAt n ps (newX ps I) I).1 = -room (2 ^ I) ps ∧ (excAt n ps (newX ps I) I).2 = true ∧ (roomAt n ps (2 ^ I)).1 = room (2 ^ I) ps ∧ (roomAt n ps (2 ^ I)).2 = true ∧ basB n ps I b (newX ps I) (newH n I) = true ∧ -28 ≤ room (2 ^ I) ps ∧ room (2 ^ I) ps ≤ 28 := by
  obtain ⟨hn, n2, n5, a0, a1, b0, b1, hab⟩ := net_of_great h
  have hb := (new_bas h).1
  have hf := (holds_parts (bas_parts hb).2.1).1
  obtain ⟨e1, e2⟩ := excAt_yes hf a0 a1
  have hx := exc_new_first a0 n5 a1 (fun p hp => net_endsIn hn p hp) (free_le (great_parts h).1)
  rw [Int.toNat_natCast] at hx
  have hs := pow_side (a := (I : Int)) (n := n) a0 a1
  rw [Int.toNat_natCast] at hs
  have hr := room_yes (side_of hn hs.1 hs.2)
  have hbd := room_bd7 (s := 2 ^ I) hn
  exact ⟨by rw [e1, hx], e2, by rw [hr.1], by rw [hr.2], hb, by omega, by omega⟩

set_option maxRecDepth 20000 in
set_option maxHeartbeats 4000000 in
set_option maxRecDepth 20000 in
theorem walk (v : Value) (n : Nat) (w : World) (h : ArgBytes w v n) :
    Calls Try.prog 9 #[v] w fun e w' => e = .returned (.bool true) ∧ Below w.heap.size w w' := by
  obtain ⟨A, c, rfl, hc1, hc2, -⟩ := id h
  unfold maxLen at hc2
  by_cases hbig : 1048576 < n
  · go_enter Try.func9, Try.ntmps9
    go_wp2
    go_ret
    exact ⟨rfl, by (repeat (first | (with_reducible assumption) | (with_reducible exact Below.refl _ _) | ((with_reducible refine Below.alloc ?_ ?hsz _); (case hsz => (first | omega | (simp; done) | (simp; omega) | (simp at *; omega)))) | ((with_reducible refine Below.setCell ?_ ?hsz _); (case hsz => (first | omega | (simp; done) | (simp; omega) | (simp at *; omega)))) | (with_reducible refine Below.drew ?_) | (with_reducible refine below_drewN ?_ _) | ((with_reducible refine Below.trans ?_ (Below.mono (by with_reducible assumption) ?hsz)); (case hsz => (first | omega | (simp; done) | (simp; omega) | (simp at *; omega))))))⟩
  go_enter Try.func9, Try.ntmps9
  go_wp2_with fail
  with_reducible refine (drawBasinNew_any _ n _ (h.keep (by (repeat (first | (with_reducible assumption) | (with_reducible exact Below.refl _ _) | ((with_reducible refine Below.alloc ?_ ?hsz _); (case hsz => (first | omega | (simp; done) | (simp; omega) | (simp at *; omega)))) | ((with_reducible refine Below.setCell ?_ ?hsz _); (case hsz => (first | omega | (simp; done) | (simp; omega) | (simp at *; omega)))) | (with_reducible refine Below.drew ?_) | (with_reducible refine below_drewN ?_ _) | ((with_reducible refine Below.trans ?_ (Below.mono (by with_reducible assumption) ?hsz)); (case hsz => (first | omega | (simp; done) | (simp; omega) | (simp at *; omega))))))))).mono ?_
  rintro e w1 ⟨z, ps, u, i, j, rfl, hp, hb1, hl8, hz1, hz6⟩
  have hBw1 : Below w.heap.size w w1 := by (repeat (first | (with_reducible assumption) | (with_reducible exact Below.refl _ _) | ((with_reducible refine Below.alloc ?_ ?hsz _); (case hsz => (first | omega | (simp; done) | (simp; omega) | (simp at *; omega)))) | ((with_reducible refine Below.setCell ?_ ?hsz _); (case hsz => (first | omega | (simp; done) | (simp; omega) | (simp at *; omega)))) | (with_reducible refine Below.drew ?_) | (with_reducible refine below_drewN ?_ _) | ((with_reducible refine Below.trans ?_ (Below.mono (by with_reducible assumption) ?hsz)); (case hsz => (first | omega | (simp; done) | (simp; omega) | (simp at *; omega))))))
  clear h hc1 hc2 hbig
  obtain ⟨A1, c1, rfl, hk1, hk2, hsm, -⟩ := hp.form
  unfold maxLen at hk2
  have bx1 : Box2 (w1.alloc (.cells #[.int .i64 z, .slice A1 ps.length c1] 33)) w1.heap.size (.int .i64 z) (.slice A1 ps.length c1) := Box2.new _ _ _ _
  have hB1 : Below w1.heap.size w1 (w1.alloc (.cells #[.int .i64 z, .slice A1 ps.length c1] 33)) := by (repeat (first | (with_reducible assumption) | (with_reducible exact Below.refl _ _) | ((with_reducible refine Below.alloc ?_ ?hsz _); (case hsz => (first | omega | (simp; done) | (simp; omega) | (simp at *; omega)))) | ((with_reducible refine Below.setCell ?_ ?hsz _); (case hsz => (first | omega | (simp; done) | (simp; omega) | (simp at *; omega)))) | (with_reducible refine Below.drew ?_) | (with_reducible refine below_drewN ?_ _) | ((with_reducible refine Below.trans ?_ (Below.mono (by with_reducible assumption) ?hsz)); (case hsz => (first | omega | (simp; done) | (simp; omega) | (simp at *; omega))))))
  obtain ⟨bs, d0, d1, g0, g1⟩ := id bx1
  go_wp2_with fail
  refine (basinNew_any z i j _ ps _ _ (hp.keep hB1)).mono ?_
  rintro e w2 ⟨r1, r2, rfl, hr1, hr2, -, hnn⟩
  have bx2 := bx1.keep hnn
  have hB2 : Below w1.heap.size w1 w2 := by (repeat (first | (with_reducible assumption) | (with_reducible exact Below.refl _ _) | ((with_reducible refine Below.alloc ?_ ?hsz _); (case hsz => (first | omega | (simp; done) | (simp; omega) | (simp at *; omega)))) | ((with_reducible refine Below.setCell ?_ ?hsz _); (case hsz => (first | omega | (simp; done) | (simp; omega) | (simp at *; omega)))) | (with_reducible refine Below.drew ?_) | (with_reducible refine below_drewN ?_ _) | ((with_reducible refine Below.trans ?_ (Below.mono (by with_reducible assumption) ?hsz)); (case hsz => (first | omega | (simp; done) | (simp; omega) | (simp at *; omega))))))
  clear hnn d0 d1 g0 g1 bs bx1
  obtain ⟨bs, d0, d1, g0, g1⟩ := id bx2
  have hr10 := hr1
  have hr20 := hr2
  obtain ⟨A3, c3, rfl, -, -, -, -⟩ := hr1.form
  obtain ⟨A4, c4, rfl, -, -, -, -⟩ := hr2.form
  obtain ⟨m3, hm3⟩ : ∃ m, (bnewX z ps i j).length = m := ⟨_, rfl⟩
  obtain ⟨m4, hm4⟩ : ∃ m, (bnewH z ps i j).length = m := ⟨_, rfl⟩
  rw [hm3, hm4]
  rw [hm3] at hr10
  rw [hm4] at hr20
  have HM := Lib.hid (And.intro hm3 hm4)
  obtain ⟨w3, hw3⟩ : ∃ W, W = w2.alloc (.cells #[.slice A3 m3 c3, .slice A4 m4 c4] 35) := ⟨_, rfl⟩
  have hb3 : Below w2.heap.size w2 w3 := by rw [hw3]; (repeat (first | (with_reducible assumption) | (with_reducible exact Below.refl _ _) | ((with_reducible refine Below.alloc ?_ ?hsz _); (case hsz => (first | omega | (simp; done) | (simp; omega) | (simp at *; omega)))) | ((with_reducible refine Below.setCell ?_ ?hsz _); (case hsz => (first | omega | (simp; done) | (simp; omega) | (simp at *; omega)))) | (with_reducible refine Below.drew ?_) | (with_reducible refine below_drewN ?_ _) | ((with_reducible refine Below.trans ?_ (Below.mono (by with_reducible assumption) ?hsz)); (case hsz => (first | omega | (simp; done) | (simp; omega) | (simp at *; omega))))))
  have hz3 : w2.heap.size < w3.heap.size := by rw [hw3]; simp
  have y0 : w3.cell? ⟨w2.heap.size, 0, none⟩ = some (.slice A3 m3 c3) := by rw [hw3]; go_simp
  have y1 : w3.cell? ⟨w2.heap.size, 1, none⟩ = some (.slice A4 m4 c4) := by rw [hw3]; go_simp
  have bx3 := bx2.keep hb3
  have hB3 : Below w1.heap.size w1 w3 := hB2.trans (hb3.mono (by have := hB2.size; omega))
  have hx3 := hr10.keep hb3
  have ht3 := hr20.keep hb3
  clear hr1 hr2 hm3 hm4 hr10 hr20 hb3
  go_wp2_with fail
  rw [← hw3]
  clear hw3 d0 d1 g0 g1 bs
  obtain ⟨bs, d0, d1, g0, g1⟩ := id bx3
  refine (specBasinNew_any z i j _ ps _ _ (hp.keep hB3)).mono ?_
  rintro e w4 ⟨s1, s2, rfl, hs1, hs2, -, hnn⟩
  have bx4 := bx3.keep hnn
  have hB4 : Below w1.heap.size w1 w4 := hB3.trans (hnn.mono hB3.size)
  have hz4 := hnn.size
  have k0 := (hnn.cell (p := ⟨w2.heap.size, 0, none⟩) hz3).trans y0
  have k1 := (hnn.cell (p := ⟨w2.heap.size, 1, none⟩) hz3).trans y1
  have hx4 := hx3.keep hnn
  have ht4 := ht3.keep hnn
  have hs10 := hs1
  have hs20 := hs2
  obtain ⟨A5, c5, rfl, -, -, -, -⟩ := hs1.form
  obtain ⟨A6, c6, rfl, -, -, -, -⟩ := hs2.form
  rw [HM.out.1] at hs10 ⊢
  rw [HM.out.2] at hs20 ⊢
  clear hs1 hs2 hnn d0 d1 g0 g1 bs bx3 y0 y1 hx3 ht3
  obtain ⟨w5, hw5⟩ : ∃ W, W = w4.alloc (.cells #[.slice A5 m3 c5, .slice A6 m4 c6] 35) := ⟨_, rfl⟩
  have hb5 : Below w4.heap.size w4 w5 := by rw [hw5]; (repeat (first | (with_reducible assumption) | (with_reducible exact Below.refl _ _) | ((with_reducible refine Below.alloc ?_ ?hsz _); (case hsz => (first | omega | (simp; done) | (simp; omega) | (simp at *; omega)))) | ((with_reducible refine Below.setCell ?_ ?hsz _); (case hsz => (first | omega | (simp; done) | (simp; omega) | (simp at *; omega)))) | (with_reducible refine Below.drew ?_) | (with_reducible refine below_drewN ?_ _) | ((with_reducible refine Below.trans ?_ (Below.mono (by with_reducible assumption) ?hsz)); (case hsz => (first | omega | (simp; done) | (simp; omega) | (simp at *; omega))))))
  have hz5 : w4.heap.size < w5.heap.size := by rw [hw5]; simp
  have hzq : w2.heap.size < w4.heap.size := by omega
  have k0' := (hb5.cell (p := ⟨w2.heap.size, 0, none⟩) hzq).trans k0
  have k1' := (hb5.cell (p := ⟨w2.heap.size, 1, none⟩) hzq).trans k1
  have bx5 := bx4.keep hb5
  have hB5 : Below w1.heap.size w1 w5 := hB4.trans (hb5.mono hB4.size)
  have hx5 := hx4.keep hb5
  have ht5 := ht4.keep hb5
  have hs5 := hs10.keep hb5
  have hs6 := hs20.keep hb5
  obtain ⟨bs, d0, d1, g0, g1⟩ := id bx4
  go_wp2_with fail
  rw [← hw5]
  clear hw5 d0 d1 g0 g1 bs bx4 k0 k1 hx4 ht4 hs10 hs20 hb5
  obtain ⟨bs, d0, d1, g0, g1⟩ := id bx5
  refine (sameBasin_any _ _ _ _ _ _ _ _ _ _ _ hx5 ht5 hs5 hs6).mono ?_
  rintro e w6 ⟨rfl, hb6⟩
  have hB6 : Below w1.heap.size w1 w6 := hB5.trans (hb6.mono hB5.size)
  have hz6' := hb6.size
  have hzr : w2.heap.size < w5.heap.size := by omega
  have k0 := (hb6.cell (p := ⟨w2.heap.size, 0, none⟩) hzr).trans k0'
  have k1 := (hb6.cell (p := ⟨w2.heap.size, 1, none⟩) hzr).trans k1'
  have bx6 := bx5.keep hb6
  have hx6 := hx5.keep hb6
  have ht6 := ht5.keep hb6
  have hzs : w2.heap.size < w6.heap.size := by omega
  clear d0 d1 g0 g1 bs bx5 k0' k1' hx5 ht5 hs5 hs6 hb6
  obtain ⟨bs, d0, d1, g0, g1⟩ := id bx6
  by_cases hg : greatB z ps i j = true
  · rw [hg]
    obtain ⟨eX, eH⟩ := bnew_yes hg
    rw [eX] at hx6
    rw [eH] at ht6
    obtain ⟨hn, n2, n5, i0, i1, -⟩ := net_of_great hg
    obtain ⟨I, rfl⟩ : ∃ I : Nat, i = (I : Int) := ⟨i.toNat, by omega⟩
    obtain ⟨f1, f2, f3, f4, f5, f6, f7⟩ := new_facts hg
    have hly : (newH z (I : Int)).length ≤ 1048576 := by rw [newH_len]; omega
    have HF := Lib.hid (And.intro f5 hly)
    generalize newH z (I : Int) = ys at *
    generalize newX ps (I : Int) = xs at *
    clear eX eH hn hg f5 hly
    go_wp2_with fail
    refine (by
      have h9 := excessAt_any (I : Int) z _ (.slice A3 m3 c3) ps xs _ _ w6 (hp.keep hB6) hx6
      exact h9 : Calls Try.prog 39 #[.agg #[.int .i64 z, .slice A1 ps.length c1], .slice A3 m3 c3, .int .i64 (I : Int)] w6 _).mono ?_
    rintro e w7 ⟨rfl, hb7⟩
    rw [f1, f2]
    have hB7 : Below w1.heap.size w1 w7 := hB6.trans (hb7.mono hB6.size)
    have bx7 := bx6.keep hb7
    have q0 := (hb7.cell (p := ⟨w2.heap.size, 0, none⟩) hzs).trans k0
    have q1 := (hb7.cell (p := ⟨w2.heap.size, 1, none⟩) hzs).trans k1
    have hx7 := hx6.keep hb7
    have ht7 := ht6.keep hb7
    have hzt : w2.heap.size < w7.heap.size := by have := hb7.size; omega
    clear f1 f2 k0 k1 hx6 ht6 d0 d1 g0 g1 bs bx6 hb7
    obtain ⟨bs, d0, d1, g0, g1⟩ := id bx7
    have hpw : ∀ W, Below w7.heap.size w7 W → Calls Try.prog 40 #[.agg #[.int .i64 z, .slice A1 ps.length c1], .int .i64 (2 ^ I)] W fun e w' => e = .returned (.tuple #[.int .i64 (room (2 ^ I) ps), .bool true]) ∧ Below W.heap.size W w' := fun W hW => by
      have h9 := roomOfTop_any z (2 ^ I) _ ps _ W ((hp.keep hB7).keep hW)
      rw [f3, f4] at h9
      exact h9
    have HP := Lib.hid hpw
    have hI5 : I = 0 ∨ I = 1 ∨ I = 2 ∨ I = 3 ∨ I = 4 := by omega
    clear hpw f3 f4
    generalize hrm : room (2 ^ I) ps = rm at *
    clear hrm
    have hneg : IntKind.i64.wrap (-rm) = -rm := IntWalk.i64_in _ (by omega)
    have HFin := Lib.hid (fun W (hW : Below w7.heap.size w7 W) => (by
      have hW1 : Below w1.heap.size w1 W := hB7.trans (hW.mono hB7.size)
      have h9 := basinOk_any z (I : Int) j _ (.slice A3 m3 c3) (.slice A4 m4 c4) ps xs ys _ _ _ W (hp.keep hW1) (hx7.keep hW) (ht7.keep hW) HF.out.2
      rw [HF.out.1] at h9
      exact h9 : Calls Try.prog 20 #[.agg #[.int .i64 z, .slice A1 ps.length c1], .int .i64 (I : Int), .int .i64 j, .agg #[.slice A3 m3 c3, .slice A4 m4 c4]] W fun e w' => e = .returned (.bool true) ∧ Below W.heap.size W w'))
    rcases hI5 with rfl | rfl | rfl | rfl | rfl
    all_goals
      have HP2 := Lib.hid (fun p : Bw w7 => calls_bw (HP.out p.v p.h))
      go_wp2_with fail
      have hd0 := fun p : Bw w7 => (bw_cell p bs).trans d0
      have hd1 := fun p : Bw w7 => (bw_cell p bs).trans d1
      refine wp_region_bw (by kernel_rfl) (by kernel_rfl) ?_
      repeat (go_big_quiet_step ((go_at_call 40; exact HP2.out _)))
      refine wpQuiet_nil ?_
      rintro _ ⟨pw, rfl⟩
      have hbq := pw.h
      obtain ⟨w8, hw8⟩ : ∃ W, W = pw.v := ⟨_, rfl⟩
      rw [← hw8] at hbq ⊢
      have bx8 := bx7.keep hbq
      have hB8 : Below w1.heap.size w1 w8 := hB7.trans (hbq.mono hB7.size)
      have q0' := (hbq.cell (p := ⟨w2.heap.size, 0, none⟩) hzt).trans q0
      have q1' := (hbq.cell (p := ⟨w2.heap.size, 1, none⟩) hzt).trans q1
      clear d0 d1 g0 g1 hd0 hd1 hw8 bs q0 q1 HP HP2
      obtain ⟨bs, d0, d1, g0, g1⟩ := id bx8
      go_wp2_with fail
      refine (HFin.out _ hbq).mono ?_
      rintro e w9 ⟨rfl, hb9⟩
      have hB9 : Below w1.heap.size w1 w9 := hB8.trans (hb9.mono hB8.size)
      go_wp2
      (go_ret; exact ⟨rfl, hBw1.trans (Below.mono (by with_reducible assumption) hBw1.size)⟩)
  · have hg' : greatB z ps i j = false := by simpa using hg
    rw [hg']
    obtain ⟨eX, eH⟩ := bnew_no hg'
    rw [eX] at hx6
    rw [eH] at ht6
    clear hg hg' eX eH
    go_wp2_with fail
    refine (sameBasin_any _ _ (.slice none 0 0) (.slice none 0 0) [] [] _ _ w6.heap.size w6.heap.size _ hx6 ht6 (Ints_nil _ _) (Ints_nil _ _)).mono ?_
    rintro e w7 ⟨rfl, hb7⟩
    have hB7 : Below w1.heap.size w1 w7 := hB6.trans (hb7.mono hB6.size)
    go_wp2_with fail
    with_reducible refine (alive_any _).mono ?_
    rintro e w8 ⟨rfl, hn8⟩
    have hB8 : Below w1.heap.size w1 w8 := hB7.trans (hn8.mono hB7.size)
    go_wp2
    (go_ret; exact ⟨rfl, hBw1.trans (Below.mono (by with_reducible assumption) hBw1.size)⟩)

set_option maxRecDepth 100000 in
theorem contract (H : Type) (enc : TypeId × Value → H) (W : World) (base : Nat) (args : Array Value) (ds gs : List (DataW H)) (before : List MemPlace)
    (hval : ∀ (j : Nat) t v, Try.f9.params[j]? = some t → args[j]? = some v → Value.okWide Try.prog W .any base t v)
    (hW : DataW.Whole enc Try.prog Try.f9.params.toList Rows.fnBasinNewSpec.vars false W args.toList ds gs before) :
    Calls Try.prog 9 args W fun e W' => ∃ v, e = .returned v ∧ Rows.fnBasinNewSpec.post enc Try.prog Try.f9 false true false false W args v W' := by
  have hW' := hW
  obtain ⟨p, q, hA0, hV, rfl, hfz, hnd⟩ := hW
  have hA : DataW.TrodAll enc Try.prog W 0 (fun _ => true) true Try.f9.params.toList args.toList ds p := hA0
  rw [Try.params9] at hA hval
  obtain ⟨u0, us0, d0, ds0, p0, q0, hargs, rfl, rfl, g0, k0⟩ := trodAll_cons hA
  obtain ⟨rfl, rfl, rfl⟩ := trodAll_nil k0
  obtain rfl : args = #[u0] := by cases args; simp_all
  obtain ⟨rfl, rfl⟩ := trodVars_none hV
  obtain ⟨m0, e0⟩ := g0
  obtain ⟨s0, l0, f0, hh0⟩ := open_arg_bytes e0
  have f0' := one_of_cells Try.underlying49 (hval 0 _ _ rfl rfl) f0
  subst f0'
  refine (walk _ l0 W hh0).mono fun e W' ⟨he, hb⟩ => ?_
  subst he
  exact ⟨_, rfl, law_post Try.kids Try.full (by rw [Try.params9]; decide) rfl rfl Try.underlying4 hW' rfl rfl rfl hb⟩

set_option maxRecDepth 100000 in
theorem lifted (os : Os) (started : os.Started) (H : Type) (enc : TypeId × Value → H) :
    ReturnsInHanded {} Try.checked os 9 .any (Rows.fnBasinNewSpec.pre6 enc Try.prog Try.f9 Rows.fnBasinNewRow.domain false) (Rows.fnBasinNewSpec.post enc Try.prog Try.f9 false true false false) := by
  refine returnsInHanded_of_change (C := Try.checked) Try.own started (by kernel_rfl) Try.func9
    (ChangeSpec.witness6 (enc := enc) (C := Try.checked) false ⟨#[], #[.slice none 0 0], []⟩ 8 (by kernel_rfl) (by kernel_rfl) (by kernel_rfl) (by kernel_rfl)) ?_
  intro W base args ds gs before hval0 hW _ _
  exact contract H enc W base args ds gs before hval0 hW

theorem proved : Rows.FnBasinNewSaid :=
  OpenClaim.holds_of_wide 9 Try.f9 rfl rfl rfl rfl rfl rfl rfl ⟨rfl, rfl, rfl, rfl, rfl⟩ rfl rfl rfl rfl rfl (by kernel_rfl) Try.func9 (by kernel_rfl)
    (of_decide_eq_true (by kernel_rfl)) (by unfold Func.isWrapper; first | (rw [if_pos (by decide +kernel)]; kernel_rfl) | (rw [if_neg (by decide +kernel)]; exact ⟨rfl, rfl⟩))
    (fun os started H enc _ => lifted os started H enc)

end Go.Proofs.Ytabkhpeoeihmmaa.lawBasinNew
