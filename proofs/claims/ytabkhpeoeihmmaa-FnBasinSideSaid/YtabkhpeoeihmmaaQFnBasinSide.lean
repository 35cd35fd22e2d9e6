/- FnBasinSide: for every code the law holds: all nodes from which there is no way to the other node in the flow after all steps, itself left out, are a narrowest side, within which each narrowest side is. No condition. -/
import Derived.Test.YtabkhpeoeihmmaaKC
import Derived.Test.YtabkhpeoeihmmaaL3
import Derived.Test.YtabkhpeoeihmmaaKD
import Derived.Test.YtabkhpeoeihmmaaKB
import Derived.Test.YtabkhpeoeihmmaaWB
import Derived.Test.YtabkhpeoeihmmaaMG
namespace Go.Proofs.Ytabkhpeoeihmmaa.lawBasinSide
open Go.ChangeShapes Go.WideShapes Go.ChangeAt Go.RowKit Go.Deep Go.Joins

theorem less_none12 : ∀ (s t : Fin 32), (∀ v : Fin 5, bitB (s.val : Int) (v.val : Int) = true → bitB (t.val : Int) (v.val : Int) = true) → bits .andNot .i64 (s.val : Int) (t.val : Int) = 0 := by decide +kernel

theorem side_facts {n : Int} {ps : List Pp} {a b : Int} (h : greatB n ps a b = true) :
    decide (noWayI n ps (runX n ps a b) b ∈ narrowL n ps a b) = true ∧ ∀ t ∈ narrowL n ps a b, bits .andNot .i64 t (noWayI n ps (runX n ps a b) b) = 0 := by
  obtain ⟨hn, n2, n5, -⟩ := net_of_great h
  obtain ⟨q1, -, -, q4, -⟩ := run_end h
  have he := (great_parts h).2
  have hh := (bas_parts q1).2.1
  obtain ⟨h1, h2⟩ := noWay_narrow he hh q4 (bas_no_way q1)
  obtain ⟨r0, r1⟩ := noWay_in n ps (runX n ps a b) b
  have hr5 := pow_le5 n5
  refine ⟨decide_eq_true h1, fun t ht => ?_⟩
  obtain ⟨t0, t1, -⟩ := (narrow_mem he).1 ht
  have hlt : ∀ v : Int, 0 ≤ v → v < 5 → bitB t v = true → bitB (noWayI n ps (runX n ps a b) b) v = true := fun v v0 v5 hb => by
    by_cases hv : v < n
    · exact h2 t ht v v0 hv hb
    · exfalso
      have ht2 : t < 2 ^ n.toNat := by omega
      have hk : t / 2 ^ v.toNat = 0 := Int.ediv_eq_zero_of_lt t0 (by
        have : (2 : Int) ^ n.toNat ≤ 2 ^ v.toNat := by
          have : n.toNat ≤ v.toNat := by omega
          exact_mod_cast Nat.pow_le_pow_right (by decide) this
        omega)
      simp [bitB, hk] at hb
  have := less_none12 ⟨t.toNat, by omega⟩ ⟨(noWayI n ps (runX n ps a b) b).toNat, by omega⟩ (fun v hb => by
    have e1 : ((t.toNat : Nat) : Int) = t := Int.toNat_of_nonneg t0
    have e2 : (((noWayI n ps (runX n ps a b) b).toNat : Nat) : Int) = noWayI n ps (runX n ps a b) b := Int.toNat_of_nonneg r0
    dsimp only at hb ⊢
    rw [e1] at hb
    rw [e2]
    exact hlt v.val (by omega) (by have := v.isLt; omega) hb)
  have e1 : ((t.toNat : Nat) : Int) = t := Int.toNat_of_nonneg t0
  have e2 : (((noWayI n ps (runX n ps a b) b).toNat : Nat) : Int) = noWayI n ps (runX n ps a b) b := Int.toNat_of_nonneg r0
  dsimp only at this
  rw [e1, e2] at this
  exact this

set_option maxRecDepth 20000 in
set_option maxHeartbeats 4000000 in
set_option maxRecDepth 20000 in
theorem walk (v : Value) (n : Nat) (w : World) (h : ArgBytes w v n) :
    Calls Try.prog 13 #[v] w fun e w' => e = .returned (.bool true) ∧ Below w.heap.size w w' := by
  obtain ⟨A, c, rfl, hc1, hc2, -⟩ := id h
  unfold maxLen at hc2
  by_cases hbig : 1048576 < n
  · go_enter Try.func13, Try.ntmps13
    go_wp2
    go_ret
    exact ⟨rfl, by (repeat (first | (with_reducible assumption) | (with_reducible exact Below.refl _ _) | ((with_reducible refine Below.alloc ?_ ?hsz _); (case hsz => (first | omega | (simp; done) | (simp; omega) | (simp at *; omega)))) | ((with_reducible refine Below.setCell ?_ ?hsz _); (case hsz => (first | omega | (simp; done) | (simp; omega) | (simp at *; omega)))) | (with_reducible refine Below.drew ?_) | (with_reducible refine below_drewN ?_ _) | ((with_reducible refine Below.trans ?_ (Below.mono (by with_reducible assumption) ?hsz)); (case hsz => (first | omega | (simp; done) | (simp; omega) | (simp at *; omega))))))⟩
  go_enter Try.func13, Try.ntmps13
  go_wp2_with fail
  with_reducible refine (drawSpilledOf_any _ n _ (h.keep (by (repeat (first | (with_reducible assumption) | (with_reducible exact Below.refl _ _) | ((with_reducible refine Below.alloc ?_ ?hsz _); (case hsz => (first | omega | (simp; done) | (simp; omega) | (simp at *; omega)))) | ((with_reducible refine Below.setCell ?_ ?hsz _); (case hsz => (first | omega | (simp; done) | (simp; omega) | (simp at *; omega)))) | (with_reducible refine Below.drew ?_) | (with_reducible refine below_drewN ?_ _) | ((with_reducible refine Below.trans ?_ (Below.mono (by with_reducible assumption) ?hsz)); (case hsz => (first | omega | (simp; done) | (simp; omega) | (simp at *; omega))))))))).mono ?_
  rintro e w1 ⟨z, ps, u, i, j, rfl, hp, hb1, hl8, hz1, hz6⟩
  have hBw1 : Below w.heap.size w w1 := by (repeat (first | (with_reducible assumption) | (with_reducible exact Below.refl _ _) | ((with_reducible refine Below.alloc ?_ ?hsz _); (case hsz => (first | omega | (simp; done) | (simp; omega) | (simp at *; omega)))) | ((with_reducible refine Below.setCell ?_ ?hsz _); (case hsz => (first | omega | (simp; done) | (simp; omega) | (simp at *; omega)))) | (with_reducible refine Below.drew ?_) | (with_reducible refine below_drewN ?_ _) | ((with_reducible refine Below.trans ?_ (Below.mono (by with_reducible assumption) ?hsz)); (case hsz => (first | omega | (simp; done) | (simp; omega) | (simp at *; omega))))))
  clear h hc1 hc2 hbig
  obtain ⟨A1, c1, rfl, hk1, hk2, hsm, -⟩ := hp.form
  unfold maxLen at hk2
  have bx1 : Box2 (w1.alloc (.cells #[.int .i64 z, .slice A1 ps.length c1] 33)) w1.heap.size (.int .i64 z) (.slice A1 ps.length c1) := Box2.new _ _ _ _
  have hB1 : Below w1.heap.size w1 (w1.alloc (.cells #[.int .i64 z, .slice A1 ps.length c1] 33)) := by (repeat (first | (with_reducible assumption) | (with_reducible exact Below.refl _ _) | ((with_reducible refine Below.alloc ?_ ?hsz _); (case hsz => (first | omega | (simp; done) | (simp; omega) | (simp at *; omega)))) | ((with_reducible refine Below.setCell ?_ ?hsz _); (case hsz => (first | omega | (simp; done) | (simp; omega) | (simp at *; omega)))) | (with_reducible refine Below.drew ?_) | (with_reducible refine below_drewN ?_ _) | ((with_reducible refine Below.trans ?_ (Below.mono (by with_reducible assumption) ?hsz)); (case hsz => (first | omega | (simp; done) | (simp; omega) | (simp at *; omega))))))
  obtain ⟨bs, d0, d1, g0, g1⟩ := id bx1
  go_wp2_with fail
  refine (basinRun_any z i j _ ps _ _ (hp.keep hB1)).mono ?_
  rintro e w2 ⟨r1, r2, rfl, hr1, hr2, -, hnn⟩
  have bx2 := bx1.keep hnn
  have hB2 : Below w1.heap.size w1 w2 := by (repeat (first | (with_reducible assumption) | (with_reducible exact Below.refl _ _) | ((with_reducible refine Below.alloc ?_ ?hsz _); (case hsz => (first | omega | (simp; done) | (simp; omega) | (simp at *; omega)))) | ((with_reducible refine Below.setCell ?_ ?hsz _); (case hsz => (first | omega | (simp; done) | (simp; omega) | (simp at *; omega)))) | (with_reducible refine Below.drew ?_) | (with_reducible refine below_drewN ?_ _) | ((with_reducible refine Below.trans ?_ (Below.mono (by with_reducible assumption) ?hsz)); (case hsz => (first | omega | (simp; done) | (simp; omega) | (simp at *; omega))))))
  have hz2 := hnn.size
  clear hnn d0 d1 g0 g1 bs bx1
  obtain ⟨bs, d0, d1, g0, g1⟩ := id bx2
  by_cases hg : greatB z ps i j = true
  · obtain ⟨hn, n2, n5, i0, i1, j0, j1, -⟩ := net_of_great hg
    obtain ⟨N, rfl⟩ : ∃ N : Nat, z = (N : Int) := ⟨z.toNat, by omega⟩
    obtain ⟨q1, -, -, -, q5, -⟩ := run_end hg
    obtain ⟨sf1, sf2⟩ := side_facts hg
    have hsi : noWayI (N : Int) ps (runX (N : Int) ps i j) j = sideOf (noWayF (N : Int) ps (runX (N : Int) ps i j) j) N := by rw [noWayI, Int.toNat_natCast]
    rw [hsi] at sf1 sf2
    have HS := Lib.hid (And.intro sf1 sf2)
    obtain ⟨A4, c4, rfl, -, -, -, -⟩ := hr2.form
    generalize runH (N : Int) ps i j = ys at *
    generalize runC (N : Int) ps i j = cn at *
    generalize runX (N : Int) ps i j = xs at *
    have hr10 := hr1
    obtain ⟨A3, c3, rfl, -, -, -, -⟩ := hr1.form
    have hcn : ¬ cn < 0 := by omega
    obtain ⟨m3, hm3⟩ : ∃ m, xs.length = m := ⟨_, rfl⟩
    obtain ⟨m4, hm4⟩ : ∃ m, ys.length = m := ⟨_, rfl⟩
    rw [hm3, hm4]
    rw [hm3] at hr10
    obtain ⟨w3, hw3⟩ : ∃ W, W = w2.alloc (.cells #[.slice A3 m3 c3, .slice A4 m4 c4] 35) := ⟨_, rfl⟩
    have hb3 : Below w2.heap.size w2 w3 := by rw [hw3]; (repeat (first | (with_reducible assumption) | (with_reducible exact Below.refl _ _) | ((with_reducible refine Below.alloc ?_ ?hsz _); (case hsz => (first | omega | (simp; done) | (simp; omega) | (simp at *; omega)))) | ((with_reducible refine Below.setCell ?_ ?hsz _); (case hsz => (first | omega | (simp; done) | (simp; omega) | (simp at *; omega)))) | (with_reducible refine Below.drew ?_) | (with_reducible refine below_drewN ?_ _) | ((with_reducible refine Below.trans ?_ (Below.mono (by with_reducible assumption) ?hsz)); (case hsz => (first | omega | (simp; done) | (simp; omega) | (simp at *; omega))))))
    have hz3 : w2.heap.size < w3.heap.size := by rw [hw3]; simp
    have y0 : w3.cell? ⟨w2.heap.size, 0, none⟩ = some (.slice A3 m3 c3) := by rw [hw3]; go_simp
    have bx3 := bx2.keep hb3
    have hB3 : Below w1.heap.size w1 w3 := hB2.trans (hb3.mono (by omega))
    have hx3 := hr10.keep hb3
    clear q1 q5 hr1 hr2 hg hn hm4 hr10 sf1 sf2 hsi hb3
    go_wp2
    rw [← hw3]
    clear hw3
    go_loopw [9, 8] (fun t s wr => ∃ k : Nat, k ≤ N ∧ t = .int .i64 k ∧ s = .int .i64 (sideOf (noWayF (N : Int) ps xs j) k) ∧ Below w3.heap.size w3 wr) (fun t _ _ => N - (intOf t).toNat)
    case atStart => exact ⟨0, by omega, rfl, rfl, Below.refl _ _⟩
    case round =>
      obtain ⟨k, hk, rfl, rfl, hb⟩ := hrel
      have hbz := hb.size
      have bxr := bx3.keep hb
      have hBr : Below w1.heap.size w1 wr := hB3.trans (hb.mono (by have := hB3.size; omega))
      have y0r := (bel_cell hb hz3).trans y0
      have hxr := hx3.keep hb
      clear d0 d1 g0 g1 bs
      obtain ⟨bs, d0, d1, g0, g1⟩ := id bxr
      obtain ⟨s0, s1⟩ := sideOf_in (noWayF (N : Int) ps xs j) k
      by_cases hlt : k < N
      · have hor := or_pow s0 s1 (show k ≤ 4 by omega)
        have hsn : sideOf (noWayF (N : Int) ps xs j) (k + 1) = sideOf (noWayF (N : Int) ps xs j) k + if noWayF (N : Int) ps xs j k = true then 2 ^ k else 0 := rfl
        have HW : Hid (wrap64 (2 ^ k) = 2 ^ k) := Lib.hid (wrap_pow (by omega))
        have hnf : noWayF (N : Int) ps xs j k = (decide ((k : Int) ≠ j) && !wayB (N : Int) ps xs (k : Int) j) := rfl
        have HO := Lib.hid (And.intro hor (And.intro hsn hnf))
        clear hor hsn hnf s0 s1
        generalize sideOf (noWayF (N : Int) ps xs j) k = sk at *
        go_wp2_with fail
        refine (by
          have h9 := wayFrom_any (N : Int) (k : Int) j _ (.slice A3 m3 c3) ps xs _ _ wr (hp.keep hBr) hxr
          exact h9 : Calls Try.prog 35 #[.agg #[.int .i64 (N : Int), .slice A1 ps.length c1], .slice A3 m3 c3, .int .i64 (k : Int), .int .i64 j] wr _).mono ?_
        rintro e w5 ⟨r5, rfl, hr5, hb5⟩
        have hb35 : Below w3.heap.size w3 w5 := hb.trans (hb5.mono hbz)
        obtain ⟨A5, c5, rfl, -, -, -, -⟩ := hr5.form
        have bx5 := bxr.keep hb5
        clear d0 d1 g0 g1 bs hr5 hb5 hxr
        obtain ⟨bs, d0, d1, g0, g1⟩ := id bx5
        by_cases hkj : (k : Int) = j
        · have hne : ((k : Int) != j) = false := by simp [hkj]
          have HN := Lib.hid (show sideOf (noWayF (N : Int) ps xs j) (k + 1) = sk by
            rw [HO.out.2.1, HO.out.2.2]; simp [hkj])
          clear hkj
          cases hwb : wayB (N : Int) ps xs (k : Int) j
          all_goals
            go_wp2
            go_roundw
            case rel => exact ⟨k + 1, by omega, by go_num, by rw [HN.out], hb35⟩
            case measure => simp [intOf]; omega
        · have hne : ((k : Int) != j) = true := by rw [bne_iff_ne]; exact hkj
          cases hwb : wayB (N : Int) ps xs (k : Int) j
          · have HN := Lib.hid (show sideOf (noWayF (N : Int) ps xs j) (k + 1) = sk + 2 ^ k by
              rw [HO.out.2.1, HO.out.2.2, hwb]; simp [hkj])
            clear hkj hwb
            go_wp2
            go_roundw
            case rel => exact ⟨k + 1, by omega, by go_num, by rw [HW.out, HO.out.1, HN.out], hb35⟩
            case measure => simp [intOf]; omega
          · have HN := Lib.hid (show sideOf (noWayF (N : Int) ps xs j) (k + 1) = sk by
              rw [HO.out.2.1, HO.out.2.2, hwb]; simp)
            clear hkj hwb
            go_wp2
            go_roundw
            case rel => exact ⟨k + 1, by omega, by go_num, by rw [HN.out], hb35⟩
            case measure => simp [intOf]; omega
      · have hk2 : k = N := by omega
        subst hk2
        generalize sideOf (noWayF (k : Int) ps xs j) k = sd at *
        go_wp2_with fail
        refine (narrowestOf_any (k : Int) i j _ ps _ _ (hp.keep hBr)).mono ?_
        rintro e w6 ⟨r6, rfl, hL6, hb6⟩
        have hB6 : Below w1.heap.size w1 w6 := hBr.trans (hb6.mono hBr.size)
        have bx6 := bxr.keep hb6
        have hz6 := hb6.size
        clear hb6 d0 d1 g0 g1 bs bxr hxr
        obtain ⟨bs, d0, d1, g0, g1⟩ := id bx6
        have hll := narrowL_len (k : Int) ps i j
        generalize narrowL (k : Int) ps i j = L at *
        have hL60 := hL6
        obtain ⟨A6, c6, rfl, a1, a2, a3, hcell6⟩ := hL6.form
        unfold maxLen at a2
        obtain ⟨mL, hmL⟩ : ∃ m, L.length = m := ⟨_, rfl⟩
        have HmL := Lib.hid hmL
        rw [hmL] at a1 a3 hL60 hll ⊢
        clear hmL hL6
        go_wp2
        go_loopw [13] (fun t wr => ∃ q : Nat, q ≤ mL ∧ t = .int .i64 q ∧ Below w6.heap.size w6 wr) (fun t _ => mL - (intOf t).toNat)
        case atStart => exact ⟨0, by omega, rfl, Below.refl _ _⟩
        case round =>
          obtain ⟨q, hq, rfl, hb7⟩ := hrel
          have hbz7 := hb7.size
          have hB7 : Below w1.heap.size w1 wr := hB6.trans (hb7.mono hB6.size)
          by_cases hql : q < mL
          · have hqL : q < L.length := by have := HmL.out; omega
            obtain ⟨g, rfl, hg1, hg2, cq, -⟩ := hcell6 wr hb7 q hqL
            have hgr : g < wr.heap.size := by omega
            have hz := HS.out.2 _ (List.getElem_mem hqL)
            generalize L[q] = t at *
            go_wp2
            go_roundw
            case rel => exact ⟨q + 1, by omega, by go_num, by (repeat (first | (with_reducible assumption) | (with_reducible exact Below.refl _ _) | ((with_reducible refine Below.alloc ?_ ?hsz _); (case hsz => (first | omega | (simp; done) | (simp; omega) | (simp at *; omega)))) | ((with_reducible refine Below.setCell ?_ ?hsz _); (case hsz => (first | omega | (simp; done) | (simp; omega) | (simp at *; omega)))) | (with_reducible refine Below.drew ?_) | (with_reducible refine below_drewN ?_ _) | ((with_reducible refine Below.trans ?_ (Below.mono (by with_reducible assumption) ?hsz)); (case hsz => (first | omega | (simp; done) | (simp; omega) | (simp at *; omega))))))⟩
            case measure => simp [intOf]; omega
          · go_wp2_with fail
            with_reducible refine (alive_any _).mono ?_
            rintro e w8 ⟨rfl, hn8⟩
            have hB8 : Below w1.heap.size w1 w8 := hB7.trans (hn8.mono hB7.size)
            go_wp2_with fail
            refine (hasInt_any _ L sd _ _ ((hL60.keep hb7).keep hn8)).mono ?_
            rintro e w9 ⟨rfl, hn9⟩
            rw [HS.out.1]
            have hB9 : Below w1.heap.size w1 w9 := hB8.trans (hn9.mono hB8.size)
            go_wp2
            (go_ret; exact ⟨rfl, hBw1.trans (Below.mono (by with_reducible assumption) hBw1.size)⟩)
  · have hg' : greatB z ps i j = false := by simpa using hg
    obtain ⟨e1, e2, e3⟩ := run_no hg'
    rw [e1] at hr1
    rw [e2] at hr2
    rw [e3]
    obtain ⟨A3, c3, rfl, -, -, -, -⟩ := hr1.form
    obtain ⟨A4, c4, rfl, -, -, -, -⟩ := hr2.form
    clear hg hg' e1 e2 e3 hr1 hr2
    go_wp2_with fail
    with_reducible refine (alive_any _).mono ?_
    rintro e w8 ⟨rfl, hn8⟩
    have hB8 : Below w1.heap.size w1 w8 := by (repeat (first | (with_reducible assumption) | (with_reducible exact Below.refl _ _) | ((with_reducible refine Below.alloc ?_ ?hsz _); (case hsz => (first | omega | (simp; done) | (simp; omega) | (simp at *; omega)))) | ((with_reducible refine Below.setCell ?_ ?hsz _); (case hsz => (first | omega | (simp; done) | (simp; omega) | (simp at *; omega)))) | (with_reducible refine Below.drew ?_) | (with_reducible refine below_drewN ?_ _) | ((with_reducible refine Below.trans ?_ (Below.mono (by with_reducible assumption) ?hsz)); (case hsz => (first | omega | (simp; done) | (simp; omega) | (simp at *; omega))))))
    go_wp2
    (go_ret; exact ⟨rfl, hBw1.trans (Below.mono (by with_reducible assumption) hBw1.size)⟩)

set_option maxRecDepth 100000 in
theorem contract (H : Type) (enc : TypeId × Value → H) (W : World) (base : Nat) (args : Array Value) (ds gs : List (DataW H)) (before : List MemPlace)
    (hval : ∀ (j : Nat) t v, Try.f13.params[j]? = some t → args[j]? = some v → Value.okWide Try.prog W .any base t v)
    (hW : DataW.Whole enc Try.prog Try.f13.params.toList Rows.fnBasinSideSpec.vars false W args.toList ds gs before) :
    Calls Try.prog 13 args W fun e W' => ∃ v, e = .returned v ∧ Rows.fnBasinSideSpec.post enc Try.prog Try.f13 false true false false W args v W' := by
  have hW' := hW
  obtain ⟨p, q, hA0, hV, rfl, hfz, hnd⟩ := hW
  have hA : DataW.TrodAll enc Try.prog W 0 (fun _ => true) true Try.f13.params.toList args.toList ds p := hA0
  rw [Try.params13] at hA hval
  obtain ⟨u0, us0, d0, ds0, p0, q0, hargs, rfl, rfl, g0, k0⟩ := trodAll_cons hA
  obtain ⟨rfl, rfl, rfl⟩ := trodAll_nil k0
  obtain rfl : args = #[u0] := by cases args; simp_all
  obtain ⟨rfl, rfl⟩ := trodVars_none hV
  obtain ⟨m0, e0⟩ := g0
  obtain ⟨s0, l0, f0, hh0⟩ := open_arg_bytes e0
  have f0' := one_of_cells Try.underlying49 (hval 0 _ _ rfl rfl) f0
  subst f0'
  refine (walk _ l0 W hh0).mono fun e W' ⟨he, hb⟩ => ?_
  subst he
  exact ⟨_, rfl, law_post Try.kids Try.full (by rw [Try.params13]; decide) rfl rfl Try.underlying4 hW' rfl rfl rfl hb⟩

set_option maxRecDepth 100000 in
theorem lifted (os : Os) (started : os.Started) (H : Type) (enc : TypeId × Value → H) :
    ReturnsInHanded {} Try.checked os 13 .any (Rows.fnBasinSideSpec.pre6 enc Try.prog Try.f13 Rows.fnBasinSideRow.domain false) (Rows.fnBasinSideSpec.post enc Try.prog Try.f13 false true false false) := by
  refine returnsInHanded_of_change (C := Try.checked) Try.own started (by kernel_rfl) Try.func13
    (ChangeSpec.witness6 (enc := enc) (C := Try.checked) false ⟨#[], #[.slice none 0 0], []⟩ 8 (by kernel_rfl) (by kernel_rfl) (by kernel_rfl) (by kernel_rfl)) ?_
  intro W base args ds gs before hval0 hW _ _
  exact contract H enc W base args ds gs before hval0 hW

theorem proved : Rows.FnBasinSideSaid :=
  OpenClaim.holds_of_wide 13 Try.f13 rfl rfl rfl rfl rfl rfl rfl ⟨rfl, rfl, rfl, rfl, rfl⟩ rfl rfl rfl rfl rfl (by kernel_rfl) Try.func13 (by kernel_rfl)
    (of_decide_eq_true (by kernel_rfl)) (by unfold Func.isWrapper; first | (rw [if_pos (by decide +kernel)]; kernel_rfl) | (rw [if_neg (by decide +kernel)]; exact ⟨rfl, rfl⟩))
    (fun os started H enc _ => lifted os started H enc)

end Go.Proofs.Ytabkhpeoeihmmaa.lawBasinSide
