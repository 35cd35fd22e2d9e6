/- FnNarrowestOf: for every code the law holds: the program's NarrowestOf answers as the model; for each two narrowest sides, what both have in common, and both together, are narrowest; there is always one. No condition. -/
import Derived.Test.YtmbeemljlgaifaaL2
import Derived.Test.YtmbeemljlgaifaaL3
import Derived.Test.YtmbeemljlgaifaaD8
import Derived.Test.YtmbeemljlgaifaaM7
import Derived.Test.YtmbeemljlgaifaaW8
import Derived.Test.YtmbeemljlgaifaaWB
import Derived.Test.YtmbeemljlgaifaaSB
namespace Go.Proofs.Ytmbeemljlgaifaa.lawNarrowestOf
open Go.ChangeShapes Go.WideShapes Go.ChangeAt Go.RowKit Go.Deep Go.Joins

theorem narrow_room {n i j : Int} {ps : List Pp} {x : Int} (h : x ∈ narrowL n ps i j) : (roomAt n ps x).1 = leastI n ps i j ∧ (roomAt n ps x).2 = true := by
  obtain ⟨he, h0, -, h1⟩ := narrow_in h
  have hr := room_yes (side_of (ends_parts he).1 h0 h1)
  rw [hr.1, hr.2, ((narrow_mem he).1 h).2.2.2]
  exact ⟨rfl, rfl⟩

set_option maxRecDepth 20000 in
set_option maxHeartbeats 4000000 in
theorem walk (v : Value) (n : Nat) (w : World) (h : ArgBytes w v n) :
    Calls Try.prog 6 #[v] w fun e w' => e = .returned (.bool true) ∧ Below w.heap.size w w' := by
  obtain ⟨A, c, rfl, hc1, hc2, -⟩ := id h
  unfold maxLen at hc2
  by_cases hbig : 1048576 < n
  · go_enter Try.func6, Try.ntmps6
    go_wp2
    go_ret
    exact ⟨rfl, by (repeat (first | (with_reducible assumption) | (with_reducible exact Below.refl _ _) | ((with_reducible refine Below.alloc ?_ ?hsz _); (case hsz => (first | omega | (simp; done) | (simp; omega) | (simp at *; omega)))) | ((with_reducible refine Below.setCell ?_ ?hsz _); (case hsz => (first | omega | (simp; done) | (simp; omega) | (simp at *; omega)))) | (with_reducible refine Below.drew ?_) | (with_reducible refine below_drewN ?_ _) | ((with_reducible refine Below.trans ?_ (Below.mono (by with_reducible assumption) ?hsz)); (case hsz => (first | omega | (simp; done) | (simp; omega) | (simp at *; omega))))))⟩
  go_enter Try.func6, Try.ntmps6
  go_wp2_with fail
  with_reducible refine (drawNarrowestOf_any _ n _ (h.keep (by (repeat (first | (with_reducible assumption) | (with_reducible exact Below.refl _ _) | ((with_reducible refine Below.alloc ?_ ?hsz _); (case hsz => (first | omega | (simp; done) | (simp; omega) | (simp at *; omega)))) | ((with_reducible refine Below.setCell ?_ ?hsz _); (case hsz => (first | omega | (simp; done) | (simp; omega) | (simp at *; omega)))) | (with_reducible refine Below.drew ?_) | (with_reducible refine below_drewN ?_ _) | ((with_reducible refine Below.trans ?_ (Below.mono (by with_reducible assumption) ?hsz)); (case hsz => (first | omega | (simp; done) | (simp; omega) | (simp at *; omega))))))))).mono ?_
  rintro e w1 ⟨z, ps, u, i, j, rfl, hp, hb1, hl8, hz1, hz6⟩
  have hBw1 : Below w.heap.size w w1 := by (repeat (first | (with_reducible assumption) | (with_reducible exact Below.refl _ _) | ((with_reducible refine Below.alloc ?_ ?hsz _); (case hsz => (first | omega | (simp; done) | (simp; omega) | (simp at *; omega)))) | ((with_reducible refine Below.setCell ?_ ?hsz _); (case hsz => (first | omega | (simp; done) | (simp; omega) | (simp at *; omega)))) | (with_reducible refine Below.drew ?_) | (with_reducible refine below_drewN ?_ _) | ((with_reducible refine Below.trans ?_ (Below.mono (by with_reducible assumption) ?hsz)); (case hsz => (first | omega | (simp; done) | (simp; omega) | (simp at *; omega))))))
  clear h hc1 hc2 hbig
  obtain ⟨A1, c1, rfl, hk1, hk2, hsm, -⟩ := hp.form
  unfold maxLen at hk2
  have bx1 : Box2 (w1.alloc (.cells #[.int .i64 z, .slice A1 ps.length c1] 25)) w1.heap.size (.int .i64 z) (.slice A1 ps.length c1) := Box2.new _ _ _ _
  have hB1 : Below w1.heap.size w1 (w1.alloc (.cells #[.int .i64 z, .slice A1 ps.length c1] 25)) := by (repeat (first | (with_reducible assumption) | (with_reducible exact Below.refl _ _) | ((with_reducible refine Below.alloc ?_ ?hsz _); (case hsz => (first | omega | (simp; done) | (simp; omega) | (simp at *; omega)))) | ((with_reducible refine Below.setCell ?_ ?hsz _); (case hsz => (first | omega | (simp; done) | (simp; omega) | (simp at *; omega)))) | (with_reducible refine Below.drew ?_) | (with_reducible refine below_drewN ?_ _) | ((with_reducible refine Below.trans ?_ (Below.mono (by with_reducible assumption) ?hsz)); (case hsz => (first | omega | (simp; done) | (simp; omega) | (simp at *; omega))))))
  go_wp2_with fail
  with_reducible refine (narrowestOf_any z i j _ ps _ _ (hp.keep hB1)).mono ?_
  rintro e w2 ⟨sA, rfl, hL2, hnn⟩
  have bx2 := (bx1).keep hnn
  have hB2 : Below w1.heap.size w1 w2 := by (repeat (first | (with_reducible assumption) | (with_reducible exact Below.refl _ _) | ((with_reducible refine Below.alloc ?_ ?hsz _); (case hsz => (first | omega | (simp; done) | (simp; omega) | (simp at *; omega)))) | ((with_reducible refine Below.setCell ?_ ?hsz _); (case hsz => (first | omega | (simp; done) | (simp; omega) | (simp at *; omega)))) | (with_reducible refine Below.drew ?_) | (with_reducible refine below_drewN ?_ _) | ((with_reducible refine Below.trans ?_ (Below.mono (by with_reducible assumption) ?hsz)); (case hsz => (first | omega | (simp; done) | (simp; omega) | (simp at *; omega))))))
  have hbl := hnn
  clear hnn
  (try clear d0 d1 g0 g1)
  obtain ⟨bs, d0, d1, g0, g1⟩ := id bx2
  clear hbl
  go_wp2_with fail
  with_reducible refine (specNarrowestOf_any z i j _ ps _ _ (hp.keep hB2)).mono ?_
  rintro e w3 ⟨sM, rfl, hM3, hnn⟩
  have bx3 := (bx2).keep hnn
  have hB3 : Below w1.heap.size w1 w3 := by (repeat (first | (with_reducible assumption) | (with_reducible exact Below.refl _ _) | ((with_reducible refine Below.alloc ?_ ?hsz _); (case hsz => (first | omega | (simp; done) | (simp; omega) | (simp at *; omega)))) | ((with_reducible refine Below.setCell ?_ ?hsz _); (case hsz => (first | omega | (simp; done) | (simp; omega) | (simp at *; omega)))) | (with_reducible refine Below.drew ?_) | (with_reducible refine below_drewN ?_ _) | ((with_reducible refine Below.trans ?_ (Below.mono (by with_reducible assumption) ?hsz)); (case hsz => (first | omega | (simp; done) | (simp; omega) | (simp at *; omega))))))
  have hbl := hnn
  clear hnn
  (try clear d0 d1 g0 g1)
  obtain ⟨bs, d0, d1, g0, g1⟩ := id bx3
  have hL3 := hL2.keep hbl
  clear hbl hL2
  go_wp2_with fail
  with_reducible refine (sameInts_any _ _ (narrowL z ps i j) (narrowL z ps i j) _ _ _ hL3 hM3).mono ?_
  rintro e w4 ⟨rfl, hnn⟩
  have bx4 := (bx3).keep hnn
  have hB4 : Below w1.heap.size w1 w4 := by (repeat (first | (with_reducible assumption) | (with_reducible exact Below.refl _ _) | ((with_reducible refine Below.alloc ?_ ?hsz _); (case hsz => (first | omega | (simp; done) | (simp; omega) | (simp at *; omega)))) | ((with_reducible refine Below.setCell ?_ ?hsz _); (case hsz => (first | omega | (simp; done) | (simp; omega) | (simp at *; omega)))) | (with_reducible refine Below.drew ?_) | (with_reducible refine below_drewN ?_ _) | ((with_reducible refine Below.trans ?_ (Below.mono (by with_reducible assumption) ?hsz)); (case hsz => (first | omega | (simp; done) | (simp; omega) | (simp at *; omega))))))
  have hb4 := ((Below.refl w3.heap.size w3)).trans (hnn.mono ((Below.refl w3.heap.size w3)).size)
  clear hnn
  (try clear d0 d1 g0 g1)
  obtain ⟨bs, d0, d1, g0, g1⟩ := id bx4
  have hL4 := hL3.keep hb4
  clear hM3 hL3 hb4
  have hdec : decide (narrowL z ps i j = narrowL z ps i j) = true := by simp
  rw [hdec]
  clear hdec
  go_wp2_with fail
  with_reducible refine (leastRoom_any z i j _ ps _ _ (hp.keep hB4)).mono ?_
  rintro e w5 ⟨rfl, hnn⟩
  have bx5 := (bx4).keep hnn
  have hB5 : Below w1.heap.size w1 w5 := by (repeat (first | (with_reducible assumption) | (with_reducible exact Below.refl _ _) | ((with_reducible refine Below.alloc ?_ ?hsz _); (case hsz => (first | omega | (simp; done) | (simp; omega) | (simp at *; omega)))) | ((with_reducible refine Below.setCell ?_ ?hsz _); (case hsz => (first | omega | (simp; done) | (simp; omega) | (simp at *; omega)))) | (with_reducible refine Below.drew ?_) | (with_reducible refine below_drewN ?_ _) | ((with_reducible refine Below.trans ?_ (Below.mono (by with_reducible assumption) ?hsz)); (case hsz => (first | omega | (simp; done) | (simp; omega) | (simp at *; omega))))))
  have hb5 := ((Below.refl w4.heap.size w4)).trans (hnn.mono ((Below.refl w4.heap.size w4)).size)
  clear hnn
  (try clear d0 d1 g0 g1)
  obtain ⟨bs, d0, d1, g0, g1⟩ := id bx5
  have hL5 := hL4.keep hb5
  clear hL4 hb5
  by_cases he : endsB z ps i j = true
  · obtain ⟨e1, e2⟩ := leastR_one he
    have hrm : ∀ x ∈ narrowL z ps i j, (roomAt z ps x).1 = leastI z ps i j ∧ (roomAt z ps x).2 = true := fun x hx => narrow_room hx
    have htw : ∀ x ∈ narrowL z ps i j, ∀ y ∈ narrowL z ps i j, decide (bits .or .i64 x y ∈ narrowL z ps i j) = true ∧ decide (bits .and .i64 x y ∈ narrowL z ps i j) = true :=
      fun x hx y hy => ⟨decide_eq_true (narrow_two he hx hy).1, decide_eq_true (narrow_two he hx hy).2⟩
    have hpos := narrow_some he
    have has := narrow_asc z i j ps
    have hll := narrowL_len z ps i j
    obtain ⟨LA, lc, rfl, a1, a2, a3, -⟩ := hL5.form
    unfold maxLen at a2
    generalize narrowL z ps i j = xs at *
    have Hrm := Lib.hid hrm
    have Htw := Lib.hid htw
    have Has := Lib.hid has
    clear hrm htw has he
    go_wp2_with fail
    go_loopw [9] (fun t wr => ∃ k : Nat, k ≤ xs.length ∧ t = .int .i64 k ∧ Box2 wr w1.heap.size (.int .i64 z) (.slice A1 ps.length c1) ∧ Below w1.heap.size w1 wr ∧ Below w5.heap.size w5 wr) (fun t _ => xs.length - (intOf t).toNat)
    case atStart => exact ⟨0, by omega, rfl, bx5, hB5, Below.refl _ _⟩
    case round =>
      obtain ⟨k, hk, rfl, bx, hB, hb5⟩ := hrel
      clear d0 d1 g0 g1
      obtain ⟨bs, d0, d1, g0, g1⟩ := id bx
      by_cases hlt : k < xs.length
      · obtain ⟨wo, hwo⟩ : ∃ wo : World, wo = wr := ⟨_, rfl⟩
        subst hwo
        obtain ⟨ga, rfl, ga1, ga2, ca, -⟩ := (hL5.keep hb5).at' k hlt
        have hca := fun p : Bw wo => (bw_cell p ga2).trans ca
        have hxk := List.getElem_mem hlt
        obtain ⟨r1, r2⟩ := Hrm.out _ hxk
        clear ca
        have hcr : ∀ p : Bw wo, Calls Try.prog 11 #[.agg #[.int .i64 z, .slice A1 ps.length c1], .int .i64 xs[k]] p.v fun e w'' => e = .returned (.tuple #[.int .i64 (leastI z ps i j), .bool true]) ∧ ∃ r : Bw wo, w'' = r.v := fun p => calls_bw ((roomOfTop_any z xs[k] _ ps _ _ ((hp.keep hB).keep p.h)).mono fun _ _ hh => ⟨by rw [hh.1, r1, r2], hh.2⟩)
        have Hcr := Lib.hid hcr
        clear hcr r1 r2
        go_wp2_with fail
        have hd0 := fun p : Bw wo => (bw_cell p bs).trans d0
        have hd1 := fun p : Bw wo => (bw_cell p bs).trans d1
        refine wp_region_bw (by kernel_rfl) (by kernel_rfl) ?_
        repeat (go_big_quiet_step ((go_at_call 11; with_reducible exact Hcr.out _)))
        refine wpQuiet_nil ?_
        rintro _ ⟨pw, rfl⟩
        have bx6 := (bx).keep pw.h
        have hB6 := (hB).trans (pw.h.mono (hB).size)
        have hbq := pw.h
        obtain ⟨w6, hwq⟩ : ∃ wq, wq = pw.v := ⟨_, rfl⟩
        rw [← hwq] at bx6 hB6 hbq ⊢
        clear d0 d1 g0 g1 hd0 hd1 hwq
        obtain ⟨bs, d0, d1, g0, g1⟩ := id bx6
        clear Hcr
        have hb6 := hb5.trans (hbq.mono hb5.size)
        clear hbq hca
        go_wp2_with fail
        go_loopw [12] (fun t wr => ∃ q : Nat, q ≤ k ∧ t = .int .i64 q ∧ Box2 wr w1.heap.size (.int .i64 z) (.slice A1 ps.length c1) ∧ Below w1.heap.size w1 wr ∧ Below w5.heap.size w5 wr) (fun t _ => k - (intOf t).toNat)
        case atStart => exact ⟨0, by omega, rfl, bx6, hB6, hb6⟩
        case round =>
          obtain ⟨q, hq, rfl, bx7, hB7, hb7⟩ := hrel
          clear d0 d1 g0 g1
          obtain ⟨bs, d0, d1, g0, g1⟩ := id bx7
          by_cases hqk : q < k
          · have hql : q < xs.length := by omega
            obtain ⟨gb, hgb, gb1, gb2, cb, -⟩ := (hL5.keep hb7).at' k hlt
            injection hgb with hgb
            injection hgb with hgb _
            subst hgb
            obtain ⟨gd, hgd, gd1, gd2, cd, -⟩ := (hL5.keep hb7).at' q hql
            injection hgd with hgd
            injection hgd with hgd _
            subst hgd
            have hcb := fun p : Bw wr => (bw_cell p gb2).trans cb
            have hcd := fun p : Bw wr => (bw_cell p gb2).trans cd
            obtain ⟨t1, t2⟩ := Htw.out _ hxk _ (List.getElem_mem hql)
            clear cb cd
            have cor : ∀ p : Bw wr, Calls Try.prog 19 #[.slice (some ⟨ga, 0, none⟩) xs.length lc, .int .i64 (bits .or .i64 xs[k] xs[q])] p.v fun e w'' => e = .returned (.bool true) ∧ ∃ r : Bw wr, w'' = r.v := fun p => calls_bw ((hasInt_any _ xs (bits .or .i64 xs[k] xs[q]) _ _ ((hL5.keep hb7).keep p.h)).mono fun _ _ hh => ⟨by rw [hh.1, t1], hh.2⟩)
            have cand : ∀ p : Bw wr, Calls Try.prog 19 #[.slice (some ⟨ga, 0, none⟩) xs.length lc, .int .i64 (bits .and .i64 xs[k] xs[q])] p.v fun e w'' => e = .returned (.bool true) ∧ ∃ r : Bw wr, w'' = r.v := fun p => calls_bw ((hasInt_any _ xs (bits .and .i64 xs[k] xs[q]) _ _ ((hL5.keep hb7).keep p.h)).mono fun _ _ hh => ⟨by rw [hh.1, t2], hh.2⟩)
            have Hcor := Lib.hid cor
            have Hcand := Lib.hid cand
            clear cor cand t1 t2
            go_wp2_with fail
            have hd0 := fun p : Bw wr => (bw_cell p bs).trans d0
            have hd1 := fun p : Bw wr => (bw_cell p bs).trans d1
            refine wp_region_bw (by kernel_rfl) (by kernel_rfl) ?_
            repeat (go_big_quiet_step ((first | (go_at_call 19; with_reducible exact Hcor.out _) | (go_at_call 19; with_reducible exact Hcand.out _))))
            refine wpQuiet_nil ?_
            rintro _ ⟨pw, rfl⟩
            have bx8 := (bx7).keep pw.h
            have hB8 := (hB7).trans (pw.h.mono (hB7).size)
            have hbq := pw.h
            obtain ⟨w8, hwq⟩ : ∃ wq, wq = pw.v := ⟨_, rfl⟩
            rw [← hwq] at bx8 hB8 hbq ⊢
            clear d0 d1 g0 g1 hd0 hd1 hwq
            obtain ⟨bs, d0, d1, g0, g1⟩ := id bx8
            have hb8 := hb7.trans (hbq.mono hb7.size)
            clear hbq hcb hcd Hcor Hcand
            go_wp2
            go_roundw
            case rel => exact ⟨q + 1, by omega, by go_num, bx8, hB8, hb8⟩
            case measure => simp [intOf]; omega
          · go_wp2
            go_roundw
            case rel => exact ⟨k + 1, by omega, by go_num, bx7, hB7, hb7⟩
            case measure => simp [intOf]; omega
      · go_wp2_with fail
        with_reducible refine (ascend_any _ xs _ _ (hL5.keep hb5) Has.out).mono ?_
        rintro e w7 ⟨rfl, hnn⟩
        have bx7 := (bx).keep hnn
        have hB7 : Below w1.heap.size w1 w7 := by (repeat (first | (with_reducible assumption) | (with_reducible exact Below.refl _ _) | ((with_reducible refine Below.alloc ?_ ?hsz _); (case hsz => (first | omega | (simp; done) | (simp; omega) | (simp at *; omega)))) | ((with_reducible refine Below.setCell ?_ ?hsz _); (case hsz => (first | omega | (simp; done) | (simp; omega) | (simp at *; omega)))) | (with_reducible refine Below.drew ?_) | (with_reducible refine below_drewN ?_ _) | ((with_reducible refine Below.trans ?_ (Below.mono (by with_reducible assumption) ?hsz)); (case hsz => (first | omega | (simp; done) | (simp; omega) | (simp at *; omega))))))
        have hb7 := (hb5).trans (hnn.mono (hb5).size)
        clear hnn
        (try clear d0 d1 g0 g1)
        obtain ⟨bs, d0, d1, g0, g1⟩ := id bx7
        go_wp2
        (go_ret; exact ⟨rfl, hBw1.trans (Below.mono (by with_reducible assumption) hBw1.size)⟩)
  · have he' : endsB z ps i j = false := by simpa using he
    obtain ⟨e1, e2⟩ := leastR_none he'
    rw [narrow_none he'] at hL5
    obtain ⟨LA, lc, rfl, -, -, -, -⟩ := hL5.form
    go_wp2_with fail
    with_reducible refine (alive_any _).mono ?_
    rintro e w6 ⟨rfl, hnn⟩
    have bx6 := (bx5).keep hnn
    have hB6 : Below w1.heap.size w1 w6 := by (repeat (first | (with_reducible assumption) | (with_reducible exact Below.refl _ _) | ((with_reducible refine Below.alloc ?_ ?hsz _); (case hsz => (first | omega | (simp; done) | (simp; omega) | (simp at *; omega)))) | ((with_reducible refine Below.setCell ?_ ?hsz _); (case hsz => (first | omega | (simp; done) | (simp; omega) | (simp at *; omega)))) | (with_reducible refine Below.drew ?_) | (with_reducible refine below_drewN ?_ _) | ((with_reducible refine Below.trans ?_ (Below.mono (by with_reducible assumption) ?hsz)); (case hsz => (first | omega | (simp; done) | (simp; omega) | (simp at *; omega))))))
    clear hnn
    (try clear d0 d1 g0 g1)
    obtain ⟨bs, d0, d1, g0, g1⟩ := id bx6
    go_wp2
    (go_ret; exact ⟨rfl, hBw1.trans (Below.mono (by with_reducible assumption) hBw1.size)⟩)

theorem contract (H : Type) (enc : TypeId × Value → H) (W : World) (base : Nat) (args : Array Value) (ds gs : List (DataW H)) (before : List MemPlace)
    (hval : ∀ (j : Nat) t v, Try.f6.params[j]? = some t → args[j]? = some v → Value.okWide Try.prog W .any base t v)
    (hW : DataW.Whole enc Try.prog Try.f6.params.toList Rows.fnNarrowestOfSpec.vars false W args.toList ds gs before) :
    Calls Try.prog 6 args W fun e W' => ∃ v, e = .returned v ∧ Rows.fnNarrowestOfSpec.post enc Try.prog Try.f6 false true false false W args v W' := by
  have hW' := hW
  obtain ⟨p, q, hA0, hV, rfl, hfz, hnd⟩ := hW
  have hA : DataW.TrodAll enc Try.prog W 0 (fun _ => true) true Try.f6.params.toList args.toList ds p := hA0
  rw [Try.params6] at hA hval
  obtain ⟨u0, us0, d0, ds0, p0, q0, hargs, rfl, rfl, g0, k0⟩ := trodAll_cons hA
  obtain ⟨rfl, rfl, rfl⟩ := trodAll_nil k0
  obtain rfl : args = #[u0] := by cases args; simp_all
  obtain ⟨rfl, rfl⟩ := trodVars_none hV
  obtain ⟨m0, e0⟩ := g0
  obtain ⟨s0, l0, f0, hh0⟩ := open_arg_bytes e0
  have f0' := one_of_cells Try.underlying22 (hval 0 _ _ rfl rfl) f0
  subst f0'
  refine (walk _ l0 W hh0).mono fun e W' ⟨he, hb⟩ => ?_
  subst he
  exact ⟨_, rfl, law_post Try.kids Try.full (by rw [Try.params6]; decide) rfl rfl Try.underlying4 hW' rfl rfl rfl hb⟩

set_option maxRecDepth 100000 in
theorem lifted (os : Os) (started : os.Started) (H : Type) (enc : TypeId × Value → H) :
    ReturnsInHanded {} Try.checked os 6 .any (Rows.fnNarrowestOfSpec.pre6 enc Try.prog Try.f6 Rows.fnNarrowestOfRow.domain false) (Rows.fnNarrowestOfSpec.post enc Try.prog Try.f6 false true false false) := by
  refine returnsInHanded_of_change (C := Try.checked) Try.own started (by kernel_rfl) Try.func6
    (ChangeSpec.witness6 (enc := enc) (C := Try.checked) false ⟨#[], #[.slice none 0 0], []⟩ 8 (by kernel_rfl) (by kernel_rfl) (by kernel_rfl) (by kernel_rfl)) ?_
  intro W base args ds gs before hval0 hW _ _
  exact contract H enc W base args ds gs before hval0 hW

theorem proved : Rows.FnNarrowestOfSaid :=
  OpenClaim.holds_of_wide 6 Try.f6 rfl rfl rfl rfl rfl rfl rfl ⟨rfl, rfl, rfl, rfl, rfl⟩ rfl rfl rfl rfl rfl (by kernel_rfl) Try.func6 (by kernel_rfl)
    (of_decide_eq_true (by kernel_rfl)) (by unfold Func.isWrapper; first | (rw [if_pos (by decide +kernel)]; kernel_rfl) | (rw [if_neg (by decide +kernel)]; exact ⟨rfl, rfl⟩))
    (fun os started H enc _ => lifted os started H enc)

end Go.Proofs.Ytmbeemljlgaifaa.lawNarrowestOf
