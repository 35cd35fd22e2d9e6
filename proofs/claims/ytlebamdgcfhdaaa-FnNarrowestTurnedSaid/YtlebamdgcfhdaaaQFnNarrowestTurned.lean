/- FnNarrowestTurned: for every code the law holds: the narrowest sides of the turned net, from the other node to the one, are what lacks to the narrowest sides of the net, from the last one to the first one. No condition. -/
import Derived.Test.YtlebamdgcfhdaaaL2
import Derived.Test.YtlebamdgcfhdaaaD8
import Derived.Test.YtlebamdgcfhdaaaMG
import Derived.Test.YtlebamdgcfhdaaaW5
import Derived.Test.YtlebamdgcfhdaaaWB
namespace Go.Proofs.Ytlebamdgcfhdaaa.lawNarrowestTurned
open Go.ChangeShapes Go.WideShapes Go.ChangeAt Go.RowKit Go.Deep Go.Joins

set_option maxRecDepth 20000 in
set_option maxHeartbeats 2000000 in
set_option maxRecDepth 20000 in
theorem walk (v : Value) (n : Nat) (w : World) (h : ArgBytes w v n) :
    Calls Try.prog 10 #[v] w fun e w' => e = .returned (.bool true) ∧ Below w.heap.size w w' := by
  obtain ⟨A, c, rfl, hc1, hc2, -⟩ := id h
  unfold maxLen at hc2
  by_cases hbig : 1048576 < n
  · go_enter Try.func10, Try.ntmps10
    go_wp2
    go_ret
    exact ⟨rfl, by (repeat (first | (with_reducible assumption) | (with_reducible exact Below.refl _ _) | ((with_reducible refine Below.alloc ?_ ?hsz _); (case hsz => (first | omega | (simp; done) | (simp; omega) | (simp at *; omega)))) | ((with_reducible refine Below.setCell ?_ ?hsz _); (case hsz => (first | omega | (simp; done) | (simp; omega) | (simp at *; omega)))) | (with_reducible refine Below.drew ?_) | (with_reducible refine below_drewN ?_ _) | ((with_reducible refine Below.trans ?_ (Below.mono (by with_reducible assumption) ?hsz)); (case hsz => (first | omega | (simp; done) | (simp; omega) | (simp at *; omega))))))⟩
  go_enter Try.func10, Try.ntmps10
  go_wp2_with fail
  with_reducible refine (drawNarrowestOf_any _ n _ (h.keep (by (repeat (first | (with_reducible assumption) | (with_reducible exact Below.refl _ _) | ((with_reducible refine Below.alloc ?_ ?hsz _); (case hsz => (first | omega | (simp; done) | (simp; omega) | (simp at *; omega)))) | ((with_reducible refine Below.setCell ?_ ?hsz _); (case hsz => (first | omega | (simp; done) | (simp; omega) | (simp at *; omega)))) | (with_reducible refine Below.drew ?_) | (with_reducible refine below_drewN ?_ _) | ((with_reducible refine Below.trans ?_ (Below.mono (by with_reducible assumption) ?hsz)); (case hsz => (first | omega | (simp; done) | (simp; omega) | (simp at *; omega))))))))).mono ?_
  rintro e w1 ⟨z, ps, u, i, j, rfl, hp, hb1, hl8, hz1, hz6⟩
  have hBw1 : Below w.heap.size w w1 := by (repeat (first | (with_reducible assumption) | (with_reducible exact Below.refl _ _) | ((with_reducible refine Below.alloc ?_ ?hsz _); (case hsz => (first | omega | (simp; done) | (simp; omega) | (simp at *; omega)))) | ((with_reducible refine Below.setCell ?_ ?hsz _); (case hsz => (first | omega | (simp; done) | (simp; omega) | (simp at *; omega)))) | (with_reducible refine Below.drew ?_) | (with_reducible refine below_drewN ?_ _) | ((with_reducible refine Below.trans ?_ (Below.mono (by with_reducible assumption) ?hsz)); (case hsz => (first | omega | (simp; done) | (simp; omega) | (simp at *; omega))))))
  clear h hc1 hc2 hbig
  obtain ⟨A1, c1, rfl, hk1, hk2, hsm, -⟩ := hp.form
  unfold maxLen at hk2
  have bx1 : Box2 (w1.alloc (.cells #[.int .i64 z, .slice A1 ps.length c1] 28)) w1.heap.size (.int .i64 z) (.slice A1 ps.length c1) := Box2.new _ _ _ _
  have hB1 : Below w1.heap.size w1 (w1.alloc (.cells #[.int .i64 z, .slice A1 ps.length c1] 28)) := by (repeat (first | (with_reducible assumption) | (with_reducible exact Below.refl _ _) | ((with_reducible refine Below.alloc ?_ ?hsz _); (case hsz => (first | omega | (simp; done) | (simp; omega) | (simp at *; omega)))) | ((with_reducible refine Below.setCell ?_ ?hsz _); (case hsz => (first | omega | (simp; done) | (simp; omega) | (simp at *; omega)))) | (with_reducible refine Below.drew ?_) | (with_reducible refine below_drewN ?_ _) | ((with_reducible refine Below.trans ?_ (Below.mono (by with_reducible assumption) ?hsz)); (case hsz => (first | omega | (simp; done) | (simp; omega) | (simp at *; omega))))))
  go_wp2_with fail
  with_reducible refine (narrowestOf_any z i j _ ps _ _ (hp.keep hB1)).mono ?_
  rintro e w2 ⟨sA, rfl, hL2, hnn⟩
  have bx2 := (bx1).keep hnn
  have hB2 : Below w1.heap.size w1 w2 := by (repeat (first | (with_reducible assumption) | (with_reducible exact Below.refl _ _) | ((with_reducible refine Below.alloc ?_ ?hsz _); (case hsz => (first | omega | (simp; done) | (simp; omega) | (simp at *; omega)))) | ((with_reducible refine Below.setCell ?_ ?hsz _); (case hsz => (first | omega | (simp; done) | (simp; omega) | (simp at *; omega)))) | (with_reducible refine Below.drew ?_) | (with_reducible refine below_drewN ?_ _) | ((with_reducible refine Below.trans ?_ (Below.mono (by with_reducible assumption) ?hsz)); (case hsz => (first | omega | (simp; done) | (simp; omega) | (simp at *; omega))))))
  have hbl := hnn
  clear hnn
  (try clear d0 d1 g0 g1)
  obtain ⟨bs, d0, d1, g0, g1⟩ := id bx2
  clear hbl
  obtain ⟨m, qs, HT⟩ : ∃ m qs, Hid (turnN z ps = m ∧ turnL z ps = qs) := ⟨_, _, Lib.hid ⟨rfl, rfl⟩⟩
  go_wp2_with fail
  with_reducible refine (turned_any z _ ps _ _ (hp.keep hB2)).mono ?_
  rintro e w3 ⟨sT, rfl, hq3, hnn⟩
  rw [HT.out.2] at hq3
  rw [HT.out.1]
  have bx3 := bx2.keep hnn
  have hB3 : Below w1.heap.size w1 w3 := by (repeat (first | (with_reducible assumption) | (with_reducible exact Below.refl _ _) | ((with_reducible refine Below.alloc ?_ ?hsz _); (case hsz => (first | omega | (simp; done) | (simp; omega) | (simp at *; omega)))) | ((with_reducible refine Below.setCell ?_ ?hsz _); (case hsz => (first | omega | (simp; done) | (simp; omega) | (simp at *; omega)))) | (with_reducible refine Below.drew ?_) | (with_reducible refine below_drewN ?_ _) | ((with_reducible refine Below.trans ?_ (Below.mono (by with_reducible assumption) ?hsz)); (case hsz => (first | omega | (simp; done) | (simp; omega) | (simp at *; omega))))))
  have hL3 := hL2.keep hnn
  clear hnn d0 d1 g0 g1 hL2
  obtain ⟨bs, d0, d1, g0, g1⟩ := id bx3
  go_wp2_with fail
  with_reducible refine (narrowestOf_any m j i _ qs _ _ hq3).mono ?_
  rintro e w4 ⟨sB, rfl, hL4, hnn⟩
  have bx4 := (bx3).keep hnn
  have hB4 : Below w1.heap.size w1 w4 := by (repeat (first | (with_reducible assumption) | (with_reducible exact Below.refl _ _) | ((with_reducible refine Below.alloc ?_ ?hsz _); (case hsz => (first | omega | (simp; done) | (simp; omega) | (simp at *; omega)))) | ((with_reducible refine Below.setCell ?_ ?hsz _); (case hsz => (first | omega | (simp; done) | (simp; omega) | (simp at *; omega)))) | (with_reducible refine Below.drew ?_) | (with_reducible refine below_drewN ?_ _) | ((with_reducible refine Below.trans ?_ (Below.mono (by with_reducible assumption) ?hsz)); (case hsz => (first | omega | (simp; done) | (simp; omega) | (simp at *; omega))))))
  have hbl := hnn
  clear hnn
  (try clear d0 d1 g0 g1)
  obtain ⟨bs, d0, d1, g0, g1⟩ := id bx4
  have hL3' := hL3.keep hbl
  clear hbl hL3
  have hnt := narrow_both z i j ps
  rw [HT.out.1, HT.out.2] at hnt
  have hrx : ∀ x ∈ narrowL z ps i j, endsB z ps i j = true ∧ 0 ≤ x ∧ x ≤ 31 ∧ x ≤ 2 ^ z.toNat - 1 := fun x hx => narrow_in hx
  have hry : ∀ x ∈ narrowL m qs j i, 0 ≤ x ∧ x ≤ 31 := fun x hx => ⟨(narrow_in hx).2.1, (narrow_in hx).2.2.1⟩
  obtain ⟨LA, lc, rfl, a1, a2, a3, -⟩ := hL3'.form
  obtain ⟨LB, ld, rfl, b1, b2, b3, -⟩ := hL4.form
  unfold maxLen at a2 b2
  generalize narrowL z ps i j = xs at *
  generalize narrowL m qs j i = ys at *
  obtain ⟨hlen, hsum⟩ := hnt
  have Hsum := Lib.hid hsum
  have Hrx := Lib.hid hrx
  have Hry := Lib.hid hry
  clear hsum hrx hry
  rw [hlen] at b1 b3
  rw [hlen]
  have Hlen := Lib.hid hlen
  clear hlen
  go_wp2_with fail
  go_loopw [8] (fun t wr => ∃ k : Nat, k ≤ xs.length ∧ t = .int .i64 k ∧ Box2 wr w1.heap.size (.int .i64 z) (.slice A1 ps.length c1) ∧ Below w1.heap.size w1 wr ∧ Below w4.heap.size w4 wr) (fun t _ => xs.length - (intOf t).toNat)
  case atStart => exact ⟨0, by omega, rfl, bx4, hB4, Below.refl _ _⟩
  case round =>
    obtain ⟨k, hk, rfl, bx, hB, hb4⟩ := hrel
    clear d0 d1 g0 g1
    obtain ⟨bs, d0, d1, g0, g1⟩ := id bx
    by_cases hlt : k < xs.length
    · obtain ⟨q, hq⟩ : ∃ q, q = xs.length - 1 - k := ⟨_, rfl⟩
      have hqy : q < ys.length := by have := Hlen.out; omega
      have hs := Hsum.out k hlt (by rw [← hq]; exact hqy)
      simp only [← hq] at hs
      have hs2 : xs[k]'hlt + ys[q]'hqy = 2 ^ z.toNat - 1 := hs
      clear hs
      obtain ⟨he, x0, x1, -⟩ := Hrx.out _ (List.getElem_mem hlt)
      obtain ⟨y0, y1⟩ := Hry.out _ (List.getElem_mem hqy)
      have hn := netOk_parts (ends_parts he).1
      obtain ⟨ga, rfl, ga1, ga2, ca, -⟩ := (hL3'.keep hb4).at' k hlt
      obtain ⟨gb, rfl, gb1, gb2, cb, -⟩ := (hL4.keep hb4).at' q hqy
      have hqi : (xs.length : Int) - 1 - (k : Int) = (q : Int) := by omega
      have hca := fun p : Bw wr => (bw_cell p ga2).trans ca
      have hcb := fun p : Bw wr => (bw_cell p gb2).trans cb
      have hql : q < xs.length := by omega
      clear hq he ca cb
      rcases (show z = 2 ∨ z = 3 ∨ z = 4 ∨ z = 5 by omega) with rfl | rfl | rfl | rfl
      · replace hs2 : xs[k]'hlt + ys[q]'hqy = 3 := hs2
        go_wp2_with fail
        have hd0 := fun p : Bw wr => (bw_cell p bs).trans d0
        have hd1 := fun p : Bw wr => (bw_cell p bs).trans d1
        refine wp_region_bw (by kernel_rfl) (by kernel_rfl) ?_
        repeat (go_big_quiet_step ((fail)))
        refine wpQuiet_nil ?_
        rintro _ ⟨pw, rfl⟩
        have bx5 := (bx).keep pw.h
        have hB5 := (hB).trans (pw.h.mono (hB).size)
        have hbq := pw.h
        obtain ⟨w5, hwq⟩ : ∃ wq, wq = pw.v := ⟨_, rfl⟩
        rw [← hwq] at bx5 hB5 hbq ⊢
        clear d0 d1 g0 g1 hd0 hd1 hwq
        obtain ⟨bs, d0, d1, g0, g1⟩ := id bx5
        clear hca hcb hn
        have hb5 := hb4.trans (hbq.mono hb4.size)
        clear hbq
        go_wp2
        go_roundw
        case rel => exact ⟨k + 1, by omega, by go_num, bx5, hB5, hb5⟩
        case measure => simp [intOf]; omega
      · replace hs2 : xs[k]'hlt + ys[q]'hqy = 7 := hs2
        go_wp2_with fail
        have hd0 := fun p : Bw wr => (bw_cell p bs).trans d0
        have hd1 := fun p : Bw wr => (bw_cell p bs).trans d1
        refine wp_region_bw (by kernel_rfl) (by kernel_rfl) ?_
        repeat (go_big_quiet_step ((fail)))
        refine wpQuiet_nil ?_
        rintro _ ⟨pw, rfl⟩
        have bx5 := (bx).keep pw.h
        have hB5 := (hB).trans (pw.h.mono (hB).size)
        have hbq := pw.h
        obtain ⟨w5, hwq⟩ : ∃ wq, wq = pw.v := ⟨_, rfl⟩
        rw [← hwq] at bx5 hB5 hbq ⊢
        clear d0 d1 g0 g1 hd0 hd1 hwq
        obtain ⟨bs, d0, d1, g0, g1⟩ := id bx5
        clear hca hcb hn
        have hb5 := hb4.trans (hbq.mono hb4.size)
        clear hbq
        go_wp2
        go_roundw
        case rel => exact ⟨k + 1, by omega, by go_num, bx5, hB5, hb5⟩
        case measure => simp [intOf]; omega
      · replace hs2 : xs[k]'hlt + ys[q]'hqy = 15 := hs2
        go_wp2_with fail
        have hd0 := fun p : Bw wr => (bw_cell p bs).trans d0
        have hd1 := fun p : Bw wr => (bw_cell p bs).trans d1
        refine wp_region_bw (by kernel_rfl) (by kernel_rfl) ?_
        repeat (go_big_quiet_step ((fail)))
        refine wpQuiet_nil ?_
        rintro _ ⟨pw, rfl⟩
        have bx5 := (bx).keep pw.h
        have hB5 := (hB).trans (pw.h.mono (hB).size)
        have hbq := pw.h
        obtain ⟨w5, hwq⟩ : ∃ wq, wq = pw.v := ⟨_, rfl⟩
        rw [← hwq] at bx5 hB5 hbq ⊢
        clear d0 d1 g0 g1 hd0 hd1 hwq
        obtain ⟨bs, d0, d1, g0, g1⟩ := id bx5
        clear hca hcb hn
        have hb5 := hb4.trans (hbq.mono hb4.size)
        clear hbq
        go_wp2
        go_roundw
        case rel => exact ⟨k + 1, by omega, by go_num, bx5, hB5, hb5⟩
        case measure => simp [intOf]; omega
      · replace hs2 : xs[k]'hlt + ys[q]'hqy = 31 := hs2
        go_wp2_with fail
        have hd0 := fun p : Bw wr => (bw_cell p bs).trans d0
        have hd1 := fun p : Bw wr => (bw_cell p bs).trans d1
        refine wp_region_bw (by kernel_rfl) (by kernel_rfl) ?_
        repeat (go_big_quiet_step ((fail)))
        refine wpQuiet_nil ?_
        rintro _ ⟨pw, rfl⟩
        have bx5 := (bx).keep pw.h
        have hB5 := (hB).trans (pw.h.mono (hB).size)
        have hbq := pw.h
        obtain ⟨w5, hwq⟩ : ∃ wq, wq = pw.v := ⟨_, rfl⟩
        rw [← hwq] at bx5 hB5 hbq ⊢
        clear d0 d1 g0 g1 hd0 hd1 hwq
        obtain ⟨bs, d0, d1, g0, g1⟩ := id bx5
        clear hca hcb hn
        have hb5 := hb4.trans (hbq.mono hb4.size)
        clear hbq
        go_wp2
        go_roundw
        case rel => exact ⟨k + 1, by omega, by go_num, bx5, hB5, hb5⟩
        case measure => simp [intOf]; omega
    · go_wp2_with fail
      with_reducible refine (alive_any _).mono ?_
      rintro e w5 ⟨rfl, hnn⟩
      have bx5 := (bx).keep hnn
      have hB5 : Below w1.heap.size w1 w5 := by (repeat (first | (with_reducible assumption) | (with_reducible exact Below.refl _ _) | ((with_reducible refine Below.alloc ?_ ?hsz _); (case hsz => (first | omega | (simp; done) | (simp; omega) | (simp at *; omega)))) | ((with_reducible refine Below.setCell ?_ ?hsz _); (case hsz => (first | omega | (simp; done) | (simp; omega) | (simp at *; omega)))) | (with_reducible refine Below.drew ?_) | (with_reducible refine below_drewN ?_ _) | ((with_reducible refine Below.trans ?_ (Below.mono (by with_reducible assumption) ?hsz)); (case hsz => (first | omega | (simp; done) | (simp; omega) | (simp at *; omega))))))
      clear hnn
      (try clear d0 d1 g0 g1)
      obtain ⟨bs, d0, d1, g0, g1⟩ := id bx5
      go_wp2
      (go_ret; exact ⟨rfl, hBw1.trans (Below.mono (by with_reducible assumption) hBw1.size)⟩)

set_option maxRecDepth 100000 in
theorem contract (H : Type) (enc : TypeId × Value → H) (W : World) (base : Nat) (args : Array Value) (ds gs : List (DataW H)) (before : List MemPlace)
    (hval : ∀ (j : Nat) t v, Try.f10.params[j]? = some t → args[j]? = some v → Value.okWide Try.prog W .any base t v)
    (hW : DataW.Whole enc Try.prog Try.f10.params.toList Rows.fnNarrowestTurnedSpec.vars false W args.toList ds gs before) :
    Calls Try.prog 10 args W fun e W' => ∃ v, e = .returned v ∧ Rows.fnNarrowestTurnedSpec.post enc Try.prog Try.f10 false true false false W args v W' := by
  have hW' := hW
  obtain ⟨p, q, hA0, hV, rfl, hfz, hnd⟩ := hW
  have hA : DataW.TrodAll enc Try.prog W 0 (fun _ => true) true Try.f10.params.toList args.toList ds p := hA0
  rw [Try.params10] at hA hval
  obtain ⟨u0, us0, d0, ds0, p0, q0, hargs, rfl, rfl, g0, k0⟩ := trodAll_cons hA
  obtain ⟨rfl, rfl, rfl⟩ := trodAll_nil k0
  obtain rfl : args = #[u0] := by cases args; simp_all
  obtain ⟨rfl, rfl⟩ := trodVars_none hV
  obtain ⟨m0, e0⟩ := g0
  obtain ⟨s0, l0, f0, hh0⟩ := open_arg_bytes e0
  have f0' := one_of_cells Try.underlying34 (hval 0 _ _ rfl rfl) f0
  subst f0'
  refine (walk _ l0 W hh0).mono fun e W' ⟨he, hb⟩ => ?_
  subst he
  exact ⟨_, rfl, law_post Try.kids Try.full (by rw [Try.params10]; decide) rfl rfl Try.underlying4 hW' rfl rfl rfl hb⟩

set_option maxRecDepth 100000 in
theorem lifted (os : Os) (started : os.Started) (H : Type) (enc : TypeId × Value → H) :
    ReturnsInHanded {} Try.checked os 10 .any (Rows.fnNarrowestTurnedSpec.pre6 enc Try.prog Try.f10 Rows.fnNarrowestTurnedRow.domain false) (Rows.fnNarrowestTurnedSpec.post enc Try.prog Try.f10 false true false false) := by
  refine returnsInHanded_of_change (C := Try.checked) Try.own started (by kernel_rfl) Try.func10
    (ChangeSpec.witness6 (enc := enc) (C := Try.checked) false ⟨#[], #[.slice none 0 0], []⟩ 8 (by kernel_rfl) (by kernel_rfl) (by kernel_rfl) (by kernel_rfl)) ?_
  intro W base args ds gs before hval0 hW _ _
  exact contract H enc W base args ds gs before hval0 hW

theorem proved : Rows.FnNarrowestTurnedSaid :=
  OpenClaim.holds_of_wide 10 Try.f10 rfl rfl rfl rfl rfl rfl rfl ⟨rfl, rfl, rfl, rfl, rfl⟩ rfl rfl rfl rfl rfl (by kernel_rfl) Try.func10 (by kernel_rfl)
    (of_decide_eq_true (by kernel_rfl)) (by unfold Func.isWrapper; first | (rw [if_pos (by decide +kernel)]; kernel_rfl) | (rw [if_neg (by decide +kernel)]; exact ⟨rfl, rfl⟩))
    (fun os started H enc _ => lifted os started H enc)

end Go.Proofs.Ytlebamdgcfhdaaa.lawNarrowestTurned
