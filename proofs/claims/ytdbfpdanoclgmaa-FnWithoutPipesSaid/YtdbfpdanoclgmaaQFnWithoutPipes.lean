/- FnWithoutPipes: for every code the law holds: the program's WithoutPipes answers as the model; it is a net with as many pipes; without the same pipes again it is itself; and its pieces are those of the net. No condition. -/
import Derived.Test.YtdbfpdanoclgmaaL2
import Derived.Test.YtdbfpdanoclgmaaE8
import Derived.Test.YtdbfpdanoclgmaaU1
import Derived.Test.YtdbfpdanoclgmaaCC
import Derived.Test.YtdbfpdanoclgmaaY7
import Derived.Test.YtdbfpdanoclgmaaZF
namespace Go.Proofs.Ytdbfpdanoclgmaa.lawWithoutPipes
open Go.ChangeShapes Go.WideShapes Go.ChangeAt Go.RowKit Go.Deep Go.Joins

set_option maxRecDepth 20000 in
set_option maxHeartbeats 2000000 in
set_option maxRecDepth 20000 in
theorem walk (v : Value) (n : Nat) (w : World) (h : ArgBytes w v n) :
    Calls Try.prog 7 #[v] w fun e w' => e = .returned (.bool true) ∧ Below w.heap.size w w' := by
  obtain ⟨A, c, rfl, hc1, hc2, -⟩ := id h
  unfold maxLen at hc2
  by_cases hbig : 1048576 < n
  · go_enter Try.func7, Try.ntmps7
    go_wp2
    go_ret
    exact ⟨rfl, by (repeat (first | (with_reducible assumption) | (with_reducible exact Below.refl _ _) | ((with_reducible refine Below.alloc ?_ ?hsz _); (case hsz => (first | omega | (simp; done) | (simp; omega) | (simp at *; omega)))) | ((with_reducible refine Below.setCell ?_ ?hsz _); (case hsz => (first | omega | (simp; done) | (simp; omega) | (simp at *; omega)))) | (with_reducible refine Below.drew ?_) | (with_reducible refine below_drewN ?_ _) | ((with_reducible refine Below.trans ?_ (Below.mono (by with_reducible assumption) ?hsz)); (case hsz => (first | omega | (simp; done) | (simp; omega) | (simp at *; omega))))))⟩
  go_enter Try.func7, Try.ntmps7
  go_wp2_with fail
  with_reducible refine (drawWithoutPipes_any _ n _ (h.keep (by (repeat (first | (with_reducible assumption) | (with_reducible exact Below.refl _ _) | ((with_reducible refine Below.alloc ?_ ?hsz _); (case hsz => (first | omega | (simp; done) | (simp; omega) | (simp at *; omega)))) | ((with_reducible refine Below.setCell ?_ ?hsz _); (case hsz => (first | omega | (simp; done) | (simp; omega) | (simp at *; omega)))) | (with_reducible refine Below.drew ?_) | (with_reducible refine below_drewN ?_ _) | ((with_reducible refine Below.trans ?_ (Below.mono (by with_reducible assumption) ?hsz)); (case hsz => (first | omega | (simp; done) | (simp; omega) | (simp at *; omega))))))))).mono ?_
  rintro e w1 ⟨z, ps, u, xs, t, rfl, hp, hx, hb1, hl8, hz1, hz6⟩
  have hBw1 : Below w.heap.size w w1 := by (repeat (first | (with_reducible assumption) | (with_reducible exact Below.refl _ _) | ((with_reducible refine Below.alloc ?_ ?hsz _); (case hsz => (first | omega | (simp; done) | (simp; omega) | (simp at *; omega)))) | ((with_reducible refine Below.setCell ?_ ?hsz _); (case hsz => (first | omega | (simp; done) | (simp; omega) | (simp at *; omega)))) | (with_reducible refine Below.drew ?_) | (with_reducible refine below_drewN ?_ _) | ((with_reducible refine Below.trans ?_ (Below.mono (by with_reducible assumption) ?hsz)); (case hsz => (first | omega | (simp; done) | (simp; omega) | (simp at *; omega))))))
  clear h hc1 hc2 hbig
  obtain ⟨A1, c1, rfl, hk1, hk2, hsm, -⟩ := hp.form
  unfold maxLen at hk2
  have bx1 : Box2 (w1.alloc (.cells #[.int .i64 z, .slice A1 ps.length c1] 28)) w1.heap.size (.int .i64 z) (.slice A1 ps.length c1) := Box2.new _ _ _ _
  have hB1 : Below w1.heap.size w1 (w1.alloc (.cells #[.int .i64 z, .slice A1 ps.length c1] 28)) := by (repeat (first | (with_reducible assumption) | (with_reducible exact Below.refl _ _) | ((with_reducible refine Below.alloc ?_ ?hsz _); (case hsz => (first | omega | (simp; done) | (simp; omega) | (simp at *; omega)))) | ((with_reducible refine Below.setCell ?_ ?hsz _); (case hsz => (first | omega | (simp; done) | (simp; omega) | (simp at *; omega)))) | (with_reducible refine Below.drew ?_) | (with_reducible refine below_drewN ?_ _) | ((with_reducible refine Below.trans ?_ (Below.mono (by with_reducible assumption) ?hsz)); (case hsz => (first | omega | (simp; done) | (simp; omega) | (simp at *; omega))))))
  obtain ⟨AX, cX, rfl, xk1, xk2, xk3, -⟩ := hx.form
  unfold maxLen at xk2
  obtain ⟨m, qs, bb, HT⟩ : ∃ m qs bb, Hid (outN z ps xs = m ∧ outR z ps xs = qs ∧ outB z ps xs = bb) := ⟨_, _, _, Lib.hid ⟨rfl, rfl, rfl⟩⟩
  obtain ⟨lX, hlX⟩ : ∃ l, xs.length = l := ⟨_, rfl⟩
  rw [hlX] at xk1 xk3 hx ⊢
  clear hlX
  go_wp2_with fail
  with_reducible refine (withoutPipes_any z _ _ ps xs _ _ (hp.keep hB1) (Ints.reads (hx.keep hB1))).mono ?_
  rintro e w2 ⟨s, rfl, hq2, hn2⟩
  rw [HT.out.2.1] at hq2
  rw [HT.out.1, HT.out.2.2]
  obtain ⟨A2, c2, rfl, hk1', hk2', hsm', -⟩ := hq2.form
  unfold maxLen at hk2'
  have bx2 := bx1.keep hn2
  have hB2 : Below w1.heap.size w1 w2 := by (repeat (first | (with_reducible assumption) | (with_reducible exact Below.refl _ _) | ((with_reducible refine Below.alloc ?_ ?hsz _); (case hsz => (first | omega | (simp; done) | (simp; omega) | (simp at *; omega)))) | ((with_reducible refine Below.setCell ?_ ?hsz _); (case hsz => (first | omega | (simp; done) | (simp; omega) | (simp at *; omega)))) | (with_reducible refine Below.drew ?_) | (with_reducible refine below_drewN ?_ _) | ((with_reducible refine Below.trans ?_ (Below.mono (by with_reducible assumption) ?hsz)); (case hsz => (first | omega | (simp; done) | (simp; omega) | (simp at *; omega))))))
  obtain ⟨W3, hW3⟩ : ∃ W, W = w2.alloc (.cells #[.int .i64 m, .slice A2 qs.length c2] 28) := ⟨_, rfl⟩
  have hb3 : Below w2.heap.size w2 W3 := by rw [hW3]; (repeat (first | (with_reducible assumption) | (with_reducible exact Below.refl _ _) | ((with_reducible refine Below.alloc ?_ ?hsz _); (case hsz => (first | omega | (simp; done) | (simp; omega) | (simp at *; omega)))) | ((with_reducible refine Below.setCell ?_ ?hsz _); (case hsz => (first | omega | (simp; done) | (simp; omega) | (simp at *; omega)))) | (with_reducible refine Below.drew ?_) | (with_reducible refine below_drewN ?_ _) | ((with_reducible refine Below.trans ?_ (Below.mono (by with_reducible assumption) ?hsz)); (case hsz => (first | omega | (simp; done) | (simp; omega) | (simp at *; omega))))))
  have by3 : Box2 W3 w2.heap.size (.int .i64 m) (.slice A2 qs.length c2) := by rw [hW3]; exact Box2.new _ _ _ _
  have bx3 := bx2.keep hb3
  have hq3 := hq2.keep hb3
  have hB3 : Below w1.heap.size w1 W3 := hB2.trans (hb3.mono hB2.size)
  clear hn2 hq2
  (try clear d0 d1 g0 g1)
  obtain ⟨bs, d0, d1, g0, g1⟩ := id bx2
  go_wp2_with fail
  rw [← hW3]
  clear hW3 bx2 d0 d1 g0 g1 bs
  with_reducible refine (specWithout_any z _ _ ps xs _ _ (hp.keep hB3) (Ints.reads (hx.keep hB3))).mono ?_
  rintro e w4 ⟨s4, rfl, hq4, hn4⟩
  rw [HT.out.2.1] at hq4
  rw [HT.out.1, HT.out.2.2]
  obtain ⟨A4, c4, rfl, -, hk4', -, -⟩ := hq4.form
  unfold maxLen at hk4'
  obtain ⟨W5, hW5⟩ : ∃ W, W = w4.alloc (.cells #[.int .i64 m, .slice A4 qs.length c4] 28) := ⟨_, rfl⟩
  have hb5 : Below w4.heap.size w4 W5 := by rw [hW5]; (repeat (first | (with_reducible assumption) | (with_reducible exact Below.refl _ _) | ((with_reducible refine Below.alloc ?_ ?hsz _); (case hsz => (first | omega | (simp; done) | (simp; omega) | (simp at *; omega)))) | ((with_reducible refine Below.setCell ?_ ?hsz _); (case hsz => (first | omega | (simp; done) | (simp; omega) | (simp at *; omega)))) | (with_reducible refine Below.drew ?_) | (with_reducible refine below_drewN ?_ _) | ((with_reducible refine Below.trans ?_ (Below.mono (by with_reducible assumption) ?hsz)); (case hsz => (first | omega | (simp; done) | (simp; omega) | (simp at *; omega))))))
  have bz5 : Box2 W5 w4.heap.size (.int .i64 m) (.slice A4 qs.length c4) := by rw [hW5]; exact Box2.new _ _ _ _
  have hb35 := hn4.trans (hb5.mono hn4.size)
  have bx5 := bx3.keep hb35
  have by5 := by3.keep hb35
  have hq5 := hq3.keep hb35
  have hq4' := hq4.keep hb5
  have hB5 : Below w1.heap.size w1 W5 := hB3.trans (hb35.mono hB3.size)
  have bx4 := bx3.keep hn4
  have by4 := by3.keep hn4
  clear hn4 bx3 by3 hq3 hq4 hb5 hb35 bz5
  obtain ⟨bs, d0, d1, g0, g1⟩ := id bx4
  obtain ⟨bt, e0, e1, h0, h1⟩ := id by4
  cases bb with
  | false =>
    obtain ⟨t1, t2⟩ := outB_no HT.out.2.2
    obtain rfl : m = 0 := HT.out.1.symm.trans t1
    obtain rfl : qs = [] := HT.out.2.1.symm.trans t2
    simp only [List.length_nil] at *
    go_wp2_with fail
    rw [← hW5]
    clear hW5
    with_reducible refine (sameNet_any 0 0 _ _ [] [] _ _ _ hq5 hq4').mono ?_
    rintro e w6 ⟨rfl, hn6⟩
    have by6 := by5.keep hn6
    have hq6 := hq5.keep hn6
    have hB6 : Below w1.heap.size w1 w6 := hB5.trans (hn6.mono hB5.size)
    clear hn6 d0 d1 g0 g1 e0 e1 h0 h1 bx4 by4
    obtain ⟨bt, e0, e1, h0, h1⟩ := id by6
    go_wp2_with fail
    with_reducible refine (sameNet_any 0 0 _ _ [] [] _ 0 _ hq6 (Pipes_nil _ _)).mono ?_
    rintro e w7 ⟨rfl, hn7⟩
    have hB7 : Below w1.heap.size w1 w7 := hB6.trans (hn7.mono hB6.size)
    go_wp2_with fail
    with_reducible refine (alive_any _).mono ?_
    rintro e w8 ⟨rfl, hn8⟩
    have hB8 : Below w1.heap.size w1 w8 := hB7.trans (hn8.mono hB7.size)
    go_wp2
    (go_ret; exact ⟨rfl, hBw1.trans (Below.mono (by with_reducible assumption) hBw1.size)⟩)
  | true =>
    have hob := HT.out.2.2
    obtain ⟨t1, t2⟩ := outB_yes hob
    obtain ⟨hok, hpl⟩ := outB_parts hob
    have hm : m = z := HT.out.1.symm.trans t1
    have hq : qs = outL xs ps := HT.out.2.1.symm.trans t2
    have hql : qs.length = ps.length := by rw [hq, outL_len]
    have hnq : netOkB m qs = true := by rw [hm, hq]; exact out_net xs hok
    have HU := Lib.hid (show outN m qs xs = m ∧ outR m qs xs = qs ∧ outB m qs xs = true by
      have h1 : outB m qs xs = true := by rw [hm, hq]; exact out_places hob
      obtain ⟨a1, a2⟩ := outB_yes h1
      exact ⟨a1, by rw [a2, hq, out_out], h1⟩)
    obtain ⟨pc, hpc⟩ : ∃ pc, piecesI z ps = pc := ⟨_, rfl⟩
    have HPC := Lib.hid (show piecesI m qs = pc ∧ piecesI z ps = pc from ⟨by
      rw [← hpc, hm, hq]
      exact (out_ends xs ps).pieces hok (out_net xs hok), hpc⟩)
    rw [hql] at hq5 hq4' by5 e1 hk1' hsm' hW5 ⊢
    clear hob t1 t2 hpl hm hq hql hpc
    go_wp2_with fail
    rw [← hW5]
    clear hW5
    with_reducible refine (sameNet_any m m _ _ qs qs _ _ _ hq5 hq4').mono ?_
    rintro e w6 ⟨rfl, hn6⟩
    have bx6 := bx5.keep hn6
    have by6 := by5.keep hn6
    have hq6 := hq5.keep hn6
    have hB6 : Below w1.heap.size w1 w6 := hB5.trans (hn6.mono hB5.size)
    clear hn6 d0 d1 g0 g1 e0 e1 h0 h1 hq4' bx5 by5 hq5 bx4 by4
    obtain ⟨bs, d0, d1, g0, g1⟩ := id bx6
    obtain ⟨bt, e0, e1, h0, h1⟩ := id by6
    go_wp2_with fail
    with_reducible refine (withoutPipes_any m _ _ qs xs _ _ hq6 (Ints.reads (hx.keep hB6))).mono ?_
    rintro e w7 ⟨s7, rfl, hq7, hn7⟩
    rw [HU.out.2.1] at hq7
    rw [HU.out.1, HU.out.2.2]
    obtain ⟨A7, c7, rfl, -, hk7', -, -⟩ := hq7.form
    unfold maxLen at hk7'
    obtain ⟨W8, hW8⟩ : ∃ W, W = w7.alloc (.cells #[.int .i64 m, .slice A7 qs.length c7] 28) := ⟨_, rfl⟩
    have hb8 : Below w7.heap.size w7 W8 := by rw [hW8]; (repeat (first | (with_reducible assumption) | (with_reducible exact Below.refl _ _) | ((with_reducible refine Below.alloc ?_ ?hsz _); (case hsz => (first | omega | (simp; done) | (simp; omega) | (simp at *; omega)))) | ((with_reducible refine Below.setCell ?_ ?hsz _); (case hsz => (first | omega | (simp; done) | (simp; omega) | (simp at *; omega)))) | (with_reducible refine Below.drew ?_) | (with_reducible refine below_drewN ?_ _) | ((with_reducible refine Below.trans ?_ (Below.mono (by with_reducible assumption) ?hsz)); (case hsz => (first | omega | (simp; done) | (simp; omega) | (simp at *; omega))))))
    have ba8 : Box2 W8 w7.heap.size (.int .i64 m) (.slice A7 qs.length c7) := by rw [hW8]; exact Box2.new _ _ _ _
    have hb68 := hn7.trans (hb8.mono hn7.size)
    have bx8 := bx6.keep hb68
    have by8 := by6.keep hb68
    have hq8 := hq6.keep hb68
    have hq78 := hq7.keep hb8
    have hB8 : Below w1.heap.size w1 W8 := hB6.trans (hb68.mono hB6.size)
    have hs8 := hB8.size
    clear hn7 hb68 hb8 bx6 by6 hq6 hq7 d0 d1 g0 g1 e0 e1 h0 h1
    obtain ⟨bs, d0, d1, g0, g1⟩ := id bx8
    obtain ⟨bt, e0, e1, h0, h1⟩ := id by8
    obtain ⟨bu, f0, f1, k0, k1⟩ := id ba8
    go_wp2_with fail
    rw [← hW8]
    clear hW8
    go_region_held3 (fun w' => w'.cell? ⟨w1.heap.size, 0, none⟩ = some (.int .i64 z) ∧ w'.cell? ⟨w1.heap.size, 1, none⟩ = some (.slice A1 ps.length c1) ∧ w'.cell? ⟨w2.heap.size, 0, none⟩ = some (.int .i64 m) ∧ w'.cell? ⟨w2.heap.size, 1, none⟩ = some (.slice A2 ps.length c2) ∧ w'.cell? ⟨w7.heap.size, 0, none⟩ = some (.int .i64 m) ∧ w'.cell? ⟨w7.heap.size, 1, none⟩ = some (.slice A7 qs.length c7))
      ((go_split_ands; (refine ⟨?_, ?_, ?_, ?_, ?_, ?_⟩ <;> first | (with_reducible assumption) | (with_reducible refine cell_drew ?_; with_reducible assumption) | (refine cell_keep ?_ (by with_reducible assumption); with_reducible assumption))))
      (first
        | (go_at_call 31; (with_reducible refine (netOk_any m _ qs _ _ (hq8.keep (by (repeat (first | (with_reducible assumption) | (with_reducible exact Below.refl _ _) | ((with_reducible refine Below.alloc ?_ ?hsz _); (case hsz => (first | omega | (simp; done) | (simp; omega) | (simp at *; omega)))) | ((with_reducible refine Below.setCell ?_ ?hsz _); (case hsz => (first | omega | (simp; done) | (simp; omega) | (simp at *; omega)))) | (with_reducible refine Below.drew ?_) | (with_reducible refine below_drewN ?_ _) | ((with_reducible refine Below.trans ?_ (Below.mono (by with_reducible assumption) ?hsz)); (case hsz => (first | omega | (simp; done) | (simp; omega) | (simp at *; omega))))))))).mono ?_); rintro e w9 ⟨rfl, hb9⟩; have hz9 := hb9.size; rw [hnq])
        | (go_at_call 25; (with_reducible refine (sameNet_any m m _ _ qs qs _ _ _ (hq78.keep (by (repeat (first | (with_reducible assumption) | (with_reducible exact Below.refl _ _) | ((with_reducible refine Below.alloc ?_ ?hsz _); (case hsz => (first | omega | (simp; done) | (simp; omega) | (simp at *; omega)))) | ((with_reducible refine Below.setCell ?_ ?hsz _); (case hsz => (first | omega | (simp; done) | (simp; omega) | (simp at *; omega)))) | (with_reducible refine Below.drew ?_) | (with_reducible refine below_drewN ?_ _) | ((with_reducible refine Below.trans ?_ (Below.mono (by with_reducible assumption) ?hsz)); (case hsz => (first | omega | (simp; done) | (simp; omega) | (simp at *; omega)))))))) (hq8.keep (by (repeat (first | (with_reducible assumption) | (with_reducible exact Below.refl _ _) | ((with_reducible refine Below.alloc ?_ ?hsz _); (case hsz => (first | omega | (simp; done) | (simp; omega) | (simp at *; omega)))) | ((with_reducible refine Below.setCell ?_ ?hsz _); (case hsz => (first | omega | (simp; done) | (simp; omega) | (simp at *; omega)))) | (with_reducible refine Below.drew ?_) | (with_reducible refine below_drewN ?_ _) | ((with_reducible refine Below.trans ?_ (Below.mono (by with_reducible assumption) ?hsz)); (case hsz => (first | omega | (simp; done) | (simp; omega) | (simp at *; omega))))))))).mono ?_); rintro e wa ⟨rfl, hba⟩; have hza := hba.size)
        | (go_at_call 32; (with_reducible refine (piecesOf_any m (.slice A2 ps.length c2) qs _ _ (hq8.keep (by (repeat (first | (with_reducible assumption) | (with_reducible exact Below.refl _ _) | ((with_reducible refine Below.alloc ?_ ?hsz _); (case hsz => (first | omega | (simp; done) | (simp; omega) | (simp at *; omega)))) | ((with_reducible refine Below.setCell ?_ ?hsz _); (case hsz => (first | omega | (simp; done) | (simp; omega) | (simp at *; omega)))) | (with_reducible refine Below.drew ?_) | (with_reducible refine below_drewN ?_ _) | ((with_reducible refine Below.trans ?_ (Below.mono (by with_reducible assumption) ?hsz)); (case hsz => (first | omega | (simp; done) | (simp; omega) | (simp at *; omega))))))))).mono ?_); rintro e wb ⟨rfl, hbb⟩; have hzb := hbb.size; rw [HPC.out.1])
        | (go_at_call 32; (with_reducible refine (piecesOf_any z (.slice A1 ps.length c1) ps _ _ (hp.keep (by (repeat (first | (with_reducible assumption) | (with_reducible exact Below.refl _ _) | ((with_reducible refine Below.alloc ?_ ?hsz _); (case hsz => (first | omega | (simp; done) | (simp; omega) | (simp at *; omega)))) | ((with_reducible refine Below.setCell ?_ ?hsz _); (case hsz => (first | omega | (simp; done) | (simp; omega) | (simp at *; omega)))) | (with_reducible refine Below.drew ?_) | (with_reducible refine below_drewN ?_ _) | ((with_reducible refine Below.trans ?_ (Below.mono (by with_reducible assumption) ?hsz)); (case hsz => (first | omega | (simp; done) | (simp; omega) | (simp at *; omega))))))))).mono ?_); rintro e wc ⟨rfl, hbc⟩; have hzc := hbc.size; rw [HPC.out.2]))
    go_wp2
    go_ret
    exact ⟨rfl, hBw1.trans ((show Below w1.heap.size w1 wc by (repeat (first | (with_reducible assumption) | (with_reducible exact Below.refl _ _) | ((with_reducible refine Below.alloc ?_ ?hsz _); (case hsz => (first | omega | (simp; done) | (simp; omega) | (simp at *; omega)))) | ((with_reducible refine Below.setCell ?_ ?hsz _); (case hsz => (first | omega | (simp; done) | (simp; omega) | (simp at *; omega)))) | (with_reducible refine Below.drew ?_) | (with_reducible refine below_drewN ?_ _) | ((with_reducible refine Below.trans ?_ (Below.mono (by with_reducible assumption) ?hsz)); (case hsz => (first | omega | (simp; done) | (simp; omega) | (simp at *; omega))))))).mono hBw1.size)⟩

set_option maxRecDepth 100000 in
theorem contract (H : Type) (enc : TypeId × Value → H) (W : World) (base : Nat) (args : Array Value) (ds gs : List (DataW H)) (before : List MemPlace)
    (hval : ∀ (j : Nat) t v, Try.f7.params[j]? = some t → args[j]? = some v → Value.okWide Try.prog W .any base t v)
    (hW : DataW.Whole enc Try.prog Try.f7.params.toList Rows.fnWithoutPipesSpec.vars false W args.toList ds gs before) :
    Calls Try.prog 7 args W fun e W' => ∃ v, e = .returned v ∧ Rows.fnWithoutPipesSpec.post enc Try.prog Try.f7 false true false false W args v W' := by
  have hW' := hW
  obtain ⟨p, q, hA0, hV, rfl, hfz, hnd⟩ := hW
  have hA : DataW.TrodAll enc Try.prog W 0 (fun _ => true) true Try.f7.params.toList args.toList ds p := hA0
  rw [Try.params7] at hA hval
  obtain ⟨u0, us0, d0, ds0, p0, q0, hargs, rfl, rfl, g0, k0⟩ := trodAll_cons hA
  obtain ⟨rfl, rfl, rfl⟩ := trodAll_nil k0
  obtain rfl : args = #[u0] := by cases args; simp_all
  obtain ⟨rfl, rfl⟩ := trodVars_none hV
  obtain ⟨m0, e0⟩ := g0
  obtain ⟨s0, l0, f0, hh0⟩ := open_arg_bytes e0
  have f0' := one_of_cells Try.underlying44 (hval 0 _ _ rfl rfl) f0
  subst f0'
  refine (walk _ l0 W hh0).mono fun e W' ⟨he, hb⟩ => ?_
  subst he
  exact ⟨_, rfl, law_post Try.kids Try.full (by rw [Try.params7]; decide) rfl rfl Try.underlying4 hW' rfl rfl rfl hb⟩

set_option maxRecDepth 100000 in
theorem lifted (os : Os) (started : os.Started) (H : Type) (enc : TypeId × Value → H) :
    ReturnsInHanded {} Try.checked os 7 .any (Rows.fnWithoutPipesSpec.pre6 enc Try.prog Try.f7 Rows.fnWithoutPipesRow.domain false) (Rows.fnWithoutPipesSpec.post enc Try.prog Try.f7 false true false false) := by
  refine returnsInHanded_of_change (C := Try.checked) Try.own started (by kernel_rfl) Try.func7
    (ChangeSpec.witness6 (enc := enc) (C := Try.checked) false ⟨#[], #[.slice none 0 0], []⟩ 8 (by kernel_rfl) (by kernel_rfl) (by kernel_rfl) (by kernel_rfl)) ?_
  intro W base args ds gs before hval0 hW _ _
  exact contract H enc W base args ds gs before hval0 hW

theorem proved : Rows.FnWithoutPipesSaid :=
  OpenClaim.holds_of_wide 7 Try.f7 rfl rfl rfl rfl rfl rfl rfl ⟨rfl, rfl, rfl, rfl, rfl⟩ rfl rfl rfl rfl rfl (by kernel_rfl) Try.func7 (by kernel_rfl)
    (of_decide_eq_true (by kernel_rfl)) (by unfold Func.isWrapper; first | (rw [if_pos (by decide +kernel)]; kernel_rfl) | (rw [if_neg (by decide +kernel)]; exact ⟨rfl, rfl⟩))
    (fun os started H enc _ => lifted os started H enc)

end Go.Proofs.Ytdbfpdanoclgmaa.lawWithoutPipes
