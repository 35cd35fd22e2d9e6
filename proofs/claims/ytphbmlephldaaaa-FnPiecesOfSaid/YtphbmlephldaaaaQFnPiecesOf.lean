/- FnPiecesOf: for every code the law holds: the program's PiecesOf answers as the model; it is at least 1; of the turned net it is the same; and without the last pipe it is the same, or one more. No condition. -/
import Derived.Test.YtphbmlephldaaaaG1
import Derived.Test.YtphbmlephldaaaaDZ
import Derived.Test.YtphbmlephldaaaaJ7
import Derived.Test.YtphbmlephldaaaaW5
import Derived.Test.YtphbmlephldaaaaX2
import Derived.Test.YtphbmlephldaaaaU1
namespace Go.Proofs.Ytphbmlephldaaaa.lawPiecesOf
open Go.ChangeShapes Go.WideShapes Go.ChangeAt Go.RowKit Go.Deep Go.Joins

/-- what the operations yield -/
def pcV (N nb g L c : Nat) (ls : Int) : Nat → Value → Prop
  | 0, x => x = .pointer (some ⟨nb, 0, none⟩)
  | 1, x => x = .int .i64 (N : Int)
  | 2, x => x = .pointer (some ⟨nb, 1, none⟩)
  | 3, x => x = .slice (some ⟨g, 0, none⟩) (L + 1) c
  | 4, x => x = .int .i64 (L : Int)
  | 5, x => x = .slice (some ⟨g, 0, none⟩) L c
  | 6, x => x = .agg #[.int .i64 (N : Int), .slice (some ⟨g, 0, none⟩) L c]
  | 7, x => x = .int .i64 ls
  | 8, x => x = .int .i64 ls
  | _, _ => True

set_option maxHeartbeats 4000000 in
set_option maxRecDepth 20000 in
theorem walk (v : Value) (n : Nat) (w : World) (h : ArgBytes w v n) :
    Calls Try.prog 7 #[v] w fun e w' => e = .returned (.bool true) ∧ Below w.heap.size w w' := by
  obtain ⟨A, c, rfl, hc1, hc2, -⟩ := id h
  unfold maxLen at hc2
  by_cases hbig : 1048576 < n
  · go_enter Try.func7, Try.ntmps7
    go_wp2
    go_ret
    exact ⟨rfl, by (repeat (first | (with_reducible assumption) | (with_reducible exact Below.refl _ _) | ((with_reducible refine Below.alloc ?_ ?hsz _); (case hsz => (first | omega | (simp; done) | (simp; omega) | (simp at *; omega)))) | ((with_reducible refine Below.setCell ?_ ?hsz _); (case hsz => (first | omega | (simp; done) | (simp; omega) | (simp at *; omega)))) | (with_reducible refine Below.drew ?_) | (with_reducible refine below_drewN ?_ _) | ((with_reducible refine Below.trans ?_ (Below.mono (by with_reducible assumption) ?hsz)); (case hsz => (first | omega | (simp; done) | (simp; omega) | (simp at *; omega))))))⟩
  go_enter Try.func7, Try.ntmps7
  go_wp2_with fail
  with_reducible refine (drawPiecesOf_any _ n _ (h.keep (by (repeat (first | (with_reducible assumption) | (with_reducible exact Below.refl _ _) | ((with_reducible refine Below.alloc ?_ ?hsz _); (case hsz => (first | omega | (simp; done) | (simp; omega) | (simp at *; omega)))) | ((with_reducible refine Below.setCell ?_ ?hsz _); (case hsz => (first | omega | (simp; done) | (simp; omega) | (simp at *; omega)))) | (with_reducible refine Below.drew ?_) | (with_reducible refine below_drewN ?_ _) | ((with_reducible refine Below.trans ?_ (Below.mono (by with_reducible assumption) ?hsz)); (case hsz => (first | omega | (simp; done) | (simp; omega) | (simp at *; omega))))))))).mono ?_
  rintro e w1 ⟨z, ps, u, rfl, hp, hb1, hl8, hz1, hz6⟩
  have hBw1 : Below w.heap.size w w1 := by (repeat (first | (with_reducible assumption) | (with_reducible exact Below.refl _ _) | ((with_reducible refine Below.alloc ?_ ?hsz _); (case hsz => (first | omega | (simp; done) | (simp; omega) | (simp at *; omega)))) | ((with_reducible refine Below.setCell ?_ ?hsz _); (case hsz => (first | omega | (simp; done) | (simp; omega) | (simp at *; omega)))) | (with_reducible refine Below.drew ?_) | (with_reducible refine below_drewN ?_ _) | ((with_reducible refine Below.trans ?_ (Below.mono (by with_reducible assumption) ?hsz)); (case hsz => (first | omega | (simp; done) | (simp; omega) | (simp at *; omega))))))
  clear h hc1 hc2 hbig
  obtain ⟨A1, c1, rfl, hk1, hk2, hsm, -⟩ := hp.form
  unfold maxLen at hk2
  have bx1 : Box2 (w1.alloc (.cells #[.int .i64 z, .slice A1 ps.length c1] 25)) w1.heap.size (.int .i64 z) (.slice A1 ps.length c1) := Box2.new _ _ _ _
  have hB1 : Below w1.heap.size w1 (w1.alloc (.cells #[.int .i64 z, .slice A1 ps.length c1] 25)) := by (repeat (first | (with_reducible assumption) | (with_reducible exact Below.refl _ _) | ((with_reducible refine Below.alloc ?_ ?hsz _); (case hsz => (first | omega | (simp; done) | (simp; omega) | (simp at *; omega)))) | ((with_reducible refine Below.setCell ?_ ?hsz _); (case hsz => (first | omega | (simp; done) | (simp; omega) | (simp at *; omega)))) | (with_reducible refine Below.drew ?_) | (with_reducible refine below_drewN ?_ _) | ((with_reducible refine Below.trans ?_ (Below.mono (by with_reducible assumption) ?hsz)); (case hsz => (first | omega | (simp; done) | (simp; omega) | (simp at *; omega))))))
  obtain ⟨np, hnp⟩ : ∃ np, piecesI z ps = np := ⟨_, rfl⟩
  have HNP := Lib.hid hnp
  clear hnp
  go_wp2_with fail
  with_reducible refine (piecesOf_any z _ ps _ _ (hp.keep hB1)).mono ?_
  rintro e w2 ⟨rfl, hnn⟩
  have bx2 := (bx1).keep hnn
  have hB2 : Below w1.heap.size w1 w2 := by (repeat (first | (with_reducible assumption) | (with_reducible exact Below.refl _ _) | ((with_reducible refine Below.alloc ?_ ?hsz _); (case hsz => (first | omega | (simp; done) | (simp; omega) | (simp at *; omega)))) | ((with_reducible refine Below.setCell ?_ ?hsz _); (case hsz => (first | omega | (simp; done) | (simp; omega) | (simp at *; omega)))) | (with_reducible refine Below.drew ?_) | (with_reducible refine below_drewN ?_ _) | ((with_reducible refine Below.trans ?_ (Below.mono (by with_reducible assumption) ?hsz)); (case hsz => (first | omega | (simp; done) | (simp; omega) | (simp at *; omega))))))
  clear hnn
  (try clear d0 d1 g0 g1)
  obtain ⟨bs, d0, d1, g0, g1⟩ := id bx2
  rw [HNP.out]
  go_wp2_with fail
  with_reducible refine (specPieces_any z _ ps _ _ (hp.keep hB2)).mono ?_
  rintro e w3 ⟨rfl, hnn⟩
  have bx3 := (bx2).keep hnn
  have hB3 : Below w1.heap.size w1 w3 := by (repeat (first | (with_reducible assumption) | (with_reducible exact Below.refl _ _) | ((with_reducible refine Below.alloc ?_ ?hsz _); (case hsz => (first | omega | (simp; done) | (simp; omega) | (simp at *; omega)))) | ((with_reducible refine Below.setCell ?_ ?hsz _); (case hsz => (first | omega | (simp; done) | (simp; omega) | (simp at *; omega)))) | (with_reducible refine Below.drew ?_) | (with_reducible refine below_drewN ?_ _) | ((with_reducible refine Below.trans ?_ (Below.mono (by with_reducible assumption) ?hsz)); (case hsz => (first | omega | (simp; done) | (simp; omega) | (simp at *; omega))))))
  clear hnn
  (try clear d0 d1 g0 g1)
  obtain ⟨bs, d0, d1, g0, g1⟩ := id bx3
  rw [HNP.out]
  cases hok : netOkB z ps with
  | false =>
    have h1 : np = -1 := by rw [← HNP.out, piecesI, if_neg (by simp [hok])]
    clear HNP
    subst h1
    go_wp2_with fail
    with_reducible refine (netOk_any z _ ps _ _ (hp.keep hB3)).mono ?_
    rintro e w4 ⟨rfl, hnn⟩
    have bx4 := (bx3).keep hnn
    have hB4 : Below w1.heap.size w1 w4 := by (repeat (first | (with_reducible assumption) | (with_reducible exact Below.refl _ _) | ((with_reducible refine Below.alloc ?_ ?hsz _); (case hsz => (first | omega | (simp; done) | (simp; omega) | (simp at *; omega)))) | ((with_reducible refine Below.setCell ?_ ?hsz _); (case hsz => (first | omega | (simp; done) | (simp; omega) | (simp at *; omega)))) | (with_reducible refine Below.drew ?_) | (with_reducible refine below_drewN ?_ _) | ((with_reducible refine Below.trans ?_ (Below.mono (by with_reducible assumption) ?hsz)); (case hsz => (first | omega | (simp; done) | (simp; omega) | (simp at *; omega))))))
    clear hnn
    (try clear d0 d1 g0 g1)
    obtain ⟨bs, d0, d1, g0, g1⟩ := id bx4
    rw [hok]
    go_wp2_with fail
    with_reducible refine (alive_any _).mono ?_
    rintro e w6 ⟨rfl, hnn⟩
    have bx6 := (bx4).keep hnn
    have hB6 : Below w1.heap.size w1 w6 := by (repeat (first | (with_reducible assumption) | (with_reducible exact Below.refl _ _) | ((with_reducible refine Below.alloc ?_ ?hsz _); (case hsz => (first | omega | (simp; done) | (simp; omega) | (simp at *; omega)))) | ((with_reducible refine Below.setCell ?_ ?hsz _); (case hsz => (first | omega | (simp; done) | (simp; omega) | (simp at *; omega)))) | (with_reducible refine Below.drew ?_) | (with_reducible refine below_drewN ?_ _) | ((with_reducible refine Below.trans ?_ (Below.mono (by with_reducible assumption) ?hsz)); (case hsz => (first | omega | (simp; done) | (simp; omega) | (simp at *; omega))))))
    clear hnn
    (try clear d0 d1 g0 g1)
    obtain ⟨bs, d0, d1, g0, g1⟩ := id bx6
    go_wp2
    (go_ret; exact ⟨rfl, hBw1.trans (Below.mono (by with_reducible assumption) hBw1.size)⟩)
  | true =>
    have h1 := pieces_pos hok
    rw [HNP.out] at h1
    obtain ⟨n2, n5, hl7, -⟩ := netOk_parts hok
    obtain ⟨N, rfl⟩ := Int.eq_ofNat_of_zero_le (show 0 ≤ z by omega)
    have hnp5 : np ≤ 5 := by rw [← HNP.out, piecesI, if_pos hok]; omega
    have hneg : decide (np < 0) = false := decide_eq_false (by omega)
    have hge : decide (1 ≤ np) = true := decide_eq_true h1
    have HTU : Hid (piecesI (N : Int) (ps.map turnP) = np) := Lib.hid (by rw [pieces_turn hok]; exact HNP.out)
    cases ps with
    | nil =>
      have h2 : np = (N : Int) := by rw [← HNP.out, piecesI, if_pos hok]; simp [treeL, numW]
      clear HNP HTU
      subst h2
      simp only [List.length_nil] at *
      go_wp2
      (go_ret; exact ⟨rfl, hBw1.trans (Below.mono (by with_reducible assumption) hBw1.size)⟩)
    | cons p0 qs =>
      obtain ⟨L, hL⟩ : ∃ L, (p0 :: qs).length = L + 1 := ⟨qs.length, rfl⟩
      generalize p0 :: qs = ps at *
      have HLL0 := pieces_last hok hL
      obtain ⟨ls, hls⟩ : ∃ ls, piecesI (N : Int) (ps.take L) = ls := ⟨_, rfl⟩
      have HLS := Lib.hid hls
      rw [hls, HNP.out] at HLL0
      have HLL := Lib.hid HLL0
      have hls6 : ls ≤ 6 := by omega
      have hls0 : 1 ≤ ls := by omega
      obtain ⟨g, eg, -, -⟩ := hp.cellAt (Below.refl _ _) 0 (by omega)
      subst eg
      have hpL : Pipes w3 w.heap.size (.slice (some ⟨g, 0, none⟩) L c1) (ps.take L) := by
        have h0 := (hp.keep hB3).1
        have h3 := own_take h0 (k := L) (by omega) (by omega)
        rw [flat_take] at h3
        have hl : (ps.take L).length = L := by rw [List.length_take]; omega
        exact ⟨by rw [hl]; exact h3, by rw [hl]; unfold small; omega⟩
      have hC0 : Below w3.heap.size w3 { w3 with drawn := w3.drawn + 1 } := ⟨rfl, rfl, rfl, Nat.le_refl _, fun _ _ => rfl⟩
      have hpX := hp
      rw [hL] at bx3 d1 hk1 hpX ⊢
      have HL := Lib.hid hL
      have hLL : ((L + 1 : Nat) : Int) - 1 = (L : Int) := by omega
      obtain ⟨qt, hqt⟩ : ∃ qt, ps.map turnP = qt := ⟨_, rfl⟩
      have HQT := Lib.hid hqt
      rw [hqt] at HTU
      clear HLL0 hls hL hqt
      go_wp2_with fail
      refine wp_region_flow 9 none [(0, 40), (1, 41), (2, 42), (3, 43), (4, 44), (5, 45), (6, 46), (7, 47), (8, 6)] (fun j x _ _ => pcV N w1.heap.size g L c1 ls j x) (fun _ _ _ => True) (fun _ wx => Below w3.heap.size w3 wx) (by kernel_rfl) (by kernel_rfl) rfl hC0 ?_ ?_ ?_ ?_
      · exact fun _ _ _ _ _ _ _ _ _ _ h => h
      · exact fun _ _ _ _ _ _ _ h => h
      · simp (maxSteps := 4000000) only [eachOp, fillF, List.setIfInBounds_toArray, List.set_cons_succ, List.set_cons_zero]
        refine ⟨?_, ?_, ?_, ?_, ?_, ?_, ?_, ?_, ?_, trivial⟩ <;> intro u f wx hC hd <;> (try simp [allV, useOf, Region.binds] at hd)
        · go_wp2
          exact ⟨_, rfl, rfl, trivial, hC⟩
        · rw [show u 0 = _ from (by first | exact hd | exact hd.1 | exact hd.2 | exact hd.2.1 | exact hd.2.2 | exact hd.2.2.1 | exact hd.2.2.2 | exact hd.2.2.2.1 | exact hd.2.2.2.2)]
          have e0 := (bel_cell hC (by omega)).trans d0
          have e1 := (bel_cell hC (by omega)).trans d1
          go_wp2
          exact ⟨_, rfl, rfl, trivial, hC⟩
        · go_wp2
          exact ⟨_, rfl, rfl, trivial, hC⟩
        · rw [show u 2 = _ from (by first | exact hd | exact hd.1 | exact hd.2 | exact hd.2.1 | exact hd.2.2 | exact hd.2.2.1 | exact hd.2.2.2 | exact hd.2.2.2.1 | exact hd.2.2.2.2)]
          have e0 := (bel_cell hC (by omega)).trans d0
          have e1 := (bel_cell hC (by omega)).trans d1
          go_wp2
          exact ⟨_, rfl, rfl, trivial, hC⟩
        · go_wp2
          exact ⟨_, rfl, rfl, trivial, hC⟩
        · rw [show u 3 = _ from (by first | exact hd | exact hd.1 | exact hd.2 | exact hd.2.1 | exact hd.2.2 | exact hd.2.2.1 | exact hd.2.2.2 | exact hd.2.2.2.1 | exact hd.2.2.2.2), show u 4 = _ from (by first | exact hd | exact hd.1 | exact hd.2 | exact hd.2.1 | exact hd.2.2 | exact hd.2.2.1 | exact hd.2.2.2 | exact hd.2.2.2.1 | exact hd.2.2.2.2)]
          go_wp2
          exact ⟨_, rfl, rfl, trivial, hC⟩
        · rw [show u 1 = _ from (by first | exact hd | exact hd.1 | exact hd.2 | exact hd.2.1 | exact hd.2.2 | exact hd.2.2.1 | exact hd.2.2.2 | exact hd.2.2.2.1 | exact hd.2.2.2.2), show u 5 = _ from (by first | exact hd | exact hd.1 | exact hd.2 | exact hd.2.1 | exact hd.2.2 | exact hd.2.2.1 | exact hd.2.2.2 | exact hd.2.2.2.1 | exact hd.2.2.2.2)]
          go_wp2
          exact ⟨_, rfl, rfl, trivial, hC⟩
        · rw [show u 6 = _ from (by first | exact hd | exact hd.1 | exact hd.2 | exact hd.2.1 | exact hd.2.2 | exact hd.2.2.1 | exact hd.2.2.2 | exact hd.2.2.2.1 | exact hd.2.2.2.2)]
          go_wp2_with fail
          refine (piecesOf_any (N : Int) _ (ps.take L) _ wx (hpL.keep hC)).mono ?_
          rintro e wy ⟨rfl, hby⟩
          rw [HLS.out]
          go_wp2
          exact ⟨_, rfl, rfl, trivial, hC.trans (hby.mono hC.size)⟩
        · rw [show u 7 = _ from (by first | exact hd | exact hd.1 | exact hd.2 | exact hd.2.1 | exact hd.2.2 | exact hd.2.2.1 | exact hd.2.2.2 | exact hd.2.2.2.1 | exact hd.2.2.2.2)]
          go_wp2
          exact ⟨_, rfl, rfl, trivial, hC⟩
      · intro u f wx hC hfin
        simp only [fillEnd, fillF, Act.put, List.setIfInBounds_toArray, List.set_cons_succ, List.set_cons_zero]
        rw [show u 8 = _ from hfin 8 (by decide) (by decide)]
        have bxx := bx3.keep hC
        have hBx : Below w1.heap.size w1 wx := hB3.trans (hC.mono hB3.size)
        clear d0 d1 g0 g1 bs hC hfin
        obtain ⟨bs, d0, d1, g0, g1⟩ := id bxx
        go_wp2_with fail
        with_reducible refine (turned_any (N : Int) _ ps _ _ (hpX.keep hBx)).mono ?_
        rintro e w4 ⟨sT, rfl, hTt, hnn⟩
        rw [(turn_yes hok).2, HQT.out] at hTt
        rw [(turn_yes hok).1]
        have bx4 := bxx.keep hnn
        have hB4 : Below w1.heap.size w1 w4 := hBx.trans (hnn.mono hBx.size)
        clear hnn d0 d1 g0 g1
        obtain ⟨bs, d0, d1, g0, g1⟩ := id bx4
        obtain ⟨TA, tc, rfl, -, -, -, -⟩ := hTt.form
        go_wp2_with fail
        with_reducible refine (piecesOf_any (N : Int) _ qt _ _ hTt).mono ?_
        rintro e w5 ⟨rfl, hnn⟩
        have bx5 := (bx4).keep hnn
        have hB5 : Below w1.heap.size w1 w5 := by (repeat (first | (with_reducible assumption) | (with_reducible exact Below.refl _ _) | ((with_reducible refine Below.alloc ?_ ?hsz _); (case hsz => (first | omega | (simp; done) | (simp; omega) | (simp at *; omega)))) | ((with_reducible refine Below.setCell ?_ ?hsz _); (case hsz => (first | omega | (simp; done) | (simp; omega) | (simp at *; omega)))) | (with_reducible refine Below.drew ?_) | (with_reducible refine below_drewN ?_ _) | ((with_reducible refine Below.trans ?_ (Below.mono (by with_reducible assumption) ?hsz)); (case hsz => (first | omega | (simp; done) | (simp; omega) | (simp at *; omega))))))
        clear hnn
        (try clear d0 d1 g0 g1)
        obtain ⟨bs, d0, d1, g0, g1⟩ := id bx5
        rw [HTU.out]
        rcases HLL.out with h | h
        · have e1 : (ls == np) = true := by simp [h]
          have e2 : (np == np) = true := by simp
          clear h
          go_wp2
          (go_ret; exact ⟨rfl, hBw1.trans (Below.mono (by with_reducible assumption) hBw1.size)⟩)
        · have e1 : (ls == np) = false := by rw [beq_eq_false_iff_ne]; omega
          have e2 : (np == np) = true := by simp
          have e3 : (ls == np + 1) = true := by simp [h]
          clear h
          go_wp2
          (go_ret; exact ⟨rfl, hBw1.trans (Below.mono (by with_reducible assumption) hBw1.size)⟩)

set_option maxRecDepth 100000 in
theorem contract (H : Type) (enc : TypeId × Value → H) (W : World) (base : Nat) (args : Array Value) (ds gs : List (DataW H)) (before : List MemPlace)
    (hval : ∀ (j : Nat) t v, Try.f7.params[j]? = some t → args[j]? = some v → Value.okWide Try.prog W .any base t v)
    (hW : DataW.Whole enc Try.prog Try.f7.params.toList Rows.fnPiecesOfSpec.vars false W args.toList ds gs before) :
    Calls Try.prog 7 args W fun e W' => ∃ v, e = .returned v ∧ Rows.fnPiecesOfSpec.post enc Try.prog Try.f7 false true false false W args v W' := by
  have hW' := hW
  obtain ⟨p, q, hA0, hV, rfl, hfz, hnd⟩ := hW
  have hA : DataW.TrodAll enc Try.prog W 0 (fun _ => true) true Try.f7.params.toList args.toList ds p := hA0
  rw [Try.params7] at hA hval
  obtain ⟨u0, us0, d0, ds0, p0, q0, hargs, rfl, rfl, g0, k0⟩ := trodAll_cons hA
  obtain ⟨rfl, rfl, rfl⟩ := trodAll_nil k0
  obtain rfl : args = #[u0] := by cases args; simp_all
  obtain ⟨rfl, rfl⟩ := trodVars_none hV
  obtain ⟨m0, e0⟩ := g0
  obtain ⟨s0, l0, f0, hh0⟩ := open_arg_bytes e0
  have f0' := one_of_cells Try.underlying22 (hval 0 _ _ rfl rfl) f0
  subst f0'
  refine (walk _ l0 W hh0).mono fun e W' ⟨he, hb⟩ => ?_
  subst he
  exact ⟨_, rfl, law_post Try.kids Try.full (by rw [Try.params7]; decide) rfl rfl Try.underlying4 hW' rfl rfl rfl hb⟩

set_option maxRecDepth 100000 in
theorem lifted (os : Os) (started : os.Started) (H : Type) (enc : TypeId × Value → H) :
    ReturnsInHanded {} Try.checked os 7 .any (Rows.fnPiecesOfSpec.pre6 enc Try.prog Try.f7 Rows.fnPiecesOfRow.domain false) (Rows.fnPiecesOfSpec.post enc Try.prog Try.f7 false true false false) := by
  refine returnsInHanded_of_change (C := Try.checked) Try.own started (by kernel_rfl) Try.func7
    (ChangeSpec.witness6 (enc := enc) (C := Try.checked) false ⟨#[], #[.slice none 0 0], []⟩ 8 (by kernel_rfl) (by kernel_rfl) (by kernel_rfl) (by kernel_rfl)) ?_
  intro W base args ds gs before hval0 hW _ _
  exact contract H enc W base args ds gs before hval0 hW

theorem proved : Rows.FnPiecesOfSaid :=
  OpenClaim.holds_of_wide 7 Try.f7 rfl rfl rfl rfl rfl rfl rfl ⟨rfl, rfl, rfl, rfl, rfl⟩ rfl rfl rfl rfl rfl (by kernel_rfl) Try.func7 (by kernel_rfl)
    (of_decide_eq_true (by kernel_rfl)) (by unfold Func.isWrapper; first | (rw [if_pos (by decide +kernel)]; kernel_rfl) | (rw [if_neg (by decide +kernel)]; exact ⟨rfl, rfl⟩))
    (fun os started H enc _ => lifted os started H enc)

end Go.Proofs.Ytphbmlephldaaaa.lawPiecesOf
