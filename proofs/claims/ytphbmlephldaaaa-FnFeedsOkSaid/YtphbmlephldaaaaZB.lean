/- Contracts of the functions of chapter 10 in the model: FeedingOf. -/
import Derived.Test.YtphbmlephldaaaaZA
import Derived.Test.YtphbmlephldaaaaZ4
import Derived.Test.YtphbmlephldaaaaGQ21
namespace Go.Proofs.Ytphbmlephldaaaa
open Go.RowKit

set_option maxHeartbeats 8000000 in
set_option maxRecDepth 20000 in
theorem specFeeding_any (n : Int) (v o : Value) (ps : List Pp) (nd : List Int) (b b2 : Nat) (w : World) (hp : Pipes w b v ps) (ho : Ints w b2 o nd) :
    Calls Try.prog 85 #[.agg #[.int .i64 n, v], o] w fun e w' => ∃ r, e = .returned (.tuple #[r, .bool (feedB n ps nd)]) ∧ Ints w' w.heap.size r (feedL n ps nd) ∧ Below w.heap.size w w' := by
  have hp0 := hp
  have ho0 := ho
  obtain ⟨A, c, rfl, hcp1, hcp2, -, -⟩ := hp.form
  obtain ⟨A2, c2, rfl, hc21, hc22, -, -⟩ := ho.form
  obtain ⟨mo, hmo⟩ : ∃ m, nd.length = m := ⟨_, rfl⟩
  rw [hmo] at ho0 hc21 ⊢
  have Hmo := Lib.hid hmo
  clear hmo ho
  unfold maxLen at hcp2 hc22
  have bx0 := Box2.new w (.int .i64 n) (.slice A ps.length c) 25
  go_enter Try.func85, Try.ntmps85
  go_wp2_with fail
  with_reducible refine (specNeedsOk_any n _ _ ps nd b b2 _ (hp0.keep (by (repeat (first | (with_reducible assumption) | (with_reducible exact Below.refl _ _) | ((with_reducible refine Below.alloc ?_ ?hsz _); (case hsz => (first | omega | (simp; done) | (simp; omega) | (simp at *; omega)))) | ((with_reducible refine Below.setCell ?_ ?hsz _); (case hsz => (first | omega | (simp; done) | (simp; omega) | (simp at *; omega)))) | (with_reducible refine Below.drew ?_) | (with_reducible refine below_drewN ?_ _) | ((with_reducible refine Below.trans ?_ (Below.mono (by with_reducible assumption) ?hsz)); (case hsz => (first | omega | (simp; done) | (simp; omega) | (simp at *; omega)))))))) (ho0.keep (by (repeat (first | (with_reducible assumption) | (with_reducible exact Below.refl _ _) | ((with_reducible refine Below.alloc ?_ ?hsz _); (case hsz => (first | omega | (simp; done) | (simp; omega) | (simp at *; omega)))) | ((with_reducible refine Below.setCell ?_ ?hsz _); (case hsz => (first | omega | (simp; done) | (simp; omega) | (simp at *; omega)))) | (with_reducible refine Below.drew ?_) | (with_reducible refine below_drewN ?_ _) | ((with_reducible refine Below.trans ?_ (Below.mono (by with_reducible assumption) ?hsz)); (case hsz => (first | omega | (simp; done) | (simp; omega) | (simp at *; omega))))))))).mono ?_
  rintro e w1 ⟨rfl, hb1⟩
  have bx1 := bx0.keep hb1
  have hB1 : Below w.heap.size w w1 := by (repeat (first | (with_reducible assumption) | (with_reducible exact Below.refl _ _) | ((with_reducible refine Below.alloc ?_ ?hsz _); (case hsz => (first | omega | (simp; done) | (simp; omega) | (simp at *; omega)))) | ((with_reducible refine Below.setCell ?_ ?hsz _); (case hsz => (first | omega | (simp; done) | (simp; omega) | (simp at *; omega)))) | (with_reducible refine Below.drew ?_) | (with_reducible refine below_drewN ?_ _) | ((with_reducible refine Below.trans ?_ (Below.mono (by with_reducible assumption) ?hsz)); (case hsz => (first | omega | (simp; done) | (simp; omega) | (simp at *; omega))))))
  have hz1 := hB1.size
  clear bx0 hb1
  obtain ⟨bs, d0, d1, -, -⟩ := id bx1
  by_cases hn : needsB n ps nd = true
  · rw [hn]
    obtain ⟨n2, n5, hl7, -⟩ := netOk_parts (free_net (needs_parts hn).1)
    have hln := (needs_parts hn).2.1
    have HN := Lib.hid (free_net (needs_parts hn).1)
    have Ho := Lib.hid (feedO_yes hn)
    have Hl := Lib.hid (needs_holds hn)
    have Hnd := Lib.hid hn
    obtain ⟨N, rfl⟩ := Int.eq_ofNat_of_zero_le (show 0 ≤ n by omega)
    have HD := Lib.hid (needs_in hn)
    have HDB := Lib.hid (needs_in hn).2
    have hmoN : N = mo := by rw [← Hmo.out]; omega
    subst hmoN
    obtain ⟨go, co, hov, hRo⟩ := ho0.row (by rw [Hmo.out]; omega)
    rw [Hmo.out] at hov hRo
    rw [hov] at ho0 ⊢
    have HRo := Lib.hid hRo
    obtain ⟨hgo1, hgo2⟩ := hRo.lt
    obtain ⟨hgc1, hgc2⟩ := hRo.capd
    unfold maxLen at hgc2
    obtain ⟨M, hM⟩ : ∃ M, ps.length = M := ⟨_, rfl⟩
    have hmk := fun W => run_make_ints (n := M) (by omega) W
    have hr2' : Ints (w1.alloc (.cells (madeCells #[.int .i64 0] M) 3)) w.heap.size (.slice (some ⟨w1.heap.size, 0, none⟩) M M) (List.replicate M 0) := (Row.ints (b := w1.heap.size) ⟨made_ints w1 M 3 w1.heap.size (Nat.le_refl _) (by omega), by unfold small; omega⟩).mono hz1
    have hB2 : Below w.heap.size w (w1.alloc (.cells (madeCells #[.int .i64 0] M) 3)) := hB1.alloc hz1 _
    have bx2 := bx1.keep ((Below.refl _ _).alloc (Nat.le_refl _) (.cells (madeCells #[.int .i64 0] M) 3))
    have Hr2 := Lib.hid hr2'
    rw [hM] at d1 hp0 bx1 bx2 Hl Ho hcp1 hl7 ⊢
    have HM := Lib.hid hM
    clear hn hM hRo hov hr2' bx1
    go_wp2_with fail
    go_loopw [6, 7] (fun t4 t5 wr => ∃ (ys : List Int) (ag : Bool), t5 = .bool ag ∧ Ints wr w.heap.size t4 ys ∧ holdsB N ps ys = true ∧ fedF N nd ps ys = fedF N nd ps (List.replicate M 0) ∧ (ag = false → ∀ f : Nat, f < N → 0 < dN nd ps ys f → ∀ v : Nat, v < N → dN nd ps ys v < 0 → wayB N ps ys f v = false) ∧ Below w.heap.size w wr ∧ Box2 wr w.heap.size (.int .i64 N) (.slice A M c))
      (fun t4 t5 wr => 2 * (posD N nd ps (Classical.epsilon fun ys => Ints wr w.heap.size t4 ys)).toNat + agN t5)
    case atStart => exact ⟨List.replicate M 0, true, rfl, Hr2.out, Hl.out, rfl, (fun h => by cases h), hB2, bx2⟩
    case round =>
      clear bx2 d0 d1 bs hB2
      obtain ⟨ys, ag, rfl, hI, hh, hc, hend, hB, bx⟩ := hrel
      obtain ⟨bs, d0, d1, -, -⟩ := id bx
      have hzb := hB.size
      obtain ⟨A4, c4, rfl, -, -, -, -⟩ := hI.form
      obtain ⟨m4, hm4⟩ : ∃ m, ys.length = m := ⟨_, rfl⟩
      have HI := Lib.hid hI
      rw [hm4] at HI ⊢
      have HH := Lib.hid (And.intro hh (And.intro hc hend))
      have HE1 : Hid ((Classical.epsilon fun zs => Ints wr w.heap.size (.slice A4 m4 c4) zs) = ys) := Lib.hid (Ints.uniq5 (Classical.epsilon_spec (p := fun zs => Ints wr w.heap.size (.slice A4 m4 c4) zs) ⟨ys, HI.out⟩) HI.out)
      clear hI hm4 hc hend
      have hfl := (holds_parts hh).1
      have HEB := Lib.hid (fun v : Int => exc_bd7 hfl v)
      have Hbd := Lib.hid (fun v : Nat => dN_bd hfl HD.out v)
      clear hh hfl
      cases ag with
      | true =>
        obtain ⟨wo, hwo⟩ : ∃ wo, wr = wo := ⟨_, rfl⟩
        rw [hwo] at HI HE1 hB bx d0 d1 bs hzb ⊢
        clear hwo
        go_wp2_with fail
        go_loopw [6, 7, 8] (fun t4 t5 t6 wr => ∃ (f : Nat) (ag : Bool), f ≤ N ∧ t6 = .int .i64 f ∧ t5 = .bool ag ∧ Below wo.heap.size wo wr ∧ (ag = false → t4 = .slice A4 m4 c4 ∧ ∀ f' : Nat, f' < f → 0 < dN nd ps ys f' → ∀ v : Nat, v < N → dN nd ps ys v < 0 → wayB N ps ys f' v = false) ∧
          (ag = true → ∃ zs, Ints wr w.heap.size t4 zs ∧ holdsB N ps zs = true ∧ fedF N nd ps zs = fedF N nd ps ys ∧ posD N nd ps zs < posD N nd ps ys)) (fun _ t5 t6 _ => 2 * (N - (intOf t6).toNat) + (1 - agN t5))
        case atStart => exact ⟨0, false, by omega, rfl, rfl, Below.refl _ _, (fun _ => ⟨rfl, fun f' hf' => by omega⟩), (fun h => by cases h)⟩
        case round =>
          clear d0 d1 bs
          obtain ⟨f, ag, hf, rfl, rfl, hb, h1, h2⟩ := hrel
          have bxf := bx.keep hb
          obtain ⟨bs, d0, d1, -, -⟩ := id bxf
          have hBf := hB.trans (hb.mono hzb)
          have hzf := hb.size
          cases ag with
          | true =>
            obtain ⟨zs, hJ, hz1', hz2', hz3'⟩ := h2 rfl
            obtain ⟨A5, c5, rfl, -, -, -, -⟩ := hJ.form
            obtain ⟨m5, hm5⟩ : ∃ m, zs.length = m := ⟨_, rfl⟩
            rw [hm5] at hJ ⊢
            have HZ := Lib.hid (And.intro hJ (And.intro hz1' (And.intro (hz2'.trans HH.out.2.1) hz3')))
            have HE2 : Hid ((Classical.epsilon fun q => Ints wr w.heap.size (.slice A5 m5 c5) q) = zs) := Lib.hid (Ints.uniq5 (Classical.epsilon_spec (p := fun q => Ints wr w.heap.size (.slice A5 m5 c5) q) ⟨zs, hJ⟩) hJ)
            clear hJ hz1' hz2' hz3' h1 h2 hm5
            by_cases hfN : f < N
            · go_wp2
              go_roundw
              case rel => exact ⟨zs, true, rfl, HZ.out.1, HZ.out.2.1, HZ.out.2.2.1, (fun h => by cases h), hBf, bxf⟩
              case measure =>
                rw [HE1.out, HE2.out]
                have := HZ.out.2.2.2
                have := posD_nn N nd ps zs
                simp only [agN]
                omega
            · go_wp2
              go_roundw
              case rel => exact ⟨zs, true, rfl, HZ.out.1, HZ.out.2.1, HZ.out.2.2.1, (fun h => by cases h), hBf, bxf⟩
              case measure =>
                rw [HE1.out, HE2.out]
                have := HZ.out.2.2.2
                have := posD_nn N nd ps zs
                simp only [agN]
                omega
          | false =>
            obtain ⟨rfl, hstk⟩ := h1 rfl
            have Hstk := Lib.hid hstk
            have HIf := Lib.hid (HI.out.keep hb)
            clear h1 h2 hstk
            by_cases hfN : f < N
            · obtain ⟨F, hF⟩ : ∃ F, dN nd ps ys f = F := ⟨_, rfl⟩
              have HF := Lib.hid hF
              have hFb := Hbd.out f
              rw [hF] at hFb
              obtain ⟨hF1, hF2⟩ := hFb
              obtain ⟨E, hE⟩ : ∃ E, exc (f : Int) ps ys = E := ⟨_, rfl⟩
              obtain ⟨d, hdd⟩ : ∃ d, nd.getD f 0 = d := ⟨_, rfl⟩
              have HEF : Hid (E - d = F) := Lib.hid (by rw [← hE, ← hdd, ← hF]; rfl)
              have hEb := HEB.out (f : Int)
              have hdb := HDB.out f
              rw [hE] at hEb
              rw [hdd] at hdb
              obtain ⟨E1, E2⟩ := hEb
              obtain ⟨D1, D2⟩ := hdb
              have cN := ((HRo.out.keep hBf).at' f hfN).1
              rw [hdd] at cN
              have HC : Hid (∀ p : Bw wr, Calls Try.prog 49 #[.agg #[.int .i64 N, .slice A M c], .slice A4 m4 c4, .int .i64 f] p.v fun e w' => e = .returned (.int .i64 E) ∧ Below p.v.heap.size p.v w') := Lib.hid fun p => by
                rw [← hE]
                exact specExcess_any f N _ _ ps ys b _ _ ((hp0.keep hBf).keep p.h) (HIf.out.keep p.h) (holds_parts HH.out.1).1
              have hd0 := fun p : Bw wr => (bw_cell p bs).trans d0
              have hd1 := fun p : Bw wr => (bw_cell p bs).trans d1
              have hd2 := fun p : Bw wr => (bw_cell p (show go < wr.heap.size by have := hBf.size; omega)).trans cN
              clear hF hE hdd
              go_wp2_with fail
              refine wp_region_bw (by kernel_rfl) (by kernel_rfl) ?_
              repeat (go_big_quiet_step ((go_at_call 49; refine calls_bw (HC.out _))))
              refine wpQuiet_nil ?_
              rintro _ ⟨pw, rfl⟩
              have hb3 := pw.h
              obtain ⟨w3, hw3⟩ : ∃ w3, w3 = pw.v := ⟨_, rfl⟩
              rw [← hw3] at hb3 ⊢
              rw [HEF.out]
              clear hd0 hd1 hd2 hw3 cN E1 E2 D1 D2
              have hb03 := hb.trans (hb3.mono hzf)
              have bx3 := bx.keep hb03
              have hz3 := hb03.size
              clear d0 d1 bs bxf hBf
              obtain ⟨bs, d0, d1, -, -⟩ := id bx3
              go_wp2_with fail
              go_loopw [6, 7, 10] (fun t4 t5 t8 wr => ∃ (t : Nat) (ag : Bool), t ≤ N ∧ t8 = .int .i64 t ∧ t5 = .bool ag ∧ Below wo.heap.size wo wr ∧ (ag = false → t4 = .slice A4 m4 c4 ∧ (0 < F → ∀ v : Nat, v < t → dN nd ps ys v < 0 → wayB N ps ys f v = false)) ∧
                (ag = true → ∃ zs, Ints wr w.heap.size t4 zs ∧ holdsB N ps zs = true ∧ fedF N nd ps zs = fedF N nd ps ys ∧ posD N nd ps zs < posD N nd ps ys)) (fun _ t5 t8 _ => 2 * (N - (intOf t8).toNat) + (1 - agN t5))
              case atStart => exact ⟨0, false, by omega, rfl, rfl, hb03, (fun _ => ⟨rfl, fun _ v hv => by omega⟩), (fun h => by cases h)⟩
              case round =>
                clear d0 d1 bs bx3 hb03 hb3 hz3
                obtain ⟨t, ag, ht, rfl, rfl, hbt, h1, h2⟩ := hrel
                have bxt := bx.keep hbt
                obtain ⟨bs, d0, d1, -, -⟩ := id bxt
                have hBt := hB.trans (hbt.mono hzb)
                have hzt := hbt.size
                cases ag with
                | true =>
                  obtain ⟨zs, hJ, hz1', hz2', hz3'⟩ := h2 rfl
                  obtain ⟨A5, c5, rfl, -, -, -, -⟩ := hJ.form
                  obtain ⟨m5, hm5⟩ : ∃ m, zs.length = m := ⟨_, rfl⟩
                  rw [hm5] at hJ ⊢
                  have HZ := Lib.hid (And.intro hJ (And.intro hz1' (And.intro hz2' hz3')))
                  clear hJ hz1' hz2' hz3' h1 h2 hm5
                  by_cases htN : t < N <;> by_cases hFp : 0 < F
                  all_goals
                    go_wp2
                    go_roundw
                    case rel => exact ⟨f + 1, true, by omega, by go_num, rfl, hbt, (fun h => by cases h), (fun _ => ⟨zs, HZ.out⟩)⟩
                    case measure => simp [intOf, agN]; omega
                | false =>
                  obtain ⟨rfl, hno⟩ := h1 rfl
                  have Hno := Lib.hid hno
                  have HIt := Lib.hid (HI.out.keep hbt)
                  clear h1 h2 hno
                  have Hex : Hid ((¬ 0 < F ∨ t = N) → ∀ f' : Nat, f' < f + 1 → 0 < dN nd ps ys f' → ∀ v : Nat, v < N → dN nd ps ys v < 0 → wayB N ps ys f' v = false) := Lib.hid fun hor f' hf' hp' v hv hx' => by
                    by_cases hff : f' = f
                    · subst hff
                      rw [HF.out] at hp'
                      rcases hor with h | h
                      · exact absurd hp' h
                      · exact Hno.out hp' v (by omega) hx'
                    · exact Hstk.out f' (by omega) hp' v hv hx'
                  by_cases htN : t < N
                  · by_cases hFp : 0 < F
                    · obtain ⟨Y, hY⟩ : ∃ Y, dN nd ps ys t = -Y := ⟨-dN nd ps ys t, by omega⟩
                      have HX := Lib.hid hY
                      have hYb := Hbd.out t
                      rw [hY] at hYb
                      obtain ⟨hY1, hY2⟩ := hYb
                      obtain ⟨E, hE⟩ : ∃ E, exc (t : Int) ps ys = E := ⟨_, rfl⟩
                      obtain ⟨d, hdd⟩ : ∃ d, nd.getD t 0 = d := ⟨_, rfl⟩
                      have HEF : Hid (d - E = Y) := Lib.hid (by
                        have h9 : E - d = -Y := by rw [← hE, ← hdd, ← hY]; rfl
                        omega)
                      have hEb := HEB.out (t : Int)
                      have hdb := HDB.out t
                      rw [hE] at hEb
                      rw [hdd] at hdb
                      obtain ⟨E1, E2⟩ := hEb
                      obtain ⟨D1, D2⟩ := hdb
                      have cN := ((HRo.out.keep hBt).at' t htN).1
                      rw [hdd] at cN
                      have HC : Hid (∀ p : Bw wr, Calls Try.prog 49 #[.agg #[.int .i64 N, .slice A M c], .slice A4 m4 c4, .int .i64 t] p.v fun e w' => e = .returned (.int .i64 E) ∧ Below p.v.heap.size p.v w') := Lib.hid fun p => by
                        rw [← hE]
                        exact specExcess_any t N _ _ ps ys b _ _ ((hp0.keep hBt).keep p.h) (HIt.out.keep p.h) (holds_parts HH.out.1).1
                      have hd0 := fun p : Bw wr => (bw_cell p bs).trans d0
                      have hd1 := fun p : Bw wr => (bw_cell p bs).trans d1
                      have hd2 := fun p : Bw wr => (bw_cell p (show go < wr.heap.size by have := hBt.size; omega)).trans cN
                      clear hY hE hdd
                      go_wp2_with fail
                      refine wp_region_bw (by kernel_rfl) (by kernel_rfl) ?_
                      repeat (go_big_quiet_step ((go_at_call 49; refine calls_bw (HC.out _))))
                      refine wpQuiet_nil ?_
                      rintro _ ⟨pw, rfl⟩
                      have hb5 := pw.h
                      obtain ⟨w5, hw5⟩ : ∃ w5, w5 = pw.v := ⟨_, rfl⟩
                      rw [← hw5] at hb5 ⊢
                      rw [HEF.out]
                      clear hd0 hd1 hd2 hw5 cN E1 E2 D1 D2
                      have hbq := hbt.trans (hb5.mono hzt)
                      have hzq := hbq.size
                      have bxq := bx.keep hbq
                      have hBq := hB.trans (hbq.mono hzb)
                      have HIq := Lib.hid (HI.out.keep hbq)
                      clear d0 d1 bs bxt hBt hb5 hbt HIt hzt
                      obtain ⟨bs, d0, d1, -, -⟩ := id bxq
                      by_cases hYp : 0 < Y
                      · have hYd : decide (Y ≤ 0) = false := decide_eq_false (by omega)
                        go_wp2_with fail
                        with_reducible refine (specWay_any N f t _ _ ps ys b _ _ (hp0.keep hBq) HIq.out HH.out.1 (by omega) (by omega) (by omega) (by omega)).mono ?_
                        rintro e w7 ⟨r7, rfl, hr7, hb7⟩
                        have hbq' := hbq.trans (hb7.mono hzq)
                        have hzq' := hbq'.size
                        have bx7 := bx.keep hbq'
                        have hBq' := hB.trans (hbq'.mono hzb)
                        have HIq' := Lib.hid (HI.out.keep hbq')
                        clear d0 d1 bs bxq hb7 hBq HIq
                        obtain ⟨bs, d0, d1, -, -⟩ := id bx7
                        have hft : f ≠ t := fun e => by
                          have h9 := HF.out
                          rw [e, HX.out] at h9
                          omega
                        have he : endsB N ps f t = true := by
                          simp [endsB, HN.out, withinB]
                          omega
                        obtain ⟨e1, e2⟩ := rest_way HH.out.1 he
                        rw [e1] at hr7 e2
                        obtain ⟨A7, c7, rfl, -, -, -, -⟩ := hr7.form
                        obtain ⟨m7, hm7⟩ : ∃ m, ((wayR N ps ys f t).map fun s : Nat => (s : Int)).length = m := ⟨_, rfl⟩
                        have hm7' : (wayR N ps ys f t).length = m7 := by rw [← hm7]; simp
                        rw [hm7'] at e2
                        rw [hm7] at hr7 ⊢
                        have hrw := hr7
                        clear hm7 hm7' e1 he hft hr7
                        have hbq := hbq'
                        have hzq := hzq'
                        have hBq := hBq'
                        have HIq := HIq'
                        clear hbq' hzq' hBq' HIq'
                        by_cases hw : wayB N ps ys f t = true
                        · have hm0 : decide (0 < m7) = true := by rw [e2, hw]
                          obtain ⟨q1, q2, q3, q4, q5, -⟩ := spush_facts hw
                          have HP1 : Hid (ys.length = ps.length ∧ 0 < ys.length ∧ (∀ x ∈ ys, 0 ≤ x ∧ x ≤ 40) ∧ (∀ p ∈ ps, 0 ≤ p.le ∧ p.le ≤ p.mo ∧ p.mo ≤ 4) ∧ ∀ s ∈ wayR N ps ys f t, s < 2 * ps.length) := Lib.hid ⟨q2, q3, q4, q5, (spush_facts hw).2.2.2.2.2.1⟩
                          have hX0 : dN nd ps ys t < 0 := by rw [HX.out]; omega
                          have hF0 : 0 < dN nd ps ys f := by rw [HF.out]; omega
                          have HP2 := Lib.hid (And.intro (pushD_ok (nd := nd) (n := (N : Int)) (f := f) (t := t) (by omega) hF0 hX0 hw) (And.intro (pushD_facts (nd := nd) (n := (N : Int)) (f := f) (t := t) (by omega) hF0 hX0 hw)
                            (fedF_push (nd := nd) (n := (N : Int)) (f := f) (t := t) HD.out HH.out.1 (by omega) hF0 (by omega) hX0 hw (fun f' hf' hp' v hv hx' => Hstk.out f' hf' hp' v (by omega) hx') (fun v hv hx' => Hno.out hFp v hv hx'))))
                          clear q1 q2 q3 q4 q5 e2 hX0 hF0
                          by_cases hm : F ≤ Y
                          · have ham : roomL ps ys F (wayR N ps ys f t) = amtD N nd ps ys f t := by
                              have h9 := roomAmtD (nd := nd) (n := (N : Int)) (f := f) (t := t) hw (by rw [HF.out]; omega)
                              rw [HF.out, HX.out, Int.neg_neg, Int.min_eq_left hm] at h9
                              exact h9
                            have Ham := Lib.hid (And.intro ham HP2.out)
                            clear ham hw
                            go_wp2_with fail
                            with_reducible refine (l5Pushed_any N F _ _ _ (wayR N ps ys f t) ps ys b _ _ _ (hp0.keep hBq) HIq.out hrw (by rw [HM.out]; exact hl7) HP1.out.1 HP1.out.2.1 HP1.out.2.2.1 HP1.out.2.2.2.1 HP1.out.2.2.2.2 (amtD N nd ps ys f t) Ham.out.1 Ham.out.2.2.1.1 Ham.out.2.2.1.2).mono ?_
                            rintro e w6 ⟨r6, rfl, hr6, hb6⟩
                            have hb06 := hbq.trans (hb6.mono hzq)
                            have hr66 : Ints w6 w.heap.size r6 (pushD N nd ps ys f t) := hr6.mono (by omega)
                            have hprop := Ham.out.2
                            have HPP := Lib.hid (And.intro hr66 hprop)
                            clear hr6 hr66 hprop
                            go_wp2
                            go_roundw
                            case rel => exact ⟨t + 1, true, by omega, by go_num, rfl, hb06, (fun h => by cases h), (fun _ => ⟨pushD N nd ps ys f t, HPP.out.1, HPP.out.2.1.2.2.1, HPP.out.2.2.2, HPP.out.2.1.2.2.2.1⟩)⟩
                            case measure => simp [intOf, agN]; omega
                          · have ham : roomL ps ys Y (wayR N ps ys f t) = amtD N nd ps ys f t := by
                              have h9 := roomAmtD (nd := nd) (n := (N : Int)) (f := f) (t := t) hw (by rw [HF.out]; omega)
                              rw [HF.out, HX.out, Int.neg_neg, Int.min_eq_right (by omega)] at h9
                              exact h9
                            have Ham := Lib.hid (And.intro ham HP2.out)
                            clear ham hw
                            go_wp2_with fail
                            with_reducible refine (l5Pushed_any N Y _ _ _ (wayR N ps ys f t) ps ys b _ _ _ (hp0.keep hBq) HIq.out hrw (by rw [HM.out]; exact hl7) HP1.out.1 HP1.out.2.1 HP1.out.2.2.1 HP1.out.2.2.2.1 HP1.out.2.2.2.2 (amtD N nd ps ys f t) Ham.out.1 Ham.out.2.2.1.1 Ham.out.2.2.1.2).mono ?_
                            rintro e w6 ⟨r6, rfl, hr6, hb6⟩
                            have hb06 := hbq.trans (hb6.mono hzq)
                            have hr66 : Ints w6 w.heap.size r6 (pushD N nd ps ys f t) := hr6.mono (by omega)
                            have hprop := Ham.out.2
                            have HPP := Lib.hid (And.intro hr66 hprop)
                            clear hr6 hr66 hprop
                            go_wp2
                            go_roundw
                            case rel => exact ⟨t + 1, true, by omega, by go_num, rfl, hb06, (fun h => by cases h), (fun _ => ⟨pushD N nd ps ys f t, HPP.out.1, HPP.out.2.1.2.2.1, HPP.out.2.2.2, HPP.out.2.1.2.2.2.1⟩)⟩
                            case measure => simp [intOf, agN]; omega
                        · have hw' : wayB N ps ys f t = false := by simpa using hw
                          have hm0 : decide (0 < m7) = false := by rw [e2, hw']
                          have Hw := Lib.hid hw'
                          clear hw hw' e2
                          go_wp2
                          go_roundw
                          case rel => exact ⟨t + 1, false, by omega, by go_num, rfl, hbq, (fun _ => ⟨rfl, fun hFp' v hv hx' => by
                            by_cases hvt : v = t
                            · rw [hvt]; exact Hw.out
                            · exact Hno.out hFp' v (by omega) hx'⟩), (fun h => by cases h)⟩
                          case measure => simp [intOf, agN]; omega
                      · have hYd : decide (Y ≤ 0) = true := decide_eq_true (by omega)
                        go_wp2
                        go_roundw
                        case rel => exact ⟨t + 1, false, by omega, by go_num, rfl, hbq, (fun _ => ⟨rfl, fun hFp' v hv hx' => by
                          by_cases hvt : v = t
                          · rw [hvt, HX.out] at hx'; omega
                          · exact Hno.out hFp' v (by omega) hx'⟩), (fun h => by cases h)⟩
                        case measure => simp [intOf, agN]; omega
                    · go_wp2
                      go_roundw
                      case rel => exact ⟨f + 1, false, by omega, by go_num, rfl, hbt, (fun _ => ⟨rfl, Hex.out (.inl hFp)⟩), (fun h => by cases h)⟩
                      case measure => simp [intOf, agN]; omega
                  · have htN' : t = N := by omega
                    have Hex2 := Lib.hid (Hex.out (.inr htN'))
                    go_wp2
                    go_roundw
                    case rel => exact ⟨f + 1, false, by omega, by go_num, rfl, hbt, (fun _ => ⟨rfl, Hex2.out⟩), (fun h => by cases h)⟩
                    case measure => simp [intOf, agN]; omega
            · have hfN' : f = N := by omega
              go_wp2
              go_roundw
              case rel => exact ⟨ys, false, rfl, HIf.out, HH.out.1, HH.out.2.1, (fun _ f' hf' => Hstk.out f' (by omega)), hBf, bxf⟩
              case measure =>
                rw [HE1.out]
                have HE3 : (Classical.epsilon fun zs => Ints wr w.heap.size (.slice A4 m4 c4) zs) = ys := Ints.uniq5 (Classical.epsilon_spec (p := fun zs => Ints wr w.heap.size (.slice A4 m4 c4) zs) ⟨ys, HIf.out⟩) HIf.out
                rw [HE3]
                simp only [agN]
                omega
      | false =>
        have Hend := Lib.hid (fedF_end HD.out HH.out.1 (by rw [Int.toNat_natCast]; exact HH.out.2.2 rfl))
        have HFB : Hid (feedsB N ps ys nd = zeroD N nd ps ys) := Lib.hid (by rw [feedsB, HH.out.1, Hnd.out]; rfl)
        go_wp2_with fail
        with_reducible refine (specFeedsOk_any N _ _ _ ps ys nd b _ b2 _ (hp0.keep hB) HI.out (ho0.keep hB)).mono ?_
        rintro e w3 ⟨rfl, hb3⟩
        rw [HFB.out]
        have hB3 := hB.trans (hb3.mono hzb)
        have hz3 := hB3.size
        by_cases hbal : zeroD N nd ps ys = true
        · have Hr : Hid (feedB N ps nd = true ∧ feedL N ps nd = ys) := Lib.hid (feed_some (by rw [Ho.out, ← HH.out.2.1, Hend.out, if_pos hbal]))
          rw [hbal]
          go_wp2
          go_ret2
          exact ⟨_, ret_vb Hr.out.1.symm, by rw [Hr.out.2]; exact HI.out.keep hb3, hB3⟩
        · have hbal' : zeroD N nd ps ys = false := by simpa using hbal
          have Hr : Hid (feedB N ps nd = false ∧ feedL N ps nd = []) := Lib.hid (feed_none (by rw [Ho.out, ← HH.out.2.1, Hend.out, if_neg hbal]))
          rw [hbal']
          go_wp2
          go_ret2
          exact ⟨_, ret_vb Hr.out.1.symm, by rw [Hr.out.2]; exact ints_empty5 _ hz3 rfl, by (repeat (first | (with_reducible assumption) | (with_reducible exact Below.refl _ _) | ((with_reducible refine Below.alloc ?_ ?hsz _); (case hsz => (first | omega | (simp; done) | (simp; omega) | (simp at *; omega)))) | ((with_reducible refine Below.setCell ?_ ?hsz _); (case hsz => (first | omega | (simp; done) | (simp; omega) | (simp at *; omega)))) | (with_reducible refine Below.drew ?_) | (with_reducible refine below_drewN ?_ _) | ((with_reducible refine Below.trans ?_ (Below.mono (by with_reducible assumption) ?hsz)); (case hsz => (first | omega | (simp; done) | (simp; omega) | (simp at *; omega))))))⟩
  · have hn' : needsB n ps nd = false := by simpa using hn
    rw [hn']
    have Hw := Lib.hid (feed_none (feedO_no hn'))
    clear hn hn'
    go_wp2
    go_ret2
    exact ⟨_, ret_vb Hw.out.1.symm, by rw [Hw.out.2]; exact ints_empty5 _ hz1 rfl, by (repeat (first | (with_reducible assumption) | (with_reducible exact Below.refl _ _) | ((with_reducible refine Below.alloc ?_ ?hsz _); (case hsz => (first | omega | (simp; done) | (simp; omega) | (simp at *; omega)))) | ((with_reducible refine Below.setCell ?_ ?hsz _); (case hsz => (first | omega | (simp; done) | (simp; omega) | (simp at *; omega)))) | (with_reducible refine Below.drew ?_) | (with_reducible refine below_drewN ?_ _) | ((with_reducible refine Below.trans ?_ (Below.mono (by with_reducible assumption) ?hsz)); (case hsz => (first | omega | (simp; done) | (simp; omega) | (simp at *; omega))))))⟩

end Go.Proofs.Ytphbmlephldaaaa
