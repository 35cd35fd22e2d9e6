/- Contracts of the functions of chapter 4 in the program: walks along pipes. -/
import Derived.Test.YtdbfpdanoclgmaaN1
import Derived.Test.YtdbfpdanoclgmaaW6
import Derived.Test.YtdbfpdanoclgmaaRW
import Derived.Test.YtdbfpdanoclgmaaRD
import Derived.Deep.QuietTactic
import Derived.Deep.AppendLies
namespace Go.Proofs.Ytdbfpdanoclgmaa
open Go.RowKit

set_option maxHeartbeats 1000000 in
set_option maxRecDepth 20000 in
theorem placeFn_any (x : Int) (bp m c : Nat) (A : Option Addr) (w : World) (d0 : w.cell? ⟨bp, 0, none⟩ = some (.slice A m c)) (hm : m ≤ 7) :
    Calls Try.prog 72 #[.int .i64 x, .pointer (some ⟨bp, 0, none⟩)] w fun e w' => e = .returned (.bool (!withinB x 0 ((m : Int) - 1))) ∧ w = w' := by
  go_enter Try.func72, Try.ntmps72
  go_wp2_with fail
  refine (within_any x 0 ((m : Int) - 1) _).mono ?_
  rintro e w1 ⟨rfl, rfl⟩
  go_wp2
  go_ret
  exact ⟨rfl, rfl⟩

set_option maxHeartbeats 1000000 in
set_option maxRecDepth 20000 in
theorem indexPlaces_any (u : Value) (xs : List Int) (bp m c : Nat) (A : Option Addr) (w : World) (hx : Reads w u xs) (d0 : w.cell? ⟨bp, 0, none⟩ = some (.slice A m c)) (hbp : bp < w.heap.size) (hm : m ≤ 7) :
    Calls Try.prog 82 #[u, .func (Fn.func 72) #[] #[.pointer (some ⟨bp, 0, none⟩)]] w fun e w' => ∃ r : Int, e = .returned (.int .i64 r) ∧ decide (0 ≤ r) = (!(xs.all fun x => withinB x 0 ((m : Int) - 1))) ∧ Below w.heap.size w w' := by
  obtain ⟨A0, c0, rfl, hc1, hc2, hs, hcell⟩ := hx.form
  unfold maxLen at hc2
  go_enter Try.func82, Try.ntmps82
  go_wp2
  go_loopw [8] (fun i wr => ∃ k : Nat, k ≤ xs.length ∧ i = .int .i64 k ∧ (∀ x ∈ xs.take k, withinB x 0 ((m : Int) - 1) = true) ∧ Below w.heap.size w wr) (fun i _ => xs.length - (intOf i).toNat)
  case atStart => exact ⟨0, by omega, rfl, by simp, Below.refl _ _⟩
  case round =>
    obtain ⟨k, hk, rfl, hall, hb⟩ := hrel
    have Hall := Lib.hid hall
    clear hall
    have hzb := hb.size
    have e0 := (hb.cell (p := ⟨bp, 0, none⟩) hbp).trans d0
    by_cases hlt : k < xs.length
    · obtain ⟨g, o, rfl, hg2, cx⟩ := hcell wr hb k hlt
      by_cases hz : withinB xs[k] 0 ((m : Int) - 1) = true
      · have Hn := Lib.hid (all_take (f := fun x : Int => withinB x 0 ((m : Int) - 1)) hlt Hall.out hz)
        go_wp2_with fail
        refine (placeFn_any xs[k] bp m c A _ (by (repeat (first | (with_reducible assumption) | ((with_reducible refine (Below.cell (by with_reducible assumption) ?hsz).trans ?_); (case hsz => (first | omega | (simp; done) | (simp; omega) | (simp at *; omega)))) | ((with_reducible refine (World.cell?_alloc_lt _ _ _ ?hsz).trans ?_); (case hsz => (first | omega | (simp; done) | (simp; omega) | (simp at *; omega)))) | ((with_reducible refine (World.cell?_setCell_other _ _ _ _ ?hsz).trans ?_); (case hsz => (intro h; injection h with h1 h2; omega)))))) hm).mono ?_
        rintro e w1 ⟨rfl, rfl⟩
        rw [hz]
        go_wp2
        go_roundw
        case rel => exact ⟨k + 1, by omega, by go_num, Hn.out, by (repeat (first | (with_reducible assumption) | (with_reducible exact Below.refl _ _) | ((with_reducible refine Below.alloc ?_ ?hsz _); (case hsz => (first | omega | (simp; done) | (simp; omega) | (simp at *; omega)))) | ((with_reducible refine Below.setCell ?_ ?hsz _); (case hsz => (first | omega | (simp; done) | (simp; omega) | (simp at *; omega)))) | (with_reducible refine Below.drew ?_) | (with_reducible refine below_drewN ?_ _) | ((with_reducible refine Below.trans ?_ (Below.mono (by with_reducible assumption) ?hsz)); (case hsz => (first | omega | (simp; done) | (simp; omega) | (simp at *; omega))))))⟩
        case measure => simp [intOf]; omega
      · have hz' : withinB xs[k] 0 ((m : Int) - 1) = false := by simpa using hz
        have Hn := Lib.hid (show (!(xs.all fun x => withinB x 0 ((m : Int) - 1))) = true by
          rw [all_no hlt (by simp [hz'])]; rfl)
        clear hz
        go_wp2_with fail
        refine (placeFn_any xs[k] bp m c A _ (by (repeat (first | (with_reducible assumption) | ((with_reducible refine (Below.cell (by with_reducible assumption) ?hsz).trans ?_); (case hsz => (first | omega | (simp; done) | (simp; omega) | (simp at *; omega)))) | ((with_reducible refine (World.cell?_alloc_lt _ _ _ ?hsz).trans ?_); (case hsz => (first | omega | (simp; done) | (simp; omega) | (simp at *; omega)))) | ((with_reducible refine (World.cell?_setCell_other _ _ _ _ ?hsz).trans ?_); (case hsz => (intro h; injection h with h1 h2; omega)))))) hm).mono ?_
        rintro e w1 ⟨rfl, rfl⟩
        rw [hz']
        go_wp2
        go_ret
        exact ⟨_, rfl, by rw [Hn.out]; simp, by (repeat (first | (with_reducible assumption) | (with_reducible exact Below.refl _ _) | ((with_reducible refine Below.alloc ?_ ?hsz _); (case hsz => (first | omega | (simp; done) | (simp; omega) | (simp at *; omega)))) | ((with_reducible refine Below.setCell ?_ ?hsz _); (case hsz => (first | omega | (simp; done) | (simp; omega) | (simp at *; omega)))) | (with_reducible refine Below.drew ?_) | (with_reducible refine below_drewN ?_ _) | ((with_reducible refine Below.trans ?_ (Below.mono (by with_reducible assumption) ?hsz)); (case hsz => (first | omega | (simp; done) | (simp; omega) | (simp at *; omega))))))⟩
    · go_wp2
      go_ret
      exact ⟨_, rfl, by rw [all_whole hlt Hall.out]; rfl, by (repeat (first | (with_reducible assumption) | (with_reducible exact Below.refl _ _) | ((with_reducible refine Below.alloc ?_ ?hsz _); (case hsz => (first | omega | (simp; done) | (simp; omega) | (simp at *; omega)))) | ((with_reducible refine Below.setCell ?_ ?hsz _); (case hsz => (first | omega | (simp; done) | (simp; omega) | (simp at *; omega)))) | (with_reducible refine Below.drew ?_) | (with_reducible refine below_drewN ?_ _) | ((with_reducible refine Below.trans ?_ (Below.mono (by with_reducible assumption) ?hsz)); (case hsz => (first | omega | (simp; done) | (simp; omega) | (simp at *; omega))))))⟩

set_option maxHeartbeats 1000000 in
set_option maxRecDepth 20000 in
theorem placesOk_any (u : Value) (xs : List Int) (m c : Nat) (A : Option Addr) (w : World) (hx : Reads w u xs) (hm : m ≤ 7) :
    Calls Try.prog 44 #[.slice A m c, u] w fun e w' => e = .returned (.bool (xs.all fun x => withinB x 0 ((m : Int) - 1))) ∧ Below w.heap.size w w' := by
  have hx0 := hx
  obtain ⟨A0, c0, rfl, -, -, -, -⟩ := hx.form
  go_enter Try.func44, Try.ntmps44
  go_wp2_with fail
  have hcf : Calls Try.prog 71 #[.slice A0 xs.length c0, .func (Fn.func 72) #[] #[.pointer (some ⟨w.heap.size, 0, none⟩)]] (w.alloc (.cells #[.slice A m c] 26)) fun e w' => e = .returned (.bool (!(xs.all fun x => withinB x 0 ((m : Int) - 1)))) ∧ Below w.heap.size w w' := by
    go_enter Try.func71, Try.ntmps71
    go_wp2_with fail
    refine (indexPlaces_any _ xs w.heap.size m c A _ (hx0.keep (by (repeat (first | (with_reducible assumption) | (with_reducible exact Below.refl _ _) | ((with_reducible refine Below.alloc ?_ ?hsz _); (case hsz => (first | omega | (simp; done) | (simp; omega) | (simp at *; omega)))) | ((with_reducible refine Below.setCell ?_ ?hsz _); (case hsz => (first | omega | (simp; done) | (simp; omega) | (simp at *; omega)))) | (with_reducible refine Below.drew ?_) | (with_reducible refine below_drewN ?_ _) | ((with_reducible refine Below.trans ?_ (Below.mono (by with_reducible assumption) ?hsz)); (case hsz => (first | omega | (simp; done) | (simp; omega) | (simp at *; omega)))))))) (by simp) (by simp) hm).mono ?_
    rintro e w1 ⟨r, rfl, hr, hb1⟩
    go_wp2
    go_ret
    exact ⟨by first | rfl | exact ret_bool hr, by (repeat (first | (with_reducible assumption) | (with_reducible exact Below.refl _ _) | ((with_reducible refine Below.alloc ?_ ?hsz _); (case hsz => (first | omega | (simp; done) | (simp; omega) | (simp at *; omega)))) | ((with_reducible refine Below.setCell ?_ ?hsz _); (case hsz => (first | omega | (simp; done) | (simp; omega) | (simp at *; omega)))) | (with_reducible refine Below.drew ?_) | (with_reducible refine below_drewN ?_ _) | ((with_reducible refine Below.trans ?_ (Below.mono (by with_reducible assumption) ?hsz)); (case hsz => (first | omega | (simp; done) | (simp; omega) | (simp at *; omega))))))⟩
  refine hcf.mono ?_
  rintro e w1 ⟨rfl, hb1⟩
  go_wp2
  go_ret
  exact ⟨ret_bool (by first | rfl | (rw [Bool.not_not])), by (repeat (first | (with_reducible assumption) | (with_reducible exact Below.refl _ _) | ((with_reducible refine Below.alloc ?_ ?hsz _); (case hsz => (first | omega | (simp; done) | (simp; omega) | (simp at *; omega)))) | ((with_reducible refine Below.setCell ?_ ?hsz _); (case hsz => (first | omega | (simp; done) | (simp; omega) | (simp at *; omega)))) | (with_reducible refine Below.drew ?_) | (with_reducible refine below_drewN ?_ _) | ((with_reducible refine Below.trans ?_ (Below.mono (by with_reducible assumption) ?hsz)); (case hsz => (first | omega | (simp; done) | (simp; omega) | (simp at *; omega))))))⟩

set_option maxHeartbeats 2000000 in
set_option maxRecDepth 20000 in
theorem walkOk_any (n : Int) (v u : Value) (ps : List Pp) (xs : List Int) (b : Nat) (w : World) (hp : Pipes w b v ps) (hx : Reads w u xs) :
    Calls Try.prog 98 #[.agg #[.int .i64 n, v], u] w fun e w' => e = .returned (.bool (walkB n ps xs)) ∧ Below w.heap.size w w' := by
  have hp0 := hp
  have hx0 := hx
  obtain ⟨A, c, rfl, -, -, -, -⟩ := hp.form
  obtain ⟨A0, c0, rfl, hc1, hc2, hsm, -⟩ := hx.form
  unfold maxLen at hc2
  by_cases hok : netOkB n ps = true
  · obtain ⟨n2, n5, hl7, -⟩ := netOk_parts hok
    by_cases hin : withinB xs.length 1 5 = true
    · have hin' := hin
      simp only [withinB, Bool.and_eq_true, decide_eq_true_eq] at hin'
      by_cases hpl : placesB ps xs = true
      · have hwb : walkB n ps xs = linkB ps xs := by simp [walkB, hok, hin, hpl]
        have Hw := Lib.hid hwb
        have Hpl := Lib.hid hpl
        obtain ⟨g0, o0, he, og, hcc⟩ := hx.at' (by omega)
        subst he
        have HCC := Lib.hid hcc
        clear hcc
        have bx0 := Box2.new w (.int .i64 n) (.slice A ps.length c) 28
        go_enter Try.func98, Try.ntmps98
        go_wp2_with fail
        refine (netOk_any n _ ps b _ (hp0.keep (by (repeat (first | (with_reducible assumption) | (with_reducible exact Below.refl _ _) | ((with_reducible refine Below.alloc ?_ ?hsz _); (case hsz => (first | omega | (simp; done) | (simp; omega) | (simp at *; omega)))) | ((with_reducible refine Below.setCell ?_ ?hsz _); (case hsz => (first | omega | (simp; done) | (simp; omega) | (simp at *; omega)))) | (with_reducible refine Below.drew ?_) | (with_reducible refine below_drewN ?_ _) | ((with_reducible refine Below.trans ?_ (Below.mono (by with_reducible assumption) ?hsz)); (case hsz => (first | omega | (simp; done) | (simp; omega) | (simp at *; omega))))))))).mono ?_
        rintro e w1 ⟨rfl, hb1⟩
        rw [hok]
        have bx1 := bx0.keep hb1
        have hB1 : Below w.heap.size w w1 := by (repeat (first | (with_reducible assumption) | (with_reducible exact Below.refl _ _) | ((with_reducible refine Below.alloc ?_ ?hsz _); (case hsz => (first | omega | (simp; done) | (simp; omega) | (simp at *; omega)))) | ((with_reducible refine Below.setCell ?_ ?hsz _); (case hsz => (first | omega | (simp; done) | (simp; omega) | (simp at *; omega)))) | (with_reducible refine Below.drew ?_) | (with_reducible refine below_drewN ?_ _) | ((with_reducible refine Below.trans ?_ (Below.mono (by with_reducible assumption) ?hsz)); (case hsz => (first | omega | (simp; done) | (simp; omega) | (simp at *; omega))))))
        obtain ⟨bs, d0, d1, -, -⟩ := id bx1
        clear bx0 hb1
        go_wp2_with fail
        refine (within_any (xs.length : Int) 1 5 _).mono ?_
        rintro e w2 ⟨rfl, rfl⟩
        rw [hin]
        go_wp2_with fail
        refine (placesOk_any _ xs ps.length c A _ (hx0.keep (by (repeat (first | (with_reducible assumption) | (with_reducible exact Below.refl _ _) | ((with_reducible refine Below.alloc ?_ ?hsz _); (case hsz => (first | omega | (simp; done) | (simp; omega) | (simp at *; omega)))) | ((with_reducible refine Below.setCell ?_ ?hsz _); (case hsz => (first | omega | (simp; done) | (simp; omega) | (simp at *; omega)))) | (with_reducible refine Below.drew ?_) | (with_reducible refine below_drewN ?_ _) | ((with_reducible refine Below.trans ?_ (Below.mono (by with_reducible assumption) ?hsz)); (case hsz => (first | omega | (simp; done) | (simp; omega) | (simp at *; omega)))))))) hl7).mono ?_
        rintro e w3 ⟨rfl, hb3⟩
        have hall : (xs.all fun x => withinB x 0 ((ps.length : Int) - 1)) = true := Hpl.out
        rw [hall]
        have bx3 := bx1.keep hb3
        have hB3 : Below w.heap.size w w3 := by (repeat (first | (with_reducible assumption) | (with_reducible exact Below.refl _ _) | ((with_reducible refine Below.alloc ?_ ?hsz _); (case hsz => (first | omega | (simp; done) | (simp; omega) | (simp at *; omega)))) | ((with_reducible refine Below.setCell ?_ ?hsz _); (case hsz => (first | omega | (simp; done) | (simp; omega) | (simp at *; omega)))) | (with_reducible refine Below.drew ?_) | (with_reducible refine below_drewN ?_ _) | ((with_reducible refine Below.trans ?_ (Below.mono (by with_reducible assumption) ?hsz)); (case hsz => (first | omega | (simp; done) | (simp; omega) | (simp at *; omega))))))
        clear d0 d1 hb3 hall hpl hwb
        obtain ⟨bs3, d0, d1, -, -⟩ := id bx3
        go_wp2
        all_goals
          go_loopw [26] (fun t wr => ∃ k : Nat, k ≤ xs.length - 1 ∧ t = .int .i64 k ∧ (∀ j, j < k → frI ps (xs.getD (j + 1) 0) = toI ps (xs.getD j 0)) ∧ Box2 wr w.heap.size (.int .i64 n) (.slice A ps.length c) ∧ Below w.heap.size w wr) (fun t _ => xs.length - 1 - (intOf t).toNat)
          case atStart => exact ⟨0, by omega, rfl, fun j hj => absurd hj (by omega), bx3, hB3⟩
          case round =>
            clear bs bs3 d0 d1 bx1 bx3 hB1 hB3
            obtain ⟨k, hk, rfl, hlk, bx, hB⟩ := hrel
            have HL := Lib.hid hlk
            clear hlk
            obtain ⟨bs, d0, d1, -, -⟩ := id bx
            have hzb := hB.size
            by_cases hlt : k < xs.length - 1
            · try (exfalso; omega)
              all_goals
                have hk1 : k < xs.length := by omega
                have hk2 : k + 1 < xs.length := by omega
                have cx1 := HCC.out _ hB k hk1
                have cx2 := HCC.out _ hB (k + 1) hk2
                obtain ⟨q1, hq1, hql1⟩ := place_at Hpl.out hk1
                obtain ⟨q2, hq2, hql2⟩ := place_at Hpl.out hk2
                have e1 : toI ps (xs.getD k 0) = ps[q1].to := by rw [getD_at hk1, hq1, toI_at hql1]
                have e2 : frI ps (xs.getD (k + 1) 0) = ps[q2].fr := by rw [getD_at hk2, hq2, frI_at hql2]
                rw [hq1] at cx1
                rw [hq2] at cx2
                have cx2' : wr.cell? ⟨g0, o0 + 1 + k, none⟩ = some (.int .i64 (q2 : Int)) := by rw [show o0 + 1 + k = o0 + (k + 1) by omega]; exact cx2
                obtain ⟨gp, hgp, gp1, gp2, -, f1, -, -, -⟩ := hp0.cellAt hB q1 hql1
                obtain ⟨gp', hgp', -, -, f2, -, -, -, -⟩ := hp0.cellAt hB q2 hql2
                rw [hgp] at hgp'
                injection hgp' with hgp'
                injection hgp' with hgp'
                subst hgp'
                subst hgp
                have hgw := Nat.lt_of_lt_of_le og hzb
                have hgpw := Nat.lt_of_lt_of_le gp2 hzb
                by_cases hq : ps[q2].fr = ps[q1].to
                · have hqb : (ps[q2].fr != ps[q1].to) = false := by simpa using hq
                  have HQ := Lib.hid hq
                  have HE := Lib.hid (And.intro e1 e2)
                  clear hq hq1 hq2 e1 e2
                  go_wp2_with fail
                  go_quiet (fail)
                  go_wp2
                  go_roundw
                  case rel =>
                    refine ⟨k + 1, by omega, by go_num, fun j hj => ?_, bx.keep (by (repeat (first | (with_reducible assumption) | (with_reducible exact Below.refl _ _) | ((with_reducible refine Below.alloc ?_ ?hsz _); (case hsz => (first | omega | (simp; done) | (simp; omega) | (simp at *; omega)))) | ((with_reducible refine Below.setCell ?_ ?hsz _); (case hsz => (first | omega | (simp; done) | (simp; omega) | (simp at *; omega)))) | (with_reducible refine Below.drew ?_) | (with_reducible refine below_drewN ?_ _) | ((with_reducible refine Below.trans ?_ (Below.mono (by with_reducible assumption) ?hsz)); (case hsz => (first | omega | (simp; done) | (simp; omega) | (simp at *; omega))))))), by (repeat (first | (with_reducible assumption) | (with_reducible exact Below.refl _ _) | ((with_reducible refine Below.alloc ?_ ?hsz _); (case hsz => (first | omega | (simp; done) | (simp; omega) | (simp at *; omega)))) | ((with_reducible refine Below.setCell ?_ ?hsz _); (case hsz => (first | omega | (simp; done) | (simp; omega) | (simp at *; omega)))) | (with_reducible refine Below.drew ?_) | (with_reducible refine below_drewN ?_ _) | ((with_reducible refine Below.trans ?_ (Below.mono (by with_reducible assumption) ?hsz)); (case hsz => (first | omega | (simp; done) | (simp; omega) | (simp at *; omega))))))⟩
                    rcases Nat.lt_succ_iff_lt_or_eq.1 hj with h | h
                    · exact HL.out j h
                    · subst h; rw [HE.out.1, HE.out.2]; exact HQ.out
                  case measure => simp [intOf]; omega
                · have hqb : (ps[q2].fr != ps[q1].to) = true := by simpa using hq
                  have Hno := Lib.hid (show linkB ps xs = false by
                    rw [Bool.eq_false_iff]
                    intro h
                    have := link_iff.1 h k hk2
                    rw [e1, e2] at this
                    exact hq this)
                  clear hq hq1 hq2 e1 e2
                  go_wp2_with fail
                  go_quiet (fail)
                  go_wp2
                  go_ret
                  exact ⟨ret_bool (by rw [Hw.out, Hno.out]), by (repeat (first | (with_reducible assumption) | (with_reducible exact Below.refl _ _) | ((with_reducible refine Below.alloc ?_ ?hsz _); (case hsz => (first | omega | (simp; done) | (simp; omega) | (simp at *; omega)))) | ((with_reducible refine Below.setCell ?_ ?hsz _); (case hsz => (first | omega | (simp; done) | (simp; omega) | (simp at *; omega)))) | (with_reducible refine Below.drew ?_) | (with_reducible refine below_drewN ?_ _) | ((with_reducible refine Below.trans ?_ (Below.mono (by with_reducible assumption) ?hsz)); (case hsz => (first | omega | (simp; done) | (simp; omega) | (simp at *; omega))))))⟩
            · have Hyes := Lib.hid (show linkB ps xs = true from link_iff.2 fun j hj => HL.out j (by omega))
              go_wp2
              go_ret
              exact ⟨ret_bool (by rw [Hw.out, Hyes.out]), by (repeat (first | (with_reducible assumption) | (with_reducible exact Below.refl _ _) | ((with_reducible refine Below.alloc ?_ ?hsz _); (case hsz => (first | omega | (simp; done) | (simp; omega) | (simp at *; omega)))) | ((with_reducible refine Below.setCell ?_ ?hsz _); (case hsz => (first | omega | (simp; done) | (simp; omega) | (simp at *; omega)))) | (with_reducible refine Below.drew ?_) | (with_reducible refine below_drewN ?_ _) | ((with_reducible refine Below.trans ?_ (Below.mono (by with_reducible assumption) ?hsz)); (case hsz => (first | omega | (simp; done) | (simp; omega) | (simp at *; omega))))))⟩
      · have hpl' : placesB ps xs = false := by simpa using hpl
        have Hno := Lib.hid (walk_no3 (n := n) hpl')
        have Hpl := Lib.hid hpl'
        clear hpl hpl'
        have bx0 := Box2.new w (.int .i64 n) (.slice A ps.length c) 28
        go_enter Try.func98, Try.ntmps98
        go_wp2_with fail
        refine (netOk_any n _ ps b _ (hp0.keep (by (repeat (first | (with_reducible assumption) | (with_reducible exact Below.refl _ _) | ((with_reducible refine Below.alloc ?_ ?hsz _); (case hsz => (first | omega | (simp; done) | (simp; omega) | (simp at *; omega)))) | ((with_reducible refine Below.setCell ?_ ?hsz _); (case hsz => (first | omega | (simp; done) | (simp; omega) | (simp at *; omega)))) | (with_reducible refine Below.drew ?_) | (with_reducible refine below_drewN ?_ _) | ((with_reducible refine Below.trans ?_ (Below.mono (by with_reducible assumption) ?hsz)); (case hsz => (first | omega | (simp; done) | (simp; omega) | (simp at *; omega))))))))).mono ?_
        rintro e w1 ⟨rfl, hb1⟩
        rw [hok]
        have bx1 := bx0.keep hb1
        have hB1 : Below w.heap.size w w1 := by (repeat (first | (with_reducible assumption) | (with_reducible exact Below.refl _ _) | ((with_reducible refine Below.alloc ?_ ?hsz _); (case hsz => (first | omega | (simp; done) | (simp; omega) | (simp at *; omega)))) | ((with_reducible refine Below.setCell ?_ ?hsz _); (case hsz => (first | omega | (simp; done) | (simp; omega) | (simp at *; omega)))) | (with_reducible refine Below.drew ?_) | (with_reducible refine below_drewN ?_ _) | ((with_reducible refine Below.trans ?_ (Below.mono (by with_reducible assumption) ?hsz)); (case hsz => (first | omega | (simp; done) | (simp; omega) | (simp at *; omega))))))
        obtain ⟨bs, d0, d1, -, -⟩ := id bx1
        clear bx0 hb1
        go_wp2_with fail
        refine (within_any (xs.length : Int) 1 5 _).mono ?_
        rintro e w2 ⟨rfl, rfl⟩
        rw [hin]
        go_wp2_with fail
        refine (placesOk_any _ xs ps.length c A _ (hx0.keep (by (repeat (first | (with_reducible assumption) | (with_reducible exact Below.refl _ _) | ((with_reducible refine Below.alloc ?_ ?hsz _); (case hsz => (first | omega | (simp; done) | (simp; omega) | (simp at *; omega)))) | ((with_reducible refine Below.setCell ?_ ?hsz _); (case hsz => (first | omega | (simp; done) | (simp; omega) | (simp at *; omega)))) | (with_reducible refine Below.drew ?_) | (with_reducible refine below_drewN ?_ _) | ((with_reducible refine Below.trans ?_ (Below.mono (by with_reducible assumption) ?hsz)); (case hsz => (first | omega | (simp; done) | (simp; omega) | (simp at *; omega)))))))) hl7).mono ?_
        rintro e w3 ⟨rfl, hb3⟩
        have hall : (xs.all fun x => withinB x 0 ((ps.length : Int) - 1)) = false := Hpl.out
        rw [hall]
        go_wp2
        go_ret
        exact ⟨ret_bool Hno.out.symm, by (repeat (first | (with_reducible assumption) | (with_reducible exact Below.refl _ _) | ((with_reducible refine Below.alloc ?_ ?hsz _); (case hsz => (first | omega | (simp; done) | (simp; omega) | (simp at *; omega)))) | ((with_reducible refine Below.setCell ?_ ?hsz _); (case hsz => (first | omega | (simp; done) | (simp; omega) | (simp at *; omega)))) | (with_reducible refine Below.drew ?_) | (with_reducible refine below_drewN ?_ _) | ((with_reducible refine Below.trans ?_ (Below.mono (by with_reducible assumption) ?hsz)); (case hsz => (first | omega | (simp; done) | (simp; omega) | (simp at *; omega))))))⟩
    · have hin' : withinB xs.length 1 5 = false := by simpa using hin
      have Hno := Lib.hid (walk_no2 (n := n) (ps := ps) hin')
      clear hin
      go_enter Try.func98, Try.ntmps98
      go_wp2_with fail
      refine (netOk_any n _ ps b _ (hp0.keep (by (repeat (first | (with_reducible assumption) | (with_reducible exact Below.refl _ _) | ((with_reducible refine Below.alloc ?_ ?hsz _); (case hsz => (first | omega | (simp; done) | (simp; omega) | (simp at *; omega)))) | ((with_reducible refine Below.setCell ?_ ?hsz _); (case hsz => (first | omega | (simp; done) | (simp; omega) | (simp at *; omega)))) | (with_reducible refine Below.drew ?_) | (with_reducible refine below_drewN ?_ _) | ((with_reducible refine Below.trans ?_ (Below.mono (by with_reducible assumption) ?hsz)); (case hsz => (first | omega | (simp; done) | (simp; omega) | (simp at *; omega))))))))).mono ?_
      rintro e w1 ⟨rfl, hb1⟩
      rw [hok]
      go_wp2_with fail
      refine (within_any (xs.length : Int) 1 5 _).mono ?_
      rintro e w2 ⟨rfl, rfl⟩
      rw [hin']
      go_wp2
      go_ret
      exact ⟨ret_bool Hno.out.symm, by (repeat (first | (with_reducible assumption) | (with_reducible exact Below.refl _ _) | ((with_reducible refine Below.alloc ?_ ?hsz _); (case hsz => (first | omega | (simp; done) | (simp; omega) | (simp at *; omega)))) | ((with_reducible refine Below.setCell ?_ ?hsz _); (case hsz => (first | omega | (simp; done) | (simp; omega) | (simp at *; omega)))) | (with_reducible refine Below.drew ?_) | (with_reducible refine below_drewN ?_ _) | ((with_reducible refine Below.trans ?_ (Below.mono (by with_reducible assumption) ?hsz)); (case hsz => (first | omega | (simp; done) | (simp; omega) | (simp at *; omega))))))⟩
  · have hok' : netOkB n ps = false := by simpa using hok
    have Hno := Lib.hid (walk_no1 (xs := xs) hok')
    clear hok
    go_enter Try.func98, Try.ntmps98
    go_wp2_with fail
    refine (netOk_any n _ ps b _ (hp0.keep (by (repeat (first | (with_reducible assumption) | (with_reducible exact Below.refl _ _) | ((with_reducible refine Below.alloc ?_ ?hsz _); (case hsz => (first | omega | (simp; done) | (simp; omega) | (simp at *; omega)))) | ((with_reducible refine Below.setCell ?_ ?hsz _); (case hsz => (first | omega | (simp; done) | (simp; omega) | (simp at *; omega)))) | (with_reducible refine Below.drew ?_) | (with_reducible refine below_drewN ?_ _) | ((with_reducible refine Below.trans ?_ (Below.mono (by with_reducible assumption) ?hsz)); (case hsz => (first | omega | (simp; done) | (simp; omega) | (simp at *; omega))))))))).mono ?_
    rintro e w1 ⟨rfl, hb1⟩
    rw [hok']
    go_wp2
    go_ret
    exact ⟨ret_bool Hno.out.symm, by (repeat (first | (with_reducible assumption) | (with_reducible exact Below.refl _ _) | ((with_reducible refine Below.alloc ?_ ?hsz _); (case hsz => (first | omega | (simp; done) | (simp; omega) | (simp at *; omega)))) | ((with_reducible refine Below.setCell ?_ ?hsz _); (case hsz => (first | omega | (simp; done) | (simp; omega) | (simp at *; omega)))) | (with_reducible refine Below.drew ?_) | (with_reducible refine below_drewN ?_ _) | ((with_reducible refine Below.trans ?_ (Below.mono (by with_reducible assumption) ?hsz)); (case hsz => (first | omega | (simp; done) | (simp; omega) | (simp at *; omega))))))⟩

end Go.Proofs.Ytdbfpdanoclgmaa
