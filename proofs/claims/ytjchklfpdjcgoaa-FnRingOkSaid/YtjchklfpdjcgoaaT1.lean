/- Contracts of the functions of chapter 4 in the model: RingOk and ThreadOk. -/
import Derived.Test.YtjchklfpdjcgoaaN1
import Derived.Test.YtjchklfpdjcgoaaS6
import Derived.Test.YtjchklfpdjcgoaaSJ
import Derived.Test.YtjchklfpdjcgoaaRD
import Derived.Test.YtjchklfpdjcgoaaD0
namespace Go.Proofs.Ytjchklfpdjcgoaa
open Go.RowKit

theorem tmod_len {k m : Nat} : ((k : Int) + 1).tmod (m : Int) = (((k + 1) % m : Nat) : Int) := by
  rw [show (k : Int) + 1 = ((k + 1 : Nat) : Int) by omega]
  rw [Int.tmod_eq_emod_of_nonneg (Int.natCast_nonneg _)]
  rfl

set_option maxHeartbeats 4000000 in
set_option maxRecDepth 20000 in
theorem specRingOk_rd (n : Int) (v u : Value) (ps : List Pp) (xs : List Int) (b : Nat) (w : World) (hp : Pipes w b v ps) (hx : Reads w u xs) :
    Calls Try.prog 9 #[.agg #[.int .i64 n, v], u] w fun e w' => e = .returned (.bool (ringB n ps xs)) ∧ Below w.heap.size w w' := by
  have hp0 := hp
  have hx0 := hx
  obtain ⟨A, c, rfl, hcp1, hcp2, hsp, -⟩ := hp.form
  obtain ⟨A0, c0, rfl, hc1, hc2, hsm, -⟩ := hx.form
  unfold maxLen at hc2 hcp2
  have bx0 := Box2.new w (.int .i64 n) (.slice A ps.length c) 25
  go_enter Try.func9, Try.ntmps9
  go_wp2_with fail
  refine (specNetOk_any n _ ps b _ (hp0.keep (by (repeat (first | (with_reducible assumption) | (with_reducible exact Below.refl _ _) | ((with_reducible refine Below.alloc ?_ ?hsz _); (case hsz => (first | omega | (simp; done) | (simp; omega) | (simp at *; omega)))) | ((with_reducible refine Below.setCell ?_ ?hsz _); (case hsz => (first | omega | (simp; done) | (simp; omega) | (simp at *; omega)))) | (with_reducible refine Below.drew ?_) | (with_reducible refine below_drewN ?_ _) | ((with_reducible refine Below.trans ?_ (Below.mono (by with_reducible assumption) ?hsz)); (case hsz => (first | omega | (simp; done) | (simp; omega) | (simp at *; omega))))))))).mono ?_
  rintro e w1 ⟨rfl, hb1⟩
  have bx1 := bx0.keep hb1
  have hB1 : Below w.heap.size w w1 := by (repeat (first | (with_reducible assumption) | (with_reducible exact Below.refl _ _) | ((with_reducible refine Below.alloc ?_ ?hsz _); (case hsz => (first | omega | (simp; done) | (simp; omega) | (simp at *; omega)))) | ((with_reducible refine Below.setCell ?_ ?hsz _); (case hsz => (first | omega | (simp; done) | (simp; omega) | (simp at *; omega)))) | (with_reducible refine Below.drew ?_) | (with_reducible refine below_drewN ?_ _) | ((with_reducible refine Below.trans ?_ (Below.mono (by with_reducible assumption) ?hsz)); (case hsz => (first | omega | (simp; done) | (simp; omega) | (simp at *; omega))))))
  obtain ⟨bs, d0, d1, -, -⟩ := id bx1
  clear bx0 hb1
  by_cases hok : netOkB n ps = true
  · rw [hok]
    obtain ⟨n2, n5, hl7, hpo⟩ := netOk_parts hok
    go_wp2_with fail
    refine (l1In_any (xs.length : Int) 1 5 _).mono ?_
    rintro e w2 ⟨rfl, rfl⟩
    by_cases hin : withinB xs.length 1 5 = true
    · rw [hin]
      have hin' := hin
      simp only [withinB, Bool.and_eq_true, decide_eq_true_eq] at hin'
      have h1 : 1 ≤ xs.length := by omega
      have h5 : xs.length ≤ 5 := by omega
      have HO := Lib.hid (And.intro hok hpo)
      clear hok hin hin' hpo
      go_wp2_with fail
      go_loopw [5, 6] (fun s t wr => ∃ (k : Nat) (sd : Int), k ≤ xs.length ∧ t = .int .i64 k ∧ s = .int .i64 sd ∧ (∀ x ∈ xs.take k, withinB x 0 ((ps.length : Int) - 1) = true) ∧ ((xs.take k).map (frI ps)).Nodup ∧ seenOk sd ((xs.take k).map (frI ps)) ∧ Box2 wr w.heap.size (.int .i64 n) (.slice A ps.length c) ∧ Below w.heap.size w wr) (fun _ t _ => xs.length - (intOf t).toNat)
      case atStart => exact ⟨0, 0, by omega, rfl, rfl, by simp, by simp, seen_nil, bx1, hB1⟩
      case round =>
        clear bs d0 d1 bx1 hB1
        obtain ⟨k, sd, hk, rfl, rfl, hall, hnd, hse, bx, hB⟩ := hrel
        obtain ⟨bs, d0, d1, -, -⟩ := id bx
        have HR := Lib.hid (And.intro hall (And.intro hnd hse))
        obtain ⟨g0, g1, -⟩ := hse
        clear hall hnd
        have hzb := hB.size
        by_cases hlt : k < xs.length
        · obtain ⟨gx, ox, hgx, gx2, cx⟩ := hx0.cellAt hB k hlt
          subst hgx
          have hgxw := Nat.lt_of_lt_of_le gx2 hzb
          by_cases hpl : withinB xs[k] 0 ((ps.length : Int) - 1) = true
          · obtain ⟨q, hq, hql⟩ : ∃ q : Nat, xs[k] = (q : Int) ∧ q < ps.length := by
              have := hpl
              simp only [withinB, Bool.and_eq_true, decide_eq_true_eq] at this
              exact ⟨xs[k].toNat, by omega, by omega⟩
            rw [hq] at cx
            obtain ⟨gp, hgp, gp1, gp2, cf, -, -, -, -⟩ := hp0.cellAt hB q hql
            subst hgp
            have hgpw := Nat.lt_of_lt_of_le gp2 hzb
            have hfr : frI ps xs[k] = ps[q].fr := by rw [hq, frI_at hql]
            obtain ⟨f0, f1, -⟩ := pipeOk_parts (HO.out.2 _ (List.getElem_mem hql))
            obtain ⟨fa, hfa⟩ : ∃ fa : Nat, ps[q].fr = (fa : Int) := ⟨ps[q].fr.toNat, by omega⟩
            rw [hfa] at cf f0 f1 hfr
            have hsb := shr_bitB g0 fa
            have HT := Lib.hid (swrap_pow (k := fa) (by omega))
            have Htk := Lib.hid (show (xs.take (k + 1)).map (frI ps) = (xs.take k).map (frI ps) ++ [(fa : Int)] by
              rw [List.take_succ_eq_append_getElem hlt, List.map_append, List.map_singleton, hfr])
            have Hbit := Lib.hid (HR.out.2.2.2.2 fa (by omega))
            have Hall := Lib.hid (all_take (f := fun x : Int => withinB x 0 ((ps.length : Int) - 1)) hlt HR.out.1 hpl)
            rw [hq] at hpl
            clear hfr hfa hq
            go_wp2_with fail
            go_quiet ((go_at_call 31; exact Calls.quiet_of_same ((l1In_any _ _ _ _).mono fun _ _ h => ⟨h.1, h.2.symm⟩)))
            rw [hpl]
            go_wp2_with fail
            go_quiet (fail)
            by_cases hbt : bitB sd (fa : Int) = true
            · have Hno := Lib.hid (show ringB n ps xs = false by
                by_cases hps : placesB ps xs = true
                · rw [ring_alt HO.out.1 h1 h5 hps]
                  have : decide (xs.map (frI ps)).Nodup = false := by
                    rw [decide_eq_false_iff_not]
                    intro hn
                    have h2 : ((xs.take (k + 1)).map (frI ps)).Nodup := by
                      rw [List.map_take]
                      exact hn.sublist (List.take_sublist _ _)
                    rw [Htk.out, nodup_snoc] at h2
                    have h3 := Hbit.out
                    rw [hbt] at h3
                    exact h2.2 (of_decide_eq_true h3.symm)
                  rw [this]; rfl
                · exact ring_no3 (by simpa using hps))
              rw [hbt] at hsb
              clear hbt
              go_wp2
              go_ret
              exact ⟨ret_bool Hno.out.symm, by (repeat (first | (with_reducible assumption) | (with_reducible exact Below.refl _ _) | ((with_reducible refine Below.alloc ?_ ?hsz _); (case hsz => (first | omega | (simp; done) | (simp; omega) | (simp at *; omega)))) | ((with_reducible refine Below.setCell ?_ ?hsz _); (case hsz => (first | omega | (simp; done) | (simp; omega) | (simp at *; omega)))) | (with_reducible refine Below.drew ?_) | (with_reducible refine below_drewN ?_ _) | ((with_reducible refine Below.trans ?_ (Below.mono (by with_reducible assumption) ?hsz)); (case hsz => (first | omega | (simp; done) | (simp; omega) | (simp at *; omega))))))⟩
            · have hbt' : bitB sd (fa : Int) = false := by simpa using hbt
              have Hnd := Lib.hid (show ((xs.take (k + 1)).map (frI ps)).Nodup by
                rw [Htk.out, nodup_snoc]
                refine ⟨HR.out.2.1, fun hm => ?_⟩
                have h3 := Hbit.out
                rw [hbt'] at h3
                rw [decide_eq_true hm] at h3
                cases h3)
              have Hse := Lib.hid (show seenOk (bits .or .i64 sd (2 ^ fa)) ((xs.take (k + 1)).map (frI ps)) by
                rw [Htk.out]; exact seen_snoc HR.out.2.2 (by omega))
              rw [hbt'] at hsb
              clear hbt hbt'
              go_wp2
              go_roundw
              case rel => exact ⟨k + 1, _, by omega, by go_num, rfl, Hall.out, Hnd.out, by rw [HT.out.1]; exact Hse.out, bx.keep (by (repeat (first | (with_reducible assumption) | (with_reducible exact Below.refl _ _) | ((with_reducible refine Below.alloc ?_ ?hsz _); (case hsz => (first | omega | (simp; done) | (simp; omega) | (simp at *; omega)))) | ((with_reducible refine Below.setCell ?_ ?hsz _); (case hsz => (first | omega | (simp; done) | (simp; omega) | (simp at *; omega)))) | (with_reducible refine Below.drew ?_) | (with_reducible refine below_drewN ?_ _) | ((with_reducible refine Below.trans ?_ (Below.mono (by with_reducible assumption) ?hsz)); (case hsz => (first | omega | (simp; done) | (simp; omega) | (simp at *; omega))))))), by (repeat (first | (with_reducible assumption) | (with_reducible exact Below.refl _ _) | ((with_reducible refine Below.alloc ?_ ?hsz _); (case hsz => (first | omega | (simp; done) | (simp; omega) | (simp at *; omega)))) | ((with_reducible refine Below.setCell ?_ ?hsz _); (case hsz => (first | omega | (simp; done) | (simp; omega) | (simp at *; omega)))) | (with_reducible refine Below.drew ?_) | (with_reducible refine below_drewN ?_ _) | ((with_reducible refine Below.trans ?_ (Below.mono (by with_reducible assumption) ?hsz)); (case hsz => (first | omega | (simp; done) | (simp; omega) | (simp at *; omega))))))⟩
              case measure => simp [intOf]; omega
          · have hpl' : withinB xs[k] 0 ((ps.length : Int) - 1) = false := by simpa using hpl
            have Hno := Lib.hid (ring_no3 (n := n) (place_no hlt hpl'))
            generalize xs[k] = y at *
            clear hpl
            go_wp2_with fail
            go_quiet ((go_at_call 31; exact Calls.quiet_of_same ((l1In_any _ _ _ _).mono fun _ _ h => ⟨h.1, h.2.symm⟩)))
            rw [hpl']
            go_wp2
            go_ret
            exact ⟨ret_bool Hno.out.symm, by (repeat (first | (with_reducible assumption) | (with_reducible exact Below.refl _ _) | ((with_reducible refine Below.alloc ?_ ?hsz _); (case hsz => (first | omega | (simp; done) | (simp; omega) | (simp at *; omega)))) | ((with_reducible refine Below.setCell ?_ ?hsz _); (case hsz => (first | omega | (simp; done) | (simp; omega) | (simp at *; omega)))) | (with_reducible refine Below.drew ?_) | (with_reducible refine below_drewN ?_ _) | ((with_reducible refine Below.trans ?_ (Below.mono (by with_reducible assumption) ?hsz)); (case hsz => (first | omega | (simp; done) | (simp; omega) | (simp at *; omega))))))⟩
        · have hkl : k = xs.length := by omega
          subst hkl
          have hpl : placesB ps xs = true := by
            have := HR.out.1
            rw [List.take_length] at this
            exact List.all_eq_true.2 this
          have hnd : (xs.map (frI ps)).Nodup := by
            have := HR.out.2.1
            rwa [List.take_length] at this
          have Hr := Lib.hid (show ringB n ps xs = closeB ps xs by rw [ring_alt HO.out.1 h1 h5 hpl, decide_eq_true hnd, Bool.true_and])
          have HPL := Lib.hid hpl
          clear hpl hnd HR g0 g1
          go_wp2_with fail
          go_loopw [8] (fun t wr => ∃ k : Nat, k ≤ xs.length ∧ t = .int .i64 k ∧ (∀ j, j < k → toI ps (xs.getD j 0) = frI ps (xs.getD ((j + 1) % xs.length) 0)) ∧ Box2 wr w.heap.size (.int .i64 n) (.slice A ps.length c) ∧ Below w.heap.size w wr) (fun t _ => xs.length - (intOf t).toNat)
          case atStart => exact ⟨0, by omega, rfl, fun j hj => absurd hj (by omega), bx, hB⟩
          case round =>
            clear bs d0 d1 bx hB hzb hlt hk
            obtain ⟨k, hk, rfl, hall, bx, hB⟩ := hrel
            obtain ⟨bs, d0, d1, -, -⟩ := id bx
            have HR := Lib.hid hall
            clear hall
            have hzb := hB.size
            by_cases hlt : k < xs.length
            · obtain ⟨r, hr⟩ : ∃ r, (k + 1) % xs.length = r := ⟨_, rfl⟩
              have hrl : r < xs.length := by rw [← hr]; exact Nat.mod_lt _ (by omega)
              have hmod := tmod_len (k := k) (m := xs.length)
              rw [hr] at hmod
              obtain ⟨gx, ox, hgx, gx2, cx⟩ := hx0.cellAt hB k hlt
              obtain ⟨gx', ox', hgx', -, cx'⟩ := hx0.cellAt hB r hrl
              rw [hgx] at hgx'
              injection hgx' with hgx'
              injection hgx' with hgx' hox'
              subst hgx'
              subst hox'
              subst hgx
              have hgxw := Nat.lt_of_lt_of_le gx2 hzb
              obtain ⟨q1, hq1, hql1⟩ := place_at HPL.out hlt
              obtain ⟨q2, hq2, hql2⟩ := place_at HPL.out hrl
              have e1 : toI ps (xs.getD k 0) = ps[q1].to := by rw [getD_at hlt, hq1, toI_at hql1]
              have e2 : frI ps (xs.getD r 0) = ps[q2].fr := by rw [getD_at hrl, hq2, frI_at hql2]
              rw [hq1] at cx
              rw [hq2] at cx'
              obtain ⟨gp, hgp, gp1, gp2, -, cf1, -, -, -⟩ := hp0.cellAt hB q1 hql1
              obtain ⟨gp', hgp', -, -, cf2, -, -, -, -⟩ := hp0.cellAt hB q2 hql2
              rw [hgp] at hgp'
              injection hgp' with hgp'
              injection hgp' with hgp'
              subst hgp'
              subst hgp
              have hgpw := Nat.lt_of_lt_of_le gp2 hzb
              have HE := Lib.hid (And.intro e1 (And.intro e2 hr))
              by_cases hq : ps[q1].to = ps[q2].fr
              · have hqb : (ps[q1].to != ps[q2].fr) = false := by simpa using hq
                have HQ := Lib.hid hq
                clear hq hq1 hq2 e1 e2 hr
                go_wp2_with fail
                go_quiet (fail)
                go_wp2
                go_roundw
                case rel =>
                  refine ⟨k + 1, by omega, by go_num, fun j hj => ?_, bx.keep (by (repeat (first | (with_reducible assumption) | (with_reducible exact Below.refl _ _) | ((with_reducible refine Below.alloc ?_ ?hsz _); (case hsz => (first | omega | (simp; done) | (simp; omega) | (simp at *; omega)))) | ((with_reducible refine Below.setCell ?_ ?hsz _); (case hsz => (first | omega | (simp; done) | (simp; omega) | (simp at *; omega)))) | (with_reducible refine Below.drew ?_) | (with_reducible refine below_drewN ?_ _) | ((with_reducible refine Below.trans ?_ (Below.mono (by with_reducible assumption) ?hsz)); (case hsz => (first | omega | (simp; done) | (simp; omega) | (simp at *; omega))))))), by (repeat (first | (with_reducible assumption) | (with_reducible exact Below.refl _ _) | ((with_reducible refine Below.alloc ?_ ?hsz _); (case hsz => (first | omega | (simp; done) | (simp; omega) | (simp at *; omega)))) | ((with_reducible refine Below.setCell ?_ ?hsz _); (case hsz => (first | omega | (simp; done) | (simp; omega) | (simp at *; omega)))) | (with_reducible refine Below.drew ?_) | (with_reducible refine below_drewN ?_ _) | ((with_reducible refine Below.trans ?_ (Below.mono (by with_reducible assumption) ?hsz)); (case hsz => (first | omega | (simp; done) | (simp; omega) | (simp at *; omega))))))⟩
                  rcases Nat.lt_succ_iff_lt_or_eq.1 hj with h | h
                  · exact HR.out j h
                  · subst h; rw [HE.out.1, HE.out.2.2, HE.out.2.1]; exact HQ.out
                case measure => simp [intOf]; omega
              · have hqb : (ps[q1].to != ps[q2].fr) = true := by simpa using hq
                have Hno := Lib.hid (show closeB ps xs = false by
                  rw [Bool.eq_false_iff]
                  intro h
                  have := close_iff.1 h k hlt
                  rw [e1, hr, e2] at this
                  exact hq this)
                clear hq hq1 hq2 e1 e2 hr
                go_wp2_with fail
                go_quiet (fail)
                go_wp2
                go_ret
                exact ⟨ret_bool (by rw [Hr.out, Hno.out]), by (repeat (first | (with_reducible assumption) | (with_reducible exact Below.refl _ _) | ((with_reducible refine Below.alloc ?_ ?hsz _); (case hsz => (first | omega | (simp; done) | (simp; omega) | (simp at *; omega)))) | ((with_reducible refine Below.setCell ?_ ?hsz _); (case hsz => (first | omega | (simp; done) | (simp; omega) | (simp at *; omega)))) | (with_reducible refine Below.drew ?_) | (with_reducible refine below_drewN ?_ _) | ((with_reducible refine Below.trans ?_ (Below.mono (by with_reducible assumption) ?hsz)); (case hsz => (first | omega | (simp; done) | (simp; omega) | (simp at *; omega))))))⟩
            · have Hyes := Lib.hid (show closeB ps xs = true from close_iff.2 fun j hj => HR.out j (by omega))
              go_wp2
              go_ret
              exact ⟨ret_bool (by rw [Hr.out, Hyes.out]), by (repeat (first | (with_reducible assumption) | (with_reducible exact Below.refl _ _) | ((with_reducible refine Below.alloc ?_ ?hsz _); (case hsz => (first | omega | (simp; done) | (simp; omega) | (simp at *; omega)))) | ((with_reducible refine Below.setCell ?_ ?hsz _); (case hsz => (first | omega | (simp; done) | (simp; omega) | (simp at *; omega)))) | (with_reducible refine Below.drew ?_) | (with_reducible refine below_drewN ?_ _) | ((with_reducible refine Below.trans ?_ (Below.mono (by with_reducible assumption) ?hsz)); (case hsz => (first | omega | (simp; done) | (simp; omega) | (simp at *; omega))))))⟩
    · have hin' : withinB xs.length 1 5 = false := by simpa using hin
      rw [hin']
      have Hno := Lib.hid (ring_no2 (n := n) (ps := ps) hin')
      go_wp2
      go_ret
      exact ⟨ret_bool Hno.out.symm, by (repeat (first | (with_reducible assumption) | (with_reducible exact Below.refl _ _) | ((with_reducible refine Below.alloc ?_ ?hsz _); (case hsz => (first | omega | (simp; done) | (simp; omega) | (simp at *; omega)))) | ((with_reducible refine Below.setCell ?_ ?hsz _); (case hsz => (first | omega | (simp; done) | (simp; omega) | (simp at *; omega)))) | (with_reducible refine Below.drew ?_) | (with_reducible refine below_drewN ?_ _) | ((with_reducible refine Below.trans ?_ (Below.mono (by with_reducible assumption) ?hsz)); (case hsz => (first | omega | (simp; done) | (simp; omega) | (simp at *; omega))))))⟩
  · have hok' : netOkB n ps = false := by simpa using hok
    rw [hok']
    have Hno := Lib.hid (ring_no1 (xs := xs) hok')
    go_wp2
    go_ret
    exact ⟨ret_bool Hno.out.symm, by (repeat (first | (with_reducible assumption) | (with_reducible exact Below.refl _ _) | ((with_reducible refine Below.alloc ?_ ?hsz _); (case hsz => (first | omega | (simp; done) | (simp; omega) | (simp at *; omega)))) | ((with_reducible refine Below.setCell ?_ ?hsz _); (case hsz => (first | omega | (simp; done) | (simp; omega) | (simp at *; omega)))) | (with_reducible refine Below.drew ?_) | (with_reducible refine below_drewN ?_ _) | ((with_reducible refine Below.trans ?_ (Below.mono (by with_reducible assumption) ?hsz)); (case hsz => (first | omega | (simp; done) | (simp; omega) | (simp at *; omega))))))⟩

theorem specRingOk_any (n : Int) (v u : Value) (ps : List Pp) (xs : List Int) (b b' : Nat) (w : World) (hp : Pipes w b v ps) (hx : Ints w b' u xs) :
    Calls Try.prog 9 #[.agg #[.int .i64 n, v], u] w fun e w' => e = .returned (.bool (ringB n ps xs)) ∧ Below w.heap.size w w' :=
  specRingOk_rd n v u ps xs b w hp hx.reads

end Go.Proofs.Ytjchklfpdjcgoaa
