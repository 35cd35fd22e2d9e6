/- Plain facts. -/
import Derived.Test.YtlaeckjfjleplaaN1
import Derived.Test.YtlaeckjfjleplaaS6
import Derived.Test.YtlaeckjfjleplaaSJ
import Derived.Test.YtlaeckjfjleplaaRD
import Derived.Test.YtlaeckjfjleplaaD0
import Derived.Test.YtlaeckjfjleplaaN2
/- Contracts of the functions of chapter 4 in the model: RingOk and ThreadOk. -/
namespace Go.Proofs.Ytlaeckjfjleplaa
open Go.RowKit

theorem tmod_len {k m : Nat} : ((k : Int) + 1).tmod (m : Int) = (((k + 1) % m : Nat) : Int) := by
  rw [show (k : Int) + 1 = ((k + 1 : Nat) : Int) by omega]
  rw [Int.tmod_eq_emod_of_nonneg (Int.natCast_nonneg _)]
  rfl

set_option maxHeartbeats 4000000 in
set_option maxRecDepth 20000 in
theorem specRingOk_rd (n : Int) (v u : Value) (ps : List Pp) (xs : List Int) (b : Nat) (w : World) (hp : Pipes w b v ps) (hx : Reads w u xs) :
    Calls Try.prog 14 #[.agg #[.int .i64 n, v], u] w fun e w' => e = .returned (.bool (ringB n ps xs)) ∧ Below w.heap.size w w' := by
  have hp0 := hp
  have hx0 := hx
  obtain ⟨A, c, rfl, hcp1, hcp2, hsp, -⟩ := hp.form
  obtain ⟨A0, c0, rfl, hc1, hc2, hsm, -⟩ := hx.form
  unfold maxLen at hc2 hcp2
  have bx0 := Box2.new w (.int .i64 n) (.slice A ps.length c) 25
  go_enter Try.func14, Try.ntmps14
  go_wp2_with fail
  refine (specNetOk_any n _ ps b _ (hp0.keep (by (repeat (first | (with_reducible assumption) | (with_reducible exact Below.refl _ _) | ((with_reducible refine Below.alloc ?_ ?hsz _); (case hsz => (first | omega | (simp; done) | (simp; omega) | (simp at *; omega)))) | ((with_reducible refine Below.setCell ?_ ?hsz _); (case hsz => (first | omega | (simp; done) | (simp; omega) | (simp at *; omega)))) | (with_reducible refine Below.drew ?_) | (with_reducible refine below_drewN ?_ _) | ((with_reducible refine Below.trans ?_ (Below.mono (by with_reducible assumption) ?hsz)); (case hsz => (first | omega | (simp; done) | (simp; omega) | (simp at *; omega))))))))).mono ?_
  rintro e w1 ⟨rfl, hb1⟩
  have bx1 := bx0.keep hb1
  have hB1 : Below w.heap.size w w1 := by (repeat (first | (with_reducible assumption) | (with_reducible exact Below.refl _ _) | ((with_reducible refine Below.alloc ?_ ?hsz _); (case hsz => (first | omega | (simp; done) | (simp; omega) | (simp at *; omega)))) | ((with_reducible refine Below.setCell ?_ ?hsz _); (case hsz => (first | omega | (simp; done) | (simp; omega) | (simp at *; omega)))) | (with_reducible refine Below.drew ?_) | (with_reducible refine below_drewN ?_ _) | ((with_reducible refine Below.trans ?_ (Below.mono (by with_reducible assumption) ?hsz)); (case hsz => (first | omega | (simp; done) | (simp; omega) | (simp at *; omega))))))
  obtain ⟨bs, d0, d1, -, -⟩ := id bx1
  clear bx0 hb1
  by_cases hok : netOkB n ps = true
  · rw [hok]
    obtain ⟨n2, n5, hl7, hpo⟩ := netOk_parts hok
    go_wp2_with fail
    refine (l1In_any (xs.length : Int) 1 5 _).mono ?_
    rintro e w2 ⟨rfl, rfl⟩
    by_cases hin : withinB xs.length 1 5 = true
    · rw [hin]
      have hin' := hin
      simp only [withinB, Bool.and_eq_true, decide_eq_true_eq] at hin'
      have h1 : 1 ≤ xs.length := by omega
      have h5 : xs.length ≤ 5 := by omega
      have HO := Lib.hid (And.intro hok hpo)
      clear hok hin hin' hpo
      go_wp2_with fail
      go_loopw [5, 6] (fun s t wr => ∃ (k : Nat) (sd : Int), k ≤ xs.length ∧ t = .int .i64 k ∧ s = .int .i64 sd ∧ (∀ x ∈ xs.take k, withinB x 0 ((ps.length : Int) - 1) = true) ∧ ((xs.take k).map (frI ps)).Nodup ∧ seenOk sd ((xs.take k).map (frI ps)) ∧ Box2 wr w.heap.size (.int .i64 n) (.slice A ps.length c) ∧ Below w.heap.size w wr) (fun _ t _ => xs.length - (intOf t).toNat)
      case atStart => exact ⟨0, 0, by omega, rfl, rfl, by simp, by simp, seen_nil, bx1, hB1⟩
      case round =>
        clear bs d0 d1 bx1 hB1
        obtain ⟨k, sd, hk, rfl, rfl, hall, hnd, hse, bx, hB⟩ := hrel
        obtain ⟨bs, d0, d1, -, -⟩ := id bx
        have HR := Lib.hid (And.intro hall (And.intro hnd hse))
        obtain ⟨g0, g1, -⟩ := hse
        clear hall hnd
        have hzb := hB.size
        by_cases hlt : k < xs.length
        · obtain ⟨gx, ox, hgx, gx2, cx⟩ := hx0.cellAt hB k hlt
          subst hgx
          have hgxw := Nat.lt_of_lt_of_le gx2 hzb
          by_cases hpl : withinB xs[k] 0 ((ps.length : Int) - 1) = true
          · obtain ⟨q, hq, hql⟩ : ∃ q : Nat, xs[k] = (q : Int) ∧ q < ps.length := by
              have := hpl
              simp only [withinB, Bool.and_eq_true, decide_eq_true_eq] at this
              exact ⟨xs[k].toNat, by omega, by omega⟩
            rw [hq] at cx
            obtain ⟨gp, hgp, gp1, gp2, cf, -, -, -, -⟩ := hp0.cellAt hB q hql
            subst hgp
            have hgpw := Nat.lt_of_lt_of_le gp2 hzb
            have hfr : frI ps xs[k] = ps[q].fr := by rw [hq, frI_at hql]
            obtain ⟨f0, f1, -⟩ := pipeOk_parts (HO.out.2 _ (List.getElem_mem hql))
            obtain ⟨fa, hfa⟩ : ∃ fa : Nat, ps[q].fr = (fa : Int) := ⟨ps[q].fr.toNat, by omega⟩
            rw [hfa] at cf f0 f1 hfr
            have hsb := shr_bitB g0 fa
            have HT := Lib.hid (swrap_pow (k := fa) (by omega))
            have Htk := Lib.hid (show (xs.take (k + 1)).map (frI ps) = (xs.take k).map (frI ps) ++ [(fa : Int)] by
              rw [List.take_succ_eq_append_getElem hlt, List.map_append, List.map_singleton, hfr])
            have Hbit := Lib.hid (HR.out.2.2.2.2 fa (by omega))
            have Hall := Lib.hid (all_take (f := fun x : Int => withinB x 0 ((ps.length : Int) - 1)) hlt HR.out.1 hpl)
            rw [hq] at hpl
            clear hfr hfa hq
            go_wp2_with fail
            go_quiet ((go_at_call 51; exact Calls.quiet_of_same ((l1In_any _ _ _ _).mono fun _ _ h => ⟨h.1, h.2.symm⟩)))
            rw [hpl]
            go_wp2_with fail
            go_quiet (fail)
            by_cases hbt : bitB sd (fa : Int) = true
            · have Hno := Lib.hid (show ringB n ps xs = false by
                by_cases hps : placesB ps xs = true
                · rw [ring_alt HO.out.1 h1 h5 hps]
                  have : decide (xs.map (frI ps)).Nodup = false := by
                    rw [decide_eq_false_iff_not]
                    intro hn
                    have h2 : ((xs.take (k + 1)).map (frI ps)).Nodup := by
                      rw [List.map_take]
                      exact hn.sublist (List.take_sublist _ _)
                    rw [Htk.out, nodup_snoc] at h2
                    have h3 := Hbit.out
                    rw [hbt] at h3
                    exact h2.2 (of_decide_eq_true h3.symm)
                  rw [this]; rfl
                · exact ring_no3 (by simpa using hps))
              rw [hbt] at hsb
              clear hbt
              go_wp2
              go_ret
              exact ⟨ret_bool Hno.out.symm, by (repeat (first | (with_reducible assumption) | (with_reducible exact Below.refl _ _) | ((with_reducible refine Below.alloc ?_ ?hsz _); (case hsz => (first | omega | (simp; done) | (simp; omega) | (simp at *; omega)))) | ((with_reducible refine Below.setCell ?_ ?hsz _); (case hsz => (first | omega | (simp; done) | (simp; omega) | (simp at *; omega)))) | (with_reducible refine Below.drew ?_) | (with_reducible refine below_drewN ?_ _) | ((with_reducible refine Below.trans ?_ (Below.mono (by with_reducible assumption) ?hsz)); (case hsz => (first | omega | (simp; done) | (simp; omega) | (simp at *; omega))))))⟩
            · have hbt' : bitB sd (fa : Int) = false := by simpa using hbt
              have Hnd := Lib.hid (show ((xs.take (k + 1)).map (frI ps)).Nodup by
                rw [Htk.out, nodup_snoc]
                refine ⟨HR.out.2.1, fun hm => ?_⟩
                have h3 := Hbit.out
                rw [hbt'] at h3
                rw [decide_eq_true hm] at h3
                cases h3)
              have Hse := Lib.hid (show seenOk (bits .or .i64 sd (2 ^ fa)) ((xs.take (k + 1)).map (frI ps)) by
                rw [Htk.out]; exact seen_snoc HR.out.2.2 (by omega))
              rw [hbt'] at hsb
              clear hbt hbt'
              go_wp2
              go_roundw
              case rel => exact ⟨k + 1, _, by omega, by go_num, rfl, Hall.out, Hnd.out, by rw [HT.out.1]; exact Hse.out, bx.keep (by (repeat (first | (with_reducible assumption) | (with_reducible exact Below.refl _ _) | ((with_reducible refine Below.alloc ?_ ?hsz _); (case hsz => (first | omega | (simp; done) | (simp; omega) | (simp at *; omega)))) | ((with_reducible refine Below.setCell ?_ ?hsz _); (case hsz => (first | omega | (simp; done) | (simp; omega) | (simp at *; omega)))) | (with_reducible refine Below.drew ?_) | (with_reducible refine below_drewN ?_ _) | ((with_reducible refine Below.trans ?_ (Below.mono (by with_reducible assumption) ?hsz)); (case hsz => (first | omega | (simp; done) | (simp; omega) | (simp at *; omega))))))), by (repeat (first | (with_reducible assumption) | (with_reducible exact Below.refl _ _) | ((with_reducible refine Below.alloc ?_ ?hsz _); (case hsz => (first | omega | (simp; done) | (simp; omega) | (simp at *; omega)))) | ((with_reducible refine Below.setCell ?_ ?hsz _); (case hsz => (first | omega | (simp; done) | (simp; omega) | (simp at *; omega)))) | (with_reducible refine Below.drew ?_) | (with_reducible refine below_drewN ?_ _) | ((with_reducible refine Below.trans ?_ (Below.mono (by with_reducible assumption) ?hsz)); (case hsz => (first | omega | (simp; done) | (simp; omega) | (simp at *; omega))))))⟩
              case measure => simp [intOf]; omega
          · have hpl' : withinB xs[k] 0 ((ps.length : Int) - 1) = false := by simpa using hpl
            have Hno := Lib.hid (ring_no3 (n := n) (place_no hlt hpl'))
            generalize xs[k] = y at *
            clear hpl
            go_wp2_with fail
            go_quiet ((go_at_call 51; exact Calls.quiet_of_same ((l1In_any _ _ _ _).mono fun _ _ h => ⟨h.1, h.2.symm⟩)))
            rw [hpl']
            go_wp2
            go_ret
            exact ⟨ret_bool Hno.out.symm, by (repeat (first | (with_reducible assumption) | (with_reducible exact Below.refl _ _) | ((with_reducible refine Below.alloc ?_ ?hsz _); (case hsz => (first | omega | (simp; done) | (simp; omega) | (simp at *; omega)))) | ((with_reducible refine Below.setCell ?_ ?hsz _); (case hsz => (first | omega | (simp; done) | (simp; omega) | (simp at *; omega)))) | (with_reducible refine Below.drew ?_) | (with_reducible refine below_drewN ?_ _) | ((with_reducible refine Below.trans ?_ (Below.mono (by with_reducible assumption) ?hsz)); (case hsz => (first | omega | (simp; done) | (simp; omega) | (simp at *; omega))))))⟩
        · have hkl : k = xs.length := by omega
          subst hkl
          have hpl : placesB ps xs = true := by
            have := HR.out.1
            rw [List.take_length] at this
            exact List.all_eq_true.2 this
          have hnd : (xs.map (frI ps)).Nodup := by
            have := HR.out.2.1
            rwa [List.take_length] at this
          have Hr := Lib.hid (show ringB n ps xs = closeB ps xs by rw [ring_alt HO.out.1 h1 h5 hpl, decide_eq_true hnd, Bool.true_and])
          have HPL := Lib.hid hpl
          clear hpl hnd HR g0 g1
          go_wp2_with fail
          go_loopw [8] (fun t wr => ∃ k : Nat, k ≤ xs.length ∧ t = .int .i64 k ∧ (∀ j, j < k → toI ps (xs.getD j 0) = frI ps (xs.getD ((j + 1) % xs.length) 0)) ∧ Box2 wr w.heap.size (.int .i64 n) (.slice A ps.length c) ∧ Below w.heap.size w wr) (fun t _ => xs.length - (intOf t).toNat)
          case atStart => exact ⟨0, by omega, rfl, fun j hj => absurd hj (by omega), bx, hB⟩
          case round =>
            clear bs d0 d1 bx hB hzb hlt hk
            obtain ⟨k, hk, rfl, hall, bx, hB⟩ := hrel
            obtain ⟨bs, d0, d1, -, -⟩ := id bx
            have HR := Lib.hid hall
            clear hall
            have hzb := hB.size
            by_cases hlt : k < xs.length
            · obtain ⟨r, hr⟩ : ∃ r, (k + 1) % xs.length = r := ⟨_, rfl⟩
              have hrl : r < xs.length := by rw [← hr]; exact Nat.mod_lt _ (by omega)
              have hmod := tmod_len (k := k) (m := xs.length)
              rw [hr] at hmod
              obtain ⟨gx, ox, hgx, gx2, cx⟩ := hx0.cellAt hB k hlt
              obtain ⟨gx', ox', hgx', -, cx'⟩ := hx0.cellAt hB r hrl
              rw [hgx] at hgx'
              injection hgx' with hgx'
              injection hgx' with hgx' hox'
              subst hgx'
              subst hox'
              subst hgx
              have hgxw := Nat.lt_of_lt_of_le gx2 hzb
              obtain ⟨q1, hq1, hql1⟩ := place_at HPL.out hlt
              obtain ⟨q2, hq2, hql2⟩ := place_at HPL.out hrl
              have e1 : toI ps (xs.getD k 0) = ps[q1].to := by rw [getD_at hlt, hq1, toI_at hql1]
              have e2 : frI ps (xs.getD r 0) = ps[q2].fr := by rw [getD_at hrl, hq2, frI_at hql2]
              rw [hq1] at cx
              rw [hq2] at cx'
              obtain ⟨gp, hgp, gp1, gp2, -, cf1, -, -, -⟩ := hp0.cellAt hB q1 hql1
              obtain ⟨gp', hgp', -, -, cf2, -, -, -, -⟩ := hp0.cellAt hB q2 hql2
              rw [hgp] at hgp'
              injection hgp' with hgp'
              injection hgp' with hgp'
              subst hgp'
              subst hgp
              have hgpw := Nat.lt_of_lt_of_le gp2 hzb
              have HE := Lib.hid (And.intro e1 (And.intro e2 hr))
              by_cases hq : ps[q1].to = ps[q2].fr
              · have hqb : (ps[q1].to != ps[q2].fr) = false := by simpa using hq
                have HQ := Lib.hid hq
                clear hq hq1 hq2 e1 e2 hr
                go_wp2_with fail
                go_quiet (fail)
                go_wp2
                go_roundw
                case rel =>
                  refine ⟨k + 1, by omega, by go_num, fun j hj => ?_, bx.keep (by (repeat (first | (with_reducible assumption) | (with_reducible exact Below.refl _ _) | ((with_reducible refine Below.alloc ?_ ?hsz _); (case hsz => (first | omega | (simp; done) | (simp; omega) | (simp at *; omega)))) | ((with_reducible refine Below.setCell ?_ ?hsz _); (case hsz => (first | omega | (simp; done) | (simp; omega) | (simp at *; omega)))) | (with_reducible refine Below.drew ?_) | (with_reducible refine below_drewN ?_ _) | ((with_reducible refine Below.trans ?_ (Below.mono (by with_reducible assumption) ?hsz)); (case hsz => (first | omega | (simp; done) | (simp; omega) | (simp at *; omega))))))), by (repeat (first | (with_reducible assumption) | (with_reducible exact Below.refl _ _) | ((with_reducible refine Below.alloc ?_ ?hsz _); (case hsz => (first | omega | (simp; done) | (simp; omega) | (simp at *; omega)))) | ((with_reducible refine Below.setCell ?_ ?hsz _); (case hsz => (first | omega | (simp; done) | (simp; omega) | (simp at *; omega)))) | (with_reducible refine Below.drew ?_) | (with_reducible refine below_drewN ?_ _) | ((with_reducible refine Below.trans ?_ (Below.mono (by with_reducible assumption) ?hsz)); (case hsz => (first | omega | (simp; done) | (simp; omega) | (simp at *; omega))))))⟩
                  rcases Nat.lt_succ_iff_lt_or_eq.1 hj with h | h
                  · exact HR.out j h
                  · subst h; rw [HE.out.1, HE.out.2.2, HE.out.2.1]; exact HQ.out
                case measure => simp [intOf]; omega
              · have hqb : (ps[q1].to != ps[q2].fr) = true := by simpa using hq
                have Hno := Lib.hid (show closeB ps xs = false by
                  rw [Bool.eq_false_iff]
                  intro h
                  have := close_iff.1 h k hlt
                  rw [e1, hr, e2] at this
                  exact hq this)
                clear hq hq1 hq2 e1 e2 hr
                go_wp2_with fail
                go_quiet (fail)
                go_wp2
                go_ret
                exact ⟨ret_bool (by rw [Hr.out, Hno.out]), by (repeat (first | (with_reducible assumption) | (with_reducible exact Below.refl _ _) | ((with_reducible refine Below.alloc ?_ ?hsz _); (case hsz => (first | omega | (simp; done) | (simp; omega) | (simp at *; omega)))) | ((with_reducible refine Below.setCell ?_ ?hsz _); (case hsz => (first | omega | (simp; done) | (simp; omega) | (simp at *; omega)))) | (with_reducible refine Below.drew ?_) | (with_reducible refine below_drewN ?_ _) | ((with_reducible refine Below.trans ?_ (Below.mono (by with_reducible assumption) ?hsz)); (case hsz => (first | omega | (simp; done) | (simp; omega) | (simp at *; omega))))))⟩
            · have Hyes := Lib.hid (show closeB ps xs = true from close_iff.2 fun j hj => HR.out j (by omega))
              go_wp2
              go_ret
              exact ⟨ret_bool (by rw [Hr.out, Hyes.out]), by (repeat (first | (with_reducible assumption) | (with_reducible exact Below.refl _ _) | ((with_reducible refine Below.alloc ?_ ?hsz _); (case hsz => (first | omega | (simp; done) | (simp; omega) | (simp at *; omega)))) | ((with_reducible refine Below.setCell ?_ ?hsz _); (case hsz => (first | omega | (simp; done) | (simp; omega) | (simp at *; omega)))) | (with_reducible refine Below.drew ?_) | (with_reducible refine below_drewN ?_ _) | ((with_reducible refine Below.trans ?_ (Below.mono (by with_reducible assumption) ?hsz)); (case hsz => (first | omega | (simp; done) | (simp; omega) | (simp at *; omega))))))⟩
    · have hin' : withinB xs.length 1 5 = false := by simpa using hin
      rw [hin']
      have Hno := Lib.hid (ring_no2 (n := n) (ps := ps) hin')
      go_wp2
      go_ret
      exact ⟨ret_bool Hno.out.symm, by (repeat (first | (with_reducible assumption) | (with_reducible exact Below.refl _ _) | ((with_reducible refine Below.alloc ?_ ?hsz _); (case hsz => (first | omega | (simp; done) | (simp; omega) | (simp at *; omega)))) | ((with_reducible refine Below.setCell ?_ ?hsz _); (case hsz => (first | omega | (simp; done) | (simp; omega) | (simp at *; omega)))) | (with_reducible refine Below.drew ?_) | (with_reducible refine below_drewN ?_ _) | ((with_reducible refine Below.trans ?_ (Below.mono (by with_reducible assumption) ?hsz)); (case hsz => (first | omega | (simp; done) | (simp; omega) | (simp at *; omega))))))⟩
  · have hok' : netOkB n ps = false := by simpa using hok
    rw [hok']
    have Hno := Lib.hid (ring_no1 (xs := xs) hok')
    go_wp2
    go_ret
    exact ⟨ret_bool Hno.out.symm, by (repeat (first | (with_reducible assumption) | (with_reducible exact Below.refl _ _) | ((with_reducible refine Below.alloc ?_ ?hsz _); (case hsz => (first | omega | (simp; done) | (simp; omega) | (simp at *; omega)))) | ((with_reducible refine Below.setCell ?_ ?hsz _); (case hsz => (first | omega | (simp; done) | (simp; omega) | (simp at *; omega)))) | (with_reducible refine Below.drew ?_) | (with_reducible refine below_drewN ?_ _) | ((with_reducible refine Below.trans ?_ (Below.mono (by with_reducible assumption) ?hsz)); (case hsz => (first | omega | (simp; done) | (simp; omega) | (simp at *; omega))))))⟩

theorem specRingOk_any (n : Int) (v u : Value) (ps : List Pp) (xs : List Int) (b b' : Nat) (w : World) (hp : Pipes w b v ps) (hx : Ints w b' u xs) :
    Calls Try.prog 14 #[.agg #[.int .i64 n, v], u] w fun e w' => e = .returned (.bool (ringB n ps xs)) ∧ Below w.heap.size w w' :=
  specRingOk_rd n v u ps xs b w hp hx.reads

end Go.Proofs.Ytlaeckjfjleplaa

/- Contracts of the functions of chapter 4 in the model: ThreadOk. -/
namespace Go.Proofs.Ytlaeckjfjleplaa
open Go.RowKit

/-- the node that one is at -/
def atN (ps : List Pp) (xs : List Int) (a : Int) : Nat → Int
  | 0 => a
  | j + 1 => toI ps (xs.getD j 0)

section
variable {n a b : Int} {ps : List Pp} {xs : List Int}
theorem nodes_last (h1 : 1 ≤ xs.length) : (nodesI ps xs).getD xs.length 0 = atN ps xs a xs.length := by
  have := nodes_succ (ps := ps) (xs := xs) (j := xs.length - 1) (by omega)
  rw [show xs.length - 1 + 1 = xs.length by omega] at this
  rw [this]
  obtain ⟨m, hm⟩ : ∃ m, xs.length = m + 1 := ⟨xs.length - 1, by omega⟩
  rw [hm]
  rfl

theorem thread_alt (he : endsB n ps a b = true) (h1 : 1 ≤ xs.length) (h5 : xs.length ≤ 5) (hp : placesB ps xs = true) :
    threadB n ps xs a b = true ↔ (∀ j, j < xs.length → frI ps (xs.getD j 0) = atN ps xs a j) ∧ (a :: xs.map (toI ps)).Nodup ∧ atN ps xs a xs.length = b := by
  have hw : walkB n ps xs = linkB ps xs := by simp [walkB, (ends_parts he).1, withinB, hp]; omega
  rw [threadB, hw, he]
  simp only [Bool.and_eq_true, decide_eq_true_eq, true_and]
  rw [nodes_last (a := a) h1, link_iff]
  constructor
  · rintro ⟨⟨⟨hl, h0⟩, hb⟩, hn⟩
    refine ⟨fun j hj => ?_, ?_, hb⟩
    · rcases j with _ | j
      · exact h0
      · exact hl j hj
    · rw [nodesI, h0] at hn; exact hn
  · rintro ⟨hl, hn, hb⟩
    have h0 := hl 0 (by omega)
    refine ⟨⟨⟨fun j hj => hl (j + 1) hj, h0⟩, hb⟩, ?_⟩
    rw [nodesI, h0]; exact hn

theorem thread_no (h : ¬ ((∀ j, j < xs.length → frI ps (xs.getD j 0) = atN ps xs a j) ∧ (a :: xs.map (toI ps)).Nodup)) (he : endsB n ps a b = true) (h1 : 1 ≤ xs.length) (h5 : xs.length ≤ 5) : threadB n ps xs a b = false := by
  rw [Bool.eq_false_iff]
  intro ht
  by_cases hp : placesB ps xs = true
  · have := (thread_alt he h1 h5 hp).1 ht
    exact h ⟨this.1, this.2.1⟩
  · simp [threadB, walk_no3 (n := n) (show placesB ps xs = false by simpa using hp)] at ht
end

set_option maxHeartbeats 4000000 in
set_option maxRecDepth 20000 in
theorem specThreadOk_rd (n i e2 : Int) (v u : Value) (ps : List Pp) (xs : List Int) (b : Nat) (w : World) (hp : Pipes w b v ps) (hx : Reads w u xs) :
    Calls Try.prog 20 #[.agg #[.int .i64 n, v], u, .int .i64 i, .int .i64 e2] w fun e w' => e = .returned (.bool (threadB n ps xs i e2)) ∧ Below w.heap.size w w' := by
  have hp0 := hp
  have hx0 := hx
  obtain ⟨A, c, rfl, hcp1, hcp2, hsp, -⟩ := hp.form
  obtain ⟨A0, c0, rfl, hc1, hc2, hsm, -⟩ := hx.form
  unfold maxLen at hc2 hcp2
  have bx0 := Box2.new w (.int .i64 n) (.slice A ps.length c) 25
  go_enter Try.func20, Try.ntmps20
  go_wp2_with fail
  refine (ends_any n i e2 _ ps b _ (hp0.keep (by (repeat (first | (with_reducible assumption) | (with_reducible exact Below.refl _ _) | ((with_reducible refine Below.alloc ?_ ?hsz _); (case hsz => (first | omega | (simp; done) | (simp; omega) | (simp at *; omega)))) | ((with_reducible refine Below.setCell ?_ ?hsz _); (case hsz => (first | omega | (simp; done) | (simp; omega) | (simp at *; omega)))) | (with_reducible refine Below.drew ?_) | (with_reducible refine below_drewN ?_ _) | ((with_reducible refine Below.trans ?_ (Below.mono (by with_reducible assumption) ?hsz)); (case hsz => (first | omega | (simp; done) | (simp; omega) | (simp at *; omega))))))))).mono ?_
  rintro e w1 ⟨rfl, hb1⟩
  have bx1 := bx0.keep hb1
  have hB1 : Below w.heap.size w w1 := by (repeat (first | (with_reducible assumption) | (with_reducible exact Below.refl _ _) | ((with_reducible refine Below.alloc ?_ ?hsz _); (case hsz => (first | omega | (simp; done) | (simp; omega) | (simp at *; omega)))) | ((with_reducible refine Below.setCell ?_ ?hsz _); (case hsz => (first | omega | (simp; done) | (simp; omega) | (simp at *; omega)))) | (with_reducible refine Below.drew ?_) | (with_reducible refine below_drewN ?_ _) | ((with_reducible refine Below.trans ?_ (Below.mono (by with_reducible assumption) ?hsz)); (case hsz => (first | omega | (simp; done) | (simp; omega) | (simp at *; omega))))))
  obtain ⟨bs, d0, d1, -, -⟩ := id bx1
  clear bx0 hb1
  by_cases hok : endsB n ps i e2 = true
  · rw [hok]
    obtain ⟨hnok, i0, i1, j0, j1, hij⟩ := ends_parts hok
    obtain ⟨n2, n5, hl7, hpo⟩ := netOk_parts hnok
    go_wp2_with fail
    refine (l1In_any (xs.length : Int) 1 5 _).mono ?_
    rintro e w2 ⟨rfl, rfl⟩
    by_cases hin : withinB xs.length 1 5 = true
    · rw [hin]
      have hin' := hin
      simp only [withinB, Bool.and_eq_true, decide_eq_true_eq] at hin'
      have h1 : 1 ≤ xs.length := by omega
      have h5 : xs.length ≤ 5 := by omega
      have HO := Lib.hid (And.intro hok hpo)
      clear hok hin hin' hpo hnok hij
      obtain ⟨I, rfl⟩ : ∃ I : Nat, i = (I : Int) := ⟨i.toNat, by omega⟩
      have HW := Lib.hid (swrap_pow (k := I) (by omega))
      have HS0 := Lib.hid (seen_one I (by omega))
      go_wp2_with fail
      go_loopw [9, 10, 11] (fun nw s t wr => ∃ (k : Nat) (now sd : Int), k ≤ xs.length ∧ t = .int .i64 k ∧ s = .int .i64 sd ∧ nw = .int .i64 now ∧ now = atN ps xs I k ∧ 0 ≤ now ∧ now < n ∧ (∀ x ∈ xs.take k, withinB x 0 ((ps.length : Int) - 1) = true) ∧ (∀ j, j < k → frI ps (xs.getD j 0) = atN ps xs I j) ∧ ((I : Int) :: (xs.take k).map (toI ps)).Nodup ∧ seenOk sd ((I : Int) :: (xs.take k).map (toI ps)) ∧ Box2 wr w.heap.size (.int .i64 n) (.slice A ps.length c) ∧ Below w.heap.size w wr) (fun _ _ t _ => xs.length - (intOf t).toNat)
      case atStart => exact ⟨0, I, 2 ^ I, by omega, rfl, by first | rfl | (rw [HW.out.1]) | (rw [HW.out.2]), rfl, rfl, i0, i1, by simp, fun j hj => absurd hj (by omega), by simp, HS0.out, bx1, hB1⟩
      case round =>
        clear bs d0 d1 bx1 hB1
        obtain ⟨k, now, sd, hk, rfl, rfl, rfl, hnow, a0, a1, hall, hlk, hnd, hse, bx, hB⟩ := hrel
        obtain ⟨bs, d0, d1, -, -⟩ := id bx
        have HR := Lib.hid (And.intro hall (And.intro hlk (And.intro hnd (And.intro hse hnow))))
        obtain ⟨g0, g1, -⟩ := hse
        clear hall hnd hlk hnow
        have hzb := hB.size
        by_cases hlt : k < xs.length
        · obtain ⟨gx, ox, hgx, gx2, cx⟩ := hx0.cellAt hB k hlt
          subst hgx
          have hgxw := Nat.lt_of_lt_of_le gx2 hzb
          by_cases hpl : withinB xs[k] 0 ((ps.length : Int) - 1) = true
          · obtain ⟨q, hq, hql⟩ : ∃ q : Nat, xs[k] = (q : Int) ∧ q < ps.length := by
              have := hpl
              simp only [withinB, Bool.and_eq_true, decide_eq_true_eq] at this
              exact ⟨xs[k].toNat, by omega, by omega⟩
            rw [hq] at cx
            obtain ⟨gp, hgp, gp1, gp2, cf, ct, -, -, -⟩ := hp0.cellAt hB q hql
            subst hgp
            have hgpw := Nat.lt_of_lt_of_le gp2 hzb
            have hfr : frI ps (xs.getD k 0) = ps[q].fr := by rw [getD_at hlt, hq, frI_at hql]
            have hto : toI ps (xs.getD k 0) = ps[q].to := by rw [getD_at hlt, hq, toI_at hql]
            have hto' : toI ps xs[k] = ps[q].to := by rw [hq, toI_at hql]
            obtain ⟨-, -, f0, f1, -⟩ := pipeOk_parts (HO.out.2 _ (List.getElem_mem hql))
            obtain ⟨te, hte⟩ : ∃ te : Nat, ps[q].to = (te : Int) := ⟨ps[q].to.toNat, by omega⟩
            obtain ⟨fa, hfa⟩ : ∃ fa : Int, ps[q].fr = fa := ⟨_, rfl⟩
            rw [hte] at ct f0 f1 hto hto'
            rw [hfa] at cf hfr
            have hsb := shr_bitB g0 te
            have HT := Lib.hid (swrap_pow (k := te) (by omega))
            have Htk := Lib.hid (show (I : Int) :: (xs.take (k + 1)).map (toI ps) = ((I : Int) :: (xs.take k).map (toI ps)) ++ [(te : Int)] by
              rw [List.take_succ_eq_append_getElem hlt, List.map_append, List.map_singleton, hto']; rfl)
            have Hbit := Lib.hid (HR.out.2.2.2.1.2.2 te (by omega))
            have Hall := Lib.hid (all_take (f := fun x : Int => withinB x 0 ((ps.length : Int) - 1)) hlt HR.out.1 hpl)
            have HF := Lib.hid (And.intro hfr hto)
            rw [hq] at hpl
            clear hfr hto hto' hfa hte hq
            by_cases hfn : fa = now
            · have hfb : (fa != now) = false := by simpa using hfn
              have Hlk := Lib.hid (show ∀ j, j < k + 1 → frI ps (xs.getD j 0) = atN ps xs I j by
                intro j hj
                rcases Nat.lt_succ_iff_lt_or_eq.1 hj with h | h
                · exact HR.out.2.1 j h
                · subst h; rw [HF.out.1, hfn]; exact HR.out.2.2.2.2)
              clear hfn
              go_wp2_with fail
              go_quiet ((go_at_call 51; exact Calls.quiet_of_same ((l1In_any _ _ _ _).mono fun _ _ h => ⟨h.1, h.2.symm⟩)))
              go_wp2_with fail
              go_quiet (fail)
              by_cases hbt : bitB sd (te : Int) = true
              · have Hno := Lib.hid (show threadB n ps xs I e2 = false by
                  refine thread_no ?_ HO.out.1 h1 h5
                  rintro ⟨-, hn⟩
                  have h2 : ((I : Int) :: (xs.take (k + 1)).map (toI ps)).Nodup := by
                    rw [List.map_take]
                    exact hn.sublist (List.Sublist.cons_cons _ (List.take_sublist _ _))
                  rw [Htk.out, nodup_snoc] at h2
                  have h3 := Hbit.out
                  rw [hbt] at h3
                  exact h2.2 (of_decide_eq_true h3.symm))
                rw [hbt] at hsb
                clear hbt
                go_wp2
                go_ret
                exact ⟨ret_bool Hno.out.symm, by (repeat (first | (with_reducible assumption) | (with_reducible exact Below.refl _ _) | ((with_reducible refine Below.alloc ?_ ?hsz _); (case hsz => (first | omega | (simp; done) | (simp; omega) | (simp at *; omega)))) | ((with_reducible refine Below.setCell ?_ ?hsz _); (case hsz => (first | omega | (simp; done) | (simp; omega) | (simp at *; omega)))) | (with_reducible refine Below.drew ?_) | (with_reducible refine below_drewN ?_ _) | ((with_reducible refine Below.trans ?_ (Below.mono (by with_reducible assumption) ?hsz)); (case hsz => (first | omega | (simp; done) | (simp; omega) | (simp at *; omega))))))⟩
              · have hbt' : bitB sd (te : Int) = false := by simpa using hbt
                have Hnd := Lib.hid (show ((I : Int) :: (xs.take (k + 1)).map (toI ps)).Nodup by
                  rw [Htk.out, nodup_snoc]
                  refine ⟨HR.out.2.2.1, fun hm => ?_⟩
                  have h3 := Hbit.out
                  rw [hbt'] at h3
                  rw [decide_eq_true hm] at h3
                  cases h3)
                have Hse := Lib.hid (show seenOk (bits .or .i64 sd (2 ^ te)) ((I : Int) :: (xs.take (k + 1)).map (toI ps)) by
                  rw [Htk.out]; exact seen_snoc HR.out.2.2.2.1 (by omega))
                rw [hbt'] at hsb
                clear hbt hbt'
                go_wp2
                go_roundw
                case rel => exact ⟨k + 1, te, _, by omega, by go_num, rfl, rfl, HF.out.2.symm, f0, f1, Hall.out, Hlk.out, Hnd.out, by rw [HT.out.1]; exact Hse.out, bx.keep (by (repeat (first | (with_reducible assumption) | (with_reducible exact Below.refl _ _) | ((with_reducible refine Below.alloc ?_ ?hsz _); (case hsz => (first | omega | (simp; done) | (simp; omega) | (simp at *; omega)))) | ((with_reducible refine Below.setCell ?_ ?hsz _); (case hsz => (first | omega | (simp; done) | (simp; omega) | (simp at *; omega)))) | (with_reducible refine Below.drew ?_) | (with_reducible refine below_drewN ?_ _) | ((with_reducible refine Below.trans ?_ (Below.mono (by with_reducible assumption) ?hsz)); (case hsz => (first | omega | (simp; done) | (simp; omega) | (simp at *; omega))))))), by (repeat (first | (with_reducible assumption) | (with_reducible exact Below.refl _ _) | ((with_reducible refine Below.alloc ?_ ?hsz _); (case hsz => (first | omega | (simp; done) | (simp; omega) | (simp at *; omega)))) | ((with_reducible refine Below.setCell ?_ ?hsz _); (case hsz => (first | omega | (simp; done) | (simp; omega) | (simp at *; omega)))) | (with_reducible refine Below.drew ?_) | (with_reducible refine below_drewN ?_ _) | ((with_reducible refine Below.trans ?_ (Below.mono (by with_reducible assumption) ?hsz)); (case hsz => (first | omega | (simp; done) | (simp; omega) | (simp at *; omega))))))⟩
                case measure => simp [intOf]; omega
            · have hfb : (fa != now) = true := by simpa using hfn
              have Hno := Lib.hid (show threadB n ps xs I e2 = false by
                refine thread_no ?_ HO.out.1 h1 h5
                rintro ⟨hl, -⟩
                have h2 := hl k hlt
                rw [HF.out.1, ← HR.out.2.2.2.2] at h2
                exact hfn h2)
              clear hfn
              go_wp2_with fail
              go_quiet ((go_at_call 51; exact Calls.quiet_of_same ((l1In_any _ _ _ _).mono fun _ _ h => ⟨h.1, h.2.symm⟩)))
              go_wp2
              go_ret
              exact ⟨ret_bool Hno.out.symm, by (repeat (first | (with_reducible assumption) | (with_reducible exact Below.refl _ _) | ((with_reducible refine Below.alloc ?_ ?hsz _); (case hsz => (first | omega | (simp; done) | (simp; omega) | (simp at *; omega)))) | ((with_reducible refine Below.setCell ?_ ?hsz _); (case hsz => (first | omega | (simp; done) | (simp; omega) | (simp at *; omega)))) | (with_reducible refine Below.drew ?_) | (with_reducible refine below_drewN ?_ _) | ((with_reducible refine Below.trans ?_ (Below.mono (by with_reducible assumption) ?hsz)); (case hsz => (first | omega | (simp; done) | (simp; omega) | (simp at *; omega))))))⟩
          · have hpl' : withinB xs[k] 0 ((ps.length : Int) - 1) = false := by simpa using hpl
            have Hno := Lib.hid (show threadB n ps xs I e2 = false by simp [threadB, walk_no3 (n := n) (place_no hlt hpl')])
            generalize xs[k] = y at *
            clear hpl
            go_wp2_with fail
            go_quiet ((go_at_call 51; exact Calls.quiet_of_same ((l1In_any _ _ _ _).mono fun _ _ h => ⟨h.1, h.2.symm⟩)))
            go_wp2
            go_ret
            exact ⟨ret_bool Hno.out.symm, by (repeat (first | (with_reducible assumption) | (with_reducible exact Below.refl _ _) | ((with_reducible refine Below.alloc ?_ ?hsz _); (case hsz => (first | omega | (simp; done) | (simp; omega) | (simp at *; omega)))) | ((with_reducible refine Below.setCell ?_ ?hsz _); (case hsz => (first | omega | (simp; done) | (simp; omega) | (simp at *; omega)))) | (with_reducible refine Below.drew ?_) | (with_reducible refine below_drewN ?_ _) | ((with_reducible refine Below.trans ?_ (Below.mono (by with_reducible assumption) ?hsz)); (case hsz => (first | omega | (simp; done) | (simp; omega) | (simp at *; omega))))))⟩
        · have hkl : k = xs.length := by omega
          subst hkl
          have hpl : placesB ps xs = true := by
            have := HR.out.1
            rw [List.take_length] at this
            exact List.all_eq_true.2 this
          have hr : threadB n ps xs I e2 = (now == e2) := by
            rw [Bool.eq_iff_iff, thread_alt HO.out.1 h1 h5 hpl, beq_iff_eq]
            have h3 := HR.out.2.2.1
            rw [List.take_length] at h3
            rw [← HR.out.2.2.2.2]
            exact ⟨fun h => h.2.2, fun h => ⟨HR.out.2.1, h3, h⟩⟩
          have Hr := Lib.hid hr
          clear hr hpl
          go_wp2
          go_ret
          exact ⟨ret_bool Hr.out.symm, by (repeat (first | (with_reducible assumption) | (with_reducible exact Below.refl _ _) | ((with_reducible refine Below.alloc ?_ ?hsz _); (case hsz => (first | omega | (simp; done) | (simp; omega) | (simp at *; omega)))) | ((with_reducible refine Below.setCell ?_ ?hsz _); (case hsz => (first | omega | (simp; done) | (simp; omega) | (simp at *; omega)))) | (with_reducible refine Below.drew ?_) | (with_reducible refine below_drewN ?_ _) | ((with_reducible refine Below.trans ?_ (Below.mono (by with_reducible assumption) ?hsz)); (case hsz => (first | omega | (simp; done) | (simp; omega) | (simp at *; omega))))))⟩
    · have hin' : withinB xs.length 1 5 = false := by simpa using hin
      rw [hin']
      have Hno := Lib.hid (show threadB n ps xs i e2 = false by simp [threadB, walk_no2 (n := n) (ps := ps) hin'])
      go_wp2
      go_ret
      exact ⟨ret_bool Hno.out.symm, by (repeat (first | (with_reducible assumption) | (with_reducible exact Below.refl _ _) | ((with_reducible refine Below.alloc ?_ ?hsz _); (case hsz => (first | omega | (simp; done) | (simp; omega) | (simp at *; omega)))) | ((with_reducible refine Below.setCell ?_ ?hsz _); (case hsz => (first | omega | (simp; done) | (simp; omega) | (simp at *; omega)))) | (with_reducible refine Below.drew ?_) | (with_reducible refine below_drewN ?_ _) | ((with_reducible refine Below.trans ?_ (Below.mono (by with_reducible assumption) ?hsz)); (case hsz => (first | omega | (simp; done) | (simp; omega) | (simp at *; omega))))))⟩
  · have hok' : endsB n ps i e2 = false := by simpa using hok
    rw [hok']
    have Hno := Lib.hid (show threadB n ps xs i e2 = false by simp [threadB, hok'])
    go_wp2
    go_ret
    exact ⟨ret_bool Hno.out.symm, by (repeat (first | (with_reducible assumption) | (with_reducible exact Below.refl _ _) | ((with_reducible refine Below.alloc ?_ ?hsz _); (case hsz => (first | omega | (simp; done) | (simp; omega) | (simp at *; omega)))) | ((with_reducible refine Below.setCell ?_ ?hsz _); (case hsz => (first | omega | (simp; done) | (simp; omega) | (simp at *; omega)))) | (with_reducible refine Below.drew ?_) | (with_reducible refine below_drewN ?_ _) | ((with_reducible refine Below.trans ?_ (Below.mono (by with_reducible assumption) ?hsz)); (case hsz => (first | omega | (simp; done) | (simp; omega) | (simp at *; omega))))))⟩

theorem specThreadOk_any (n i e2 : Int) (v u : Value) (ps : List Pp) (xs : List Int) (b b' : Nat) (w : World) (hp : Pipes w b v ps) (hx : Ints w b' u xs) :
    Calls Try.prog 20 #[.agg #[.int .i64 n, v], u, .int .i64 i, .int .i64 e2] w fun e w' => e = .returned (.bool (threadB n ps xs i e2)) ∧ Below w.heap.size w w' :=
  specThreadOk_rd n i e2 v u ps xs b w hp hx.reads

end Go.Proofs.Ytlaeckjfjleplaa

/- Plain facts of chapter 4: an amount of 1 in each pipe of a walk. -/
namespace Go.Proofs.Ytlaeckjfjleplaa
open Go.RowKit

/-- the steps of a walk: along each pipe -/
def stepsI (xs : List Int) : List Nat := xs.map fun x => 2 * x.toNat
def onesL (ps : List Pp) (xs : List Int) : List Int := takenL ps.length [1 :: xs]

section
variable {n a b : Int} {ps : List Pp} {xs : List Int}

theorem push1_even (d : Int) (o : List Int) (k : Nat) : push1 d o (2 * k) = o.set k (o.getD k 0 + d) := by
  rw [push1, if_neg (by omega), show 2 * k / 2 = k by omega]

theorem getD_setI (o : List Int) (k i : Nat) (y : Int) : (o.set k y).getD i 0 = if k = i ∧ i < o.length then y else o.getD i 0 := by
  simp only [List.getD_eq_getElem?_getD, List.getElem?_set]
  by_cases h : k = i
  · subst h
    by_cases hl : k < o.length <;> simp [hl]
  · simp [h]

theorem takes_push (xs : List Int) : ∀ (o : List Int) (B : Int), (∀ x ∈ xs, 0 ≤ x ∧ x < (ps.length : Int)) → o.length = ps.length → (∀ i, 0 ≤ o.getD i 0 ∧ o.getD i 0 ≤ B) → B + xs.length ≤ 40 →
    xs.foldl (take1 ps.length 1) o = pushL 1 o (stepsI xs) ∧ ∀ i, 0 ≤ (pushL 1 o (stepsI xs)).getD i 0 ∧ (pushL 1 o (stepsI xs)).getD i 0 ≤ B + xs.length := by
  induction xs with
  | nil =>
    intro o B _ _ hb _
    refine ⟨rfl, fun i => ?_⟩
    have := hb i
    have e : pushL 1 o (stepsI []) = o := rfl
    rw [e]
    simp only [List.length_nil]
    omega
  | cons x xs ih =>
    intro o B hx hl hb hB
    obtain ⟨x0, x1⟩ := hx x (by simp)
    obtain ⟨k, rfl⟩ : ∃ k : Nat, x = (k : Int) := ⟨x.toNat, by omega⟩
    have hk := hb k
    simp only [List.length_cons] at hB
    have e1 : take1 ps.length 1 o (k : Int) = o.set k (o.getD k 0 + 1) := by
      rw [take1, if_pos ⟨x0, x1⟩, Int.toNat_natCast]
      congr 1
      unfold wrap64
      omega
    have e2 : pushL 1 o (stepsI ((k : Int) :: xs)) = pushL 1 (o.set k (o.getD k 0 + 1)) (stepsI xs) := by
      rw [stepsI, List.map_cons, Int.toNat_natCast, pushL, List.foldl_cons, push1_even]
      rfl
    have hb2 : ∀ i, 0 ≤ (o.set k (o.getD k 0 + 1)).getD i 0 ∧ (o.set k (o.getD k 0 + 1)).getD i 0 ≤ B + 1 := by
      intro i
      rw [getD_setI]
      have := hb i
      split <;> omega
    obtain ⟨i1, i2⟩ := ih (o.set k (o.getD k 0 + 1)) (B + 1) (fun y hy => hx y (by simp [hy])) (by simpa using hl) hb2 (by omega)
    refine ⟨by rw [List.foldl_cons, e1, i1, e2], fun i => ?_⟩
    rw [e2]
    have := i2 i
    simp only [List.length_cons]
    omega

theorem place_all (h : placesB ps xs = true) : ∀ x ∈ xs, 0 ≤ x ∧ x < (ps.length : Int) := by
  intro x hx
  have := List.all_eq_true.1 h x hx
  simp only [withinB, Bool.and_eq_true, decide_eq_true_eq] at this
  omega

theorem ones_push (h : placesB ps xs = true) (h5 : xs.length ≤ 5) : onesL ps xs = pushL 1 (List.replicate ps.length 0) (stepsI xs) ∧ ∀ i, 0 ≤ (onesL ps xs).getD i 0 ∧ (onesL ps xs).getD i 0 ≤ 5 := by
  obtain ⟨e, hb⟩ := takes_push (ps := ps) xs (List.replicate ps.length 0) 0 (place_all h) (by simp) (fun i => by
    have : (List.replicate ps.length (0 : Int)).getD i 0 = 0 := by
      simp only [List.getD_eq_getElem?_getD, List.getElem?_replicate]; split <;> rfl
    omega) (by omega)
  have e2 : onesL ps xs = xs.foldl (take1 ps.length 1) (List.replicate ps.length 0) := rfl
  rw [e2, e]
  exact ⟨rfl, fun i => by have := hb i; omega⟩

theorem ones_flow (hn : netOkB n ps = true) (h : placesB ps xs = true) (h5 : xs.length ≤ 5) : flowOkB n ps (onesL ps xs) = true := by
  have hl : (onesL ps xs).length = ps.length := takenL_len _ _
  have hb := (ones_push h h5).2
  simp only [flowOkB, Bool.and_eq_true, decide_eq_true_eq, List.all_eq_true]
  refine ⟨⟨hn, hl⟩, fun x hx => ?_⟩
  obtain ⟨i, hi, rfl⟩ := List.getElem_of_mem hx
  have := hb i
  rw [getD_at hi] at this
  simp only [withinB, Bool.and_eq_true, decide_eq_true_eq]
  omega

theorem chain_of (xs : List Int) : ∀ (a : Int), (∀ x ∈ xs, 0 ≤ x ∧ x < (ps.length : Int)) → (∀ j, j < xs.length → frI ps (xs.getD j 0) = atN ps xs a j) → chain ps a (atN ps xs a xs.length) (stepsI xs) := by
  induction xs with
  | nil => intro a _ _; rfl
  | cons x xs ih =>
    intro a hx hl
    obtain ⟨x0, x1⟩ := hx x (by simp)
    obtain ⟨k, rfl⟩ : ∃ k : Nat, x = (k : Int) := ⟨x.toNat, by omega⟩
    have hk : k < ps.length := by omega
    have h0 := hl 0 (by simp)
    have e0 : ((k : Int) :: xs).getD 0 0 = (k : Int) := rfl
    rw [e0, frI_at hk] at h0
    have hat : ∀ j, atN ps ((k : Int) :: xs) a (j + 1) = atN ps xs ps[k].to j := by
      intro j
      rcases j with _ | j
      · show toI ps (((k : Int) :: xs).getD 0 0) = ps[k].to
        rw [e0, toI_at hk]
      · rfl
    have := ih ps[k].to (fun y hy => hx y (by simp [hy])) (fun j hj => by
      have := hl (j + 1) (by simp; omega)
      rw [hat] at this
      exact this)
    have es : stepsI ((k : Int) :: xs) = (2 * k) :: stepsI xs := by simp [stepsI]
    have st1 : stFr ps (2 * k) = ps[k].fr := by simp [stFr, List.getD_eq_getElem?_getD, hk]
    have st2 : stTo ps (2 * k) = ps[k].to := by simp [stTo, List.getD_eq_getElem?_getD, hk]
    rw [es, List.length_cons, hat]
    exact ⟨by omega, by rw [st1]; exact h0, by rw [st2]; exact this⟩

/-- a thread carries 1 from its one end to the other one -/
theorem thread_exc (v : Int) (h : threadB n ps xs a b = true) : flowOkB n ps (onesL ps xs) = true ∧ exc v ps (onesL ps xs) = (if v = b then 1 else 0) - (if v = a then 1 else 0) := by
  have h' := h
  simp only [threadB, Bool.and_eq_true] at h'
  obtain ⟨⟨⟨⟨he, hw⟩, -⟩, -⟩, -⟩ := h'
  obtain ⟨hn, h1, h5, hp, -⟩ := walk_parts hw
  obtain ⟨hl, -, hb⟩ := (thread_alt he h1 h5 hp).1 h
  refine ⟨ones_flow hn hp h5, ?_⟩
  have hc := chain_of xs a (place_all hp) hl
  rw [hb] at hc
  rw [(ones_push hp h5).1, exc_pushL hn (by simp) hc]
  have hz : exc v ps (List.replicate ps.length 0) = 0 := by
    have := exc_zeros v ps
    rwa [show zeros ps = List.replicate ps.length 0 by first | rfl | simp [zeros, List.map_const']] at this
  rw [hz]
  omega
end

end Go.Proofs.Ytlaeckjfjleplaa
