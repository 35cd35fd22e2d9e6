/- Contracts of the functions of chapter 4 in the model: ThreadOk. -/
import Derived.Test.YtjchklfpdjcgoaaT1
namespace Go.Proofs.Ytjchklfpdjcgoaa
open Go.RowKit

/-- the node that one is at -/
def atN (ps : List Pp) (xs : List Int) (a : Int) : Nat → Int
  | 0 => a
  | j + 1 => toI ps (xs.getD j 0)

section
variable {n a b : Int} {ps : List Pp} {xs : List Int}
theorem nodes_last (h1 : 1 ≤ xs.length) : (nodesI ps xs).getD xs.length 0 = atN ps xs a xs.length := by
  have := nodes_succ (ps := ps) (xs := xs) (j := xs.length - 1) (by omega)
  rw [show xs.length - 1 + 1 = xs.length by omega] at this
  rw [this]
  obtain ⟨m, hm⟩ : ∃ m, xs.length = m + 1 := ⟨xs.length - 1, by omega⟩
  rw [hm]
  rfl

theorem thread_alt (he : endsB n ps a b = true) (h1 : 1 ≤ xs.length) (h5 : xs.length ≤ 5) (hp : placesB ps xs = true) :
    threadB n ps xs a b = true ↔ (∀ j, j < xs.length → frI ps (xs.getD j 0) = atN ps xs a j) ∧ (a :: xs.map (toI ps)).Nodup ∧ atN ps xs a xs.length = b := by
  have hw : walkB n ps xs = linkB ps xs := by simp [walkB, (ends_parts he).1, withinB, hp]; omega
  rw [threadB, hw, he]
  simp only [Bool.and_eq_true, decide_eq_true_eq, true_and]
  rw [nodes_last (a := a) h1, link_iff]
  constructor
  · rintro ⟨⟨⟨hl, h0⟩, hb⟩, hn⟩
    refine ⟨fun j hj => ?_, ?_, hb⟩
    · rcases j with _ | j
      · exact h0
      · exact hl j hj
    · rw [nodesI, h0] at hn; exact hn
  · rintro ⟨hl, hn, hb⟩
    have h0 := hl 0 (by omega)
    refine ⟨⟨⟨fun j hj => hl (j + 1) hj, h0⟩, hb⟩, ?_⟩
    rw [nodesI, h0]; exact hn

theorem thread_no (h : ¬ ((∀ j, j < xs.length → frI ps (xs.getD j 0) = atN ps xs a j) ∧ (a :: xs.map (toI ps)).Nodup)) (he : endsB n ps a b = true) (h1 : 1 ≤ xs.length) (h5 : xs.length ≤ 5) : threadB n ps xs a b = false := by
  rw [Bool.eq_false_iff]
  intro ht
  by_cases hp : placesB ps xs = true
  · have := (thread_alt he h1 h5 hp).1 ht
    exact h ⟨this.1, this.2.1⟩
  · simp [threadB, walk_no3 (n := n) (show placesB ps xs = false by simpa using hp)] at ht
end

set_option maxHeartbeats 4000000 in
set_option maxRecDepth 20000 in
theorem specThreadOk_rd (n i e2 : Int) (v u : Value) (ps : List Pp) (xs : List Int) (b : Nat) (w : World) (hp : Pipes w b v ps) (hx : Reads w u xs) :
    Calls Try.prog 15 #[.agg #[.int .i64 n, v], u, .int .i64 i, .int .i64 e2] w fun e w' => e = .returned (.bool (threadB n ps xs i e2)) ∧ Below w.heap.size w w' := by
  have hp0 := hp
  have hx0 := hx
  obtain ⟨A, c, rfl, hcp1, hcp2, hsp, -⟩ := hp.form
  obtain ⟨A0, c0, rfl, hc1, hc2, hsm, -⟩ := hx.form
  unfold maxLen at hc2 hcp2
  have bx0 := Box2.new w (.int .i64 n) (.slice A ps.length c) 25
  go_enter Try.func15, Try.ntmps15
  go_wp2_with fail
  refine (ends_any n i e2 _ ps b _ (hp0.keep (by (repeat (first | (with_reducible assumption) | (with_reducible exact Below.refl _ _) | ((with_reducible refine Below.alloc ?_ ?hsz _); (case hsz => (first | omega | (simp; done) | (simp; omega) | (simp at *; omega)))) | ((with_reducible refine Below.setCell ?_ ?hsz _); (case hsz => (first | omega | (simp; done) | (simp; omega) | (simp at *; omega)))) | (with_reducible refine Below.drew ?_) | (with_reducible refine below_drewN ?_ _) | ((with_reducible refine Below.trans ?_ (Below.mono (by with_reducible assumption) ?hsz)); (case hsz => (first | omega | (simp; done) | (simp; omega) | (simp at *; omega))))))))).mono ?_
  rintro e w1 ⟨rfl, hb1⟩
  have bx1 := bx0.keep hb1
  have hB1 : Below w.heap.size w w1 := by (repeat (first | (with_reducible assumption) | (with_reducible exact Below.refl _ _) | ((with_reducible refine Below.alloc ?_ ?hsz _); (case hsz => (first | omega | (simp; done) | (simp; omega) | (simp at *; omega)))) | ((with_reducible refine Below.setCell ?_ ?hsz _); (case hsz => (first | omega | (simp; done) | (simp; omega) | (simp at *; omega)))) | (with_reducible refine Below.drew ?_) | (with_reducible refine below_drewN ?_ _) | ((with_reducible refine Below.trans ?_ (Below.mono (by with_reducible assumption) ?hsz)); (case hsz => (first | omega | (simp; done) | (simp; omega) | (simp at *; omega))))))
  obtain ⟨bs, d0, d1, -, -⟩ := id bx1
  clear bx0 hb1
  by_cases hok : endsB n ps i e2 = true
  · rw [hok]
    obtain ⟨hnok, i0, i1, j0, j1, hij⟩ := ends_parts hok
    obtain ⟨n2, n5, hl7, hpo⟩ := netOk_parts hnok
    go_wp2_with fail
    refine (l1In_any (xs.length : Int) 1 5 _).mono ?_
    rintro e w2 ⟨rfl, rfl⟩
    by_cases hin : withinB xs.length 1 5 = true
    · rw [hin]
      have hin' := hin
      simp only [withinB, Bool.and_eq_true, decide_eq_true_eq] at hin'
      have h1 : 1 ≤ xs.length := by omega
      have h5 : xs.length ≤ 5 := by omega
      have HO := Lib.hid (And.intro hok hpo)
      clear hok hin hin' hpo hnok hij
      obtain ⟨I, rfl⟩ : ∃ I : Nat, i = (I : Int) := ⟨i.toNat, by omega⟩
      have HW := Lib.hid (swrap_pow (k := I) (by omega))
      have HS0 := Lib.hid (seen_one I (by omega))
      go_wp2_with fail
      go_loopw [9, 10, 11] (fun nw s t wr => ∃ (k : Nat) (now sd : Int), k ≤ xs.length ∧ t = .int .i64 k ∧ s = .int .i64 sd ∧ nw = .int .i64 now ∧ now = atN ps xs I k ∧ 0 ≤ now ∧ now < n ∧ (∀ x ∈ xs.take k, withinB x 0 ((ps.length : Int) - 1) = true) ∧ (∀ j, j < k → frI ps (xs.getD j 0) = atN ps xs I j) ∧ ((I : Int) :: (xs.take k).map (toI ps)).Nodup ∧ seenOk sd ((I : Int) :: (xs.take k).map (toI ps)) ∧ Box2 wr w.heap.size (.int .i64 n) (.slice A ps.length c) ∧ Below w.heap.size w wr) (fun _ _ t _ => xs.length - (intOf t).toNat)
      case atStart => exact ⟨0, I, 2 ^ I, by omega, rfl, by first | rfl | (rw [HW.out.1]) | (rw [HW.out.2]), rfl, rfl, i0, i1, by simp, fun j hj => absurd hj (by omega), by simp, HS0.out, bx1, hB1⟩
      case round =>
        clear bs d0 d1 bx1 hB1
        obtain ⟨k, now, sd, hk, rfl, rfl, rfl, hnow, a0, a1, hall, hlk, hnd, hse, bx, hB⟩ := hrel
        obtain ⟨bs, d0, d1, -, -⟩ := id bx
        have HR := Lib.hid (And.intro hall (And.intro hlk (And.intro hnd (And.intro hse hnow))))
        obtain ⟨g0, g1, -⟩ := hse
        clear hall hnd hlk hnow
        have hzb := hB.size
        by_cases hlt : k < xs.length
        · obtain ⟨gx, ox, hgx, gx2, cx⟩ := hx0.cellAt hB k hlt
          subst hgx
          have hgxw := Nat.lt_of_lt_of_le gx2 hzb
          by_cases hpl : withinB xs[k] 0 ((ps.length : Int) - 1) = true
          · obtain ⟨q, hq, hql⟩ : ∃ q : Nat, xs[k] = (q : Int) ∧ q < ps.length := by
              have := hpl
              simp only [withinB, Bool.and_eq_true, decide_eq_true_eq] at this
              exact ⟨xs[k].toNat, by omega, by omega⟩
            rw [hq] at cx
            obtain ⟨gp, hgp, gp1, gp2, cf, ct, -, -, -⟩ := hp0.cellAt hB q hql
            subst hgp
            have hgpw := Nat.lt_of_lt_of_le gp2 hzb
            have hfr : frI ps (xs.getD k 0) = ps[q].fr := by rw [getD_at hlt, hq, frI_at hql]
            have hto : toI ps (xs.getD k 0) = ps[q].to := by rw [getD_at hlt, hq, toI_at hql]
            have hto' : toI ps xs[k] = ps[q].to := by rw [hq, toI_at hql]
            obtain ⟨-, -, f0, f1, -⟩ := pipeOk_parts (HO.out.2 _ (List.getElem_mem hql))
            obtain ⟨te, hte⟩ : ∃ te : Nat, ps[q].to = (te : Int) := ⟨ps[q].to.toNat, by omega⟩
            obtain ⟨fa, hfa⟩ : ∃ fa : Int, ps[q].fr = fa := ⟨_, rfl⟩
            rw [hte] at ct f0 f1 hto hto'
            rw [hfa] at cf hfr
            have hsb := shr_bitB g0 te
            have HT := Lib.hid (swrap_pow (k := te) (by omega))
            have Htk := Lib.hid (show (I : Int) :: (xs.take (k + 1)).map (toI ps) = ((I : Int) :: (xs.take k).map (toI ps)) ++ [(te : Int)] by
              rw [List.take_succ_eq_append_getElem hlt, List.map_append, List.map_singleton, hto']; rfl)
            have Hbit := Lib.hid (HR.out.2.2.2.1.2.2 te (by omega))
            have Hall := Lib.hid (all_take (f := fun x : Int => withinB x 0 ((ps.length : Int) - 1)) hlt HR.out.1 hpl)
            have HF := Lib.hid (And.intro hfr hto)
            rw [hq] at hpl
            clear hfr hto hto' hfa hte hq
            by_cases hfn : fa = now
            · have hfb : (fa != now) = false := by simpa using hfn
              have Hlk := Lib.hid (show ∀ j, j < k + 1 → frI ps (xs.getD j 0) = atN ps xs I j by
                intro j hj
                rcases Nat.lt_succ_iff_lt_or_eq.1 hj with h | h
                · exact HR.out.2.1 j h
                · subst h; rw [HF.out.1, hfn]; exact HR.out.2.2.2.2)
              clear hfn
              go_wp2_with fail
              go_quiet ((go_at_call 31; exact Calls.quiet_of_same ((l1In_any _ _ _ _).mono fun _ _ h => ⟨h.1, h.2.symm⟩)))
              go_wp2_with fail
              go_quiet (fail)
              by_cases hbt : bitB sd (te : Int) = true
              · have Hno := Lib.hid (show threadB n ps xs I e2 = false by
                  refine thread_no ?_ HO.out.1 h1 h5
                  rintro ⟨-, hn⟩
                  have h2 : ((I : Int) :: (xs.take (k + 1)).map (toI ps)).Nodup := by
                    rw [List.map_take]
                    exact hn.sublist (List.Sublist.cons_cons _ (List.take_sublist _ _))
                  rw [Htk.out, nodup_snoc] at h2
                  have h3 := Hbit.out
                  rw [hbt] at h3
                  exact h2.2 (of_decide_eq_true h3.symm))
                rw [hbt] at hsb
                clear hbt
                go_wp2
                go_ret
                exact ⟨ret_bool Hno.out.symm, by (repeat (first | (with_reducible assumption) | (with_reducible exact Below.refl _ _) | ((with_reducible refine Below.alloc ?_ ?hsz _); (case hsz => (first | omega | (simp; done) | (simp; omega) | (simp at *; omega)))) | ((with_reducible refine Below.setCell ?_ ?hsz _); (case hsz => (first | omega | (simp; done) | (simp; omega) | (simp at *; omega)))) | (with_reducible refine Below.drew ?_) | (with_reducible refine below_drewN ?_ _) | ((with_reducible refine Below.trans ?_ (Below.mono (by with_reducible assumption) ?hsz)); (case hsz => (first | omega | (simp; done) | (simp; omega) | (simp at *; omega))))))⟩
              · have hbt' : bitB sd (te : Int) = false := by simpa using hbt
                have Hnd := Lib.hid (show ((I : Int) :: (xs.take (k + 1)).map (toI ps)).Nodup by
                  rw [Htk.out, nodup_snoc]
                  refine ⟨HR.out.2.2.1, fun hm => ?_⟩
                  have h3 := Hbit.out
                  rw [hbt'] at h3
                  rw [decide_eq_true hm] at h3
                  cases h3)
                have Hse := Lib.hid (show seenOk (bits .or .i64 sd (2 ^ te)) ((I : Int) :: (xs.take (k + 1)).map (toI ps)) by
                  rw [Htk.out]; exact seen_snoc HR.out.2.2.2.1 (by omega))
                rw [hbt'] at hsb
                clear hbt hbt'
                go_wp2
                go_roundw
                case rel => exact ⟨k + 1, te, _, by omega, by go_num, rfl, rfl, HF.out.2.symm, f0, f1, Hall.out, Hlk.out, Hnd.out, by rw [HT.out.1]; exact Hse.out, bx.keep (by (repeat (first | (with_reducible assumption) | (with_reducible exact Below.refl _ _) | ((with_reducible refine Below.alloc ?_ ?hsz _); (case hsz => (first | omega | (simp; done) | (simp; omega) | (simp at *; omega)))) | ((with_reducible refine Below.setCell ?_ ?hsz _); (case hsz => (first | omega | (simp; done) | (simp; omega) | (simp at *; omega)))) | (with_reducible refine Below.drew ?_) | (with_reducible refine below_drewN ?_ _) | ((with_reducible refine Below.trans ?_ (Below.mono (by with_reducible assumption) ?hsz)); (case hsz => (first | omega | (simp; done) | (simp; omega) | (simp at *; omega))))))), by (repeat (first | (with_reducible assumption) | (with_reducible exact Below.refl _ _) | ((with_reducible refine Below.alloc ?_ ?hsz _); (case hsz => (first | omega | (simp; done) | (simp; omega) | (simp at *; omega)))) | ((with_reducible refine Below.setCell ?_ ?hsz _); (case hsz => (first | omega | (simp; done) | (simp; omega) | (simp at *; omega)))) | (with_reducible refine Below.drew ?_) | (with_reducible refine below_drewN ?_ _) | ((with_reducible refine Below.trans ?_ (Below.mono (by with_reducible assumption) ?hsz)); (case hsz => (first | omega | (simp; done) | (simp; omega) | (simp at *; omega))))))⟩
                case measure => simp [intOf]; omega
            · have hfb : (fa != now) = true := by simpa using hfn
              have Hno := Lib.hid (show threadB n ps xs I e2 = false by
                refine thread_no ?_ HO.out.1 h1 h5
                rintro ⟨hl, -⟩
                have h2 := hl k hlt
                rw [HF.out.1, ← HR.out.2.2.2.2] at h2
                exact hfn h2)
              clear hfn
              go_wp2_with fail
              go_quiet ((go_at_call 31; exact Calls.quiet_of_same ((l1In_any _ _ _ _).mono fun _ _ h => ⟨h.1, h.2.symm⟩)))
              go_wp2
              go_ret
              exact ⟨ret_bool Hno.out.symm, by (repeat (first | (with_reducible assumption) | (with_reducible exact Below.refl _ _) | ((with_reducible refine Below.alloc ?_ ?hsz _); (case hsz => (first | omega | (simp; done) | (simp; omega) | (simp at *; omega)))) | ((with_reducible refine Below.setCell ?_ ?hsz _); (case hsz => (first | omega | (simp; done) | (simp; omega) | (simp at *; omega)))) | (with_reducible refine Below.drew ?_) | (with_reducible refine below_drewN ?_ _) | ((with_reducible refine Below.trans ?_ (Below.mono (by with_reducible assumption) ?hsz)); (case hsz => (first | omega | (simp; done) | (simp; omega) | (simp at *; omega))))))⟩
          · have hpl' : withinB xs[k] 0 ((ps.length : Int) - 1) = false := by simpa using hpl
            have Hno := Lib.hid (show threadB n ps xs I e2 = false by simp [threadB, walk_no3 (n := n) (place_no hlt hpl')])
            generalize xs[k] = y at *
            clear hpl
            go_wp2_with fail
            go_quiet ((go_at_call 31; exact Calls.quiet_of_same ((l1In_any _ _ _ _).mono fun _ _ h => ⟨h.1, h.2.symm⟩)))
            go_wp2
            go_ret
            exact ⟨ret_bool Hno.out.symm, by (repeat (first | (with_reducible assumption) | (with_reducible exact Below.refl _ _) | ((with_reducible refine Below.alloc ?_ ?hsz _); (case hsz => (first | omega | (simp; done) | (simp; omega) | (simp at *; omega)))) | ((with_reducible refine Below.setCell ?_ ?hsz _); (case hsz => (first | omega | (simp; done) | (simp; omega) | (simp at *; omega)))) | (with_reducible refine Below.drew ?_) | (with_reducible refine below_drewN ?_ _) | ((with_reducible refine Below.trans ?_ (Below.mono (by with_reducible assumption) ?hsz)); (case hsz => (first | omega | (simp; done) | (simp; omega) | (simp at *; omega))))))⟩
        · have hkl : k = xs.length := by omega
          subst hkl
          have hpl : placesB ps xs = true := by
            have := HR.out.1
            rw [List.take_length] at this
            exact List.all_eq_true.2 this
          have hr : threadB n ps xs I e2 = (now == e2) := by
            rw [Bool.eq_iff_iff, thread_alt HO.out.1 h1 h5 hpl, beq_iff_eq]
            have h3 := HR.out.2.2.1
            rw [List.take_length] at h3
            rw [← HR.out.2.2.2.2]
            exact ⟨fun h => h.2.2, fun h => ⟨HR.out.2.1, h3, h⟩⟩
          have Hr := Lib.hid hr
          clear hr hpl
          go_wp2
          go_ret
          exact ⟨ret_bool Hr.out.symm, by (repeat (first | (with_reducible assumption) | (with_reducible exact Below.refl _ _) | ((with_reducible refine Below.alloc ?_ ?hsz _); (case hsz => (first | omega | (simp; done) | (simp; omega) | (simp at *; omega)))) | ((with_reducible refine Below.setCell ?_ ?hsz _); (case hsz => (first | omega | (simp; done) | (simp; omega) | (simp at *; omega)))) | (with_reducible refine Below.drew ?_) | (with_reducible refine below_drewN ?_ _) | ((with_reducible refine Below.trans ?_ (Below.mono (by with_reducible assumption) ?hsz)); (case hsz => (first | omega | (simp; done) | (simp; omega) | (simp at *; omega))))))⟩
    · have hin' : withinB xs.length 1 5 = false := by simpa using hin
      rw [hin']
      have Hno := Lib.hid (show threadB n ps xs i e2 = false by simp [threadB, walk_no2 (n := n) (ps := ps) hin'])
      go_wp2
      go_ret
      exact ⟨ret_bool Hno.out.symm, by (repeat (first | (with_reducible assumption) | (with_reducible exact Below.refl _ _) | ((with_reducible refine Below.alloc ?_ ?hsz _); (case hsz => (first | omega | (simp; done) | (simp; omega) | (simp at *; omega)))) | ((with_reducible refine Below.setCell ?_ ?hsz _); (case hsz => (first | omega | (simp; done) | (simp; omega) | (simp at *; omega)))) | (with_reducible refine Below.drew ?_) | (with_reducible refine below_drewN ?_ _) | ((with_reducible refine Below.trans ?_ (Below.mono (by with_reducible assumption) ?hsz)); (case hsz => (first | omega | (simp; done) | (simp; omega) | (simp at *; omega))))))⟩
  · have hok' : endsB n ps i e2 = false := by simpa using hok
    rw [hok']
    have Hno := Lib.hid (show threadB n ps xs i e2 = false by simp [threadB, hok'])
    go_wp2
    go_ret
    exact ⟨ret_bool Hno.out.symm, by (repeat (first | (with_reducible assumption) | (with_reducible exact Below.refl _ _) | ((with_reducible refine Below.alloc ?_ ?hsz _); (case hsz => (first | omega | (simp; done) | (simp; omega) | (simp at *; omega)))) | ((with_reducible refine Below.setCell ?_ ?hsz _); (case hsz => (first | omega | (simp; done) | (simp; omega) | (simp at *; omega)))) | (with_reducible refine Below.drew ?_) | (with_reducible refine below_drewN ?_ _) | ((with_reducible refine Below.trans ?_ (Below.mono (by with_reducible assumption) ?hsz)); (case hsz => (first | omega | (simp; done) | (simp; omega) | (simp at *; omega))))))⟩

theorem specThreadOk_any (n i e2 : Int) (v u : Value) (ps : List Pp) (xs : List Int) (b b' : Nat) (w : World) (hp : Pipes w b v ps) (hx : Ints w b' u xs) :
    Calls Try.prog 15 #[.agg #[.int .i64 n, v], u, .int .i64 i, .int .i64 e2] w fun e w' => e = .returned (.bool (threadB n ps xs i e2)) ∧ Below w.heap.size w w' :=
  specThreadOk_rd n i e2 v u ps xs b w hp hx.reads

end Go.Proofs.Ytjchklfpdjcgoaa
