/- Plain facts. -/
import Derived.Test.YtmgpekdhcghabaaGreatGR16
import Derived.Test.YtmgpekdhcghabaaGreatGR23
import Derived.Test.YtmgpekdhcghabaaGreatGR2
import Derived.Test.YtmgpekdhcghabaaGreatGR27
/- Contracts of the functions of chapter 4 in the model: ThreadOk. -/
namespace Go.Proofs.YtmgpekdhcghabaaGreat
open Go.RowKit

/-- the node that one is at -/
def atN (ps : List Pp) (xs : List Int) (a : Int) : Nat → Int
  | 0 => a
  | j + 1 => toI ps (xs.getD j 0)

section
variable {n a b : Int} {ps : List Pp} {xs : List Int}
theorem nodes_last (h1 : 1 ≤ xs.length) : (nodesI ps xs).getD xs.length 0 = atN ps xs a xs.length := by
  have := nodes_succ (ps := ps) (xs := xs) (j := xs.length - 1) (by omega)
  rw [show xs.length - 1 + 1 = xs.length by omega] at this
  rw [this]
  obtain ⟨m, hm⟩ : ∃ m, xs.length = m + 1 := ⟨xs.length - 1, by omega⟩
  rw [hm]
  rfl

theorem thread_alt (he : endsB n ps a b = true) (h1 : 1 ≤ xs.length) (h5 : xs.length ≤ 5) (hp : placesB ps xs = true) :
    threadB n ps xs a b = true ↔ (∀ j, j < xs.length → frI ps (xs.getD j 0) = atN ps xs a j) ∧ (a :: xs.map (toI ps)).Nodup ∧ atN ps xs a xs.length = b := by
  have hw : walkB n ps xs = linkB ps xs := by simp [walkB, (ends_parts he).1, withinB, hp]; omega
  rw [threadB, hw, he]
  simp only [Bool.and_eq_true, decide_eq_true_eq, true_and]
  rw [nodes_last (a := a) h1, link_iff]
  constructor
  · rintro ⟨⟨⟨hl, h0⟩, hb⟩, hn⟩
    refine ⟨fun j hj => ?_, ?_, hb⟩
    · rcases j with _ | j
      · exact h0
      · exact hl j hj
    · rw [nodesI, h0] at hn; exact hn
  · rintro ⟨hl, hn, hb⟩
    have h0 := hl 0 (by omega)
    refine ⟨⟨⟨fun j hj => hl (j + 1) hj, h0⟩, hb⟩, ?_⟩
    rw [nodesI, h0]; exact hn

theorem thread_no (h : ¬ ((∀ j, j < xs.length → frI ps (xs.getD j 0) = atN ps xs a j) ∧ (a :: xs.map (toI ps)).Nodup)) (he : endsB n ps a b = true) (h1 : 1 ≤ xs.length) (h5 : xs.length ≤ 5) : threadB n ps xs a b = false := by
  rw [Bool.eq_false_iff]
  intro ht
  by_cases hp : placesB ps xs = true
  · have := (thread_alt he h1 h5 hp).1 ht
    exact h ⟨this.1, this.2.1⟩
  · simp [threadB, walk_no3 (n := n) (show placesB ps xs = false by simpa using hp)] at ht
end

set_option maxHeartbeats 4000000 in
set_option maxRecDepth 20000 in
theorem specThreadOk_rd (n i e2 : Int) (v u : Value) (ps : List Pp) (xs : List Int) (b : Nat) (w : World) (hp : Pipes w b v ps) (hx : Reads w u xs) :
    Calls Tryz.prog 33 #[.agg #[.int .i64 n, v], u, .int .i64 i, .int .i64 e2] w fun e w' => e = .returned (.bool (threadB n ps xs i e2)) ∧ Below w.heap.size w w' := by
  have hp0 := hp
  have hx0 := hx
  obtain ⟨A, c, rfl, hcp1, hcp2, hsp, -⟩ := hp.form
  obtain ⟨A0, c0, rfl, hc1, hc2, hsm, -⟩ := hx.form
  unfold maxLen at hc2 hcp2
  have bx0 := Box2.new w (.int .i64 n) (.slice A ps.length c) 25
  go_enter Tryz.func33, Tryz.ntmps33
  go_wp2_with fail
  refine (ends_any n i e2 _ ps b _ (hp0.keep (by (repeat (first | (with_reducible assumption) | (with_reducible exact Below.refl _ _) | ((with_reducible refine Below.alloc ?_ ?hsz _); (case hsz => (first | omega | (simp; done) | (simp; omega) | (simp at *; omega)))) | ((with_reducible refine Below.setCell ?_ ?hsz _); (case hsz => (first | omega | (simp; done) | (simp; omega) | (simp at *; omega)))) | (with_reducible refine Below.drew ?_) | (with_reducible refine below_drewN ?_ _) | ((with_reducible refine Below.trans ?_ (Below.mono (by with_reducible assumption) ?hsz)); (case hsz => (first | omega | (simp; done) | (simp; omega) | (simp at *; omega))))))))).mono ?_
  rintro e w1 ⟨rfl, hb1⟩
  have bx1 := bx0.keep hb1
  have hB1 : Below w.heap.size w w1 := by (repeat (first | (with_reducible assumption) | (with_reducible exact Below.refl _ _) | ((with_reducible refine Below.alloc ?_ ?hsz _); (case hsz => (first | omega | (simp; done) | (simp; omega) | (simp at *; omega)))) | ((with_reducible refine Below.setCell ?_ ?hsz _); (case hsz => (first | omega | (simp; done) | (simp; omega) | (simp at *; omega)))) | (with_reducible refine Below.drew ?_) | (with_reducible refine below_drewN ?_ _) | ((with_reducible refine Below.trans ?_ (Below.mono (by with_reducible assumption) ?hsz)); (case hsz => (first | omega | (simp; done) | (simp; omega) | (simp at *; omega))))))
  obtain ⟨bs, d0, d1, -, -⟩ := id bx1
  clear bx0 hb1
  by_cases hok : endsB n ps i e2 = true
  · rw [hok]
    obtain ⟨hnok, i0, i1, j0, j1, hij⟩ := ends_parts hok
    obtain ⟨n2, n5, hl7, hpo⟩ := netOk_parts hnok
    go_wp2_with fail
    refine (l1In_any (xs.length : Int) 1 5 _).mono ?_
    rintro e w2 ⟨rfl, rfl⟩
    by_cases hin : withinB xs.length 1 5 = true
    · rw [hin]
      have hin' := hin
      simp only [withinB, Bool.and_eq_true, decide_eq_true_eq] at hin'
      have h1 : 1 ≤ xs.length := by omega
      have h5 : xs.length ≤ 5 := by omega
      have HO := Lib.hid (And.intro hok hpo)
      clear hok hin hin' hpo hnok hij
      obtain ⟨I, rfl⟩ : ∃ I : Nat, i = (I : Int) := ⟨i.toNat, by omega⟩
      have HW := Lib.hid (swrap_pow (k := I) (by omega))
      have HS0 := Lib.hid (seen_one I (by omega))
      go_wp2_with fail
      go_loopw [9, 10, 11] (fun nw s t wr => ∃ (k : Nat) (now sd : Int), k ≤ xs.length ∧ t = .int .i64 k ∧ s = .int .i64 sd ∧ nw = .int .i64 now ∧ now = atN ps xs I k ∧ 0 ≤ now ∧ now < n ∧ (∀ x ∈ xs.take k, withinB x 0 ((ps.length : Int) - 1) = true) ∧ (∀ j, j < k → frI ps (xs.getD j 0) = atN ps xs I j) ∧ ((I : Int) :: (xs.take k).map (toI ps)).Nodup ∧ seenOk sd ((I : Int) :: (xs.take k).map (toI ps)) ∧ Box2 wr w.heap.size (.int .i64 n) (.slice A ps.length c) ∧ Below w.heap.size w wr) (fun _ _ t _ => xs.length - (intOf t).toNat)
      case atStart => exact ⟨0, I, 2 ^ I, by omega, rfl, by first | rfl | (rw [HW.out.1]) | (rw [HW.out.2]), rfl, rfl, i0, i1, by simp, fun j hj => absurd hj (by omega), by simp, HS0.out, bx1, hB1⟩
      case round =>
        clear bs d0 d1 bx1 hB1
        obtain ⟨k, now, sd, hk, rfl, rfl, rfl, hnow, a0, a1, hall, hlk, hnd, hse, bx, hB⟩ := hrel
        obtain ⟨bs, d0, d1, -, -⟩ := id bx
        have HR := Lib.hid (And.intro hall (And.intro hlk (And.intro hnd (And.intro hse hnow))))
        obtain ⟨g0, g1, -⟩ := hse
        clear hall hnd hlk hnow
        have hzb := hB.size
        by_cases hlt : k < xs.length
        · obtain ⟨gx, ox, hgx, gx2, cx⟩ := hx0.cellAt hB k hlt
          subst hgx
          have hgxw := Nat.lt_of_lt_of_le gx2 hzb
          by_cases hpl : withinB xs[k] 0 ((ps.length : Int) - 1) = true
          · obtain ⟨q, hq, hql⟩ : ∃ q : Nat, xs[k] = (q : Int) ∧ q < ps.length := by
              have := hpl
              simp only [withinB, Bool.and_eq_true, decide_eq_true_eq] at this
              exact ⟨xs[k].toNat, by omega, by omega⟩
            rw [hq] at cx
            obtain ⟨gp, hgp, gp1, gp2, cf, ct, -, -, -⟩ := hp0.cellAt hB q hql
            subst hgp
            have hgpw := Nat.lt_of_lt_of_le gp2 hzb
            have hfr : frI ps (xs.getD k 0) = ps[q].fr := by rw [getD_at hlt, hq, frI_at hql]
            have hto : toI ps (xs.getD k 0) = ps[q].to := by rw [getD_at hlt, hq, toI_at hql]
            have hto' : toI ps xs[k] = ps[q].to := by rw [hq, toI_at hql]
            obtain ⟨-, -, f0, f1, -⟩ := pipeOk_parts (HO.out.2 _ (List.getElem_mem hql))
            obtain ⟨te, hte⟩ : ∃ te : Nat, ps[q].to = (te : Int) := ⟨ps[q].to.toNat, by omega⟩
            obtain ⟨fa, hfa⟩ : ∃ fa : Int, ps[q].fr = fa := ⟨_, rfl⟩
            rw [hte] at ct f0 f1 hto hto'
            rw [hfa] at cf hfr
            have hsb := shr_bitB g0 te
            have HT := Lib.hid (swrap_pow (k := te) (by omega))
            have Htk := Lib.hid (show (I : Int) :: (xs.take (k + 1)).map (toI ps) = ((I : Int) :: (xs.take k).map (toI ps)) ++ [(te : Int)] by
              rw [List.take_succ_eq_append_getElem hlt, List.map_append, List.map_singleton, hto']; rfl)
            have Hbit := Lib.hid (HR.out.2.2.2.1.2.2 te (by omega))
            have Hall := Lib.hid (all_take (f := fun x : Int => withinB x 0 ((ps.length : Int) - 1)) hlt HR.out.1 hpl)
            have HF := Lib.hid (And.intro hfr hto)
            rw [hq] at hpl
            clear hfr hto hto' hfa hte hq
            by_cases hfn : fa = now
            · have hfb : (fa != now) = false := by simpa using hfn
              have Hlk := Lib.hid (show ∀ j, j < k + 1 → frI ps (xs.getD j 0) = atN ps xs I j by
                intro j hj
                rcases Nat.lt_succ_iff_lt_or_eq.1 hj with h | h
                · exact HR.out.2.1 j h
                · subst h; rw [HF.out.1, hfn]; exact HR.out.2.2.2.2)
              clear hfn
              go_wp2_with fail
              go_quiet ((go_at_call 79; exact Calls.quiet_of_same ((l1In_any _ _ _ _).mono fun _ _ h => ⟨h.1, h.2.symm⟩)))
              go_wp2_with fail
              go_quiet (fail)
              by_cases hbt : bitB sd (te : Int) = true
              · have Hno := Lib.hid (show threadB n ps xs I e2 = false by
                  refine thread_no ?_ HO.out.1 h1 h5
                  rintro ⟨-, hn⟩
                  have h2 : ((I : Int) :: (xs.take (k + 1)).map (toI ps)).Nodup := by
                    rw [List.map_take]
                    exact hn.sublist (List.Sublist.cons_cons _ (List.take_sublist _ _))
                  rw [Htk.out, nodup_snoc] at h2
                  have h3 := Hbit.out
                  rw [hbt] at h3
                  exact h2.2 (of_decide_eq_true h3.symm))
                rw [hbt] at hsb
                clear hbt
                go_wp2
                go_ret
                exact ⟨ret_bool Hno.out.symm, by (repeat (first | (with_reducible assumption) | (with_reducible exact Below.refl _ _) | ((with_reducible refine Below.alloc ?_ ?hsz _); (case hsz => (first | omega | (simp; done) | (simp; omega) | (simp at *; omega)))) | ((with_reducible refine Below.setCell ?_ ?hsz _); (case hsz => (first | omega | (simp; done) | (simp; omega) | (simp at *; omega)))) | (with_reducible refine Below.drew ?_) | (with_reducible refine below_drewN ?_ _) | ((with_reducible refine Below.trans ?_ (Below.mono (by with_reducible assumption) ?hsz)); (case hsz => (first | omega | (simp; done) | (simp; omega) | (simp at *; omega))))))⟩
              · have hbt' : bitB sd (te : Int) = false := by simpa using hbt
                have Hnd := Lib.hid (show ((I : Int) :: (xs.take (k + 1)).map (toI ps)).Nodup by
                  rw [Htk.out, nodup_snoc]
                  refine ⟨HR.out.2.2.1, fun hm => ?_⟩
                  have h3 := Hbit.out
                  rw [hbt'] at h3
                  rw [decide_eq_true hm] at h3
                  cases h3)
                have Hse := Lib.hid (show seenOk (bits .or .i64 sd (2 ^ te)) ((I : Int) :: (xs.take (k + 1)).map (toI ps)) by
                  rw [Htk.out]; exact seen_snoc HR.out.2.2.2.1 (by omega))
                rw [hbt'] at hsb
                clear hbt hbt'
                go_wp2
                go_roundw
                case rel => exact ⟨k + 1, te, _, by omega, by go_num, rfl, rfl, HF.out.2.symm, f0, f1, Hall.out, Hlk.out, Hnd.out, by rw [HT.out.1]; exact Hse.out, bx.keep (by (repeat (first | (with_reducible assumption) | (with_reducible exact Below.refl _ _) | ((with_reducible refine Below.alloc ?_ ?hsz _); (case hsz => (first | omega | (simp; done) | (simp; omega) | (simp at *; omega)))) | ((with_reducible refine Below.setCell ?_ ?hsz _); (case hsz => (first | omega | (simp; done) | (simp; omega) | (simp at *; omega)))) | (with_reducible refine Below.drew ?_) | (with_reducible refine below_drewN ?_ _) | ((with_reducible refine Below.trans ?_ (Below.mono (by with_reducible assumption) ?hsz)); (case hsz => (first | omega | (simp; done) | (simp; omega) | (simp at *; omega))))))), by (repeat (first | (with_reducible assumption) | (with_reducible exact Below.refl _ _) | ((with_reducible refine Below.alloc ?_ ?hsz _); (case hsz => (first | omega | (simp; done) | (simp; omega) | (simp at *; omega)))) | ((with_reducible refine Below.setCell ?_ ?hsz _); (case hsz => (first | omega | (simp; done) | (simp; omega) | (simp at *; omega)))) | (with_reducible refine Below.drew ?_) | (with_reducible refine below_drewN ?_ _) | ((with_reducible refine Below.trans ?_ (Below.mono (by with_reducible assumption) ?hsz)); (case hsz => (first | omega | (simp; done) | (simp; omega) | (simp at *; omega))))))⟩
                case measure => simp [intOf]; omega
            · have hfb : (fa != now) = true := by simpa using hfn
              have Hno := Lib.hid (show threadB n ps xs I e2 = false by
                refine thread_no ?_ HO.out.1 h1 h5
                rintro ⟨hl, -⟩
                have h2 := hl k hlt
                rw [HF.out.1, ← HR.out.2.2.2.2] at h2
                exact hfn h2)
              clear hfn
              go_wp2_with fail
              go_quiet ((go_at_call 79; exact Calls.quiet_of_same ((l1In_any _ _ _ _).mono fun _ _ h => ⟨h.1, h.2.symm⟩)))
              go_wp2
              go_ret
              exact ⟨ret_bool Hno.out.symm, by (repeat (first | (with_reducible assumption) | (with_reducible exact Below.refl _ _) | ((with_reducible refine Below.alloc ?_ ?hsz _); (case hsz => (first | omega | (simp; done) | (simp; omega) | (simp at *; omega)))) | ((with_reducible refine Below.setCell ?_ ?hsz _); (case hsz => (first | omega | (simp; done) | (simp; omega) | (simp at *; omega)))) | (with_reducible refine Below.drew ?_) | (with_reducible refine below_drewN ?_ _) | ((with_reducible refine Below.trans ?_ (Below.mono (by with_reducible assumption) ?hsz)); (case hsz => (first | omega | (simp; done) | (simp; omega) | (simp at *; omega))))))⟩
          · have hpl' : withinB xs[k] 0 ((ps.length : Int) - 1) = false := by simpa using hpl
            have Hno := Lib.hid (show threadB n ps xs I e2 = false by simp [threadB, walk_no3 (n := n) (place_no hlt hpl')])
            generalize xs[k] = y at *
            clear hpl
            go_wp2_with fail
            go_quiet ((go_at_call 79; exact Calls.quiet_of_same ((l1In_any _ _ _ _).mono fun _ _ h => ⟨h.1, h.2.symm⟩)))
            go_wp2
            go_ret
            exact ⟨ret_bool Hno.out.symm, by (repeat (first | (with_reducible assumption) | (with_reducible exact Below.refl _ _) | ((with_reducible refine Below.alloc ?_ ?hsz _); (case hsz => (first | omega | (simp; done) | (simp; omega) | (simp at *; omega)))) | ((with_reducible refine Below.setCell ?_ ?hsz _); (case hsz => (first | omega | (simp; done) | (simp; omega) | (simp at *; omega)))) | (with_reducible refine Below.drew ?_) | (with_reducible refine below_drewN ?_ _) | ((with_reducible refine Below.trans ?_ (Below.mono (by with_reducible assumption) ?hsz)); (case hsz => (first | omega | (simp; done) | (simp; omega) | (simp at *; omega))))))⟩
        · have hkl : k = xs.length := by omega
          subst hkl
          have hpl : placesB ps xs = true := by
            have := HR.out.1
            rw [List.take_length] at this
            exact List.all_eq_true.2 this
          have hr : threadB n ps xs I e2 = (now == e2) := by
            rw [Bool.eq_iff_iff, thread_alt HO.out.1 h1 h5 hpl, beq_iff_eq]
            have h3 := HR.out.2.2.1
            rw [List.take_length] at h3
            rw [← HR.out.2.2.2.2]
            exact ⟨fun h => h.2.2, fun h => ⟨HR.out.2.1, h3, h⟩⟩
          have Hr := Lib.hid hr
          clear hr hpl
          go_wp2
          go_ret
          exact ⟨ret_bool Hr.out.symm, by (repeat (first | (with_reducible assumption) | (with_reducible exact Below.refl _ _) | ((with_reducible refine Below.alloc ?_ ?hsz _); (case hsz => (first | omega | (simp; done) | (simp; omega) | (simp at *; omega)))) | ((with_reducible refine Below.setCell ?_ ?hsz _); (case hsz => (first | omega | (simp; done) | (simp; omega) | (simp at *; omega)))) | (with_reducible refine Below.drew ?_) | (with_reducible refine below_drewN ?_ _) | ((with_reducible refine Below.trans ?_ (Below.mono (by with_reducible assumption) ?hsz)); (case hsz => (first | omega | (simp; done) | (simp; omega) | (simp at *; omega))))))⟩
    · have hin' : withinB xs.length 1 5 = false := by simpa using hin
      rw [hin']
      have Hno := Lib.hid (show threadB n ps xs i e2 = false by simp [threadB, walk_no2 (n := n) (ps := ps) hin'])
      go_wp2
      go_ret
      exact ⟨ret_bool Hno.out.symm, by (repeat (first | (with_reducible assumption) | (with_reducible exact Below.refl _ _) | ((with_reducible refine Below.alloc ?_ ?hsz _); (case hsz => (first | omega | (simp; done) | (simp; omega) | (simp at *; omega)))) | ((with_reducible refine Below.setCell ?_ ?hsz _); (case hsz => (first | omega | (simp; done) | (simp; omega) | (simp at *; omega)))) | (with_reducible refine Below.drew ?_) | (with_reducible refine below_drewN ?_ _) | ((with_reducible refine Below.trans ?_ (Below.mono (by with_reducible assumption) ?hsz)); (case hsz => (first | omega | (simp; done) | (simp; omega) | (simp at *; omega))))))⟩
  · have hok' : endsB n ps i e2 = false := by simpa using hok
    rw [hok']
    have Hno := Lib.hid (show threadB n ps xs i e2 = false by simp [threadB, hok'])
    go_wp2
    go_ret
    exact ⟨ret_bool Hno.out.symm, by (repeat (first | (with_reducible assumption) | (with_reducible exact Below.refl _ _) | ((with_reducible refine Below.alloc ?_ ?hsz _); (case hsz => (first | omega | (simp; done) | (simp; omega) | (simp at *; omega)))) | ((with_reducible refine Below.setCell ?_ ?hsz _); (case hsz => (first | omega | (simp; done) | (simp; omega) | (simp at *; omega)))) | (with_reducible refine Below.drew ?_) | (with_reducible refine below_drewN ?_ _) | ((with_reducible refine Below.trans ?_ (Below.mono (by with_reducible assumption) ?hsz)); (case hsz => (first | omega | (simp; done) | (simp; omega) | (simp at *; omega))))))⟩

end Go.Proofs.YtmgpekdhcghabaaGreat

/- Plain facts of chapter 4: an amount of 1 in each pipe of a walk. -/
namespace Go.Proofs.YtmgpekdhcghabaaGreat
open Go.RowKit

section
variable {n a b : Int} {ps : List Pp} {xs : List Int}

end

end Go.Proofs.YtmgpekdhcghabaaGreat

/- Plain facts of chapter 4: parts are rings and threads, and together they are the flow. -/
namespace Go.Proofs.YtmgpekdhcghabaaGreat
open Go.RowKit

section
variable {n a b c d left : Int} {ps : List Pp} {xs o : List Int} {nodes : List Int} {walk l : List Nat} {k f m : Nat}

def frN (ps : List Pp) (k : Nat) : Int := (ps.getD k zeroPp).fr

theorem natsI_fr : (natsI l).map (frI ps) = l.map (frN ps) := by
  unfold natsI
  rw [List.map_map]
  exact List.map_congr_left fun x _ => by simp [frI, frN]
theorem natsI_getD {i : Nat} (h : i < l.length) : (natsI l).getD i 0 = (l.getD i 0 : Nat) := by
  simp [natsI, List.getD_eq_getElem?_getD, h]
theorem natsI_places (h : ∀ q ∈ l, q < ps.length) : placesB ps (natsI l) = true := by
  simp only [placesB, List.all_eq_true, natsI, List.mem_map]
  rintro x ⟨q, hq, rfl⟩
  have := h q hq
  simp only [withinB, Bool.and_eq_true, decide_eq_true_eq]
  omega
theorem natsI_link (h : linkN ps l) : linkB ps (natsI l) = true := by
  rw [link_iff]
  intro j hj
  have hj2 : j + 1 < l.length := by simpa [natsI] using hj
  have := h j hj2
  rw [natsI_getD hj2, natsI_getD (by omega : j < l.length)]
  simpa [frI, toI] using this
theorem few5 (hn : netOkB n ps = true) (hl : ∀ q ∈ l, q < ps.length) (hfr : (l.map (frN ps)).Nodup) : l.length ≤ 5 := by
  obtain ⟨n2, n5, -, hpo⟩ := netOk_parts hn
  have := nodup_len n.toNat (l.map (frN ps)) hfr (fun x hx => by
    obtain ⟨q, hq, rfl⟩ := List.mem_map.1 hx
    have hql := hl q hq
    have e : (ps.getD q zeroPp) = ps[q] := by simp [List.getD_eq_getElem?_getD, hql]
    obtain ⟨p0, p1, -⟩ := pipeOk_parts (hpo ps[q] (List.getElem_mem hql))
    unfold frN
    rw [e]
    omega)
  rw [List.length_map] at this
  omega

theorem ring_ok (hn : netOkB n ps = true) (hne : l ≠ []) (hl : ∀ q ∈ l, q < ps.length) (hfr : (l.map (frN ps)).Nodup) (hc : closedN ps l) : ringB n ps (natsI l) = true := by
  have h1 := List.length_pos_iff.2 hne
  have h5 := few5 hn hl hfr
  have hlen : (natsI l).length = l.length := by simp [natsI]
  rw [ring_alt hn (by rw [hlen]; omega) (by rw [hlen]; exact h5) (natsI_places hl), natsI_fr, decide_eq_true hfr, Bool.true_and, close_link (by rw [hlen]; omega)]
  refine ⟨natsI_link hc.1, ?_⟩
  rw [hlen]
  obtain ⟨i, hi⟩ : ∃ i, l.length = i + 1 := ⟨l.length - 1, by omega⟩
  rw [hi, nodes_succ (by rw [hlen]; omega), natsI_getD (by omega), natsI_getD (by omega)]
  have := hc.2
  rw [hi, Nat.add_sub_cancel] at this
  simpa [frI, toI] using this

theorem thread_ok (he : endsB n ps a b = true) (hne : l ≠ []) (hl : ∀ q ∈ l, q < ps.length) (hfr : (l.map (frN ps)).Nodup) (hb : b ∉ l.map (frN ps)) (hk : linkN ps l) (ha : (ps.getD (l.getD 0 0) zeroPp).fr = a) (hz : (ps.getD (l.getD (l.length - 1) 0) zeroPp).to = b) : threadB n ps (natsI l) a b = true := by
  have hn := (ends_parts he).1
  have h1 := List.length_pos_iff.2 hne
  have h5 := few5 hn hl hfr
  have hlen : (natsI l).length = l.length := by simp [natsI]
  have hw : walkB n ps (natsI l) = true := by
    simp only [walkB, Bool.and_eq_true]
    refine ⟨⟨⟨hn, ?_⟩, natsI_places hl⟩, natsI_link hk⟩
    rw [hlen]
    simp only [withinB, Bool.and_eq_true, decide_eq_true_eq]
    omega
  have hlast : (nodesI ps (natsI l)).getD (natsI l).length 0 = b := by
    rw [hlen]
    obtain ⟨i, hi⟩ : ∃ i, l.length = i + 1 := ⟨l.length - 1, by omega⟩
    rw [hi, nodes_succ (by rw [hlen]; omega), natsI_getD (by omega)]
    rw [hi, Nat.add_sub_cancel] at hz
    simpa [toI] using hz
  have hnod : (nodesI ps (natsI l)).Nodup := by
    have e : nodesI ps (natsI l) = (nodesI ps (natsI l)).take (natsI l).length ++ [(nodesI ps (natsI l)).getD (natsI l).length 0] := by
      have hz : (natsI l).length < (nodesI ps (natsI l)).length := by rw [nodes_len]; omega
      rw [getD_at hz, ← List.take_succ_eq_append_getElem hz, List.take_of_length_le (by rw [nodes_len]; exact Nat.le_refl _)]
    rw [e, nodup_snoc, nodes_take (natsI_link hk), natsI_fr, hlast]
    exact ⟨hfr, hb⟩
  have h0 : frI ps ((natsI l).getD 0 0) = a := by
    rw [natsI_getD h1]
    simpa [frI] using ha
  simp only [threadB, he, hw, Bool.true_and, Bool.and_eq_true, decide_eq_true_eq]
  exact ⟨⟨h0, hlast⟩, hnod⟩

/-- a ring is no thread -/
theorem ring_no_thread (h : ringB n ps xs = true) : threadB n ps xs a b = false := by
  rcases ht : threadB n ps xs a b with _ | _
  · rfl
  · exfalso
    simp only [ringB, Bool.and_eq_true, decide_eq_true_eq] at h
    simp only [threadB, Bool.and_eq_true, decide_eq_true_eq] at ht
    obtain ⟨⟨⟨⟨he, -⟩, h1⟩, h2⟩, -⟩ := ht
    have hab := (ends_parts he).2.2.2.2.2
    have := h.1.2
    rw [h1, h2] at this
    exact hab this.symm

/-- the end is not gone through -/
theorem go_out (hn0 : 0 ≤ n) (hn : n ≤ 5) (hr : ∀ p ∈ ps, 0 ≤ p.to ∧ p.to < n) (hnext : ∀ v, comeTo ps xs a v → v ≠ c → ∃ q, nextP ps xs v = some q) : ∀ (f : Nat) (nodes : List Int) (walk : List Nat), walkSt n ps xs nodes walk → f + walk.length = 6 → comeTo ps xs a (nodes.getLastD 0) → nodes.getLastD 0 ≠ c → (goP ps xs c f nodes walk).2 < 0 → c ∉ (goP ps xs c f nodes walk).1.map (frN ps) := by
  intro f
  induction f with
  | zero =>
    intro nodes walk h hf _ _ _
    have := h.few hn0
    have := h.1
    omega
  | succ f ih =>
    intro nodes walk h hf hla hlc hneg
    obtain ⟨k, hk⟩ := hnext _ hla hlc
    have hfr := h.fr' hk
    have hkl := (next_parts hk).1
    have e : (ps.getD k zeroPp) = ps[k] := by simp [List.getD_eq_getElem?_getD, hkl]
    have hp := hr ps[k] (List.getElem_mem hkl)
    by_cases hm : (ps.getD k zeroPp).to ∈ nodes
    · rw [go_close hk hm] at hneg
      simp only at hneg
      omega
    · by_cases hc : (ps.getD k zeroPp).to = c
      · rw [go_end hk hm hc]
        have e2 : (walk ++ [k]).map (frN ps) = nodes := hfr
        show c ∉ (walk ++ [k]).map (frN ps)
        rw [e2, ← hc]
        exact hm
      · rw [go_on hk hm hc] at hneg ⊢
        refine ih _ _ (h.on hk hm (by rw [e]; exact hp.1) (by rw [e]; exact hp.2)) (by rw [List.length_append, List.length_singleton]; omega) ?_ ?_ hneg
        · rw [List.getLastD_concat]
          exact .inr ⟨k, hkl, rfl, (next_parts hk).2.2⟩
        · rw [List.getLastD_concat]; exact hc

/-- a ring of a balanced flow -/
theorem bal_ringB (h : balB n ps xs = true) (hk : k < ps.length) (hx : 0 < xs.getD k 0) : ringB n ps (natsI (ringP ps xs k)) = true := by
  have hfl := bal_flow h
  obtain ⟨hn, -, -⟩ := flowOk_parts hfl
  obtain ⟨n2, n5, -, hpo⟩ := netOk_parts hn
  obtain ⟨hend, hne, -, hop⟩ := ring_parts (n := n) (fun p hp => by obtain ⟨p0, p1, p2, p3, -⟩ := pipeOk_parts (hpo p hp); exact ⟨p0, p1, p2, p3⟩) n5 hk hx
  refine ring_ok hn hne (fun q hq => (hop q hq).1) ?_ (bal_ring h hk hx).1
  unfold ringP
  rw [List.map_drop]
  exact hend.1.sublist (List.drop_sublist _ _)

/-- a part is a ring, or a thread -/
theorem PartSt.kind (h : PartSt n ps xs a b left) (h0 : 0 < left) :
    (ringB n ps (natsI (partP ps xs a b)) = true ∧ partL ps xs a b left = left) ∨ (threadB n ps (natsI (partP ps xs a b)) a b = true ∧ partL ps xs a b left = left - partD ps xs a b left) := by
  obtain ⟨hn, hlen, -⟩ := flowOk_parts h.flow
  obtain ⟨-, a0, a1, b0, b1, hab⟩ := ends_parts h.ends
  obtain ⟨n2, n5, -, hpo⟩ := netOk_parts hn
  have hr : ∀ p ∈ ps, 0 ≤ p.to ∧ p.to < n := fun p hp => by obtain ⟨-, -, p2, p3, -⟩ := pipeOk_parts (hpo p hp); exact ⟨p2, p3⟩
  have hst : walkSt n ps xs [a] [] := walk_start a0 a1
  have hlw : linkW ps [a] [] := fun i hi => absurd hi (by simp)
  obtain ⟨hnd, hop, h2, -⟩ : walkEnd ps xs (walkP ps xs a b) := go_ends hr n5 (by omega) 6 _ _ hst
  obtain ⟨hne, -, hpo2, -⟩ := h.step h0
  by_cases hcl : 0 ≤ (walkP ps xs a b).2
  · left
    refine ⟨ring_ok hn hne (fun q hq => (hpo2 q hq).1) ?_ (go_closed 6 _ _ hst hlw hr hcl), by rw [partL, if_pos hcl]⟩
    unfold partP
    rw [List.map_drop]
    exact hnd.sublist (List.drop_sublist _ _)
  · right
    have hneg : (walkP ps xs a b).2 = -1 := by
      rcases h2 with h2 | h2
      · exact h2
      · exact absurd h2.1 hcl
    have hP : partP ps xs a b = (walkP ps xs a b).1 := by unfold partP; rw [hneg]; simp
    obtain ⟨t1, t2, t3, t4⟩ := go_thread (n := n) (c := b) (by omega) n5 hr (h.next h0) 6 _ _ hst hlw rfl rfl (.inl rfl) hab (by have := hneg; unfold walkP at this; omega)
    have t5 := go_out (n := n) (c := b) (by omega) n5 hr (h.next h0) 6 _ _ hst rfl (.inl rfl) hab (by have := hneg; unfold walkP at this; omega)
    refine ⟨?_, by rw [partL, if_neg hcl]⟩
    rw [hP]
    exact thread_ok h.ends t1 (fun q hq => (hop q hq).1) hnd t5 t2 t3 t4

theorem wrap_in {x : Int} (h0 : -1000 ≤ x) (h1 : x ≤ 1000) : wrap64 x = x := by unfold wrap64; omega

/-- what a row, an amount and places behind it, adds -/
theorem takes_at (d0 : 0 ≤ d) (d1 : d ≤ 40) : ∀ (l : List Nat) (o : List Int), o.length = m → l.Nodup → (∀ q ∈ l, q < m) → (∀ i, 0 ≤ o.getD i 0 ∧ o.getD i 0 ≤ 40) → ∀ i, ((natsI l).foldl (take1 m d) o).getD i 0 = o.getD i 0 + if i ∈ l then d else 0 := by
  intro l
  induction l with
  | nil => intro o _ _ _ _ i; simp [natsI]
  | cons q l ih =>
    intro o ho hnd hl hb i
    have hq := hl q (by simp)
    have hnq := (List.nodup_cons.1 hnd).1
    have e1 : (natsI (q :: l)).foldl (take1 m d) o = (natsI l).foldl (take1 m d) (take1 m d o (q : Int)) := rfl
    have e2 : take1 m d o (q : Int) = o.set q (o.getD q 0 + d) := by
      rw [take1, if_pos ⟨by omega, by omega⟩, Int.toNat_natCast, wrap_in (by have := hb q; omega) (by have := hb q; omega)]
    rw [e1, e2]
    -- the places behind it are other ones
    have key : ∀ (l : List Nat) (o o' : List Int), o.length = m → o'.length = m → l.Nodup → (∀ q ∈ l, q < m) → (∀ i, i ∈ l → o.getD i 0 = o'.getD i 0) → (∀ i, i ∈ l → 0 ≤ o.getD i 0 ∧ o.getD i 0 ≤ 40) → ∀ i, ((natsI l).foldl (take1 m d) o).getD i 0 - o.getD i 0 = (if i ∈ l then d else 0) := by
      intro l
      induction l with
      | nil => intro o o' _ _ _ _ _ _ i; simp [natsI]
      | cons r l ih2 =>
        intro o o' h1 h2 h3 h4 h5 h6 i
        have hr := h4 r (by simp)
        have hnr := (List.nodup_cons.1 h3).1
        have e1 : (natsI (r :: l)).foldl (take1 m d) o = (natsI l).foldl (take1 m d) (take1 m d o (r : Int)) := rfl
        have e2 : take1 m d o (r : Int) = o.set r (o.getD r 0 + d) := by
          have := h6 r (by simp)
          rw [take1, if_pos ⟨by omega, by omega⟩, Int.toNat_natCast, wrap_in (by omega) (by omega)]
        rw [e1, e2]
        have hs : ∀ j, j ∈ l → (o.set r (o.getD r 0 + d)).getD j 0 = o.getD j 0 := fun j hj => by
          rw [getD_setN, if_neg]
          rintro ⟨rfl, -⟩
          exact hnr hj
        have := ih2 (o.set r (o.getD r 0 + d)) (o.set r (o.getD r 0 + d)) (by simpa using h1) (by simpa using h1) (List.nodup_cons.1 h3).2 (fun q hq => h4 q (by simp [hq])) (fun _ _ => rfl) (fun j hj => by rw [hs j hj]; exact h6 j (by simp [hj])) i
        by_cases hir : i = r
        · subst hir
          rw [if_neg hnr] at this
          rw [getD_setN, if_pos ⟨rfl, by omega⟩] at this
          rw [if_pos (List.mem_cons_self ..)]
          omega
        · rw [getD_setN, if_neg (fun h => hir h.1.symm)] at this
          have e : (if i ∈ r :: l then d else 0) = (if i ∈ l then d else 0) := by simp [hir]
          rw [e]; exact this
    have h9 := key l (o.set q (o.getD q 0 + d)) (o.set q (o.getD q 0 + d)) (by simpa using ho) (by simpa using ho) (List.nodup_cons.1 hnd).2 (fun r hr => hl r (by simp [hr])) (fun _ _ => rfl) (fun j hj => by
      rw [getD_setN, if_neg]
      · exact hb j
      · rintro ⟨rfl, -⟩; exact hnq hj) i
    by_cases hiq : i = q
    · subst hiq
      rw [if_neg hnq, getD_setN, if_pos ⟨rfl, by omega⟩] at h9
      rw [if_pos (List.mem_cons_self ..)]
      omega
    · rw [getD_setN, if_neg (fun h => hiq h.1.symm)] at h9
      have e : (if i ∈ q :: l then d else 0) = (if i ∈ l then d else 0) := by simp [hiq]
      rw [e]; omega

theorem row_at (d0 : 0 ≤ d) (d1 : d ≤ 40) (ho : o.length = m) (hnd : l.Nodup) (hl : ∀ q ∈ l, q < m) (hb : ∀ i, 0 ≤ o.getD i 0 ∧ o.getD i 0 ≤ 40) (i : Nat) : (takeRow m o (d :: natsI l)).getD i 0 = o.getD i 0 + if i ∈ l then d else 0 :=
  takes_at d0 d1 l o ho hnd hl hb i

theorem pos_zero (hb : ∀ i, 0 ≤ xs.getD i 0) (h : firstP xs = none) (i : Nat) : xs.getD i 0 = 0 := by
  by_cases hi : i < xs.length
  · have h1 := of_decide_eq_false (range_none.1 h i hi)
    have := hb i
    omega
  · simp [List.getD_eq_getElem?_getD, show xs.length ≤ i by omega]

/-- the rings together are the flow -/
theorem rings_sum : ∀ (f : Nat) (xs o : List Int), balB n ps xs = true → posN xs ≤ f → o.length = ps.length → (∀ i, 0 ≤ o.getD i 0 ∧ o.getD i 0 + xs.getD i 0 ≤ 40) → ∀ i, ((ringsP ps f xs).foldl (takeRow ps.length) o).getD i 0 = o.getD i 0 + xs.getD i 0 := by
  intro f
  induction f with
  | zero =>
    intro xs o hbal hp ho hb i
    have hxb := flow_getD (bal_flow hbal)
    have hz : firstP xs = none := by
      rcases hk : firstP xs with _ | k
      · rfl
      · obtain ⟨h1, h2, -⟩ := range_find.1 hk
        have := pos_some h1 (of_decide_eq_true h2)
        omega
    rw [pos_zero (fun i => (hxb i).1) hz i]
    simp [ringsP]
  | succ f ih =>
    intro xs o hbal hp ho hb i
    have hfl := bal_flow hbal
    have hxb := flow_getD hfl
    obtain ⟨hn, hlen, -⟩ := flowOk_parts hfl
    obtain ⟨n2, n5, -, hpo⟩ := netOk_parts hn
    rcases hk : firstP xs with _ | k
    · rw [ringsP, hk, pos_zero (fun i => (hxb i).1) hk i]; simp
    · obtain ⟨h1, h2, -⟩ := range_find.1 hk
      have hx := of_decide_eq_true h2
      have hkl : k < ps.length := by omega
      obtain ⟨-, hne, hnd, hop⟩ := ring_parts (n := n) (fun p hp => by obtain ⟨p0, p1, p2, p3, -⟩ := pipeOk_parts (hpo p hp); exact ⟨p0, p1, p2, p3⟩) n5 hkl hx
      obtain ⟨l1, l2, l3, l4⟩ := ring_less hlen hxb hne hnd hop
      have hbal' := bal_less hbal hkl hx
      have hat := less_at (leastP xs (ringP ps xs k)) (ringP ps xs k) xs hnd (fun q hq => by rw [hlen]; exact (hop q hq).1)
      have hrow := row_at (m := ps.length) (o := o) (l := ringP ps xs k) (by omega) l2 ho hnd (fun q hq => (hop q hq).1) (fun i => by have := hb i; have := hxb i; omega)
      rw [rings_on hk, List.foldl_cons, ih _ _ hbal' (by omega) (by rw [takeRow_len]; exact ho) (fun j => by
        rw [hrow j, hat j]
        have := hb j
        split <;> omega) i, hrow i, hat i]
      omega

/-- what all threads among the rows amount to -/
def sumT (n : Int) (ps : List Pp) (a b : Int) (Ls : List (List Int)) : Int := (Ls.map fun L => if threadB n ps (L.drop 1) a b = true then L.getD 0 0 else 0).sum
theorem sumT_cons {L : List Int} {Ls : List (List Int)} : sumT n ps a b (L :: Ls) = (if threadB n ps (L.drop 1) a b = true then L.getD 0 0 else 0) + sumT n ps a b Ls := by simp [sumT]

theorem rings_rows : ∀ (f : Nat) (xs : List Int), balB n ps xs = true → ∀ L ∈ ringsP ps f xs, ∃ d l, L = d :: natsI l ∧ 1 ≤ d ∧ d ≤ 40 ∧ ringB n ps (natsI l) = true := by
  intro f
  induction f with
  | zero => intro xs _ L hL; simp [ringsP] at hL
  | succ f ih =>
    intro xs hbal L hL
    have hfl := bal_flow hbal
    have hxb := flow_getD hfl
    obtain ⟨hn, hlen, -⟩ := flowOk_parts hfl
    obtain ⟨n2, n5, -, hpo⟩ := netOk_parts hn
    rcases hk : firstP xs with _ | k
    · rw [ringsP, hk] at hL; simp at hL
    · rw [rings_on hk] at hL
      obtain ⟨h1, h2, -⟩ := range_find.1 hk
      have hx := of_decide_eq_true h2
      have hkl : k < ps.length := by omega
      obtain ⟨-, hne, hnd, hop⟩ := ring_parts (n := n) (fun p hp => by obtain ⟨p0, p1, p2, p3, -⟩ := pipeOk_parts (hpo p hp); exact ⟨p0, p1, p2, p3⟩) n5 hkl hx
      obtain ⟨l1, l2, l3, l4⟩ := ring_less hlen hxb hne hnd hop
      rcases List.mem_cons.1 hL with rfl | hL
      · exact ⟨_, _, rfl, by omega, l2, bal_ringB hbal hkl hx⟩
      · exact ih _ (bal_less hbal hkl hx) L hL
theorem rings_sumT (h : balB n ps xs = true) : sumT n ps a b (ringsP ps f xs) = 0 := by
  unfold sumT
  rw [List.map_congr_left (g := fun _ => (0 : Int)) fun L hL => by
    obtain ⟨d, l, rfl, -, -, hr⟩ := rings_rows f xs h L hL
    have : threadB n ps ((d :: natsI l).drop 1) a b = false := ring_no_thread hr
    rw [this]; rfl]
  generalize ringsP ps f xs = Ls
  induction Ls with
  | nil => rfl
  | cons L Ls ih => simpa using ih

/-- the parts together are the flow, and their threads the excess -/
theorem parts_sum : ∀ (f : Nat) (left : Int) (xs o : List Int), PartSt n ps xs a b left → 0 ≤ left → leftN2 xs left < f → o.length = ps.length → (∀ i, 0 ≤ o.getD i 0 ∧ o.getD i 0 + xs.getD i 0 ≤ 40) →
    (∀ i, ((partsP ps a b f left xs).foldl (takeRow ps.length) o).getD i 0 = o.getD i 0 + xs.getD i 0) ∧ sumT n ps a b (partsP ps a b f left xs) = left ∧
    ∀ L ∈ partsP ps a b f left xs, ∃ d l, L = d :: natsI l ∧ 1 ≤ d ∧ d ≤ 40 ∧ (ringB n ps (natsI l) = true ∨ threadB n ps (natsI l) a b = true) := by
  intro f
  induction f with
  | zero => intro left xs o _ _ h; omega
  | succ f ih =>
    intro left xs o hst h0 hM ho hb
    have hxb := flow_getD hst.flow
    obtain ⟨hn, hlen, -⟩ := flowOk_parts hst.flow
    by_cases hl : 0 < left
    · obtain ⟨sne, snd, sop, s6, sD0, sD40, sL0, sst, sM⟩ := hst.step hl
      have hat := less_at (partD ps xs a b left) (partP ps xs a b) xs snd (fun q hq => by rw [hlen]; exact (sop q hq).1)
      have hrow := row_at (m := ps.length) (o := o) (l := partP ps xs a b) (by omega) sD40 ho snd (fun q hq => (sop q hq).1) (fun i => by have := hb i; have := hxb i; omega)
      have e : partsP ps a b (f + 1) left xs = (partD ps xs a b left :: natsI (partP ps xs a b)) :: partsP ps a b f (partL ps xs a b left) (lessP (partD ps xs a b left) xs (partP ps xs a b)) := by rw [partsP, if_pos hl]
      obtain ⟨i1, i2, i3⟩ := ih (partL ps xs a b left) (lessP (partD ps xs a b left) xs (partP ps xs a b)) (takeRow ps.length o (partD ps xs a b left :: natsI (partP ps xs a b))) sst sL0 (by omega) (by rw [takeRow_len]; exact ho) (fun j => by
        rw [hrow j, hat j]
        have := hb j
        split <;> omega)
      have hkind := hst.kind hl
      rw [e]
      refine ⟨fun i => ?_, ?_, fun L hL => ?_⟩
      · rw [List.foldl_cons, i1 i, hrow i, hat i]; omega
      · rw [sumT_cons, i2]
        have e2 : (partD ps xs a b left :: natsI (partP ps xs a b)).drop 1 = natsI (partP ps xs a b) := rfl
        rw [e2]
        rcases hkind with ⟨h1, h2⟩ | ⟨h1, h2⟩
        · rw [ring_no_thread h1, h2, if_neg (by simp)]; omega
        · rw [if_pos h1, h2]
          show partD ps xs a b left + _ = _
          omega
      · rcases List.mem_cons.1 hL with rfl | hL
        · exact ⟨_, _, rfl, by omega, sD40, hkind.imp And.left And.left⟩
        · exact i3 L hL
    · have e : partsP ps a b (f + 1) left xs = ringsL ps xs := by rw [partsP, if_neg hl]
      have hbal := hst.done hl h0
      have hp8 : posN xs ≤ 8 := by
        have := pos_le (xs := xs)
        have := (netOk_parts hn).2.2.1
        omega
      rw [e]
      unfold ringsL
      exact ⟨rings_sum 8 xs o hbal hp8 ho hb, by rw [rings_sumT hbal]; omega, fun L hL => by
        obtain ⟨d, l, h1, h2, h3, h4⟩ := rings_rows 8 xs hbal L hL
        exact ⟨d, l, h1, h2, h3, .inl h4⟩⟩

end

end Go.Proofs.YtmgpekdhcghabaaGreat

/- Plain facts of chapter 11: threads apart. -/
namespace Go.Proofs.YtmgpekdhcghabaaGreat
open Go.RowKit

section
variable {n a b s : Int} {ps us : List Pp} {xs : List Int} {k : Nat}
/-- what each row is: one unit along different pipes that hold it, and no pipe in two rows -/
def oneRows (xs : List Int) (Ls : List (List Int)) : Prop := (∀ L ∈ Ls, ∃ l : List Nat, L = 1 :: natsI l ∧ l.Nodup ∧ ∀ q ∈ l, 0 < xs.getD q 0) ∧ Ls.Pairwise fun L M => ∀ x ∈ L.drop 1, x ∉ M.drop 1
theorem oneRows.cons {l : List Nat} {Ls : List (List Int)} (hnd : l.Nodup) (hl : ∀ q ∈ l, q < xs.length ∧ 0 < xs.getD q 0) (h1 : ∀ i, xs.getD i 0 ≤ 1) (h : oneRows (lessP 1 xs l) Ls) : oneRows xs ((1 :: natsI l) :: Ls) := by
  have hat := less_at 1 l xs hnd (fun q hq => (hl q hq).1)
  refine ⟨fun L hL => ?_, List.pairwise_cons.2 ⟨fun M hM x hx hxM => ?_, h.2⟩⟩
  · rcases List.mem_cons.1 hL with rfl | hL
    · exact ⟨l, rfl, hnd, fun q hq => (hl q hq).2⟩
    · obtain ⟨m, e, hm, hq⟩ := h.1 L hL
      refine ⟨m, e, hm, fun q hqm => ?_⟩
      have := hq q hqm
      rw [hat q] at this
      split at this <;> omega
  · obtain ⟨m, rfl, hm, hq⟩ := h.1 M hM
    obtain ⟨i, hi, rfl⟩ := List.mem_map.1 (show x ∈ natsI l from hx)
    obtain ⟨j, hj, e⟩ := List.mem_map.1 (show ((i : Nat) : Int) ∈ natsI m from hxM)
    have e' : j = i := by omega
    subst e'
    have := hq j hj
    rw [hat j, if_pos hi] at this
    have := h1 j
    omega
theorem rings_unit : ∀ (f : Nat) (xs : List Int), balB n ps xs = true → (∀ i, xs.getD i 0 ≤ 1) → oneRows xs (ringsP ps f xs) := by
  intro f
  induction f with
  | zero => intro xs _ _; exact ⟨fun L hL => by simp [ringsP] at hL, by simp [ringsP]⟩
  | succ f ih =>
    intro xs hbal hx1
    have hfl := bal_flow hbal
    have hxb := flow_getD hfl
    obtain ⟨hn, hlen, -⟩ := flowOk_parts hfl
    obtain ⟨n2, n5, -, hpo⟩ := netOk_parts hn
    rcases hk : firstP xs with _ | k
    · rw [ringsP, hk]; exact ⟨fun L hL => by simp at hL, by simp⟩
    · rw [rings_on hk]
      obtain ⟨h1, h2, -⟩ := range_find.1 hk
      have hx := of_decide_eq_true h2
      have hkl : k < ps.length := by omega
      obtain ⟨-, hne, hnd, hop⟩ := ring_parts (n := n) (fun p hp => by obtain ⟨p0, p1, p2, p3, -⟩ := pipeOk_parts (hpo p hp); exact ⟨p0, p1, p2, p3⟩) n5 hkl hx
      obtain ⟨l1, l2, l3, l4⟩ := ring_less hlen hxb hne hnd hop
      have hd : leastP xs (ringP ps xs k) = 1 := by
        obtain ⟨q, hq⟩ := List.exists_mem_of_ne_nil _ hne
        have h5 := (leastF (xs := xs) (ringP ps xs k) 40).2.1 q hq
        have h6 := hx1 q
        unfold leastP at l1 ⊢
        omega
      have hih := ih _ (bal_less hbal hkl hx) (fun i => by have := l3 i; have := hx1 i; omega)
      rw [hd] at hih ⊢
      exact oneRows.cons hnd (fun q hq => ⟨by rw [hlen]; exact (hop q hq).1, (hop q hq).2⟩) hx1 hih
theorem parts_unit : ∀ (f : Nat) (left : Int) (xs : List Int), PartSt n ps xs a b left → 0 ≤ left → (∀ i, xs.getD i 0 ≤ 1) → oneRows xs (partsP ps a b f left xs) := by
  intro f
  induction f with
  | zero => intro left xs _ _ _; exact ⟨fun L hL => by simp [partsP] at hL, by simp [partsP]⟩
  | succ f ih =>
    intro left xs hst h0 hx1
    have hxb := flow_getD hst.flow
    obtain ⟨hn, hlen, -⟩ := flowOk_parts hst.flow
    by_cases hl : 0 < left
    · obtain ⟨sne, snd, sop, s6, sD0, sD40, sL0, sst, sM⟩ := hst.step hl
      have e : partsP ps a b (f + 1) left xs = (partD ps xs a b left :: natsI (partP ps xs a b)) :: partsP ps a b f (partL ps xs a b left) (lessP (partD ps xs a b left) xs (partP ps xs a b)) := by rw [partsP, if_pos hl]
      have hd : partD ps xs a b left = 1 := by
        obtain ⟨q, hq⟩ := List.exists_mem_of_ne_nil _ sne
        have h5 := (leastF (xs := xs) (partP ps xs a b) 40).2.1 q hq
        have h6 := hx1 q
        have h7 : partD ps xs a b left ≤ leastP xs (partP ps xs a b) := by
          unfold partD
          split
          · exact Int.le_refl _
          · omega
        unfold leastP at h7
        omega
      have hat := less_at (partD ps xs a b left) (partP ps xs a b) xs snd (fun q hq => by rw [hlen]; exact (sop q hq).1)
      have hih := ih _ _ sst sL0 (fun i => by rw [hat i]; have := hx1 i; split <;> omega)
      rw [e]
      rw [hd] at hih ⊢
      exact oneRows.cons snd (fun q hq => ⟨by rw [hlen]; exact (sop q hq).1, (sop q hq).2⟩) hx1 hih
    · have e : partsP ps a b (f + 1) left xs = ringsL ps xs := by rw [partsP, if_neg hl]
      rw [e]
      exact rings_unit 8 xs (hst.done hl h0) hx1

/-- the threads among the parts -/
def threadsL (n : Int) (us : List Pp) (a b : Int) (Ls : List (List Int)) : List (List Int) := (Ls.filter fun L => threadB n us (L.drop 1) a b).map fun L => L.drop 1
theorem threads_snoc {Ls : List (List Int)} {k : Nat} (hk : k < Ls.length) : threadsL n us a b (Ls.take (k + 1)) = threadsL n us a b (Ls.take k) ++ if threadB n us (Ls[k].drop 1) a b = true then [Ls[k].drop 1] else [] := by
  unfold threadsL
  rw [List.take_succ_eq_append_getElem hk, List.filter_append, List.map_append]
  congr 1
  by_cases h : threadB n us (Ls[k].drop 1) a b = true
  · rw [if_pos h, show [Ls[k]].filter (fun L => threadB n us (L.drop 1) a b) = [Ls[k]] from List.filter_cons_of_pos h]; rfl
  · rw [if_neg h, show [Ls[k]].filter (fun L => threadB n us (L.drop 1) a b) = [] from List.filter_cons_of_neg h]; rfl
theorem threads_sum {Ls : List (List Int)} (h : ∀ L ∈ Ls, L.getD 0 0 = 1) : ((threadsL n us a b Ls).length : Int) = sumT n us a b Ls := by
  induction Ls with
  | nil => rfl
  | cons L Ls ih =>
    have ih := ih fun M hM => h M (by simp [hM])
    rw [sumT_cons, ← ih, h L (by simp)]
    unfold threadsL
    by_cases ht : threadB n us (L.drop 1) a b = true
    · rw [show (L :: Ls).filter (fun L => threadB n us (L.drop 1) a b) = L :: Ls.filter (fun L => threadB n us (L.drop 1) a b) from List.filter_cons_of_pos ht, if_pos ht]
      simp only [List.map_cons, List.length_cons]
      omega
    · rw [show (L :: Ls).filter (fun L => threadB n us (L.drop 1) a b) = Ls.filter (fun L => threadB n us (L.drop 1) a b) from List.filter_cons_of_neg ht, if_neg ht]
      omega

/-- the answers of the chapter -/
def apartU (n : Int) (us : List Pp) (a b : Int) : List (List Int) := threadsL n us a b (partsR n us (greatF n us a b) a b)
def apartR (n : Int) (ps : List Pp) (a b : Int) : List (List Int) := if endsB n ps a b = true then apartU n (ps.map unitP) a b else []
theorem unit_great (he : endsB n ps a b = true) : greatB n (ps.map unitP) a b = true := by
  simp only [greatB, Bool.and_eq_true]
  exact ⟨unit_free (ends_parts he).1, unit_ends2 he⟩
/-- what is known of the greatest flow of a unit net, and of its parts -/
theorem great_unit (hg : greatB n us a b = true) (hu : unitB us) :
    (∀ i, 0 ≤ (greatF n us a b).getD i 0 ∧ (greatF n us a b).getD i 0 ≤ 1) ∧ partsOkB n us (greatF n us a b) a b = true ∧
    oneRows (greatF n us a b) (partsR n us (greatF n us a b) a b) ∧ sumT n us a b (partsR n us (greatF n us a b) a b) = greatV n us a b := by
  have hh := great_holds hg
  obtain ⟨-, he⟩ := great_parts hg
  have hn := (ends_parts he).1
  obtain ⟨hl, hi⟩ := (holds_inB hn).1 hh
  have hfl := (holds_parts hh).1
  have h01 : ∀ i, 0 ≤ (greatF n us a b).getD i 0 ∧ (greatF n us a b).getD i 0 ≤ 1 := fun i => by
    by_cases hk : i < us.length
    · have h1 := hi i hk
      have h2 := hu i hk
      rw [getD_el hk] at h2
      omega
    · rw [List.getD_eq_getElem?_getD, List.getElem?_eq_none (by omega)]
      show (0 : Int) ≤ 0 ∧ (0 : Int) ≤ 1
      omega
  have hv : greatV n us a b = exc b us (greatF n us a b) := by rw [greatV, if_pos hg]
  have hv0 : 0 ≤ exc b us (greatF n us a b) := by rw [← hv, great_cut hg]; exact least_blk he hu
  have hok : partsOkB n us (greatF n us a b) a b = true := by
    simp only [partsOkB, flowsB, Bool.and_eq_true, List.all_eq_true, Bool.or_eq_true, decide_eq_true_eq]
    refine ⟨⟨hfl, he⟩, fun k _ => ?_, hv0⟩
    by_cases h1 : (k : Int) = a
    · exact .inl (.inl h1)
    · by_cases h2 : (k : Int) = b
      · exact .inl (.inr h2)
      · exact .inr (great_exc hg _ h1 h2)
  obtain ⟨hst, h0⟩ := PartSt.of hok
  have hR : partsR n us (greatF n us a b) a b = partsP us a b 10 (exc b us (greatF n us a b)) (greatF n us a b) := by rw [partsR, if_pos hok]
  refine ⟨h01, hok, by rw [hR]; exact parts_unit 10 _ _ hst h0 (fun i => (h01 i).2), ?_⟩
  have hM : leftN2 (greatF n us a b) (exc b us (greatF n us a b)) < 10 := by
    have := pos_le (xs := greatF n us a b)
    have := (netOk_parts hn).2.2.1
    unfold leftN2
    split <;> omega
  have h3 := parts_sum 10 (exc b us (greatF n us a b)) (greatF n us a b) (List.replicate us.length 0) hst h0 hM (by simp) (fun i => by
    have h4 : (List.replicate us.length (0 : Int)).getD i 0 = 0 := by
      rw [List.getD_eq_getElem?_getD, List.getElem?_replicate]
      split <;> rfl
    have := h01 i
    omega)
  rw [hR, h3.2.1, hv]
theorem apart_len (hg : greatB n us a b = true) (hu : unitB us) : ((apartU n us a b).length : Int) = leastI n us a b := by
  obtain ⟨-, -, h3, h4⟩ := great_unit hg hu
  rw [apartU, threads_sum (fun L hL => by obtain ⟨l, rfl, -⟩ := h3.1 L hL; rfl), h4, great_cut hg]
theorem threads_mem {Ls : List (List Int)} {T : List Int} (h : T ∈ threadsL n us a b Ls) : ∃ L ∈ Ls, threadB n us T a b = true ∧ T = L.drop 1 := by
  obtain ⟨L, hL, rfl⟩ := List.mem_map.1 h
  obtain ⟨h1, h2⟩ := List.mem_filter.1 hL
  exact ⟨L, h1, h2, rfl⟩
theorem apart_mem (hg : greatB n us a b = true) (hu : unitB us) {T : List Int} (h : T ∈ apartU n us a b) : threadB n us T a b = true ∧ ∃ l : List Nat, T = natsI l ∧ l.Nodup ∧ ∀ q ∈ l, 0 < (greatF n us a b).getD q 0 := by
  obtain ⟨-, -, h3, -⟩ := great_unit hg hu
  obtain ⟨L, hL, h1, rfl⟩ := threads_mem h
  obtain ⟨l, rfl, h2⟩ := h3.1 L hL
  exact ⟨h1, l, rfl, h2⟩
theorem natsI_nodup {l : List Nat} (h : l.Nodup) : (natsI l).Nodup := by
  show (l.map fun s : Nat => (s : Int)).Pairwise (· ≠ ·)
  rw [List.pairwise_map]
  exact h.imp fun h e => h (by omega)
theorem apart_nodup (hg : greatB n us a b = true) (hu : unitB us) : (apartU n us a b).flatten.Nodup := by
  obtain ⟨-, -, h3, -⟩ := great_unit hg hu
  show (apartU n us a b).flatten.Pairwise (· ≠ ·)
  rw [List.pairwise_flatten]
  refine ⟨fun T hT => ?_, ?_⟩
  · obtain ⟨-, l, rfl, hnd, -⟩ := apart_mem hg hu hT
    exact natsI_nodup hnd
  · show (threadsL n us a b _).Pairwise _
    rw [threadsL, List.pairwise_map]
    exact (h3.2.filter _).imp fun {L M} h x hx y hy e => h x hx (by rw [e]; exact hy)
/-- the pipes of a thread hold something -/
theorem apart_holds (hg : greatB n us a b = true) (hu : unitB us) {T : List Int} (h : T ∈ apartU n us a b) : ∀ x ∈ T, ∃ k : Nat, x = (k : Int) ∧ k < us.length ∧ 0 < (us.getD k zeroPp).mo ∧ 0 < (greatF n us a b).getD k 0 := by
  obtain ⟨-, l, rfl, -, hq⟩ := apart_mem hg hu h
  obtain ⟨hl, hi⟩ := (holds_inB (ends_parts (great_parts hg).2).1).1 (great_holds hg)
  intro x hx
  obtain ⟨k, hk, rfl⟩ := List.mem_map.1 (show x ∈ l.map fun s : Nat => (s : Int) from hx)
  have h1 := hq k hk
  have hkl : k < us.length := by
    apply Classical.byContradiction
    intro hn
    rw [List.getD_eq_getElem?_getD, List.getElem?_eq_none (by omega)] at h1
    exact absurd h1 (by show ¬ (0 : Int) < 0; omega)
  have h2 := hi k hkl
  exact ⟨k, rfl, hkl, by rw [getD_el hkl]; omega, h1⟩

end

end Go.Proofs.YtmgpekdhcghabaaGreat
