/- Plain facts. -/
import Derived.Test.YtobbeofibkpbaaaGZ3
import Derived.Test.YtobbeofibkpbaaaGZ21
import Derived.Test.YtobbeofibkpbaaaGZ25
import Derived.Test.YtobbeofibkpbaaaGZ42
import Derived.Test.YtobbeofibkpbaaaGZ12
import Derived.Test.YtobbeofibkpbaaaGZ46
/- Contracts of the functions of chapter 3 in the model: ReachedFrom. -/
namespace Go.Proofs.Ytobbeofibkpbaaa
open Go.RowKit

theorem sreach_no1 {n : Int} {ps : List Pp} {xs : List Int} {a : Int} (h : holdsB n ps xs = false) : reachS n ps xs a = -1 := by rw [reachS, if_neg (by simp [reachB, h])]
theorem sreach_no2 {n : Int} {ps : List Pp} {xs : List Int} {a : Int} (h : withinB a 0 (n - 1) = false) : reachS n ps xs a = -1 := by rw [reachS, if_neg (by simp [reachB, h])]

/-- a side that holds what is reached in so many rounds and some steps, and no more -/
def growOk (n : Int) (ps : List Pp) (xs : List Int) (a : Int) (r k : Nat) (s : Int) : Prop :=
  0 ≤ s ∧ s ≤ 2 ^ n.toNat - 1 ∧ (∀ v : Nat, (v : Int) < n → bitB s (v : Int) = true → ∃ m, inK (edgL ps xs) m a (v : Int) = true) ∧ (∀ v : Nat, (v : Int) < n → inK (edgL ps xs) r a (v : Int) = true → bitB s (v : Int) = true) ∧
    ∀ t ∈ opens ps xs k, inK (edgL ps xs) r a (stFr ps t) = true → bitB s (stTo ps t) = true

section
variable {n : Int} {ps : List Pp} {xs : List Int} {a : Int} {r k : Nat} {s : Int}
theorem grow_start (hn : netOkB n ps = true) (a0 : 0 ≤ a) (a1 : a < n) : growOk n ps xs a 0 0 (2 ^ a.toNat) := by
  have h := netOk_parts hn
  obtain ⟨p0, p1⟩ := pow_side (n := n) a0 a1
  refine ⟨p0, p1, ?_, ?_, by simp [opens]⟩
  · intro v hv hb
    have := pow_bit (k := a.toNat) (v := v) (by omega) (by omega)
    rw [this] at hb
    have hva : v = a.toNat := by simpa using hb
    have e : (v : Int) = a := by omega
    rw [e]; exact ⟨0, inK_self 0⟩
  · intro v hv hin
    have e : a = (v : Int) := by simpa [inK] using hin
    rw [pow_bit (by omega) (by omega)]
    simp; omega
theorem grow_round (h : growOk n ps xs a r (2 * ps.length) s) : growOk n ps xs a (r + 1) 0 s := by
  obtain ⟨h0, h1, h2, h3, h4⟩ := h
  refine ⟨h0, h1, h2, ?_, by simp [opens]⟩
  intro v hv hin
  rcases inK_last hin with hin | ⟨e, he, hev, hin⟩
  · exact h3 v hv hin
  · obtain ⟨t, ht, hr, hf, hto⟩ := edg_mem.1 he
    rw [← hev, ← hto]
    exact h4 t (stL_mem.2 ⟨ht, hr⟩) (by rw [hf]; exact hin)
theorem grow_no (h : growOk n ps xs a r k s) (hk : k < 2 * ps.length) (hn : netOkB n ps = true) (hc : openF ps xs k = true → bitB s (stFr ps k) = false) : growOk n ps xs a r (k + 1) s := by
  obtain ⟨h0, h1, h2, h3, h4⟩ := h
  refine ⟨h0, h1, h2, h3, ?_⟩
  intro t ht hin
  by_cases ho : openF ps xs k = true
  · rw [opens_yes ho] at ht
    rcases List.mem_append.1 ht with ht | ht
    · exact h4 t ht hin
    · simp at ht; subst ht
      obtain ⟨⟨e0, e1⟩, -, -⟩ := st_ends hn hk
      have e : (((stFr ps t).toNat : Nat) : Int) = stFr ps t := by omega
      have := h3 (stFr ps t).toNat (by omega) (by rw [e]; exact hin)
      rw [e, hc ho] at this; cases this
  · rw [opens_no (by simpa using ho)] at ht
    exact h4 t ht hin
theorem grow_yes (h : growOk n ps xs a r k s) (hk : k < 2 * ps.length) (hn : netOkB n ps = true) (ho : openF ps xs k = true) (hb : bitB s (stFr ps k) = true) : growOk n ps xs a r (k + 1) (bits .or .i64 s (2 ^ (stTo ps k).toNat)) := by
  have hp := netOk_parts hn
  obtain ⟨h0, h1, h2, h3, h4⟩ := h
  obtain ⟨⟨e0, e1⟩, ⟨t0, t1⟩, -⟩ := st_ends hn hk
  obtain ⟨p0, p1⟩ := pow_side (n := n) t0 t1
  have h5 := pow_le5 (n := n) (by omega)
  obtain ⟨q0, q1⟩ := or_in' (n := n) (by omega) (by omega) h0 h1 p0 p1
  have hor : ∀ v : Nat, (v : Int) < n → bitB (bits .or .i64 s (2 ^ (stTo ps k).toNat)) (v : Int) = (bitB s (v : Int) || decide (v = (stTo ps k).toNat)) := fun v hv => by
    rw [or_bit' h0 (by omega) p0 (by omega) (by omega) (by omega), pow_bit (by omega) (by omega)]
  have eto : (((stTo ps k).toNat : Nat) : Int) = stTo ps k := by omega
  refine ⟨q0, q1, ?_, ?_, ?_⟩
  · intro v hv hbv
    rw [hor v hv, Bool.or_eq_true] at hbv
    rcases hbv with hbv | hbv
    · exact h2 v hv hbv
    · have e : (v : Int) = stTo ps k := by have : v = (stTo ps k).toNat := by simpa using hbv
                                           omega
      have ef : (((stFr ps k).toNat : Nat) : Int) = stFr ps k := by omega
      obtain ⟨m, hm⟩ := h2 (stFr ps k).toNat (by omega) (by rw [ef]; exact hb)
      rw [ef] at hm
      rw [e]
      exact ⟨m + 1, inK_snoc (e := (stFr ps k, stTo ps k)) hm (edg_mem.2 ⟨k, hk, by simpa [openF] using ho, rfl, rfl⟩)⟩
  · intro v hv hin
    rw [hor v hv, h3 v hv hin]; rfl
  · intro t ht hin
    have hto : ∀ t, t < 2 * ps.length → bitB s (stTo ps t) = true → bitB (bits .or .i64 s (2 ^ (stTo ps k).toNat)) (stTo ps t) = true := fun t ht2 hx => by
      obtain ⟨-, ⟨x0, x1⟩, -⟩ := st_ends hn ht2
      have e : (((stTo ps t).toNat : Nat) : Int) = stTo ps t := by omega
      have := hor (stTo ps t).toNat (by omega)
      rw [e] at this
      rw [this, hx]; rfl
    rw [opens_yes ho] at ht
    rcases List.mem_append.1 ht with ht | ht
    · have htl : t < 2 * ps.length := by
        simp only [opens, List.mem_filter, List.mem_range] at ht
        omega
      exact hto t htl (h4 t ht hin)
    · simp at ht; subst ht
      have := hor (stTo ps t).toNat (by omega)
      rw [eto] at this
      rw [this]; simp
theorem grow_end (hn : netOkB n ps = true) (hr : reachB n ps xs a = true) (h : growOk n ps xs a n.toNat 0 s) : s = reachI n ps xs a := by
  obtain ⟨h0, h1, h2, h3, -⟩ := h
  obtain ⟨hh, -, n2, n5, a0, a1⟩ := reach_parts hr
  obtain ⟨r0, r1⟩ := reach_in n ps xs a
  refine side_ext (n := n.toNat) (by omega) h0 h1 r0 r1 (fun v hv => ?_)
  rw [Bool.eq_iff_iff, reach_bit hr (by omega) (by omega)]
  constructor
  · exact h2 v (by omega)
  · rintro ⟨m, hm⟩
    exact h3 v (by omega) (inK_mono (by omega) (inK_all (n := n.toNat) (by omega) (edg_in hn xs) hm))
end

set_option maxHeartbeats 4000000 in
set_option maxRecDepth 20000 in
theorem specReached_any (n i : Int) (v u : Value) (ps : List Pp) (xs : List Int) (b b' : Nat) (w : World) (hp : Pipes w b v ps) (hx : Ints w b' u xs) :
    Calls Try.prog 33 #[.agg #[.int .i64 n, v], u, .int .i64 i] w fun e w' => e = .returned (.int .i64 (reachS n ps xs i)) ∧ Below w.heap.size w w' := by
  have hp0 := hp
  have hx0 := hx
  obtain ⟨A, c, rfl, hc1, hc2, hsm, -⟩ := hp.form
  obtain ⟨A', c', rfl, -, -, -, -⟩ := hx.form
  unfold maxLen at hc2
  have bx0 := Box2.new w (.int .i64 n) (.slice A ps.length c) 25
  go_enter Try.func33, Try.ntmps33
  go_wp2_with fail
  with_reducible refine (specHoldsOk_any n _ _ ps xs b b' _ (hp0.keep (by (repeat (first | (with_reducible assumption) | (with_reducible exact Below.refl _ _) | ((with_reducible refine Below.alloc ?_ ?hsz _); (case hsz => (first | omega | (simp; done) | (simp; omega) | (simp at *; omega)))) | ((with_reducible refine Below.setCell ?_ ?hsz _); (case hsz => (first | omega | (simp; done) | (simp; omega) | (simp at *; omega)))) | (with_reducible refine Below.drew ?_) | (with_reducible refine below_drewN ?_ _) | ((with_reducible refine Below.trans ?_ (Below.mono (by with_reducible assumption) ?hsz)); (case hsz => (first | omega | (simp; done) | (simp; omega) | (simp at *; omega)))))))) (hx0.keep (by (repeat (first | (with_reducible assumption) | (with_reducible exact Below.refl _ _) | ((with_reducible refine Below.alloc ?_ ?hsz _); (case hsz => (first | omega | (simp; done) | (simp; omega) | (simp at *; omega)))) | ((with_reducible refine Below.setCell ?_ ?hsz _); (case hsz => (first | omega | (simp; done) | (simp; omega) | (simp at *; omega)))) | (with_reducible refine Below.drew ?_) | (with_reducible refine below_drewN ?_ _) | ((with_reducible refine Below.trans ?_ (Below.mono (by with_reducible assumption) ?hsz)); (case hsz => (first | omega | (simp; done) | (simp; omega) | (simp at *; omega))))))))).mono ?_
  rintro e w1 ⟨rfl, hb1⟩
  have bx1 := bx0.keep hb1
  have hB1 : Below w.heap.size w w1 := by (repeat (first | (with_reducible assumption) | (with_reducible exact Below.refl _ _) | ((with_reducible refine Below.alloc ?_ ?hsz _); (case hsz => (first | omega | (simp; done) | (simp; omega) | (simp at *; omega)))) | ((with_reducible refine Below.setCell ?_ ?hsz _); (case hsz => (first | omega | (simp; done) | (simp; omega) | (simp at *; omega)))) | (with_reducible refine Below.drew ?_) | (with_reducible refine below_drewN ?_ _) | ((with_reducible refine Below.trans ?_ (Below.mono (by with_reducible assumption) ?hsz)); (case hsz => (first | omega | (simp; done) | (simp; omega) | (simp at *; omega))))))
  have hz1 := hB1.size
  clear bx0 hb1
  obtain ⟨bs, d0, d1, -, -⟩ := id bx1
  by_cases hh : holdsB n ps xs = true
  · rw [hh]
    have hnk := holds_net hh
    obtain ⟨n2, n5, hl7, -⟩ := netOk_parts hnk
    have hw1 : IntKind.i64.wrap (n - 1) = n - 1 := IntWalk.i64_in _ (by omega)
    have hw2 : wrap64 (n - 1) = n - 1 := by simp [wrap64]; omega
    go_wp2_with fail
    first
      | with_reducible refine (l1In_any i 0 (n - 1) _).mono ?_
      | (rw [hw1]; with_reducible refine (l1In_any i 0 (n - 1) _).mono ?_)
      | (rw [hw2]; with_reducible refine (l1In_any i 0 (n - 1) _).mono ?_)
    rintro e w2 ⟨rfl, rfl⟩
    clear hw1 hw2
    by_cases hi : withinB i 0 (n - 1) = true
    · rw [hi]
      have hrb : reachB n ps xs i = true := by simp [reachB, hh, hi]
      obtain ⟨-, -, -, -, i0, i1⟩ := reach_parts hrb
      have Hr := Lib.hid (reach_yes hrb)
      have Hrb := Lib.hid hrb
      have HN := Lib.hid hnk
      obtain ⟨hfl, -, hlen⟩ := holds_parts hh
      have HH := Lib.hid (And.intro hlen (And.intro (flowOk_parts hfl).2.2 (net_rooms hnk)))
      clear hh hi hrb hnk hfl hlen
      obtain ⟨N, rfl⟩ : ∃ N : Nat, n = (N : Int) := ⟨n.toNat, by omega⟩
      obtain ⟨a, rfl⟩ : ∃ a : Nat, i = (a : Int) := ⟨i.toNat, by omega⟩
      have HG0 := Lib.hid (grow_start (xs := xs) HN.out i0 i1)
      have HW := Lib.hid (swrap_pow (k := a) (by omega))
      go_wp2_with fail
      go_loopw [7, 8] (fun s t wr => ∃ (r : Nat) (sd : Int), r ≤ N ∧ t = .int .i64 r ∧ s = .int .i64 sd ∧ growOk N ps xs a r 0 sd ∧ Box2 wr w.heap.size (.int .i64 N) (.slice A ps.length c) ∧ Below w1.heap.size w1 wr) (fun _ t _ => N - (intOf t).toNat)
      case atStart => exact ⟨0, 2 ^ a, by omega, rfl, by first | rfl | (rw [HW.out.1]) | (rw [HW.out.2]), by simpa using HG0.out, bx1, Below.refl _ _⟩
      case round =>
        clear bs d0 d1 bx1
        obtain ⟨r, sd, hr, rfl, rfl, hgr, bx, hb⟩ := hrel
        obtain ⟨bs, d0, d1, -, -⟩ := id bx
        have HGR := Lib.hid hgr
        by_cases hlt : r < N
        · have hdlt : decide ((r : Int) < (N : Int)) = true := by simp; omega
          clear hgr
          go_wp2_with fail
          have Hlt := Lib.hid hlt
          clear hlt
          go_loopw [7, 9] (fun s t wr => ∃ (k : Nat) (sd : Int), k ≤ 2 * ps.length ∧ t = .int .i64 k ∧ s = .int .i64 sd ∧ growOk N ps xs a r k sd ∧ Box2 wr w.heap.size (.int .i64 N) (.slice A ps.length c) ∧ Below w1.heap.size w1 wr) (fun _ t _ => 2 * ps.length - (intOf t).toNat)
          case atStart => exact ⟨0, sd, by omega, rfl, rfl, HGR.out, bx, hb⟩
          case round =>
            clear bs d0 d1 bx hb HGR
            obtain ⟨k, sk, hk, rfl, rfl, hgr, bx, hb⟩ := hrel
            have HGR := Lib.hid hgr
            obtain ⟨g0, g1, -⟩ := hgr
            have hzb := hb.size
            obtain ⟨bs, d0, d1, -, -⟩ := id bx
            by_cases hlt2 : k < 2 * ps.length
            · obtain ⟨⟨a0, a1⟩, ⟨e0, e1⟩, -⟩ := st_ends HN.out hlt2
              have hopF : openF ps xs k = decide (0 < stRoom ps xs k) := rfl
              have Hgy := Lib.hid (fun ho hb => grow_yes (k := k) HGR.out hlt2 HN.out ho hb)
              have Hgn := Lib.hid (fun hc => grow_no (k := k) HGR.out hlt2 HN.out hc)
              obtain ⟨fa, hfa⟩ : ∃ fa : Nat, stFr ps k = (fa : Int) := ⟨(stFr ps k).toNat, by omega⟩
              obtain ⟨te, hte⟩ : ∃ te : Nat, stTo ps k = (te : Int) := ⟨(stTo ps k).toNat, by omega⟩
              rw [hfa] at a0 a1 Hgy Hgn
              rw [hte] at e0 e1 Hgy
              rw [Int.toNat_natCast] at Hgy
              obtain ⟨rm, hrm⟩ : ∃ rm, stRoom ps xs k = rm := ⟨_, rfl⟩
              rw [hrm] at hopF
              have hsb := shr_bitB g0 fa
              have HT := Lib.hid (swrap_pow (k := te) (by omega))
              go_wp2_with fail
              with_reducible refine (specStep_any k (N : Int) _ _ ps xs b b' _ (hp0.keep (hB1.trans (hb.mono hz1))) (hx0.keep (hB1.trans (hb.mono hz1))) hlt2 HH.out.1 HH.out.2.1 HH.out.2.2).mono ?_
              rintro ee w2 ⟨rfl, hb2⟩
              rw [hfa, hte, hrm]
              have bx2 := bx.keep hb2
              have hbw2 : Below w1.heap.size w1 w2 := hb.trans (hb2.mono hzb)
              clear bs d0 d1 bx hb hb2 g0 g1 hfa hte hrm
              by_cases hrm0 : 0 < rm
              · have hrd : decide (0 < rm) = true := by simpa using hrm0
                rw [hrd] at hopF
                have HopF := Lib.hid hopF
                clear hopF hrm0
                by_cases hbt : bitB sk (fa : Int) = true
                · have hnew := Lib.hid (Hgy.out HopF.out hbt)
                  rw [hbt] at hsb
                  clear hbt
                  go_wp2
                  go_roundw
                  case rel => exact ⟨k + 1, _, by omega, by go_num, rfl, by rw [HT.out.1]; exact hnew.out, bx2, hbw2⟩
                  case measure => simp [intOf]; omega
                · have hbt' : bitB sk (fa : Int) = false := by simpa using hbt
                  have hnew := Lib.hid (Hgn.out (fun _ => hbt'))
                  rw [hbt'] at hsb
                  clear hbt hbt'
                  go_wp2
                  go_roundw
                  case rel => exact ⟨k + 1, sk, by omega, by go_num, rfl, hnew.out, bx2, hbw2⟩
                  case measure => simp [intOf]; omega
              · have hrd : decide (0 < rm) = false := by simpa using hrm0
                rw [hrd] at hopF
                have hnew := Lib.hid (Hgn.out (fun ho => by rw [hopF] at ho; cases ho))
                clear hopF hrm0 hsb
                go_wp2
                go_roundw
                case rel => exact ⟨k + 1, sk, by omega, by go_num, rfl, hnew.out, bx2, hbw2⟩
                case measure => simp [intOf]; omega
            · have hk2 : k = 2 * ps.length := by omega
              subst hk2
              have hnew := Lib.hid (grow_round HGR.out)
              go_wp2
              go_roundw
              case rel => exact ⟨r + 1, sk, by have := Hlt.out; omega, by have := Hlt.out; go_num, rfl, hnew.out, bx, hb⟩
              case measure => have := Hlt.out; simp [intOf]; omega
        · have hr2 : r = N := by omega
          subst hr2
          have hfin : Hid (sd = reachS r ps xs a) := Lib.hid (by rw [Hr.out]; exact grow_end HN.out Hrb.out (by simpa using hgr))
          clear hgr
          go_wp2
          go_ret
          exact ⟨ret_int hfin.out, hB1.trans (hb.mono hz1)⟩
    · have hi' : withinB i 0 (n - 1) = false := by simpa using hi
      rw [hi']
      have Hr := Lib.hid (sreach_no2 (ps := ps) (xs := xs) hi')
      clear hh hi hi' hnk
      go_wp2
      go_ret
      exact ⟨ret_int Hr.out.symm, by (repeat (first | (with_reducible assumption) | (with_reducible exact Below.refl _ _) | ((with_reducible refine Below.alloc ?_ ?hsz _); (case hsz => (first | omega | (simp; done) | (simp; omega) | (simp at *; omega)))) | ((with_reducible refine Below.setCell ?_ ?hsz _); (case hsz => (first | omega | (simp; done) | (simp; omega) | (simp at *; omega)))) | (with_reducible refine Below.drew ?_) | (with_reducible refine below_drewN ?_ _) | ((with_reducible refine Below.trans ?_ (Below.mono (by with_reducible assumption) ?hsz)); (case hsz => (first | omega | (simp; done) | (simp; omega) | (simp at *; omega))))))⟩
  · have hh' : holdsB n ps xs = false := by simpa using hh
    rw [hh']
    have Hr := Lib.hid (sreach_no1 (a := i) hh')
    clear hh hh'
    go_wp2
    go_ret
    exact ⟨ret_int Hr.out.symm, by (repeat (first | (with_reducible assumption) | (with_reducible exact Below.refl _ _) | ((with_reducible refine Below.alloc ?_ ?hsz _); (case hsz => (first | omega | (simp; done) | (simp; omega) | (simp at *; omega)))) | ((with_reducible refine Below.setCell ?_ ?hsz _); (case hsz => (first | omega | (simp; done) | (simp; omega) | (simp at *; omega)))) | (with_reducible refine Below.drew ?_) | (with_reducible refine below_drewN ?_ _) | ((with_reducible refine Below.trans ?_ (Below.mono (by with_reducible assumption) ?hsz)); (case hsz => (first | omega | (simp; done) | (simp; omega) | (simp at *; omega))))))⟩

end Go.Proofs.Ytobbeofibkpbaaa

/- Contracts of the functions of chapter 4 in the model: RingOk and ThreadOk. -/
namespace Go.Proofs.Ytobbeofibkpbaaa
open Go.RowKit

end Go.Proofs.Ytobbeofibkpbaaa
