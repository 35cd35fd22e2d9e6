/- Contracts of the functions of chapter 10 in the model: ShortSide, CheapestFeed. -/
import Derived.Test.YtfdcojbdklcaiaaZB
import Derived.Test.YtfdcojbdklcaiaaGU
import Derived.Test.YtfdcojbdklcaiaaG2
import Derived.Test.YtfdcojbdklcaiaaF1
import Derived.Test.YtfdcojbdklcaiaaGI
import Derived.Test.YtfdcojbdklcaiaaI1
import Derived.Test.YtfdcojbdklcaiaaK9
namespace Go.Proofs.Ytfdcojbdklcaiaa
open Go.RowKit

theorem nneedSum_succ (k : Nat) (nd : List Int) (s : Int) : needSum (k + 1) nd s = needSum k nd s + (if bitB s k = true then nd.getD k 0 else 0) := nodeSum_succ _ _
theorem nneedSum_bd (k : Nat) {nd : List Int} (s : Int) (h : ∀ v, -12 ≤ nd.getD v 0 ∧ nd.getD v 0 ≤ 12) : -(12 * (k : Int)) ≤ needSum k nd s ∧ needSum k nd s ≤ 12 * (k : Int) := by
  induction k with
  | zero => exact ⟨Int.le_refl _, Int.le_refl _⟩
  | succ k ih =>
    rw [nneedSum_succ]
    have hb := h k
    split <;> omega

/-- what the operations of a sum of needs yield -/
def ssV (go : Nat) (o : Value) (j : Nat) (K S q d P T : Int) : Nat → Value → Prop
  | 0, x => x = .int .i64 S
  | 1, x => x = .int .i64 K
  | 2, x => x = .int .i64 j
  | 3, x => x = .int .i64 q
  | 4, x => x = .int .i64 (q % 2)
  | 5, x => x = o
  | 6, x => x = .int .i64 j
  | 7, x => x = .pointer (some ⟨go, j, none⟩)
  | 8, x => x = .int .i64 d
  | 9, x => x = .int .i64 P
  | 10, x => x = .int .i64 T
  | 11, x => x = .int .i64 T
  | _, _ => True

theorem int_eq8 {a b : Int} (h : a = b) : Value.int .i64 a = .int .i64 b := by rw [h]

set_option maxHeartbeats 4000000 in
set_option maxRecDepth 20000 in
theorem specShort_any (n : Int) (v o : Value) (ps : List Pp) (nd : List Int) (b b2 : Nat) (w : World) (hp : Pipes w b v ps) (ho : Ints w b2 o nd) :
    Calls Try.prog 24 #[.agg #[.int .i64 n, v], o] w fun e w' => e = .returned (.tuple #[.int .i64 (shortR n ps nd).1, .bool (shortR n ps nd).2]) ∧ Below w.heap.size w w' := by
  have hp0 := hp
  have ho0 := ho
  obtain ⟨A, c, rfl, -, -, -, -⟩ := hp.form
  obtain ⟨A2, c2, rfl, hc21, hc22, -, -⟩ := ho.form
  unfold maxLen at hc22
  obtain ⟨mo, hmo⟩ : ∃ m, nd.length = m := ⟨_, rfl⟩
  rw [hmo] at ho0 hc21 ⊢
  have Hmo := Lib.hid hmo
  clear hmo ho
  have bx0 := Box2.new w (.int .i64 n) (.slice A ps.length c) 30
  have hB0 : Below w.heap.size w (w.alloc (.cells #[.int .i64 n, .slice A ps.length c] 30)) := by (repeat (first | (with_reducible assumption) | (with_reducible exact Below.refl _ _) | ((with_reducible refine Below.alloc ?_ ?hsz _); (case hsz => (first | omega | (simp; done) | (simp; omega) | (simp at *; omega)))) | ((with_reducible refine Below.setCell ?_ ?hsz _); (case hsz => (first | omega | (simp; done) | (simp; omega) | (simp at *; omega)))) | (with_reducible refine Below.drew ?_) | (with_reducible refine below_drewN ?_ _) | ((with_reducible refine Below.trans ?_ (Below.mono (by with_reducible assumption) ?hsz)); (case hsz => (first | omega | (simp; done) | (simp; omega) | (simp at *; omega))))))
  go_enter Try.func24, Try.ntmps24
  go_wp2_with fail
  refine (specNeedsOk_any n _ _ ps nd b b2 _ (hp0.keep hB0) (ho0.keep hB0)).mono ?_
  rintro e w1 ⟨rfl, hb1⟩
  have bx1 := bx0.keep hb1
  have hB1 := hB0.trans (hb1.mono hB0.size)
  have hz1 := hB1.size
  clear bx0 hB0 hb1
  obtain ⟨bs, d0, d1, -, -⟩ := id bx1
  by_cases hn : needsB n ps nd = true
  · rw [hn]
    have hnet := free_net (needs_parts hn).1
    have n2 := (netOk_parts hnet).1
    have n5 := (netOk_parts hnet).2.1
    have hln := (needs_parts hn).2.1
    have Hnet := Lib.hid hnet
    have HO := Lib.hid (shortO_yes hn)
    have HDB := Lib.hid (needs_in hn).2
    have hmn : (mo : Int) = n := by rw [← Hmo.out]; exact hln
    have hmo5 : mo ≤ 5 := by omega
    obtain ⟨go, co, hov, hRo⟩ := ho0.row (by rw [Hmo.out]; omega)
    rw [Hmo.out] at hov hRo
    rw [hov] at ho0 ⊢
    have HRo := Lib.hid hRo
    obtain ⟨hgo1, hgo2⟩ := hRo.lt
    obtain ⟨hgc1, hgc2⟩ := hRo.capd
    unfold maxLen at hgc2
    obtain ⟨cnt, hcnt, hci⟩ : ∃ cnt : Nat, 2 ^ n.toNat = cnt ∧ (2 : Int) ^ n.toNat = (cnt : Int) := ⟨_, rfl, by simp⟩
    have hc32 : cnt ≤ 32 := by rw [← hcnt]; exact Nat.le_trans (Nat.pow_le_pow_right (by omega) (show n.toNat ≤ 5 by omega)) (by decide)
    have hc1 : 1 ≤ cnt := by rw [← hcnt]; exact Nat.two_pow_pos _
    have Hnt : Hid (n.toNat = mo) := Lib.hid (by omega)
    have Hrn : Hid (∀ k : Nat, k < cnt → room ((cnt : Int) - 1 - (k : Int)) ps = room (-1 - (k : Int)) ps) := Lib.hid fun k hk => by
      rw [room_not Hnet.out (by omega) (by rw [hci]; omega), lack, hci]
    rw [hcnt] at HO
    have HW1 : Hid (wrap64 (2 ^ n.toNat) = (cnt : Int)) := Lib.hid (by rw [IntWalk.wrap64_in _ (by rw [hci]; omega), hci])
    have HW2 : Hid (wrap64 ((cnt : Int) - 1) = (cnt : Int) - 1) := Lib.hid (IntWalk.wrap64_in _ (by omega))
    clear hcnt hci hn hnet hln hov hRo hmn
    go_wp2_with fail
    rw [HW1.out, HW2.out]
    go_loopw [7] (fun t wr => ∃ k : Nat, k ≤ cnt ∧ t = .int .i64 k ∧ (∀ i, i < k → shortF n nd ps i = false) ∧ Box2 wr w.heap.size (.int .i64 n) (.slice A ps.length c) ∧ Below w.heap.size w wr) (fun t _ => cnt - (intOf t).toNat)
    case atStart => exact ⟨0, by omega, rfl, fun i hi => absurd hi (by omega), bx1, hB1⟩
    case round =>
      clear bx1 hB1 d0 d1 bs
      obtain ⟨k, hk, rfl, hall, bx, hB⟩ := hrel
      have Hall := Lib.hid hall
      clear hall
      have hzB := hB.size
      obtain ⟨bs, d0, d1, -, -⟩ := id bx
      by_cases hlt : k < cnt
      · have hle : decide ((k : Int) ≤ (cnt : Int) - 1) = true := decide_eq_true (by omega)
        obtain ⟨W0, hW0⟩ : ∃ W, W = wr := ⟨_, rfl⟩
        subst hW0
        go_wp2_with fail
        go_loopw [9, 8] (fun i s wr => ∃ j : Nat, j ≤ mo ∧ i = .int .i64 j ∧ s = .int .i64 (needSum j nd k) ∧ Below W0.heap.size W0 wr) (fun i _ _ => mo - (intOf i).toNat)
        case atStart => exact ⟨0, by omega, rfl, rfl, Below.refl _ _⟩
        case round =>
          obtain ⟨j, hj, rfl, rfl, hb⟩ := hrel
          have hzb := hb.size
          by_cases hjl : j < mo
          · obtain ⟨s1, s2⟩ := nneedSum_bd j k HDB.out
            have cN := ((HRo.out.keep (hB.trans (hb.mono hzB))).at' j hjl).1
            obtain ⟨x1, x2⟩ := HDB.out j
            have hS := nneedSum_succ j nd k
            generalize nd.getD j 0 = d at *
            generalize needSum j nd k = S at *
            obtain ⟨q, hq⟩ : ∃ q, (k : Int) / 2 ^ j = q := ⟨_, rfl⟩
            have hq0 : 0 ≤ q := by rw [← hq]; exact Int.ediv_nonneg (by omega) (Int.le_of_lt (Int.pow_pos (by decide)))
            have hq1 : q ≤ 31 := by
              rw [← hq]
              have hpos : (0 : Int) < 2 ^ j := Int.pow_pos (by decide)
              have h1 : (1 : Int) ≤ 2 ^ j := by omega
              exact Int.le_trans (Int.ediv_le_self _ (by omega)) (by omega)
            have hbb : bitB (k : Int) (j : Int) = decide (q % 2 = 1) := by rw [bitB, Int.toNat_natCast, hq]
            have Hq := Lib.hid hq
            obtain ⟨P, hP⟩ : ∃ P, q % 2 * d = P := ⟨_, rfl⟩
            have hP2 : -12 ≤ P ∧ P ≤ 12 ∧ (if bitB (k : Int) (j : Int) = true then d else 0) = P := by
              rw [hbb, ← hP]
              rcases (show q % 2 = 0 ∨ q % 2 = 1 by omega) with e | e <;> rw [e] <;> simp <;> omega
            obtain ⟨P1, P2, P3⟩ := hP2
            rw [P3] at hS
            have HSS := Lib.hid hS
            have HP := Lib.hid hP
            have hq2 : q.tmod 2 = q % 2 := Int.tmod_eq_emod_of_nonneg hq0
            have Hq2 := Lib.hid hq2
            have hw1 := IntWalk.i64_in P (by omega)
            have hw2 := IntWalk.wrap64_in P (by omega)
            have hgow : go < wr.heap.size := by have := hB.size; omega
            clear hq hP P3 hbb hS hq2
            go_wp2_with fail
            refine wp_region_flow 11 (some 8) [(0, 29), (1, 30), (2, 31), (3, 32), (4, 33), (5, 34), (6, 35), (7, 36), (8, 37), (9, 38), (10, 39)] (fun i x _ _ => ssV go (.slice (some ⟨go, 0, none⟩) mo co) j k S q d P (S + P) i x) (fun _ _ _ => True) (fun _ wx => Below wr.heap.size wr wx) (by kernel_rfl) (by kernel_rfl) rfl ⟨rfl, rfl, rfl, Nat.le_refl _, fun _ _ => rfl⟩ ?_ ?_ ?_ ?_
            · exact fun _ _ _ _ _ _ _ _ _ _ h => h
            · exact fun _ _ _ _ _ _ _ h => h
            · simp only [eachOp, fillF, List.setIfInBounds_toArray, List.set_cons_succ, List.set_cons_zero]
              refine ⟨?_, ?_, ?_, ?_, ?_, ?_, ?_, ?_, ?_, ?_, ?_, ?_, trivial⟩ <;> intro u f wx hC hd <;> (try simp [allV, useOf, Region.binds] at hd)
              · go_wp2
                exact ⟨_, rfl, rfl, trivial, hC⟩
              · go_wp2
                exact ⟨_, rfl, rfl, trivial, hC⟩
              · go_wp2
                exact ⟨_, rfl, rfl, trivial, hC⟩
              · rw [show u 1 = _ from hd.1, show u 2 = _ from hd.2]
                have hj4 : (j : Int) ≤ 4 := by omega
                have hj0 : (0 : Int) ≤ (j : Int) := by omega
                go_wp2
                exact ⟨_, rfl, int_eq8 (by first | exact Hq.out | (rw [Int.toNat_natCast]; exact Hq.out) | (rw [← Hq.out]; simp)), trivial, hC⟩
              · rw [show u 3 = _ from hd]
                go_wp2
                exact ⟨_, rfl, int_eq8 (by first | rfl | exact Hq2.out), trivial, hC⟩
              · go_wp2
                exact ⟨_, rfl, rfl, trivial, hC⟩
              · go_wp2
                exact ⟨_, rfl, rfl, trivial, hC⟩
              · rw [show u 5 = _ from hd.1, show u 6 = _ from hd.2]
                go_wp2
                exact ⟨_, rfl, rfl, trivial, hC⟩
              · rw [show u 7 = _ from hd]
                have y1 := (bel_cell hC hgow).trans cN
                go_wp2
                exact ⟨_, rfl, rfl, trivial, hC⟩
              · rw [show u 4 = _ from hd.1, show u 8 = _ from hd.2]
                rw [← HP.out] at hw1 hw2
                go_wp2
                exact ⟨_, rfl, int_eq8 HP.out, trivial, hC⟩
              · rw [show u 0 = _ from hd.1, show u 9 = _ from hd.2]
                go_wp2
                exact ⟨_, rfl, rfl, trivial, hC⟩
              · rw [show u 10 = _ from hd]
                go_wp2
                exact ⟨_, rfl, rfl, trivial, hC⟩
            · intro u f wx hC hfin
              simp only [fillEnd, fillF, Act.put, List.setIfInBounds_toArray, List.set_cons_succ, List.set_cons_zero]
              rw [show u 11 = _ from hfin 11 (by decide) (by decide)]
              have hb2 := hb.trans (hC.mono hzb)
              clear hfin hC hw1 hw2
              go_wp2
              go_roundw
              case rel => exact ⟨j + 1, by omega, by go_num, by rw [HSS.out], hb2⟩
              case measure => simp [intOf]; omega
          · have hjm : j = mo := by omega
            subst hjm
            have bx2 := bx.keep hb
            have hB2 := hB.trans (hb.mono hzB)
            have hz2 := hB2.size
            clear d0 d1 bs bx
            obtain ⟨bs, d0, d1, -, -⟩ := id bx2
            obtain ⟨s1, s2⟩ := nneedSum_bd j k HDB.out
            have Hsf : Hid (shortF n nd ps k = decide (room (-1 - (k : Int)) ps < needSum j nd k)) := Lib.hid (by rw [shortF, Hnt.out])
            have Hrk := Lib.hid (Hrn.out k hlt)
            generalize needSum j nd k = S at *
            have hkk : (0 : Int) ≤ (cnt : Int) - 1 - (k : Int) := by omega
            go_wp2_with fail
            refine (specRoom_any n ((cnt : Int) - 1 - (k : Int)) _ ps b _ (hp0.keep hB2) Hnet.out hkk).mono ?_
            rintro e w5 ⟨rfl, hb5⟩
            rw [Hrk.out]
            have bx5 := bx2.keep hb5
            have hB5 := hB2.trans (hb5.mono hz2)
            clear d0 d1 bs bx2 hb5
            generalize room (-1 - (k : Int)) ps = R at *
            by_cases hr : R < S
            · have hrd : decide (R < S) = true := decide_eq_true hr
              have Hr : Hid (shortR n ps nd = ((k : Int), true)) := Lib.hid (short_some (by rw [HO.out]; exact range_find.2 ⟨hlt, by rw [Hsf.out, hrd], Hall.out⟩))
              clear hr
              go_wp2
              go_ret2
              exact ⟨ret_ib (by rw [Hr.out]), hB5⟩
            · have hrd : decide (R < S) = false := decide_eq_false hr
              have Hn : Hid (∀ i, i < k + 1 → shortF n nd ps i = false) := Lib.hid (by
                intro i hi
                rcases Nat.lt_succ_iff_lt_or_eq.1 hi with h | h
                · exact Hall.out i h
                · subst h; rw [Hsf.out]; exact hrd)
              clear hr
              go_wp2
              go_roundw
              case rel => exact ⟨k + 1, by omega, by go_num, Hn.out, bx5, hB5⟩
              case measure => simp [intOf]; omega
      · have hle : decide ((k : Int) ≤ (cnt : Int) - 1) = false := decide_eq_false (by omega)
        have Hr : Hid (shortR n ps nd = (-1, false)) := Lib.hid (short_none (by rw [HO.out]; exact range_none.2 fun i hi => Hall.out i (by omega)))
        go_wp2
        go_ret2
        exact ⟨ret_ib (by rw [Hr.out]), hB⟩
  · have hn' : needsB n ps nd = false := by simpa using hn
    rw [hn']
    have Hr := Lib.hid (short_none (shortO_no hn'))
    clear hn
    go_wp2
    go_ret2
    exact ⟨ret_ib (by rw [Hr.out]), hB1⟩

set_option maxHeartbeats 2000000 in
set_option maxRecDepth 20000 in
theorem specCheapestFeed_any (n : Int) (v o : Value) (ps : List Pp) (nd : List Int) (b b2 : Nat) (w : World) (hp : Pipes w b v ps) (ho : Ints w b2 o nd) :
    Calls Try.prog 26 #[.agg #[.int .i64 n, v], o] w fun e w' => e = .returned (.tuple #[.int .i64 (cfeedR n ps nd).1, .bool (cfeedR n ps nd).2]) ∧ Below w.heap.size w w' := by
  have hp0 := hp
  have ho0 := ho
  obtain ⟨A, c, rfl, hcp1, hcp2, -, -⟩ := hp.form
  obtain ⟨A2, c2, rfl, -, -, -, -⟩ := ho.form
  have bx0 := Box2.new w (.int .i64 n) (.slice A ps.length c) 30
  go_enter Try.func26, Try.ntmps26
  go_wp2_with fail
  with_reducible refine (specFeeding_any n _ _ ps nd b b2 _ (hp0.keep (by (repeat (first | (with_reducible assumption) | (with_reducible exact Below.refl _ _) | ((with_reducible refine Below.alloc ?_ ?hsz _); (case hsz => (first | omega | (simp; done) | (simp; omega) | (simp at *; omega)))) | ((with_reducible refine Below.setCell ?_ ?hsz _); (case hsz => (first | omega | (simp; done) | (simp; omega) | (simp at *; omega)))) | (with_reducible refine Below.drew ?_) | (with_reducible refine below_drewN ?_ _) | ((with_reducible refine Below.trans ?_ (Below.mono (by with_reducible assumption) ?hsz)); (case hsz => (first | omega | (simp; done) | (simp; omega) | (simp at *; omega)))))))) (ho0.keep (by (repeat (first | (with_reducible assumption) | (with_reducible exact Below.refl _ _) | ((with_reducible refine Below.alloc ?_ ?hsz _); (case hsz => (first | omega | (simp; done) | (simp; omega) | (simp at *; omega)))) | ((with_reducible refine Below.setCell ?_ ?hsz _); (case hsz => (first | omega | (simp; done) | (simp; omega) | (simp at *; omega)))) | (with_reducible refine Below.drew ?_) | (with_reducible refine below_drewN ?_ _) | ((with_reducible refine Below.trans ?_ (Below.mono (by with_reducible assumption) ?hsz)); (case hsz => (first | omega | (simp; done) | (simp; omega) | (simp at *; omega))))))))).mono ?_
  rintro e w1 ⟨r1, rfl, hr1, hb1⟩
  have bx1 := bx0.keep hb1
  have hB1 : Below w.heap.size w w1 := by (repeat (first | (with_reducible assumption) | (with_reducible exact Below.refl _ _) | ((with_reducible refine Below.alloc ?_ ?hsz _); (case hsz => (first | omega | (simp; done) | (simp; omega) | (simp at *; omega)))) | ((with_reducible refine Below.setCell ?_ ?hsz _); (case hsz => (first | omega | (simp; done) | (simp; omega) | (simp at *; omega)))) | (with_reducible refine Below.drew ?_) | (with_reducible refine below_drewN ?_ _) | ((with_reducible refine Below.trans ?_ (Below.mono (by with_reducible assumption) ?hsz)); (case hsz => (first | omega | (simp; done) | (simp; omega) | (simp at *; omega))))))
  have hz1 := hB1.size
  clear bx0 hb1
  obtain ⟨bs, d0, d1, -, -⟩ := id bx1
  obtain ⟨A3, c3, rfl, -, -, -, -⟩ := hr1.form
  obtain ⟨m3, hm3⟩ : ∃ m, (feedL n ps nd).length = m := ⟨_, rfl⟩
  rw [hm3] at hr1 ⊢
  clear hm3
  by_cases hf : feedB n ps nd = true
  · have Hc := Lib.hid (cfeed_cost hf)
    rw [hf]
    clear hf
    go_wp2_with fail
    with_reducible refine (specCheapest_any n _ _ ps (feedL n ps nd) b _ _ (hp0.keep hB1) hr1).mono ?_
    rintro e w2 ⟨r2, rfl, hr2, hb2⟩
    have bx2 := bx1.keep hb2
    have hB2 := hB1.trans (hb2.mono hz1)
    have hz2 := hB2.size
    clear bx1 d0 d1 bs
    obtain ⟨bs, d0, d1, -, -⟩ := id bx2
    obtain ⟨A4, c4, rfl, -, -, -, -⟩ := hr2.form
    obtain ⟨m4, hm4⟩ : ∃ m, (chpstR n ps (feedL n ps nd)).length = m := ⟨_, rfl⟩
    rw [hm4] at hr2 ⊢
    clear hm4
    go_wp2_with fail
    with_reducible refine (specCostOf_any n _ _ ps (chpstR n ps (feedL n ps nd)) b _ _ (hp0.keep hB2) hr2).mono ?_
    rintro e w3 ⟨rfl, hb3⟩
    rw [Hc.out]
    go_wp2
    go_ret2
    exact ⟨rfl, hB2.trans (hb3.mono hz2)⟩
  · have hf' : feedB n ps nd = false := by simpa using hf
    have Hr : Hid (cfeedR n ps nd = (0, false)) := Lib.hid (by rw [cfeedR, if_neg hf])
    rw [hf']
    clear hf
    go_wp2
    go_ret2
    exact ⟨ret_ib (by rw [Hr.out]), hB1⟩

end Go.Proofs.Ytfdcojbdklcaiaa
