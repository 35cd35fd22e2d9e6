/- FnShortSide: for every code the law holds: the program's ShortSide answers as the model; its needs are together more than the room of the other nodes, and those of no lesser side are. No condition. -/
import Derived.Test.YtenpplglanbooaaGN10
import Derived.Test.YtenpplglanbooaaGN24
import Derived.Test.YtenpplglanbooaaGN19
import Derived.Test.YtenpplglanbooaaGN11
import Derived.Test.YtenpplglanbooaaW8
namespace Go.Proofs.Ytenpplglanbooaa.lawShortSide
open Go.ChangeShapes Go.WideShapes Go.ChangeAt Go.RowKit Go.Deep Go.Joins

theorem bitB_nat (k j : Nat) : (((k : Int) / 2 ^ j).tmod 2 == 1) = bitB (k : Int) (j : Int) := by
  have h : 0 ≤ (k : Int) / 2 ^ j := Int.ediv_nonneg (by omega) (Int.le_of_lt (Int.pow_pos (by decide)))
  rw [bitB, Int.toNat_natCast, Int.tmod_eq_emod_of_nonneg h, beq_dec]

set_option maxRecDepth 20000 in
set_option maxHeartbeats 4000000 in
set_option maxRecDepth 20000 in
theorem walk (v : Value) (n : Nat) (w : World) (h : ArgBytes w v n) :
    Calls Try.prog 6 #[v] w fun e w' => e = .returned (.bool true) ∧ Below w.heap.size w w' := by
  obtain ⟨A, c, rfl, hc1, hc2, -⟩ := id h
  unfold maxLen at hc2
  by_cases hbig : 1048576 < n
  · go_enter Try.func6, Try.ntmps6
    go_wp2
    go_ret
    exact ⟨rfl, by (repeat (first | (with_reducible assumption) | (with_reducible exact Below.refl _ _) | ((with_reducible refine Below.alloc ?_ ?hsz _); (case hsz => (first | omega | (simp; done) | (simp; omega) | (simp at *; omega)))) | ((with_reducible refine Below.setCell ?_ ?hsz _); (case hsz => (first | omega | (simp; done) | (simp; omega) | (simp at *; omega)))) | (with_reducible refine Below.drew ?_) | (with_reducible refine below_drewN ?_ _) | ((with_reducible refine Below.trans ?_ (Below.mono (by with_reducible assumption) ?hsz)); (case hsz => (first | omega | (simp; done) | (simp; omega) | (simp at *; omega))))))⟩
  go_enter Try.func6, Try.ntmps6
  go_wp2_with fail
  with_reducible refine (drawShortSide_any _ n _ (h.keep (by (repeat (first | (with_reducible assumption) | (with_reducible exact Below.refl _ _) | ((with_reducible refine Below.alloc ?_ ?hsz _); (case hsz => (first | omega | (simp; done) | (simp; omega) | (simp at *; omega)))) | ((with_reducible refine Below.setCell ?_ ?hsz _); (case hsz => (first | omega | (simp; done) | (simp; omega) | (simp at *; omega)))) | (with_reducible refine Below.drew ?_) | (with_reducible refine below_drewN ?_ _) | ((with_reducible refine Below.trans ?_ (Below.mono (by with_reducible assumption) ?hsz)); (case hsz => (first | omega | (simp; done) | (simp; omega) | (simp at *; omega))))))))).mono ?_
  rintro e w1 ⟨z, ps, u, o, nd, rfl, hp, ho, hb1, hl8, hz1, hz6, hn6, hnb⟩
  have hBw1 : Below w.heap.size w w1 := by (repeat (first | (with_reducible assumption) | (with_reducible exact Below.refl _ _) | ((with_reducible refine Below.alloc ?_ ?hsz _); (case hsz => (first | omega | (simp; done) | (simp; omega) | (simp at *; omega)))) | ((with_reducible refine Below.setCell ?_ ?hsz _); (case hsz => (first | omega | (simp; done) | (simp; omega) | (simp at *; omega)))) | (with_reducible refine Below.drew ?_) | (with_reducible refine below_drewN ?_ _) | ((with_reducible refine Below.trans ?_ (Below.mono (by with_reducible assumption) ?hsz)); (case hsz => (first | omega | (simp; done) | (simp; omega) | (simp at *; omega))))))
  clear h hc1 hc2 hbig
  obtain ⟨A1, c1, rfl, hk1, hk2, hsm, -⟩ := hp.form
  unfold maxLen at hk2
  have bx1 : Box2 (w1.alloc (.cells #[.int .i64 z, .slice A1 ps.length c1] 25)) w1.heap.size (.int .i64 z) (.slice A1 ps.length c1) := Box2.new _ _ _ _
  have hB1 : Below w1.heap.size w1 (w1.alloc (.cells #[.int .i64 z, .slice A1 ps.length c1] 25)) := by (repeat (first | (with_reducible assumption) | (with_reducible exact Below.refl _ _) | ((with_reducible refine Below.alloc ?_ ?hsz _); (case hsz => (first | omega | (simp; done) | (simp; omega) | (simp at *; omega)))) | ((with_reducible refine Below.setCell ?_ ?hsz _); (case hsz => (first | omega | (simp; done) | (simp; omega) | (simp at *; omega)))) | (with_reducible refine Below.drew ?_) | (with_reducible refine below_drewN ?_ _) | ((with_reducible refine Below.trans ?_ (Below.mono (by with_reducible assumption) ?hsz)); (case hsz => (first | omega | (simp; done) | (simp; omega) | (simp at *; omega))))))
  obtain ⟨A2, c2, rfl, hk3, hk4, -, -⟩ := ho.form
  unfold maxLen at hk4
  obtain ⟨mo, hmo⟩ : ∃ m, nd.length = m := ⟨_, rfl⟩
  rw [hmo] at ho hk3 hn6 ⊢
  have Hmo := Lib.hid hmo
  have Hnb := Lib.hid hnb
  clear hmo hnb
  obtain ⟨bs, d0, d1, g0, g1⟩ := id bx1
  go_wp2_with fail
  with_reducible refine (shortSide_any z _ _ ps nd _ _ _ (hp.keep hB1) (ho.keep hB1)).mono ?_
  rintro e w2 ⟨rfl, hnn⟩
  have bx2 := (bx1).keep hnn
  have hB2 : Below w1.heap.size w1 w2 := by (repeat (first | (with_reducible assumption) | (with_reducible exact Below.refl _ _) | ((with_reducible refine Below.alloc ?_ ?hsz _); (case hsz => (first | omega | (simp; done) | (simp; omega) | (simp at *; omega)))) | ((with_reducible refine Below.setCell ?_ ?hsz _); (case hsz => (first | omega | (simp; done) | (simp; omega) | (simp at *; omega)))) | (with_reducible refine Below.drew ?_) | (with_reducible refine below_drewN ?_ _) | ((with_reducible refine Below.trans ?_ (Below.mono (by with_reducible assumption) ?hsz)); (case hsz => (first | omega | (simp; done) | (simp; omega) | (simp at *; omega))))))
  clear hnn
  (try clear d0 d1 g0 g1)
  obtain ⟨bs, d0, d1, g0, g1⟩ := id bx2
  go_wp2_with fail
  with_reducible refine (specShort_any z _ _ ps nd _ _ _ (hp.keep hB2) (ho.keep hB2)).mono ?_
  rintro e w3 ⟨rfl, hnn⟩
  have bx3 := (bx2).keep hnn
  have hB3 : Below w1.heap.size w1 w3 := by (repeat (first | (with_reducible assumption) | (with_reducible exact Below.refl _ _) | ((with_reducible refine Below.alloc ?_ ?hsz _); (case hsz => (first | omega | (simp; done) | (simp; omega) | (simp at *; omega)))) | ((with_reducible refine Below.setCell ?_ ?hsz _); (case hsz => (first | omega | (simp; done) | (simp; omega) | (simp at *; omega)))) | (with_reducible refine Below.drew ?_) | (with_reducible refine below_drewN ?_ _) | ((with_reducible refine Below.trans ?_ (Below.mono (by with_reducible assumption) ?hsz)); (case hsz => (first | omega | (simp; done) | (simp; omega) | (simp at *; omega))))))
  clear hnn
  (try clear d0 d1 g0 g1)
  obtain ⟨bs, d0, d1, g0, g1⟩ := id bx3
  cases hs : shortO z ps nd with
  | none =>
    rw [short_none hs]
    clear hs
    go_wp2_with fail
    with_reducible refine (alive_any _).mono ?_
    rintro e w4 ⟨rfl, hnn⟩
    have bx4 := (bx3).keep hnn
    have hB4 : Below w1.heap.size w1 w4 := by (repeat (first | (with_reducible assumption) | (with_reducible exact Below.refl _ _) | ((with_reducible refine Below.alloc ?_ ?hsz _); (case hsz => (first | omega | (simp; done) | (simp; omega) | (simp at *; omega)))) | ((with_reducible refine Below.setCell ?_ ?hsz _); (case hsz => (first | omega | (simp; done) | (simp; omega) | (simp at *; omega)))) | (with_reducible refine Below.drew ?_) | (with_reducible refine below_drewN ?_ _) | ((with_reducible refine Below.trans ?_ (Below.mono (by with_reducible assumption) ?hsz)); (case hsz => (first | omega | (simp; done) | (simp; omega) | (simp at *; omega))))))
    clear hnn
    (try clear d0 d1 g0 g1)
    obtain ⟨bs, d0, d1, g0, g1⟩ := id bx4
    go_wp2
    (go_ret; exact ⟨rfl, hBw1.trans (Below.mono (by with_reducible assumption) hBw1.size)⟩)
  | some s =>
    rw [short_some hs]
    have hn : needsB z ps nd = true := by
      rw [← Bool.not_eq_false]
      intro h0
      rw [shortO_no h0] at hs
      cases hs
    rw [shortO_yes hn] at hs
    obtain ⟨hsl, hst, hsf⟩ := range_find.1 hs
    have hnet := free_net (needs_parts hn).1
    have hln := (needs_parts hn).2.1
    rw [Hmo.out] at hln
    have HDB := Lib.hid (needs_in hn).2
    have HT := Lib.hid (And.intro hst hsf)
    have Hnet := Lib.hid hnet
    have h4 := side_n hnet
    clear hs hst hsf hn hnet
    rcases h4 with rfl | rfl | rfl | rfl
    · have hs32 : s < 4 := hsl
      have hmo2 : mo = 2 := by omega
      have Hrt : Hid (∀ k : Nat, k < 4 → roomAt 2 ps (((4 : Nat) : Int) - 1 - (k : Int)) = (room (-1 - (k : Int)) ps, true)) := Lib.hid fun k hk => by
        have hp2 : (2 : Int) ^ Int.toNat 2 = 4 := rfl
        rw [room_not Hnet.out (by omega) (by rw [hp2]; omega), roomAt, if_pos (side_of Hnet.out (by omega) (by rw [hp2]; omega)), lack, hp2]
        rfl
      have HF : Hid (∀ k : Nat, k ≤ s → decide (room (-1 - (k : Int)) ps < needSum mo nd k) = decide (k = s)) := Lib.hid fun k hk => by
        have e : shortF 2 nd ps k = decide (room (-1 - (k : Int)) ps < needSum mo nd k) := by rw [hmo2]; rfl
        rw [← e]
        by_cases hks : k = s
        · subst hks; rw [HT.out.1]; simp
        · rw [HT.out.2 k (by omega), decide_eq_false hks]
      clear HT hsl
      go_wp2_with fail
      go_loopw [9] (fun t9 wr => ∃ k : Nat, k ≤ s + 1 ∧ t9 = .int .i64 k ∧ Box2 wr w1.heap.size (.int .i64 2) (.slice A1 ps.length c1) ∧ Below w1.heap.size w1 wr) (fun t9 _ => s + 1 - (intOf t9).toNat)
      case atStart => exact ⟨0, by omega, rfl, bx3, hB3⟩
      case round =>
        clear bs d0 d1 g0 g1 bx3 hB3
        obtain ⟨k, hk, rfl, bx, hB⟩ := hrel
        obtain ⟨bs, d0, d1, g0, g1⟩ := id bx
        have hzB := hB.size
        by_cases hks : k ≤ s
        · have hkd : decide ((k : Int) ≤ (s : Int)) = true := decide_eq_true (by omega)
          have hkd2 : decide (k ≤ s) = true := decide_eq_true hks
          obtain ⟨W0, hW0⟩ : ∃ W, W = wr := ⟨_, rfl⟩
          subst hW0
          go_wp2_with fail
          go_loopw [11, 10] (fun t11 t10 wr => ∃ j : Nat, j ≤ mo ∧ t11 = .int .i64 j ∧ t10 = .int .i64 (needSum j nd k) ∧ Below W0.heap.size W0 wr) (fun t11 _ _ => mo - (intOf t11).toNat)
          case atStart => exact ⟨0, by omega, rfl, rfl, Below.refl _ _⟩
          case round =>
            clear hkd hkd2
            obtain ⟨j, hj, rfl, rfl, hb⟩ := hrel
            have hzb := hb.size
            by_cases hjl : j < mo
            · obtain ⟨s1, s2⟩ := nneedSum_bd j k HDB.out
              obtain ⟨x1, x2⟩ := HDB.out j
              have hS := nneedSum_succ j nd k
              have hbq := bitB_nat k j
              obtain ⟨g, rfl, hg1, hg2, cN, -⟩ := (ho.keep (hB.trans (hb.mono hzB))).at' j (by rw [Hmo.out]; exact hjl)
              rw [← getD_at (show j < nd.length by rw [Hmo.out]; exact hjl)] at cN
              generalize nd.getD j 0 = d at *
              generalize needSum j nd k = S at *
              have HS := Lib.hid hS
              have hj4 : (j : Int) ≤ 4 := by omega
              have hj0 : (0 : Int) ≤ (j : Int) := by omega
              clear hS
              trace_state
              by_cases hbit : bitB (k : Int) (j : Int) = true
              · rw [hbit] at hbq
                have HS1 : Hid (needSum (j + 1) nd k = S + d) := Lib.hid (by rw [HS.out, if_pos hbit])
                clear hbit
                go_wp2
                go_roundw
                case rel => exact ⟨j + 1, by omega, by go_num, by rw [HS1.out], by (repeat (first | (with_reducible assumption) | (with_reducible exact Below.refl _ _) | ((with_reducible refine Below.alloc ?_ ?hsz _); (case hsz => (first | omega | (simp; done) | (simp; omega) | (simp at *; omega)))) | ((with_reducible refine Below.setCell ?_ ?hsz _); (case hsz => (first | omega | (simp; done) | (simp; omega) | (simp at *; omega)))) | (with_reducible refine Below.drew ?_) | (with_reducible refine below_drewN ?_ _) | ((with_reducible refine Below.trans ?_ (Below.mono (by with_reducible assumption) ?hsz)); (case hsz => (first | omega | (simp; done) | (simp; omega) | (simp at *; omega))))))⟩
                case measure => simp [intOf]; omega
              · rw [Bool.not_eq_true] at hbit
                rw [hbit] at hbq
                have HS1 : Hid (needSum (j + 1) nd k = S) := Lib.hid (by rw [HS.out, if_neg (by simp [hbit]), Int.add_zero])
                clear hbit
                go_wp2
                go_roundw
                case rel => exact ⟨j + 1, by omega, by go_num, by rw [HS1.out], by (repeat (first | (with_reducible assumption) | (with_reducible exact Below.refl _ _) | ((with_reducible refine Below.alloc ?_ ?hsz _); (case hsz => (first | omega | (simp; done) | (simp; omega) | (simp at *; omega)))) | ((with_reducible refine Below.setCell ?_ ?hsz _); (case hsz => (first | omega | (simp; done) | (simp; omega) | (simp at *; omega)))) | (with_reducible refine Below.drew ?_) | (with_reducible refine below_drewN ?_ _) | ((with_reducible refine Below.trans ?_ (Below.mono (by with_reducible assumption) ?hsz)); (case hsz => (first | omega | (simp; done) | (simp; omega) | (simp at *; omega))))))⟩
                case measure => simp [intOf]; omega
            · have hjm : j = mo := by omega
              subst hjm
              have bx2 := bx.keep hb
              have hB2 := hB.trans (hb.mono hzB)
              have hz2 := hB2.size
              clear d0 d1 bs bx g0 g1
              obtain ⟨bs, d0, d1, g0, g1⟩ := id bx2
              obtain ⟨s1, s2⟩ := nneedSum_bd j k HDB.out
              have hfk := HF.out k hks
              have hrk := Hrt.out k (by omega)
              generalize needSum j nd k = S at *
              generalize room (-1 - (k : Int)) ps = R at *
              have hRM : ∀ p : Bw wr, Calls Try.prog 25 #[.agg #[.int .i64 2, .slice A1 ps.length c1], .int .i64 (((4 : Nat) : Int) - 1 - (k : Int))] p.v fun e w'' => e = .returned (.tuple #[.int .i64 R, .bool true]) ∧ Below p.v.heap.size p.v w'' := fun p => by
                refine (roomOfTop_any 2 (((4 : Nat) : Int) - 1 - (k : Int)) _ ps _ _ ((hp.keep hB2).keep p.h)).mono ?_
                intro e w'' hh
                rw [hrk] at hh
                exact hh
              have HRM := Lib.hid hRM
              have hd0 := fun p : Bw wr => (bw_cell p bs).trans d0
              have hd1 := fun p : Bw wr => (bw_cell p bs).trans d1
              clear hrk hRM
              go_wp2_with fail
              refine wp_region_bw (by kernel_rfl) (by kernel_rfl) ?_
              repeat (go_big_quiet_step ((go_at_call 25; refine calls_bw (HRM.out _))))
              refine wpQuiet_nil ?_
              rintro _ ⟨pw, rfl⟩
              have hpw := pw.h
              have bx3 := bx2.keep hpw
              have hB3 := hB2.trans (hpw.mono hz2)
              obtain ⟨wq, hwq⟩ : ∃ wq, wq = pw.v := ⟨_, rfl⟩
              rw [← hwq] at bx3 hB3 ⊢
              clear hd0 hd1 hwq hpw d0 d1 bs bx2 g0 g1 hB2 hz2
              by_cases hks2 : k = s
              · subst hks2
                have hfk2 : decide (R < S) = true := by rw [hfk]; simp
                have hke : ((k : Int) == (k : Int)) = true := by simp
                clear hfk
                go_wp2
                go_roundw
                case rel => exact ⟨k + 1, by omega, by go_num, bx3, hB3⟩
                case measure => simp [intOf]
              · have hfk2 : decide (R < S) = false := by rw [hfk]; exact decide_eq_false hks2
                have hke : ((k : Int) == (s : Int)) = false := by rw [beq_dec]; exact decide_eq_false (by omega)
                clear hfk
                go_wp2
                go_roundw
                case rel => exact ⟨k + 1, by omega, by go_num, bx3, hB3⟩
                case measure => simp [intOf]; omega
        · have hkd : decide ((k : Int) ≤ (s : Int)) = false := decide_eq_false (by omega)
          have hkd2 : decide (k ≤ s) = false := decide_eq_false hks
          go_wp2
          (go_ret; exact ⟨rfl, hBw1.trans (Below.mono (by with_reducible assumption) hBw1.size)⟩)
    · have hs32 : s < 8 := hsl
      have hmo2 : mo = 3 := by omega
      have Hrt : Hid (∀ k : Nat, k < 8 → roomAt 3 ps (((8 : Nat) : Int) - 1 - (k : Int)) = (room (-1 - (k : Int)) ps, true)) := Lib.hid fun k hk => by
        have hp2 : (2 : Int) ^ Int.toNat 3 = 8 := rfl
        rw [room_not Hnet.out (by omega) (by rw [hp2]; omega), roomAt, if_pos (side_of Hnet.out (by omega) (by rw [hp2]; omega)), lack, hp2]
        rfl
      have HF : Hid (∀ k : Nat, k ≤ s → decide (room (-1 - (k : Int)) ps < needSum mo nd k) = decide (k = s)) := Lib.hid fun k hk => by
        have e : shortF 3 nd ps k = decide (room (-1 - (k : Int)) ps < needSum mo nd k) := by rw [hmo2]; rfl
        rw [← e]
        by_cases hks : k = s
        · subst hks; rw [HT.out.1]; simp
        · rw [HT.out.2 k (by omega), decide_eq_false hks]
      clear HT hsl
      go_wp2_with fail
      go_loopw [9] (fun t9 wr => ∃ k : Nat, k ≤ s + 1 ∧ t9 = .int .i64 k ∧ Box2 wr w1.heap.size (.int .i64 3) (.slice A1 ps.length c1) ∧ Below w1.heap.size w1 wr) (fun t9 _ => s + 1 - (intOf t9).toNat)
      case atStart => exact ⟨0, by omega, rfl, bx3, hB3⟩
      case round =>
        clear bs d0 d1 g0 g1 bx3 hB3
        obtain ⟨k, hk, rfl, bx, hB⟩ := hrel
        obtain ⟨bs, d0, d1, g0, g1⟩ := id bx
        have hzB := hB.size
        by_cases hks : k ≤ s
        · have hkd : decide ((k : Int) ≤ (s : Int)) = true := decide_eq_true (by omega)
          have hkd2 : decide (k ≤ s) = true := decide_eq_true hks
          obtain ⟨W0, hW0⟩ : ∃ W, W = wr := ⟨_, rfl⟩
          subst hW0
          go_wp2_with fail
          go_loopw [11, 10] (fun t11 t10 wr => ∃ j : Nat, j ≤ mo ∧ t11 = .int .i64 j ∧ t10 = .int .i64 (needSum j nd k) ∧ Below W0.heap.size W0 wr) (fun t11 _ _ => mo - (intOf t11).toNat)
          case atStart => exact ⟨0, by omega, rfl, rfl, Below.refl _ _⟩
          case round =>
            clear hkd hkd2
            obtain ⟨j, hj, rfl, rfl, hb⟩ := hrel
            have hzb := hb.size
            by_cases hjl : j < mo
            · obtain ⟨s1, s2⟩ := nneedSum_bd j k HDB.out
              obtain ⟨x1, x2⟩ := HDB.out j
              have hS := nneedSum_succ j nd k
              have hbq := bitB_nat k j
              obtain ⟨g, rfl, hg1, hg2, cN, -⟩ := (ho.keep (hB.trans (hb.mono hzB))).at' j (by rw [Hmo.out]; exact hjl)
              rw [← getD_at (show j < nd.length by rw [Hmo.out]; exact hjl)] at cN
              generalize nd.getD j 0 = d at *
              generalize needSum j nd k = S at *
              have HS := Lib.hid hS
              have hj4 : (j : Int) ≤ 4 := by omega
              have hj0 : (0 : Int) ≤ (j : Int) := by omega
              clear hS
              trace_state
              by_cases hbit : bitB (k : Int) (j : Int) = true
              · rw [hbit] at hbq
                have HS1 : Hid (needSum (j + 1) nd k = S + d) := Lib.hid (by rw [HS.out, if_pos hbit])
                clear hbit
                go_wp2
                go_roundw
                case rel => exact ⟨j + 1, by omega, by go_num, by rw [HS1.out], by (repeat (first | (with_reducible assumption) | (with_reducible exact Below.refl _ _) | ((with_reducible refine Below.alloc ?_ ?hsz _); (case hsz => (first | omega | (simp; done) | (simp; omega) | (simp at *; omega)))) | ((with_reducible refine Below.setCell ?_ ?hsz _); (case hsz => (first | omega | (simp; done) | (simp; omega) | (simp at *; omega)))) | (with_reducible refine Below.drew ?_) | (with_reducible refine below_drewN ?_ _) | ((with_reducible refine Below.trans ?_ (Below.mono (by with_reducible assumption) ?hsz)); (case hsz => (first | omega | (simp; done) | (simp; omega) | (simp at *; omega))))))⟩
                case measure => simp [intOf]; omega
              · rw [Bool.not_eq_true] at hbit
                rw [hbit] at hbq
                have HS1 : Hid (needSum (j + 1) nd k = S) := Lib.hid (by rw [HS.out, if_neg (by simp [hbit]), Int.add_zero])
                clear hbit
                go_wp2
                go_roundw
                case rel => exact ⟨j + 1, by omega, by go_num, by rw [HS1.out], by (repeat (first | (with_reducible assumption) | (with_reducible exact Below.refl _ _) | ((with_reducible refine Below.alloc ?_ ?hsz _); (case hsz => (first | omega | (simp; done) | (simp; omega) | (simp at *; omega)))) | ((with_reducible refine Below.setCell ?_ ?hsz _); (case hsz => (first | omega | (simp; done) | (simp; omega) | (simp at *; omega)))) | (with_reducible refine Below.drew ?_) | (with_reducible refine below_drewN ?_ _) | ((with_reducible refine Below.trans ?_ (Below.mono (by with_reducible assumption) ?hsz)); (case hsz => (first | omega | (simp; done) | (simp; omega) | (simp at *; omega))))))⟩
                case measure => simp [intOf]; omega
            · have hjm : j = mo := by omega
              subst hjm
              have bx2 := bx.keep hb
              have hB2 := hB.trans (hb.mono hzB)
              have hz2 := hB2.size
              clear d0 d1 bs bx g0 g1
              obtain ⟨bs, d0, d1, g0, g1⟩ := id bx2
              obtain ⟨s1, s2⟩ := nneedSum_bd j k HDB.out
              have hfk := HF.out k hks
              have hrk := Hrt.out k (by omega)
              generalize needSum j nd k = S at *
              generalize room (-1 - (k : Int)) ps = R at *
              have hRM : ∀ p : Bw wr, Calls Try.prog 25 #[.agg #[.int .i64 3, .slice A1 ps.length c1], .int .i64 (((8 : Nat) : Int) - 1 - (k : Int))] p.v fun e w'' => e = .returned (.tuple #[.int .i64 R, .bool true]) ∧ Below p.v.heap.size p.v w'' := fun p => by
                refine (roomOfTop_any 3 (((8 : Nat) : Int) - 1 - (k : Int)) _ ps _ _ ((hp.keep hB2).keep p.h)).mono ?_
                intro e w'' hh
                rw [hrk] at hh
                exact hh
              have HRM := Lib.hid hRM
              have hd0 := fun p : Bw wr => (bw_cell p bs).trans d0
              have hd1 := fun p : Bw wr => (bw_cell p bs).trans d1
              clear hrk hRM
              go_wp2_with fail
              refine wp_region_bw (by kernel_rfl) (by kernel_rfl) ?_
              repeat (go_big_quiet_step ((go_at_call 25; refine calls_bw (HRM.out _))))
              refine wpQuiet_nil ?_
              rintro _ ⟨pw, rfl⟩
              have hpw := pw.h
              have bx3 := bx2.keep hpw
              have hB3 := hB2.trans (hpw.mono hz2)
              obtain ⟨wq, hwq⟩ : ∃ wq, wq = pw.v := ⟨_, rfl⟩
              rw [← hwq] at bx3 hB3 ⊢
              clear hd0 hd1 hwq hpw d0 d1 bs bx2 g0 g1 hB2 hz2
              by_cases hks2 : k = s
              · subst hks2
                have hfk2 : decide (R < S) = true := by rw [hfk]; simp
                have hke : ((k : Int) == (k : Int)) = true := by simp
                clear hfk
                go_wp2
                go_roundw
                case rel => exact ⟨k + 1, by omega, by go_num, bx3, hB3⟩
                case measure => simp [intOf]
              · have hfk2 : decide (R < S) = false := by rw [hfk]; exact decide_eq_false hks2
                have hke : ((k : Int) == (s : Int)) = false := by rw [beq_dec]; exact decide_eq_false (by omega)
                clear hfk
                go_wp2
                go_roundw
                case rel => exact ⟨k + 1, by omega, by go_num, bx3, hB3⟩
                case measure => simp [intOf]; omega
        · have hkd : decide ((k : Int) ≤ (s : Int)) = false := decide_eq_false (by omega)
          have hkd2 : decide (k ≤ s) = false := decide_eq_false hks
          go_wp2
          (go_ret; exact ⟨rfl, hBw1.trans (Below.mono (by with_reducible assumption) hBw1.size)⟩)
    · have hs32 : s < 16 := hsl
      have hmo2 : mo = 4 := by omega
      have Hrt : Hid (∀ k : Nat, k < 16 → roomAt 4 ps (((16 : Nat) : Int) - 1 - (k : Int)) = (room (-1 - (k : Int)) ps, true)) := Lib.hid fun k hk => by
        have hp2 : (2 : Int) ^ Int.toNat 4 = 16 := rfl
        rw [room_not Hnet.out (by omega) (by rw [hp2]; omega), roomAt, if_pos (side_of Hnet.out (by omega) (by rw [hp2]; omega)), lack, hp2]
        rfl
      have HF : Hid (∀ k : Nat, k ≤ s → decide (room (-1 - (k : Int)) ps < needSum mo nd k) = decide (k = s)) := Lib.hid fun k hk => by
        have e : shortF 4 nd ps k = decide (room (-1 - (k : Int)) ps < needSum mo nd k) := by rw [hmo2]; rfl
        rw [← e]
        by_cases hks : k = s
        · subst hks; rw [HT.out.1]; simp
        · rw [HT.out.2 k (by omega), decide_eq_false hks]
      clear HT hsl
      go_wp2_with fail
      go_loopw [9] (fun t9 wr => ∃ k : Nat, k ≤ s + 1 ∧ t9 = .int .i64 k ∧ Box2 wr w1.heap.size (.int .i64 4) (.slice A1 ps.length c1) ∧ Below w1.heap.size w1 wr) (fun t9 _ => s + 1 - (intOf t9).toNat)
      case atStart => exact ⟨0, by omega, rfl, bx3, hB3⟩
      case round =>
        clear bs d0 d1 g0 g1 bx3 hB3
        obtain ⟨k, hk, rfl, bx, hB⟩ := hrel
        obtain ⟨bs, d0, d1, g0, g1⟩ := id bx
        have hzB := hB.size
        by_cases hks : k ≤ s
        · have hkd : decide ((k : Int) ≤ (s : Int)) = true := decide_eq_true (by omega)
          have hkd2 : decide (k ≤ s) = true := decide_eq_true hks
          obtain ⟨W0, hW0⟩ : ∃ W, W = wr := ⟨_, rfl⟩
          subst hW0
          go_wp2_with fail
          go_loopw [11, 10] (fun t11 t10 wr => ∃ j : Nat, j ≤ mo ∧ t11 = .int .i64 j ∧ t10 = .int .i64 (needSum j nd k) ∧ Below W0.heap.size W0 wr) (fun t11 _ _ => mo - (intOf t11).toNat)
          case atStart => exact ⟨0, by omega, rfl, rfl, Below.refl _ _⟩
          case round =>
            clear hkd hkd2
            obtain ⟨j, hj, rfl, rfl, hb⟩ := hrel
            have hzb := hb.size
            by_cases hjl : j < mo
            · obtain ⟨s1, s2⟩ := nneedSum_bd j k HDB.out
              obtain ⟨x1, x2⟩ := HDB.out j
              have hS := nneedSum_succ j nd k
              have hbq := bitB_nat k j
              obtain ⟨g, rfl, hg1, hg2, cN, -⟩ := (ho.keep (hB.trans (hb.mono hzB))).at' j (by rw [Hmo.out]; exact hjl)
              rw [← getD_at (show j < nd.length by rw [Hmo.out]; exact hjl)] at cN
              generalize nd.getD j 0 = d at *
              generalize needSum j nd k = S at *
              have HS := Lib.hid hS
              have hj4 : (j : Int) ≤ 4 := by omega
              have hj0 : (0 : Int) ≤ (j : Int) := by omega
              clear hS
              trace_state
              by_cases hbit : bitB (k : Int) (j : Int) = true
              · rw [hbit] at hbq
                have HS1 : Hid (needSum (j + 1) nd k = S + d) := Lib.hid (by rw [HS.out, if_pos hbit])
                clear hbit
                go_wp2
                go_roundw
                case rel => exact ⟨j + 1, by omega, by go_num, by rw [HS1.out], by (repeat (first | (with_reducible assumption) | (with_reducible exact Below.refl _ _) | ((with_reducible refine Below.alloc ?_ ?hsz _); (case hsz => (first | omega | (simp; done) | (simp; omega) | (simp at *; omega)))) | ((with_reducible refine Below.setCell ?_ ?hsz _); (case hsz => (first | omega | (simp; done) | (simp; omega) | (simp at *; omega)))) | (with_reducible refine Below.drew ?_) | (with_reducible refine below_drewN ?_ _) | ((with_reducible refine Below.trans ?_ (Below.mono (by with_reducible assumption) ?hsz)); (case hsz => (first | omega | (simp; done) | (simp; omega) | (simp at *; omega))))))⟩
                case measure => simp [intOf]; omega
              · rw [Bool.not_eq_true] at hbit
                rw [hbit] at hbq
                have HS1 : Hid (needSum (j + 1) nd k = S) := Lib.hid (by rw [HS.out, if_neg (by simp [hbit]), Int.add_zero])
                clear hbit
                go_wp2
                go_roundw
                case rel => exact ⟨j + 1, by omega, by go_num, by rw [HS1.out], by (repeat (first | (with_reducible assumption) | (with_reducible exact Below.refl _ _) | ((with_reducible refine Below.alloc ?_ ?hsz _); (case hsz => (first | omega | (simp; done) | (simp; omega) | (simp at *; omega)))) | ((with_reducible refine Below.setCell ?_ ?hsz _); (case hsz => (first | omega | (simp; done) | (simp; omega) | (simp at *; omega)))) | (with_reducible refine Below.drew ?_) | (with_reducible refine below_drewN ?_ _) | ((with_reducible refine Below.trans ?_ (Below.mono (by with_reducible assumption) ?hsz)); (case hsz => (first | omega | (simp; done) | (simp; omega) | (simp at *; omega))))))⟩
                case measure => simp [intOf]; omega
            · have hjm : j = mo := by omega
              subst hjm
              have bx2 := bx.keep hb
              have hB2 := hB.trans (hb.mono hzB)
              have hz2 := hB2.size
              clear d0 d1 bs bx g0 g1
              obtain ⟨bs, d0, d1, g0, g1⟩ := id bx2
              obtain ⟨s1, s2⟩ := nneedSum_bd j k HDB.out
              have hfk := HF.out k hks
              have hrk := Hrt.out k (by omega)
              generalize needSum j nd k = S at *
              generalize room (-1 - (k : Int)) ps = R at *
              have hRM : ∀ p : Bw wr, Calls Try.prog 25 #[.agg #[.int .i64 4, .slice A1 ps.length c1], .int .i64 (((16 : Nat) : Int) - 1 - (k : Int))] p.v fun e w'' => e = .returned (.tuple #[.int .i64 R, .bool true]) ∧ Below p.v.heap.size p.v w'' := fun p => by
                refine (roomOfTop_any 4 (((16 : Nat) : Int) - 1 - (k : Int)) _ ps _ _ ((hp.keep hB2).keep p.h)).mono ?_
                intro e w'' hh
                rw [hrk] at hh
                exact hh
              have HRM := Lib.hid hRM
              have hd0 := fun p : Bw wr => (bw_cell p bs).trans d0
              have hd1 := fun p : Bw wr => (bw_cell p bs).trans d1
              clear hrk hRM
              go_wp2_with fail
              refine wp_region_bw (by kernel_rfl) (by kernel_rfl) ?_
              repeat (go_big_quiet_step ((go_at_call 25; refine calls_bw (HRM.out _))))
              refine wpQuiet_nil ?_
              rintro _ ⟨pw, rfl⟩
              have hpw := pw.h
              have bx3 := bx2.keep hpw
              have hB3 := hB2.trans (hpw.mono hz2)
              obtain ⟨wq, hwq⟩ : ∃ wq, wq = pw.v := ⟨_, rfl⟩
              rw [← hwq] at bx3 hB3 ⊢
              clear hd0 hd1 hwq hpw d0 d1 bs bx2 g0 g1 hB2 hz2
              by_cases hks2 : k = s
              · subst hks2
                have hfk2 : decide (R < S) = true := by rw [hfk]; simp
                have hke : ((k : Int) == (k : Int)) = true := by simp
                clear hfk
                go_wp2
                go_roundw
                case rel => exact ⟨k + 1, by omega, by go_num, bx3, hB3⟩
                case measure => simp [intOf]
              · have hfk2 : decide (R < S) = false := by rw [hfk]; exact decide_eq_false hks2
                have hke : ((k : Int) == (s : Int)) = false := by rw [beq_dec]; exact decide_eq_false (by omega)
                clear hfk
                go_wp2
                go_roundw
                case rel => exact ⟨k + 1, by omega, by go_num, bx3, hB3⟩
                case measure => simp [intOf]; omega
        · have hkd : decide ((k : Int) ≤ (s : Int)) = false := decide_eq_false (by omega)
          have hkd2 : decide (k ≤ s) = false := decide_eq_false hks
          go_wp2
          (go_ret; exact ⟨rfl, hBw1.trans (Below.mono (by with_reducible assumption) hBw1.size)⟩)
    · have hs32 : s < 32 := hsl
      have hmo2 : mo = 5 := by omega
      have Hrt : Hid (∀ k : Nat, k < 32 → roomAt 5 ps (((32 : Nat) : Int) - 1 - (k : Int)) = (room (-1 - (k : Int)) ps, true)) := Lib.hid fun k hk => by
        have hp2 : (2 : Int) ^ Int.toNat 5 = 32 := rfl
        rw [room_not Hnet.out (by omega) (by rw [hp2]; omega), roomAt, if_pos (side_of Hnet.out (by omega) (by rw [hp2]; omega)), lack, hp2]
        rfl
      have HF : Hid (∀ k : Nat, k ≤ s → decide (room (-1 - (k : Int)) ps < needSum mo nd k) = decide (k = s)) := Lib.hid fun k hk => by
        have e : shortF 5 nd ps k = decide (room (-1 - (k : Int)) ps < needSum mo nd k) := by rw [hmo2]; rfl
        rw [← e]
        by_cases hks : k = s
        · subst hks; rw [HT.out.1]; simp
        · rw [HT.out.2 k (by omega), decide_eq_false hks]
      clear HT hsl
      go_wp2_with fail
      go_loopw [9] (fun t9 wr => ∃ k : Nat, k ≤ s + 1 ∧ t9 = .int .i64 k ∧ Box2 wr w1.heap.size (.int .i64 5) (.slice A1 ps.length c1) ∧ Below w1.heap.size w1 wr) (fun t9 _ => s + 1 - (intOf t9).toNat)
      case atStart => exact ⟨0, by omega, rfl, bx3, hB3⟩
      case round =>
        clear bs d0 d1 g0 g1 bx3 hB3
        obtain ⟨k, hk, rfl, bx, hB⟩ := hrel
        obtain ⟨bs, d0, d1, g0, g1⟩ := id bx
        have hzB := hB.size
        by_cases hks : k ≤ s
        · have hkd : decide ((k : Int) ≤ (s : Int)) = true := decide_eq_true (by omega)
          have hkd2 : decide (k ≤ s) = true := decide_eq_true hks
          obtain ⟨W0, hW0⟩ : ∃ W, W = wr := ⟨_, rfl⟩
          subst hW0
          go_wp2_with fail
          go_loopw [11, 10] (fun t11 t10 wr => ∃ j : Nat, j ≤ mo ∧ t11 = .int .i64 j ∧ t10 = .int .i64 (needSum j nd k) ∧ Below W0.heap.size W0 wr) (fun t11 _ _ => mo - (intOf t11).toNat)
          case atStart => exact ⟨0, by omega, rfl, rfl, Below.refl _ _⟩
          case round =>
            clear hkd hkd2
            obtain ⟨j, hj, rfl, rfl, hb⟩ := hrel
            have hzb := hb.size
            by_cases hjl : j < mo
            · obtain ⟨s1, s2⟩ := nneedSum_bd j k HDB.out
              obtain ⟨x1, x2⟩ := HDB.out j
              have hS := nneedSum_succ j nd k
              have hbq := bitB_nat k j
              obtain ⟨g, rfl, hg1, hg2, cN, -⟩ := (ho.keep (hB.trans (hb.mono hzB))).at' j (by rw [Hmo.out]; exact hjl)
              rw [← getD_at (show j < nd.length by rw [Hmo.out]; exact hjl)] at cN
              generalize nd.getD j 0 = d at *
              generalize needSum j nd k = S at *
              have HS := Lib.hid hS
              have hj4 : (j : Int) ≤ 4 := by omega
              have hj0 : (0 : Int) ≤ (j : Int) := by omega
              clear hS
              trace_state
              by_cases hbit : bitB (k : Int) (j : Int) = true
              · rw [hbit] at hbq
                have HS1 : Hid (needSum (j + 1) nd k = S + d) := Lib.hid (by rw [HS.out, if_pos hbit])
                clear hbit
                go_wp2
                go_roundw
                case rel => exact ⟨j + 1, by omega, by go_num, by rw [HS1.out], by (repeat (first | (with_reducible assumption) | (with_reducible exact Below.refl _ _) | ((with_reducible refine Below.alloc ?_ ?hsz _); (case hsz => (first | omega | (simp; done) | (simp; omega) | (simp at *; omega)))) | ((with_reducible refine Below.setCell ?_ ?hsz _); (case hsz => (first | omega | (simp; done) | (simp; omega) | (simp at *; omega)))) | (with_reducible refine Below.drew ?_) | (with_reducible refine below_drewN ?_ _) | ((with_reducible refine Below.trans ?_ (Below.mono (by with_reducible assumption) ?hsz)); (case hsz => (first | omega | (simp; done) | (simp; omega) | (simp at *; omega))))))⟩
                case measure => simp [intOf]; omega
              · rw [Bool.not_eq_true] at hbit
                rw [hbit] at hbq
                have HS1 : Hid (needSum (j + 1) nd k = S) := Lib.hid (by rw [HS.out, if_neg (by simp [hbit]), Int.add_zero])
                clear hbit
                go_wp2
                go_roundw
                case rel => exact ⟨j + 1, by omega, by go_num, by rw [HS1.out], by (repeat (first | (with_reducible assumption) | (with_reducible exact Below.refl _ _) | ((with_reducible refine Below.alloc ?_ ?hsz _); (case hsz => (first | omega | (simp; done) | (simp; omega) | (simp at *; omega)))) | ((with_reducible refine Below.setCell ?_ ?hsz _); (case hsz => (first | omega | (simp; done) | (simp; omega) | (simp at *; omega)))) | (with_reducible refine Below.drew ?_) | (with_reducible refine below_drewN ?_ _) | ((with_reducible refine Below.trans ?_ (Below.mono (by with_reducible assumption) ?hsz)); (case hsz => (first | omega | (simp; done) | (simp; omega) | (simp at *; omega))))))⟩
                case measure => simp [intOf]; omega
            · have hjm : j = mo := by omega
              subst hjm
              have bx2 := bx.keep hb
              have hB2 := hB.trans (hb.mono hzB)
              have hz2 := hB2.size
              clear d0 d1 bs bx g0 g1
              obtain ⟨bs, d0, d1, g0, g1⟩ := id bx2
              obtain ⟨s1, s2⟩ := nneedSum_bd j k HDB.out
              have hfk := HF.out k hks
              have hrk := Hrt.out k (by omega)
              generalize needSum j nd k = S at *
              generalize room (-1 - (k : Int)) ps = R at *
              have hRM : ∀ p : Bw wr, Calls Try.prog 25 #[.agg #[.int .i64 5, .slice A1 ps.length c1], .int .i64 (((32 : Nat) : Int) - 1 - (k : Int))] p.v fun e w'' => e = .returned (.tuple #[.int .i64 R, .bool true]) ∧ Below p.v.heap.size p.v w'' := fun p => by
                refine (roomOfTop_any 5 (((32 : Nat) : Int) - 1 - (k : Int)) _ ps _ _ ((hp.keep hB2).keep p.h)).mono ?_
                intro e w'' hh
                rw [hrk] at hh
                exact hh
              have HRM := Lib.hid hRM
              have hd0 := fun p : Bw wr => (bw_cell p bs).trans d0
              have hd1 := fun p : Bw wr => (bw_cell p bs).trans d1
              clear hrk hRM
              go_wp2_with fail
              refine wp_region_bw (by kernel_rfl) (by kernel_rfl) ?_
              repeat (go_big_quiet_step ((go_at_call 25; refine calls_bw (HRM.out _))))
              refine wpQuiet_nil ?_
              rintro _ ⟨pw, rfl⟩
              have hpw := pw.h
              have bx3 := bx2.keep hpw
              have hB3 := hB2.trans (hpw.mono hz2)
              obtain ⟨wq, hwq⟩ : ∃ wq, wq = pw.v := ⟨_, rfl⟩
              rw [← hwq] at bx3 hB3 ⊢
              clear hd0 hd1 hwq hpw d0 d1 bs bx2 g0 g1 hB2 hz2
              by_cases hks2 : k = s
              · subst hks2
                have hfk2 : decide (R < S) = true := by rw [hfk]; simp
                have hke : ((k : Int) == (k : Int)) = true := by simp
                clear hfk
                go_wp2
                go_roundw
                case rel => exact ⟨k + 1, by omega, by go_num, bx3, hB3⟩
                case measure => simp [intOf]
              · have hfk2 : decide (R < S) = false := by rw [hfk]; exact decide_eq_false hks2
                have hke : ((k : Int) == (s : Int)) = false := by rw [beq_dec]; exact decide_eq_false (by omega)
                clear hfk
                go_wp2
                go_roundw
                case rel => exact ⟨k + 1, by omega, by go_num, bx3, hB3⟩
                case measure => simp [intOf]; omega
        · have hkd : decide ((k : Int) ≤ (s : Int)) = false := decide_eq_false (by omega)
          have hkd2 : decide (k ≤ s) = false := decide_eq_false hks
          go_wp2
          (go_ret; exact ⟨rfl, hBw1.trans (Below.mono (by with_reducible assumption) hBw1.size)⟩)

set_option maxRecDepth 100000 in
theorem contract (H : Type) (enc : TypeId × Value → H) (W : World) (base : Nat) (args : Array Value) (ds gs : List (DataW H)) (before : List MemPlace)
    (hval : ∀ (j : Nat) t v, Try.f6.params[j]? = some t → args[j]? = some v → Value.okWide Try.prog W .any base t v)
    (hW : DataW.Whole enc Try.prog Try.f6.params.toList Rows.fnShortSideSpec.vars false W args.toList ds gs before) :
    Calls Try.prog 6 args W fun e W' => ∃ v, e = .returned v ∧ Rows.fnShortSideSpec.post enc Try.prog Try.f6 false true false false W args v W' := by
  have hW' := hW
  obtain ⟨p, q, hA0, hV, rfl, hfz, hnd⟩ := hW
  have hA : DataW.TrodAll enc Try.prog W 0 (fun _ => true) true Try.f6.params.toList args.toList ds p := hA0
  rw [Try.params6] at hA hval
  obtain ⟨u0, us0, d0, ds0, p0, q0, hargs, rfl, rfl, g0, k0⟩ := trodAll_cons hA
  obtain ⟨rfl, rfl, rfl⟩ := trodAll_nil k0
  obtain rfl : args = #[u0] := by cases args; simp_all
  obtain ⟨rfl, rfl⟩ := trodVars_none hV
  obtain ⟨m0, e0⟩ := g0
  obtain ⟨s0, l0, f0, hh0⟩ := open_arg_bytes e0
  have f0' := one_of_cells Try.underlying22 (hval 0 _ _ rfl rfl) f0
  subst f0'
  refine (walk _ l0 W hh0).mono fun e W' ⟨he, hb⟩ => ?_
  subst he
  exact ⟨_, rfl, law_post Try.kids Try.full (by rw [Try.params6]; decide) rfl rfl Try.underlying4 hW' rfl rfl rfl hb⟩

set_option maxRecDepth 100000 in
theorem lifted (os : Os) (started : os.Started) (H : Type) (enc : TypeId × Value → H) :
    ReturnsInHanded {} Try.checked os 6 .any (Rows.fnShortSideSpec.pre6 enc Try.prog Try.f6 Rows.fnShortSideRow.domain false) (Rows.fnShortSideSpec.post enc Try.prog Try.f6 false true false false) := by
  refine returnsInHanded_of_change (C := Try.checked) Try.own started (by kernel_rfl) Try.func6
    (ChangeSpec.witness6 (enc := enc) (C := Try.checked) false ⟨#[], #[.slice none 0 0], []⟩ 8 (by kernel_rfl) (by kernel_rfl) (by kernel_rfl) (by kernel_rfl)) ?_
  intro W base args ds gs before hval0 hW _ _
  exact contract H enc W base args ds gs before hval0 hW

theorem proved : Rows.FnShortSideSaid :=
  OpenClaim.holds_of_wide 6 Try.f6 rfl rfl rfl rfl rfl rfl rfl ⟨rfl, rfl, rfl, rfl, rfl⟩ rfl rfl rfl rfl rfl (by kernel_rfl) Try.func6 (by kernel_rfl)
    (of_decide_eq_true (by kernel_rfl)) (by unfold Func.isWrapper; first | (rw [if_pos (by decide +kernel)]; kernel_rfl) | (rw [if_neg (by decide +kernel)]; exact ⟨rfl, rfl⟩))
    (fun os started H enc _ => lifted os started H enc)

end Go.Proofs.Ytenpplglanbooaa.lawShortSide
