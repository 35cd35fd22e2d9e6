/- FnAcrossOf: for every code the law holds: the program's AcrossOf answers as the model; what goes over a cut and the excess of its side's nodes are together 0; for the other nodes it has the other sign; and if all pipes hold the flow, it is at most the room. No condition. -/
import Derived.Test.YticokpjjajdhcaaL2
import Derived.Test.YticokpjjajdhcaaMG
import Derived.Test.YticokpjjajdhcaaW3
import Derived.Test.YticokpjjajdhcaaW8
import Derived.Test.YticokpjjajdhcaaS7
namespace Go.Proofs.Yticokpjjajdhcaa.lawAcrossOf
open Go.ChangeShapes Go.WideShapes Go.ChangeAt Go.RowKit Go.Deep Go.Joins

theorem acr_yes {n : Int} {ps : List Pp} {xs : List Int} {s : Int} (h : flowOkB n ps xs = true) (h1 : sideB n ps s = true) : (acrossAt n ps xs s).1 = across s ps xs ∧ (acrossAt n ps xs s).2 = true := by simp [acrossAt, h, h1]
theorem acr_no {n : Int} {ps : List Pp} {xs : List Int} {s : Int} (h : ¬ (flowOkB n ps xs = true ∧ sideB n ps s = true)) : (acrossAt n ps xs s).1 = 0 ∧ (acrossAt n ps xs s).2 = false := by simp only [acrossAt, if_neg h, and_self]
theorem room_yes {n : Int} {ps : List Pp} {s : Int} (h1 : sideB n ps s = true) : (roomAt n ps s).1 = room s ps ∧ (roomAt n ps s).2 = true := by simp [roomAt, h1]

set_option maxRecDepth 20000 in
set_option maxHeartbeats 2000000 in
set_option maxRecDepth 20000 in
theorem walk (v : Value) (n : Nat) (w : World) (h : ArgBytes w v n) :
    Calls Try.prog 13 #[v] w fun e w' => e = .returned (.bool true) ∧ Below w.heap.size w w' := by
  obtain ⟨A, c, rfl, hc1, hc2, -⟩ := id h
  unfold maxLen at hc2
  by_cases hbig : 1048576 < n
  · go_enter Try.func13, Try.ntmps13
    go_wp2
    go_ret
    exact ⟨rfl, by (repeat (first | (with_reducible assumption) | (with_reducible exact Below.refl _ _) | ((with_reducible refine Below.alloc ?_ ?hsz _); (case hsz => (first | omega | (simp; done) | (simp; omega) | (simp at *; omega)))) | ((with_reducible refine Below.setCell ?_ ?hsz _); (case hsz => (first | omega | (simp; done) | (simp; omega) | (simp at *; omega)))) | (with_reducible refine Below.drew ?_) | (with_reducible refine below_drewN ?_ _) | ((with_reducible refine Below.trans ?_ (Below.mono (by with_reducible assumption) ?hsz)); (case hsz => (first | omega | (simp; done) | (simp; omega) | (simp at *; omega))))))⟩
  go_enter Try.func13, Try.ntmps13
  go_wp2_with fail
  with_reducible refine (drawAcrossOf_any _ n _ (h.keep (by (repeat (first | (with_reducible assumption) | (with_reducible exact Below.refl _ _) | ((with_reducible refine Below.alloc ?_ ?hsz _); (case hsz => (first | omega | (simp; done) | (simp; omega) | (simp at *; omega)))) | ((with_reducible refine Below.setCell ?_ ?hsz _); (case hsz => (first | omega | (simp; done) | (simp; omega) | (simp at *; omega)))) | (with_reducible refine Below.drew ?_) | (with_reducible refine below_drewN ?_ _) | ((with_reducible refine Below.trans ?_ (Below.mono (by with_reducible assumption) ?hsz)); (case hsz => (first | omega | (simp; done) | (simp; omega) | (simp at *; omega))))))))).mono ?_
  rintro e w1 ⟨z, ps, u, xs, t, i, rfl, hp, hx, hb1, hl8, hz1, hz6⟩
  have hBw1 : Below w.heap.size w w1 := by (repeat (first | (with_reducible assumption) | (with_reducible exact Below.refl _ _) | ((with_reducible refine Below.alloc ?_ ?hsz _); (case hsz => (first | omega | (simp; done) | (simp; omega) | (simp at *; omega)))) | ((with_reducible refine Below.setCell ?_ ?hsz _); (case hsz => (first | omega | (simp; done) | (simp; omega) | (simp at *; omega)))) | (with_reducible refine Below.drew ?_) | (with_reducible refine below_drewN ?_ _) | ((with_reducible refine Below.trans ?_ (Below.mono (by with_reducible assumption) ?hsz)); (case hsz => (first | omega | (simp; done) | (simp; omega) | (simp at *; omega))))))
  clear h hc1 hc2 hbig
  obtain ⟨A1, c1, rfl, hk1, hk2, hsm, -⟩ := hp.form
  unfold maxLen at hk2
  have bx1 : Box2 (w1.alloc (.cells #[.int .i64 z, .slice A1 ps.length c1] 25)) w1.heap.size (.int .i64 z) (.slice A1 ps.length c1) := Box2.new _ _ _ _
  have hB1 : Below w1.heap.size w1 (w1.alloc (.cells #[.int .i64 z, .slice A1 ps.length c1] 25)) := by (repeat (first | (with_reducible assumption) | (with_reducible exact Below.refl _ _) | ((with_reducible refine Below.alloc ?_ ?hsz _); (case hsz => (first | omega | (simp; done) | (simp; omega) | (simp at *; omega)))) | ((with_reducible refine Below.setCell ?_ ?hsz _); (case hsz => (first | omega | (simp; done) | (simp; omega) | (simp at *; omega)))) | (with_reducible refine Below.drew ?_) | (with_reducible refine below_drewN ?_ _) | ((with_reducible refine Below.trans ?_ (Below.mono (by with_reducible assumption) ?hsz)); (case hsz => (first | omega | (simp; done) | (simp; omega) | (simp at *; omega))))))
  go_wp2_with fail
  with_reducible refine (acrossOf_any z i _ _ ps xs _ _ _ (hp.keep hB1) (hx.keep hB1)).mono ?_
  rintro e w2 ⟨rfl, hnn⟩
  have bx2 := (bx1).keep hnn
  have hB2 : Below w1.heap.size w1 w2 := by (repeat (first | (with_reducible assumption) | (with_reducible exact Below.refl _ _) | ((with_reducible refine Below.alloc ?_ ?hsz _); (case hsz => (first | omega | (simp; done) | (simp; omega) | (simp at *; omega)))) | ((with_reducible refine Below.setCell ?_ ?hsz _); (case hsz => (first | omega | (simp; done) | (simp; omega) | (simp at *; omega)))) | (with_reducible refine Below.drew ?_) | (with_reducible refine below_drewN ?_ _) | ((with_reducible refine Below.trans ?_ (Below.mono (by with_reducible assumption) ?hsz)); (case hsz => (first | omega | (simp; done) | (simp; omega) | (simp at *; omega))))))
  clear hnn
  (try clear d0 d1 g0 g1)
  obtain ⟨bs, d0, d1, g0, g1⟩ := id bx2
  go_wp2_with fail
  with_reducible refine (specAcrossOf_any z i _ _ ps xs _ _ _ (hp.keep hB2) (hx.keep hB2)).mono ?_
  rintro e w3 ⟨rfl, hnn⟩
  have bx3 := (bx2).keep hnn
  have hB3 : Below w1.heap.size w1 w3 := by (repeat (first | (with_reducible assumption) | (with_reducible exact Below.refl _ _) | ((with_reducible refine Below.alloc ?_ ?hsz _); (case hsz => (first | omega | (simp; done) | (simp; omega) | (simp at *; omega)))) | ((with_reducible refine Below.setCell ?_ ?hsz _); (case hsz => (first | omega | (simp; done) | (simp; omega) | (simp at *; omega)))) | (with_reducible refine Below.drew ?_) | (with_reducible refine below_drewN ?_ _) | ((with_reducible refine Below.trans ?_ (Below.mono (by with_reducible assumption) ?hsz)); (case hsz => (first | omega | (simp; done) | (simp; omega) | (simp at *; omega))))))
  clear hnn
  (try clear d0 d1 g0 g1)
  obtain ⟨bs, d0, d1, g0, g1⟩ := id bx3
  by_cases hc : flowOkB z ps xs = true ∧ sideB z ps i = true
  · obtain ⟨hf, hsd⟩ := hc
    obtain ⟨he1, he2⟩ := acr_yes hf hsd
    obtain ⟨hnok, z0, z5, i0, i1⟩ := side_all hsd
    have hn := netOk_parts hnok
    have hall := (flowOk_parts hf).2.2
    have hab := across_bd i ps xs hall
    have hl7 := hn.2.2.1
    have ha1 : -280 ≤ across i ps xs := by omega
    have ha2 : across i ps xs ≤ 280 := by omega
    have HF := Lib.hid hf
    have HSd := Lib.hid hsd
    have HX := Lib.hid (across_exc xs hnok (s := i))
    have HL := Lib.hid (across_lack xs hsd)
    have hp5 := pow_le5 z5
    have i31 : i ≤ 31 := by omega
    clear hf hsd hab hall hp5 i1
    go_wp2_with fail
    go_loopw [11, 10] (fun j s wr => ∃ k : Nat, (k : Int) ≤ z ∧ j = .int .i64 k ∧ s = .int .i64 (sideExc k i ps xs) ∧ Box2 wr w1.heap.size (.int .i64 z) (.slice A1 ps.length c1) ∧ Below w1.heap.size w1 wr) (fun j _ _ => z.toNat - (intOf j).toNat)
    case atStart => exact ⟨0, by omega, rfl, rfl, bx3, hB3⟩
    case round =>
      obtain ⟨k, hk, rfl, rfl, bx, hB⟩ := hrel
      clear d0 d1 g0 g1
      obtain ⟨bs, d0, d1, g0, g1⟩ := id bx
      by_cases hlt : (k : Int) < z
      · obtain ⟨hk1, hk2⟩ := excAt_yes HF.out (Int.natCast_nonneg k) hlt
        obtain ⟨hy1, hy2⟩ := exc_bd7 HF.out (k : Int)
        have hy3 := nodeSum_bd k (fun j => if bitB i j = true then exc j ps xs else 0) 280 (fun j _ => by have := exc_bd7 HF.out (j : Int); split <;> omega)
        have hy4 : -1400 ≤ sideExc k i ps xs := by unfold sideExc; omega
        have hy5 : sideExc k i ps xs ≤ 1400 := by unfold sideExc; omega
        have Hs := Lib.hid (nodeSum_succ k fun j => if bitB i j = true then exc j ps xs else 0)
        clear hy3
        go_wp2_with fail
        with_reducible refine (excessAt_any k z _ _ ps xs _ _ _ (hp.keep hB) (hx.keep hB)).mono ?_
        rintro e w4 ⟨rfl, hnn⟩
        have bx4 := (bx).keep hnn
        have hB4 : Below w1.heap.size w1 w4 := by (repeat (first | (with_reducible assumption) | (with_reducible exact Below.refl _ _) | ((with_reducible refine Below.alloc ?_ ?hsz _); (case hsz => (first | omega | (simp; done) | (simp; omega) | (simp at *; omega)))) | ((with_reducible refine Below.setCell ?_ ?hsz _); (case hsz => (first | omega | (simp; done) | (simp; omega) | (simp at *; omega)))) | (with_reducible refine Below.drew ?_) | (with_reducible refine below_drewN ?_ _) | ((with_reducible refine Below.trans ?_ (Below.mono (by with_reducible assumption) ?hsz)); (case hsz => (first | omega | (simp; done) | (simp; omega) | (simp at *; omega))))))
        clear hnn
        (try clear d0 d1 g0 g1)
        obtain ⟨bs, d0, d1, g0, g1⟩ := id bx4
        have Hbit := Lib.hid (shr_bitB i0 k)
        go_wp2
        all_goals first
          | (have hb : ((i / 2 ^ k).tmod 2 == 1) = true := by assumption
             rw [Hbit.out] at hb
             go_roundw
             case rel => exact ⟨k + 1, by omega, by go_num, by rw [show sideExc (k + 1) i ps xs = sideExc k i ps xs + exc (k : Int) ps xs by unfold sideExc; rw [Hs.out, if_pos hb]], bx4, hB4⟩
             case measure => simp [intOf]; omega)
          | (have hb : ((i / 2 ^ k).tmod 2 == 1) = false := by assumption
             rw [Hbit.out] at hb
             go_roundw
             case rel => exact ⟨k + 1, by omega, by go_num, by rw [show sideExc (k + 1) i ps xs = sideExc k i ps xs by unfold sideExc; rw [Hs.out, if_neg (by simp [hb])]; omega], bx4, hB4⟩
             case measure => simp [intOf]; omega)
      · obtain rfl : k = z.toNat := by omega
        have hx0 := HX.out
        obtain ⟨sx, hsx⟩ : ∃ sx, sx = sideExc z.toNat i ps xs := ⟨_, rfl⟩
        rw [← hsx] at hx0 ⊢
        clear hsx
        have hlk := acr_yes (s := lack z i) HF.out (by rw [side_lack]; exact HSd.out)
        rw [HL.out] at hlk
        obtain ⟨hl1, hl2⟩ := hlk
        obtain ⟨hr1, hr2⟩ := room_yes HSd.out
        have hrm := fun hh : holdsB z ps xs = true => across_room (s := i) (holds_parts hh).2.1 (holds_parts hh).2.2
        have Hrm := Lib.hid hrm
        clear hrm
        have hzz := side_n' hnok
        rcases hzz with rfl | rfl | rfl | rfl
        · replace hl1 : (acrossAt 2 ps xs (3 - i)).1 = -across i ps xs := hl1
          replace hl2 : (acrossAt 2 ps xs (3 - i)).2 = true := hl2
          go_wp2_with fail
          have hd0 := fun p : Bw wr => (bw_cell p bs).trans d0
          have hd1 := fun p : Bw wr => (bw_cell p bs).trans d1
          refine wp_region_bw (by kernel_rfl) (by kernel_rfl) ?_
          repeat (go_big_quiet_step ((go_at_call 43; refine calls_bw (acrossOf_any 2 (3 - i) _ _ ps xs _ _ _ ((hp.keep hB).keep (Bw.h _)) ((hx.keep hB).keep (Bw.h _))))))
          refine wpQuiet_nil ?_
          rintro _ ⟨pw, rfl⟩
          have bxq := bx.keep pw.h
          have hBq := hB.trans (pw.h.mono hB.size)
          obtain ⟨wq, hwq⟩ : ∃ wq, wq = pw.v := ⟨_, rfl⟩
          rw [← hwq] at bxq hBq ⊢
          clear d0 d1 g0 g1 hd0 hd1 hwq hl1 hl2
          obtain ⟨bs, d0, d1, g0, g1⟩ := id bxq
          go_wp2_with fail
          with_reducible refine (roomOfTop_any 2 i _ ps _ _ (hp.keep hBq)).mono ?_
          rintro e w6 ⟨rfl, hnn⟩
          have bx6 := (bxq).keep hnn
          have hB6 : Below w1.heap.size w1 w6 := by (repeat (first | (with_reducible assumption) | (with_reducible exact Below.refl _ _) | ((with_reducible refine Below.alloc ?_ ?hsz _); (case hsz => (first | omega | (simp; done) | (simp; omega) | (simp at *; omega)))) | ((with_reducible refine Below.setCell ?_ ?hsz _); (case hsz => (first | omega | (simp; done) | (simp; omega) | (simp at *; omega)))) | (with_reducible refine Below.drew ?_) | (with_reducible refine below_drewN ?_ _) | ((with_reducible refine Below.trans ?_ (Below.mono (by with_reducible assumption) ?hsz)); (case hsz => (first | omega | (simp; done) | (simp; omega) | (simp at *; omega))))))
          clear hnn
          (try clear d0 d1 g0 g1)
          obtain ⟨bs, d0, d1, g0, g1⟩ := id bx6
          go_wp2_with fail
          with_reducible refine (holdsOk_any 2 _ _ ps xs _ _ _ (hp.keep hB6) (hx.keep hB6)).mono ?_
          rintro e w7 ⟨rfl, hnn⟩
          have bx7 := (bx6).keep hnn
          have hB7 : Below w1.heap.size w1 w7 := by (repeat (first | (with_reducible assumption) | (with_reducible exact Below.refl _ _) | ((with_reducible refine Below.alloc ?_ ?hsz _); (case hsz => (first | omega | (simp; done) | (simp; omega) | (simp at *; omega)))) | ((with_reducible refine Below.setCell ?_ ?hsz _); (case hsz => (first | omega | (simp; done) | (simp; omega) | (simp at *; omega)))) | (with_reducible refine Below.drew ?_) | (with_reducible refine below_drewN ?_ _) | ((with_reducible refine Below.trans ?_ (Below.mono (by with_reducible assumption) ?hsz)); (case hsz => (first | omega | (simp; done) | (simp; omega) | (simp at *; omega))))))
          clear hnn
          (try clear d0 d1 g0 g1)
          obtain ⟨bs, d0, d1, g0, g1⟩ := id bx7
          have hrm := Hrm.out
          generalize holdsB 2 ps xs = bb at *
          cases bb with
          | false =>
            go_wp2
            (go_ret; exact ⟨rfl, hBw1.trans (Below.mono (by with_reducible assumption) hBw1.size)⟩)
          | true =>
            have hle : across i ps xs ≤ room i ps := hrm rfl
            clear hrm
            have hdle : decide (across i ps xs ≤ room i ps) = true := by simpa using hle
            go_wp2
            (go_ret; exact ⟨rfl, hBw1.trans (Below.mono (by with_reducible assumption) hBw1.size)⟩)
        · replace hl1 : (acrossAt 3 ps xs (7 - i)).1 = -across i ps xs := hl1
          replace hl2 : (acrossAt 3 ps xs (7 - i)).2 = true := hl2
          go_wp2_with fail
          have hd0 := fun p : Bw wr => (bw_cell p bs).trans d0
          have hd1 := fun p : Bw wr => (bw_cell p bs).trans d1
          refine wp_region_bw (by kernel_rfl) (by kernel_rfl) ?_
          repeat (go_big_quiet_step ((go_at_call 43; refine calls_bw (acrossOf_any 3 (7 - i) _ _ ps xs _ _ _ ((hp.keep hB).keep (Bw.h _)) ((hx.keep hB).keep (Bw.h _))))))
          refine wpQuiet_nil ?_
          rintro _ ⟨pw, rfl⟩
          have bxq := bx.keep pw.h
          have hBq := hB.trans (pw.h.mono hB.size)
          obtain ⟨wq, hwq⟩ : ∃ wq, wq = pw.v := ⟨_, rfl⟩
          rw [← hwq] at bxq hBq ⊢
          clear d0 d1 g0 g1 hd0 hd1 hwq hl1 hl2
          obtain ⟨bs, d0, d1, g0, g1⟩ := id bxq
          go_wp2_with fail
          with_reducible refine (roomOfTop_any 3 i _ ps _ _ (hp.keep hBq)).mono ?_
          rintro e w6 ⟨rfl, hnn⟩
          have bx6 := (bxq).keep hnn
          have hB6 : Below w1.heap.size w1 w6 := by (repeat (first | (with_reducible assumption) | (with_reducible exact Below.refl _ _) | ((with_reducible refine Below.alloc ?_ ?hsz _); (case hsz => (first | omega | (simp; done) | (simp; omega) | (simp at *; omega)))) | ((with_reducible refine Below.setCell ?_ ?hsz _); (case hsz => (first | omega | (simp; done) | (simp; omega) | (simp at *; omega)))) | (with_reducible refine Below.drew ?_) | (with_reducible refine below_drewN ?_ _) | ((with_reducible refine Below.trans ?_ (Below.mono (by with_reducible assumption) ?hsz)); (case hsz => (first | omega | (simp; done) | (simp; omega) | (simp at *; omega))))))
          clear hnn
          (try clear d0 d1 g0 g1)
          obtain ⟨bs, d0, d1, g0, g1⟩ := id bx6
          go_wp2_with fail
          with_reducible refine (holdsOk_any 3 _ _ ps xs _ _ _ (hp.keep hB6) (hx.keep hB6)).mono ?_
          rintro e w7 ⟨rfl, hnn⟩
          have bx7 := (bx6).keep hnn
          have hB7 : Below w1.heap.size w1 w7 := by (repeat (first | (with_reducible assumption) | (with_reducible exact Below.refl _ _) | ((with_reducible refine Below.alloc ?_ ?hsz _); (case hsz => (first | omega | (simp; done) | (simp; omega) | (simp at *; omega)))) | ((with_reducible refine Below.setCell ?_ ?hsz _); (case hsz => (first | omega | (simp; done) | (simp; omega) | (simp at *; omega)))) | (with_reducible refine Below.drew ?_) | (with_reducible refine below_drewN ?_ _) | ((with_reducible refine Below.trans ?_ (Below.mono (by with_reducible assumption) ?hsz)); (case hsz => (first | omega | (simp; done) | (simp; omega) | (simp at *; omega))))))
          clear hnn
          (try clear d0 d1 g0 g1)
          obtain ⟨bs, d0, d1, g0, g1⟩ := id bx7
          have hrm := Hrm.out
          generalize holdsB 3 ps xs = bb at *
          cases bb with
          | false =>
            go_wp2
            (go_ret; exact ⟨rfl, hBw1.trans (Below.mono (by with_reducible assumption) hBw1.size)⟩)
          | true =>
            have hle : across i ps xs ≤ room i ps := hrm rfl
            clear hrm
            have hdle : decide (across i ps xs ≤ room i ps) = true := by simpa using hle
            go_wp2
            (go_ret; exact ⟨rfl, hBw1.trans (Below.mono (by with_reducible assumption) hBw1.size)⟩)
        · replace hl1 : (acrossAt 4 ps xs (15 - i)).1 = -across i ps xs := hl1
          replace hl2 : (acrossAt 4 ps xs (15 - i)).2 = true := hl2
          go_wp2_with fail
          have hd0 := fun p : Bw wr => (bw_cell p bs).trans d0
          have hd1 := fun p : Bw wr => (bw_cell p bs).trans d1
          refine wp_region_bw (by kernel_rfl) (by kernel_rfl) ?_
          repeat (go_big_quiet_step ((go_at_call 43; refine calls_bw (acrossOf_any 4 (15 - i) _ _ ps xs _ _ _ ((hp.keep hB).keep (Bw.h _)) ((hx.keep hB).keep (Bw.h _))))))
          refine wpQuiet_nil ?_
          rintro _ ⟨pw, rfl⟩
          have bxq := bx.keep pw.h
          have hBq := hB.trans (pw.h.mono hB.size)
          obtain ⟨wq, hwq⟩ : ∃ wq, wq = pw.v := ⟨_, rfl⟩
          rw [← hwq] at bxq hBq ⊢
          clear d0 d1 g0 g1 hd0 hd1 hwq hl1 hl2
          obtain ⟨bs, d0, d1, g0, g1⟩ := id bxq
          go_wp2_with fail
          with_reducible refine (roomOfTop_any 4 i _ ps _ _ (hp.keep hBq)).mono ?_
          rintro e w6 ⟨rfl, hnn⟩
          have bx6 := (bxq).keep hnn
          have hB6 : Below w1.heap.size w1 w6 := by (repeat (first | (with_reducible assumption) | (with_reducible exact Below.refl _ _) | ((with_reducible refine Below.alloc ?_ ?hsz _); (case hsz => (first | omega | (simp; done) | (simp; omega) | (simp at *; omega)))) | ((with_reducible refine Below.setCell ?_ ?hsz _); (case hsz => (first | omega | (simp; done) | (simp; omega) | (simp at *; omega)))) | (with_reducible refine Below.drew ?_) | (with_reducible refine below_drewN ?_ _) | ((with_reducible refine Below.trans ?_ (Below.mono (by with_reducible assumption) ?hsz)); (case hsz => (first | omega | (simp; done) | (simp; omega) | (simp at *; omega))))))
          clear hnn
          (try clear d0 d1 g0 g1)
          obtain ⟨bs, d0, d1, g0, g1⟩ := id bx6
          go_wp2_with fail
          with_reducible refine (holdsOk_any 4 _ _ ps xs _ _ _ (hp.keep hB6) (hx.keep hB6)).mono ?_
          rintro e w7 ⟨rfl, hnn⟩
          have bx7 := (bx6).keep hnn
          have hB7 : Below w1.heap.size w1 w7 := by (repeat (first | (with_reducible assumption) | (with_reducible exact Below.refl _ _) | ((with_reducible refine Below.alloc ?_ ?hsz _); (case hsz => (first | omega | (simp; done) | (simp; omega) | (simp at *; omega)))) | ((with_reducible refine Below.setCell ?_ ?hsz _); (case hsz => (first | omega | (simp; done) | (simp; omega) | (simp at *; omega)))) | (with_reducible refine Below.drew ?_) | (with_reducible refine below_drewN ?_ _) | ((with_reducible refine Below.trans ?_ (Below.mono (by with_reducible assumption) ?hsz)); (case hsz => (first | omega | (simp; done) | (simp; omega) | (simp at *; omega))))))
          clear hnn
          (try clear d0 d1 g0 g1)
          obtain ⟨bs, d0, d1, g0, g1⟩ := id bx7
          have hrm := Hrm.out
          generalize holdsB 4 ps xs = bb at *
          cases bb with
          | false =>
            go_wp2
            (go_ret; exact ⟨rfl, hBw1.trans (Below.mono (by with_reducible assumption) hBw1.size)⟩)
          | true =>
            have hle : across i ps xs ≤ room i ps := hrm rfl
            clear hrm
            have hdle : decide (across i ps xs ≤ room i ps) = true := by simpa using hle
            go_wp2
            (go_ret; exact ⟨rfl, hBw1.trans (Below.mono (by with_reducible assumption) hBw1.size)⟩)
        · replace hl1 : (acrossAt 5 ps xs (31 - i)).1 = -across i ps xs := hl1
          replace hl2 : (acrossAt 5 ps xs (31 - i)).2 = true := hl2
          go_wp2_with fail
          have hd0 := fun p : Bw wr => (bw_cell p bs).trans d0
          have hd1 := fun p : Bw wr => (bw_cell p bs).trans d1
          refine wp_region_bw (by kernel_rfl) (by kernel_rfl) ?_
          repeat (go_big_quiet_step ((go_at_call 43; refine calls_bw (acrossOf_any 5 (31 - i) _ _ ps xs _ _ _ ((hp.keep hB).keep (Bw.h _)) ((hx.keep hB).keep (Bw.h _))))))
          refine wpQuiet_nil ?_
          rintro _ ⟨pw, rfl⟩
          have bxq := bx.keep pw.h
          have hBq := hB.trans (pw.h.mono hB.size)
          obtain ⟨wq, hwq⟩ : ∃ wq, wq = pw.v := ⟨_, rfl⟩
          rw [← hwq] at bxq hBq ⊢
          clear d0 d1 g0 g1 hd0 hd1 hwq hl1 hl2
          obtain ⟨bs, d0, d1, g0, g1⟩ := id bxq
          go_wp2_with fail
          with_reducible refine (roomOfTop_any 5 i _ ps _ _ (hp.keep hBq)).mono ?_
          rintro e w6 ⟨rfl, hnn⟩
          have bx6 := (bxq).keep hnn
          have hB6 : Below w1.heap.size w1 w6 := by (repeat (first | (with_reducible assumption) | (with_reducible exact Below.refl _ _) | ((with_reducible refine Below.alloc ?_ ?hsz _); (case hsz => (first | omega | (simp; done) | (simp; omega) | (simp at *; omega)))) | ((with_reducible refine Below.setCell ?_ ?hsz _); (case hsz => (first | omega | (simp; done) | (simp; omega) | (simp at *; omega)))) | (with_reducible refine Below.drew ?_) | (with_reducible refine below_drewN ?_ _) | ((with_reducible refine Below.trans ?_ (Below.mono (by with_reducible assumption) ?hsz)); (case hsz => (first | omega | (simp; done) | (simp; omega) | (simp at *; omega))))))
          clear hnn
          (try clear d0 d1 g0 g1)
          obtain ⟨bs, d0, d1, g0, g1⟩ := id bx6
          go_wp2_with fail
          with_reducible refine (holdsOk_any 5 _ _ ps xs _ _ _ (hp.keep hB6) (hx.keep hB6)).mono ?_
          rintro e w7 ⟨rfl, hnn⟩
          have bx7 := (bx6).keep hnn
          have hB7 : Below w1.heap.size w1 w7 := by (repeat (first | (with_reducible assumption) | (with_reducible exact Below.refl _ _) | ((with_reducible refine Below.alloc ?_ ?hsz _); (case hsz => (first | omega | (simp; done) | (simp; omega) | (simp at *; omega)))) | ((with_reducible refine Below.setCell ?_ ?hsz _); (case hsz => (first | omega | (simp; done) | (simp; omega) | (simp at *; omega)))) | (with_reducible refine Below.drew ?_) | (with_reducible refine below_drewN ?_ _) | ((with_reducible refine Below.trans ?_ (Below.mono (by with_reducible assumption) ?hsz)); (case hsz => (first | omega | (simp; done) | (simp; omega) | (simp at *; omega))))))
          clear hnn
          (try clear d0 d1 g0 g1)
          obtain ⟨bs, d0, d1, g0, g1⟩ := id bx7
          have hrm := Hrm.out
          generalize holdsB 5 ps xs = bb at *
          cases bb with
          | false =>
            go_wp2
            (go_ret; exact ⟨rfl, hBw1.trans (Below.mono (by with_reducible assumption) hBw1.size)⟩)
          | true =>
            have hle : across i ps xs ≤ room i ps := hrm rfl
            clear hrm
            have hdle : decide (across i ps xs ≤ room i ps) = true := by simpa using hle
            go_wp2
            (go_ret; exact ⟨rfl, hBw1.trans (Below.mono (by with_reducible assumption) hBw1.size)⟩)
  · obtain ⟨he1, he2⟩ := acr_no hc
    go_wp2_with fail
    with_reducible refine (alive_any _).mono ?_
    rintro e w4 ⟨rfl, hnn⟩
    have bx4 := (bx3).keep hnn
    have hB4 : Below w1.heap.size w1 w4 := by (repeat (first | (with_reducible assumption) | (with_reducible exact Below.refl _ _) | ((with_reducible refine Below.alloc ?_ ?hsz _); (case hsz => (first | omega | (simp; done) | (simp; omega) | (simp at *; omega)))) | ((with_reducible refine Below.setCell ?_ ?hsz _); (case hsz => (first | omega | (simp; done) | (simp; omega) | (simp at *; omega)))) | (with_reducible refine Below.drew ?_) | (with_reducible refine below_drewN ?_ _) | ((with_reducible refine Below.trans ?_ (Below.mono (by with_reducible assumption) ?hsz)); (case hsz => (first | omega | (simp; done) | (simp; omega) | (simp at *; omega))))))
    clear hnn
    (try clear d0 d1 g0 g1)
    obtain ⟨bs, d0, d1, g0, g1⟩ := id bx4
    go_wp2
    (go_ret; exact ⟨rfl, hBw1.trans (Below.mono (by with_reducible assumption) hBw1.size)⟩)

set_option maxRecDepth 100000 in
theorem contract (H : Type) (enc : TypeId × Value → H) (W : World) (base : Nat) (args : Array Value) (ds gs : List (DataW H)) (before : List MemPlace)
    (hval : ∀ (j : Nat) t v, Try.f13.params[j]? = some t → args[j]? = some v → Value.okWide Try.prog W .any base t v)
    (hW : DataW.Whole enc Try.prog Try.f13.params.toList Rows.fnAcrossOfSpec.vars false W args.toList ds gs before) :
    Calls Try.prog 13 args W fun e W' => ∃ v, e = .returned v ∧ Rows.fnAcrossOfSpec.post enc Try.prog Try.f13 false true false false W args v W' := by
  have hW' := hW
  obtain ⟨p, q, hA0, hV, rfl, hfz, hnd⟩ := hW
  have hA : DataW.TrodAll enc Try.prog W 0 (fun _ => true) true Try.f13.params.toList args.toList ds p := hA0
  rw [Try.params13] at hA hval
  obtain ⟨u0, us0, d0, ds0, p0, q0, hargs, rfl, rfl, g0, k0⟩ := trodAll_cons hA
  obtain ⟨rfl, rfl, rfl⟩ := trodAll_nil k0
  obtain rfl : args = #[u0] := by cases args; simp_all
  obtain ⟨rfl, rfl⟩ := trodVars_none hV
  obtain ⟨m0, e0⟩ := g0
  obtain ⟨s0, l0, f0, hh0⟩ := open_arg_bytes e0
  have f0' := one_of_cells Try.underlying22 (hval 0 _ _ rfl rfl) f0
  subst f0'
  refine (walk _ l0 W hh0).mono fun e W' ⟨he, hb⟩ => ?_
  subst he
  exact ⟨_, rfl, law_post Try.kids Try.full (by rw [Try.params13]; decide) rfl rfl Try.underlying4 hW' rfl rfl rfl hb⟩

set_option maxRecDepth 100000 in
theorem lifted (os : Os) (started : os.Started) (H : Type) (enc : TypeId × Value → H) :
    ReturnsInHanded {} Try.checked os 13 .any (Rows.fnAcrossOfSpec.pre6 enc Try.prog Try.f13 Rows.fnAcrossOfRow.domain false) (Rows.fnAcrossOfSpec.post enc Try.prog Try.f13 false true false false) := by
  refine returnsInHanded_of_change (C := Try.checked) Try.own started (by kernel_rfl) Try.func13
    (ChangeSpec.witness6 (enc := enc) (C := Try.checked) false ⟨#[], #[.slice none 0 0], []⟩ 8 (by kernel_rfl) (by kernel_rfl) (by kernel_rfl) (by kernel_rfl)) ?_
  intro W base args ds gs before hval0 hW _ _
  exact contract H enc W base args ds gs before hval0 hW

theorem proved : Rows.FnAcrossOfSaid :=
  OpenClaim.holds_of_wide 13 Try.f13 rfl rfl rfl rfl rfl rfl rfl ⟨rfl, rfl, rfl, rfl, rfl⟩ rfl rfl rfl rfl rfl (by kernel_rfl) Try.func13 (by kernel_rfl)
    (of_decide_eq_true (by kernel_rfl)) (by unfold Func.isWrapper; first | (rw [if_pos (by decide +kernel)]; kernel_rfl) | (rw [if_neg (by decide +kernel)]; exact ⟨rfl, rfl⟩))
    (fun os started H enc _ => lifted os started H enc)

end Go.Proofs.Yticokpjjajdhcaa.lawAcrossOf
