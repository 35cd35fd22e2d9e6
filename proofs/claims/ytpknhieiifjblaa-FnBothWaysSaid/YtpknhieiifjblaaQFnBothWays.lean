/- FnBothWays: for every code the law holds: if all pipes hold the flow, what goes over from a side is at most its room, and at least the room of the other nodes, taken away from 0. No condition. -/
import Derived.Test.YtpknhieiifjblaaL2
import Derived.Test.YtpknhieiifjblaaD8
import Derived.Test.YtpknhieiifjblaaMG
import Derived.Test.YtpknhieiifjblaaW8
import Derived.Test.YtpknhieiifjblaaS2
import Derived.Test.YtpknhieiifjblaaS6
namespace Go.Proofs.Ytpknhieiifjblaa.lawBothWays
open Go.ChangeShapes Go.WideShapes Go.ChangeAt Go.RowKit Go.Deep Go.Joins

set_option maxRecDepth 20000 in
set_option maxHeartbeats 2000000 in
set_option maxRecDepth 20000 in
theorem walk (v : Value) (n : Nat) (w : World) (h : ArgBytes w v n) :
    Calls Try.prog 3 #[v] w fun e w' => e = .returned (.bool true) ∧ Below w.heap.size w w' := by
  obtain ⟨A, c, rfl, hc1, hc2, -⟩ := id h
  unfold maxLen at hc2
  by_cases hbig : 1048576 < n
  · go_enter Try.func3, Try.ntmps3
    go_wp2
    go_ret
    exact ⟨rfl, by (repeat (first | (with_reducible assumption) | (with_reducible exact Below.refl _ _) | ((with_reducible refine Below.alloc ?_ ?hsz _); (case hsz => (first | omega | (simp; done) | (simp; omega) | (simp at *; omega)))) | ((with_reducible refine Below.setCell ?_ ?hsz _); (case hsz => (first | omega | (simp; done) | (simp; omega) | (simp at *; omega)))) | (with_reducible refine Below.drew ?_) | (with_reducible refine below_drewN ?_ _) | ((with_reducible refine Below.trans ?_ (Below.mono (by with_reducible assumption) ?hsz)); (case hsz => (first | omega | (simp; done) | (simp; omega) | (simp at *; omega))))))⟩
  go_enter Try.func3, Try.ntmps3
  go_wp2_with fail
  with_reducible refine (drawAcrossOf_any _ n _ (h.keep (by (repeat (first | (with_reducible assumption) | (with_reducible exact Below.refl _ _) | ((with_reducible refine Below.alloc ?_ ?hsz _); (case hsz => (first | omega | (simp; done) | (simp; omega) | (simp at *; omega)))) | ((with_reducible refine Below.setCell ?_ ?hsz _); (case hsz => (first | omega | (simp; done) | (simp; omega) | (simp at *; omega)))) | (with_reducible refine Below.drew ?_) | (with_reducible refine below_drewN ?_ _) | ((with_reducible refine Below.trans ?_ (Below.mono (by with_reducible assumption) ?hsz)); (case hsz => (first | omega | (simp; done) | (simp; omega) | (simp at *; omega))))))))).mono ?_
  rintro e w1 ⟨z, ps, u, xs, t, i, rfl, hp, hx, hb1, hl8, hz1, hz6⟩
  have hBw1 : Below w.heap.size w w1 := by (repeat (first | (with_reducible assumption) | (with_reducible exact Below.refl _ _) | ((with_reducible refine Below.alloc ?_ ?hsz _); (case hsz => (first | omega | (simp; done) | (simp; omega) | (simp at *; omega)))) | ((with_reducible refine Below.setCell ?_ ?hsz _); (case hsz => (first | omega | (simp; done) | (simp; omega) | (simp at *; omega)))) | (with_reducible refine Below.drew ?_) | (with_reducible refine below_drewN ?_ _) | ((with_reducible refine Below.trans ?_ (Below.mono (by with_reducible assumption) ?hsz)); (case hsz => (first | omega | (simp; done) | (simp; omega) | (simp at *; omega))))))
  clear h hc1 hc2 hbig
  obtain ⟨A1, c1, rfl, hk1, hk2, hsm, -⟩ := hp.form
  unfold maxLen at hk2
  have bx1 : Box2 (w1.alloc (.cells #[.int .i64 z, .slice A1 ps.length c1] 25)) w1.heap.size (.int .i64 z) (.slice A1 ps.length c1) := Box2.new _ _ _ _
  have hB1 : Below w1.heap.size w1 (w1.alloc (.cells #[.int .i64 z, .slice A1 ps.length c1] 25)) := by (repeat (first | (with_reducible assumption) | (with_reducible exact Below.refl _ _) | ((with_reducible refine Below.alloc ?_ ?hsz _); (case hsz => (first | omega | (simp; done) | (simp; omega) | (simp at *; omega)))) | ((with_reducible refine Below.setCell ?_ ?hsz _); (case hsz => (first | omega | (simp; done) | (simp; omega) | (simp at *; omega)))) | (with_reducible refine Below.drew ?_) | (with_reducible refine below_drewN ?_ _) | ((with_reducible refine Below.trans ?_ (Below.mono (by with_reducible assumption) ?hsz)); (case hsz => (first | omega | (simp; done) | (simp; omega) | (simp at *; omega))))))
  go_wp2_with fail
  with_reducible refine (specHoldsOk_any z _ _ ps xs _ _ _ (hp.keep hB1) (hx.keep hB1)).mono ?_
  rintro e w2 ⟨rfl, hnn⟩
  have bx2 := (bx1).keep hnn
  have hB2 : Below w1.heap.size w1 w2 := by (repeat (first | (with_reducible assumption) | (with_reducible exact Below.refl _ _) | ((with_reducible refine Below.alloc ?_ ?hsz _); (case hsz => (first | omega | (simp; done) | (simp; omega) | (simp at *; omega)))) | ((with_reducible refine Below.setCell ?_ ?hsz _); (case hsz => (first | omega | (simp; done) | (simp; omega) | (simp at *; omega)))) | (with_reducible refine Below.drew ?_) | (with_reducible refine below_drewN ?_ _) | ((with_reducible refine Below.trans ?_ (Below.mono (by with_reducible assumption) ?hsz)); (case hsz => (first | omega | (simp; done) | (simp; omega) | (simp at *; omega))))))
  clear hnn
  (try clear d0 d1 g0 g1)
  obtain ⟨bs, d0, d1, g0, g1⟩ := id bx2
  by_cases hh : holdsB z ps xs = true
  · go_wp2_with fail
    with_reducible refine (specSideOk_any z i _ ps _ _ (hp.keep hB2)).mono ?_
    rintro e w3 ⟨rfl, hnn⟩
    have bx3 := (bx2).keep hnn
    have hB3 : Below w1.heap.size w1 w3 := by (repeat (first | (with_reducible assumption) | (with_reducible exact Below.refl _ _) | ((with_reducible refine Below.alloc ?_ ?hsz _); (case hsz => (first | omega | (simp; done) | (simp; omega) | (simp at *; omega)))) | ((with_reducible refine Below.setCell ?_ ?hsz _); (case hsz => (first | omega | (simp; done) | (simp; omega) | (simp at *; omega)))) | (with_reducible refine Below.drew ?_) | (with_reducible refine below_drewN ?_ _) | ((with_reducible refine Below.trans ?_ (Below.mono (by with_reducible assumption) ?hsz)); (case hsz => (first | omega | (simp; done) | (simp; omega) | (simp at *; omega))))))
    clear hnn
    (try clear d0 d1 g0 g1)
    obtain ⟨bs, d0, d1, g0, g1⟩ := id bx3
    by_cases hs : sideB z ps i = true
    · obtain ⟨hf, -, hlen⟩ := holds_parts hh
      obtain ⟨hok, z0, z5, i0, i1⟩ := side_all hs
      have hsl : sideB z ps (lack z i) = true := by rw [side_lack]; exact hs
      obtain ⟨a1, a2⟩ := acr_yes hf hs
      obtain ⟨r1, r2⟩ := room_yes hs
      have hr := room_yes hsl
      have hab := across_bd i ps xs (flowOk_parts hf).2.2
      have hl7 := (netOk_parts hok).2.2.1
      have ha1 : -280 ≤ across i ps xs := by omega
      have ha2 : across i ps xs ≤ 280 := by omega
      have hle : across i ps xs ≤ room i ps := across_room (holds_parts hh).2.1 hlen
      have hll : -across i ps xs ≤ room (lack z i) ps := by rw [← across_lack xs hs]; exact across_room (holds_parts hh).2.1 hlen
      have hd1 : decide (across i ps xs ≤ room i ps) = true := decide_eq_true hle
      have hd2 : decide (-across i ps xs ≤ room (lack z i) ps) = true := decide_eq_true hll
      have Hd := Lib.hid (And.intro hd1 hd2)
      have hn := netOk_parts hok
      have hp5 := pow_le5 z5
      have i31 : i ≤ 31 := by omega
      clear hab hle hll hd1 hd2 hp5 i1
      go_wp2_with fail
      with_reducible refine (acrossOf_any z i _ _ ps xs _ _ _ (hp.keep hB3) (hx.keep hB3)).mono ?_
      rintro e w4 ⟨rfl, hnn⟩
      have bx4 := (bx3).keep hnn
      have hB4 : Below w1.heap.size w1 w4 := by (repeat (first | (with_reducible assumption) | (with_reducible exact Below.refl _ _) | ((with_reducible refine Below.alloc ?_ ?hsz _); (case hsz => (first | omega | (simp; done) | (simp; omega) | (simp at *; omega)))) | ((with_reducible refine Below.setCell ?_ ?hsz _); (case hsz => (first | omega | (simp; done) | (simp; omega) | (simp at *; omega)))) | (with_reducible refine Below.drew ?_) | (with_reducible refine below_drewN ?_ _) | ((with_reducible refine Below.trans ?_ (Below.mono (by with_reducible assumption) ?hsz)); (case hsz => (first | omega | (simp; done) | (simp; omega) | (simp at *; omega))))))
      clear hnn
      (try clear d0 d1 g0 g1)
      obtain ⟨bs, d0, d1, g0, g1⟩ := id bx4
      go_wp2_with fail
      with_reducible refine (roomOfTop_any z i _ ps _ _ (hp.keep hB4)).mono ?_
      rintro e w5 ⟨rfl, hnn⟩
      have bx5 := (bx4).keep hnn
      have hB5 : Below w1.heap.size w1 w5 := by (repeat (first | (with_reducible assumption) | (with_reducible exact Below.refl _ _) | ((with_reducible refine Below.alloc ?_ ?hsz _); (case hsz => (first | omega | (simp; done) | (simp; omega) | (simp at *; omega)))) | ((with_reducible refine Below.setCell ?_ ?hsz _); (case hsz => (first | omega | (simp; done) | (simp; omega) | (simp at *; omega)))) | (with_reducible refine Below.drew ?_) | (with_reducible refine below_drewN ?_ _) | ((with_reducible refine Below.trans ?_ (Below.mono (by with_reducible assumption) ?hsz)); (case hsz => (first | omega | (simp; done) | (simp; omega) | (simp at *; omega))))))
      clear hnn
      (try clear d0 d1 g0 g1)
      obtain ⟨bs, d0, d1, g0, g1⟩ := id bx5
      have Hr := Lib.hid hr
      clear hr hf hs hsl hh
      rcases (show z = 2 ∨ z = 3 ∨ z = 4 ∨ z = 5 by omega) with rfl | rfl | rfl | rfl
      · obtain ⟨r3, r4⟩ : (roomAt 2 ps (3 - i)).1 = room (3 - i) ps ∧ (roomAt 2 ps (3 - i)).2 = true := Hr.out
        obtain ⟨l1, l2⟩ : decide (across i ps xs ≤ room i ps) = true ∧ decide (-across i ps xs ≤ room (3 - i) ps) = true := Hd.out
        go_wp2_with fail
        have hd0 := fun p : Bw w5 => (bw_cell p bs).trans d0
        have hd1 := fun p : Bw w5 => (bw_cell p bs).trans d1
        refine wp_region_bw (by kernel_rfl) (by kernel_rfl) ?_
        repeat (go_big_quiet_step ((go_at_call 19; refine calls_bw (roomOfTop_any 2 (3 - i) _ ps _ _ ((hp.keep hB5).keep (Bw.h _))))))
        refine wpQuiet_nil ?_
        rintro _ ⟨pw, rfl⟩
        have bx6 := (bx5).keep pw.h
        have hB6 := (hB5).trans (pw.h.mono (hB5).size)
        have hbq := pw.h
        obtain ⟨w6, hwq⟩ : ∃ wq, wq = pw.v := ⟨_, rfl⟩
        rw [← hwq] at bx6 hB6 hbq ⊢
        clear d0 d1 g0 g1 hd0 hd1 hwq
        obtain ⟨bs, d0, d1, g0, g1⟩ := id bx6
        clear hbq
        go_wp2_with fail
        with_reducible refine (alive_any _).mono ?_
        rintro e w7 ⟨rfl, hnn⟩
        have bx7 := (bx6).keep hnn
        have hB7 : Below w1.heap.size w1 w7 := by (repeat (first | (with_reducible assumption) | (with_reducible exact Below.refl _ _) | ((with_reducible refine Below.alloc ?_ ?hsz _); (case hsz => (first | omega | (simp; done) | (simp; omega) | (simp at *; omega)))) | ((with_reducible refine Below.setCell ?_ ?hsz _); (case hsz => (first | omega | (simp; done) | (simp; omega) | (simp at *; omega)))) | (with_reducible refine Below.drew ?_) | (with_reducible refine below_drewN ?_ _) | ((with_reducible refine Below.trans ?_ (Below.mono (by with_reducible assumption) ?hsz)); (case hsz => (first | omega | (simp; done) | (simp; omega) | (simp at *; omega))))))
        clear hnn
        (try clear d0 d1 g0 g1)
        obtain ⟨bs, d0, d1, g0, g1⟩ := id bx7
        go_wp2
        (go_ret; exact ⟨rfl, hBw1.trans (Below.mono (by with_reducible assumption) hBw1.size)⟩)
      · obtain ⟨r3, r4⟩ : (roomAt 3 ps (7 - i)).1 = room (7 - i) ps ∧ (roomAt 3 ps (7 - i)).2 = true := Hr.out
        obtain ⟨l1, l2⟩ : decide (across i ps xs ≤ room i ps) = true ∧ decide (-across i ps xs ≤ room (7 - i) ps) = true := Hd.out
        go_wp2_with fail
        have hd0 := fun p : Bw w5 => (bw_cell p bs).trans d0
        have hd1 := fun p : Bw w5 => (bw_cell p bs).trans d1
        refine wp_region_bw (by kernel_rfl) (by kernel_rfl) ?_
        repeat (go_big_quiet_step ((go_at_call 19; refine calls_bw (roomOfTop_any 3 (7 - i) _ ps _ _ ((hp.keep hB5).keep (Bw.h _))))))
        refine wpQuiet_nil ?_
        rintro _ ⟨pw, rfl⟩
        have bx6 := (bx5).keep pw.h
        have hB6 := (hB5).trans (pw.h.mono (hB5).size)
        have hbq := pw.h
        obtain ⟨w6, hwq⟩ : ∃ wq, wq = pw.v := ⟨_, rfl⟩
        rw [← hwq] at bx6 hB6 hbq ⊢
        clear d0 d1 g0 g1 hd0 hd1 hwq
        obtain ⟨bs, d0, d1, g0, g1⟩ := id bx6
        clear hbq
        go_wp2_with fail
        with_reducible refine (alive_any _).mono ?_
        rintro e w7 ⟨rfl, hnn⟩
        have bx7 := (bx6).keep hnn
        have hB7 : Below w1.heap.size w1 w7 := by (repeat (first | (with_reducible assumption) | (with_reducible exact Below.refl _ _) | ((with_reducible refine Below.alloc ?_ ?hsz _); (case hsz => (first | omega | (simp; done) | (simp; omega) | (simp at *; omega)))) | ((with_reducible refine Below.setCell ?_ ?hsz _); (case hsz => (first | omega | (simp; done) | (simp; omega) | (simp at *; omega)))) | (with_reducible refine Below.drew ?_) | (with_reducible refine below_drewN ?_ _) | ((with_reducible refine Below.trans ?_ (Below.mono (by with_reducible assumption) ?hsz)); (case hsz => (first | omega | (simp; done) | (simp; omega) | (simp at *; omega))))))
        clear hnn
        (try clear d0 d1 g0 g1)
        obtain ⟨bs, d0, d1, g0, g1⟩ := id bx7
        go_wp2
        (go_ret; exact ⟨rfl, hBw1.trans (Below.mono (by with_reducible assumption) hBw1.size)⟩)
      · obtain ⟨r3, r4⟩ : (roomAt 4 ps (15 - i)).1 = room (15 - i) ps ∧ (roomAt 4 ps (15 - i)).2 = true := Hr.out
        obtain ⟨l1, l2⟩ : decide (across i ps xs ≤ room i ps) = true ∧ decide (-across i ps xs ≤ room (15 - i) ps) = true := Hd.out
        go_wp2_with fail
        have hd0 := fun p : Bw w5 => (bw_cell p bs).trans d0
        have hd1 := fun p : Bw w5 => (bw_cell p bs).trans d1
        refine wp_region_bw (by kernel_rfl) (by kernel_rfl) ?_
        repeat (go_big_quiet_step ((go_at_call 19; refine calls_bw (roomOfTop_any 4 (15 - i) _ ps _ _ ((hp.keep hB5).keep (Bw.h _))))))
        refine wpQuiet_nil ?_
        rintro _ ⟨pw, rfl⟩
        have bx6 := (bx5).keep pw.h
        have hB6 := (hB5).trans (pw.h.mono (hB5).size)
        have hbq := pw.h
        obtain ⟨w6, hwq⟩ : ∃ wq, wq = pw.v := ⟨_, rfl⟩
        rw [← hwq] at bx6 hB6 hbq ⊢
        clear d0 d1 g0 g1 hd0 hd1 hwq
        obtain ⟨bs, d0, d1, g0, g1⟩ := id bx6
        clear hbq
        go_wp2_with fail
        with_reducible refine (alive_any _).mono ?_
        rintro e w7 ⟨rfl, hnn⟩
        have bx7 := (bx6).keep hnn
        have hB7 : Below w1.heap.size w1 w7 := by (repeat (first | (with_reducible assumption) | (with_reducible exact Below.refl _ _) | ((with_reducible refine Below.alloc ?_ ?hsz _); (case hsz => (first | omega | (simp; done) | (simp; omega) | (simp at *; omega)))) | ((with_reducible refine Below.setCell ?_ ?hsz _); (case hsz => (first | omega | (simp; done) | (simp; omega) | (simp at *; omega)))) | (with_reducible refine Below.drew ?_) | (with_reducible refine below_drewN ?_ _) | ((with_reducible refine Below.trans ?_ (Below.mono (by with_reducible assumption) ?hsz)); (case hsz => (first | omega | (simp; done) | (simp; omega) | (simp at *; omega))))))
        clear hnn
        (try clear d0 d1 g0 g1)
        obtain ⟨bs, d0, d1, g0, g1⟩ := id bx7
        go_wp2
        (go_ret; exact ⟨rfl, hBw1.trans (Below.mono (by with_reducible assumption) hBw1.size)⟩)
      · obtain ⟨r3, r4⟩ : (roomAt 5 ps (31 - i)).1 = room (31 - i) ps ∧ (roomAt 5 ps (31 - i)).2 = true := Hr.out
        obtain ⟨l1, l2⟩ : decide (across i ps xs ≤ room i ps) = true ∧ decide (-across i ps xs ≤ room (31 - i) ps) = true := Hd.out
        go_wp2_with fail
        have hd0 := fun p : Bw w5 => (bw_cell p bs).trans d0
        have hd1 := fun p : Bw w5 => (bw_cell p bs).trans d1
        refine wp_region_bw (by kernel_rfl) (by kernel_rfl) ?_
        repeat (go_big_quiet_step ((go_at_call 19; refine calls_bw (roomOfTop_any 5 (31 - i) _ ps _ _ ((hp.keep hB5).keep (Bw.h _))))))
        refine wpQuiet_nil ?_
        rintro _ ⟨pw, rfl⟩
        have bx6 := (bx5).keep pw.h
        have hB6 := (hB5).trans (pw.h.mono (hB5).size)
        have hbq := pw.h
        obtain ⟨w6, hwq⟩ : ∃ wq, wq = pw.v := ⟨_, rfl⟩
        rw [← hwq] at bx6 hB6 hbq ⊢
        clear d0 d1 g0 g1 hd0 hd1 hwq
        obtain ⟨bs, d0, d1, g0, g1⟩ := id bx6
        clear hbq
        go_wp2_with fail
        with_reducible refine (alive_any _).mono ?_
        rintro e w7 ⟨rfl, hnn⟩
        have bx7 := (bx6).keep hnn
        have hB7 : Below w1.heap.size w1 w7 := by (repeat (first | (with_reducible assumption) | (with_reducible exact Below.refl _ _) | ((with_reducible refine Below.alloc ?_ ?hsz _); (case hsz => (first | omega | (simp; done) | (simp; omega) | (simp at *; omega)))) | ((with_reducible refine Below.setCell ?_ ?hsz _); (case hsz => (first | omega | (simp; done) | (simp; omega) | (simp at *; omega)))) | (with_reducible refine Below.drew ?_) | (with_reducible refine below_drewN ?_ _) | ((with_reducible refine Below.trans ?_ (Below.mono (by with_reducible assumption) ?hsz)); (case hsz => (first | omega | (simp; done) | (simp; omega) | (simp at *; omega))))))
        clear hnn
        (try clear d0 d1 g0 g1)
        obtain ⟨bs, d0, d1, g0, g1⟩ := id bx7
        go_wp2
        (go_ret; exact ⟨rfl, hBw1.trans (Below.mono (by with_reducible assumption) hBw1.size)⟩)
    · have hs' : sideB z ps i = false := by simpa using hs
      go_wp2_with fail
      go_wp2_with fail
      with_reducible refine (alive_any _).mono ?_
      rintro e w4 ⟨rfl, hnn⟩
      have bx4 := (bx3).keep hnn
      have hB4 : Below w1.heap.size w1 w4 := by (repeat (first | (with_reducible assumption) | (with_reducible exact Below.refl _ _) | ((with_reducible refine Below.alloc ?_ ?hsz _); (case hsz => (first | omega | (simp; done) | (simp; omega) | (simp at *; omega)))) | ((with_reducible refine Below.setCell ?_ ?hsz _); (case hsz => (first | omega | (simp; done) | (simp; omega) | (simp at *; omega)))) | (with_reducible refine Below.drew ?_) | (with_reducible refine below_drewN ?_ _) | ((with_reducible refine Below.trans ?_ (Below.mono (by with_reducible assumption) ?hsz)); (case hsz => (first | omega | (simp; done) | (simp; omega) | (simp at *; omega))))))
      clear hnn
      (try clear d0 d1 g0 g1)
      obtain ⟨bs, d0, d1, g0, g1⟩ := id bx4
      go_wp2
      (go_ret; exact ⟨rfl, hBw1.trans (Below.mono (by with_reducible assumption) hBw1.size)⟩)
  · have hh' : holdsB z ps xs = false := by simpa using hh
    go_wp2_with fail
    with_reducible refine (alive_any _).mono ?_
    rintro e w4 ⟨rfl, hnn⟩
    have bx4 := (bx2).keep hnn
    have hB4 : Below w1.heap.size w1 w4 := by (repeat (first | (with_reducible assumption) | (with_reducible exact Below.refl _ _) | ((with_reducible refine Below.alloc ?_ ?hsz _); (case hsz => (first | omega | (simp; done) | (simp; omega) | (simp at *; omega)))) | ((with_reducible refine Below.setCell ?_ ?hsz _); (case hsz => (first | omega | (simp; done) | (simp; omega) | (simp at *; omega)))) | (with_reducible refine Below.drew ?_) | (with_reducible refine below_drewN ?_ _) | ((with_reducible refine Below.trans ?_ (Below.mono (by with_reducible assumption) ?hsz)); (case hsz => (first | omega | (simp; done) | (simp; omega) | (simp at *; omega))))))
    clear hnn
    (try clear d0 d1 g0 g1)
    obtain ⟨bs, d0, d1, g0, g1⟩ := id bx4
    go_wp2
    (go_ret; exact ⟨rfl, hBw1.trans (Below.mono (by with_reducible assumption) hBw1.size)⟩)

set_option maxRecDepth 100000 in
theorem contract (H : Type) (enc : TypeId × Value → H) (W : World) (base : Nat) (args : Array Value) (ds gs : List (DataW H)) (before : List MemPlace)
    (hval : ∀ (j : Nat) t v, Try.f3.params[j]? = some t → args[j]? = some v → Value.okWide Try.prog W .any base t v)
    (hW : DataW.Whole enc Try.prog Try.f3.params.toList Rows.fnBothWaysSpec.vars false W args.toList ds gs before) :
    Calls Try.prog 3 args W fun e W' => ∃ v, e = .returned v ∧ Rows.fnBothWaysSpec.post enc Try.prog Try.f3 false true false false W args v W' := by
  have hW' := hW
  obtain ⟨p, q, hA0, hV, rfl, hfz, hnd⟩ := hW
  have hA : DataW.TrodAll enc Try.prog W 0 (fun _ => true) true Try.f3.params.toList args.toList ds p := hA0
  rw [Try.params3] at hA hval
  obtain ⟨u0, us0, d0, ds0, p0, q0, hargs, rfl, rfl, g0, k0⟩ := trodAll_cons hA
  obtain ⟨rfl, rfl, rfl⟩ := trodAll_nil k0
  obtain rfl : args = #[u0] := by cases args; simp_all
  obtain ⟨rfl, rfl⟩ := trodVars_none hV
  obtain ⟨m0, e0⟩ := g0
  obtain ⟨s0, l0, f0, hh0⟩ := open_arg_bytes e0
  have f0' := one_of_cells Try.underlying22 (hval 0 _ _ rfl rfl) f0
  subst f0'
  refine (walk _ l0 W hh0).mono fun e W' ⟨he, hb⟩ => ?_
  subst he
  exact ⟨_, rfl, law_post Try.kids Try.full (by rw [Try.params3]; decide) rfl rfl Try.underlying4 hW' rfl rfl rfl hb⟩

set_option maxRecDepth 100000 in
theorem lifted (os : Os) (started : os.Started) (H : Type) (enc : TypeId × Value → H) :
    ReturnsInHanded {} Try.checked os 3 .any (Rows.fnBothWaysSpec.pre6 enc Try.prog Try.f3 Rows.fnBothWaysRow.domain false) (Rows.fnBothWaysSpec.post enc Try.prog Try.f3 false true false false) := by
  refine returnsInHanded_of_change (C := Try.checked) Try.own started (by kernel_rfl) Try.func3
    (ChangeSpec.witness6 (enc := enc) (C := Try.checked) false ⟨#[], #[.slice none 0 0], []⟩ 8 (by kernel_rfl) (by kernel_rfl) (by kernel_rfl) (by kernel_rfl)) ?_
  intro W base args ds gs before hval0 hW _ _
  exact contract H enc W base args ds gs before hval0 hW

theorem proved : Rows.FnBothWaysSaid :=
  OpenClaim.holds_of_wide 3 Try.f3 rfl rfl rfl rfl rfl rfl rfl ⟨rfl, rfl, rfl, rfl, rfl⟩ rfl rfl rfl rfl rfl (by kernel_rfl) Try.func3 (by kernel_rfl)
    (of_decide_eq_true (by kernel_rfl)) (by unfold Func.isWrapper; first | (rw [if_pos (by decide +kernel)]; kernel_rfl) | (rw [if_neg (by decide +kernel)]; exact ⟨rfl, rfl⟩))
    (fun os started H enc _ => lifted os started H enc)

end Go.Proofs.Ytpknhieiifjblaa.lawBothWays
