/- FnRoomOf: for every two codes the law holds: the program's RoomOf answers as the model; the room of what two sides have in common, and that of both together, are together at most the rooms of both; no nodes, and all nodes, have the room 0. No condition. -/
import Derived.Test.YtmbeemljlgaifaaL2
import Derived.Test.YtmbeemljlgaifaaD8
import Derived.Test.YtmbeemljlgaifaaM7
import Derived.Test.YtmbeemljlgaifaaW8
import Derived.Test.YtmbeemljlgaifaaS8
namespace Go.Proofs.Ytmbeemljlgaifaa.lawRoomOf
open Go.ChangeShapes Go.WideShapes Go.ChangeAt Go.RowKit Go.Deep Go.Joins

/-- all that the law asks of rooms -/
theorem rooms {n s t : Int} {ps : List Pp} (h : sideB n ps s = true) (t0 : 0 ≤ t) (t1 : t ≤ 2 ^ n.toNat - 1) :
    ((roomAt n ps t).1 = room t ps ∧ (roomAt n ps t).2 = true) ∧ ((roomAt n ps (bits .or .i64 s t)).1 = room (bits .or .i64 s t) ps ∧ (roomAt n ps (bits .or .i64 s t)).2 = true) ∧
    ((roomAt n ps (bits .and .i64 s t)).1 = room (bits .and .i64 s t) ps ∧ (roomAt n ps (bits .and .i64 s t)).2 = true) ∧ ((roomAt n ps 0).1 = 0 ∧ (roomAt n ps 0).2 = true) ∧
    ((roomAt n ps (2 ^ n.toNat - 1)).1 = 0 ∧ (roomAt n ps (2 ^ n.toNat - 1)).2 = true) ∧
    room (bits .or .i64 s t) ps + room (bits .and .i64 s t) ps ≤ room s ps + room t ps := by
  obtain ⟨hok, n0, n5, s0, s1⟩ := side_all h
  have hp := pow_le5 n5
  have o := or_in' n0 n5 s0 s1 t0 t1
  have d := and_in' n0 n5 s0 s1 t0 t1
  have z0 := room_yes (side_of hok (Int.le_refl 0) (show (0 : Int) ≤ 2 ^ n.toNat - 1 by omega))
  have z1 := room_yes (side_of (s := 2 ^ n.toNat - 1) hok (by omega) (Int.le_refl _))
  rw [room_zero] at z0
  rw [room_all hok] at z1
  exact ⟨room_yes (side_of hok t0 t1), room_yes (side_of hok o.1 o.2), room_yes (side_of hok d.1 d.2), z0, z1, room_two s0 (by omega) t0 (by omega) hok⟩

set_option maxRecDepth 20000 in
set_option maxHeartbeats 4000000 in
theorem walk (v u' : Value) (n m : Nat) (w : World) (h : ArgBytes w v n) (h' : ArgBytes w u' m) :
    Calls Try.prog 3 #[v, u'] w fun e w' => e = .returned (.bool true) ∧ Below w.heap.size w w' := by
  obtain ⟨A, c, rfl, hc1, hc2, -⟩ := id h
  obtain ⟨A', c', rfl, hc1', hc2', hby⟩ := id h'
  unfold maxLen at hc2 hc2'
  by_cases hbig : 1048576 < n
  · go_enter Try.func3, Try.ntmps3
    go_wp2
    go_ret
    exact ⟨rfl, by (repeat (first | (with_reducible assumption) | (with_reducible exact Below.refl _ _) | ((with_reducible refine Below.alloc ?_ ?hsz _); (case hsz => (first | omega | (simp; done) | (simp; omega) | (simp at *; omega)))) | ((with_reducible refine Below.setCell ?_ ?hsz _); (case hsz => (first | omega | (simp; done) | (simp; omega) | (simp at *; omega)))) | (with_reducible refine Below.drew ?_) | (with_reducible refine below_drewN ?_ _) | ((with_reducible refine Below.trans ?_ (Below.mono (by with_reducible assumption) ?hsz)); (case hsz => (first | omega | (simp; done) | (simp; omega) | (simp at *; omega))))))⟩
  by_cases hbig' : 1048576 < m
  · go_enter Try.func3, Try.ntmps3
    go_wp2
    go_ret
    exact ⟨rfl, by (repeat (first | (with_reducible assumption) | (with_reducible exact Below.refl _ _) | ((with_reducible refine Below.alloc ?_ ?hsz _); (case hsz => (first | omega | (simp; done) | (simp; omega) | (simp at *; omega)))) | ((with_reducible refine Below.setCell ?_ ?hsz _); (case hsz => (first | omega | (simp; done) | (simp; omega) | (simp at *; omega)))) | (with_reducible refine Below.drew ?_) | (with_reducible refine below_drewN ?_ _) | ((with_reducible refine Below.trans ?_ (Below.mono (by with_reducible assumption) ?hsz)); (case hsz => (first | omega | (simp; done) | (simp; omega) | (simp at *; omega))))))⟩
  go_enter Try.func3, Try.ntmps3
  go_wp2_with fail
  with_reducible refine (drawRoomOf_any _ n _ (h.keep (by (repeat (first | (with_reducible assumption) | (with_reducible exact Below.refl _ _) | ((with_reducible refine Below.alloc ?_ ?hsz _); (case hsz => (first | omega | (simp; done) | (simp; omega) | (simp at *; omega)))) | ((with_reducible refine Below.setCell ?_ ?hsz _); (case hsz => (first | omega | (simp; done) | (simp; omega) | (simp at *; omega)))) | (with_reducible refine Below.drew ?_) | (with_reducible refine below_drewN ?_ _) | ((with_reducible refine Below.trans ?_ (Below.mono (by with_reducible assumption) ?hsz)); (case hsz => (first | omega | (simp; done) | (simp; omega) | (simp at *; omega))))))))).mono ?_
  rintro e w1 ⟨z, ps, u, i, rfl, hp, hb1, hl8, hz1, hz6⟩
  have hBw1 : Below w.heap.size w w1 := by (repeat (first | (with_reducible assumption) | (with_reducible exact Below.refl _ _) | ((with_reducible refine Below.alloc ?_ ?hsz _); (case hsz => (first | omega | (simp; done) | (simp; omega) | (simp at *; omega)))) | ((with_reducible refine Below.setCell ?_ ?hsz _); (case hsz => (first | omega | (simp; done) | (simp; omega) | (simp at *; omega)))) | (with_reducible refine Below.drew ?_) | (with_reducible refine below_drewN ?_ _) | ((with_reducible refine Below.trans ?_ (Below.mono (by with_reducible assumption) ?hsz)); (case hsz => (first | omega | (simp; done) | (simp; omega) | (simp at *; omega))))))
  clear h hc1 hc2 hbig
  obtain ⟨A1, c1, rfl, hk1, hk2, hsm, -⟩ := hp.form
  unfold maxLen at hk2
  have bx1 : Box2 (w1.alloc (.cells #[.int .i64 z, .slice A1 ps.length c1] 25)) w1.heap.size (.int .i64 z) (.slice A1 ps.length c1) := Box2.new _ _ _ _
  have hB1 : Below w1.heap.size w1 (w1.alloc (.cells #[.int .i64 z, .slice A1 ps.length c1] 25)) := by (repeat (first | (with_reducible assumption) | (with_reducible exact Below.refl _ _) | ((with_reducible refine Below.alloc ?_ ?hsz _); (case hsz => (first | omega | (simp; done) | (simp; omega) | (simp at *; omega)))) | ((with_reducible refine Below.setCell ?_ ?hsz _); (case hsz => (first | omega | (simp; done) | (simp; omega) | (simp at *; omega)))) | (with_reducible refine Below.drew ?_) | (with_reducible refine below_drewN ?_ _) | ((with_reducible refine Below.trans ?_ (Below.mono (by with_reducible assumption) ?hsz)); (case hsz => (first | omega | (simp; done) | (simp; omega) | (simp at *; omega))))))
  go_wp2_with fail
  with_reducible refine (roomOfTop_any z i _ ps _ _ (hp.keep hB1)).mono ?_
  rintro e w2 ⟨rfl, hnn⟩
  have bx2 := (bx1).keep hnn
  have hB2 : Below w1.heap.size w1 w2 := by (repeat (first | (with_reducible assumption) | (with_reducible exact Below.refl _ _) | ((with_reducible refine Below.alloc ?_ ?hsz _); (case hsz => (first | omega | (simp; done) | (simp; omega) | (simp at *; omega)))) | ((with_reducible refine Below.setCell ?_ ?hsz _); (case hsz => (first | omega | (simp; done) | (simp; omega) | (simp at *; omega)))) | (with_reducible refine Below.drew ?_) | (with_reducible refine below_drewN ?_ _) | ((with_reducible refine Below.trans ?_ (Below.mono (by with_reducible assumption) ?hsz)); (case hsz => (first | omega | (simp; done) | (simp; omega) | (simp at *; omega))))))
  clear hnn
  (try clear d0 d1 g0 g1)
  obtain ⟨bs, d0, d1, g0, g1⟩ := id bx2
  go_wp2_with fail
  with_reducible refine (specRoomOf_any z i _ ps _ _ (hp.keep hB2)).mono ?_
  rintro e w3 ⟨rfl, hnn⟩
  have bx3 := (bx2).keep hnn
  have hB3 : Below w1.heap.size w1 w3 := by (repeat (first | (with_reducible assumption) | (with_reducible exact Below.refl _ _) | ((with_reducible refine Below.alloc ?_ ?hsz _); (case hsz => (first | omega | (simp; done) | (simp; omega) | (simp at *; omega)))) | ((with_reducible refine Below.setCell ?_ ?hsz _); (case hsz => (first | omega | (simp; done) | (simp; omega) | (simp at *; omega)))) | (with_reducible refine Below.drew ?_) | (with_reducible refine below_drewN ?_ _) | ((with_reducible refine Below.trans ?_ (Below.mono (by with_reducible assumption) ?hsz)); (case hsz => (first | omega | (simp; done) | (simp; omega) | (simp at *; omega))))))
  clear hnn
  (try clear d0 d1 g0 g1)
  obtain ⟨bs, d0, d1, g0, g1⟩ := id bx3
  by_cases hs : sideB z ps i = true
  · obtain ⟨e1, e2⟩ := room_yes hs
    have hok := (side_all hs).1
    have hn := netOk_parts hok
    have HR := Lib.hid (fun (t : Int) (t0 : 0 ≤ t) (t1 : t ≤ 2 ^ z.toNat - 1) => rooms hs t0 t1)
    have HBD := Lib.hid (fun s : Int => room_bd7 (s := s) hok)
    have hw3 : Below w.heap.size w w3 := hBw1.trans (hB3.mono hBw1.size)
    clear hs hok
    by_cases hm : 0 < m
    · obtain ⟨gb, o, x, rfl, hgb, cx, x0, x1⟩ := hby 0 hm
      have hgb3 : gb < w3.heap.size := Nat.lt_of_lt_of_le hgb hw3.size
      have cx3 := (hw3.cell (p := ⟨gb, o + 0, none⟩) hgb).trans cx
      have hcx := fun p : Bw w3 => (bw_cell p hgb3).trans cx3
      simp only [Nat.add_zero] at hcx
      have hm0 : (0 : Int) < (m : Int) := by omega
      clear hby cx cx3
      rcases (show z = 2 ∨ z = 3 ∨ z = 4 ∨ z = 5 by omega) with rfl | rfl | rfl | rfl
      · go_wp2_with fail
        have hd0 := fun p : Bw w3 => (bw_cell p bs).trans d0
        have hd1 := fun p : Bw w3 => (bw_cell p bs).trans d1
        refine wp_region_bw (by kernel_rfl) (by kernel_rfl) ?_
        repeat (go_big_quiet_step ((fail)))
        refine wpQuiet_nil ?_
        rintro _ ⟨pw, rfl⟩
        have bx4 := (bx3).keep pw.h
        have hB4 := (hB3).trans (pw.h.mono (hB3).size)
        have hbq := pw.h
        obtain ⟨w4, hwq⟩ : ∃ wq, wq = pw.v := ⟨_, rfl⟩
        rw [← hwq] at bx4 hB4 hbq ⊢
        clear d0 d1 g0 g1 hd0 hd1 hwq
        obtain ⟨bs, d0, d1, g0, g1⟩ := id bx4
        clear hbq hcx
        have t0 : 0 ≤ x % 4 := Int.emod_nonneg _ (by omega)
        have t1 : x % 4 ≤ 3 := by omega
        obtain ⟨⟨q1, q2⟩, ⟨q3, q4⟩, ⟨q5, q6⟩, ⟨q7, q8⟩, ⟨q9, q10⟩, q11⟩ := HR.out (x % 4) t0 t1
        replace q9 : (roomAt 2 ps 3).1 = 0 := q9
        replace q10 : (roomAt 2 ps 3).2 = true := q10
        have b1 := HBD.out i
        have b2 := HBD.out (x % 4)
        have b3 := HBD.out (bits .or .i64 i (x % 4))
        have b4 := HBD.out (bits .and .i64 i (x % 4))
        have q12 : decide (room (bits .or .i64 i (x % 4)) ps + room (bits .and .i64 i (x % 4)) ps ≤ room i ps + room (x % 4) ps) = true := decide_eq_true q11
        go_wp2_with fail
        with_reducible refine (roomOfTop_any 2 (x % 4) _ ps _ _ (hp.keep hB4)).mono ?_
        rintro e w5 ⟨rfl, hnn⟩
        have bx5 := (bx4).keep hnn
        have hB5 : Below w1.heap.size w1 w5 := by (repeat (first | (with_reducible assumption) | (with_reducible exact Below.refl _ _) | ((with_reducible refine Below.alloc ?_ ?hsz _); (case hsz => (first | omega | (simp; done) | (simp; omega) | (simp at *; omega)))) | ((with_reducible refine Below.setCell ?_ ?hsz _); (case hsz => (first | omega | (simp; done) | (simp; omega) | (simp at *; omega)))) | (with_reducible refine Below.drew ?_) | (with_reducible refine below_drewN ?_ _) | ((with_reducible refine Below.trans ?_ (Below.mono (by with_reducible assumption) ?hsz)); (case hsz => (first | omega | (simp; done) | (simp; omega) | (simp at *; omega))))))
        clear hnn
        (try clear d0 d1 g0 g1)
        obtain ⟨bs, d0, d1, g0, g1⟩ := id bx5
        go_wp2_with fail
        with_reducible refine (roomOfTop_any 2 (bits .or .i64 i (x % 4)) _ ps _ _ (hp.keep hB5)).mono ?_
        rintro e w6 ⟨rfl, hnn⟩
        have bx6 := (bx5).keep hnn
        have hB6 : Below w1.heap.size w1 w6 := by (repeat (first | (with_reducible assumption) | (with_reducible exact Below.refl _ _) | ((with_reducible refine Below.alloc ?_ ?hsz _); (case hsz => (first | omega | (simp; done) | (simp; omega) | (simp at *; omega)))) | ((with_reducible refine Below.setCell ?_ ?hsz _); (case hsz => (first | omega | (simp; done) | (simp; omega) | (simp at *; omega)))) | (with_reducible refine Below.drew ?_) | (with_reducible refine below_drewN ?_ _) | ((with_reducible refine Below.trans ?_ (Below.mono (by with_reducible assumption) ?hsz)); (case hsz => (first | omega | (simp; done) | (simp; omega) | (simp at *; omega))))))
        clear hnn
        (try clear d0 d1 g0 g1)
        obtain ⟨bs, d0, d1, g0, g1⟩ := id bx6
        go_wp2_with fail
        with_reducible refine (roomOfTop_any 2 (bits .and .i64 i (x % 4)) _ ps _ _ (hp.keep hB6)).mono ?_
        rintro e w7 ⟨rfl, hnn⟩
        have bx7 := (bx6).keep hnn
        have hB7 : Below w1.heap.size w1 w7 := by (repeat (first | (with_reducible assumption) | (with_reducible exact Below.refl _ _) | ((with_reducible refine Below.alloc ?_ ?hsz _); (case hsz => (first | omega | (simp; done) | (simp; omega) | (simp at *; omega)))) | ((with_reducible refine Below.setCell ?_ ?hsz _); (case hsz => (first | omega | (simp; done) | (simp; omega) | (simp at *; omega)))) | (with_reducible refine Below.drew ?_) | (with_reducible refine below_drewN ?_ _) | ((with_reducible refine Below.trans ?_ (Below.mono (by with_reducible assumption) ?hsz)); (case hsz => (first | omega | (simp; done) | (simp; omega) | (simp at *; omega))))))
        clear hnn
        (try clear d0 d1 g0 g1)
        obtain ⟨bs, d0, d1, g0, g1⟩ := id bx7
        go_wp2_with fail
        with_reducible refine (roomOfTop_any 2 0 _ ps _ _ (hp.keep hB7)).mono ?_
        rintro e w8 ⟨rfl, hnn⟩
        have bx8 := (bx7).keep hnn
        have hB8 : Below w1.heap.size w1 w8 := by (repeat (first | (with_reducible assumption) | (with_reducible exact Below.refl _ _) | ((with_reducible refine Below.alloc ?_ ?hsz _); (case hsz => (first | omega | (simp; done) | (simp; omega) | (simp at *; omega)))) | ((with_reducible refine Below.setCell ?_ ?hsz _); (case hsz => (first | omega | (simp; done) | (simp; omega) | (simp at *; omega)))) | (with_reducible refine Below.drew ?_) | (with_reducible refine below_drewN ?_ _) | ((with_reducible refine Below.trans ?_ (Below.mono (by with_reducible assumption) ?hsz)); (case hsz => (first | omega | (simp; done) | (simp; omega) | (simp at *; omega))))))
        clear hnn
        (try clear d0 d1 g0 g1)
        obtain ⟨bs, d0, d1, g0, g1⟩ := id bx8
        go_wp2_with fail
        have hd0 := fun p : Bw w8 => (bw_cell p bs).trans d0
        have hd1 := fun p : Bw w8 => (bw_cell p bs).trans d1
        refine wp_region_bw (by kernel_rfl) (by kernel_rfl) ?_
        repeat (go_big_quiet_step ((go_at_call 11; refine calls_bw (roomOfTop_any 2 3 _ ps _ _ ((hp.keep hB8).keep (Bw.h _))))))
        refine wpQuiet_nil ?_
        rintro _ ⟨pw, rfl⟩
        have bx9 := (bx8).keep pw.h
        have hB9 := (hB8).trans (pw.h.mono (hB8).size)
        have hbq := pw.h
        obtain ⟨w9, hwq⟩ : ∃ wq, wq = pw.v := ⟨_, rfl⟩
        rw [← hwq] at bx9 hB9 hbq ⊢
        clear d0 d1 g0 g1 hd0 hd1 hwq
        obtain ⟨bs, d0, d1, g0, g1⟩ := id bx9
        clear hbq
        go_wp2
        (go_ret; exact ⟨rfl, hBw1.trans (Below.mono (by with_reducible assumption) hBw1.size)⟩)
      · go_wp2_with fail
        have hd0 := fun p : Bw w3 => (bw_cell p bs).trans d0
        have hd1 := fun p : Bw w3 => (bw_cell p bs).trans d1
        refine wp_region_bw (by kernel_rfl) (by kernel_rfl) ?_
        repeat (go_big_quiet_step ((fail)))
        refine wpQuiet_nil ?_
        rintro _ ⟨pw, rfl⟩
        have bx4 := (bx3).keep pw.h
        have hB4 := (hB3).trans (pw.h.mono (hB3).size)
        have hbq := pw.h
        obtain ⟨w4, hwq⟩ : ∃ wq, wq = pw.v := ⟨_, rfl⟩
        rw [← hwq] at bx4 hB4 hbq ⊢
        clear d0 d1 g0 g1 hd0 hd1 hwq
        obtain ⟨bs, d0, d1, g0, g1⟩ := id bx4
        clear hbq hcx
        have t0 : 0 ≤ x % 8 := Int.emod_nonneg _ (by omega)
        have t1 : x % 8 ≤ 7 := by omega
        obtain ⟨⟨q1, q2⟩, ⟨q3, q4⟩, ⟨q5, q6⟩, ⟨q7, q8⟩, ⟨q9, q10⟩, q11⟩ := HR.out (x % 8) t0 t1
        replace q9 : (roomAt 3 ps 7).1 = 0 := q9
        replace q10 : (roomAt 3 ps 7).2 = true := q10
        have b1 := HBD.out i
        have b2 := HBD.out (x % 8)
        have b3 := HBD.out (bits .or .i64 i (x % 8))
        have b4 := HBD.out (bits .and .i64 i (x % 8))
        have q12 : decide (room (bits .or .i64 i (x % 8)) ps + room (bits .and .i64 i (x % 8)) ps ≤ room i ps + room (x % 8) ps) = true := decide_eq_true q11
        go_wp2_with fail
        with_reducible refine (roomOfTop_any 3 (x % 8) _ ps _ _ (hp.keep hB4)).mono ?_
        rintro e w5 ⟨rfl, hnn⟩
        have bx5 := (bx4).keep hnn
        have hB5 : Below w1.heap.size w1 w5 := by (repeat (first | (with_reducible assumption) | (with_reducible exact Below.refl _ _) | ((with_reducible refine Below.alloc ?_ ?hsz _); (case hsz => (first | omega | (simp; done) | (simp; omega) | (simp at *; omega)))) | ((with_reducible refine Below.setCell ?_ ?hsz _); (case hsz => (first | omega | (simp; done) | (simp; omega) | (simp at *; omega)))) | (with_reducible refine Below.drew ?_) | (with_reducible refine below_drewN ?_ _) | ((with_reducible refine Below.trans ?_ (Below.mono (by with_reducible assumption) ?hsz)); (case hsz => (first | omega | (simp; done) | (simp; omega) | (simp at *; omega))))))
        clear hnn
        (try clear d0 d1 g0 g1)
        obtain ⟨bs, d0, d1, g0, g1⟩ := id bx5
        go_wp2_with fail
        with_reducible refine (roomOfTop_any 3 (bits .or .i64 i (x % 8)) _ ps _ _ (hp.keep hB5)).mono ?_
        rintro e w6 ⟨rfl, hnn⟩
        have bx6 := (bx5).keep hnn
        have hB6 : Below w1.heap.size w1 w6 := by (repeat (first | (with_reducible assumption) | (with_reducible exact Below.refl _ _) | ((with_reducible refine Below.alloc ?_ ?hsz _); (case hsz => (first | omega | (simp; done) | (simp; omega) | (simp at *; omega)))) | ((with_reducible refine Below.setCell ?_ ?hsz _); (case hsz => (first | omega | (simp; done) | (simp; omega) | (simp at *; omega)))) | (with_reducible refine Below.drew ?_) | (with_reducible refine below_drewN ?_ _) | ((with_reducible refine Below.trans ?_ (Below.mono (by with_reducible assumption) ?hsz)); (case hsz => (first | omega | (simp; done) | (simp; omega) | (simp at *; omega))))))
        clear hnn
        (try clear d0 d1 g0 g1)
        obtain ⟨bs, d0, d1, g0, g1⟩ := id bx6
        go_wp2_with fail
        with_reducible refine (roomOfTop_any 3 (bits .and .i64 i (x % 8)) _ ps _ _ (hp.keep hB6)).mono ?_
        rintro e w7 ⟨rfl, hnn⟩
        have bx7 := (bx6).keep hnn
        have hB7 : Below w1.heap.size w1 w7 := by (repeat (first | (with_reducible assumption) | (with_reducible exact Below.refl _ _) | ((with_reducible refine Below.alloc ?_ ?hsz _); (case hsz => (first | omega | (simp; done) | (simp; omega) | (simp at *; omega)))) | ((with_reducible refine Below.setCell ?_ ?hsz _); (case hsz => (first | omega | (simp; done) | (simp; omega) | (simp at *; omega)))) | (with_reducible refine Below.drew ?_) | (with_reducible refine below_drewN ?_ _) | ((with_reducible refine Below.trans ?_ (Below.mono (by with_reducible assumption) ?hsz)); (case hsz => (first | omega | (simp; done) | (simp; omega) | (simp at *; omega))))))
        clear hnn
        (try clear d0 d1 g0 g1)
        obtain ⟨bs, d0, d1, g0, g1⟩ := id bx7
        go_wp2_with fail
        with_reducible refine (roomOfTop_any 3 0 _ ps _ _ (hp.keep hB7)).mono ?_
        rintro e w8 ⟨rfl, hnn⟩
        have bx8 := (bx7).keep hnn
        have hB8 : Below w1.heap.size w1 w8 := by (repeat (first | (with_reducible assumption) | (with_reducible exact Below.refl _ _) | ((with_reducible refine Below.alloc ?_ ?hsz _); (case hsz => (first | omega | (simp; done) | (simp; omega) | (simp at *; omega)))) | ((with_reducible refine Below.setCell ?_ ?hsz _); (case hsz => (first | omega | (simp; done) | (simp; omega) | (simp at *; omega)))) | (with_reducible refine Below.drew ?_) | (with_reducible refine below_drewN ?_ _) | ((with_reducible refine Below.trans ?_ (Below.mono (by with_reducible assumption) ?hsz)); (case hsz => (first | omega | (simp; done) | (simp; omega) | (simp at *; omega))))))
        clear hnn
        (try clear d0 d1 g0 g1)
        obtain ⟨bs, d0, d1, g0, g1⟩ := id bx8
        go_wp2_with fail
        have hd0 := fun p : Bw w8 => (bw_cell p bs).trans d0
        have hd1 := fun p : Bw w8 => (bw_cell p bs).trans d1
        refine wp_region_bw (by kernel_rfl) (by kernel_rfl) ?_
        repeat (go_big_quiet_step ((go_at_call 11; refine calls_bw (roomOfTop_any 3 7 _ ps _ _ ((hp.keep hB8).keep (Bw.h _))))))
        refine wpQuiet_nil ?_
        rintro _ ⟨pw, rfl⟩
        have bx9 := (bx8).keep pw.h
        have hB9 := (hB8).trans (pw.h.mono (hB8).size)
        have hbq := pw.h
        obtain ⟨w9, hwq⟩ : ∃ wq, wq = pw.v := ⟨_, rfl⟩
        rw [← hwq] at bx9 hB9 hbq ⊢
        clear d0 d1 g0 g1 hd0 hd1 hwq
        obtain ⟨bs, d0, d1, g0, g1⟩ := id bx9
        clear hbq
        go_wp2
        (go_ret; exact ⟨rfl, hBw1.trans (Below.mono (by with_reducible assumption) hBw1.size)⟩)
      · go_wp2_with fail
        have hd0 := fun p : Bw w3 => (bw_cell p bs).trans d0
        have hd1 := fun p : Bw w3 => (bw_cell p bs).trans d1
        refine wp_region_bw (by kernel_rfl) (by kernel_rfl) ?_
        repeat (go_big_quiet_step ((fail)))
        refine wpQuiet_nil ?_
        rintro _ ⟨pw, rfl⟩
        have bx4 := (bx3).keep pw.h
        have hB4 := (hB3).trans (pw.h.mono (hB3).size)
        have hbq := pw.h
        obtain ⟨w4, hwq⟩ : ∃ wq, wq = pw.v := ⟨_, rfl⟩
        rw [← hwq] at bx4 hB4 hbq ⊢
        clear d0 d1 g0 g1 hd0 hd1 hwq
        obtain ⟨bs, d0, d1, g0, g1⟩ := id bx4
        clear hbq hcx
        have t0 : 0 ≤ x % 16 := Int.emod_nonneg _ (by omega)
        have t1 : x % 16 ≤ 15 := by omega
        obtain ⟨⟨q1, q2⟩, ⟨q3, q4⟩, ⟨q5, q6⟩, ⟨q7, q8⟩, ⟨q9, q10⟩, q11⟩ := HR.out (x % 16) t0 t1
        replace q9 : (roomAt 4 ps 15).1 = 0 := q9
        replace q10 : (roomAt 4 ps 15).2 = true := q10
        have b1 := HBD.out i
        have b2 := HBD.out (x % 16)
        have b3 := HBD.out (bits .or .i64 i (x % 16))
        have b4 := HBD.out (bits .and .i64 i (x % 16))
        have q12 : decide (room (bits .or .i64 i (x % 16)) ps + room (bits .and .i64 i (x % 16)) ps ≤ room i ps + room (x % 16) ps) = true := decide_eq_true q11
        go_wp2_with fail
        with_reducible refine (roomOfTop_any 4 (x % 16) _ ps _ _ (hp.keep hB4)).mono ?_
        rintro e w5 ⟨rfl, hnn⟩
        have bx5 := (bx4).keep hnn
        have hB5 : Below w1.heap.size w1 w5 := by (repeat (first | (with_reducible assumption) | (with_reducible exact Below.refl _ _) | ((with_reducible refine Below.alloc ?_ ?hsz _); (case hsz => (first | omega | (simp; done) | (simp; omega) | (simp at *; omega)))) | ((with_reducible refine Below.setCell ?_ ?hsz _); (case hsz => (first | omega | (simp; done) | (simp; omega) | (simp at *; omega)))) | (with_reducible refine Below.drew ?_) | (with_reducible refine below_drewN ?_ _) | ((with_reducible refine Below.trans ?_ (Below.mono (by with_reducible assumption) ?hsz)); (case hsz => (first | omega | (simp; done) | (simp; omega) | (simp at *; omega))))))
        clear hnn
        (try clear d0 d1 g0 g1)
        obtain ⟨bs, d0, d1, g0, g1⟩ := id bx5
        go_wp2_with fail
        with_reducible refine (roomOfTop_any 4 (bits .or .i64 i (x % 16)) _ ps _ _ (hp.keep hB5)).mono ?_
        rintro e w6 ⟨rfl, hnn⟩
        have bx6 := (bx5).keep hnn
        have hB6 : Below w1.heap.size w1 w6 := by (repeat (first | (with_reducible assumption) | (with_reducible exact Below.refl _ _) | ((with_reducible refine Below.alloc ?_ ?hsz _); (case hsz => (first | omega | (simp; done) | (simp; omega) | (simp at *; omega)))) | ((with_reducible refine Below.setCell ?_ ?hsz _); (case hsz => (first | omega | (simp; done) | (simp; omega) | (simp at *; omega)))) | (with_reducible refine Below.drew ?_) | (with_reducible refine below_drewN ?_ _) | ((with_reducible refine Below.trans ?_ (Below.mono (by with_reducible assumption) ?hsz)); (case hsz => (first | omega | (simp; done) | (simp; omega) | (simp at *; omega))))))
        clear hnn
        (try clear d0 d1 g0 g1)
        obtain ⟨bs, d0, d1, g0, g1⟩ := id bx6
        go_wp2_with fail
        with_reducible refine (roomOfTop_any 4 (bits .and .i64 i (x % 16)) _ ps _ _ (hp.keep hB6)).mono ?_
        rintro e w7 ⟨rfl, hnn⟩
        have bx7 := (bx6).keep hnn
        have hB7 : Below w1.heap.size w1 w7 := by (repeat (first | (with_reducible assumption) | (with_reducible exact Below.refl _ _) | ((with_reducible refine Below.alloc ?_ ?hsz _); (case hsz => (first | omega | (simp; done) | (simp; omega) | (simp at *; omega)))) | ((with_reducible refine Below.setCell ?_ ?hsz _); (case hsz => (first | omega | (simp; done) | (simp; omega) | (simp at *; omega)))) | (with_reducible refine Below.drew ?_) | (with_reducible refine below_drewN ?_ _) | ((with_reducible refine Below.trans ?_ (Below.mono (by with_reducible assumption) ?hsz)); (case hsz => (first | omega | (simp; done) | (simp; omega) | (simp at *; omega))))))
        clear hnn
        (try clear d0 d1 g0 g1)
        obtain ⟨bs, d0, d1, g0, g1⟩ := id bx7
        go_wp2_with fail
        with_reducible refine (roomOfTop_any 4 0 _ ps _ _ (hp.keep hB7)).mono ?_
        rintro e w8 ⟨rfl, hnn⟩
        have bx8 := (bx7).keep hnn
        have hB8 : Below w1.heap.size w1 w8 := by (repeat (first | (with_reducible assumption) | (with_reducible exact Below.refl _ _) | ((with_reducible refine Below.alloc ?_ ?hsz _); (case hsz => (first | omega | (simp; done) | (simp; omega) | (simp at *; omega)))) | ((with_reducible refine Below.setCell ?_ ?hsz _); (case hsz => (first | omega | (simp; done) | (simp; omega) | (simp at *; omega)))) | (with_reducible refine Below.drew ?_) | (with_reducible refine below_drewN ?_ _) | ((with_reducible refine Below.trans ?_ (Below.mono (by with_reducible assumption) ?hsz)); (case hsz => (first | omega | (simp; done) | (simp; omega) | (simp at *; omega))))))
        clear hnn
        (try clear d0 d1 g0 g1)
        obtain ⟨bs, d0, d1, g0, g1⟩ := id bx8
        go_wp2_with fail
        have hd0 := fun p : Bw w8 => (bw_cell p bs).trans d0
        have hd1 := fun p : Bw w8 => (bw_cell p bs).trans d1
        refine wp_region_bw (by kernel_rfl) (by kernel_rfl) ?_
        repeat (go_big_quiet_step ((go_at_call 11; refine calls_bw (roomOfTop_any 4 15 _ ps _ _ ((hp.keep hB8).keep (Bw.h _))))))
        refine wpQuiet_nil ?_
        rintro _ ⟨pw, rfl⟩
        have bx9 := (bx8).keep pw.h
        have hB9 := (hB8).trans (pw.h.mono (hB8).size)
        have hbq := pw.h
        obtain ⟨w9, hwq⟩ : ∃ wq, wq = pw.v := ⟨_, rfl⟩
        rw [← hwq] at bx9 hB9 hbq ⊢
        clear d0 d1 g0 g1 hd0 hd1 hwq
        obtain ⟨bs, d0, d1, g0, g1⟩ := id bx9
        clear hbq
        go_wp2
        (go_ret; exact ⟨rfl, hBw1.trans (Below.mono (by with_reducible assumption) hBw1.size)⟩)
      · go_wp2_with fail
        have hd0 := fun p : Bw w3 => (bw_cell p bs).trans d0
        have hd1 := fun p : Bw w3 => (bw_cell p bs).trans d1
        refine wp_region_bw (by kernel_rfl) (by kernel_rfl) ?_
        repeat (go_big_quiet_step ((fail)))
        refine wpQuiet_nil ?_
        rintro _ ⟨pw, rfl⟩
        have bx4 := (bx3).keep pw.h
        have hB4 := (hB3).trans (pw.h.mono (hB3).size)
        have hbq := pw.h
        obtain ⟨w4, hwq⟩ : ∃ wq, wq = pw.v := ⟨_, rfl⟩
        rw [← hwq] at bx4 hB4 hbq ⊢
        clear d0 d1 g0 g1 hd0 hd1 hwq
        obtain ⟨bs, d0, d1, g0, g1⟩ := id bx4
        clear hbq hcx
        have t0 : 0 ≤ x % 32 := Int.emod_nonneg _ (by omega)
        have t1 : x % 32 ≤ 31 := by omega
        obtain ⟨⟨q1, q2⟩, ⟨q3, q4⟩, ⟨q5, q6⟩, ⟨q7, q8⟩, ⟨q9, q10⟩, q11⟩ := HR.out (x % 32) t0 t1
        replace q9 : (roomAt 5 ps 31).1 = 0 := q9
        replace q10 : (roomAt 5 ps 31).2 = true := q10
        have b1 := HBD.out i
        have b2 := HBD.out (x % 32)
        have b3 := HBD.out (bits .or .i64 i (x % 32))
        have b4 := HBD.out (bits .and .i64 i (x % 32))
        have q12 : decide (room (bits .or .i64 i (x % 32)) ps + room (bits .and .i64 i (x % 32)) ps ≤ room i ps + room (x % 32) ps) = true := decide_eq_true q11
        go_wp2_with fail
        with_reducible refine (roomOfTop_any 5 (x % 32) _ ps _ _ (hp.keep hB4)).mono ?_
        rintro e w5 ⟨rfl, hnn⟩
        have bx5 := (bx4).keep hnn
        have hB5 : Below w1.heap.size w1 w5 := by (repeat (first | (with_reducible assumption) | (with_reducible exact Below.refl _ _) | ((with_reducible refine Below.alloc ?_ ?hsz _); (case hsz => (first | omega | (simp; done) | (simp; omega) | (simp at *; omega)))) | ((with_reducible refine Below.setCell ?_ ?hsz _); (case hsz => (first | omega | (simp; done) | (simp; omega) | (simp at *; omega)))) | (with_reducible refine Below.drew ?_) | (with_reducible refine below_drewN ?_ _) | ((with_reducible refine Below.trans ?_ (Below.mono (by with_reducible assumption) ?hsz)); (case hsz => (first | omega | (simp; done) | (simp; omega) | (simp at *; omega))))))
        clear hnn
        (try clear d0 d1 g0 g1)
        obtain ⟨bs, d0, d1, g0, g1⟩ := id bx5
        go_wp2_with fail
        with_reducible refine (roomOfTop_any 5 (bits .or .i64 i (x % 32)) _ ps _ _ (hp.keep hB5)).mono ?_
        rintro e w6 ⟨rfl, hnn⟩
        have bx6 := (bx5).keep hnn
        have hB6 : Below w1.heap.size w1 w6 := by (repeat (first | (with_reducible assumption) | (with_reducible exact Below.refl _ _) | ((with_reducible refine Below.alloc ?_ ?hsz _); (case hsz => (first | omega | (simp; done) | (simp; omega) | (simp at *; omega)))) | ((with_reducible refine Below.setCell ?_ ?hsz _); (case hsz => (first | omega | (simp; done) | (simp; omega) | (simp at *; omega)))) | (with_reducible refine Below.drew ?_) | (with_reducible refine below_drewN ?_ _) | ((with_reducible refine Below.trans ?_ (Below.mono (by with_reducible assumption) ?hsz)); (case hsz => (first | omega | (simp; done) | (simp; omega) | (simp at *; omega))))))
        clear hnn
        (try clear d0 d1 g0 g1)
        obtain ⟨bs, d0, d1, g0, g1⟩ := id bx6
        go_wp2_with fail
        with_reducible refine (roomOfTop_any 5 (bits .and .i64 i (x % 32)) _ ps _ _ (hp.keep hB6)).mono ?_
        rintro e w7 ⟨rfl, hnn⟩
        have bx7 := (bx6).keep hnn
        have hB7 : Below w1.heap.size w1 w7 := by (repeat (first | (with_reducible assumption) | (with_reducible exact Below.refl _ _) | ((with_reducible refine Below.alloc ?_ ?hsz _); (case hsz => (first | omega | (simp; done) | (simp; omega) | (simp at *; omega)))) | ((with_reducible refine Below.setCell ?_ ?hsz _); (case hsz => (first | omega | (simp; done) | (simp; omega) | (simp at *; omega)))) | (with_reducible refine Below.drew ?_) | (with_reducible refine below_drewN ?_ _) | ((with_reducible refine Below.trans ?_ (Below.mono (by with_reducible assumption) ?hsz)); (case hsz => (first | omega | (simp; done) | (simp; omega) | (simp at *; omega))))))
        clear hnn
        (try clear d0 d1 g0 g1)
        obtain ⟨bs, d0, d1, g0, g1⟩ := id bx7
        go_wp2_with fail
        with_reducible refine (roomOfTop_any 5 0 _ ps _ _ (hp.keep hB7)).mono ?_
        rintro e w8 ⟨rfl, hnn⟩
        have bx8 := (bx7).keep hnn
        have hB8 : Below w1.heap.size w1 w8 := by (repeat (first | (with_reducible assumption) | (with_reducible exact Below.refl _ _) | ((with_reducible refine Below.alloc ?_ ?hsz _); (case hsz => (first | omega | (simp; done) | (simp; omega) | (simp at *; omega)))) | ((with_reducible refine Below.setCell ?_ ?hsz _); (case hsz => (first | omega | (simp; done) | (simp; omega) | (simp at *; omega)))) | (with_reducible refine Below.drew ?_) | (with_reducible refine below_drewN ?_ _) | ((with_reducible refine Below.trans ?_ (Below.mono (by with_reducible assumption) ?hsz)); (case hsz => (first | omega | (simp; done) | (simp; omega) | (simp at *; omega))))))
        clear hnn
        (try clear d0 d1 g0 g1)
        obtain ⟨bs, d0, d1, g0, g1⟩ := id bx8
        go_wp2_with fail
        have hd0 := fun p : Bw w8 => (bw_cell p bs).trans d0
        have hd1 := fun p : Bw w8 => (bw_cell p bs).trans d1
        refine wp_region_bw (by kernel_rfl) (by kernel_rfl) ?_
        repeat (go_big_quiet_step ((go_at_call 11; refine calls_bw (roomOfTop_any 5 31 _ ps _ _ ((hp.keep hB8).keep (Bw.h _))))))
        refine wpQuiet_nil ?_
        rintro _ ⟨pw, rfl⟩
        have bx9 := (bx8).keep pw.h
        have hB9 := (hB8).trans (pw.h.mono (hB8).size)
        have hbq := pw.h
        obtain ⟨w9, hwq⟩ : ∃ wq, wq = pw.v := ⟨_, rfl⟩
        rw [← hwq] at bx9 hB9 hbq ⊢
        clear d0 d1 g0 g1 hd0 hd1 hwq
        obtain ⟨bs, d0, d1, g0, g1⟩ := id bx9
        clear hbq
        go_wp2
        (go_ret; exact ⟨rfl, hBw1.trans (Below.mono (by with_reducible assumption) hBw1.size)⟩)
    · obtain rfl : m = 0 := by omega
      rcases (show z = 2 ∨ z = 3 ∨ z = 4 ∨ z = 5 by omega) with rfl | rfl | rfl | rfl
      · obtain ⟨-, ⟨q3, q4⟩, ⟨q5, q6⟩, ⟨q7, q8⟩, ⟨q9, q10⟩, q11⟩ := HR.out 0 (by omega) (show (0 : Int) ≤ 3 by omega)
        replace q9 : (roomAt 2 ps 3).1 = 0 := q9
        replace q10 : (roomAt 2 ps 3).2 = true := q10
        rw [room_zero, Int.add_zero] at q11
        have b1 := HBD.out i
        have b3 := HBD.out (bits .or .i64 i 0)
        have b4 := HBD.out (bits .and .i64 i 0)
        have q12 : decide (room (bits .or .i64 i 0) ps + room (bits .and .i64 i 0) ps ≤ room i ps) = true := decide_eq_true q11
        go_wp2_with fail
        with_reducible refine (roomOfTop_any 2 (0) _ ps _ _ (hp.keep hB3)).mono ?_
        rintro e w5 ⟨rfl, hnn⟩
        have bx5 := (bx3).keep hnn
        have hB5 : Below w1.heap.size w1 w5 := by (repeat (first | (with_reducible assumption) | (with_reducible exact Below.refl _ _) | ((with_reducible refine Below.alloc ?_ ?hsz _); (case hsz => (first | omega | (simp; done) | (simp; omega) | (simp at *; omega)))) | ((with_reducible refine Below.setCell ?_ ?hsz _); (case hsz => (first | omega | (simp; done) | (simp; omega) | (simp at *; omega)))) | (with_reducible refine Below.drew ?_) | (with_reducible refine below_drewN ?_ _) | ((with_reducible refine Below.trans ?_ (Below.mono (by with_reducible assumption) ?hsz)); (case hsz => (first | omega | (simp; done) | (simp; omega) | (simp at *; omega))))))
        clear hnn
        (try clear d0 d1 g0 g1)
        obtain ⟨bs, d0, d1, g0, g1⟩ := id bx5
        go_wp2_with fail
        with_reducible refine (roomOfTop_any 2 (bits .or .i64 i (0)) _ ps _ _ (hp.keep hB5)).mono ?_
        rintro e w6 ⟨rfl, hnn⟩
        have bx6 := (bx5).keep hnn
        have hB6 : Below w1.heap.size w1 w6 := by (repeat (first | (with_reducible assumption) | (with_reducible exact Below.refl _ _) | ((with_reducible refine Below.alloc ?_ ?hsz _); (case hsz => (first | omega | (simp; done) | (simp; omega) | (simp at *; omega)))) | ((with_reducible refine Below.setCell ?_ ?hsz _); (case hsz => (first | omega | (simp; done) | (simp; omega) | (simp at *; omega)))) | (with_reducible refine Below.drew ?_) | (with_reducible refine below_drewN ?_ _) | ((with_reducible refine Below.trans ?_ (Below.mono (by with_reducible assumption) ?hsz)); (case hsz => (first | omega | (simp; done) | (simp; omega) | (simp at *; omega))))))
        clear hnn
        (try clear d0 d1 g0 g1)
        obtain ⟨bs, d0, d1, g0, g1⟩ := id bx6
        go_wp2_with fail
        with_reducible refine (roomOfTop_any 2 (bits .and .i64 i (0)) _ ps _ _ (hp.keep hB6)).mono ?_
        rintro e w7 ⟨rfl, hnn⟩
        have bx7 := (bx6).keep hnn
        have hB7 : Below w1.heap.size w1 w7 := by (repeat (first | (with_reducible assumption) | (with_reducible exact Below.refl _ _) | ((with_reducible refine Below.alloc ?_ ?hsz _); (case hsz => (first | omega | (simp; done) | (simp; omega) | (simp at *; omega)))) | ((with_reducible refine Below.setCell ?_ ?hsz _); (case hsz => (first | omega | (simp; done) | (simp; omega) | (simp at *; omega)))) | (with_reducible refine Below.drew ?_) | (with_reducible refine below_drewN ?_ _) | ((with_reducible refine Below.trans ?_ (Below.mono (by with_reducible assumption) ?hsz)); (case hsz => (first | omega | (simp; done) | (simp; omega) | (simp at *; omega))))))
        clear hnn
        (try clear d0 d1 g0 g1)
        obtain ⟨bs, d0, d1, g0, g1⟩ := id bx7
        go_wp2_with fail
        with_reducible refine (roomOfTop_any 2 0 _ ps _ _ (hp.keep hB7)).mono ?_
        rintro e w8 ⟨rfl, hnn⟩
        have bx8 := (bx7).keep hnn
        have hB8 : Below w1.heap.size w1 w8 := by (repeat (first | (with_reducible assumption) | (with_reducible exact Below.refl _ _) | ((with_reducible refine Below.alloc ?_ ?hsz _); (case hsz => (first | omega | (simp; done) | (simp; omega) | (simp at *; omega)))) | ((with_reducible refine Below.setCell ?_ ?hsz _); (case hsz => (first | omega | (simp; done) | (simp; omega) | (simp at *; omega)))) | (with_reducible refine Below.drew ?_) | (with_reducible refine below_drewN ?_ _) | ((with_reducible refine Below.trans ?_ (Below.mono (by with_reducible assumption) ?hsz)); (case hsz => (first | omega | (simp; done) | (simp; omega) | (simp at *; omega))))))
        clear hnn
        (try clear d0 d1 g0 g1)
        obtain ⟨bs, d0, d1, g0, g1⟩ := id bx8
        go_wp2_with fail
        have hd0 := fun p : Bw w8 => (bw_cell p bs).trans d0
        have hd1 := fun p : Bw w8 => (bw_cell p bs).trans d1
        refine wp_region_bw (by kernel_rfl) (by kernel_rfl) ?_
        repeat (go_big_quiet_step ((go_at_call 11; refine calls_bw (roomOfTop_any 2 3 _ ps _ _ ((hp.keep hB8).keep (Bw.h _))))))
        refine wpQuiet_nil ?_
        rintro _ ⟨pw, rfl⟩
        have bx9 := (bx8).keep pw.h
        have hB9 := (hB8).trans (pw.h.mono (hB8).size)
        have hbq := pw.h
        obtain ⟨w9, hwq⟩ : ∃ wq, wq = pw.v := ⟨_, rfl⟩
        rw [← hwq] at bx9 hB9 hbq ⊢
        clear d0 d1 g0 g1 hd0 hd1 hwq
        obtain ⟨bs, d0, d1, g0, g1⟩ := id bx9
        clear hbq
        go_wp2
        (go_ret; exact ⟨rfl, hBw1.trans (Below.mono (by with_reducible assumption) hBw1.size)⟩)
      · obtain ⟨-, ⟨q3, q4⟩, ⟨q5, q6⟩, ⟨q7, q8⟩, ⟨q9, q10⟩, q11⟩ := HR.out 0 (by omega) (show (0 : Int) ≤ 7 by omega)
        replace q9 : (roomAt 3 ps 7).1 = 0 := q9
        replace q10 : (roomAt 3 ps 7).2 = true := q10
        rw [room_zero, Int.add_zero] at q11
        have b1 := HBD.out i
        have b3 := HBD.out (bits .or .i64 i 0)
        have b4 := HBD.out (bits .and .i64 i 0)
        have q12 : decide (room (bits .or .i64 i 0) ps + room (bits .and .i64 i 0) ps ≤ room i ps) = true := decide_eq_true q11
        go_wp2_with fail
        with_reducible refine (roomOfTop_any 3 (0) _ ps _ _ (hp.keep hB3)).mono ?_
        rintro e w5 ⟨rfl, hnn⟩
        have bx5 := (bx3).keep hnn
        have hB5 : Below w1.heap.size w1 w5 := by (repeat (first | (with_reducible assumption) | (with_reducible exact Below.refl _ _) | ((with_reducible refine Below.alloc ?_ ?hsz _); (case hsz => (first | omega | (simp; done) | (simp; omega) | (simp at *; omega)))) | ((with_reducible refine Below.setCell ?_ ?hsz _); (case hsz => (first | omega | (simp; done) | (simp; omega) | (simp at *; omega)))) | (with_reducible refine Below.drew ?_) | (with_reducible refine below_drewN ?_ _) | ((with_reducible refine Below.trans ?_ (Below.mono (by with_reducible assumption) ?hsz)); (case hsz => (first | omega | (simp; done) | (simp; omega) | (simp at *; omega))))))
        clear hnn
        (try clear d0 d1 g0 g1)
        obtain ⟨bs, d0, d1, g0, g1⟩ := id bx5
        go_wp2_with fail
        with_reducible refine (roomOfTop_any 3 (bits .or .i64 i (0)) _ ps _ _ (hp.keep hB5)).mono ?_
        rintro e w6 ⟨rfl, hnn⟩
        have bx6 := (bx5).keep hnn
        have hB6 : Below w1.heap.size w1 w6 := by (repeat (first | (with_reducible assumption) | (with_reducible exact Below.refl _ _) | ((with_reducible refine Below.alloc ?_ ?hsz _); (case hsz => (first | omega | (simp; done) | (simp; omega) | (simp at *; omega)))) | ((with_reducible refine Below.setCell ?_ ?hsz _); (case hsz => (first | omega | (simp; done) | (simp; omega) | (simp at *; omega)))) | (with_reducible refine Below.drew ?_) | (with_reducible refine below_drewN ?_ _) | ((with_reducible refine Below.trans ?_ (Below.mono (by with_reducible assumption) ?hsz)); (case hsz => (first | omega | (simp; done) | (simp; omega) | (simp at *; omega))))))
        clear hnn
        (try clear d0 d1 g0 g1)
        obtain ⟨bs, d0, d1, g0, g1⟩ := id bx6
        go_wp2_with fail
        with_reducible refine (roomOfTop_any 3 (bits .and .i64 i (0)) _ ps _ _ (hp.keep hB6)).mono ?_
        rintro e w7 ⟨rfl, hnn⟩
        have bx7 := (bx6).keep hnn
        have hB7 : Below w1.heap.size w1 w7 := by (repeat (first | (with_reducible assumption) | (with_reducible exact Below.refl _ _) | ((with_reducible refine Below.alloc ?_ ?hsz _); (case hsz => (first | omega | (simp; done) | (simp; omega) | (simp at *; omega)))) | ((with_reducible refine Below.setCell ?_ ?hsz _); (case hsz => (first | omega | (simp; done) | (simp; omega) | (simp at *; omega)))) | (with_reducible refine Below.drew ?_) | (with_reducible refine below_drewN ?_ _) | ((with_reducible refine Below.trans ?_ (Below.mono (by with_reducible assumption) ?hsz)); (case hsz => (first | omega | (simp; done) | (simp; omega) | (simp at *; omega))))))
        clear hnn
        (try clear d0 d1 g0 g1)
        obtain ⟨bs, d0, d1, g0, g1⟩ := id bx7
        go_wp2_with fail
        with_reducible refine (roomOfTop_any 3 0 _ ps _ _ (hp.keep hB7)).mono ?_
        rintro e w8 ⟨rfl, hnn⟩
        have bx8 := (bx7).keep hnn
        have hB8 : Below w1.heap.size w1 w8 := by (repeat (first | (with_reducible assumption) | (with_reducible exact Below.refl _ _) | ((with_reducible refine Below.alloc ?_ ?hsz _); (case hsz => (first | omega | (simp; done) | (simp; omega) | (simp at *; omega)))) | ((with_reducible refine Below.setCell ?_ ?hsz _); (case hsz => (first | omega | (simp; done) | (simp; omega) | (simp at *; omega)))) | (with_reducible refine Below.drew ?_) | (with_reducible refine below_drewN ?_ _) | ((with_reducible refine Below.trans ?_ (Below.mono (by with_reducible assumption) ?hsz)); (case hsz => (first | omega | (simp; done) | (simp; omega) | (simp at *; omega))))))
        clear hnn
        (try clear d0 d1 g0 g1)
        obtain ⟨bs, d0, d1, g0, g1⟩ := id bx8
        go_wp2_with fail
        have hd0 := fun p : Bw w8 => (bw_cell p bs).trans d0
        have hd1 := fun p : Bw w8 => (bw_cell p bs).trans d1
        refine wp_region_bw (by kernel_rfl) (by kernel_rfl) ?_
        repeat (go_big_quiet_step ((go_at_call 11; refine calls_bw (roomOfTop_any 3 7 _ ps _ _ ((hp.keep hB8).keep (Bw.h _))))))
        refine wpQuiet_nil ?_
        rintro _ ⟨pw, rfl⟩
        have bx9 := (bx8).keep pw.h
        have hB9 := (hB8).trans (pw.h.mono (hB8).size)
        have hbq := pw.h
        obtain ⟨w9, hwq⟩ : ∃ wq, wq = pw.v := ⟨_, rfl⟩
        rw [← hwq] at bx9 hB9 hbq ⊢
        clear d0 d1 g0 g1 hd0 hd1 hwq
        obtain ⟨bs, d0, d1, g0, g1⟩ := id bx9
        clear hbq
        go_wp2
        (go_ret; exact ⟨rfl, hBw1.trans (Below.mono (by with_reducible assumption) hBw1.size)⟩)
      · obtain ⟨-, ⟨q3, q4⟩, ⟨q5, q6⟩, ⟨q7, q8⟩, ⟨q9, q10⟩, q11⟩ := HR.out 0 (by omega) (show (0 : Int) ≤ 15 by omega)
        replace q9 : (roomAt 4 ps 15).1 = 0 := q9
        replace q10 : (roomAt 4 ps 15).2 = true := q10
        rw [room_zero, Int.add_zero] at q11
        have b1 := HBD.out i
        have b3 := HBD.out (bits .or .i64 i 0)
        have b4 := HBD.out (bits .and .i64 i 0)
        have q12 : decide (room (bits .or .i64 i 0) ps + room (bits .and .i64 i 0) ps ≤ room i ps) = true := decide_eq_true q11
        go_wp2_with fail
        with_reducible refine (roomOfTop_any 4 (0) _ ps _ _ (hp.keep hB3)).mono ?_
        rintro e w5 ⟨rfl, hnn⟩
        have bx5 := (bx3).keep hnn
        have hB5 : Below w1.heap.size w1 w5 := by (repeat (first | (with_reducible assumption) | (with_reducible exact Below.refl _ _) | ((with_reducible refine Below.alloc ?_ ?hsz _); (case hsz => (first | omega | (simp; done) | (simp; omega) | (simp at *; omega)))) | ((with_reducible refine Below.setCell ?_ ?hsz _); (case hsz => (first | omega | (simp; done) | (simp; omega) | (simp at *; omega)))) | (with_reducible refine Below.drew ?_) | (with_reducible refine below_drewN ?_ _) | ((with_reducible refine Below.trans ?_ (Below.mono (by with_reducible assumption) ?hsz)); (case hsz => (first | omega | (simp; done) | (simp; omega) | (simp at *; omega))))))
        clear hnn
        (try clear d0 d1 g0 g1)
        obtain ⟨bs, d0, d1, g0, g1⟩ := id bx5
        go_wp2_with fail
        with_reducible refine (roomOfTop_any 4 (bits .or .i64 i (0)) _ ps _ _ (hp.keep hB5)).mono ?_
        rintro e w6 ⟨rfl, hnn⟩
        have bx6 := (bx5).keep hnn
        have hB6 : Below w1.heap.size w1 w6 := by (repeat (first | (with_reducible assumption) | (with_reducible exact Below.refl _ _) | ((with_reducible refine Below.alloc ?_ ?hsz _); (case hsz => (first | omega | (simp; done) | (simp; omega) | (simp at *; omega)))) | ((with_reducible refine Below.setCell ?_ ?hsz _); (case hsz => (first | omega | (simp; done) | (simp; omega) | (simp at *; omega)))) | (with_reducible refine Below.drew ?_) | (with_reducible refine below_drewN ?_ _) | ((with_reducible refine Below.trans ?_ (Below.mono (by with_reducible assumption) ?hsz)); (case hsz => (first | omega | (simp; done) | (simp; omega) | (simp at *; omega))))))
        clear hnn
        (try clear d0 d1 g0 g1)
        obtain ⟨bs, d0, d1, g0, g1⟩ := id bx6
        go_wp2_with fail
        with_reducible refine (roomOfTop_any 4 (bits .and .i64 i (0)) _ ps _ _ (hp.keep hB6)).mono ?_
        rintro e w7 ⟨rfl, hnn⟩
        have bx7 := (bx6).keep hnn
        have hB7 : Below w1.heap.size w1 w7 := by (repeat (first | (with_reducible assumption) | (with_reducible exact Below.refl _ _) | ((with_reducible refine Below.alloc ?_ ?hsz _); (case hsz => (first | omega | (simp; done) | (simp; omega) | (simp at *; omega)))) | ((with_reducible refine Below.setCell ?_ ?hsz _); (case hsz => (first | omega | (simp; done) | (simp; omega) | (simp at *; omega)))) | (with_reducible refine Below.drew ?_) | (with_reducible refine below_drewN ?_ _) | ((with_reducible refine Below.trans ?_ (Below.mono (by with_reducible assumption) ?hsz)); (case hsz => (first | omega | (simp; done) | (simp; omega) | (simp at *; omega))))))
        clear hnn
        (try clear d0 d1 g0 g1)
        obtain ⟨bs, d0, d1, g0, g1⟩ := id bx7
        go_wp2_with fail
        with_reducible refine (roomOfTop_any 4 0 _ ps _ _ (hp.keep hB7)).mono ?_
        rintro e w8 ⟨rfl, hnn⟩
        have bx8 := (bx7).keep hnn
        have hB8 : Below w1.heap.size w1 w8 := by (repeat (first | (with_reducible assumption) | (with_reducible exact Below.refl _ _) | ((with_reducible refine Below.alloc ?_ ?hsz _); (case hsz => (first | omega | (simp; done) | (simp; omega) | (simp at *; omega)))) | ((with_reducible refine Below.setCell ?_ ?hsz _); (case hsz => (first | omega | (simp; done) | (simp; omega) | (simp at *; omega)))) | (with_reducible refine Below.drew ?_) | (with_reducible refine below_drewN ?_ _) | ((with_reducible refine Below.trans ?_ (Below.mono (by with_reducible assumption) ?hsz)); (case hsz => (first | omega | (simp; done) | (simp; omega) | (simp at *; omega))))))
        clear hnn
        (try clear d0 d1 g0 g1)
        obtain ⟨bs, d0, d1, g0, g1⟩ := id bx8
        go_wp2_with fail
        have hd0 := fun p : Bw w8 => (bw_cell p bs).trans d0
        have hd1 := fun p : Bw w8 => (bw_cell p bs).trans d1
        refine wp_region_bw (by kernel_rfl) (by kernel_rfl) ?_
        repeat (go_big_quiet_step ((go_at_call 11; refine calls_bw (roomOfTop_any 4 15 _ ps _ _ ((hp.keep hB8).keep (Bw.h _))))))
        refine wpQuiet_nil ?_
        rintro _ ⟨pw, rfl⟩
        have bx9 := (bx8).keep pw.h
        have hB9 := (hB8).trans (pw.h.mono (hB8).size)
        have hbq := pw.h
        obtain ⟨w9, hwq⟩ : ∃ wq, wq = pw.v := ⟨_, rfl⟩
        rw [← hwq] at bx9 hB9 hbq ⊢
        clear d0 d1 g0 g1 hd0 hd1 hwq
        obtain ⟨bs, d0, d1, g0, g1⟩ := id bx9
        clear hbq
        go_wp2
        (go_ret; exact ⟨rfl, hBw1.trans (Below.mono (by with_reducible assumption) hBw1.size)⟩)
      · obtain ⟨-, ⟨q3, q4⟩, ⟨q5, q6⟩, ⟨q7, q8⟩, ⟨q9, q10⟩, q11⟩ := HR.out 0 (by omega) (show (0 : Int) ≤ 31 by omega)
        replace q9 : (roomAt 5 ps 31).1 = 0 := q9
        replace q10 : (roomAt 5 ps 31).2 = true := q10
        rw [room_zero, Int.add_zero] at q11
        have b1 := HBD.out i
        have b3 := HBD.out (bits .or .i64 i 0)
        have b4 := HBD.out (bits .and .i64 i 0)
        have q12 : decide (room (bits .or .i64 i 0) ps + room (bits .and .i64 i 0) ps ≤ room i ps) = true := decide_eq_true q11
        go_wp2_with fail
        with_reducible refine (roomOfTop_any 5 (0) _ ps _ _ (hp.keep hB3)).mono ?_
        rintro e w5 ⟨rfl, hnn⟩
        have bx5 := (bx3).keep hnn
        have hB5 : Below w1.heap.size w1 w5 := by (repeat (first | (with_reducible assumption) | (with_reducible exact Below.refl _ _) | ((with_reducible refine Below.alloc ?_ ?hsz _); (case hsz => (first | omega | (simp; done) | (simp; omega) | (simp at *; omega)))) | ((with_reducible refine Below.setCell ?_ ?hsz _); (case hsz => (first | omega | (simp; done) | (simp; omega) | (simp at *; omega)))) | (with_reducible refine Below.drew ?_) | (with_reducible refine below_drewN ?_ _) | ((with_reducible refine Below.trans ?_ (Below.mono (by with_reducible assumption) ?hsz)); (case hsz => (first | omega | (simp; done) | (simp; omega) | (simp at *; omega))))))
        clear hnn
        (try clear d0 d1 g0 g1)
        obtain ⟨bs, d0, d1, g0, g1⟩ := id bx5
        go_wp2_with fail
        with_reducible refine (roomOfTop_any 5 (bits .or .i64 i (0)) _ ps _ _ (hp.keep hB5)).mono ?_
        rintro e w6 ⟨rfl, hnn⟩
        have bx6 := (bx5).keep hnn
        have hB6 : Below w1.heap.size w1 w6 := by (repeat (first | (with_reducible assumption) | (with_reducible exact Below.refl _ _) | ((with_reducible refine Below.alloc ?_ ?hsz _); (case hsz => (first | omega | (simp; done) | (simp; omega) | (simp at *; omega)))) | ((with_reducible refine Below.setCell ?_ ?hsz _); (case hsz => (first | omega | (simp; done) | (simp; omega) | (simp at *; omega)))) | (with_reducible refine Below.drew ?_) | (with_reducible refine below_drewN ?_ _) | ((with_reducible refine Below.trans ?_ (Below.mono (by with_reducible assumption) ?hsz)); (case hsz => (first | omega | (simp; done) | (simp; omega) | (simp at *; omega))))))
        clear hnn
        (try clear d0 d1 g0 g1)
        obtain ⟨bs, d0, d1, g0, g1⟩ := id bx6
        go_wp2_with fail
        with_reducible refine (roomOfTop_any 5 (bits .and .i64 i (0)) _ ps _ _ (hp.keep hB6)).mono ?_
        rintro e w7 ⟨rfl, hnn⟩
        have bx7 := (bx6).keep hnn
        have hB7 : Below w1.heap.size w1 w7 := by (repeat (first | (with_reducible assumption) | (with_reducible exact Below.refl _ _) | ((with_reducible refine Below.alloc ?_ ?hsz _); (case hsz => (first | omega | (simp; done) | (simp; omega) | (simp at *; omega)))) | ((with_reducible refine Below.setCell ?_ ?hsz _); (case hsz => (first | omega | (simp; done) | (simp; omega) | (simp at *; omega)))) | (with_reducible refine Below.drew ?_) | (with_reducible refine below_drewN ?_ _) | ((with_reducible refine Below.trans ?_ (Below.mono (by with_reducible assumption) ?hsz)); (case hsz => (first | omega | (simp; done) | (simp; omega) | (simp at *; omega))))))
        clear hnn
        (try clear d0 d1 g0 g1)
        obtain ⟨bs, d0, d1, g0, g1⟩ := id bx7
        go_wp2_with fail
        with_reducible refine (roomOfTop_any 5 0 _ ps _ _ (hp.keep hB7)).mono ?_
        rintro e w8 ⟨rfl, hnn⟩
        have bx8 := (bx7).keep hnn
        have hB8 : Below w1.heap.size w1 w8 := by (repeat (first | (with_reducible assumption) | (with_reducible exact Below.refl _ _) | ((with_reducible refine Below.alloc ?_ ?hsz _); (case hsz => (first | omega | (simp; done) | (simp; omega) | (simp at *; omega)))) | ((with_reducible refine Below.setCell ?_ ?hsz _); (case hsz => (first | omega | (simp; done) | (simp; omega) | (simp at *; omega)))) | (with_reducible refine Below.drew ?_) | (with_reducible refine below_drewN ?_ _) | ((with_reducible refine Below.trans ?_ (Below.mono (by with_reducible assumption) ?hsz)); (case hsz => (first | omega | (simp; done) | (simp; omega) | (simp at *; omega))))))
        clear hnn
        (try clear d0 d1 g0 g1)
        obtain ⟨bs, d0, d1, g0, g1⟩ := id bx8
        go_wp2_with fail
        have hd0 := fun p : Bw w8 => (bw_cell p bs).trans d0
        have hd1 := fun p : Bw w8 => (bw_cell p bs).trans d1
        refine wp_region_bw (by kernel_rfl) (by kernel_rfl) ?_
        repeat (go_big_quiet_step ((go_at_call 11; refine calls_bw (roomOfTop_any 5 31 _ ps _ _ ((hp.keep hB8).keep (Bw.h _))))))
        refine wpQuiet_nil ?_
        rintro _ ⟨pw, rfl⟩
        have bx9 := (bx8).keep pw.h
        have hB9 := (hB8).trans (pw.h.mono (hB8).size)
        have hbq := pw.h
        obtain ⟨w9, hwq⟩ : ∃ wq, wq = pw.v := ⟨_, rfl⟩
        rw [← hwq] at bx9 hB9 hbq ⊢
        clear d0 d1 g0 g1 hd0 hd1 hwq
        obtain ⟨bs, d0, d1, g0, g1⟩ := id bx9
        clear hbq
        go_wp2
        (go_ret; exact ⟨rfl, hBw1.trans (Below.mono (by with_reducible assumption) hBw1.size)⟩)
  · have hs' : sideB z ps i = false := by simpa using hs
    obtain ⟨e1, e2⟩ := room_no' hs'
    go_wp2_with fail
    with_reducible refine (alive_any _).mono ?_
    rintro e w4 ⟨rfl, hnn⟩
    have bx4 := (bx3).keep hnn
    have hB4 : Below w1.heap.size w1 w4 := by (repeat (first | (with_reducible assumption) | (with_reducible exact Below.refl _ _) | ((with_reducible refine Below.alloc ?_ ?hsz _); (case hsz => (first | omega | (simp; done) | (simp; omega) | (simp at *; omega)))) | ((with_reducible refine Below.setCell ?_ ?hsz _); (case hsz => (first | omega | (simp; done) | (simp; omega) | (simp at *; omega)))) | (with_reducible refine Below.drew ?_) | (with_reducible refine below_drewN ?_ _) | ((with_reducible refine Below.trans ?_ (Below.mono (by with_reducible assumption) ?hsz)); (case hsz => (first | omega | (simp; done) | (simp; omega) | (simp at *; omega))))))
    clear hnn
    (try clear d0 d1 g0 g1)
    obtain ⟨bs, d0, d1, g0, g1⟩ := id bx4
    go_wp2
    (go_ret; exact ⟨rfl, hBw1.trans (Below.mono (by with_reducible assumption) hBw1.size)⟩)

theorem contract (H : Type) (enc : TypeId × Value → H) (W : World) (base : Nat) (args : Array Value) (ds gs : List (DataW H)) (before : List MemPlace)
    (hval : ∀ (j : Nat) t v, Try.f3.params[j]? = some t → args[j]? = some v → Value.okWide Try.prog W .any base t v)
    (hW : DataW.Whole enc Try.prog Try.f3.params.toList Rows.fnRoomOfSpec.vars false W args.toList ds gs before) :
    Calls Try.prog 3 args W fun e W' => ∃ v, e = .returned v ∧ Rows.fnRoomOfSpec.post enc Try.prog Try.f3 false true false false W args v W' := by
  have hW' := hW
  obtain ⟨p, q, hA0, hV, rfl, hfz, hnd⟩ := hW
  have hA : DataW.TrodAll enc Try.prog W 0 (fun _ => true) true Try.f3.params.toList args.toList ds p := hA0
  rw [Try.params3] at hA hval
  obtain ⟨u0, us0, d0, ds0, p0, q0, hargs, rfl, rfl, g0, k0⟩ := trodAll_cons hA
  obtain ⟨u1, us1, d1, ds1, p1, q1, rfl, rfl, rfl, g1, k1⟩ := trodAll_cons k0
  obtain ⟨rfl, rfl, rfl⟩ := trodAll_nil k1
  obtain rfl : args = #[u0, u1] := by cases args; simp_all
  obtain ⟨rfl, rfl⟩ := trodVars_none hV
  obtain ⟨m0, e0⟩ := g0
  obtain ⟨s0, l0, f0, hh0⟩ := open_arg_bytes e0
  have f0' := one_of_cells Try.underlying22 (hval 0 _ _ rfl rfl) f0
  subst f0'
  obtain ⟨m1, e1⟩ := g1
  obtain ⟨s1, l1, f1, hh1⟩ := open_arg_bytes e1
  have f1' := one_of_cells Try.underlying22 (hval 1 _ _ rfl rfl) f1
  subst f1'
  refine (walk _ _ l0 l1 W hh0 hh1).mono fun e W' ⟨he, hb⟩ => ?_
  subst he
  exact ⟨_, rfl, law_post Try.kids Try.full (by rw [Try.params3]; decide) rfl rfl Try.underlying4 hW' rfl rfl rfl hb⟩

set_option maxRecDepth 100000 in
theorem lifted (os : Os) (started : os.Started) (H : Type) (enc : TypeId × Value → H) :
    ReturnsInHanded {} Try.checked os 3 .any (Rows.fnRoomOfSpec.pre6 enc Try.prog Try.f3 Rows.fnRoomOfRow.domain false) (Rows.fnRoomOfSpec.post enc Try.prog Try.f3 false true false false) := by
  refine returnsInHanded_of_change (C := Try.checked) Try.own started (by kernel_rfl) Try.func3
    (ChangeSpec.witness6 (enc := enc) (C := Try.checked) false ⟨#[], #[.slice none 0 0, .slice none 0 0], []⟩ 8 (by kernel_rfl) (by kernel_rfl) (by kernel_rfl) (by kernel_rfl)) ?_
  intro W base args ds gs before hval0 hW _ _
  exact contract H enc W base args ds gs before hval0 hW

theorem proved : Rows.FnRoomOfSaid :=
  OpenClaim.holds_of_wide 3 Try.f3 rfl rfl rfl rfl rfl rfl rfl ⟨rfl, rfl, rfl, rfl, rfl⟩ rfl rfl rfl rfl rfl (by kernel_rfl) Try.func3 (by kernel_rfl)
    (of_decide_eq_true (by kernel_rfl)) (by unfold Func.isWrapper; first | (rw [if_pos (by decide +kernel)]; kernel_rfl) | (rw [if_neg (by decide +kernel)]; exact ⟨rfl, rfl⟩))
    (fun os started H enc _ => lifted os started H enc)

end Go.Proofs.Ytmbeemljlgaifaa.lawRoomOf
