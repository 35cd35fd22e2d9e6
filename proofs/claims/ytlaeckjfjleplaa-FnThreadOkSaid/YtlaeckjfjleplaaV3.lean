/- Contracts of the functions of chapter 4 in the program: RingOk and ThreadOk. -/
import Derived.Test.YtlaeckjfjleplaaV2
import Derived.Test.YtlaeckjfjleplaaR
import Derived.Test.YtlaeckjfjleplaaD0
namespace Go.Proofs.Ytlaeckjfjleplaa
open Go.RowKit

set_option maxHeartbeats 4000000 in
set_option maxRecDepth 20000 in
theorem ringOk_rd (n : Int) (v u : Value) (ps : List Pp) (xs : List Int) (b : Nat) (w : World) (hp : Pipes w b v ps) (hx : Reads w u xs) :
    Calls Try.prog 13 #[.agg #[.int .i64 n, v], u] w fun e w' => e = .returned (.bool (ringB n ps xs)) ∧ Below w.heap.size w w' := by
  have hp0 := hp
  have hx0 := hx
  obtain ⟨A, c, rfl, -, -, -, -⟩ := hp.form
  obtain ⟨A0, c0, rfl, hc1, hc2, hsm, -⟩ := hx.form
  have bx0 := Box2.new w (.int .i64 n) (.slice A ps.length c) 25
  go_enter Try.func13, Try.ntmps13
  go_wp2_with fail
  refine (walkOk_any n _ _ ps xs b _ (hp0.keep (by (repeat (first | (with_reducible assumption) | (with_reducible exact Below.refl _ _) | ((with_reducible refine Below.alloc ?_ ?hsz _); (case hsz => (first | omega | (simp; done) | (simp; omega) | (simp at *; omega)))) | ((with_reducible refine Below.setCell ?_ ?hsz _); (case hsz => (first | omega | (simp; done) | (simp; omega) | (simp at *; omega)))) | (with_reducible refine Below.drew ?_) | (with_reducible refine below_drewN ?_ _) | ((with_reducible refine Below.trans ?_ (Below.mono (by with_reducible assumption) ?hsz)); (case hsz => (first | omega | (simp; done) | (simp; omega) | (simp at *; omega)))))))) (hx0.keep (by (repeat (first | (with_reducible assumption) | (with_reducible exact Below.refl _ _) | ((with_reducible refine Below.alloc ?_ ?hsz _); (case hsz => (first | omega | (simp; done) | (simp; omega) | (simp at *; omega)))) | ((with_reducible refine Below.setCell ?_ ?hsz _); (case hsz => (first | omega | (simp; done) | (simp; omega) | (simp at *; omega)))) | (with_reducible refine Below.drew ?_) | (with_reducible refine below_drewN ?_ _) | ((with_reducible refine Below.trans ?_ (Below.mono (by with_reducible assumption) ?hsz)); (case hsz => (first | omega | (simp; done) | (simp; omega) | (simp at *; omega))))))))).mono ?_
  rintro e w1 ⟨rfl, hb1⟩
  have bx1 := bx0.keep hb1
  have hB1 : Below w.heap.size w w1 := by (repeat (first | (with_reducible assumption) | (with_reducible exact Below.refl _ _) | ((with_reducible refine Below.alloc ?_ ?hsz _); (case hsz => (first | omega | (simp; done) | (simp; omega) | (simp at *; omega)))) | ((with_reducible refine Below.setCell ?_ ?hsz _); (case hsz => (first | omega | (simp; done) | (simp; omega) | (simp at *; omega)))) | (with_reducible refine Below.drew ?_) | (with_reducible refine below_drewN ?_ _) | ((with_reducible refine Below.trans ?_ (Below.mono (by with_reducible assumption) ?hsz)); (case hsz => (first | omega | (simp; done) | (simp; omega) | (simp at *; omega))))))
  obtain ⟨bs, d0, d1, g0, g1⟩ := id bx1
  clear bx0 hb1
  by_cases hw : walkB n ps xs = true
  · rw [hw]
    obtain ⟨hok, h1, h5, hpl, hlk⟩ := walk_parts hw
    have hr : ringB n ps xs = (decide ((nodesI ps xs).getD xs.length 0 = frI ps (xs.getD 0 0)) && decide ((nodesI ps xs).take xs.length).Nodup) := by rw [ringB, hw]; rfl
    have Hr := Lib.hid hr
    clear hw hr hok hlk
    go_wp2_with fail
    refine (nodesAlong_any _ _ xs ps b _ (hp0.keep hB1) (hx0.keep hB1) hpl h1 h5).mono ?_
    rintro e w2 ⟨g, cap, rfl, hR, hb2⟩
    have bx2 := bx1.keep hb2
    have hB2 : Below w.heap.size w w2 := by (repeat (first | (with_reducible assumption) | (with_reducible exact Below.refl _ _) | ((with_reducible refine Below.alloc ?_ ?hsz _); (case hsz => (first | omega | (simp; done) | (simp; omega) | (simp at *; omega)))) | ((with_reducible refine Below.setCell ?_ ?hsz _); (case hsz => (first | omega | (simp; done) | (simp; omega) | (simp at *; omega)))) | (with_reducible refine Below.drew ?_) | (with_reducible refine below_drewN ?_ _) | ((with_reducible refine Below.trans ?_ (Below.mono (by with_reducible assumption) ?hsz)); (case hsz => (first | omega | (simp; done) | (simp; omega) | (simp at *; omega))))))
    clear hb2 d0 d1 g0 g1 bx1
    clear bs
    obtain ⟨bs, d0, d1, g0, g1⟩ := id bx2
    obtain ⟨hg1, hg2⟩ := hR.lt
    obtain ⟨hcap1, hcap2⟩ := hR.capd
    have hcap3 := hcap2
    unfold maxLen at hcap2
    have y0 := (hR.at' 0 (by omega)).1
    have y1 := (hR.at' xs.length (by omega)).1
    rw [nodes_zero] at y0
    have hnl := nodes_len (ps := ps) (xs := xs)
    generalize hlast : (nodesI ps xs).getD xs.length 0 = y at *
    generalize hfirst : frI ps (xs.getD 0 0) = z at *
    have HR : ∀ p : Bw w2, ∀ j, j < xs.length → p.v.cell? ⟨g, j, none⟩ = some (.int .i64 ((nodesI ps xs).getD j 0)) := fun p j hj => (bw_cell p hg2).trans (hR.at' j (by omega)).1
    have Hcall := fun p : Bw w2 => allDiffer_any g xs.length cap (nodesI ps xs) p.v (HR p) (Nat.lt_of_lt_of_le hg2 p.h.size) (by omega) (by omega) (by omega) hcap3
    have hy0 := fun p : Bw w2 => (bw_cell p hg2).trans y0
    have hy1 := fun p : Bw w2 => (bw_cell p hg2).trans y1
    have HH := Lib.hid (And.intro hlast (And.intro hfirst (And.intro hR hnl)))
    clear hlast hfirst hR HR y0 y1 hnl hpl
    by_cases hyz : y = z
    · have hyb : (y == z) = true := by simpa using hyz
      have Hv := Lib.hid (show decide (y = z) = true from decide_eq_true hyz)
      clear hyz
      go_wp2_with fail
      have hd0 := fun p : Bw w2 => (bw_cell p bs).trans d0
      have hd1 := fun p : Bw w2 => (bw_cell p bs).trans d1
      refine wp_region_bw (by kernel_rfl) (by kernel_rfl) ?_
      repeat (go_big_quiet_step ((go_at_call 49; refine calls_bw (Hcall _))))
      refine wpQuiet_nil ?_
      rintro _ ⟨pw, rfl⟩
      have bx3 := (bx2).keep pw.h
      have hB3 := (hB2).trans (pw.h.mono (hB2).size)
      have hbq := pw.h
      obtain ⟨w3, hwq⟩ : ∃ wq, wq = pw.v := ⟨_, rfl⟩
      rw [← hwq] at bx3 hB3 hbq ⊢
      clear d0 d1 g0 g1 hd0 hd1 hwq
      obtain ⟨bs, d0, d1, g0, g1⟩ := id bx3
      go_wp2
      go_ret
      exact ⟨ret_bool (by rw [Hr.out, Hv.out, Bool.true_and]), hB3⟩
    · have hyb : (y == z) = false := by simpa using hyz
      have Hv := Lib.hid (show decide (y = z) = false from decide_eq_false hyz)
      clear hyz
      go_wp2_with fail
      have hd0 := fun p : Bw w2 => (bw_cell p bs).trans d0
      have hd1 := fun p : Bw w2 => (bw_cell p bs).trans d1
      refine wp_region_bw (by kernel_rfl) (by kernel_rfl) ?_
      repeat (go_big_quiet_step ((fail)))
      refine wpQuiet_nil ?_
      rintro _ ⟨pw, rfl⟩
      have bx3 := (bx2).keep pw.h
      have hB3 := (hB2).trans (pw.h.mono (hB2).size)
      have hbq := pw.h
      obtain ⟨w3, hwq⟩ : ∃ wq, wq = pw.v := ⟨_, rfl⟩
      rw [← hwq] at bx3 hB3 hbq ⊢
      clear d0 d1 g0 g1 hd0 hd1 hwq
      obtain ⟨bs, d0, d1, g0, g1⟩ := id bx3
      go_wp2
      go_ret
      exact ⟨ret_bool (by rw [Hr.out, Hv.out, Bool.false_and]), hB3⟩
  · have hw' : walkB n ps xs = false := by simpa using hw
    have Hr := Lib.hid (show ringB n ps xs = false by rw [ringB, hw']; rfl)
    rw [hw']
    go_wp2
    go_ret
    exact ⟨ret_bool Hr.out.symm, by (repeat (first | (with_reducible assumption) | (with_reducible exact Below.refl _ _) | ((with_reducible refine Below.alloc ?_ ?hsz _); (case hsz => (first | omega | (simp; done) | (simp; omega) | (simp at *; omega)))) | ((with_reducible refine Below.setCell ?_ ?hsz _); (case hsz => (first | omega | (simp; done) | (simp; omega) | (simp at *; omega)))) | (with_reducible refine Below.drew ?_) | (with_reducible refine below_drewN ?_ _) | ((with_reducible refine Below.trans ?_ (Below.mono (by with_reducible assumption) ?hsz)); (case hsz => (first | omega | (simp; done) | (simp; omega) | (simp at *; omega))))))⟩

set_option maxHeartbeats 4000000 in
set_option maxRecDepth 20000 in
theorem threadOk_rd (n i k : Int) (v u : Value) (ps : List Pp) (xs : List Int) (b : Nat) (w : World) (hp : Pipes w b v ps) (hx : Reads w u xs) :
    Calls Try.prog 19 #[.agg #[.int .i64 n, v], u, .int .i64 i, .int .i64 k] w fun e w' => e = .returned (.bool (threadB n ps xs i k)) ∧ Below w.heap.size w w' := by
  have hp0 := hp
  have hx0 := hx
  obtain ⟨A, c, rfl, -, -, -, -⟩ := hp.form
  obtain ⟨A0, c0, rfl, hc1, hc2, hsm, -⟩ := hx.form
  have bx0 := Box2.new w (.int .i64 n) (.slice A ps.length c) 25
  go_enter Try.func19, Try.ntmps19
  go_wp2_with fail
  refine (endsOk_any n i k _ ps b _ (hp0.keep (by (repeat (first | (with_reducible assumption) | (with_reducible exact Below.refl _ _) | ((with_reducible refine Below.alloc ?_ ?hsz _); (case hsz => (first | omega | (simp; done) | (simp; omega) | (simp at *; omega)))) | ((with_reducible refine Below.setCell ?_ ?hsz _); (case hsz => (first | omega | (simp; done) | (simp; omega) | (simp at *; omega)))) | (with_reducible refine Below.drew ?_) | (with_reducible refine below_drewN ?_ _) | ((with_reducible refine Below.trans ?_ (Below.mono (by with_reducible assumption) ?hsz)); (case hsz => (first | omega | (simp; done) | (simp; omega) | (simp at *; omega))))))))).mono ?_
  rintro e w1 ⟨rfl, hb1⟩
  have bx1 := bx0.keep hb1
  have hB1 : Below w.heap.size w w1 := by (repeat (first | (with_reducible assumption) | (with_reducible exact Below.refl _ _) | ((with_reducible refine Below.alloc ?_ ?hsz _); (case hsz => (first | omega | (simp; done) | (simp; omega) | (simp at *; omega)))) | ((with_reducible refine Below.setCell ?_ ?hsz _); (case hsz => (first | omega | (simp; done) | (simp; omega) | (simp at *; omega)))) | (with_reducible refine Below.drew ?_) | (with_reducible refine below_drewN ?_ _) | ((with_reducible refine Below.trans ?_ (Below.mono (by with_reducible assumption) ?hsz)); (case hsz => (first | omega | (simp; done) | (simp; omega) | (simp at *; omega))))))
  obtain ⟨bs, d0, d1, g0, g1⟩ := id bx1
  clear bx0 hb1
  by_cases he : endsB n ps i k = true
  · rw [he]
    go_wp2_with fail
    refine (walkOk_any n _ _ ps xs b _ (hp0.keep hB1) (hx0.keep hB1)).mono ?_
    rintro e w2 ⟨rfl, hb2⟩
    have bx2 := bx1.keep hb2
    have hB2 : Below w.heap.size w w2 := by (repeat (first | (with_reducible assumption) | (with_reducible exact Below.refl _ _) | ((with_reducible refine Below.alloc ?_ ?hsz _); (case hsz => (first | omega | (simp; done) | (simp; omega) | (simp at *; omega)))) | ((with_reducible refine Below.setCell ?_ ?hsz _); (case hsz => (first | omega | (simp; done) | (simp; omega) | (simp at *; omega)))) | (with_reducible refine Below.drew ?_) | (with_reducible refine below_drewN ?_ _) | ((with_reducible refine Below.trans ?_ (Below.mono (by with_reducible assumption) ?hsz)); (case hsz => (first | omega | (simp; done) | (simp; omega) | (simp at *; omega))))))
    clear hb2 d0 d1 g0 g1 bx1
    obtain ⟨bs2, d0, d1, g0, g1⟩ := id bx2
    by_cases hw : walkB n ps xs = true
    · rw [hw]
      obtain ⟨hok, h1, h5, hpl, hlk⟩ := walk_parts hw
      have hr : threadB n ps xs i k = (decide (frI ps (xs.getD 0 0) = i) && decide ((nodesI ps xs).getD xs.length 0 = k) && decide (nodesI ps xs).Nodup) := by rw [threadB, hw, he]; rfl
      have Hr := Lib.hid hr
      clear hw hr hok hlk he
      go_wp2_with fail
      refine (nodesAlong_any _ _ xs ps b _ (hp0.keep hB2) (hx0.keep hB2) hpl h1 h5).mono ?_
      rintro e w3 ⟨g, cap, rfl, hR, hb3⟩
      have bx3 := bx2.keep hb3
      have hB3 : Below w.heap.size w w3 := by (repeat (first | (with_reducible assumption) | (with_reducible exact Below.refl _ _) | ((with_reducible refine Below.alloc ?_ ?hsz _); (case hsz => (first | omega | (simp; done) | (simp; omega) | (simp at *; omega)))) | ((with_reducible refine Below.setCell ?_ ?hsz _); (case hsz => (first | omega | (simp; done) | (simp; omega) | (simp at *; omega)))) | (with_reducible refine Below.drew ?_) | (with_reducible refine below_drewN ?_ _) | ((with_reducible refine Below.trans ?_ (Below.mono (by with_reducible assumption) ?hsz)); (case hsz => (first | omega | (simp; done) | (simp; omega) | (simp at *; omega))))))
      clear hb3 d0 d1 g0 g1 bx2
      obtain ⟨bs3, d0, d1, g0, g1⟩ := id bx3
      obtain ⟨hg1, hg2⟩ := hR.lt
      obtain ⟨hcap1, hcap2⟩ := hR.capd
      have hcap3 := hcap2
      unfold maxLen at hcap2
      have y0 := (hR.at' 0 (by omega)).1
      have y1 := (hR.at' xs.length (by omega)).1
      rw [nodes_zero] at y0
      have hnl := nodes_len (ps := ps) (xs := xs)
      have hall := (List.take_of_length_le (l := nodesI ps xs) (i := xs.length + 1) (by omega))
      have Hcall := allDiffer_any g (xs.length + 1) cap (nodesI ps xs) w3 (fun j hj => (hR.at' j hj).1) hg2 (by omega) (by omega) hcap1 hcap3
      rw [hall] at Hcall
      generalize hlast : (nodesI ps xs).getD xs.length 0 = y at *
      generalize hfirst : frI ps (xs.getD 0 0) = z at *
      clear hall hnl hR
      by_cases hyz : z = i
      · have hyb : (z == i) = true := by simpa using hyz
        have Hv := Lib.hid (show decide (z = i) = true from decide_eq_true hyz)
        by_cases hyk : y = k
        · have hyc : (y == k) = true := by simpa using hyk
          have Hw := Lib.hid (show decide (y = k) = true from decide_eq_true hyk)
          clear hyz hyk
          go_wp2_with fail
          refine Hcall.mono ?_
          rintro e w4 ⟨rfl, hb4⟩
          go_wp2
          go_ret
          exact ⟨ret_bool (by rw [Hr.out, Hv.out, Hw.out]; rfl), by (repeat (first | (with_reducible assumption) | (with_reducible exact Below.refl _ _) | ((with_reducible refine Below.alloc ?_ ?hsz _); (case hsz => (first | omega | (simp; done) | (simp; omega) | (simp at *; omega)))) | ((with_reducible refine Below.setCell ?_ ?hsz _); (case hsz => (first | omega | (simp; done) | (simp; omega) | (simp at *; omega)))) | (with_reducible refine Below.drew ?_) | (with_reducible refine below_drewN ?_ _) | ((with_reducible refine Below.trans ?_ (Below.mono (by with_reducible assumption) ?hsz)); (case hsz => (first | omega | (simp; done) | (simp; omega) | (simp at *; omega))))))⟩
        · have hyc : (y == k) = false := by simpa using hyk
          have Hw := Lib.hid (show decide (y = k) = false from decide_eq_false hyk)
          clear hyz hyk
          go_wp2
          go_ret
          exact ⟨ret_bool (by rw [Hr.out, Hv.out, Hw.out]; rfl), by (repeat (first | (with_reducible assumption) | (with_reducible exact Below.refl _ _) | ((with_reducible refine Below.alloc ?_ ?hsz _); (case hsz => (first | omega | (simp; done) | (simp; omega) | (simp at *; omega)))) | ((with_reducible refine Below.setCell ?_ ?hsz _); (case hsz => (first | omega | (simp; done) | (simp; omega) | (simp at *; omega)))) | (with_reducible refine Below.drew ?_) | (with_reducible refine below_drewN ?_ _) | ((with_reducible refine Below.trans ?_ (Below.mono (by with_reducible assumption) ?hsz)); (case hsz => (first | omega | (simp; done) | (simp; omega) | (simp at *; omega))))))⟩
      · have hyb : (z == i) = false := by simpa using hyz
        have Hv := Lib.hid (show decide (z = i) = false from decide_eq_false hyz)
        clear hyz
        go_wp2
        go_ret
        exact ⟨ret_bool (by rw [Hr.out, Hv.out]; rfl), by (repeat (first | (with_reducible assumption) | (with_reducible exact Below.refl _ _) | ((with_reducible refine Below.alloc ?_ ?hsz _); (case hsz => (first | omega | (simp; done) | (simp; omega) | (simp at *; omega)))) | ((with_reducible refine Below.setCell ?_ ?hsz _); (case hsz => (first | omega | (simp; done) | (simp; omega) | (simp at *; omega)))) | (with_reducible refine Below.drew ?_) | (with_reducible refine below_drewN ?_ _) | ((with_reducible refine Below.trans ?_ (Below.mono (by with_reducible assumption) ?hsz)); (case hsz => (first | omega | (simp; done) | (simp; omega) | (simp at *; omega))))))⟩
    · have hw' : walkB n ps xs = false := by simpa using hw
      have Hr := Lib.hid (show threadB n ps xs i k = false by simp [threadB, hw'])
      rw [hw']
      go_wp2
      go_ret
      exact ⟨ret_bool Hr.out.symm, by (repeat (first | (with_reducible assumption) | (with_reducible exact Below.refl _ _) | ((with_reducible refine Below.alloc ?_ ?hsz _); (case hsz => (first | omega | (simp; done) | (simp; omega) | (simp at *; omega)))) | ((with_reducible refine Below.setCell ?_ ?hsz _); (case hsz => (first | omega | (simp; done) | (simp; omega) | (simp at *; omega)))) | (with_reducible refine Below.drew ?_) | (with_reducible refine below_drewN ?_ _) | ((with_reducible refine Below.trans ?_ (Below.mono (by with_reducible assumption) ?hsz)); (case hsz => (first | omega | (simp; done) | (simp; omega) | (simp at *; omega))))))⟩
  · have he' : endsB n ps i k = false := by simpa using he
    have Hr := Lib.hid (show threadB n ps xs i k = false by simp [threadB, he'])
    rw [he']
    go_wp2
    go_ret
    exact ⟨ret_bool Hr.out.symm, by (repeat (first | (with_reducible assumption) | (with_reducible exact Below.refl _ _) | ((with_reducible refine Below.alloc ?_ ?hsz _); (case hsz => (first | omega | (simp; done) | (simp; omega) | (simp at *; omega)))) | ((with_reducible refine Below.setCell ?_ ?hsz _); (case hsz => (first | omega | (simp; done) | (simp; omega) | (simp at *; omega)))) | (with_reducible refine Below.drew ?_) | (with_reducible refine below_drewN ?_ _) | ((with_reducible refine Below.trans ?_ (Below.mono (by with_reducible assumption) ?hsz)); (case hsz => (first | omega | (simp; done) | (simp; omega) | (simp at *; omega))))))⟩

theorem ringOk_any (n : Int) (v u : Value) (ps : List Pp) (xs : List Int) (b b' : Nat) (w : World) (hp : Pipes w b v ps) (hx : Ints w b' u xs) :
    Calls Try.prog 13 #[.agg #[.int .i64 n, v], u] w fun e w' => e = .returned (.bool (ringB n ps xs)) ∧ Below w.heap.size w w' :=
  ringOk_rd n v u ps xs b w hp hx.reads

theorem threadOk_any (n i k : Int) (v u : Value) (ps : List Pp) (xs : List Int) (b b' : Nat) (w : World) (hp : Pipes w b v ps) (hx : Ints w b' u xs) :
    Calls Try.prog 19 #[.agg #[.int .i64 n, v], u, .int .i64 i, .int .i64 k] w fun e w' => e = .returned (.bool (threadB n ps xs i k)) ∧ Below w.heap.size w w' :=
  threadOk_rd n i k v u ps xs b w hp hx.reads

end Go.Proofs.Ytlaeckjfjleplaa
