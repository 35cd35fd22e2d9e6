/- Contracts of the functions of chapter 7 in the model: products. -/
import Derived.Test.YtmeicnhlehdboaaJ3
import Derived.Test.YtmeicnhlehdboaaX2
namespace Go.Proofs.Ytmeicnhlehdboaa
open Go.RowKit

/-- what the operations yield -/
def spP7 (g c h c' M M' k : Nat) (s x0 y0 : Int) : Nat → Value → Prop
  | 0, x => x = .int .i64 s
  | 1, x => x = .slice (some ⟨g, 0, none⟩) M c
  | 2, x => x = .int .i64 (k : Int)
  | 3, x => x = .pointer (some ⟨g, k, none⟩)
  | 4, x => x = .int .i64 x0
  | 5, x => x = .slice (some ⟨h, 0, none⟩) M' c'
  | 6, x => x = .int .i64 (k : Int)
  | 7, x => x = .pointer (some ⟨h, k, none⟩)
  | 8, x => x = .int .i64 y0
  | 9, x => x = .int .i64 (x0 * y0)
  | 10, x => x = .int .i64 (s + x0 * y0)
  | 11, x => x = .int .i64 (s + x0 * y0)
  | _, _ => True

set_option maxHeartbeats 4000000 in
set_option maxRecDepth 20000 in
theorem specProduct_any (n : Int) (v u1 u2 : Value) (ps : List Pp) (xs ys : List Int) (b b1 b2 : Nat) (w : World) (hp : Pipes w b v ps) (hx : Ints w b1 u1 xs) (hy : Ints w b2 u2 ys) :
    Calls Try.prog 29 #[.agg #[.int .i64 n, v], u1, u2] w fun e w' => e = .returned (.tuple #[.int .i64 (prodR n ps xs ys), .bool (prodB n ps xs ys)]) ∧ Below w.heap.size w w' := by
  have hp0 := hp
  obtain ⟨A, c0, rfl, hcp1, hcp2, -, -⟩ := hp.form
  obtain ⟨A1, c, rfl, hc1, hc2, -, hcell⟩ := hx.form
  obtain ⟨A2, c', rfl, hc1', hc2', -, hcell'⟩ := hy.form
  unfold maxLen at hc2 hc2' hcp2
  have bx0 := Box2.new w (.int .i64 n) (.slice A ps.length c0) 25
  have Hno : Hid (prodB n ps xs ys = false → (prodR n ps xs ys = 0 ∧ prodB n ps xs ys = false)) := Lib.hid fun h => ⟨by rw [prodR, if_neg (by rw [h]; simp)], h⟩
  cases hok : netOkB n ps with
  | false =>
    have Hb := Lib.hid (Hno.out (by simp [prodB, hok]))
    go_enter Try.func29, Try.ntmps29
    go_wp2_with fail
    refine (specNetOk_any _ _ ps b _ (hp0.keep (by (repeat (first | (with_reducible assumption) | (with_reducible exact Below.refl _ _) | ((with_reducible refine Below.alloc ?_ ?hsz _); (case hsz => (first | omega | (simp; done) | (simp; omega) | (simp at *; omega)))) | ((with_reducible refine Below.setCell ?_ ?hsz _); (case hsz => (first | omega | (simp; done) | (simp; omega) | (simp at *; omega)))) | (with_reducible refine Below.drew ?_) | (with_reducible refine below_drewN ?_ _) | ((with_reducible refine Below.trans ?_ (Below.mono (by with_reducible assumption) ?hsz)); (case hsz => (first | omega | (simp; done) | (simp; omega) | (simp at *; omega))))))))).mono ?_
    rintro e w1 ⟨rfl, hb1⟩
    rw [hok]
    go_wp2
    go_ret2
    exact ⟨ret_ib (by rw [Hb.out.1, Hb.out.2]), by (repeat (first | (with_reducible assumption) | (with_reducible exact Below.refl _ _) | ((with_reducible refine Below.alloc ?_ ?hsz _); (case hsz => (first | omega | (simp; done) | (simp; omega) | (simp at *; omega)))) | ((with_reducible refine Below.setCell ?_ ?hsz _); (case hsz => (first | omega | (simp; done) | (simp; omega) | (simp at *; omega)))) | (with_reducible refine Below.drew ?_) | (with_reducible refine below_drewN ?_ _) | ((with_reducible refine Below.trans ?_ (Below.mono (by with_reducible assumption) ?hsz)); (case hsz => (first | omega | (simp; done) | (simp; omega) | (simp at *; omega))))))⟩
  | true =>
    obtain ⟨-, -, hl7, -⟩ := netOk_parts hok
    by_cases hla : xs.length = ps.length
    · have hla1 : ((xs.length : Int) != (ps.length : Int)) = false := by simp [hla]
      by_cases hlb : ys.length = ps.length
      · have hlb1 : ((ys.length : Int) != (ps.length : Int)) = false := by simp [hlb]
        have HL := Lib.hid (And.intro hok (And.intro hla hlb))
        have hx7 : xs.length ≤ 7 := by omega
        clear hla hlb
        go_enter Try.func29, Try.ntmps29
        go_wp2_with fail
        refine (specNetOk_any _ _ ps b _ (hp0.keep (by (repeat (first | (with_reducible assumption) | (with_reducible exact Below.refl _ _) | ((with_reducible refine Below.alloc ?_ ?hsz _); (case hsz => (first | omega | (simp; done) | (simp; omega) | (simp at *; omega)))) | ((with_reducible refine Below.setCell ?_ ?hsz _); (case hsz => (first | omega | (simp; done) | (simp; omega) | (simp at *; omega)))) | (with_reducible refine Below.drew ?_) | (with_reducible refine below_drewN ?_ _) | ((with_reducible refine Below.trans ?_ (Below.mono (by with_reducible assumption) ?hsz)); (case hsz => (first | omega | (simp; done) | (simp; omega) | (simp at *; omega))))))))).mono ?_
        rintro e w1 ⟨rfl, hb1⟩
        rw [hok]
        have bx1 := bx0.keep hb1
        have hB1 : Below w.heap.size w w1 := by (repeat (first | (with_reducible assumption) | (with_reducible exact Below.refl _ _) | ((with_reducible refine Below.alloc ?_ ?hsz _); (case hsz => (first | omega | (simp; done) | (simp; omega) | (simp at *; omega)))) | ((with_reducible refine Below.setCell ?_ ?hsz _); (case hsz => (first | omega | (simp; done) | (simp; omega) | (simp at *; omega)))) | (with_reducible refine Below.drew ?_) | (with_reducible refine below_drewN ?_ _) | ((with_reducible refine Below.trans ?_ (Below.mono (by with_reducible assumption) ?hsz)); (case hsz => (first | omega | (simp; done) | (simp; omega) | (simp at *; omega))))))
        clear bx0 hb1 hok
        obtain ⟨bs, d0, d1, -, -⟩ := id bx1
        go_wp2
        go_loopw [9, 8] (fun i s wr => ∃ k : Nat, k ≤ xs.length ∧ i = .int .i64 (k : Int) ∧ s = .int .i64 (prodI (xs.take k) (ys.take k)) ∧ (∀ x ∈ xs.take k, withinB x (-80) 80 = true) ∧ (∀ x ∈ ys.take k, withinB x (-80) 80 = true) ∧ Box2 wr w.heap.size (.int .i64 n) (.slice A ps.length c0) ∧ Below w.heap.size w wr) (fun i _ _ => xs.length - (intOf i).toNat)
        case atStart => exact ⟨0, by omega, rfl, rfl, by simp, by simp, bx1, hB1⟩
        case round =>
          clear bx1 hB1 d0 d1 bs
          obtain ⟨k, hk, rfl, rfl, hall, hall', bx, hb⟩ := hrel
          have Hall := Lib.hid (And.intro hall hall')
          clear hall hall'
          have hzb := hb.size
          by_cases hlt : k < xs.length
          · have hlt' : k < ys.length := by have := HL.out.2; omega
            obtain ⟨g, rfl, hg1, hg2, qx, -⟩ := hcell wr hb k hlt
            obtain ⟨h, rfl, hh1, hh2, qy, -⟩ := hcell' wr hb k hlt'
            have hkyL : (k : Int) < (ys.length : Int) := by omega
            have Hs := Lib.hid (prod_snoc xs ys k hlt hlt')
            have HWa := Lib.hid (show ∀ h : withinB xs[k] (-80) 80 = true, ∀ x ∈ xs.take (k + 1), withinB x (-80) 80 = true from fun h => all_take (f := fun x : Int => withinB x (-80) 80) hlt Hall.out.1 h)
            have HWb := Lib.hid (show ∀ h : withinB ys[k] (-80) 80 = true, ∀ x ∈ ys.take (k + 1), withinB x (-80) 80 = true from fun h => all_take (f := fun x : Int => withinB x (-80) 80) hlt' Hall.out.2 h)
            have HNa := Lib.hid (show withinB xs[k] (-80) 80 = false → prodB n ps xs ys = false from fun h => by simp [prodB, rowB_no hlt h])
            have HNb := Lib.hid (show withinB ys[k] (-80) 80 = false → prodB n ps xs ys = false from fun h => by simp [prodB, rowB_no hlt' h])
            obtain ⟨p1, p2⟩ := prod_bd (a := xs.take k) (b := ys.take k) (m := 80) (fun x hx => by have := Hall.out.1 x hx; simpa [withinB] using this) (fun x hx => by have := Hall.out.2 x hx; simpa [withinB] using this)
            have hkl : (xs.take k).length ≤ 7 := by rw [List.length_take]; omega
            generalize prodI (xs.take k) (ys.take k) = s at *
            have s1 : -50000 ≤ s := by omega
            have s2 : s ≤ 50000 := by omega
            generalize xs[k] = x0 at *
            generalize ys[k] = y0 at *
            clear p1 p2 hkl
            cases hin : withinB x0 (-80) 80 with
            | false =>
              have Hb := Lib.hid (Hno.out (HNa.out hin))
              go_wp2_with fail
              refine (l1In_any x0 (-80) 80 _).mono ?_
              rintro e w2 ⟨rfl, rfl⟩
              rw [hin]
              go_wp2
              go_ret2
              exact ⟨ret_ib (by rw [Hb.out.1, Hb.out.2]), hb⟩
            | true =>
              have Hna := Lib.hid (HWa.out hin)
              go_wp2_with fail
              refine (l1In_any x0 (-80) 80 _).mono ?_
              rintro e w2 ⟨rfl, rfl⟩
              rw [hin]
              cases hin' : withinB y0 (-80) 80 with
              | false =>
                have Hb := Lib.hid (Hno.out (HNb.out hin'))
                go_wp2_with fail
                refine (l1In_any y0 (-80) 80 _).mono ?_
                rintro e w2 ⟨rfl, rfl⟩
                rw [hin']
                go_wp2
                go_ret2
                exact ⟨ret_ib (by rw [Hb.out.1, Hb.out.2]), hb⟩
              | true =>
                have Hnb := Lib.hid (HWb.out hin')
                have hm := mul_bd (m := 80) (x := x0) (y := y0) (by simpa [withinB] using hin) (by simpa [withinB] using hin')
                obtain ⟨m1, m2⟩ := hm
                have hg3 : g < wr.heap.size := by omega
                have hh3 : h < wr.heap.size := by omega
                have hC0 : Below wr.heap.size wr { wr with drawn := wr.drawn + 1 } := ⟨rfl, rfl, rfl, Nat.le_refl _, fun _ _ => rfl⟩
                go_wp2_with fail
                refine (l1In_any y0 (-80) 80 _).mono ?_
                rintro e w2 ⟨rfl, rfl⟩
                rw [hin']
                go_wp2
                refine wp_region_flow 11 (some 8) [(0, 49), (1, 50), (2, 51), (3, 52), (4, 53), (5, 54), (6, 55), (7, 56), (8, 57), (9, 58), (10, 59)] (fun j x _ _ => spP7 g c h c' xs.length ys.length k s x0 y0 j x) (fun _ _ _ => True) (fun _ wx => Below wr.heap.size wr wx) (by kernel_rfl) (by kernel_rfl) rfl hC0 ?_ ?_ ?_ ?_
                · exact fun _ _ _ _ _ _ _ _ _ _ h => h
                · exact fun _ _ _ _ _ _ _ h => h
                · simp (maxSteps := 4000000) only [eachOp, fillF, List.setIfInBounds_toArray, List.set_cons_succ, List.set_cons_zero]
                  refine ⟨?_, ?_, ?_, ?_, ?_, ?_, ?_, ?_, ?_, ?_, ?_, ?_, trivial⟩ <;> intro u f wx hC hd <;> (try simp [allV, useOf, Region.binds] at hd)
                  · go_wp2
                    exact ⟨_, rfl, rfl, trivial, hC⟩
                  · go_wp2
                    exact ⟨_, rfl, rfl, trivial, hC⟩
                  · go_wp2
                    exact ⟨_, rfl, rfl, trivial, hC⟩
                  · rw [show u 1 = _ from (by first | exact hd | exact hd.1 | exact hd.2 | exact hd.2.1 | exact hd.2.2 | exact hd.2.2.1 | exact hd.2.2.2 | exact hd.2.2.2.1 | exact hd.2.2.2.2), show u 2 = _ from (by first | exact hd | exact hd.1 | exact hd.2 | exact hd.2.1 | exact hd.2.2 | exact hd.2.2.1 | exact hd.2.2.2 | exact hd.2.2.2.1 | exact hd.2.2.2.2)]
                    go_wp2
                    exact ⟨_, rfl, rfl, trivial, hC⟩
                  · rw [show u 3 = _ from (by first | exact hd | exact hd.1 | exact hd.2 | exact hd.2.1 | exact hd.2.2 | exact hd.2.2.1 | exact hd.2.2.2 | exact hd.2.2.2.1 | exact hd.2.2.2.2)]
                    have e1 := (bel_cell hC (by omega)).trans qx
                    go_wp2
                    exact ⟨_, rfl, rfl, trivial, hC⟩
                  · go_wp2
                    exact ⟨_, rfl, rfl, trivial, hC⟩
                  · go_wp2
                    exact ⟨_, rfl, rfl, trivial, hC⟩
                  · rw [show u 5 = _ from (by first | exact hd | exact hd.1 | exact hd.2 | exact hd.2.1 | exact hd.2.2 | exact hd.2.2.1 | exact hd.2.2.2 | exact hd.2.2.2.1 | exact hd.2.2.2.2), show u 6 = _ from (by first | exact hd | exact hd.1 | exact hd.2 | exact hd.2.1 | exact hd.2.2 | exact hd.2.2.1 | exact hd.2.2.2 | exact hd.2.2.2.1 | exact hd.2.2.2.2)]
                    go_wp2
                    exact ⟨_, rfl, rfl, trivial, hC⟩
                  · rw [show u 7 = _ from (by first | exact hd | exact hd.1 | exact hd.2 | exact hd.2.1 | exact hd.2.2 | exact hd.2.2.1 | exact hd.2.2.2 | exact hd.2.2.2.1 | exact hd.2.2.2.2)]
                    have e1 := (bel_cell hC (by omega)).trans qy
                    go_wp2
                    exact ⟨_, rfl, rfl, trivial, hC⟩
                  · rw [show u 4 = _ from (by first | exact hd | exact hd.1 | exact hd.2 | exact hd.2.1 | exact hd.2.2 | exact hd.2.2.1 | exact hd.2.2.2 | exact hd.2.2.2.1 | exact hd.2.2.2.2), show u 8 = _ from (by first | exact hd | exact hd.1 | exact hd.2 | exact hd.2.1 | exact hd.2.2 | exact hd.2.2.1 | exact hd.2.2.2 | exact hd.2.2.2.1 | exact hd.2.2.2.2)]
                    have h1 := IntWalk.i64_in (x0 * y0) (by omega)
                    have h2 := IntWalk.wrap64_in (x0 * y0) (by omega)
                    go_wp2
                    exact ⟨_, rfl, rfl, trivial, hC⟩
                  · rw [show u 0 = _ from (by first | exact hd | exact hd.1 | exact hd.2 | exact hd.2.1 | exact hd.2.2 | exact hd.2.2.1 | exact hd.2.2.2 | exact hd.2.2.2.1 | exact hd.2.2.2.2), show u 9 = _ from (by first | exact hd | exact hd.1 | exact hd.2 | exact hd.2.1 | exact hd.2.2 | exact hd.2.2.1 | exact hd.2.2.2 | exact hd.2.2.2.1 | exact hd.2.2.2.2)]
                    go_wp2
                    exact ⟨_, rfl, rfl, trivial, hC⟩
                  · rw [show u 10 = _ from (by first | exact hd | exact hd.1 | exact hd.2 | exact hd.2.1 | exact hd.2.2 | exact hd.2.2.1 | exact hd.2.2.2 | exact hd.2.2.2.1 | exact hd.2.2.2.2)]
                    go_wp2
                    exact ⟨_, rfl, rfl, trivial, hC⟩
                · intro u f wx hC hfin
                  simp only [fillEnd, fillF, Act.put, List.setIfInBounds_toArray, List.set_cons_succ, List.set_cons_zero]
                  rw [show u 11 = _ from hfin 11 (by decide) (by decide)]
                  go_wp2
                  go_roundw
                  case rel => exact ⟨k + 1, by omega, by go_num, by rw [Hs.out], Hna.out, Hnb.out, bx.keep hC, hb.trans (hC.mono hzb)⟩
                  case measure => simp [intOf]; omega
          · have h1 := all_whole (f := fun x : Int => withinB x (-80) 80) hlt Hall.out.1
            have h2 := all_whole (f := fun x : Int => withinB x (-80) 80) (show ¬ k < ys.length by have := HL.out.2; omega) Hall.out.2
            have Hb : Hid (prodB n ps xs ys = true ∧ prodR n ps xs ys = prodI (xs.take k) (ys.take k)) := by
              have hb : prodB n ps xs ys = true := by simp [prodB, rowB, HL.out.1, HL.out.2.1, HL.out.2.2, h1, h2]
              exact Lib.hid ⟨hb, by rw [prodR, if_pos hb, List.take_of_length_le (by omega), List.take_of_length_le (by have := HL.out.2; omega)]⟩
            clear h1 h2
            go_wp2
            go_ret2
            exact ⟨ret_ib (by rw [Hb.out.1, Hb.out.2]), hb⟩
      · have hlb1 : ((ys.length : Int) != (ps.length : Int)) = true := by rw [bne_iff_ne]; omega
        have hlb' : ¬ (ys.length : Int) = (ps.length : Int) := by omega
        have Hb := Lib.hid (Hno.out (by simp [prodB, rowB, hlb']))
        clear hlb'
        clear hlb hla
        go_enter Try.func29, Try.ntmps29
        go_wp2_with fail
        refine (specNetOk_any _ _ ps b _ (hp0.keep (by (repeat (first | (with_reducible assumption) | (with_reducible exact Below.refl _ _) | ((with_reducible refine Below.alloc ?_ ?hsz _); (case hsz => (first | omega | (simp; done) | (simp; omega) | (simp at *; omega)))) | ((with_reducible refine Below.setCell ?_ ?hsz _); (case hsz => (first | omega | (simp; done) | (simp; omega) | (simp at *; omega)))) | (with_reducible refine Below.drew ?_) | (with_reducible refine below_drewN ?_ _) | ((with_reducible refine Below.trans ?_ (Below.mono (by with_reducible assumption) ?hsz)); (case hsz => (first | omega | (simp; done) | (simp; omega) | (simp at *; omega))))))))).mono ?_
        rintro e w1 ⟨rfl, hb1⟩
        rw [hok]
        have bx1 := bx0.keep hb1
        have hB1 : Below w.heap.size w w1 := by (repeat (first | (with_reducible assumption) | (with_reducible exact Below.refl _ _) | ((with_reducible refine Below.alloc ?_ ?hsz _); (case hsz => (first | omega | (simp; done) | (simp; omega) | (simp at *; omega)))) | ((with_reducible refine Below.setCell ?_ ?hsz _); (case hsz => (first | omega | (simp; done) | (simp; omega) | (simp at *; omega)))) | (with_reducible refine Below.drew ?_) | (with_reducible refine below_drewN ?_ _) | ((with_reducible refine Below.trans ?_ (Below.mono (by with_reducible assumption) ?hsz)); (case hsz => (first | omega | (simp; done) | (simp; omega) | (simp at *; omega))))))
        clear bx0 hb1 hok
        obtain ⟨bs, d0, d1, -, -⟩ := id bx1
        go_wp2
        go_ret2
        exact ⟨ret_ib (by rw [Hb.out.1, Hb.out.2]), hB1⟩
    · have hla1 : ((xs.length : Int) != (ps.length : Int)) = true := by rw [bne_iff_ne]; omega
      have hla' : ¬ (xs.length : Int) = (ps.length : Int) := by omega
      have Hb := Lib.hid (Hno.out (by simp [prodB, rowB, hla']))
      clear hla'
      clear hla
      go_enter Try.func29, Try.ntmps29
      go_wp2_with fail
      refine (specNetOk_any _ _ ps b _ (hp0.keep (by (repeat (first | (with_reducible assumption) | (with_reducible exact Below.refl _ _) | ((with_reducible refine Below.alloc ?_ ?hsz _); (case hsz => (first | omega | (simp; done) | (simp; omega) | (simp at *; omega)))) | ((with_reducible refine Below.setCell ?_ ?hsz _); (case hsz => (first | omega | (simp; done) | (simp; omega) | (simp at *; omega)))) | (with_reducible refine Below.drew ?_) | (with_reducible refine below_drewN ?_ _) | ((with_reducible refine Below.trans ?_ (Below.mono (by with_reducible assumption) ?hsz)); (case hsz => (first | omega | (simp; done) | (simp; omega) | (simp at *; omega))))))))).mono ?_
      rintro e w1 ⟨rfl, hb1⟩
      rw [hok]
      have bx1 := bx0.keep hb1
      have hB1 : Below w.heap.size w w1 := by (repeat (first | (with_reducible assumption) | (with_reducible exact Below.refl _ _) | ((with_reducible refine Below.alloc ?_ ?hsz _); (case hsz => (first | omega | (simp; done) | (simp; omega) | (simp at *; omega)))) | ((with_reducible refine Below.setCell ?_ ?hsz _); (case hsz => (first | omega | (simp; done) | (simp; omega) | (simp at *; omega)))) | (with_reducible refine Below.drew ?_) | (with_reducible refine below_drewN ?_ _) | ((with_reducible refine Below.trans ?_ (Below.mono (by with_reducible assumption) ?hsz)); (case hsz => (first | omega | (simp; done) | (simp; omega) | (simp at *; omega))))))
      clear bx0 hb1 hok
      obtain ⟨bs, d0, d1, -, -⟩ := id bx1
      go_wp2
      go_ret2
      exact ⟨ret_ib (by rw [Hb.out.1, Hb.out.2]), hB1⟩

end Go.Proofs.Ytmeicnhlehdboaa
