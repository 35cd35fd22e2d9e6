/- FnThreadsClose: for every code the law holds: a flow in which no node but two has an excess, with a pipe back behind the others and the excess as its amount, is balanced; it is the sum of its rings, of which those with that pipe have together this amount. No condition. -/
import Derived.Test.YtlaeckjfjleplaaG1
import Derived.Test.YtlaeckjfjleplaaL5
import Derived.Test.YtlaeckjfjleplaaNC
import Derived.Test.YtlaeckjfjleplaaG7
import Derived.Test.YtlaeckjfjleplaaG8
import Derived.Test.YtlaeckjfjleplaaG6
import Derived.Test.YtlaeckjfjleplaaY2
import Derived.Test.YtlaeckjfjleplaaW3
import Derived.Deep.RegionHeld3
namespace Go.Proofs.Ytlaeckjfjleplaa.lawThreadsClose
open Go.ChangeShapes Go.WideShapes Go.ChangeAt Go.RowKit Go.Deep Go.Joins

set_option maxHeartbeats 1000000 in
set_option maxRecDepth 20000 in
theorem hasInt_rd (v : Value) (xs : List Int) (x : Int) (w : World) (hx : Reads w v xs) :
    Calls Try.prog 31 #[v, .int .i64 x] w fun e w' => e = .returned (.bool (decide (x ∈ xs))) ∧ Below w.heap.size w w' := by
  obtain ⟨A, c, rfl, hc1, hc2, hs, hcell⟩ := hx.form
  unfold maxLen at hc2
  go_enter Try.func31, Try.ntmps31
  go_wp2
  go_loopw [5] (fun i wr => ∃ k : Nat, k ≤ xs.length ∧ i = .int .i64 k ∧ x ∉ xs.take k ∧ Below w.heap.size w wr) (fun i _ => xs.length - (intOf i).toNat)
  case atStart => exact ⟨0, by omega, rfl, by simp, by (repeat (first | (with_reducible assumption) | (with_reducible exact Below.refl _ _) | ((with_reducible refine Below.alloc ?_ ?hsz _); (case hsz => (first | omega | (simp; done) | (simp; omega) | (simp at *; omega)))) | ((with_reducible refine Below.setCell ?_ ?hsz _); (case hsz => (first | omega | (simp; done) | (simp; omega) | (simp at *; omega)))) | (with_reducible refine Below.drew ?_) | (with_reducible refine below_drewN ?_ _) | ((with_reducible refine Below.trans ?_ (Below.mono (by with_reducible assumption) ?hsz)); (case hsz => (first | omega | (simp; done) | (simp; omega) | (simp at *; omega))))))⟩
  case round =>
    obtain ⟨k, hk, rfl, hall, hb⟩ := hrel
    have Hall := Lib.hid hall
    clear hall
    by_cases hlt : k < xs.length
    · obtain ⟨g, o, rfl, hg2, c0⟩ := hcell wr hb k hlt
      by_cases he : xs[k] = x
      · have he' : (xs[k] == x) = true := by simp [he]
        have hm : x ∈ xs := by rw [← he]; exact List.getElem_mem hlt
        have Hm := Lib.hid (show decide (x ∈ xs) = true by simpa using hm)
        clear he hm
        go_wp2
        go_ret
        exact ⟨ret_bool Hm.out.symm, by (repeat (first | (with_reducible assumption) | (with_reducible exact Below.refl _ _) | ((with_reducible refine Below.alloc ?_ ?hsz _); (case hsz => (first | omega | (simp; done) | (simp; omega) | (simp at *; omega)))) | ((with_reducible refine Below.setCell ?_ ?hsz _); (case hsz => (first | omega | (simp; done) | (simp; omega) | (simp at *; omega)))) | (with_reducible refine Below.drew ?_) | (with_reducible refine below_drewN ?_ _) | ((with_reducible refine Below.trans ?_ (Below.mono (by with_reducible assumption) ?hsz)); (case hsz => (first | omega | (simp; done) | (simp; omega) | (simp at *; omega))))))⟩
      · have he' : (xs[k] == x) = false := by simpa using he
        have Hn := Lib.hid (show x ∉ xs.take (k + 1) by
          rw [List.take_succ_eq_append_getElem hlt, List.mem_append]
          rintro (hh | hh)
          · exact Hall.out hh
          · simp at hh; exact he hh.symm)
        clear he
        go_wp2
        go_roundw
        case rel => exact ⟨k + 1, by omega, by go_num, Hn.out, by (repeat (first | (with_reducible assumption) | (with_reducible exact Below.refl _ _) | ((with_reducible refine Below.alloc ?_ ?hsz _); (case hsz => (first | omega | (simp; done) | (simp; omega) | (simp at *; omega)))) | ((with_reducible refine Below.setCell ?_ ?hsz _); (case hsz => (first | omega | (simp; done) | (simp; omega) | (simp at *; omega)))) | (with_reducible refine Below.drew ?_) | (with_reducible refine below_drewN ?_ _) | ((with_reducible refine Below.trans ?_ (Below.mono (by with_reducible assumption) ?hsz)); (case hsz => (first | omega | (simp; done) | (simp; omega) | (simp at *; omega))))))⟩
        case measure => simp [intOf]; omega
    · have Hm := Lib.hid (show decide (x ∈ xs) = false by
        have := Hall.out
        rw [List.take_of_length_le (by omega)] at this
        simpa using this)
      go_wp2
      go_ret
      exact ⟨ret_bool Hm.out.symm, by (repeat (first | (with_reducible assumption) | (with_reducible exact Below.refl _ _) | ((with_reducible refine Below.alloc ?_ ?hsz _); (case hsz => (first | omega | (simp; done) | (simp; omega) | (simp at *; omega)))) | ((with_reducible refine Below.setCell ?_ ?hsz _); (case hsz => (first | omega | (simp; done) | (simp; omega) | (simp at *; omega)))) | (with_reducible refine Below.drew ?_) | (with_reducible refine below_drewN ?_ _) | ((with_reducible refine Below.trans ?_ (Below.mono (by with_reducible assumption) ?hsz)); (case hsz => (first | omega | (simp; done) | (simp; omega) | (simp at *; omega))))))⟩

/-- all that the law asks -/
theorem close_all {z i j : Int} {ps : List Pp} {xs : List Int} (h : partsOkB z ps xs i j = true) (hw : withB z ps ⟨j, i, 0, 1, 0⟩ = true) (hn : (excAt z ps xs j).1 ≤ 40) :
    excAt z ps xs j = (exc j ps xs, true) ∧ xs.length ≤ 7 ∧ balB z (ps ++ [⟨j, i, 0, 1, 0⟩]) (xs ++ [exc j ps xs]) = true ∧
    (∀ L ∈ ringsR z (ps ++ [⟨j, i, 0, 1, 0⟩]) (xs ++ [exc j ps xs]), ∃ d l, L = d :: natsI l ∧ 1 ≤ d ∧ d ≤ 40) ∧
    takenL (xs.length + 1) (ringsR z (ps ++ [⟨j, i, 0, 1, 0⟩]) (xs ++ [exc j ps xs])) = xs ++ [exc j ps xs] ∧ sumM xs.length (ringsR z (ps ++ [⟨j, i, 0, 1, 0⟩]) (xs ++ [exc j ps xs])) = exc j ps xs := by
  obtain ⟨hst, h0⟩ := PartSt.of h
  obtain ⟨hnet, hlen, -⟩ := flowOk_parts hst.flow
  have hl7 := (netOk_parts hnet).2.2.1
  have hex : excAt z ps xs j = (exc j ps xs, true) := by
    obtain ⟨-, -, -, b0, b1, -⟩ := ends_parts hst.ends
    rw [excAt, if_pos ⟨hst.flow, by unfold withinB; simp; omega⟩]
  rw [hex] at hn
  have hbal := close_bal (q := ⟨j, i, 0, 1, 0⟩) h hw rfl rfl hn
  have hlY : (xs ++ [exc j ps xs]).length = xs.length + 1 := by simp
  have hlQ : (xs ++ [exc j ps xs]).length = (ps ++ [(⟨j, i, 0, 1, 0⟩ : Pp)]).length := by simp [hlen]
  have hxb := flow_getD (bal_flow hbal)
  have hpos8 : posN (xs ++ [exc j ps xs]) ≤ 8 := by have := pos_le (xs := xs ++ [exc j ps xs]); omega
  have hR : ringsR z (ps ++ [⟨j, i, 0, 1, 0⟩]) (xs ++ [exc j ps xs]) = ringsP (ps ++ [⟨j, i, 0, 1, 0⟩]) 8 (xs ++ [exc j ps xs]) := by rw [ringsR, if_pos hbal]; rfl
  refine ⟨hex, by omega, hbal, ?_, ?_, ?_⟩
  · rw [hR]
    intro L hL
    obtain ⟨d, l, e, h1, h2, -⟩ := rings_rows 8 _ hbal L hL
    exact ⟨d, l, e, h1, h2⟩
  · rw [hR, ← hlY, hlQ]
    exact taken_is (fun k => rings_sum 8 _ _ hbal hpos8 (by simp) (fun k => by
      have e : (List.replicate (ps ++ [(⟨j, i, 0, 1, 0⟩ : Pp)]).length (0 : Int)).getD k 0 = 0 := by
        rw [List.getD_eq_getElem?_getD, List.getElem?_replicate]
        split <;> rfl
      rw [e]
      have := hxb k
      omega) k) hlQ
  · rw [hR, rings_at 8 _ hbal hpos8 xs.length]
    simp [List.getD_eq_getElem?_getD]

/-- the amounts of the first rows with pipe m -/
def sumMK (m : Nat) (Ls : List (List Int)) (k : Nat) : Int := sumM m (Ls.take k)

set_option maxHeartbeats 4000000 in
set_option maxRecDepth 20000 in
theorem walk (v : Value) (n : Nat) (w : World) (h : ArgBytes w v n) :
    Calls Try.prog 7 #[v] w fun e w' => e = .returned (.bool true) ∧ Below w.heap.size w w' := by
  obtain ⟨A, c, rfl, hc1, hc2, -⟩ := id h
  unfold maxLen at hc2
  by_cases hbig : 1048576 < n
  · go_enter Try.func7, Try.ntmps7
    go_wp2
    go_ret
    exact ⟨rfl, by (repeat (first | (with_reducible assumption) | (with_reducible exact Below.refl _ _) | ((with_reducible refine Below.alloc ?_ ?hsz _); (case hsz => (first | omega | (simp; done) | (simp; omega) | (simp at *; omega)))) | ((with_reducible refine Below.setCell ?_ ?hsz _); (case hsz => (first | omega | (simp; done) | (simp; omega) | (simp at *; omega)))) | (with_reducible refine Below.drew ?_) | (with_reducible refine below_drewN ?_ _) | ((with_reducible refine Below.trans ?_ (Below.mono (by with_reducible assumption) ?hsz)); (case hsz => (first | omega | (simp; done) | (simp; omega) | (simp at *; omega))))))⟩
  go_enter Try.func7, Try.ntmps7
  go_wp2_with fail
  with_reducible refine (drawPartsOf_any _ n _ (h.keep (by (repeat (first | (with_reducible assumption) | (with_reducible exact Below.refl _ _) | ((with_reducible refine Below.alloc ?_ ?hsz _); (case hsz => (first | omega | (simp; done) | (simp; omega) | (simp at *; omega)))) | ((with_reducible refine Below.setCell ?_ ?hsz _); (case hsz => (first | omega | (simp; done) | (simp; omega) | (simp at *; omega)))) | (with_reducible refine Below.drew ?_) | (with_reducible refine below_drewN ?_ _) | ((with_reducible refine Below.trans ?_ (Below.mono (by with_reducible assumption) ?hsz)); (case hsz => (first | omega | (simp; done) | (simp; omega) | (simp at *; omega))))))))).mono ?_
  rintro e w1 ⟨z, ps, u, xs, t, i, j, rfl, hp, hx, hb1, hl8, hz1, hz6⟩
  have hBw1 : Below w.heap.size w w1 := by (repeat (first | (with_reducible assumption) | (with_reducible exact Below.refl _ _) | ((with_reducible refine Below.alloc ?_ ?hsz _); (case hsz => (first | omega | (simp; done) | (simp; omega) | (simp at *; omega)))) | ((with_reducible refine Below.setCell ?_ ?hsz _); (case hsz => (first | omega | (simp; done) | (simp; omega) | (simp at *; omega)))) | (with_reducible refine Below.drew ?_) | (with_reducible refine below_drewN ?_ _) | ((with_reducible refine Below.trans ?_ (Below.mono (by with_reducible assumption) ?hsz)); (case hsz => (first | omega | (simp; done) | (simp; omega) | (simp at *; omega))))))
  clear h hc1 hc2 hbig
  obtain ⟨A1, c1, rfl, hk1, hk2, hsm, -⟩ := hp.form
  unfold maxLen at hk2
  have bx1 : Box2 (w1.alloc (.cells #[.int .i64 z, .slice A1 ps.length c1] 25)) w1.heap.size (.int .i64 z) (.slice A1 ps.length c1) := Box2.new _ _ _ _
  have hB1 : Below w1.heap.size w1 (w1.alloc (.cells #[.int .i64 z, .slice A1 ps.length c1] 25)) := by (repeat (first | (with_reducible assumption) | (with_reducible exact Below.refl _ _) | ((with_reducible refine Below.alloc ?_ ?hsz _); (case hsz => (first | omega | (simp; done) | (simp; omega) | (simp at *; omega)))) | ((with_reducible refine Below.setCell ?_ ?hsz _); (case hsz => (first | omega | (simp; done) | (simp; omega) | (simp at *; omega)))) | (with_reducible refine Below.drew ?_) | (with_reducible refine below_drewN ?_ _) | ((with_reducible refine Below.trans ?_ (Below.mono (by with_reducible assumption) ?hsz)); (case hsz => (first | omega | (simp; done) | (simp; omega) | (simp at *; omega))))))
  obtain ⟨AX, cX, rfl, xk1, xk2, xk3, -⟩ := hx.form
  unfold maxLen at xk2
  obtain ⟨i0, hi0, hz0, hz1', hz2'⟩ := info_parts int_info
  go_wp2_with fail
  with_reducible refine (parts_ex z i j _ _ ps xs _ _ _ (hp.keep hB1) (hx.keep hB1)).mono ?_
  rintro e w2 ⟨r2, rfl, -, hnn⟩
  have bx2 := bx1.keep hnn
  have hB2 : Below w1.heap.size w1 w2 := by (repeat (first | (with_reducible assumption) | (with_reducible exact Below.refl _ _) | ((with_reducible refine Below.alloc ?_ ?hsz _); (case hsz => (first | omega | (simp; done) | (simp; omega) | (simp at *; omega)))) | ((with_reducible refine Below.setCell ?_ ?hsz _); (case hsz => (first | omega | (simp; done) | (simp; omega) | (simp at *; omega)))) | (with_reducible refine Below.drew ?_) | (with_reducible refine below_drewN ?_ _) | ((with_reducible refine Below.trans ?_ (Below.mono (by with_reducible assumption) ?hsz)); (case hsz => (first | omega | (simp; done) | (simp; omega) | (simp at *; omega))))))
  clear hnn
  obtain ⟨bs, d0, d1, g0, g1⟩ := id bx2
  obtain ⟨E, hE⟩ : ∃ E, E = excAt z ps xs j := ⟨_, rfl⟩
  have X := excessAt_any j z _ _ ps xs _ _ _ (hp.keep hB2) (hx.keep hB2)
  rw [← hE] at X
  have HE := Lib.hid hE
  clear hE
  obtain ⟨e1, told⟩ := E
  go_wp2_with fail
  with_reducible refine (X).mono ?_
  rintro e w3 ⟨rfl, hnn⟩
  have bx3 := (bx2).keep hnn
  have hB3 : Below w1.heap.size w1 w3 := by (repeat (first | (with_reducible assumption) | (with_reducible exact Below.refl _ _) | ((with_reducible refine Below.alloc ?_ ?hsz _); (case hsz => (first | omega | (simp; done) | (simp; omega) | (simp at *; omega)))) | ((with_reducible refine Below.setCell ?_ ?hsz _); (case hsz => (first | omega | (simp; done) | (simp; omega) | (simp at *; omega)))) | (with_reducible refine Below.drew ?_) | (with_reducible refine below_drewN ?_ _) | ((with_reducible refine Below.trans ?_ (Below.mono (by with_reducible assumption) ?hsz)); (case hsz => (first | omega | (simp; done) | (simp; omega) | (simp at *; omega))))))
  clear hnn
  (try clear d0 d1 g0 g1)
  obtain ⟨bs, d0, d1, g0, g1⟩ := id bx3
  clear X
  go_wp2_with fail
  with_reducible refine (withPipe_any z _ ps ⟨j, i, 0, 1, 0⟩ _ _ (hp.keep hB3) (by omega)).mono ?_
  rintro e w4 ⟨s4, rfl, hq4, hnn⟩
  have bx4 := bx3.keep hnn
  have hB4 : Below w1.heap.size w1 w4 := by (repeat (first | (with_reducible assumption) | (with_reducible exact Below.refl _ _) | ((with_reducible refine Below.alloc ?_ ?hsz _); (case hsz => (first | omega | (simp; done) | (simp; omega) | (simp at *; omega)))) | ((with_reducible refine Below.setCell ?_ ?hsz _); (case hsz => (first | omega | (simp; done) | (simp; omega) | (simp at *; omega)))) | (with_reducible refine Below.drew ?_) | (with_reducible refine below_drewN ?_ _) | ((with_reducible refine Below.trans ?_ (Below.mono (by with_reducible assumption) ?hsz)); (case hsz => (first | omega | (simp; done) | (simp; omega) | (simp at *; omega))))))
  clear hnn d0 d1 g0 g1
  obtain ⟨zz, hzz⟩ : ∃ zz, zz = withN z ps ⟨j, i, 0, 1, 0⟩ := ⟨_, rfl⟩
  obtain ⟨qs, hqs⟩ : ∃ qs, qs = withL z ps ⟨j, i, 0, 1, 0⟩ := ⟨_, rfl⟩
  obtain ⟨wb, hwb⟩ : ∃ wb, wb = withB z ps ⟨j, i, 0, 1, 0⟩ := ⟨_, rfl⟩
  obtain ⟨ok, hok⟩ : ∃ ok, ok = partsOkB z ps xs i j := ⟨_, rfl⟩
  have hqn : qs.length ≤ 9 := by have := withL_len z ps ⟨j, i, 0, 1, 0⟩; rw [hqs]; omega
  rw [← hzz, ← hwb, ← hok]
  rw [← hqs] at hq4
  have HZ := Lib.hid hzz
  have HQ := Lib.hid hqs
  have HWB := Lib.hid hwb
  have HOK := Lib.hid hok
  clear hzz hqs hwb hok
  obtain ⟨A4, c4, rfl, hk4, hk4', hsm4, -⟩ := hq4.form
  unfold maxLen at hk4'
  obtain ⟨w5, hw5⟩ : ∃ w5, w5 = w4.alloc (.cells #[.int .i64 zz, .slice A4 qs.length c4] 25) := ⟨_, rfl⟩
  have nb5 : Box2 w5 w4.heap.size (.int .i64 zz) (.slice A4 qs.length c4) := by rw [hw5]; exact Box2.new _ _ _ _
  have bx5 : Box2 w5 w1.heap.size (.int .i64 z) (.slice A1 ps.length c1) := by rw [hw5]; exact bx4.keep ((Below.refl _ _).alloc (Nat.le_refl _) _)
  have hB5 : Below w1.heap.size w1 w5 := by rw [hw5]; exact hB4.alloc hB4.size _
  have hq5 : Pipes w5 w3.heap.size (.slice A4 qs.length c4) qs := by rw [hw5]; exact hq4.alloc' _
  have hB4z := hB4.size
  have hcase : (ok = false ∨ (ok = true ∧ wb = false) ∨ (ok = true ∧ wb = true ∧ 40 < e1)) ∨ (ok = true ∧ wb = true ∧ ¬ 40 < e1) := by
    cases ok <;> cases wb <;> simp
    omega
  rcases hcase with hcase | ⟨rfl, rfl, he40⟩
  · rcases hcase with rfl | ⟨rfl, rfl⟩ | ⟨rfl, rfl, he⟩
    · go_wp2_with fail
      rw [← hw5]
      with_reducible refine (alive_any _).mono ?_
      rintro e w6 ⟨rfl, hnn⟩
      have hB6 : Below w1.heap.size w1 w6 := hB5.trans (hnn.mono hB5.size)
      go_wp2
      (go_ret; exact ⟨rfl, hBw1.trans (Below.mono (by with_reducible assumption) hBw1.size)⟩)
    · go_wp2_with fail
      rw [← hw5]
      with_reducible refine (alive_any _).mono ?_
      rintro e w6 ⟨rfl, hnn⟩
      have hB6 : Below w1.heap.size w1 w6 := hB5.trans (hnn.mono hB5.size)
      go_wp2
      (go_ret; exact ⟨rfl, hBw1.trans (Below.mono (by with_reducible assumption) hBw1.size)⟩)
    · have hd : decide (40 < e1) = true := decide_eq_true he
      go_wp2_with fail
      rw [← hw5]
      with_reducible refine (alive_any _).mono ?_
      rintro e w6 ⟨rfl, hnn⟩
      have hB6 : Below w1.heap.size w1 w6 := hB5.trans (hnn.mono hB5.size)
      go_wp2
      (go_ret; exact ⟨rfl, hBw1.trans (Below.mono (by with_reducible assumption) hBw1.size)⟩)
  · have hd : decide (40 < e1) = false := decide_eq_false he40
    have hwy := with_yes HWB.out.symm
    obtain ⟨q1, q2, q3, q4, q5, q6⟩ := close_all HOK.out.symm HWB.out.symm (by rw [← HE.out]; omega)
    have hee := HE.out
    rw [q1] at hee
    injection hee with hee1 hee2
    subst hee2
    rw [← hee1] at q3 q4 q5 q6
    have hzz := HZ.out
    rw [hwy.1] at hzz
    rw [hzz] at hw5 nb5 ⊢
    clear hzz
    have hqs := HQ.out
    rw [hwy.2] at hqs
    rw [← hqs] at q3 q4 q5 q6
    (try clear HE); (try clear HZ); (try clear HQ); (try clear HWB); (try clear HOK); (try clear hwy); (try clear hqs); (try clear hee1); (try clear q1)
    have hlit : (w5.alloc (.cells #[] 3)).ownsRow w5.heap.size 3 1 (.slice (some ⟨w5.heap.size, 0, none⟩) 0 0) 0 [] := World.ownsRow_lit (e := 3) (base := w5.heap.size) (size := 1) w5 #[] 0 (Nat.le_refl _) (by simp [maxLen]) rfl
    have hsrc : SrcOk (w5.alloc (.cells #[] 3)) 1 (.slice AX xs.length cX) xs.length (xs.map (Value.int .i64)) := ((hx.keep hB5).keep ((Below.refl _ _).alloc (Nat.le_refl _) _)).src
    have hBz5 := hB5.size
    go_upto_region 9 with fail
    rw [← hw5]
    clear hw5
    go_wp2_with (first
      | (at_builtin
         refine wpList_append_src rfl _ _ 26 rfl w5.heap.size 3 i0 _ 1 8 Try.underlying26 hi0 hz0 hz1' hz2' rfl (by omega) _ _ 0 xs.length [] _ rfl rfl hlit hsrc (by unfold maxLen; omega) (by omega) (by simp) ?_
         intro r7 w7 hown7 hgr7 hat7
         have hb7 : Below w5.heap.size w5 w7 := Below.grown (w := w5.alloc (.cells #[] 3)) (by (repeat (first | (with_reducible assumption) | (with_reducible exact Below.refl _ _) | ((with_reducible refine Below.alloc ?_ ?hsz _); (case hsz => (first | omega | (simp; done) | (simp; omega) | (simp at *; omega)))) | ((with_reducible refine Below.setCell ?_ ?hsz _); (case hsz => (first | omega | (simp; done) | (simp; omega) | (simp at *; omega)))) | (with_reducible refine Below.drew ?_) | (with_reducible refine below_drewN ?_ _) | ((with_reducible refine Below.trans ?_ (Below.mono (by with_reducible assumption) ?hsz)); (case hsz => (first | omega | (simp; done) | (simp; omega) | (simp at *; omega))))))) hgr7 (by (first | omega | (simp; done) | (simp; omega) | (simp at *; omega))) (fun q hq => by
           have hq' : w5.heap.size = q := by injection hq
           omega)
         rw [Nat.zero_add, List.nil_append] at hown7)
      | (at_builtin
         refine wpList_append_src rfl _ _ 26 rfl w5.heap.size 3 i0 _ 1 8 Try.underlying26 hi0 hz0 hz1' hz2' rfl (by omega) _ _ xs.length 1 _ _ rfl rfl (hown7.alloc _) (lit_src (heap_alloc_new _ _) rfl (by simp [Value.oneCell'])) (by unfold maxLen; omega) (by omega) (by have := hb7.size; simp; omega) ?_
         intro r8 w8 hown8 hgr8 hat8
         have hb8 : Below w5.heap.size w5 w8 := Below.grown (w := w7.alloc (.cells #[.int .i64 e1] 3)) (hb7.alloc hb7.size _) hgr8 (by have := hb7.size; simp; omega) (fun q hq => (hown7.lt q hq).1)
         have hy8 : Ints w8 w5.heap.size r8 (xs ++ [e1]) := ints_snoc (by simpa using hown8) (by unfold small; omega)
         have nb8 := nb5.keep hb8
         obtain ⟨bs8, d0, d1, g0, g1⟩ := id nb8))
    have hylen : (xs ++ [e1]).length = xs.length + 1 := by simp
    have hq8 := hq5.keep hb8
    have hB8 : Below w1.heap.size w1 w8 := hB5.trans (hb8.mono hB5.size)
    clear hown7 hown8 hgr8 hat8 hgr7 hat7 hb7 hb8 nb5 hq5 bx5 hB5 hlit hsrc
    generalize xs ++ [e1] = ys at *
    have HYL := Lib.hid hylen
    clear hylen
    obtain ⟨A8, c8, rfl, yk1, yk2, yk3, -⟩ := hy8.form
    unfold maxLen at yk2
    have heach := ringsR_each (n := z) (ps := qs) (xs := ys)
    have hfew := ringsR_few (n := z) (ps := qs) (xs := ys)
    with_reducible refine (rings_ex z _ _ qs ys _ _ _ hq8 hy8).mono ?_
    rintro e w9 ⟨r9, rfl, hR9, hnn⟩
    have nb9 := nb8.keep hnn
    have hq9 := hq8.keep hnn
    have hy9 := hy8.keep hnn
    have hB9 : Below w1.heap.size w1 w9 := hB8.trans (hnn.mono hB8.size)
    have hRB := hR9.toB
    clear d0 d1 g0 g1 hR9 nb8 hq8 hy8 hB8 hnn
    obtain ⟨bs, d0, d1, g0, g1⟩ := id nb9
    generalize ringsR z qs ys = LS at *
    obtain ⟨A9, c9, rfl, ra1, ra2, ra3, -⟩ := hRB.form
    unfold maxLen at ra2
    obtain ⟨N, hN⟩ : ∃ N, LS.length = N := ⟨_, rfl⟩
    have HN := Lib.hid hN
    have HS := Lib.hid (fun k : Nat => sumM_bd (m := xs.length) (Ls := LS.take k) (fun L hL => by obtain ⟨d, l, rfl, d1, d2⟩ := q4 L (List.mem_of_mem_take hL); exact ⟨by simp; omega, by simp; omega⟩))
    have HW := Lib.hid (And.intro q4 heach)
    have HQ := Lib.hid (And.intro q5 (And.intro q6 q3))
    have hN8 : N ≤ 8 := by omega
    (try rw [hN] at hRB); (try rw [hN] at ra1); (try rw [hN] at ra3)
    rw [hN]
    clear hN q4 q5 q6 q3 heach hfew
    go_wp2
    go_loopw [15, 16] (fun s t wr => ∃ k : Nat, k ≤ N ∧ t = .int .i64 k ∧ s = .int .i64 (sumMK xs.length LS k) ∧ Box2 wr w4.heap.size (.int .i64 z) (.slice A4 qs.length c4) ∧ Below w1.heap.size w1 wr ∧ Below w9.heap.size w9 wr) (fun _ t _ => N - (intOf t).toNat)
    case atStart => exact ⟨0, by omega, rfl, by simp [sumMK, sumM], nb9, hB9, Below.refl _ _⟩
    case round =>
      obtain ⟨k, hk, rfl, rfl, bx, hB, hb⟩ := hrel
      clear d0 d1 g0 g1
      obtain ⟨bs, d0, d1, g0, g1⟩ := id bx
      by_cases hlt : k < N
      · obtain ⟨wo, hwo⟩ : ∃ wo : World, wo = wr := ⟨_, rfl⟩
        subst hwo
        have hkl : k < LS.length := by rw [HN.out]; exact hlt
        obtain ⟨A2', c2', hv2, -, -, -, f2⟩ := (hRB.keep hb).form
        obtain ⟨ga, va, ea, -, ga2, ca, ia⟩ := f2 wo (Below.refl _ _) k hkl
        injection hv2 with x1 x2 x3
        rw [← x1] at ea
        subst ea
        obtain ⟨l2, l7⟩ := HW.out.2 _ (List.getElem_mem hkl)
        obtain ⟨d, l, hL, hd1, hd40⟩ := HW.out.1 _ (List.getElem_mem hkl)
        have hsn := sumM_snoc (m := xs.length) hkl
        obtain ⟨S, hS⟩ : ∃ S, sumMK xs.length LS k = S := ⟨_, rfl⟩
        have hSb := HS.out k
        rw [show sumM xs.length (LS.take k) = S from hS] at hsn hSb
        have hSl : ((LS.take k).length : Int) ≤ 18 := by rw [List.length_take]; omega
        have hS0 : 0 ≤ S := hSb.1
        have hS1 : S ≤ 720 := by have := hSb.2; omega
        obtain ⟨L, hLL⟩ : ∃ L, LS[k] = L := ⟨_, rfl⟩
        rw [hLL] at ia l2 l7 hL hsn
        obtain ⟨M, hM⟩ : ∃ M, L.length = M := ⟨_, rfl⟩
        rw [hM] at l2 l7
        obtain ⟨gv, cv, ev, hRv⟩ := ia.row (by rw [hM]; omega)
        rw [hM] at ev hRv
        subst ev
        obtain ⟨og1, og2⟩ := hRv.lt
        obtain ⟨oc1, oc2⟩ := hRv.capd
        unfold maxLen at oc2
        have cd := (hRv.at' 0 (by omega)).1
        have hd0 : L.getD 0 0 = d := by rw [hL]; rfl
        rw [hd0] at cd hsn
        have hdrop : L.drop 1 = natsI l := by rw [hL]; rfl
        have htail := ia.tail hM (by omega)
        rw [hdrop] at htail hsn
        obtain ⟨tb, htb⟩ : ∃ tb, decide ((xs.length : Int) ∈ natsI l) = tb := ⟨_, rfl⟩
        have Hsn : Hid (sumMK xs.length LS (k + 1) = S + if tb = true then d else 0) := Lib.hid (by
          rw [← htb]
          simp only [decide_eq_true_eq]
          exact hsn)
        have X := hasInt_rd _ (natsI l) (xs.length : Int) _ htail
        rw [htb] at X
        have hM2 : decide (1 < (M : Int)) = true := decide_eq_true (by omega)
        have hcv : cv ≠ 1 := by omega
        have hM1 : (1 : Int) ≤ (M : Int) := by omega
        have hM3 : (0 : Int) < (M : Int) := by omega
        have hM4 : 1 ≤ M := by omega
        rw [hS]
        clear hsn htb hL hLL hM hdrop htail ia hRv hd0 x1 x2 x3 f2 l2 l7 hSb hSl hS
        go_wp2_with fail
        with_reducible refine X.mono ?_
        clear X
        rintro e w10 ⟨rfl, hnn⟩
        have bx4 := bx.keep hnn
        have hB4 : Below w1.heap.size w1 w10 := hB.trans (hnn.mono hB.size)
        have hb4 : Below w9.heap.size w9 w10 := hb.trans (hnn.mono hb.size)
        have ca4 := (bel_cell hnn ga2).trans ca
        have cd4 := (bel_cell hnn og2).trans cd
        clear hnn ca cd d0 d1 g0 g1 bx
        cases tb with
        | true =>
          go_wp2
          go_roundw
          case rel => exact ⟨k + 1, by omega, by go_num, by rw [Hsn.out]; rfl, bx4, hB4, hb4⟩
          case measure => first | (simp [intOf]; done) | (simp [intOf]; omega)
        | false =>
          go_wp2
          go_roundw
          case rel => exact ⟨k + 1, by omega, by go_num, by rw [Hsn.out]; simp, bx4, hB4, hb4⟩
          case measure => first | (simp [intOf]; done) | (simp [intOf]; omega)
      · have hkN : N = k := by omega
        subst hkN
        clear hlt hk
        have hsum : sumMK xs.length LS N = e1 := by
          rw [sumMK, List.take_of_length_le (by rw [HN.out]; exact Nat.le_refl _)]
          exact HQ.out.2.1
        rw [hsum]
        clear hsum
        go_wp2_with fail
        with_reducible refine (alive_any _).mono ?_
        rintro e w10 ⟨rfl, hnn⟩
        have nb10 := bx.keep hnn
        have hB10 : Below w1.heap.size w1 w10 := hB.trans (hnn.mono hB.size)
        have hb10 : Below w9.heap.size w9 w10 := hb.trans (hnn.mono hb.size)
        clear hnn d0 d1 g0 g1 bx hB hb
        obtain ⟨bs, d0, d1, g0, g1⟩ := id nb10
        go_wp2_with fail
        with_reducible refine (balancedOk_any z _ _ qs ys _ _ _ (hq9.keep hb10) (hy9.keep hb10)).mono ?_
        rintro e w11 ⟨rfl, hnn⟩
        rw [HQ.out.2.2]
        have hB11 : Below w1.heap.size w1 w11 := hB10.trans (hnn.mono hB10.size)
        have hb11 : Below w9.heap.size w9 w11 := hb10.trans (hnn.mono hb10.size)
        clear hnn d0 d1 g0 g1 nb10 hB10 hb10
        have HT : Hid (takenL ys.length LS = ys) := Lib.hid (by rw [HYL.out]; exact HQ.out.1)
        obtain ⟨Y, hY⟩ : ∃ Y, ys.length = Y := ⟨_, rfl⟩
        have hY8 : Y ≤ 8 := by have := HYL.out; omega
        rw [hY] at HT yk1 yk3 hy9 ⊢
        clear hY
        go_wp2_with fail
        with_reducible refine (taken_any Y _ _ LS _ ((hRB.keep hb11).rowsI) hY8).mono ?_
        rintro e w12 ⟨r12, rfl, hr12, hnn⟩
        rw [HT.out] at hr12
        have hB12 : Below w1.heap.size w1 w12 := hB11.trans (hnn.mono hB11.size)
        have hb12 : Below w9.heap.size w9 w12 := hb11.trans (hnn.mono hb11.size)
        clear hnn
        go_wp2_with fail
        with_reducible refine (sameInts_any _ _ ys ys _ _ _ hr12 (hy9.keep hb12)).mono ?_
        rintro e w13 ⟨rfl, hnn⟩
        have hB13 : Below w1.heap.size w1 w13 := hB12.trans (hnn.mono hB12.size)
        rw [show decide (ys = ys) = true from by simp]
        clear hnn hB12 hB11 hb12 hb11
        go_wp2
        (go_ret; exact ⟨rfl, hBw1.trans (Below.mono (by with_reducible assumption) hBw1.size)⟩)

set_option maxRecDepth 100000 in
theorem contract (H : Type) (enc : TypeId × Value → H) (W : World) (base : Nat) (args : Array Value) (ds gs : List (DataW H)) (before : List MemPlace)
    (hval : ∀ (j : Nat) t v, Try.f7.params[j]? = some t → args[j]? = some v → Value.okWide Try.prog W .any base t v)
    (hW : DataW.Whole enc Try.prog Try.f7.params.toList Rows.fnThreadsCloseSpec.vars false W args.toList ds gs before) :
    Calls Try.prog 7 args W fun e W' => ∃ v, e = .returned v ∧ Rows.fnThreadsCloseSpec.post enc Try.prog Try.f7 false true false false W args v W' := by
  have hW' := hW
  obtain ⟨p, q, hA0, hV, rfl, hfz, hnd⟩ := hW
  have hA : DataW.TrodAll enc Try.prog W 0 (fun _ => true) true Try.f7.params.toList args.toList ds p := hA0
  rw [Try.params7] at hA hval
  obtain ⟨u0, us0, d0, ds0, p0, q0, hargs, rfl, rfl, g0, k0⟩ := trodAll_cons hA
  obtain ⟨rfl, rfl, rfl⟩ := trodAll_nil k0
  obtain rfl : args = #[u0] := by cases args; simp_all
  obtain ⟨rfl, rfl⟩ := trodVars_none hV
  obtain ⟨m0, e0⟩ := g0
  obtain ⟨s0, l0, f0, hh0⟩ := open_arg_bytes e0
  have f0' := one_of_cells Try.underlying22 (hval 0 _ _ rfl rfl) f0
  subst f0'
  refine (walk _ l0 W hh0).mono fun e W' ⟨he, hb⟩ => ?_
  subst he
  exact ⟨_, rfl, law_post Try.kids Try.full (by rw [Try.params7]; decide) rfl rfl Try.underlying4 hW' rfl rfl rfl hb⟩

set_option maxRecDepth 100000 in
theorem lifted (os : Os) (started : os.Started) (H : Type) (enc : TypeId × Value → H) :
    ReturnsInHanded {} Try.checked os 7 .any (Rows.fnThreadsCloseSpec.pre6 enc Try.prog Try.f7 Rows.fnThreadsCloseRow.domain false) (Rows.fnThreadsCloseSpec.post enc Try.prog Try.f7 false true false false) := by
  refine returnsInHanded_of_change (C := Try.checked) Try.own started (by kernel_rfl) Try.func7
    (ChangeSpec.witness6 (enc := enc) (C := Try.checked) false ⟨#[], #[.slice none 0 0], []⟩ 8 (by kernel_rfl) (by kernel_rfl) (by kernel_rfl) (by kernel_rfl)) ?_
  intro W base args ds gs before hval0 hW _ _
  exact contract H enc W base args ds gs before hval0 hW

theorem proved : Rows.FnThreadsCloseSaid :=
  OpenClaim.holds_of_wide 7 Try.f7 rfl rfl rfl rfl rfl rfl rfl ⟨rfl, rfl, rfl, rfl, rfl⟩ rfl rfl rfl rfl rfl (by kernel_rfl) Try.func7 (by kernel_rfl)
    (of_decide_eq_true (by kernel_rfl)) (by unfold Func.isWrapper; first | (rw [if_pos (by decide +kernel)]; kernel_rfl) | (rw [if_neg (by decide +kernel)]; exact ⟨rfl, rfl⟩))
    (fun os started H enc _ => lifted os started H enc)

end Go.Proofs.Ytlaeckjfjleplaa.lawThreadsClose
