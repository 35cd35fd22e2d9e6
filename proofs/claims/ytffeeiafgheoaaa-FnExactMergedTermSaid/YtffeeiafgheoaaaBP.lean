/- Contracts of the functions of chapter 9 in the program: madeOne. -/
import Derived.Test.YtffeeiafgheoaaaBO
namespace Go.Proofs.Ytffeeiafgheoaaa
open Go.RowKit

/-- what the operations yield -/
def maV (B ga gb : Nat) (r1 r2 : Value) (h1 p1 h2 p2 H Q kd : Int) (ok : Bool) : Nat → Value → (Nat → Value) → World → Prop
  | 0, x, _, _ => x = .int .i64 kd
  | 1, x, _, _ => x = r1
  | 2, x, _, _ => x = .pointer (some ⟨ga, 0, none⟩)
  | 3, x, _, _ => x = .agg #[.int .i64 0, .int .i64 h1, .int .i64 p1]
  | 4, x, _, _ => x = r2
  | 5, x, _, _ => x = .pointer (some ⟨gb, 0, none⟩)
  | 6, x, _, _ => x = .agg #[.int .i64 0, .int .i64 h2, .int .i64 p2]
  | 7, x, _, _ => x = .tuple #[.agg #[.int .i64 0, .int .i64 H, .int .i64 Q], .bool ok]
  | 8, x, _, _ => x = .tuple #[.agg #[.int .i64 0, .int .i64 H, .int .i64 Q], .bool ok]
  | 9, x, _, _ => x = .agg #[.int .i64 0, .int .i64 H, .int .i64 Q]
  | 10, x, _, _ => x = .bool ok
  | 11, x, _, w => ∃ g x0 x1 x2, x = .pointer (some ⟨g, 0, none⟩) ∧ B ≤ g ∧ w.heap[g]? = some (.cells #[x0, x1, x2] 51 (0, 0))
  | 12, _, u, w => ∃ g, u 11 = .pointer (some ⟨g, 0, none⟩) ∧ B ≤ g ∧ w.heap[g]? = some (.cells #[.int .i64 0, .int .i64 H, .int .i64 Q] 51 (0, 0))
  | 13, x, _, _ => x = .bool ok
  | _, _, _, _ => True

set_option maxHeartbeats 8000000 in
set_option maxRecDepth 20000 in
theorem madeOne_any (s : Bool) (x y : Tm) (u v : Value) (b b' : Nat) (w : World) (hu : Marks w b u x.marks) (hv : Marks w b' v y.marks) (gx : x.good) (gy : y.good) (hl : x.marks.length + y.marks.length ≤ 90) :
    Calls Try.prog 57 #[.int .i64 (kindI s), u, v] w fun e w' => ∃ r, e = .returned r ∧ Marks w' w.heap.size r (mergeT s x y).marks ∧ Below w.heap.size w w' := by
  by_cases hone : x.marks.length = 1 ∧ y.marks.length = 1
  · obtain ⟨h1, p1, rfl⟩ := one_pipe hone.1
    obtain ⟨h2, p2, rfl⟩ := one_pipe hone.2
    have hg1 := gx
    have hg2 := gy
    clear hone hl
    simp only [Tm.marks] at hu hv
    obtain ⟨A1, c1, rfl, hk1, hk2, -, hc1⟩ := hu.form
    obtain ⟨A2, c2, rfl, hk3, hk4, -, hc2⟩ := hv.form
    obtain ⟨ga, rfl, -, hga, a0, a1, a2⟩ := hc1 w (Below.refl _ _) 0 (by simp)
    obtain ⟨gb, rfl, -, hgb, c0, c1', c2'⟩ := hc2 w (Below.refl _ _) 0 (by simp)
    unfold maxLen at hk2 hk4
    simp only [List.getElem_cons_zero, Nat.zero_mul, Nat.zero_add] at a0 a1 a2 c0 c1' c2'
    simp only [List.length_cons, List.length_nil, Nat.zero_add] at hu hv hk1 hk3 ⊢
    have HM1 := Lib.hid hu
    have HM2 := Lib.hid hv
    obtain ⟨H, hH⟩ : ∃ H, oneH s h1 h2 = H := ⟨_, rfl⟩
    obtain ⟨Q, hQ⟩ : ∃ Q, oneP s p1 p2 = Q := ⟨_, rfl⟩
    obtain ⟨ok, hok⟩ : ∃ x, oneB s h1 p1 h2 p2 = x := ⟨_, rfl⟩
    have HOQ := Lib.hid (And.intro hH (And.intro hQ hok))
    obtain ⟨kd, hkd⟩ : ∃ x, kindI s = x := ⟨_, rfl⟩
    have HKD := Lib.hid (show (Tm.two s (.pipe h1 p1) (.pipe h2 p2)).marks = [⟨0, h1, p1⟩] ++ [⟨0, h2, p2⟩] ++ [⟨kd, 0, 0⟩] by rw [← hkd]; rfl)
    have HK := Lib.hid hkd
    rw [hkd]
    have c1'' := c1'
    have c2'' := c2'
    clear hu hv hH hQ hok hkd hc1 hc2
    go_enter Try.func57, Try.ntmps57
    go_wp2_with fail
    refine wp_region_flow 14 none [(0, 18), (1, 19), (2, 20), (3, 21), (4, 22), (5, 23), (6, 24), (7, 25), (8, 17), (9, 26), (10, 27), (11, 7), (13, 8)] (fun j x u wx => maV w.heap.size ga gb (.slice (some ⟨ga, 0, none⟩) 1 c1) (.slice (some ⟨gb, 0, none⟩) 1 c2) h1 p1 h2 p2 H Q kd ok j x u wx) (fun i wx wy => if i = 12 then True else Below wx.heap.size wx wy) (fun _ wx => Below w.heap.size w wx) (by kernel_rfl) (by kernel_rfl) rfl ⟨rfl, rfl, rfl, Nat.le_refl _, fun _ _ => rfl⟩ ?_ ?_ ?_ ?_
    · intro i k hi hk hal x u wa wb hR hV
      have hk' : k < 14 := hk
      have hi' : i < 14 := hi
      by_cases ii : i = 12
      · subst ii
        rcases k with _ | _ | _ | _ | _ | _ | _ | _ | _ | _ | _ | _ | _ | _ | k
        all_goals first | exact hV | (exfalso; revert hal; decide) | (exfalso; omega)
      · have hbb : Below wa.heap.size wa wb := by simpa [ii] using hR
        rcases k with _ | _ | _ | _ | _ | _ | _ | _ | _ | _ | _ | _ | _ | _ | k
        all_goals first
          | exact hV
          | (exfalso; omega)
          | (obtain ⟨g, x0, x1, x2, h1, h2, h3⟩ := hV; exact ⟨g, x0, x1, x2, h1, h2, heap_keep h3 hbb⟩)
          | (obtain ⟨g, h1, h2, h3⟩ := hV; exact ⟨g, h1, h2, heap_keep h3 hbb⟩)
    · intro k hk x u u' wx h hV
      have hk' : k < 14 := hk
      rcases k with _ | _ | _ | _ | _ | _ | _ | _ | _ | _ | _ | _ | _ | _ | k
      all_goals first | exact hV | (exfalso; omega) | skip
      obtain ⟨g, h1, h2⟩ := hV
      exact ⟨g, (h 11 (by decide)).symm.trans h1, h2⟩
    · simp (maxSteps := 4000000) only [eachOp, fillF, List.setIfInBounds_toArray, List.set_cons_succ, List.set_cons_zero]
      refine ⟨?_, ?_, ?_, ?_, ?_, ?_, ?_, ?_, ?_, ?_, ?_, ?_, ?_, ?_, trivial⟩ <;> intro u f wx hC hd <;> (try simp [allV, useOf, Region.binds] at hd)
      · have hBz := hC.size
        go_wp2
        exact ⟨_, rfl, rfl, Below.refl _ _, hC⟩
      · have hBz := hC.size
        go_wp2
        exact ⟨_, rfl, rfl, Below.refl _ _, hC⟩
      · rw [show u 1 = _ from (by first | exact hd | exact hd.1 | exact hd.2 | exact hd.2.1 | exact hd.2.2 | exact hd.2.2.1 | exact hd.2.2.2 | exact hd.2.2.2.1 | exact hd.2.2.2.2)]
        have hBz := hC.size
        go_wp2
        exact ⟨_, rfl, rfl, Below.refl _ _, hC⟩
      · rw [show u 2 = _ from (by first | exact hd | exact hd.1 | exact hd.2 | exact hd.2.1 | exact hd.2.2 | exact hd.2.2.1 | exact hd.2.2.2 | exact hd.2.2.2.1 | exact hd.2.2.2.2)]
        have hBz := hC.size
        have e0 := (hC.cell (p := ⟨ga, 0, none⟩) hga).trans a0
        have e1 := (hC.cell (p := ⟨ga, 1, none⟩) hga).trans a1
        have e2 := (hC.cell (p := ⟨ga, 2, none⟩) hga).trans a2
        go_wp2
        exact ⟨_, rfl, rfl, Below.refl _ _, hC⟩
      · have hBz := hC.size
        go_wp2
        exact ⟨_, rfl, rfl, Below.refl _ _, hC⟩
      · rw [show u 4 = _ from (by first | exact hd | exact hd.1 | exact hd.2 | exact hd.2.1 | exact hd.2.2 | exact hd.2.2.1 | exact hd.2.2.2 | exact hd.2.2.2.1 | exact hd.2.2.2.2)]
        have hBz := hC.size
        go_wp2
        exact ⟨_, rfl, rfl, Below.refl _ _, hC⟩
      · rw [show u 5 = _ from (by first | exact hd | exact hd.1 | exact hd.2 | exact hd.2.1 | exact hd.2.2 | exact hd.2.2.1 | exact hd.2.2.2 | exact hd.2.2.2.1 | exact hd.2.2.2.2)]
        have hBz := hC.size
        have e0 := (hC.cell (p := ⟨gb, 0, none⟩) hgb).trans c0
        have e1 := (hC.cell (p := ⟨gb, 1, none⟩) hgb).trans c1''
        have e2 := (hC.cell (p := ⟨gb, 2, none⟩) hgb).trans c2''
        go_wp2
        exact ⟨_, rfl, rfl, Below.refl _ _, hC⟩
      · rw [show u 0 = _ from (by first | exact hd | exact hd.1 | exact hd.2 | exact hd.2.1 | exact hd.2.2 | exact hd.2.2.1 | exact hd.2.2.2 | exact hd.2.2.2.1 | exact hd.2.2.2.2), show u 3 = _ from (by first | exact hd | exact hd.1 | exact hd.2 | exact hd.2.1 | exact hd.2.2 | exact hd.2.2.1 | exact hd.2.2.2 | exact hd.2.2.2.1 | exact hd.2.2.2.2), show u 6 = _ from (by first | exact hd | exact hd.1 | exact hd.2 | exact hd.2.1 | exact hd.2.2 | exact hd.2.2.1 | exact hd.2.2.2 | exact hd.2.2.2.1 | exact hd.2.2.2.2)]
        have hBz := hC.size
        go_wp2_with fail
        have hop := onePipe_any s 0 h1 p1 0 h2 p2 wx hg1 hg2
        rw [HK.out] at hop
        with_reducible refine hop.mono ?_
        clear hop
        rintro e wy ⟨rfl, hby⟩
        rw [HOQ.out.1, HOQ.out.2.1, HOQ.out.2.2]
        go_wp2
        exact ⟨_, rfl, rfl, hby, hC.trans (hby.mono hBz)⟩
      · rw [show u 7 = _ from (by first | exact hd | exact hd.1 | exact hd.2 | exact hd.2.1 | exact hd.2.2 | exact hd.2.2.1 | exact hd.2.2.2 | exact hd.2.2.2.1 | exact hd.2.2.2.2)]
        have hBz := hC.size
        go_wp2
        exact ⟨_, rfl, rfl, Below.refl _ _, hC⟩
      · rw [show u 8 = _ from (by first | exact hd | exact hd.1 | exact hd.2 | exact hd.2.1 | exact hd.2.2 | exact hd.2.2.1 | exact hd.2.2.2 | exact hd.2.2.2.1 | exact hd.2.2.2.2)]
        have hBz := hC.size
        go_wp2
        exact ⟨_, rfl, rfl, Below.refl _ _, hC⟩
      · rw [show u 8 = _ from (by first | exact hd | exact hd.1 | exact hd.2 | exact hd.2.1 | exact hd.2.2 | exact hd.2.2.1 | exact hd.2.2.2 | exact hd.2.2.2.1 | exact hd.2.2.2.2)]
        have hBz := hC.size
        go_wp2
        exact ⟨_, rfl, rfl, Below.refl _ _, hC⟩
      · have hBz := hC.size
        go_wp2
        exact ⟨_, rfl, ⟨_, _, _, _, rfl, hBz, heap_alloc_new _ _⟩, (Below.refl _ _).alloc (Nat.le_refl _) _, hC.alloc hBz _⟩
      · rw [show u 9 = _ from (by first | exact hd | exact hd.1 | exact hd.2 | exact hd.2.1 | exact hd.2.2 | exact hd.2.2.1 | exact hd.2.2.2 | exact hd.2.2.2.1 | exact hd.2.2.2.2)]
        have hBz := hC.size
        obtain ⟨g, x0, x1, x2, h11, hBg, hh⟩ : ∃ g x0 x1 x2, u 11 = .pointer (some ⟨g, 0, none⟩) ∧ w.heap.size ≤ g ∧ wx.heap[g]? = some (.cells #[x0, x1, x2] 51 (0, 0)) := (by first | exact hd.1 | exact hd.2 | exact hd.2.1)
        rw [h11]
        have k0 := heap_cell (j := 0) hh rfl
        have k1 := heap_cell (j := 1) hh rfl
        have k2 := heap_cell (j := 2) hh rfl
        have z0 := heap_frozen (j := 0) hh
        have z1 := heap_frozen (j := 1) hh
        have z2 := heap_frozen (j := 2) hh
        have hgl := heap_lt hh
        have hfin := heap_set (j := 2) (.int .i64 Q) (heap_set (j := 1) (.int .i64 H) (heap_set (j := 0) (.int .i64 0) hh))
        go_wp2
        exact ⟨undef, rfl, ⟨g, h11, hBg, by simpa using hfin⟩, (if_pos rfl ▸ trivial : (if (12 : Nat) = 12 then True else _)), ((hC.setCell (p := ⟨g, 0, none⟩) hBg _).setCell (p := ⟨g, 1, none⟩) hBg _).setCell (p := ⟨g, 2, none⟩) hBg _⟩
      · rw [show u 10 = _ from (by first | exact hd | exact hd.1 | exact hd.2 | exact hd.2.1 | exact hd.2.2 | exact hd.2.2.1 | exact hd.2.2.2 | exact hd.2.2.2.1 | exact hd.2.2.2.2)]
        have hBz := hC.size
        go_wp2
        exact ⟨_, rfl, rfl, Below.refl _ _, hC⟩
    · intro u f wx hC hfin
      simp only [fillEnd, fillF, Act.put, List.setIfInBounds_toArray, List.set_cons_succ, List.set_cons_zero]
      obtain ⟨g, h11, hBg, hh⟩ : ∃ g, u 11 = .pointer (some ⟨g, 0, none⟩) ∧ w.heap.size ≤ g ∧ wx.heap[g]? = some (.cells #[.int .i64 0, .int .i64 H, .int .i64 Q] 51 (0, 0)) := hfin 12 (by decide) (by decide)
      have h13 : u 13 = .bool ok := hfin 13 (by decide) (by decide)
      rw [h11, h13]
      clear hfin
      have k0 := heap_cell (j := 0) hh rfl
      have k1 := heap_cell (j := 1) hh rfl
      have k2 := heap_cell (j := 2) hh rfl
      have hgl := heap_lt hh
      clear hh
      cases ok with
      | true =>
        have hfin : Marks (wx.alloc (.cells #[.int .i64 0, .int .i64 H, .int .i64 Q] 51)) w.heap.size (.slice (some ⟨wx.heap.size, 0, none⟩) 1 1) [⟨0, H, Q⟩] := ⟨World.ownsRow_lit (e := 51) (base := w.heap.size) (size := 3) wx #[.int .i64 0, .int .i64 H, .int .i64 Q] 1 hC.size (by simp [maxLen]) rfl, by simp [small]⟩
        have hr : mergeT s (.pipe h1 p1) (.pipe h2 p2) = .pipe H Q := by simp only [mergeT]; rw [if_pos HOQ.out.2.2, HOQ.out.1, HOQ.out.2.1]
        have HR := Lib.hid hr
        clear hr
        go_wp2_with fail
        go_ret
        exact ⟨_, rfl, by rw [HR.out]; exact hfin, hC.alloc hC.size _⟩
      | false =>
        have hr : mergeT s (.pipe h1 p1) (.pipe h2 p2) = .two s (.pipe h1 p1) (.pipe h2 p2) := by simp only [mergeT]; rw [if_neg (by rw [HOQ.out.2.2]; simp)]
        have HR := Lib.hid hr
        clear hr k0 k1 k2
        go_wp2_with fail
        refine (together_any kd _ _ _ _ b b' _ (HM1.out.keep hC) (HM2.out.keep hC) (by simp)).mono ?_
        rintro e wy ⟨r, rfl, hr, hby⟩
        have hBz := hC.size
        have hfin : Marks wy w.heap.size r (mergeT s (.pipe h1 p1) (.pipe h2 p2)).marks := by rw [HR.out, HKD.out]; exact hr.mono hBz
        have hbF : Below w.heap.size w wy := hC.trans (hby.mono hBz)
        clear hr hby
        go_wp2_with fail
        go_ret
        exact ⟨_, rfl, hfin, hbF⟩
  · obtain ⟨A1, c1, rfl, hk1, hk2, -, -⟩ := hu.form
    obtain ⟨A2, c2, rfl, hk3, hk4, -, -⟩ := hv.form
    unfold maxLen at hk2 hk4
    have HM := Lib.hid (merge_two s hone)
    obtain ⟨kd, hkd⟩ : ∃ x, kindI s = x := ⟨_, rfl⟩
    have HKD := Lib.hid (show (Tm.two s x y).marks = x.marks ++ y.marks ++ [⟨kd, 0, 0⟩] by rw [← hkd]; simp [Tm.marks])
    rw [hkd]
    obtain ⟨lx, hlx⟩ : ∃ l, x.marks.length = l := ⟨_, rfl⟩
    obtain ⟨ly, hly⟩ : ∃ l, y.marks.length = l := ⟨_, rfl⟩
    have hl2 : x.marks.length + y.marks.length ≤ 100 := by omega
    rw [hlx, hly] at hone
    rw [hlx] at hu hk1 ⊢
    rw [hly] at hv hk3 ⊢
    have hstep : Calls Try.prog 70 #[.int .i64 kd, .slice A1 lx c1, .slice A2 ly c2] w fun e w' => ∃ r, e = .returned r ∧ Marks w' w.heap.size r (mergeT s x y).marks ∧ Below w.heap.size w w' := by
      rw [HM.out, HKD.out]
      exact together_any kd _ _ _ _ b b' _ hu hv hl2
    have HST := Lib.hid hstep
    clear hkd hlx hly hl hl2 hstep
    by_cases h1 : lx = 1
    · have h2 : ¬ ly = 1 := fun h => hone ⟨h1, h⟩
      have e1 : ((lx : Int) == 1) = true := by rw [h1]; rfl
      have e2 : ((ly : Int) == 1) = false := by rw [beq_eq_false_iff_ne]; omega
      clear hone h1 h2
      go_enter Try.func57, Try.ntmps57
      go_wp2_with fail
      refine HST.out.mono ?_
      rintro e wy ⟨r, rfl, hr, hby⟩
      go_wp2_with fail
      go_ret
      exact ⟨_, rfl, hr, hby⟩
    · have e1 : ((lx : Int) == 1) = false := by rw [beq_eq_false_iff_ne]; omega
      clear hone h1
      go_enter Try.func57, Try.ntmps57
      go_wp2_with fail
      refine HST.out.mono ?_
      rintro e wy ⟨r, rfl, hr, hby⟩
      go_wp2_with fail
      go_ret
      exact ⟨_, rfl, hr, hby⟩

end Go.Proofs.Ytffeeiafgheoaaa
