/- Contracts of the functions of chapter 6 in the model: CheaperFlow, CheapestFlow. -/
import Derived.Test.YtphbmlephldaaaaI3
import Derived.Test.YtphbmlephldaaaaGN31
namespace Go.Proofs.Ytphbmlephldaaaa
open Go.RowKit

set_option maxHeartbeats 4000000 in
set_option maxRecDepth 20000 in
theorem specCheaper_any (n : Int) (v u : Value) (ps : List Pp) (xs : List Int) (b b' : Nat) (w : World) (hp : Pipes w b v ps) (hx : Ints w b' u xs) :
    Calls Try.prog 121 #[.agg #[.int .i64 n, v], u] w fun e w' => ∃ r, e = .returned (.tuple #[r, .bool (gainsB n ps xs)]) ∧ Ints w' w.heap.size r (cheapR n ps xs) ∧ Below w.heap.size w w' := by
  have hp0 := hp
  have hx0 := hx
  obtain ⟨A, c, rfl, -, -, -, -⟩ := hp.form
  obtain ⟨A', c', rfl, -, -, -, -⟩ := hx.form
  have bx0 := Box2.new w (.int .i64 n) (.slice A ps.length c) 25
  go_enter Try.func121, Try.ntmps121
  go_wp2_with fail
  with_reducible refine (specGainOf_any n _ _ ps xs b b' _ (hp0.keep (by (repeat (first | (with_reducible assumption) | (with_reducible exact Below.refl _ _) | ((with_reducible refine Below.alloc ?_ ?hsz _); (case hsz => (first | omega | (simp; done) | (simp; omega) | (simp at *; omega)))) | ((with_reducible refine Below.setCell ?_ ?hsz _); (case hsz => (first | omega | (simp; done) | (simp; omega) | (simp at *; omega)))) | (with_reducible refine Below.drew ?_) | (with_reducible refine below_drewN ?_ _) | ((with_reducible refine Below.trans ?_ (Below.mono (by with_reducible assumption) ?hsz)); (case hsz => (first | omega | (simp; done) | (simp; omega) | (simp at *; omega)))))))) (hx0.keep (by (repeat (first | (with_reducible assumption) | (with_reducible exact Below.refl _ _) | ((with_reducible refine Below.alloc ?_ ?hsz _); (case hsz => (first | omega | (simp; done) | (simp; omega) | (simp at *; omega)))) | ((with_reducible refine Below.setCell ?_ ?hsz _); (case hsz => (first | omega | (simp; done) | (simp; omega) | (simp at *; omega)))) | (with_reducible refine Below.drew ?_) | (with_reducible refine below_drewN ?_ _) | ((with_reducible refine Below.trans ?_ (Below.mono (by with_reducible assumption) ?hsz)); (case hsz => (first | omega | (simp; done) | (simp; omega) | (simp at *; omega))))))))).mono ?_
  rintro e w1 ⟨r, rfl, hr, hb1⟩
  have bx1 := bx0.keep hb1
  have hB1 : Below w.heap.size w w1 := by (repeat (first | (with_reducible assumption) | (with_reducible exact Below.refl _ _) | ((with_reducible refine Below.alloc ?_ ?hsz _); (case hsz => (first | omega | (simp; done) | (simp; omega) | (simp at *; omega)))) | ((with_reducible refine Below.setCell ?_ ?hsz _); (case hsz => (first | omega | (simp; done) | (simp; omega) | (simp at *; omega)))) | (with_reducible refine Below.drew ?_) | (with_reducible refine below_drewN ?_ _) | ((with_reducible refine Below.trans ?_ (Below.mono (by with_reducible assumption) ?hsz)); (case hsz => (first | omega | (simp; done) | (simp; omega) | (simp at *; omega))))))
  have hz1 := hB1.size
  clear bx0 hb1
  obtain ⟨bs, d0, d1, -, -⟩ := id bx1
  by_cases hw : gainsB n ps xs = true
  · rw [hw]
    have HF := Lib.hid (gain_facts hw)
    have HR := Lib.hid (cheap_yes hw)
    have H40 := Lib.hid (gainA40 hw)
    have Hw := Lib.hid hw
    obtain ⟨f1, f2, f3, -⟩ := gain_facts hw
    obtain ⟨A1, c1, rfl, -, -, -, -⟩ := hr.form
    obtain ⟨m0, hm0⟩ : ∃ m, (gainI n ps xs).length = m := ⟨_, rfl⟩
    rw [hm0] at hr ⊢
    clear hw hm0 f2
    go_wp2_with fail
    with_reducible refine (specPush_any n _ _ _ (gainR n ps xs) ps xs b b' _ _ (hp0.keep hB1) (hx0.keep hB1) hr f1 HF.out.2.1 f3 HF.out.2.2.2.1 HF.out.2.2.2.2.1 HF.out.2.2.2.2.2.1 (gainA n ps xs) H40.out HF.out.2.2.2.2.2.2.1 HF.out.2.2.2.2.2.2.2).mono ?_
    rintro e w2 ⟨r3, rfl, hr3, hb2⟩
    go_wp2
    go_ret2
    exact ⟨_, ret_vb Hw.out.symm, by rw [HR.out]; exact hr3.mono hz1, by (repeat (first | (with_reducible assumption) | (with_reducible exact Below.refl _ _) | ((with_reducible refine Below.alloc ?_ ?hsz _); (case hsz => (first | omega | (simp; done) | (simp; omega) | (simp at *; omega)))) | ((with_reducible refine Below.setCell ?_ ?hsz _); (case hsz => (first | omega | (simp; done) | (simp; omega) | (simp at *; omega)))) | (with_reducible refine Below.drew ?_) | (with_reducible refine below_drewN ?_ _) | ((with_reducible refine Below.trans ?_ (Below.mono (by with_reducible assumption) ?hsz)); (case hsz => (first | omega | (simp; done) | (simp; omega) | (simp at *; omega))))))⟩
  · have hw' : gainsB n ps xs = false := by simpa using hw
    rw [hw']
    have Hw := Lib.hid hw'
    clear hw hw' hr
    go_wp2
    go_ret2
    exact ⟨_, ret_vb Hw.out.symm, by rw [cheap_no Hw.out]; exact ints_empty6 _ hz1 rfl, by (repeat (first | (with_reducible assumption) | (with_reducible exact Below.refl _ _) | ((with_reducible refine Below.alloc ?_ ?hsz _); (case hsz => (first | omega | (simp; done) | (simp; omega) | (simp at *; omega)))) | ((with_reducible refine Below.setCell ?_ ?hsz _); (case hsz => (first | omega | (simp; done) | (simp; omega) | (simp at *; omega)))) | (with_reducible refine Below.drew ?_) | (with_reducible refine below_drewN ?_ _) | ((with_reducible refine Below.trans ?_ (Below.mono (by with_reducible assumption) ?hsz)); (case hsz => (first | omega | (simp; done) | (simp; omega) | (simp at *; omega))))))⟩

theorem Ints.uniq7 {w : World} {b : Nat} {v : Value} {xs ys : List Int} (h : Ints w b v xs) (h' : Ints w b v ys) : xs = ys := by
  obtain ⟨A, c, rfl, -, -, -, hc⟩ := h.form
  obtain ⟨A', c', e, -, -, -, hc'⟩ := h'.form
  simp only [Value.slice.injEq] at e
  obtain ⟨rfl, hl, rfl⟩ := e
  apply List.ext_getElem hl
  intro i h1 h2
  obtain ⟨g, e1, _, _, c0, _⟩ := hc w (Below.refl _ _) i h1
  obtain ⟨g', e1', _, _, c0', _⟩ := hc' w (Below.refl _ _) i h2
  rw [e1] at e1'
  injection e1' with e1'
  injection e1' with e1'
  subst e1'
  rw [c0] at c0'
  injection c0' with c0'
  injection c0' with _ c0'

set_option maxHeartbeats 4000000 in
set_option maxRecDepth 20000 in
theorem specCheapest_any (n : Int) (v u : Value) (ps : List Pp) (xs : List Int) (b b' : Nat) (w : World) (hp : Pipes w b v ps) (hx : Ints w b' u xs) :
    Calls Try.prog 91 #[.agg #[.int .i64 n, v], u] w fun e w' => ∃ r, e = .returned (.tuple #[r, .bool (holdsB n ps xs)]) ∧ Ints w' w.heap.size r (chpstR n ps xs) ∧ Below w.heap.size w w' := by
  have hp0 := hp
  have hx0 := hx.mono (Nat.zero_le b')
  obtain ⟨A, c, rfl, -, -, -, -⟩ := hp.form
  obtain ⟨A', c', rfl, -, -, -, -⟩ := hx.form
  have bx0 := Box2.new w (.int .i64 n) (.slice A ps.length c) 25
  obtain ⟨mx, hmx⟩ : ∃ m, xs.length = m := ⟨_, rfl⟩
  rw [hmx] at hx0 ⊢
  clear hx hmx
  go_enter Try.func91, Try.ntmps91
  go_wp2_with fail
  with_reducible refine (specHoldsOk_any n _ _ ps xs b 0 _ (hp0.keep (by (repeat (first | (with_reducible assumption) | (with_reducible exact Below.refl _ _) | ((with_reducible refine Below.alloc ?_ ?hsz _); (case hsz => (first | omega | (simp; done) | (simp; omega) | (simp at *; omega)))) | ((with_reducible refine Below.setCell ?_ ?hsz _); (case hsz => (first | omega | (simp; done) | (simp; omega) | (simp at *; omega)))) | (with_reducible refine Below.drew ?_) | (with_reducible refine below_drewN ?_ _) | ((with_reducible refine Below.trans ?_ (Below.mono (by with_reducible assumption) ?hsz)); (case hsz => (first | omega | (simp; done) | (simp; omega) | (simp at *; omega)))))))) (hx0.keep (by (repeat (first | (with_reducible assumption) | (with_reducible exact Below.refl _ _) | ((with_reducible refine Below.alloc ?_ ?hsz _); (case hsz => (first | omega | (simp; done) | (simp; omega) | (simp at *; omega)))) | ((with_reducible refine Below.setCell ?_ ?hsz _); (case hsz => (first | omega | (simp; done) | (simp; omega) | (simp at *; omega)))) | (with_reducible refine Below.drew ?_) | (with_reducible refine below_drewN ?_ _) | ((with_reducible refine Below.trans ?_ (Below.mono (by with_reducible assumption) ?hsz)); (case hsz => (first | omega | (simp; done) | (simp; omega) | (simp at *; omega))))))))).mono ?_
  rintro e w1 ⟨rfl, hb1⟩
  have bx1 := bx0.keep hb1
  have hB1 : Below w.heap.size w w1 := by (repeat (first | (with_reducible assumption) | (with_reducible exact Below.refl _ _) | ((with_reducible refine Below.alloc ?_ ?hsz _); (case hsz => (first | omega | (simp; done) | (simp; omega) | (simp at *; omega)))) | ((with_reducible refine Below.setCell ?_ ?hsz _); (case hsz => (first | omega | (simp; done) | (simp; omega) | (simp at *; omega)))) | (with_reducible refine Below.drew ?_) | (with_reducible refine below_drewN ?_ _) | ((with_reducible refine Below.trans ?_ (Below.mono (by with_reducible assumption) ?hsz)); (case hsz => (first | omega | (simp; done) | (simp; omega) | (simp at *; omega))))))
  have hz1 := hB1.size
  clear bx0 hb1
  obtain ⟨bs, d0, d1, -, -⟩ := id bx1
  by_cases hf : holdsB n ps xs = true
  · rw [hf]
    have Hf := Lib.hid hf
    clear hf
    go_wp2_with fail
    with_reducible refine (specCheaper_any n _ _ ps xs b 0 _ (hp0.keep hB1) (hx0.keep hB1)).mono ?_
    rintro e w2 ⟨r2, rfl, hr2, hb2⟩
    have bx2 := bx1.keep hb2
    have hB2 := hB1.trans (hb2.mono hz1)
    have hz2 := hB2.size
    have HM := Lib.hid (hr2.mono (Nat.zero_le _))
    have HX0 := Lib.hid (hx0.keep hB2)
    clear bx1 hb2 d0 d1 bs hB1 hr2
    obtain ⟨bs, d0, d1, -, -⟩ := id bx2
    go_wp2_with fail
    go_loopw [1, 6, 7] (fun t1 t6 t7 wr => ∃ ys : List Int, Ints wr 0 t1 ys ∧ Ints wr 0 t6 (cheapR n ps ys) ∧ t7 = .bool (gainsB n ps ys) ∧ holdsB n ps ys = true ∧ chpstR n ps ys = chpstR n ps xs ∧ Below w.heap.size w wr ∧ Box2 wr w.heap.size (.int .i64 n) (.slice A ps.length c))
      (fun t1 _ _ wr => (costS ps (Classical.epsilon fun ys => Ints wr 0 t1 ys) + 2520).toNat)
    case atStart => exact ⟨xs, HX0.out, HM.out, rfl, Hf.out, rfl, hB2, bx2⟩
    case round =>
      obtain ⟨ys, hI, hJ, rfl, hh, hpk, hb, bx⟩ := hrel
      have HP := Lib.hid hpk
      have HH := Lib.hid hh
      have hzb := hb.size
      clear d0 d1 bs bx2
      obtain ⟨bs, d0, d1, -, -⟩ := id bx
      have HI := Lib.hid hI
      have HJ := Lib.hid hJ
      obtain ⟨AI, cI, rfl, -, -, -, -⟩ := hI.form
      obtain ⟨AJ, cJ, rfl, -, -, -, -⟩ := hJ.form
      obtain ⟨mI, hmI⟩ : ∃ m, ys.length = m := ⟨_, rfl⟩
      obtain ⟨mJ, hmJ⟩ : ∃ m, (cheapR n ps ys).length = m := ⟨_, rfl⟩
      rw [hmI] at HI ⊢
      rw [hmJ] at HJ ⊢
      have HmI := Lib.hid hmI
      clear hI hJ hpk hh hmI hmJ
      by_cases hw : gainsB n ps ys = true
      · rw [hw]
        have p1 := cheap_ok hw
        have p2 := costS_bd7' p1.1
        have p3 := chpst_step hw
        go_wp2_with fail
        with_reducible refine (specCheaper_any n _ _ ps (cheapR n ps ys) b 0 _ (hp0.keep hb) HJ.out).mono ?_
        rintro e w3 ⟨r3, rfl, hr3, hb3⟩
        have hb33 : Below w.heap.size w w3 := hb.trans (hb3.mono hzb)
        have bx3 := bx.keep hb3
        have hJ3 := HJ.out.keep hb3
        have E1 : Hid ((Classical.epsilon fun zs => Ints wr 0 (.slice AI mI cI) zs) = ys) := Lib.hid (Ints.uniq7 (Classical.epsilon_spec (p := fun zs => Ints wr 0 (.slice AI mI cI) zs) ⟨ys, HI.out⟩) HI.out)
        have E2 : Hid ((Classical.epsilon fun zs => Ints w3 0 (.slice AJ mJ cJ) zs) = cheapR n ps ys) := Lib.hid (Ints.uniq7 (Classical.epsilon_spec (p := fun zs => Ints w3 0 (.slice AJ mJ cJ) zs) ⟨_, hJ3⟩) hJ3)
        have HX := Lib.hid (And.intro p1 (And.intro p2 (And.intro p3 (And.intro hJ3 (hr3.mono (Nat.zero_le _))))))
        obtain ⟨A4, c4, rfl, -, -, -, -⟩ := hr3.form
        obtain ⟨m4, hm4⟩ : ∃ m, (cheapR n ps (cheapR n ps ys)).length = m := ⟨_, rfl⟩
        rw [hm4] at HX ⊢
        obtain ⟨gb, hgb⟩ : ∃ gb, gainsB n ps (cheapR n ps ys) = gb := ⟨_, rfl⟩
        have HGB := Lib.hid hgb
        rw [hgb]
        clear p1 p2 p3 hJ3 hw hr3 hm4 hgb
        go_wp2
        go_roundw
        case rel => exact ⟨cheapR n ps ys, HX.out.2.2.2.1, HX.out.2.2.2.2, by rw [HGB.out], HX.out.1.1, HX.out.2.2.1.trans HP.out, hb33, bx3⟩
        case measure =>
          have h1 := HX.out.1.2.2
          have h2 := HX.out.2.1
          simp only [E1.out, E2.out]
          omega
      · have hw' : gainsB n ps ys = false := by simpa using hw
        rw [hw']
        have hfin : Hid (chpstR n ps xs = ys) := Lib.hid (by rw [← HP.out, chpst_end HH.out hw'])
        have hl7 : mI ≤ 7 := by
          have h1 := (netOk_parts (holds_net HH.out)).2.2.1
          have h2 := (flowOk_parts (holds_parts HH.out).1).2.1
          have h3 := HmI.out
          omega
        clear hw hw'
        obtain ⟨i0, hi0, hz0, hz1', hz2'⟩ := info_parts int_info
        have hown0 := lit_own6 (w := wr.alloc (.cells #[] 3)) (B := w.heap.size) (g := wr.heap.size) (e := 3) (size := 1) (by omega) (heap_alloc_new _ _)
        have hsrc0 : SrcOk (wr.alloc (.cells #[] 3)) 1 (.slice AI mI cI) mI (ys.map (Value.int .i64)) := by
          have := (HI.out.keep ((Below.refl wr.heap.size wr).alloc (Nat.le_refl _) (.cells #[] 3))).src
          rw [HmI.out] at this
          exact this
        go_wp2_with (first
          | (at_builtin
             go_must (refine wpList_append_src rfl _ _ 40 rfl w.heap.size 3 i0 _ 1 8 Try.underlying40 hi0 hz0 hz1' hz2' rfl (by omega) _ _ 0 mI [] _ (by rfl) rfl hown0 hsrc0 (by unfold maxLen; omega) (by omega) (by simp; omega) ?_)
             intro r w7 hown7 hgr7 hat7))
        go_ret2
        rw [Nat.zero_add, List.nil_append] at hown7
        refine ⟨r, ret_vb Hf.out.symm, ⟨by rw [hfin.out, HmI.out]; exact hown7, by rw [hfin.out, HmI.out]; unfold small; omega⟩, ?_⟩
        exact Below.grown (w := wr.alloc (.cells #[] 3)) (by (repeat (first | (with_reducible assumption) | (with_reducible exact Below.refl _ _) | ((with_reducible refine Below.alloc ?_ ?hsz _); (case hsz => (first | omega | (simp; done) | (simp; omega) | (simp at *; omega)))) | ((with_reducible refine Below.setCell ?_ ?hsz _); (case hsz => (first | omega | (simp; done) | (simp; omega) | (simp at *; omega)))) | (with_reducible refine Below.drew ?_) | (with_reducible refine below_drewN ?_ _) | ((with_reducible refine Below.trans ?_ (Below.mono (by with_reducible assumption) ?hsz)); (case hsz => (first | omega | (simp; done) | (simp; omega) | (simp at *; omega))))))) hgr7 (by (first | omega | (simp; done) | (simp; omega) | (simp at *; omega))) (fun q hq => by
          have hq' : wr.heap.size = q := by injection hq
          omega)
  · have hf' : holdsB n ps xs = false := by simpa using hf
    rw [hf']
    have Hw := Lib.hid hf'
    clear hf hf'
    go_wp2
    go_ret2
    exact ⟨_, ret_vb Hw.out.symm, by rw [chpst_no Hw.out]; exact ints_empty6 _ hz1 rfl, by (repeat (first | (with_reducible assumption) | (with_reducible exact Below.refl _ _) | ((with_reducible refine Below.alloc ?_ ?hsz _); (case hsz => (first | omega | (simp; done) | (simp; omega) | (simp at *; omega)))) | ((with_reducible refine Below.setCell ?_ ?hsz _); (case hsz => (first | omega | (simp; done) | (simp; omega) | (simp at *; omega)))) | (with_reducible refine Below.drew ?_) | (with_reducible refine below_drewN ?_ _) | ((with_reducible refine Below.trans ?_ (Below.mono (by with_reducible assumption) ?hsz)); (case hsz => (first | omega | (simp; done) | (simp; omega) | (simp at *; omega))))))⟩

end Go.Proofs.Ytphbmlephldaaaa
