/- Contracts of the functions of chapter 6 in the program: CheaperFlow, CheapestFlow. -/
import Derived.Test.YthkidcipimfkfaaH3
import Derived.Test.YthkidcipimfkfaaWG
namespace Go.Proofs.Ythkidcipimfkfaa
open Go.RowKit

set_option maxHeartbeats 4000000 in
set_option maxRecDepth 20000 in
theorem cheaper_any (n : Int) (v u : Value) (ps : List Pp) (xs : List Int) (b b' : Nat) (w : World) (hp : Pipes w b v ps) (hx : Ints w b' u xs) :
    Calls Try.prog 39 #[.agg #[.int .i64 n, v], u] w fun e w' => ∃ r, e = .returned (.tuple #[r, .bool (gainsB n ps xs)]) ∧ Ints w' w.heap.size r (cheapR n ps xs) ∧ Below w.heap.size w w' := by
  have hp0 := hp
  have hx0 := hx
  obtain ⟨A, c, rfl, -, -, -, -⟩ := hp.form
  obtain ⟨A', c', rfl, -, -, -, -⟩ := hx.form
  have bx0 := Box2.new w (.int .i64 n) (.slice A ps.length c) 31
  go_enter Try.func39, Try.ntmps39
  go_wp2_with fail
  with_reducible refine (gainOf_any n _ _ ps xs b b' _ (hp0.keep (by (repeat (first | (with_reducible assumption) | (with_reducible exact Below.refl _ _) | ((with_reducible refine Below.alloc ?_ ?hsz _); (case hsz => (first | omega | (simp; done) | (simp; omega) | (simp at *; omega)))) | ((with_reducible refine Below.setCell ?_ ?hsz _); (case hsz => (first | omega | (simp; done) | (simp; omega) | (simp at *; omega)))) | (with_reducible refine Below.drew ?_) | (with_reducible refine below_drewN ?_ _) | ((with_reducible refine Below.trans ?_ (Below.mono (by with_reducible assumption) ?hsz)); (case hsz => (first | omega | (simp; done) | (simp; omega) | (simp at *; omega)))))))) (hx0.keep (by (repeat (first | (with_reducible assumption) | (with_reducible exact Below.refl _ _) | ((with_reducible refine Below.alloc ?_ ?hsz _); (case hsz => (first | omega | (simp; done) | (simp; omega) | (simp at *; omega)))) | ((with_reducible refine Below.setCell ?_ ?hsz _); (case hsz => (first | omega | (simp; done) | (simp; omega) | (simp at *; omega)))) | (with_reducible refine Below.drew ?_) | (with_reducible refine below_drewN ?_ _) | ((with_reducible refine Below.trans ?_ (Below.mono (by with_reducible assumption) ?hsz)); (case hsz => (first | omega | (simp; done) | (simp; omega) | (simp at *; omega))))))))).mono ?_
  rintro e w1 ⟨r, rfl, hr, hb1⟩
  have bx1 := bx0.keep hb1
  have hB1 : Below w.heap.size w w1 := by (repeat (first | (with_reducible assumption) | (with_reducible exact Below.refl _ _) | ((with_reducible refine Below.alloc ?_ ?hsz _); (case hsz => (first | omega | (simp; done) | (simp; omega) | (simp at *; omega)))) | ((with_reducible refine Below.setCell ?_ ?hsz _); (case hsz => (first | omega | (simp; done) | (simp; omega) | (simp at *; omega)))) | (with_reducible refine Below.drew ?_) | (with_reducible refine below_drewN ?_ _) | ((with_reducible refine Below.trans ?_ (Below.mono (by with_reducible assumption) ?hsz)); (case hsz => (first | omega | (simp; done) | (simp; omega) | (simp at *; omega))))))
  have hz1 := hB1.size
  clear bx0 hb1
  obtain ⟨bs, d0, d1, -, -⟩ := id bx1
  by_cases hw : gainsB n ps xs = true
  · rw [hw]
    have HF := Lib.hid (gain_facts hw)
    have HR := Lib.hid (cheap_yes hw)
    have Hw := Lib.hid hw
    obtain ⟨f1, f2, f3, -⟩ := gain_facts hw
    obtain ⟨A1, c1, rfl, -, -, -, -⟩ := hr.form
    obtain ⟨m0, hm0⟩ : ∃ m, (gainI n ps xs).length = m := ⟨_, rfl⟩
    rw [hm0] at hr ⊢
    clear hw hm0 f2
    go_wp2_with fail
    with_reducible refine (wayRoom_any _ _ _ (gainR n ps xs) ps xs b b' _ _ hr (hp0.keep hB1) (hx0.keep hB1) HF.out.2.2.2.2.2.1 f1 HF.out.2.1 HF.out.2.2.2.1 HF.out.2.2.2.2.1).mono ?_
    rintro e w2 ⟨rfl, hb2⟩
    have hB2 : Below w.heap.size w w2 := by (repeat (first | (with_reducible assumption) | (with_reducible exact Below.refl _ _) | ((with_reducible refine Below.alloc ?_ ?hsz _); (case hsz => (first | omega | (simp; done) | (simp; omega) | (simp at *; omega)))) | ((with_reducible refine Below.setCell ?_ ?hsz _); (case hsz => (first | omega | (simp; done) | (simp; omega) | (simp at *; omega)))) | (with_reducible refine Below.drew ?_) | (with_reducible refine below_drewN ?_ _) | ((with_reducible refine Below.trans ?_ (Below.mono (by with_reducible assumption) ?hsz)); (case hsz => (first | omega | (simp; done) | (simp; omega) | (simp at *; omega))))))
    have hr2 := hr.keep hb2
    have hz2 := hB2.size
    go_wp2_with fail
    refine (pushedAlong_any _ _ (gainR n ps xs) ps xs b' _ (gainA n ps xs) _ hr2 (hx0.keep hB2) HF.out.2.1 f1 f3 HF.out.2.2.2.2.2.1 HF.out.2.2.2.2.2.2.1 HF.out.2.2.2.2.2.2.2).mono ?_
    rintro e w3 ⟨r3, rfl, hr3, hb3⟩
    go_wp2
    go_ret2
    exact ⟨_, ret_vb Hw.out.symm, by rw [HR.out]; exact hr3.mono hz2, by (repeat (first | (with_reducible assumption) | (with_reducible exact Below.refl _ _) | ((with_reducible refine Below.alloc ?_ ?hsz _); (case hsz => (first | omega | (simp; done) | (simp; omega) | (simp at *; omega)))) | ((with_reducible refine Below.setCell ?_ ?hsz _); (case hsz => (first | omega | (simp; done) | (simp; omega) | (simp at *; omega)))) | (with_reducible refine Below.drew ?_) | (with_reducible refine below_drewN ?_ _) | ((with_reducible refine Below.trans ?_ (Below.mono (by with_reducible assumption) ?hsz)); (case hsz => (first | omega | (simp; done) | (simp; omega) | (simp at *; omega))))))⟩
  · have hw' : gainsB n ps xs = false := by simpa using hw
    rw [hw']
    have Hw := Lib.hid hw'
    clear hw hw' hr
    go_wp2
    go_ret2
    exact ⟨_, ret_vb Hw.out.symm, by rw [cheap_no Hw.out]; exact Ints_nil _ _, by (repeat (first | (with_reducible assumption) | (with_reducible exact Below.refl _ _) | ((with_reducible refine Below.alloc ?_ ?hsz _); (case hsz => (first | omega | (simp; done) | (simp; omega) | (simp at *; omega)))) | ((with_reducible refine Below.setCell ?_ ?hsz _); (case hsz => (first | omega | (simp; done) | (simp; omega) | (simp at *; omega)))) | (with_reducible refine Below.drew ?_) | (with_reducible refine below_drewN ?_ _) | ((with_reducible refine Below.trans ?_ (Below.mono (by with_reducible assumption) ?hsz)); (case hsz => (first | omega | (simp; done) | (simp; omega) | (simp at *; omega))))))⟩

theorem Ints.uniq6 {w : World} {b : Nat} {v : Value} {xs ys : List Int} (h : Ints w b v xs) (h' : Ints w b v ys) : xs = ys := by
  obtain ⟨A, c, rfl, -, -, -, hc⟩ := h.form
  obtain ⟨A', c', e, -, -, -, hc'⟩ := h'.form
  simp only [Value.slice.injEq] at e
  obtain ⟨rfl, hl, rfl⟩ := e
  apply List.ext_getElem hl
  intro i h1 h2
  obtain ⟨g, e1, _, _, c0, _⟩ := hc w (Below.refl _ _) i h1
  obtain ⟨g', e1', _, _, c0', _⟩ := hc' w (Below.refl _ _) i h2
  rw [e1] at e1'
  injection e1' with e1'
  injection e1' with e1'
  subst e1'
  rw [c0] at c0'
  injection c0' with c0'
  injection c0' with _ c0'

set_option maxHeartbeats 4000000 in
set_option maxRecDepth 20000 in
theorem cheapest_any (n : Int) (v u : Value) (ps : List Pp) (xs : List Int) (b b' : Nat) (w : World) (hp : Pipes w b v ps) (hx : Ints w b' u xs) :
    Calls Try.prog 41 #[.agg #[.int .i64 n, v], u] w fun e w' => ∃ r, e = .returned (.tuple #[r, .bool (holdsB n ps xs)]) ∧ Ints w' w.heap.size r (chpstR n ps xs) ∧ Below w.heap.size w w' := by
  have hp0 := hp
  have hx0 := hx
  obtain ⟨A, c, rfl, -, -, -, -⟩ := hp.form
  obtain ⟨A', c', rfl, -, -, -, -⟩ := hx.form
  have bx0 := Box2.new w (.int .i64 n) (.slice A ps.length c) 31
  go_enter Try.func41, Try.ntmps41
  go_wp2_with fail
  with_reducible refine (holdsOk_any n _ _ ps xs b b' _ (hp0.keep (by (repeat (first | (with_reducible assumption) | (with_reducible exact Below.refl _ _) | ((with_reducible refine Below.alloc ?_ ?hsz _); (case hsz => (first | omega | (simp; done) | (simp; omega) | (simp at *; omega)))) | ((with_reducible refine Below.setCell ?_ ?hsz _); (case hsz => (first | omega | (simp; done) | (simp; omega) | (simp at *; omega)))) | (with_reducible refine Below.drew ?_) | (with_reducible refine below_drewN ?_ _) | ((with_reducible refine Below.trans ?_ (Below.mono (by with_reducible assumption) ?hsz)); (case hsz => (first | omega | (simp; done) | (simp; omega) | (simp at *; omega)))))))) (hx0.keep (by (repeat (first | (with_reducible assumption) | (with_reducible exact Below.refl _ _) | ((with_reducible refine Below.alloc ?_ ?hsz _); (case hsz => (first | omega | (simp; done) | (simp; omega) | (simp at *; omega)))) | ((with_reducible refine Below.setCell ?_ ?hsz _); (case hsz => (first | omega | (simp; done) | (simp; omega) | (simp at *; omega)))) | (with_reducible refine Below.drew ?_) | (with_reducible refine below_drewN ?_ _) | ((with_reducible refine Below.trans ?_ (Below.mono (by with_reducible assumption) ?hsz)); (case hsz => (first | omega | (simp; done) | (simp; omega) | (simp at *; omega))))))))).mono ?_
  rintro e w1 ⟨rfl, hb1⟩
  have bx1 := bx0.keep hb1
  have hB1 : Below w.heap.size w w1 := by (repeat (first | (with_reducible assumption) | (with_reducible exact Below.refl _ _) | ((with_reducible refine Below.alloc ?_ ?hsz _); (case hsz => (first | omega | (simp; done) | (simp; omega) | (simp at *; omega)))) | ((with_reducible refine Below.setCell ?_ ?hsz _); (case hsz => (first | omega | (simp; done) | (simp; omega) | (simp at *; omega)))) | (with_reducible refine Below.drew ?_) | (with_reducible refine below_drewN ?_ _) | ((with_reducible refine Below.trans ?_ (Below.mono (by with_reducible assumption) ?hsz)); (case hsz => (first | omega | (simp; done) | (simp; omega) | (simp at *; omega))))))
  have hz1 := hB1.size
  clear bx0 hb1
  obtain ⟨bs, d0, d1, -, -⟩ := id bx1
  by_cases hf : holdsB n ps xs = true
  · rw [hf]
    have hl7 : xs.length ≤ 7 := by
      have h1 := (netOk_parts (holds_net hf)).2.2.1
      have h2 := (flowOk_parts (holds_parts hf).1).2.1
      omega
    have Hf := Lib.hid hf
    clear hf
    go_wp2_with fail
    refine (cloneInts_any _ xs b' _ (hx0.keep hB1) (by omega)).mono ?_
    rintro e w2 ⟨r2, rfl, hr2, hb2⟩
    have bx2 := bx1.keep hb2
    have hB2 := hB1.trans (hb2.mono hz1)
    have hz2 := hB2.size
    have HM := Lib.hid (hr2.mono hz1)
    clear bx1 hb2 d0 d1 bs hB1 hr2
    obtain ⟨bs, d0, d1, -, -⟩ := id bx2
    go_wp2_with fail
    go_loopw [6] (fun t wr => ∃ ys : List Int, Ints wr w.heap.size t ys ∧ holdsB n ps ys = true ∧ chpstR n ps ys = chpstR n ps xs ∧ Below w.heap.size w wr ∧ Box2 wr w.heap.size (.int .i64 n) (.slice A ps.length c))
      (fun t wr => (costS ps (Classical.epsilon fun ys => Ints wr w.heap.size t ys) + 2520).toNat)
    case atStart => exact ⟨xs, HM.out, Hf.out, rfl, hB2, bx2⟩
    case round =>
      obtain ⟨ys, hI, hh, hpk, hb, bx⟩ := hrel
      have HI := Lib.hid hI
      have HP := Lib.hid hpk
      have HH := Lib.hid hh
      have hzb := hb.size
      clear d0 d1 bs bx2
      obtain ⟨bs, d0, d1, -, -⟩ := id bx
      clear hI hpk hh
      go_wp2_with fail
      with_reducible refine (cheaper_any n _ _ ps ys b _ _ (hp0.keep hb) HI.out).mono ?_
      rintro e w3 ⟨r3, rfl, hr3, hb3⟩
      have hb33 : Below w.heap.size w w3 := hb.trans (hb3.mono hzb)
      have bx3 := bx.keep hb3
      by_cases hw : gainsB n ps ys = true
      · rw [hw]
        have p1 := cheap_ok hw
        have p2 := costS_bd7' p1.1
        have p3 := chpst_step hw
        have e1 : (Classical.epsilon fun zs => Ints wr w.heap.size u6 zs) = ys := Ints.uniq6 (Classical.epsilon_spec (p := fun zs => Ints wr w.heap.size u6 zs) ⟨ys, HI.out⟩) HI.out
        have hr30 : Ints w3 w.heap.size r3 (cheapR n ps ys) := hr3.mono hzb
        have e2 : (Classical.epsilon fun zs => Ints w3 w.heap.size r3 zs) = cheapR n ps ys := Ints.uniq6 (Classical.epsilon_spec (p := fun zs => Ints w3 w.heap.size r3 zs) ⟨_, hr30⟩) hr30
        have HX := Lib.hid (And.intro p1 (And.intro p2 (And.intro p3 (And.intro e1 (And.intro e2 hr30)))))
        clear p1 p2 p3 e1 e2 hr30 hw hr3
        go_wp2
        go_roundw
        case rel => exact ⟨cheapR n ps ys, HX.out.2.2.2.2.2, HX.out.1.1, HX.out.2.2.1.trans HP.out, hb33, bx3⟩
        case measure =>
          have h1 := HX.out.1.2.2
          have h2 := HX.out.2.1
          simp only [HX.out.2.2.2.1, HX.out.2.2.2.2.1]
          omega
      · have hw' : gainsB n ps ys = false := by simpa using hw
        rw [hw']
        have hfin : Hid (chpstR n ps xs = ys) := Lib.hid (by rw [← HP.out, chpst_end HH.out hw'])
        clear hw hw' hr3
        go_wp2
        go_ret2
        exact ⟨_, ret_vb Hf.out.symm, by rw [hfin.out]; exact HI.out.keep hb3, hb33⟩
  · have hf' : holdsB n ps xs = false := by simpa using hf
    rw [hf']
    have Hw := Lib.hid hf'
    clear hf hf'
    go_wp2
    go_ret2
    exact ⟨_, ret_vb Hw.out.symm, by rw [chpst_no Hw.out]; exact Ints_nil _ _, hB1⟩

end Go.Proofs.Ythkidcipimfkfaa
