/- Plain facts. -/
import Derived.Test.YtmgpekdhcghabaaGreatWI
import Derived.Test.YtmgpekdhcghabaaGreatMG
import Derived.Test.YtmgpekdhcghabaaGreatGR10
import Derived.Test.YtmgpekdhcghabaaGreatW2
import Derived.Test.YtmgpekdhcghabaaGreatGR26
/- Contracts of the functions of chapter 3 in the program: WayFrom, PushedOn, GreatestFlow, GreatestValue. -/
namespace Go.Proofs.YtmgpekdhcghabaaGreat
open Go.RowKit

theorem way_no1 {n : Int} {ps : List Pp} {xs : List Int} {a b : Int} (h : holdsB n ps xs = false) : wayB n ps xs a b = false := by simp [wayB, h]
theorem way_no2 {n : Int} {ps : List Pp} {xs : List Int} {a b : Int} (h : endsB n ps a b = false) : wayB n ps xs a b = false := by simp [wayB, h]
theorem wayI_no {n : Int} {ps : List Pp} {xs : List Int} {a b : Int} (h : wayB n ps xs a b = false) : wayI n ps xs a b = [] := by rw [wayI, wayR_no h]; rfl

set_option maxHeartbeats 2000000 in
set_option maxRecDepth 20000 in
theorem wayFrom_any (n i j : Int) (v u : Value) (ps : List Pp) (xs : List Int) (b b' : Nat) (w : World) (hp : Pipes w b v ps) (hx : Ints w b' u xs) :
    Calls Tryz.prog 105 #[.agg #[.int .i64 n, v], u, .int .i64 i, .int .i64 j] w fun e w' => ∃ r, e = .returned (.tuple #[r, .bool (wayB n ps xs i j)]) ∧ Ints w' w.heap.size r (wayI n ps xs i j) ∧ Below w.heap.size w w' := by
  have hp0 := hp
  have hx0 := hx
  obtain ⟨A, c, rfl, -, -, -, -⟩ := hp.form
  obtain ⟨A', c', rfl, -, -, -, -⟩ := hx.form
  have bx0 := Box2.new w (.int .i64 n) (.slice A ps.length c) 25
  go_enter Tryz.func105, Tryz.ntmps105
  go_wp2_with fail
  with_reducible refine (holdsOk_any n _ _ ps xs b b' _ (hp0.keep (by (repeat (first | (with_reducible assumption) | (with_reducible exact Below.refl _ _) | ((with_reducible refine Below.alloc ?_ ?hsz _); (case hsz => (first | omega | (simp; done) | (simp; omega) | (simp at *; omega)))) | ((with_reducible refine Below.setCell ?_ ?hsz _); (case hsz => (first | omega | (simp; done) | (simp; omega) | (simp at *; omega)))) | (with_reducible refine Below.drew ?_) | (with_reducible refine below_drewN ?_ _) | ((with_reducible refine Below.trans ?_ (Below.mono (by with_reducible assumption) ?hsz)); (case hsz => (first | omega | (simp; done) | (simp; omega) | (simp at *; omega)))))))) (hx0.keep (by (repeat (first | (with_reducible assumption) | (with_reducible exact Below.refl _ _) | ((with_reducible refine Below.alloc ?_ ?hsz _); (case hsz => (first | omega | (simp; done) | (simp; omega) | (simp at *; omega)))) | ((with_reducible refine Below.setCell ?_ ?hsz _); (case hsz => (first | omega | (simp; done) | (simp; omega) | (simp at *; omega)))) | (with_reducible refine Below.drew ?_) | (with_reducible refine below_drewN ?_ _) | ((with_reducible refine Below.trans ?_ (Below.mono (by with_reducible assumption) ?hsz)); (case hsz => (first | omega | (simp; done) | (simp; omega) | (simp at *; omega))))))))).mono ?_
  rintro e w1 ⟨rfl, hb1⟩
  have bx1 := bx0.keep hb1
  have hB1 : Below w.heap.size w w1 := by (repeat (first | (with_reducible assumption) | (with_reducible exact Below.refl _ _) | ((with_reducible refine Below.alloc ?_ ?hsz _); (case hsz => (first | omega | (simp; done) | (simp; omega) | (simp at *; omega)))) | ((with_reducible refine Below.setCell ?_ ?hsz _); (case hsz => (first | omega | (simp; done) | (simp; omega) | (simp at *; omega)))) | (with_reducible refine Below.drew ?_) | (with_reducible refine below_drewN ?_ _) | ((with_reducible refine Below.trans ?_ (Below.mono (by with_reducible assumption) ?hsz)); (case hsz => (first | omega | (simp; done) | (simp; omega) | (simp at *; omega))))))
  have hz1 := hB1.size
  clear bx0 hb1
  obtain ⟨bs, d0, d1, -, -⟩ := id bx1
  by_cases hh : holdsB n ps xs = true
  · rw [hh]
    go_wp2_with fail
    with_reducible refine (endsOk_any n i j _ ps b _ (hp0.keep hB1)).mono ?_
    rintro e w2 ⟨rfl, hb2⟩
    have bx2 := bx1.keep hb2
    have hB2 : Below w.heap.size w w2 := by (repeat (first | (with_reducible assumption) | (with_reducible exact Below.refl _ _) | ((with_reducible refine Below.alloc ?_ ?hsz _); (case hsz => (first | omega | (simp; done) | (simp; omega) | (simp at *; omega)))) | ((with_reducible refine Below.setCell ?_ ?hsz _); (case hsz => (first | omega | (simp; done) | (simp; omega) | (simp at *; omega)))) | (with_reducible refine Below.drew ?_) | (with_reducible refine below_drewN ?_ _) | ((with_reducible refine Below.trans ?_ (Below.mono (by with_reducible assumption) ?hsz)); (case hsz => (first | omega | (simp; done) | (simp; omega) | (simp at *; omega))))))
    have hz2 := hB2.size
    clear bx1 hb2 d0 d1 bs hB1
    obtain ⟨bs, d0, d1, -, -⟩ := id bx2
    by_cases he : endsB n ps i j = true
    · rw [he]
      go_wp2_with fail
      with_reducible refine (wayFromIn_any n i j _ _ ps xs b b' _ (hp0.keep hB2) (hx0.keep hB2) hh he).mono ?_
      rintro e w3 ⟨r, rfl, hr, hb3⟩
      go_wp2
      go_ret2
      exact ⟨_, rfl, hr.mono hz2, by (repeat (first | (with_reducible assumption) | (with_reducible exact Below.refl _ _) | ((with_reducible refine Below.alloc ?_ ?hsz _); (case hsz => (first | omega | (simp; done) | (simp; omega) | (simp at *; omega)))) | ((with_reducible refine Below.setCell ?_ ?hsz _); (case hsz => (first | omega | (simp; done) | (simp; omega) | (simp at *; omega)))) | (with_reducible refine Below.drew ?_) | (with_reducible refine below_drewN ?_ _) | ((with_reducible refine Below.trans ?_ (Below.mono (by with_reducible assumption) ?hsz)); (case hsz => (first | omega | (simp; done) | (simp; omega) | (simp at *; omega))))))⟩
    · have he' : endsB n ps i j = false := by simpa using he
      rw [he']
      have Hw := Lib.hid (way_no2 (xs := xs) he')
      clear he hh he'
      go_wp2
      go_ret2
      exact ⟨_, ret_vb' Hw.out.symm, by rw [wayI_no Hw.out]; exact Ints_nil _ _, by (repeat (first | (with_reducible assumption) | (with_reducible exact Below.refl _ _) | ((with_reducible refine Below.alloc ?_ ?hsz _); (case hsz => (first | omega | (simp; done) | (simp; omega) | (simp at *; omega)))) | ((with_reducible refine Below.setCell ?_ ?hsz _); (case hsz => (first | omega | (simp; done) | (simp; omega) | (simp at *; omega)))) | (with_reducible refine Below.drew ?_) | (with_reducible refine below_drewN ?_ _) | ((with_reducible refine Below.trans ?_ (Below.mono (by with_reducible assumption) ?hsz)); (case hsz => (first | omega | (simp; done) | (simp; omega) | (simp at *; omega))))))⟩
  · have hh' : holdsB n ps xs = false := by simpa using hh
    rw [hh']
    have Hw := Lib.hid (way_no1 (a := i) (b := j) hh')
    clear hh hh'
    go_wp2
    go_ret2
    exact ⟨_, ret_vb' Hw.out.symm, by rw [wayI_no Hw.out]; exact Ints_nil _ _, by (repeat (first | (with_reducible assumption) | (with_reducible exact Below.refl _ _) | ((with_reducible refine Below.alloc ?_ ?hsz _); (case hsz => (first | omega | (simp; done) | (simp; omega) | (simp at *; omega)))) | ((with_reducible refine Below.setCell ?_ ?hsz _); (case hsz => (first | omega | (simp; done) | (simp; omega) | (simp at *; omega)))) | (with_reducible refine Below.drew ?_) | (with_reducible refine below_drewN ?_ _) | ((with_reducible refine Below.trans ?_ (Below.mono (by with_reducible assumption) ?hsz)); (case hsz => (first | omega | (simp; done) | (simp; omega) | (simp at *; omega))))))⟩

/-- what the contracts of a push ask for -/
theorem push_facts {n : Int} {ps : List Pp} {xs : List Int} {a b : Int} (h : wayB n ps xs a b = true) : ps.length ≤ 7 ∧ xs.length = ps.length ∧ 0 < xs.length ∧ (∀ x ∈ xs, 0 ≤ x ∧ x ≤ 40) ∧ (∀ p ∈ ps, 0 ≤ p.le ∧ p.le ≤ p.mo ∧ p.mo ≤ 4) ∧
    (∀ s ∈ wayR n ps xs a b, s < 2 * ps.length) ∧ (∀ k j, 0 ≤ (pushL (amtR n ps xs a b) xs ((wayR n ps xs a b).take k)).getD j 0 ∧ (pushL (amtR n ps xs a b) xs ((wayR n ps xs a b).take k)).getD j 0 ≤ 40) ∧ 0 ≤ amtR n ps xs a b ∧ amtR n ps xs a b ≤ 40 := by
  have hh := (wayB_parts h).1
  have hn := holds_net hh
  have hi := (holds_inB hn).1 hh
  have hr := net_rooms hn
  obtain ⟨l1, l2, l3, l4, l5⟩ := wayR_ok h
  obtain ⟨m1, m2, m3⟩ := amtR_pos h
  have hlen := hi.1
  refine ⟨(netOk_parts hn).2.2.1, hlen, ?_, (flowOk_parts (holds_parts hh).1).2.2, hr, fun s hs => (l4 s hs).1, fun k j => ?_, by omega, by omega⟩
  · obtain ⟨s, hs⟩ : ∃ s, s ∈ wayR n ps xs a b := List.exists_mem_of_length_pos (by omega)
    have := (l4 s hs).1
    omega
  · have hk := pushL_inB (d := amtR n ps xs a b) (l := (wayR n ps xs a b).take k) (by omega) hi (fun s hs => ⟨(l4 s (List.mem_of_mem_take hs)).1, m3 s (List.mem_of_mem_take hs)⟩) (l5.sublist (List.take_sublist _ _))
    by_cases hj : j < ps.length
    · have h1 := hk.2 j hj
      have h2 := hr ps[j] (List.getElem_mem hj)
      omega
    · have h1 := hk.1
      rw [List.getD_eq_getElem?_getD, List.getElem?_eq_none (by omega)]
      simp
theorem pushR_yes {n : Int} {ps : List Pp} {xs : List Int} {a b : Int} (h : wayB n ps xs a b = true) : pushR n ps xs a b = pushL (amtR n ps xs a b) xs (wayR n ps xs a b) := by rw [pushR, if_pos h]
theorem pushR_no {n : Int} {ps : List Pp} {xs : List Int} {a b : Int} (h : wayB n ps xs a b = false) : pushR n ps xs a b = [] := by rw [pushR, if_neg (by simp [h])]

set_option maxHeartbeats 2000000 in
set_option maxRecDepth 20000 in
theorem pushedOn_any (n i j : Int) (v u : Value) (ps : List Pp) (xs : List Int) (b b' : Nat) (w : World) (hp : Pipes w b v ps) (hx : Ints w b' u xs) :
    Calls Tryz.prog 60 #[.agg #[.int .i64 n, v], u, .int .i64 i, .int .i64 j] w fun e w' => ∃ r, e = .returned (.tuple #[r, .bool (wayB n ps xs i j)]) ∧ Ints w' w.heap.size r (pushR n ps xs i j) ∧ Below w.heap.size w w' := by
  have hp0 := hp
  have hx0 := hx
  obtain ⟨A, c, rfl, -, -, -, -⟩ := hp.form
  obtain ⟨A', c', rfl, -, -, -, -⟩ := hx.form
  have bx0 := Box2.new w (.int .i64 n) (.slice A ps.length c) 25
  go_enter Tryz.func60, Tryz.ntmps60
  go_wp2_with fail
  with_reducible refine (wayFrom_any n i j _ _ ps xs b b' _ (hp0.keep (by (repeat (first | (with_reducible assumption) | (with_reducible exact Below.refl _ _) | ((with_reducible refine Below.alloc ?_ ?hsz _); (case hsz => (first | omega | (simp; done) | (simp; omega) | (simp at *; omega)))) | ((with_reducible refine Below.setCell ?_ ?hsz _); (case hsz => (first | omega | (simp; done) | (simp; omega) | (simp at *; omega)))) | (with_reducible refine Below.drew ?_) | (with_reducible refine below_drewN ?_ _) | ((with_reducible refine Below.trans ?_ (Below.mono (by with_reducible assumption) ?hsz)); (case hsz => (first | omega | (simp; done) | (simp; omega) | (simp at *; omega)))))))) (hx0.keep (by (repeat (first | (with_reducible assumption) | (with_reducible exact Below.refl _ _) | ((with_reducible refine Below.alloc ?_ ?hsz _); (case hsz => (first | omega | (simp; done) | (simp; omega) | (simp at *; omega)))) | ((with_reducible refine Below.setCell ?_ ?hsz _); (case hsz => (first | omega | (simp; done) | (simp; omega) | (simp at *; omega)))) | (with_reducible refine Below.drew ?_) | (with_reducible refine below_drewN ?_ _) | ((with_reducible refine Below.trans ?_ (Below.mono (by with_reducible assumption) ?hsz)); (case hsz => (first | omega | (simp; done) | (simp; omega) | (simp at *; omega))))))))).mono ?_
  rintro e w1 ⟨r, rfl, hr, hb1⟩
  have bx1 := bx0.keep hb1
  have hB1 : Below w.heap.size w w1 := by (repeat (first | (with_reducible assumption) | (with_reducible exact Below.refl _ _) | ((with_reducible refine Below.alloc ?_ ?hsz _); (case hsz => (first | omega | (simp; done) | (simp; omega) | (simp at *; omega)))) | ((with_reducible refine Below.setCell ?_ ?hsz _); (case hsz => (first | omega | (simp; done) | (simp; omega) | (simp at *; omega)))) | (with_reducible refine Below.drew ?_) | (with_reducible refine below_drewN ?_ _) | ((with_reducible refine Below.trans ?_ (Below.mono (by with_reducible assumption) ?hsz)); (case hsz => (first | omega | (simp; done) | (simp; omega) | (simp at *; omega))))))
  have hz1 := hB1.size
  clear bx0 hb1
  obtain ⟨bs, d0, d1, -, -⟩ := id bx1
  by_cases hw : wayB n ps xs i j = true
  · rw [hw]
    have HF := Lib.hid (push_facts hw)
    have HR := Lib.hid (pushR_yes hw)
    have Hw := Lib.hid hw
    obtain ⟨f1, f2, f3, -⟩ := push_facts hw
    obtain ⟨A1, c1, rfl, -, -, -, -⟩ := hr.form
    obtain ⟨m0, hm0⟩ : ∃ m, (wayI n ps xs i j).length = m := ⟨_, rfl⟩
    rw [hm0] at hr ⊢
    clear hw hm0 f2
    go_wp2_with fail
    with_reducible refine (wayRoom_any _ _ _ (wayR n ps xs i j) ps xs b b' _ _ hr (hp0.keep hB1) (hx0.keep hB1) HF.out.2.2.2.2.2.1 f1 HF.out.2.1 HF.out.2.2.2.1 HF.out.2.2.2.2.1).mono ?_
    rintro e w2 ⟨rfl, hb2⟩
    have hB2 : Below w.heap.size w w2 := by (repeat (first | (with_reducible assumption) | (with_reducible exact Below.refl _ _) | ((with_reducible refine Below.alloc ?_ ?hsz _); (case hsz => (first | omega | (simp; done) | (simp; omega) | (simp at *; omega)))) | ((with_reducible refine Below.setCell ?_ ?hsz _); (case hsz => (first | omega | (simp; done) | (simp; omega) | (simp at *; omega)))) | (with_reducible refine Below.drew ?_) | (with_reducible refine below_drewN ?_ _) | ((with_reducible refine Below.trans ?_ (Below.mono (by with_reducible assumption) ?hsz)); (case hsz => (first | omega | (simp; done) | (simp; omega) | (simp at *; omega))))))
    have hr2 := hr.keep hb2
    have hz2 := hB2.size
    go_wp2_with fail
    refine (pushedAlong_any _ _ (wayR n ps xs i j) ps xs b' _ (amtR n ps xs i j) _ hr2 (hx0.keep hB2) HF.out.2.1 f1 f3 HF.out.2.2.2.2.2.1 HF.out.2.2.2.2.2.2.1 HF.out.2.2.2.2.2.2.2).mono ?_
    rintro e w3 ⟨r3, rfl, hr3, hb3⟩
    go_wp2
    go_ret2
    exact ⟨_, ret_vb' Hw.out.symm, by rw [HR.out]; exact hr3.mono hz2, by (repeat (first | (with_reducible assumption) | (with_reducible exact Below.refl _ _) | ((with_reducible refine Below.alloc ?_ ?hsz _); (case hsz => (first | omega | (simp; done) | (simp; omega) | (simp at *; omega)))) | ((with_reducible refine Below.setCell ?_ ?hsz _); (case hsz => (first | omega | (simp; done) | (simp; omega) | (simp at *; omega)))) | (with_reducible refine Below.drew ?_) | (with_reducible refine below_drewN ?_ _) | ((with_reducible refine Below.trans ?_ (Below.mono (by with_reducible assumption) ?hsz)); (case hsz => (first | omega | (simp; done) | (simp; omega) | (simp at *; omega))))))⟩
  · have hw' : wayB n ps xs i j = false := by simpa using hw
    rw [hw']
    have Hw := Lib.hid hw'
    clear hw hw' hr
    go_wp2
    go_ret2
    exact ⟨_, ret_vb' Hw.out.symm, by rw [pushR_no Hw.out]; exact Ints_nil _ _, by (repeat (first | (with_reducible assumption) | (with_reducible exact Below.refl _ _) | ((with_reducible refine Below.alloc ?_ ?hsz _); (case hsz => (first | omega | (simp; done) | (simp; omega) | (simp at *; omega)))) | ((with_reducible refine Below.setCell ?_ ?hsz _); (case hsz => (first | omega | (simp; done) | (simp; omega) | (simp at *; omega)))) | (with_reducible refine Below.drew ?_) | (with_reducible refine below_drewN ?_ _) | ((with_reducible refine Below.trans ?_ (Below.mono (by with_reducible assumption) ?hsz)); (case hsz => (first | omega | (simp; done) | (simp; omega) | (simp at *; omega))))))⟩

theorem Ints.uniq {w : World} {b : Nat} {v : Value} {xs ys : List Int} (h : Ints w b v xs) (h' : Ints w b v ys) : xs = ys := by
  obtain ⟨A, c, rfl, -, -, -, hc⟩ := h.form
  obtain ⟨A', c', e, -, -, -, hc'⟩ := h'.form
  simp only [Value.slice.injEq] at e
  obtain ⟨rfl, hl, rfl⟩ := e
  apply List.ext_getElem hl
  intro i h1 h2
  obtain ⟨g, e1, _, _, c0, _⟩ := hc w (Below.refl _ _) i h1
  obtain ⟨g', e1', _, _, c0', _⟩ := hc' w (Below.refl _ _) i h2
  rw [e1] at e1'
  injection e1' with e1'
  injection e1' with e1'
  subst e1'
  rw [c0] at c0'
  injection c0' with c0'
  injection c0' with _ c0'

set_option maxHeartbeats 2000000 in
set_option maxRecDepth 20000 in
theorem freeEndsOk_any (n i j : Int) (v : Value) (ps : List Pp) (b : Nat) (w : World) (hp : Pipes w b v ps) :
    Calls Tryz.prog 59 #[.agg #[.int .i64 n, v], .int .i64 i, .int .i64 j] w fun e w' => e = .returned (.bool (greatB n ps i j)) ∧ Below w.heap.size w w' := by
  have hp0 := hp
  obtain ⟨A, c, rfl, -, -, -, -⟩ := hp.form
  have bx0 := Box2.new w (.int .i64 n) (.slice A ps.length c) 25
  go_enter Tryz.func59, Tryz.ntmps59
  go_wp2_with fail
  with_reducible refine (freeOk_any n _ ps b _ (hp0.keep (by (repeat (first | (with_reducible assumption) | (with_reducible exact Below.refl _ _) | ((with_reducible refine Below.alloc ?_ ?hsz _); (case hsz => (first | omega | (simp; done) | (simp; omega) | (simp at *; omega)))) | ((with_reducible refine Below.setCell ?_ ?hsz _); (case hsz => (first | omega | (simp; done) | (simp; omega) | (simp at *; omega)))) | (with_reducible refine Below.drew ?_) | (with_reducible refine below_drewN ?_ _) | ((with_reducible refine Below.trans ?_ (Below.mono (by with_reducible assumption) ?hsz)); (case hsz => (first | omega | (simp; done) | (simp; omega) | (simp at *; omega))))))))).mono ?_
  rintro e w1 ⟨rfl, hb1⟩
  have bx1 := bx0.keep hb1
  have hB1 : Below w.heap.size w w1 := by (repeat (first | (with_reducible assumption) | (with_reducible exact Below.refl _ _) | ((with_reducible refine Below.alloc ?_ ?hsz _); (case hsz => (first | omega | (simp; done) | (simp; omega) | (simp at *; omega)))) | ((with_reducible refine Below.setCell ?_ ?hsz _); (case hsz => (first | omega | (simp; done) | (simp; omega) | (simp at *; omega)))) | (with_reducible refine Below.drew ?_) | (with_reducible refine below_drewN ?_ _) | ((with_reducible refine Below.trans ?_ (Below.mono (by with_reducible assumption) ?hsz)); (case hsz => (first | omega | (simp; done) | (simp; omega) | (simp at *; omega))))))
  clear bx0 hb1
  obtain ⟨bs, d0, d1, -, -⟩ := id bx1
  by_cases hf : freeB n ps = true
  · rw [hf]
    have Hf := Lib.hid hf
    clear hf
    go_wp2_with fail
    with_reducible refine (endsOk_any n i j _ ps b _ (hp0.keep hB1)).mono ?_
    rintro e w2 ⟨rfl, hb2⟩
    have hB2 : Below w.heap.size w w2 := by (repeat (first | (with_reducible assumption) | (with_reducible exact Below.refl _ _) | ((with_reducible refine Below.alloc ?_ ?hsz _); (case hsz => (first | omega | (simp; done) | (simp; omega) | (simp at *; omega)))) | ((with_reducible refine Below.setCell ?_ ?hsz _); (case hsz => (first | omega | (simp; done) | (simp; omega) | (simp at *; omega)))) | (with_reducible refine Below.drew ?_) | (with_reducible refine below_drewN ?_ _) | ((with_reducible refine Below.trans ?_ (Below.mono (by with_reducible assumption) ?hsz)); (case hsz => (first | omega | (simp; done) | (simp; omega) | (simp at *; omega))))))
    have Hw : Hid (endsB n ps i j = greatB n ps i j) := Lib.hid (by rw [greatB, Hf.out, Bool.true_and])
    go_wp2
    go_ret
    exact ⟨ret_bool Hw.out, by (repeat (first | (with_reducible assumption) | (with_reducible exact Below.refl _ _) | ((with_reducible refine Below.alloc ?_ ?hsz _); (case hsz => (first | omega | (simp; done) | (simp; omega) | (simp at *; omega)))) | ((with_reducible refine Below.setCell ?_ ?hsz _); (case hsz => (first | omega | (simp; done) | (simp; omega) | (simp at *; omega)))) | (with_reducible refine Below.drew ?_) | (with_reducible refine below_drewN ?_ _) | ((with_reducible refine Below.trans ?_ (Below.mono (by with_reducible assumption) ?hsz)); (case hsz => (first | omega | (simp; done) | (simp; omega) | (simp at *; omega))))))⟩
  · have hf' : freeB n ps = false := by simpa using hf
    rw [hf']
    have Hw : Hid (greatB n ps i j = false) := Lib.hid (by simp [greatB, hf'])
    clear hf hf'
    go_wp2
    go_ret
    exact ⟨ret_bool Hw.out.symm, by (repeat (first | (with_reducible assumption) | (with_reducible exact Below.refl _ _) | ((with_reducible refine Below.alloc ?_ ?hsz _); (case hsz => (first | omega | (simp; done) | (simp; omega) | (simp at *; omega)))) | ((with_reducible refine Below.setCell ?_ ?hsz _); (case hsz => (first | omega | (simp; done) | (simp; omega) | (simp at *; omega)))) | (with_reducible refine Below.drew ?_) | (with_reducible refine below_drewN ?_ _) | ((with_reducible refine Below.trans ?_ (Below.mono (by with_reducible assumption) ?hsz)); (case hsz => (first | omega | (simp; done) | (simp; omega) | (simp at *; omega))))))⟩

set_option maxHeartbeats 4000000 in
set_option maxRecDepth 20000 in
theorem greatestFlow_any (n i j : Int) (v : Value) (ps : List Pp) (b : Nat) (w : World) (hp : Pipes w b v ps) :
    Calls Tryz.prog 28 #[.agg #[.int .i64 n, v], .int .i64 i, .int .i64 j] w fun e w' => ∃ r, e = .returned (.tuple #[r, .bool (greatB n ps i j)]) ∧ Ints w' w.heap.size r (greatF n ps i j) ∧ Below w.heap.size w w' := by
  have hp0 := hp
  obtain ⟨A, c, rfl, -, -, hsm, -⟩ := hp.form
  have bx0 := Box2.new w (.int .i64 n) (.slice A ps.length c) 25
  have hmk := fun W => run_make_ints (n := ps.length) hsm W
  go_enter Tryz.func28, Tryz.ntmps28
  go_wp2_with fail
  with_reducible refine (freeEndsOk_any n i j _ ps b _ (hp0.keep (by (repeat (first | (with_reducible assumption) | (with_reducible exact Below.refl _ _) | ((with_reducible refine Below.alloc ?_ ?hsz _); (case hsz => (first | omega | (simp; done) | (simp; omega) | (simp at *; omega)))) | ((with_reducible refine Below.setCell ?_ ?hsz _); (case hsz => (first | omega | (simp; done) | (simp; omega) | (simp at *; omega)))) | (with_reducible refine Below.drew ?_) | (with_reducible refine below_drewN ?_ _) | ((with_reducible refine Below.trans ?_ (Below.mono (by with_reducible assumption) ?hsz)); (case hsz => (first | omega | (simp; done) | (simp; omega) | (simp at *; omega))))))))).mono ?_
  rintro e w2 ⟨rfl, hb2⟩
  have bx2 := bx0.keep hb2
  have hB2 : Below w.heap.size w w2 := by (repeat (first | (with_reducible assumption) | (with_reducible exact Below.refl _ _) | ((with_reducible refine Below.alloc ?_ ?hsz _); (case hsz => (first | omega | (simp; done) | (simp; omega) | (simp at *; omega)))) | ((with_reducible refine Below.setCell ?_ ?hsz _); (case hsz => (first | omega | (simp; done) | (simp; omega) | (simp at *; omega)))) | (with_reducible refine Below.drew ?_) | (with_reducible refine below_drewN ?_ _) | ((with_reducible refine Below.trans ?_ (Below.mono (by with_reducible assumption) ?hsz)); (case hsz => (first | omega | (simp; done) | (simp; omega) | (simp at *; omega))))))
  have hz2 := hB2.size
  clear bx0 hb2
  obtain ⟨bs, d0, d1, -, -⟩ := id bx2
  by_cases hg : greatB n ps i j = true
  · rw [hg]
    have Hg := Lib.hid hg
    have Hend := Lib.hid (great_yes hg)
    have Hz := Lib.hid (free_holds (great_parts hg).1)
    clear hg
    have hmade := Ints_made w2 (b := w2.heap.size) (g := w2.heap.size) (Nat.le_refl _) hsm rfl
    have HM := Lib.hid hmade
    clear hmade
    go_wp2_with fail
    go_loopw [8] (fun t wr => ∃ (xs : List Int) (k : Nat), Ints wr w2.heap.size t xs ∧ holdsB n ps xs = true ∧ 28 ≤ exc j ps xs + k ∧ pushN n ps i j k xs = pushN n ps i j 28 (zeros ps) ∧ Below w2.heap.size w2 wr ∧ Box2 wr w.heap.size (.int .i64 n) (.slice A ps.length c))
      (fun t wr => (280 - exc j ps (Classical.epsilon fun xs => Ints wr w2.heap.size t xs)).toNat)
    case atStart => exact ⟨zeros ps, 28, HM.out, Hz.out, by rw [exc_zeros]; omega, rfl, by (repeat (first | (with_reducible assumption) | (with_reducible exact Below.refl _ _) | ((with_reducible refine Below.alloc ?_ ?hsz _); (case hsz => (first | omega | (simp; done) | (simp; omega) | (simp at *; omega)))) | ((with_reducible refine Below.setCell ?_ ?hsz _); (case hsz => (first | omega | (simp; done) | (simp; omega) | (simp at *; omega)))) | (with_reducible refine Below.drew ?_) | (with_reducible refine below_drewN ?_ _) | ((with_reducible refine Below.trans ?_ (Below.mono (by with_reducible assumption) ?hsz)); (case hsz => (first | omega | (simp; done) | (simp; omega) | (simp at *; omega)))))), bx2.keep ((Below.refl _ _).alloc (Nat.le_refl _) _)⟩
    case round =>
      obtain ⟨xs, k, hI, hh, hk, hpk, hb, bx⟩ := hrel
      have HI := Lib.hid hI
      have HP := Lib.hid hpk
      have HH := Lib.hid hh
      have hzb := hb.size
      clear d0 d1 bs bx2
      obtain ⟨bs, d0, d1, -, -⟩ := id bx
      clear hI hpk
      go_wp2_with fail
      with_reducible refine (pushedOn_any n i j _ _ ps xs b _ _ (hp0.keep (hB2.trans (hb.mono hz2))) HI.out).mono ?_
      rintro e w3 ⟨r3, rfl, hr3, hb3⟩
      have hb23 : Below w2.heap.size w2 w3 := hb.trans (hb3.mono hzb)
      have hb33 : Below w.heap.size w w3 := hB2.trans (hb23.mono hz2)
      have bx3 := bx.keep hb3
      by_cases hw : wayB n ps xs i j = true
      · rw [hw]
        have p1 := push_ok hw
        have p2 := push_to hw
        have p3 := amtR_pos hw
        obtain ⟨k', rfl⟩ : ∃ k', k = k' + 1 := by
          refine ⟨k - 1, ?_⟩
          have := exc_gap28 (free_holds (great_parts Hg.out).1) p1.1 j
          rw [exc_zeros] at this
          omega
        have hpk := HP.out
        rw [pushN, if_pos hw] at hpk
        have hlt := (exc_bd7 (holds_parts p1.1).1 j).2
        have e1 : (Classical.epsilon fun xs => Ints wr w2.heap.size u8 xs) = xs := Ints.uniq (Classical.epsilon_spec (p := fun xs => Ints wr w2.heap.size u8 xs) ⟨xs, HI.out⟩) HI.out
        have hr30 : Ints w3 w2.heap.size r3 (pushR n ps xs i j) := hr3.mono hzb
        have e2 : (Classical.epsilon fun xs => Ints w3 w2.heap.size r3 xs) = pushR n ps xs i j := Ints.uniq (Classical.epsilon_spec (p := fun xs => Ints w3 w2.heap.size r3 xs) ⟨_, hr30⟩) hr30
        have HX := Lib.hid (And.intro p1.1 (And.intro p2 (And.intro p3 (And.intro hpk (And.intro hlt (And.intro e1 (And.intro e2 hr30)))))))
        clear p1 p2 p3 hpk hlt e1 e2 hr30 hw hr3
        go_wp2
        go_roundw
        case rel => exact ⟨pushR n ps xs i j, k', HX.out.2.2.2.2.2.2.2, HX.out.1, by have h2 := HX.out.2.1; have h3 := HX.out.2.2.1; omega, HX.out.2.2.2.1, hb23, bx3⟩
        case measure =>
          have h2 := HX.out.2.1
          have h3 := HX.out.2.2.1
          have h5 := HX.out.2.2.2.2.1
          simp only [HX.out.2.2.2.2.2.1, HX.out.2.2.2.2.2.2.1]
          omega
      · have hw' : wayB n ps xs i j = false := by simpa using hw
        rw [hw']
        have hfin : Hid (greatF n ps i j = xs) := Lib.hid (by rw [Hend.out, ← HP.out, pushN_no hw'])
        clear hw hw' hr3
        go_wp2
        go_ret2
        exact ⟨_, ret_vb' Hg.out.symm, by rw [hfin.out]; exact (HI.out.keep hb3).mono (by omega), by (repeat (first | (with_reducible assumption) | (with_reducible exact Below.refl _ _) | ((with_reducible refine Below.alloc ?_ ?hsz _); (case hsz => (first | omega | (simp; done) | (simp; omega) | (simp at *; omega)))) | ((with_reducible refine Below.setCell ?_ ?hsz _); (case hsz => (first | omega | (simp; done) | (simp; omega) | (simp at *; omega)))) | (with_reducible refine Below.drew ?_) | (with_reducible refine below_drewN ?_ _) | ((with_reducible refine Below.trans ?_ (Below.mono (by with_reducible assumption) ?hsz)); (case hsz => (first | omega | (simp; done) | (simp; omega) | (simp at *; omega))))))⟩
  · have hf' : greatB n ps i j = false := by simpa using hg
    rw [hf']
    have Hw := Lib.hid hf'
    clear hg hf'
    go_wp2
    go_ret2
    exact ⟨_, ret_vb' Hw.out.symm, by rw [great_no Hw.out]; exact Ints_nil _ _, by (repeat (first | (with_reducible assumption) | (with_reducible exact Below.refl _ _) | ((with_reducible refine Below.alloc ?_ ?hsz _); (case hsz => (first | omega | (simp; done) | (simp; omega) | (simp at *; omega)))) | ((with_reducible refine Below.setCell ?_ ?hsz _); (case hsz => (first | omega | (simp; done) | (simp; omega) | (simp at *; omega)))) | (with_reducible refine Below.drew ?_) | (with_reducible refine below_drewN ?_ _) | ((with_reducible refine Below.trans ?_ (Below.mono (by with_reducible assumption) ?hsz)); (case hsz => (first | omega | (simp; done) | (simp; omega) | (simp at *; omega))))))⟩

end Go.Proofs.YtmgpekdhcghabaaGreat

/- Contracts of the functions of chapter 3 in the program: GreatestValue, ReachedFrom. -/
namespace Go.Proofs.YtmgpekdhcghabaaGreat
open Go.RowKit

end Go.Proofs.YtmgpekdhcghabaaGreat
