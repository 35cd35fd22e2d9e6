/- Contracts of the functions of chapter 3 in the model: WayFrom, PushedOn, GreatestFlow, GreatestValue. -/
import Derived.Test.YtmgpekdhcghabaaGreatSH
import Derived.Test.YtmgpekdhcghabaaGreatGR15
import Derived.Test.YtmgpekdhcghabaaGreatGR24
import Derived.Test.YtmgpekdhcghabaaGreatGR13
import Derived.Test.YtmgpekdhcghabaaGreatMG
namespace Go.Proofs.YtmgpekdhcghabaaGreat
open Go.RowKit

theorem sret_vb {v : Value} {b b' : Bool} (h : b = b') : Ending.returned (.tuple #[v, .bool b]) = .returned (.tuple #[v, .bool b']) := by rw [h]
/-- the way that the model finds is the way; there is none exactly if it is empty -/
theorem rest_way {n : Int} {ps : List Pp} {xs : List Int} {a b : Int} (h1 : holdsB n ps xs = true) (h2 : endsB n ps a b = true) : restL n ps xs b a = wayR n ps xs a b ∧ decide (0 < (restL n ps xs b a).length) = wayB n ps xs a b := by
  have e : wayB n ps xs a b = decide (dis n ps xs a b < n.toNat) := by simp [wayB, h1, h2]
  have e1 : restL n ps xs b a = wayR n ps xs a b := by
    rw [restL, wayR, e]; simp
  refine ⟨e1, ?_⟩
  rw [e1]
  by_cases hw : wayB n ps xs a b = true
  · obtain ⟨l1, l2, -⟩ := wayR_ok hw
    rw [hw, l1]; simpa using l2
  · have hw' : wayB n ps xs a b = false := by simpa using hw
    rw [hw', wayR_no hw']; rfl

theorem Ints_empty2 (w : World) (b : Nat) {g : Nat} (hb : b ≤ w.heap.size) (hg : g = w.heap.size) : Ints (w.alloc (.cells #[] 3)) b (.slice (some ⟨g, 0, none⟩) 0 0) [] := by
  subst hg
  exact ⟨World.ownsRow_lit (e := 3) (base := b) (size := 1) w #[] 0 hb (by simp [maxLen]) rfl, Nat.zero_le _⟩

/-- what the contracts of a push ask for -/
theorem spush_facts {n : Int} {ps : List Pp} {xs : List Int} {a b : Int} (h : wayB n ps xs a b = true) : ps.length ≤ 7 ∧ xs.length = ps.length ∧ 0 < xs.length ∧ (∀ x ∈ xs, 0 ≤ x ∧ x ≤ 40) ∧ (∀ p ∈ ps, 0 ≤ p.le ∧ p.le ≤ p.mo ∧ p.mo ≤ 4) ∧
    (∀ s ∈ wayR n ps xs a b, s < 2 * ps.length) ∧ (∀ k j, 0 ≤ (pushL (amtR n ps xs a b) xs ((wayR n ps xs a b).take k)).getD j 0 ∧ (pushL (amtR n ps xs a b) xs ((wayR n ps xs a b).take k)).getD j 0 ≤ 40) ∧ 0 ≤ amtR n ps xs a b ∧ amtR n ps xs a b ≤ 40 := by
  have hh := (wayB_parts h).1
  have hn := holds_net hh
  have hi := (holds_inB hn).1 hh
  have hr := net_rooms hn
  obtain ⟨l1, l2, l3, l4, l5⟩ := wayR_ok h
  obtain ⟨m1, m2, m3⟩ := amtR_pos h
  have hlen := hi.1
  refine ⟨(netOk_parts hn).2.2.1, hlen, ?_, (flowOk_parts (holds_parts hh).1).2.2, hr, fun s hs => (l4 s hs).1, fun k j => ?_, by omega, by omega⟩
  · obtain ⟨s, hs⟩ : ∃ s, s ∈ wayR n ps xs a b := List.exists_mem_of_length_pos (by omega)
    have := (l4 s hs).1
    omega
  · have hk := pushL_inB (d := amtR n ps xs a b) (l := (wayR n ps xs a b).take k) (by omega) hi (fun s hs => ⟨(l4 s (List.mem_of_mem_take hs)).1, m3 s (List.mem_of_mem_take hs)⟩) (l5.sublist (List.take_sublist _ _))
    by_cases hj : j < ps.length
    · have h1 := hk.2 j hj
      have h2 := hr ps[j] (List.getElem_mem hj)
      omega
    · have h1 := hk.1
      rw [List.getD_eq_getElem?_getD, List.getElem?_eq_none (by omega)]
      simp
theorem spushR_yes {n : Int} {ps : List Pp} {xs : List Int} {a b : Int} (h : wayB n ps xs a b = true) : pushR n ps xs a b = pushL (amtR n ps xs a b) xs (wayR n ps xs a b) := by rw [pushR, if_pos h]
theorem Ints.uniq' {w : World} {b : Nat} {v : Value} {xs ys : List Int} (h : Ints w b v xs) (h' : Ints w b v ys) : xs = ys := by
  obtain ⟨A, c, rfl, -, -, -, hc⟩ := h.form
  obtain ⟨A', c', e, -, -, -, hc'⟩ := h'.form
  simp only [Value.slice.injEq] at e
  obtain ⟨rfl, hl, rfl⟩ := e
  apply List.ext_getElem hl
  intro i h1 h2
  obtain ⟨g, e1, _, _, c0, _⟩ := hc w (Below.refl _ _) i h1
  obtain ⟨g', e1', _, _, c0', _⟩ := hc' w (Below.refl _ _) i h2
  rw [e1] at e1'
  injection e1' with e1'
  injection e1' with e1'
  subst e1'
  rw [c0] at c0'
  injection c0' with c0'
  injection c0' with _ c0'

set_option maxHeartbeats 4000000 in
set_option maxRecDepth 20000 in
theorem specGreatest_any (n i j : Int) (v u : Value) (ps : List Pp) (b b' B : Nat) (w : World) (hp : Pipes w b v ps) (hx : Ints w b' u (zeros ps)) (hBb : B ≤ b') (hBw : B ≤ w.heap.size) (hg : greatB n ps i j = true) :
    Calls Tryz.prog 72 #[.agg #[.int .i64 n, v], u, .int .i64 i, .int .i64 j] w fun e w' => ∃ r, e = .returned r ∧ Ints w' B r (greatF n ps i j) ∧ Below w.heap.size w w' := by
  have hp0 := hp
  have hx0 := hx.mono hBb
  obtain ⟨A, c, rfl, -, -, -, -⟩ := hp.form
  obtain ⟨A', c', rfl, -, -, -, -⟩ := hx.form
  have hz0 := free_holds (great_parts hg).1
  have he := (great_parts hg).2
  obtain ⟨-, i0, i1, j0, j1, -⟩ := ends_parts he
  have Hg := Lib.hid hg
  have He := Lib.hid he
  have Hend := Lib.hid (great_yes hg)
  have bx0 := Box2.new w (.int .i64 n) (.slice A ps.length c) 25
  clear hx hg he
  obtain ⟨m0, hm0⟩ : ∃ m, (zeros ps).length = m := ⟨_, rfl⟩
  rw [hm0] at hx0 ⊢
  have Hz := Lib.hid hz0
  clear hm0 hz0
  go_enter Tryz.func72, Tryz.ntmps72
  go_wp2_with fail
  with_reducible refine (specWay_any n i j _ _ ps (zeros ps) b B _ (hp0.keep (by (repeat (first | (with_reducible assumption) | (with_reducible exact Below.refl _ _) | ((with_reducible refine Below.alloc ?_ ?hsz _); (case hsz => (first | omega | (simp; done) | (simp; omega) | (simp at *; omega)))) | ((with_reducible refine Below.setCell ?_ ?hsz _); (case hsz => (first | omega | (simp; done) | (simp; omega) | (simp at *; omega)))) | (with_reducible refine Below.drew ?_) | (with_reducible refine below_drewN ?_ _) | ((with_reducible refine Below.trans ?_ (Below.mono (by with_reducible assumption) ?hsz)); (case hsz => (first | omega | (simp; done) | (simp; omega) | (simp at *; omega)))))))) (hx0.keep (by (repeat (first | (with_reducible assumption) | (with_reducible exact Below.refl _ _) | ((with_reducible refine Below.alloc ?_ ?hsz _); (case hsz => (first | omega | (simp; done) | (simp; omega) | (simp at *; omega)))) | ((with_reducible refine Below.setCell ?_ ?hsz _); (case hsz => (first | omega | (simp; done) | (simp; omega) | (simp at *; omega)))) | (with_reducible refine Below.drew ?_) | (with_reducible refine below_drewN ?_ _) | ((with_reducible refine Below.trans ?_ (Below.mono (by with_reducible assumption) ?hsz)); (case hsz => (first | omega | (simp; done) | (simp; omega) | (simp at *; omega)))))))) Hz.out i0 i1 j0 j1).mono ?_
  rintro e w1 ⟨r, rfl, hr, hb1⟩
  have bx1 := bx0.keep hb1
  have hB1 : Below w.heap.size w w1 := by (repeat (first | (with_reducible assumption) | (with_reducible exact Below.refl _ _) | ((with_reducible refine Below.alloc ?_ ?hsz _); (case hsz => (first | omega | (simp; done) | (simp; omega) | (simp at *; omega)))) | ((with_reducible refine Below.setCell ?_ ?hsz _); (case hsz => (first | omega | (simp; done) | (simp; omega) | (simp at *; omega)))) | (with_reducible refine Below.drew ?_) | (with_reducible refine below_drewN ?_ _) | ((with_reducible refine Below.trans ?_ (Below.mono (by with_reducible assumption) ?hsz)); (case hsz => (first | omega | (simp; done) | (simp; omega) | (simp at *; omega))))))
  have hz1 := hB1.size
  have hx1 := hx0.keep hB1
  have hr1 := hr.mono (show 0 ≤ _ by omega)
  obtain ⟨A3, c3, rfl, -, -, -, -⟩ := hr.form
  obtain ⟨m3, hm3⟩ : ∃ m, ((restL n ps (zeros ps) j i).map fun s : Nat => (s : Int)).length = m := ⟨_, rfl⟩
  rw [hm3] at hr1 ⊢
  have Hm3 := Lib.hid hm3
  clear bx0 hb1 hr hm3
  go_wp2_with fail
  go_loopw [1, 9] (fun t1 t9 wr => ∃ (xs : List Int) (k m c9 : Nat) (A9 : Option Addr), Ints wr B t1 xs ∧ holdsB n ps xs = true ∧ 28 ≤ exc j ps xs + k ∧ pushN n ps i j k xs = pushN n ps i j 28 (zeros ps) ∧ t9 = .slice A9 m c9 ∧ m = (restL n ps xs j i).length ∧
      Ints wr 0 (.slice A9 m c9) ((restL n ps xs j i).map fun s : Nat => (s : Int)) ∧ Below w.heap.size w wr ∧ Box2 wr w.heap.size (.int .i64 n) (.slice A ps.length c)) (fun t1 _ wr => (280 - exc j ps (Classical.epsilon fun xs => Ints wr B t1 xs)).toNat)
  case atStart => exact ⟨zeros ps, 28, m3, c3, A3, hx1, Hz.out, by rw [exc_zeros]; omega, rfl, rfl, by rw [← Hm3.out]; simp, hr1, hB1, bx1⟩
  case round =>
    clear hr1 bx1 hB1 hx1
    obtain ⟨xs, k, m, c9, A9, hI, hh, hk, hpk, rfl, hm, hw9, hb, bx⟩ := hrel
    have HI := Lib.hid hI
    have HP := Lib.hid hpk
    have HH := Lib.hid hh
    have HM := Lib.hid hm
    have hzb := hb.size
    obtain ⟨bs, d0, d1, -, -⟩ := id bx
    obtain ⟨e1, e2⟩ := rest_way hh He.out
    rw [← hm] at e2
    obtain ⟨AI, cI, rfl, -, -, -, -⟩ := hI.form
    obtain ⟨mI, hmI⟩ : ∃ m, xs.length = m := ⟨_, rfl⟩
    rw [hmI] at HI ⊢
    clear hI hpk hm hmI
    by_cases hw : wayB n ps xs i j = true
    · have hm0 : 0 < m := by rw [hw] at e2; simpa using e2
      have HF := Lib.hid (spush_facts hw)
      have HR := Lib.hid (spushR_yes hw)
      have H40 := Lib.hid (room40 hw)
      obtain ⟨f1, f2, f3, -⟩ := spush_facts hw
      rw [e1] at hw9
      have p1 := push_ok hw
      have p2 := push_to hw
      have p3 := amtR_pos hw
      obtain ⟨k', rfl⟩ : ∃ k', k = k' + 1 := by
        refine ⟨k - 1, ?_⟩
        have := exc_gap28 (free_holds (great_parts Hg.out).1) p1.1 j
        rw [exc_zeros] at this
        omega
      have hpk := HP.out
      rw [pushN, if_pos hw] at hpk
      have hlt := (exc_bd7 (holds_parts p1.1).1 j).2
      have HX := Lib.hid (And.intro p1.1 (And.intro p2 (And.intro p3 (And.intro hpk hlt))))
      have hmd : decide (0 < (m : Int)) = true := by simp; omega
      clear p1 p2 p3 hpk hlt e1 e2 f2 hw
      go_wp2_with fail
      with_reducible refine (specPush_any n _ _ _ (wayR n ps xs i j) ps xs b B _ _ (hp0.keep hb) HI.out hw9 f1 HF.out.2.1 f3 HF.out.2.2.2.1 HF.out.2.2.2.2.1 HF.out.2.2.2.2.2.1 (amtR n ps xs i j) H40.out HF.out.2.2.2.2.2.2.1 HF.out.2.2.2.2.2.2.2).mono ?_
      rintro e w2 ⟨r3, rfl, hr3, hb2⟩
      rw [← HR.out] at hr3
      have bx2 := bx.keep hb2
      have hb22 : Below w.heap.size w w2 := by (repeat (first | (with_reducible assumption) | (with_reducible exact Below.refl _ _) | ((with_reducible refine Below.alloc ?_ ?hsz _); (case hsz => (first | omega | (simp; done) | (simp; omega) | (simp at *; omega)))) | ((with_reducible refine Below.setCell ?_ ?hsz _); (case hsz => (first | omega | (simp; done) | (simp; omega) | (simp at *; omega)))) | (with_reducible refine Below.drew ?_) | (with_reducible refine below_drewN ?_ _) | ((with_reducible refine Below.trans ?_ (Below.mono (by with_reducible assumption) ?hsz)); (case hsz => (first | omega | (simp; done) | (simp; omega) | (simp at *; omega))))))
      have hr30 : Ints w2 B r3 (pushR n ps xs i j) := hr3.mono (by omega)
      obtain ⟨A4, c4, rfl, -, -, -, -⟩ := hr30.form
      obtain ⟨m4, hm4⟩ : ∃ m, (pushR n ps xs i j).length = m := ⟨_, rfl⟩
      rw [hm4] at hr30 ⊢
      clear bs d0 d1 bx hr3 hm4
      obtain ⟨bs, d0, d1, -, -⟩ := id bx2
      go_wp2_with fail
      with_reducible refine (specWay_any n i j _ _ ps (pushR n ps xs i j) b B _ (hp0.keep hb22) hr30 HX.out.1 i0 i1 j0 j1).mono ?_
      rintro e w3 ⟨r5, rfl, hr5, hb3⟩
      have bx3 := bx2.keep hb3
      have hb33 : Below w.heap.size w w3 := by (repeat (first | (with_reducible assumption) | (with_reducible exact Below.refl _ _) | ((with_reducible refine Below.alloc ?_ ?hsz _); (case hsz => (first | omega | (simp; done) | (simp; omega) | (simp at *; omega)))) | ((with_reducible refine Below.setCell ?_ ?hsz _); (case hsz => (first | omega | (simp; done) | (simp; omega) | (simp at *; omega)))) | (with_reducible refine Below.drew ?_) | (with_reducible refine below_drewN ?_ _) | ((with_reducible refine Below.trans ?_ (Below.mono (by with_reducible assumption) ?hsz)); (case hsz => (first | omega | (simp; done) | (simp; omega) | (simp at *; omega))))))
      have hr31 := hr30.keep hb3
      obtain ⟨A5, c5, rfl, -, -, -, -⟩ := hr5.form
      obtain ⟨m5, hm5⟩ : ∃ m, ((restL n ps (pushR n ps xs i j) j i).map fun s : Nat => (s : Int)).length = m := ⟨_, rfl⟩
      have hr50 := hr5.mono (show 0 ≤ _ by omega)
      rw [hm5] at hr50 ⊢
      have Hm5 := Lib.hid hm5
      have E1 : Hid ((Classical.epsilon fun ys => Ints wr B (.slice AI mI cI) ys) = xs) := Lib.hid (Ints.uniq' (Classical.epsilon_spec (p := fun ys => Ints wr B (.slice AI mI cI) ys) ⟨xs, HI.out⟩) HI.out)
      have E2 : Hid ((Classical.epsilon fun ys => Ints w3 B (.slice A4 m4 c4) ys) = pushR n ps xs i j) := Lib.hid (Ints.uniq' (Classical.epsilon_spec (p := fun ys => Ints w3 B (.slice A4 m4 c4) ys) ⟨_, hr31⟩) hr31)
      have HR31 := Lib.hid hr31
      have HR50 := Lib.hid hr50
      clear bs d0 d1 hr5 hr50 hr31 hm5 hr30 bx2
      go_wp2
      go_roundw
      case rel => exact ⟨pushR n ps xs i j, k', m5, c5, A5, HR31.out, HX.out.1, by have h2 := HX.out.2.1; have h3 := HX.out.2.2.1; omega, HX.out.2.2.2.1, rfl, by rw [← Hm5.out]; simp, HR50.out, hb33, bx3⟩
      case measure =>
        have h2 := HX.out.2.1
        have h3 := HX.out.2.2.1
        have h5 := HX.out.2.2.2.2
        simp only [E1.out, E2.out]
        omega
    · have hw' : wayB n ps xs i j = false := by simpa using hw
      have hm0 : m = 0 := by rw [hw'] at e2; simpa using e2
      subst hm0
      have hfin : Hid (greatF n ps i j = xs) := Lib.hid (by rw [Hend.out, ← HP.out, pushN_no hw'])
      clear hw hw' e1 e2
      go_wp2
      go_ret
      exact ⟨_, rfl, by rw [hfin.out]; exact HI.out, hb⟩

theorem swrap_pow {k : Nat} (hk : k ≤ 4) : wrap64 (2 ^ k) = 2 ^ k ∧ IntKind.i64.wrap (2 ^ k) = 2 ^ k := ⟨(shl_in5 (k := (k : Int)) (by omega) (by omega)).2.1, (shl_in5 (k := (k : Int)) (by omega) (by omega)).1⟩

set_option maxHeartbeats 2000000 in
set_option maxRecDepth 20000 in
theorem specGreatestFlow_any (n i j : Int) (v : Value) (ps : List Pp) (b : Nat) (w : World) (hp : Pipes w b v ps) :
    Calls Tryz.prog 31 #[.agg #[.int .i64 n, v], .int .i64 i, .int .i64 j] w fun e w' => ∃ r, e = .returned (.tuple #[r, .bool (greatB n ps i j)]) ∧ Ints w' w.heap.size r (greatF n ps i j) ∧ Below w.heap.size w w' := by
  have hp0 := hp
  obtain ⟨A, c, rfl, -, -, hsm, -⟩ := hp.form
  have bx0 := Box2.new w (.int .i64 n) (.slice A ps.length c) 25
  have hmk := fun W => run_make_ints (n := ps.length) hsm W
  go_enter Tryz.func31, Tryz.ntmps31
  go_wp2_with fail
  with_reducible refine (specFreeOk_any n _ ps b _ (hp0.keep (by (repeat (first | (with_reducible assumption) | (with_reducible exact Below.refl _ _) | ((with_reducible refine Below.alloc ?_ ?hsz _); (case hsz => (first | omega | (simp; done) | (simp; omega) | (simp at *; omega)))) | ((with_reducible refine Below.setCell ?_ ?hsz _); (case hsz => (first | omega | (simp; done) | (simp; omega) | (simp at *; omega)))) | (with_reducible refine Below.drew ?_) | (with_reducible refine below_drewN ?_ _) | ((with_reducible refine Below.trans ?_ (Below.mono (by with_reducible assumption) ?hsz)); (case hsz => (first | omega | (simp; done) | (simp; omega) | (simp at *; omega))))))))).mono ?_
  rintro e w1 ⟨rfl, hb1⟩
  have bx1 := bx0.keep hb1
  have hB1 : Below w.heap.size w w1 := by (repeat (first | (with_reducible assumption) | (with_reducible exact Below.refl _ _) | ((with_reducible refine Below.alloc ?_ ?hsz _); (case hsz => (first | omega | (simp; done) | (simp; omega) | (simp at *; omega)))) | ((with_reducible refine Below.setCell ?_ ?hsz _); (case hsz => (first | omega | (simp; done) | (simp; omega) | (simp at *; omega)))) | (with_reducible refine Below.drew ?_) | (with_reducible refine below_drewN ?_ _) | ((with_reducible refine Below.trans ?_ (Below.mono (by with_reducible assumption) ?hsz)); (case hsz => (first | omega | (simp; done) | (simp; omega) | (simp at *; omega))))))
  have hz1 := hB1.size
  clear bx0 hb1
  obtain ⟨bs, d0, d1, -, -⟩ := id bx1
  by_cases hf : freeB n ps = true
  · rw [hf]
    go_wp2_with fail
    with_reducible refine (ends_any n i j _ ps b _ (hp0.keep hB1)).mono ?_
    rintro e w2 ⟨rfl, hb2⟩
    have bx2 := bx1.keep hb2
    have hB2 : Below w.heap.size w w2 := by (repeat (first | (with_reducible assumption) | (with_reducible exact Below.refl _ _) | ((with_reducible refine Below.alloc ?_ ?hsz _); (case hsz => (first | omega | (simp; done) | (simp; omega) | (simp at *; omega)))) | ((with_reducible refine Below.setCell ?_ ?hsz _); (case hsz => (first | omega | (simp; done) | (simp; omega) | (simp at *; omega)))) | (with_reducible refine Below.drew ?_) | (with_reducible refine below_drewN ?_ _) | ((with_reducible refine Below.trans ?_ (Below.mono (by with_reducible assumption) ?hsz)); (case hsz => (first | omega | (simp; done) | (simp; omega) | (simp at *; omega))))))
    have hz2 := hB2.size
    clear bx1 hb2 d0 d1 bs hB1
    obtain ⟨bs, d0, d1, -, -⟩ := id bx2
    by_cases he : endsB n ps i j = true
    · rw [he]
      have Hg : Hid (greatB n ps i j = true) := Lib.hid (by simp [greatB, hf, he])
      clear hf he
      go_wp2_with fail
      have hcall : Calls Tryz.prog 72 #[.agg #[.int .i64 n, .slice A ps.length c], .slice (some ⟨w2.heap.size, 0, none⟩) ps.length ps.length, .int .i64 i, .int .i64 j] (w2.alloc (.cells (madeCells #[.int .i64 0] ps.length) 3)).drew fun e w' => ∃ r, e = .returned r ∧ Ints w' w.heap.size r (greatF n ps i j) ∧ Below w2.heap.size w2 w' :=
        (specGreatest_any n i j _ _ ps b w2.heap.size w.heap.size _ ((hp0.keep hB2).keep (by (repeat (first | (with_reducible assumption) | (with_reducible exact Below.refl _ _) | ((with_reducible refine Below.alloc ?_ ?hsz _); (case hsz => (first | omega | (simp; done) | (simp; omega) | (simp at *; omega)))) | ((with_reducible refine Below.setCell ?_ ?hsz _); (case hsz => (first | omega | (simp; done) | (simp; omega) | (simp at *; omega)))) | (with_reducible refine Below.drew ?_) | (with_reducible refine below_drewN ?_ _) | ((with_reducible refine Below.trans ?_ (Below.mono (by with_reducible assumption) ?hsz)); (case hsz => (first | omega | (simp; done) | (simp; omega) | (simp at *; omega)))))))) (show Ints (w2.alloc (.cells (madeCells #[.int .i64 0] ps.length) 3)).drew w2.heap.size _ (zeros ps) from Ints_made w2 (Nat.le_refl _) hsm rfl) hz2 (by simp; omega) Hg.out).mono (by
          rintro e w' ⟨r, rfl, hr, hbb⟩
          exact ⟨r, rfl, hr, ((((Below.refl _ _).alloc (Nat.le_refl _) _).drew).trans (hbb.mono (by simp)))⟩)
      go_region_with ((go_at_call 72; (with_reducible refine hcall.mono ?_); rintro e w6 ⟨r6, rfl, hr6, hb6⟩))
      all_goals
        go_wp2
        go_ret2
        exact ⟨_, sret_vb Hg.out.symm, hr6, hB2.trans (hb6.mono hz2)⟩
    · have he' : endsB n ps i j = false := by simpa using he
      rw [he']
      have Hw : Hid (greatB n ps i j = false) := Lib.hid (by simp [greatB, he'])
      clear he hf he'
      go_wp2
      go_ret2
      exact ⟨_, sret_vb Hw.out.symm, by rw [great_no Hw.out]; exact Ints_empty2 _ _ (by (first | omega | (simp; done) | (simp; omega) | (simp at *; omega))) (by (first | omega | (simp; done) | (simp; omega) | (simp at *; omega))), by (repeat (first | (with_reducible assumption) | (with_reducible exact Below.refl _ _) | ((with_reducible refine Below.alloc ?_ ?hsz _); (case hsz => (first | omega | (simp; done) | (simp; omega) | (simp at *; omega)))) | ((with_reducible refine Below.setCell ?_ ?hsz _); (case hsz => (first | omega | (simp; done) | (simp; omega) | (simp at *; omega)))) | (with_reducible refine Below.drew ?_) | (with_reducible refine below_drewN ?_ _) | ((with_reducible refine Below.trans ?_ (Below.mono (by with_reducible assumption) ?hsz)); (case hsz => (first | omega | (simp; done) | (simp; omega) | (simp at *; omega))))))⟩
  · have hf' : freeB n ps = false := by simpa using hf
    rw [hf']
    have Hw : Hid (greatB n ps i j = false) := Lib.hid (by simp [greatB, hf'])
    clear hf hf'
    go_wp2
    go_ret2
    exact ⟨_, sret_vb Hw.out.symm, by rw [great_no Hw.out]; exact Ints_empty2 _ _ (by (first | omega | (simp; done) | (simp; omega) | (simp at *; omega))) (by (first | omega | (simp; done) | (simp; omega) | (simp at *; omega))), by (repeat (first | (with_reducible assumption) | (with_reducible exact Below.refl _ _) | ((with_reducible refine Below.alloc ?_ ?hsz _); (case hsz => (first | omega | (simp; done) | (simp; omega) | (simp at *; omega)))) | ((with_reducible refine Below.setCell ?_ ?hsz _); (case hsz => (first | omega | (simp; done) | (simp; omega) | (simp at *; omega)))) | (with_reducible refine Below.drew ?_) | (with_reducible refine below_drewN ?_ _) | ((with_reducible refine Below.trans ?_ (Below.mono (by with_reducible assumption) ?hsz)); (case hsz => (first | omega | (simp; done) | (simp; omega) | (simp at *; omega))))))⟩

end Go.Proofs.YtmgpekdhcghabaaGreat
