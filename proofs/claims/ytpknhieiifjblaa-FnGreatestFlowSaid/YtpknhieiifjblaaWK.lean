/- Contracts of the functions of chapter 3 in the program: GreatestValue, ReachedFrom. -/
import Derived.Test.YtpknhieiifjblaaWJ
import Derived.Test.YtpknhieiifjblaaW2
import Derived.Test.YtpknhieiifjblaaR
namespace Go.Proofs.Ytpknhieiifjblaa
open Go.RowKit

set_option maxHeartbeats 2000000 in
set_option maxRecDepth 20000 in
theorem greatestValue_any (n i j : Int) (v : Value) (ps : List Pp) (b : Nat) (w : World) (hp : Pipes w b v ps) :
    Calls Try.prog 41 #[.agg #[.int .i64 n, v], .int .i64 i, .int .i64 j] w fun e w' => e = .returned (.int .i64 (greatV n ps i j)) ∧ Below w.heap.size w w' := by
  have hp0 := hp
  obtain ⟨A, c, rfl, -, -, -, -⟩ := hp.form
  have bx0 := Box2.new w (.int .i64 n) (.slice A ps.length c) 25
  go_enter Try.func41, Try.ntmps41
  go_wp2_with fail
  with_reducible refine (greatestFlow_any n i j _ ps b _ (hp0.keep (by (repeat (first | (with_reducible assumption) | (with_reducible exact Below.refl _ _) | ((with_reducible refine Below.alloc ?_ ?hsz _); (case hsz => (first | omega | (simp; done) | (simp; omega) | (simp at *; omega)))) | ((with_reducible refine Below.setCell ?_ ?hsz _); (case hsz => (first | omega | (simp; done) | (simp; omega) | (simp at *; omega)))) | (with_reducible refine Below.drew ?_) | (with_reducible refine below_drewN ?_ _) | ((with_reducible refine Below.trans ?_ (Below.mono (by with_reducible assumption) ?hsz)); (case hsz => (first | omega | (simp; done) | (simp; omega) | (simp at *; omega))))))))).mono ?_
  rintro e w1 ⟨r, rfl, hr, hb1⟩
  have bx1 := bx0.keep hb1
  have hB1 : Below w.heap.size w w1 := by (repeat (first | (with_reducible assumption) | (with_reducible exact Below.refl _ _) | ((with_reducible refine Below.alloc ?_ ?hsz _); (case hsz => (first | omega | (simp; done) | (simp; omega) | (simp at *; omega)))) | ((with_reducible refine Below.setCell ?_ ?hsz _); (case hsz => (first | omega | (simp; done) | (simp; omega) | (simp at *; omega)))) | (with_reducible refine Below.drew ?_) | (with_reducible refine below_drewN ?_ _) | ((with_reducible refine Below.trans ?_ (Below.mono (by with_reducible assumption) ?hsz)); (case hsz => (first | omega | (simp; done) | (simp; omega) | (simp at *; omega))))))
  clear bx0 hb1
  obtain ⟨bs, d0, d1, -, -⟩ := id bx1
  by_cases hg : greatB n ps i j = true
  · rw [hg]
    have Hv : Hid (greatV n ps i j = exc j ps (greatF n ps i j)) := Lib.hid (by rw [greatV, if_pos hg])
    have Hf := Lib.hid (holds_parts (great_holds hg)).1
    clear hg
    go_wp2_with fail
    with_reducible refine (excessOf_any j n _ _ ps _ b _ _ (hp0.keep hB1) hr Hf.out).mono ?_
    rintro e w2 ⟨rfl, hb2⟩
    go_wp2
    go_ret
    exact ⟨ret_int Hv.out.symm, by (repeat (first | (with_reducible assumption) | (with_reducible exact Below.refl _ _) | ((with_reducible refine Below.alloc ?_ ?hsz _); (case hsz => (first | omega | (simp; done) | (simp; omega) | (simp at *; omega)))) | ((with_reducible refine Below.setCell ?_ ?hsz _); (case hsz => (first | omega | (simp; done) | (simp; omega) | (simp at *; omega)))) | (with_reducible refine Below.drew ?_) | (with_reducible refine below_drewN ?_ _) | ((with_reducible refine Below.trans ?_ (Below.mono (by with_reducible assumption) ?hsz)); (case hsz => (first | omega | (simp; done) | (simp; omega) | (simp at *; omega))))))⟩
  · have hg' : greatB n ps i j = false := by simpa using hg
    rw [hg']
    have Hv : Hid (greatV n ps i j = -1) := Lib.hid (by rw [greatV, if_neg hg])
    clear hg hg'
    go_wp2
    go_ret
    exact ⟨ret_int Hv.out.symm, by (repeat (first | (with_reducible assumption) | (with_reducible exact Below.refl _ _) | ((with_reducible refine Below.alloc ?_ ?hsz _); (case hsz => (first | omega | (simp; done) | (simp; omega) | (simp at *; omega)))) | ((with_reducible refine Below.setCell ?_ ?hsz _); (case hsz => (first | omega | (simp; done) | (simp; omega) | (simp at *; omega)))) | (with_reducible refine Below.drew ?_) | (with_reducible refine below_drewN ?_ _) | ((with_reducible refine Below.trans ?_ (Below.mono (by with_reducible assumption) ?hsz)); (case hsz => (first | omega | (simp; done) | (simp; omega) | (simp at *; omega))))))⟩

theorem wrap_pow {k : Nat} (hk : k ≤ 4) : wrap64 (2 ^ k) = 2 ^ k := (shl_in5 (k := (k : Int)) (by omega) (by omega)).2.1
theorem reach_no1 {n : Int} {ps : List Pp} {xs : List Int} {a : Int} (h : holdsB n ps xs = false) : reachS n ps xs a = -1 := by rw [reachS, if_neg (by simp [reachB, h])]
theorem reach_no2 {n : Int} {ps : List Pp} {xs : List Int} {a : Int} (h : withinB a 0 (n - 1) = false) : reachS n ps xs a = -1 := by rw [reachS, if_neg (by simp [reachB, h])]

set_option maxHeartbeats 4000000 in
set_option maxRecDepth 20000 in
theorem reachedFrom_any (n i : Int) (v u : Value) (ps : List Pp) (xs : List Int) (b b' : Nat) (w : World) (hp : Pipes w b v ps) (hx : Ints w b' u xs) :
    Calls Try.prog 30 #[.agg #[.int .i64 n, v], u, .int .i64 i] w fun e w' => e = .returned (.int .i64 (reachS n ps xs i)) ∧ Below w.heap.size w w' := by
  have hp0 := hp
  have hx0 := hx
  obtain ⟨A, c, rfl, -, -, -, -⟩ := hp.form
  obtain ⟨A', c', rfl, -, -, -, -⟩ := hx.form
  have bx0 := Box2.new w (.int .i64 n) (.slice A ps.length c) 25
  go_enter Try.func30, Try.ntmps30
  go_wp2_with fail
  with_reducible refine (holdsOk_any n _ _ ps xs b b' _ (hp0.keep (by (repeat (first | (with_reducible assumption) | (with_reducible exact Below.refl _ _) | ((with_reducible refine Below.alloc ?_ ?hsz _); (case hsz => (first | omega | (simp; done) | (simp; omega) | (simp at *; omega)))) | ((with_reducible refine Below.setCell ?_ ?hsz _); (case hsz => (first | omega | (simp; done) | (simp; omega) | (simp at *; omega)))) | (with_reducible refine Below.drew ?_) | (with_reducible refine below_drewN ?_ _) | ((with_reducible refine Below.trans ?_ (Below.mono (by with_reducible assumption) ?hsz)); (case hsz => (first | omega | (simp; done) | (simp; omega) | (simp at *; omega)))))))) (hx0.keep (by (repeat (first | (with_reducible assumption) | (with_reducible exact Below.refl _ _) | ((with_reducible refine Below.alloc ?_ ?hsz _); (case hsz => (first | omega | (simp; done) | (simp; omega) | (simp at *; omega)))) | ((with_reducible refine Below.setCell ?_ ?hsz _); (case hsz => (first | omega | (simp; done) | (simp; omega) | (simp at *; omega)))) | (with_reducible refine Below.drew ?_) | (with_reducible refine below_drewN ?_ _) | ((with_reducible refine Below.trans ?_ (Below.mono (by with_reducible assumption) ?hsz)); (case hsz => (first | omega | (simp; done) | (simp; omega) | (simp at *; omega))))))))).mono ?_
  rintro e w1 ⟨rfl, hb1⟩
  have bx1 := bx0.keep hb1
  have hB1 : Below w.heap.size w w1 := by (repeat (first | (with_reducible assumption) | (with_reducible exact Below.refl _ _) | ((with_reducible refine Below.alloc ?_ ?hsz _); (case hsz => (first | omega | (simp; done) | (simp; omega) | (simp at *; omega)))) | ((with_reducible refine Below.setCell ?_ ?hsz _); (case hsz => (first | omega | (simp; done) | (simp; omega) | (simp at *; omega)))) | (with_reducible refine Below.drew ?_) | (with_reducible refine below_drewN ?_ _) | ((with_reducible refine Below.trans ?_ (Below.mono (by with_reducible assumption) ?hsz)); (case hsz => (first | omega | (simp; done) | (simp; omega) | (simp at *; omega))))))
  have hz1 := hB1.size
  clear bx0 hb1
  obtain ⟨bs, d0, d1, -, -⟩ := id bx1
  by_cases hh : holdsB n ps xs = true
  · rw [hh]
    have hnk := holds_net hh
    obtain ⟨n2, n5, hl7, -⟩ := netOk_parts hnk
    go_wp2_with fail
    with_reducible refine (nodeOk_any n i _ (by omega) (by omega)).mono ?_
    rintro e w2 ⟨rfl, rfl⟩
    by_cases hi : withinB i 0 (n - 1) = true
    · rw [hi]
      have hrb : reachB n ps xs i = true := by simp [reachB, hh, hi]
      obtain ⟨-, -, -, -, i0, i1⟩ := reach_parts hrb
      have Hr := Lib.hid (reach_yes hrb)
      have HN := Lib.hid hnk
      obtain ⟨hfl, -, hlen⟩ := holds_parts hh
      have HH := Lib.hid (And.intro hlen (And.intro (flowOk_parts hfl).2.2 (net_rooms hnk)))
      clear hh hi hrb hnk hfl hlen
      obtain ⟨N, rfl⟩ : ∃ N : Nat, n = (N : Int) := ⟨n.toNat, by omega⟩
      obtain ⟨a, rfl⟩ : ∃ a : Nat, i = (a : Int) := ⟨i.toNat, by omega⟩
      go_wp2_with fail
      with_reducible refine (openSteps_any _ _ ps xs b b' _ (hp0.keep hB1) (hx0.keep hB1) hl7 HH.out.1 HH.out.2.1 HH.out.2.2).mono ?_
      rintro e w3 ⟨r1, rfl, hr1, hb3⟩
      have bx3 := bx1.keep hb3
      have hB3 : Below w.heap.size w w3 := by (repeat (first | (with_reducible assumption) | (with_reducible exact Below.refl _ _) | ((with_reducible refine Below.alloc ?_ ?hsz _); (case hsz => (first | omega | (simp; done) | (simp; omega) | (simp at *; omega)))) | ((with_reducible refine Below.setCell ?_ ?hsz _); (case hsz => (first | omega | (simp; done) | (simp; omega) | (simp at *; omega)))) | (with_reducible refine Below.drew ?_) | (with_reducible refine below_drewN ?_ _) | ((with_reducible refine Below.trans ?_ (Below.mono (by with_reducible assumption) ?hsz)); (case hsz => (first | omega | (simp; done) | (simp; omega) | (simp at *; omega))))))
      have hz3 := hB3.size
      obtain ⟨A1, c1, rfl, -, -, -, -⟩ := hr1.form
      obtain ⟨m1, hm1⟩ : ∃ m, (openL ps xs).length = m := ⟨_, rfl⟩
      rw [hm1] at hr1 ⊢
      clear bs d0 d1 bx1 hb3 hm1
      obtain ⟨bs, d0, d1, -, -⟩ := id bx3
      go_wp2_with fail
      go_loopw [27, 8] (fun t s wr => ∃ k : Nat, k ≤ N ∧ t = .int .i64 k ∧ s = .int .i64 (sideOf (reachF N ps xs a) k) ∧ Box2 wr w.heap.size (.int .i64 N) (.slice A ps.length c) ∧ Below w3.heap.size w3 wr) (fun t _ _ => N - (intOf t).toNat)
      case atStart => exact ⟨0, by omega, rfl, rfl, bx3, Below.refl _ _⟩
      case round =>
        clear bs d0 d1 bx3
        obtain ⟨k, hk, rfl, rfl, bx, hb⟩ := hrel
        have hzb := hb.size
        obtain ⟨bs, d0, d1, -, -⟩ := id bx
        by_cases hlt : k < N
        · have hBr : Below w.heap.size w wr := hB3.trans (hb.mono hz3)
          have hstep : ∀ W : World, ∀ b2 vv uu, Pipes W b vv ps → Ints W b2 uu (openL ps xs) → Calls Try.prog 79 #[.agg #[.int .i64 N, vv], uu, .int .i64 (k : Int)] W fun e w' => ∃ (g cl : Nat), e = .returned (.slice (some ⟨g, 0, none⟩) N cl) ∧ Row w' W.heap.size g N cl (dstL (edgL ps xs) N k) ∧ Below W.heap.size W w' := fun W b2 vv uu h1 h2 =>
            (stepsLeft_any N k vv uu ps xs b b2 W h1 h2 HN.out (by omega) (by omega)).mono (by
              rintro e w' ⟨r, rfl, hr, hbb⟩
              rw [Int.toNat_natCast] at hr
              obtain ⟨g, cl, rfl, hR⟩ := hr.row (by rw [dstL_len]; omega)
              rw [dstL_len] at hR ⊢
              exact ⟨g, cl, rfl, hR, hbb⟩)
          obtain ⟨m, hm⟩ : ∃ m : Nat, dst (edgL ps xs) N (a : Int) (k : Int) = m := ⟨_, rfl⟩
          have hmN : m ≤ N := hm ▸ dst_le_n
          have hF : reachF N ps xs a k = decide (m < N) := by rw [reachF, dis]; simp only [Int.toNat_natCast, hm]
          have hget : (dstL (edgL ps xs) N k).getD a 0 = (m : Int) := by rw [dstL_at (by omega), hm]
          have haN : (a : Int) < (N : Int) := i1
          go_wp2_with fail
          go_region_with
            ((go_at_call 79; (with_reducible refine (hstep _ _ _ _ ((hp0.keep hBr).keep (by (repeat (first | (with_reducible assumption) | (with_reducible exact Below.refl _ _) | ((with_reducible refine Below.alloc ?_ ?hsz _); (case hsz => (first | omega | (simp; done) | (simp; omega) | (simp at *; omega)))) | ((with_reducible refine Below.setCell ?_ ?hsz _); (case hsz => (first | omega | (simp; done) | (simp; omega) | (simp at *; omega)))) | (with_reducible refine Below.drew ?_) | (with_reducible refine below_drewN ?_ _) | ((with_reducible refine Below.trans ?_ (Below.mono (by with_reducible assumption) ?hsz)); (case hsz => (first | omega | (simp; done) | (simp; omega) | (simp at *; omega)))))))) ((hr1.keep hb).keep (by (repeat (first | (with_reducible assumption) | (with_reducible exact Below.refl _ _) | ((with_reducible refine Below.alloc ?_ ?hsz _); (case hsz => (first | omega | (simp; done) | (simp; omega) | (simp at *; omega)))) | ((with_reducible refine Below.setCell ?_ ?hsz _); (case hsz => (first | omega | (simp; done) | (simp; omega) | (simp at *; omega)))) | (with_reducible refine Below.drew ?_) | (with_reducible refine below_drewN ?_ _) | ((with_reducible refine Below.trans ?_ (Below.mono (by with_reducible assumption) ?hsz)); (case hsz => (first | omega | (simp; done) | (simp; omega) | (simp at *; omega))))))))).mono ?_); rintro e w6 ⟨g6, cl6, rfl, hR6, hb6⟩; have hz6 := hb6.size; obtain ⟨y0, -⟩ := hR6.at' a (by omega); rw [hget] at y0; have hcp := hR6.capd; have hlg := hR6.lt; unfold maxLen at hcp; have hc60 := (hb6.cell (p := ⟨w.heap.size, 0, none⟩) bs).trans d0; have hc61 := (hb6.cell (p := ⟨w.heap.size, 1, none⟩) bs).trans d1))
          all_goals
            have hb66 : Below wr.heap.size wr w6 := ((Below.refl _ _).drew).trans hb6
            have bx6 := bx.keep hb66
            have hb36 : Below w3.heap.size w3 w6 := hb.trans (hb66.mono hzb)
            simp only [Act.put, List.setIfInBounds_toArray]
            clear hb6 hb66 hR6 y0 hc60 hc61 bx d0 d1 bs hcp hlg
            obtain ⟨bs, d0, d1, -, -⟩ := id bx6
            by_cases hmn : m < N
            · have hmd : decide ((m : Int) < (N : Int)) = true := by simp; omega
              have hs1 : sideOf (reachF N ps xs a) (k + 1) = sideOf (reachF N ps xs a) k + 2 ^ k := by rw [sideOf, hF]; simp [hmn]
              obtain ⟨s0, s1⟩ := sideOf_in (reachF N ps xs a) k
              have hor := or_pow s0 s1 (show k ≤ 4 by omega)
              rw [← hs1] at hor
              have Hor := Lib.hid hor
              clear hor hs1 s0 s1
              generalize sideOf (reachF N ps xs a) k = sk at *
              have HW : Hid (wrap64 (2 ^ k) = 2 ^ k) := Lib.hid (wrap_pow (by omega))
              go_wp2
              go_roundw
              case rel => exact ⟨k + 1, by omega, by go_num, by rw [HW.out, Hor.out], bx6, hb36⟩
              case measure => simp [intOf]; omega
            · have hmd : decide ((m : Int) < (N : Int)) = false := by simp; omega
              have hs1 : sideOf (reachF N ps xs a) (k + 1) = sideOf (reachF N ps xs a) k := by rw [sideOf, hF]; simp [hmn]
              have HS1 := Lib.hid hs1
              clear hs1
              generalize sideOf (reachF N ps xs a) k = sk at *
              go_wp2
              go_roundw
              case rel => exact ⟨k + 1, by omega, by go_num, by rw [HS1.out], bx6, hb36⟩
              case measure => simp [intOf]; omega
        · have hk2 : k = N := by omega
          subst hk2
          go_wp2
          go_ret
          exact ⟨ret_int (by rw [Hr.out]; rfl), hB3.trans (hb.mono hz3)⟩
    · have hi' : withinB i 0 (n - 1) = false := by simpa using hi
      rw [hi']
      have Hr := Lib.hid (reach_no2 (ps := ps) (xs := xs) hi')
      clear hh hi hi' hnk
      go_wp2
      go_ret
      exact ⟨ret_int Hr.out.symm, by (repeat (first | (with_reducible assumption) | (with_reducible exact Below.refl _ _) | ((with_reducible refine Below.alloc ?_ ?hsz _); (case hsz => (first | omega | (simp; done) | (simp; omega) | (simp at *; omega)))) | ((with_reducible refine Below.setCell ?_ ?hsz _); (case hsz => (first | omega | (simp; done) | (simp; omega) | (simp at *; omega)))) | (with_reducible refine Below.drew ?_) | (with_reducible refine below_drewN ?_ _) | ((with_reducible refine Below.trans ?_ (Below.mono (by with_reducible assumption) ?hsz)); (case hsz => (first | omega | (simp; done) | (simp; omega) | (simp at *; omega))))))⟩
  · have hh' : holdsB n ps xs = false := by simpa using hh
    rw [hh']
    have Hr := Lib.hid (reach_no1 (a := i) hh')
    clear hh hh'
    go_wp2
    go_ret
    exact ⟨ret_int Hr.out.symm, by (repeat (first | (with_reducible assumption) | (with_reducible exact Below.refl _ _) | ((with_reducible refine Below.alloc ?_ ?hsz _); (case hsz => (first | omega | (simp; done) | (simp; omega) | (simp at *; omega)))) | ((with_reducible refine Below.setCell ?_ ?hsz _); (case hsz => (first | omega | (simp; done) | (simp; omega) | (simp at *; omega)))) | (with_reducible refine Below.drew ?_) | (with_reducible refine below_drewN ?_ _) | ((with_reducible refine Below.trans ?_ (Below.mono (by with_reducible assumption) ?hsz)); (case hsz => (first | omega | (simp; done) | (simp; omega) | (simp at *; omega))))))⟩

end Go.Proofs.Ytpknhieiifjblaa
