/- FnWayFrom: for every code the law holds: the program finds the model's way; each step of it begins where the one before ends, it leads from node to node, there is one exactly if the other node is reached, and it has fewer steps than there are nodes. No condition. -/
import Derived.Test.YtpknhieiifjblaaL1
import Derived.Test.YtpknhieiifjblaaLA
import Derived.Test.YtpknhieiifjblaaDC
import Derived.Test.YtpknhieiifjblaaWK
import Derived.Test.YtpknhieiifjblaaSI
import Derived.Test.YtpknhieiifjblaaMG
namespace Go.Proofs.Ytpknhieiifjblaa.lawWayFrom
open Go.ChangeShapes Go.WideShapes Go.ChangeAt Go.RowKit Go.Deep Go.Joins

theorem shr_bit0 {i : Int} (h : 0 ≤ i) (k : Nat) : ((i / 2 ^ k).tmod 2 == 0) = !bitB i (k : Int) := by
  rw [← shr_bitB h k]
  have h2 : 0 ≤ i / 2 ^ k := Int.ediv_nonneg h (by exact_mod_cast Nat.zero_le _)
  rw [Int.tmod_eq_emod_of_nonneg h2]
  generalize i / 2 ^ k = x
  rcases (show x % 2 = 0 ∨ x % 2 = 1 by omega) with h3 | h3 <;> simp [h3]

theorem way_bit {n : Int} {ps : List Pp} {xs : List Int} {a b : Int} (h : reachB n ps xs a = true) (b0 : 0 ≤ b) (b1 : b < n) (hab : a ≠ b) : bitB (reachI n ps xs a) b = wayB n ps xs a b := by
  obtain ⟨hh, hn, n2, n5, a0, a1⟩ := reach_parts h
  obtain ⟨J, rfl⟩ : ∃ J : Nat, b = (J : Int) := ⟨b.toNat, by omega⟩
  have he : endsB n ps a J = true := by simp [endsB, hn, withinB, hab]; omega
  rw [reachI, sideOf_bit _ (by omega) (by omega), wayB, hh, he, reachF]
  have : decide (J < n.toNat) = true := decide_eq_true (by omega)
  rw [this]
  rfl

set_option maxHeartbeats 4000000 in
set_option maxRecDepth 20000 in
theorem walk (v : Value) (n : Nat) (w : World) (h : ArgBytes w v n) :
    Calls Try.prog 5 #[v] w fun e w' => e = .returned (.bool true) ∧ Below w.heap.size w w' := by
  obtain ⟨A, c, rfl, hc1, hc2, -⟩ := id h
  unfold maxLen at hc2
  by_cases hbig : 1048576 < n
  · go_enter Try.func5, Try.ntmps5
    go_wp2
    go_ret
    exact ⟨rfl, by (repeat (first | (with_reducible assumption) | (with_reducible exact Below.refl _ _) | ((with_reducible refine Below.alloc ?_ ?hsz _); (case hsz => (first | omega | (simp; done) | (simp; omega) | (simp at *; omega)))) | ((with_reducible refine Below.setCell ?_ ?hsz _); (case hsz => (first | omega | (simp; done) | (simp; omega) | (simp at *; omega)))) | (with_reducible refine Below.drew ?_) | (with_reducible refine below_drewN ?_ _) | ((with_reducible refine Below.trans ?_ (Below.mono (by with_reducible assumption) ?hsz)); (case hsz => (first | omega | (simp; done) | (simp; omega) | (simp at *; omega))))))⟩
  go_enter Try.func5, Try.ntmps5
  go_wp2_with fail
  with_reducible refine (drawWayFrom_any _ n _ (h.keep (by (repeat (first | (with_reducible assumption) | (with_reducible exact Below.refl _ _) | ((with_reducible refine Below.alloc ?_ ?hsz _); (case hsz => (first | omega | (simp; done) | (simp; omega) | (simp at *; omega)))) | ((with_reducible refine Below.setCell ?_ ?hsz _); (case hsz => (first | omega | (simp; done) | (simp; omega) | (simp at *; omega)))) | (with_reducible refine Below.drew ?_) | (with_reducible refine below_drewN ?_ _) | ((with_reducible refine Below.trans ?_ (Below.mono (by with_reducible assumption) ?hsz)); (case hsz => (first | omega | (simp; done) | (simp; omega) | (simp at *; omega))))))))).mono ?_
  rintro e w1 ⟨z, ps, u, xs, t, i, j, rfl, hp, hx, hlen, hb1, hl8, hz1, hz6, hi0, hj0, hiz⟩
  have hBw1 : Below w.heap.size w w1 := by (repeat (first | (with_reducible assumption) | (with_reducible exact Below.refl _ _) | ((with_reducible refine Below.alloc ?_ ?hsz _); (case hsz => (first | omega | (simp; done) | (simp; omega) | (simp at *; omega)))) | ((with_reducible refine Below.setCell ?_ ?hsz _); (case hsz => (first | omega | (simp; done) | (simp; omega) | (simp at *; omega)))) | (with_reducible refine Below.drew ?_) | (with_reducible refine below_drewN ?_ _) | ((with_reducible refine Below.trans ?_ (Below.mono (by with_reducible assumption) ?hsz)); (case hsz => (first | omega | (simp; done) | (simp; omega) | (simp at *; omega))))))
  clear h hc1 hc2 hbig
  obtain ⟨A1, c1, rfl, hk1, hk2, hsm, -⟩ := hp.form
  unfold maxLen at hk2
  have bx1 : Box2 (w1.alloc (.cells #[.int .i64 z, .slice A1 ps.length c1] 25)) w1.heap.size (.int .i64 z) (.slice A1 ps.length c1) := Box2.new _ _ _ _
  have hB1 : Below w1.heap.size w1 (w1.alloc (.cells #[.int .i64 z, .slice A1 ps.length c1] 25)) := by (repeat (first | (with_reducible assumption) | (with_reducible exact Below.refl _ _) | ((with_reducible refine Below.alloc ?_ ?hsz _); (case hsz => (first | omega | (simp; done) | (simp; omega) | (simp at *; omega)))) | ((with_reducible refine Below.setCell ?_ ?hsz _); (case hsz => (first | omega | (simp; done) | (simp; omega) | (simp at *; omega)))) | (with_reducible refine Below.drew ?_) | (with_reducible refine below_drewN ?_ _) | ((with_reducible refine Below.trans ?_ (Below.mono (by with_reducible assumption) ?hsz)); (case hsz => (first | omega | (simp; done) | (simp; omega) | (simp at *; omega))))))
  obtain ⟨A4, c4, rfl, xk1, xk2, xk3, -⟩ := hx.form
  unfold maxLen at xk2
  rw [hlen] at hx xk1 ⊢
  go_wp2_with fail
  with_reducible refine (wayFrom_any z i j _ _ ps xs _ _ _ (hp.keep hB1) (hx.keep hB1)).mono ?_
  rintro e w2 ⟨r2, rfl, hr2, hnn⟩
  have bx2 := bx1.keep hnn
  have hB2 : Below w1.heap.size w1 w2 := by (repeat (first | (with_reducible assumption) | (with_reducible exact Below.refl _ _) | ((with_reducible refine Below.alloc ?_ ?hsz _); (case hsz => (first | omega | (simp; done) | (simp; omega) | (simp at *; omega)))) | ((with_reducible refine Below.setCell ?_ ?hsz _); (case hsz => (first | omega | (simp; done) | (simp; omega) | (simp at *; omega)))) | (with_reducible refine Below.drew ?_) | (with_reducible refine below_drewN ?_ _) | ((with_reducible refine Below.trans ?_ (Below.mono (by with_reducible assumption) ?hsz)); (case hsz => (first | omega | (simp; done) | (simp; omega) | (simp at *; omega))))))
  clear hnn
  obtain ⟨bs, d0, d1, g0, g1⟩ := id bx2
  go_wp2_with fail
  with_reducible refine (specWayFrom_any z i j _ _ ps xs _ _ _ (hp.keep hB2) (hx.keep hB2)).mono ?_
  rintro e w3 ⟨r3, rfl, hr3, hnn⟩
  have bx3 := bx2.keep hnn
  have hB3 : Below w1.heap.size w1 w3 := by (repeat (first | (with_reducible assumption) | (with_reducible exact Below.refl _ _) | ((with_reducible refine Below.alloc ?_ ?hsz _); (case hsz => (first | omega | (simp; done) | (simp; omega) | (simp at *; omega)))) | ((with_reducible refine Below.setCell ?_ ?hsz _); (case hsz => (first | omega | (simp; done) | (simp; omega) | (simp at *; omega)))) | (with_reducible refine Below.drew ?_) | (with_reducible refine below_drewN ?_ _) | ((with_reducible refine Below.trans ?_ (Below.mono (by with_reducible assumption) ?hsz)); (case hsz => (first | omega | (simp; done) | (simp; omega) | (simp at *; omega))))))
  have hr23 := hr2.keep hnn
  clear hnn hr2 d0 d1 g0 g1
  obtain ⟨bs, d0, d1, g0, g1⟩ := id bx3
  have hwl := wayI_len z ps xs i j
  obtain ⟨M, hM⟩ : ∃ M, (wayI z ps xs i j).length = M := ⟨_, rfl⟩
  obtain ⟨A2, c2, rfl, q1, q2, q3, -⟩ := hr23.form
  obtain ⟨A3, c3, rfl, k1, k2, k3, -⟩ := hr3.form
  unfold maxLen at q2 k2
  rw [hM] at hr23 hr3 q1 k1 hwl ⊢
  have HM := Lib.hid hM
  clear hM
  go_wp2_with fail
  with_reducible refine (sameInts_any _ _ (wayI z ps xs i j) (wayI z ps xs i j) _ _ _ hr23 hr3).mono ?_
  rintro e w4 ⟨rfl, hnn⟩
  have bx4 := bx3.keep hnn
  have hr34 := hr3.keep hnn
  have hB4 : Below w1.heap.size w1 w4 := by (repeat (first | (with_reducible assumption) | (with_reducible exact Below.refl _ _) | ((with_reducible refine Below.alloc ?_ ?hsz _); (case hsz => (first | omega | (simp; done) | (simp; omega) | (simp at *; omega)))) | ((with_reducible refine Below.setCell ?_ ?hsz _); (case hsz => (first | omega | (simp; done) | (simp; omega) | (simp at *; omega)))) | (with_reducible refine Below.drew ?_) | (with_reducible refine below_drewN ?_ _) | ((with_reducible refine Below.trans ?_ (Below.mono (by with_reducible assumption) ?hsz)); (case hsz => (first | omega | (simp; done) | (simp; omega) | (simp at *; omega))))))
  clear hnn d0 d1 g0 g1 hr23 hr3
  obtain ⟨bs, d0, d1, g0, g1⟩ := id bx4
  have hdec : decide (wayI z ps xs i j = wayI z ps xs i j) = true := by simp
  rw [hdec]
  clear hdec
  go_wp2_with fail
  with_reducible refine (reachedFrom_any z i _ _ ps xs _ _ _ (hp.keep hB4) (hx.keep hB4)).mono ?_
  rintro e w5 ⟨rfl, hnn⟩
  have bx5 := bx4.keep hnn
  have hr35 := hr34.keep hnn
  have hB5 : Below w1.heap.size w1 w5 := by (repeat (first | (with_reducible assumption) | (with_reducible exact Below.refl _ _) | ((with_reducible refine Below.alloc ?_ ?hsz _); (case hsz => (first | omega | (simp; done) | (simp; omega) | (simp at *; omega)))) | ((with_reducible refine Below.setCell ?_ ?hsz _); (case hsz => (first | omega | (simp; done) | (simp; omega) | (simp at *; omega)))) | (with_reducible refine Below.drew ?_) | (with_reducible refine below_drewN ?_ _) | ((with_reducible refine Below.trans ?_ (Below.mono (by with_reducible assumption) ?hsz)); (case hsz => (first | omega | (simp; done) | (simp; omega) | (simp at *; omega))))))
  clear hnn d0 d1 g0 g1 hr34
  obtain ⟨bs, d0, d1, g0, g1⟩ := id bx5
  by_cases hw : wayB z ps xs i j = true
  · obtain ⟨hh, he, hds⟩ := wayB_parts hw
    obtain ⟨hok, i0, i1, j0, j1, hij⟩ := ends_parts he
    have hn := netOk_parts hok
    have hn5 := hn.2.1
    obtain ⟨w1l, w0, wch, wst, -⟩ := wayR_ok hw
    have hMl : (wayR z ps xs i j).length = M := by have := HM.out; rw [wayI, List.length_map] at this; exact this
    have hMz : M < z.toNat := by omega
    have hrb : reachB z ps xs i = true := by simp [reachB, hh, withinB]; omega
    obtain ⟨J, rfl⟩ : ∃ J : Nat, j = (J : Int) := ⟨j.toNat, by omega⟩
    have hbit := way_bit hrb hj0 j1 hij
    rw [hw] at hbit
    obtain ⟨s0, s1⟩ := reach_in z ps xs i
    have hsh := shr_bitB s0 J
    rw [hbit] at hsh
    have hrs := reach_yes hrb
    rw [hw, hrs]
    have HW := Lib.hid (And.intro hMl (And.intro wch (And.intro wst (And.intro hh (And.intro hMz hsh)))))
    clear hMl wch wst hh hMz hsh hbit hrs hrb hw he hok hn w1l w0 hds
    generalize reachI z ps xs i = g at *
    go_wp2_with fail
    go_loopw [12, 13] (fun t12 t13 wr => ∃ (k : Nat) (now : Int), k ≤ M ∧ t13 = .int .i64 k ∧ t12 = .int .i64 now ∧ chain ps now J ((wayR z ps xs i J).drop k) ∧ Box2 wr w1.heap.size (.int .i64 z) (.slice A1 ps.length c1) ∧ Below w1.heap.size w1 wr ∧ Below w5.heap.size w5 wr) (fun _ t _ => M - (intOf t).toNat)
    case atStart => exact ⟨0, i, by omega, rfl, rfl, HW.out.2.1, bx5, hB5, Below.refl _ _⟩
    case round =>
      obtain ⟨k, now, hk, rfl, rfl, hch, bx, hB, hb5⟩ := hrel
      clear d0 d1 g0 g1 bs bx5
      obtain ⟨bs, d0, d1, g0, g1⟩ := id bx
      have hs5 := hb5.size
      by_cases hlt : k < M
      · have hkl : k < (wayR z ps xs i J).length := by rw [HW.out.1]; exact hlt
        rw [List.drop_eq_getElem_cons hkl] at hch
        obtain ⟨hs1, hs2⟩ := HW.out.2.2.1 _ (List.getElem_mem hkl)
        have hwk : k < (wayI z ps xs i J).length := by rw [HM.out]; exact hlt
        obtain ⟨gw, rfl, gw1, gw2, cw, -⟩ := hr35.cellAt hb5 k hwk
        have hws : (wayI z ps xs i J)[k] = (((wayR z ps xs i J)[k] : Nat) : Int) := by simp [wayI]
        rw [hws] at cw
        generalize (wayR z ps xs i J)[k] = s at *
        obtain ⟨-, hfr, hch2⟩ := hch
        obtain ⟨kk, hkk⟩ : ∃ kk, s / 2 = kk := ⟨_, rfl⟩
        have hkp : kk < ps.length := by omega
        have hkx : kk < xs.length := by omega
        obtain ⟨gp, rfl, gp1, gp2, p0, p1, p2, p3, p4⟩ := hp.cellAt hB kk hkp
        obtain ⟨gx, rfl, gx1, gx2, x0, -⟩ := hx.cellAt hB kk hkx
        have hgw := Nat.lt_of_lt_of_le gw2 hs5
        have hgp : gp < wr.heap.size := Nat.lt_of_lt_of_le gp2 hB.size
        have hgx : gx < wr.heap.size := Nat.lt_of_lt_of_le gx2 hB.size
        have hfl := (holds_parts HW.out.2.2.2.1).1
        obtain ⟨hnk, -, hbd⟩ := flowOk_parts hfl
        obtain ⟨y0, y1⟩ := hbd _ (List.getElem_mem hkx)
        obtain ⟨l0, l1, l2⟩ := net_rooms hnk _ (List.getElem_mem hkp)
        have hq : (s : Int) / 2 = (kk : Int) := by omega
        have hq2 : (s : Int).tdiv 2 = (kk : Int) := by rw [Int.tdiv_eq_ediv_of_nonneg (Int.natCast_nonneg s)]; exact hq
        have hq3 : IntKind.i64.wrap (kk : Int) = (kk : Int) := IntWalk.i64_in _ (by omega)
        have hq4 : (0 : Int) ≤ (kk : Int) := by omega
        have Hch := Lib.hid hch2
        clear hws hch2 hfl hnk hbd
        rcases (show s % 2 = 1 ∨ s % 2 = 0 by omega) with hm | hm
        · obtain ⟨e1, e2, e3⟩ := st_odd (xs := xs) hm hkk hkp hkx
          have hm1 : ((s : Int) % 2 == 1) = true := by rw [beq_iff_eq]; omega
          have hm2 : ((s : Int).tmod 2 == 1) = true := by rw [beq_iff_eq, Int.tmod_eq_emod_of_nonneg (Int.natCast_nonneg s)]; omega
          rw [e1] at hfr
          rw [e3] at hs2
          subst hfr
          have hrm : decide (xs[kk] - ps[kk].le < 1) = false := decide_eq_false (by omega)
          have HE := Lib.hid e2
          clear e1 e2 e3 hm hkk hs1
          go_wp2_with fail
          go_region
          go_wp2_with fail
          go_quiet (fail)
          go_wp2_with fail
          go_quiet (fail)
          go_wp2
          go_roundw
          case rel => exact ⟨k + 1, ps[kk].fr, by omega, by go_num, rfl, by have h1 := Hch.out; rw [HE.out] at h1; exact h1, bx.keep (by (repeat (first | (with_reducible assumption) | (with_reducible exact Below.refl _ _) | ((with_reducible refine Below.alloc ?_ ?hsz _); (case hsz => (first | omega | (simp; done) | (simp; omega) | (simp at *; omega)))) | ((with_reducible refine Below.setCell ?_ ?hsz _); (case hsz => (first | omega | (simp; done) | (simp; omega) | (simp at *; omega)))) | (with_reducible refine Below.drew ?_) | (with_reducible refine below_drewN ?_ _) | ((with_reducible refine Below.trans ?_ (Below.mono (by with_reducible assumption) ?hsz)); (case hsz => (first | omega | (simp; done) | (simp; omega) | (simp at *; omega))))))), by (repeat (first | (with_reducible assumption) | (with_reducible exact Below.refl _ _) | ((with_reducible refine Below.alloc ?_ ?hsz _); (case hsz => (first | omega | (simp; done) | (simp; omega) | (simp at *; omega)))) | ((with_reducible refine Below.setCell ?_ ?hsz _); (case hsz => (first | omega | (simp; done) | (simp; omega) | (simp at *; omega)))) | (with_reducible refine Below.drew ?_) | (with_reducible refine below_drewN ?_ _) | ((with_reducible refine Below.trans ?_ (Below.mono (by with_reducible assumption) ?hsz)); (case hsz => (first | omega | (simp; done) | (simp; omega) | (simp at *; omega)))))), by (repeat (first | (with_reducible assumption) | (with_reducible exact Below.refl _ _) | ((with_reducible refine Below.alloc ?_ ?hsz _); (case hsz => (first | omega | (simp; done) | (simp; omega) | (simp at *; omega)))) | ((with_reducible refine Below.setCell ?_ ?hsz _); (case hsz => (first | omega | (simp; done) | (simp; omega) | (simp at *; omega)))) | (with_reducible refine Below.drew ?_) | (with_reducible refine below_drewN ?_ _) | ((with_reducible refine Below.trans ?_ (Below.mono (by with_reducible assumption) ?hsz)); (case hsz => (first | omega | (simp; done) | (simp; omega) | (simp at *; omega))))))⟩
          case measure => simp [intOf]; omega
        · obtain ⟨e1, e2, e3⟩ := st_even (xs := xs) hm hkk hkp hkx
          have hm1 : ((s : Int) % 2 == 1) = false := by rw [beq_eq_false_iff_ne]; omega
          have hm2 : ((s : Int).tmod 2 == 1) = false := by rw [beq_eq_false_iff_ne, Int.tmod_eq_emod_of_nonneg (Int.natCast_nonneg s)]; omega
          rw [e1] at hfr
          rw [e3] at hs2
          subst hfr
          have hrm : decide (ps[kk].mo - xs[kk] < 1) = false := decide_eq_false (by omega)
          have HE := Lib.hid e2
          clear e1 e2 e3 hm hkk hs1
          go_wp2_with fail
          go_region
          go_wp2_with fail
          go_quiet (fail)
          go_wp2
          go_roundw
          case rel => exact ⟨k + 1, ps[kk].to, by omega, by go_num, rfl, by have h1 := Hch.out; rw [HE.out] at h1; exact h1, bx.keep (by (repeat (first | (with_reducible assumption) | (with_reducible exact Below.refl _ _) | ((with_reducible refine Below.alloc ?_ ?hsz _); (case hsz => (first | omega | (simp; done) | (simp; omega) | (simp at *; omega)))) | ((with_reducible refine Below.setCell ?_ ?hsz _); (case hsz => (first | omega | (simp; done) | (simp; omega) | (simp at *; omega)))) | (with_reducible refine Below.drew ?_) | (with_reducible refine below_drewN ?_ _) | ((with_reducible refine Below.trans ?_ (Below.mono (by with_reducible assumption) ?hsz)); (case hsz => (first | omega | (simp; done) | (simp; omega) | (simp at *; omega))))))), by (repeat (first | (with_reducible assumption) | (with_reducible exact Below.refl _ _) | ((with_reducible refine Below.alloc ?_ ?hsz _); (case hsz => (first | omega | (simp; done) | (simp; omega) | (simp at *; omega)))) | ((with_reducible refine Below.setCell ?_ ?hsz _); (case hsz => (first | omega | (simp; done) | (simp; omega) | (simp at *; omega)))) | (with_reducible refine Below.drew ?_) | (with_reducible refine below_drewN ?_ _) | ((with_reducible refine Below.trans ?_ (Below.mono (by with_reducible assumption) ?hsz)); (case hsz => (first | omega | (simp; done) | (simp; omega) | (simp at *; omega)))))), by (repeat (first | (with_reducible assumption) | (with_reducible exact Below.refl _ _) | ((with_reducible refine Below.alloc ?_ ?hsz _); (case hsz => (first | omega | (simp; done) | (simp; omega) | (simp at *; omega)))) | ((with_reducible refine Below.setCell ?_ ?hsz _); (case hsz => (first | omega | (simp; done) | (simp; omega) | (simp at *; omega)))) | (with_reducible refine Below.drew ?_) | (with_reducible refine below_drewN ?_ _) | ((with_reducible refine Below.trans ?_ (Below.mono (by with_reducible assumption) ?hsz)); (case hsz => (first | omega | (simp; done) | (simp; omega) | (simp at *; omega))))))⟩
          case measure => simp [intOf]; omega
      · have hkM : k = M := by omega
        subst hkM
        have hnil : (wayR z ps xs i J).drop k = [] := List.drop_eq_nil_of_le (by rw [HW.out.1]; exact Nat.le_refl _)
        rw [hnil] at hch
        have hnow : now = (J : Int) := hch
        subst hnow
        have hkz : decide ((k : Int) < z) = true := decide_eq_true (by have := HW.out.2.2.2.2.1; omega)
        have hsh := HW.out.2.2.2.2.2
        go_wp2
        (go_ret; exact ⟨rfl, hBw1.trans (Below.mono (by with_reducible assumption) hBw1.size)⟩)
  · have hw' : wayB z ps xs i j = false := by simpa using hw
    have h0 : M = 0 := by have := HM.out; rw [wayI, wayR_no hw'] at this; simpa using this.symm
    subst h0
    rw [hw']
    by_cases hrb : reachB z ps xs i = true
    · rw [reach_yes hrb]
      obtain ⟨s0, s1⟩ := reach_in z ps xs i
      have hs0 : decide (reachI z ps xs i < 0) = false := decide_eq_false (by omega)
      obtain ⟨-, -, n2, n5, -, -⟩ := reach_parts hrb
      by_cases hij : i = j
      · have hijb : (i == j) = true := by simpa using hij
        clear hij
        generalize reachI z ps xs i = g at *
        go_wp2_with fail
        with_reducible refine (alive_any _).mono ?_
        rintro e w6 ⟨rfl, hnn⟩
        have bx6 := (bx5).keep hnn
        have hB6 : Below w1.heap.size w1 w6 := by (repeat (first | (with_reducible assumption) | (with_reducible exact Below.refl _ _) | ((with_reducible refine Below.alloc ?_ ?hsz _); (case hsz => (first | omega | (simp; done) | (simp; omega) | (simp at *; omega)))) | ((with_reducible refine Below.setCell ?_ ?hsz _); (case hsz => (first | omega | (simp; done) | (simp; omega) | (simp at *; omega)))) | (with_reducible refine Below.drew ?_) | (with_reducible refine below_drewN ?_ _) | ((with_reducible refine Below.trans ?_ (Below.mono (by with_reducible assumption) ?hsz)); (case hsz => (first | omega | (simp; done) | (simp; omega) | (simp at *; omega))))))
        clear hnn
        (try clear d0 d1 g0 g1)
        obtain ⟨bs, d0, d1, g0, g1⟩ := id bx6
        go_wp2
        (go_ret; exact ⟨rfl, hBw1.trans (Below.mono (by with_reducible assumption) hBw1.size)⟩)
      · have hijb : (i == j) = false := by simpa using hij
        by_cases hjz : j < z
        · have hjd : decide (z ≤ j) = false := decide_eq_false (by omega)
          have hbit := way_bit hrb hj0 hjz hij
          rw [hw'] at hbit
          obtain ⟨J, rfl⟩ : ∃ J : Nat, j = (J : Int) := ⟨j.toNat, by omega⟩
          have hsh := shr_bit0 s0 J
          rw [hbit] at hsh
          clear hbit hij hrb hw hw'
          generalize reachI z ps xs i = g at *
          go_wp2_with fail
          with_reducible refine (alive_any _).mono ?_
          rintro e w6 ⟨rfl, hnn⟩
          have bx6 := (bx5).keep hnn
          have hB6 : Below w1.heap.size w1 w6 := by (repeat (first | (with_reducible assumption) | (with_reducible exact Below.refl _ _) | ((with_reducible refine Below.alloc ?_ ?hsz _); (case hsz => (first | omega | (simp; done) | (simp; omega) | (simp at *; omega)))) | ((with_reducible refine Below.setCell ?_ ?hsz _); (case hsz => (first | omega | (simp; done) | (simp; omega) | (simp at *; omega)))) | (with_reducible refine Below.drew ?_) | (with_reducible refine below_drewN ?_ _) | ((with_reducible refine Below.trans ?_ (Below.mono (by with_reducible assumption) ?hsz)); (case hsz => (first | omega | (simp; done) | (simp; omega) | (simp at *; omega))))))
          clear hnn
          (try clear d0 d1 g0 g1)
          obtain ⟨bs, d0, d1, g0, g1⟩ := id bx6
          go_wp2
          (go_ret; exact ⟨rfl, hBw1.trans (Below.mono (by with_reducible assumption) hBw1.size)⟩)
        · have hjd : decide (z ≤ j) = true := decide_eq_true (by omega)
          clear hij hrb hw hw'
          generalize reachI z ps xs i = g at *
          go_wp2_with fail
          with_reducible refine (alive_any _).mono ?_
          rintro e w6 ⟨rfl, hnn⟩
          have bx6 := (bx5).keep hnn
          have hB6 : Below w1.heap.size w1 w6 := by (repeat (first | (with_reducible assumption) | (with_reducible exact Below.refl _ _) | ((with_reducible refine Below.alloc ?_ ?hsz _); (case hsz => (first | omega | (simp; done) | (simp; omega) | (simp at *; omega)))) | ((with_reducible refine Below.setCell ?_ ?hsz _); (case hsz => (first | omega | (simp; done) | (simp; omega) | (simp at *; omega)))) | (with_reducible refine Below.drew ?_) | (with_reducible refine below_drewN ?_ _) | ((with_reducible refine Below.trans ?_ (Below.mono (by with_reducible assumption) ?hsz)); (case hsz => (first | omega | (simp; done) | (simp; omega) | (simp at *; omega))))))
          clear hnn
          (try clear d0 d1 g0 g1)
          obtain ⟨bs, d0, d1, g0, g1⟩ := id bx6
          go_wp2
          (go_ret; exact ⟨rfl, hBw1.trans (Below.mono (by with_reducible assumption) hBw1.size)⟩)
    · rw [reach_no (by simpa using hrb)]
      go_wp2_with fail
      with_reducible refine (alive_any _).mono ?_
      rintro e w6 ⟨rfl, hnn⟩
      have bx6 := (bx5).keep hnn
      have hB6 : Below w1.heap.size w1 w6 := by (repeat (first | (with_reducible assumption) | (with_reducible exact Below.refl _ _) | ((with_reducible refine Below.alloc ?_ ?hsz _); (case hsz => (first | omega | (simp; done) | (simp; omega) | (simp at *; omega)))) | ((with_reducible refine Below.setCell ?_ ?hsz _); (case hsz => (first | omega | (simp; done) | (simp; omega) | (simp at *; omega)))) | (with_reducible refine Below.drew ?_) | (with_reducible refine below_drewN ?_ _) | ((with_reducible refine Below.trans ?_ (Below.mono (by with_reducible assumption) ?hsz)); (case hsz => (first | omega | (simp; done) | (simp; omega) | (simp at *; omega))))))
      clear hnn
      (try clear d0 d1 g0 g1)
      obtain ⟨bs, d0, d1, g0, g1⟩ := id bx6
      go_wp2
      (go_ret; exact ⟨rfl, hBw1.trans (Below.mono (by with_reducible assumption) hBw1.size)⟩)

set_option maxRecDepth 100000 in
theorem contract (H : Type) (enc : TypeId × Value → H) (W : World) (base : Nat) (args : Array Value) (ds gs : List (DataW H)) (before : List MemPlace)
    (hval : ∀ (j : Nat) t v, Try.f5.params[j]? = some t → args[j]? = some v → Value.okWide Try.prog W .any base t v)
    (hW : DataW.Whole enc Try.prog Try.f5.params.toList Rows.fnWayFromSpec.vars false W args.toList ds gs before) :
    Calls Try.prog 5 args W fun e W' => ∃ v, e = .returned v ∧ Rows.fnWayFromSpec.post enc Try.prog Try.f5 false true false false W args v W' := by
  have hW' := hW
  obtain ⟨p, q, hA0, hV, rfl, hfz, hnd⟩ := hW
  have hA : DataW.TrodAll enc Try.prog W 0 (fun _ => true) true Try.f5.params.toList args.toList ds p := hA0
  rw [Try.params5] at hA hval
  obtain ⟨u0, us0, d0, ds0, p0, q0, hargs, rfl, rfl, g0, k0⟩ := trodAll_cons hA
  obtain ⟨rfl, rfl, rfl⟩ := trodAll_nil k0
  obtain rfl : args = #[u0] := by cases args; simp_all
  obtain ⟨rfl, rfl⟩ := trodVars_none hV
  obtain ⟨m0, e0⟩ := g0
  obtain ⟨s0, l0, f0, hh0⟩ := open_arg_bytes e0
  have f0' := one_of_cells Try.underlying22 (hval 0 _ _ rfl rfl) f0
  subst f0'
  refine (walk _ l0 W hh0).mono fun e W' ⟨he, hb⟩ => ?_
  subst he
  exact ⟨_, rfl, law_post Try.kids Try.full (by rw [Try.params5]; decide) rfl rfl Try.underlying4 hW' rfl rfl rfl hb⟩

set_option maxRecDepth 100000 in
theorem lifted (os : Os) (started : os.Started) (H : Type) (enc : TypeId × Value → H) :
    ReturnsInHanded {} Try.checked os 5 .any (Rows.fnWayFromSpec.pre6 enc Try.prog Try.f5 Rows.fnWayFromRow.domain false) (Rows.fnWayFromSpec.post enc Try.prog Try.f5 false true false false) := by
  refine returnsInHanded_of_change (C := Try.checked) Try.own started (by kernel_rfl) Try.func5
    (ChangeSpec.witness6 (enc := enc) (C := Try.checked) false ⟨#[], #[.slice none 0 0], []⟩ 8 (by kernel_rfl) (by kernel_rfl) (by kernel_rfl) (by kernel_rfl)) ?_
  intro W base args ds gs before hval0 hW _ _
  exact contract H enc W base args ds gs before hval0 hW

theorem proved : Rows.FnWayFromSaid :=
  OpenClaim.holds_of_wide 5 Try.f5 rfl rfl rfl rfl rfl rfl rfl ⟨rfl, rfl, rfl, rfl, rfl⟩ rfl rfl rfl rfl rfl (by kernel_rfl) Try.func5 (by kernel_rfl)
    (of_decide_eq_true (by kernel_rfl)) (by unfold Func.isWrapper; first | (rw [if_pos (by decide +kernel)]; kernel_rfl) | (rw [if_neg (by decide +kernel)]; exact ⟨rfl, rfl⟩))
    (fun os started H enc _ => lifted os started H enc)

end Go.Proofs.Ytpknhieiifjblaa.lawWayFrom
