/- FnRingsOf: for every code the law holds: the program tells the rings of a flow as its model does; each is a ring with an amount of 1 or more; all amounts, pipe by pipe, are the flow; and there are at most as many as pipes that are not empty. No condition. -/
import Derived.Test.YtlaeckjfjleplaaG1
import Derived.Test.YtlaeckjfjleplaaL5
import Derived.Test.YtlaeckjfjleplaaNB
import Derived.Test.YtlaeckjfjleplaaG6
import Derived.Test.YtlaeckjfjleplaaV3
import Derived.Test.YtlaeckjfjleplaaGS
namespace Go.Proofs.Ytlaeckjfjleplaa.lawRingsOf
open Go.ChangeShapes Go.WideShapes Go.ChangeAt Go.RowKit Go.Deep Go.Joins

/-- how many of the first amounts are not nothing -/
def posT (xs : List Int) (k : Nat) : Nat := (List.range k).countP fun i => decide (0 < xs.getD i 0)
theorem posT_all (xs : List Int) : posT xs xs.length = posN xs := rfl
theorem posT_succ (xs : List Int) (k : Nat) : posT xs (k + 1) = posT xs k + if 0 < xs.getD k 0 then 1 else 0 := by
  unfold posT
  rw [List.range_succ, List.countP_append, List.countP_singleton]
  simp
theorem posT_le (xs : List Int) (k : Nat) : posT xs k ≤ k := by
  have := List.countP_le_length (p := fun i => decide (0 < xs.getD i 0)) (l := List.range k)
  unfold posT; simpa using this

set_option maxHeartbeats 4000000 in
set_option maxRecDepth 20000 in
theorem walk (v : Value) (n : Nat) (w : World) (h : ArgBytes w v n) :
    Calls Try.prog 5 #[v] w fun e w' => e = .returned (.bool true) ∧ Below w.heap.size w w' := by
  obtain ⟨A, c, rfl, hc1, hc2, -⟩ := id h
  unfold maxLen at hc2
  by_cases hbig : 1048576 < n
  · go_enter Try.func5, Try.ntmps5
    go_wp2
    go_ret
    exact ⟨rfl, by (repeat (first | (with_reducible assumption) | (with_reducible exact Below.refl _ _) | ((with_reducible refine Below.alloc ?_ ?hsz _); (case hsz => (first | omega | (simp; done) | (simp; omega) | (simp at *; omega)))) | ((with_reducible refine Below.setCell ?_ ?hsz _); (case hsz => (first | omega | (simp; done) | (simp; omega) | (simp at *; omega)))) | (with_reducible refine Below.drew ?_) | (with_reducible refine below_drewN ?_ _) | ((with_reducible refine Below.trans ?_ (Below.mono (by with_reducible assumption) ?hsz)); (case hsz => (first | omega | (simp; done) | (simp; omega) | (simp at *; omega))))))⟩
  go_enter Try.func5, Try.ntmps5
  go_wp2_with fail
  with_reducible refine (drawRingsOf_any _ n _ (h.keep (by (repeat (first | (with_reducible assumption) | (with_reducible exact Below.refl _ _) | ((with_reducible refine Below.alloc ?_ ?hsz _); (case hsz => (first | omega | (simp; done) | (simp; omega) | (simp at *; omega)))) | ((with_reducible refine Below.setCell ?_ ?hsz _); (case hsz => (first | omega | (simp; done) | (simp; omega) | (simp at *; omega)))) | (with_reducible refine Below.drew ?_) | (with_reducible refine below_drewN ?_ _) | ((with_reducible refine Below.trans ?_ (Below.mono (by with_reducible assumption) ?hsz)); (case hsz => (first | omega | (simp; done) | (simp; omega) | (simp at *; omega))))))))).mono ?_
  rintro e w1 ⟨z, ps, u, xs, t, rfl, hp, hx, hb1, hl8, hz1, hz6⟩
  have hBw1 : Below w.heap.size w w1 := by (repeat (first | (with_reducible assumption) | (with_reducible exact Below.refl _ _) | ((with_reducible refine Below.alloc ?_ ?hsz _); (case hsz => (first | omega | (simp; done) | (simp; omega) | (simp at *; omega)))) | ((with_reducible refine Below.setCell ?_ ?hsz _); (case hsz => (first | omega | (simp; done) | (simp; omega) | (simp at *; omega)))) | (with_reducible refine Below.drew ?_) | (with_reducible refine below_drewN ?_ _) | ((with_reducible refine Below.trans ?_ (Below.mono (by with_reducible assumption) ?hsz)); (case hsz => (first | omega | (simp; done) | (simp; omega) | (simp at *; omega))))))
  clear h hc1 hc2 hbig
  obtain ⟨A1, c1, rfl, hk1, hk2, hsm, -⟩ := hp.form
  unfold maxLen at hk2
  have bx1 : Box2 (w1.alloc (.cells #[.int .i64 z, .slice A1 ps.length c1] 25)) w1.heap.size (.int .i64 z) (.slice A1 ps.length c1) := Box2.new _ _ _ _
  have hB1 : Below w1.heap.size w1 (w1.alloc (.cells #[.int .i64 z, .slice A1 ps.length c1] 25)) := by (repeat (first | (with_reducible assumption) | (with_reducible exact Below.refl _ _) | ((with_reducible refine Below.alloc ?_ ?hsz _); (case hsz => (first | omega | (simp; done) | (simp; omega) | (simp at *; omega)))) | ((with_reducible refine Below.setCell ?_ ?hsz _); (case hsz => (first | omega | (simp; done) | (simp; omega) | (simp at *; omega)))) | (with_reducible refine Below.drew ?_) | (with_reducible refine below_drewN ?_ _) | ((with_reducible refine Below.trans ?_ (Below.mono (by with_reducible assumption) ?hsz)); (case hsz => (first | omega | (simp; done) | (simp; omega) | (simp at *; omega))))))
  obtain ⟨AX, cX, rfl, xk1, xk2, xk3, -⟩ := hx.form
  unfold maxLen at xk2
  go_wp2_with fail
  with_reducible refine (rings_ex z _ _ ps xs _ _ _ (hp.keep hB1) (hx.keep hB1)).mono ?_
  rintro e w2 ⟨r2, rfl, hR2, hnn⟩
  have bx2 := bx1.keep hnn
  have hB2 : Below w1.heap.size w1 w2 := by (repeat (first | (with_reducible assumption) | (with_reducible exact Below.refl _ _) | ((with_reducible refine Below.alloc ?_ ?hsz _); (case hsz => (first | omega | (simp; done) | (simp; omega) | (simp at *; omega)))) | ((with_reducible refine Below.setCell ?_ ?hsz _); (case hsz => (first | omega | (simp; done) | (simp; omega) | (simp at *; omega)))) | (with_reducible refine Below.drew ?_) | (with_reducible refine below_drewN ?_ _) | ((with_reducible refine Below.trans ?_ (Below.mono (by with_reducible assumption) ?hsz)); (case hsz => (first | omega | (simp; done) | (simp; omega) | (simp at *; omega))))))
  clear hnn
  obtain ⟨bs, d0, d1, g0, g1⟩ := id bx2
  obtain ⟨A2, c2, rfl, ra1, ra2, ra3, hc2⟩ := hR2.toB.form
  unfold maxLen at ra2
  go_wp2_with fail
  with_reducible refine (specRings_ex z _ _ ps xs _ _ _ (hp.keep hB2) (hx.keep hB2)).mono ?_
  rintro e w3 ⟨r3, rfl, hR3, hnn⟩
  have bx3 := bx2.keep hnn
  have hB3 : Below w1.heap.size w1 w3 := by (repeat (first | (with_reducible assumption) | (with_reducible exact Below.refl _ _) | ((with_reducible refine Below.alloc ?_ ?hsz _); (case hsz => (first | omega | (simp; done) | (simp; omega) | (simp at *; omega)))) | ((with_reducible refine Below.setCell ?_ ?hsz _); (case hsz => (first | omega | (simp; done) | (simp; omega) | (simp at *; omega)))) | (with_reducible refine Below.drew ?_) | (with_reducible refine below_drewN ?_ _) | ((with_reducible refine Below.trans ?_ (Below.mono (by with_reducible assumption) ?hsz)); (case hsz => (first | omega | (simp; done) | (simp; omega) | (simp at *; omega))))))
  have hR23 := hR2.toB.keep hnn
  clear d0 d1 g0 g1 hR2 hc2
  obtain ⟨bs, d0, d1, g0, g1⟩ := id bx3
  obtain ⟨A3, c3, rfl, rb1, rb2, rb3, -⟩ := hR3.form
  unfold maxLen at rb2
  obtain ⟨N, hN⟩ : ∃ N, (ringsR z ps xs).length = N := ⟨_, rfl⟩
  have HN := Lib.hid hN
  have hneq : ((N : Int) != (N : Int)) = false := by simp
  rw [hN] at hR23 hR3 ra1 ra3 rb1 rb3 ⊢
  clear hN hnn
  have hrows : ∀ L ∈ ringsR z ps xs, ∃ d l, L = d :: natsI l ∧ 1 ≤ d ∧ d ≤ 40 ∧ ringB z ps (natsI l) = true := by
    intro L hL
    unfold ringsR at hL
    split at hL
    · rename_i hb; exact rings_rows 8 xs hb L hL
    · simp at hL
  have HW := Lib.hid (And.intro hrows (ringsR_each (n := z) (ps := ps) (xs := xs)))
  clear hrows
  go_wp2
  go_loopw [7] (fun t wr => ∃ k : Nat, k ≤ N ∧ t = .int .i64 k ∧ Box2 wr w1.heap.size (.int .i64 z) (.slice A1 ps.length c1) ∧ Below w1.heap.size w1 wr ∧ Below w3.heap.size w3 wr) (fun t _ => N - (intOf t).toNat)
  case atStart => exact ⟨0, by omega, rfl, bx3, hB3, Below.refl _ _⟩
  case round =>
    obtain ⟨k, hk, rfl, bx, hB, hb3⟩ := hrel
    clear d0 d1 g0 g1
    obtain ⟨bs, d0, d1, g0, g1⟩ := id bx
    by_cases hlt : k < N
    · obtain ⟨wo, hwo⟩ : ∃ wo : World, wo = wr := ⟨_, rfl⟩
      subst hwo
      have hkl : k < (ringsR z ps xs).length := by rw [HN.out]; exact hlt
      obtain ⟨A2', c2', hv2, -, -, -, f2⟩ := (hR23.keep hb3).form
      obtain ⟨A3', c3', hv3, -, -, -, f3⟩ := (hR3.keep hb3).form
      obtain ⟨ga, va, ea, -, ga2, ca, ia⟩ := f2 wo (Below.refl _ _) k hkl
      obtain ⟨gb, vb, eb, -, gb2, cb, ib⟩ := f3 wo (Below.refl _ _) k hkl
      injection hv2 with x1 x2 x3
      injection hv3 with y1 y2 y3
      rw [← x1] at ea
      rw [← y1] at eb
      subst ea
      subst eb
      obtain ⟨l2, l7⟩ := HW.out.2 _ (List.getElem_mem hkl)
      obtain ⟨d, l, hL, hd1, hd40, hring⟩ := HW.out.1 _ (List.getElem_mem hkl)
      obtain ⟨L, hLL⟩ : ∃ L, (ringsR z ps xs)[k] = L := ⟨_, rfl⟩
      rw [hLL] at ia ib l2 l7 hL
      obtain ⟨M, hM⟩ : ∃ M, L.length = M := ⟨_, rfl⟩
      rw [hM] at l2 l7
      obtain ⟨gv, cv, ev, hRv⟩ := ib.row (by rw [hM]; omega)
      rw [hM] at ev hRv
      subst ev
      obtain ⟨og1, og2⟩ := hRv.lt
      obtain ⟨oc1, oc2⟩ := hRv.capd
      unfold maxLen at oc2
      have cd := (hRv.at' 0 (by omega)).1
      have hd0 : L.getD 0 0 = d := by rw [hL]; rfl
      rw [hd0] at cd
      have hdrop : L.drop 1 = natsI l := by rw [hL]; rfl
      have htail := ib.tail hM (by omega)
      rw [hdrop] at htail
      have hsame : ∀ p : Bw wo, Calls Try.prog 25 #[va, .slice (some ⟨gv, 0, none⟩) M cv] p.v fun e w'' => e = .returned (.bool true) ∧ ∃ r : Bw wo, w'' = r.v := fun p => calls_bw ((sameInts_any _ _ L L _ _ _ (ia.keep p.h) (ib.keep p.h)).mono fun _ _ hh => ⟨by rw [hh.1]; simp, hh.2⟩)
      have hringc : ∀ p : Bw wo, Calls Try.prog 13 #[.agg #[.int .i64 z, .slice A1 ps.length c1], .slice (some ⟨gv, 1, none⟩) (M - 1) (cv - 1)] p.v fun e w'' => e = .returned (.bool true) ∧ ∃ r : Bw wo, w'' = r.v := fun p => calls_bw ((ringOk_rd z _ _ ps (natsI l) _ _ ((hp.keep hB).keep p.h) (htail.keep p.h)).mono fun _ _ hh => ⟨by rw [hh.1, hring], hh.2⟩)
      have Hs := Lib.hid hsame
      have Hr := Lib.hid hringc
      have hca := fun p : Bw wo => (bw_cell p ga2).trans ca
      have hcb := fun p : Bw wo => (bw_cell p gb2).trans cb
      have hcd := fun p : Bw wo => (bw_cell p og2).trans cd
      have hM2 : decide ((M : Int) < 2) = false := decide_eq_false (by omega)
      have hd2 : decide (d < 1) = false := decide_eq_false (by omega)
      have hcv : cv ≠ 1 := by omega
      have hM1 : (1 : Int) ≤ (M : Int) := by omega
      have hM3 : (0 : Int) < (M : Int) := by omega
      have hM4 : 1 ≤ M := by omega
      clear hsame hringc ca cb cd hring hL hLL hM hdrop htail ia ib hd1 hd40 hRv hd0 x1 x2 x3 y1 y2 y3 f2 f3 l2 l7
      go_wp2_with fail
      have hd0 := fun p : Bw wo => (bw_cell p bs).trans d0
      have hd1 := fun p : Bw wo => (bw_cell p bs).trans d1
      refine wp_region_bw (by kernel_rfl) (by kernel_rfl) ?_
      repeat (go_big_quiet_step ((first | (go_at_call 25; with_reducible exact Hs.out _) | (go_at_call 13; with_reducible exact Hr.out _))))
      refine wpQuiet_nil ?_
      rintro _ ⟨pw, rfl⟩
      have bx4 := (bx).keep pw.h
      have hB4 := (hB).trans (pw.h.mono (hB).size)
      have hbq := pw.h
      obtain ⟨w4, hwq⟩ : ∃ wq, wq = pw.v := ⟨_, rfl⟩
      rw [← hwq] at bx4 hB4 hbq ⊢
      clear d0 d1 g0 g1 hd0 hd1 hwq
      obtain ⟨bs, d0, d1, g0, g1⟩ := id bx4
      have hb4 := hb3.trans (hbq.mono hb3.size)
      clear hbq hca hcb hcd Hs Hr
      go_wp2
      go_roundw
      case rel => exact ⟨k + 1, by omega, by go_num, bx4, hB4, hb4⟩
      case measure => simp [intOf]; omega
    · have hkN : N = k := by omega
      subst hkN
      clear hlt hk
      go_wp2_with fail
      with_reducible refine (specBalancedOk_any z _ _ ps xs _ _ _ (hp.keep hB) (hx.keep hB)).mono ?_
      rintro e w4 ⟨rfl, hnn⟩
      have bx4 := (bx).keep hnn
      have hB4 : Below w1.heap.size w1 w4 := by (repeat (first | (with_reducible assumption) | (with_reducible exact Below.refl _ _) | ((with_reducible refine Below.alloc ?_ ?hsz _); (case hsz => (first | omega | (simp; done) | (simp; omega) | (simp at *; omega)))) | ((with_reducible refine Below.setCell ?_ ?hsz _); (case hsz => (first | omega | (simp; done) | (simp; omega) | (simp at *; omega)))) | (with_reducible refine Below.drew ?_) | (with_reducible refine below_drewN ?_ _) | ((with_reducible refine Below.trans ?_ (Below.mono (by with_reducible assumption) ?hsz)); (case hsz => (first | omega | (simp; done) | (simp; omega) | (simp at *; omega))))))
      have hb4 := (hb3).trans (hnn.mono (hb3).size)
      clear hnn
      (try clear d0 d1 g0 g1)
      obtain ⟨bs, d0, d1, g0, g1⟩ := id bx4
      by_cases hbal : balB z ps xs = true
      · obtain ⟨hok, hlen, -⟩ := flowOk_parts (bal_flow hbal)
        have hl7 := (netOk_parts hok).2.2.1
        have hxb := flow_getD (bal_flow hbal)
        have hpos8 : posN xs ≤ 8 := by have := pos_le (xs := xs); omega
        have hR : ringsR z ps xs = ringsP ps 8 xs := by rw [ringsR, if_pos hbal]; rfl
        have HT : Hid (takenL xs.length (ringsR z ps xs) = xs) := Lib.hid (by
          rw [hR, hlen]
          exact taken_is (fun i => rings_sum 8 xs _ hbal hpos8 (by simp) (fun i => by
            have e : (List.replicate ps.length (0 : Int)).getD i 0 = 0 := by
              rw [List.getD_eq_getElem?_getD, List.getElem?_replicate]
              split <;> rfl
            rw [e]
            have := hxb i
            omega) i) hlen)
        have hNp : N ≤ posN xs := by rw [← HN.out, hR]; exact rings_pos 8 xs hbal
        obtain ⟨X, hX⟩ : ∃ X, xs.length = X := ⟨_, rfl⟩
        have HX := Lib.hid hX
        have hpa : posT xs X = posN xs := by rw [← hX]; rfl
        have HPA := Lib.hid (And.intro hpa hNp)
        rw [hX] at HT xk1 xk3 hx ⊢
        have hX7 : X ≤ 7 := by omega
        rw [hbal]
        clear hok hlen hxb hpos8 hR hX hpa hNp hbal
        go_wp2
        go_loopw [9, 8] (fun t9 t8 wr => ∃ q : Nat, q ≤ X ∧ t9 = .int .i64 q ∧ t8 = .int .i64 (posT xs q : Nat) ∧ Box2 wr w1.heap.size (.int .i64 z) (.slice A1 ps.length c1) ∧ Below w1.heap.size w1 wr ∧ Below w3.heap.size w3 wr) (fun t9 _ _ => X - (intOf t9).toNat)
        case atStart => exact ⟨0, by omega, rfl, rfl, bx4, hB4, hb4⟩
        case round =>
          clear d0 d1 g0 g1
          obtain ⟨q, hq, rfl, rfl, bx5, hB5, hb5⟩ := hrel
          obtain ⟨bs, d0, d1, g0, g1⟩ := id bx5
          have hpq := posT_le xs q
          by_cases hqX : q < X
          · have hql : q < xs.length := by rw [HX.out]; exact hqX
            obtain ⟨gx, rfl, gx1, gx2, cx, -⟩ := (hx.keep hB5).cellAt (Below.refl _ _) q hql
            have HS := Lib.hid (posT_succ xs q)
            have HG := Lib.hid (getD_at hql)
            generalize xs[q] = y at *
            by_cases hy : 0 < y
            · have hyd : decide (0 < y) = true := decide_eq_true hy
              have Hn : Hid (posT xs (q + 1) = posT xs q + 1) := Lib.hid (by rw [HS.out, HG.out, if_pos hy])
              clear hy
              go_wp2
              go_roundw
              case rel => exact ⟨q + 1, by omega, by go_num, by rw [Hn.out]; go_num, bx5, hB5, hb5⟩
              case measure => simp [intOf]; omega
            · have hyd : decide (0 < y) = false := decide_eq_false hy
              have Hn : Hid (posT xs (q + 1) = posT xs q) := Lib.hid (by rw [HS.out, HG.out, if_neg hy]; rfl)
              clear hy
              go_wp2
              go_roundw
              case rel => exact ⟨q + 1, by omega, by go_num, by rw [Hn.out], bx5, hB5, hb5⟩
              case measure => simp [intOf]; omega
          · have hqX' : q = X := by omega
            subst hqX'
            go_wp2_with fail
            with_reducible refine (taken_any q _ _ (ringsR z ps xs) _ ((hR23.keep hb5).rowsI) (by omega)).mono ?_
            rintro e w6 ⟨r6, rfl, hr6, hnn⟩
            rw [HT.out] at hr6
            have bx6 := bx5.keep hnn
            have hB6 : Below w1.heap.size w1 w6 := by (repeat (first | (with_reducible assumption) | (with_reducible exact Below.refl _ _) | ((with_reducible refine Below.alloc ?_ ?hsz _); (case hsz => (first | omega | (simp; done) | (simp; omega) | (simp at *; omega)))) | ((with_reducible refine Below.setCell ?_ ?hsz _); (case hsz => (first | omega | (simp; done) | (simp; omega) | (simp at *; omega)))) | (with_reducible refine Below.drew ?_) | (with_reducible refine below_drewN ?_ _) | ((with_reducible refine Below.trans ?_ (Below.mono (by with_reducible assumption) ?hsz)); (case hsz => (first | omega | (simp; done) | (simp; omega) | (simp at *; omega))))))
            clear hnn d0 d1 g0 g1
            obtain ⟨bs, d0, d1, g0, g1⟩ := id bx6
            go_wp2_with fail
            with_reducible refine (sameInts_any _ _ xs xs _ _ _ hr6 (hx.keep hB6)).mono ?_
            rintro e w7 ⟨rfl, hnn⟩
            have bx7 := (bx6).keep hnn
            have hB7 : Below w1.heap.size w1 w7 := by (repeat (first | (with_reducible assumption) | (with_reducible exact Below.refl _ _) | ((with_reducible refine Below.alloc ?_ ?hsz _); (case hsz => (first | omega | (simp; done) | (simp; omega) | (simp at *; omega)))) | ((with_reducible refine Below.setCell ?_ ?hsz _); (case hsz => (first | omega | (simp; done) | (simp; omega) | (simp at *; omega)))) | (with_reducible refine Below.drew ?_) | (with_reducible refine below_drewN ?_ _) | ((with_reducible refine Below.trans ?_ (Below.mono (by with_reducible assumption) ?hsz)); (case hsz => (first | omega | (simp; done) | (simp; omega) | (simp at *; omega))))))
            clear hnn
            (try clear d0 d1 g0 g1)
            obtain ⟨bs, d0, d1, g0, g1⟩ := id bx7
            rw [show decide (xs = xs) = true from by simp]
            go_wp2_with fail
            with_reducible refine (alive_any _).mono ?_
            rintro e w8 ⟨rfl, hnn⟩
            have bx8 := (bx7).keep hnn
            have hB8 : Below w1.heap.size w1 w8 := by (repeat (first | (with_reducible assumption) | (with_reducible exact Below.refl _ _) | ((with_reducible refine Below.alloc ?_ ?hsz _); (case hsz => (first | omega | (simp; done) | (simp; omega) | (simp at *; omega)))) | ((with_reducible refine Below.setCell ?_ ?hsz _); (case hsz => (first | omega | (simp; done) | (simp; omega) | (simp at *; omega)))) | (with_reducible refine Below.drew ?_) | (with_reducible refine below_drewN ?_ _) | ((with_reducible refine Below.trans ?_ (Below.mono (by with_reducible assumption) ?hsz)); (case hsz => (first | omega | (simp; done) | (simp; omega) | (simp at *; omega))))))
            clear hnn
            (try clear d0 d1 g0 g1)
            obtain ⟨bs, d0, d1, g0, g1⟩ := id bx8
            go_wp2
            · (go_ret; exact ⟨rfl, hBw1.trans (Below.mono (by with_reducible assumption) hBw1.size)⟩)
            · exfalso
              have := HPA.out
              omega
      · have hbal' : balB z ps xs = false := by simpa using hbal
        have hN0 : N = 0 := by rw [← HN.out, ringsR, if_neg hbal]; rfl
        subst hN0
        rw [hbal']
        go_wp2_with fail
        with_reducible refine (alive_any _).mono ?_
        rintro e w5 ⟨rfl, hnn⟩
        have bx5 := (bx4).keep hnn
        have hB5 : Below w1.heap.size w1 w5 := by (repeat (first | (with_reducible assumption) | (with_reducible exact Below.refl _ _) | ((with_reducible refine Below.alloc ?_ ?hsz _); (case hsz => (first | omega | (simp; done) | (simp; omega) | (simp at *; omega)))) | ((with_reducible refine Below.setCell ?_ ?hsz _); (case hsz => (first | omega | (simp; done) | (simp; omega) | (simp at *; omega)))) | (with_reducible refine Below.drew ?_) | (with_reducible refine below_drewN ?_ _) | ((with_reducible refine Below.trans ?_ (Below.mono (by with_reducible assumption) ?hsz)); (case hsz => (first | omega | (simp; done) | (simp; omega) | (simp at *; omega))))))
        clear hnn
        (try clear d0 d1 g0 g1)
        obtain ⟨bs, d0, d1, g0, g1⟩ := id bx5
        go_wp2
        (go_ret; exact ⟨rfl, hBw1.trans (Below.mono (by with_reducible assumption) hBw1.size)⟩)

set_option maxRecDepth 100000 in
theorem contract (H : Type) (enc : TypeId × Value → H) (W : World) (base : Nat) (args : Array Value) (ds gs : List (DataW H)) (before : List MemPlace)
    (hval : ∀ (j : Nat) t v, Try.f5.params[j]? = some t → args[j]? = some v → Value.okWide Try.prog W .any base t v)
    (hW : DataW.Whole enc Try.prog Try.f5.params.toList Rows.fnRingsOfSpec.vars false W args.toList ds gs before) :
    Calls Try.prog 5 args W fun e W' => ∃ v, e = .returned v ∧ Rows.fnRingsOfSpec.post enc Try.prog Try.f5 false true false false W args v W' := by
  have hW' := hW
  obtain ⟨p, q, hA0, hV, rfl, hfz, hnd⟩ := hW
  have hA : DataW.TrodAll enc Try.prog W 0 (fun _ => true) true Try.f5.params.toList args.toList ds p := hA0
  rw [Try.params5] at hA hval
  obtain ⟨u0, us0, d0, ds0, p0, q0, hargs, rfl, rfl, g0, k0⟩ := trodAll_cons hA
  obtain ⟨rfl, rfl, rfl⟩ := trodAll_nil k0
  obtain rfl : args = #[u0] := by cases args; simp_all
  obtain ⟨rfl, rfl⟩ := trodVars_none hV
  obtain ⟨m0, e0⟩ := g0
  obtain ⟨s0, l0, f0, hh0⟩ := open_arg_bytes e0
  have f0' := one_of_cells Try.underlying22 (hval 0 _ _ rfl rfl) f0
  subst f0'
  refine (walk _ l0 W hh0).mono fun e W' ⟨he, hb⟩ => ?_
  subst he
  exact ⟨_, rfl, law_post Try.kids Try.full (by rw [Try.params5]; decide) rfl rfl Try.underlying4 hW' rfl rfl rfl hb⟩

set_option maxRecDepth 100000 in
theorem lifted (os : Os) (started : os.Started) (H : Type) (enc : TypeId × Value → H) :
    ReturnsInHanded {} Try.checked os 5 .any (Rows.fnRingsOfSpec.pre6 enc Try.prog Try.f5 Rows.fnRingsOfRow.domain false) (Rows.fnRingsOfSpec.post enc Try.prog Try.f5 false true false false) := by
  refine returnsInHanded_of_change (C := Try.checked) Try.own started (by kernel_rfl) Try.func5
    (ChangeSpec.witness6 (enc := enc) (C := Try.checked) false ⟨#[], #[.slice none 0 0], []⟩ 8 (by kernel_rfl) (by kernel_rfl) (by kernel_rfl) (by kernel_rfl)) ?_
  intro W base args ds gs before hval0 hW _ _
  exact contract H enc W base args ds gs before hval0 hW

theorem proved : Rows.FnRingsOfSaid :=
  OpenClaim.holds_of_wide 5 Try.f5 rfl rfl rfl rfl rfl rfl rfl ⟨rfl, rfl, rfl, rfl, rfl⟩ rfl rfl rfl rfl rfl (by kernel_rfl) Try.func5 (by kernel_rfl)
    (of_decide_eq_true (by kernel_rfl)) (by unfold Func.isWrapper; first | (rw [if_pos (by decide +kernel)]; kernel_rfl) | (rw [if_neg (by decide +kernel)]; exact ⟨rfl, rfl⟩))
    (fun os started H enc _ => lifted os started H enc)

end Go.Proofs.Ytlaeckjfjleplaa.lawRingsOf
