/- FnPartsOf: for every code the law holds: the program tells the parts of a flow as its model does; each is a thread or a ring with an amount of 1 or more; all amounts, pipe by pipe, are the flow; and those of the threads are together the excess of the second node. No condition. -/
import Derived.Test.YtlaeckjfjleplaaG1
import Derived.Test.YtlaeckjfjleplaaL5
import Derived.Test.YtlaeckjfjleplaaNB
import Derived.Test.YtlaeckjfjleplaaG7
import Derived.Test.YtlaeckjfjleplaaG8
import Derived.Test.YtlaeckjfjleplaaG6
import Derived.Test.YtlaeckjfjleplaaV3
import Derived.Test.YtlaeckjfjleplaaW3
namespace Go.Proofs.Ytlaeckjfjleplaa.lawPartsOf
open Go.ChangeShapes Go.WideShapes Go.ChangeAt Go.RowKit Go.Deep Go.Joins

theorem sumT_bd {n a b : Int} {ps : List Pp} : ∀ {Ls : List (List Int)}, (∀ L ∈ Ls, 0 ≤ L.getD 0 0 ∧ L.getD 0 0 ≤ 40) → 0 ≤ sumT n ps a b Ls ∧ sumT n ps a b Ls ≤ 40 * (Ls.length : Int)
  | [], _ => by simp [sumT]
  | L :: Ls, h => by
    have ih := sumT_bd (n := n) (a := a) (b := b) (ps := ps) (Ls := Ls) fun L hL => h L (by simp [hL])
    have h1 := h L (by simp)
    rw [sumT_cons]
    simp only [List.length_cons]
    split <;> omega
theorem sumT_snoc {n a b : Int} {ps : List Pp} {Ls : List (List Int)} {k : Nat} (hk : k < Ls.length) : sumT n ps a b (Ls.take (k + 1)) = sumT n ps a b (Ls.take k) + if threadB n ps (Ls[k].drop 1) a b = true then Ls[k].getD 0 0 else 0 := by
  unfold sumT
  rw [List.take_succ_eq_append_getElem hk, List.map_append, List.sum_append]
  simp

theorem parts_all {z i j : Int} {ps : List Pp} {xs : List Int} (h : partsOkB z ps xs i j = true) :
    (∀ L ∈ partsR z ps xs i j, ∃ d l, L = d :: natsI l ∧ 1 ≤ d ∧ d ≤ 40 ∧ (ringB z ps (natsI l) = true ∨ threadB z ps (natsI l) i j = true)) ∧
    takenL xs.length (partsR z ps xs i j) = xs ∧ sumT z ps i j (partsR z ps xs i j) = exc j ps xs ∧ excAt z ps xs j = (exc j ps xs, true) ∧ xs.length ≤ 7 := by
  obtain ⟨hst, h0⟩ := PartSt.of h
  obtain ⟨hn, hlen, -⟩ := flowOk_parts hst.flow
  have hl7 := (netOk_parts hn).2.2.1
  have hxb := flow_getD hst.flow
  have hpos : posN xs ≤ 7 := by have := pos_le (xs := xs); omega
  obtain ⟨p1, p2, p3⟩ := parts_sum 10 (exc j ps xs) xs (List.replicate ps.length 0) hst h0 (by unfold leftN2; split <;> omega) (by simp) (fun i => by
    have e : (List.replicate ps.length (0 : Int)).getD i 0 = 0 := by
      rw [List.getD_eq_getElem?_getD, List.getElem?_replicate]
      split <;> rfl
    rw [e]
    have := hxb i
    omega)
  rw [← parts_yes h] at p1 p2 p3
  refine ⟨p3, ?_, p2, ?_, by omega⟩
  · rw [hlen]
    exact taken_is p1 hlen
  · obtain ⟨-, -, -, b0, b1, -⟩ := ends_parts hst.ends
    rw [excAt, if_pos ⟨hst.flow, by unfold withinB; simp; omega⟩]

/-- the threads' amounts among the first rows -/
def sumK (n : Int) (ps : List Pp) (a b : Int) (Ls : List (List Int)) (k : Nat) : Int := sumT n ps a b (Ls.take k)

set_option maxHeartbeats 4000000 in
set_option maxRecDepth 20000 in
theorem walk (v : Value) (n : Nat) (w : World) (h : ArgBytes w v n) :
    Calls Try.prog 6 #[v] w fun e w' => e = .returned (.bool true) ∧ Below w.heap.size w w' := by
  obtain ⟨A, c, rfl, hc1, hc2, -⟩ := id h
  unfold maxLen at hc2
  by_cases hbig : 1048576 < n
  · go_enter Try.func6, Try.ntmps6
    go_wp2
    go_ret
    exact ⟨rfl, by (repeat (first | (with_reducible assumption) | (with_reducible exact Below.refl _ _) | ((with_reducible refine Below.alloc ?_ ?hsz _); (case hsz => (first | omega | (simp; done) | (simp; omega) | (simp at *; omega)))) | ((with_reducible refine Below.setCell ?_ ?hsz _); (case hsz => (first | omega | (simp; done) | (simp; omega) | (simp at *; omega)))) | (with_reducible refine Below.drew ?_) | (with_reducible refine below_drewN ?_ _) | ((with_reducible refine Below.trans ?_ (Below.mono (by with_reducible assumption) ?hsz)); (case hsz => (first | omega | (simp; done) | (simp; omega) | (simp at *; omega))))))⟩
  go_enter Try.func6, Try.ntmps6
  go_wp2_with fail
  with_reducible refine (drawPartsOf_any _ n _ (h.keep (by (repeat (first | (with_reducible assumption) | (with_reducible exact Below.refl _ _) | ((with_reducible refine Below.alloc ?_ ?hsz _); (case hsz => (first | omega | (simp; done) | (simp; omega) | (simp at *; omega)))) | ((with_reducible refine Below.setCell ?_ ?hsz _); (case hsz => (first | omega | (simp; done) | (simp; omega) | (simp at *; omega)))) | (with_reducible refine Below.drew ?_) | (with_reducible refine below_drewN ?_ _) | ((with_reducible refine Below.trans ?_ (Below.mono (by with_reducible assumption) ?hsz)); (case hsz => (first | omega | (simp; done) | (simp; omega) | (simp at *; omega))))))))).mono ?_
  rintro e w1 ⟨z, ps, u, xs, t, i, j, rfl, hp, hx, hb1, hl8, hz1, hz6⟩
  have hBw1 : Below w.heap.size w w1 := by (repeat (first | (with_reducible assumption) | (with_reducible exact Below.refl _ _) | ((with_reducible refine Below.alloc ?_ ?hsz _); (case hsz => (first | omega | (simp; done) | (simp; omega) | (simp at *; omega)))) | ((with_reducible refine Below.setCell ?_ ?hsz _); (case hsz => (first | omega | (simp; done) | (simp; omega) | (simp at *; omega)))) | (with_reducible refine Below.drew ?_) | (with_reducible refine below_drewN ?_ _) | ((with_reducible refine Below.trans ?_ (Below.mono (by with_reducible assumption) ?hsz)); (case hsz => (first | omega | (simp; done) | (simp; omega) | (simp at *; omega))))))
  clear h hc1 hc2 hbig
  obtain ⟨A1, c1, rfl, hk1, hk2, hsm, -⟩ := hp.form
  unfold maxLen at hk2
  have bx1 : Box2 (w1.alloc (.cells #[.int .i64 z, .slice A1 ps.length c1] 25)) w1.heap.size (.int .i64 z) (.slice A1 ps.length c1) := Box2.new _ _ _ _
  have hB1 : Below w1.heap.size w1 (w1.alloc (.cells #[.int .i64 z, .slice A1 ps.length c1] 25)) := by (repeat (first | (with_reducible assumption) | (with_reducible exact Below.refl _ _) | ((with_reducible refine Below.alloc ?_ ?hsz _); (case hsz => (first | omega | (simp; done) | (simp; omega) | (simp at *; omega)))) | ((with_reducible refine Below.setCell ?_ ?hsz _); (case hsz => (first | omega | (simp; done) | (simp; omega) | (simp at *; omega)))) | (with_reducible refine Below.drew ?_) | (with_reducible refine below_drewN ?_ _) | ((with_reducible refine Below.trans ?_ (Below.mono (by with_reducible assumption) ?hsz)); (case hsz => (first | omega | (simp; done) | (simp; omega) | (simp at *; omega))))))
  obtain ⟨AX, cX, rfl, xk1, xk2, xk3, -⟩ := hx.form
  unfold maxLen at xk2
  have X1 := parts_ex z i j _ _ ps xs _ _ _ (hp.keep hB1) (hx.keep hB1)
  have X2 := fun W h => specParts_ex z i j _ _ ps xs _ _ W (hp.keep h) (hx.keep h)
  rcases hok : partsOkB z ps xs i j with _ | _
  · rw [hok] at X1
    simp only [hok] at X2
    have hN0 : partsR z ps xs i j = [] := parts_no hok
    rw [hN0] at X1
    simp only [hN0] at X2
    go_wp2_with fail
    with_reducible refine X1.mono ?_
    rintro e w2 ⟨r2, rfl, hR2, hnn⟩
    have bx2 := bx1.keep hnn
    have hB2 : Below w1.heap.size w1 w2 := by (repeat (first | (with_reducible assumption) | (with_reducible exact Below.refl _ _) | ((with_reducible refine Below.alloc ?_ ?hsz _); (case hsz => (first | omega | (simp; done) | (simp; omega) | (simp at *; omega)))) | ((with_reducible refine Below.setCell ?_ ?hsz _); (case hsz => (first | omega | (simp; done) | (simp; omega) | (simp at *; omega)))) | (with_reducible refine Below.drew ?_) | (with_reducible refine below_drewN ?_ _) | ((with_reducible refine Below.trans ?_ (Below.mono (by with_reducible assumption) ?hsz)); (case hsz => (first | omega | (simp; done) | (simp; omega) | (simp at *; omega))))))
    clear hnn
    obtain ⟨bs, d0, d1, g0, g1⟩ := id bx2
    obtain ⟨A2, c2, rfl, ra1, ra2, ra3, hc2⟩ := hR2.toB.form
    simp only [List.length_nil] at ra1 ra2 ra3 ⊢
    go_wp2_with fail
    with_reducible refine (X2 _ hB2).mono ?_
    rintro e w3 ⟨r3, rfl, hR3, hnn⟩
    have bx3 := bx2.keep hnn
    have hB3 : Below w1.heap.size w1 w3 := by (repeat (first | (with_reducible assumption) | (with_reducible exact Below.refl _ _) | ((with_reducible refine Below.alloc ?_ ?hsz _); (case hsz => (first | omega | (simp; done) | (simp; omega) | (simp at *; omega)))) | ((with_reducible refine Below.setCell ?_ ?hsz _); (case hsz => (first | omega | (simp; done) | (simp; omega) | (simp at *; omega)))) | (with_reducible refine Below.drew ?_) | (with_reducible refine below_drewN ?_ _) | ((with_reducible refine Below.trans ?_ (Below.mono (by with_reducible assumption) ?hsz)); (case hsz => (first | omega | (simp; done) | (simp; omega) | (simp at *; omega))))))
    clear hnn hc2 hR2 d0 d1 g0 g1 X1 X2
    obtain ⟨bs, d0, d1, g0, g1⟩ := id bx3
    obtain ⟨A3, c3, rfl, rb1, rb2, rb3, -⟩ := hR3.form
    simp only [List.length_nil] at rb1 rb2 rb3 ⊢
    clear hR3
    go_wp2_with fail
    with_reducible refine (alive_any _).mono ?_
    rintro e w4 ⟨rfl, hnn⟩
    have bx4 := (bx3).keep hnn
    have hB4 : Below w1.heap.size w1 w4 := by (repeat (first | (with_reducible assumption) | (with_reducible exact Below.refl _ _) | ((with_reducible refine Below.alloc ?_ ?hsz _); (case hsz => (first | omega | (simp; done) | (simp; omega) | (simp at *; omega)))) | ((with_reducible refine Below.setCell ?_ ?hsz _); (case hsz => (first | omega | (simp; done) | (simp; omega) | (simp at *; omega)))) | (with_reducible refine Below.drew ?_) | (with_reducible refine below_drewN ?_ _) | ((with_reducible refine Below.trans ?_ (Below.mono (by with_reducible assumption) ?hsz)); (case hsz => (first | omega | (simp; done) | (simp; omega) | (simp at *; omega))))))
    clear hnn
    (try clear d0 d1 g0 g1)
    obtain ⟨bs, d0, d1, g0, g1⟩ := id bx4
    go_wp2
    (go_ret; exact ⟨rfl, hBw1.trans (Below.mono (by with_reducible assumption) hBw1.size)⟩)
  · obtain ⟨q1, q2, q3, q4, q5⟩ := parts_all hok
    rw [hok] at X1
    simp only [hok] at X2
    clear hok
    have hfew : (partsR z ps xs i j).length ≤ 18 := partsR_few
    have heach := partsR_each (n := z) (ps := ps) (xs := xs) (a := i) (b := j)
    generalize partsR z ps xs i j = LS at *
    have HS := Lib.hid (fun k : Nat => sumT_bd (n := z) (ps := ps) (a := i) (b := j) (Ls := LS.take k) (fun L hL => by obtain ⟨d, l, rfl, d1, d2, -⟩ := q1 L (List.mem_of_mem_take hL); exact ⟨by simp; omega, by simp; omega⟩))
    have HW := Lib.hid (And.intro q1 heach)
    have HQ := Lib.hid (And.intro q2 (And.intro q3 q4))
    clear q1 q2 q3 q4 heach
    go_wp2_with fail
    with_reducible refine X1.mono ?_
    rintro e w2 ⟨r2, rfl, hR2, hnn⟩
    have bx2 := bx1.keep hnn
    have hB2 : Below w1.heap.size w1 w2 := by (repeat (first | (with_reducible assumption) | (with_reducible exact Below.refl _ _) | ((with_reducible refine Below.alloc ?_ ?hsz _); (case hsz => (first | omega | (simp; done) | (simp; omega) | (simp at *; omega)))) | ((with_reducible refine Below.setCell ?_ ?hsz _); (case hsz => (first | omega | (simp; done) | (simp; omega) | (simp at *; omega)))) | (with_reducible refine Below.drew ?_) | (with_reducible refine below_drewN ?_ _) | ((with_reducible refine Below.trans ?_ (Below.mono (by with_reducible assumption) ?hsz)); (case hsz => (first | omega | (simp; done) | (simp; omega) | (simp at *; omega))))))
    clear hnn X1
    obtain ⟨bs, d0, d1, g0, g1⟩ := id bx2
    obtain ⟨A2, c2, rfl, ra1, ra2, ra3, hc2⟩ := hR2.toB.form
    unfold maxLen at ra2
    go_wp2_with fail
    with_reducible refine (X2 _ hB2).mono ?_
    rintro e w3 ⟨r3, rfl, hR3, hnn⟩
    have bx3 := bx2.keep hnn
    have hB3 : Below w1.heap.size w1 w3 := by (repeat (first | (with_reducible assumption) | (with_reducible exact Below.refl _ _) | ((with_reducible refine Below.alloc ?_ ?hsz _); (case hsz => (first | omega | (simp; done) | (simp; omega) | (simp at *; omega)))) | ((with_reducible refine Below.setCell ?_ ?hsz _); (case hsz => (first | omega | (simp; done) | (simp; omega) | (simp at *; omega)))) | (with_reducible refine Below.drew ?_) | (with_reducible refine below_drewN ?_ _) | ((with_reducible refine Below.trans ?_ (Below.mono (by with_reducible assumption) ?hsz)); (case hsz => (first | omega | (simp; done) | (simp; omega) | (simp at *; omega))))))
    have hR23 := hR2.toB.keep hnn
    clear d0 d1 g0 g1 hR2 hc2 X2
    obtain ⟨bs, d0, d1, g0, g1⟩ := id bx3
    obtain ⟨A3, c3, rfl, rb1, rb2, rb3, -⟩ := hR3.form
    unfold maxLen at rb2
    obtain ⟨N, hN⟩ : ∃ N, LS.length = N := ⟨_, rfl⟩
    have HN := Lib.hid hN
    have hneq : ((N : Int) != (N : Int)) = false := by simp
    have hN18 : N ≤ 18 := by omega
    (try rw [hN] at hR23); (try rw [hN] at hR3); (try rw [hN] at ra1); (try rw [hN] at ra3); (try rw [hN] at rb1); (try rw [hN] at rb2); (try rw [hN] at rb3)
    rw [hN]
    clear hN hnn hfew
    go_wp2
    go_loopw [11, 12] (fun s t wr => ∃ k : Nat, k ≤ N ∧ t = .int .i64 k ∧ s = .int .i64 (sumK z ps i j LS k) ∧ Box2 wr w1.heap.size (.int .i64 z) (.slice A1 ps.length c1) ∧ Below w1.heap.size w1 wr ∧ Below w3.heap.size w3 wr) (fun _ t _ => N - (intOf t).toNat)
    case atStart => exact ⟨0, by omega, rfl, by simp [sumK, sumT], bx3, hB3, Below.refl _ _⟩
    case round =>
      obtain ⟨k, hk, rfl, rfl, bx, hB, hb3⟩ := hrel
      clear d0 d1 g0 g1
      obtain ⟨bs, d0, d1, g0, g1⟩ := id bx
      by_cases hlt : k < N
      · obtain ⟨wo, hwo⟩ : ∃ wo : World, wo = wr := ⟨_, rfl⟩
        subst hwo
        have hkl : k < LS.length := by rw [HN.out]; exact hlt
        obtain ⟨A2', c2', hv2, -, -, -, f2⟩ := (hR23.keep hb3).form
        obtain ⟨A3', c3', hv3, -, -, -, f3⟩ := (hR3.keep hb3).form
        obtain ⟨ga, va, ea, -, ga2, ca, ia⟩ := f2 wo (Below.refl _ _) k hkl
        obtain ⟨gb, vb, eb, -, gb2, cb, ib⟩ := f3 wo (Below.refl _ _) k hkl
        injection hv2 with x1 x2 x3
        injection hv3 with y1 y2 y3
        rw [← x1] at ea
        rw [← y1] at eb
        subst ea
        subst eb
        obtain ⟨l2, l7⟩ := HW.out.2 _ (List.getElem_mem hkl)
        obtain ⟨d, l, hL, hd1, hd40, hkind⟩ := HW.out.1 _ (List.getElem_mem hkl)
        have hsn := sumT_snoc (n := z) (a := i) (b := j) (ps := ps) hkl
        obtain ⟨S, hS⟩ : ∃ S, sumK z ps i j LS k = S := ⟨_, rfl⟩
        have hSb := HS.out k
        rw [show sumT z ps i j (LS.take k) = S from hS] at hsn hSb
        have hSl : ((LS.take k).length : Int) ≤ 18 := by rw [List.length_take]; omega
        have hS0 : 0 ≤ S := hSb.1
        have hS1 : S ≤ 720 := by have := hSb.2; omega
        obtain ⟨L, hLL⟩ : ∃ L, LS[k] = L := ⟨_, rfl⟩
        rw [hLL] at ia ib l2 l7 hL hsn
        obtain ⟨M, hM⟩ : ∃ M, L.length = M := ⟨_, rfl⟩
        rw [hM] at l2 l7
        obtain ⟨gv, cv, ev, hRv⟩ := ib.row (by rw [hM]; omega)
        rw [hM] at ev hRv
        subst ev
        obtain ⟨og1, og2⟩ := hRv.lt
        obtain ⟨oc1, oc2⟩ := hRv.capd
        unfold maxLen at oc2
        have cd := (hRv.at' 0 (by omega)).1
        have hd0 : L.getD 0 0 = d := by rw [hL]; rfl
        rw [hd0] at cd hsn
        have hdrop : L.drop 1 = natsI l := by rw [hL]; rfl
        have htail := ib.tail hM (by omega)
        rw [hdrop] at htail hsn
        obtain ⟨tb, htb⟩ : ∃ tb, threadB z ps (natsI l) i j = tb := ⟨_, rfl⟩
        rw [htb] at hsn hkind
        have Hsn : Hid (sumK z ps i j LS (k + 1) = S + if tb = true then d else 0) := Lib.hid hsn
        have hsame : ∀ p : Bw wo, Calls Try.prog 25 #[va, .slice (some ⟨gv, 0, none⟩) M cv] p.v fun e w'' => e = .returned (.bool true) ∧ ∃ r : Bw wo, w'' = r.v := fun p => calls_bw ((sameInts_any _ _ L L _ _ _ (ia.keep p.h) (ib.keep p.h)).mono fun _ _ hh => ⟨by rw [hh.1]; simp, hh.2⟩)
        have hthr : ∀ W, Below wo.heap.size wo W → Calls Try.prog 19 #[.agg #[.int .i64 z, .slice A1 ps.length c1], .slice (some ⟨gv, 1, none⟩) (M - 1) (cv - 1), .int .i64 i, .int .i64 j] W fun e w'' => e = .returned (.bool tb) ∧ Below W.heap.size W w'' := fun W h => (threadOk_rd z i j _ _ ps (natsI l) _ _ ((hp.keep hB).keep h) (htail.keep h)).mono fun _ _ hh => ⟨by rw [hh.1, htb], hh.2⟩
        have hrng : ∀ W, Below wo.heap.size wo W → Calls Try.prog 13 #[.agg #[.int .i64 z, .slice A1 ps.length c1], .slice (some ⟨gv, 1, none⟩) (M - 1) (cv - 1)] W fun e w'' => e = .returned (.bool (ringB z ps (natsI l))) ∧ Below W.heap.size W w'' := fun W h => ringOk_rd z _ _ ps (natsI l) _ _ ((hp.keep hB).keep h) (htail.keep h)
        have Hs := Lib.hid hsame
        have HT := Lib.hid hthr
        have HR := Lib.hid hrng
        have Hk := Lib.hid hkind
        have hca := fun p : Bw wo => (bw_cell p ga2).trans ca
        have hcb := fun p : Bw wo => (bw_cell p gb2).trans cb
        have hcd := fun p : Bw wo => (bw_cell p og2).trans cd
        have hM2 : decide ((M : Int) < 2) = false := decide_eq_false (by omega)
        have hd2 : decide (d < 1) = false := decide_eq_false (by omega)
        have hcv : cv ≠ 1 := by omega
        have hM1 : (1 : Int) ≤ (M : Int) := by omega
        have hM3 : (0 : Int) < (M : Int) := by omega
        have hM4 : 1 ≤ M := by omega
        rw [hS]
        clear hsame hthr hrng hkind hsn htb hL hLL hM hdrop htail ia ib hRv hd0 x1 x2 x3 y1 y2 y3 f2 f3 l2 l7 hSb hSl hS
        go_wp2_with fail
        have hd0 := fun p : Bw wo => (bw_cell p bs).trans d0
        have hd1 := fun p : Bw wo => (bw_cell p bs).trans d1
        refine wp_region_bw (by kernel_rfl) (by kernel_rfl) ?_
        repeat (go_big_quiet_step ((go_at_call 25; with_reducible exact Hs.out _)))
        refine wpQuiet_nil ?_
        rintro _ ⟨pw, rfl⟩
        have bx4 := (bx).keep pw.h
        have hB4 := (hB).trans (pw.h.mono (hB).size)
        have hbq := pw.h
        obtain ⟨w4, hwq⟩ : ∃ wq, wq = pw.v := ⟨_, rfl⟩
        rw [← hwq] at bx4 hB4 hbq ⊢
        clear d0 d1 g0 g1 hd0 hd1 hwq
        obtain ⟨bs, d0, d1, g0, g1⟩ := id bx4
        have hb4 := hb3.trans (hbq.mono hb3.size)
        have hq4 := hbq
        have cb4 := (bel_cell hq4 gb2).trans cb
        have cd4 := (bel_cell hq4 og2).trans cd
        have gb4 : gb < w4.heap.size := Nat.lt_of_lt_of_le gb2 hq4.size
        have og4 : gv < w4.heap.size := Nat.lt_of_lt_of_le og2 hq4.size
        clear hbq hca hcb hcd Hs ca cb cd
        have hthr : ∀ p : Bw w4, Calls Try.prog 19 #[.agg #[.int .i64 z, .slice A1 ps.length c1], .slice (some ⟨gv, 1, none⟩) (M - 1) (cv - 1), .int .i64 i, .int .i64 j] p.v fun e w'' => e = .returned (.bool tb) ∧ ∃ r : Bw w4, w'' = r.v := fun p => calls_bw (HT.out _ (hq4.trans (p.h.mono hq4.size)))
        have Ht := Lib.hid hthr
        clear hthr HT
        have hcb := fun p : Bw w4 => (bw_cell p gb4).trans cb4
        go_wp2_with fail
        have hd0 := fun p : Bw w4 => (bw_cell p bs).trans d0
        have hd1 := fun p : Bw w4 => (bw_cell p bs).trans d1
        refine wp_region_bw (by kernel_rfl) (by kernel_rfl) ?_
        repeat (go_big_quiet_step ((go_at_call 19; with_reducible exact Ht.out _)))
        refine wpQuiet_nil ?_
        rintro _ ⟨pw, rfl⟩
        have bx5 := (bx4).keep pw.h
        have hB5 := (hB4).trans (pw.h.mono (hB4).size)
        have hbq := pw.h
        obtain ⟨w5, hwq⟩ : ∃ wq, wq = pw.v := ⟨_, rfl⟩
        rw [← hwq] at bx5 hB5 hbq ⊢
        clear d0 d1 g0 g1 hd0 hd1 hwq
        obtain ⟨bs, d0, d1, g0, g1⟩ := id bx5
        have hb5 := hb4.trans (hbq.mono hb4.size)
        have hq5 := hq4.trans (hbq.mono hq4.size)
        have cb5 := (bel_cell hbq gb4).trans cb4
        have cd5 := (bel_cell hbq og4).trans cd4
        have gb5 : gb < w5.heap.size := Nat.lt_of_lt_of_le gb4 hbq.size
        have og5 : gv < w5.heap.size := Nat.lt_of_lt_of_le og4 hbq.size
        clear hbq hcb Ht cb4 cd4
        cases tb with
        | true =>
          clear HR Hk
          go_wp2_with fail
          clear cb5 cd5
          have hd0 := fun p : Bw w5 => (bw_cell p bs).trans d0
          have hd1 := fun p : Bw w5 => (bw_cell p bs).trans d1
          refine wp_region_bw (by kernel_rfl) (by kernel_rfl) ?_
          repeat (go_big_quiet_step (fail))
          refine wpQuiet_nil ?_
          rintro _ ⟨pw, rfl⟩
          have bx6 := (bx5).keep pw.h
          have hB6 := (hB5).trans (pw.h.mono (hB5).size)
          have hbq := pw.h
          obtain ⟨w6, hwq⟩ : ∃ wq, wq = pw.v := ⟨_, rfl⟩
          rw [← hwq] at bx6 hB6 hbq ⊢
          clear d0 d1 g0 g1 hd0 hd1 hwq
          obtain ⟨bs, d0, d1, g0, g1⟩ := id bx6
          have hb6 := hb5.trans (hbq.mono hb5.size)
          clear hbq
          go_wp2
          go_roundw
          case rel => exact ⟨k + 1, by omega, by go_num, by rw [Hsn.out]; rfl, bx6, hB6, hb6⟩
          case measure => first | (simp [intOf]; done) | (simp [intOf]; omega)
        | false =>
          have hring : ringB z ps (natsI l) = true := by
            rcases Hk.out with h | h
            · exact h
            · cases h
          rw [hring] at HR
          have hrng : ∀ p : Bw w5, Calls Try.prog 13 #[.agg #[.int .i64 z, .slice A1 ps.length c1], .slice (some ⟨gv, 1, none⟩) (M - 1) (cv - 1)] p.v fun e w'' => e = .returned (.bool true) ∧ ∃ r : Bw w5, w'' = r.v := fun p => calls_bw (HR.out _ (hq5.trans (p.h.mono hq5.size)))
          have Hr := Lib.hid hrng
          have hcb := fun p : Bw w5 => (bw_cell p gb5).trans cb5
          clear hrng HR Hk cb5 cd5 hring
          go_wp2_with fail
          have hd0 := fun p : Bw w5 => (bw_cell p bs).trans d0
          have hd1 := fun p : Bw w5 => (bw_cell p bs).trans d1
          refine wp_region_bw (by kernel_rfl) (by kernel_rfl) ?_
          repeat (go_big_quiet_step ((go_at_call 13; with_reducible exact Hr.out _)))
          refine wpQuiet_nil ?_
          rintro _ ⟨pw, rfl⟩
          have bx6 := (bx5).keep pw.h
          have hB6 := (hB5).trans (pw.h.mono (hB5).size)
          have hbq := pw.h
          obtain ⟨w6, hwq⟩ : ∃ wq, wq = pw.v := ⟨_, rfl⟩
          rw [← hwq] at bx6 hB6 hbq ⊢
          clear d0 d1 g0 g1 hd0 hd1 hwq
          obtain ⟨bs, d0, d1, g0, g1⟩ := id bx6
          have hb6 := hb5.trans (hbq.mono hb5.size)
          clear hbq hcb Hr
          go_wp2
          go_roundw
          case rel => exact ⟨k + 1, by omega, by go_num, by rw [Hsn.out]; simp, bx6, hB6, hb6⟩
          case measure => first | (simp [intOf]; done) | (simp [intOf]; omega)
      · have hkN : N = k := by omega
        subst hkN
        clear hlt hk
        have hsum : sumK z ps i j LS N = exc j ps xs := by
          rw [sumK, List.take_of_length_le (by rw [HN.out]; exact Nat.le_refl _)]
          exact HQ.out.2.1
        rw [hsum]
        clear hsum
        have X := excessAt_any j z _ _ ps xs _ _ _ (hp.keep hB) (hx.keep hB)
        rw [HQ.out.2.2] at X
        obtain ⟨E, hE⟩ : ∃ E, exc j ps xs = E := ⟨_, rfl⟩
        rw [hE] at X ⊢
        clear hE
        go_wp2_with fail
        with_reducible refine (X).mono ?_
        rintro e w4 ⟨rfl, hnn⟩
        have bx4 := (bx).keep hnn
        have hB4 : Below w1.heap.size w1 w4 := by (repeat (first | (with_reducible assumption) | (with_reducible exact Below.refl _ _) | ((with_reducible refine Below.alloc ?_ ?hsz _); (case hsz => (first | omega | (simp; done) | (simp; omega) | (simp at *; omega)))) | ((with_reducible refine Below.setCell ?_ ?hsz _); (case hsz => (first | omega | (simp; done) | (simp; omega) | (simp at *; omega)))) | (with_reducible refine Below.drew ?_) | (with_reducible refine below_drewN ?_ _) | ((with_reducible refine Below.trans ?_ (Below.mono (by with_reducible assumption) ?hsz)); (case hsz => (first | omega | (simp; done) | (simp; omega) | (simp at *; omega))))))
        have hb4 := (hb3).trans (hnn.mono (hb3).size)
        clear hnn
        (try clear d0 d1 g0 g1)
        obtain ⟨bs, d0, d1, g0, g1⟩ := id bx4
        clear X
        obtain ⟨Y, hY⟩ : ∃ Y, xs.length = Y := ⟨_, rfl⟩
        have HT : Hid (takenL Y LS = xs) := Lib.hid (by rw [← hY]; exact HQ.out.1)
        rw [hY] at xk1 xk3 hx q5 ⊢
        clear hY
        go_wp2_with fail
        with_reducible refine (taken_any Y _ _ LS _ ((hR23.keep hb4).rowsI) (by omega)).mono ?_
        rintro e w6 ⟨r6, rfl, hr6, hnn⟩
        rw [HT.out] at hr6
        have bx6 := bx4.keep hnn
        have hB6 : Below w1.heap.size w1 w6 := by (repeat (first | (with_reducible assumption) | (with_reducible exact Below.refl _ _) | ((with_reducible refine Below.alloc ?_ ?hsz _); (case hsz => (first | omega | (simp; done) | (simp; omega) | (simp at *; omega)))) | ((with_reducible refine Below.setCell ?_ ?hsz _); (case hsz => (first | omega | (simp; done) | (simp; omega) | (simp at *; omega)))) | (with_reducible refine Below.drew ?_) | (with_reducible refine below_drewN ?_ _) | ((with_reducible refine Below.trans ?_ (Below.mono (by with_reducible assumption) ?hsz)); (case hsz => (first | omega | (simp; done) | (simp; omega) | (simp at *; omega))))))
        clear hnn d0 d1 g0 g1
        obtain ⟨bs, d0, d1, g0, g1⟩ := id bx6
        go_wp2_with fail
        with_reducible refine (sameInts_any _ _ xs xs _ _ _ hr6 (hx.keep hB6)).mono ?_
        rintro e w7 ⟨rfl, hnn⟩
        have bx7 := (bx6).keep hnn
        have hB7 : Below w1.heap.size w1 w7 := by (repeat (first | (with_reducible assumption) | (with_reducible exact Below.refl _ _) | ((with_reducible refine Below.alloc ?_ ?hsz _); (case hsz => (first | omega | (simp; done) | (simp; omega) | (simp at *; omega)))) | ((with_reducible refine Below.setCell ?_ ?hsz _); (case hsz => (first | omega | (simp; done) | (simp; omega) | (simp at *; omega)))) | (with_reducible refine Below.drew ?_) | (with_reducible refine below_drewN ?_ _) | ((with_reducible refine Below.trans ?_ (Below.mono (by with_reducible assumption) ?hsz)); (case hsz => (first | omega | (simp; done) | (simp; omega) | (simp at *; omega))))))
        clear hnn
        (try clear d0 d1 g0 g1)
        obtain ⟨bs, d0, d1, g0, g1⟩ := id bx7
        rw [show decide (xs = xs) = true from by simp]
        go_wp2
        (go_ret; exact ⟨rfl, hBw1.trans (Below.mono (by with_reducible assumption) hBw1.size)⟩)

set_option maxRecDepth 100000 in
theorem contract (H : Type) (enc : TypeId × Value → H) (W : World) (base : Nat) (args : Array Value) (ds gs : List (DataW H)) (before : List MemPlace)
    (hval : ∀ (j : Nat) t v, Try.f6.params[j]? = some t → args[j]? = some v → Value.okWide Try.prog W .any base t v)
    (hW : DataW.Whole enc Try.prog Try.f6.params.toList Rows.fnPartsOfSpec.vars false W args.toList ds gs before) :
    Calls Try.prog 6 args W fun e W' => ∃ v, e = .returned v ∧ Rows.fnPartsOfSpec.post enc Try.prog Try.f6 false true false false W args v W' := by
  have hW' := hW
  obtain ⟨p, q, hA0, hV, rfl, hfz, hnd⟩ := hW
  have hA : DataW.TrodAll enc Try.prog W 0 (fun _ => true) true Try.f6.params.toList args.toList ds p := hA0
  rw [Try.params6] at hA hval
  obtain ⟨u0, us0, d0, ds0, p0, q0, hargs, rfl, rfl, g0, k0⟩ := trodAll_cons hA
  obtain ⟨rfl, rfl, rfl⟩ := trodAll_nil k0
  obtain rfl : args = #[u0] := by cases args; simp_all
  obtain ⟨rfl, rfl⟩ := trodVars_none hV
  obtain ⟨m0, e0⟩ := g0
  obtain ⟨s0, l0, f0, hh0⟩ := open_arg_bytes e0
  have f0' := one_of_cells Try.underlying22 (hval 0 _ _ rfl rfl) f0
  subst f0'
  refine (walk _ l0 W hh0).mono fun e W' ⟨he, hb⟩ => ?_
  subst he
  exact ⟨_, rfl, law_post Try.kids Try.full (by rw [Try.params6]; decide) rfl rfl Try.underlying4 hW' rfl rfl rfl hb⟩

set_option maxRecDepth 100000 in
theorem lifted (os : Os) (started : os.Started) (H : Type) (enc : TypeId × Value → H) :
    ReturnsInHanded {} Try.checked os 6 .any (Rows.fnPartsOfSpec.pre6 enc Try.prog Try.f6 Rows.fnPartsOfRow.domain false) (Rows.fnPartsOfSpec.post enc Try.prog Try.f6 false true false false) := by
  refine returnsInHanded_of_change (C := Try.checked) Try.own started (by kernel_rfl) Try.func6
    (ChangeSpec.witness6 (enc := enc) (C := Try.checked) false ⟨#[], #[.slice none 0 0], []⟩ 8 (by kernel_rfl) (by kernel_rfl) (by kernel_rfl) (by kernel_rfl)) ?_
  intro W base args ds gs before hval0 hW _ _
  exact contract H enc W base args ds gs before hval0 hW

theorem proved : Rows.FnPartsOfSaid :=
  OpenClaim.holds_of_wide 6 Try.f6 rfl rfl rfl rfl rfl rfl rfl ⟨rfl, rfl, rfl, rfl, rfl⟩ rfl rfl rfl rfl rfl (by kernel_rfl) Try.func6 (by kernel_rfl)
    (of_decide_eq_true (by kernel_rfl)) (by unfold Func.isWrapper; first | (rw [if_pos (by decide +kernel)]; kernel_rfl) | (rw [if_neg (by decide +kernel)]; exact ⟨rfl, rfl⟩))
    (fun os started H enc _ => lifted os started H enc)

end Go.Proofs.Ytlaeckjfjleplaa.lawPartsOf
