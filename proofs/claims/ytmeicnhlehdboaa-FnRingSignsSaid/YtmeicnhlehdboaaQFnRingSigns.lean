/- FnRingSigns: for every code the law holds: the program's RingSigns answers as the model; at each node the signs of all pipes to it and those of all from it are together the same; the pipe itself has 1, and all others that are not of the tree 0. No condition. -/
import Derived.Test.YtmeicnhlehdboaaL1
import Derived.Test.YtmeicnhlehdboaaL3
import Derived.Test.YtmeicnhlehdboaaDZ
import Derived.Test.YtmeicnhlehdboaaJ3
import Derived.Test.YtmeicnhlehdboaaJ4
import Derived.Test.YtmeicnhlehdboaaU5
import Derived.Test.YtmeicnhlehdboaaX3
namespace Go.Proofs.Ytmeicnhlehdboaa.lawRingSigns
open Go.ChangeShapes Go.WideShapes Go.ChangeAt Go.RowKit Go.Deep Go.Joins

theorem excT_bd1 {v : Int} {p : Pp} {x : Int} (h : -1 ≤ x ∧ x ≤ 1) : -1 ≤ excT v p x ∧ excT v p x ≤ 1 := by
  unfold excT; repeat' split
  all_goals omega
theorem exc_bd1 (v : Int) (ps : List Pp) (xs : List Int) (h : ∀ x ∈ xs, -1 ≤ x ∧ x ≤ 1) : -(ps.length : Int) ≤ exc v ps xs ∧ exc v ps xs ≤ (ps.length : Int) := by
  induction ps generalizing xs with
  | nil => rw [exc_nil1]; simp
  | cons p ps ih =>
    cases xs with
    | nil => rw [exc_nil2]; simp; omega
    | cons x xs =>
      have h1 := ih xs (fun y hy => h y (by simp [hy]))
      have h2 := excT_bd1 (v := v) (p := p) (h x (by simp))
      rw [exc_cons, List.length_cons]
      push_cast
      omega

set_option maxHeartbeats 4000000 in
set_option maxRecDepth 20000 in
theorem walk (v : Value) (n : Nat) (w : World) (h : ArgBytes w v n) :
    Calls Try.prog 7 #[v] w fun e w' => e = .returned (.bool true) ∧ Below w.heap.size w w' := by
  obtain ⟨A, c, rfl, hc1, hc2, -⟩ := id h
  unfold maxLen at hc2
  by_cases hbig : 1048576 < n
  · go_enter Try.func7, Try.ntmps7
    go_wp2
    go_ret
    exact ⟨rfl, by (repeat (first | (with_reducible assumption) | (with_reducible exact Below.refl _ _) | ((with_reducible refine Below.alloc ?_ ?hsz _); (case hsz => (first | omega | (simp; done) | (simp; omega) | (simp at *; omega)))) | ((with_reducible refine Below.setCell ?_ ?hsz _); (case hsz => (first | omega | (simp; done) | (simp; omega) | (simp at *; omega)))) | (with_reducible refine Below.drew ?_) | (with_reducible refine below_drewN ?_ _) | ((with_reducible refine Below.trans ?_ (Below.mono (by with_reducible assumption) ?hsz)); (case hsz => (first | omega | (simp; done) | (simp; omega) | (simp at *; omega))))))⟩
  go_enter Try.func7, Try.ntmps7
  go_wp2_with fail
  with_reducible refine (drawRingSigns_any _ n _ (h.keep (by (repeat (first | (with_reducible assumption) | (with_reducible exact Below.refl _ _) | ((with_reducible refine Below.alloc ?_ ?hsz _); (case hsz => (first | omega | (simp; done) | (simp; omega) | (simp at *; omega)))) | ((with_reducible refine Below.setCell ?_ ?hsz _); (case hsz => (first | omega | (simp; done) | (simp; omega) | (simp at *; omega)))) | (with_reducible refine Below.drew ?_) | (with_reducible refine below_drewN ?_ _) | ((with_reducible refine Below.trans ?_ (Below.mono (by with_reducible assumption) ?hsz)); (case hsz => (first | omega | (simp; done) | (simp; omega) | (simp at *; omega))))))))).mono ?_
  rintro e w1 ⟨z, ps, u, i, rfl, hp, hb1, hl8⟩
  have hBw1 : Below w.heap.size w w1 := by (repeat (first | (with_reducible assumption) | (with_reducible exact Below.refl _ _) | ((with_reducible refine Below.alloc ?_ ?hsz _); (case hsz => (first | omega | (simp; done) | (simp; omega) | (simp at *; omega)))) | ((with_reducible refine Below.setCell ?_ ?hsz _); (case hsz => (first | omega | (simp; done) | (simp; omega) | (simp at *; omega)))) | (with_reducible refine Below.drew ?_) | (with_reducible refine below_drewN ?_ _) | ((with_reducible refine Below.trans ?_ (Below.mono (by with_reducible assumption) ?hsz)); (case hsz => (first | omega | (simp; done) | (simp; omega) | (simp at *; omega))))))
  clear h hc1 hc2 hbig
  obtain ⟨A1, c1, rfl, hk1, hk2, hsm, -⟩ := hp.form
  unfold maxLen at hk2
  have bx1 : Box2 (w1.alloc (.cells #[.int .i64 z, .slice A1 ps.length c1] 25)) w1.heap.size (.int .i64 z) (.slice A1 ps.length c1) := Box2.new _ _ _ _
  have hB1 : Below w1.heap.size w1 (w1.alloc (.cells #[.int .i64 z, .slice A1 ps.length c1] 25)) := by (repeat (first | (with_reducible assumption) | (with_reducible exact Below.refl _ _) | ((with_reducible refine Below.alloc ?_ ?hsz _); (case hsz => (first | omega | (simp; done) | (simp; omega) | (simp at *; omega)))) | ((with_reducible refine Below.setCell ?_ ?hsz _); (case hsz => (first | omega | (simp; done) | (simp; omega) | (simp at *; omega)))) | (with_reducible refine Below.drew ?_) | (with_reducible refine below_drewN ?_ _) | ((with_reducible refine Below.trans ?_ (Below.mono (by with_reducible assumption) ?hsz)); (case hsz => (first | omega | (simp; done) | (simp; omega) | (simp at *; omega))))))
  go_wp2_with fail
  with_reducible refine (ringSigns_any z i _ ps _ _ (hp.keep hB1)).mono ?_
  rintro e w2 ⟨sA, rfl, hL2, hnn⟩
  have bx2 := (bx1).keep hnn
  have hB2 : Below w1.heap.size w1 w2 := by (repeat (first | (with_reducible assumption) | (with_reducible exact Below.refl _ _) | ((with_reducible refine Below.alloc ?_ ?hsz _); (case hsz => (first | omega | (simp; done) | (simp; omega) | (simp at *; omega)))) | ((with_reducible refine Below.setCell ?_ ?hsz _); (case hsz => (first | omega | (simp; done) | (simp; omega) | (simp at *; omega)))) | (with_reducible refine Below.drew ?_) | (with_reducible refine below_drewN ?_ _) | ((with_reducible refine Below.trans ?_ (Below.mono (by with_reducible assumption) ?hsz)); (case hsz => (first | omega | (simp; done) | (simp; omega) | (simp at *; omega))))))
  have hbl := hnn
  clear hnn
  (try clear d0 d1 g0 g1)
  obtain ⟨bs, d0, d1, g0, g1⟩ := id bx2
  clear hbl
  obtain ⟨SA, sc, rfl, sk1, sk2, -, -⟩ := hL2.form
  go_wp2_with fail
  with_reducible refine (specSigns_any z i _ ps _ _ (hp.keep hB2)).mono ?_
  rintro e w3 ⟨sM, rfl, hM3, hnn⟩
  have bx3 := (bx2).keep hnn
  have hB3 : Below w1.heap.size w1 w3 := by (repeat (first | (with_reducible assumption) | (with_reducible exact Below.refl _ _) | ((with_reducible refine Below.alloc ?_ ?hsz _); (case hsz => (first | omega | (simp; done) | (simp; omega) | (simp at *; omega)))) | ((with_reducible refine Below.setCell ?_ ?hsz _); (case hsz => (first | omega | (simp; done) | (simp; omega) | (simp at *; omega)))) | (with_reducible refine Below.drew ?_) | (with_reducible refine below_drewN ?_ _) | ((with_reducible refine Below.trans ?_ (Below.mono (by with_reducible assumption) ?hsz)); (case hsz => (first | omega | (simp; done) | (simp; omega) | (simp at *; omega))))))
  have hbl := hnn
  clear hnn
  (try clear d0 d1 g0 g1)
  obtain ⟨bs, d0, d1, g0, g1⟩ := id bx3
  obtain ⟨MA, mc, rfl, mk1, mk2, -, -⟩ := hM3.form
  have hL3 := hL2.keep hbl
  clear hbl hL2
  obtain ⟨S, hS⟩ : ∃ S, signsR z ps i = S := ⟨_, rfl⟩
  have HS := Lib.hid hS
  rw [hS] at hL3 hM3 sk1 mk1 ⊢
  clear hS
  go_wp2_with fail
  with_reducible refine (sameInts_any _ _ S S _ _ _ hL3 hM3).mono ?_
  rintro e w4 ⟨rfl, hnn⟩
  have bx4 := (bx3).keep hnn
  have hB4 : Below w1.heap.size w1 w4 := by (repeat (first | (with_reducible assumption) | (with_reducible exact Below.refl _ _) | ((with_reducible refine Below.alloc ?_ ?hsz _); (case hsz => (first | omega | (simp; done) | (simp; omega) | (simp at *; omega)))) | ((with_reducible refine Below.setCell ?_ ?hsz _); (case hsz => (first | omega | (simp; done) | (simp; omega) | (simp at *; omega)))) | (with_reducible refine Below.drew ?_) | (with_reducible refine below_drewN ?_ _) | ((with_reducible refine Below.trans ?_ (Below.mono (by with_reducible assumption) ?hsz)); (case hsz => (first | omega | (simp; done) | (simp; omega) | (simp at *; omega))))))
  have hb4 := ((Below.refl w3.heap.size w3)).trans (hnn.mono ((Below.refl w3.heap.size w3)).size)
  clear hnn
  (try clear d0 d1 g0 g1)
  obtain ⟨bs, d0, d1, g0, g1⟩ := id bx4
  have hL4 := hL3.keep hb4
  have hM4 := hM3.keep hb4
  clear hM3 hL3 hb4
  have hdec : decide (S = S) = true := by simp
  rw [hdec]
  clear hdec
  unfold maxLen at sk2 mk2
  cases hsb : signB z ps i with
  | false =>
    have hS0 : S = [] := by rw [← HS.out]; exact signsR_no hsb
    clear HS
    subst hS0
    simp only [List.length_nil] at *
    go_wp2_with fail
    with_reducible refine (alive_any _).mono ?_
    rintro e w6 ⟨rfl, hnn⟩
    have bx6 := (bx4).keep hnn
    have hB6 : Below w1.heap.size w1 w6 := by (repeat (first | (with_reducible assumption) | (with_reducible exact Below.refl _ _) | ((with_reducible refine Below.alloc ?_ ?hsz _); (case hsz => (first | omega | (simp; done) | (simp; omega) | (simp at *; omega)))) | ((with_reducible refine Below.setCell ?_ ?hsz _); (case hsz => (first | omega | (simp; done) | (simp; omega) | (simp at *; omega)))) | (with_reducible refine Below.drew ?_) | (with_reducible refine below_drewN ?_ _) | ((with_reducible refine Below.trans ?_ (Below.mono (by with_reducible assumption) ?hsz)); (case hsz => (first | omega | (simp; done) | (simp; omega) | (simp at *; omega))))))
    clear hnn
    (try clear d0 d1 g0 g1)
    obtain ⟨bs, d0, d1, g0, g1⟩ := id bx6
    go_wp2
    (go_ret; exact ⟨rfl, hBw1.trans (Below.mono (by with_reducible assumption) hBw1.size)⟩)
  | true =>
    obtain ⟨hok, i0, i1, ht⟩ := sign_parts hsb
    obtain ⟨hring, hone⟩ := signsR_ring hsb
    rw [HS.out] at hring hone
    obtain ⟨hlS, hat, hoff, hexc⟩ := hring
    obtain ⟨k0, rfl⟩ := Int.eq_ofNat_of_zero_le i0
    obtain ⟨n2, n5, hl7, -⟩ := netOk_parts hok
    obtain ⟨N, rfl⟩ := Int.eq_ofNat_of_zero_le (show 0 ≤ z by omega)
    rw [Int.toNat_natCast] at ht hat hoff hexc
    have HE := Lib.hid (show ∀ p ∈ ps, endsIn (N : Int) p from net_endsIn hok)
    have HX := Lib.hid hexc
    have HO := Lib.hid (And.intro hok (And.intro hat (And.intro hone hoff)))
    have HT := Lib.hid (show treeR (N : Int) ps = treeL N ps by rw [treeR, if_pos hok, Int.toNat_natCast])
    have hk0 : k0 < ps.length := by omega
    obtain ⟨M, hM⟩ : ∃ M, ps.length = M := ⟨_, rfl⟩
    have HM := Lib.hid hM
    rw [hM] at hlS hl7 hk0 bx4 d1 hk1
    rw [hlS] at sk1 mk1 ⊢
    have hpM := hp
    rw [hM] at hpM
    have HLS := Lib.hid hlS
    clear hok ht hat hoff hexc hone hsb i0 i1 hlS hM hL4 hl8 hsm
    go_wp2
    go_loopw [9] (fun a wr => ∃ q : Nat, q ≤ N ∧ a = .int .i64 (q : Int) ∧ Box2 wr w1.heap.size (.int .i64 (N : Int)) (.slice A1 M c1) ∧ Below w1.heap.size w1 wr ∧ Below w4.heap.size w4 wr) (fun a _ => N - (intOf a).toNat)
    case atStart => exact ⟨0, by omega, rfl, bx4, hB4, Below.refl _ _⟩
    case round =>
      clear bx4 hB4 d0 d1 g0 g1 bs
      obtain ⟨q, hq, rfl, bx, hB, hC⟩ := hrel
      obtain ⟨bs, d0, d1, g0, g1⟩ := id bx
      by_cases hqN : q < N
      · have HXq := Lib.hid (HX.out q hqN)
        go_wp2
        go_loopw [11, 10] (fun a b wr => ∃ j : Nat, j ≤ M ∧ a = .int .i64 (j : Int) ∧ b = .int .i64 (exc (q : Int) (ps.take j) (S.take j)) ∧ Box2 wr w1.heap.size (.int .i64 (N : Int)) (.slice A1 M c1) ∧ Below w1.heap.size w1 wr ∧ Below w4.heap.size w4 wr) (fun a _ _ => M - (intOf a).toNat)
        case atStart => exact ⟨0, by omega, rfl, rfl, bx, hB, hC⟩
        case round =>
          clear bx hB hC d0 d1 g0 g1 bs
          obtain ⟨j, hj, rfl, rfl, bx, hB, hC⟩ := hrel
          obtain ⟨bs, d0, d1, g0, g1⟩ := id bx
          by_cases hjM : j < M
          · have hjp : j < ps.length := by rw [HM.out]; exact hjM
            have hjS : j < S.length := by rw [HLS.out]; exact hjM
            obtain ⟨g, eg, -, hg2, p0, p1, -, -, -⟩ := hpM.cellAt hB j hjp
            subst eg
            obtain ⟨gs, es, -, hgs2, cs, -⟩ := hM4.cellAt hC j hjS
            subst es
            have Hs := Lib.hid (exc_snoc (q : Int) ps S j hjp hjS)
            have hb1 := exc_bd1 (q : Int) (ps.take j) (S.take j) (fun x hx => HO.out.2.2.1 x (List.mem_of_mem_take hx))
            have hx1 := HO.out.2.2.1 _ (List.getElem_mem hjS)
            have hlt7 : (ps.take j).length ≤ 7 := by rw [List.length_take]; omega
            obtain ⟨-, -, -, -, hne⟩ := HE.out ps[j] (List.getElem_mem hjp)
            have HEX := Lib.hid (show ∀ x, excT (q : Int) ps[j] x = if (q : Int) = ps[j].to then x else if (q : Int) = ps[j].fr then -x else 0 from fun x => rfl)
            obtain ⟨ex, hex⟩ : ∃ ex, exc (q : Int) (ps.take j) (S.take j) = ex := ⟨_, rfl⟩
            rw [hex] at hb1 Hs ⊢
            generalize S[j] = x at *
            obtain ⟨h1, h2⟩ := hb1
            have h3 : -7 ≤ ex := by omega
            have h4 : ex ≤ 7 := by omega
            obtain ⟨x1, x2⟩ := hx1
            rw [HEX.out] at Hs
            generalize ps[j].fr = pf at *
            generalize ps[j].to = pt at *
            have hgr : g < wr.heap.size := by have := hB.size; omega
            have hgsr : gs < wr.heap.size := by have := hC.size; omega
            clear h1 h2 hlt7 hex HEX
            by_cases ht : (q : Int) = pt
            · have e1 : (pt == (q : Int)) = true := by simp [ht]
              have e2 : (pf == (q : Int)) = false := by rw [beq_eq_false_iff_ne]; omega
              have Hn : Hid (exc (q : Int) (ps.take (j + 1)) (S.take (j + 1)) = ex + x) := Lib.hid (by rw [Hs.out, if_pos ht])
              clear ht Hs hne
              go_wp2
              go_roundw
              case rel => exact ⟨j + 1, by omega, by go_num, by rw [Hn.out], bx, hB, hC⟩
              case measure => simp [intOf]; omega
            · have e1 : (pt == (q : Int)) = false := by rw [beq_eq_false_iff_ne]; omega
              by_cases hf : (q : Int) = pf
              · have e2 : (pf == (q : Int)) = true := by simp [hf]
                have Hn : Hid (exc (q : Int) (ps.take (j + 1)) (S.take (j + 1)) = ex - x) := Lib.hid (by rw [Hs.out, if_neg ht, if_pos hf]; omega)
                clear ht hf Hs hne
                go_wp2
                go_roundw
                case rel => exact ⟨j + 1, by omega, by go_num, by rw [Hn.out], bx, hB, hC⟩
                case measure => simp [intOf]; omega
              · have e2 : (pf == (q : Int)) = false := by rw [beq_eq_false_iff_ne]; omega
                have Hn : Hid (exc (q : Int) (ps.take (j + 1)) (S.take (j + 1)) = ex) := Lib.hid (by rw [Hs.out, if_neg ht, if_neg hf]; omega)
                clear ht hf Hs hne
                go_wp2
                go_roundw
                case rel => exact ⟨j + 1, by omega, by go_num, by rw [Hn.out], bx, hB, hC⟩
                case measure => simp [intOf]; omega
          · have e0 : exc (q : Int) (ps.take j) (S.take j) = 0 := by
              rw [List.take_of_length_le (by rw [HM.out]; omega), List.take_of_length_le (by rw [HLS.out]; omega)]
              exact HXq.out
            rw [e0]
            clear e0
            go_wp2
            go_roundw
            case rel => exact ⟨q + 1, by omega, by go_num, bx, hB, hC⟩
            case measure => simp [intOf]; omega
      · go_wp2_with fail
        with_reducible refine (treePipes_any (N : Int) _ ps _ _ (hpM.keep hB)).mono ?_
        rintro e w5 ⟨sT, rfl, hT5, hnn⟩
        have bx5 := bx.keep hnn
        have hB5 : Below w1.heap.size w1 w5 := by (repeat (first | (with_reducible assumption) | (with_reducible exact Below.refl _ _) | ((with_reducible refine Below.alloc ?_ ?hsz _); (case hsz => (first | omega | (simp; done) | (simp; omega) | (simp at *; omega)))) | ((with_reducible refine Below.setCell ?_ ?hsz _); (case hsz => (first | omega | (simp; done) | (simp; omega) | (simp at *; omega)))) | (with_reducible refine Below.drew ?_) | (with_reducible refine below_drewN ?_ _) | ((with_reducible refine Below.trans ?_ (Below.mono (by with_reducible assumption) ?hsz)); (case hsz => (first | omega | (simp; done) | (simp; omega) | (simp at *; omega))))))
        have hC5 : Below w4.heap.size w4 w5 := hC.trans (hnn.mono hC.size)
        rw [HT.out] at hT5
        obtain ⟨TA, tc, rfl, tk1, tk2, -, -⟩ := hT5.form
        obtain ⟨Tn, hTn⟩ : ∃ Tn, (treeL N ps).length = Tn := ⟨_, rfl⟩
        rw [hTn] at hT5 ⊢
        clear hnn bx hB hC d0 d1 g0 g1 bs tk1 tk2 hTn
        obtain ⟨bs, d0, d1, g0, g1⟩ := id bx5
        go_wp2
        go_loopw [13] (fun a wr => ∃ j : Nat, j ≤ M ∧ a = .int .i64 (j : Int) ∧ Below w1.heap.size w1 wr ∧ Below w4.heap.size w4 wr ∧ Below w5.heap.size w5 wr) (fun a _ => M - (intOf a).toNat)
        case atStart => exact ⟨0, by omega, rfl, hB5, hC5, Below.refl _ _⟩
        case round =>
          clear bx5 hB5 hC5 d0 d1 g0 g1 bs
          obtain ⟨j, hj, rfl, hB, hC, hD⟩ := hrel
          by_cases hjM : j < M
          · have hjp : j < ps.length := by rw [HM.out]; exact hjM
            have hjS : j < S.length := by rw [HLS.out]; exact hjM
            obtain ⟨gs, es, -, hgs2, cs, -⟩ := hM4.cellAt hC j hjS
            subst es
            have hgsr : gs < wr.heap.size := by have := hC.size; omega
            obtain ⟨x1, x2⟩ := HO.out.2.2.1 _ (List.getElem_mem hjS)
            have Hin := Lib.hid (tree_in (n := N) hjp)
            have hoj : j ≠ k0 → S[j] ≠ 0 → treeF N ps j = true := fun h1 h2 => by
              cases ht : treeF N ps j with
              | true => rfl
              | false =>
                have := HO.out.2.2.2 j hjp h1 ht
                rw [List.getD_eq_getElem?_getD, List.getElem?_eq_getElem hjS] at this
                exact absurd this h2
            have Hoj := Lib.hid hoj
            clear hoj
            generalize S[j] = x at *
            have hx1 : decide (x < -1) = false := decide_eq_false (by omega)
            have hx2 : decide (1 < x) = false := decide_eq_false (by omega)
            have hjL : (j : Int) < (M : Int) := by omega
            by_cases hjk : j = k0
            · have e1 : ((j : Int) != (k0 : Int)) = false := by simp [hjk]
              clear hjk
              go_wp2
              go_roundw
              case rel => exact ⟨j + 1, by omega, by go_num, hB, hC, hD⟩
              case measure => simp [intOf]; omega
            · have e1 : ((j : Int) != (k0 : Int)) = true := by rw [bne_iff_ne]; omega
              by_cases hx0 : x = 0
              · have e2 : (x != 0) = false := by simp [hx0]
                clear hjk hx0
                go_wp2
                go_roundw
                case rel => exact ⟨j + 1, by omega, by go_num, hB, hC, hD⟩
                case measure => simp [intOf]; omega
              · have e2 : (x != 0) = true := by simp [hx0]
                have Htr := Lib.hid (Hoj.out hjk hx0)
                clear hjk hx0
                go_wp2_with fail
                with_reducible refine (hasInt_any _ (treeL N ps) (j : Int) _ _ (hT5.keep hD)).mono ?_
                rintro e w6 ⟨rfl, hnn⟩
                rw [Hin.out, Htr.out]
                have hB6 : Below w1.heap.size w1 w6 := hB.trans (hnn.mono hB.size)
                have hC6 : Below w4.heap.size w4 w6 := hC.trans (hnn.mono hC.size)
                have hD6 : Below w5.heap.size w5 w6 := hD.trans (hnn.mono hD.size)
                have c6 := (hnn.cell (p := ⟨gs, j, none⟩) hgsr).trans cs
                have hgs6 : gs < w6.heap.size := by have := hnn.size; omega
                clear cs hnn
                go_wp2
                go_roundw
                case rel => exact ⟨j + 1, by omega, by go_num, hB6, hC6, hD6⟩
                case measure => simp [intOf]; omega
          · obtain ⟨gs, es, -, hgs2, cs, -⟩ := hM4.cellAt hC k0 (by rw [HLS.out]; exact hk0)
            subst es
            have hgsr : gs < wr.heap.size := by have := hC.size; omega
            have c1' : wr.cell? ⟨gs, k0, none⟩ = some (.int .i64 1) := by
              have := HO.out.2.1
              rw [List.getD_eq_getElem?_getD, List.getElem?_eq_getElem (by rw [HLS.out]; exact hk0), Option.getD_some] at this
              rw [cs, this]
            clear cs
            go_wp2
            (go_ret; exact ⟨rfl, hBw1.trans (Below.mono (by with_reducible assumption) hBw1.size)⟩)

set_option maxRecDepth 100000 in
theorem contract (H : Type) (enc : TypeId × Value → H) (W : World) (base : Nat) (args : Array Value) (ds gs : List (DataW H)) (before : List MemPlace)
    (hval : ∀ (j : Nat) t v, Try.f7.params[j]? = some t → args[j]? = some v → Value.okWide Try.prog W .any base t v)
    (hW : DataW.Whole enc Try.prog Try.f7.params.toList Rows.fnRingSignsSpec.vars false W args.toList ds gs before) :
    Calls Try.prog 7 args W fun e W' => ∃ v, e = .returned v ∧ Rows.fnRingSignsSpec.post enc Try.prog Try.f7 false true false false W args v W' := by
  have hW' := hW
  obtain ⟨p, q, hA0, hV, rfl, hfz, hnd⟩ := hW
  have hA : DataW.TrodAll enc Try.prog W 0 (fun _ => true) true Try.f7.params.toList args.toList ds p := hA0
  rw [Try.params7] at hA hval
  obtain ⟨u0, us0, d0, ds0, p0, q0, hargs, rfl, rfl, g0, k0⟩ := trodAll_cons hA
  obtain ⟨rfl, rfl, rfl⟩ := trodAll_nil k0
  obtain rfl : args = #[u0] := by cases args; simp_all
  obtain ⟨rfl, rfl⟩ := trodVars_none hV
  obtain ⟨m0, e0⟩ := g0
  obtain ⟨s0, l0, f0, hh0⟩ := open_arg_bytes e0
  have f0' := one_of_cells Try.underlying22 (hval 0 _ _ rfl rfl) f0
  subst f0'
  refine (walk _ l0 W hh0).mono fun e W' ⟨he, hb⟩ => ?_
  subst he
  exact ⟨_, rfl, law_post Try.kids Try.full (by rw [Try.params7]; decide) rfl rfl Try.underlying4 hW' rfl rfl rfl hb⟩

set_option maxRecDepth 100000 in
theorem lifted (os : Os) (started : os.Started) (H : Type) (enc : TypeId × Value → H) :
    ReturnsInHanded {} Try.checked os 7 .any (Rows.fnRingSignsSpec.pre6 enc Try.prog Try.f7 Rows.fnRingSignsRow.domain false) (Rows.fnRingSignsSpec.post enc Try.prog Try.f7 false true false false) := by
  refine returnsInHanded_of_change (C := Try.checked) Try.own started (by kernel_rfl) Try.func7
    (ChangeSpec.witness6 (enc := enc) (C := Try.checked) false ⟨#[], #[.slice none 0 0], []⟩ 8 (by kernel_rfl) (by kernel_rfl) (by kernel_rfl) (by kernel_rfl)) ?_
  intro W base args ds gs before hval0 hW _ _
  exact contract H enc W base args ds gs before hval0 hW

theorem proved : Rows.FnRingSignsSaid :=
  OpenClaim.holds_of_wide 7 Try.f7 rfl rfl rfl rfl rfl rfl rfl ⟨rfl, rfl, rfl, rfl, rfl⟩ rfl rfl rfl rfl rfl (by kernel_rfl) Try.func7 (by kernel_rfl)
    (of_decide_eq_true (by kernel_rfl)) (by unfold Func.isWrapper; first | (rw [if_pos (by decide +kernel)]; kernel_rfl) | (rw [if_neg (by decide +kernel)]; exact ⟨rfl, rfl⟩))
    (fun os started H enc _ => lifted os started H enc)

end Go.Proofs.Ytmeicnhlehdboaa.lawRingSigns
