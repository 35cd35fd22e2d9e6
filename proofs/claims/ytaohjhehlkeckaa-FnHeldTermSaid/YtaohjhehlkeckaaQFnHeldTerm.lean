/- FnHeldTerm: for every code the law holds: the program's HeldTerm answers as the model; with one more for the pipe, if that may be, the term carries as much, or one more; and with as much as before it is the term. No condition. -/
import Derived.Test.YtaohjhehlkeckaaDD
import Derived.Test.YtaohjhehlkeckaaB6
import Derived.Test.YtaohjhehlkeckaaB7
import Derived.Test.YtaohjhehlkeckaaB9
import Derived.Test.YtaohjhehlkeckaaAX
import Derived.Test.YtaohjhehlkeckaaL6
namespace Go.Proofs.Ytaohjhehlkeckaa.lawHeldTerm
open Go.ChangeShapes Go.WideShapes Go.ChangeAt Go.RowKit Go.Deep Go.Joins

set_option maxHeartbeats 8000000 in
set_option maxRecDepth 20000 in
theorem walk (v : Value) (n : Nat) (w : World) (h : ArgBytes w v n) :
    Calls Try.prog 6 #[v] w fun e w' => e = .returned (.bool true) ∧ Below w.heap.size w w' := by
  obtain ⟨A, c, rfl, hc1, hc2, -⟩ := id h
  unfold maxLen at hc2
  by_cases hbig : 1048576 < n
  · go_enter Try.func6, Try.ntmps6
    go_wp2
    go_ret
    exact ⟨rfl, by (repeat (first | (with_reducible assumption) | (with_reducible exact Below.refl _ _) | ((with_reducible refine Below.alloc ?_ ?hsz _); (case hsz => (first | omega | (simp; done) | (simp; omega) | (simp at *; omega)))) | ((with_reducible refine Below.setCell ?_ ?hsz _); (case hsz => (first | omega | (simp; done) | (simp; omega) | (simp at *; omega)))) | (with_reducible refine Below.drew ?_) | (with_reducible refine below_drewN ?_ _) | ((with_reducible refine Below.trans ?_ (Below.mono (by with_reducible assumption) ?hsz)); (case hsz => (first | omega | (simp; done) | (simp; omega) | (simp at *; omega))))))⟩
  go_enter Try.func6, Try.ntmps6
  go_wp2_with fail
  with_reducible refine (drawHeldTerm_any _ n _ (h.keep (by (repeat (first | (with_reducible assumption) | (with_reducible exact Below.refl _ _) | ((with_reducible refine Below.alloc ?_ ?hsz _); (case hsz => (first | omega | (simp; done) | (simp; omega) | (simp at *; omega)))) | ((with_reducible refine Below.setCell ?_ ?hsz _); (case hsz => (first | omega | (simp; done) | (simp; omega) | (simp at *; omega)))) | (with_reducible refine Below.drew ?_) | (with_reducible refine below_drewN ?_ _) | ((with_reducible refine Below.trans ?_ (Below.mono (by with_reducible assumption) ?hsz)); (case hsz => (first | omega | (simp; done) | (simp; omega) | (simp at *; omega))))))))).mono ?_
  rintro e w1 ⟨r, ts, a, hd, rfl, hm, hl, hBw0, a0, a1, h0, h1⟩
  have hBw1 : Below w.heap.size w w1 := by (repeat (first | (with_reducible assumption) | (with_reducible exact Below.refl _ _) | ((with_reducible refine Below.alloc ?_ ?hsz _); (case hsz => (first | omega | (simp; done) | (simp; omega) | (simp at *; omega)))) | ((with_reducible refine Below.setCell ?_ ?hsz _); (case hsz => (first | omega | (simp; done) | (simp; omega) | (simp at *; omega)))) | (with_reducible refine Below.drew ?_) | (with_reducible refine below_drewN ?_ _) | ((with_reducible refine Below.trans ?_ (Below.mono (by with_reducible assumption) ?hsz)); (case hsz => (first | omega | (simp; done) | (simp; omega) | (simp at *; omega))))))
  clear h hc1 hc2 hbig hBw0
  obtain ⟨A1, c1, rfl, hk1, hk2, hsm, hcell⟩ := hm.form
  have HC := Lib.hid hcell
  clear hcell
  unfold maxLen at hk2
  have hB1 : Below w1.heap.size w1 w1 := Below.refl _ _
  obtain ⟨l, hlq⟩ : ∃ l, ts.length = l := ⟨_, rfl⟩
  have HL := Lib.hid hlq
  rw [hlq] at hm hk1 hsm hl ⊢
  have hts : ts.length ≤ 1048576 := by omega
  clear hlq
  obtain ⟨b, hb⟩ : ∃ b, hldB ts a hd = b := ⟨_, rfl⟩
  have HB := Lib.hid hb
  clear hb
  go_wp2_with fail
  with_reducible refine (heldTerm_any a hd _ ts _ _ (hm.keep hB1) hts).mono ?_
  rintro e w2 ⟨r, rfl, hx2, hnn⟩
  have hBw2 : Below w1.heap.size w1 w2 := by (repeat (first | (with_reducible assumption) | (with_reducible exact Below.refl _ _) | ((with_reducible refine Below.alloc ?_ ?hsz _); (case hsz => (first | omega | (simp; done) | (simp; omega) | (simp at *; omega)))) | ((with_reducible refine Below.setCell ?_ ?hsz _); (case hsz => (first | omega | (simp; done) | (simp; omega) | (simp at *; omega)))) | (with_reducible refine Below.drew ?_) | (with_reducible refine below_drewN ?_ _) | ((with_reducible refine Below.trans ?_ (Below.mono (by with_reducible assumption) ?hsz)); (case hsz => (first | omega | (simp; done) | (simp; omega) | (simp at *; omega))))))
  have hzw2 := hBw2.size
  have hnw2 := hnn
  clear hnn
  rw [HB.out]
  go_wp2_with fail
  with_reducible refine (specHeld_any a hd _ ts _ _ (hm.keep hBw2)).mono ?_
  rintro e w3 ⟨r, rfl, hy3, hnn⟩
  have hBw3 : Below w1.heap.size w1 w3 := by (repeat (first | (with_reducible assumption) | (with_reducible exact Below.refl _ _) | ((with_reducible refine Below.alloc ?_ ?hsz _); (case hsz => (first | omega | (simp; done) | (simp; omega) | (simp at *; omega)))) | ((with_reducible refine Below.setCell ?_ ?hsz _); (case hsz => (first | omega | (simp; done) | (simp; omega) | (simp at *; omega)))) | (with_reducible refine Below.drew ?_) | (with_reducible refine below_drewN ?_ _) | ((with_reducible refine Below.trans ?_ (Below.mono (by with_reducible assumption) ?hsz)); (case hsz => (first | omega | (simp; done) | (simp; omega) | (simp at *; omega))))))
  have hzw3 := hBw3.size
  have hnw3 := hnn
  clear hnn
  rw [HB.out]
  have hx3 := hx2.keep hnw3
  have hl13 := hldR_len ts a hd
  obtain ⟨X, hX⟩ : ∃ x, hldR ts a hd = x := ⟨_, rfl⟩
  have HX := Lib.hid hX
  rw [hX] at hx3 hy3 hl13
  clear hX hx2
  obtain ⟨A5, c5, rfl, hk5, hk6, -, -⟩ := hx3.form
  unfold maxLen at hk6
  obtain ⟨lx, hlx⟩ : ∃ x, X.length = x := ⟨_, rfl⟩
  have HLX := Lib.hid hlx
  rw [hlx] at hx3 hk5 hl13 ⊢
  clear hlx
  go_wp2_with fail
  with_reducible refine (sameMarks_any _ _ X X _ _ _ hx3 hy3).mono ?_
  rintro e w4 ⟨rfl, hnn⟩
  have hB4 : Below w1.heap.size w1 w4 := by (repeat (first | (with_reducible assumption) | (with_reducible exact Below.refl _ _) | ((with_reducible refine Below.alloc ?_ ?hsz _); (case hsz => (first | omega | (simp; done) | (simp; omega) | (simp at *; omega)))) | ((with_reducible refine Below.setCell ?_ ?hsz _); (case hsz => (first | omega | (simp; done) | (simp; omega) | (simp at *; omega)))) | (with_reducible refine Below.drew ?_) | (with_reducible refine below_drewN ?_ _) | ((with_reducible refine Below.trans ?_ (Below.mono (by with_reducible assumption) ?hsz)); (case hsz => (first | omega | (simp; done) | (simp; omega) | (simp at *; omega))))))
  have hzw4 := (hB4).size
  have hnw4 := hnn
  clear hnn
  rw [decide_eq_true (rfl : X = X)]
  have hx4 := hx3.keep hnw4
  clear hx3 hy3
  cases b with
  | false =>
    have e0 : lx = 0 := by rw [← HLX.out, ← HX.out, hldR, if_neg (by simp [HB.out])]; rfl
    subst e0
    go_wp2_with fail
    with_reducible refine (alive_any _).mono ?_
    rintro e w5 ⟨rfl, hnn⟩
    have hB5 : Below w1.heap.size w1 w5 := by (repeat (first | (with_reducible assumption) | (with_reducible exact Below.refl _ _) | ((with_reducible refine Below.alloc ?_ ?hsz _); (case hsz => (first | omega | (simp; done) | (simp; omega) | (simp at *; omega)))) | ((with_reducible refine Below.setCell ?_ ?hsz _); (case hsz => (first | omega | (simp; done) | (simp; omega) | (simp at *; omega)))) | (with_reducible refine Below.drew ?_) | (with_reducible refine below_drewN ?_ _) | ((with_reducible refine Below.trans ?_ (Below.mono (by with_reducible assumption) ?hsz)); (case hsz => (first | omega | (simp; done) | (simp; omega) | (simp at *; omega))))))
    have hzw5 := (hB5).size
    have hnw5 := hnn
    clear hnn
    go_wp2
    (go_ret; exact ⟨rfl, hBw1.trans (Below.mono (by with_reducible assumption) hBw1.size)⟩)
  | true =>
    obtain ⟨t0, -, t2, -⟩ := hld_term HB.out
    rw [HX.out] at t2
    obtain ⟨j, hj, hj0, hja⟩ := hld_find HB.out
    obtain ⟨o1, o2⟩ := hld_own t0 hj hj0 hja
    have hmk := mark_h (term_marks t0 _ (List.getElem_mem hj))
    obtain ⟨cc, hcc⟩ : ∃ x, hldB ts a (hd + 1) = x := ⟨_, rfl⟩
    obtain ⟨nn, hnn9⟩ : ∃ x, carriesN X = x := ⟨_, rfl⟩
    obtain ⟨mm, hmm⟩ : ∃ x, carriesN (hldR ts a (hd + 1)) = x := ⟨_, rfl⟩
    have hnb : 0 ≤ nn ∧ nn ≤ 28 := by
      rw [← hnn9]
      obtain ⟨-, hg, h7, -⟩ := term_of t2
      have := (tmOf X).carry_bd hg
      simp only [carriesN, t2, if_true]; omega
    obtain ⟨hnb0, hnb1⟩ := hnb
    have hor : cc = true → mm = nn ∨ mm = nn + 1 := fun hc => by
      have h2 := hld_more HB.out (by rw [hcc]; exact hc)
      rw [hmm, HX.out, hnn9] at h2
      exact h2
    have HO := Lib.hid (And.intro o1 o2)
    have HCC := Lib.hid hcc
    have HNN := Lib.hid (And.intro hnn9 (And.intro hmm t2))
    have HOR := Lib.hid hor
    have HJ := Lib.hid (And.intro hj0 hja)
    obtain ⟨oh, hoh⟩ : ∃ x, ts[j].h = x := ⟨_, rfl⟩
    have HOH := Lib.hid hoh
    rw [hoh] at HO hmk
    obtain ⟨ho0, ho1⟩ := hmk
    have HUN := Lib.hid (fun k hk k0 h => hld_uniq (ts := ts) (j := j) (k := k) hj hk hj0 k0 h)
    have hjl : j < l := by have := HL.out; omega
    clear hcc hnn9 hmm t0 t2 o1 o2 hor hja hj0 hoh
    go_wp2_with fail
    with_reducible refine (heldTerm_any a (hd + 1) _ ts _ _ (hm.keep hB4) hts).mono ?_
    rintro e w5 ⟨r, rfl, hz5', hnn⟩
    have hBw5 : Below w1.heap.size w1 w5 := by (repeat (first | (with_reducible assumption) | (with_reducible exact Below.refl _ _) | ((with_reducible refine Below.alloc ?_ ?hsz _); (case hsz => (first | omega | (simp; done) | (simp; omega) | (simp at *; omega)))) | ((with_reducible refine Below.setCell ?_ ?hsz _); (case hsz => (first | omega | (simp; done) | (simp; omega) | (simp at *; omega)))) | (with_reducible refine Below.drew ?_) | (with_reducible refine below_drewN ?_ _) | ((with_reducible refine Below.trans ?_ (Below.mono (by with_reducible assumption) ?hsz)); (case hsz => (first | omega | (simp; done) | (simp; omega) | (simp at *; omega))))))
    have hzw5 := hBw5.size
    have hnw5 := hnn
    clear hnn
    rw [HCC.out]
    have hx5 := hx4.keep hnw5
    obtain ⟨A6, c6, rfl, -, -, -, -⟩ := hz5'.form
    obtain ⟨lz, hlz⟩ : ∃ x, (hldR ts a (hd + 1)).length = x := ⟨_, rfl⟩
    rw [hlz] at hz5' ⊢
    clear hlz
    go_wp2_with fail
    with_reducible refine (carriesOf_any _ X _ _ hx5).mono ?_
    rintro e w6 ⟨rfl, hnn⟩
    have hB6 : Below w1.heap.size w1 w6 := by (repeat (first | (with_reducible assumption) | (with_reducible exact Below.refl _ _) | ((with_reducible refine Below.alloc ?_ ?hsz _); (case hsz => (first | omega | (simp; done) | (simp; omega) | (simp at *; omega)))) | ((with_reducible refine Below.setCell ?_ ?hsz _); (case hsz => (first | omega | (simp; done) | (simp; omega) | (simp at *; omega)))) | (with_reducible refine Below.drew ?_) | (with_reducible refine below_drewN ?_ _) | ((with_reducible refine Below.trans ?_ (Below.mono (by with_reducible assumption) ?hsz)); (case hsz => (first | omega | (simp; done) | (simp; omega) | (simp at *; omega))))))
    have hzw6 := (hB6).size
    have hnw6 := hnn
    clear hnn
    rw [HNN.out.1]
    have hx6 := hx5.keep hnw6
    have hz6' := hz5'.keep hnw6
    go_wp2_with fail
    with_reducible refine (carriesOf_any _ _ _ _ hz6').mono ?_
    rintro e w7 ⟨rfl, hnn⟩
    have hB7 : Below w1.heap.size w1 w7 := by (repeat (first | (with_reducible assumption) | (with_reducible exact Below.refl _ _) | ((with_reducible refine Below.alloc ?_ ?hsz _); (case hsz => (first | omega | (simp; done) | (simp; omega) | (simp at *; omega)))) | ((with_reducible refine Below.setCell ?_ ?hsz _); (case hsz => (first | omega | (simp; done) | (simp; omega) | (simp at *; omega)))) | (with_reducible refine Below.drew ?_) | (with_reducible refine below_drewN ?_ _) | ((with_reducible refine Below.trans ?_ (Below.mono (by with_reducible assumption) ?hsz)); (case hsz => (first | omega | (simp; done) | (simp; omega) | (simp at *; omega))))))
    have hzw7 := (hB7).size
    have hnw7 := hnn
    clear hnn
    rw [HNN.out.2.1]
    have hx7 := hx6.keep hnw7
    clear hx4 hx5 hx6 hz5' hz6'
    have HTL := Lib.hid (fun k => (show countK 0 (ts.take k) ≤ 14 by
      have h1 := countK_le 0 (ts.take k)
      have h2 : (ts.take k).length ≤ ts.length := by simp; omega
      have := HL.out
      omega))
    have HS := Lib.hid (fun k hk => countK_snoc 0 ts k hk)
    go_wp2_with fail
    go_loopw [16, 15, 14] (fun q t o wr => ∃ k : Nat, k ≤ l ∧ q = .int .i64 k ∧ t = .int .i64 (countK 0 (ts.take k)) ∧ o = .int .i64 (if j < k then oh else -1) ∧ Below w7.heap.size w7 wr) (fun q _ _ _ => l - (intOf q).toNat)
    case atStart => exact ⟨0, by omega, rfl, rfl, by rw [if_neg (by omega)], by (repeat (first | (with_reducible assumption) | (with_reducible exact Below.refl _ _) | ((with_reducible refine Below.alloc ?_ ?hsz _); (case hsz => (first | omega | (simp; done) | (simp; omega) | (simp at *; omega)))) | ((with_reducible refine Below.setCell ?_ ?hsz _); (case hsz => (first | omega | (simp; done) | (simp; omega) | (simp at *; omega)))) | (with_reducible refine Below.drew ?_) | (with_reducible refine below_drewN ?_ _) | ((with_reducible refine Below.trans ?_ (Below.mono (by with_reducible assumption) ?hsz)); (case hsz => (first | omega | (simp; done) | (simp; omega) | (simp at *; omega))))))⟩
    case round =>
      obtain ⟨k, hk, rfl, rfl, rfl, hb⟩ := hrel
      have hbw : Below w1.heap.size w1 wr := hB7.trans (hb.mono hB7.size)
      have hbz := hbw.size
      have h0l := HTL.out k
      by_cases hlt : k < l
      · have hltT : k < ts.length := by have := HL.out; omega
        obtain ⟨g, rfl, hg1, hg2, c0, c1, c2⟩ := HC.out wr hbw k hltT
        have hgr : g < wr.heap.size := by omega
        have hs := HS.out k hltT
        by_cases hk0 : ts[k].k = 0
        · rw [if_pos hk0] at hs
          by_cases hna : (countK 0 (ts.take k) : Int) = a
          · have hjk : j = k := HUN.out k hltT hk0 (by have := HJ.out.2; omega)
            subst hjk
            have hb0 : (if j < j then oh else (-1 : Int)) = -1 := by rw [if_neg (by omega)]
            rw [HOH.out] at c1
            rw [hk0] at c0
            rw [hb0, hna]
            have HSS := Lib.hid (And.intro hs hna)
            have hn14 : a ≤ 14 := by omega
            have ha00 : 0 ≤ a := by omega
            clear hs hna hk0 hb0 h0l
            go_wp2_with fail
            go_roundw
            case rel => exact ⟨j + 1, by omega, by go_num, by rw [HSS.out.1]; have := HSS.out.2; go_num, by rw [if_pos (by omega)], hb⟩
            case measure => simp [intOf]; omega
          · have hjk : ¬ j = k := fun e => by subst e; exact hna HJ.out.2
            have hne : ((countK 0 (ts.take k) : Int) == a) = false := by simpa using hna
            have he : (if j < k then oh else (-1 : Int)) = if j < k + 1 then oh else -1 := by
              by_cases hh : j < k
              · rw [if_pos hh, if_pos (by omega)]
              · rw [if_neg hh, if_neg (by omega)]
            rw [he]
            rw [hk0] at c0
            have HSS := Lib.hid hs
            obtain ⟨oo, hoo⟩ : ∃ x, (if j < k + 1 then oh else (-1 : Int)) = x := ⟨_, rfl⟩
            have HOO := Lib.hid hoo
            rw [hoo]
            clear hoo
            generalize countK 0 (ts.take k) = n0 at *
            clear hs hna hk0 hjk he
            go_wp2_with fail
            go_roundw
            case rel => exact ⟨k + 1, by omega, by go_num, by rw [HSS.out]; go_num, by rw [HOO.out], hb⟩
            case measure => simp [intOf]; omega
        · have hjk : ¬ j = k := fun e => by subst e; exact hk0 HJ.out.1
          have b0 : (ts[k].k == 0) = false := by simpa using hk0
          rw [if_neg hk0] at hs
          have he : (if j < k then oh else (-1 : Int)) = if j < k + 1 then oh else -1 := by
            by_cases hh : j < k
            · rw [if_pos hh, if_pos (by omega)]
            · rw [if_neg hh, if_neg (by omega)]
          rw [he]
          have HSS := Lib.hid hs
          obtain ⟨oo, hoo⟩ : ∃ x, (if j < k + 1 then oh else (-1 : Int)) = x := ⟨_, rfl⟩
          have HOO := Lib.hid hoo
          rw [hoo]
          clear hoo
          generalize countK 0 (ts.take k) = n0 at *
          clear hs hk0 hjk he
          go_wp2_with fail
          go_roundw
          case rel => exact ⟨k + 1, by omega, by go_num, by rw [HSS.out]; go_num, by rw [HOO.out], hb⟩
          case measure => simp [intOf]; omega
      · have hk2 : k = l := by omega
        subst hk2
        rw [if_pos hjl]
        have hxr := hx7.keep hb
        generalize countK 0 (ts.take k) = n0 at *
        clear hlt hb h0l
        go_wp2_with fail
        with_reducible refine (heldTerm_any a oh _ ts _ _ (hm.keep hbw) hts).mono ?_
        rintro e w8 ⟨r, rfl, hs8, hnn⟩
        have hBw8 : Below w1.heap.size w1 w8 := by (repeat (first | (with_reducible assumption) | (with_reducible exact Below.refl _ _) | ((with_reducible refine Below.alloc ?_ ?hsz _); (case hsz => (first | omega | (simp; done) | (simp; omega) | (simp at *; omega)))) | ((with_reducible refine Below.setCell ?_ ?hsz _); (case hsz => (first | omega | (simp; done) | (simp; omega) | (simp at *; omega)))) | (with_reducible refine Below.drew ?_) | (with_reducible refine below_drewN ?_ _) | ((with_reducible refine Below.trans ?_ (Below.mono (by with_reducible assumption) ?hsz)); (case hsz => (first | omega | (simp; done) | (simp; omega) | (simp at *; omega))))))
        have hzw8 := hBw8.size
        have hnw8 := hnn
        clear hnn
        rw [HO.out.1]
        rw [HO.out.2] at hs8
        have hx8 := hxr.keep hnw8
        clear hxr
        go_wp2_with fail
        with_reducible refine (termOk_any _ X _ _ hx8).mono ?_
        rintro e w9 ⟨rfl, hnn⟩
        have hB9 : Below w1.heap.size w1 w9 := by (repeat (first | (with_reducible assumption) | (with_reducible exact Below.refl _ _) | ((with_reducible refine Below.alloc ?_ ?hsz _); (case hsz => (first | omega | (simp; done) | (simp; omega) | (simp at *; omega)))) | ((with_reducible refine Below.setCell ?_ ?hsz _); (case hsz => (first | omega | (simp; done) | (simp; omega) | (simp at *; omega)))) | (with_reducible refine Below.drew ?_) | (with_reducible refine below_drewN ?_ _) | ((with_reducible refine Below.trans ?_ (Below.mono (by with_reducible assumption) ?hsz)); (case hsz => (first | omega | (simp; done) | (simp; omega) | (simp at *; omega))))))
        have hzw9 := (hB9).size
        have hnw9 := hnn
        clear hnn
        rw [HNN.out.2.2]
        have hs9 := hs8.keep hnw9
        have hmw9 := hm.keep hB9
        clear hs8 hx8
        cases cc with
        | false =>
          go_wp2_with fail
          with_reducible refine (sameMarks_any _ _ ts ts _ _ _ hs9 hmw9).mono ?_
          rintro e w10 ⟨rfl, hnn⟩
          have hB10 : Below w1.heap.size w1 w10 := by (repeat (first | (with_reducible assumption) | (with_reducible exact Below.refl _ _) | ((with_reducible refine Below.alloc ?_ ?hsz _); (case hsz => (first | omega | (simp; done) | (simp; omega) | (simp at *; omega)))) | ((with_reducible refine Below.setCell ?_ ?hsz _); (case hsz => (first | omega | (simp; done) | (simp; omega) | (simp at *; omega)))) | (with_reducible refine Below.drew ?_) | (with_reducible refine below_drewN ?_ _) | ((with_reducible refine Below.trans ?_ (Below.mono (by with_reducible assumption) ?hsz)); (case hsz => (first | omega | (simp; done) | (simp; omega) | (simp at *; omega))))))
          have hzw10 := (hB10).size
          have hnw10 := hnn
          clear hnn
          rw [decide_eq_true (rfl : ts = ts)]
          go_wp2
          (go_ret; exact ⟨rfl, hBw1.trans (Below.mono (by with_reducible assumption) hBw1.size)⟩)
        | true =>
          rcases HOR.out rfl with rfl | rfl
          · go_wp2_with fail
            with_reducible refine (sameMarks_any _ _ ts ts _ _ _ hs9 hmw9).mono ?_
            rintro e w10 ⟨rfl, hnn⟩
            have hB10 : Below w1.heap.size w1 w10 := by (repeat (first | (with_reducible assumption) | (with_reducible exact Below.refl _ _) | ((with_reducible refine Below.alloc ?_ ?hsz _); (case hsz => (first | omega | (simp; done) | (simp; omega) | (simp at *; omega)))) | ((with_reducible refine Below.setCell ?_ ?hsz _); (case hsz => (first | omega | (simp; done) | (simp; omega) | (simp at *; omega)))) | (with_reducible refine Below.drew ?_) | (with_reducible refine below_drewN ?_ _) | ((with_reducible refine Below.trans ?_ (Below.mono (by with_reducible assumption) ?hsz)); (case hsz => (first | omega | (simp; done) | (simp; omega) | (simp at *; omega))))))
            have hzw10 := (hB10).size
            have hnw10 := hnn
            clear hnn
            rw [decide_eq_true (rfl : ts = ts)]
            go_wp2
            (go_ret; exact ⟨rfl, hBw1.trans (Below.mono (by with_reducible assumption) hBw1.size)⟩)
          · have hne1 : (nn + 1 == nn) = false := by rw [beq_eq_false_iff_ne]; omega
            go_wp2_with fail
            with_reducible refine (sameMarks_any _ _ ts ts _ _ _ hs9 hmw9).mono ?_
            rintro e w10 ⟨rfl, hnn⟩
            have hB10 : Below w1.heap.size w1 w10 := by (repeat (first | (with_reducible assumption) | (with_reducible exact Below.refl _ _) | ((with_reducible refine Below.alloc ?_ ?hsz _); (case hsz => (first | omega | (simp; done) | (simp; omega) | (simp at *; omega)))) | ((with_reducible refine Below.setCell ?_ ?hsz _); (case hsz => (first | omega | (simp; done) | (simp; omega) | (simp at *; omega)))) | (with_reducible refine Below.drew ?_) | (with_reducible refine below_drewN ?_ _) | ((with_reducible refine Below.trans ?_ (Below.mono (by with_reducible assumption) ?hsz)); (case hsz => (first | omega | (simp; done) | (simp; omega) | (simp at *; omega))))))
            have hzw10 := (hB10).size
            have hnw10 := hnn
            clear hnn
            rw [decide_eq_true (rfl : ts = ts)]
            go_wp2
            (go_ret; exact ⟨rfl, hBw1.trans (Below.mono (by with_reducible assumption) hBw1.size)⟩)

set_option maxRecDepth 100000 in
theorem contract (H : Type) (enc : TypeId × Value → H) (W : World) (base : Nat) (args : Array Value) (ds gs : List (DataW H)) (before : List MemPlace)
    (hval : ∀ (j : Nat) t v, Try.f6.params[j]? = some t → args[j]? = some v → Value.okWide Try.prog W .any base t v)
    (hW : DataW.Whole enc Try.prog Try.f6.params.toList Rows.fnHeldTermSpec.vars false W args.toList ds gs before) :
    Calls Try.prog 6 args W fun e W' => ∃ v, e = .returned v ∧ Rows.fnHeldTermSpec.post enc Try.prog Try.f6 false true false false W args v W' := by
  have hW' := hW
  obtain ⟨p, q, hA0, hV, rfl, hfz, hnd⟩ := hW
  have hA : DataW.TrodAll enc Try.prog W 0 (fun _ => true) true Try.f6.params.toList args.toList ds p := hA0
  rw [Try.params6] at hA hval
  obtain ⟨u0, us0, d0, ds0, p0, q0, hargs, rfl, rfl, g0, k0⟩ := trodAll_cons hA
  obtain ⟨rfl, rfl, rfl⟩ := trodAll_nil k0
  obtain rfl : args = #[u0] := by cases args; simp_all
  obtain ⟨rfl, rfl⟩ := trodVars_none hV
  obtain ⟨m0, e0⟩ := g0
  obtain ⟨s0, l0, f0, hh0⟩ := open_arg_bytes e0
  have f0' := one_of_cells Try.underlying22 (hval 0 _ _ rfl rfl) f0
  subst f0'
  refine (walk _ l0 W hh0).mono fun e W' ⟨he, hb⟩ => ?_
  subst he
  exact ⟨_, rfl, law_post Try.kids Try.full (by rw [Try.params6]; decide) rfl rfl Try.underlying4 hW' rfl rfl rfl hb⟩

set_option maxRecDepth 100000 in
theorem lifted (os : Os) (started : os.Started) (H : Type) (enc : TypeId × Value → H) :
    ReturnsInHanded {} Try.checked os 6 .any (Rows.fnHeldTermSpec.pre6 enc Try.prog Try.f6 Rows.fnHeldTermRow.domain false) (Rows.fnHeldTermSpec.post enc Try.prog Try.f6 false true false false) := by
  refine returnsInHanded_of_change (C := Try.checked) Try.own started (by kernel_rfl) Try.func6
    (ChangeSpec.witness6 (enc := enc) (C := Try.checked) false ⟨#[], #[.slice none 0 0], []⟩ 8 (by kernel_rfl) (by kernel_rfl) (by kernel_rfl) (by kernel_rfl)) ?_
  intro W base args ds gs before hval0 hW _ _
  exact contract H enc W base args ds gs before hval0 hW

theorem proved : Rows.FnHeldTermSaid :=
  OpenClaim.holds_of_wide 6 Try.f6 rfl rfl rfl rfl rfl rfl rfl ⟨rfl, rfl, rfl, rfl, rfl⟩ rfl rfl rfl rfl rfl (by kernel_rfl) Try.func6 (by kernel_rfl)
    (of_decide_eq_true (by kernel_rfl)) (by unfold Func.isWrapper; first | (rw [if_pos (by decide +kernel)]; kernel_rfl) | (rw [if_neg (by decide +kernel)]; exact ⟨rfl, rfl⟩))
    (fun os started H enc _ => lifted os started H enc)

end Go.Proofs.Ytaohjhehlkeckaa.lawHeldTerm
