/- Plain facts. -/
import Derived.Test.YtabkhpeoeihmmaaYF
import Derived.Test.YtabkhpeoeihmmaaWI
/- Contracts of the functions of chapter 12 in the program: a push, a lift, a step. -/
namespace Go.Proofs.Ytabkhpeoeihmmaa
open Go.RowKit

theorem HillOk.setFlow {w : World} {B g : Nat} {n i j : Int} {ps : List Pp} {xs xs' ys : List Int} (h : HillOk w B g n i j ps xs ys) (hB : B ≤ g) {w2 : World} (hb : Below w.heap.size w w2) {r : Value} (hr : Ints w2 w.heap.size r xs') : HillOk (w2.setCell ⟨g, 0, none⟩ r) B g n i j ps xs' ys ∧ Below B w (w2.setCell ⟨g, 0, none⟩ r) ∧ w.grownBy (w2.setCell ⟨g, 0, none⟩ r) (some g) ∧ ∀ x, w.cell? ⟨g, 1, none⟩ = some x → (w2.setCell ⟨g, 0, none⟩ r).cell? ⟨g, 1, none⟩ = some x := by
  have hg := h.lt
  have hz := hb.size
  obtain ⟨u, t, v, b, hH, hp, hx, ht, hap⟩ := h
  have tin := ints_in ht
  have hH2 := hH.keep hb
  have hp2 := hp.keep hb
  have ht2 := ht.keep hb
  obtain ⟨⟨cs, hh⟩, c0, c1, c2, c3, c4, c5⟩ := hH2
  have nt := own_ne ht2.1 hh (by decide)
  have nr := own_ne hr.1 hh (by decide)
  have np := own_ne hp2.1 hh (by decide)
  have oth : ∀ {o : Nat} {x : Value}, w2.cell? ⟨g, o, none⟩ = some x → o ≠ 0 → (w2.setCell ⟨g, 0, none⟩ r).cell? ⟨g, o, none⟩ = some x := fun hx ho => (World.cell?_setCell_other _ _ _ _ (by intro e; injection e with e1 e2; omega)).trans hx
  refine ⟨⟨r, t, v, b, ⟨?_, World.cell?_setCell_same _ _ _ c0, oth c1 (by decide), oth c2 (by decide), oth c3 (by decide), oth c4 (by decide), oth c5 (by decide)⟩, ⟨ownsRow_setCell_other hp2.1 (a := ⟨g, 0, none⟩) (fun e => np g e rfl) _, hp2.2⟩, (ints_off12 hr (fun e => nr g e rfl) _).mono (by omega), ints_off12 ht2 (fun e => nt g e rfl) _, fun x y hx hy => ?_⟩, (hb.mono (by omega)).setCell (p := ⟨g, 0, none⟩) hB _, grow_set ⟨hb.os, hb.tape, hb.output, hb.size, fun q hq _ => hb.block q hq⟩ (.inr rfl) _, fun x hx => oth ((bel_cell hb hg).trans hx) (by decide)⟩
  · exact ⟨_, heap_set (j := 0) _ hh⟩
  · have := (ints_in hr x hx).1
    have := (tin y hy).2
    omega

theorem HillOk.setHeight {w : World} {B g : Nat} {n i j : Int} {ps : List Pp} {xs ys : List Int} (h : HillOk w B g n i j ps xs ys) (hne : 0 < ys.length) : ∃ gy cap, w.cell? ⟨g, 1, none⟩ = some (.slice (some ⟨gy, 0, none⟩) ys.length cap) ∧ B ≤ gy ∧ Row w B gy ys.length cap ys ∧
    ∀ {w2 : World}, Below w.heap.size w w2 → ∀ (k : Nat) (z : Int), k < ys.length → HillOk (w2.setCell ⟨gy, k, none⟩ (.int .i64 z)) B g n i j ps xs (ys.set k z) ∧ Below B w (w2.setCell ⟨gy, k, none⟩ (.int .i64 z)) ∧ ∀ x, w.cell? ⟨g, 1, none⟩ = some x → (w2.setCell ⟨gy, k, none⟩ (.int .i64 z)).cell? ⟨g, 1, none⟩ = some x := by
  obtain ⟨u, t, v, b, hH, hp, hx, ht, hap⟩ := h
  obtain ⟨gy, cap, rfl, hR⟩ := ht.row hne
  obtain ⟨hB, hgy⟩ := hR.lt
  have hgl := hH.lt
  refine ⟨gy, cap, hH.2.2.1, hB, hR, fun {w2} hb k z hk => ?_⟩
  have hz := hb.size
  obtain ⟨⟨cs, hh⟩, c0, c1, c2, c3, c4, c5⟩ := hH.keep hb
  have hR2 := hR.keep hb
  have hg : g ≠ gy := own_ne hR2.1 hh (by decide) gy rfl
  have far : ∀ {o : Nat} {x : Value}, w2.cell? ⟨g, o, none⟩ = some x → (w2.setCell ⟨gy, k, none⟩ (.int .i64 z)).cell? ⟨g, o, none⟩ = some x := fun hx => (World.cell?_setCell_other _ _ _ _ (by intro e; injection e with e1 e2; exact hg e1.symm)).trans hx
  have hp2 := hp.keep hb
  have np : v.ownBlock ≠ some gy := fun e => by
    obtain ⟨cu, ct, hc⟩ : ∃ (cu : Array Value) (fr : Nat × Nat), w2.heap[gy]? = some (.cells cu 3 fr) := by
      rcases hR2.1.2 with ⟨h0, -⟩ | ⟨g', c', cur, h0, -, hh2, -⟩
      · cases h0
      · injection h0 with h0; injection h0 with h0; injection h0 with h0; subst h0; exact ⟨_, _, hh2⟩
    exact own_ne hp2.1 hc (by decide) gy e rfl
  refine ⟨⟨u, .slice (some ⟨gy, 0, none⟩) ys.length cap, v, b, ⟨⟨cs, ?_⟩, far c0, far c1, far c2, far c3, far c4, far c5⟩, ⟨ownsRow_setCell_other hp2.1 (a := ⟨gy, k, none⟩) np _, hp2.2⟩, ints_off12 (hx.keep hb) (fun e => hap gy gy e rfl rfl) _, ?_, hap⟩, (hb.mono (by omega)).setCell (p := ⟨gy, k, none⟩) hB _, fun x hx => far ((bel_cell hb hgl).trans hx)⟩
  · rw [Below.heap_setCell _ _ _ _ hg]; exact hh
  · have := (hR2.set k z).ints
    have hl : (ys.set k z).length = ys.length := by simp
    exact this

theorem push1_bd {n : Int} {ps : List Pp} {xs : List Int} {d : Int} {s : Nat} (hh : holdsB n ps xs = true) (hs : s < 2 * ps.length) (h0 : 0 ≤ d) (h1 : d ≤ stRoom ps xs s) (q : Nat) : 0 ≤ (push1 d xs s).getD q 0 ∧ (push1 d xs s).getD q 0 ≤ 40 := by
  have hn := holds_net hh
  have hi := push1_inB ((holds_inB hn).1 hh) hs h0 h1
  by_cases hq : q < ps.length
  · have h2 := hi.2 q hq
    have h3 := net_rooms hn ps[q] (List.getElem_mem hq)
    omega
  · rw [List.getD_eq_getElem?_getD, List.getElem?_eq_none (by rw [hi.1]; omega)]
    simp

end Go.Proofs.Ytabkhpeoeihmmaa

/- Contracts of the functions of chapter 12 in the program: a push. -/
namespace Go.Proofs.Ytabkhpeoeihmmaa
open Go.RowKit

theorem ints_lit12 (w : World) (x : Int) : Ints (w.alloc (.cells #[.int .i64 x] 3)) w.heap.size (.slice (some ⟨w.heap.size, 0, none⟩) 1 1) [x] :=
  ⟨World.ownsRow_lit (e := 3) (base := w.heap.size) (size := 1) w #[.int .i64 x] 1 (Nat.le_refl _) (by simp [maxLen]) rfl, by simp [small]⟩

/-- what the operations yield -/
def puV (g : Nat) (k xe ye : Int) (s : Nat) (v u : Value) : Nat → Value → Prop
  | 0, x => x = .pointer (some ⟨g, 0, none⟩)
  | 1, x => x = .int .i64 k
  | 2, x => x = .int .i64 xe
  | 3, x => x = .pointer (some ⟨g, 0, none⟩)
  | 4, x => x = .pointer (some ⟨g, 0, none⟩)
  | 5, x => x = .pointer (some ⟨g, 2, none⟩)
  | 6, x => x = .pointer (some ⟨g, 3, none⟩)
  | 7, x => x = v
  | 8, x => x = .pointer (some ⟨g, 0, none⟩)
  | 9, x => x = .pointer (some ⟨g, 0, none⟩)
  | 10, x => x = .pointer (some ⟨g, 0, none⟩)
  | 11, x => x = .pointer (some ⟨g, 0, none⟩)
  | 12, x => x = u
  | 13, x => x = .int .i64 (s : Int)
  | 14, x => x = .int .i64 ye
  | 15, x => x = .int .i64 (min xe ye)
  | 16, x => x = .int .i64 (min xe ye)
  | _, _ => True

set_option maxHeartbeats 4000000 in
set_option maxRecDepth 20000 in
theorem hillPush_any {B g : Nat} {n i j : Int} {ps : List Pp} {xs ys : List Int} (k : Int) (s : Nat) (w : World) (h : HillOk w B g n i j ps xs ys) (hB : B ≤ g) (hh : holdsB n ps xs = true) (hs : s < 2 * ps.length) (he : 0 < exc k ps xs) :
    Calls Try.prog 110 #[.pointer (some ⟨g, 0, none⟩), .int .i64 k, .int .i64 s] w fun e w' => e = .returned (.tuple #[]) ∧ HillOk w' B g n i j ps (push1 (mayP ps xs k s) xs s) ys ∧ Below B w w' ∧ w.grownBy w' (some g) ∧ ∀ z, w.cell? ⟨g, 1, none⟩ = some z → w'.cell? ⟨g, 1, none⟩ = some z := by
  have h0 := h
  obtain ⟨u, t, v, b, hH, hp, hx, ht, hap⟩ := h
  have hg := hH.lt
  obtain ⟨⟨cs, hhp⟩, c0, -, -, c3, -, -⟩ := id hH
  have hn := holds_net hh
  have hl7 := (netOk_parts hn).2.2.1
  obtain ⟨hf, -, hlx⟩ := holds_parts hh
  have ha := (flowOk_parts hf).2.2
  have hr := net_rooms hn
  have hroom := stRoom_le hn ((holds_inB hn).1 hh) hs
  have hm : 0 ≤ mayP ps xs k s ∧ mayP ps xs k s ≤ stRoom ps xs s ∧ mayP ps xs k s ≤ 40 := by unfold mayP; omega
  have hbd : ∀ q q' : Nat, 0 ≤ (pushL (mayP ps xs k s) xs ([s].take q)).getD q' 0 ∧ (pushL (mayP ps xs k s) xs ([s].take q)).getD q' 0 ≤ 40 := fun q q' => by
    cases q with
    | zero =>
      have hi := (holds_inB hn).1 hh
      show 0 ≤ xs.getD q' 0 ∧ xs.getD q' 0 ≤ 40
      by_cases hq : q' < ps.length
      · have h2 := hi.2 q' hq
        have h3 := hr ps[q'] (List.getElem_mem hq)
        omega
      · rw [List.getD_eq_getElem?_getD, List.getElem?_eq_none (by rw [hi.1]; omega)]
        simp
    | succ q =>
      have e : [s].take (q + 1) = [s] := by simp
      rw [e]
      exact push1_bd hh hs hm.1 hm.2.1 q'
  have HE : Hid (∀ W, Below w.heap.size w W → Calls Try.prog 97 #[.pointer (some ⟨g, 0, none⟩), .int .i64 k] W fun e w' => e = .returned (.int .i64 (exc k ps xs)) ∧ Below W.heap.size W w') := Lib.hid fun W hW => hillExc_any k _ (h0.keep hW) hh
  have HM : Hid (mayP ps xs k s = min (exc k ps xs) (stRoom ps xs s)) := Lib.hid rfl
  obtain ⟨A, c, rfl, -, -, -, -⟩ := hp.form
  obtain ⟨A1, c1, rfl, -, -, -, -⟩ := hx.form
  have HRm : Hid (∀ W, Below w.heap.size w W → Calls Try.prog 130 #[.slice A ps.length c, .slice A1 xs.length c1, .int .i64 s] W fun e w' => e = .returned (.int .i64 (stRoom ps xs s)) ∧ Below W.heap.size W w') := Lib.hid fun W hW => stepRoom_any s _ _ ps xs b B _ (hp.keep hW) (hx.keep hW) hs hl7 hlx ha hr
  have HS := Lib.hid hs
  have HX := Lib.hid (And.intro hx (And.intro hlx (And.intro hbd hm)))
  have hps : 0 < ps.length := by omega
  have hBw : B ≤ w.heap.size := by omega
  generalize exc k ps xs = xe at *
  generalize stRoom ps xs s = ye at *
  clear hH hp hx ht hap hn hf hr ha hbd hm hroom hhp hs he hlx
  go_enter Try.func110, Try.ntmps110
  go_wp2_with fail
  refine wp_region_flow 17 none [(0, 7), (1, 8), (2, 9), (3, 10), (4, 11), (5, 12), (6, 13), (7, 14), (8, 15), (9, 16), (10, 17), (11, 18), (12, 19), (13, 20), (14, 21), (15, 22), (16, 6)] (fun j x _ _ => puV g k xe ye s (.slice A ps.length c) (.slice A1 xs.length c1) j x) (fun _ _ _ => True) (fun _ wx => Below w.heap.size w wx) (by kernel_rfl) (by kernel_rfl) rfl ⟨rfl, rfl, rfl, Nat.le_refl _, fun _ _ => rfl⟩ ?_ ?_ ?_ ?_
  · exact fun _ _ _ _ _ _ _ _ _ _ h => h
  · exact fun _ _ _ _ _ _ _ h => h
  · simp (maxSteps := 4000000) only [eachOp, fillF, List.setIfInBounds_toArray, List.set_cons_succ, List.set_cons_zero]
    refine ⟨?_, ?_, ?_, ?_, ?_, ?_, ?_, ?_, ?_, ?_, ?_, ?_, ?_, ?_, ?_, ?_, ?_, trivial⟩ <;> intro u f wx hC hd <;> (try simp [allV, useOf, Region.binds] at hd)
    · go_wp2
      exact ⟨_, rfl, rfl, trivial, hC⟩
    · go_wp2
      exact ⟨_, rfl, rfl, trivial, hC⟩
    · rw [show u 0 = _ from (by first | exact hd | exact hd.1 | exact hd.2 | exact hd.2.1 | exact hd.2.2 | exact hd.2.2.1 | exact hd.2.2.2 | exact hd.2.2.2.1 | exact hd.2.2.2.2), show u 1 = _ from (by first | exact hd | exact hd.1 | exact hd.2 | exact hd.2.1 | exact hd.2.2 | exact hd.2.2.1 | exact hd.2.2.2 | exact hd.2.2.2.1 | exact hd.2.2.2.2)]
      go_wp2_with fail
      refine (HE.out wx hC).mono ?_
      rintro e w4 ⟨rfl, hb4⟩
      go_wp2
      exact ⟨_, rfl, rfl, trivial, hC.trans (hb4.mono hC.size)⟩
    · go_wp2
      exact ⟨_, rfl, rfl, trivial, hC⟩
    · rw [show u 3 = _ from (by first | exact hd | exact hd.1 | exact hd.2 | exact hd.2.1 | exact hd.2.2 | exact hd.2.2.1 | exact hd.2.2.2 | exact hd.2.2.2.1 | exact hd.2.2.2.2)]
      go_wp2
      exact ⟨_, rfl, rfl, trivial, hC⟩
    · rw [show u 4 = _ from (by first | exact hd | exact hd.1 | exact hd.2 | exact hd.2.1 | exact hd.2.2 | exact hd.2.2.1 | exact hd.2.2.2 | exact hd.2.2.2.1 | exact hd.2.2.2.2)]
      go_wp2
      exact ⟨_, rfl, rfl, trivial, hC⟩
    · rw [show u 5 = _ from (by first | exact hd | exact hd.1 | exact hd.2 | exact hd.2.1 | exact hd.2.2 | exact hd.2.2.1 | exact hd.2.2.2 | exact hd.2.2.2.1 | exact hd.2.2.2.2)]
      go_wp2
      exact ⟨_, rfl, rfl, trivial, hC⟩
    · rw [show u 6 = _ from (by first | exact hd | exact hd.1 | exact hd.2 | exact hd.2.1 | exact hd.2.2 | exact hd.2.2.1 | exact hd.2.2.2 | exact hd.2.2.2.1 | exact hd.2.2.2.2)]
      have e3 := (bel_cell hC hg).trans c3
      go_wp2
      exact ⟨_, rfl, rfl, trivial, hC⟩
    · go_wp2
      exact ⟨_, rfl, rfl, trivial, hC⟩
    · rw [show u 8 = _ from (by first | exact hd | exact hd.1 | exact hd.2 | exact hd.2.1 | exact hd.2.2 | exact hd.2.2.1 | exact hd.2.2.2 | exact hd.2.2.2.1 | exact hd.2.2.2.2)]
      go_wp2
      exact ⟨_, rfl, rfl, trivial, hC⟩
    · rw [show u 9 = _ from (by first | exact hd | exact hd.1 | exact hd.2 | exact hd.2.1 | exact hd.2.2 | exact hd.2.2.1 | exact hd.2.2.2 | exact hd.2.2.2.1 | exact hd.2.2.2.2)]
      go_wp2
      exact ⟨_, rfl, rfl, trivial, hC⟩
    · rw [show u 10 = _ from (by first | exact hd | exact hd.1 | exact hd.2 | exact hd.2.1 | exact hd.2.2 | exact hd.2.2.1 | exact hd.2.2.2 | exact hd.2.2.2.1 | exact hd.2.2.2.2)]
      go_wp2
      exact ⟨_, rfl, rfl, trivial, hC⟩
    · rw [show u 11 = _ from (by first | exact hd | exact hd.1 | exact hd.2 | exact hd.2.1 | exact hd.2.2 | exact hd.2.2.1 | exact hd.2.2.2 | exact hd.2.2.2.1 | exact hd.2.2.2.2)]
      have e0 := (bel_cell hC hg).trans c0
      go_wp2
      exact ⟨_, rfl, rfl, trivial, hC⟩
    · go_wp2
      exact ⟨_, rfl, rfl, trivial, hC⟩
    · rw [show u 7 = _ from (by first | exact hd | exact hd.1 | exact hd.2 | exact hd.2.1 | exact hd.2.2 | exact hd.2.2.1 | exact hd.2.2.2 | exact hd.2.2.2.1 | exact hd.2.2.2.2), show u 12 = _ from (by first | exact hd | exact hd.1 | exact hd.2 | exact hd.2.1 | exact hd.2.2 | exact hd.2.2.1 | exact hd.2.2.2 | exact hd.2.2.2.1 | exact hd.2.2.2.2), show u 13 = _ from (by first | exact hd | exact hd.1 | exact hd.2 | exact hd.2.1 | exact hd.2.2 | exact hd.2.2.1 | exact hd.2.2.2 | exact hd.2.2.2.1 | exact hd.2.2.2.2)]
      go_wp2_with fail
      refine (HRm.out wx hC).mono ?_
      rintro e w4 ⟨rfl, hb4⟩
      go_wp2
      exact ⟨_, rfl, rfl, trivial, hC.trans (hb4.mono hC.size)⟩
    · rw [show u 2 = _ from (by first | exact hd | exact hd.1 | exact hd.2 | exact hd.2.1 | exact hd.2.2 | exact hd.2.2.1 | exact hd.2.2.2 | exact hd.2.2.2.1 | exact hd.2.2.2.2), show u 14 = _ from (by first | exact hd | exact hd.1 | exact hd.2 | exact hd.2.1 | exact hd.2.2 | exact hd.2.2.1 | exact hd.2.2.2 | exact hd.2.2.2.1 | exact hd.2.2.2.2)]
      go_wp2
      all_goals exact ⟨_, rfl, (show Value.int .i64 _ = Value.int .i64 (min xe ye) by congr 1; omega), trivial, hC⟩
    · rw [show u 15 = _ from (by first | exact hd | exact hd.1 | exact hd.2 | exact hd.2.1 | exact hd.2.2 | exact hd.2.2.1 | exact hd.2.2.2 | exact hd.2.2.2.1 | exact hd.2.2.2.2)]
      go_wp2
      exact ⟨_, rfl, rfl, trivial, hC⟩
  · intro u f wx hC hfin
    simp only [fillEnd, fillF, Act.put, List.setIfInBounds_toArray, List.set_cons_succ, List.set_cons_zero]
    have h16 : u 16 = .int .i64 (min xe ye) := hfin 16 (by decide) (by decide)
    rw [h16, show min xe ye = mayP ps xs k s from HM.out.symm]
    clear h16 hfin
    obtain ⟨w1, hw1⟩ : ∃ W, W = wx := ⟨_, rfl⟩
    subst hw1
    have hH1 := h0.keep hC
    have hz1 := hC.size
    have d0 := (bel_cell hC hg).trans c0
    have hlit := ints_lit12 w1 (s : Int)
    have hr1 : Ints (w1.alloc (.cells #[.int .i64 (s : Int)] 3)) w1.heap.size (.slice (some ⟨w1.heap.size, 0, none⟩) ([s].map fun s : Nat => (s : Int)).length 1) ([s].map fun s : Nat => (s : Int)) := hlit
    go_wp2_with fail
    refine (pushedAlong_any _ _ [s] ps xs B w1.heap.size (mayP ps xs k s) _ hr1 (HX.out.1.keep (hC.trans ((Below.refl _ _).alloc (Nat.le_refl _) _ |>.mono hz1))) HX.out.2.1 hl7 (by have := HX.out.2.1; omega) (by intro q hq; simp at hq; rw [hq]; exact HS.out) HX.out.2.2.1 ⟨HX.out.2.2.2.1, HX.out.2.2.2.2.2⟩).mono ?_
    rintro e w3 ⟨r, rfl, hr3, hb3⟩
    have hb13 : Below w1.heap.size w1 w3 := by (repeat (first | (with_reducible assumption) | (with_reducible exact Below.refl _ _) | ((with_reducible refine Below.alloc ?_ ?hsz _); (case hsz => (first | omega | (simp; done) | (simp; omega) | (simp at *; omega)))) | ((with_reducible refine Below.setCell ?_ ?hsz _); (case hsz => (first | omega | (simp; done) | (simp; omega) | (simp at *; omega)))) | (with_reducible refine Below.drew ?_) | (with_reducible refine below_drewN ?_ _) | ((with_reducible refine Below.trans ?_ (Below.mono (by with_reducible assumption) ?hsz)); (case hsz => (first | omega | (simp; done) | (simp; omega) | (simp at *; omega))))))
    have hfin := hH1.setFlow hB hb13 (hr3.mono (by simp))
    have HF := Lib.hid hfin
    obtain ⟨A3, c3', rfl, -, -, -, -⟩ := hr3.form
    have d3 := (bel_cell hb13 (by omega)).trans d0
    obtain ⟨u9, t9, v9, b9, ⟨⟨cs9, hh9⟩, -⟩, -⟩ := hH1.keep hb13
    have f9 := heap_frozen (j := 0) hh9
    clear hfin hr3 hh9
    go_wp2
    (try simp only [Exit.inBlock, Exit.then])
    refine bodyPost_end (v := .tuple #[]) (by simp [results, Try.results110, go_sem]) rfl ⟨rfl, HF.out.1, (hC.mono hBw).trans HF.out.2.1, (show w.grownBy w1 (some g) from ⟨hC.os, hC.tape, hC.output, hC.size, fun q hq _ => hC.block q hq⟩).trans HF.out.2.2.1, fun z hz => HF.out.2.2.2 z ((bel_cell hC hg).trans hz)⟩

end Go.Proofs.Ytabkhpeoeihmmaa

/- Contracts of the functions of chapter 12 in the program: a lift. -/
namespace Go.Proofs.Ytabkhpeoeihmmaa
open Go.RowKit

/-- the least height ahead, of the first steps -/
def lowF (ps : List Pp) (ys : List Int) (m : Int) (l : List Nat) : Int := l.foldl (fun m s => min m (hgt ys (stTo ps s))) m
theorem lowF_snoc (ps : List Pp) (ys : List Int) (m : Int) (l : List Nat) (k : Nat) (hk : k < l.length) : lowF ps ys m (l.take (k + 1)) = min (lowF ps ys m (l.take k)) (hgt ys (stTo ps l[k])) := by
  unfold lowF
  rw [List.take_succ_eq_append_getElem hk, List.foldl_append]
  rfl
theorem lowF_bd {ps : List Pp} {ys : List Int} {l : List Nat} {m : Int} (h0 : 0 ≤ m) (h : ∀ s ∈ l, 0 ≤ hgt ys (stTo ps s)) : 0 ≤ lowF ps ys m l ∧ lowF ps ys m l ≤ m := by
  unfold lowF
  obtain ⟨f1, f2, f3⟩ := low_fold (fun s => hgt ys (stTo ps s)) l m
  refine ⟨?_, f1⟩
  rcases f3 with f3 | ⟨s, hs, f3⟩
  · omega
  · have := h s hs
    omega

theorem frozen12 {w w' : World} {o g : Nat} (hb : Below w.heap.size w w') (hg : g < w.heap.size) (h : w.frozen? ⟨g, o, none⟩ = false) : w'.frozen? ⟨g, o, none⟩ = false := (hb.frozen (p := ⟨g, o, none⟩) hg).trans h

set_option maxHeartbeats 1000000 in
set_option maxRecDepth 20000 in
theorem hillLiftFn_any {B g : Nat} {n i j : Int} {ps : List Pp} {xs ys : List Int} (m : Int) (s bh : Nat) (w : World) (h : HillOk w B g n i j ps xs ys) (hn : netOkB n ps = true) (hy : hgtIn n ys) (hs : s < 2 * ps.length) (d0 : w.cell? ⟨bh, 0, none⟩ = some (.pointer (some ⟨g, 0, none⟩))) (hbh : bh < w.heap.size) :
    Calls Try.prog 134 #[.int .i64 m, .int .i64 s, .pointer (some ⟨bh, 0, none⟩)] w fun e w' => e = .returned (.int .i64 (min m (hgt ys (stTo ps s)))) ∧ Below w.heap.size w w' := by
  obtain ⟨u, t, v, b, hH, hp, -, ht, -⟩ := h
  obtain ⟨n2, n5, hl7, -⟩ := netOk_parts hn
  obtain ⟨-, ⟨e0, e1⟩, -⟩ := st_ends hn hs
  obtain ⟨hy1, hy2⟩ := hy
  obtain ⟨gl, cl, rfl, hR⟩ := ht.row (by omega)
  obtain ⟨A, c, rfl, -, -, -, -⟩ := hp.form
  obtain ⟨e, he⟩ : ∃ e : Nat, stTo ps s = (e : Int) := ⟨(stTo ps s).toNat, by omega⟩
  have Hv := Lib.hid (show hgt ys (stTo ps s) = ys.getD e 0 by simp only [hgt, he, Int.toNat_natCast])
  have He := Lib.hid he
  generalize hN : ys.length = N at *
  have heN : e < N := by omega
  have hg := hH.lt
  clear he e0 e1 hy2 hn ht
  obtain ⟨-, -, c1, -, c3, -, -⟩ := id hH
  go_enter Try.func134, Try.ntmps134
  go_wp2_with fail
  with_reducible refine (stepEnds_any s _ ps b _ hp hs hl7).mono ?_
  rintro ee w1 ⟨rfl, hb1⟩
  rw [He.out]
  have hR1 := hR.keep hb1
  have d1 := (bel_cell hb1 hbh).trans d0
  obtain ⟨-, -, k1, -, -, -, -⟩ := hH.keep hb1
  obtain ⟨ye, -⟩ := hR1.at' e heN
  obtain ⟨g1, g2⟩ := hR1.lt
  obtain ⟨hc1, hc2⟩ := hR1.capd
  unfold maxLen at hc2
  clear c1 c3 d0 hR hR1 hH hN
  generalize ys.getD e 0 = y at *
  generalize stFr ps s = f at *
  go_wp2
  all_goals
    go_ret
    exact ⟨ret_int (by rw [Hv.out]; omega), by (repeat (first | (with_reducible assumption) | (with_reducible exact Below.refl _ _) | ((with_reducible refine Below.alloc ?_ ?hsz _); (case hsz => (first | omega | (simp; done) | (simp; omega) | (simp at *; omega)))) | ((with_reducible refine Below.setCell ?_ ?hsz _); (case hsz => (first | omega | (simp; done) | (simp; omega) | (simp at *; omega)))) | (with_reducible refine Below.drew ?_) | (with_reducible refine below_drewN ?_ _) | ((with_reducible refine Below.trans ?_ (Below.mono (by with_reducible assumption) ?hsz)); (case hsz => (first | omega | (simp; done) | (simp; omega) | (simp at *; omega))))))⟩

set_option maxHeartbeats 1000000 in
set_option maxRecDepth 20000 in
theorem foldLift_any {B g : Nat} {n i j : Int} {ps : List Pp} {xs ys : List Int} (m : Int) (l : List Nat) (bh b0 : Nat) (u0 : Value) (w : World) (h0 : Ints w b0 u0 (l.map fun s : Nat => (s : Int))) (h : HillOk w B g n i j ps xs ys) (hn : netOkB n ps = true) (hy : hgtIn n ys) (hs : ∀ s ∈ l, s < 2 * ps.length) (d0 : w.cell? ⟨bh, 0, none⟩ = some (.pointer (some ⟨g, 0, none⟩))) (hbh : bh < w.heap.size) :
    Calls Try.prog 133 #[u0, .int .i64 m, .func (Fn.func 134) #[] #[.pointer (some ⟨bh, 0, none⟩)]] w fun e w' => e = .returned (.int .i64 (lowF ps ys m l)) ∧ Below w.heap.size w w' := by
  obtain ⟨A, c, rfl, hc1, hc2, hsm, hcell⟩ := h0.form
  unfold maxLen at hc2
  have hlS : (l.map fun s : Nat => (s : Int)).length = l.length := by simp
  rw [hlS] at hc1 hsm ⊢
  have hlS := Lib.hid hlS
  have HS := Lib.hid hs
  have HY := Lib.hid hy
  clear hs hy
  go_enter Try.func133, Try.ntmps133
  go_wp2
  go_loopw [11, 1] (fun i t wr => ∃ k : Nat, k ≤ l.length ∧ i = .int .i64 k ∧ t = .int .i64 (lowF ps ys m (l.take k)) ∧ Below w.heap.size w wr) (fun i _ _ => l.length - (intOf i).toNat)
  case atStart => exact ⟨0, by omega, rfl, rfl, Below.refl _ _⟩
  case round =>
    obtain ⟨k, hk, rfl, rfl, hb⟩ := hrel
    by_cases hlt : k < l.length
    · obtain ⟨g9, rfl, hg1, hg2, c0, -⟩ := hcell wr hb k (by rw [hlS.out]; exact hlt)
      have c0' : wr.cell? ⟨g9, k, none⟩ = some (.int .i64 (l[k] : Nat)) := by rw [c0]; simp
      have Hn := Lib.hid (lowF_snoc ps ys m l k hlt)
      generalize lowF ps ys m (l.take k) = ro at *
      clear c0
      go_wp2_with fail
      with_reducible refine (hillLiftFn_any ro l[k] bh _ (h.keep hb) hn HY.out (HS.out _ (List.getElem_mem hlt)) ((bel_cell hb hbh).trans d0) (by have := hb.size; omega)).mono ?_
      rintro e w2 ⟨rfl, hb2⟩
      have hsz := hb.size
      go_wp2
      go_roundw
      case rel => exact ⟨k + 1, by omega, by go_num, by rw [Hn.out], by (repeat (first | (with_reducible assumption) | (with_reducible exact Below.refl _ _) | ((with_reducible refine Below.alloc ?_ ?hsz _); (case hsz => (first | omega | (simp; done) | (simp; omega) | (simp at *; omega)))) | ((with_reducible refine Below.setCell ?_ ?hsz _); (case hsz => (first | omega | (simp; done) | (simp; omega) | (simp at *; omega)))) | (with_reducible refine Below.drew ?_) | (with_reducible refine below_drewN ?_ _) | ((with_reducible refine Below.trans ?_ (Below.mono (by with_reducible assumption) ?hsz)); (case hsz => (first | omega | (simp; done) | (simp; omega) | (simp at *; omega))))))⟩
      case measure => simp [intOf]; omega
    · have hk2 : k = l.length := by omega
      subst hk2
      rw [List.take_length]
      go_wp2
      go_ret
      exact ⟨rfl, hb⟩

set_option maxHeartbeats 4000000 in
set_option maxRecDepth 20000 in
theorem hillLift_any {B g : Nat} {n i j : Int} {ps : List Pp} {xs ys : List Int} (k : Nat) (b0 : Nat) (u0 : Value) (w : World) (h : HillOk w B g n i j ps xs ys) (hn : netOkB n ps = true) (hy : hgtIn n ys) (hk : (k : Int) < n) (h0 : Ints w b0 u0 ((frL ps xs k).map fun s : Nat => (s : Int))) :
    Calls Try.prog 109 #[.pointer (some ⟨g, 0, none⟩), .int .i64 k, u0] w fun e w' => e = .returned (.tuple #[]) ∧ HillOk w' B g n i j ps xs (ys.set k (lowI n ps xs ys k + 1)) ∧ Below B w w' ∧ ∀ z, w.cell? ⟨g, 1, none⟩ = some z → w'.cell? ⟨g, 1, none⟩ = some z := by
  have hh0 := h
  have hg := h.lt
  obtain ⟨n2, n5, -⟩ := netOk_parts hn
  have hmem : ∀ s ∈ frL ps xs (k : Int), s < 2 * ps.length := fun s hs => (frL_mem.1 hs).1
  have hbd := lowF_bd (ps := ps) (ys := ys) (l := frL ps xs (k : Int)) (m := 2 * n) (by omega) (fun s hs => by
    obtain ⟨-, ⟨e0, e1⟩, -⟩ := st_ends hn (hmem s hs)
    exact (hy.2 (stTo ps s).toNat (by have := hy.1; omega)).1)
  have HL := Lib.hid (show lowF ps ys (2 * n) (frL ps xs (k : Int)) = lowI n ps xs ys k from rfl)
  have hky : k < ys.length := by have := hy.1; omega
  obtain ⟨gy, cap, c1, hBy, hR, hset⟩ := h.setHeight (by omega)
  obtain ⟨hgy1, hgy2⟩ := hR.lt
  obtain ⟨hc1, hc2⟩ := hR.capd
  unfold maxLen at hc2
  obtain ⟨yk, fk⟩ := hR.at' k hky
  have HSet := Lib.hid (fun (w2 : World) (hb : Below w.heap.size w w2) => hset hb k (lowI n ps xs ys k + 1) hky)
  have h00 := h0
  obtain ⟨A, c, rfl, -, -, -, -⟩ := h0.form
  obtain ⟨u, t, v, b, hH, -⟩ := h
  obtain ⟨-, -, -, c2, -, -, -⟩ := id hH
  have HM := Lib.hid hmem
  generalize hm0 : ((frL ps xs (k : Int)).map fun s : Nat => (s : Int)).length = m0 at *
  have hw2 : IntKind.i64.wrap (2 * n) = 2 * n := IntWalk.i64_in _ (by omega)
  obtain ⟨w0, hw0⟩ : ∃ W, W = w.alloc (.cells #[.pointer (some ⟨g, 0, none⟩)] 76) := ⟨_, rfl⟩
  have hb0 : Below w.heap.size w w0 := by rw [hw0]; (repeat (first | (with_reducible assumption) | (with_reducible exact Below.refl _ _) | ((with_reducible refine Below.alloc ?_ ?hsz _); (case hsz => (first | omega | (simp; done) | (simp; omega) | (simp at *; omega)))) | ((with_reducible refine Below.setCell ?_ ?hsz _); (case hsz => (first | omega | (simp; done) | (simp; omega) | (simp at *; omega)))) | (with_reducible refine Below.drew ?_) | (with_reducible refine below_drewN ?_ _) | ((with_reducible refine Below.trans ?_ (Below.mono (by with_reducible assumption) ?hsz)); (case hsz => (first | omega | (simp; done) | (simp; omega) | (simp at *; omega))))))
  have hz0 : w.heap.size < w0.heap.size := by rw [hw0]; simp
  have d0 : w0.cell? ⟨w.heap.size, 0, none⟩ = some (.pointer (some ⟨g, 0, none⟩)) := by rw [hw0]; go_simp
  have d2 := (bel_cell hb0 hg).trans c2
  have HF : Hid (∀ W, Below w0.heap.size w0 W → Calls Try.prog 133 #[.slice A m0 c, .int .i64 (2 * n), .func (Fn.func 134) #[] #[.pointer (some ⟨w.heap.size, 0, none⟩)]] W fun e w' => e = .returned (.int .i64 (lowI n ps xs ys k)) ∧ Below W.heap.size W w') := Lib.hid fun W hW => by
    have hW0 := hb0.trans (hW.mono (by omega))
    have := foldLift_any (2 * n) (frL ps xs (k : Int)) w.heap.size b0 _ W (h00.keep hW0) (hh0.keep hW0) hn hy HM.out ((bel_cell hW hz0).trans d0) (by have := hW.size; omega)
    rw [HL.out] at this
    exact this
  have hlo : 0 ≤ lowI n ps xs ys k ∧ lowI n ps xs ys k ≤ 2 * n := by rw [← HL.out]; exact hbd
  generalize lowI n ps xs ys k = low at *
  have hw3 : IntKind.i64.wrap (low + 1) = low + 1 := IntWalk.i64_in _ (by omega)
  clear hset hbd hmem hm0 h0 h00 hy hn hR hH
  go_enter Try.func109, Try.ntmps109
  go_wp2_with fail
  rw [← hw0]
  clear hw0
  (try rw [hw2])
  refine (HF.out _ (Below.refl _ _)).mono ?_
  rintro e w1 ⟨rfl, hb1⟩
  have hB1 := hb0.trans (hb1.mono (by omega))
  have hz1 := hb1.size
  have e0 := (bel_cell hb1 hz0).trans d0
  have e1 := (bel_cell hB1 hg).trans c1
  have e2 := (bel_cell hB1 hgy2).trans yk
  have e3 := frozen12 hB1 hgy2 fk
  have HE := Lib.hid (HSet.out _ hB1)
  clear c1 yk fk d0 d2 hb1
  generalize ys.getD k 0 = old at *
  go_wp2
  (try simp only [Exit.inBlock, Exit.then])
  refine bodyPost_end (v := .tuple #[]) (by simp [results, Try.results109, go_sem]) rfl ⟨rfl, HE.out.1, HE.out.2.1, HE.out.2.2⟩

end Go.Proofs.Ytabkhpeoeihmmaa

/- Contracts of the functions of chapter 12 in the program: a step. -/
namespace Go.Proofs.Ytabkhpeoeihmmaa
open Go.RowKit

theorem stepR_nil {n : Int} {ps : List Pp} {i j : Int} {xs ys : List Int} (h : fullL n i j ps xs = []) : stepR n ps i j (xs, ys) = (xs, ys) ∧ anyFull n i j ps xs = false := by
  constructor
  · unfold stepR; simp only [h]
  · simp [anyFull, h]
theorem stepR_lift {n : Int} {ps : List Pp} {i j : Int} {xs ys : List Int} {v : Nat} {l : List Nat} (h : fullL n i j ps xs = v :: l) (hd : downS ps xs ys (v : Int) = none) : stepR n ps i j (xs, ys) = (xs, ys.set v (lowI n ps xs ys v + 1)) ∧ anyFull n i j ps xs = true := by
  constructor
  · unfold stepR; simp only [h, stepAt, hd, Int.toNat_natCast]
  · simp [anyFull, h]
theorem stepR_push {n : Int} {ps : List Pp} {i j : Int} {xs ys : List Int} {v s : Nat} {l : List Nat} (h : fullL n i j ps xs = v :: l) (hd : downS ps xs ys (v : Int) = some s) : stepR n ps i j (xs, ys) = (push1 (mayP ps xs v s) xs s, ys) ∧ anyFull n i j ps xs = true := by
  constructor
  · unfold stepR; simp only [h, stepAt, hd]
  · simp [anyFull, h]
theorem down_first {ps : List Pp} {xs ys : List Int} {v : Int} {q : Nat} (hq : q < ((frL ps xs v).map fun s : Nat => (s : Int)).length) (hd : (fun x : Int => downF ps ys x.toNat) (((frL ps xs v).map fun s : Nat => (s : Int)).getD q 0) = true)
    (hno : ∀ x ∈ ((frL ps xs v).map fun s : Nat => (s : Int)).take q, (fun x : Int => downF ps ys x.toNat) x = false) : ∃ s : Nat, ((frL ps xs v).map fun s : Nat => (s : Int)).getD q 0 = (s : Int) ∧ downS ps xs ys v = some s := by
  have hq' : q < (frL ps xs v).length := by simpa using hq
  have e : ((frL ps xs v).map fun s : Nat => (s : Int)).getD q 0 = (((frL ps xs v)[q] : Nat) : Int) := by
    rw [List.getD_eq_getElem?_getD, List.getElem?_eq_getElem hq]
    simp
  refine ⟨_, e, ?_⟩
  rw [e] at hd
  refine find_at hq' (fun x hx => ?_) (by simpa using hd)
  have := hno (x : Int) (by rw [← List.map_take]; exact List.mem_map.2 ⟨x, hx, rfl⟩)
  simpa using this
theorem down_never {ps : List Pp} {xs ys : List Int} {v : Int} (hno : ∀ x ∈ (frL ps xs v).map fun s : Nat => (s : Int), (fun x : Int => downF ps ys x.toNat) x = false) : downS ps xs ys v = none := by
  unfold downS
  rw [List.find?_eq_none]
  intro s hs
  have := hno (s : Int) (List.mem_map.2 ⟨s, hs, rfl⟩)
  simpa using this
theorem fullL_map (N : Nat) (i j : Int) (ps : List Pp) (xs : List Int) : numW N (fullF i j ps xs) = (fullL N i j ps xs).map fun s : Nat => (s : Int) := by
  unfold numW fullL
  rw [Int.toNat_natCast]

set_option maxHeartbeats 4000000 in
set_option maxRecDepth 20000 in
theorem hillStep_any {B g : Nat} {n i j : Int} {ps : List Pp} {xs ys : List Int} (w : World) (h : HillOk w B g n i j ps xs ys) (hB : B ≤ g) (hb : basB n ps i j xs ys = true) :
    Calls Try.prog 71 #[.pointer (some ⟨g, 0, none⟩)] w fun e w' => e = .returned (.bool (anyFull n i j ps xs)) ∧ HillOk w' B g n i j ps (stepR n ps i j (xs, ys)).1 (stepR n ps i j (xs, ys)).2 ∧ Below B w w' ∧ ∀ z, w.cell? ⟨g, 1, none⟩ = some z → w'.cell? ⟨g, 1, none⟩ = some z := by
  have h0 := h
  obtain ⟨-, hh, -, hgt', -⟩ := bas_parts hb
  have hn := holds_net hh
  obtain ⟨n2, n5, -⟩ := netOk_parts hn
  have hy := hgt_of hgt'
  have hg := h.lt
  obtain ⟨N, rfl⟩ : ∃ N : Nat, n = (N : Int) := ⟨n.toNat, by omega⟩
  obtain ⟨u, t, v, b, hH, -⟩ := h
  obtain ⟨-, -, -, c2, -, -, -⟩ := id hH
  have HH := Lib.hid (And.intro hh (And.intro hn hy))
  obtain ⟨w0, hw0⟩ : ∃ W, W = w.alloc (.cells #[.pointer (some ⟨g, 0, none⟩)] 76) := ⟨_, rfl⟩
  have hb0 : Below w.heap.size w w0 := by rw [hw0]; (repeat (first | (with_reducible assumption) | (with_reducible exact Below.refl _ _) | ((with_reducible refine Below.alloc ?_ ?hsz _); (case hsz => (first | omega | (simp; done) | (simp; omega) | (simp at *; omega)))) | ((with_reducible refine Below.setCell ?_ ?hsz _); (case hsz => (first | omega | (simp; done) | (simp; omega) | (simp at *; omega)))) | (with_reducible refine Below.drew ?_) | (with_reducible refine below_drewN ?_ _) | ((with_reducible refine Below.trans ?_ (Below.mono (by with_reducible assumption) ?hsz)); (case hsz => (first | omega | (simp; done) | (simp; omega) | (simp at *; omega))))))
  have hz0 : w.heap.size < w0.heap.size := by rw [hw0]; simp
  have d0 : w0.cell? ⟨w.heap.size, 0, none⟩ = some (.pointer (some ⟨g, 0, none⟩)) := by rw [hw0]; go_simp
  have d2 := (bel_cell hb0 hg).trans c2
  clear hh hn hy hgt' hb hH
  go_enter Try.func71, Try.ntmps71
  go_wp2_with fail
  rw [← hw0]
  clear hw0 c2
  go_region_held3 (fun w' => w'.cell? ⟨w.heap.size, 0, none⟩ = some (.pointer (some ⟨g, 0, none⟩)) ∧ w'.cell? ⟨g, 2, none⟩ = some (.int .i64 (N : Int)))
    (first | exact ⟨q50, q52⟩ | exact ⟨cdrew12 d0, cdrew12 d2⟩)
    (first | (go_at_call 86; (refine (fullWhere_any N _ (h0.keep (by (repeat (first | (with_reducible assumption) | (with_reducible exact Below.refl _ _) | ((with_reducible refine Below.alloc ?_ ?hsz _); (case hsz => (first | omega | (simp; done) | (simp; omega) | (simp at *; omega)))) | ((with_reducible refine Below.setCell ?_ ?hsz _); (case hsz => (first | omega | (simp; done) | (simp; omega) | (simp at *; omega)))) | (with_reducible refine Below.drew ?_) | (with_reducible refine below_drewN ?_ _) | ((with_reducible refine Below.trans ?_ (Below.mono (by with_reducible assumption) ?hsz)); (case hsz => (first | omega | (simp; done) | (simp; omega) | (simp at *; omega)))))))) HH.out.1 (by omega)).mono ?_); rintro e w5 ⟨r5, rfl, hr5, hb5⟩; have hz5 : w0.heap.size ≤ w5.heap.size := hb5.size; have q50 := ckeep12 hb5 (by (first | omega | (simp; done) | (simp; omega) | (simp at *; omega))) (cdrew12 d0); have q52 := ckeep12 hb5 (by (first | omega | (simp; done) | (simp; omega) | (simp at *; omega))) (cdrew12 d2); rw [fullL_map] at hr5; obtain ⟨A5, c5, hv5, -, -, -, -⟩ := hr5.form; subst hv5; obtain ⟨m5, hm5⟩ : ∃ m, ((fullL N i j ps xs).map fun s : Nat => (s : Int)).length = m := ⟨_, rfl⟩; rw [hm5] at hr5 ⊢; have HM5 := Lib.hid hm5; clear hm5))
  have hB5 : Below w.heap.size w w5 := by (repeat (first | (with_reducible assumption) | (with_reducible exact Below.refl _ _) | ((with_reducible refine Below.alloc ?_ ?hsz _); (case hsz => (first | omega | (simp; done) | (simp; omega) | (simp at *; omega)))) | ((with_reducible refine Below.setCell ?_ ?hsz _); (case hsz => (first | omega | (simp; done) | (simp; omega) | (simp at *; omega)))) | (with_reducible refine Below.drew ?_) | (with_reducible refine below_drewN ?_ _) | ((with_reducible refine Below.trans ?_ (Below.mono (by with_reducible assumption) ?hsz)); (case hsz => (first | omega | (simp; done) | (simp; omega) | (simp at *; omega))))))
  have hO5 := h0.keep hB5
  clear d0 d2 hb5
  cases hf : fullL N i j ps xs with
  | nil =>
    obtain ⟨e1, e2⟩ := stepR_nil (ys := ys) hf
    have hm0 : m5 = 0 := by rw [← HM5.out, hf]; rfl
    subst hm0
    have HR := Lib.hid (And.intro e1 e2)
    clear hr5 e1 e2
    go_wp2
    go_ret
    exact ⟨ret_bool HR.out.2.symm, by rw [HR.out.1]; exact hO5, hB5.mono (by omega), fun z hz => (bel_cell hB5 hg).trans hz⟩
  | cons k l =>
    obtain ⟨hkn, hki, hkj, hke⟩ := fullL_head hf
    have hm1 : 1 ≤ m5 := by rw [← HM5.out, hf]; simp
    have hl5 : 0 < ((fullL N i j ps xs).map fun s : Nat => (s : Int)).length := by rw [HM5.out]; omega
    obtain ⟨g5, c5', hv, hR5⟩ := hr5.row hl5
    rw [HM5.out] at hv hR5
    injection hv with e1 e2 e3
    subst e1
    subst e3
    obtain ⟨y5, -⟩ := hR5.at' 0 (by omega)
    rw [hf] at y5
    have y5' : w5.cell? ⟨g5, 0, none⟩ = some (.int .i64 (k : Int)) := y5
    obtain ⟨x1, x2⟩ := hR5.capd
    unfold maxLen at x2
    obtain ⟨x3, x4⟩ := hR5.lt
    have hm0 : ((m5 : Int) == 0) = false := by rw [beq_eq_false_iff_ne]; omega
    have HF := Lib.hid hf
    have HK := Lib.hid (And.intro hkn hke)
    clear y5 hr5 hR5 hl5 hf hki hkj hke
    go_wp2_with fail
    refine (hillFrom_any (k : Int) _ hO5 HH.out.1).mono ?_
    rintro e w6 ⟨r6, rfl, hr6, hb6⟩
    have hB6 := hB5.trans (hb6.mono (by omega))
    have hO6 := hO5.keep hb6
    have hz6 := hb6.size
    have q60 := ckeep12 hb6 (by omega) q50
    have hr66 := hr6
    obtain ⟨A6, c6, rfl, -, hc6, hs6, -⟩ := hr6.form
    unfold maxLen at hc6
    generalize hm6 : ((frL ps xs (k : Int)).map fun s : Nat => (s : Int)).length = m6 at *
    have HM6 := Lib.hid hm6
    clear hm6 q50 q52 hO5 hb6 y5' hr6
    go_wp2_with fail
    refine (indexDown_any (del := fun x => downF ps ys x.toNat) (bh := w.heap.size) _ _ _ _ hr66 (fun W hW x hx => by
      obtain ⟨s, hs, rfl⟩ := List.mem_map.1 hx
      exact hillDownFn_any s w.heap.size _ (hO6.keep hW) HH.out.2.1 HH.out.2.2 (frL_mem.1 hs).1 ((bel_cell hW (by omega)).trans q60))).mono ?_
    rintro e w7 ⟨r, rfl, hr, hb7⟩
    have hB7 := hB6.trans (hb7.mono (by omega))
    have hO7 := hO6.keep hb7
    have hr7 := hr66.keep hb7
    have hz7 := hb7.size
    have q70 := ckeep12 hb7 (by omega) q60
    clear hO6 hb7 q60 hr66
    rcases hr with ⟨rfl, hall⟩ | ⟨q, rfl, hq, hd, hall⟩
    · obtain ⟨e1, e2⟩ := stepR_lift HF.out (down_never hall)
      have HR := Lib.hid (And.intro e1 e2)
      clear hall e1 e2
      go_wp2_with fail
      refine (hillLift_any k _ _ _ hO7 HH.out.2.1 HH.out.2.2 HK.out.1 hr7).mono ?_
      rintro e w8 ⟨rfl, hO8, hb8, hc8⟩
      go_wp2
      go_ret
      exact ⟨ret_bool HR.out.2.symm, by rw [HR.out.1]; exact hO8, (hB7.mono (by omega)).trans hb8, fun z hz => hc8 z ((bel_cell hB7 hg).trans hz)⟩
    · obtain ⟨s, es, hds⟩ := down_first hq hd hall
      obtain ⟨e1, e2⟩ := stepR_push HF.out hds
      have HR := Lib.hid (And.intro e1 e2)
      clear e1 e2
      have hs2 := (down_some hds).1
      obtain ⟨g6, c6', hv, hR6⟩ := hr7.row (by omega)
      rw [HM6.out] at hv hR6 hq
      injection hv with e1 e2 e3
      subst e1
      subst e3
      obtain ⟨y6, -⟩ := hR6.at' q hq
      rw [es] at y6
      obtain ⟨x5, x6⟩ := hR6.lt
      have hq0 : ¬ ((q : Int) < 0) := by omega
      have hne6 : g6 ≠ g := by
        obtain ⟨u9, t9, v9, b9, ⟨⟨cs9, hh9⟩, -⟩, -⟩ := hO7
        exact fun e => own_ne hR6.1 hh9 (by decide) g6 rfl e.symm
      clear hall hd hr7 hR6 es hds
      go_wp2_with fail
      go_region_held3 (fun w' => w'.cell? ⟨w.heap.size, 0, none⟩ = some (.pointer (some ⟨g, 0, none⟩)) ∧ w'.cell? ⟨g6, q, none⟩ = some (.int .i64 (s : Int)))
        (first | exact ⟨q80, q86⟩ | exact ⟨cdrew12 q70, cdrew12 y6⟩)
        (first | (go_at_call 110; (refine (hillPush_any (k : Int) s _ (show HillOk w7.drew B g N i j ps xs ys from hO7.keep (by (repeat (first | (with_reducible assumption) | (with_reducible exact Below.refl _ _) | ((with_reducible refine Below.alloc ?_ ?hsz _); (case hsz => (first | omega | (simp; done) | (simp; omega) | (simp at *; omega)))) | ((with_reducible refine Below.setCell ?_ ?hsz _); (case hsz => (first | omega | (simp; done) | (simp; omega) | (simp at *; omega)))) | (with_reducible refine Below.drew ?_) | (with_reducible refine below_drewN ?_ _) | ((with_reducible refine Below.trans ?_ (Below.mono (by with_reducible assumption) ?hsz)); (case hsz => (first | omega | (simp; done) | (simp; omega) | (simp at *; omega)))))))) hB HH.out.1 hs2 HK.out.2).mono ?_); rintro e w8 ⟨rfl, hO8, hb8, hgr8, hc8⟩; have q80 := (hgr8.cell_far ⟨w.heap.size, 0, none⟩ (by show w.heap.size < w7.heap.size; omega) (by intro e; injection e with e; simp only at e; omega)).trans q70; have q86 := (hgr8.cell_far ⟨g6, q, none⟩ (by show g6 < w7.heap.size; omega) (by intro e; injection e with e; exact hne6 e)).trans y6))
      go_wp2
      go_ret
      exact ⟨ret_bool HR.out.2.symm, by rw [HR.out.1]; exact hO8, (hB7.mono (by omega)).trans ((show Below w7.heap.size w7 w7.drew by (repeat (first | (with_reducible assumption) | (with_reducible exact Below.refl _ _) | ((with_reducible refine Below.alloc ?_ ?hsz _); (case hsz => (first | omega | (simp; done) | (simp; omega) | (simp at *; omega)))) | ((with_reducible refine Below.setCell ?_ ?hsz _); (case hsz => (first | omega | (simp; done) | (simp; omega) | (simp at *; omega)))) | (with_reducible refine Below.drew ?_) | (with_reducible refine below_drewN ?_ _) | ((with_reducible refine Below.trans ?_ (Below.mono (by with_reducible assumption) ?hsz)); (case hsz => (first | omega | (simp; done) | (simp; omega) | (simp at *; omega))))))).mono (by omega) |>.trans hb8), fun z hz => hc8 z ((bel_cell hB7 hg).trans hz)⟩

end Go.Proofs.Ytabkhpeoeihmmaa
