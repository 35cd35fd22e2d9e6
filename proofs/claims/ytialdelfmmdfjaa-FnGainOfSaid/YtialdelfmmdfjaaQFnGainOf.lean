/- FnGainOf: for every code the law holds: the program's GainOf answers as its model; there is a ring that gains exactly if there are no prices; its steps are a ring, and their costs together less than 0. No condition. -/
import Derived.Test.YtialdelfmmdfjaaL2
import Derived.Test.YtialdelfmmdfjaaGC
import Derived.Test.YtialdelfmmdfjaaDI
import Derived.Test.YtialdelfmmdfjaaGH
import Derived.Test.YtialdelfmmdfjaaGM
import Derived.Test.YtialdelfmmdfjaaGI
import Derived.Test.YtialdelfmmdfjaaMG
namespace Go.Proofs.Ytialdelfmmdfjaa.lawGainOf
open Go.ChangeShapes Go.WideShapes Go.ChangeAt Go.RowKit Go.Deep Go.Joins

theorem chain_next {ps : List Pp} : ∀ {l : List Nat} {a c : Int}, chain ps a c l → ∀ k (hk : k + 1 < l.length), stTo ps l[k] = stFr ps l[k + 1]
  | s :: t :: l, a, c, h, 0, _ => h.2.2.2.1.symm
  | s :: t :: l, a, c, h, k + 1, hk => chain_next (l := t :: l) h.2.2 k (by simpa using hk)
theorem chain_end {ps : List Pp} : ∀ {l : List Nat} {a c : Int}, chain ps a c l → ∀ k (hk : k < l.length), k + 1 = l.length → stTo ps l[k] = c
  | [s], a, c, h, 0, _, _ => h.2.2
  | s :: t :: l, a, c, h, k + 1, hk, e => chain_end (l := t :: l) h.2.2 k (by simpa using hk) (by simpa using e)
theorem chain_lt {ps : List Pp} : ∀ {l : List Nat} {a c : Int}, chain ps a c l → ∀ s ∈ l, s < 2 * ps.length
  | s :: l, a, c, h, x, hx => by
    rcases List.mem_cons.1 hx with rfl | hx
    · exact h.1
    · exact chain_lt h.2.2 x hx
theorem chain_round {ps : List Pp} {l : List Nat} {a : Int} (h : chain ps a a l) (k : Nat) (hk : k < l.length) : stTo ps l[k] = stFr ps (l[(k + 1) % l.length]'(Nat.mod_lt _ (by omega))) := by
  by_cases e : k + 1 = l.length
  · have h0 : (k + 1) % l.length = 0 := by rw [e, Nat.mod_self]
    rw [chain_end h k hk e]
    match l, h, hk, h0 with
    | s :: l, h, _, h0 => simp only [h0]; exact h.2.1.symm
  · have h1 : (k + 1) % l.length = k + 1 := Nat.mod_eq_of_lt (by omega)
    have := chain_next h k (by omega)
    rw [this]
    simp only [h1]

/-- what the operations of a pipe that is laid into a box of its own yield -/
def giV (W : World) (nb : Nat) (pv xv : Value) (gp gx k s q : Nat) (p : Pp) : Nat → Value → (Nat → Value) → World → Prop
  | 0, x, _, _ => x = .pointer (some ⟨nb, 1, none⟩)
  | 1, x, _, _ => x = pv
  | 2, x, _, _ => x = xv
  | 3, x, _, _ => x = .int .i64 (k : Int)
  | 4, x, _, _ => x = .pointer (some ⟨gx, k, none⟩)
  | 5, x, _, _ => x = .int .i64 (s : Int)
  | 6, x, _, _ => x = .int .i64 (q : Int)
  | 7, x, _, _ => x = .pointer (some ⟨gp, q * 5, none⟩)
  | 8, x, _, _ => x = p.val
  | 9, x, _, w => ∃ g c0 c1 c2 c3 c4, x = .pointer (some ⟨g, 0, none⟩) ∧ W.heap.size ≤ g ∧ w.heap[g]? = some (.cells #[c0, c1, c2, c3, c4] 35)
  | 10, _, u, w => ∃ g, u 9 = .pointer (some ⟨g, 0, none⟩) ∧ W.heap.size ≤ g ∧ w.heap[g]? = some (.cells #[.int .i64 p.fr, .int .i64 p.to, .int .i64 p.le, .int .i64 p.mo, .int .i64 p.co] 35) ∧ Below W.heap.size W w
  | _, _, _, _ => True

set_option maxRecDepth 20000 in
set_option maxHeartbeats 8000000 in
set_option maxRecDepth 20000 in
theorem walk (v : Value) (n : Nat) (w : World) (h : ArgBytes w v n) :
    Calls Try.prog 3 #[v] w fun e w' => e = .returned (.bool true) ∧ Below w.heap.size w w' := by
  obtain ⟨A, c, rfl, hc1, hc2, -⟩ := id h
  unfold maxLen at hc2
  by_cases hbig : 1048576 < n
  · go_enter Try.func3, Try.ntmps3
    go_wp2
    go_ret
    exact ⟨rfl, by (repeat (first | (with_reducible assumption) | (with_reducible exact Below.refl _ _) | ((with_reducible refine Below.alloc ?_ ?hsz _); (case hsz => (first | omega | (simp; done) | (simp; omega) | (simp at *; omega)))) | ((with_reducible refine Below.setCell ?_ ?hsz _); (case hsz => (first | omega | (simp; done) | (simp; omega) | (simp at *; omega)))) | (with_reducible refine Below.drew ?_) | (with_reducible refine below_drewN ?_ _) | ((with_reducible refine Below.trans ?_ (Below.mono (by with_reducible assumption) ?hsz)); (case hsz => (first | omega | (simp; done) | (simp; omega) | (simp at *; omega))))))⟩
  go_enter Try.func3, Try.ntmps3
  go_wp2_with fail
  with_reducible refine (drawGainOf_any _ n _ (h.keep (by (repeat (first | (with_reducible assumption) | (with_reducible exact Below.refl _ _) | ((with_reducible refine Below.alloc ?_ ?hsz _); (case hsz => (first | omega | (simp; done) | (simp; omega) | (simp at *; omega)))) | ((with_reducible refine Below.setCell ?_ ?hsz _); (case hsz => (first | omega | (simp; done) | (simp; omega) | (simp at *; omega)))) | (with_reducible refine Below.drew ?_) | (with_reducible refine below_drewN ?_ _) | ((with_reducible refine Below.trans ?_ (Below.mono (by with_reducible assumption) ?hsz)); (case hsz => (first | omega | (simp; done) | (simp; omega) | (simp at *; omega))))))))).mono ?_
  rintro e w1 ⟨z, ps, u, xs, t, rfl, hp, hx, hb1, hl8, hz1, hz6⟩
  have hBw1 : Below w.heap.size w w1 := by (repeat (first | (with_reducible assumption) | (with_reducible exact Below.refl _ _) | ((with_reducible refine Below.alloc ?_ ?hsz _); (case hsz => (first | omega | (simp; done) | (simp; omega) | (simp at *; omega)))) | ((with_reducible refine Below.setCell ?_ ?hsz _); (case hsz => (first | omega | (simp; done) | (simp; omega) | (simp at *; omega)))) | (with_reducible refine Below.drew ?_) | (with_reducible refine below_drewN ?_ _) | ((with_reducible refine Below.trans ?_ (Below.mono (by with_reducible assumption) ?hsz)); (case hsz => (first | omega | (simp; done) | (simp; omega) | (simp at *; omega))))))
  clear h hc1 hc2 hbig
  obtain ⟨A1, c1, rfl, hk1, hk2, hsm, -⟩ := hp.form
  unfold maxLen at hk2
  have bx1 : Box2 (w1.alloc (.cells #[.int .i64 z, .slice A1 ps.length c1] 25)) w1.heap.size (.int .i64 z) (.slice A1 ps.length c1) := Box2.new _ _ _ _
  have hB1 : Below w1.heap.size w1 (w1.alloc (.cells #[.int .i64 z, .slice A1 ps.length c1] 25)) := by (repeat (first | (with_reducible assumption) | (with_reducible exact Below.refl _ _) | ((with_reducible refine Below.alloc ?_ ?hsz _); (case hsz => (first | omega | (simp; done) | (simp; omega) | (simp at *; omega)))) | ((with_reducible refine Below.setCell ?_ ?hsz _); (case hsz => (first | omega | (simp; done) | (simp; omega) | (simp at *; omega)))) | (with_reducible refine Below.drew ?_) | (with_reducible refine below_drewN ?_ _) | ((with_reducible refine Below.trans ?_ (Below.mono (by with_reducible assumption) ?hsz)); (case hsz => (first | omega | (simp; done) | (simp; omega) | (simp at *; omega))))))
  obtain ⟨cn, hcn⟩ : ∃ cn, cn = c1 := ⟨_, rfl⟩
  subst hcn
  obtain ⟨j0, hj0, hy0, hy1, hy2⟩ := info_parts int_info
  go_wp2_with fail
  with_reducible refine (gainOf_any z _ _ ps xs _ _ _ (hp.keep hB1) (hx.keep hB1)).mono ?_
  rintro e w2 ⟨r2, rfl, hr2, hnn⟩
  have bx2 := bx1.keep hnn
  have hB2 : Below w1.heap.size w1 w2 := by (repeat (first | (with_reducible assumption) | (with_reducible exact Below.refl _ _) | ((with_reducible refine Below.alloc ?_ ?hsz _); (case hsz => (first | omega | (simp; done) | (simp; omega) | (simp at *; omega)))) | ((with_reducible refine Below.setCell ?_ ?hsz _); (case hsz => (first | omega | (simp; done) | (simp; omega) | (simp at *; omega)))) | (with_reducible refine Below.drew ?_) | (with_reducible refine below_drewN ?_ _) | ((with_reducible refine Below.trans ?_ (Below.mono (by with_reducible assumption) ?hsz)); (case hsz => (first | omega | (simp; done) | (simp; omega) | (simp at *; omega))))))
  clear hnn
  obtain ⟨bs, d0, d1, g0, g1⟩ := id bx2
  go_wp2_with fail
  with_reducible refine (specGainOf_any z _ _ ps xs _ _ _ (hp.keep hB2) (hx.keep hB2)).mono ?_
  rintro e w3 ⟨r3, rfl, hr3, hnn⟩
  have bx3 := bx2.keep hnn
  have hB3 : Below w1.heap.size w1 w3 := by (repeat (first | (with_reducible assumption) | (with_reducible exact Below.refl _ _) | ((with_reducible refine Below.alloc ?_ ?hsz _); (case hsz => (first | omega | (simp; done) | (simp; omega) | (simp at *; omega)))) | ((with_reducible refine Below.setCell ?_ ?hsz _); (case hsz => (first | omega | (simp; done) | (simp; omega) | (simp at *; omega)))) | (with_reducible refine Below.drew ?_) | (with_reducible refine below_drewN ?_ _) | ((with_reducible refine Below.trans ?_ (Below.mono (by with_reducible assumption) ?hsz)); (case hsz => (first | omega | (simp; done) | (simp; omega) | (simp at *; omega))))))
  have hr23 := hr2.keep hnn
  clear hnn hr2 d0 d1 g0 g1
  obtain ⟨bs, d0, d1, g0, g1⟩ := id bx3
  obtain ⟨A2, c2, rfl, q1, q2, q3, -⟩ := hr23.form
  obtain ⟨A3, c3, rfl, q4, q5, q6, hcell3⟩ := hr3.form
  have HC3 := Lib.hid hcell3
  clear hcell3
  unfold maxLen at q2 q5
  go_wp2_with fail
  with_reducible refine (sameInts_any _ _ (gainI z ps xs) (gainI z ps xs) _ _ _ hr23 hr3).mono ?_
  rintro e w4 ⟨rfl, hnn⟩
  have bx4 := bx3.keep hnn
  have hB4 : Below w1.heap.size w1 w4 := by (repeat (first | (with_reducible assumption) | (with_reducible exact Below.refl _ _) | ((with_reducible refine Below.alloc ?_ ?hsz _); (case hsz => (first | omega | (simp; done) | (simp; omega) | (simp at *; omega)))) | ((with_reducible refine Below.setCell ?_ ?hsz _); (case hsz => (first | omega | (simp; done) | (simp; omega) | (simp at *; omega)))) | (with_reducible refine Below.drew ?_) | (with_reducible refine below_drewN ?_ _) | ((with_reducible refine Below.trans ?_ (Below.mono (by with_reducible assumption) ?hsz)); (case hsz => (first | omega | (simp; done) | (simp; omega) | (simp at *; omega))))))
  have hb34 := hnn
  clear hnn d0 d1 g0 g1 hr23 hr3
  obtain ⟨bs, d0, d1, g0, g1⟩ := id bx4
  have hdec : decide (gainI z ps xs = gainI z ps xs) = true := by simp
  rw [hdec]
  clear hdec
  have hL0 : (gainI z ps xs).length = (gainR z ps xs).length := by simp [gainI]
  have hpr : pricedB z ps xs = (holdsB z ps xs && !gainsB z ps xs) := rfl
  by_cases hw : gainsB z ps xs = true
  · obtain ⟨⟨hne, -, -, a, hch⟩, hco, h2l, hln⟩ := gainR_ok hw
    have hn := holds_net (gains_holds hw)
    obtain ⟨n2, n5, hl7, hpo⟩ := netOk_parts hn
    have hlt := chain_lt hch
    have hcs := net_costs hn
    have hpb : pricedB z ps xs = false := by rw [hpr, hw]; simp
    rw [hw]
    have hgI : gainI z ps xs = (gainR z ps xs).map fun s : Nat => (s : Int) := rfl
    have HCH := Lib.hid (And.intro (fun k hk => chain_round hch k hk) (And.intro hlt (And.intro hcs hco)))
    rw [hL0] at q1 q3 q4 q6 ⊢
    have HL0 := Lib.hid hL0
    have HPB := Lib.hid hpb
    have HGI := Lib.hid hgI
    clear hch hne hco hlt hn hpo hcs hpr hw hL0 hpb hgI
    generalize hl : gainR z ps xs = l at *
    clear hl
    obtain ⟨N, hN⟩ : ∃ N, l.length = N := ⟨_, rfl⟩
    rw [hN] at q1 q3 q4 q6 h2l hln ⊢
    have HN := Lib.hid hN
    clear hN
    go_wp2_with fail
    with_reducible refine (pricesFor_any z _ _ ps xs _ _ _ (hp.keep hB4) (hx.keep hB4)).mono ?_
    rintro e w5 ⟨r5, rfl, hr5, hnn⟩
    have bx5 := bx4.keep hnn
    have hB5 : Below w1.heap.size w1 w5 := hB4.trans (hnn.mono hB4.size)
    have hb35 : Below w3.heap.size w3 w5 := hb34.trans (hnn.mono hb34.size)
    rw [HPB.out]
    obtain ⟨A5, c5, rfl, -, -, -, -⟩ := hr5.form
    obtain ⟨L5, hL5⟩ : ∃ L, (priceR z ps xs).length = L := ⟨_, rfl⟩
    rw [hL5]
    clear hL5 hr5 hnn d0 d1 g0 g1 bs bx4
    obtain ⟨bs, d0, d1, g0, g1⟩ := id bx5
    have hRA : Row ((w5.alloc (.cells #[] 3)).alloc (.cells #[] 3)) w5.heap.size w5.heap.size 0 0 [] :=
      Row.keep (w := w5.alloc (.cells #[] 3)) ⟨World.ownsRow_lit (e := 3) (base := w5.heap.size) (size := 1) w5 #[] 0 (Nat.le_refl _) (by simp [maxLen]) rfl, by simp [small]⟩ (by (repeat (first | (with_reducible assumption) | (with_reducible exact Below.refl _ _) | ((with_reducible refine Below.alloc ?_ ?hsz _); (case hsz => (first | omega | (simp; done) | (simp; omega) | (simp at *; omega)))) | ((with_reducible refine Below.setCell ?_ ?hsz _); (case hsz => (first | omega | (simp; done) | (simp; omega) | (simp at *; omega)))) | (with_reducible refine Below.drew ?_) | (with_reducible refine below_drewN ?_ _) | ((with_reducible refine Below.trans ?_ (Below.mono (by with_reducible assumption) ?hsz)); (case hsz => (first | omega | (simp; done) | (simp; omega) | (simp at *; omega)))))))
    have hRB : Row ((w5.alloc (.cells #[] 3)).alloc (.cells #[] 3)) w5.heap.size (w5.heap.size + 1) 0 0 [] := by
      have h := World.ownsRow_lit (e := 3) (base := w5.heap.size) (size := 1) (w5.alloc (.cells #[] 3)) #[] 0 (by simp) (by simp [maxLen]) rfl
      rw [World.size_alloc] at h
      exact ⟨h, by simp [small]⟩
    have hz5 := hB5.size
    have hw15 : w1.heap.size < w5.heap.size := bx5.1
    go_wp2
    go_loopw [14, 12, 13, 11] (fun i a b sm wr => ∃ (k ga ca gb cb : Nat), k ≤ N ∧ i = .int .i64 (k : Int) ∧ a = .slice (some ⟨ga, 0, none⟩) k ca ∧ b = .slice (some ⟨gb, 0, none⟩) k cb ∧ sm = .int .i64 (coL ps (l.take k)) ∧ ga ≠ gb ∧
        Row wr w5.heap.size ga k ca ((l.take k).map (stFr ps)) ∧ Row wr w5.heap.size gb k cb ((l.take k).map (stTo ps)) ∧ Box2 wr w1.heap.size (.int .i64 z) (.slice A1 ps.length cn) ∧ Below w5.heap.size w5 wr) (fun i _ _ _ _ => N - (intOf i).toNat)
    case atStart => exact ⟨0, w5.heap.size, 0, w5.heap.size + 1, 0, by omega, rfl, rfl, rfl, rfl, by omega, hRA, hRB, bx5.keep (by (repeat (first | (with_reducible assumption) | (with_reducible exact Below.refl _ _) | ((with_reducible refine Below.alloc ?_ ?hsz _); (case hsz => (first | omega | (simp; done) | (simp; omega) | (simp at *; omega)))) | ((with_reducible refine Below.setCell ?_ ?hsz _); (case hsz => (first | omega | (simp; done) | (simp; omega) | (simp at *; omega)))) | (with_reducible refine Below.drew ?_) | (with_reducible refine below_drewN ?_ _) | ((with_reducible refine Below.trans ?_ (Below.mono (by with_reducible assumption) ?hsz)); (case hsz => (first | omega | (simp; done) | (simp; omega) | (simp at *; omega))))))), by (repeat (first | (with_reducible assumption) | (with_reducible exact Below.refl _ _) | ((with_reducible refine Below.alloc ?_ ?hsz _); (case hsz => (first | omega | (simp; done) | (simp; omega) | (simp at *; omega)))) | ((with_reducible refine Below.setCell ?_ ?hsz _); (case hsz => (first | omega | (simp; done) | (simp; omega) | (simp at *; omega)))) | (with_reducible refine Below.drew ?_) | (with_reducible refine below_drewN ?_ _) | ((with_reducible refine Below.trans ?_ (Below.mono (by with_reducible assumption) ?hsz)); (case hsz => (first | omega | (simp; done) | (simp; omega) | (simp at *; omega))))))⟩
    case round =>
      obtain ⟨k, ga, ca, gb, cb, hk, rfl, rfl, rfl, rfl, hne, hRa, hRb, bx, hb5⟩ := hrel
      clear hRA hRB d0 d1 g0 g1 bs
      obtain ⟨bs, d0, d1, g0, g1⟩ := id bx
      have hzr := hb5.size
      by_cases hltk : k < N
      · have hkl : k < l.length := by have := HN.out; omega
        obtain ⟨s, hs⟩ : ∃ s, l[k] = s := ⟨_, rfl⟩
        have hs2 : s < 2 * ps.length := by rw [← hs]; exact HCH.out.2.1 _ (List.getElem_mem hkl)
        obtain ⟨q, hq⟩ : ∃ q, s / 2 = q := ⟨_, rfl⟩
        have hqp : q < ps.length := by omega
        have HGT := Lib.hid (show ps.getD (s / 2) zeroPp = ps[q] by rw [hq]; simp [List.getD_eq_getElem?_getD, hqp])
        have hq2 : (s : Int) / 2 = (q : Int) := by omega
        have hb3r : Below w3.heap.size w3 wr := hb35.trans (hb5.mono hb35.size)
        have hBr : Below w1.heap.size w1 wr := hB5.trans (hb5.mono hB5.size)
        have hkg : k < (gainI z ps xs).length := by rw [HGI.out]; simpa using hkl
        obtain ⟨gx, rfl, -, hgx, cx, -⟩ := HC3.out wr hb3r k hkg
        have hgv : (gainI z ps xs)[k] = ((s : Nat) : Int) := by
          have h1 : (gainI z ps xs)[k]? = some ((s : Nat) : Int) := by rw [HGI.out]; simp [hkl, hs]
          rw [List.getElem?_eq_getElem hkg] at h1
          injection h1
        rw [hgv] at cx
        obtain ⟨gp, rfl, -, hgp, k0, k1, k2, k3, k4⟩ := hp.cellAt hBr q hqp
        have hgpr : gp < wr.heap.size := by have := hBr.size; omega
        have hgxr : gx < wr.heap.size := by have := hb3r.size; omega
        have HTK := Lib.hid (show l.take (k + 1) = l.take k ++ [s] by rw [List.take_succ_eq_append_getElem hkl, hs])
        have HCT := Lib.hid (show coL ps (l.take (k + 1)) = coL ps (l.take k) + stCo ps s by rw [List.take_succ_eq_append_getElem hkl, coL_snoc, hs])
        have hco := HCH.out.2.2.1 _ (List.getElem_mem hqp)
        have hsb := coL_bd (l := l.take k) HCH.out.2.2.1 (fun s hs => HCH.out.2.1 s (List.mem_of_mem_take hs))
        have hkt : (l.take k).length ≤ 5 := by rw [List.length_take]; omega
        have hsb2 : -100 ≤ coL ps (l.take k) ∧ coL ps (l.take k) ≤ 100 := by omega
        generalize hS : coL ps (l.take k) = S at *
        clear hs hq hkg hgv hsb hkt hS
        go_wp2_with fail
        refine wp_region_flow 11 none [(0, 75), (1, 76), (2, 77), (3, 78), (4, 79), (5, 80), (6, 81), (7, 82), (8, 83), (9, 15)] (fun j x uu wx => giV wr w1.heap.size (.slice (some ⟨gp, 0, none⟩) ps.length cn) (.slice (some ⟨gx, 0, none⟩) N c3) gp gx k s q ps[q] j x uu wx) (fun i wx wy => if i = 10 then True else Below wx.heap.size wx wy) (fun _ wx => Below wr.heap.size wr wx) (by kernel_rfl) (by kernel_rfl) rfl ⟨rfl, rfl, rfl, Nat.le_refl _, fun _ _ => rfl⟩ ?_ ?_ ?_ ?_
        · intro i j hi hj hal x uu wa wb hR hV
          have hj' : j < 11 := hj
          have hi' : i < 11 := hi
          by_cases j10 : j = 10
          · subst j10
            exfalso
            rcases i with _ | _ | _ | _ | _ | _ | _ | _ | _ | _ | _ | i
            all_goals (first | omega | (revert hal; decide))
          · by_cases i10 : i = 10
            · subst i10
              rcases j with _ | _ | _ | _ | _ | _ | _ | _ | _ | _ | _ | j
              all_goals first | exact hV | (exfalso; revert hal; decide) | (exfalso; omega)
            · have hbb : Below wa.heap.size wa wb := by simpa [i10] using hR
              rcases j with _ | _ | _ | _ | _ | _ | _ | _ | _ | _ | _ | j
              all_goals first
                | exact hV
                | (exfalso; omega)
                | (obtain ⟨g, c0, c1, c2, c3, c4, h1, h2, h3⟩ := hV; exact ⟨g, c0, c1, c2, c3, c4, h1, h2, heap_keep h3 hbb⟩)
        · intro k' hk' x uu uu' wx h hV
          have hk2' : k' < 11 := hk'
          rcases k' with _ | _ | _ | _ | _ | _ | _ | _ | _ | _ | _ | k'
          all_goals first | exact hV | (exfalso; omega) | skip
          obtain ⟨g, h1, h2⟩ := hV
          exact ⟨g, by rw [← h 9 (by decide)]; exact h1, h2⟩
        · simp (maxSteps := 4000000) only [eachOp, fillF, List.setIfInBounds_toArray, List.set_cons_succ, List.set_cons_zero]
          refine ⟨?_, ?_, ?_, ?_, ?_, ?_, ?_, ?_, ?_, ?_, ?_, trivial⟩ <;> intro u f wx hC hd <;> (try simp [allV, useOf, Region.binds] at hd)
          · have hBz := hC.size
            go_wp2
            exact ⟨_, rfl, rfl, Below.refl _ _, hC⟩
          · rw [show u 0 = _ from (by first | exact hd | exact hd.1 | exact hd.2 | exact hd.2.1 | exact hd.2.2 | exact hd.2.2.1 | exact hd.2.2.2 | exact hd.2.2.2.1 | exact hd.2.2.2.2)]
            have hBz := hC.size
            have e0 := (hC.cell (p := ⟨w1.heap.size, 1, none⟩) bs).trans d1
            go_wp2
            exact ⟨_, rfl, rfl, Below.refl _ _, hC⟩
          · have hBz := hC.size
            go_wp2
            exact ⟨_, rfl, rfl, Below.refl _ _, hC⟩
          · have hBz := hC.size
            go_wp2
            exact ⟨_, rfl, rfl, Below.refl _ _, hC⟩
          · rw [show u 2 = _ from (by first | exact hd | exact hd.1 | exact hd.2 | exact hd.2.1 | exact hd.2.2 | exact hd.2.2.1 | exact hd.2.2.2 | exact hd.2.2.2.1 | exact hd.2.2.2.2), show u 3 = _ from (by first | exact hd | exact hd.1 | exact hd.2 | exact hd.2.1 | exact hd.2.2 | exact hd.2.2.1 | exact hd.2.2.2 | exact hd.2.2.2.1 | exact hd.2.2.2.2)]
            have hBz := hC.size
            go_wp2
            exact ⟨_, rfl, rfl, Below.refl _ _, hC⟩
          · rw [show u 4 = _ from (by first | exact hd | exact hd.1 | exact hd.2 | exact hd.2.1 | exact hd.2.2 | exact hd.2.2.1 | exact hd.2.2.2 | exact hd.2.2.2.1 | exact hd.2.2.2.2)]
            have hBz := hC.size
            have e0 := (hC.cell (p := ⟨gx, k, none⟩) hgxr).trans cx
            go_wp2
            exact ⟨_, rfl, rfl, Below.refl _ _, hC⟩
          · rw [show u 5 = _ from (by first | exact hd | exact hd.1 | exact hd.2 | exact hd.2.1 | exact hd.2.2 | exact hd.2.2.1 | exact hd.2.2.2 | exact hd.2.2.2.1 | exact hd.2.2.2.2)]
            have hBz := hC.size
            go_wp2
            exact ⟨_, rfl, rfl, Below.refl _ _, hC⟩
          · rw [show u 1 = _ from (by first | exact hd | exact hd.1 | exact hd.2 | exact hd.2.1 | exact hd.2.2 | exact hd.2.2.1 | exact hd.2.2.2 | exact hd.2.2.2.1 | exact hd.2.2.2.2), show u 6 = _ from (by first | exact hd | exact hd.1 | exact hd.2 | exact hd.2.1 | exact hd.2.2 | exact hd.2.2.1 | exact hd.2.2.2 | exact hd.2.2.2.1 | exact hd.2.2.2.2)]
            have hBz := hC.size
            go_wp2
            exact ⟨_, rfl, rfl, Below.refl _ _, hC⟩
          · rw [show u 7 = _ from (by first | exact hd | exact hd.1 | exact hd.2 | exact hd.2.1 | exact hd.2.2 | exact hd.2.2.1 | exact hd.2.2.2 | exact hd.2.2.2.1 | exact hd.2.2.2.2)]
            have hBz := hC.size
            have e0 := (hC.cell (p := ⟨gp, q * 5, none⟩) hgpr).trans k0
            have e1 := (hC.cell (p := ⟨gp, q * 5 + 1, none⟩) hgpr).trans k1
            have e2 := (hC.cell (p := ⟨gp, q * 5 + 2, none⟩) hgpr).trans k2
            have e3 := (hC.cell (p := ⟨gp, q * 5 + 3, none⟩) hgpr).trans k3
            have e4 := (hC.cell (p := ⟨gp, q * 5 + 4, none⟩) hgpr).trans k4
            go_wp2
            exact ⟨_, rfl, rfl, Below.refl _ _, hC⟩
          · have hBz := hC.size
            go_wp2
            exact ⟨_, rfl, ⟨wx.heap.size, _, _, _, _, _, rfl, hC.size, heap_alloc_new _ _⟩, (Below.refl _ _).alloc (Nat.le_refl _) _, hC.alloc hC.size _⟩
          · rw [show u 8 = _ from (by first | exact hd | exact hd.1 | exact hd.2 | exact hd.2.1 | exact hd.2.2 | exact hd.2.2.1 | exact hd.2.2.2 | exact hd.2.2.2.1 | exact hd.2.2.2.2)]
            have hBz := hC.size
            obtain ⟨g, c0, c1', c2', c3', c4', h9, hg9, hh9⟩ : ∃ g c0 c1 c2 c3 c4, u 9 = .pointer (some ⟨g, 0, none⟩) ∧ wr.heap.size ≤ g ∧ wx.heap[g]? = some (.cells #[c0, c1, c2, c3, c4] 35) := (by first | exact hd.1 | exact hd.2)
            rw [h9]
            have e0 := heap_cell (j := 0) hh9 rfl
            have e1 := heap_cell (j := 1) hh9 rfl
            have e2 := heap_cell (j := 2) hh9 rfl
            have e3 := heap_cell (j := 3) hh9 rfl
            have e4 := heap_cell (j := 4) hh9 rfl
            have f0 := heap_frozen (j := 0) hh9
            have f1 := heap_frozen (j := 1) hh9
            have f2 := heap_frozen (j := 2) hh9
            have f3 := heap_frozen (j := 3) hh9
            have f4 := heap_frozen (j := 4) hh9
            have hgl := heap_lt hh9
            have hh1 := heap_set (j := 0) (.int .i64 ps[q].fr) hh9
            have hh2 := heap_set (j := 1) (.int .i64 ps[q].to) hh1
            have hh3 := heap_set (j := 2) (.int .i64 ps[q].le) hh2
            have hh4 := heap_set (j := 3) (.int .i64 ps[q].mo) hh3
            have hh5 := heap_set (j := 4) (.int .i64 ps[q].co) hh4
            have hF := Lib.hid hh5
            have h9' := Lib.hid h9
            clear hh1 hh2 hh3 hh4 hh5 h9
            go_wp2
            exact ⟨undef, rfl, ⟨g, h9'.out, hg9, by simpa using hF.out, (by (repeat (first | (with_reducible assumption) | (with_reducible exact Below.refl _ _) | ((with_reducible refine Below.alloc ?_ ?hsz _); (case hsz => (first | omega | (simp; done) | (simp; omega) | (simp at *; omega)))) | ((with_reducible refine Below.setCell ?_ ?hsz _); (case hsz => (first | omega | (simp; done) | (simp; omega) | (simp at *; omega)))) | (with_reducible refine Below.drew ?_) | (with_reducible refine below_drewN ?_ _) | ((with_reducible refine Below.trans ?_ (Below.mono (by with_reducible assumption) ?hsz)); (case hsz => (first | omega | (simp; done) | (simp; omega) | (simp at *; omega)))))) : Below wr.heap.size wr _)⟩, (if_pos rfl ▸ trivial : (if (10 : Nat) = 10 then True else _)), (by (repeat (first | (with_reducible assumption) | (with_reducible exact Below.refl _ _) | ((with_reducible refine Below.alloc ?_ ?hsz _); (case hsz => (first | omega | (simp; done) | (simp; omega) | (simp at *; omega)))) | ((with_reducible refine Below.setCell ?_ ?hsz _); (case hsz => (first | omega | (simp; done) | (simp; omega) | (simp at *; omega)))) | (with_reducible refine Below.drew ?_) | (with_reducible refine below_drewN ?_ _) | ((with_reducible refine Below.trans ?_ (Below.mono (by with_reducible assumption) ?hsz)); (case hsz => (first | omega | (simp; done) | (simp; omega) | (simp at *; omega)))))) : Below wr.heap.size wr _)⟩
        · intro u f wx hC hfin
          simp only [fillEnd, fillF, Act.put, List.setIfInBounds_toArray, List.set_cons_succ, List.set_cons_zero]
          obtain ⟨g9, h9, hg9, hh9, hb9⟩ : ∃ g, u 9 = .pointer (some ⟨g, 0, none⟩) ∧ wr.heap.size ≤ g ∧ wx.heap[g]? = some (.cells #[.int .i64 ps[q].fr, .int .i64 ps[q].to, .int .i64 ps[q].le, .int .i64 ps[q].mo, .int .i64 ps[q].co] 35) ∧ Below wr.heap.size wr wx := hfin 10 (by decide) (by decide)
          rw [h9]
          clear hfin hC h9
          have hzx := hb9.size
          have p0 := heap_cell (j := 0) hh9 rfl
          have p1 := heap_cell (j := 1) hh9 rfl
          have p4 := heap_cell (j := 4) hh9 rfl
          have hg9l := heap_lt hh9
          have hRa2 := hRa.keep hb9
          have hRb2 := hRb.keep hb9
          have bx2' := bx.keep hb9
          have hbw5 : Below w5.heap.size w5 wx := hb5.trans (hb9.mono hzr)
          have cx2 := (hb9.cell (p := ⟨gx, k, none⟩) hgxr).trans cx
          have hgx2 : gx < wx.heap.size := by omega
          have hgal := hRa2.lt
          have hgbl2 := hRb2.lt
          have hgae := hRa.lt
          have hgbe := hRb.lt
          have hcapa := hRa2.capd
          unfold maxLen at hcapa
          clear hRa hRb bx d0 d1 g0 g1 bs cx k0 k1 k2 k3 k4 hh9
          rcases (show s % 2 = 0 ∨ s % 2 = 1 by omega) with hm | hm
          · have hmi : ((s : Int) % 2 == 0) = true := by rw [beq_iff_eq]; omega
            have HE := Lib.hid (show stFr ps s = ps[q].fr ∧ stTo ps s = ps[q].to ∧ stCo ps s = ps[q].co from ⟨by rw [stFr, HGT.out, if_neg (by omega)], by rw [stTo, HGT.out, if_neg (by omega)], by rw [stCo, HGT.out, if_neg (by omega)]⟩)
            have hw1 : IntKind.i64.wrap (S + ps[q].co) = S + ps[q].co := IntWalk.i64_in _ (by omega)
            have hw2 : RowKit.wrap64 (S + ps[q].co) = S + ps[q].co := IntWalk.wrap64_in _ (by omega)
            clear hm
            go_upto_region 20 with (first
              | (at_builtin
                 go_must (refine wpList_append_lies _ rfl _ _ 26 rfl w5.heap.size 3 j0 _ 1 8 Try.underlying26 hj0 hy0 hy1 hy2 rfl (by omega) _ k _ rfl (hRa2.1.alloc _) ⟨wx.heap.size, 0, none⟩ 1 1 [.int .i64 ps[q].fr] rfl rfl (World.news_of_block (cs := #[.int .i64 ps[q].fr]) (t := 3) (fr := (0, 0)) (heap_alloc_new _ _)) (by simp [Value.oneCell']) (by omega) (by unfold maxLen; omega) (by omega) (by (first | omega | (simp; done) | (simp; omega) | (simp at *; omega))) _ rfl ?_)
                 intro g2 k2 w7 hown7 hgr7 hat7 hlt7))
            have hba : wx.grownBy w7 (some ga) := grow_more (grow_alloc (grow_refl _ _) _) hgr7 (fun q hq => .inr hq)
            have hRb3 : Row w7 w5.heap.size gb k cb ((l.take k).map (stTo ps)) := hRb2.grown hba (by intro e; injection e with e; omega)
            have bx7 := bx2'.grown hba (by intro e; injection e with e; omega)
            have m0 := (hba.cell_far ⟨g9, 0, none⟩ hg9l (by intro e; injection e with e; dsimp only at e; omega)).trans p0
            have m1 := (hba.cell_far ⟨g9, 1, none⟩ hg9l (by intro e; injection e with e; dsimp only at e; omega)).trans p1
            have m4 := (hba.cell_far ⟨g9, 4, none⟩ hg9l (by intro e; injection e with e; dsimp only at e; omega)).trans p4
            have hs7 := hba.size
            have hg97 : g9 < w7.heap.size := by omega
            have hb57 : Below w5.heap.size w5 w7 := hbw5.trans (below_grow hba (by omega) (fun q hq => by injection hq with hq; omega))
            have hg2b : g2 ≠ gb := by
              rcases hat7 with h | h
              · have e : ga = g2 := by injection h
                omega
              · simp at h; omega
            have hRa3 : Row w7 w5.heap.size g2 (k + 1) k2 ((l.take (k + 1)).map (stFr ps)) := ⟨by
              rw [HTK.out, List.map_append, List.map_append]
              simpa [HE.out.1] using hown7, by unfold small; omega⟩
            have hg2l := hRa3.lt
            have hgbl := hRb3.lt
            have hcapb := hRb3.capd
            unfold maxLen at hcapb
            clear hown7 hgr7 hat7 hlt7 hba hRa2 hRb2 bx2' p0 p1 p4 hb9
            go_wp2_with (first
              | (at_builtin
                 go_must (refine wpList_append_lies _ rfl _ _ 26 rfl w5.heap.size 3 j0 _ 1 8 Try.underlying26 hj0 hy0 hy1 hy2 rfl (by omega) _ k _ rfl (hRb3.1.alloc _) ⟨w7.heap.size, 0, none⟩ 1 1 [.int .i64 ps[q].to] rfl rfl (World.news_of_block (cs := #[.int .i64 ps[q].to]) (t := 3) (fr := (0, 0)) (heap_alloc_new _ _)) (by simp [Value.oneCell']) (by omega) (by unfold maxLen; omega) (by omega) (by (first | omega | (simp; done) | (simp; omega) | (simp at *; omega))) _ rfl ?_)
                 intro g4 k4 w8 hown8 hgr8 hat8 hlt8
                 have m5 := (hgr8.cell_far ⟨g9, 4, none⟩ (by simp; omega) (by intro e; injection e with e; dsimp only at e; omega)).trans ((World.cell?_alloc_lt _ _ _ hg97).trans m4)
                 have hg98 : g9 < w8.heap.size := by have := hgr8.size; simp at this; omega))
            have hbb : w7.grownBy w8 (some gb) := grow_more (grow_alloc (grow_refl _ _) _) hgr8 (fun q hq => .inr hq)
            have hRa4 : Row w8 w5.heap.size g2 (k + 1) k2 ((l.take (k + 1)).map (stFr ps)) := hRa3.grown hbb (by intro e; injection e with e; omega)
            have bx8 := bx7.grown hbb (by intro e; injection e with e; omega)
            have hb58 : Below w5.heap.size w5 w8 := hb57.trans (below_grow hbb (by omega) (fun q hq => by injection hq with hq; omega))
            have hg24 : g2 ≠ g4 := by
              rcases hat8 with h | h
              · have e : gb = g4 := by injection h
                omega
              · simp at h; omega
            have hRb4 : Row w8 w5.heap.size g4 (k + 1) k4 ((l.take (k + 1)).map (stTo ps)) := ⟨by
              rw [HTK.out, List.map_append, List.map_append]
              simpa [HE.out.2.1] using hown8, by unfold small; omega⟩
            clear hown8 hgr8 hat8 hlt8 hbb hRa3 hRb3 bx7
            go_roundw
            case rel => exact ⟨k + 1, g2, k2, g4, k4, by omega, by go_num, rfl, rfl, by rw [HCT.out, HE.out.2.2], hg24, hRa4, hRb4, bx8, hb58⟩
            case measure => simp [intOf] <;> omega
          · have hmi : ((s : Int) % 2 == 0) = false := by rw [beq_eq_false_iff_ne]; omega
            have HE := Lib.hid (show stFr ps s = ps[q].to ∧ stTo ps s = ps[q].fr ∧ stCo ps s = -ps[q].co from ⟨by rw [stFr, HGT.out, if_pos hm], by rw [stTo, HGT.out, if_pos hm], by rw [stCo, HGT.out, if_pos hm]⟩)
            have hw1 : IntKind.i64.wrap (S - ps[q].co) = S - ps[q].co := IntWalk.i64_in _ (by omega)
            have hw2 : RowKit.wrap64 (S - ps[q].co) = S - ps[q].co := IntWalk.wrap64_in _ (by omega)
            clear hm
            go_upto_region 23 with (first
              | (at_builtin
                 go_must (refine wpList_append_lies _ rfl _ _ 26 rfl w5.heap.size 3 j0 _ 1 8 Try.underlying26 hj0 hy0 hy1 hy2 rfl (by omega) _ k _ rfl (hRa2.1.alloc _) ⟨wx.heap.size, 0, none⟩ 1 1 [.int .i64 ps[q].to] rfl rfl (World.news_of_block (cs := #[.int .i64 ps[q].to]) (t := 3) (fr := (0, 0)) (heap_alloc_new _ _)) (by simp [Value.oneCell']) (by omega) (by unfold maxLen; omega) (by omega) (by (first | omega | (simp; done) | (simp; omega) | (simp at *; omega))) _ rfl ?_)
                 intro g2 k2 w7 hown7 hgr7 hat7 hlt7))
            have hba : wx.grownBy w7 (some ga) := grow_more (grow_alloc (grow_refl _ _) _) hgr7 (fun q hq => .inr hq)
            have hRb3 : Row w7 w5.heap.size gb k cb ((l.take k).map (stTo ps)) := hRb2.grown hba (by intro e; injection e with e; omega)
            have bx7 := bx2'.grown hba (by intro e; injection e with e; omega)
            have m0 := (hba.cell_far ⟨g9, 0, none⟩ hg9l (by intro e; injection e with e; dsimp only at e; omega)).trans p0
            have m1 := (hba.cell_far ⟨g9, 1, none⟩ hg9l (by intro e; injection e with e; dsimp only at e; omega)).trans p1
            have m4 := (hba.cell_far ⟨g9, 4, none⟩ hg9l (by intro e; injection e with e; dsimp only at e; omega)).trans p4
            have hs7 := hba.size
            have hg97 : g9 < w7.heap.size := by omega
            have hb57 : Below w5.heap.size w5 w7 := hbw5.trans (below_grow hba (by omega) (fun q hq => by injection hq with hq; omega))
            have hg2b : g2 ≠ gb := by
              rcases hat7 with h | h
              · have e : ga = g2 := by injection h
                omega
              · simp at h; omega
            have hRa3 : Row w7 w5.heap.size g2 (k + 1) k2 ((l.take (k + 1)).map (stFr ps)) := ⟨by
              rw [HTK.out, List.map_append, List.map_append]
              simpa [HE.out.1] using hown7, by unfold small; omega⟩
            have hg2l := hRa3.lt
            have hgbl := hRb3.lt
            have hcapb := hRb3.capd
            unfold maxLen at hcapb
            clear hown7 hgr7 hat7 hlt7 hba hRa2 hRb2 bx2' p0 p1 p4 hb9
            go_wp2_with (first
              | (at_builtin
                 go_must (refine wpList_append_lies _ rfl _ _ 26 rfl w5.heap.size 3 j0 _ 1 8 Try.underlying26 hj0 hy0 hy1 hy2 rfl (by omega) _ k _ rfl (hRb3.1.alloc _) ⟨w7.heap.size, 0, none⟩ 1 1 [.int .i64 ps[q].fr] rfl rfl (World.news_of_block (cs := #[.int .i64 ps[q].fr]) (t := 3) (fr := (0, 0)) (heap_alloc_new _ _)) (by simp [Value.oneCell']) (by omega) (by unfold maxLen; omega) (by omega) (by (first | omega | (simp; done) | (simp; omega) | (simp at *; omega))) _ rfl ?_)
                 intro g4 k4 w8 hown8 hgr8 hat8 hlt8
                 have m5 := (hgr8.cell_far ⟨g9, 4, none⟩ (by simp; omega) (by intro e; injection e with e; dsimp only at e; omega)).trans ((World.cell?_alloc_lt _ _ _ hg97).trans m4)
                 have hg98 : g9 < w8.heap.size := by have := hgr8.size; simp at this; omega))
            have hbb : w7.grownBy w8 (some gb) := grow_more (grow_alloc (grow_refl _ _) _) hgr8 (fun q hq => .inr hq)
            have hRa4 : Row w8 w5.heap.size g2 (k + 1) k2 ((l.take (k + 1)).map (stFr ps)) := hRa3.grown hbb (by intro e; injection e with e; omega)
            have bx8 := bx7.grown hbb (by intro e; injection e with e; omega)
            have hb58 : Below w5.heap.size w5 w8 := hb57.trans (below_grow hbb (by omega) (fun q hq => by injection hq with hq; omega))
            have hg24 : g2 ≠ g4 := by
              rcases hat8 with h | h
              · have e : gb = g4 := by injection h
                omega
              · simp at h; omega
            have hRb4 : Row w8 w5.heap.size g4 (k + 1) k4 ((l.take (k + 1)).map (stTo ps)) := ⟨by
              rw [HTK.out, List.map_append, List.map_append]
              simpa [HE.out.2.1] using hown8, by unfold small; omega⟩
            clear hown8 hgr8 hat8 hlt8 hbb hRa3 hRb3 bx7
            go_roundw
            case rel => exact ⟨k + 1, g2, k2, g4, k4, by omega, by go_num, rfl, rfl, by rw [HCT.out, HE.out.2.2]; rfl, hg24, hRa4, hRb4, bx8, hb58⟩
            case measure => simp [intOf] <;> omega
      · have hkN : k = N := by omega
        subst hkN
        rw [List.take_of_length_le (by have := HN.out; omega)] at hRa hRb ⊢
        obtain ⟨W9, hW9⟩ : ∃ W, W = wr := ⟨_, rfl⟩
        subst hW9
        have hB9 : Below w1.heap.size w1 W9 := hB5.trans (hb5.mono hB5.size)
        have hneg : decide (coL ps l < 0) = true := decide_eq_true HCH.out.2.2.2
        have hgal := hRa.lt
        have hgbl := hRb.lt
        have hcapa := hRa.capd
        have hcapb := hRb.capd
        unfold maxLen at hcapa hcapb
        clear hltk hne
        generalize coL ps l = S at *
        go_wp2_with fail
        go_loopw [16] (fun i wq => ∃ j : Nat, j ≤ k ∧ i = .int .i64 (j : Int) ∧ Below W9.heap.size W9 wq) (fun i _ => k - (intOf i).toNat)
        case atStart => exact ⟨0, by omega, rfl, Below.refl _ _⟩
        case round =>
          obtain ⟨j, hj, rfl, hb⟩ := hrel
          have hzb := hb.size
          have hBf : Below w1.heap.size w1 wr := hB9.trans (hb.mono hB9.size)
          by_cases hlj : j < k
          · have hjl : j < l.length := by have := HN.out; omega
            obtain ⟨m, hm⟩ : ∃ m, (j + 1) % k = m := ⟨_, rfl⟩
            have hmk : m < k := by rw [← hm]; exact Nat.mod_lt _ (by omega)
            have hml : m < l.length := by have := HN.out; omega
            have hrd := HCH.out.1 j hjl
            have e0 : (l.map (stTo ps)).getD j 0 = stTo ps l[j] := by simp [List.getD_eq_getElem?_getD, hjl]
            have e1 : (l.map (stFr ps)).getD m 0 = stFr ps l[m] := by simp [List.getD_eq_getElem?_getD, hml]
            have e2 : stTo ps l[j] = stFr ps l[m] := by
              rw [hrd]
              congr 1
              have : (j + 1) % l.length = m := by rw [HN.out]; exact hm
              simp only [this]
            have ca1 := (hb.cell (p := ⟨ga, m, none⟩) hgal.2).trans (hRa.at' m hmk).1
            have cb1 := (hb.cell (p := ⟨gb, j, none⟩) hgbl.2).trans (hRb.at' j hlj).1
            rw [e1, ← e2] at ca1
            rw [e0] at cb1
            have hgar : ga < wr.heap.size := by omega
            have hgbr : gb < wr.heap.size := by omega
            have hem : ((j : Int) + 1) % (k : Int) = (m : Int) := by rw [← hm]; rfl
            have htm : ((j : Int) + 1).tmod (k : Int) = (m : Int) := by rw [Int.tmod_eq_emod_of_nonneg (by omega)]; exact hem
            have hk0 : ((k : Int) == 0) = false := by rw [beq_eq_false_iff_ne]; omega
            generalize stTo ps l[j] = x at *
            clear hm hrd e0 e1 e2
            go_wp2
            go_quiet (fail)
            go_wp2
            go_roundw
            case rel => exact ⟨j + 1, by omega, by go_num, by (repeat (first | (with_reducible assumption) | (with_reducible exact Below.refl _ _) | ((with_reducible refine Below.alloc ?_ ?hsz _); (case hsz => (first | omega | (simp; done) | (simp; omega) | (simp at *; omega)))) | ((with_reducible refine Below.setCell ?_ ?hsz _); (case hsz => (first | omega | (simp; done) | (simp; omega) | (simp at *; omega)))) | (with_reducible refine Below.drew ?_) | (with_reducible refine below_drewN ?_ _) | ((with_reducible refine Below.trans ?_ (Below.mono (by with_reducible assumption) ?hsz)); (case hsz => (first | omega | (simp; done) | (simp; omega) | (simp at *; omega))))))⟩
            case measure => simp [intOf] <;> omega
          · go_wp2
            (go_ret; exact ⟨rfl, hBw1.trans (Below.mono (by with_reducible assumption) hBw1.size)⟩)
  · have hw' : gainsB z ps xs = false := by simpa using hw
    have h0 : (gainI z ps xs).length = 0 := by rw [gainI_no hw']; rfl
    rw [hw', h0]
    have hpb : pricedB z ps xs = holdsB z ps xs := by rw [hpr, hw']; simp
    have HPB := Lib.hid hpb
    clear hw hpr hpb hL0
    go_wp2_with fail
    with_reducible refine (pricesFor_any z _ _ ps xs _ _ _ (hp.keep hB4) (hx.keep hB4)).mono ?_
    rintro e w5 ⟨r5, rfl, hr5, hnn⟩
    have bx5 := bx4.keep hnn
    have hB5 : Below w1.heap.size w1 w5 := hB4.trans (hnn.mono hB4.size)
    rw [HPB.out]
    obtain ⟨A5, c5, rfl, -, -, -, -⟩ := hr5.form
    obtain ⟨L5, hL5⟩ : ∃ L, (priceR z ps xs).length = L := ⟨_, rfl⟩
    rw [hL5]
    clear hL5 hr5 hnn d0 d1 g0 g1 bs bx4
    obtain ⟨bs, d0, d1, g0, g1⟩ := id bx5
    go_wp2_with fail
    with_reducible refine (holdsOk_any z _ _ ps xs _ _ _ (hp.keep hB5) (hx.keep hB5)).mono ?_
    rintro e w6 ⟨rfl, hnn⟩
    have bx6 := bx5.keep hnn
    have hB6 : Below w1.heap.size w1 w6 := hB5.trans (hnn.mono hB5.size)
    clear hnn d0 d1 g0 g1 bs bx5
    obtain ⟨bs, d0, d1, g0, g1⟩ := id bx6
    generalize holdsB z ps xs = hbb at *
    go_wp2_with fail
    with_reducible refine (alive_any _).mono ?_
    rintro e w7 ⟨rfl, hnn⟩
    have bx7 := (bx6).keep hnn
    have hB7 : Below w1.heap.size w1 w7 := by (repeat (first | (with_reducible assumption) | (with_reducible exact Below.refl _ _) | ((with_reducible refine Below.alloc ?_ ?hsz _); (case hsz => (first | omega | (simp; done) | (simp; omega) | (simp at *; omega)))) | ((with_reducible refine Below.setCell ?_ ?hsz _); (case hsz => (first | omega | (simp; done) | (simp; omega) | (simp at *; omega)))) | (with_reducible refine Below.drew ?_) | (with_reducible refine below_drewN ?_ _) | ((with_reducible refine Below.trans ?_ (Below.mono (by with_reducible assumption) ?hsz)); (case hsz => (first | omega | (simp; done) | (simp; omega) | (simp at *; omega))))))
    clear hnn
    (try clear d0 d1 g0 g1)
    obtain ⟨bs, d0, d1, g0, g1⟩ := id bx7
    go_wp2
    (go_ret; exact ⟨rfl, hBw1.trans (Below.mono (by with_reducible assumption) hBw1.size)⟩)

set_option maxRecDepth 100000 in
theorem contract (H : Type) (enc : TypeId × Value → H) (W : World) (base : Nat) (args : Array Value) (ds gs : List (DataW H)) (before : List MemPlace)
    (hval : ∀ (j : Nat) t v, Try.f3.params[j]? = some t → args[j]? = some v → Value.okWide Try.prog W .any base t v)
    (hW : DataW.Whole enc Try.prog Try.f3.params.toList Rows.fnGainOfSpec.vars false W args.toList ds gs before) :
    Calls Try.prog 3 args W fun e W' => ∃ v, e = .returned v ∧ Rows.fnGainOfSpec.post enc Try.prog Try.f3 false true false false W args v W' := by
  have hW' := hW
  obtain ⟨p, q, hA0, hV, rfl, hfz, hnd⟩ := hW
  have hA : DataW.TrodAll enc Try.prog W 0 (fun _ => true) true Try.f3.params.toList args.toList ds p := hA0
  rw [Try.params3] at hA hval
  obtain ⟨u0, us0, d0, ds0, p0, q0, hargs, rfl, rfl, g0, k0⟩ := trodAll_cons hA
  obtain ⟨rfl, rfl, rfl⟩ := trodAll_nil k0
  obtain rfl : args = #[u0] := by cases args; simp_all
  obtain ⟨rfl, rfl⟩ := trodVars_none hV
  obtain ⟨m0, e0⟩ := g0
  obtain ⟨s0, l0, f0, hh0⟩ := open_arg_bytes e0
  have f0' := one_of_cells Try.underlying22 (hval 0 _ _ rfl rfl) f0
  subst f0'
  refine (walk _ l0 W hh0).mono fun e W' ⟨he, hb⟩ => ?_
  subst he
  exact ⟨_, rfl, law_post Try.kids Try.full (by rw [Try.params3]; decide) rfl rfl Try.underlying4 hW' rfl rfl rfl hb⟩

set_option maxRecDepth 100000 in
theorem lifted (os : Os) (started : os.Started) (H : Type) (enc : TypeId × Value → H) :
    ReturnsInHanded {} Try.checked os 3 .any (Rows.fnGainOfSpec.pre6 enc Try.prog Try.f3 Rows.fnGainOfRow.domain false) (Rows.fnGainOfSpec.post enc Try.prog Try.f3 false true false false) := by
  refine returnsInHanded_of_change (C := Try.checked) Try.own started (by kernel_rfl) Try.func3
    (ChangeSpec.witness6 (enc := enc) (C := Try.checked) false ⟨#[], #[.slice none 0 0], []⟩ 8 (by kernel_rfl) (by kernel_rfl) (by kernel_rfl) (by kernel_rfl)) ?_
  intro W base args ds gs before hval0 hW _ _
  exact contract H enc W base args ds gs before hval0 hW

theorem proved : Rows.FnGainOfSaid :=
  OpenClaim.holds_of_wide 3 Try.f3 rfl rfl rfl rfl rfl rfl rfl ⟨rfl, rfl, rfl, rfl, rfl⟩ rfl rfl rfl rfl rfl (by kernel_rfl) Try.func3 (by kernel_rfl)
    (of_decide_eq_true (by kernel_rfl)) (by unfold Func.isWrapper; first | (rw [if_pos (by decide +kernel)]; kernel_rfl) | (rw [if_neg (by decide +kernel)]; exact ⟨rfl, rfl⟩))
    (fun os started H enc _ => lifted os started H enc)

end Go.Proofs.Ytialdelfmmdfjaa.lawGainOf
