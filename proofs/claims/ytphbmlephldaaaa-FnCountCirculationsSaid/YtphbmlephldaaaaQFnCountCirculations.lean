/- FnCountCirculations: for every code the law holds: the program's count is the model's; it is none exactly if there is no circulation; by the amount of the last pipe it is what it is with the least amount alone and with the others, added; of the turned net it is the same. No condition. -/
import Derived.Test.YtphbmlephldaaaaG1
import Derived.Test.YtphbmlephldaaaaDV
import Derived.Test.YtphbmlephldaaaaGA
import Derived.Test.YtphbmlephldaaaaC6
import Derived.Test.YtphbmlephldaaaaW5
import Derived.Test.YtphbmlephldaaaaY3
import Derived.Test.YtphbmlephldaaaaZ3
import Derived.Test.YtphbmlephldaaaaY4
import Derived.BigQuiet
namespace Go.Proofs.Ytphbmlephldaaaa.lawCountCirculations
open Go.ChangeShapes Go.WideShapes Go.ChangeAt Go.RowKit Go.Deep Go.Joins

theorem pow5' {k : Nat} (h : k ≤ 5) : (5 : Int) ^ k ≤ 3125 := by
  have : k = 0 ∨ k = 1 ∨ k = 2 ∨ k = 3 ∨ k = 4 ∨ k = 5 := by omega
  rcases this with rfl | rfl | rfl | rfl | rfl | rfl <;> decide

theorem countR_bd {n : Int} {ps : List Pp} (hn : netOkB n ps = true) (hl : ps.length ≤ 5) : 0 ≤ countR n ps ∧ countR n ps ≤ 3125 := by
  have h := count_bd n ps ps [] (fun p hp => by
    have := pipeOk_parts ((netOk_parts hn).2.2.2 p hp)
    omega)
  rw [countR, if_pos ⟨hn, hl⟩]
  exact ⟨h.1, Int.le_trans h.2 (pow5' hl)⟩

/-- what the operations of two counts yield -/
def ccV (y0 y2 : Value) (a1 a2 N : Int) : Nat → Value → Prop
  | 0, x => x = y0
  | 1, x => x = .int .i64 a1
  | 2, x => x = y2
  | 3, x => x = .int .i64 a2
  | 4, x => x = .int .i64 N
  | 5, x => x = .int .i64 N
  | 6, x => x = .bool false
  | _, _ => True

/-- what the operations of a net's literal yield -/
def caV (B nb pb : Nat) (n p0 p1 p2 _p3 p4 : Int) (L M c : Nat) (g0 : Nat) (qs PS : List Pp) (x0 x1 x2 x3 x4 : Int) : Nat → Value → (Nat → Value) → World → Prop
  | 0, x, _, _ => x = .pointer (some ⟨nb, 0, none⟩)
  | 1, x, _, _ => x = .int .i64 n
  | 2, x, _, wx => ∃ g, x = .slice (some ⟨g, 0, none⟩) 0 0 ∧ B ≤ g ∧ wx.heap[g]? = some (.cells #[] 33)
  | 3, x, _, _ => x = .pointer (some ⟨nb, 1, none⟩)
  | 4, x, _, _ => x = .slice (some ⟨g0, 0, none⟩) M c
  | 5, x, _, _ => x = .int .i64 L
  | 6, x, _, _ => x = .slice (some ⟨g0, 0, none⟩) L c
  | 7, x, _, wx => Pipes wx B x qs
  | 8, x, _, _ => x = .pointer (some ⟨pb, 0, none⟩)
  | 9, x, _, _ => x = .int .i64 p0
  | 10, x, _, _ => x = .pointer (some ⟨pb, 1, none⟩)
  | 11, x, _, _ => x = .int .i64 p1
  | 12, x, _, _ => x = .pointer (some ⟨pb, 2, none⟩)
  | 13, x, _, _ => x = .int .i64 p2
  | 14, x, _, _ => x = .pointer (some ⟨pb, 2, none⟩)
  | 15, x, _, _ => x = .int .i64 p2
  | 16, x, _, _ => x = .pointer (some ⟨pb, 4, none⟩)
  | 17, x, _, _ => x = .int .i64 p4
  | 18, x, _, _ => x = .agg #[.int .i64 x0, .int .i64 x1, .int .i64 x2, .int .i64 x3, .int .i64 x4]
  | 19, x, _, wx => ∃ g, x = .slice (some ⟨g, 0, none⟩) 1 1 ∧ wx.heap[g]? = some (.cells #[.int .i64 x0, .int .i64 x1, .int .i64 x2, .int .i64 x3, .int .i64 x4] 33)
  | 20, x, _, wx => Pipes wx B x PS
  | 21, x, _, wx => ∃ s, x = .agg #[.int .i64 n, s] ∧ Pipes wx B s PS
  | 22, x, _, wx => ∃ g y0 y1, x = .pointer (some ⟨g, 0, none⟩) ∧ B ≤ g ∧ wx.heap[g]? = some (.cells #[y0, y1] 25)
  | 23, _, u, wx => ∃ g s, u 22 = .pointer (some ⟨g, 0, none⟩) ∧ B ≤ g ∧ Pipes wx B s PS ∧ wx.heap[g]? = some (.cells #[.int .i64 n, s] 25)
  | _, _, _, _ => True
/-- what an operation may turn -/
def caR : Nat → World → World → Prop
  | 7, wx, wy => ∃ row, wx.grownBy wy row ∧ ∀ q, row = some q → wx.heap[q]? = some (.cells #[] 33 (0, 0))
  | 20, wx, wy => ∃ row, wx.grownBy wy row ∧ ∀ q, row = some q → ∃ cur, wx.heap[q]? = some (.cells cur 33 (0, 0))
  | 23, _, _ => True
  | _, wx, wy => Below wx.heap.size wx wy

/-- what the operations of a net's literal yield -/
def cbV (B nb pb : Nat) (n p0 p1 p2 p3 p4 : Int) (L M c : Nat) (g0 : Nat) (qs PS : List Pp) (x0 x1 x2 x3 x4 : Int) : Nat → Value → (Nat → Value) → World → Prop
  | 0, x, _, _ => x = .pointer (some ⟨nb, 0, none⟩)
  | 1, x, _, _ => x = .int .i64 n
  | 2, x, _, wx => ∃ g, x = .slice (some ⟨g, 0, none⟩) 0 0 ∧ B ≤ g ∧ wx.heap[g]? = some (.cells #[] 33)
  | 3, x, _, _ => x = .pointer (some ⟨nb, 1, none⟩)
  | 4, x, _, _ => x = .slice (some ⟨g0, 0, none⟩) M c
  | 5, x, _, _ => x = .int .i64 L
  | 6, x, _, _ => x = .slice (some ⟨g0, 0, none⟩) L c
  | 7, x, _, wx => Pipes wx B x qs
  | 8, x, _, _ => x = .pointer (some ⟨pb, 0, none⟩)
  | 9, x, _, _ => x = .int .i64 p0
  | 10, x, _, _ => x = .pointer (some ⟨pb, 1, none⟩)
  | 11, x, _, _ => x = .int .i64 p1
  | 12, x, _, _ => x = .pointer (some ⟨pb, 2, none⟩)
  | 13, x, _, _ => x = .int .i64 p2
  | 14, x, _, _ => x = .int .i64 x2
  | 15, x, _, _ => x = .pointer (some ⟨pb, 3, none⟩)
  | 16, x, _, _ => x = .int .i64 p3
  | 17, x, _, _ => x = .pointer (some ⟨pb, 4, none⟩)
  | 18, x, _, _ => x = .int .i64 p4
  | 19, x, _, _ => x = .agg #[.int .i64 x0, .int .i64 x1, .int .i64 x2, .int .i64 x3, .int .i64 x4]
  | 20, x, _, wx => ∃ g, x = .slice (some ⟨g, 0, none⟩) 1 1 ∧ wx.heap[g]? = some (.cells #[.int .i64 x0, .int .i64 x1, .int .i64 x2, .int .i64 x3, .int .i64 x4] 33)
  | 21, x, _, wx => Pipes wx B x PS
  | 22, x, _, wx => ∃ s, x = .agg #[.int .i64 n, s] ∧ Pipes wx B s PS
  | 23, x, _, wx => ∃ g y0 y1, x = .pointer (some ⟨g, 0, none⟩) ∧ B ≤ g ∧ wx.heap[g]? = some (.cells #[y0, y1] 25)
  | 24, _, u, wx => ∃ g s, u 23 = .pointer (some ⟨g, 0, none⟩) ∧ B ≤ g ∧ Pipes wx B s PS ∧ wx.heap[g]? = some (.cells #[.int .i64 n, s] 25)
  | _, _, _, _ => True
/-- what an operation may turn -/
def cbR : Nat → World → World → Prop
  | 7, wx, wy => ∃ row, wx.grownBy wy row ∧ ∀ q, row = some q → wx.heap[q]? = some (.cells #[] 33 (0, 0))
  | 21, wx, wy => ∃ row, wx.grownBy wy row ∧ ∀ q, row = some q → ∃ cur, wx.heap[q]? = some (.cells cur 33 (0, 0))
  | 24, _, _ => True
  | _, wx, wy => Below wx.heap.size wx wy

set_option maxRecDepth 20000 in
set_option maxHeartbeats 8000000 in
set_option maxRecDepth 20000 in
theorem walk (v : Value) (n : Nat) (w : World) (h : ArgBytes w v n) :
    Calls Try.prog 5 #[v] w fun e w' => e = .returned (.bool true) ∧ Below w.heap.size w w' := by
  obtain ⟨A, c, rfl, hc1, hc2, -⟩ := id h
  unfold maxLen at hc2
  by_cases hbig : 1048576 < n
  · go_enter Try.func5, Try.ntmps5
    go_wp2
    go_ret
    exact ⟨rfl, by (repeat (first | (with_reducible assumption) | (with_reducible exact Below.refl _ _) | ((with_reducible refine Below.alloc ?_ ?hsz _); (case hsz => (first | omega | (simp; done) | (simp; omega) | (simp at *; omega)))) | ((with_reducible refine Below.setCell ?_ ?hsz _); (case hsz => (first | omega | (simp; done) | (simp; omega) | (simp at *; omega)))) | (with_reducible refine Below.drew ?_) | (with_reducible refine below_drewN ?_ _) | ((with_reducible refine Below.trans ?_ (Below.mono (by with_reducible assumption) ?hsz)); (case hsz => (first | omega | (simp; done) | (simp; omega) | (simp at *; omega))))))⟩
  go_enter Try.func5, Try.ntmps5
  go_wp2_with fail
  with_reducible refine (drawCountCirculations_any _ n _ (h.keep (by (repeat (first | (with_reducible assumption) | (with_reducible exact Below.refl _ _) | ((with_reducible refine Below.alloc ?_ ?hsz _); (case hsz => (first | omega | (simp; done) | (simp; omega) | (simp at *; omega)))) | ((with_reducible refine Below.setCell ?_ ?hsz _); (case hsz => (first | omega | (simp; done) | (simp; omega) | (simp at *; omega)))) | (with_reducible refine Below.drew ?_) | (with_reducible refine below_drewN ?_ _) | ((with_reducible refine Below.trans ?_ (Below.mono (by with_reducible assumption) ?hsz)); (case hsz => (first | omega | (simp; done) | (simp; omega) | (simp at *; omega))))))))).mono ?_
  rintro e w1 ⟨z, ps, u, rfl, hp, hb1, hl8, hz1, hz6⟩
  have hBw1 : Below w.heap.size w w1 := by (repeat (first | (with_reducible assumption) | (with_reducible exact Below.refl _ _) | ((with_reducible refine Below.alloc ?_ ?hsz _); (case hsz => (first | omega | (simp; done) | (simp; omega) | (simp at *; omega)))) | ((with_reducible refine Below.setCell ?_ ?hsz _); (case hsz => (first | omega | (simp; done) | (simp; omega) | (simp at *; omega)))) | (with_reducible refine Below.drew ?_) | (with_reducible refine below_drewN ?_ _) | ((with_reducible refine Below.trans ?_ (Below.mono (by with_reducible assumption) ?hsz)); (case hsz => (first | omega | (simp; done) | (simp; omega) | (simp at *; omega))))))
  clear h hc1 hc2 hbig
  obtain ⟨A1, c1, rfl, hk1, hk2, hsm, -⟩ := hp.form
  unfold maxLen at hk2
  have bx1 : Box2 (w1.alloc (.cells #[.int .i64 z, .slice A1 ps.length c1] 25)) w1.heap.size (.int .i64 z) (.slice A1 ps.length c1) := Box2.new _ _ _ _
  have hB1 : Below w1.heap.size w1 (w1.alloc (.cells #[.int .i64 z, .slice A1 ps.length c1] 25)) := by (repeat (first | (with_reducible assumption) | (with_reducible exact Below.refl _ _) | ((with_reducible refine Below.alloc ?_ ?hsz _); (case hsz => (first | omega | (simp; done) | (simp; omega) | (simp at *; omega)))) | ((with_reducible refine Below.setCell ?_ ?hsz _); (case hsz => (first | omega | (simp; done) | (simp; omega) | (simp at *; omega)))) | (with_reducible refine Below.drew ?_) | (with_reducible refine below_drewN ?_ _) | ((with_reducible refine Below.trans ?_ (Below.mono (by with_reducible assumption) ?hsz)); (case hsz => (first | omega | (simp; done) | (simp; omega) | (simp at *; omega))))))
  obtain ⟨N, HN⟩ : ∃ N, Hid (countR z ps = N) := ⟨_, Lib.hid rfl⟩
  go_wp2_with fail
  with_reducible refine (countCirc_any z _ ps _ _ (hp.keep hB1)).mono ?_
  rintro e w2 ⟨rfl, hnn⟩
  have bx2 := (bx1).keep hnn
  have hB2 : Below w1.heap.size w1 w2 := by (repeat (first | (with_reducible assumption) | (with_reducible exact Below.refl _ _) | ((with_reducible refine Below.alloc ?_ ?hsz _); (case hsz => (first | omega | (simp; done) | (simp; omega) | (simp at *; omega)))) | ((with_reducible refine Below.setCell ?_ ?hsz _); (case hsz => (first | omega | (simp; done) | (simp; omega) | (simp at *; omega)))) | (with_reducible refine Below.drew ?_) | (with_reducible refine below_drewN ?_ _) | ((with_reducible refine Below.trans ?_ (Below.mono (by with_reducible assumption) ?hsz)); (case hsz => (first | omega | (simp; done) | (simp; omega) | (simp at *; omega))))))
  clear hnn
  (try clear d0 d1 g0 g1)
  obtain ⟨bs, d0, d1, g0, g1⟩ := id bx2
  rw [HN.out]
  go_wp2_with fail
  with_reducible refine (specCountCirc_any z _ ps _ _ (hp.keep hB2)).mono ?_
  rintro e w3 ⟨rfl, hnn⟩
  have bx3 := (bx2).keep hnn
  have hB3 : Below w1.heap.size w1 w3 := by (repeat (first | (with_reducible assumption) | (with_reducible exact Below.refl _ _) | ((with_reducible refine Below.alloc ?_ ?hsz _); (case hsz => (first | omega | (simp; done) | (simp; omega) | (simp at *; omega)))) | ((with_reducible refine Below.setCell ?_ ?hsz _); (case hsz => (first | omega | (simp; done) | (simp; omega) | (simp at *; omega)))) | (with_reducible refine Below.drew ?_) | (with_reducible refine below_drewN ?_ _) | ((with_reducible refine Below.trans ?_ (Below.mono (by with_reducible assumption) ?hsz)); (case hsz => (first | omega | (simp; done) | (simp; omega) | (simp at *; omega))))))
  clear hnn
  (try clear d0 d1 g0 g1)
  obtain ⟨bs, d0, d1, g0, g1⟩ := id bx3
  rw [HN.out]
  by_cases hok : netOkB z ps = true ∧ ps.length ≤ 5
  · obtain ⟨hn, hl5⟩ := hok
    have hNb := countR_bd hn hl5
    rw [HN.out] at hNb
    have HC : Hid (circB z ps = decide (0 < N)) := Lib.hid (by rw [← count_circ hn hl5, HN.out])
    obtain ⟨qt, HT⟩ : ∃ qt, Hid (turnN z ps = z ∧ turnL z ps = qt ∧ countR z qt = N) := by
      obtain ⟨t1, t2⟩ := turn_yes hn
      exact ⟨_, Lib.hid ⟨t1, t2, (count_turn hn).trans HN.out⟩⟩
    have HNET := Lib.hid hn
    have hNd : decide (N < 0) = false := decide_eq_false (by omega)
    clear hn
    go_wp2_with fail
    refine (circ_any z _ ps _ _ (hp.keep hB3)).mono ?_
    rintro e w4 ⟨r4, rfl, -, hnn⟩
    have bx4 := bx3.keep hnn
    have hB4 : Below w1.heap.size w1 w4 := hB3.trans (hnn.mono hB3.size)
    rw [HC.out]
    clear hnn bs d0 d1 g0 g1 bx3 hB3 hB2 bx2 bx1 hB1 hNd
    obtain ⟨bs, d0, d1, g0, g1⟩ := id bx4
    by_cases hne : ps = []
    · subst hne
      simp only [List.length_nil] at *
      go_wp2_with fail
      go_quiet (fail)
      have hBq : Below w1.heap.size w1 (w4.drewN nq) := ⟨hB4.1, hB4.2, hB4.3, hB4.4, hB4.5⟩
      have bxq : Box2 (w4.drewN nq) w1.heap.size (.int .i64 z) (.slice A1 0 c1) := bx4
      generalize hps : ([] : List Pp) = ps at *
      clear hps
      by_cases hpos : 0 < N
      · have hpd : decide (0 < N) = true := decide_eq_true hpos
        go_wp2_with fail
        refine (turned_any z _ ps _ _ (hp.keep hBq)).mono ?_
        rintro e wt ⟨st, rfl, hst, hnn⟩
        have hBt := hBq.trans (hnn.mono hBq.size)
        rw [HT.out.1, HT.out.2.1] at *
        obtain ⟨TA, tc, rfl, -, -, -, -⟩ := hst.form
        clear hnn
        go_wp2_with fail
        refine (countCirc_any z _ qt _ _ hst).mono ?_
        rintro e wu ⟨rfl, hnn⟩
        have hBu := hBt.trans (hnn.mono hBt.size)
        rw [HT.out.2.2]
        clear hnn
        go_wp2
        (go_ret; exact ⟨rfl, hBw1.trans (hBu.mono hBw1.size)⟩)
      · have hpd : decide (0 < N) = false := decide_eq_false hpos
        go_wp2_with fail
        refine (turned_any z _ ps _ _ (hp.keep hBq)).mono ?_
        rintro e wt ⟨st, rfl, hst, hnn⟩
        have hBt := hBq.trans (hnn.mono hBq.size)
        rw [HT.out.1, HT.out.2.1] at *
        obtain ⟨TA, tc, rfl, -, -, -, -⟩ := hst.form
        clear hnn
        go_wp2_with fail
        refine (countCirc_any z _ qt _ _ hst).mono ?_
        rintro e wu ⟨rfl, hnn⟩
        have hBu := hBt.trans (hnn.mono hBt.size)
        rw [HT.out.2.2]
        clear hnn
        go_wp2
        (go_ret; exact ⟨rfl, hBw1.trans (hBu.mono hBw1.size)⟩)
    · obtain ⟨qs, p, hps⟩ : ∃ qs p, qs ++ [p] = ps := ⟨ps.dropLast, ps.getLast hne, List.dropLast_concat_getLast hne⟩
      clear hne
      have hM : ps.length = qs.length + 1 := by rw [← hps]; simp
      obtain ⟨gp, rfl, hg1, hg2, -⟩ := hp.at' 0 (by omega)
      obtain ⟨gp', eg, -, -, q0, q1, q2, q3, q4⟩ := hp.cellAt hB4 qs.length (by omega)
      injection eg with eg
      injection eg with eg
      subst eg
      have hpl : ps[qs.length]'(by omega) = p := (List.getElem_of_eq hps.symm (by omega)).trans (by simp)
      rw [hpl] at q0 q1 q2 q3 q4
      have hfr : Pipes w1 w.heap.size (.slice (some ⟨gp, 0, none⟩) qs.length c1) qs := by
        have h2 := own_front (m := qs.length) hp.1 (by omega)
        have e : qs.flatMap Pp.cells = (ps.flatMap Pp.cells).take (qs.length * 5) := by
          rw [← flat_take5, ← hps]
          simp
        refine ⟨by rw [e]; exact h2, by have := hp.2; omega⟩
      have hplp := pipeOk_parts ((netOk_parts HNET.out).2.2.2 p (by rw [← hps]; simp))
      have HSUM : Hid (p.le < p.mo → countR z (qs ++ [⟨p.fr, p.to, p.le, p.le, p.co⟩]) + countR z (qs ++ [⟨p.fr, p.to, p.le + 1, p.mo, p.co⟩]) = N ∧ countR z (qs ++ [⟨p.fr, p.to, p.le, p.le, p.co⟩]) ≤ 3125 ∧ 0 ≤ countR z (qs ++ [⟨p.fr, p.to, p.le, p.le, p.co⟩])) := Lib.hid (fun hlt => by
        have hl : (qs ++ [p]).length ≤ 5 := by rw [hps]; exact hl5
        have hn : netOkB z (qs ++ [p]) = true := by rw [hps]; exact HNET.out
        have e := count_last hn hl hlt
        rw [hps, HN.out] at e
        have n1 : netOkB z (qs ++ [⟨p.fr, p.to, p.le, p.le, p.co⟩]) = true := net_last (p := p) (q := ⟨p.fr, p.to, p.le, p.le, p.co⟩) rfl rfl (Int.le_refl _) (Int.le_refl _) (Int.le_of_lt hlt) rfl hn
        have b := countR_bd n1 (by simpa using hl)
        exact ⟨e, b.2, b.1⟩)
      obtain ⟨M, hMM⟩ : ∃ M, ps.length = M := ⟨_, rfl⟩
      clear hpl
      rw [hMM] at hM hl5 hl8 hk1 hsm bx4 d1 hp
      rw [hMM]
      obtain ⟨L, hLL⟩ : ∃ L, qs.length = L := ⟨_, rfl⟩
      rw [hLL] at hM q0 q1 q2 q3 q4 hfr
      have HFR := Lib.hid hfr
      have hwr : IntKind.i64.wrap ((M : Int) - 1) = (L : Int) := by
        rw [IntWalk.i64_in _ (by omega)]
        omega
      have HLL := Lib.hid (And.intro hMM (And.intro hLL hps))
      have hLM : L < M := by omega
      have hL0 : decide ((0 : Int) ≤ (L : Int)) = true := decide_eq_true (by omega)
      have hlt5 : L ≤ 4 := by omega
      clear hM hMM hLL hps hfr
      have HP := Lib.hid hplp
      clear hplp
      by_cases hlt : p.le < p.mo
      · have hltd : decide (p.le < p.mo) = true := decide_eq_true hlt
        go_wp2_with fail
        go_quiet (fail)
        have hB5 : Below w1.heap.size w1 (w4.drewN nq) := ⟨hB4.1, hB4.2, hB4.3, hB4.4, hB4.5⟩
        have bx5 : Box2 (w4.drewN nq) w1.heap.size (.int .i64 z) (.slice (some ⟨gp, 0, none⟩) M c1) := bx4
        replace q0 : (w4.drewN nq).cell? ⟨gp, L * 5, none⟩ = some (.int .i64 p.fr) := q0
        replace q1 : (w4.drewN nq).cell? ⟨gp, L * 5 + 1, none⟩ = some (.int .i64 p.to) := q1
        replace q2 : (w4.drewN nq).cell? ⟨gp, L * 5 + 2, none⟩ = some (.int .i64 p.le) := q2
        replace q3 : (w4.drewN nq).cell? ⟨gp, L * 5 + 3, none⟩ = some (.int .i64 p.mo) := q3
        replace q4 : (w4.drewN nq).cell? ⟨gp, L * 5 + 4, none⟩ = some (.int .i64 p.co) := q4
        clear bs d0 d1 g0 g1 bx4 hB4
        generalize w4.drewN nq = w5 at *
        obtain ⟨bs, d0, d1, g0, g1⟩ := id bx5
        have px6 : Box5 (w5.alloc (.cells #[.int .i64 p.fr, .int .i64 p.to, .int .i64 p.le, .int .i64 p.mo, .int .i64 p.co] 33)) w5.heap.size p := Box5.new _ _ _ _ _ _ _ rfl
        have bx6 := bx5.keep ((Below.refl _ _).alloc (Nat.le_refl _) (.cells #[.int .i64 p.fr, .int .i64 p.to, .int .i64 p.le, .int .i64 p.mo, .int .i64 p.co] 33))
        have hB6 := hB5.alloc hB5.size (.cells #[.int .i64 p.fr, .int .i64 p.to, .int .i64 p.le, .int .i64 p.mo, .int .i64 p.co] 33)
        go_wp2_with fail
        clear bs d0 d1 g0 g1 bx5 hB5 q0 q1 q2 q3 q4
        obtain ⟨pb, hpbe⟩ : ∃ pb, w5.heap.size = pb := ⟨_, rfl⟩
        generalize hW6 : w5.alloc (.cells #[.int .i64 p.fr, .int .i64 p.to, .int .i64 p.le, .int .i64 p.mo, .int .i64 p.co] 33) = w6 at *
        rw [hpbe] at px6 ⊢
        clear hW6 hpbe
        obtain ⟨i0, hi0, hy0, hy1, hy2⟩ := info_parts pipe_info
        obtain ⟨PS1, hPS1⟩ : ∃ PS : List Pp, PS = qs ++ [⟨p.fr, p.to, p.le, p.le, p.co⟩] := ⟨_, rfl⟩
        obtain ⟨PS2, hPS2⟩ : ∃ PS : List Pp, PS = qs ++ [⟨p.fr, p.to, p.le + 1, p.mo, p.co⟩] := ⟨_, rfl⟩
        have HPS1 := Lib.hid hPS1
        have HPS2 := Lib.hid hPS2
        clear hPS1 hPS2
        obtain ⟨hnb, d0, d1, -, -⟩ := id bx6
        obtain ⟨hpb, p0, p1, p2, p3, p4, -⟩ := id px6
        have hle0 := HP.out.2.2.2.2.2.1
        have hle4 := HP.out.2.2.2.2.2.2.2.1
        refine wp_region_flow 24 none [(0, 60), (1, 61), (2, 62), (3, 63), (4, 64), (5, 65), (6, 66), (7, 67), (8, 68), (9, 69), (10, 70), (11, 71), (12, 72), (13, 73), (14, 74), (15, 75), (16, 76), (17, 77), (18, 78), (19, 79), (20, 80), (21, 81), (22, 9)]
          (caV w6.heap.size w1.heap.size pb z p.fr p.to p.le p.mo p.co L M c1 gp qs PS1 p.fr p.to p.le p.le p.co) caR (fun _ wx => Below w6.heap.size w6 wx) (by kernel_rfl) (by kernel_rfl) rfl ⟨rfl, rfl, rfl, Nat.le_refl _, fun _ _ => rfl⟩ ?_ ?_ ?_ ?_
        · clear bx6 px6 d0 d1 p0 p1 p2 p3 p4
          intro i k hi hk hal x u wx wy hR hV
          have hi' : i < 24 := hi
          have hk' : k < 24 := hk
          have h7 : i = 7 → aliveB _ 7 k = true := fun e => by rw [← e]; exact hal
          have hA : i = 20 → aliveB _ 20 k = true := fun e => by rw [← e]; exact hal
          have hS : i = 23 → aliveB _ 23 k = true := fun e => by rw [← e]; exact hal
          have hB : i ≠ 7 → i ≠ 20 → i ≠ 23 → Below wx.heap.size wx wy := fun n7 nA nS => by
            unfold caR at hR
            split at hR
            · exact absurd rfl n7
            · exact absurd rfl nA
            · exact absurd rfl nS
            · exact hR
          by_cases n7 : i = 7
          · have h7 := h7 n7
            subst n7
            obtain ⟨row, hg, hrow⟩ := hR
            rcases k with _ | _ | _ | _ | _ | _ | _ | _ | _ | _ | _ | _ | _ | _ | _ | _ | _ | _ | _ | _ | _ | _ | _ | _ | k
            all_goals first | exact hV | (exfalso; revert h7; decide) | (exfalso; omega) | skip
            · obtain ⟨g, h1, h2⟩ := hV
              refine ⟨g, h1, heap_grown h2 hg fun e => ?_⟩
              have hc := hrow g e.symm
              rw [h2] at hc
              injection hc with hc
              injection hc with hc
              exact absurd hc (by simp)
            · obtain ⟨g, y0, y1, h1, h2, h3⟩ := hV
              refine ⟨g, y0, y1, h1, h2, heap_grown h3 hg fun e => ?_⟩
              have hc := hrow g e.symm
              rw [h3] at hc
              injection hc with hc
              injection hc with hc
              exact absurd hc (by simp)
          · by_cases nA : i = 20
            · have hA := hA nA
              subst nA
              obtain ⟨row, hg, hrow⟩ := hR
              rcases k with _ | _ | _ | _ | _ | _ | _ | _ | _ | _ | _ | _ | _ | _ | _ | _ | _ | _ | _ | _ | _ | _ | _ | _ | k
              all_goals first | exact hV | (exfalso; revert hA; decide) | (exfalso; omega) | skip
              obtain ⟨g, y0, y1, h1, h2, h3⟩ := hV
              refine ⟨g, y0, y1, h1, h2, heap_grown h3 hg fun e => ?_⟩
              obtain ⟨cur, hc⟩ := hrow g e.symm
              rw [h3] at hc
              injection hc with hc
              injection hc with _ hc _
              exact absurd hc (by decide)
            · by_cases nS : i = 23
              · have hS := hS nS
                subst nS
                rcases k with _ | _ | _ | _ | _ | _ | _ | _ | _ | _ | _ | _ | _ | _ | _ | _ | _ | _ | _ | _ | _ | _ | _ | _ | k
                all_goals first | exact hV | (exfalso; revert hS; decide) | (exfalso; omega)
              · have hb := hB n7 nA nS
                rcases k with _ | _ | _ | _ | _ | _ | _ | _ | _ | _ | _ | _ | _ | _ | _ | _ | _ | _ | _ | _ | _ | _ | _ | _ | k
                all_goals first | exact hV | (exfalso; omega) | skip
                · obtain ⟨g, h1, h2, h3⟩ := hV; exact ⟨g, h1, h2, heap_keep h3 hb⟩
                · exact Pipes.keep hV hb
                · obtain ⟨g, h1, h2⟩ := hV; exact ⟨g, h1, heap_keep h2 hb⟩
                · exact Pipes.keep hV hb
                · obtain ⟨s, h1, h2⟩ := hV; exact ⟨s, h1, h2.keep hb⟩
                · obtain ⟨g, y0, y1, h1, h2, h3⟩ := hV; exact ⟨g, y0, y1, h1, h2, heap_keep h3 hb⟩
                · obtain ⟨g, s, h1, h2, h3, h4⟩ := hV; exact ⟨g, s, h1, h2, h3.keep hb, heap_keep h4 hb⟩
        · clear bx6 px6 d0 d1 p0 p1 p2 p3 p4
          intro k hk x u u' wx h hV
          have hk' : k < 24 := hk
          rcases k with _ | _ | _ | _ | _ | _ | _ | _ | _ | _ | _ | _ | _ | _ | _ | _ | _ | _ | _ | _ | _ | _ | _ | _ | k
          all_goals first | exact hV | (exfalso; omega) | skip
          obtain ⟨g, s, h1, h2⟩ := hV
          exact ⟨g, s, by rw [← h 22 (by decide)]; exact h1, h2⟩
        · simp (maxSteps := 4000000) only [eachOp, fillF, List.setIfInBounds_toArray, List.set_cons_succ, List.set_cons_zero]
          refine ⟨?_, ?_, ?_, ?_, ?_, ?_, ?_, ?_, ?_, ?_, ?_, ?_, ?_, ?_, ?_, ?_, ?_, ?_, ?_, ?_, ?_, ?_, ?_, ?_, trivial⟩ <;> intro u f wx hC hd <;> (try simp [allV, useOf, Region.binds] at hd) <;> have c0 := (bel_cell hC hnb).trans d0 <;> have c1' := (bel_cell hC hnb).trans d1 <;> have r0 := (bel_cell hC hpb).trans p0 <;> have r1 := (bel_cell hC hpb).trans p1 <;> have r2 := (bel_cell hC hpb).trans p2 <;> have r3 := (bel_cell hC hpb).trans p3 <;> have r4 := (bel_cell hC hpb).trans p4
          · go_wp2
            exact ⟨_, rfl, rfl, Below.refl _ _, hC⟩
          · rw [show u 0 = _ from hd]
            go_wp2
            exact ⟨_, rfl, rfl, Below.refl _ _, hC⟩
          · go_wp2
            exact ⟨_, rfl, ⟨_, rfl, hC.size, heap_alloc_new _ _⟩, (Below.refl _ _).alloc (Nat.le_refl _) _, hC.alloc hC.size _⟩
          · go_wp2
            exact ⟨_, rfl, rfl, Below.refl _ _, hC⟩
          · rw [show u 3 = _ from hd]
            go_wp2
            exact ⟨_, rfl, rfl, Below.refl _ _, hC⟩
          · go_wp2
            exact ⟨_, rfl, rfl, Below.refl _ _, hC⟩
          · have h4 : u 4 = .slice (some ⟨gp, 0, none⟩) M c1 := by first | exact hd.1 | exact hd.2
            have h5 : u 5 = .int .i64 L := by first | exact hd.2 | exact hd.1
            rw [h4, h5]
            have hLc : (L : Int) ≤ (c1 : Int) := by omega
            go_wp2
            exact ⟨_, rfl, rfl, Below.refl _ _, hC⟩
          · obtain ⟨g, h2, hg, hh⟩ : ∃ g, u 2 = .slice (some ⟨g, 0, none⟩) 0 0 ∧ w6.heap.size ≤ g ∧ wx.heap[g]? = some (.cells #[] 33) := by first | exact hd.1 | exact hd.2
            have h6 : u 6 = .slice (some ⟨gp, 0, none⟩) L c1 := by first | exact hd.2 | exact hd.1
            have hq4 : qs.length ≤ 4 := by rw [HLL.out.2.1]; exact hlt5
            have hown : wx.ownsRow w6.heap.size 33 5 (u 2) 0 [] := by rw [h2]; exact ⟨rfl, .inr ⟨g, 0, #[], rfl, hg, hh, Nat.le_refl _, Nat.zero_le _, rfl, rfl⟩⟩
            have hsrc : SrcOk wx 5 (u 6) qs.length (qs.flatMap Pp.cells) := by rw [h6]; exact (HFR.out.keep (hB6.trans (hC.mono hB6.size))).src
            refine wpList_append_src rfl (.tmp 62) (.tmp 66) 23 rfl w6.heap.size 33 i0 _ 5 40 Try.underlying23 hi0 hy0 hy1 hy2 rfl (by omega) (u 2) (u 6) 0 qs.length [] _ rfl rfl hown hsrc (by unfold maxLen; omega) (by omega) hC.size ?_
            intro r w7 hown7 hg7 hat7
            rw [Nat.zero_add, List.nil_append] at hown7
            refine wpList_nil ⟨r, rfl, ⟨hown7, by unfold small; omega⟩, ⟨_, hg7, fun q hq => ?_⟩, Below.grown hC hg7 hC.size (fun q hq => ?_)⟩
            · rw [h2] at hq
              have hq : g = q := by injection hq
              subst hq
              exact hh
            · rw [h2] at hq
              have hq : g = q := by injection hq
              subst hq
              exact hg
          · go_wp2
            exact ⟨_, rfl, rfl, Below.refl _ _, hC⟩
          · rw [show u 8 = _ from hd]
            go_wp2
            exact ⟨_, rfl, rfl, Below.refl _ _, hC⟩
          · go_wp2
            exact ⟨_, rfl, rfl, Below.refl _ _, hC⟩
          · rw [show u 10 = _ from hd]
            go_wp2
            exact ⟨_, rfl, rfl, Below.refl _ _, hC⟩
          · go_wp2
            exact ⟨_, rfl, rfl, Below.refl _ _, hC⟩
          · rw [show u 12 = _ from hd]
            go_wp2
            exact ⟨_, rfl, rfl, Below.refl _ _, hC⟩
          · go_wp2
            exact ⟨_, rfl, rfl, Below.refl _ _, hC⟩
          · rw [show u 14 = _ from hd]
            go_wp2
            exact ⟨_, rfl, rfl, Below.refl _ _, hC⟩
          · go_wp2
            exact ⟨_, rfl, rfl, Below.refl _ _, hC⟩
          · rw [show u 16 = _ from hd]
            go_wp2
            exact ⟨_, rfl, rfl, Below.refl _ _, hC⟩
          · obtain ⟨k0, k1, k2, k3, k4⟩ := hd
            rw [show u 9 = _ from k0, show u 11 = _ from k1, show u 13 = _ from k2, show u 15 = _ from k3, show u 17 = _ from k4]
            go_wp2
            exact ⟨_, rfl, rfl, Below.refl _ _, hC⟩
          · rw [show u 18 = _ from hd]
            go_wp2
            exact ⟨_, rfl, ⟨_, rfl, heap_alloc_new _ _⟩, (Below.refl _ _).alloc (Nat.le_refl _) _, hC.alloc hC.size _⟩
          · have h7 : Pipes wx w6.heap.size (u 7) qs := by first | exact hd.1 | exact hd.2
            obtain ⟨g, h6, hh6⟩ : ∃ g, u 19 = .slice (some ⟨g, 0, none⟩) 1 1 ∧ wx.heap[g]? = some (.cells #[.int .i64 p.fr, .int .i64 p.to, .int .i64 p.le, .int .i64 p.le, .int .i64 p.co] 33) := by first | exact hd.2 | exact hd.1
            have hq4 : qs.length ≤ 4 := by rw [HLL.out.2.1]; exact hlt5
            refine wpList_append_src rfl (.tmp 67) (.tmp 79) 23 rfl w6.heap.size 33 i0 _ 5 40 Try.underlying23 hi0 hy0 hy1 hy2 rfl (by omega) (u 7) (u 19) qs.length 1 _ _ rfl rfl h7.1 (by rw [h6]; exact lit_src hh6 rfl (by simp [Value.oneCell'])) (by unfold maxLen; omega) (by omega) hC.size ?_
            intro r w7 hown7 hg7 hat7
            refine wpList_nil ⟨r, rfl, (by rw [HPS1.out]; exact pipes_snoc hown7 (by unfold small; omega)), ⟨_, hg7, fun q hq => ?_⟩, Below.grown hC hg7 hC.size (fun q hq => (h7.1.lt q hq).1)⟩
            rcases h7.1.2 with ⟨e, -⟩ | ⟨g1, c1, cur1, e, -, hh1, -⟩
            · rw [e] at hq; cases hq
            · rw [e] at hq
              have hq : g1 = q := by injection hq
              subst hq
              exact ⟨_, hh1⟩
          · have h1 : u 1 = .int .i64 z := by first | exact hd.1 | exact hd.2
            have h7 : Pipes wx w6.heap.size (u 20) PS1 := by first | exact hd.2 | exact hd.1
            obtain ⟨A7, c7, e7, -⟩ := h7.form
            rw [h1, e7]
            rw [e7] at h7
            go_wp2
            exact ⟨_, rfl, ⟨_, rfl, h7⟩, Below.refl _ _, hC⟩
          · go_wp2
            exact ⟨_, rfl, ⟨_, _, _, rfl, hC.size, heap_alloc_new _ _⟩, (Below.refl _ _).alloc (Nat.le_refl _) _, hC.alloc hC.size _⟩
          · obtain ⟨g, y0, y1, h9, hg9, hh9⟩ : ∃ g y0 y1, u 22 = .pointer (some ⟨g, 0, none⟩) ∧ w6.heap.size ≤ g ∧ wx.heap[g]? = some (.cells #[y0, y1] 25) := by first | exact hd.1 | exact hd.2
            obtain ⟨s, h8, hs8⟩ : ∃ s, u 21 = .agg #[.int .i64 z, s] ∧ Pipes wx w6.heap.size s PS1 := by first | exact hd.2 | exact hd.1
            obtain ⟨A8, c8, rfl, -⟩ := hs8.form
            have e0 := heap_cell (j := 0) hh9 rfl
            have e1 := heap_cell (j := 1) hh9 rfl
            have f0 := heap_frozen (j := 0) hh9
            have f1 := heap_frozen (j := 1) hh9
            have hgl := heap_lt hh9
            rw [h8, h9]
            have hR : caR 23 wx ((wx.setCell ⟨g, 0, none⟩ (.int .i64 z)).setCell ⟨g, 1, none⟩ (.slice A8 PS1.length c8)) := trivial
            have hg1 := grown_set wx g 0 (.int .i64 z)
            have hg2 := grown_set (wx.setCell ⟨g, 0, none⟩ (.int .i64 z)) g 1 (.slice A8 PS1.length c8)
            have hh1 := heap_set (j := 0) (.int .i64 z) hh9
            have hh2 := heap_set (j := 1) (.slice A8 PS1.length c8) hh1
            have hp1 : Pipes _ _ _ _ := ⟨own_type hs8.1 hg1 hh9 (by decide), hs8.2⟩
            have hp2 : Pipes _ _ _ _ := ⟨own_type hp1.1 hg2 hh1 (by decide), hs8.2⟩
            have hF := Lib.hid (And.intro hg1 (And.intro hg2 (And.intro hh2 hp2)))
            clear hg1 hg2 hh1 hh2 hp1 hp2 hs8
            go_wp2_with fail
            exact ⟨undef, rfl, ⟨g, _, h9, hg9, hF.out.2.2.2, hF.out.2.2.1⟩, hR, (by (repeat (first | (with_reducible assumption) | (with_reducible exact Below.refl _ _) | ((with_reducible refine Below.alloc ?_ ?hsz _); (case hsz => (first | omega | (simp; done) | (simp; omega) | (simp at *; omega)))) | ((with_reducible refine Below.setCell ?_ ?hsz _); (case hsz => (first | omega | (simp; done) | (simp; omega) | (simp at *; omega)))) | (with_reducible refine Below.drew ?_) | (with_reducible refine below_drewN ?_ _) | ((with_reducible refine Below.trans ?_ (Below.mono (by with_reducible assumption) ?hsz)); (case hsz => (first | omega | (simp; done) | (simp; omega) | (simp at *; omega)))))) : Below w6.heap.size w6 _)⟩
        · intro u f w7 hC hfin
          obtain ⟨g9, s9, h9, hg9, hs9, hh9⟩ : ∃ g s, u 22 = .pointer (some ⟨g, 0, none⟩) ∧ w6.heap.size ≤ g ∧ Pipes w7 w6.heap.size s PS1 ∧ w7.heap[g]? = some (.cells #[.int .i64 z, s] 25) := hfin 23 (by decide) (by decide)
          simp only [fillEnd, fillF, Act.put, List.setIfInBounds_toArray, List.set_cons_succ, List.set_cons_zero]
          obtain ⟨A9, c9, rfl, -⟩ := hs9.form
          have by7 : Box2 w7 g9 (.int .i64 z) (.slice A9 PS1.length c9) := ⟨heap_lt hh9, heap_cell (j := 0) hh9 rfl, heap_cell (j := 1) hh9 rfl, heap_frozen (j := 0) hh9, heap_frozen (j := 1) hh9⟩
          have bx7 := bx6.keep hC
          have px7 := px6.grown (grow_below (grow_refl _ none) hC) (by simp)
          have hB7 := hB6.trans (hC.mono hB6.size)
          rw [h9]
          clear hfin h9 hh9 hC hnb d0 d1 hpb p0 p1 p2 p3 p4 bx6 px6 hB6
          obtain ⟨hnb, d0, d1, -, -⟩ := id bx7
          obtain ⟨hpb, p0, p1, p2, p3, p4, -⟩ := id px7
          go_wp2_with fail
          refine wp_region_flow 25 none [(0, 82), (1, 83), (2, 84), (3, 85), (4, 86), (5, 87), (6, 88), (7, 89), (8, 90), (9, 91), (10, 92), (11, 93), (12, 94), (13, 95), (14, 96), (15, 97), (16, 98), (17, 99), (18, 100), (19, 101), (20, 102), (21, 103), (22, 104), (23, 10)]
            (cbV w7.heap.size w1.heap.size pb z p.fr p.to p.le p.mo p.co L M c1 gp qs PS2 p.fr p.to (p.le + 1) p.mo p.co) cbR (fun _ wx => Below w7.heap.size w7 wx) (by kernel_rfl) (by kernel_rfl) rfl ⟨rfl, rfl, rfl, Nat.le_refl _, fun _ _ => rfl⟩ ?_ ?_ ?_ ?_
          · clear bx7 px7 d0 d1 p0 p1 p2 p3 p4
            intro i k hi hk hal x u wx wy hR hV
            have hi' : i < 25 := hi
            have hk' : k < 25 := hk
            have h7 : i = 7 → aliveB _ 7 k = true := fun e => by rw [← e]; exact hal
            have hA : i = 21 → aliveB _ 21 k = true := fun e => by rw [← e]; exact hal
            have hS : i = 24 → aliveB _ 24 k = true := fun e => by rw [← e]; exact hal
            have hB : i ≠ 7 → i ≠ 21 → i ≠ 24 → Below wx.heap.size wx wy := fun n7 nA nS => by
              unfold cbR at hR
              split at hR
              · exact absurd rfl n7
              · exact absurd rfl nA
              · exact absurd rfl nS
              · exact hR
            by_cases n7 : i = 7
            · have h7 := h7 n7
              subst n7
              obtain ⟨row, hg, hrow⟩ := hR
              rcases k with _ | _ | _ | _ | _ | _ | _ | _ | _ | _ | _ | _ | _ | _ | _ | _ | _ | _ | _ | _ | _ | _ | _ | _ | _ | k
              all_goals first | exact hV | (exfalso; revert h7; decide) | (exfalso; omega) | skip
              · obtain ⟨g, h1, h2⟩ := hV
                refine ⟨g, h1, heap_grown h2 hg fun e => ?_⟩
                have hc := hrow g e.symm
                rw [h2] at hc
                injection hc with hc
                injection hc with hc
                exact absurd hc (by simp)
              · obtain ⟨g, y0, y1, h1, h2, h3⟩ := hV
                refine ⟨g, y0, y1, h1, h2, heap_grown h3 hg fun e => ?_⟩
                have hc := hrow g e.symm
                rw [h3] at hc
                injection hc with hc
                injection hc with hc
                exact absurd hc (by simp)
            · by_cases nA : i = 21
              · have hA := hA nA
                subst nA
                obtain ⟨row, hg, hrow⟩ := hR
                rcases k with _ | _ | _ | _ | _ | _ | _ | _ | _ | _ | _ | _ | _ | _ | _ | _ | _ | _ | _ | _ | _ | _ | _ | _ | _ | k
                all_goals first | exact hV | (exfalso; revert hA; decide) | (exfalso; omega) | skip
                obtain ⟨g, y0, y1, h1, h2, h3⟩ := hV
                refine ⟨g, y0, y1, h1, h2, heap_grown h3 hg fun e => ?_⟩
                obtain ⟨cur, hc⟩ := hrow g e.symm
                rw [h3] at hc
                injection hc with hc
                injection hc with _ hc _
                exact absurd hc (by decide)
              · by_cases nS : i = 24
                · have hS := hS nS
                  subst nS
                  rcases k with _ | _ | _ | _ | _ | _ | _ | _ | _ | _ | _ | _ | _ | _ | _ | _ | _ | _ | _ | _ | _ | _ | _ | _ | _ | k
                  all_goals first | exact hV | (exfalso; revert hS; decide) | (exfalso; omega)
                · have hb := hB n7 nA nS
                  rcases k with _ | _ | _ | _ | _ | _ | _ | _ | _ | _ | _ | _ | _ | _ | _ | _ | _ | _ | _ | _ | _ | _ | _ | _ | _ | k
                  all_goals first | exact hV | (exfalso; omega) | skip
                  · obtain ⟨g, h1, h2, h3⟩ := hV; exact ⟨g, h1, h2, heap_keep h3 hb⟩
                  · exact Pipes.keep hV hb
                  · obtain ⟨g, h1, h2⟩ := hV; exact ⟨g, h1, heap_keep h2 hb⟩
                  · exact Pipes.keep hV hb
                  · obtain ⟨s, h1, h2⟩ := hV; exact ⟨s, h1, h2.keep hb⟩
                  · obtain ⟨g, y0, y1, h1, h2, h3⟩ := hV; exact ⟨g, y0, y1, h1, h2, heap_keep h3 hb⟩
                  · obtain ⟨g, s, h1, h2, h3, h4⟩ := hV; exact ⟨g, s, h1, h2, h3.keep hb, heap_keep h4 hb⟩
          · clear bx7 px7 d0 d1 p0 p1 p2 p3 p4
            intro k hk x u u' wx h hV
            have hk' : k < 25 := hk
            rcases k with _ | _ | _ | _ | _ | _ | _ | _ | _ | _ | _ | _ | _ | _ | _ | _ | _ | _ | _ | _ | _ | _ | _ | _ | _ | k
            all_goals first | exact hV | (exfalso; omega) | skip
            obtain ⟨g, s, h1, h2⟩ := hV
            exact ⟨g, s, by rw [← h 23 (by decide)]; exact h1, h2⟩
          · simp (maxSteps := 4000000) only [eachOp, fillF, List.setIfInBounds_toArray, List.set_cons_succ, List.set_cons_zero]
            refine ⟨?_, ?_, ?_, ?_, ?_, ?_, ?_, ?_, ?_, ?_, ?_, ?_, ?_, ?_, ?_, ?_, ?_, ?_, ?_, ?_, ?_, ?_, ?_, ?_, ?_, trivial⟩ <;> intro u f wx hC hd <;> (try simp [allV, useOf, Region.binds] at hd) <;> have c0 := (bel_cell hC hnb).trans d0 <;> have c1' := (bel_cell hC hnb).trans d1 <;> have r0 := (bel_cell hC hpb).trans p0 <;> have r1 := (bel_cell hC hpb).trans p1 <;> have r2 := (bel_cell hC hpb).trans p2 <;> have r3 := (bel_cell hC hpb).trans p3 <;> have r4 := (bel_cell hC hpb).trans p4
            · go_wp2
              exact ⟨_, rfl, rfl, Below.refl _ _, hC⟩
            · rw [show u 0 = _ from hd]
              go_wp2
              exact ⟨_, rfl, rfl, Below.refl _ _, hC⟩
            · go_wp2
              exact ⟨_, rfl, ⟨_, rfl, hC.size, heap_alloc_new _ _⟩, (Below.refl _ _).alloc (Nat.le_refl _) _, hC.alloc hC.size _⟩
            · go_wp2
              exact ⟨_, rfl, rfl, Below.refl _ _, hC⟩
            · rw [show u 3 = _ from hd]
              go_wp2
              exact ⟨_, rfl, rfl, Below.refl _ _, hC⟩
            · go_wp2
              exact ⟨_, rfl, rfl, Below.refl _ _, hC⟩
            · have h4 : u 4 = .slice (some ⟨gp, 0, none⟩) M c1 := by first | exact hd.1 | exact hd.2
              have h5 : u 5 = .int .i64 L := by first | exact hd.2 | exact hd.1
              rw [h4, h5]
              have hLc : (L : Int) ≤ (c1 : Int) := by omega
              go_wp2
              exact ⟨_, rfl, rfl, Below.refl _ _, hC⟩
            · obtain ⟨g, h2, hg, hh⟩ : ∃ g, u 2 = .slice (some ⟨g, 0, none⟩) 0 0 ∧ w7.heap.size ≤ g ∧ wx.heap[g]? = some (.cells #[] 33) := by first | exact hd.1 | exact hd.2
              have h6 : u 6 = .slice (some ⟨gp, 0, none⟩) L c1 := by first | exact hd.2 | exact hd.1
              have hq4 : qs.length ≤ 4 := by rw [HLL.out.2.1]; exact hlt5
              have hown : wx.ownsRow w7.heap.size 33 5 (u 2) 0 [] := by rw [h2]; exact ⟨rfl, .inr ⟨g, 0, #[], rfl, hg, hh, Nat.le_refl _, Nat.zero_le _, rfl, rfl⟩⟩
              have hsrc : SrcOk wx 5 (u 6) qs.length (qs.flatMap Pp.cells) := by rw [h6]; exact (HFR.out.keep (hB7.trans (hC.mono hB7.size))).src
              refine wpList_append_src rfl (.tmp 84) (.tmp 88) 23 rfl w7.heap.size 33 i0 _ 5 40 Try.underlying23 hi0 hy0 hy1 hy2 rfl (by omega) (u 2) (u 6) 0 qs.length [] _ rfl rfl hown hsrc (by unfold maxLen; omega) (by omega) hC.size ?_
              intro r w7 hown7 hg7 hat7
              rw [Nat.zero_add, List.nil_append] at hown7
              refine wpList_nil ⟨r, rfl, ⟨hown7, by unfold small; omega⟩, ⟨_, hg7, fun q hq => ?_⟩, Below.grown hC hg7 hC.size (fun q hq => ?_)⟩
              · rw [h2] at hq
                have hq : g = q := by injection hq
                subst hq
                exact hh
              · rw [h2] at hq
                have hq : g = q := by injection hq
                subst hq
                exact hg
            · go_wp2
              exact ⟨_, rfl, rfl, Below.refl _ _, hC⟩
            · rw [show u 8 = _ from hd]
              go_wp2
              exact ⟨_, rfl, rfl, Below.refl _ _, hC⟩
            · go_wp2
              exact ⟨_, rfl, rfl, Below.refl _ _, hC⟩
            · rw [show u 10 = _ from hd]
              go_wp2
              exact ⟨_, rfl, rfl, Below.refl _ _, hC⟩
            · go_wp2
              exact ⟨_, rfl, rfl, Below.refl _ _, hC⟩
            · rw [show u 12 = _ from hd]
              go_wp2
              exact ⟨_, rfl, rfl, Below.refl _ _, hC⟩
            · rw [show u 13 = _ from hd]
              have hw : IntKind.i64.wrap (p.le + 1) = p.le + 1 := IntWalk.i64_in _ (by omega)
              have hw' : wrap64 (p.le + 1) = p.le + 1 := IntWalk.wrap64_in _ (by omega)
              go_wp2
              exact ⟨_, rfl, rfl, Below.refl _ _, hC⟩
            · go_wp2
              exact ⟨_, rfl, rfl, Below.refl _ _, hC⟩
            · rw [show u 15 = _ from hd]
              go_wp2
              exact ⟨_, rfl, rfl, Below.refl _ _, hC⟩
            · go_wp2
              exact ⟨_, rfl, rfl, Below.refl _ _, hC⟩
            · rw [show u 17 = _ from hd]
              go_wp2
              exact ⟨_, rfl, rfl, Below.refl _ _, hC⟩
            · obtain ⟨k0, k1, k2, k3, k4⟩ := hd
              rw [show u 9 = _ from k0, show u 11 = _ from k1, show u 14 = _ from k2, show u 16 = _ from k3, show u 18 = _ from k4]
              go_wp2
              exact ⟨_, rfl, rfl, Below.refl _ _, hC⟩
            · rw [show u 19 = _ from hd]
              go_wp2
              exact ⟨_, rfl, ⟨_, rfl, heap_alloc_new _ _⟩, (Below.refl _ _).alloc (Nat.le_refl _) _, hC.alloc hC.size _⟩
            · have h7 : Pipes wx w7.heap.size (u 7) qs := by first | exact hd.1 | exact hd.2
              obtain ⟨g, h6, hh6⟩ : ∃ g, u 20 = .slice (some ⟨g, 0, none⟩) 1 1 ∧ wx.heap[g]? = some (.cells #[.int .i64 p.fr, .int .i64 p.to, .int .i64 (p.le + 1), .int .i64 p.mo, .int .i64 p.co] 33) := by first | exact hd.2 | exact hd.1
              have hq4 : qs.length ≤ 4 := by rw [HLL.out.2.1]; exact hlt5
              refine wpList_append_src rfl (.tmp 89) (.tmp 102) 23 rfl w7.heap.size 33 i0 _ 5 40 Try.underlying23 hi0 hy0 hy1 hy2 rfl (by omega) (u 7) (u 20) qs.length 1 _ _ rfl rfl h7.1 (by rw [h6]; exact lit_src hh6 rfl (by simp [Value.oneCell'])) (by unfold maxLen; omega) (by omega) hC.size ?_
              intro r w7 hown7 hg7 hat7
              refine wpList_nil ⟨r, rfl, (by rw [HPS2.out]; exact pipes_snoc hown7 (by unfold small; omega)), ⟨_, hg7, fun q hq => ?_⟩, Below.grown hC hg7 hC.size (fun q hq => (h7.1.lt q hq).1)⟩
              rcases h7.1.2 with ⟨e, -⟩ | ⟨g1, c1, cur1, e, -, hh1, -⟩
              · rw [e] at hq; cases hq
              · rw [e] at hq
                have hq : g1 = q := by injection hq
                subst hq
                exact ⟨_, hh1⟩
            · have h1 : u 1 = .int .i64 z := by first | exact hd.1 | exact hd.2
              have h7 : Pipes wx w7.heap.size (u 21) PS2 := by first | exact hd.2 | exact hd.1
              obtain ⟨A7, c7, e7, -⟩ := h7.form
              rw [h1, e7]
              rw [e7] at h7
              go_wp2
              exact ⟨_, rfl, ⟨_, rfl, h7⟩, Below.refl _ _, hC⟩
            · go_wp2
              exact ⟨_, rfl, ⟨_, _, _, rfl, hC.size, heap_alloc_new _ _⟩, (Below.refl _ _).alloc (Nat.le_refl _) _, hC.alloc hC.size _⟩
            · obtain ⟨g, y0, y1, h9, hg9, hh9⟩ : ∃ g y0 y1, u 23 = .pointer (some ⟨g, 0, none⟩) ∧ w7.heap.size ≤ g ∧ wx.heap[g]? = some (.cells #[y0, y1] 25) := by first | exact hd.1 | exact hd.2
              obtain ⟨s, h8, hs8⟩ : ∃ s, u 22 = .agg #[.int .i64 z, s] ∧ Pipes wx w7.heap.size s PS2 := by first | exact hd.2 | exact hd.1
              obtain ⟨A8, c8, rfl, -⟩ := hs8.form
              have e0 := heap_cell (j := 0) hh9 rfl
              have e1 := heap_cell (j := 1) hh9 rfl
              have f0 := heap_frozen (j := 0) hh9
              have f1 := heap_frozen (j := 1) hh9
              have hgl := heap_lt hh9
              rw [h8, h9]
              have hR : cbR 24 wx ((wx.setCell ⟨g, 0, none⟩ (.int .i64 z)).setCell ⟨g, 1, none⟩ (.slice A8 PS2.length c8)) := trivial
              have hg1 := grown_set wx g 0 (.int .i64 z)
              have hg2 := grown_set (wx.setCell ⟨g, 0, none⟩ (.int .i64 z)) g 1 (.slice A8 PS2.length c8)
              have hh1 := heap_set (j := 0) (.int .i64 z) hh9
              have hh2 := heap_set (j := 1) (.slice A8 PS2.length c8) hh1
              have hp1 : Pipes _ _ _ _ := ⟨own_type hs8.1 hg1 hh9 (by decide), hs8.2⟩
              have hp2 : Pipes _ _ _ _ := ⟨own_type hp1.1 hg2 hh1 (by decide), hs8.2⟩
              have hF := Lib.hid (And.intro hg1 (And.intro hg2 (And.intro hh2 hp2)))
              clear hg1 hg2 hh1 hh2 hp1 hp2 hs8
              go_wp2_with fail
              exact ⟨undef, rfl, ⟨g, _, h9, hg9, hF.out.2.2.2, hF.out.2.2.1⟩, hR, (by (repeat (first | (with_reducible assumption) | (with_reducible exact Below.refl _ _) | ((with_reducible refine Below.alloc ?_ ?hsz _); (case hsz => (first | omega | (simp; done) | (simp; omega) | (simp at *; omega)))) | ((with_reducible refine Below.setCell ?_ ?hsz _); (case hsz => (first | omega | (simp; done) | (simp; omega) | (simp at *; omega)))) | (with_reducible refine Below.drew ?_) | (with_reducible refine below_drewN ?_ _) | ((with_reducible refine Below.trans ?_ (Below.mono (by with_reducible assumption) ?hsz)); (case hsz => (first | omega | (simp; done) | (simp; omega) | (simp at *; omega)))))) : Below w7.heap.size w7 _)⟩
          · intro u f w8 hC hfin
            obtain ⟨gt, st, h9, hg9, hst, hh9⟩ : ∃ g s, u 23 = .pointer (some ⟨g, 0, none⟩) ∧ w7.heap.size ≤ g ∧ Pipes w8 w7.heap.size s PS2 ∧ w8.heap[g]? = some (.cells #[.int .i64 z, s] 25) := hfin 24 (by decide) (by decide)
            simp only [fillEnd, fillF, Act.put, List.setIfInBounds_toArray, List.set_cons_succ, List.set_cons_zero]
            obtain ⟨At, ct, rfl, -⟩ := hst.form
            have bz8 : Box2 w8 gt (.int .i64 z) (.slice At PS2.length ct) := ⟨heap_lt hh9, heap_cell (j := 0) hh9 rfl, heap_cell (j := 1) hh9 rfl, heap_frozen (j := 0) hh9, heap_frozen (j := 1) hh9⟩
            have by8 := by7.keep hC
            have hs8 := hs9.keep hC
            have bx8 := bx7.keep hC
            have hB8 := hB7.trans (hC.mono hB7.size)
            rw [h9]
            clear hfin h9 hh9 hC hnb d0 d1 hpb p0 p1 p2 p3 p4 bx7 px7 by7 hs9 hB7 hg9
            obtain ⟨a1, HA1⟩ : ∃ a, Hid (countR z PS1 = a) := ⟨_, Lib.hid rfl⟩
            obtain ⟨a2, HA2⟩ : ∃ a, Hid (countR z PS2 = a) := ⟨_, Lib.hid rfl⟩
            have hsum := HSUM.out hlt
            rw [← HPS1.out, ← HPS2.out, HA1.out, HA2.out] at hsum
            have hw : IntKind.i64.wrap (a1 + a2) = N := by rw [hsum.1]; exact IntWalk.i64_in _ (by omega)
            have hw' : wrap64 (a1 + a2) = N := by rw [hsum.1]; exact IntWalk.wrap64_in _ (by omega)
            have HW := Lib.hid (And.intro hw hw')
            clear hw hw' hsum
            obtain ⟨e8, e0, e1, -, -⟩ := id by8
            obtain ⟨f8, f0, f1, -, -⟩ := id bz8
            go_wp2_with fail
            refine wp_region_flow 7 none [(0, 105), (1, 106), (2, 107), (3, 108), (4, 109), (5, 110), (6, 111)]
              (fun j x _ _ => ccV (.agg #[.int .i64 z, .slice A9 PS1.length c9]) (.agg #[.int .i64 z, .slice At PS2.length ct]) a1 a2 N j x) (fun _ _ _ => True) (fun _ wx => Below w8.heap.size w8 wx) (by kernel_rfl) (by kernel_rfl) rfl ⟨rfl, rfl, rfl, Nat.le_refl _, fun _ _ => rfl⟩ ?_ ?_ ?_ ?_
            · exact fun _ _ _ _ _ _ _ _ _ _ h => h
            · exact fun _ _ _ _ _ _ _ h => h
            · simp (maxSteps := 4000000) only [eachOp, fillF, List.setIfInBounds_toArray, List.set_cons_succ, List.set_cons_zero]
              refine ⟨?_, ?_, ?_, ?_, ?_, ?_, ?_, trivial⟩ <;> intro u f wx hC hd <;> (try simp [allV, useOf, Region.binds] at hd) <;> have x0 := (bel_cell hC e8).trans e0 <;> have x1 := (bel_cell hC e8).trans e1 <;> have y0 := (bel_cell hC f8).trans f0 <;> have y1 := (bel_cell hC f8).trans f1
              · go_wp2
                exact ⟨_, rfl, rfl, trivial, hC⟩
              · rw [show u 0 = _ from hd]
                go_wp2_with fail
                refine (countCirc_any z _ PS1 _ _ (hs8.keep hC)).mono ?_
                rintro e wy ⟨rfl, hb⟩
                rw [HA1.out]
                go_wp2
                exact ⟨_, rfl, rfl, trivial, hC.trans (hb.mono hC.size)⟩
              · go_wp2
                exact ⟨_, rfl, rfl, trivial, hC⟩
              · rw [show u 2 = _ from hd]
                go_wp2_with fail
                refine (countCirc_any z _ PS2 _ _ (hst.keep hC)).mono ?_
                rintro e wy ⟨rfl, hb⟩
                rw [HA2.out]
                go_wp2
                exact ⟨_, rfl, rfl, trivial, hC.trans (hb.mono hC.size)⟩
              · have h1 : u 1 = .int .i64 a1 := by first | exact hd.1 | exact hd.2
                have h3 : u 3 = .int .i64 a2 := by first | exact hd.2 | exact hd.1
                rw [h1, h3]
                obtain ⟨hw, hw'⟩ := id HW.out
                go_wp2
                exact ⟨_, rfl, rfl, trivial, hC⟩
              · go_wp2
                exact ⟨_, rfl, rfl, trivial, hC⟩
              · have h4 : u 4 = .int .i64 N := by first | exact hd.1 | exact hd.2
                have h5 : u 5 = .int .i64 N := by first | exact hd.2 | exact hd.1
                rw [h4, h5]
                go_wp2
                exact ⟨_, rfl, by simp [ccV], trivial, hC⟩
            · intro u f w9 hC hfin
              have h6 : u 6 = .bool false := hfin 6 (by decide) (by decide)
              simp only [fillEnd, fillF, Act.put, List.setIfInBounds_toArray, List.set_cons_succ, List.set_cons_zero]
              rw [h6]
              have bx9 := bx8.keep hC
              have hB9 := hB8.trans (hC.mono hB8.size)
              clear hfin h6 hC e8 e0 e1 f8 f0 f1 by8 bz8 hs8 hst bx8 hB8
              obtain ⟨bs, d0, d1, g0, g1⟩ := id bx9
              by_cases hpos : 0 < N
              · have hpd : decide (0 < N) = true := decide_eq_true hpos
                go_wp2_with fail
                refine (turned_any z _ ps _ _ (hp.keep hB9)).mono ?_
                rintro e wt ⟨st, rfl, hst, hnn⟩
                have hBt := hB9.trans (hnn.mono hB9.size)
                rw [HT.out.1, HT.out.2.1] at *
                obtain ⟨TA, tc, rfl, -, -, -, -⟩ := hst.form
                clear hnn
                go_wp2_with fail
                refine (countCirc_any z _ qt _ _ hst).mono ?_
                rintro e wu ⟨rfl, hnn⟩
                have hBu := hBt.trans (hnn.mono hBt.size)
                rw [HT.out.2.2]
                clear hnn
                go_wp2
                (go_ret; exact ⟨rfl, hBw1.trans (hBu.mono hBw1.size)⟩)
              · have hpd : decide (0 < N) = false := decide_eq_false hpos
                go_wp2_with fail
                refine (turned_any z _ ps _ _ (hp.keep hB9)).mono ?_
                rintro e wt ⟨st, rfl, hst, hnn⟩
                have hBt := hB9.trans (hnn.mono hB9.size)
                rw [HT.out.1, HT.out.2.1] at *
                obtain ⟨TA, tc, rfl, -, -, -, -⟩ := hst.form
                clear hnn
                go_wp2_with fail
                refine (countCirc_any z _ qt _ _ hst).mono ?_
                rintro e wu ⟨rfl, hnn⟩
                have hBu := hBt.trans (hnn.mono hBt.size)
                rw [HT.out.2.2]
                clear hnn
                go_wp2
                (go_ret; exact ⟨rfl, hBw1.trans (hBu.mono hBw1.size)⟩)
      · have hltd : decide (p.le < p.mo) = false := decide_eq_false hlt
        go_wp2_with fail
        go_quiet (fail)
        have hBq : Below w1.heap.size w1 (w4.drewN nq) := ⟨hB4.1, hB4.2, hB4.3, hB4.4, hB4.5⟩
        by_cases hpos : 0 < N
        · have hpd : decide (0 < N) = true := decide_eq_true hpos
          go_wp2_with fail
          refine (turned_any z _ ps _ _ (hp.keep hBq)).mono ?_
          rintro e wt ⟨st, rfl, hst, hnn⟩
          have hBt := hBq.trans (hnn.mono hBq.size)
          rw [HT.out.1, HT.out.2.1] at *
          obtain ⟨TA, tc, rfl, -, -, -, -⟩ := hst.form
          clear hnn
          go_wp2_with fail
          refine (countCirc_any z _ qt _ _ hst).mono ?_
          rintro e wu ⟨rfl, hnn⟩
          have hBu := hBt.trans (hnn.mono hBt.size)
          rw [HT.out.2.2]
          clear hnn
          go_wp2
          (go_ret; exact ⟨rfl, hBw1.trans (hBu.mono hBw1.size)⟩)
        · have hpd : decide (0 < N) = false := decide_eq_false hpos
          go_wp2_with fail
          refine (turned_any z _ ps _ _ (hp.keep hBq)).mono ?_
          rintro e wt ⟨st, rfl, hst, hnn⟩
          have hBt := hBq.trans (hnn.mono hBq.size)
          rw [HT.out.1, HT.out.2.1] at *
          obtain ⟨TA, tc, rfl, -, -, -, -⟩ := hst.form
          clear hnn
          go_wp2_with fail
          refine (countCirc_any z _ qt _ _ hst).mono ?_
          rintro e wu ⟨rfl, hnn⟩
          have hBu := hBt.trans (hnn.mono hBt.size)
          rw [HT.out.2.2]
          clear hnn
          go_wp2
          (go_ret; exact ⟨rfl, hBw1.trans (hBu.mono hBw1.size)⟩)
  · have hNm : N = -1 := by rw [← HN.out, countR, if_neg hok]
    subst hNm
    clear hok
    go_wp2_with fail
    with_reducible refine (alive_any _).mono ?_
    rintro e w4 ⟨rfl, hnn⟩
    have bx4 := (bx3).keep hnn
    have hB4 : Below w1.heap.size w1 w4 := by (repeat (first | (with_reducible assumption) | (with_reducible exact Below.refl _ _) | ((with_reducible refine Below.alloc ?_ ?hsz _); (case hsz => (first | omega | (simp; done) | (simp; omega) | (simp at *; omega)))) | ((with_reducible refine Below.setCell ?_ ?hsz _); (case hsz => (first | omega | (simp; done) | (simp; omega) | (simp at *; omega)))) | (with_reducible refine Below.drew ?_) | (with_reducible refine below_drewN ?_ _) | ((with_reducible refine Below.trans ?_ (Below.mono (by with_reducible assumption) ?hsz)); (case hsz => (first | omega | (simp; done) | (simp; omega) | (simp at *; omega))))))
    clear hnn
    (try clear d0 d1 g0 g1)
    obtain ⟨bs, d0, d1, g0, g1⟩ := id bx4
    go_wp2
    (go_ret; exact ⟨rfl, hBw1.trans (Below.mono (by with_reducible assumption) hBw1.size)⟩)

set_option maxRecDepth 100000 in
theorem contract (H : Type) (enc : TypeId × Value → H) (W : World) (base : Nat) (args : Array Value) (ds gs : List (DataW H)) (before : List MemPlace)
    (hval : ∀ (j : Nat) t v, Try.f5.params[j]? = some t → args[j]? = some v → Value.okWide Try.prog W .any base t v)
    (hW : DataW.Whole enc Try.prog Try.f5.params.toList Rows.fnCountCirculationsSpec.vars false W args.toList ds gs before) :
    Calls Try.prog 5 args W fun e W' => ∃ v, e = .returned v ∧ Rows.fnCountCirculationsSpec.post enc Try.prog Try.f5 false true false false W args v W' := by
  have hW' := hW
  obtain ⟨p, q, hA0, hV, rfl, hfz, hnd⟩ := hW
  have hA : DataW.TrodAll enc Try.prog W 0 (fun _ => true) true Try.f5.params.toList args.toList ds p := hA0
  rw [Try.params5] at hA hval
  obtain ⟨u0, us0, d0, ds0, p0, q0, hargs, rfl, rfl, g0, k0⟩ := trodAll_cons hA
  obtain ⟨rfl, rfl, rfl⟩ := trodAll_nil k0
  obtain rfl : args = #[u0] := by cases args; simp_all
  obtain ⟨rfl, rfl⟩ := trodVars_none hV
  obtain ⟨m0, e0⟩ := g0
  obtain ⟨s0, l0, f0, hh0⟩ := open_arg_bytes e0
  have f0' := one_of_cells Try.underlying22 (hval 0 _ _ rfl rfl) f0
  subst f0'
  refine (walk _ l0 W hh0).mono fun e W' ⟨he, hb⟩ => ?_
  subst he
  exact ⟨_, rfl, law_post Try.kids Try.full (by rw [Try.params5]; decide) rfl rfl Try.underlying4 hW' rfl rfl rfl hb⟩

set_option maxRecDepth 100000 in
theorem lifted (os : Os) (started : os.Started) (H : Type) (enc : TypeId × Value → H) :
    ReturnsInHanded {} Try.checked os 5 .any (Rows.fnCountCirculationsSpec.pre6 enc Try.prog Try.f5 Rows.fnCountCirculationsRow.domain false) (Rows.fnCountCirculationsSpec.post enc Try.prog Try.f5 false true false false) := by
  refine returnsInHanded_of_change (C := Try.checked) Try.own started (by kernel_rfl) Try.func5
    (ChangeSpec.witness6 (enc := enc) (C := Try.checked) false ⟨#[], #[.slice none 0 0], []⟩ 8 (by kernel_rfl) (by kernel_rfl) (by kernel_rfl) (by kernel_rfl)) ?_
  intro W base args ds gs before hval0 hW _ _
  exact contract H enc W base args ds gs before hval0 hW

theorem proved : Rows.FnCountCirculationsSaid :=
  OpenClaim.holds_of_wide 5 Try.f5 rfl rfl rfl rfl rfl rfl rfl ⟨rfl, rfl, rfl, rfl, rfl⟩ rfl rfl rfl rfl rfl (by kernel_rfl) Try.func5 (by kernel_rfl)
    (of_decide_eq_true (by kernel_rfl)) (by unfold Func.isWrapper; first | (rw [if_pos (by decide +kernel)]; kernel_rfl) | (rw [if_neg (by decide +kernel)]; exact ⟨rfl, rfl⟩))
    (fun os started H enc _ => lifted os started H enc)

end Go.Proofs.Ytphbmlephldaaaa.lawCountCirculations
