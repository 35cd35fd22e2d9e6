/- Contracts of the functions of chapter 6 in the program: costs of steps; what may go on begun steps. -/
import Derived.Test.YthkidcipimfkfaaWF
import Derived.Test.YthkidcipimfkfaaK2
import Derived.Test.YthkidcipimfkfaaR
import Derived.Test.YthkidcipimfkfaaF3
import Derived.Test.YthkidcipimfkfaaF1
namespace Go.Proofs.Ythkidcipimfkfaa
open Go.RowKit

set_option maxHeartbeats 1000000 in
set_option maxRecDepth 20000 in
theorem stepCost_any (s : Nat) (v : Value) (ps : List Pp) (b : Nat) (w : World) (hp : Pipes w b v ps) (hs : s < 2 * ps.length) (hl : ps.length ≤ 7) (hc : ∀ p ∈ ps, -9 ≤ p.co ∧ p.co ≤ 9) :
    Calls Try.prog 85 #[v, .int .i64 s] w fun e w' => e = .returned (.int .i64 (stCo ps s)) ∧ Below w.heap.size w w' := by
  obtain ⟨A, c, rfl, hc1, hc2, hsm, hcell⟩ := hp.form
  unfold maxLen at hc2
  obtain ⟨k, hk⟩ : ∃ k, s / 2 = k := ⟨_, rfl⟩
  have hkl : k < ps.length := by omega
  obtain ⟨g, rfl, hg1, hg2, c0, c1, c2, c3, c4⟩ := hcell w (Below.refl _ _) k hkl
  have hq : (s : Int) / 2 = (k : Int) := by omega
  obtain ⟨x0, x1⟩ := hc _ (List.getElem_mem hkl)
  have hget : ps.getD (s / 2) zeroPp = ps[k] := by subst hk; simp [List.getD, List.getElem?_eq_getElem hkl]
  rcases (show s % 2 = 1 ∨ s % 2 = 0 by omega) with hm | hm
  · have He := Lib.hid (show stCo ps s = -ps[k].co by rw [stCo, hget, if_pos hm])
    have hd := Lib.hid (show decide (s % 2 = 1) = true by simp [hm])
    clear hk hm hget hc
    go_enter Try.func85, Try.ntmps85
    go_wp2_with (first | (go_at_call 95; ((with_reducible refine (stepBack_any s _ true hd.out (by omega)).mono ?_); rintro e w1 ⟨rfl, rfl⟩)))
    go_ret
    exact ⟨ret_int He.out.symm, by (repeat (first | (with_reducible assumption) | (with_reducible exact Below.refl _ _) | ((with_reducible refine Below.alloc ?_ ?hsz _); (case hsz => (first | omega | (simp; done) | (simp; omega) | (simp at *; omega)))) | ((with_reducible refine Below.setCell ?_ ?hsz _); (case hsz => (first | omega | (simp; done) | (simp; omega) | (simp at *; omega)))) | (with_reducible refine Below.drew ?_) | (with_reducible refine below_drewN ?_ _) | ((with_reducible refine Below.trans ?_ (Below.mono (by with_reducible assumption) ?hsz)); (case hsz => (first | omega | (simp; done) | (simp; omega) | (simp at *; omega))))))⟩
  · have He := Lib.hid (show stCo ps s = ps[k].co by rw [stCo, hget, if_neg (by omega)])
    have hd := Lib.hid (show decide (s % 2 = 1) = false by simp [hm])
    clear hk hm hget hc
    go_enter Try.func85, Try.ntmps85
    go_wp2_with (first | (go_at_call 95; ((with_reducible refine (stepBack_any s _ false hd.out (by omega)).mono ?_); rintro e w1 ⟨rfl, rfl⟩)))
    go_ret
    exact ⟨ret_int He.out.symm, by (repeat (first | (with_reducible assumption) | (with_reducible exact Below.refl _ _) | ((with_reducible refine Below.alloc ?_ ?hsz _); (case hsz => (first | omega | (simp; done) | (simp; omega) | (simp at *; omega)))) | ((with_reducible refine Below.setCell ?_ ?hsz _); (case hsz => (first | omega | (simp; done) | (simp; omega) | (simp at *; omega)))) | (with_reducible refine Below.drew ?_) | (with_reducible refine below_drewN ?_ _) | ((with_reducible refine Below.trans ?_ (Below.mono (by with_reducible assumption) ?hsz)); (case hsz => (first | omega | (simp; done) | (simp; omega) | (simp at *; omega))))))⟩

set_option maxHeartbeats 1000000 in
set_option maxRecDepth 20000 in
theorem leadsOn_any (s t : Nat) (v : Value) (ps : List Pp) (b : Nat) (w : World) (hp : Pipes w b v ps) (hs : s < 2 * ps.length) (ht : t < 2 * ps.length) (hl : ps.length ≤ 7) :
    Calls Try.prog 111 #[v, .int .i64 s, .int .i64 t] w fun e w' => e = .returned (.bool (stTo ps s == stFr ps t)) ∧ Below w.heap.size w w' := by
  go_enter Try.func111, Try.ntmps111
  go_wp2_with fail
  with_reducible refine (stepEnds_any s v ps b _ hp hs hl).mono ?_
  rintro e w1 ⟨rfl, hb1⟩
  go_wp2_with fail
  with_reducible refine (stepEnds_any t v ps b _ (hp.keep hb1) ht hl).mono ?_
  rintro e w2 ⟨rfl, hb2⟩
  have hB := hb1.trans (hb2.mono hb1.size)
  go_wp2
  go_ret
  exact ⟨rfl, hB⟩

theorem coL_take (ps : List Pp) (l : List Nat) (k : Nat) (hk : k < l.length) : coL ps (l.take (k + 1)) = coL ps (l.take k) + stCo ps l[k] := by
  rw [List.take_succ_eq_append_getElem hk, coL_snoc]

set_option maxHeartbeats 1000000 in
set_option maxRecDepth 20000 in
theorem costStep_any (s bp : Nat) (sum : Int) (v : Value) (ps : List Pp) (b : Nat) (w : World) (hp : Pipes w b v ps) (hs : s < 2 * ps.length) (hl : ps.length ≤ 7) (hc : ∀ p ∈ ps, -9 ≤ p.co ∧ p.co ≤ 9)
    (h0 : -1000 ≤ sum) (h1 : sum ≤ 1000) (d0 : w.cell? ⟨bp, 0, none⟩ = some v) :
    Calls Try.prog 118 #[.int .i64 sum, .int .i64 s, .pointer (some ⟨bp, 0, none⟩)] w fun e w' => e = .returned (.int .i64 (sum + stCo ps s)) ∧ Below w.heap.size w w' := by
  have hp0 := hp
  obtain ⟨A, c, rfl, -, -, -, -⟩ := hp.form
  obtain ⟨c0, c1⟩ := stCo_bd hc hs
  have HC := Lib.hid hc
  clear hc
  go_enter Try.func118, Try.ntmps118
  go_wp2_with fail
  with_reducible refine (stepCost_any s _ ps b _ hp0 hs hl HC.out).mono ?_
  rintro e w1 ⟨rfl, hb1⟩
  go_wp2
  go_ret
  exact ⟨rfl, hb1⟩

set_option maxHeartbeats 1000000 in
set_option maxRecDepth 20000 in
theorem foldCost_any (bp : Nat) (u0 v : Value) (l : List Nat) (ps : List Pp) (b b0 : Nat) (w : World) (h0 : Ints w b0 u0 (ofS l)) (hp : Pipes w b v ps) (hs : ∀ s ∈ l, s < 2 * ps.length) (hl : ps.length ≤ 7) (hc : ∀ p ∈ ps, -9 ≤ p.co ∧ p.co ≤ 9) (hl9 : l.length ≤ 9)
    (hbp : bp < w.heap.size) (d0 : w.cell? ⟨bp, 0, none⟩ = some v) :
    Calls Try.prog 96 #[u0, .int .i64 0, .func (Fn.func 118) #[] #[.pointer (some ⟨bp, 0, none⟩)]] w fun e w' => e = .returned (.int .i64 (coL ps l)) ∧ Below w.heap.size w w' := by
  obtain ⟨A, c, rfl, hc1, hc2, hsm, hcell⟩ := h0.form
  unfold maxLen at hc2
  have hlS : (ofS l).length = l.length := by simp
  rw [hlS] at hc1 hsm ⊢
  have hlS := Lib.hid hlS
  have HH := Lib.hid hc
  have HS := Lib.hid hs
  clear hc hs
  go_enter Try.func96, Try.ntmps96
  go_wp2
  go_loopw [11, 1] (fun i t wr => ∃ k : Nat, k ≤ l.length ∧ i = .int .i64 k ∧ t = .int .i64 (coL ps (l.take k)) ∧ Below w.heap.size w wr) (fun i _ _ => l.length - (intOf i).toNat)
  case atStart => exact ⟨0, by omega, rfl, rfl, Below.refl _ _⟩
  case round =>
    obtain ⟨k, hk, rfl, rfl, hb⟩ := hrel
    by_cases hlt : k < l.length
    · obtain ⟨g, rfl, hg1, hg2, c0, -⟩ := hcell wr hb k (by rw [hlS.out]; exact hlt)
      have c0' : wr.cell? ⟨g, k, none⟩ = some (.int .i64 (l[k] : Nat)) := by rw [c0]; simp
      have Hn := Lib.hid (coL_take ps l k hlt)
      have hbd := coL_bd HH.out (l := l.take k) (fun s hs => HS.out s (List.mem_of_mem_take hs))
      have hlk : (l.take k).length ≤ 9 := by rw [List.length_take]; omega
      have g1 : -1000 ≤ coL ps (l.take k) := by omega
      have g2 : coL ps (l.take k) ≤ 1000 := by omega
      clear hbd hlk
      generalize coL ps (l.take k) = ro at *
      clear c0
      go_wp2_with fail
      with_reducible refine (costStep_any l[k] bp ro _ ps b _ (hp.keep hb) (HS.out _ (List.getElem_mem hlt)) hl HH.out g1 g2 (by (repeat (first | (with_reducible assumption) | ((with_reducible refine (Below.cell (by with_reducible assumption) ?hsz).trans ?_); (case hsz => (first | omega | (simp; done) | (simp; omega) | (simp at *; omega)))) | ((with_reducible refine (World.cell?_alloc_lt _ _ _ ?hsz).trans ?_); (case hsz => (first | omega | (simp; done) | (simp; omega) | (simp at *; omega)))) | ((with_reducible refine (World.cell?_setCell_other _ _ _ _ ?hsz).trans ?_); (case hsz => (intro h; injection h with h1 h2; omega))))))).mono ?_
      rintro e w2 ⟨rfl, hb2⟩
      have hsz := hb.size
      go_wp2
      go_roundw
      case rel => exact ⟨k + 1, by omega, by go_num, by rw [Hn.out], by (repeat (first | (with_reducible assumption) | (with_reducible exact Below.refl _ _) | ((with_reducible refine Below.alloc ?_ ?hsz _); (case hsz => (first | omega | (simp; done) | (simp; omega) | (simp at *; omega)))) | ((with_reducible refine Below.setCell ?_ ?hsz _); (case hsz => (first | omega | (simp; done) | (simp; omega) | (simp at *; omega)))) | (with_reducible refine Below.drew ?_) | (with_reducible refine below_drewN ?_ _) | ((with_reducible refine Below.trans ?_ (Below.mono (by with_reducible assumption) ?hsz)); (case hsz => (first | omega | (simp; done) | (simp; omega) | (simp at *; omega))))))⟩
      case measure => simp [intOf]; omega
    · have hk2 : k = l.length := by omega
      subst hk2
      rw [List.take_length]
      go_wp2
      go_ret
      exact ⟨rfl, hb⟩

set_option maxHeartbeats 1000000 in
set_option maxRecDepth 20000 in
theorem stepsCost_any (u0 v : Value) (l : List Nat) (ps : List Pp) (b b0 : Nat) (w : World) (h0 : Ints w b0 u0 (ofS l)) (hp : Pipes w b v ps) (hs : ∀ s ∈ l, s < 2 * ps.length) (hl : ps.length ≤ 7) (hc : ∀ p ∈ ps, -9 ≤ p.co ∧ p.co ≤ 9) (hl9 : l.length ≤ 9) :
    Calls Try.prog 112 #[v, u0] w fun e w' => e = .returned (.int .i64 (coL ps l)) ∧ Below w.heap.size w w' := by
  have hp0 := hp
  have h00 := h0
  obtain ⟨A, c, rfl, -, -, -, -⟩ := hp.form
  obtain ⟨A0, c0, rfl, -, -, -, -⟩ := h0.form
  obtain ⟨m0, hm0⟩ : ∃ m, (ofS l).length = m := ⟨_, rfl⟩
  rw [hm0] at h00 ⊢
  clear h0 hm0
  have HH := Lib.hid hc
  have HS := Lib.hid hs
  clear hc hs
  go_enter Try.func112, Try.ntmps112
  go_wp2_with fail
  refine (foldCost_any _ _ _ l ps b b0 _ (h00.keep (by (repeat (first | (with_reducible assumption) | (with_reducible exact Below.refl _ _) | ((with_reducible refine Below.alloc ?_ ?hsz _); (case hsz => (first | omega | (simp; done) | (simp; omega) | (simp at *; omega)))) | ((with_reducible refine Below.setCell ?_ ?hsz _); (case hsz => (first | omega | (simp; done) | (simp; omega) | (simp at *; omega)))) | (with_reducible refine Below.drew ?_) | (with_reducible refine below_drewN ?_ _) | ((with_reducible refine Below.trans ?_ (Below.mono (by with_reducible assumption) ?hsz)); (case hsz => (first | omega | (simp; done) | (simp; omega) | (simp at *; omega)))))))) (hp0.keep (by (repeat (first | (with_reducible assumption) | (with_reducible exact Below.refl _ _) | ((with_reducible refine Below.alloc ?_ ?hsz _); (case hsz => (first | omega | (simp; done) | (simp; omega) | (simp at *; omega)))) | ((with_reducible refine Below.setCell ?_ ?hsz _); (case hsz => (first | omega | (simp; done) | (simp; omega) | (simp at *; omega)))) | (with_reducible refine Below.drew ?_) | (with_reducible refine below_drewN ?_ _) | ((with_reducible refine Below.trans ?_ (Below.mono (by with_reducible assumption) ?hsz)); (case hsz => (first | omega | (simp; done) | (simp; omega) | (simp at *; omega)))))))) HS.out hl HH.out hl9 (by (first | omega | (simp; done) | (simp; omega) | (simp at *; omega))) (by go_simp)).mono ?_
  rintro e w1 ⟨rfl, hb1⟩
  go_wp2
  go_ret
  exact ⟨rfl, by (repeat (first | (with_reducible assumption) | (with_reducible exact Below.refl _ _) | ((with_reducible refine Below.alloc ?_ ?hsz _); (case hsz => (first | omega | (simp; done) | (simp; omega) | (simp at *; omega)))) | ((with_reducible refine Below.setCell ?_ ?hsz _); (case hsz => (first | omega | (simp; done) | (simp; omega) | (simp at *; omega)))) | (with_reducible refine Below.drew ?_) | (with_reducible refine below_drewN ?_ _) | ((with_reducible refine Below.trans ?_ (Below.mono (by with_reducible assumption) ?hsz)); (case hsz => (first | omega | (simp; done) | (simp; omega) | (simp at *; omega))))))⟩

set_option maxHeartbeats 1000000 in
set_option maxRecDepth 20000 in
theorem usedFn_any (s bp bv : Nat) (x : Int) (v : Value) (ps : List Pp) (b : Nat) (w : World) (hp : Pipes w b v ps) (hs : s < 2 * ps.length) (hl : ps.length ≤ 7)
    (d0 : w.cell? ⟨bp, 0, none⟩ = some v) (d1 : w.cell? ⟨bv, 0, none⟩ = some (.int .i64 x)) (hbv : bv < w.heap.size) :
    Calls Try.prog 119 #[.int .i64 s, .pointer (some ⟨bp, 0, none⟩), .pointer (some ⟨bv, 0, none⟩)] w fun e w' => e = .returned (.bool (stFr ps s == x)) ∧ Below w.heap.size w w' := by
  have hp0 := hp
  obtain ⟨A, c, rfl, -, -, -, -⟩ := hp.form
  go_enter Try.func119, Try.ntmps119
  go_wp2_with fail
  with_reducible refine (stepEnds_any s _ ps b _ hp0 hs hl).mono ?_
  rintro e w1 ⟨rfl, hb1⟩
  have e1 := (bel_cell hb1 (o := 0) hbv).trans d1
  go_wp2
  go_ret
  exact ⟨rfl, hb1⟩

set_option maxHeartbeats 1000000 in
set_option maxRecDepth 20000 in
theorem indexUsed_any (bp bv : Nat) (x : Int) (u v : Value) (l : List Nat) (ps : List Pp) (b b0 : Nat) (w : World) (h0 : Ints w b0 u (ofS l)) (hp : Pipes w b v ps) (hs : ∀ s ∈ l, s < 2 * ps.length) (hl : ps.length ≤ 7)
    (d0 : w.cell? ⟨bp, 0, none⟩ = some v) (d1 : w.cell? ⟨bv, 0, none⟩ = some (.int .i64 x)) (hbp : bp < w.heap.size) (hbv : bv < w.heap.size) :
    Calls Try.prog 90 #[u, .func (Fn.func 119) #[] #[.pointer (some ⟨bp, 0, none⟩), .pointer (some ⟨bv, 0, none⟩)]] w fun e w' => ∃ r : Int, e = .returned (.int .i64 r) ∧ decide (0 ≤ r) = usedB ps l x ∧ Below w.heap.size w w' := by
  obtain ⟨A, ca, rfl, hc1, hc2, hsm, hcell⟩ := h0.form
  unfold maxLen at hc2
  have hlS : (ofS l).length = l.length := by simp
  rw [hlS] at hc1 hsm ⊢
  have hlS := Lib.hid hlS
  have HM := Lib.hid hs
  clear hs
  go_enter Try.func90, Try.ntmps90
  go_wp2
  go_loopw [8] (fun i wr => ∃ j : Nat, j ≤ l.length ∧ i = .int .i64 j ∧ (∀ e ∈ l.take j, (fun e : Nat => !decide (stFr ps e = x)) e = true) ∧ Below w.heap.size w wr) (fun i _ => l.length - (intOf i).toNat)
  case atStart => exact ⟨0, by omega, rfl, by simp, Below.refl _ _⟩
  case round =>
    obtain ⟨j, hj, rfl, hall, hb⟩ := hrel
    have Hall := Lib.hid hall
    clear hall
    have hzb := hb.size
    by_cases hlt : j < l.length
    · obtain ⟨g, rfl, hg1, hg2, c0, -⟩ := hcell wr hb j (by rw [hlS.out]; exact hlt)
      have c0' : wr.cell? ⟨g, j, none⟩ = some (.int .i64 (l[j] : Nat)) := by rw [c0]; simp
      clear c0
      by_cases hx : stFr ps l[j] = x
      · have Hu : Hid (usedB ps l x = true) := Lib.hid (by
          rw [usedB, List.any_eq_true]
          exact ⟨l[j], List.getElem_mem hlt, by simpa using hx⟩)
        have hxb : (stFr ps l[j] == x) = true := by simpa using hx
        go_wp2_with fail
        with_reducible refine (usedFn_any l[j] bp bv x _ ps b _ (hp.keep hb) (HM.out _ (List.getElem_mem hlt)) hl (by (repeat (first | (with_reducible assumption) | ((with_reducible refine (Below.cell (by with_reducible assumption) ?hsz).trans ?_); (case hsz => (first | omega | (simp; done) | (simp; omega) | (simp at *; omega)))) | ((with_reducible refine (World.cell?_alloc_lt _ _ _ ?hsz).trans ?_); (case hsz => (first | omega | (simp; done) | (simp; omega) | (simp at *; omega)))) | ((with_reducible refine (World.cell?_setCell_other _ _ _ _ ?hsz).trans ?_); (case hsz => (intro h; injection h with h1 h2; omega)))))) (by (repeat (first | (with_reducible assumption) | ((with_reducible refine (Below.cell (by with_reducible assumption) ?hsz).trans ?_); (case hsz => (first | omega | (simp; done) | (simp; omega) | (simp at *; omega)))) | ((with_reducible refine (World.cell?_alloc_lt _ _ _ ?hsz).trans ?_); (case hsz => (first | omega | (simp; done) | (simp; omega) | (simp at *; omega)))) | ((with_reducible refine (World.cell?_setCell_other _ _ _ _ ?hsz).trans ?_); (case hsz => (intro h; injection h with h1 h2; omega)))))) (by omega)).mono ?_
        rintro e w1 ⟨rfl, hb1⟩
        rw [hxb]
        clear hx hxb
        go_wp2
        go_ret
        exact ⟨_, rfl, by rw [Hu.out]; simp, by (repeat (first | (with_reducible assumption) | (with_reducible exact Below.refl _ _) | ((with_reducible refine Below.alloc ?_ ?hsz _); (case hsz => (first | omega | (simp; done) | (simp; omega) | (simp at *; omega)))) | ((with_reducible refine Below.setCell ?_ ?hsz _); (case hsz => (first | omega | (simp; done) | (simp; omega) | (simp at *; omega)))) | (with_reducible refine Below.drew ?_) | (with_reducible refine below_drewN ?_ _) | ((with_reducible refine Below.trans ?_ (Below.mono (by with_reducible assumption) ?hsz)); (case hsz => (first | omega | (simp; done) | (simp; omega) | (simp at *; omega))))))⟩
      · have hxb : (stFr ps l[j] == x) = false := by simpa using hx
        have Hn := Lib.hid (all_take (f := fun e : Nat => !decide (stFr ps e = x)) hlt Hall.out (by simp [hx]))
        go_wp2_with fail
        with_reducible refine (usedFn_any l[j] bp bv x _ ps b _ (hp.keep hb) (HM.out _ (List.getElem_mem hlt)) hl (by (repeat (first | (with_reducible assumption) | ((with_reducible refine (Below.cell (by with_reducible assumption) ?hsz).trans ?_); (case hsz => (first | omega | (simp; done) | (simp; omega) | (simp at *; omega)))) | ((with_reducible refine (World.cell?_alloc_lt _ _ _ ?hsz).trans ?_); (case hsz => (first | omega | (simp; done) | (simp; omega) | (simp at *; omega)))) | ((with_reducible refine (World.cell?_setCell_other _ _ _ _ ?hsz).trans ?_); (case hsz => (intro h; injection h with h1 h2; omega)))))) (by (repeat (first | (with_reducible assumption) | ((with_reducible refine (Below.cell (by with_reducible assumption) ?hsz).trans ?_); (case hsz => (first | omega | (simp; done) | (simp; omega) | (simp at *; omega)))) | ((with_reducible refine (World.cell?_alloc_lt _ _ _ ?hsz).trans ?_); (case hsz => (first | omega | (simp; done) | (simp; omega) | (simp at *; omega)))) | ((with_reducible refine (World.cell?_setCell_other _ _ _ _ ?hsz).trans ?_); (case hsz => (intro h; injection h with h1 h2; omega)))))) (by omega)).mono ?_
        rintro e w1 ⟨rfl, hb1⟩
        rw [hxb]
        clear hx hxb
        go_wp2
        go_roundw
        case rel => exact ⟨j + 1, by omega, by go_num, Hn.out, by (repeat (first | (with_reducible assumption) | (with_reducible exact Below.refl _ _) | ((with_reducible refine Below.alloc ?_ ?hsz _); (case hsz => (first | omega | (simp; done) | (simp; omega) | (simp at *; omega)))) | ((with_reducible refine Below.setCell ?_ ?hsz _); (case hsz => (first | omega | (simp; done) | (simp; omega) | (simp at *; omega)))) | (with_reducible refine Below.drew ?_) | (with_reducible refine below_drewN ?_ _) | ((with_reducible refine Below.trans ?_ (Below.mono (by with_reducible assumption) ?hsz)); (case hsz => (first | omega | (simp; done) | (simp; omega) | (simp at *; omega))))))⟩
        case measure => simp [intOf]; omega
    · have Hu : Hid (usedB ps l x = false) := Lib.hid (by
        have hall := Hall.out
        rw [List.take_of_length_le (by omega)] at hall
        rw [used_no]
        intro e he
        simpa using hall e he)
      go_wp2
      go_ret
      exact ⟨_, rfl, by rw [Hu.out]; rfl, by (repeat (first | (with_reducible assumption) | (with_reducible exact Below.refl _ _) | ((with_reducible refine Below.alloc ?_ ?hsz _); (case hsz => (first | omega | (simp; done) | (simp; omega) | (simp at *; omega)))) | ((with_reducible refine Below.setCell ?_ ?hsz _); (case hsz => (first | omega | (simp; done) | (simp; omega) | (simp at *; omega)))) | (with_reducible refine Below.drew ?_) | (with_reducible refine below_drewN ?_ _) | ((with_reducible refine Below.trans ?_ (Below.mono (by with_reducible assumption) ?hsz)); (case hsz => (first | omega | (simp; done) | (simp; omega) | (simp at *; omega))))))⟩

set_option maxHeartbeats 1000000 in
set_option maxRecDepth 20000 in
theorem containsUsed_any (bp bv : Nat) (x : Int) (u v : Value) (l : List Nat) (ps : List Pp) (b b0 : Nat) (w : World) (h0 : Ints w b0 u (ofS l)) (hp : Pipes w b v ps) (hs : ∀ s ∈ l, s < 2 * ps.length) (hl : ps.length ≤ 7)
    (d0 : w.cell? ⟨bp, 0, none⟩ = some v) (d1 : w.cell? ⟨bv, 0, none⟩ = some (.int .i64 x)) (hbp : bp < w.heap.size) (hbv : bv < w.heap.size) :
    Calls Try.prog 116 #[u, .func (Fn.func 119) #[] #[.pointer (some ⟨bp, 0, none⟩), .pointer (some ⟨bv, 0, none⟩)]] w fun e w' => e = .returned (.bool (usedB ps l x)) ∧ Below w.heap.size w w' := by
  have h00 := h0
  obtain ⟨A, ca, rfl, -, -, -, -⟩ := h0.form
  obtain ⟨m0, hm0⟩ : ∃ m, (ofS l).length = m := ⟨_, rfl⟩
  rw [hm0] at h00 ⊢
  clear h0 hm0
  go_enter Try.func116, Try.ntmps116
  go_wp2_with fail
  refine (indexUsed_any bp bv x _ v l ps b b0 _ h00 hp hs hl d0 d1 hbp hbv).mono ?_
  rintro e w1 ⟨r, rfl, hr, hb1⟩
  go_wp2
  go_ret
  exact ⟨by first | rfl | exact ret_bool hr, by (repeat (first | (with_reducible assumption) | (with_reducible exact Below.refl _ _) | ((with_reducible refine Below.alloc ?_ ?hsz _); (case hsz => (first | omega | (simp; done) | (simp; omega) | (simp at *; omega)))) | ((with_reducible refine Below.setCell ?_ ?hsz _); (case hsz => (first | omega | (simp; done) | (simp; omega) | (simp at *; omega)))) | (with_reducible refine Below.drew ?_) | (with_reducible refine below_drewN ?_ _) | ((with_reducible refine Below.trans ?_ (Below.mono (by with_reducible assumption) ?hsz)); (case hsz => (first | omega | (simp; done) | (simp; omega) | (simp at *; omega))))))⟩

theorem goes_nil (ps : List Pp) (s : Nat) : goesB ps [] s = true := rfl
theorem goes_last {ps : List Pp} {l : List Nat} {s m : Nat} (hm : m < l.length) (hl : l.length = m + 1) : goesB ps l s = (decide (stTo ps l[m] = stFr ps s) && !usedB ps l (stFr ps s)) := by
  have : l.getLast? = some l[m] := by rw [List.getLast?_eq_getElem?, List.getElem?_eq_getElem (by omega)]; congr 1; congr 1; omega
  simp [goesB, this]

set_option maxHeartbeats 2000000 in
set_option maxRecDepth 20000 in
theorem goesOn_any (s : Nat) (u v : Value) (l : List Nat) (ps : List Pp) (b b0 : Nat) (w : World) (h0 : Ints w b0 u (ofS l)) (hp : Pipes w b v ps) (hs : ∀ t ∈ l, t < 2 * ps.length) (hs1 : s < 2 * ps.length) (hl : ps.length ≤ 7) :
    Calls Try.prog 113 #[v, u, .int .i64 s] w fun e w' => e = .returned (.bool (goesB ps l s)) ∧ Below w.heap.size w w' := by
  have hp0 := hp
  have h00 := h0
  obtain ⟨A, c, rfl, -, -, -, -⟩ := hp.form
  obtain ⟨A0, c0, rfl, hc1, hc2, hsm, hcell⟩ := h0.form
  unfold maxLen at hc2
  have hlS : (ofS l).length = l.length := by simp
  rcases Nat.eq_zero_or_pos l.length with hz | hpos
  · have hl0 : l = [] := List.length_eq_zero_iff.1 hz
    subst hl0
    have Hg := Lib.hid (goes_nil ps s)
    rw [show (ofS []).length = 0 from rfl] at hc1 hsm h00 ⊢
    clear hcell hz hlS hs
    go_enter Try.func113, Try.ntmps113
    go_wp2
    go_ret
    exact ⟨ret_bool Hg.out.symm, by (repeat (first | (with_reducible assumption) | (with_reducible exact Below.refl _ _) | ((with_reducible refine Below.alloc ?_ ?hsz _); (case hsz => (first | omega | (simp; done) | (simp; omega) | (simp at *; omega)))) | ((with_reducible refine Below.setCell ?_ ?hsz _); (case hsz => (first | omega | (simp; done) | (simp; omega) | (simp at *; omega)))) | (with_reducible refine Below.drew ?_) | (with_reducible refine below_drewN ?_ _) | ((with_reducible refine Below.trans ?_ (Below.mono (by with_reducible assumption) ?hsz)); (case hsz => (first | omega | (simp; done) | (simp; omega) | (simp at *; omega))))))⟩
  · obtain ⟨m, hm⟩ : ∃ m, l.length = m + 1 := ⟨l.length - 1, by omega⟩
    have hml : m < l.length := by omega
    have Hg := Lib.hid (goes_last (ps := ps) (s := s) hml hm)
    obtain ⟨g, rfl, hg1, hg2, cw, -⟩ := hcell w (Below.refl _ _) m (by rw [hlS]; exact hml)
    have cw' : w.cell? ⟨g, m, none⟩ = some (.int .i64 (l[m] : Nat)) := by rw [cw]; simp
    have ht := hs l[m] (List.getElem_mem hml)
    have HS := Lib.hid hs
    rw [hlS, hm] at hc1 hsm h00 ⊢
    have hne : (((m + 1 : Nat) : Int) == 0) = false := by rw [beq_eq_false_iff_ne]; omega
    have hwr : IntKind.i64.wrap (((m + 1 : Nat) : Int) - 1) = (m : Int) := by rw [IntWalk.i64_in _ (by omega)]; omega
    have hwr2 : wrap64 (((m + 1 : Nat) : Int) - 1) = (m : Int) := by rw [IntWalk.wrap64_in _ (by omega)]; omega
    clear hs cw hcell hlS hpos hm
    generalize l[m] = t at *
    go_enter Try.func113, Try.ntmps113
    go_wp2_with fail
    with_reducible refine (stepEnds_any s _ ps b _ (hp0.keep (by (repeat (first | (with_reducible assumption) | (with_reducible exact Below.refl _ _) | ((with_reducible refine Below.alloc ?_ ?hsz _); (case hsz => (first | omega | (simp; done) | (simp; omega) | (simp at *; omega)))) | ((with_reducible refine Below.setCell ?_ ?hsz _); (case hsz => (first | omega | (simp; done) | (simp; omega) | (simp at *; omega)))) | (with_reducible refine Below.drew ?_) | (with_reducible refine below_drewN ?_ _) | ((with_reducible refine Below.trans ?_ (Below.mono (by with_reducible assumption) ?hsz)); (case hsz => (first | omega | (simp; done) | (simp; omega) | (simp at *; omega)))))))) hs1 hl).mono ?_
    rintro e w1 ⟨rfl, hb1⟩
    have hB1 : Below w.heap.size w w1 := by (repeat (first | (with_reducible assumption) | (with_reducible exact Below.refl _ _) | ((with_reducible refine Below.alloc ?_ ?hsz _); (case hsz => (first | omega | (simp; done) | (simp; omega) | (simp at *; omega)))) | ((with_reducible refine Below.setCell ?_ ?hsz _); (case hsz => (first | omega | (simp; done) | (simp; omega) | (simp at *; omega)))) | (with_reducible refine Below.drew ?_) | (with_reducible refine below_drewN ?_ _) | ((with_reducible refine Below.trans ?_ (Below.mono (by with_reducible assumption) ?hsz)); (case hsz => (first | omega | (simp; done) | (simp; omega) | (simp at *; omega))))))
    have hz1 : w.heap.size < w1.heap.size := by
      have := hb1.size
      simp at this
      omega
    have k0 : w1.cell? ⟨w.heap.size, 0, none⟩ = some (.slice A ps.length c) := (hb1.cell (p := ⟨w.heap.size, 0, none⟩) (by simp)).trans (by simp)
    have hv := Lib.hid hwr
    go_wp2_with fail
    generalize hW : World.alloc w1 _ = wr
    have hBr : Below w1.heap.size w1 wr := by rw [← hW]; (repeat (first | (with_reducible assumption) | (with_reducible exact Below.refl _ _) | ((with_reducible refine Below.alloc ?_ ?hsz _); (case hsz => (first | omega | (simp; done) | (simp; omega) | (simp at *; omega)))) | ((with_reducible refine Below.setCell ?_ ?hsz _); (case hsz => (first | omega | (simp; done) | (simp; omega) | (simp at *; omega)))) | (with_reducible refine Below.drew ?_) | (with_reducible refine below_drewN ?_ _) | ((with_reducible refine Below.trans ?_ (Below.mono (by with_reducible assumption) ?hsz)); (case hsz => (first | omega | (simp; done) | (simp; omega) | (simp at *; omega))))))
    have hzr : wr.heap.size = w1.heap.size + 1 := by rw [← hW]; simp
    have r0 := (hBr.cell (p := ⟨w.heap.size, 0, none⟩) (by show w.heap.size < w1.heap.size; omega)).trans k0
    have r1 : wr.cell? ⟨w1.heap.size, 0, none⟩ = some (.int .i64 (stFr ps s)) := by rw [← hW]; simp
    have hBw : Below w.heap.size w wr := hB1.trans (hBr.mono (by omega))
    have r2 := (hBw.cell (p := ⟨g, m, none⟩) hg2).trans cw'
    have hgr : g < wr.heap.size := by omega
    have hpr := hp0.keep hBw
    have h0r := h00.keep hBw
    have hz0 : w.heap.size < wr.heap.size := by omega
    clear hW k0 hB1 cw' hz1 hb1 hBr hp0
    have hd0 := fun p : Bw wr => (bw_cell p hz0).trans r0
    have hd1 := fun p : Bw wr => (bw_cell p (show w1.heap.size < wr.heap.size by omega)).trans r1
    have hd2 := fun p : Bw wr => (bw_cell p hgr).trans r2
    have Hcon : Hid (∀ p : Bw wr, Calls Try.prog 116 #[.slice (some ⟨g, 0, none⟩) (m + 1) c0, .func (Fn.func 119) #[] #[.pointer (some ⟨w.heap.size, 0, none⟩), .pointer (some ⟨w1.heap.size, 0, none⟩)]] p.v fun e w' => e = .returned (.bool (usedB ps l (stFr ps s))) ∧ Below p.v.heap.size p.v w') :=
      Lib.hid fun p => containsUsed_any _ _ _ _ _ l ps b b0 _ (h0r.keep p.h) (hpr.keep p.h) HS.out hl (hd0 p) (hd1 p) (by have := p.h.size; omega) (by have := p.h.size; omega)
    by_cases hlead : stTo ps t = stFr ps s
    · have Hl : Hid (∀ p : Bw wr, Calls Try.prog 111 #[.slice A ps.length c, .int .i64 t, .int .i64 s] p.v fun e w' => e = .returned (.bool true) ∧ Below p.v.heap.size p.v w') :=
        Lib.hid fun p => (leadsOn_any t s _ ps b _ (hpr.keep p.h) ht hs1 hl).mono fun e w' h => ⟨by rw [h.1]; simp [hlead], h.2⟩
      have Hg2 : Hid (goesB ps l s = !usedB ps l (stFr ps s)) := Lib.hid (by rw [Hg.out]; simp [hlead])
      clear hlead Hg
      refine wp_region_bw (by kernel_rfl) (by kernel_rfl) ?_
      repeat (go_big_quiet_step (first | (go_at_call 111; refine calls_bw (Hl.out _)) | (go_at_call 116; refine calls_bw (Hcon.out _))))
      refine wpQuiet_nil ?_
      rintro _ ⟨pw, rfl⟩
      have hB2 := hBw.trans (pw.h.mono hBw.size)
      go_wp2
      go_ret
      exact ⟨ret_bool Hg2.out.symm, hB2⟩
    · have Hl : Hid (∀ p : Bw wr, Calls Try.prog 111 #[.slice A ps.length c, .int .i64 t, .int .i64 s] p.v fun e w' => e = .returned (.bool false) ∧ Below p.v.heap.size p.v w') :=
        Lib.hid fun p => (leadsOn_any t s _ ps b _ (hpr.keep p.h) ht hs1 hl).mono fun e w' h => ⟨by rw [h.1]; simp [hlead], h.2⟩
      have Hg2 : Hid (goesB ps l s = false) := Lib.hid (by rw [Hg.out]; simp [hlead])
      clear hlead Hg
      refine wp_region_bw (by kernel_rfl) (by kernel_rfl) ?_
      repeat (go_big_quiet_step (first | (go_at_call 111; refine calls_bw (Hl.out _)) | (go_at_call 116; refine calls_bw (Hcon.out _))))
      refine wpQuiet_nil ?_
      rintro _ ⟨pw, rfl⟩
      have hB2 := hBw.trans (pw.h.mono hBw.size)
      go_wp2
      go_ret
      exact ⟨ret_bool Hg2.out.symm, hB2⟩

end Go.Proofs.Ythkidcipimfkfaa
