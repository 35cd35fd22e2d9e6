/- Plain facts. -/
import Derived.Test.YtphbmlephldaaaaWF
import Derived.Test.YtphbmlephldaaaaGN35
import Derived.Test.YtphbmlephldaaaaGN31
import Derived.Test.YtphbmlephldaaaaGN16
import Derived.Test.YtphbmlephldaaaaGN38
import Derived.Test.YtphbmlephldaaaaGN36
import Derived.Test.YtphbmlephldaaaaW3
/- Contracts of the functions of chapter 6 in the program: costs of steps; what may go on begun steps. -/
namespace Go.Proofs.Ytphbmlephldaaaa
open Go.RowKit

set_option maxHeartbeats 1000000 in
set_option maxRecDepth 20000 in
theorem stepCost_any (s : Nat) (v : Value) (ps : List Pp) (b : Nat) (w : World) (hp : Pipes w b v ps) (hs : s < 2 * ps.length) (hl : ps.length ≤ 7) (hc : ∀ p ∈ ps, -9 ≤ p.co ∧ p.co ≤ 9) :
    Calls Try.prog 158 #[v, .int .i64 s] w fun e w' => e = .returned (.int .i64 (stCo ps s)) ∧ Below w.heap.size w w' := by
  obtain ⟨A, c, rfl, hc1, hc2, hsm, hcell⟩ := hp.form
  unfold maxLen at hc2
  obtain ⟨k, hk⟩ : ∃ k, s / 2 = k := ⟨_, rfl⟩
  have hkl : k < ps.length := by omega
  obtain ⟨g, rfl, hg1, hg2, c0, c1, c2, c3, c4⟩ := hcell w (Below.refl _ _) k hkl
  have hq : (s : Int) / 2 = (k : Int) := by omega
  obtain ⟨x0, x1⟩ := hc _ (List.getElem_mem hkl)
  have hget : ps.getD (s / 2) zeroPp = ps[k] := by subst hk; simp [List.getD, List.getElem?_eq_getElem hkl]
  rcases (show s % 2 = 1 ∨ s % 2 = 0 by omega) with hm | hm
  · have He := Lib.hid (show stCo ps s = -ps[k].co by rw [stCo, hget, if_pos hm])
    have hd := Lib.hid (show decide (s % 2 = 1) = true by simp [hm])
    clear hk hm hget hc
    go_enter Try.func158, Try.ntmps158
    go_wp2_with (first | (go_at_call 139; ((with_reducible refine (stepBack_any s _ true hd.out (by omega)).mono ?_); rintro e w1 ⟨rfl, rfl⟩)))
    go_ret
    exact ⟨ret_int He.out.symm, by (repeat (first | (with_reducible assumption) | (with_reducible exact Below.refl _ _) | ((with_reducible refine Below.alloc ?_ ?hsz _); (case hsz => (first | omega | (simp; done) | (simp; omega) | (simp at *; omega)))) | ((with_reducible refine Below.setCell ?_ ?hsz _); (case hsz => (first | omega | (simp; done) | (simp; omega) | (simp at *; omega)))) | (with_reducible refine Below.drew ?_) | (with_reducible refine below_drewN ?_ _) | ((with_reducible refine Below.trans ?_ (Below.mono (by with_reducible assumption) ?hsz)); (case hsz => (first | omega | (simp; done) | (simp; omega) | (simp at *; omega))))))⟩
  · have He := Lib.hid (show stCo ps s = ps[k].co by rw [stCo, hget, if_neg (by omega)])
    have hd := Lib.hid (show decide (s % 2 = 1) = false by simp [hm])
    clear hk hm hget hc
    go_enter Try.func158, Try.ntmps158
    go_wp2_with (first | (go_at_call 139; ((with_reducible refine (stepBack_any s _ false hd.out (by omega)).mono ?_); rintro e w1 ⟨rfl, rfl⟩)))
    go_ret
    exact ⟨ret_int He.out.symm, by (repeat (first | (with_reducible assumption) | (with_reducible exact Below.refl _ _) | ((with_reducible refine Below.alloc ?_ ?hsz _); (case hsz => (first | omega | (simp; done) | (simp; omega) | (simp at *; omega)))) | ((with_reducible refine Below.setCell ?_ ?hsz _); (case hsz => (first | omega | (simp; done) | (simp; omega) | (simp at *; omega)))) | (with_reducible refine Below.drew ?_) | (with_reducible refine below_drewN ?_ _) | ((with_reducible refine Below.trans ?_ (Below.mono (by with_reducible assumption) ?hsz)); (case hsz => (first | omega | (simp; done) | (simp; omega) | (simp at *; omega))))))⟩

set_option maxHeartbeats 1000000 in
set_option maxRecDepth 20000 in
theorem leadsOn_any (s t : Nat) (v : Value) (ps : List Pp) (b : Nat) (w : World) (hp : Pipes w b v ps) (hs : s < 2 * ps.length) (ht : t < 2 * ps.length) (hl : ps.length ≤ 7) :
    Calls Try.prog 151 #[v, .int .i64 s, .int .i64 t] w fun e w' => e = .returned (.bool (stTo ps s == stFr ps t)) ∧ Below w.heap.size w w' := by
  go_enter Try.func151, Try.ntmps151
  go_wp2_with fail
  with_reducible refine (stepEnds_any s v ps b _ hp hs hl).mono ?_
  rintro e w1 ⟨rfl, hb1⟩
  go_wp2_with fail
  with_reducible refine (stepEnds_any t v ps b _ (hp.keep hb1) ht hl).mono ?_
  rintro e w2 ⟨rfl, hb2⟩
  have hB := hb1.trans (hb2.mono hb1.size)
  go_wp2
  go_ret
  exact ⟨rfl, hB⟩

theorem coL_take (ps : List Pp) (l : List Nat) (k : Nat) (hk : k < l.length) : coL ps (l.take (k + 1)) = coL ps (l.take k) + stCo ps l[k] := by
  rw [List.take_succ_eq_append_getElem hk, coL_snoc]

set_option maxHeartbeats 1000000 in
set_option maxRecDepth 20000 in
theorem costStep_any (s bp : Nat) (sum : Int) (v : Value) (ps : List Pp) (b : Nat) (w : World) (hp : Pipes w b v ps) (hs : s < 2 * ps.length) (hl : ps.length ≤ 7) (hc : ∀ p ∈ ps, -9 ≤ p.co ∧ p.co ≤ 9)
    (h0 : -1000 ≤ sum) (h1 : sum ≤ 1000) (d0 : w.cell? ⟨bp, 0, none⟩ = some v) :
    Calls Try.prog 157 #[.int .i64 sum, .int .i64 s, .pointer (some ⟨bp, 0, none⟩)] w fun e w' => e = .returned (.int .i64 (sum + stCo ps s)) ∧ Below w.heap.size w w' := by
  have hp0 := hp
  obtain ⟨A, c, rfl, -, -, -, -⟩ := hp.form
  obtain ⟨c0, c1⟩ := stCo_bd hc hs
  have HC := Lib.hid hc
  clear hc
  go_enter Try.func157, Try.ntmps157
  go_wp2_with fail
  with_reducible refine (stepCost_any s _ ps b _ hp0 hs hl HC.out).mono ?_
  rintro e w1 ⟨rfl, hb1⟩
  go_wp2
  go_ret
  exact ⟨rfl, hb1⟩

set_option maxHeartbeats 1000000 in
set_option maxRecDepth 20000 in
theorem foldCost_any (bp : Nat) (u0 v : Value) (l : List Nat) (ps : List Pp) (b b0 : Nat) (w : World) (h0 : Ints w b0 u0 (ofS l)) (hp : Pipes w b v ps) (hs : ∀ s ∈ l, s < 2 * ps.length) (hl : ps.length ≤ 7) (hc : ∀ p ∈ ps, -9 ≤ p.co ∧ p.co ≤ 9) (hl9 : l.length ≤ 9)
    (hbp : bp < w.heap.size) (d0 : w.cell? ⟨bp, 0, none⟩ = some v) :
    Calls Try.prog 140 #[u0, .int .i64 0, .func (Fn.func 157) #[] #[.pointer (some ⟨bp, 0, none⟩)]] w fun e w' => e = .returned (.int .i64 (coL ps l)) ∧ Below w.heap.size w w' := by
  obtain ⟨A, c, rfl, hc1, hc2, hsm, hcell⟩ := h0.form
  unfold maxLen at hc2
  have hlS : (ofS l).length = l.length := by simp
  rw [hlS] at hc1 hsm ⊢
  have hlS := Lib.hid hlS
  have HH := Lib.hid hc
  have HS := Lib.hid hs
  clear hc hs
  go_enter Try.func140, Try.ntmps140
  go_wp2
  go_loopw [11, 1] (fun i t wr => ∃ k : Nat, k ≤ l.length ∧ i = .int .i64 k ∧ t = .int .i64 (coL ps (l.take k)) ∧ Below w.heap.size w wr) (fun i _ _ => l.length - (intOf i).toNat)
  case atStart => exact ⟨0, by omega, rfl, rfl, Below.refl _ _⟩
  case round =>
    obtain ⟨k, hk, rfl, rfl, hb⟩ := hrel
    by_cases hlt : k < l.length
    · obtain ⟨g, rfl, hg1, hg2, c0, -⟩ := hcell wr hb k (by rw [hlS.out]; exact hlt)
      have c0' : wr.cell? ⟨g, k, none⟩ = some (.int .i64 (l[k] : Nat)) := by rw [c0]; simp
      have Hn := Lib.hid (coL_take ps l k hlt)
      have hbd := coL_bd HH.out (l := l.take k) (fun s hs => HS.out s (List.mem_of_mem_take hs))
      have hlk : (l.take k).length ≤ 9 := by rw [List.length_take]; omega
      have g1 : -1000 ≤ coL ps (l.take k) := by omega
      have g2 : coL ps (l.take k) ≤ 1000 := by omega
      clear hbd hlk
      generalize coL ps (l.take k) = ro at *
      clear c0
      go_wp2_with fail
      with_reducible refine (costStep_any l[k] bp ro _ ps b _ (hp.keep hb) (HS.out _ (List.getElem_mem hlt)) hl HH.out g1 g2 (by (repeat (first | (with_reducible assumption) | ((with_reducible refine (Below.cell (by with_reducible assumption) ?hsz).trans ?_); (case hsz => (first | omega | (simp; done) | (simp; omega) | (simp at *; omega)))) | ((with_reducible refine (World.cell?_alloc_lt _ _ _ ?hsz).trans ?_); (case hsz => (first | omega | (simp; done) | (simp; omega) | (simp at *; omega)))) | ((with_reducible refine (World.cell?_setCell_other _ _ _ _ ?hsz).trans ?_); (case hsz => (intro h; injection h with h1 h2; omega))))))).mono ?_
      rintro e w2 ⟨rfl, hb2⟩
      have hsz := hb.size
      go_wp2
      go_roundw
      case rel => exact ⟨k + 1, by omega, by go_num, by rw [Hn.out], by (repeat (first | (with_reducible assumption) | (with_reducible exact Below.refl _ _) | ((with_reducible refine Below.alloc ?_ ?hsz _); (case hsz => (first | omega | (simp; done) | (simp; omega) | (simp at *; omega)))) | ((with_reducible refine Below.setCell ?_ ?hsz _); (case hsz => (first | omega | (simp; done) | (simp; omega) | (simp at *; omega)))) | (with_reducible refine Below.drew ?_) | (with_reducible refine below_drewN ?_ _) | ((with_reducible refine Below.trans ?_ (Below.mono (by with_reducible assumption) ?hsz)); (case hsz => (first | omega | (simp; done) | (simp; omega) | (simp at *; omega))))))⟩
      case measure => simp [intOf]; omega
    · have hk2 : k = l.length := by omega
      subst hk2
      rw [List.take_length]
      go_wp2
      go_ret
      exact ⟨rfl, hb⟩

set_option maxHeartbeats 1000000 in
set_option maxRecDepth 20000 in
theorem stepsCost_any (u0 v : Value) (l : List Nat) (ps : List Pp) (b b0 : Nat) (w : World) (h0 : Ints w b0 u0 (ofS l)) (hp : Pipes w b v ps) (hs : ∀ s ∈ l, s < 2 * ps.length) (hl : ps.length ≤ 7) (hc : ∀ p ∈ ps, -9 ≤ p.co ∧ p.co ≤ 9) (hl9 : l.length ≤ 9) :
    Calls Try.prog 152 #[v, u0] w fun e w' => e = .returned (.int .i64 (coL ps l)) ∧ Below w.heap.size w w' := by
  have hp0 := hp
  have h00 := h0
  obtain ⟨A, c, rfl, -, -, -, -⟩ := hp.form
  obtain ⟨A0, c0, rfl, -, -, -, -⟩ := h0.form
  obtain ⟨m0, hm0⟩ : ∃ m, (ofS l).length = m := ⟨_, rfl⟩
  rw [hm0] at h00 ⊢
  clear h0 hm0
  have HH := Lib.hid hc
  have HS := Lib.hid hs
  clear hc hs
  go_enter Try.func152, Try.ntmps152
  go_wp2_with fail
  refine (foldCost_any _ _ _ l ps b b0 _ (h00.keep (by (repeat (first | (with_reducible assumption) | (with_reducible exact Below.refl _ _) | ((with_reducible refine Below.alloc ?_ ?hsz _); (case hsz => (first | omega | (simp; done) | (simp; omega) | (simp at *; omega)))) | ((with_reducible refine Below.setCell ?_ ?hsz _); (case hsz => (first | omega | (simp; done) | (simp; omega) | (simp at *; omega)))) | (with_reducible refine Below.drew ?_) | (with_reducible refine below_drewN ?_ _) | ((with_reducible refine Below.trans ?_ (Below.mono (by with_reducible assumption) ?hsz)); (case hsz => (first | omega | (simp; done) | (simp; omega) | (simp at *; omega)))))))) (hp0.keep (by (repeat (first | (with_reducible assumption) | (with_reducible exact Below.refl _ _) | ((with_reducible refine Below.alloc ?_ ?hsz _); (case hsz => (first | omega | (simp; done) | (simp; omega) | (simp at *; omega)))) | ((with_reducible refine Below.setCell ?_ ?hsz _); (case hsz => (first | omega | (simp; done) | (simp; omega) | (simp at *; omega)))) | (with_reducible refine Below.drew ?_) | (with_reducible refine below_drewN ?_ _) | ((with_reducible refine Below.trans ?_ (Below.mono (by with_reducible assumption) ?hsz)); (case hsz => (first | omega | (simp; done) | (simp; omega) | (simp at *; omega)))))))) HS.out hl HH.out hl9 (by (first | omega | (simp; done) | (simp; omega) | (simp at *; omega))) (by go_simp)).mono ?_
  rintro e w1 ⟨rfl, hb1⟩
  go_wp2
  go_ret
  exact ⟨rfl, by (repeat (first | (with_reducible assumption) | (with_reducible exact Below.refl _ _) | ((with_reducible refine Below.alloc ?_ ?hsz _); (case hsz => (first | omega | (simp; done) | (simp; omega) | (simp at *; omega)))) | ((with_reducible refine Below.setCell ?_ ?hsz _); (case hsz => (first | omega | (simp; done) | (simp; omega) | (simp at *; omega)))) | (with_reducible refine Below.drew ?_) | (with_reducible refine below_drewN ?_ _) | ((with_reducible refine Below.trans ?_ (Below.mono (by with_reducible assumption) ?hsz)); (case hsz => (first | omega | (simp; done) | (simp; omega) | (simp at *; omega))))))⟩

set_option maxHeartbeats 1000000 in
set_option maxRecDepth 20000 in
theorem usedFn_any (s bp bv : Nat) (x : Int) (v : Value) (ps : List Pp) (b : Nat) (w : World) (hp : Pipes w b v ps) (hs : s < 2 * ps.length) (hl : ps.length ≤ 7)
    (d0 : w.cell? ⟨bp, 0, none⟩ = some v) (d1 : w.cell? ⟨bv, 0, none⟩ = some (.int .i64 x)) (hbv : bv < w.heap.size) :
    Calls Try.prog 159 #[.int .i64 s, .pointer (some ⟨bp, 0, none⟩), .pointer (some ⟨bv, 0, none⟩)] w fun e w' => e = .returned (.bool (stFr ps s == x)) ∧ Below w.heap.size w w' := by
  have hp0 := hp
  obtain ⟨A, c, rfl, -, -, -, -⟩ := hp.form
  go_enter Try.func159, Try.ntmps159
  go_wp2_with fail
  with_reducible refine (stepEnds_any s _ ps b _ hp0 hs hl).mono ?_
  rintro e w1 ⟨rfl, hb1⟩
  have e1 := (bel_cell hb1 (o := 0) hbv).trans d1
  go_wp2
  go_ret
  exact ⟨rfl, hb1⟩

set_option maxHeartbeats 1000000 in
set_option maxRecDepth 20000 in
theorem indexUsed_any (bp bv : Nat) (x : Int) (u v : Value) (l : List Nat) (ps : List Pp) (b b0 : Nat) (w : World) (h0 : Ints w b0 u (ofS l)) (hp : Pipes w b v ps) (hs : ∀ s ∈ l, s < 2 * ps.length) (hl : ps.length ≤ 7)
    (d0 : w.cell? ⟨bp, 0, none⟩ = some v) (d1 : w.cell? ⟨bv, 0, none⟩ = some (.int .i64 x)) (hbp : bp < w.heap.size) (hbv : bv < w.heap.size) :
    Calls Try.prog 128 #[u, .func (Fn.func 159) #[] #[.pointer (some ⟨bp, 0, none⟩), .pointer (some ⟨bv, 0, none⟩)]] w fun e w' => ∃ r : Int, e = .returned (.int .i64 r) ∧ decide (0 ≤ r) = usedB ps l x ∧ Below w.heap.size w w' := by
  obtain ⟨A, ca, rfl, hc1, hc2, hsm, hcell⟩ := h0.form
  unfold maxLen at hc2
  have hlS : (ofS l).length = l.length := by simp
  rw [hlS] at hc1 hsm ⊢
  have hlS := Lib.hid hlS
  have HM := Lib.hid hs
  clear hs
  go_enter Try.func128, Try.ntmps128
  go_wp2
  go_loopw [8] (fun i wr => ∃ j : Nat, j ≤ l.length ∧ i = .int .i64 j ∧ (∀ e ∈ l.take j, (fun e : Nat => !decide (stFr ps e = x)) e = true) ∧ Below w.heap.size w wr) (fun i _ => l.length - (intOf i).toNat)
  case atStart => exact ⟨0, by omega, rfl, by simp, Below.refl _ _⟩
  case round =>
    obtain ⟨j, hj, rfl, hall, hb⟩ := hrel
    have Hall := Lib.hid hall
    clear hall
    have hzb := hb.size
    by_cases hlt : j < l.length
    · obtain ⟨g, rfl, hg1, hg2, c0, -⟩ := hcell wr hb j (by rw [hlS.out]; exact hlt)
      have c0' : wr.cell? ⟨g, j, none⟩ = some (.int .i64 (l[j] : Nat)) := by rw [c0]; simp
      clear c0
      by_cases hx : stFr ps l[j] = x
      · have Hu : Hid (usedB ps l x = true) := Lib.hid (by
          rw [usedB, List.any_eq_true]
          exact ⟨l[j], List.getElem_mem hlt, by simpa using hx⟩)
        have hxb : (stFr ps l[j] == x) = true := by simpa using hx
        go_wp2_with fail
        with_reducible refine (usedFn_any l[j] bp bv x _ ps b _ (hp.keep hb) (HM.out _ (List.getElem_mem hlt)) hl (by (repeat (first | (with_reducible assumption) | ((with_reducible refine (Below.cell (by with_reducible assumption) ?hsz).trans ?_); (case hsz => (first | omega | (simp; done) | (simp; omega) | (simp at *; omega)))) | ((with_reducible refine (World.cell?_alloc_lt _ _ _ ?hsz).trans ?_); (case hsz => (first | omega | (simp; done) | (simp; omega) | (simp at *; omega)))) | ((with_reducible refine (World.cell?_setCell_other _ _ _ _ ?hsz).trans ?_); (case hsz => (intro h; injection h with h1 h2; omega)))))) (by (repeat (first | (with_reducible assumption) | ((with_reducible refine (Below.cell (by with_reducible assumption) ?hsz).trans ?_); (case hsz => (first | omega | (simp; done) | (simp; omega) | (simp at *; omega)))) | ((with_reducible refine (World.cell?_alloc_lt _ _ _ ?hsz).trans ?_); (case hsz => (first | omega | (simp; done) | (simp; omega) | (simp at *; omega)))) | ((with_reducible refine (World.cell?_setCell_other _ _ _ _ ?hsz).trans ?_); (case hsz => (intro h; injection h with h1 h2; omega)))))) (by omega)).mono ?_
        rintro e w1 ⟨rfl, hb1⟩
        rw [hxb]
        clear hx hxb
        go_wp2
        go_ret
        exact ⟨_, rfl, by rw [Hu.out]; simp, by (repeat (first | (with_reducible assumption) | (with_reducible exact Below.refl _ _) | ((with_reducible refine Below.alloc ?_ ?hsz _); (case hsz => (first | omega | (simp; done) | (simp; omega) | (simp at *; omega)))) | ((with_reducible refine Below.setCell ?_ ?hsz _); (case hsz => (first | omega | (simp; done) | (simp; omega) | (simp at *; omega)))) | (with_reducible refine Below.drew ?_) | (with_reducible refine below_drewN ?_ _) | ((with_reducible refine Below.trans ?_ (Below.mono (by with_reducible assumption) ?hsz)); (case hsz => (first | omega | (simp; done) | (simp; omega) | (simp at *; omega))))))⟩
      · have hxb : (stFr ps l[j] == x) = false := by simpa using hx
        have Hn := Lib.hid (all_take (f := fun e : Nat => !decide (stFr ps e = x)) hlt Hall.out (by simp [hx]))
        go_wp2_with fail
        with_reducible refine (usedFn_any l[j] bp bv x _ ps b _ (hp.keep hb) (HM.out _ (List.getElem_mem hlt)) hl (by (repeat (first | (with_reducible assumption) | ((with_reducible refine (Below.cell (by with_reducible assumption) ?hsz).trans ?_); (case hsz => (first | omega | (simp; done) | (simp; omega) | (simp at *; omega)))) | ((with_reducible refine (World.cell?_alloc_lt _ _ _ ?hsz).trans ?_); (case hsz => (first | omega | (simp; done) | (simp; omega) | (simp at *; omega)))) | ((with_reducible refine (World.cell?_setCell_other _ _ _ _ ?hsz).trans ?_); (case hsz => (intro h; injection h with h1 h2; omega)))))) (by (repeat (first | (with_reducible assumption) | ((with_reducible refine (Below.cell (by with_reducible assumption) ?hsz).trans ?_); (case hsz => (first | omega | (simp; done) | (simp; omega) | (simp at *; omega)))) | ((with_reducible refine (World.cell?_alloc_lt _ _ _ ?hsz).trans ?_); (case hsz => (first | omega | (simp; done) | (simp; omega) | (simp at *; omega)))) | ((with_reducible refine (World.cell?_setCell_other _ _ _ _ ?hsz).trans ?_); (case hsz => (intro h; injection h with h1 h2; omega)))))) (by omega)).mono ?_
        rintro e w1 ⟨rfl, hb1⟩
        rw [hxb]
        clear hx hxb
        go_wp2
        go_roundw
        case rel => exact ⟨j + 1, by omega, by go_num, Hn.out, by (repeat (first | (with_reducible assumption) | (with_reducible exact Below.refl _ _) | ((with_reducible refine Below.alloc ?_ ?hsz _); (case hsz => (first | omega | (simp; done) | (simp; omega) | (simp at *; omega)))) | ((with_reducible refine Below.setCell ?_ ?hsz _); (case hsz => (first | omega | (simp; done) | (simp; omega) | (simp at *; omega)))) | (with_reducible refine Below.drew ?_) | (with_reducible refine below_drewN ?_ _) | ((with_reducible refine Below.trans ?_ (Below.mono (by with_reducible assumption) ?hsz)); (case hsz => (first | omega | (simp; done) | (simp; omega) | (simp at *; omega))))))⟩
        case measure => simp [intOf]; omega
    · have Hu : Hid (usedB ps l x = false) := Lib.hid (by
        have hall := Hall.out
        rw [List.take_of_length_le (by omega)] at hall
        rw [used_no]
        intro e he
        simpa using hall e he)
      go_wp2
      go_ret
      exact ⟨_, rfl, by rw [Hu.out]; rfl, by (repeat (first | (with_reducible assumption) | (with_reducible exact Below.refl _ _) | ((with_reducible refine Below.alloc ?_ ?hsz _); (case hsz => (first | omega | (simp; done) | (simp; omega) | (simp at *; omega)))) | ((with_reducible refine Below.setCell ?_ ?hsz _); (case hsz => (first | omega | (simp; done) | (simp; omega) | (simp at *; omega)))) | (with_reducible refine Below.drew ?_) | (with_reducible refine below_drewN ?_ _) | ((with_reducible refine Below.trans ?_ (Below.mono (by with_reducible assumption) ?hsz)); (case hsz => (first | omega | (simp; done) | (simp; omega) | (simp at *; omega))))))⟩

set_option maxHeartbeats 1000000 in
set_option maxRecDepth 20000 in
theorem containsUsed_any (bp bv : Nat) (x : Int) (u v : Value) (l : List Nat) (ps : List Pp) (b b0 : Nat) (w : World) (h0 : Ints w b0 u (ofS l)) (hp : Pipes w b v ps) (hs : ∀ s ∈ l, s < 2 * ps.length) (hl : ps.length ≤ 7)
    (d0 : w.cell? ⟨bp, 0, none⟩ = some v) (d1 : w.cell? ⟨bv, 0, none⟩ = some (.int .i64 x)) (hbp : bp < w.heap.size) (hbv : bv < w.heap.size) :
    Calls Try.prog 113 #[u, .func (Fn.func 159) #[] #[.pointer (some ⟨bp, 0, none⟩), .pointer (some ⟨bv, 0, none⟩)]] w fun e w' => e = .returned (.bool (usedB ps l x)) ∧ Below w.heap.size w w' := by
  have h00 := h0
  obtain ⟨A, ca, rfl, -, -, -, -⟩ := h0.form
  obtain ⟨m0, hm0⟩ : ∃ m, (ofS l).length = m := ⟨_, rfl⟩
  rw [hm0] at h00 ⊢
  clear h0 hm0
  go_enter Try.func113, Try.ntmps113
  go_wp2_with fail
  refine (indexUsed_any bp bv x _ v l ps b b0 _ h00 hp hs hl d0 d1 hbp hbv).mono ?_
  rintro e w1 ⟨r, rfl, hr, hb1⟩
  go_wp2
  go_ret
  exact ⟨by first | rfl | exact ret_bool hr, by (repeat (first | (with_reducible assumption) | (with_reducible exact Below.refl _ _) | ((with_reducible refine Below.alloc ?_ ?hsz _); (case hsz => (first | omega | (simp; done) | (simp; omega) | (simp at *; omega)))) | ((with_reducible refine Below.setCell ?_ ?hsz _); (case hsz => (first | omega | (simp; done) | (simp; omega) | (simp at *; omega)))) | (with_reducible refine Below.drew ?_) | (with_reducible refine below_drewN ?_ _) | ((with_reducible refine Below.trans ?_ (Below.mono (by with_reducible assumption) ?hsz)); (case hsz => (first | omega | (simp; done) | (simp; omega) | (simp at *; omega))))))⟩

theorem goes_nil (ps : List Pp) (s : Nat) : goesB ps [] s = true := rfl
theorem goes_last {ps : List Pp} {l : List Nat} {s m : Nat} (hm : m < l.length) (hl : l.length = m + 1) : goesB ps l s = (decide (stTo ps l[m] = stFr ps s) && !usedB ps l (stFr ps s)) := by
  have : l.getLast? = some l[m] := by rw [List.getLast?_eq_getElem?, List.getElem?_eq_getElem (by omega)]; congr 1; congr 1; omega
  simp [goesB, this]

set_option maxHeartbeats 2000000 in
set_option maxRecDepth 20000 in
theorem goesOn_any (s : Nat) (u v : Value) (l : List Nat) (ps : List Pp) (b b0 : Nat) (w : World) (h0 : Ints w b0 u (ofS l)) (hp : Pipes w b v ps) (hs : ∀ t ∈ l, t < 2 * ps.length) (hs1 : s < 2 * ps.length) (hl : ps.length ≤ 7) :
    Calls Try.prog 153 #[v, u, .int .i64 s] w fun e w' => e = .returned (.bool (goesB ps l s)) ∧ Below w.heap.size w w' := by
  have hp0 := hp
  have h00 := h0
  obtain ⟨A, c, rfl, -, -, -, -⟩ := hp.form
  obtain ⟨A0, c0, rfl, hc1, hc2, hsm, hcell⟩ := h0.form
  unfold maxLen at hc2
  have hlS : (ofS l).length = l.length := by simp
  rcases Nat.eq_zero_or_pos l.length with hz | hpos
  · have hl0 : l = [] := List.length_eq_zero_iff.1 hz
    subst hl0
    have Hg := Lib.hid (goes_nil ps s)
    rw [show (ofS []).length = 0 from rfl] at hc1 hsm h00 ⊢
    clear hcell hz hlS hs
    go_enter Try.func153, Try.ntmps153
    go_wp2
    go_ret
    exact ⟨ret_bool Hg.out.symm, by (repeat (first | (with_reducible assumption) | (with_reducible exact Below.refl _ _) | ((with_reducible refine Below.alloc ?_ ?hsz _); (case hsz => (first | omega | (simp; done) | (simp; omega) | (simp at *; omega)))) | ((with_reducible refine Below.setCell ?_ ?hsz _); (case hsz => (first | omega | (simp; done) | (simp; omega) | (simp at *; omega)))) | (with_reducible refine Below.drew ?_) | (with_reducible refine below_drewN ?_ _) | ((with_reducible refine Below.trans ?_ (Below.mono (by with_reducible assumption) ?hsz)); (case hsz => (first | omega | (simp; done) | (simp; omega) | (simp at *; omega))))))⟩
  · obtain ⟨m, hm⟩ : ∃ m, l.length = m + 1 := ⟨l.length - 1, by omega⟩
    have hml : m < l.length := by omega
    have Hg := Lib.hid (goes_last (ps := ps) (s := s) hml hm)
    obtain ⟨g, rfl, hg1, hg2, cw, -⟩ := hcell w (Below.refl _ _) m (by rw [hlS]; exact hml)
    have cw' : w.cell? ⟨g, m, none⟩ = some (.int .i64 (l[m] : Nat)) := by rw [cw]; simp
    have ht := hs l[m] (List.getElem_mem hml)
    have HS := Lib.hid hs
    rw [hlS, hm] at hc1 hsm h00 ⊢
    have hne : (((m + 1 : Nat) : Int) == 0) = false := by rw [beq_eq_false_iff_ne]; omega
    have hwr : IntKind.i64.wrap (((m + 1 : Nat) : Int) - 1) = (m : Int) := by rw [IntWalk.i64_in _ (by omega)]; omega
    have hwr2 : wrap64 (((m + 1 : Nat) : Int) - 1) = (m : Int) := by rw [IntWalk.wrap64_in _ (by omega)]; omega
    clear hs cw hcell hlS hpos hm
    generalize l[m] = t at *
    go_enter Try.func153, Try.ntmps153
    go_wp2_with fail
    with_reducible refine (stepEnds_any s _ ps b _ (hp0.keep (by (repeat (first | (with_reducible assumption) | (with_reducible exact Below.refl _ _) | ((with_reducible refine Below.alloc ?_ ?hsz _); (case hsz => (first | omega | (simp; done) | (simp; omega) | (simp at *; omega)))) | ((with_reducible refine Below.setCell ?_ ?hsz _); (case hsz => (first | omega | (simp; done) | (simp; omega) | (simp at *; omega)))) | (with_reducible refine Below.drew ?_) | (with_reducible refine below_drewN ?_ _) | ((with_reducible refine Below.trans ?_ (Below.mono (by with_reducible assumption) ?hsz)); (case hsz => (first | omega | (simp; done) | (simp; omega) | (simp at *; omega)))))))) hs1 hl).mono ?_
    rintro e w1 ⟨rfl, hb1⟩
    have hB1 : Below w.heap.size w w1 := by (repeat (first | (with_reducible assumption) | (with_reducible exact Below.refl _ _) | ((with_reducible refine Below.alloc ?_ ?hsz _); (case hsz => (first | omega | (simp; done) | (simp; omega) | (simp at *; omega)))) | ((with_reducible refine Below.setCell ?_ ?hsz _); (case hsz => (first | omega | (simp; done) | (simp; omega) | (simp at *; omega)))) | (with_reducible refine Below.drew ?_) | (with_reducible refine below_drewN ?_ _) | ((with_reducible refine Below.trans ?_ (Below.mono (by with_reducible assumption) ?hsz)); (case hsz => (first | omega | (simp; done) | (simp; omega) | (simp at *; omega))))))
    have hz1 : w.heap.size < w1.heap.size := by
      have := hb1.size
      simp at this
      omega
    have k0 : w1.cell? ⟨w.heap.size, 0, none⟩ = some (.slice A ps.length c) := (hb1.cell (p := ⟨w.heap.size, 0, none⟩) (by simp)).trans (by simp)
    have hv := Lib.hid hwr
    go_wp2_with fail
    generalize hW : World.alloc w1 _ = wr
    have hBr : Below w1.heap.size w1 wr := by rw [← hW]; (repeat (first | (with_reducible assumption) | (with_reducible exact Below.refl _ _) | ((with_reducible refine Below.alloc ?_ ?hsz _); (case hsz => (first | omega | (simp; done) | (simp; omega) | (simp at *; omega)))) | ((with_reducible refine Below.setCell ?_ ?hsz _); (case hsz => (first | omega | (simp; done) | (simp; omega) | (simp at *; omega)))) | (with_reducible refine Below.drew ?_) | (with_reducible refine below_drewN ?_ _) | ((with_reducible refine Below.trans ?_ (Below.mono (by with_reducible assumption) ?hsz)); (case hsz => (first | omega | (simp; done) | (simp; omega) | (simp at *; omega))))))
    have hzr : wr.heap.size = w1.heap.size + 1 := by rw [← hW]; simp
    have r0 := (hBr.cell (p := ⟨w.heap.size, 0, none⟩) (by show w.heap.size < w1.heap.size; omega)).trans k0
    have r1 : wr.cell? ⟨w1.heap.size, 0, none⟩ = some (.int .i64 (stFr ps s)) := by rw [← hW]; simp
    have hBw : Below w.heap.size w wr := hB1.trans (hBr.mono (by omega))
    have r2 := (hBw.cell (p := ⟨g, m, none⟩) hg2).trans cw'
    have hgr : g < wr.heap.size := by omega
    have hpr := hp0.keep hBw
    have h0r := h00.keep hBw
    have hz0 : w.heap.size < wr.heap.size := by omega
    clear hW k0 hB1 cw' hz1 hb1 hBr hp0
    have hd0 := fun p : Bw wr => (bw_cell p hz0).trans r0
    have hd1 := fun p : Bw wr => (bw_cell p (show w1.heap.size < wr.heap.size by omega)).trans r1
    have hd2 := fun p : Bw wr => (bw_cell p hgr).trans r2
    have Hcon : Hid (∀ p : Bw wr, Calls Try.prog 113 #[.slice (some ⟨g, 0, none⟩) (m + 1) c0, .func (Fn.func 159) #[] #[.pointer (some ⟨w.heap.size, 0, none⟩), .pointer (some ⟨w1.heap.size, 0, none⟩)]] p.v fun e w' => e = .returned (.bool (usedB ps l (stFr ps s))) ∧ Below p.v.heap.size p.v w') :=
      Lib.hid fun p => containsUsed_any _ _ _ _ _ l ps b b0 _ (h0r.keep p.h) (hpr.keep p.h) HS.out hl (hd0 p) (hd1 p) (by have := p.h.size; omega) (by have := p.h.size; omega)
    by_cases hlead : stTo ps t = stFr ps s
    · have Hl : Hid (∀ p : Bw wr, Calls Try.prog 151 #[.slice A ps.length c, .int .i64 t, .int .i64 s] p.v fun e w' => e = .returned (.bool true) ∧ Below p.v.heap.size p.v w') :=
        Lib.hid fun p => (leadsOn_any t s _ ps b _ (hpr.keep p.h) ht hs1 hl).mono fun e w' h => ⟨by rw [h.1]; simp [hlead], h.2⟩
      have Hg2 : Hid (goesB ps l s = !usedB ps l (stFr ps s)) := Lib.hid (by rw [Hg.out]; simp [hlead])
      clear hlead Hg
      refine wp_region_bw (by kernel_rfl) (by kernel_rfl) ?_
      repeat (go_big_quiet_step (first | (go_at_call 151; refine calls_bw (Hl.out _)) | (go_at_call 113; refine calls_bw (Hcon.out _))))
      refine wpQuiet_nil ?_
      rintro _ ⟨pw, rfl⟩
      have hB2 := hBw.trans (pw.h.mono hBw.size)
      go_wp2
      go_ret
      exact ⟨ret_bool Hg2.out.symm, hB2⟩
    · have Hl : Hid (∀ p : Bw wr, Calls Try.prog 151 #[.slice A ps.length c, .int .i64 t, .int .i64 s] p.v fun e w' => e = .returned (.bool false) ∧ Below p.v.heap.size p.v w') :=
        Lib.hid fun p => (leadsOn_any t s _ ps b _ (hpr.keep p.h) ht hs1 hl).mono fun e w' h => ⟨by rw [h.1]; simp [hlead], h.2⟩
      have Hg2 : Hid (goesB ps l s = false) := Lib.hid (by rw [Hg.out]; simp [hlead])
      clear hlead Hg
      refine wp_region_bw (by kernel_rfl) (by kernel_rfl) ?_
      repeat (go_big_quiet_step (first | (go_at_call 151; refine calls_bw (Hl.out _)) | (go_at_call 113; refine calls_bw (Hcon.out _))))
      refine wpQuiet_nil ?_
      rintro _ ⟨pw, rfl⟩
      have hB2 := hBw.trans (pw.h.mono hBw.size)
      go_wp2
      go_ret
      exact ⟨ret_bool Hg2.out.symm, hB2⟩

end Go.Proofs.Ytphbmlephldaaaa

/- Contracts of the functions of chapter 6 in the program: GainOf. -/
namespace Go.Proofs.Ytphbmlephldaaaa
open Go.RowKit

def stepF (ps : List Pp) (S : List Nat) (m : Nat) (l : List Nat) (s : Nat) : Option (List Nat) := if goesB ps l s = true then srch ps S m (l ++ [s]) else none
theorem srch_succ (ps : List Pp) (S : List Nat) (m : Nat) (l : List Nat) : srch ps S (m + 1) l = S.findSome? (stepF ps S m l) := rfl

set_option maxHeartbeats 4000000 in
set_option maxRecDepth 20000 in
theorem gainBase_any (v u : Value) (ps : List Pp) (S : List Nat) (b : Nat) (bound : Nat) (hl7 : ps.length ≤ 7) (hc : ∀ p ∈ ps, -9 ≤ p.co ∧ p.co ≤ 9) (hb2 : 2 ≤ bound) (hb5 : bound ≤ 5)
    (l : List Nat) (u1 : Value) (b1 : Nat) (w : World) (hlb : l.length = bound) (hs : ∀ s ∈ l, s < 2 * ps.length) (hp : Pipes w b v ps) (h1 : Ints w b1 u1 (ofS l)) :
    Calls Try.prog 147 #[v, u, u1, .int .i64 bound] w fun e w' => ∃ r, e = .returned (.tuple #[r, .bool (srch ps S 0 l).isSome]) ∧ (∀ q, srch ps S 0 l = some q → Ints w' b1 r (ofS q)) ∧ Below w.heap.size w w' := by
  have hp0 := hp
  have h10 := h1
  obtain ⟨A, c, rfl, -, -, -, -⟩ := hp.form
  obtain ⟨A1, c1, rfl, hc1, hc2, hsm, hcell⟩ := h1.form
  unfold maxLen at hc2
  have hlS : (ofS l).length = l.length := by simp
  obtain ⟨M, hM⟩ : ∃ M, bound = M + 1 := ⟨bound - 1, by omega⟩
  have hMl : M < l.length := by omega
  have h0l : 0 < l.length := by omega
  have Hg := Lib.hid (gain_last (ps := ps) hMl h0l (by omega))
  obtain ⟨g, rfl, hg1, hg2, cw, -⟩ := hcell w (Below.refl _ _) M (by rw [hlS]; exact hMl)
  obtain ⟨g', hgg, -, -, cw0, -⟩ := hcell w (Below.refl _ _) 0 (by rw [hlS]; exact h0l)
  injection hgg with hgg
  injection hgg with hgg
  subst hgg
  have cw' : w.cell? ⟨g, M, none⟩ = some (.int .i64 (l[M] : Nat)) := by rw [cw]; simp
  have cw0' : w.cell? ⟨g, 0, none⟩ = some (.int .i64 (l[0] : Nat)) := by rw [cw0]; simp
  have ht := hs l[M] (List.getElem_mem hMl)
  have ht0 := hs l[0] (List.getElem_mem h0l)
  have HS := Lib.hid (And.intro hs (And.intro hc (And.intro hlb hM)))
  have Hz := Lib.hid (srch_zero ps S l)
  rw [hlS, hlb, hM] at hc1 hsm h10 ⊢
  have heq : (((M + 1 : Nat) : Int) == ((M + 1 : Nat) : Int)) = true := by simp
  have hM5 : M ≤ 4 := by omega
  clear hs hc cw cw0 hcell hlS hlb hM hp
  generalize l[M] = t at *
  generalize l[0] = t0 at *
  have hd1 := fun p : Bw w => (bw_cell p hg2).trans cw'
  have hd2 := fun p : Bw w => (bw_cell p hg2).trans cw0'
  have Hcost : Hid (∀ p : Bw w, Calls Try.prog 152 #[.slice A ps.length c, .slice (some ⟨g, 0, none⟩) (M + 1) c1] p.v fun e w' => e = .returned (.int .i64 (coL ps l)) ∧ Below p.v.heap.size p.v w') :=
    Lib.hid fun p => stepsCost_any _ _ l ps b b1 _ (h10.keep p.h) (hp0.keep p.h) HS.out.1 hl7 HS.out.2.1 (by have := HS.out.2.2; omega)
  generalize hco : coL ps l = co at *
  by_cases hlead : stTo ps t = stFr ps t0
  · have Hl : Hid (∀ p : Bw w, Calls Try.prog 151 #[.slice A ps.length c, .int .i64 t, .int .i64 t0] p.v fun e w' => e = .returned (.bool true) ∧ Below p.v.heap.size p.v w') :=
      Lib.hid fun p => (leadsOn_any t t0 _ ps b _ (hp0.keep p.h) ht ht0 hl7).mono fun e w' h => ⟨by rw [h.1]; simp [hlead], h.2⟩
    have Hg2 : Hid (gainB ps l = decide (co < 0)) := Lib.hid (by rw [Hg.out]; simp [hlead])
    clear hlead Hg hco
    go_enter Try.func147, Try.ntmps147
    go_wp2_with fail
    refine wp_region_bw (by kernel_rfl) (by kernel_rfl) ?_
    repeat (go_big_quiet_step (first | (go_at_call 151; refine calls_bw (Hl.out _)) | (go_at_call 152; refine calls_bw (Hcost.out _))))
    refine wpQuiet_nil ?_
    rintro _ ⟨pw, rfl⟩
    have hB2 := pw.h
    go_wp2
    go_ret2
    exact ⟨_, ret_vb (by rw [Hz.out.1, Hg2.out]), fun q hq => by rw [Hz.out.2 q hq]; exact h10.keep hB2, hB2⟩
  · have Hl : Hid (∀ p : Bw w, Calls Try.prog 151 #[.slice A ps.length c, .int .i64 t, .int .i64 t0] p.v fun e w' => e = .returned (.bool false) ∧ Below p.v.heap.size p.v w') :=
      Lib.hid fun p => (leadsOn_any t t0 _ ps b _ (hp0.keep p.h) ht ht0 hl7).mono fun e w' h => ⟨by rw [h.1]; simp [hlead], h.2⟩
    have Hg2 : Hid (gainB ps l = false) := Lib.hid (by rw [Hg.out]; simp [hlead])
    clear hlead Hg hco
    go_enter Try.func147, Try.ntmps147
    go_wp2_with fail
    refine wp_region_bw (by kernel_rfl) (by kernel_rfl) ?_
    repeat (go_big_quiet_step (first | (go_at_call 151; refine calls_bw (Hl.out _)) | (go_at_call 152; refine calls_bw (Hcost.out _))))
    refine wpQuiet_nil ?_
    rintro _ ⟨pw, rfl⟩
    have hB2 := pw.h
    go_wp2
    go_ret2
    exact ⟨_, ret_vb (by rw [Hz.out.1, Hg2.out]), fun q hq => by rw [Hz.out.2 q hq]; exact h10.keep hB2, hB2⟩

set_option maxHeartbeats 4000000 in
set_option maxRecDepth 20000 in
theorem gainFrom_any (v u : Value) (ps : List Pp) (S : List Nat) (b b' : Nat) (bound : Nat) (hl7 : ps.length ≤ 7) (hc : ∀ p ∈ ps, -9 ≤ p.co ∧ p.co ≤ 9) (hb2 : 2 ≤ bound) (hb5 : bound ≤ 5) (hS : ∀ s ∈ S, s < 2 * ps.length) :
    ∀ (m : Nat) (l : List Nat) (u1 : Value) (b1 : Nat) (w : World), m + l.length = bound → (∀ s ∈ l, s < 2 * ps.length) → Pipes w b v ps → Ints w b' u (ofS S) → Ints w b1 u1 (ofS l) → b1 ≤ w.heap.size →
    Calls Try.prog 147 #[v, u, u1, .int .i64 bound] w fun e w' => ∃ r, e = .returned (.tuple #[r, .bool (srch ps S m l).isSome]) ∧ (∀ q, srch ps S m l = some q → Ints w' b1 r (ofS q)) ∧ Below w.heap.size w w' := by
  intro m
  induction m with
  | zero =>
    intro l u1 b1 w hml hs hp hx h1 hbw
    exact gainBase_any v u ps S b bound hl7 hc hb2 hb5 l u1 b1 w (by omega) hs hp h1
  | succ m ih =>
    intro l u1 b1 w hml hs hp hx h1 hbw
    have hp0 := hp
    have h10 := h1
    have hx0 := hx
    obtain ⟨A, c, rfl, -, -, -, -⟩ := hp.form
    obtain ⟨A1, c1, rfl, hc1, hc2, hsm, -⟩ := h1.form
    obtain ⟨A2, c2, rfl, he1, he2, hem, hcell⟩ := hx.form
    unfold maxLen at hc2 he2
    have hlS : (ofS l).length = l.length := by simp
    have hlS2 : (ofS S).length = S.length := by simp
    rw [hlS] at hc1 hsm h10 ⊢
    rw [hlS2] at he1 hem hx0 ih ⊢
    have hne : ((l.length : Int) == (bound : Int)) = false := by rw [beq_eq_false_iff_ne]; omega
    obtain ⟨i0, hi0, hz0, hz1, hz2⟩ := info_parts int_info
    have HH := Lib.hid (And.intro hs (And.intro hS (And.intro hml (And.intro ih (And.intro hlS2 (srch_succ ps S m l))))))
    have hl4 : l.length ≤ 4 := by omega
    clear hs hS hml ih hlS hlS2 hc hp hx h1
    go_enter Try.func147, Try.ntmps147
    go_wp2
    go_loopw [39] (fun i wr => ∃ k : Nat, k ≤ S.length ∧ i = .int .i64 k ∧ (S.take k).findSome? (stepF ps S m l) = none ∧ Below w.heap.size w wr) (fun i _ => S.length - (intOf i).toNat)
    case atStart => exact ⟨0, by omega, rfl, rfl, Below.refl _ _⟩
    case round =>
      obtain ⟨k, hk, rfl, hnone, hb⟩ := hrel
      have Hno := Lib.hid hnone
      clear hnone
      have hzb := hb.size
      by_cases hlt : k < S.length
      · obtain ⟨g, rfl, hg1, hg2, c0, -⟩ := hcell wr hb k (by rw [HH.out.2.2.2.2.1]; exact hlt)
        have c0' : wr.cell? ⟨g, k, none⟩ = some (.int .i64 (S[k] : Nat)) := by rw [c0]; simp
        clear c0
        have hs1 := HH.out.2.1 S[k] (List.getElem_mem hlt)
        have Hf : Hid (∀ y, stepF ps S m l S[k] = y → y = none → ((S.take (k + 1)).findSome? (stepF ps S m l) = none)) := Lib.hid fun y h1 h2 => findSome_take hlt Hno.out (h1.trans h2)
        have Hh : Hid (∀ q, stepF ps S m l S[k] = some q → srch ps S (m + 1) l = some q) := Lib.hid fun q h1 => by rw [HH.out.2.2.2.2.2]; exact findSome_hit hlt Hno.out h1
        generalize S[k] = s at *
        go_wp2_with fail
        with_reducible refine (goesOn_any s _ _ l ps b b1 _ (h10.keep hb) (hp0.keep hb) HH.out.1 hs1 hl7).mono ?_
        rintro e w1 ⟨rfl, hb1⟩
        have hB1 := hb.trans (hb1.mono hzb)
        have hz1b := hB1.size
        by_cases hg : goesB ps l s = true
        · rw [hg]
          have Hst : Hid (stepF ps S m l s = srch ps S m (l ++ [s])) := Lib.hid (by rw [stepF, if_pos hg])
          clear hg
          go_wp2_with fail
          refine (cloneInts_any _ (ofS l) b1 _ (h10.keep hB1) (by simp; omega)).mono ?_
          rintro e w2 ⟨r2, rfl, hr2, hb2'⟩
          have hB2 := hB1.trans (hb2'.mono hz1b)
          have hz2b := hB2.size
          have hr2' := hr2.keep ((Below.refl w2.heap.size w2).alloc (Nat.le_refl _) (.cells #[.int .i64 (s : Int)] 3))
          have hown2 : (w2.alloc (.cells #[.int .i64 (s : Int)] 3)).ownsRow w1.heap.size 3 1 r2 l.length ((ofS l).map (Value.int .i64)) := by
            have := hr2'.1
            rw [List.length_map] at this
            exact this
          have hB2' : Below w1.heap.size w1 (w2.alloc (.cells #[.int .i64 (s : Int)] 3)) := (hb2'.trans (Below.refl _ _)).alloc (by have := hb2'.size; omega) _
          go_wp2_with (first
            | (at_builtin
               go_must (refine wpList_append_src rfl _ _ 40 rfl w1.heap.size 3 i0 _ 1 8 Try.underlying40 hi0 hz0 hz1 hz2 rfl (by omega) _ _ l.length 1 _ _ (by rfl) rfl hown2 (lit_src (heap_alloc_new _ _) rfl (by simp [Value.oneCell'])) (by unfold maxLen; omega) (by omega) (by have := hB2'.size; omega) ?_)
               intro r7 w7 hown7 hgr7 hat7))
          have hB7' : Below w1.heap.size w1 w7 := Below.grown hB2' hgr7 hB2'.size (fun q hq => (hown2.lt q hq).1)
          have hB7 := hB1.trans (hB7'.mono hz1b)
          have hz7 := hB7'.size
          have hr7 : Ints w7 w1.heap.size r7 (ofS (l ++ [s])) := by
            have e : ofS (l ++ [s]) = ofS l ++ [(s : Int)] := by simp
            rw [e]
            exact ints_snoc (xs := ofS l) (by rw [List.length_map]; exact hown7) (by rw [List.length_map]; unfold small; omega)
          clear hown7 hgr7 hat7 hr2' hown2 hB2' hr2 hb2' hB2 hz2b
          refine (HH.out.2.2.2.1 (l ++ [s]) r7 w1.heap.size w7 (by have := HH.out.2.2.1; simp; omega) (fun t ht => by
            rcases List.mem_append.1 ht with ht | ht
            · exact HH.out.1 t ht
            · simp at ht; subst ht; exact hs1) (hp0.keep hB7) (hx0.keep hB7) hr7 hz7).mono ?_
          rintro e w8 ⟨r8, rfl, hr8, hb8⟩
          have hB8 := hB7.trans (hb8.mono (by have := hB7.size; omega))
          rw [← Hst.out] at hr8 ⊢
          cases hst : stepF ps S m l s with
          | none =>
            rw [hst] at hr8
            simp only [Option.isSome_none]
            clear hr8
            go_wp2
            go_roundw
            case rel => exact ⟨k + 1, by omega, by go_num, Hf.out _ hst rfl, hB8⟩
            case measure => simp [intOf]; omega
          | some q =>
            have Hq := Lib.hid (Hh.out q hst)
            have hr9 := (hr8 q hst).mono (show b1 ≤ w1.heap.size by omega)
            simp only [Option.isSome_some]
            clear hr8 hst
            go_wp2
            go_ret2
            exact ⟨r8, ret_vb (by rw [Hq.out]; rfl), (fun q' hq' => by rw [Hq.out] at hq'; injection hq' with hq'; subst hq'; exact hr9), hB8⟩
        · have hg' : goesB ps l s = false := by simpa using hg
          rw [hg']
          have Hst : Hid (stepF ps S m l s = none) := Lib.hid (by rw [stepF, if_neg hg])
          clear hg hg'
          go_wp2
          go_roundw
          case rel => exact ⟨k + 1, by omega, by go_num, Hf.out _ Hst.out rfl, hB1⟩
          case measure => simp [intOf]; omega
      · have Hr : Hid (srch ps S (m + 1) l = none) := Lib.hid (by
          have := Hno.out
          rw [List.take_of_length_le (by omega)] at this
          rw [HH.out.2.2.2.2.2]; exact this)
        go_wp2
        go_ret2
        exact ⟨_, ret_vb (by rw [Hr.out]; rfl), (fun q hq => by rw [Hr.out] at hq; cases hq), hb⟩

theorem gain_no {n : Int} {ps : List Pp} {xs : List Int} (h : holdsB n ps xs = false) : gainsB n ps xs = false ∧ gainI n ps xs = [] := ⟨gains_no h, gainI_no (gains_no h)⟩

set_option maxHeartbeats 4000000 in
set_option maxRecDepth 20000 in
theorem gainOf_any (n : Int) (v u : Value) (ps : List Pp) (xs : List Int) (b b' : Nat) (w : World) (hp : Pipes w b v ps) (hx : Ints w b' u xs) :
    Calls Try.prog 135 #[.agg #[.int .i64 n, v], u] w fun e w' => ∃ r, e = .returned (.tuple #[r, .bool (gainsB n ps xs)]) ∧ Ints w' w.heap.size r (gainI n ps xs) ∧ Below w.heap.size w w' := by
  have hp0 := hp
  have hx0 := hx
  obtain ⟨A, c, rfl, -, -, -, -⟩ := hp.form
  obtain ⟨A', c', rfl, -, -, -, -⟩ := hx.form
  have bx0 := Box2.new w (.int .i64 n) (.slice A ps.length c) 25
  have hB0 : Below w.heap.size w (w.alloc (.cells #[.int .i64 n, .slice A ps.length c] 25)) := by (repeat (first | (with_reducible assumption) | (with_reducible exact Below.refl _ _) | ((with_reducible refine Below.alloc ?_ ?hsz _); (case hsz => (first | omega | (simp; done) | (simp; omega) | (simp at *; omega)))) | ((with_reducible refine Below.setCell ?_ ?hsz _); (case hsz => (first | omega | (simp; done) | (simp; omega) | (simp at *; omega)))) | (with_reducible refine Below.drew ?_) | (with_reducible refine below_drewN ?_ _) | ((with_reducible refine Below.trans ?_ (Below.mono (by with_reducible assumption) ?hsz)); (case hsz => (first | omega | (simp; done) | (simp; omega) | (simp at *; omega))))))
  by_cases hh : holdsB n ps xs = true
  · have hn := holds_net hh
    obtain ⟨n2, n5, hl7, -⟩ := netOk_parts hn
    obtain ⟨hf, hall, hlen⟩ := holds_parts hh
    have ha := (flowOk_parts hf).2.2
    have hr := net_rooms hn
    have HF := Lib.hid (show gainO n ps xs = (List.range (n.toNat - 1)).findSome? (fun i => srch ps (stL ps xs) (i + 2) []) by rw [gainO, if_pos hh])
    have HN := Lib.hid (And.intro hn (And.intro hlen (And.intro ha (And.intro hr hh))))
    obtain ⟨N, rfl⟩ := Int.eq_ofNat_of_zero_le (show 0 ≤ n by omega)
    clear hn hall hlen ha hr hf hh
    go_enter Try.func135, Try.ntmps135
    go_wp2_with fail
    refine (holdsOk_any N _ _ ps xs b b' _ (hp0.keep hB0) (hx0.keep hB0)).mono ?_
    rintro e w1 ⟨rfl, hb1⟩
    rw [HN.out.2.2.2.2]
    have bx1 := bx0.keep hb1
    have hB1 := hB0.trans (hb1.mono (by simp))
    clear bx0 hB0 hb1
    obtain ⟨bs, d0, d1, -, -⟩ := id bx1
    go_wp2_with fail
    refine (openSteps_any _ _ ps xs b b' _ (hp0.keep hB1) (hx0.keep hB1) hl7 HN.out.2.1 HN.out.2.2.1 HN.out.2.2.2.1).mono ?_
    rintro e w2 ⟨r2, rfl, hr2, hb2⟩
    have bx2 := bx1.keep hb2
    have hB2 := hB1.trans (hb2.mono hB1.size)
    rw [openL_eq] at hr2
    clear bx1 d0 d1 bs
    obtain ⟨bs, d0, d1, -, -⟩ := id bx2
    have hzz := hB1.size
    go_wp2_with fail
    go_loopw [7] (fun i wr => ∃ k : Nat, k + 2 ≤ N + 1 ∧ i = .int .i64 ((k + 2 : Nat) : Int) ∧ (List.range k).findSome? (fun i => srch ps (stL ps xs) (i + 2) []) = none ∧ Box2 wr w.heap.size (.int .i64 N) (.slice A ps.length c) ∧ Below w2.heap.size w2 wr) (fun i _ => N + 1 - (intOf i).toNat)
    case atStart => exact ⟨0, by omega, rfl, rfl, bx2, Below.refl _ _⟩
    case round =>
      obtain ⟨k, hk, rfl, hnone, bx, hb⟩ := hrel
      clear bx2 d0 d1 bs
      obtain ⟨bs, d0, d1, -, -⟩ := id bx
      have Hno := Lib.hid hnone
      clear hnone
      have hB := hB2.trans (hb.mono hB2.size)
      have hzb := hB.size
      obtain ⟨K, hK⟩ : ∃ K, k + 2 = K := ⟨_, rfl⟩
      have HK := Lib.hid hK
      by_cases hlt : K ≤ N
      · have hle : decide ((K : Int) ≤ (N : Int)) = true := decide_eq_true (by omega)
        rw [hK]
        have hK2 : 2 ≤ K := by omega
        clear hK hk
        go_wp2_with fail
        refine (gainFrom_any _ r2 ps (stL ps xs) b w1.heap.size K hl7 (net_costs HN.out.1) hK2 (by omega) stL_lt K [] (.slice none 0 0) wr.heap.size wr rfl (by simp) (hp0.keep hB) (hr2.keep hb) (Ints_nil _ _) (Nat.le_refl _)).mono ?_
        rintro e w3 ⟨r3, rfl, hr3, hb3⟩
        have bx3 := bx.keep hb3
        have hB3 := hB.trans (hb3.mono hzb)
        have hb3' := hb.trans (hb3.mono hb.size)
        clear bx d0 d1 bs
        obtain ⟨bs, d0, d1, -, -⟩ := id bx3
        cases hst : srch ps (stL ps xs) K [] with
        | none =>
          simp only [Option.isSome_none]
          have Hno2 : Hid ((List.range (k + 1)).findSome? (fun i => srch ps (stL ps xs) (i + 2) []) = none) := Lib.hid (by
            rw [List.range_succ, List.findSome?_append, Hno.out]
            simp [HK.out, hst])
          clear hr3 hst
          go_wp2
          go_roundw
          case rel => exact ⟨k + 1, by have := HK.out; omega, by have := HK.out; subst this; go_num, Hno2.out, bx3, hb3'⟩
          case measure => simp [intOf]; omega
        | some q =>
          have hr4 := (hr3 q hst).mono (show w.heap.size ≤ wr.heap.size by omega)
          have Hg : Hid (gainO N ps xs = some q) := Lib.hid (by
            rw [HF.out]
            have hkk : k < (List.range ((N : Int).toNat - 1)).length := by have := HK.out; simp; omega
            refine findSome_hit hkk ?_ ?_
            · rw [List.take_range, Nat.min_eq_left (by simpa using Nat.le_of_lt hkk)]; exact Hno.out
            · simp [HK.out, hst])
          simp only [Option.isSome_some]
          clear hr3 hst
          go_wp2
          go_ret2
          exact ⟨r3, ret_vb (by rw [gainsB, Hg.out]; rfl), by rw [gainI, gainR, Hg.out]; exact hr4, hB3⟩
      · have hle : decide ((K : Int) ≤ (N : Int)) = false := decide_eq_false (by omega)
        rw [hK]
        have Hg : Hid (gainO N ps xs = none) := Lib.hid (by
          rw [HF.out]
          have : (N : Int).toNat - 1 = k := by omega
          rw [this]; exact Hno.out)
        clear hK hk
        go_wp2
        go_ret2
        exact ⟨_, ret_vb (by rw [gainsB, Hg.out]; rfl), by rw [gainI, gainR, Hg.out]; exact Ints_nil _ _, hB⟩
  · have hh' : holdsB n ps xs = false := by simpa using hh
    have Hg := Lib.hid (gain_no hh')
    have Hh := Lib.hid hh'
    clear hh hh'
    go_enter Try.func135, Try.ntmps135
    go_wp2_with fail
    refine (holdsOk_any n _ _ ps xs b b' _ (hp0.keep hB0) (hx0.keep hB0)).mono ?_
    rintro e w1 ⟨rfl, hb1⟩
    rw [Hh.out]
    have hB1 := hB0.trans (hb1.mono (by simp))
    go_wp2
    go_ret2
    exact ⟨_, ret_vb Hg.out.1.symm, by rw [Hg.out.2]; exact Ints_nil _ _, hB1⟩

end Go.Proofs.Ytphbmlephldaaaa
