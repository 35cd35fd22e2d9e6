/- Contracts of the functions of chapter 3 in the program: steps. -/
import Derived.Test.YtmgpekdhcghabaaGreatWC
import Derived.Test.YtmgpekdhcghabaaGreatW9
import Derived.Test.YtmgpekdhcghabaaGreatMG
import Derived.Deep.RegionHeld3
namespace Go.Proofs.YtmgpekdhcghabaaGreat
open Go.RowKit

set_option maxHeartbeats 400000 in
set_option maxRecDepth 20000 in
theorem stepBack_any (s : Nat) (w : World) (r : Bool) (hr : decide (s % 2 = 1) = r) (hs : s ≤ 1000) :
    Calls Tryz.prog 129 #[.int .i64 s] w fun e w' => e = .returned (.bool r) ∧ w = w' := by
  have h1 : (((s : Int) % 2) == 1) = r := by rw [← hr, beq_dec]; congr 1; apply propext; omega
  go_enter Tryz.func129, Tryz.ntmps129
  go_wp2
  go_ret
  exact ⟨rfl, rfl⟩

set_option maxHeartbeats 1000000 in
set_option maxRecDepth 20000 in
theorem stepEnds_any (s : Nat) (v : Value) (ps : List Pp) (b : Nat) (w : World) (hp : Pipes w b v ps) (hs : s < 2 * ps.length) (hl : ps.length ≤ 7) :
    Calls Tryz.prog 142 #[v, .int .i64 s] w fun e w' => e = .returned (.tuple #[.int .i64 (stFr ps s), .int .i64 (stTo ps s)]) ∧ Below w.heap.size w w' := by
  obtain ⟨A, c, rfl, hc1, hc2, hsm, hcell⟩ := hp.form
  unfold maxLen at hc2
  obtain ⟨k, hk⟩ : ∃ k, s / 2 = k := ⟨_, rfl⟩
  have hkl : k < ps.length := by omega
  obtain ⟨g, rfl, hg1, hg2, c0, c1, c2, c3, c4⟩ := hcell w (Below.refl _ _) k hkl
  have hq : (s : Int) / 2 = (k : Int) := by omega
  have hx : k < (ps.map Pp.le).length := by simpa using hkl
  rcases (show s % 2 = 1 ∨ s % 2 = 0 by omega) with hm | hm
  · obtain ⟨e1, e2, -⟩ := st_odd (xs := ps.map Pp.le) hm hk hkl hx
    have He := Lib.hid (And.intro e1 e2)
    have hd := Lib.hid (show decide (s % 2 = 1) = true by simp [hm])
    clear hx e1 e2 hk hm
    go_enter Tryz.func142, Tryz.ntmps142
    go_wp2_with (first | (go_at_call 129; ((with_reducible refine (stepBack_any s _ true hd.out (by omega)).mono ?_); rintro e w1 ⟨rfl, rfl⟩)))
    go_quiet (fail)
    go_wp2
    go_ret2
    exact ⟨by rw [He.out.1, He.out.2]; rfl, by (repeat (first | (with_reducible assumption) | (with_reducible exact Below.refl _ _) | ((with_reducible refine Below.alloc ?_ ?hsz _); (case hsz => (first | omega | (simp; done) | (simp; omega) | (simp at *; omega)))) | ((with_reducible refine Below.setCell ?_ ?hsz _); (case hsz => (first | omega | (simp; done) | (simp; omega) | (simp at *; omega)))) | (with_reducible refine Below.drew ?_) | (with_reducible refine below_drewN ?_ _) | ((with_reducible refine Below.trans ?_ (Below.mono (by with_reducible assumption) ?hsz)); (case hsz => (first | omega | (simp; done) | (simp; omega) | (simp at *; omega))))))⟩
  · obtain ⟨e1, e2, -⟩ := st_even (xs := ps.map Pp.le) hm hk hkl hx
    have He := Lib.hid (And.intro e1 e2)
    have hd := Lib.hid (show decide (s % 2 = 1) = false by simp [hm])
    clear hx e1 e2 hk hm
    go_enter Tryz.func142, Tryz.ntmps142
    go_wp2_with (first | (go_at_call 129; ((with_reducible refine (stepBack_any s _ false hd.out (by omega)).mono ?_); rintro e w1 ⟨rfl, rfl⟩)))
    go_quiet (fail)
    go_wp2
    go_ret2
    exact ⟨by rw [He.out.1, He.out.2]; rfl, by (repeat (first | (with_reducible assumption) | (with_reducible exact Below.refl _ _) | ((with_reducible refine Below.alloc ?_ ?hsz _); (case hsz => (first | omega | (simp; done) | (simp; omega) | (simp at *; omega)))) | ((with_reducible refine Below.setCell ?_ ?hsz _); (case hsz => (first | omega | (simp; done) | (simp; omega) | (simp at *; omega)))) | (with_reducible refine Below.drew ?_) | (with_reducible refine below_drewN ?_ _) | ((with_reducible refine Below.trans ?_ (Below.mono (by with_reducible assumption) ?hsz)); (case hsz => (first | omega | (simp; done) | (simp; omega) | (simp at *; omega))))))⟩

set_option maxHeartbeats 1000000 in
set_option maxRecDepth 20000 in
theorem stepRoom_any (s : Nat) (v u : Value) (ps : List Pp) (xs : List Int) (b b' : Nat) (w : World) (hp : Pipes w b v ps) (hx : Ints w b' u xs) (hs : s < 2 * ps.length) (hl : ps.length ≤ 7) (hlen : xs.length = ps.length)
    (ha : ∀ x ∈ xs, 0 ≤ x ∧ x ≤ 40) (hr : ∀ p ∈ ps, 0 ≤ p.le ∧ p.le ≤ p.mo ∧ p.mo ≤ 4) :
    Calls Tryz.prog 131 #[v, u, .int .i64 s] w fun e w' => e = .returned (.int .i64 (stRoom ps xs s)) ∧ Below w.heap.size w w' := by
  obtain ⟨A, c, rfl, hc1, hc2, hsm, hcell⟩ := hp.form
  obtain ⟨A', c', rfl, hc1', hc2', hsm', hcell'⟩ := hx.form
  unfold maxLen at hc2 hc2'
  obtain ⟨k, hk⟩ : ∃ k, s / 2 = k := ⟨_, rfl⟩
  have hkl : k < ps.length := by omega
  have hkx : k < xs.length := by omega
  obtain ⟨g, rfl, hg1, hg2, c0, c1, c2, c3, c4⟩ := hcell w (Below.refl _ _) k hkl
  obtain ⟨g', rfl, hg1', hg2', d0, -⟩ := hcell' w (Below.refl _ _) k hkx
  have hq : (s : Int) / 2 = (k : Int) := by omega
  have hq2 : (s : Int).tdiv 2 = (k : Int) := by rw [Int.tdiv_eq_ediv_of_nonneg (Int.natCast_nonneg s)]; exact hq
  have hq3 : IntKind.i64.wrap (k : Int) = (k : Int) := IntWalk.i64_in _ (by omega)
  have hq4 : (0 : Int) ≤ (k : Int) := by omega
  obtain ⟨x0, x1⟩ := ha _ (List.getElem_mem hkx)
  obtain ⟨l0, l1, l2⟩ := hr _ (List.getElem_mem hkl)
  have Hl := Lib.hid hlen
  clear hlen ha hr
  rcases (show s % 2 = 1 ∨ s % 2 = 0 by omega) with hm | hm
  · obtain ⟨-, -, e3⟩ := st_odd (xs := xs) hm hk hkl hkx
    have He := Lib.hid e3
    have hd := Lib.hid (show decide (s % 2 = 1) = true by simp [hm])
    clear e3 hk hm
    go_enter Tryz.func131, Tryz.ntmps131
    go_wp2
    go_region_held3 (fun w' => w'.cell? ⟨g, k * 5, none⟩ = some (.int .i64 ps[k].fr) ∧ w'.cell? ⟨g, k * 5 + 1, none⟩ = some (.int .i64 ps[k].to) ∧ w'.cell? ⟨g, k * 5 + 2, none⟩ = some (.int .i64 ps[k].le) ∧ w'.cell? ⟨g, k * 5 + 3, none⟩ = some (.int .i64 ps[k].mo) ∧ w'.cell? ⟨g, k * 5 + 4, none⟩ = some (.int .i64 ps[k].co) ∧ w'.cell? ⟨g', k, none⟩ = some (.int .i64 xs[k]))
      (first | go_keep | (go_simp; done))
      (fail)
    all_goals
      go_wp2_with (first | (go_at_call 129; ((with_reducible refine (stepBack_any s _ true hd.out (by omega)).mono ?_); rintro e w1 ⟨rfl, rfl⟩)))
      go_ret
      exact ⟨ret_int (by rw [He.out]), by (repeat (first | (with_reducible assumption) | (with_reducible exact Below.refl _ _) | ((with_reducible refine Below.alloc ?_ ?hsz _); (case hsz => (first | omega | (simp; done) | (simp; omega) | (simp at *; omega)))) | ((with_reducible refine Below.setCell ?_ ?hsz _); (case hsz => (first | omega | (simp; done) | (simp; omega) | (simp at *; omega)))) | (with_reducible refine Below.drew ?_) | (with_reducible refine below_drewN ?_ _) | ((with_reducible refine Below.trans ?_ (Below.mono (by with_reducible assumption) ?hsz)); (case hsz => (first | omega | (simp; done) | (simp; omega) | (simp at *; omega))))))⟩
  · obtain ⟨-, -, e3⟩ := st_even (xs := xs) hm hk hkl hkx
    have He := Lib.hid e3
    have hd := Lib.hid (show decide (s % 2 = 1) = false by simp [hm])
    clear e3 hk hm
    go_enter Tryz.func131, Tryz.ntmps131
    go_wp2
    go_region_held3 (fun w' => w'.cell? ⟨g, k * 5, none⟩ = some (.int .i64 ps[k].fr) ∧ w'.cell? ⟨g, k * 5 + 1, none⟩ = some (.int .i64 ps[k].to) ∧ w'.cell? ⟨g, k * 5 + 2, none⟩ = some (.int .i64 ps[k].le) ∧ w'.cell? ⟨g, k * 5 + 3, none⟩ = some (.int .i64 ps[k].mo) ∧ w'.cell? ⟨g, k * 5 + 4, none⟩ = some (.int .i64 ps[k].co) ∧ w'.cell? ⟨g', k, none⟩ = some (.int .i64 xs[k]))
      (first | go_keep | (go_simp; done))
      (fail)
    all_goals
      go_wp2_with (first | (go_at_call 129; ((with_reducible refine (stepBack_any s _ false hd.out (by omega)).mono ?_); rintro e w1 ⟨rfl, rfl⟩)))
      go_ret
      exact ⟨ret_int (by rw [He.out]), by (repeat (first | (with_reducible assumption) | (with_reducible exact Below.refl _ _) | ((with_reducible refine Below.alloc ?_ ?hsz _); (case hsz => (first | omega | (simp; done) | (simp; omega) | (simp at *; omega)))) | ((with_reducible refine Below.setCell ?_ ?hsz _); (case hsz => (first | omega | (simp; done) | (simp; omega) | (simp at *; omega)))) | (with_reducible refine Below.drew ?_) | (with_reducible refine below_drewN ?_ _) | ((with_reducible refine Below.trans ?_ (Below.mono (by with_reducible assumption) ?hsz)); (case hsz => (first | omega | (simp; done) | (simp; omega) | (simp at *; omega))))))⟩

set_option maxHeartbeats 1000000 in
set_option maxRecDepth 20000 in
theorem openFn_any (s bp bf : Nat) (v u : Value) (ps : List Pp) (xs : List Int) (b b' : Nat) (w : World) (hp : Pipes w b v ps) (hx : Ints w b' u xs) (hs : s < 2 * ps.length) (hl : ps.length ≤ 7) (hlen : xs.length = ps.length)
    (ha : ∀ x ∈ xs, 0 ≤ x ∧ x ≤ 40) (hr : ∀ p ∈ ps, 0 ≤ p.le ∧ p.le ≤ p.mo ∧ p.mo ≤ 4) (d0 : w.cell? ⟨bp, 0, none⟩ = some v) (d1 : w.cell? ⟨bf, 0, none⟩ = some u) :
    Calls Tryz.prog 143 #[.int .i64 s, .pointer (some ⟨bp, 0, none⟩), .pointer (some ⟨bf, 0, none⟩)] w fun e w' => e = .returned (.bool (openF ps xs s)) ∧ Below w.heap.size w w' := by
  have hp0 := hp
  have hx0 := hx
  obtain ⟨A, c, rfl, -, -, -, -⟩ := hp.form
  obtain ⟨A', c', rfl, -, -, -, -⟩ := hx.form
  have HH := Lib.hid (And.intro hlen (And.intro ha hr))
  clear hlen ha hr
  go_enter Tryz.func143, Tryz.ntmps143
  go_wp2_with fail
  with_reducible refine (stepRoom_any s _ _ ps xs b b' _ hp0 hx0 hs hl HH.out.1 HH.out.2.1 HH.out.2.2).mono ?_
  rintro e w1 ⟨rfl, hb1⟩
  go_wp2
  go_ret
  exact ⟨rfl, by (repeat (first | (with_reducible assumption) | (with_reducible exact Below.refl _ _) | ((with_reducible refine Below.alloc ?_ ?hsz _); (case hsz => (first | omega | (simp; done) | (simp; omega) | (simp at *; omega)))) | ((with_reducible refine Below.setCell ?_ ?hsz _); (case hsz => (first | omega | (simp; done) | (simp; omega) | (simp at *; omega)))) | (with_reducible refine Below.drew ?_) | (with_reducible refine below_drewN ?_ _) | ((with_reducible refine Below.trans ?_ (Below.mono (by with_reducible assumption) ?hsz)); (case hsz => (first | omega | (simp; done) | (simp; omega) | (simp at *; omega))))))⟩

set_option maxHeartbeats 1000000 in
set_option maxRecDepth 20000 in
theorem openWhere_any (cnt bp bf : Nat) (v u : Value) (ps : List Pp) (xs : List Int) (b b' : Nat) (w : World) (hp : Pipes w b v ps) (hx : Ints w b' u xs) (hcl : cnt = 2 * ps.length) (hl : ps.length ≤ 7) (hlen : xs.length = ps.length)
    (ha : ∀ x ∈ xs, 0 ≤ x ∧ x ≤ 40) (hr : ∀ p ∈ ps, 0 ≤ p.le ∧ p.le ≤ p.mo ∧ p.mo ≤ 4) (hbp : bp < w.heap.size) (hbf : bf < w.heap.size) (d0 : w.cell? ⟨bp, 0, none⟩ = some v) (d1 : w.cell? ⟨bf, 0, none⟩ = some u) :
    Calls Tryz.prog 85 #[.int .i64 cnt, .func (Fn.func 143) #[] #[.pointer (some ⟨bp, 0, none⟩), .pointer (some ⟨bf, 0, none⟩)]] w fun e w' => ∃ r, e = .returned r ∧ Ints w' w.heap.size r (numW cnt (openF ps xs)) ∧ Below w.heap.size w w' := by
  have hcnt : cnt ≤ 1000 := by omega
  have HC := Lib.hid hcl
  have HA := Lib.hid ha
  have HR := Lib.hid hr
  have HL := Lib.hid hlen
  have HL7 := Lib.hid hl
  clear hcl ha hr hlen hl
  go_enter Tryz.func85, Tryz.ntmps85
  go_wp2
  obtain ⟨i0, hi0, hz0, hz1, hz2⟩ := info_parts int_info
  go_loopw [8, 5] (fun i t wr => ∃ (k j k1 : Nat) (A1 : Option Addr), k ≤ cnt ∧ i = .int .i64 k ∧ t = .slice A1 j k1 ∧ (numW k (openF ps xs)).length = j ∧
      wr.ownsRow w.heap.size 3 1 (.slice A1 j k1) j ((numW k (openF ps xs)).map (Value.int .i64)) ∧ Below w.heap.size w wr) (fun i _ _ => cnt - (intOf i).toNat)
  case atStart => exact ⟨0, 0, 0, none, by omega, rfl, rfl, rfl, World.ownsRow_nil _ _ _ 1, Below.refl _ _⟩
  case round =>
    obtain ⟨k, j, k1, A1, hk, rfl, rfl, hj, hown, hb⟩ := hrel
    have hjk : j ≤ k := by rw [← hj]; exact numW_len k _
    have HJ := Lib.hid hj
    clear hj
    obtain ⟨hcr, hfr, hzr⟩ := bcell hb
    by_cases hlt : k < cnt
    · by_cases hf : (openF ps xs) k = true
      · have Hf := Lib.hid (numW_yes hf)
        go_wp2_with fail
        refine (openFn_any k bp bf v u ps xs b b' _ (hp.keep (by (repeat (first | (with_reducible assumption) | (with_reducible exact Below.refl _ _) | ((with_reducible refine Below.alloc ?_ ?hsz _); (case hsz => (first | omega | (simp; done) | (simp; omega) | (simp at *; omega)))) | ((with_reducible refine Below.setCell ?_ ?hsz _); (case hsz => (first | omega | (simp; done) | (simp; omega) | (simp at *; omega)))) | (with_reducible refine Below.drew ?_) | (with_reducible refine below_drewN ?_ _) | ((with_reducible refine Below.trans ?_ (Below.mono (by with_reducible assumption) ?hsz)); (case hsz => (first | omega | (simp; done) | (simp; omega) | (simp at *; omega)))))))) (hx.keep (by (repeat (first | (with_reducible assumption) | (with_reducible exact Below.refl _ _) | ((with_reducible refine Below.alloc ?_ ?hsz _); (case hsz => (first | omega | (simp; done) | (simp; omega) | (simp at *; omega)))) | ((with_reducible refine Below.setCell ?_ ?hsz _); (case hsz => (first | omega | (simp; done) | (simp; omega) | (simp at *; omega)))) | (with_reducible refine Below.drew ?_) | (with_reducible refine below_drewN ?_ _) | ((with_reducible refine Below.trans ?_ (Below.mono (by with_reducible assumption) ?hsz)); (case hsz => (first | omega | (simp; done) | (simp; omega) | (simp at *; omega)))))))) (by have := HC.out; omega) HL7.out HL.out HA.out HR.out (by (repeat (first | (with_reducible assumption) | ((with_reducible refine (Below.cell (by with_reducible assumption) ?hsz).trans ?_); (case hsz => (first | omega | (simp; done) | (simp; omega) | (simp at *; omega)))) | ((with_reducible refine (World.cell?_alloc_lt _ _ _ ?hsz).trans ?_); (case hsz => (first | omega | (simp; done) | (simp; omega) | (simp at *; omega)))) | ((with_reducible refine (World.cell?_setCell_other _ _ _ _ ?hsz).trans ?_); (case hsz => (intro h; injection h with h1 h2; omega)))))) (by (repeat (first | (with_reducible assumption) | ((with_reducible refine (Below.cell (by with_reducible assumption) ?hsz).trans ?_); (case hsz => (first | omega | (simp; done) | (simp; omega) | (simp at *; omega)))) | ((with_reducible refine (World.cell?_alloc_lt _ _ _ ?hsz).trans ?_); (case hsz => (first | omega | (simp; done) | (simp; omega) | (simp at *; omega)))) | ((with_reducible refine (World.cell?_setCell_other _ _ _ _ ?hsz).trans ?_); (case hsz => (intro h; injection h with h1 h2; omega))))))).mono ?_
        rintro e w2 ⟨rfl, hb2⟩
        have hown2 := own_keep hown (Nat.le_refl _) hb2
        have hz2' := hb2.size
        have hbw2 : Below w.heap.size w w2 := by (repeat (first | (with_reducible assumption) | (with_reducible exact Below.refl _ _) | ((with_reducible refine Below.alloc ?_ ?hsz _); (case hsz => (first | omega | (simp; done) | (simp; omega) | (simp at *; omega)))) | ((with_reducible refine Below.setCell ?_ ?hsz _); (case hsz => (first | omega | (simp; done) | (simp; omega) | (simp at *; omega)))) | (with_reducible refine Below.drew ?_) | (with_reducible refine below_drewN ?_ _) | ((with_reducible refine Below.trans ?_ (Below.mono (by with_reducible assumption) ?hsz)); (case hsz => (first | omega | (simp; done) | (simp; omega) | (simp at *; omega))))))
        have hrow : ∀ q, (Value.slice A1 j k1).ownBlock = some q → w.heap.size ≤ q := fun q hq => (hown.lt q hq).1
        clear hown hcr hfr hb hb2
        go_wp2_with (first
          | (at_builtin
             go_must (refine wpList_append_lies _ rfl _ _ 30 rfl w.heap.size 3 i0 _ 1 8 Tryz.underlying30 hi0 hz0 hz1 hz2 rfl (by omega) _ j _ rfl (hown2.alloc _) ⟨w2.heap.size, 0, none⟩ 1 1 [.int .i64 k] rfl rfl (World.news_of_block (cs := #[.int .i64 k]) (t := 3) (fr := (0, 0)) (heap_alloc_new _ _)) (by simp [Value.oneCell']) (by omega) (by unfold maxLen; omega) (by omega) (by simp; omega) _ rfl ?_)
             intro g2 k2 w7 hown7 hgr7 hat7 hlt7))
        have hb7 : Below w.heap.size w w7 := by
          refine Below.grown (w := w2.alloc (.cells #[.int .i64 k] 3)) (by (repeat (first | (with_reducible assumption) | (with_reducible exact Below.refl _ _) | ((with_reducible refine Below.alloc ?_ ?hsz _); (case hsz => (first | omega | (simp; done) | (simp; omega) | (simp at *; omega)))) | ((with_reducible refine Below.setCell ?_ ?hsz _); (case hsz => (first | omega | (simp; done) | (simp; omega) | (simp at *; omega)))) | (with_reducible refine Below.drew ?_) | (with_reducible refine below_drewN ?_ _) | ((with_reducible refine Below.trans ?_ (Below.mono (by with_reducible assumption) ?hsz)); (case hsz => (first | omega | (simp; done) | (simp; omega) | (simp at *; omega))))))) hgr7 (by (first | omega | (simp; done) | (simp; omega) | (simp at *; omega))) hrow
        have hown8 : w7.ownsRow w.heap.size 3 1 (.slice (some ⟨g2, 0, none⟩) (j + 1) k2) (j + 1) ((numW (k + 1) (openF ps xs)).map (Value.int .i64)) := by
          rw [Hf.out, List.map_append]
          simpa using hown7
        have hj8 : (numW (k + 1) (openF ps xs)).length = j + 1 := by rw [Hf.out, List.length_append, HJ.out]; rfl
        clear hown7 hgr7 hat7 hlt7
        go_roundw
        case rel => exact ⟨k + 1, j + 1, k2, some ⟨g2, 0, none⟩, by omega, by go_num, rfl, hj8, hown8, hb7⟩
        case measure => simp [intOf]; omega
      · have hf' : (openF ps xs) k = false := by simpa using hf
        have Hf := Lib.hid (numW_no hf')
        clear hf
        go_wp2_with fail
        refine (openFn_any k bp bf v u ps xs b b' _ (hp.keep (by (repeat (first | (with_reducible assumption) | (with_reducible exact Below.refl _ _) | ((with_reducible refine Below.alloc ?_ ?hsz _); (case hsz => (first | omega | (simp; done) | (simp; omega) | (simp at *; omega)))) | ((with_reducible refine Below.setCell ?_ ?hsz _); (case hsz => (first | omega | (simp; done) | (simp; omega) | (simp at *; omega)))) | (with_reducible refine Below.drew ?_) | (with_reducible refine below_drewN ?_ _) | ((with_reducible refine Below.trans ?_ (Below.mono (by with_reducible assumption) ?hsz)); (case hsz => (first | omega | (simp; done) | (simp; omega) | (simp at *; omega)))))))) (hx.keep (by (repeat (first | (with_reducible assumption) | (with_reducible exact Below.refl _ _) | ((with_reducible refine Below.alloc ?_ ?hsz _); (case hsz => (first | omega | (simp; done) | (simp; omega) | (simp at *; omega)))) | ((with_reducible refine Below.setCell ?_ ?hsz _); (case hsz => (first | omega | (simp; done) | (simp; omega) | (simp at *; omega)))) | (with_reducible refine Below.drew ?_) | (with_reducible refine below_drewN ?_ _) | ((with_reducible refine Below.trans ?_ (Below.mono (by with_reducible assumption) ?hsz)); (case hsz => (first | omega | (simp; done) | (simp; omega) | (simp at *; omega)))))))) (by have := HC.out; omega) HL7.out HL.out HA.out HR.out (by (repeat (first | (with_reducible assumption) | ((with_reducible refine (Below.cell (by with_reducible assumption) ?hsz).trans ?_); (case hsz => (first | omega | (simp; done) | (simp; omega) | (simp at *; omega)))) | ((with_reducible refine (World.cell?_alloc_lt _ _ _ ?hsz).trans ?_); (case hsz => (first | omega | (simp; done) | (simp; omega) | (simp at *; omega)))) | ((with_reducible refine (World.cell?_setCell_other _ _ _ _ ?hsz).trans ?_); (case hsz => (intro h; injection h with h1 h2; omega)))))) (by (repeat (first | (with_reducible assumption) | ((with_reducible refine (Below.cell (by with_reducible assumption) ?hsz).trans ?_); (case hsz => (first | omega | (simp; done) | (simp; omega) | (simp at *; omega)))) | ((with_reducible refine (World.cell?_alloc_lt _ _ _ ?hsz).trans ?_); (case hsz => (first | omega | (simp; done) | (simp; omega) | (simp at *; omega)))) | ((with_reducible refine (World.cell?_setCell_other _ _ _ _ ?hsz).trans ?_); (case hsz => (intro h; injection h with h1 h2; omega))))))).mono ?_
        rintro e w2 ⟨rfl, hb2⟩
        have hown2 := own_keep hown (Nat.le_refl _) hb2
        have hbw2 : Below w.heap.size w w2 := by (repeat (first | (with_reducible assumption) | (with_reducible exact Below.refl _ _) | ((with_reducible refine Below.alloc ?_ ?hsz _); (case hsz => (first | omega | (simp; done) | (simp; omega) | (simp at *; omega)))) | ((with_reducible refine Below.setCell ?_ ?hsz _); (case hsz => (first | omega | (simp; done) | (simp; omega) | (simp at *; omega)))) | (with_reducible refine Below.drew ?_) | (with_reducible refine below_drewN ?_ _) | ((with_reducible refine Below.trans ?_ (Below.mono (by with_reducible assumption) ?hsz)); (case hsz => (first | omega | (simp; done) | (simp; omega) | (simp at *; omega))))))
        clear hown hcr hfr hb hb2
        go_wp2
        go_roundw
        case rel => exact ⟨k + 1, j, k1, A1, by omega, by go_num, rfl, by rw [Hf.out]; exact HJ.out, by rw [Hf.out]; exact hown2, hbw2⟩
        case measure => simp [intOf]; omega
    · go_wp2
      go_ret
      have hk2 : k = cnt := by omega
      subst hk2
      exact ⟨_, rfl, ⟨by rw [HJ.out]; exact hown, by rw [HJ.out]; unfold small; omega⟩, hb⟩

set_option maxHeartbeats 1000000 in
set_option maxRecDepth 20000 in
theorem openSteps_any (v u : Value) (ps : List Pp) (xs : List Int) (b b' : Nat) (w : World) (hp : Pipes w b v ps) (hx : Ints w b' u xs) (hl : ps.length ≤ 7) (hlen : xs.length = ps.length)
    (ha : ∀ x ∈ xs, 0 ≤ x ∧ x ≤ 40) (hr : ∀ p ∈ ps, 0 ≤ p.le ∧ p.le ≤ p.mo ∧ p.mo ≤ 4) :
    Calls Tryz.prog 139 #[v, u] w fun e w' => ∃ r, e = .returned r ∧ Ints w' w.heap.size r (openL ps xs) ∧ Below w.heap.size w w' := by
  have hp0 := hp
  have hx0 := hx
  obtain ⟨A, c, rfl, hc1, hc2, -, -⟩ := hp.form
  obtain ⟨A', c', rfl, hc1', hc2', -, -⟩ := hx.form
  unfold maxLen at hc2 hc2'
  have HL := Lib.hid hlen
  have HH := Lib.hid (And.intro ha hr)
  clear hlen ha hr
  have E2 := Lib.hid (show (2 : Int) * (ps.length : Int) = ((2 * ps.length : Nat) : Int) by omega)
  go_enter Tryz.func139, Tryz.ntmps139
  go_wp2_with fail
  rw [E2.out]
  refine (openWhere_any (2 * ps.length) _ _ _ _ ps xs b b' _ (hp0.keep (by (repeat (first | (with_reducible assumption) | (with_reducible exact Below.refl _ _) | ((with_reducible refine Below.alloc ?_ ?hsz _); (case hsz => (first | omega | (simp; done) | (simp; omega) | (simp at *; omega)))) | ((with_reducible refine Below.setCell ?_ ?hsz _); (case hsz => (first | omega | (simp; done) | (simp; omega) | (simp at *; omega)))) | (with_reducible refine Below.drew ?_) | (with_reducible refine below_drewN ?_ _) | ((with_reducible refine Below.trans ?_ (Below.mono (by with_reducible assumption) ?hsz)); (case hsz => (first | omega | (simp; done) | (simp; omega) | (simp at *; omega)))))))) (hx0.keep (by (repeat (first | (with_reducible assumption) | (with_reducible exact Below.refl _ _) | ((with_reducible refine Below.alloc ?_ ?hsz _); (case hsz => (first | omega | (simp; done) | (simp; omega) | (simp at *; omega)))) | ((with_reducible refine Below.setCell ?_ ?hsz _); (case hsz => (first | omega | (simp; done) | (simp; omega) | (simp at *; omega)))) | (with_reducible refine Below.drew ?_) | (with_reducible refine below_drewN ?_ _) | ((with_reducible refine Below.trans ?_ (Below.mono (by with_reducible assumption) ?hsz)); (case hsz => (first | omega | (simp; done) | (simp; omega) | (simp at *; omega)))))))) rfl hl HL.out HH.out.1 HH.out.2 (by (first | omega | (simp; done) | (simp; omega) | (simp at *; omega))) (by (first | omega | (simp; done) | (simp; omega) | (simp at *; omega))) (by go_simp) (by go_simp)).mono ?_
  rintro e w1 ⟨r, rfl, hr1, hb1⟩
  go_wp2
  go_ret
  exact ⟨_, rfl, hr1.mono (by (first | omega | (simp; done) | (simp; omega) | (simp at *; omega))), by (repeat (first | (with_reducible assumption) | (with_reducible exact Below.refl _ _) | ((with_reducible refine Below.alloc ?_ ?hsz _); (case hsz => (first | omega | (simp; done) | (simp; omega) | (simp at *; omega)))) | ((with_reducible refine Below.setCell ?_ ?hsz _); (case hsz => (first | omega | (simp; done) | (simp; omega) | (simp at *; omega)))) | (with_reducible refine Below.drew ?_) | (with_reducible refine below_drewN ?_ _) | ((with_reducible refine Below.trans ?_ (Below.mono (by with_reducible assumption) ?hsz)); (case hsz => (first | omega | (simp; done) | (simp; omega) | (simp at *; omega))))))⟩

end Go.Proofs.YtmgpekdhcghabaaGreat
