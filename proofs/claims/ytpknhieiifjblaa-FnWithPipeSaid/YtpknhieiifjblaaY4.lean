/- Contracts of the functions of chapter 5 in the program: CirculationOf. -/
import Derived.Test.YtpknhieiifjblaaGU
import Derived.Test.YtpknhieiifjblaaWJ
import Derived.Test.YtpknhieiifjblaaW3
import Derived.Test.YtpknhieiifjblaaF1
import Derived.Deep.DeepCutAuto
namespace Go.Proofs.Ytpknhieiifjblaa
open Go.RowKit

set_option maxHeartbeats 4000000 in
set_option maxRecDepth 20000 in
theorem leastAmounts_any (v : Value) (ps : List Pp) (b : Nat) (w : World) (hp : Pipes w b v ps) (hl7 : ps.length ≤ 7) :
    Calls Try.prog 93 #[v] w fun e w' => ∃ r, e = .returned r ∧ Ints w' w.heap.size r (leastL ps) ∧ Below w.heap.size w w' := by
  have hp0 := hp
  obtain ⟨A, c, rfl, hcp1, hcp2, -, hcell⟩ := hp.form
  unfold maxLen at hcp2
  have hmk := fun W => run_make_ints (n := ps.length) (by omega) W
  have hmade : Row (w.alloc (.cells (madeCells #[.int .i64 0] ps.length) 3)) w.heap.size w.heap.size ps.length ps.length (List.replicate ps.length 0) := ⟨made_ints w ps.length 3 w.heap.size (Nat.le_refl _) (by omega), by unfold small; omega⟩
  have HM := Lib.hid hmade
  clear hmade
  have hB0 : Below w.heap.size w (w.alloc (.cells (madeCells #[.int .i64 0] ps.length) 3)) := by (repeat (first | (with_reducible assumption) | (with_reducible exact Below.refl _ _) | ((with_reducible refine Below.alloc ?_ ?hsz _); (case hsz => (first | omega | (simp; done) | (simp; omega) | (simp at *; omega)))) | ((with_reducible refine Below.setCell ?_ ?hsz _); (case hsz => (first | omega | (simp; done) | (simp; omega) | (simp at *; omega)))) | (with_reducible refine Below.drew ?_) | (with_reducible refine below_drewN ?_ _) | ((with_reducible refine Below.trans ?_ (Below.mono (by with_reducible assumption) ?hsz)); (case hsz => (first | omega | (simp; done) | (simp; omega) | (simp at *; omega))))))
  go_enter Try.func93, Try.ntmps93
  go_wp2_with fail
  go_loopw [11] (fun i wr => ∃ (k : Nat) (qs : List Int), k ≤ ps.length ∧ i = .int .i64 k ∧ Row wr w.heap.size w.heap.size ps.length ps.length qs ∧ qs.take k = (leastL ps).take k ∧ Below w.heap.size w wr) (fun i _ => ps.length - (intOf i).toNat)
  case atStart => exact ⟨0, _, by omega, rfl, HM.out, by simp, hB0⟩
  case round =>
    obtain ⟨k, qs, hk, rfl, hR, hq, hb⟩ := hrel
    have hzb := hb.size
    have hql := hR.len
    by_cases hlt : k < ps.length
    · obtain ⟨g, rfl, hg1, hg2, c0, c1, c2, c3, c4⟩ := hcell wr hb k hlt
      obtain ⟨y0, y1⟩ := hR.at' k hlt
      have hglr := hR.lt
      have hR2 := (hR.set k ps[k].le).keep ((Below.refl _ _).alloc (Nat.le_refl _) (.cells #[.int .i64 ps[k].fr, .int .i64 ps[k].to, .int .i64 ps[k].le, .int .i64 ps[k].mo, .int .i64 ps[k].co] 46))
      have Hq : Hid ((qs.set k ps[k].le).take (k + 1) = (leastL ps).take (k + 1)) := Lib.hid (set_take (by omega) hq (by simp [leastL, List.getElem?_eq_getElem hlt]))
      have HR2 := Lib.hid hR2
      have Hql := Lib.hid hql
      clear hR2 hq hR hql
      generalize qs.getD k 0 = old at *
      go_wp2
      go_roundw
      case rel => exact ⟨k + 1, _, by omega, by go_num, HR2.out, Hq.out, by (repeat (first | (with_reducible assumption) | (with_reducible exact Below.refl _ _) | ((with_reducible refine Below.alloc ?_ ?hsz _); (case hsz => (first | omega | (simp; done) | (simp; omega) | (simp at *; omega)))) | ((with_reducible refine Below.setCell ?_ ?hsz _); (case hsz => (first | omega | (simp; done) | (simp; omega) | (simp at *; omega)))) | (with_reducible refine Below.drew ?_) | (with_reducible refine below_drewN ?_ _) | ((with_reducible refine Below.trans ?_ (Below.mono (by with_reducible assumption) ?hsz)); (case hsz => (first | omega | (simp; done) | (simp; omega) | (simp at *; omega))))))⟩
      case measure => simp [intOf]; omega
    · have hkk : k = ps.length := by omega
      subst hkk
      have hqq : qs = leastL ps := by
        rw [List.take_of_length_le (by omega), List.take_of_length_le (by simp [leastL])] at hq
        exact hq
      subst hqq
      have hI := hR.ints
      go_wp2
      go_ret
      exact ⟨_, rfl, hI, hb⟩

set_option maxHeartbeats 1000000 in
set_option maxRecDepth 20000 in
theorem excFn_any (node n : Int) (bn bf : Nat) (v u : Value) (ps : List Pp) (xs : List Int) (b b' : Nat) (w : World) (hp : Pipes w b v ps) (hx : Ints w b' u xs) (hok : flowOkB n ps xs = true)
    (d1 : w.cell? ⟨bn, 1, none⟩ = some v) (d2 : w.cell? ⟨bf, 0, none⟩ = some u) :
    Calls Try.prog 127 #[.int .i64 node, .pointer (some ⟨bn, 0, none⟩), .pointer (some ⟨bf, 0, none⟩)] w fun e w' => e = .returned (.int .i64 (exc node ps xs)) ∧ Below w.heap.size w w' := by
  have hp0 := hp
  have hx0 := hx
  obtain ⟨A, c, rfl, -, -, -, -⟩ := hp.form
  obtain ⟨A', c', rfl, -, -, -, -⟩ := hx.form
  have Hok := Lib.hid hok
  clear hok
  go_enter Try.func127, Try.ntmps127
  go_wp2_with fail
  refine (excessOf_any node n _ _ ps xs b b' _ hp0 hx0 Hok.out).mono ?_
  rintro e w1 ⟨rfl, hb1⟩
  go_wp2
  go_ret
  exact ⟨rfl, hb1⟩

set_option maxHeartbeats 1000000 in
set_option maxRecDepth 20000 in
theorem plusFn_any (k : Nat) (n : Int) (b6 bn bf : Nat) (v u : Value) (ps : List Pp) (xs : List Int) (b b' : Nat) (w : World) (hp : Pipes w b v ps) (hx : Ints w b' u xs) (hok : flowOkB n ps xs = true)
    (d0 : w.cell? ⟨b6, 0, none⟩ = some (.func (Fn.func 127) #[] #[.pointer (some ⟨bn, 0, none⟩), .pointer (some ⟨bf, 0, none⟩)])) (d1 : w.cell? ⟨bn, 1, none⟩ = some v) (d2 : w.cell? ⟨bf, 0, none⟩ = some u) :
    Calls Try.prog 128 #[.int .i64 k, .pointer (some ⟨b6, 0, none⟩)] w fun e w' => e = .returned (.bool (plusF ps xs k)) ∧ Below w.heap.size w w' := by
  go_enter Try.func128, Try.ntmps128
  go_wp2_with fail
  refine (excFn_any k n bn bf v u ps xs b b' _ hp hx hok d1 d2).mono ?_
  rintro e w1 ⟨rfl, hb1⟩
  go_wp2
  go_ret
  exact ⟨rfl, hb1⟩

set_option maxHeartbeats 1000000 in
set_option maxRecDepth 20000 in
theorem lessFn_any (k : Nat) (n : Int) (b6 bn bf : Nat) (v u : Value) (ps : List Pp) (xs : List Int) (b b' : Nat) (w : World) (hp : Pipes w b v ps) (hx : Ints w b' u xs) (hok : flowOkB n ps xs = true)
    (d0 : w.cell? ⟨b6, 0, none⟩ = some (.func (Fn.func 127) #[] #[.pointer (some ⟨bn, 0, none⟩), .pointer (some ⟨bf, 0, none⟩)])) (d1 : w.cell? ⟨bn, 1, none⟩ = some v) (d2 : w.cell? ⟨bf, 0, none⟩ = some u) :
    Calls Try.prog 129 #[.int .i64 k, .pointer (some ⟨b6, 0, none⟩)] w fun e w' => e = .returned (.bool (lessF ps xs k)) ∧ Below w.heap.size w w' := by
  go_enter Try.func129, Try.ntmps129
  go_wp2_with fail
  refine (excFn_any k n bn bf v u ps xs b b' _ hp hx hok d1 d2).mono ?_
  rintro e w1 ⟨rfl, hb1⟩
  go_wp2
  go_ret
  exact ⟨rfl, hb1⟩

set_option maxHeartbeats 1000000 in
set_option maxRecDepth 20000 in
theorem plusWhere_any (cnt : Nat) (n : Int) (b6 bn bf : Nat) (v u : Value) (ps : List Pp) (xs : List Int) (b b' : Nat) (w : World) (hp : Pipes w b v ps) (hx : Ints w b' u xs) (hok : flowOkB n ps xs = true) (hcnt : cnt ≤ 5) (l6 : b6 < w.heap.size) (ln : bn < w.heap.size) (lf : bf < w.heap.size)
    (d0 : w.cell? ⟨b6, 0, none⟩ = some (.func (Fn.func 127) #[] #[.pointer (some ⟨bn, 0, none⟩), .pointer (some ⟨bf, 0, none⟩)])) (d1 : w.cell? ⟨bn, 1, none⟩ = some v) (d2 : w.cell? ⟨bf, 0, none⟩ = some u) :
    Calls Try.prog 85 #[.int .i64 cnt, .func (Fn.func 128) #[] #[.pointer (some ⟨b6, 0, none⟩)]] w fun e w' => ∃ r, e = .returned r ∧ Ints w' w.heap.size r (numW cnt (plusF ps xs)) ∧ Below w.heap.size w w' := by
  have Hok := Lib.hid hok
  clear hok
  go_enter Try.func85, Try.ntmps85
  go_wp2
  obtain ⟨i0, hi0, hz0, hz1, hz2⟩ := info_parts int_info
  go_loopw [8, 5] (fun i t wr => ∃ (k j k1 : Nat) (A1 : Option Addr), k ≤ cnt ∧ i = .int .i64 k ∧ t = .slice A1 j k1 ∧ (numW k (plusF ps xs)).length = j ∧
      wr.ownsRow w.heap.size 3 1 (.slice A1 j k1) j ((numW k (plusF ps xs)).map (Value.int .i64)) ∧ Below w.heap.size w wr) (fun i _ _ => cnt - (intOf i).toNat)
  case atStart => exact ⟨0, 0, 0, none, by omega, rfl, rfl, rfl, World.ownsRow_nil _ _ _ 1, Below.refl _ _⟩
  case round =>
    obtain ⟨k, j, k1, A1, hk, rfl, rfl, hj, hown, hb⟩ := hrel
    have hjk : j ≤ k := by rw [← hj]; exact numW_len k _
    have HJ := Lib.hid hj
    clear hj
    obtain ⟨hcr, hfr, hzr⟩ := bcell hb
    by_cases hlt : k < cnt
    · by_cases hf : (plusF ps xs) k = true
      · have Hf := Lib.hid (numW_yes hf)
        go_wp2_with fail
        refine (plusFn_any k n b6 bn bf v u ps xs b b' _ (hp.keep (by (repeat (first | (with_reducible assumption) | (with_reducible exact Below.refl _ _) | ((with_reducible refine Below.alloc ?_ ?hsz _); (case hsz => (first | omega | (simp; done) | (simp; omega) | (simp at *; omega)))) | ((with_reducible refine Below.setCell ?_ ?hsz _); (case hsz => (first | omega | (simp; done) | (simp; omega) | (simp at *; omega)))) | (with_reducible refine Below.drew ?_) | (with_reducible refine below_drewN ?_ _) | ((with_reducible refine Below.trans ?_ (Below.mono (by with_reducible assumption) ?hsz)); (case hsz => (first | omega | (simp; done) | (simp; omega) | (simp at *; omega)))))))) (hx.keep (by (repeat (first | (with_reducible assumption) | (with_reducible exact Below.refl _ _) | ((with_reducible refine Below.alloc ?_ ?hsz _); (case hsz => (first | omega | (simp; done) | (simp; omega) | (simp at *; omega)))) | ((with_reducible refine Below.setCell ?_ ?hsz _); (case hsz => (first | omega | (simp; done) | (simp; omega) | (simp at *; omega)))) | (with_reducible refine Below.drew ?_) | (with_reducible refine below_drewN ?_ _) | ((with_reducible refine Below.trans ?_ (Below.mono (by with_reducible assumption) ?hsz)); (case hsz => (first | omega | (simp; done) | (simp; omega) | (simp at *; omega)))))))) Hok.out (by (repeat (first | (with_reducible assumption) | ((with_reducible refine (Below.cell (by with_reducible assumption) ?hsz).trans ?_); (case hsz => (first | omega | (simp; done) | (simp; omega) | (simp at *; omega)))) | ((with_reducible refine (World.cell?_alloc_lt _ _ _ ?hsz).trans ?_); (case hsz => (first | omega | (simp; done) | (simp; omega) | (simp at *; omega)))) | ((with_reducible refine (World.cell?_setCell_other _ _ _ _ ?hsz).trans ?_); (case hsz => (intro h; injection h with h1 h2; omega)))))) (by (repeat (first | (with_reducible assumption) | ((with_reducible refine (Below.cell (by with_reducible assumption) ?hsz).trans ?_); (case hsz => (first | omega | (simp; done) | (simp; omega) | (simp at *; omega)))) | ((with_reducible refine (World.cell?_alloc_lt _ _ _ ?hsz).trans ?_); (case hsz => (first | omega | (simp; done) | (simp; omega) | (simp at *; omega)))) | ((with_reducible refine (World.cell?_setCell_other _ _ _ _ ?hsz).trans ?_); (case hsz => (intro h; injection h with h1 h2; omega)))))) (by (repeat (first | (with_reducible assumption) | ((with_reducible refine (Below.cell (by with_reducible assumption) ?hsz).trans ?_); (case hsz => (first | omega | (simp; done) | (simp; omega) | (simp at *; omega)))) | ((with_reducible refine (World.cell?_alloc_lt _ _ _ ?hsz).trans ?_); (case hsz => (first | omega | (simp; done) | (simp; omega) | (simp at *; omega)))) | ((with_reducible refine (World.cell?_setCell_other _ _ _ _ ?hsz).trans ?_); (case hsz => (intro h; injection h with h1 h2; omega))))))).mono ?_
        rintro e w2 ⟨rfl, hb2⟩
        have hown2 := own_keep hown (Nat.le_refl _) hb2
        have hz2' := hb2.size
        have hbw2 : Below w.heap.size w w2 := by (repeat (first | (with_reducible assumption) | (with_reducible exact Below.refl _ _) | ((with_reducible refine Below.alloc ?_ ?hsz _); (case hsz => (first | omega | (simp; done) | (simp; omega) | (simp at *; omega)))) | ((with_reducible refine Below.setCell ?_ ?hsz _); (case hsz => (first | omega | (simp; done) | (simp; omega) | (simp at *; omega)))) | (with_reducible refine Below.drew ?_) | (with_reducible refine below_drewN ?_ _) | ((with_reducible refine Below.trans ?_ (Below.mono (by with_reducible assumption) ?hsz)); (case hsz => (first | omega | (simp; done) | (simp; omega) | (simp at *; omega))))))
        have hrow : ∀ q, (Value.slice A1 j k1).ownBlock = some q → w.heap.size ≤ q := fun q hq => (hown.lt q hq).1
        clear hown hcr hfr hb hb2
        go_wp2_with (first
          | (at_builtin
             go_must (refine wpList_append_lies _ rfl _ _ 26 rfl w.heap.size 3 i0 _ 1 8 Try.underlying26 hi0 hz0 hz1 hz2 rfl (by omega) _ j _ rfl (hown2.alloc _) ⟨w2.heap.size, 0, none⟩ 1 1 [.int .i64 k] rfl rfl (World.news_of_block (cs := #[.int .i64 k]) (t := 3) (fr := (0, 0)) (heap_alloc_new _ _)) (by simp [Value.oneCell']) (by omega) (by unfold maxLen; omega) (by omega) (by simp; omega) _ rfl ?_)
             intro g2 k2 w7 hown7 hgr7 hat7 hlt7))
        have hb7 : Below w.heap.size w w7 := by
          refine Below.grown (w := w2.alloc (.cells #[.int .i64 k] 3)) (by (repeat (first | (with_reducible assumption) | (with_reducible exact Below.refl _ _) | ((with_reducible refine Below.alloc ?_ ?hsz _); (case hsz => (first | omega | (simp; done) | (simp; omega) | (simp at *; omega)))) | ((with_reducible refine Below.setCell ?_ ?hsz _); (case hsz => (first | omega | (simp; done) | (simp; omega) | (simp at *; omega)))) | (with_reducible refine Below.drew ?_) | (with_reducible refine below_drewN ?_ _) | ((with_reducible refine Below.trans ?_ (Below.mono (by with_reducible assumption) ?hsz)); (case hsz => (first | omega | (simp; done) | (simp; omega) | (simp at *; omega))))))) hgr7 (by (first | omega | (simp; done) | (simp; omega) | (simp at *; omega))) hrow
        have hown8 : w7.ownsRow w.heap.size 3 1 (.slice (some ⟨g2, 0, none⟩) (j + 1) k2) (j + 1) ((numW (k + 1) (plusF ps xs)).map (Value.int .i64)) := by
          rw [Hf.out, List.map_append]
          simpa using hown7
        have hj8 : (numW (k + 1) (plusF ps xs)).length = j + 1 := by rw [Hf.out, List.length_append, HJ.out]; rfl
        clear hown7 hgr7 hat7 hlt7
        go_roundw
        case rel => exact ⟨k + 1, j + 1, k2, some ⟨g2, 0, none⟩, by omega, by go_num, rfl, hj8, hown8, hb7⟩
        case measure => simp [intOf]; omega
      · have hf' : (plusF ps xs) k = false := by simpa using hf
        have Hf := Lib.hid (numW_no hf')
        clear hf
        go_wp2_with fail
        refine (plusFn_any k n b6 bn bf v u ps xs b b' _ (hp.keep (by (repeat (first | (with_reducible assumption) | (with_reducible exact Below.refl _ _) | ((with_reducible refine Below.alloc ?_ ?hsz _); (case hsz => (first | omega | (simp; done) | (simp; omega) | (simp at *; omega)))) | ((with_reducible refine Below.setCell ?_ ?hsz _); (case hsz => (first | omega | (simp; done) | (simp; omega) | (simp at *; omega)))) | (with_reducible refine Below.drew ?_) | (with_reducible refine below_drewN ?_ _) | ((with_reducible refine Below.trans ?_ (Below.mono (by with_reducible assumption) ?hsz)); (case hsz => (first | omega | (simp; done) | (simp; omega) | (simp at *; omega)))))))) (hx.keep (by (repeat (first | (with_reducible assumption) | (with_reducible exact Below.refl _ _) | ((with_reducible refine Below.alloc ?_ ?hsz _); (case hsz => (first | omega | (simp; done) | (simp; omega) | (simp at *; omega)))) | ((with_reducible refine Below.setCell ?_ ?hsz _); (case hsz => (first | omega | (simp; done) | (simp; omega) | (simp at *; omega)))) | (with_reducible refine Below.drew ?_) | (with_reducible refine below_drewN ?_ _) | ((with_reducible refine Below.trans ?_ (Below.mono (by with_reducible assumption) ?hsz)); (case hsz => (first | omega | (simp; done) | (simp; omega) | (simp at *; omega)))))))) Hok.out (by (repeat (first | (with_reducible assumption) | ((with_reducible refine (Below.cell (by with_reducible assumption) ?hsz).trans ?_); (case hsz => (first | omega | (simp; done) | (simp; omega) | (simp at *; omega)))) | ((with_reducible refine (World.cell?_alloc_lt _ _ _ ?hsz).trans ?_); (case hsz => (first | omega | (simp; done) | (simp; omega) | (simp at *; omega)))) | ((with_reducible refine (World.cell?_setCell_other _ _ _ _ ?hsz).trans ?_); (case hsz => (intro h; injection h with h1 h2; omega)))))) (by (repeat (first | (with_reducible assumption) | ((with_reducible refine (Below.cell (by with_reducible assumption) ?hsz).trans ?_); (case hsz => (first | omega | (simp; done) | (simp; omega) | (simp at *; omega)))) | ((with_reducible refine (World.cell?_alloc_lt _ _ _ ?hsz).trans ?_); (case hsz => (first | omega | (simp; done) | (simp; omega) | (simp at *; omega)))) | ((with_reducible refine (World.cell?_setCell_other _ _ _ _ ?hsz).trans ?_); (case hsz => (intro h; injection h with h1 h2; omega)))))) (by (repeat (first | (with_reducible assumption) | ((with_reducible refine (Below.cell (by with_reducible assumption) ?hsz).trans ?_); (case hsz => (first | omega | (simp; done) | (simp; omega) | (simp at *; omega)))) | ((with_reducible refine (World.cell?_alloc_lt _ _ _ ?hsz).trans ?_); (case hsz => (first | omega | (simp; done) | (simp; omega) | (simp at *; omega)))) | ((with_reducible refine (World.cell?_setCell_other _ _ _ _ ?hsz).trans ?_); (case hsz => (intro h; injection h with h1 h2; omega))))))).mono ?_
        rintro e w2 ⟨rfl, hb2⟩
        have hown2 := own_keep hown (Nat.le_refl _) hb2
        have hbw2 : Below w.heap.size w w2 := by (repeat (first | (with_reducible assumption) | (with_reducible exact Below.refl _ _) | ((with_reducible refine Below.alloc ?_ ?hsz _); (case hsz => (first | omega | (simp; done) | (simp; omega) | (simp at *; omega)))) | ((with_reducible refine Below.setCell ?_ ?hsz _); (case hsz => (first | omega | (simp; done) | (simp; omega) | (simp at *; omega)))) | (with_reducible refine Below.drew ?_) | (with_reducible refine below_drewN ?_ _) | ((with_reducible refine Below.trans ?_ (Below.mono (by with_reducible assumption) ?hsz)); (case hsz => (first | omega | (simp; done) | (simp; omega) | (simp at *; omega))))))
        clear hown hcr hfr hb hb2
        go_wp2
        go_roundw
        case rel => exact ⟨k + 1, j, k1, A1, by omega, by go_num, rfl, by rw [Hf.out]; exact HJ.out, by rw [Hf.out]; exact hown2, hbw2⟩
        case measure => simp [intOf]; omega
    · go_wp2
      go_ret
      have hk2 : k = cnt := by omega
      subst hk2
      exact ⟨_, rfl, ⟨by rw [HJ.out]; exact hown, by rw [HJ.out]; unfold small; omega⟩, hb⟩

set_option maxHeartbeats 1000000 in
set_option maxRecDepth 20000 in
theorem lessWhere_any (cnt : Nat) (n : Int) (b6 bn bf : Nat) (v u : Value) (ps : List Pp) (xs : List Int) (b b' : Nat) (w : World) (hp : Pipes w b v ps) (hx : Ints w b' u xs) (hok : flowOkB n ps xs = true) (hcnt : cnt ≤ 5) (l6 : b6 < w.heap.size) (ln : bn < w.heap.size) (lf : bf < w.heap.size)
    (d0 : w.cell? ⟨b6, 0, none⟩ = some (.func (Fn.func 127) #[] #[.pointer (some ⟨bn, 0, none⟩), .pointer (some ⟨bf, 0, none⟩)])) (d1 : w.cell? ⟨bn, 1, none⟩ = some v) (d2 : w.cell? ⟨bf, 0, none⟩ = some u) :
    Calls Try.prog 85 #[.int .i64 cnt, .func (Fn.func 129) #[] #[.pointer (some ⟨b6, 0, none⟩)]] w fun e w' => ∃ r, e = .returned r ∧ Ints w' w.heap.size r (numW cnt (lessF ps xs)) ∧ Below w.heap.size w w' := by
  have Hok := Lib.hid hok
  clear hok
  go_enter Try.func85, Try.ntmps85
  go_wp2
  obtain ⟨i0, hi0, hz0, hz1, hz2⟩ := info_parts int_info
  go_loopw [8, 5] (fun i t wr => ∃ (k j k1 : Nat) (A1 : Option Addr), k ≤ cnt ∧ i = .int .i64 k ∧ t = .slice A1 j k1 ∧ (numW k (lessF ps xs)).length = j ∧
      wr.ownsRow w.heap.size 3 1 (.slice A1 j k1) j ((numW k (lessF ps xs)).map (Value.int .i64)) ∧ Below w.heap.size w wr) (fun i _ _ => cnt - (intOf i).toNat)
  case atStart => exact ⟨0, 0, 0, none, by omega, rfl, rfl, rfl, World.ownsRow_nil _ _ _ 1, Below.refl _ _⟩
  case round =>
    obtain ⟨k, j, k1, A1, hk, rfl, rfl, hj, hown, hb⟩ := hrel
    have hjk : j ≤ k := by rw [← hj]; exact numW_len k _
    have HJ := Lib.hid hj
    clear hj
    obtain ⟨hcr, hfr, hzr⟩ := bcell hb
    by_cases hlt : k < cnt
    · by_cases hf : (lessF ps xs) k = true
      · have Hf := Lib.hid (numW_yes hf)
        go_wp2_with fail
        refine (lessFn_any k n b6 bn bf v u ps xs b b' _ (hp.keep (by (repeat (first | (with_reducible assumption) | (with_reducible exact Below.refl _ _) | ((with_reducible refine Below.alloc ?_ ?hsz _); (case hsz => (first | omega | (simp; done) | (simp; omega) | (simp at *; omega)))) | ((with_reducible refine Below.setCell ?_ ?hsz _); (case hsz => (first | omega | (simp; done) | (simp; omega) | (simp at *; omega)))) | (with_reducible refine Below.drew ?_) | (with_reducible refine below_drewN ?_ _) | ((with_reducible refine Below.trans ?_ (Below.mono (by with_reducible assumption) ?hsz)); (case hsz => (first | omega | (simp; done) | (simp; omega) | (simp at *; omega)))))))) (hx.keep (by (repeat (first | (with_reducible assumption) | (with_reducible exact Below.refl _ _) | ((with_reducible refine Below.alloc ?_ ?hsz _); (case hsz => (first | omega | (simp; done) | (simp; omega) | (simp at *; omega)))) | ((with_reducible refine Below.setCell ?_ ?hsz _); (case hsz => (first | omega | (simp; done) | (simp; omega) | (simp at *; omega)))) | (with_reducible refine Below.drew ?_) | (with_reducible refine below_drewN ?_ _) | ((with_reducible refine Below.trans ?_ (Below.mono (by with_reducible assumption) ?hsz)); (case hsz => (first | omega | (simp; done) | (simp; omega) | (simp at *; omega)))))))) Hok.out (by (repeat (first | (with_reducible assumption) | ((with_reducible refine (Below.cell (by with_reducible assumption) ?hsz).trans ?_); (case hsz => (first | omega | (simp; done) | (simp; omega) | (simp at *; omega)))) | ((with_reducible refine (World.cell?_alloc_lt _ _ _ ?hsz).trans ?_); (case hsz => (first | omega | (simp; done) | (simp; omega) | (simp at *; omega)))) | ((with_reducible refine (World.cell?_setCell_other _ _ _ _ ?hsz).trans ?_); (case hsz => (intro h; injection h with h1 h2; omega)))))) (by (repeat (first | (with_reducible assumption) | ((with_reducible refine (Below.cell (by with_reducible assumption) ?hsz).trans ?_); (case hsz => (first | omega | (simp; done) | (simp; omega) | (simp at *; omega)))) | ((with_reducible refine (World.cell?_alloc_lt _ _ _ ?hsz).trans ?_); (case hsz => (first | omega | (simp; done) | (simp; omega) | (simp at *; omega)))) | ((with_reducible refine (World.cell?_setCell_other _ _ _ _ ?hsz).trans ?_); (case hsz => (intro h; injection h with h1 h2; omega)))))) (by (repeat (first | (with_reducible assumption) | ((with_reducible refine (Below.cell (by with_reducible assumption) ?hsz).trans ?_); (case hsz => (first | omega | (simp; done) | (simp; omega) | (simp at *; omega)))) | ((with_reducible refine (World.cell?_alloc_lt _ _ _ ?hsz).trans ?_); (case hsz => (first | omega | (simp; done) | (simp; omega) | (simp at *; omega)))) | ((with_reducible refine (World.cell?_setCell_other _ _ _ _ ?hsz).trans ?_); (case hsz => (intro h; injection h with h1 h2; omega))))))).mono ?_
        rintro e w2 ⟨rfl, hb2⟩
        have hown2 := own_keep hown (Nat.le_refl _) hb2
        have hz2' := hb2.size
        have hbw2 : Below w.heap.size w w2 := by (repeat (first | (with_reducible assumption) | (with_reducible exact Below.refl _ _) | ((with_reducible refine Below.alloc ?_ ?hsz _); (case hsz => (first | omega | (simp; done) | (simp; omega) | (simp at *; omega)))) | ((with_reducible refine Below.setCell ?_ ?hsz _); (case hsz => (first | omega | (simp; done) | (simp; omega) | (simp at *; omega)))) | (with_reducible refine Below.drew ?_) | (with_reducible refine below_drewN ?_ _) | ((with_reducible refine Below.trans ?_ (Below.mono (by with_reducible assumption) ?hsz)); (case hsz => (first | omega | (simp; done) | (simp; omega) | (simp at *; omega))))))
        have hrow : ∀ q, (Value.slice A1 j k1).ownBlock = some q → w.heap.size ≤ q := fun q hq => (hown.lt q hq).1
        clear hown hcr hfr hb hb2
        go_wp2_with (first
          | (at_builtin
             go_must (refine wpList_append_lies _ rfl _ _ 26 rfl w.heap.size 3 i0 _ 1 8 Try.underlying26 hi0 hz0 hz1 hz2 rfl (by omega) _ j _ rfl (hown2.alloc _) ⟨w2.heap.size, 0, none⟩ 1 1 [.int .i64 k] rfl rfl (World.news_of_block (cs := #[.int .i64 k]) (t := 3) (fr := (0, 0)) (heap_alloc_new _ _)) (by simp [Value.oneCell']) (by omega) (by unfold maxLen; omega) (by omega) (by simp; omega) _ rfl ?_)
             intro g2 k2 w7 hown7 hgr7 hat7 hlt7))
        have hb7 : Below w.heap.size w w7 := by
          refine Below.grown (w := w2.alloc (.cells #[.int .i64 k] 3)) (by (repeat (first | (with_reducible assumption) | (with_reducible exact Below.refl _ _) | ((with_reducible refine Below.alloc ?_ ?hsz _); (case hsz => (first | omega | (simp; done) | (simp; omega) | (simp at *; omega)))) | ((with_reducible refine Below.setCell ?_ ?hsz _); (case hsz => (first | omega | (simp; done) | (simp; omega) | (simp at *; omega)))) | (with_reducible refine Below.drew ?_) | (with_reducible refine below_drewN ?_ _) | ((with_reducible refine Below.trans ?_ (Below.mono (by with_reducible assumption) ?hsz)); (case hsz => (first | omega | (simp; done) | (simp; omega) | (simp at *; omega))))))) hgr7 (by (first | omega | (simp; done) | (simp; omega) | (simp at *; omega))) hrow
        have hown8 : w7.ownsRow w.heap.size 3 1 (.slice (some ⟨g2, 0, none⟩) (j + 1) k2) (j + 1) ((numW (k + 1) (lessF ps xs)).map (Value.int .i64)) := by
          rw [Hf.out, List.map_append]
          simpa using hown7
        have hj8 : (numW (k + 1) (lessF ps xs)).length = j + 1 := by rw [Hf.out, List.length_append, HJ.out]; rfl
        clear hown7 hgr7 hat7 hlt7
        go_roundw
        case rel => exact ⟨k + 1, j + 1, k2, some ⟨g2, 0, none⟩, by omega, by go_num, rfl, hj8, hown8, hb7⟩
        case measure => simp [intOf]; omega
      · have hf' : (lessF ps xs) k = false := by simpa using hf
        have Hf := Lib.hid (numW_no hf')
        clear hf
        go_wp2_with fail
        refine (lessFn_any k n b6 bn bf v u ps xs b b' _ (hp.keep (by (repeat (first | (with_reducible assumption) | (with_reducible exact Below.refl _ _) | ((with_reducible refine Below.alloc ?_ ?hsz _); (case hsz => (first | omega | (simp; done) | (simp; omega) | (simp at *; omega)))) | ((with_reducible refine Below.setCell ?_ ?hsz _); (case hsz => (first | omega | (simp; done) | (simp; omega) | (simp at *; omega)))) | (with_reducible refine Below.drew ?_) | (with_reducible refine below_drewN ?_ _) | ((with_reducible refine Below.trans ?_ (Below.mono (by with_reducible assumption) ?hsz)); (case hsz => (first | omega | (simp; done) | (simp; omega) | (simp at *; omega)))))))) (hx.keep (by (repeat (first | (with_reducible assumption) | (with_reducible exact Below.refl _ _) | ((with_reducible refine Below.alloc ?_ ?hsz _); (case hsz => (first | omega | (simp; done) | (simp; omega) | (simp at *; omega)))) | ((with_reducible refine Below.setCell ?_ ?hsz _); (case hsz => (first | omega | (simp; done) | (simp; omega) | (simp at *; omega)))) | (with_reducible refine Below.drew ?_) | (with_reducible refine below_drewN ?_ _) | ((with_reducible refine Below.trans ?_ (Below.mono (by with_reducible assumption) ?hsz)); (case hsz => (first | omega | (simp; done) | (simp; omega) | (simp at *; omega)))))))) Hok.out (by (repeat (first | (with_reducible assumption) | ((with_reducible refine (Below.cell (by with_reducible assumption) ?hsz).trans ?_); (case hsz => (first | omega | (simp; done) | (simp; omega) | (simp at *; omega)))) | ((with_reducible refine (World.cell?_alloc_lt _ _ _ ?hsz).trans ?_); (case hsz => (first | omega | (simp; done) | (simp; omega) | (simp at *; omega)))) | ((with_reducible refine (World.cell?_setCell_other _ _ _ _ ?hsz).trans ?_); (case hsz => (intro h; injection h with h1 h2; omega)))))) (by (repeat (first | (with_reducible assumption) | ((with_reducible refine (Below.cell (by with_reducible assumption) ?hsz).trans ?_); (case hsz => (first | omega | (simp; done) | (simp; omega) | (simp at *; omega)))) | ((with_reducible refine (World.cell?_alloc_lt _ _ _ ?hsz).trans ?_); (case hsz => (first | omega | (simp; done) | (simp; omega) | (simp at *; omega)))) | ((with_reducible refine (World.cell?_setCell_other _ _ _ _ ?hsz).trans ?_); (case hsz => (intro h; injection h with h1 h2; omega)))))) (by (repeat (first | (with_reducible assumption) | ((with_reducible refine (Below.cell (by with_reducible assumption) ?hsz).trans ?_); (case hsz => (first | omega | (simp; done) | (simp; omega) | (simp at *; omega)))) | ((with_reducible refine (World.cell?_alloc_lt _ _ _ ?hsz).trans ?_); (case hsz => (first | omega | (simp; done) | (simp; omega) | (simp at *; omega)))) | ((with_reducible refine (World.cell?_setCell_other _ _ _ _ ?hsz).trans ?_); (case hsz => (intro h; injection h with h1 h2; omega))))))).mono ?_
        rintro e w2 ⟨rfl, hb2⟩
        have hown2 := own_keep hown (Nat.le_refl _) hb2
        have hbw2 : Below w.heap.size w w2 := by (repeat (first | (with_reducible assumption) | (with_reducible exact Below.refl _ _) | ((with_reducible refine Below.alloc ?_ ?hsz _); (case hsz => (first | omega | (simp; done) | (simp; omega) | (simp at *; omega)))) | ((with_reducible refine Below.setCell ?_ ?hsz _); (case hsz => (first | omega | (simp; done) | (simp; omega) | (simp at *; omega)))) | (with_reducible refine Below.drew ?_) | (with_reducible refine below_drewN ?_ _) | ((with_reducible refine Below.trans ?_ (Below.mono (by with_reducible assumption) ?hsz)); (case hsz => (first | omega | (simp; done) | (simp; omega) | (simp at *; omega))))))
        clear hown hcr hfr hb hb2
        go_wp2
        go_roundw
        case rel => exact ⟨k + 1, j, k1, A1, by omega, by go_num, rfl, by rw [Hf.out]; exact HJ.out, by rw [Hf.out]; exact hown2, hbw2⟩
        case measure => simp [intOf]; omega
    · go_wp2
      go_ret
      have hk2 : k = cnt := by omega
      subst hk2
      exact ⟨_, rfl, ⟨by rw [HJ.out]; exact hown, by rw [HJ.out]; unfold small; omega⟩, hb⟩

/-- what the operations of the amount of a push yield -/
def amV (B0 : Nat) (v u way fn : Value) (f t a F Y mn : Int) : Nat → Value → Prop
  | 0, x => x = .pointer (some ⟨B0, 1, none⟩)
  | 1, x => x = v
  | 2, x => x = u
  | 3, x => x = way
  | 4, x => x = .int .i64 a
  | 5, x => x = fn
  | 6, x => x = .int .i64 f
  | 7, x => x = .int .i64 F
  | 8, x => x = fn
  | 9, x => x = .int .i64 t
  | 10, x => x = .int .i64 (-Y)
  | 11, x => x = .int .i64 Y
  | 12, x => x = .int .i64 mn
  | 13, x => x = .int .i64 mn
  | _, _ => True

theorem int_eq {a b : Int} (h : a = b) : Value.int .i64 a = .int .i64 b := by rw [h]

theorem numW_map (c : Nat) (f : Nat → Bool) : numW c f = ((List.range c).filter f).map fun i : Nat => (i : Int) := rfl

set_option maxHeartbeats 8000000 in
set_option maxRecDepth 20000 in
theorem pushedToLack_any (n : Int) (v u : Value) (ps : List Pp) (xs : List Int) (b b' : Nat) (w : World) (hp : Pipes w b v ps) (hx : Ints w b' u xs) (hh : holdsB n ps xs = true) (hbal : balB n ps xs = false) :
    Calls Try.prog 95 #[.agg #[.int .i64 n, v], u] w fun e w' => ∃ r, e = .returned (.tuple #[r, .bool (nextC n ps xs).isSome]) ∧ Ints w' w.heap.size r ((nextC n ps xs).getD []) ∧ Below w.heap.size w w' := by
  have hp0 := hp
  have hx0 := hx
  obtain ⟨A, c, rfl, -, -, -, -⟩ := hp.form
  obtain ⟨A', c', rfl, -, -, -, -⟩ := hx.form
  have hn := holds_net hh
  obtain ⟨n2, n5, hl7, -⟩ := netOk_parts hn
  have hfl := (holds_parts hh).1
  obtain ⟨N, rfl⟩ := Int.eq_ofNat_of_zero_le (show 0 ≤ n by omega)
  obtain ⟨f, hf⟩ : ∃ f, excessO N ps xs = some f := by
    cases he : excessO N ps xs with
    | none => rw [excess_none hfl he] at hbal; cases hbal
    | some f => exact ⟨f, rfl⟩
  obtain ⟨f1, f2, f3⟩ := excess_some hf
  rw [Int.toNat_natCast] at f1
  have hhd := numW_head (show (List.range N).find? (plusF ps xs) = some f by rw [← hf, excessO_eq, Int.toNat_natCast])
  have HH := Lib.hid (And.intro hh (And.intro hn (And.intro hfl (And.intro hf hhd))))
  have Hbd := Lib.hid (fun v : Int => exc_bd7 hfl v)
  obtain ⟨mx, hmx⟩ : ∃ m, xs.length = m := ⟨_, rfl⟩
  rw [hmx] at hx0 ⊢
  have Hmx := Lib.hid hmx
  clear hh hn hfl hf f3 hhd hbal hx hmx
  obtain ⟨wa, hwa⟩ : ∃ wa, wa = ((w.alloc (.cells #[.int .i64 N, .slice A ps.length c] 25)).alloc (.cells #[.slice A' mx c'] 26)).alloc (.cells #[.func (Fn.func 127) #[] #[.pointer (some ⟨w.heap.size, 0, none⟩), .pointer (some ⟨w.heap.size + 1, 0, none⟩)]] 67) := ⟨_, rfl⟩
  have bxa : Box2 wa w.heap.size (.int .i64 N) (.slice A ps.length c) := by
    rw [hwa]
    exact ((Box2.new w _ _ 25).keep ((Below.refl _ _).alloc (Nat.le_refl _) _)).keep ((Below.refl _ _).alloc (Nat.le_refl _) _)
  have hBa : Below w.heap.size w wa := by rw [hwa]; (repeat (first | (with_reducible assumption) | (with_reducible exact Below.refl _ _) | ((with_reducible refine Below.alloc ?_ ?hsz _); (case hsz => (first | omega | (simp; done) | (simp; omega) | (simp at *; omega)))) | ((with_reducible refine Below.setCell ?_ ?hsz _); (case hsz => (first | omega | (simp; done) | (simp; omega) | (simp at *; omega)))) | (with_reducible refine Below.drew ?_) | (with_reducible refine below_drewN ?_ _) | ((with_reducible refine Below.trans ?_ (Below.mono (by with_reducible assumption) ?hsz)); (case hsz => (first | omega | (simp; done) | (simp; omega) | (simp at *; omega))))))
  have c6 : wa.cell? ⟨w.heap.size + 1, 0, none⟩ = some (.slice A' mx c') := by
    rw [hwa]
    exact (World.cell?_alloc_lt _ _ _ (by simp)).trans ((World.cell?_alloc_at _ _ _ _ (by simp)).trans rfl)
  have ca : wa.cell? ⟨w.heap.size + 2, 0, none⟩ = some (.func (Fn.func 127) #[] #[.pointer (some ⟨w.heap.size, 0, none⟩), .pointer (some ⟨w.heap.size + 1, 0, none⟩)]) := by
    rw [hwa]
    exact (World.cell?_alloc_at _ _ _ _ (by simp)).trans rfl
  have hza : w.heap.size + 2 < wa.heap.size := by rw [hwa]; simp
  have Hwa := Lib.hid (And.intro hwa (And.intro bxa (And.intro hBa (And.intro c6 (And.intro ca hza)))))
  clear hwa bxa hBa c6 ca hza
  have hsf := fun (a : Addr) (c : Array Value) (w : World) => run_store Try.prog w a (.func (Fn.func 127) #[] c) .plain rfl
  go_enter Try.func95, Try.ntmps95
  go_wp2_with fail
  clear hsf
  generalize hW : World.alloc (World.alloc (World.alloc w _) _) _ = W2
  obtain rfl : wa = W2 := Hwa.out.1.trans hW
  obtain ⟨-, bxa, hBa, c6, ca, hza⟩ := Hwa.out
  clear hW
  obtain ⟨bs, d0, d1, -, -⟩ := id bxa
  refine (plusWhere_any N N (w.heap.size + 2) w.heap.size (w.heap.size + 1) _ _ ps xs b b' _ (hp0.keep hBa) (hx0.keep hBa) HH.out.2.2.1 (by omega) (by omega) (by omega) (by omega) ca d1 c6).mono ?_
  rintro e w1 ⟨r1, rfl, hr1, hb1⟩
  have hB1 := hBa.trans (hb1.mono hBa.size)
  have hz1 := hb1.size
  obtain ⟨A1, c1, rfl, hc11, hc12, hsm1, hcell1⟩ := hr1.form
  unfold maxLen at hc12
  obtain ⟨g1, rfl, g11, g12, cf, -⟩ := hcell1 w1 (Below.refl _ _) 0 HH.out.2.2.2.2.1
  have hget : (numW N (plusF ps xs))[0]'(HH.out.2.2.2.2.1) = (f : Int) := by
    have h := HH.out.2.2.2.2.2
    rw [List.getD_eq_getElem?_getD, List.getElem?_eq_getElem HH.out.2.2.2.2.1, Option.getD_some] at h
    exact h
  rw [hget] at cf
  obtain ⟨m1, hm1⟩ : ∃ m, (numW N (plusF ps xs)).length = m := ⟨_, rfl⟩
  have hm10 : 0 < m1 := by rw [← hm1]; exact HH.out.2.2.2.2.1
  rw [hm1] at hc11 hsm1 ⊢
  have bx1 := bxa.keep hb1
  have c61 := (bel_cell hb1 (show w.heap.size + 1 < wa.heap.size by omega)).trans c6
  have ca1 := (bel_cell hb1 (show w.heap.size + 2 < wa.heap.size by omega)).trans ca
  clear hr1 hcell1 hget hm1 bxa d0 d1 bs c6 ca
  obtain ⟨bs, d0, d1, -, -⟩ := id bx1
  go_wp2_with fail
  refine (lessWhere_any N N (w.heap.size + 2) w.heap.size (w.heap.size + 1) _ _ ps xs b b' _ (hp0.keep hB1) (hx0.keep hB1) HH.out.2.2.1 (by omega) (by omega) (by omega) (by omega) ca1 d1 c61).mono ?_
  rintro e w2 ⟨r2, rfl, hr2, hb2⟩
  have hB2 := hB1.trans (hb2.mono hB1.size)
  have hz2 := hb2.size
  have bx2 := bx1.keep hb2
  have c62 := (bel_cell hb2 (show w.heap.size + 1 < w1.heap.size by omega)).trans c61
  have ca2 := (bel_cell hb2 (show w.heap.size + 2 < w1.heap.size by omega)).trans ca1
  rw [numW_map] at hr2
  obtain ⟨T, hT⟩ : ∃ T, (List.range N).filter (lessF ps xs) = T := ⟨_, rfl⟩
  rw [hT] at hr2
  have Hlk : Hid (lackO N ps xs f = T.find? fun v : Nat => wayB N ps xs f v) := Lib.hid (by rw [lackO_eq, Int.toNat_natCast, hT])
  have HTm : Hid (∀ t ∈ T, t < N ∧ exc (t : Int) ps xs < 0) := Lib.hid fun t ht => by
    rw [← hT] at ht
    have := List.mem_filter.1 ht
    exact ⟨List.mem_range.1 this.1, by simpa [lessF] using this.2⟩
  clear hT bx1 d0 d1 bs c61 ca1
  obtain ⟨bs, d0, d1, -, -⟩ := id bx2
  obtain ⟨A2, c2, rfl, hc21, hc22, hsm2, hcell2⟩ := hr2.form
  unfold maxLen at hc22
  have hlT : (T.map fun i : Nat => (i : Int)).length = T.length := by simp
  rw [hlT] at hc21 hsm2 ⊢
  have HlT := Lib.hid hlT
  have HC2 := Lib.hid hcell2
  clear hlT hr2 hcell2
  obtain ⟨F, hF⟩ : ∃ F, exc (f : Int) ps xs = F := ⟨_, rfl⟩
  have HF := Lib.hid (And.intro hF f2)
  have hFb := Hbd.out (f : Int)
  rw [hF] at hFb f2
  obtain ⟨hFb1, hFb2⟩ := hFb
  clear hF
  go_wp2_with fail
  go_loopw [25] (fun i wr => ∃ k : Nat, k ≤ T.length ∧ i = .int .i64 k ∧ (∀ x ∈ T.take k, (!wayB N ps xs f x) = true) ∧ Below w2.heap.size w2 wr) (fun i _ => T.length - (intOf i).toNat)
  case atStart => exact ⟨0, by omega, rfl, by simp, Below.refl _ _⟩
  case round =>
    clear d0 d1 bs
    obtain ⟨k, hk, rfl, hall, hb⟩ := hrel
    have Hall := Lib.hid hall
    clear hall
    have bx := bx2.keep hb
    obtain ⟨bs, d0, d1, -, -⟩ := id bx
    have hB := hB2.trans (hb.mono hB2.size)
    have hzb := hb.size
    have e6 := (bel_cell hb (show w.heap.size + 1 < w2.heap.size by omega)).trans c62
    have ea := (bel_cell hb (show w.heap.size + 2 < w2.heap.size by omega)).trans ca2
    by_cases hlt : k < T.length
    · obtain ⟨g, rfl, hg1, hg2, cw, -⟩ := HC2.out wr hb k (by rw [HlT.out]; exact hlt)
      have cw' : wr.cell? ⟨g, k, none⟩ = some (.int .i64 (T[k] : Nat)) := by rw [cw]; simp
      clear cw
      obtain ⟨t1, t2⟩ := HTm.out T[k] (List.getElem_mem hlt)
      have Hhit : Hid (wayB N ps xs f (T[k] : Nat) = true → lackO N ps xs f = some T[k]) := Lib.hid fun h => by rw [Hlk.out]; exact find_at hlt Hall.out h
      have Hmiss : Hid (wayB N ps xs f (T[k] : Nat) = false → ∀ x ∈ T.take (k + 1), (!wayB N ps xs f x) = true) := Lib.hid fun h => all_take (f := fun x : Nat => !wayB N ps xs f x) hlt Hall.out (by simp [h])
      generalize T[k] = t at *
      have hft : f ≠ t := fun e => by
        have h1 := HF.out.2
        rw [e] at h1
        omega
      have he : endsB N ps f t = true := by
        simp [endsB, HH.out.2.1, withinB]
        omega
      have He := Lib.hid he
      have Ht2 := Lib.hid t2
      clear he hft t2
      go_wp2_with fail
      refine (wayFromIn_any N f t _ _ ps xs b b' _ (hp0.keep hB) (hx0.keep hB) HH.out.1 He.out).mono ?_
      rintro e w3 ⟨r3, rfl, hr3, hb3⟩
      have hb03 := hb.trans (hb3.mono hzb)
      have hB3 := hB2.trans (hb03.mono hB2.size)
      have hz3 := hb03.size
      have bx3 := bx2.keep hb03
      have e63 := (bel_cell hb03 (show w.heap.size + 1 < w2.heap.size by omega)).trans c62
      have ea3 := (bel_cell hb03 (show w.heap.size + 2 < w2.heap.size by omega)).trans ca2
      clear d0 d1 bs bx e6 ea cw' hb3
      obtain ⟨bs, d0, d1, -, -⟩ := id bx3
      obtain ⟨A3, c3, rfl, -, -, -, -⟩ := hr3.form
      obtain ⟨m3, hm3⟩ : ∃ m, (wayI N ps xs f t).length = m := ⟨_, rfl⟩
      rw [hm3] at hr3 ⊢
      clear hm3
      by_cases hw : wayB N ps xs f t = true
      · rw [hw]
        obtain ⟨q1, q2, q3, q4, q5, q6, -⟩ := push_facts hw
        obtain ⟨Y, hY⟩ : ∃ Y, exc (t : Int) ps xs = -Y := ⟨-exc (t : Int) ps xs, by omega⟩
        have hYb := Hbd.out (t : Int)
        rw [hY] at hYb
        obtain ⟨hY1, hY2⟩ := hYb
        have h2 := Ht2.out
        have HPF := Lib.hid (pushC_facts (n := (N : Int)) (f := f) (t := t) (by omega) HF.out.2 h2 hw)
        have Hnx : Hid (nextC N ps xs = some (pushC N ps xs f t)) := Lib.hid (next_is HH.out.2.2.2.1 (Hhit.out hw))
        obtain ⟨mn, hmn⟩ : ∃ mn, amtC N ps xs f t = mn := ⟨_, rfl⟩
        have hmn2 : mn = min (min (amtR N ps xs f t) F) Y := by rw [← hmn, amtC, HF.out.1, hY, Int.neg_neg]
        have HY := Lib.hid (And.intro hY hmn)
        have HQ := Lib.hid (And.intro q2 (And.intro q4 (And.intro q5 q6)))
        have ham4 := amtR_pos hw
        obtain ⟨am, ham⟩ : ∃ am, amtR N ps xs f t = am := ⟨_, rfl⟩
        rw [ham] at hmn2 ham4
        have HAM := Lib.hid ham
        have hb1' := ham4.1
        have hb2' := ham4.2.1
        clear hY hmn q2 q4 q5 q6 ham4 ham hw
        go_wp2_with fail
        refine wp_region_flow 14 none [(0, 38), (1, 39), (2, 40), (3, 41), (4, 42), (5, 43), (6, 44), (7, 45), (8, 46), (9, 47), (10, 48), (11, 49), (12, 50), (13, 12)] (fun j x _ _ => amV w.heap.size (.slice A ps.length c) (.slice A' mx c') (.slice A3 m3 c3) (.func (Fn.func 127) #[] #[.pointer (some ⟨w.heap.size, 0, none⟩), .pointer (some ⟨w.heap.size + 1, 0, none⟩)]) f t am F Y mn j x) (fun _ _ _ => True) (fun _ wx => Below w3.heap.size w3 wx) (by kernel_rfl) (by kernel_rfl) rfl ⟨rfl, rfl, rfl, Nat.le_refl _, fun _ _ => rfl⟩ ?_ ?_ ?_ ?_
        · exact fun _ _ _ _ _ _ _ _ _ _ h => h
        · exact fun _ _ _ _ _ _ _ h => h
        · simp only [eachOp, fillF, List.setIfInBounds_toArray, List.set_cons_succ, List.set_cons_zero]
          refine ⟨?_, ?_, ?_, ?_, ?_, ?_, ?_, ?_, ?_, ?_, ?_, ?_, ?_, ?_, trivial⟩ <;> intro uu fu wx hC hd <;> (try simp [allV, useOf, Region.binds] at hd)
          · go_wp2
            exact ⟨_, rfl, rfl, trivial, hC⟩
          · rw [show uu 0 = _ from hd]
            have y1 := (bel_cell hC bs).trans d1
            go_wp2
            exact ⟨_, rfl, rfl, trivial, hC⟩
          · have y1 := (bel_cell hC (show w.heap.size + 1 < w3.heap.size by omega)).trans e63
            go_wp2
            exact ⟨_, rfl, rfl, trivial, hC⟩
          · go_wp2
            exact ⟨_, rfl, rfl, trivial, hC⟩
          · obtain ⟨u1, u2, u3⟩ : uu 1 = .slice A ps.length c ∧ uu 2 = .slice A' mx c' ∧ uu 3 = .slice A3 m3 c3 := hd
            rw [u1, u2, u3]
            go_wp2_with fail
            refine (wayRoom_any _ _ _ (wayR N ps xs f t) ps xs b b' _ wx (hr3.keep hC) (hp0.keep (hB3.trans (hC.mono (by omega)))) (hx0.keep (hB3.trans (hC.mono (by omega)))) HQ.out.2.2.2 hl7 HQ.out.1 HQ.out.2.1 HQ.out.2.2.1).mono ?_
            rintro e w9 ⟨rfl, hb9⟩
            rw [show roomL ps xs 4 (wayR N ps xs f t) = am from HAM.out]
            go_wp2
            exact ⟨_, rfl, rfl, trivial, hC.trans (hb9.mono hC.size)⟩
          · have y1 := (bel_cell hC (show w.heap.size + 2 < w3.heap.size by omega)).trans ea3
            go_wp2
            exact ⟨_, rfl, rfl, trivial, hC⟩
          · go_wp2
            exact ⟨_, rfl, rfl, trivial, hC⟩
          · rw [show uu 5 = _ from hd.1, show uu 6 = _ from hd.2]
            have y1 := (bel_cell hC bs).trans d1
            have y2 := (bel_cell hC (show w.heap.size + 1 < w3.heap.size by omega)).trans e63
            go_wp2_with fail
            refine (excFn_any f N w.heap.size (w.heap.size + 1) _ _ ps xs b b' wx (hp0.keep (hB3.trans (hC.mono (by omega)))) (hx0.keep (hB3.trans (hC.mono (by omega)))) HH.out.2.2.1 y1 y2).mono ?_
            rintro e w9 ⟨rfl, hb9⟩
            rw [HF.out.1]
            go_wp2
            exact ⟨_, rfl, rfl, trivial, hC.trans (hb9.mono hC.size)⟩
          · have y1 := (bel_cell hC (show w.heap.size + 2 < w3.heap.size by omega)).trans ea3
            go_wp2
            exact ⟨_, rfl, rfl, trivial, hC⟩
          · go_wp2
            exact ⟨_, rfl, rfl, trivial, hC⟩
          · rw [show uu 8 = _ from hd.1, show uu 9 = _ from hd.2]
            have y1 := (bel_cell hC bs).trans d1
            have y2 := (bel_cell hC (show w.heap.size + 1 < w3.heap.size by omega)).trans e63
            go_wp2_with fail
            refine (excFn_any t N w.heap.size (w.heap.size + 1) _ _ ps xs b b' wx (hp0.keep (hB3.trans (hC.mono (by omega)))) (hx0.keep (hB3.trans (hC.mono (by omega)))) HH.out.2.2.1 y1 y2).mono ?_
            rintro e w9 ⟨rfl, hb9⟩
            rw [HY.out.1]
            go_wp2
            exact ⟨_, rfl, rfl, trivial, hC.trans (hb9.mono hC.size)⟩
          · rw [show uu 10 = _ from hd]
            go_wp2
            exact ⟨_, rfl, rfl, trivial, hC⟩
          · obtain ⟨u4, u7, u11⟩ : uu 4 = .int .i64 am ∧ uu 7 = .int .i64 F ∧ uu 11 = .int .i64 Y := hd
            rw [u4, u7, u11]
            have HN2 := Lib.hid hmn2
            clear hmn2
            go_wp2
            all_goals exact ⟨_, rfl, int_eq (by have := HN2.out; omega), trivial, hC⟩
          · rw [show uu 12 = _ from hd]
            go_wp2
            exact ⟨_, rfl, rfl, trivial, hC⟩
        · intro uu fu wx hC hfin
          simp only [fillEnd, fillF, Act.put, List.setIfInBounds_toArray, List.set_cons_succ, List.set_cons_zero]
          rw [show uu 13 = _ from hfin 13 (by decide) (by decide)]
          have bx4 := bx3.keep hC
          have hB4 := hB3.trans (hC.mono (by omega))
          have e64 := (bel_cell hC (show w.heap.size + 1 < w3.heap.size by omega)).trans e63
          have hr4 := hr3.keep hC
          have hzC := hC.size
          clear hfin bx3 d0 d1 bs hr3 hmn2
          obtain ⟨bs, d0, d1, -, -⟩ := id bx4
          have hpc := HPF.out
          rw [HY.out.2] at hpc
          have HPC := Lib.hid hpc
          clear hpc
          go_wp2_with fail
          refine (pushedAlong_any _ _ (wayR N ps xs f t) ps xs b' _ mn _ hr4 (hx0.keep hB4) HQ.out.1 hl7 (by rw [Hmx.out] at q3 ⊢; exact q3) HQ.out.2.2.2 HPC.out.1 HPC.out.2).mono ?_
          rintro e w5 ⟨r5, rfl, hr5, hb5⟩
          have hB5 := hB4.trans (hb5.mono hB4.size)
          have hres : Hid (pushL mn xs (wayR N ps xs f t) = pushC N ps xs f t) := Lib.hid (by rw [pushC, HY.out.2])
          have hr6 := hr5.mono hB4.size
          clear hr5
          go_wp2
          go_ret2
          exact ⟨_, ret_vb (by rw [Hnx.out]; rfl), by rw [Hnx.out, Option.getD_some, ← hres.out]; exact hr6, hB5⟩
      · have hw' : wayB N ps xs f t = false := by simpa using hw
        rw [hw']
        have Hn := Lib.hid (Hmiss.out hw')
        clear hw hw' hr3
        go_wp2
        go_roundw
        case rel => exact ⟨k + 1, by omega, by go_num, Hn.out, hb03⟩
        case measure => simp [intOf]; omega
    · have hkk : k = T.length := by omega
      have Hnx : Hid (nextC N ps xs = none) := Lib.hid (next_none HH.out.2.2.2.1 (by
        rw [Hlk.out, List.find?_eq_none]
        intro x hx
        have := Hall.out x (by rw [hkk, List.take_length]; exact hx)
        simpa using this))
      go_wp2
      go_ret2
      exact ⟨_, ret_vb (by rw [Hnx.out]; rfl), by rw [Hnx.out]; exact Ints_nil _ _, hB⟩

set_option maxHeartbeats 4000000 in
set_option maxRecDepth 20000 in
theorem circ_any (n : Int) (v : Value) (ps : List Pp) (b : Nat) (w : World) (hp : Pipes w b v ps) :
    Calls Try.prog 52 #[.agg #[.int .i64 n, v]] w fun e w' => ∃ r, e = .returned (.tuple #[r, .bool (circB n ps)]) ∧ Ints w' w.heap.size r (circL n ps) ∧ Below w.heap.size w w' := by
  have hp0 := hp
  obtain ⟨A, c, rfl, hcp1, hcp2, -, -⟩ := hp.form
  unfold maxLen at hcp2
  have bx0 := Box2.new w (.int .i64 n) (.slice A ps.length c) 25
  go_enter Try.func52, Try.ntmps52
  go_wp2_with fail
  with_reducible refine (netOk_any n _ ps b _ (hp0.keep (by (repeat (first | (with_reducible assumption) | (with_reducible exact Below.refl _ _) | ((with_reducible refine Below.alloc ?_ ?hsz _); (case hsz => (first | omega | (simp; done) | (simp; omega) | (simp at *; omega)))) | ((with_reducible refine Below.setCell ?_ ?hsz _); (case hsz => (first | omega | (simp; done) | (simp; omega) | (simp at *; omega)))) | (with_reducible refine Below.drew ?_) | (with_reducible refine below_drewN ?_ _) | ((with_reducible refine Below.trans ?_ (Below.mono (by with_reducible assumption) ?hsz)); (case hsz => (first | omega | (simp; done) | (simp; omega) | (simp at *; omega))))))))).mono ?_
  rintro e w1 ⟨rfl, hb1⟩
  have bx1 := bx0.keep hb1
  have hB1 : Below w.heap.size w w1 := by (repeat (first | (with_reducible assumption) | (with_reducible exact Below.refl _ _) | ((with_reducible refine Below.alloc ?_ ?hsz _); (case hsz => (first | omega | (simp; done) | (simp; omega) | (simp at *; omega)))) | ((with_reducible refine Below.setCell ?_ ?hsz _); (case hsz => (first | omega | (simp; done) | (simp; omega) | (simp at *; omega)))) | (with_reducible refine Below.drew ?_) | (with_reducible refine below_drewN ?_ _) | ((with_reducible refine Below.trans ?_ (Below.mono (by with_reducible assumption) ?hsz)); (case hsz => (first | omega | (simp; done) | (simp; omega) | (simp at *; omega))))))
  have hz1 := hB1.size
  clear bx0 hb1
  obtain ⟨bs, d0, d1, -, -⟩ := id bx1
  by_cases hn : netOkB n ps = true
  · rw [hn]
    have hl7 := (netOk_parts hn).2.2.1
    have Ho := Lib.hid (circO_yes hn)
    have Hl := Lib.hid (least_holds hn)
    clear hn
    go_wp2_with fail
    refine (leastAmounts_any _ ps b _ (hp0.keep hB1) hl7).mono ?_
    rintro e w2 ⟨r2, rfl, hr2, hb2⟩
    have bx2 := bx1.keep hb2
    have hB2 := hB1.trans (hb2.mono hz1)
    have hr2' := hr2.mono hz1
    clear bx1 hb2 d0 d1 bs hr2
    obtain ⟨bs, d0, d1, -, -⟩ := id bx2
    go_wp2_with fail
    go_loopw [4] (fun t4 wr => ∃ (ys : List Int), Ints wr w.heap.size t4 ys ∧ holdsB n ps ys = true ∧ circF n ps ys = circF n ps (leastL ps) ∧ Below w.heap.size w wr ∧ Box2 wr w.heap.size (.int .i64 n) (.slice A ps.length c))
      (fun t4 wr => (posE n ps (Classical.epsilon fun ys => Ints wr w.heap.size t4 ys)).toNat)
    case atStart => exact ⟨leastL ps, hr2', Hl.out, rfl, hB2, bx2⟩
    case round =>
      clear bx2 d0 d1 bs hr2' hB2
      obtain ⟨ys, hI, hh, hc, hB, bx⟩ := hrel
      obtain ⟨bs, d0, d1, -, -⟩ := id bx
      have hzb := hB.size
      obtain ⟨A4, c4, rfl, -, -, -, -⟩ := hI.form
      obtain ⟨m4, hm4⟩ : ∃ m, ys.length = m := ⟨_, rfl⟩
      have HI := Lib.hid hI
      rw [hm4] at HI ⊢
      have HH := Lib.hid (And.intro hh hc)
      have HE1 : Hid ((Classical.epsilon fun zs => Ints wr w.heap.size (.slice A4 m4 c4) zs) = ys) := Lib.hid (Ints.uniq (Classical.epsilon_spec (p := fun zs => Ints wr w.heap.size (.slice A4 m4 c4) zs) ⟨ys, HI.out⟩) HI.out)
      clear hI hm4 hc hh
      go_wp2_with fail
      with_reducible refine (balancedOk_any n _ _ ps ys b _ _ (hp0.keep hB) HI.out).mono ?_
      rintro e w3 ⟨rfl, hb3⟩
      have hB3 := hB.trans (hb3.mono hzb)
      have hz3 := hB3.size
      have bx3 := bx.keep hb3
      clear d0 d1 bs bx
      obtain ⟨bs, d0, d1, -, -⟩ := id bx3
      by_cases hbal : balB n ps ys = true
      · have Hr : Hid (circB n ps = true ∧ circL n ps = ys) := Lib.hid (circ_some (by rw [Ho.out, ← HH.out.2, circF_bal hbal]))
        rw [hbal]
        go_wp2
        go_ret2
        exact ⟨_, ret_vb Hr.out.1.symm, by rw [Hr.out.2]; exact HI.out.keep hb3, hB3⟩
      · have hbal' : balB n ps ys = false := by simpa using hbal
        have Hbal := Lib.hid hbal'
        rw [hbal']
        clear hbal hbal'
        go_wp2_with fail
        refine (pushedToLack_any n _ _ ps ys b _ _ (hp0.keep hB3) (HI.out.keep hb3) HH.out.1 Hbal.out).mono ?_
        rintro e w5 ⟨r5, rfl, hr5, hb5⟩
        have hB5 := hB3.trans (hb5.mono hz3)
        have bx5 := bx3.keep hb5
        clear d0 d1 bs bx3
        obtain ⟨bs, d0, d1, -, -⟩ := id bx5
        have hr55 := hr5.mono hz3
        cases hnx : nextC n ps ys with
        | none =>
          have Hr : Hid (circB n ps = false ∧ circL n ps = []) := Lib.hid (circ_none (by rw [Ho.out, ← HH.out.2, circF_stuck Hbal.out hnx]))
          simp only [Option.isSome_none]
          clear hr5 hr55 hnx
          go_wp2
          go_ret2
          exact ⟨_, ret_vb Hr.out.1.symm, by rw [Hr.out.2]; exact Ints_nil _ _, hB5⟩
        | some zs =>
          rw [hnx, Option.getD_some] at hr55
          have hok := next_ok hnx
          have hst := circF_step HH.out.1 hnx
          have HX := Lib.hid (And.intro hr55 (And.intro hok (hst.symm.trans HH.out.2)))
          have HE2 : Hid ((Classical.epsilon fun q => Ints w5 w.heap.size r5 q) = zs) := Lib.hid (Ints.uniq (Classical.epsilon_spec (p := fun q => Ints w5 w.heap.size r5 q) ⟨zs, hr55⟩) hr55)
          simp only [Option.isSome_some]
          clear hr5 hr55 hnx hok hst
          go_wp2
          go_roundw
          case rel => exact ⟨zs, HX.out.1, HX.out.2.1.1, HX.out.2.2, hB5, bx5⟩
          case measure =>
            rw [HE1.out, HE2.out]
            have := HX.out.2.1.2
            have := posE_nn n ps zs
            omega
  · have hn' : netOkB n ps = false := by simpa using hn
    rw [hn']
    have Hw := Lib.hid (circ_none (circO_no hn'))
    clear hn hn'
    go_wp2
    go_ret2
    exact ⟨_, ret_vb Hw.out.1.symm, by rw [Hw.out.2]; exact Ints_nil _ _, hB1⟩

end Go.Proofs.Ytpknhieiifjblaa
