/- Contracts of the functions of chapters 5 and 10 in the program: BlockingSide, ShortSide. -/
import Derived.Test.YtphbmlephldaaaaC1
import Derived.Test.YtphbmlephldaaaaWB
import Derived.Test.YtphbmlephldaaaaWJ
import Derived.Test.YtphbmlephldaaaaWN
import Derived.Test.YtphbmlephldaaaaY5
import Derived.Test.YtphbmlephldaaaaGA
namespace Go.Proofs.Ytphbmlephldaaaa
open Go.RowKit

def lsideR (cnt : Nat) (f : Nat → Bool) : Int × Bool := match (List.range cnt).find? f with
  | some k => ((k : Int), true)
  | none => (-1, false)
theorem lside_some {cnt q : Nat} {f : Nat → Bool} (h : (List.range cnt).find? f = some q) : lsideR cnt f = ((q : Int), true) := by rw [lsideR, h]
theorem lside_none {cnt : Nat} {f : Nat → Bool} (h : (List.range cnt).find? f = none) : lsideR cnt f = (-1, false) := by rw [lsideR, h]
theorem lside_block {n : Int} {ps : List Pp} (h : netOkB n ps = true) : blockR n ps = lsideR (2 ^ n.toNat) (blockF ps) := by
  unfold blockR lsideR
  rw [blockO_yes h]
  cases (List.range (2 ^ n.toNat)).find? (blockF ps) <;> rfl
theorem lside_short {n : Int} {ps : List Pp} {nd : List Int} (h : needsB n ps nd = true) : shortR n ps nd = lsideR (2 ^ n.toNat) (shortF n nd ps) := by
  unfold shortR lsideR
  rw [shortO_yes h]
  cases (List.range (2 ^ n.toNat)).find? (shortF n nd ps) <;> rfl

set_option maxHeartbeats 1000000 in
set_option maxRecDepth 20000 in
theorem blockFn_any (n : Int) (k bn : Nat) (v : Value) (ps : List Pp) (b : Nat) (w : World) (hp : Pipes w b v ps) (hok : netOkB n ps = true) (hk : k ≤ 31) (d1 : w.cell? ⟨bn, 1, none⟩ = some v) :
    Calls Try.prog 57 #[.int .i64 k, .pointer (some ⟨bn, 0, none⟩)] w fun e w' => e = .returned (.bool (blockF ps k)) ∧ Below w.heap.size w w' := by
  have hp0 := hp
  obtain ⟨A, c, rfl, -, -, -, -⟩ := hp.form
  have Hok := Lib.hid hok
  clear hok
  go_enter Try.func57, Try.ntmps57
  go_wp2_with fail
  refine (roomOf_any _ n _ ps b _ (hp0.keep (by (repeat (first | (with_reducible assumption) | (with_reducible exact Below.refl _ _) | ((with_reducible refine Below.alloc ?_ ?hsz _); (case hsz => (first | omega | (simp; done) | (simp; omega) | (simp at *; omega)))) | ((with_reducible refine Below.setCell ?_ ?hsz _); (case hsz => (first | omega | (simp; done) | (simp; omega) | (simp at *; omega)))) | (with_reducible refine Below.drew ?_) | (with_reducible refine below_drewN ?_ _) | ((with_reducible refine Below.trans ?_ (Below.mono (by with_reducible assumption) ?hsz)); (case hsz => (first | omega | (simp; done) | (simp; omega) | (simp at *; omega)))))))) Hok.out (by omega) (by omega)).mono ?_
  rintro e w1 ⟨rfl, hb1⟩
  go_wp2
  go_ret
  exact ⟨rfl, by (repeat (first | (with_reducible assumption) | (with_reducible exact Below.refl _ _) | ((with_reducible refine Below.alloc ?_ ?hsz _); (case hsz => (first | omega | (simp; done) | (simp; omega) | (simp at *; omega)))) | ((with_reducible refine Below.setCell ?_ ?hsz _); (case hsz => (first | omega | (simp; done) | (simp; omega) | (simp at *; omega)))) | (with_reducible refine Below.drew ?_) | (with_reducible refine below_drewN ?_ _) | ((with_reducible refine Below.trans ?_ (Below.mono (by with_reducible assumption) ?hsz)); (case hsz => (first | omega | (simp; done) | (simp; omega) | (simp at *; omega))))))⟩

set_option maxHeartbeats 1000000 in
set_option maxRecDepth 20000 in
theorem blockWhere_any (n : Int) (cnt bn : Nat) (v : Value) (ps : List Pp) (b : Nat) (w : World) (hp : Pipes w b v ps) (hok : netOkB n ps = true) (hcnt : cnt ≤ 32) (hbn : bn < w.heap.size) (d1 : w.cell? ⟨bn, 1, none⟩ = some v) :
    Calls Try.prog 75 #[.int .i64 cnt, .func (Fn.func 57) #[] #[.pointer (some ⟨bn, 0, none⟩)]] w fun e w' => ∃ r, e = .returned r ∧ Ints w' w.heap.size r (numW cnt (blockF ps)) ∧ Below w.heap.size w w' := by
  have Hok := Lib.hid hok
  clear hok
  go_enter Try.func75, Try.ntmps75
  go_wp2
  obtain ⟨i0, hi0, hz0, hz1, hz2⟩ := info_parts int_info
  go_loopw [8, 5] (fun i t wr => ∃ (k j k1 : Nat) (A1 : Option Addr), k ≤ cnt ∧ i = .int .i64 k ∧ t = .slice A1 j k1 ∧ (numW k (blockF ps)).length = j ∧
      wr.ownsRow w.heap.size 3 1 (.slice A1 j k1) j ((numW k (blockF ps)).map (Value.int .i64)) ∧ Below w.heap.size w wr) (fun i _ _ => cnt - (intOf i).toNat)
  case atStart => exact ⟨0, 0, 0, none, by omega, rfl, rfl, rfl, World.ownsRow_nil _ _ _ 1, Below.refl _ _⟩
  case round =>
    obtain ⟨k, j, k1, A1, hk, rfl, rfl, hj, hown, hb⟩ := hrel
    have hjk : j ≤ k := by rw [← hj]; exact numW_len k _
    have HJ := Lib.hid hj
    clear hj
    obtain ⟨hcr, hfr, hzr⟩ := bcell hb
    by_cases hlt : k < cnt
    · by_cases hf : (blockF ps) k = true
      · have Hf := Lib.hid (numW_yes hf)
        go_wp2_with fail
        refine (blockFn_any n k bn v ps b _ (hp.keep (by (repeat (first | (with_reducible assumption) | (with_reducible exact Below.refl _ _) | ((with_reducible refine Below.alloc ?_ ?hsz _); (case hsz => (first | omega | (simp; done) | (simp; omega) | (simp at *; omega)))) | ((with_reducible refine Below.setCell ?_ ?hsz _); (case hsz => (first | omega | (simp; done) | (simp; omega) | (simp at *; omega)))) | (with_reducible refine Below.drew ?_) | (with_reducible refine below_drewN ?_ _) | ((with_reducible refine Below.trans ?_ (Below.mono (by with_reducible assumption) ?hsz)); (case hsz => (first | omega | (simp; done) | (simp; omega) | (simp at *; omega)))))))) Hok.out (by omega) (by (repeat (first | (with_reducible assumption) | ((with_reducible refine (Below.cell (by with_reducible assumption) ?hsz).trans ?_); (case hsz => (first | omega | (simp; done) | (simp; omega) | (simp at *; omega)))) | ((with_reducible refine (World.cell?_alloc_lt _ _ _ ?hsz).trans ?_); (case hsz => (first | omega | (simp; done) | (simp; omega) | (simp at *; omega)))) | ((with_reducible refine (World.cell?_setCell_other _ _ _ _ ?hsz).trans ?_); (case hsz => (intro h; injection h with h1 h2; omega))))))).mono ?_
        rintro e w2 ⟨rfl, hb2⟩
        have hown2 := own_keep hown (Nat.le_refl _) hb2
        have hz2' := hb2.size
        have hbw2 : Below w.heap.size w w2 := by (repeat (first | (with_reducible assumption) | (with_reducible exact Below.refl _ _) | ((with_reducible refine Below.alloc ?_ ?hsz _); (case hsz => (first | omega | (simp; done) | (simp; omega) | (simp at *; omega)))) | ((with_reducible refine Below.setCell ?_ ?hsz _); (case hsz => (first | omega | (simp; done) | (simp; omega) | (simp at *; omega)))) | (with_reducible refine Below.drew ?_) | (with_reducible refine below_drewN ?_ _) | ((with_reducible refine Below.trans ?_ (Below.mono (by with_reducible assumption) ?hsz)); (case hsz => (first | omega | (simp; done) | (simp; omega) | (simp at *; omega))))))
        have hrow : ∀ q, (Value.slice A1 j k1).ownBlock = some q → w.heap.size ≤ q := fun q hq => (hown.lt q hq).1
        clear hown hcr hfr hb hb2
        go_wp2_with (first
          | (at_builtin
             go_must (refine wpList_append_lies _ rfl _ _ 40 rfl w.heap.size 3 i0 _ 1 8 Try.underlying40 hi0 hz0 hz1 hz2 rfl (by omega) _ j _ rfl (hown2.alloc _) ⟨w2.heap.size, 0, none⟩ 1 1 [.int .i64 k] rfl rfl (World.news_of_block (cs := #[.int .i64 k]) (t := 3) (fr := (0, 0)) (heap_alloc_new _ _)) (by simp [Value.oneCell']) (by omega) (by unfold maxLen; omega) (by omega) (by simp; omega) _ rfl ?_)
             intro g2 k2 w7 hown7 hgr7 hat7 hlt7))
        have hb7 : Below w.heap.size w w7 := by
          refine Below.grown (w := w2.alloc (.cells #[.int .i64 k] 3)) (by (repeat (first | (with_reducible assumption) | (with_reducible exact Below.refl _ _) | ((with_reducible refine Below.alloc ?_ ?hsz _); (case hsz => (first | omega | (simp; done) | (simp; omega) | (simp at *; omega)))) | ((with_reducible refine Below.setCell ?_ ?hsz _); (case hsz => (first | omega | (simp; done) | (simp; omega) | (simp at *; omega)))) | (with_reducible refine Below.drew ?_) | (with_reducible refine below_drewN ?_ _) | ((with_reducible refine Below.trans ?_ (Below.mono (by with_reducible assumption) ?hsz)); (case hsz => (first | omega | (simp; done) | (simp; omega) | (simp at *; omega))))))) hgr7 (by (first | omega | (simp; done) | (simp; omega) | (simp at *; omega))) hrow
        have hown8 : w7.ownsRow w.heap.size 3 1 (.slice (some ⟨g2, 0, none⟩) (j + 1) k2) (j + 1) ((numW (k + 1) (blockF ps)).map (Value.int .i64)) := by
          rw [Hf.out, List.map_append]
          simpa using hown7
        have hj8 : (numW (k + 1) (blockF ps)).length = j + 1 := by rw [Hf.out, List.length_append, HJ.out]; rfl
        clear hown7 hgr7 hat7 hlt7
        go_roundw
        case rel => exact ⟨k + 1, j + 1, k2, some ⟨g2, 0, none⟩, by omega, by go_num, rfl, hj8, hown8, hb7⟩
        case measure => simp [intOf]; omega
      · have hf' : (blockF ps) k = false := by simpa using hf
        have Hf := Lib.hid (numW_no hf')
        clear hf
        go_wp2_with fail
        refine (blockFn_any n k bn v ps b _ (hp.keep (by (repeat (first | (with_reducible assumption) | (with_reducible exact Below.refl _ _) | ((with_reducible refine Below.alloc ?_ ?hsz _); (case hsz => (first | omega | (simp; done) | (simp; omega) | (simp at *; omega)))) | ((with_reducible refine Below.setCell ?_ ?hsz _); (case hsz => (first | omega | (simp; done) | (simp; omega) | (simp at *; omega)))) | (with_reducible refine Below.drew ?_) | (with_reducible refine below_drewN ?_ _) | ((with_reducible refine Below.trans ?_ (Below.mono (by with_reducible assumption) ?hsz)); (case hsz => (first | omega | (simp; done) | (simp; omega) | (simp at *; omega)))))))) Hok.out (by omega) (by (repeat (first | (with_reducible assumption) | ((with_reducible refine (Below.cell (by with_reducible assumption) ?hsz).trans ?_); (case hsz => (first | omega | (simp; done) | (simp; omega) | (simp at *; omega)))) | ((with_reducible refine (World.cell?_alloc_lt _ _ _ ?hsz).trans ?_); (case hsz => (first | omega | (simp; done) | (simp; omega) | (simp at *; omega)))) | ((with_reducible refine (World.cell?_setCell_other _ _ _ _ ?hsz).trans ?_); (case hsz => (intro h; injection h with h1 h2; omega))))))).mono ?_
        rintro e w2 ⟨rfl, hb2⟩
        have hown2 := own_keep hown (Nat.le_refl _) hb2
        have hbw2 : Below w.heap.size w w2 := by (repeat (first | (with_reducible assumption) | (with_reducible exact Below.refl _ _) | ((with_reducible refine Below.alloc ?_ ?hsz _); (case hsz => (first | omega | (simp; done) | (simp; omega) | (simp at *; omega)))) | ((with_reducible refine Below.setCell ?_ ?hsz _); (case hsz => (first | omega | (simp; done) | (simp; omega) | (simp at *; omega)))) | (with_reducible refine Below.drew ?_) | (with_reducible refine below_drewN ?_ _) | ((with_reducible refine Below.trans ?_ (Below.mono (by with_reducible assumption) ?hsz)); (case hsz => (first | omega | (simp; done) | (simp; omega) | (simp at *; omega))))))
        clear hown hcr hfr hb hb2
        go_wp2
        go_roundw
        case rel => exact ⟨k + 1, j, k1, A1, by omega, by go_num, rfl, by rw [Hf.out]; exact HJ.out, by rw [Hf.out]; exact hown2, hbw2⟩
        case measure => simp [intOf]; omega
    · go_wp2
      go_ret
      have hk2 : k = cnt := by omega
      subst hk2
      exact ⟨_, rfl, ⟨by rw [HJ.out]; exact hown, by rw [HJ.out]; unfold small; omega⟩, hb⟩

set_option maxHeartbeats 1000000 in
set_option maxRecDepth 20000 in
theorem lsideB_2 (n : Int) (bn : Nat) (v : Value) (ps : List Pp) (b : Nat) (w : World) (hp : Pipes w b v ps) (hok : netOkB n ps = true) (hbn : bn < w.heap.size) (d1 : w.cell? ⟨bn, 1, none⟩ = some v) :
    Calls Try.prog 56 #[.int .i64 2, .func (Fn.func 57) #[] #[.pointer (some ⟨bn, 0, none⟩)]] w fun e w' => e = .returned (.tuple #[.int .i64 (lsideR 4 (blockF ps)).1, .bool (lsideR 4 (blockF ps)).2]) ∧ Below w.heap.size w w' := by
  have Hok := Lib.hid hok
  clear hok
  go_enter Try.func56, Try.ntmps56
  go_wp2_with fail
  refine (blockWhere_any n 4 bn v ps b _ hp Hok.out (by omega) hbn d1).mono ?_
  rintro e w2 ⟨r, rfl, hr, hb2⟩
  rcases hq : (List.range 4).find? (blockF ps) with _ | q
  · have Hr := Lib.hid (lside_none hq)
    rw [numW_none hq] at hr
    obtain ⟨A2, c2, rfl, -, -, -, -⟩ := hr.form
    clear hq
    go_wp2
    go_ret2
    exact ⟨ret_ib (by rw [Hr.out]), hb2⟩
  · have Hr := Lib.hid (lside_some hq)
    obtain ⟨h1, h2⟩ := numW_head hq
    obtain ⟨g, cap, rfl, hR⟩ := hr.row h1
    obtain ⟨y0, -⟩ := hR.at' 0 h1
    rw [h2] at y0
    obtain ⟨og1, og2⟩ := hR.lt
    obtain ⟨N, hN⟩ : ∃ N, (numW 4 (blockF ps)).length = N := ⟨_, rfl⟩
    rw [hN] at h1 ⊢
    clear hR hr hN hq h2
    have h1' : ((N : Int) == 0) = false := by rw [beq_dec]; exact decide_eq_false (by omega)
    go_wp2
    go_ret2
    exact ⟨ret_ib (by rw [Hr.out]), hb2⟩

set_option maxHeartbeats 1000000 in
set_option maxRecDepth 20000 in
theorem lsideB_3 (n : Int) (bn : Nat) (v : Value) (ps : List Pp) (b : Nat) (w : World) (hp : Pipes w b v ps) (hok : netOkB n ps = true) (hbn : bn < w.heap.size) (d1 : w.cell? ⟨bn, 1, none⟩ = some v) :
    Calls Try.prog 56 #[.int .i64 3, .func (Fn.func 57) #[] #[.pointer (some ⟨bn, 0, none⟩)]] w fun e w' => e = .returned (.tuple #[.int .i64 (lsideR 8 (blockF ps)).1, .bool (lsideR 8 (blockF ps)).2]) ∧ Below w.heap.size w w' := by
  have Hok := Lib.hid hok
  clear hok
  go_enter Try.func56, Try.ntmps56
  go_wp2_with fail
  refine (blockWhere_any n 8 bn v ps b _ hp Hok.out (by omega) hbn d1).mono ?_
  rintro e w2 ⟨r, rfl, hr, hb2⟩
  rcases hq : (List.range 8).find? (blockF ps) with _ | q
  · have Hr := Lib.hid (lside_none hq)
    rw [numW_none hq] at hr
    obtain ⟨A2, c2, rfl, -, -, -, -⟩ := hr.form
    clear hq
    go_wp2
    go_ret2
    exact ⟨ret_ib (by rw [Hr.out]), hb2⟩
  · have Hr := Lib.hid (lside_some hq)
    obtain ⟨h1, h2⟩ := numW_head hq
    obtain ⟨g, cap, rfl, hR⟩ := hr.row h1
    obtain ⟨y0, -⟩ := hR.at' 0 h1
    rw [h2] at y0
    obtain ⟨og1, og2⟩ := hR.lt
    obtain ⟨N, hN⟩ : ∃ N, (numW 8 (blockF ps)).length = N := ⟨_, rfl⟩
    rw [hN] at h1 ⊢
    clear hR hr hN hq h2
    have h1' : ((N : Int) == 0) = false := by rw [beq_dec]; exact decide_eq_false (by omega)
    go_wp2
    go_ret2
    exact ⟨ret_ib (by rw [Hr.out]), hb2⟩

set_option maxHeartbeats 1000000 in
set_option maxRecDepth 20000 in
theorem lsideB_4 (n : Int) (bn : Nat) (v : Value) (ps : List Pp) (b : Nat) (w : World) (hp : Pipes w b v ps) (hok : netOkB n ps = true) (hbn : bn < w.heap.size) (d1 : w.cell? ⟨bn, 1, none⟩ = some v) :
    Calls Try.prog 56 #[.int .i64 4, .func (Fn.func 57) #[] #[.pointer (some ⟨bn, 0, none⟩)]] w fun e w' => e = .returned (.tuple #[.int .i64 (lsideR 16 (blockF ps)).1, .bool (lsideR 16 (blockF ps)).2]) ∧ Below w.heap.size w w' := by
  have Hok := Lib.hid hok
  clear hok
  go_enter Try.func56, Try.ntmps56
  go_wp2_with fail
  refine (blockWhere_any n 16 bn v ps b _ hp Hok.out (by omega) hbn d1).mono ?_
  rintro e w2 ⟨r, rfl, hr, hb2⟩
  rcases hq : (List.range 16).find? (blockF ps) with _ | q
  · have Hr := Lib.hid (lside_none hq)
    rw [numW_none hq] at hr
    obtain ⟨A2, c2, rfl, -, -, -, -⟩ := hr.form
    clear hq
    go_wp2
    go_ret2
    exact ⟨ret_ib (by rw [Hr.out]), hb2⟩
  · have Hr := Lib.hid (lside_some hq)
    obtain ⟨h1, h2⟩ := numW_head hq
    obtain ⟨g, cap, rfl, hR⟩ := hr.row h1
    obtain ⟨y0, -⟩ := hR.at' 0 h1
    rw [h2] at y0
    obtain ⟨og1, og2⟩ := hR.lt
    obtain ⟨N, hN⟩ : ∃ N, (numW 16 (blockF ps)).length = N := ⟨_, rfl⟩
    rw [hN] at h1 ⊢
    clear hR hr hN hq h2
    have h1' : ((N : Int) == 0) = false := by rw [beq_dec]; exact decide_eq_false (by omega)
    go_wp2
    go_ret2
    exact ⟨ret_ib (by rw [Hr.out]), hb2⟩

set_option maxHeartbeats 1000000 in
set_option maxRecDepth 20000 in
theorem lsideB_5 (n : Int) (bn : Nat) (v : Value) (ps : List Pp) (b : Nat) (w : World) (hp : Pipes w b v ps) (hok : netOkB n ps = true) (hbn : bn < w.heap.size) (d1 : w.cell? ⟨bn, 1, none⟩ = some v) :
    Calls Try.prog 56 #[.int .i64 5, .func (Fn.func 57) #[] #[.pointer (some ⟨bn, 0, none⟩)]] w fun e w' => e = .returned (.tuple #[.int .i64 (lsideR 32 (blockF ps)).1, .bool (lsideR 32 (blockF ps)).2]) ∧ Below w.heap.size w w' := by
  have Hok := Lib.hid hok
  clear hok
  go_enter Try.func56, Try.ntmps56
  go_wp2_with fail
  refine (blockWhere_any n 32 bn v ps b _ hp Hok.out (by omega) hbn d1).mono ?_
  rintro e w2 ⟨r, rfl, hr, hb2⟩
  rcases hq : (List.range 32).find? (blockF ps) with _ | q
  · have Hr := Lib.hid (lside_none hq)
    rw [numW_none hq] at hr
    obtain ⟨A2, c2, rfl, -, -, -, -⟩ := hr.form
    clear hq
    go_wp2
    go_ret2
    exact ⟨ret_ib (by rw [Hr.out]), hb2⟩
  · have Hr := Lib.hid (lside_some hq)
    obtain ⟨h1, h2⟩ := numW_head hq
    obtain ⟨g, cap, rfl, hR⟩ := hr.row h1
    obtain ⟨y0, -⟩ := hR.at' 0 h1
    rw [h2] at y0
    obtain ⟨og1, og2⟩ := hR.lt
    obtain ⟨N, hN⟩ : ∃ N, (numW 32 (blockF ps)).length = N := ⟨_, rfl⟩
    rw [hN] at h1 ⊢
    clear hR hr hN hq h2
    have h1' : ((N : Int) == 0) = false := by rw [beq_dec]; exact decide_eq_false (by omega)
    go_wp2
    go_ret2
    exact ⟨ret_ib (by rw [Hr.out]), hb2⟩

set_option maxHeartbeats 1000000 in
set_option maxRecDepth 20000 in
theorem blockingSide_any (n : Int) (v : Value) (ps : List Pp) (b : Nat) (w : World) (hp : Pipes w b v ps) :
    Calls Try.prog 18 #[.agg #[.int .i64 n, v]] w fun e w' => e = .returned (.tuple #[.int .i64 (blockR n ps).1, .bool (blockR n ps).2]) ∧ Below w.heap.size w w' := by
  have hp0 := hp
  obtain ⟨A, c, rfl, -, -, -, -⟩ := hp.form
  have bx0 := Box2.new w (.int .i64 n) (.slice A ps.length c) 25
  by_cases hok : netOkB n ps = true
  · have HR := Lib.hid (lside_block hok)
    have Hok := Lib.hid hok
    rcases side_n hok with rfl | rfl | rfl | rfl
    · go_enter Try.func18, Try.ntmps18
      go_wp2_with fail
      with_reducible refine (netOk_any _ _ ps b _ (hp0.keep (by (repeat (first | (with_reducible assumption) | (with_reducible exact Below.refl _ _) | ((with_reducible refine Below.alloc ?_ ?hsz _); (case hsz => (first | omega | (simp; done) | (simp; omega) | (simp at *; omega)))) | ((with_reducible refine Below.setCell ?_ ?hsz _); (case hsz => (first | omega | (simp; done) | (simp; omega) | (simp at *; omega)))) | (with_reducible refine Below.drew ?_) | (with_reducible refine below_drewN ?_ _) | ((with_reducible refine Below.trans ?_ (Below.mono (by with_reducible assumption) ?hsz)); (case hsz => (first | omega | (simp; done) | (simp; omega) | (simp at *; omega))))))))).mono ?_
      rintro e w1 ⟨rfl, hb1⟩
      rw [hok]
      have bx1 := bx0.keep hb1
      have hB1 : Below w.heap.size w w1 := by (repeat (first | (with_reducible assumption) | (with_reducible exact Below.refl _ _) | ((with_reducible refine Below.alloc ?_ ?hsz _); (case hsz => (first | omega | (simp; done) | (simp; omega) | (simp at *; omega)))) | ((with_reducible refine Below.setCell ?_ ?hsz _); (case hsz => (first | omega | (simp; done) | (simp; omega) | (simp at *; omega)))) | (with_reducible refine Below.drew ?_) | (with_reducible refine below_drewN ?_ _) | ((with_reducible refine Below.trans ?_ (Below.mono (by with_reducible assumption) ?hsz)); (case hsz => (first | omega | (simp; done) | (simp; omega) | (simp at *; omega))))))
      clear bx0 hb1
      obtain ⟨bs, d0, d1, -, -⟩ := id bx1
      go_wp2_with fail
      refine (lsideB_2 _ _ _ ps b _ (hp0.keep hB1) Hok.out bs d1).mono ?_
      rintro e w2 ⟨rfl, hb2⟩
      have hR : blockR 2 ps = lsideR 4 (blockF ps) := HR.out
      rw [← hR]
      have hB2 := hB1.trans (hb2.mono hB1.size)
      clear HR hR
      go_wp2
      go_ret2
      exact ⟨rfl, hB2⟩
    · go_enter Try.func18, Try.ntmps18
      go_wp2_with fail
      with_reducible refine (netOk_any _ _ ps b _ (hp0.keep (by (repeat (first | (with_reducible assumption) | (with_reducible exact Below.refl _ _) | ((with_reducible refine Below.alloc ?_ ?hsz _); (case hsz => (first | omega | (simp; done) | (simp; omega) | (simp at *; omega)))) | ((with_reducible refine Below.setCell ?_ ?hsz _); (case hsz => (first | omega | (simp; done) | (simp; omega) | (simp at *; omega)))) | (with_reducible refine Below.drew ?_) | (with_reducible refine below_drewN ?_ _) | ((with_reducible refine Below.trans ?_ (Below.mono (by with_reducible assumption) ?hsz)); (case hsz => (first | omega | (simp; done) | (simp; omega) | (simp at *; omega))))))))).mono ?_
      rintro e w1 ⟨rfl, hb1⟩
      rw [hok]
      have bx1 := bx0.keep hb1
      have hB1 : Below w.heap.size w w1 := by (repeat (first | (with_reducible assumption) | (with_reducible exact Below.refl _ _) | ((with_reducible refine Below.alloc ?_ ?hsz _); (case hsz => (first | omega | (simp; done) | (simp; omega) | (simp at *; omega)))) | ((with_reducible refine Below.setCell ?_ ?hsz _); (case hsz => (first | omega | (simp; done) | (simp; omega) | (simp at *; omega)))) | (with_reducible refine Below.drew ?_) | (with_reducible refine below_drewN ?_ _) | ((with_reducible refine Below.trans ?_ (Below.mono (by with_reducible assumption) ?hsz)); (case hsz => (first | omega | (simp; done) | (simp; omega) | (simp at *; omega))))))
      clear bx0 hb1
      obtain ⟨bs, d0, d1, -, -⟩ := id bx1
      go_wp2_with fail
      refine (lsideB_3 _ _ _ ps b _ (hp0.keep hB1) Hok.out bs d1).mono ?_
      rintro e w2 ⟨rfl, hb2⟩
      have hR : blockR 3 ps = lsideR 8 (blockF ps) := HR.out
      rw [← hR]
      have hB2 := hB1.trans (hb2.mono hB1.size)
      clear HR hR
      go_wp2
      go_ret2
      exact ⟨rfl, hB2⟩
    · go_enter Try.func18, Try.ntmps18
      go_wp2_with fail
      with_reducible refine (netOk_any _ _ ps b _ (hp0.keep (by (repeat (first | (with_reducible assumption) | (with_reducible exact Below.refl _ _) | ((with_reducible refine Below.alloc ?_ ?hsz _); (case hsz => (first | omega | (simp; done) | (simp; omega) | (simp at *; omega)))) | ((with_reducible refine Below.setCell ?_ ?hsz _); (case hsz => (first | omega | (simp; done) | (simp; omega) | (simp at *; omega)))) | (with_reducible refine Below.drew ?_) | (with_reducible refine below_drewN ?_ _) | ((with_reducible refine Below.trans ?_ (Below.mono (by with_reducible assumption) ?hsz)); (case hsz => (first | omega | (simp; done) | (simp; omega) | (simp at *; omega))))))))).mono ?_
      rintro e w1 ⟨rfl, hb1⟩
      rw [hok]
      have bx1 := bx0.keep hb1
      have hB1 : Below w.heap.size w w1 := by (repeat (first | (with_reducible assumption) | (with_reducible exact Below.refl _ _) | ((with_reducible refine Below.alloc ?_ ?hsz _); (case hsz => (first | omega | (simp; done) | (simp; omega) | (simp at *; omega)))) | ((with_reducible refine Below.setCell ?_ ?hsz _); (case hsz => (first | omega | (simp; done) | (simp; omega) | (simp at *; omega)))) | (with_reducible refine Below.drew ?_) | (with_reducible refine below_drewN ?_ _) | ((with_reducible refine Below.trans ?_ (Below.mono (by with_reducible assumption) ?hsz)); (case hsz => (first | omega | (simp; done) | (simp; omega) | (simp at *; omega))))))
      clear bx0 hb1
      obtain ⟨bs, d0, d1, -, -⟩ := id bx1
      go_wp2_with fail
      refine (lsideB_4 _ _ _ ps b _ (hp0.keep hB1) Hok.out bs d1).mono ?_
      rintro e w2 ⟨rfl, hb2⟩
      have hR : blockR 4 ps = lsideR 16 (blockF ps) := HR.out
      rw [← hR]
      have hB2 := hB1.trans (hb2.mono hB1.size)
      clear HR hR
      go_wp2
      go_ret2
      exact ⟨rfl, hB2⟩
    · go_enter Try.func18, Try.ntmps18
      go_wp2_with fail
      with_reducible refine (netOk_any _ _ ps b _ (hp0.keep (by (repeat (first | (with_reducible assumption) | (with_reducible exact Below.refl _ _) | ((with_reducible refine Below.alloc ?_ ?hsz _); (case hsz => (first | omega | (simp; done) | (simp; omega) | (simp at *; omega)))) | ((with_reducible refine Below.setCell ?_ ?hsz _); (case hsz => (first | omega | (simp; done) | (simp; omega) | (simp at *; omega)))) | (with_reducible refine Below.drew ?_) | (with_reducible refine below_drewN ?_ _) | ((with_reducible refine Below.trans ?_ (Below.mono (by with_reducible assumption) ?hsz)); (case hsz => (first | omega | (simp; done) | (simp; omega) | (simp at *; omega))))))))).mono ?_
      rintro e w1 ⟨rfl, hb1⟩
      rw [hok]
      have bx1 := bx0.keep hb1
      have hB1 : Below w.heap.size w w1 := by (repeat (first | (with_reducible assumption) | (with_reducible exact Below.refl _ _) | ((with_reducible refine Below.alloc ?_ ?hsz _); (case hsz => (first | omega | (simp; done) | (simp; omega) | (simp at *; omega)))) | ((with_reducible refine Below.setCell ?_ ?hsz _); (case hsz => (first | omega | (simp; done) | (simp; omega) | (simp at *; omega)))) | (with_reducible refine Below.drew ?_) | (with_reducible refine below_drewN ?_ _) | ((with_reducible refine Below.trans ?_ (Below.mono (by with_reducible assumption) ?hsz)); (case hsz => (first | omega | (simp; done) | (simp; omega) | (simp at *; omega))))))
      clear bx0 hb1
      obtain ⟨bs, d0, d1, -, -⟩ := id bx1
      go_wp2_with fail
      refine (lsideB_5 _ _ _ ps b _ (hp0.keep hB1) Hok.out bs d1).mono ?_
      rintro e w2 ⟨rfl, hb2⟩
      have hR : blockR 5 ps = lsideR 32 (blockF ps) := HR.out
      rw [← hR]
      have hB2 := hB1.trans (hb2.mono hB1.size)
      clear HR hR
      go_wp2
      go_ret2
      exact ⟨rfl, hB2⟩
  · have hok' : netOkB n ps = false := by simpa using hok
    have Hr := Lib.hid (block_none (blockO_no hok'))
    clear hok
    go_enter Try.func18, Try.ntmps18
    go_wp2_with (first
      | (go_at_call 32; ((with_reducible refine (netOk_any _ _ ps b _ (hp0.keep (by (repeat (first | (with_reducible assumption) | (with_reducible exact Below.refl _ _) | ((with_reducible refine Below.alloc ?_ ?hsz _); (case hsz => (first | omega | (simp; done) | (simp; omega) | (simp at *; omega)))) | ((with_reducible refine Below.setCell ?_ ?hsz _); (case hsz => (first | omega | (simp; done) | (simp; omega) | (simp at *; omega)))) | (with_reducible refine Below.drew ?_) | (with_reducible refine below_drewN ?_ _) | ((with_reducible refine Below.trans ?_ (Below.mono (by with_reducible assumption) ?hsz)); (case hsz => (first | omega | (simp; done) | (simp; omega) | (simp at *; omega))))))))).mono ?_); rintro e w1 ⟨rfl, hb1⟩; obtain ⟨hc1, hf1, hz1⟩ := bcell hb1; (try simp at hz1); (try have hy1 : w.heap.size < w1.heap.size := by omega); (try have hy2 : w.heap.size + 1 < w1.heap.size := by omega); (try have hy3 : w.heap.size + 1 + 1 < w1.heap.size := by omega))))
    go_ret2
    exact ⟨ret_ib (by rw [Hr.out]), by (repeat (first | (with_reducible assumption) | (with_reducible exact Below.refl _ _) | ((with_reducible refine Below.alloc ?_ ?hsz _); (case hsz => (first | omega | (simp; done) | (simp; omega) | (simp at *; omega)))) | ((with_reducible refine Below.setCell ?_ ?hsz _); (case hsz => (first | omega | (simp; done) | (simp; omega) | (simp at *; omega)))) | (with_reducible refine Below.drew ?_) | (with_reducible refine below_drewN ?_ _) | ((with_reducible refine Below.trans ?_ (Below.mono (by with_reducible assumption) ?hsz)); (case hsz => (first | omega | (simp; done) | (simp; omega) | (simp at *; omega))))))⟩

/-- what the operations of a short side's test yield -/
def shV (bn : Nat) (v o : Value) (k : Nat) (S R : Int) (t : Bool) : Nat → Value → Prop
  | 0, x => x = o
  | 1, x => x = .int .i64 k
  | 2, x => x = .int .i64 S
  | 3, x => x = .pointer (some ⟨bn, 1, none⟩)
  | 4, x => x = v
  | 5, x => x = .int .i64 k
  | 6, x => x = .int .i64 (-1 - (k : Int))
  | 7, x => x = .int .i64 R
  | 8, x => x = .bool t
  | 9, x => x = .bool t
  | _, _ => True

end Go.Proofs.Ytphbmlephldaaaa
