/- Contracts of the functions of chapter 9 in the model: DualTerm. -/
import Derived.Test.YtaohjhehlkeckaaB2
import Derived.Test.YtaohjhehlkeckaaAS
namespace Go.Proofs.Ytaohjhehlkeckaa
open Go.RowKit

theorem marks_snoc {w : World} {b : Nat} {v : Value} {ts : List Mk} {m : Mk} {n : Nat} (h : w.ownsRow b 33 3 v (n + 1) (ts.flatMap Mk.cells ++ m.cells)) : w.ownsRow b 33 3 v (n + 1) ((ts ++ [m]).flatMap Mk.cells) := by
  rw [List.flatMap_append]
  simpa using h
theorem map_take_snoc (f : Mk → Mk) (ts : List Mk) (k : Nat) (hk : k < ts.length) : (ts.take (k + 1)).map f = (ts.take k).map f ++ [f ts[k]] := by
  rw [List.take_succ_eq_append_getElem hk]; simp only [List.map_append, List.map_cons, List.map_nil]

set_option maxHeartbeats 8000000 in
set_option maxRecDepth 20000 in
theorem specDual_any (v : Value) (ts : List Mk) (b : Nat) (w : World) (hm : Marks w b v ts) :
    Calls Try.prog 12 #[v] w fun e w' => ∃ r, e = .returned (.tuple #[r, .bool (dualB ts)]) ∧ Marks w' w.heap.size r (dualL ts) ∧ Below w.heap.size w w' := by
  obtain ⟨A, c, rfl, hc1, hc2, hs4, hcell⟩ := hm.form
  unfold maxLen at hc2
  obtain ⟨i0, hi0, hz0, hz1, hz2⟩ := info_parts mark_info
  obtain ⟨l, hl⟩ : ∃ l, ts.length = l := ⟨_, rfl⟩
  have HL := Lib.hid hl
  rw [hl] at hm hc1 hs4 ⊢
  clear hl
  have hown0 : (w.alloc (.cells #[] 33)).ownsRow w.heap.size 33 3 (.slice (some ⟨w.heap.size, 0, none⟩) 0 0) 0 (((ts.take 0).map dualS).flatMap Mk.cells) := lit_own0 (Nat.le_refl _) (heap_alloc_new _ _)
  go_enter Try.func12, Try.ntmps12
  go_wp2_with fail
  go_loopw [5, 4] (fun i t wr => ∃ (k : Nat), k ≤ l ∧ i = .int .i64 k ∧ wr.ownsRow w.heap.size 33 3 t k (((ts.take k).map dualS).flatMap Mk.cells) ∧ Below w.heap.size w wr) (fun i _ _ => l - (intOf i).toNat)
  case atStart => exact ⟨0, by omega, rfl, hown0, by (repeat (first | (with_reducible assumption) | (with_reducible exact Below.refl _ _) | ((with_reducible refine Below.alloc ?_ ?hsz _); (case hsz => (first | omega | (simp; done) | (simp; omega) | (simp at *; omega)))) | ((with_reducible refine Below.setCell ?_ ?hsz _); (case hsz => (first | omega | (simp; done) | (simp; omega) | (simp at *; omega)))) | (with_reducible refine Below.drew ?_) | (with_reducible refine below_drewN ?_ _) | ((with_reducible refine Below.trans ?_ (Below.mono (by with_reducible assumption) ?hsz)); (case hsz => (first | omega | (simp; done) | (simp; omega) | (simp at *; omega))))))⟩
  case round =>
    clear hown0
    obtain ⟨k, hk, rfl, hown, hb⟩ := hrel
    have hzb := hb.size
    obtain ⟨A1, c1, rfl, -, -, -⟩ := own_form hown
    by_cases hlt : k < l
    · have hltp : k < ts.length := by have := HL.out; omega
      obtain ⟨g, rfl, hg1, hg2, d0, d1, d2⟩ := hcell wr hb k hltp
      have hgr : g < wr.heap.size := by omega
      have hsn := map_take_snoc dualS ts k hltp
      have hln : ((ts.take k).map dualS).length = k := by simp; omega
      have HS := Lib.hid (And.intro hsn hln)
      have hrow := fun q hq => (hown.lt q hq).1
      clear hsn hln
      by_cases h1 : ts[k].k = 1
      · have hd : dualS ts[k] = ⟨2, 0, 0⟩ := by simp [dualS, h1]
        have HD := Lib.hid hd
        rw [h1] at d0
        clear hd h1
        go_wp2_with (first
          | (at_builtin
             go_must (refine wpList_append_src rfl _ _ 23 rfl w.heap.size 33 i0 _ 3 24 Try.underlying23 hi0 hz0 hz1 hz2 rfl (by omega) _ _ k 1 _ [.int .i64 2, .int .i64 0, .int .i64 0] rfl rfl (own_keep hown (Nat.le_refl _) (by (repeat (first | (with_reducible assumption) | (with_reducible exact Below.refl _ _) | ((with_reducible refine Below.alloc ?_ ?hsz _); (case hsz => (first | omega | (simp; done) | (simp; omega) | (simp at *; omega)))) | ((with_reducible refine Below.setCell ?_ ?hsz _); (case hsz => (first | omega | (simp; done) | (simp; omega) | (simp at *; omega)))) | (with_reducible refine Below.drew ?_) | (with_reducible refine below_drewN ?_ _) | ((with_reducible refine Below.trans ?_ (Below.mono (by with_reducible assumption) ?hsz)); (case hsz => (first | omega | (simp; done) | (simp; omega) | (simp at *; omega)))))))) (lit_src (heap_alloc_new wr (.cells #[.int .i64 2, .int .i64 0, .int .i64 0] 33)) rfl (by simp [Value.oneCell'])) (by unfold maxLen; omega) (by omega) (by (first | omega | (simp; done) | (simp; omega) | (simp at *; omega))) ?_)
             intro r7 w7 hown7 hgr7 hat7))
        have hb7 : Below w.heap.size w w7 := Below.grown (w := wr.alloc (.cells #[.int .i64 2, .int .i64 0, .int .i64 0] 33)) (by (repeat (first | (with_reducible assumption) | (with_reducible exact Below.refl _ _) | ((with_reducible refine Below.alloc ?_ ?hsz _); (case hsz => (first | omega | (simp; done) | (simp; omega) | (simp at *; omega)))) | ((with_reducible refine Below.setCell ?_ ?hsz _); (case hsz => (first | omega | (simp; done) | (simp; omega) | (simp at *; omega)))) | (with_reducible refine Below.drew ?_) | (with_reducible refine below_drewN ?_ _) | ((with_reducible refine Below.trans ?_ (Below.mono (by with_reducible assumption) ?hsz)); (case hsz => (first | omega | (simp; done) | (simp; omega) | (simp at *; omega))))))) hgr7 (by (first | omega | (simp; done) | (simp; omega) | (simp at *; omega))) hrow
        have hfin : w7.ownsRow w.heap.size 33 3 r7 (k + 1) (((ts.take (k + 1)).map dualS).flatMap Mk.cells) := by
          rw [HS.out.1]
          exact marks_snoc (by rw [HD.out]; exact hown7)
        have HF := Lib.hid hfin
        clear hown7 hgr7 hat7 hfin
        go_wp2_with fail
        go_roundw
        case rel => exact ⟨k + 1, by omega, by go_num, HF.out, hb7⟩
        case measure => simp [intOf]; omega
      · have b1 : (ts[k].k == 1) = false := by simpa using h1
        by_cases h2 : ts[k].k = 2
        · have hd : dualS ts[k] = ⟨1, 0, 0⟩ := by simp [dualS, h2]
          have HD := Lib.hid hd
          rw [h2] at d0
          clear hd h1 b1 h2
          go_wp2_with (first
            | (at_builtin
               go_must (refine wpList_append_src rfl _ _ 23 rfl w.heap.size 33 i0 _ 3 24 Try.underlying23 hi0 hz0 hz1 hz2 rfl (by omega) _ _ k 1 _ [.int .i64 1, .int .i64 0, .int .i64 0] rfl rfl (own_keep hown (Nat.le_refl _) (by (repeat (first | (with_reducible assumption) | (with_reducible exact Below.refl _ _) | ((with_reducible refine Below.alloc ?_ ?hsz _); (case hsz => (first | omega | (simp; done) | (simp; omega) | (simp at *; omega)))) | ((with_reducible refine Below.setCell ?_ ?hsz _); (case hsz => (first | omega | (simp; done) | (simp; omega) | (simp at *; omega)))) | (with_reducible refine Below.drew ?_) | (with_reducible refine below_drewN ?_ _) | ((with_reducible refine Below.trans ?_ (Below.mono (by with_reducible assumption) ?hsz)); (case hsz => (first | omega | (simp; done) | (simp; omega) | (simp at *; omega)))))))) (lit_src (heap_alloc_new wr (.cells #[.int .i64 1, .int .i64 0, .int .i64 0] 33)) rfl (by simp [Value.oneCell'])) (by unfold maxLen; omega) (by omega) (by (first | omega | (simp; done) | (simp; omega) | (simp at *; omega))) ?_)
               intro r7 w7 hown7 hgr7 hat7))
          have hb7 : Below w.heap.size w w7 := Below.grown (w := wr.alloc (.cells #[.int .i64 1, .int .i64 0, .int .i64 0] 33)) (by (repeat (first | (with_reducible assumption) | (with_reducible exact Below.refl _ _) | ((with_reducible refine Below.alloc ?_ ?hsz _); (case hsz => (first | omega | (simp; done) | (simp; omega) | (simp at *; omega)))) | ((with_reducible refine Below.setCell ?_ ?hsz _); (case hsz => (first | omega | (simp; done) | (simp; omega) | (simp at *; omega)))) | (with_reducible refine Below.drew ?_) | (with_reducible refine below_drewN ?_ _) | ((with_reducible refine Below.trans ?_ (Below.mono (by with_reducible assumption) ?hsz)); (case hsz => (first | omega | (simp; done) | (simp; omega) | (simp at *; omega))))))) hgr7 (by (first | omega | (simp; done) | (simp; omega) | (simp at *; omega))) hrow
          have hfin : w7.ownsRow w.heap.size 33 3 r7 (k + 1) (((ts.take (k + 1)).map dualS).flatMap Mk.cells) := by
            rw [HS.out.1]
            exact marks_snoc (by rw [HD.out]; exact hown7)
          have HF := Lib.hid hfin
          clear hown7 hgr7 hat7 hfin
          go_wp2_with fail
          go_roundw
          case rel => exact ⟨k + 1, by omega, by go_num, HF.out, hb7⟩
          case measure => simp [intOf]; omega
        · have b2 : (ts[k].k == 2) = false := by simpa using h2
          have hd : dualS ts[k] = ts[k] := by simp [dualS, h1, h2]
          have HD := Lib.hid hd
          clear hd h1 h2
          generalize hmk : ts[k] = mk at *
          have HM := Lib.hid hmk
          clear hmk
          go_wp2_with (first
            | (at_builtin
               go_must (refine wpList_append_src rfl _ _ 23 rfl w.heap.size 33 i0 _ 3 24 Try.underlying23 hi0 hz0 hz1 hz2 rfl (by omega) _ _ k 1 _ [.int .i64 mk.k, .int .i64 mk.h, .int .i64 mk.p] rfl rfl (own_keep hown (Nat.le_refl _) (by (repeat (first | (with_reducible assumption) | (with_reducible exact Below.refl _ _) | ((with_reducible refine Below.alloc ?_ ?hsz _); (case hsz => (first | omega | (simp; done) | (simp; omega) | (simp at *; omega)))) | ((with_reducible refine Below.setCell ?_ ?hsz _); (case hsz => (first | omega | (simp; done) | (simp; omega) | (simp at *; omega)))) | (with_reducible refine Below.drew ?_) | (with_reducible refine below_drewN ?_ _) | ((with_reducible refine Below.trans ?_ (Below.mono (by with_reducible assumption) ?hsz)); (case hsz => (first | omega | (simp; done) | (simp; omega) | (simp at *; omega)))))))) (lit_src (heap_alloc_new wr (.cells #[.int .i64 mk.k, .int .i64 mk.h, .int .i64 mk.p] 33)) rfl (by simp [Value.oneCell'])) (by unfold maxLen; omega) (by omega) (by (first | omega | (simp; done) | (simp; omega) | (simp at *; omega))) ?_)
               intro r7 w7 hown7 hgr7 hat7))
          have hb7 : Below w.heap.size w w7 := Below.grown (w := wr.alloc (.cells #[.int .i64 mk.k, .int .i64 mk.h, .int .i64 mk.p] 33)) (by (repeat (first | (with_reducible assumption) | (with_reducible exact Below.refl _ _) | ((with_reducible refine Below.alloc ?_ ?hsz _); (case hsz => (first | omega | (simp; done) | (simp; omega) | (simp at *; omega)))) | ((with_reducible refine Below.setCell ?_ ?hsz _); (case hsz => (first | omega | (simp; done) | (simp; omega) | (simp at *; omega)))) | (with_reducible refine Below.drew ?_) | (with_reducible refine below_drewN ?_ _) | ((with_reducible refine Below.trans ?_ (Below.mono (by with_reducible assumption) ?hsz)); (case hsz => (first | omega | (simp; done) | (simp; omega) | (simp at *; omega))))))) hgr7 (by (first | omega | (simp; done) | (simp; omega) | (simp at *; omega))) hrow
          have hfin : w7.ownsRow w.heap.size 33 3 r7 (k + 1) (((ts.take (k + 1)).map dualS).flatMap Mk.cells) := by
            rw [HS.out.1]
            exact marks_snoc (by rw [HD.out]; exact hown7)
          have HF := Lib.hid hfin
          clear hown7 hgr7 hat7 hfin
          go_wp2_with fail
          go_roundw
          case rel => exact ⟨k + 1, by omega, by go_num, HF.out, hb7⟩
          case measure => simp [intOf]; omega
    · have hk2 : k = l := by omega
      subst hk2
      have e1 : ts.take k = ts := List.take_of_length_le (by have := HL.out; omega)
      rw [e1] at hown
      have hP : Marks wr w.heap.size (.slice A1 k c1) (ts.map dualS) := ⟨by rw [List.length_map, HL.out]; exact hown, by rw [List.length_map, HL.out]; unfold small; omega⟩
      have hmr := hm.keep hb
      clear hown e1 hlt
      go_wp2_with fail
      refine (specTermOk_any _ ts b _ hmr).mono ?_
      rintro e w5 ⟨rfl, hb5⟩
      have hB5 : Below w.heap.size w w5 := hb.trans (hb5.mono hzb)
      have hP5 := hP.keep hb5
      clear hP hmr hb
      have hz5 := hB5.size
      cases ht : termB ts
      · have hd : dualB ts = false := by simp [dualB, ht]
        have HD := Lib.hid (And.intro hd (dualL_no hd))
        have hfin : Marks (w5.alloc (.cells #[] 33)) w.heap.size (.slice (some ⟨w5.heap.size, 0, none⟩) 0 0) [] := ⟨lit_own0 hz5 (heap_alloc_new _ _), by simp [small]⟩
        clear hd ht
        go_wp2_with fail
        refine bodyPost_ret (v := .tuple #[.slice (some ⟨w5.heap.size, 0, none⟩) 0 0, .bool false]) (by simp [results, Try.results12, go_sem]) rfl ⟨_, by rw [HD.out.1], by rw [HD.out.2]; exact hfin, by (repeat (first | (with_reducible assumption) | (with_reducible exact Below.refl _ _) | ((with_reducible refine Below.alloc ?_ ?hsz _); (case hsz => (first | omega | (simp; done) | (simp; omega) | (simp at *; omega)))) | ((with_reducible refine Below.setCell ?_ ?hsz _); (case hsz => (first | omega | (simp; done) | (simp; omega) | (simp at *; omega)))) | (with_reducible refine Below.drew ?_) | (with_reducible refine below_drewN ?_ _) | ((with_reducible refine Below.trans ?_ (Below.mono (by with_reducible assumption) ?hsz)); (case hsz => (first | omega | (simp; done) | (simp; omega) | (simp at *; omega))))))⟩
      · have hd : dualB ts = termB (ts.map dualS) := by rw [dual_same ht]; simp [dualB, ht]
        obtain ⟨bd, hbd⟩ : ∃ x, dualB ts = x := ⟨_, rfl⟩
        have HBD := Lib.hid (And.intro hbd hd)
        have HDS := Lib.hid (dual_same ht)
        clear hd hbd ht
        go_wp2_with fail
        refine (specTermOk_any _ _ _ _ hP5).mono ?_
        rintro e w6 ⟨rfl, hb6⟩
        rw [← HBD.out.2, HBD.out.1]
        have hB6 : Below w.heap.size w w6 := hB5.trans (hb6.mono hz5)
        have hP6 := hP5.keep hb6
        have hz6 := hB6.size
        clear hb6 hP5
        cases bd with
        | false =>
          have HD := Lib.hid (dualL_no HBD.out.1)
          have hfin : Marks (w6.alloc (.cells #[] 33)) w.heap.size (.slice (some ⟨w6.heap.size, 0, none⟩) 0 0) [] := ⟨lit_own0 hz6 (heap_alloc_new _ _), by simp [small]⟩
          go_wp2_with fail
          refine bodyPost_ret (v := .tuple #[.slice (some ⟨w6.heap.size, 0, none⟩) 0 0, .bool false]) (by simp [results, Try.results12, go_sem]) rfl ⟨_, by rw [HBD.out.1], by rw [HD.out]; exact hfin, by (repeat (first | (with_reducible assumption) | (with_reducible exact Below.refl _ _) | ((with_reducible refine Below.alloc ?_ ?hsz _); (case hsz => (first | omega | (simp; done) | (simp; omega) | (simp at *; omega)))) | ((with_reducible refine Below.setCell ?_ ?hsz _); (case hsz => (first | omega | (simp; done) | (simp; omega) | (simp at *; omega)))) | (with_reducible refine Below.drew ?_) | (with_reducible refine below_drewN ?_ _) | ((with_reducible refine Below.trans ?_ (Below.mono (by with_reducible assumption) ?hsz)); (case hsz => (first | omega | (simp; done) | (simp; omega) | (simp at *; omega))))))⟩
        | true =>
          have HD := Lib.hid (dualL_yes HBD.out.1)
          go_wp2_with fail
          refine bodyPost_ret (v := .tuple #[.slice A1 k c1, .bool true]) (by simp [results, Try.results12, go_sem]) rfl ⟨_, by rw [HBD.out.1], by rw [HD.out, ← HDS.out]; exact hP6, hB6⟩

end Go.Proofs.Ytaohjhehlkeckaa
